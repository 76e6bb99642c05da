/- The contract of the document's At. -/
import Derived.Test.YtmkmpphfieckoaaRef1
import Derived.Test.YtmkmpphfieckoaaMeth
namespace Go.Proofs.Ytmkmpphfieckoaa
open Go Go.RowKit
set_option linter.unusedVariables false
set_option linter.unusedSimpArgs false

/-- The document's programs in memory, their row at block g. -/
structure Outs (w : World) (g : Nat) (f : Nat → Int) (m : Int) (L : List (Nat × Nat)) : Prop where
  lt : g < w.heap.size
  at' : ∀ (p : Nat) (x : Nat × Nat), L[p]? = some x → ∃ (A1 : Option Addr) (c1 : Nat), w.cell? ⟨g, p, none⟩ = some (Value.slice A1 x.2 c1) ∧ SeesI w 0 w.heap.size A1 x.2 (fun j => f (x.1 + j)) m
theorem Outs.below {w w' : World} {g : Nat} {f : Nat → Int} {m : Int} {L : List (Nat × Nat)} (h : Outs w g f m L) (hb : Below w.heap.size w w') : Outs w' g f m L :=
  ⟨Nat.lt_of_lt_of_le h.lt hb.size, fun p x hx => by
    obtain ⟨A1, c1, q1, q2⟩ := h.at' p x hx
    exact ⟨A1, c1, (hb.cell (p := ⟨g, p, none⟩) h.lt).trans q1, (q2.below hb (Nat.le_refl _)).more (Nat.le_refl _) hb.size⟩⟩
theorem outs_row {w w1 : World} {v : Value} {f : Nat → Int} {m : Int} {L : List (Nat × Nat)} {xs : List Value} (hO : Own w w1 57 1 v L.length xs) (hP : PiecesI w1 f m L xs) (hK : 1 ≤ L.length) :
    ∃ g c, v = .slice (some ⟨g, 0, none⟩) L.length c ∧ Outs w1 g f m L := by
  obtain ⟨h1, h2⟩ := hO.own
  rcases h2 with ⟨rfl, h0⟩ | ⟨g, cap, cur, rfl, hg, hh, hnc, hcm, hcs, htk⟩
  · omega
  · refine ⟨g, cap, rfl, block_lt hh, fun p x hx => ?_⟩
    obtain ⟨A1, c1, q1, q2⟩ := hP.at' p x hx
    have hp : p < L.length := (List.getElem?_eq_some_iff.1 hx).1
    refine ⟨A1, c1, ?_, q2.seesI⟩
    rw [← htk, List.getElem?_take_of_lt (by omega)] at q1
    simp only [World.cell?, hh]
    simpa using q1

theorem refAt_no (A : Option Addr) (K cap : Nat) (p i : Int) (w : World) (hp : p < 0 ∨ (K : Int) ≤ p) : Calls Try.prog 39 #[.slice A K cap, .int .i64 p, .int .i64 i] w fun e w' => e = .returned (.agg #[.int .i64 0, .int .i64 0]) ∧ Below w.heap.size w w' := by
  by_cases h : p < 0
  · go_enter Try.func39, Try.ntmps39
    go_wp2_with fail
    go_returns
    exact ⟨rfl, (Below.refl _ _).alloc (Nat.le_refl _) _⟩
  · have h2 : (K : Int) ≤ p := by omega
    go_enter Try.func39, Try.ntmps39
    go_wp2_with fail
    go_returns
    exact ⟨rfl, (Below.refl _ _).alloc (Nat.le_refl _) _⟩
theorem refAt_low (A : Option Addr) (K cap p : Nat) (i : Int) (w : World) (hp : p < K) (hi : i < 0) : Calls Try.prog 39 #[.slice A K cap, .int .i64 p, .int .i64 i] w fun e w' => e = .returned (.agg #[.int .i64 0, .int .i64 0]) ∧ Below w.heap.size w w' := by
  go_enter Try.func39, Try.ntmps39
  go_wp2_with fail
  go_returns
  exact ⟨rfl, (Below.refl _ _).alloc (Nat.le_refl _) _⟩
theorem refAt_far (g K cap p : Nat) (A1 : Option Addr) (l c1 : Nat) (i : Int) (w : World) (hg : g < w.heap.size) (hp : p < K) (hc : w.cell? ⟨g, p, none⟩ = some (.slice A1 l c1)) (hi : 0 ≤ i ∧ (l : Int) ≤ i) : Calls Try.prog 39 #[.slice (some ⟨g, 0, none⟩) K cap, .int .i64 p, .int .i64 i] w fun e w' => e = .returned (.agg #[.int .i64 0, .int .i64 0]) ∧ Below w.heap.size w w' := by
  obtain ⟨hi1, hi2⟩ := hi
  go_enter Try.func39, Try.ntmps39
  go_wp2_with fail
  go_returns
  exact ⟨rfl, (Below.refl _ _).alloc (Nat.le_refl _) _⟩
theorem refAt_ok (g K cap p b off : Nat) (l c1 i : Nat) (k a : Int) (w : World) (hg : g < w.heap.size) (hb : b < w.heap.size) (hp : p < K) (hc : w.cell? ⟨g, p, none⟩ = some (.slice (some ⟨b, off, none⟩) l c1)) (hi : i < l) (e1 : w.cell? ⟨b, off + i * 2, none⟩ = some (.int .i64 k)) (e2 : w.cell? ⟨b, off + i * 2 + 1, none⟩ = some (.int .i64 a)) : Calls Try.prog 39 #[.slice (some ⟨g, 0, none⟩) K cap, .int .i64 p, .int .i64 i] w fun e w' => e = .returned (.agg #[.int .i64 k, .int .i64 a]) ∧ Below w.heap.size w w' := by
  go_enter Try.func39, Try.ntmps39
  go_wp2_with fail
  go_returns
  exact ⟨rfl, (Below.refl _ _).alloc (Nat.le_refl _) _⟩
theorem refAt_any (g cap : Nat) (f : Nat → Int) (m : Int) (L : List (Nat × Nat)) (p i : Int) (w : World) (h : Outs w g f m L) : Calls Try.prog 39 #[.slice (some ⟨g, 0, none⟩) L.length cap, .int .i64 p, .int .i64 i] w fun e w' => e = .returned (.agg #[.int .i64 (lookK f L p i), .int .i64 (lookA f L m p i)]) ∧ Below w.heap.size w w' := by
  by_cases hp : p < 0 ∨ (L.length : Int) ≤ p
  · have e1 : look L p i = none := look_no (by omega)
    have e2 : lookK f L p i = 0 := by unfold lookK; rw [e1]
    have e3 : lookA f L m p i = 0 := by unfold lookA; rw [e1]
    rw [e2, e3]
    exact refAt_no _ _ cap p i w hp
  · obtain ⟨q, rfl⟩ : ∃ q : Nat, p = (q : Int) := ⟨p.toNat, by omega⟩
    have hx : L[q]? = some (L[q]'(by omega)) := List.getElem?_eq_getElem (by omega)
    generalize L[q]'(by omega) = x at hx
    obtain ⟨A1, c1, q1, q2⟩ := h.at' q x hx
    by_cases hi : i < 0 ∨ (x.2 : Int) ≤ i
    · have e1 : look L q i = none := look_far hx hi
      have e2 : lookK f L q i = 0 := by unfold lookK; rw [e1]
      have e3 : lookA f L m q i = 0 := by unfold lookA; rw [e1]
      rw [e2, e3]
      by_cases h0 : i < 0
      · exact refAt_low _ _ cap q i w (by omega) h0
      · exact refAt_far g _ cap q A1 x.2 c1 i w h.lt (by omega) q1 (by omega)
    · obtain ⟨j, rfl⟩ : ∃ j : Nat, i = (j : Int) := ⟨i.toNat, by omega⟩
      have e1 : look L q j = some (x.1 + j) := look_ok hx (by omega)
      have e2 : lookK f L q j = kd (f (x.1 + j)) := by unfold lookK; rw [e1]
      have e3 : lookA f L m q j = ag (f (x.1 + j)) m := by unfold lookA; rw [e1]
      rw [e2, e3]
      obtain ⟨b, off, rfl, _, hb, hc⟩ := q2 (by omega)
      obtain ⟨z1, z2⟩ := hc j (by omega)
      exact refAt_ok g _ cap q b off x.2 c1 j _ _ w h.lt hb (by omega) q1 (by omega) z1 z2
end Go.Proofs.Ytmkmpphfieckoaa
