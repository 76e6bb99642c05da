/- The contract of draw.New: a cursor of a copy. -/
import Derived.Test.YtlpfleefbngdaaaDraw2
namespace Go.Proofs.Ytlpfleefbngdaaa
open Go Go.RowKit
set_option linter.unusedVariables false
set_option linter.unusedSimpArgs false

/-- A slice of n words, seen in memory below block B: the i-th is f i. -/
def SeesU (w : World) (B : Nat) (A : Option Addr) (n : Nat) (f : Nat → Int) : Prop :=
  0 < n → ∃ b off : Nat, A = some ⟨b, off, none⟩ ∧ b < B ∧ ∀ i, i < n → w.cell? ⟨b, off + i, none⟩ = some (.int .u64 (f i))
theorem SeesU.below {w w' : World} {B B' n : Nat} {A : Option Addr} {f : Nat → Int} (h : SeesU w B A n f) (hb : Below B' w w') (hB : B ≤ B') : SeesU w' B A n f := fun hn => by
  obtain ⟨b, off, e, h1, h2⟩ := h hn
  exact ⟨b, off, e, h1, fun i hi => (hb.cell (p := ⟨b, off + i, none⟩) (Nat.lt_of_lt_of_le h1 hB)).trans (h2 i hi)⟩
theorem SeesU.more {w : World} {B B' n : Nat} {A : Option Addr} {f : Nat → Int} (h : SeesU w B A n f) (hB : B ≤ B') : SeesU w B' A n f := fun hn => by
  obtain ⟨b, off, e, h1, h2⟩ := h hn
  exact ⟨b, off, e, Nat.lt_of_lt_of_le h1 hB, h2⟩

theorem info35 : (Try.prog.info? 35).map (fun i => (i.zero, i.size, i.bytes)) = some (some (.int .u64 0), 1, 8) := by kernel_rfl

/-- The words as cells. -/
def wordCells (f : Nat → Int) (n : Nat) : List Value := (List.range n).map fun i => .int .u64 (f i)
theorem wordCells_at (f : Nat → Int) (n i : Nat) (h : i < n) : (wordCells f n)[i]? = some (.int .u64 (f i)) := by
  unfold wordCells; simp [h]
theorem wordCells_one (f : Nat → Int) (n : Nat) : ∀ u ∈ wordCells f n, u.oneCell' = true := by
  intro u hu
  unfold wordCells at hu
  simp at hu
  obtain ⟨i, _, rfl⟩ := hu
  rfl
theorem clone_nil (w : World) : Calls Try.prog 16 #[.slice none 0 0] w fun e w' => e = .returned (.slice none 0 0) ∧ w = w' := by
  have hq := fun (w : World) => Lib.run_eql_slice_nil (P := Try.prog) w 22 35 none 0 0 0 0 Try.underlying22
  go_enter Try.func16, Try.ntmps16
  go_wp2_with fail
  go_ret
  exact ⟨rfl, rfl⟩

theorem sees_cells (w : World) (a : Addr) (n : Nat) (f : Nat → Int) (hs : SeesU w w.heap.size (some a) n f) : ∀ j u, (wordCells f n)[j]? = some u → (w.alloc (.cells #[] 35)).cell? (a.add j) = some u := by
  intro j u hj
  have hjn : j < n := by
    have := (List.getElem?_eq_some_iff.1 hj).1
    simpa [wordCells] using this
  rw [wordCells_at f n j hjn] at hj
  obtain ⟨b, off, e, hb, hc⟩ := hs (by omega)
  cases e
  have h1 := hc j hjn
  have h2 : (w.alloc (.cells #[] 35)).cell? ⟨b, off + j, none⟩ = w.cell? ⟨b, off + j, none⟩ := World.cell?_alloc_lt w _ _ hb
  have h3 : (⟨b, off, none⟩ : Addr).add j = ⟨b, off + j, none⟩ := by by_cases h0 : j = 0 <;> simp [Addr.add, h0]
  rw [h3, h2, h1]
  exact hj

theorem clone_some (a : Addr) (n cap : Nat) (f : Nat → Int) (w : World) (hn : n ≤ 1000000) (hs : SeesU w w.heap.size (some a) n f) :
    Calls Try.prog 16 #[.slice (some a) n cap] w fun e w' => ∃ v, e = .returned v ∧ w'.ownsRow w.heap.size 35 1 v n (wordCells f n) ∧ Below w.heap.size w w' := by
  obtain ⟨i0, hi, hz0, hz1, hz2⟩ := info_parts info35
  have HN : Hid (∀ j u, (wordCells f n)[j]? = some u → (w.alloc (.cells #[] 35)).cell? (a.add j) = some u) := sees_cells w a n f hs
  have HO : Hid (∀ u ∈ wordCells f n, u.oneCell' = true) := wordCells_one f n
  have HL : Hid ((wordCells f n).length = n * 1) := by show _ = _; simp [wordCells]
  have hq := fun (w : World) => Lib.run_eql_slice_nil (P := Try.prog) w 22 35 (some a) n cap 0 0 Try.underlying22
  have hown0 : Hid ((w.alloc (.cells #[] 35)).ownsRow w.heap.size 35 1 (.slice (some ⟨w.heap.size, 0, none⟩) 0 0) 0 []) := World.ownsRow_lit w #[] 0 (Nat.le_refl _) (Nat.zero_le _) rfl
  clear hs
  go_enter Try.func16, Try.ntmps16
  go_wp2_with (at_builtin; refine wpList_append_own _ rfl _ _ 22 rfl w.heap.size 35 i0 (.int .u64 0) 1 8 Try.underlying22 hi hz0 hz1 hz2 rfl (by decide) _ 0 [] rfl hown0.out a n cap (wordCells f n) rfl HL.out HN.out HO.out (by unfold maxLen; omega) (by omega) (by simp) ?_; intro v' w1 hown1 hgrow1 _)
  have hb : Below w.heap.size w w1 := ((Below.refl _ _).alloc (Nat.le_refl _) _).grown hgrow1 (by simp) (fun k hk => by cases hk; exact Nat.le_refl _)
  go_ret
  refine ⟨v', rfl, ?_, hb⟩
  simpa using hown1

/-- What New makes of an owned row. -/
theorem boxed (w w1 : World) (v : Value) (n : Nat) (f : Nat → Int) (hn : n ≤ 1000000) (hown : w1.ownsRow w.heap.size 35 1 v n (wordCells f n)) (hb : Below w.heap.size w w1) :
    Curs (w1.alloc (.cells #[v, .int .i64 0] 44)) w.heap.size w1.heap.size f n 0 := by
  have hnew : (w1.alloc (.cells #[v, .int .i64 0] 44)).heap[w1.heap.size]? = some (.cells #[v, .int .i64 0] 44 (0, 0)) := heap_alloc_new w1 _
  rcases hown.2 with ⟨rfl, rfl⟩ | ⟨g, cap, cur, rfl, hg, hh, hnc, hcm, hcs, htk⟩
  · exact ⟨none, 0, hnew, Nat.le_refl _, Nat.zero_le _, fun h => absurd h (by simp)⟩
  · refine ⟨some ⟨g, 0, none⟩, cap, hnew, by omega, hcm, fun hpos => ⟨g, 0, rfl, hg, block_lt hh, fun i hi => ?_⟩⟩
    have hi' : i < n := by omega
    have hc := hown.cellAt i (by omega)
    rw [wordCells_at f n i hi'] at hc
    have hlt := block_lt hh
    have he : (⟨g, 0 + i, none⟩ : Addr) = ⟨g, i, none⟩ := by rw [Nat.zero_add]
    have hf : f (0 + i) = f i := by rw [Nat.zero_add]
    rw [he, hf, World.cell?_alloc_lt w1 _ _ hlt]
    exact hc

theorem new_any (A : Option Addr) (n cap : Nat) (f : Nat → Int) (w : World) (hn : n ≤ 1000000) (hnil : A = none → n = 0 ∧ cap = 0) (hs : SeesU w w.heap.size A n f) :
    Calls Try.prog 7 #[.slice A n cap] w fun e w' => ∃ c, e = .returned (.pointer (some ⟨c, 0, none⟩)) ∧ Curs w' w.heap.size c f n 0 ∧ Below w.heap.size w w' ∧ w.heap.size ≤ c := by
  have hq : Hid (Calls Try.prog 16 #[.slice A n cap] w fun e w' => ∃ v, e = .returned v ∧ w'.ownsRow w.heap.size 35 1 v n (wordCells f n) ∧ Below w.heap.size w w') := by
    rcases A with _ | a
    · obtain ⟨rfl, rfl⟩ := hnil rfl
      refine (clone_nil w).mono ?_
      rintro e w' ⟨rfl, rfl⟩
      exact ⟨_, rfl, World.ownsRow_nil _ _ _ _, Below.refl _ _⟩
    · exact clone_some a n cap f w hn hs
  clear hs hnil
  go_enter Try.func7, Try.ntmps7
  go_wp2_with fail
  go_at_call 16; refine hq.out.mono ?_; rintro e w1 ⟨v, rfl, hown, hb⟩
  have hC := boxed w w1 v n f hn hown hb
  have hB := hb.alloc hb.size (.cells #[v, .int .i64 0] 44)
  have hs := hb.size
  have hv : ∃ a m cp, v = .slice a m cp := by
    rcases hown.2 with ⟨rfl, _⟩ | ⟨g, cp, cur, rfl, _⟩
    · exact ⟨_, _, _, rfl⟩
    · exact ⟨_, _, _, rfl⟩
  clear hown hb
  obtain ⟨a, m, cp, rfl⟩ := hv
  go_wp2_with fail
  go_ret
  exact ⟨w1.heap.size, rfl, hC, hB, hs⟩

end Go.Proofs.Ytlpfleefbngdaaa
