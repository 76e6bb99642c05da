/- The walk of the law LayoutAll. -/
import Derived.Test.YtmkmpphfieckoaaAll2
import Derived.Test.YtmkmpphfieckoaaAll3
import Derived.Test.YtmkmpphfieckoaaMay
namespace Go.Proofs.Ytmkmpphfieckoaa
open Go Go.RowKit
set_option linter.unusedVariables false
set_option linter.unusedSimpArgs false

theorem few_any (P T G : Int) (w : World) : Calls Try.prog 17 #[.agg #[.int .i64 P, .int .i64 T, .int .i64 G]] w fun e w' => e = .returned (.bool (decide (May P T G ∧ P ≤ 4 ∧ T ≤ 8 ∧ G ≤ 60))) ∧ Below w.heap.size w w' := by
  have hb : Below w.heap.size w (w.alloc (.cells #[.int .i64 P, .int .i64 T, .int .i64 G] 23)) := (Below.refl _ _).alloc (Nat.le_refl _) _
  have hh := heap_alloc_new w (.cells #[.int .i64 P, .int .i64 T, .int .i64 G] 23)
  have hR := refRight_any P T G (w.alloc (.cells #[.int .i64 P, .int .i64 T, .int .i64 G] 23))
  by_cases hm : May P T G
  · rw [decide_eq_true hm] at hR
    obtain ⟨hp⟩ := id hm
    by_cases hf : P ≤ 4 ∧ T ≤ 8 ∧ G ≤ 60
    · rw [decide_eq_true ⟨hm, hf⟩]
      obtain ⟨f1, f2, f3⟩ := hf
      go_enter Try.func17, Try.ntmps17
      go_wp2_with fail
      go_at_call 11; refine hR.mono ?_; clear hR; rintro e w1 ⟨rfl, h1⟩
      have hh' := (h1.block w.heap.size (by simp)).trans hh
      have c0 : w1.cell? ⟨w.heap.size, 0, none⟩ = some (.int .i64 P) := by simp [World.cell?, hh']
      have c1 : w1.cell? ⟨w.heap.size, 1, none⟩ = some (.int .i64 T) := by simp [World.cell?, hh']
      have c2 : w1.cell? ⟨w.heap.size, 2, none⟩ = some (.int .i64 G) := by simp [World.cell?, hh']
      have hb1 := hb.trans (h1.mono hb.size)
      clear hh hh'
      go_wp2_with fail
      go_ret
      exact ⟨ret_bool (by simp [*]), hb1⟩
    · rw [decide_eq_false (fun h => hf h.2)]
      go_enter Try.func17, Try.ntmps17
      go_wp2_with fail
      go_at_call 11; refine hR.mono ?_; clear hR; rintro e w1 ⟨rfl, h1⟩
      have hh' := (h1.block w.heap.size (by simp)).trans hh
      have c0 : w1.cell? ⟨w.heap.size, 0, none⟩ = some (.int .i64 P) := by simp [World.cell?, hh']
      have c1 : w1.cell? ⟨w.heap.size, 1, none⟩ = some (.int .i64 T) := by simp [World.cell?, hh']
      have c2 : w1.cell? ⟨w.heap.size, 2, none⟩ = some (.int .i64 G) := by simp [World.cell?, hh']
      have hb1 := hb.trans (h1.mono hb.size)
      clear hh hh'
      go_wp2_with fail
      all_goals
        go_ret
        refine ⟨ret_bool ?_, hb1⟩
        first | rfl | (simp; omega)
  · rw [decide_eq_false hm] at hR
    rw [decide_eq_false (fun h => hm h.1)]
    go_enter Try.func17, Try.ntmps17
    go_wp2_with fail
    go_at_call 11; refine hR.mono ?_; clear hR; rintro e w1 ⟨rfl, h1⟩
    have hb1 := hb.trans (h1.mono hb.size)
    clear hh
    go_wp2_with fail
    go_ret
    exact ⟨ret_bool rfl, hb1⟩

theorem layoutAll_no (P T G : Int) (w : World) (h : ¬ (May P T G ∧ P ≤ 4 ∧ T ≤ 8 ∧ G ≤ 60)) : Calls Try.prog 4 #[.agg #[.int .i64 P, .int .i64 T, .int .i64 G]] w fun e w' => e = .returned (.bool true) ∧ Below w.heap.size w w' := by
  have hb : Below w.heap.size w (w.alloc (.cells #[.int .i64 P, .int .i64 T, .int .i64 G] 23)) := (Below.refl _ _).alloc (Nat.le_refl _) _
  have hF := few_any P T G (w.alloc (.cells #[.int .i64 P, .int .i64 T, .int .i64 G] 23))
  rw [decide_eq_false h] at hF
  go_enter Try.func4, Try.ntmps4
  go_wp2_with fail
  go_at_call 17; refine hF.mono ?_; clear hF; rintro e w1 ⟨rfl, h1⟩
  go_wp2_with fail
  go_at_call 12; refine (awakeL_any _).mono ?_; rintro e w2 ⟨rfl, h2⟩
  have hb2 := hb.trans ((seq h1 h2).mono hb.size)
  go_wp2_with fail
  go_ret
  exact ⟨rfl, hb2⟩

/-- The names of words, in memory. -/
structure Named (w : World) (b : Nat) (P T : Int) (n : Nat) : Prop where
  lt : b < w.heap.size
  at' : ∀ j, j < n → w.cell? ⟨b, j * 3, none⟩ = some (.int .i64 (nA P T j)) ∧ w.cell? ⟨b, j * 3 + 1, none⟩ = some (.int .i64 (nN P T j)) ∧ w.cell? ⟨b, j * 3 + 2, none⟩ = some (.int .i64 (nF P T j))
theorem Named.below {w w' : World} {b n : Nat} {P T : Int} (h : Named w b P T n) (hb : Below w.heap.size w w') : Named w' b P T n :=
  ⟨Nat.lt_of_lt_of_le h.lt hb.size, fun j hj => by
    obtain ⟨h1, h2, h3⟩ := h.at' j hj
    exact ⟨(hb.cell (p := ⟨b, _, none⟩) h.lt).trans h1, (hb.cell (p := ⟨b, _, none⟩) h.lt).trans h2, (hb.cell (p := ⟨b, _, none⟩) h.lt).trans h3⟩⟩
theorem Own.named {w w' : World} {v : Value} {n : Nat} {P T : Int} (h : Own w w' 39 3 v n (nmC P T n)) (hn : 0 < n) : ∃ b c, v = .slice (some ⟨b, 0, none⟩) n c ∧ Named w' b P T n := by
  obtain ⟨h1, h2⟩ := h.own
  rcases h2 with ⟨rfl, rfl⟩ | ⟨g, cap, cur, rfl, hg, hh, hnc, hcm, hcs, htk⟩
  · omega
  · refine ⟨g, cap, rfl, block_lt hh, fun j hj => ?_⟩
    have hcell : ∀ i u, i < n * 3 → (nmC P T n)[i]? = some u → w'.cell? ⟨g, i, none⟩ = some u := by
      intro i u hi hu
      rw [← htk, List.getElem?_take_of_lt hi] at hu
      simp only [World.cell?, hh]
      simpa using hu
    obtain ⟨q1, q2, q3⟩ := nmC_at P T n j hj
    exact ⟨hcell _ _ (by omega) q1, hcell _ _ (by omega) q2, hcell _ _ (by omega) q3⟩

set_option maxHeartbeats 4000000 in
set_option maxRecDepth 100000 in
theorem layoutAll_yes (p t g : Nat) (w : World) (h : May (p : Nat) (t : Nat) (g : Nat)) (hp4 : p ≤ 4) (ht8 : t ≤ 8) (hg60 : g ≤ 60) : Calls Try.prog 4 #[.agg #[.int .i64 p, .int .i64 t, .int .i64 g]] w fun e w' => e = .returned (.bool true) ∧ Below w.heap.size w w' := by
  have hb : Below w.heap.size w (w.alloc (.cells #[.int .i64 p, .int .i64 t, .int .i64 g] 23)) := (Below.refl _ _).alloc (Nat.le_refl _) _
  have hh := heap_alloc_new w (.cells #[.int .i64 p, .int .i64 t, .int .i64 g] 23)
  have HC : Hid (∀ X, Below (w.alloc (.cells #[.int .i64 p, .int .i64 t, .int .i64 g] 23)).heap.size (w.alloc (.cells #[.int .i64 p, .int .i64 t, .int .i64 g] 23)) X → X.cell? ⟨w.heap.size, 0, none⟩ = some (.int .i64 p) ∧ X.cell? ⟨w.heap.size, 1, none⟩ = some (.int .i64 t) ∧ X.cell? ⟨w.heap.size, 2, none⟩ = some (.int .i64 g)) := fun X hX => by
    have hh' := (hX.block w.heap.size (by simp)).trans hh
    refine ⟨?_, ?_, ?_⟩ <;> simp [World.cell?, hh']
  have hF := few_any p t g (w.alloc (.cells #[.int .i64 p, .int .i64 t, .int .i64 g] 23))
  rw [decide_eq_true ⟨h, by omega, by omega, by omega⟩] at hF
  have HM : Hid (May (p : Nat) (t : Nat) (g : Nat)) := h
  clear hh h
  go_enter Try.func4, Try.ntmps4
  go_wp2_with fail
  generalize hW : w.alloc (.cells #[.int .i64 p, .int .i64 t, .int .i64 g] 23) = W0 at hb HC hF ⊢
  clear hW
  go_at_call 17; refine hF.mono ?_; clear hF; rintro e w1 ⟨rfl, h1⟩
  obtain ⟨c0, c1, c2⟩ := HC.out _ h1
  go_wp2_with fail
  go_at_call 10; refine (of_ok p t g _ HM.out).mono ?_; rintro e w2 ⟨c, rfl, hL, hc, h2⟩
  have h2 := seq h1 h2
  have HL : Hid (Lay w2 c p t g) := hL
  clear c0 c1 c2 hL
  obtain ⟨c0, c1, c2⟩ := HC.out _ h2
  go_wp2_with fail
  obtain ⟨n, hn⟩ : ∃ n, n = 20 + p * 264 + t * 3 + g * 2 := ⟨_, rfl⟩
  have hNm := names_any p t g w2 (by omega) (by omega) (by omega)
  rw [← hn] at hNm
  have HE : Hid (n = 20 + p * 264 + t * 3 + g * 2) := hn
  have hn1 : 20 ≤ n := by omega
  have hn2 : n ≤ 2000 := by have := HM.out.h; omega
  go_at_call 18; refine hNm.mono ?_; clear hNm; rintro e w3 ⟨v, rfl, hO⟩
  obtain ⟨b, cp, rfl, hN⟩ := hO.named (by omega)
  have hL3 : Lay w3 c p t g := Lay.below HL.out hO.below (Lay.lt HL.out)
  have h3 := h2.trans (hO.below.mono h2.size)
  clear c0 c1 c2 HL h1 h2 hO
  have eL : (20 : Int) + (p : Nat) * 264 + (t : Nat) * 3 + (g : Nat) * 2 = ((20 + p * 264 + t * 3 + g * 2 : Nat) : Int) := by omega
  have hlen := len_some c p t g w3 hL3 HM.out
  rw [eL] at hlen
  rw [← hn] at hlen
  clear eL hn
  go_wp2_with fail
  go_at_call 14; refine hlen.mono ?_; clear hlen; rintro e w4 ⟨rfl, h4⟩
  have HL4 : Hid (∀ X, Below w4.heap.size w4 X → Lay X c p t g) := fun X hX => (hL3.below h4 hL3.lt).below hX (hL3.below h4 hL3.lt).lt
  have HN4 : Hid (∀ X, Below w4.heap.size w4 X → Named X b p t n) := fun X hX => (hN.below h4).below hX
  have h4 := hb.trans ((h3.trans (h4.mono h3.size)).mono hb.size)
  clear hL3 hN h3 hb HC
  go_wp2_with fail
  go_loopw [6] (fun x wr => ∃ i : Nat, i ≤ n ∧ x = .int .i64 i ∧ Hid (Below w4.heap.size w4 wr)) (fun x _ => n - (intOf x).toNat)
  case atStart => exact ⟨0, Nat.zero_le _, rfl, Below.refl _ _⟩
  case round =>
    obtain ⟨i, hi, rfl, hB⟩ := hrel
    by_cases hlt : i < n
    · go_wp2_with fail
      go_at_call 19; refine (whichN c p t g i _ (HL4.out _ hB.out) HM.out (by have := HE.out; omega)).mono ?_; rintro e z1 ⟨rfl, k1⟩
      have hB1 := hB.out.trans (k1.mono hB.out.size)
      obtain ⟨a0, a1, a2⟩ := (HN4.out _ hB1).at' i hlt
      go_wp2_with fail
      go_at_call 20; refine (atN c p t g i _ (HL4.out _ hB1) HM.out (by have := HE.out; omega)).mono ?_; rintro e z2 ⟨rfl, k2⟩
      have hB2 := hB1.trans (k2.mono hB1.size)
      clear a0 a1 a2
      obtain ⟨a0, a1, a2⟩ := (HN4.out _ hB2).at' i hlt
      go_wp2_with fail
      go_roundw
      case rel => exact ⟨i + 1, by omega, by go_num, hB2⟩
      case measure => simp [intOf]; omega
    · obtain rfl : n = i := by omega
      go_wp2_with fail
      go_at_call 19; refine (which_high c p t g n _ (HL4.out _ hB.out) HM.out ⟨by omega, by have := HE.out; omega⟩).mono ?_; rintro e z1 ⟨rfl, k1⟩
      have hB1 := hB.out.trans (k1.mono hB.out.size)
      go_wp2_with fail
      go_at_call 19; refine (which_low c p t g (-1) _ (by omega)).mono ?_; rintro e z2 ⟨rfl, k2⟩
      have hB2 := hB1.trans (k2.mono hB1.size)
      go_wp2_with fail
      go_at_call 12; refine (awakeL_any _).mono ?_; rintro e z3 ⟨rfl, k3⟩
      have hB3 := hB2.trans (k3.mono hB2.size)
      go_wp2_with fail
      go_ret
      exact ⟨rfl, h4.trans (hB3.mono h4.size)⟩

theorem layoutAll_walk (P T G : Int) (w : World) : Calls Try.prog 4 #[.agg #[.int .i64 P, .int .i64 T, .int .i64 G]] w fun e w' => e = .returned (.bool true) ∧ Below w.heap.size w w' := by
  by_cases h : May P T G ∧ P ≤ 4 ∧ T ≤ 8 ∧ G ≤ 60
  · obtain ⟨hm, h1, h2, h3⟩ := h
    obtain ⟨hp⟩ := id hm
    obtain ⟨p, rfl⟩ : ∃ p : Nat, P = (p : Int) := ⟨P.toNat, by omega⟩
    obtain ⟨t, rfl⟩ : ∃ t : Nat, T = (t : Int) := ⟨T.toNat, by omega⟩
    obtain ⟨g, rfl⟩ : ∃ g : Nat, G = (g : Int) := ⟨G.toNat, by omega⟩
    exact layoutAll_yes p t g w hm (by omega) (by omega) (by omega)
  · exact layoutAll_no P T G w h
end Go.Proofs.Ytmkmpphfieckoaa
