/- Arenas: a step, and the page's example. -/
import Derived.Test.YtlnjjcfkcoaceaaGoro3
namespace Go.Proofs.Ytlnjjcfkcoaceaa
open Go Go.RowKit
set_option linter.unusedVariables false
set_option maxRecDepth 100000
set_option linter.unusedSimpArgs false

theorem ent141 (args : Array Value) (w : World) : (callFunc 141 args).run Try.prog w = .ok (.enter 141 args) w := by kernel_rfl
theorem ent142 (args : Array Value) (w : World) : (callFunc 142 args).run Try.prog w = .ok (.enter 142 args) w := by kernel_rfl
theorem ent143 (args : Array Value) (w : World) : (callFunc 143 args).run Try.prog w = .ok (.enter 143 args) w := by kernel_rfl

theorem gnext_any (k : Int) (w : World) : Calls Try.prog 103 #[.int .i64 k] w fun e w' => e = .returned (.func (.func (if k = 0 then 141 else if k = 1 then 142 else 143)) #[] #[]) ∧ w = w' := by
  by_cases h0 : k = 0
  · subst h0
    go_enter Try.func103, Try.ntmps103
    go_wp2_with fail
    go_ret
    exact ⟨rfl, rfl⟩
  · rw [if_neg h0]
    have d0 : decide (k = 0) = false := decide_eq_false h0
    have e0 : (k == 0) = false := by simp [h0]
    by_cases h1 : k = 1
    · subst h1
      go_enter Try.func103, Try.ntmps103
      go_wp2_with fail
      go_ret
      exact ⟨rfl, rfl⟩
    · rw [if_neg h1]
      have d1 : decide (k = 1) = false := decide_eq_false h1
      have e1 : (k == 1) = false := by simp [h1]
      clear h0 h1
      go_enter Try.func103, Try.ntmps103
      go_wp2_with fail
      go_ret
      exact ⟨rfl, rfl⟩

theorem gstep_nil (w : World) (j : Int) : Calls Try.prog 44 #[.pointer none, .int .i64 j] w fun e w' => e = .returned (.agg #[.int .i64 0, .int .i64 0]) ∧ Below w.heap.size w w' := by
  have hb0 : Below w.heap.size w (w.alloc (.cells #[.int .i64 0, .int .i64 0] 90)) := (Below.refl _ _).alloc (Nat.le_refl _) _
  have hX : Blk (w.alloc (.cells #[.int .i64 0, .int .i64 0] 90)) w.heap.size #[.int .i64 0, .int .i64 0] 90 := Blk.new _ _ _
  have hN := gnow_nil (w.alloc (.cells #[.int .i64 0, .int .i64 0] 90)) j
  go_enter Try.func44, Try.ntmps44
  go_wp2_with fail
  generalize w.alloc (.cells #[.int .i64 0, .int .i64 0] 90) = W at *
  go_at_call 43; refine hN.mono ?_; rintro e w1 ⟨rfl, h1⟩
  have hX1 := hX.but (But.of_below (l := []) h1) (by simp)
  have hb1 : Below w.heap.size w w1 := hb0.trans (h1.mono hb0.size)
  have hY : Blk (w1.alloc (.cells #[.int .i64 0, .int .i64 0] 90)) w1.heap.size #[.int .i64 0, .int .i64 0] 90 := Blk.new _ _ _
  have hX2 : Blk (w1.alloc (.cells #[.int .i64 0, .int .i64 0] 90)) w.heap.size #[.int .i64 0, .int .i64 0] 90 := hX1.keep (heap_al _ hX1.lt _)
  have hb2 : Below w.heap.size w (w1.alloc (.cells #[.int .i64 0, .int .i64 0] 90)) := hb1.alloc hb1.size _
  have hne : w1.heap.size ≠ w.heap.size := by have := hX1.lt; omega
  have hB := gbegun_nil (w1.alloc (.cells #[.int .i64 0, .int .i64 0] 90)) j
  clear hN h1 hX hX1 hb1 hb0
  go_wp2_with fail
  generalize w1.alloc (.cells #[.int .i64 0, .int .i64 0] 90) = W2 at *
  go_at_call 100; refine hB.mono ?_; rintro e w3 ⟨rfl, rfl⟩
  have y0 := hY.cell 0 (v := .int .i64 0) rfl
  have y1 := hY.cell 1 (v := .int .i64 0) rfl
  have x0 := hX2.cell 0 (v := .int .i64 0) rfl
  have x1 := hX2.cell 1 (v := .int .i64 0) rfl
  have f0 := hX2.fro 0
  have f1 := hX2.fro 1
  have hB9 := (hX2.set 0 (.int .i64 0)).set 1 (.int .i64 0)
  have hb9 := (hb2.setCell (p := ⟨w.heap.size, 0, none⟩) (Nat.le_refl _) (.int .i64 0)).setCell (p := ⟨w.heap.size, 1, none⟩) (Nat.le_refl _) (.int .i64 0)
  have HB9 : Hid _ := hB9
  have Hb9 : Hid _ := hb9
  clear hB hB9 hb9 hX2 hY
  go_wp2_with fail
  exact bodyPost_ret (v := .agg #[.int .i64 0, .int .i64 0]) (results_cell_row rfl _ _ w.heap.size 90 #[.int .i64 0, .int .i64 0] (0, 0) _ rfl HB9.out.heap Try.underlying90 rfl (by kernel_rfl)) rfl ⟨rfl, Hb9.out⟩

set_option maxHeartbeats 1000000 in
theorem gstep_on (w : World) (x g c n : Nat) (P : Nat → Pl) (h : Ar w x g c n P) (j : Nat) (hj : j < n) (hn : n ≤ 65536) (hb : (P j).b ≠ 0) (k a : Int) (hA : ∀ Y, Below w.heap.size w Y → Calls Try.prog 102 #[.pointer (some ⟨c, 0, none⟩), .int .i64 (P j).p, .int .i64 (P j).a] Y fun e w' => e = .returned (.agg #[.int .i64 k, .int .i64 a]) ∧ Below Y.heap.size Y w')
    (hk : k = 1 → 1 ≤ a ∧ a ≤ 65536) (hq : (0 ≤ (P j).a ∧ (P j).a ≤ 1000000) ∧ 0 ≤ (P j).l ∧ (P j).l ≤ 65536) :
    Calls Try.prog 44 #[.pointer (some ⟨x, 0, none⟩), .int .i64 j] w fun e w' => e = .returned (.agg #[.int .i64 k, .int .i64 a]) ∧ Ar w' x g c n (upP P j (plNext (P j) k a)) ∧ But [g] w w' := by
  have hb0 : Below w.heap.size w (w.alloc (.cells #[.int .i64 0, .int .i64 0] 90)) := (Below.refl _ _).alloc (Nat.le_refl _) _
  have hX : Blk (w.alloc (.cells #[.int .i64 0, .int .i64 0] 90)) w.heap.size #[.int .i64 0, .int .i64 0] 90 := Blk.new _ _ _
  have hN := gnow_on (w.alloc (.cells #[.int .i64 0, .int .i64 0] 90)) x g c n P (h.below hb0) j hj hn hb k a (fun Y hY => hA Y (hb0.trans (hY.mono hb0.size)))
  have HQ : Hid ((k = 0 → P = upP P j (plNext (P j) k a)) ∧ (k = 1 → plComp (P j) a = plNext (P j) k a) ∧ (k ≠ 0 → k ≠ 1 → plPass (P j) = plNext (P j) k a)) := ⟨fun h => by unfold plNext; rw [if_pos h, upP_same], fun h => by unfold plNext; rw [if_neg (by omega), if_pos h], fun h h1 => by unfold plNext; rw [if_neg h, if_neg h1]⟩
  generalize plNext (P j) k a = q9 at *
  have hglt := h.glt
  have hxlt := h.main.lt
  have HB0 : Hid (Below w.heap.size w (w.alloc (.cells #[.int .i64 0, .int .i64 0] 90))) := hb0
  have HAr : Hid (Ar w x g c n P) := h
  clear hA h hb0
  go_enter Try.func44, Try.ntmps44
  go_wp2_with fail
  generalize w.alloc (.cells #[.int .i64 0, .int .i64 0] 90) = W at *
  go_at_call 43; refine hN.mono ?_; rintro e w1 ⟨rfl, h1⟩
  have hX1 := hX.but (But.of_below (l := []) h1) (by simp)
  have hb1 : Below w.heap.size w w1 := HB0.out.trans (h1.mono HB0.out.size)
  have hY : Blk (w1.alloc (.cells #[.int .i64 k, .int .i64 a] 90)) w1.heap.size #[.int .i64 k, .int .i64 a] 90 := Blk.new _ _ _
  have hX2 : Blk (w1.alloc (.cells #[.int .i64 k, .int .i64 a] 90)) w.heap.size #[.int .i64 0, .int .i64 0] 90 := hX1.keep (heap_al _ hX1.lt _)
  have hb2 : Below w.heap.size w (w1.alloc (.cells #[.int .i64 k, .int .i64 a] 90)) := hb1.alloc hb1.size _
  have hne : w1.heap.size ≠ w.heap.size := by have := hX1.lt; omega
  have hgx : g ≠ w.heap.size := by omega
  have hxx : x ≠ w.heap.size := by have := hxlt; omega
  have hgy : g ≠ w1.heap.size := by have := hX1.lt; omega
  have h2 : Ar (w1.alloc (.cells #[.int .i64 k, .int .i64 a] 90)) x g c n P := HAr.out.below hb2
  have hB := gbegun_some (w1.alloc (.cells #[.int .i64 k, .int .i64 a] 90)) x g c n P h2 j hj hn
  rw [if_neg hb] at hB
  have hNx := gnext_any k (w1.alloc (.cells #[.int .i64 k, .int .i64 a] 90))
  have y0 := hY.cell 0 (v := .int .i64 k) rfl
  have y1 := hY.cell 1 (v := .int .i64 a) rfl
  clear hN h1 hX hX1 hb1 HB0 HAr hglt hb
  go_wp2_with fail
  generalize w1.alloc (.cells #[.int .i64 k, .int .i64 a] 90) = W2 at *
  go_at_call 100; refine hB.mono ?_; rintro e w3 ⟨rfl, rfl⟩
  go_wp2_with fail
  go_at_call 103; refine hNx.mono ?_; rintro e w3 ⟨rfl, rfl⟩
  clear hB hNx
  have HFIN : Hid (∀ w5 P5, Ar w5 x g c n P5 → But [g] W2 w5 → Blk w5 w.heap.size #[.int .i64 0, .int .i64 0] 90 ∧ Blk w5 w1.heap.size #[.int .i64 k, .int .i64 a] 90 ∧ But [g] w w5) := fun w5 P5 h5 hB5 => ⟨hX2.but hB5 (by simp; omega), hY.but hB5 (by simp; omega), (But.of_below (l := [g]) hb2).trans hB5⟩
  clear hX2 hY hb2
  by_cases k0 : k = 0
  · subst k0
    rw [if_pos rfl]
    have hG := gstay_any W2 g j 0 a
    have h141 := ent141
    go_wp2_with fail
    go_at_call 141; refine hG.mono ?_; rintro e w5 ⟨⟨v5, rfl⟩, hb5⟩
    have h5 := h2.below hb5
    rw [HQ.out.1 (by first | rfl | trivial)] at h5
    have hB5 : But [g] W2 w5 := But.of_below hb5
    obtain ⟨q1, q2, q3⟩ := HFIN.out w5 _ h5 hB5
    have y0' := q2.cell 0 (v := .int .i64 0) rfl
    have y1' := q2.cell 1 (v := .int .i64 a) rfl
    have x0 := q1.cell 0 (v := .int .i64 0) rfl
    have x1 := q1.cell 1 (v := .int .i64 0) rfl
    have f0 := q1.fro 0
    have f1 := q1.fro 1
    have HB9 : Hid (Blk _ _ _ _) := (q1.set 0 (.int .i64 0)).set 1 (.int .i64 a)
    have HA9 : Hid (Ar ((w5.setCell ⟨w.heap.size, 0, none⟩ (.int .i64 0)).setCell ⟨w.heap.size, 1, none⟩ (.int .i64 a)) x g c n _ ∧ But [g] w ((w5.setCell ⟨w.heap.size, 0, none⟩ (.int .i64 0)).setCell ⟨w.heap.size, 1, none⟩ (.int .i64 a))) := ⟨h5.but (((But.refl [w.heap.size] w5).set (g := w.heap.size) (.inl (by simp)) 0 _).set (g := w.heap.size) (.inl (by simp)) 1 _) (by simp; exact hxx) (by simp; exact hgx), (q3.set (g := w.heap.size) (.inr (Nat.le_refl _)) 0 _).set (g := w.heap.size) (.inr (Nat.le_refl _)) 1 _⟩
    clear h5 hB5 q1 q2 q3 HFIN y0 y1
    go_wp2_with fail
    exact bodyPost_ret (v := .agg #[.int .i64 0, .int .i64 a]) (results_cell_row rfl _ _ w.heap.size 90 #[.int .i64 0, .int .i64 a] (0, 0) _ rfl HB9.out.heap Try.underlying90 rfl (by kernel_rfl)) rfl ⟨rfl, HA9.out⟩
  · rw [if_neg k0]
    by_cases k1 : k = 1
    · subst k1
      rw [if_pos rfl]
      have hG := gcomp_any W2 x g c n P h2 j hj 1 a (hk rfl) hq
      have h142 := ent142
      go_wp2_with fail
      go_at_call 142; refine hG.mono ?_; rintro e w5 ⟨⟨v5, rfl⟩, h5, hB5⟩
      rw [HQ.out.2.1 (by first | rfl | trivial)] at h5
      obtain ⟨q1, q2, q3⟩ := HFIN.out w5 _ h5 hB5
      have y0' := q2.cell 0 (v := .int .i64 1) rfl
      have y1' := q2.cell 1 (v := .int .i64 a) rfl
      have x0 := q1.cell 0 (v := .int .i64 0) rfl
      have x1 := q1.cell 1 (v := .int .i64 0) rfl
      have f0 := q1.fro 0
      have f1 := q1.fro 1
      have HB9 : Hid (Blk _ _ _ _) := (q1.set 0 (.int .i64 1)).set 1 (.int .i64 a)
      have HA9 : Hid (Ar ((w5.setCell ⟨w.heap.size, 0, none⟩ (.int .i64 1)).setCell ⟨w.heap.size, 1, none⟩ (.int .i64 a)) x g c n _ ∧ But [g] w ((w5.setCell ⟨w.heap.size, 0, none⟩ (.int .i64 1)).setCell ⟨w.heap.size, 1, none⟩ (.int .i64 a))) := ⟨h5.but (((But.refl [w.heap.size] w5).set (g := w.heap.size) (.inl (by simp)) 0 _).set (g := w.heap.size) (.inl (by simp)) 1 _) (by simp; exact hxx) (by simp; exact hgx), (q3.set (g := w.heap.size) (.inr (Nat.le_refl _)) 0 _).set (g := w.heap.size) (.inr (Nat.le_refl _)) 1 _⟩
      clear h5 hB5 q1 q2 q3 HFIN y0 y1
      go_wp2_with fail
      exact bodyPost_ret (v := .agg #[.int .i64 1, .int .i64 a]) (results_cell_row rfl _ _ w.heap.size 90 #[.int .i64 1, .int .i64 a] (0, 0) _ rfl HB9.out.heap Try.underlying90 rfl (by kernel_rfl)) rfl ⟨rfl, HA9.out⟩
    · rw [if_neg k1]
      have hG := gpass_any W2 x g c n P h2 j hj k a hq.1
      have h143 := ent143
      go_wp2_with fail
      go_at_call 143; refine hG.mono ?_; rintro e w5 ⟨⟨v5, rfl⟩, h5, hB5⟩
      rw [HQ.out.2.2 k0 k1] at h5
      obtain ⟨q1, q2, q3⟩ := HFIN.out w5 _ h5 hB5
      have y0' := q2.cell 0 (v := .int .i64 k) rfl
      have y1' := q2.cell 1 (v := .int .i64 a) rfl
      have x0 := q1.cell 0 (v := .int .i64 0) rfl
      have x1 := q1.cell 1 (v := .int .i64 0) rfl
      have f0 := q1.fro 0
      have f1 := q1.fro 1
      have HB9 : Hid (Blk _ _ _ _) := (q1.set 0 (.int .i64 k)).set 1 (.int .i64 a)
      have HA9 : Hid (Ar ((w5.setCell ⟨w.heap.size, 0, none⟩ (.int .i64 k)).setCell ⟨w.heap.size, 1, none⟩ (.int .i64 a)) x g c n _ ∧ But [g] w ((w5.setCell ⟨w.heap.size, 0, none⟩ (.int .i64 k)).setCell ⟨w.heap.size, 1, none⟩ (.int .i64 a))) := ⟨h5.but (((But.refl [w.heap.size] w5).set (g := w.heap.size) (.inl (by simp)) 0 _).set (g := w.heap.size) (.inl (by simp)) 1 _) (by simp; exact hxx) (by simp; exact hgx), (q3.set (g := w.heap.size) (.inr (Nat.le_refl _)) 0 _).set (g := w.heap.size) (.inr (Nat.le_refl _)) 1 _⟩
      clear h5 hB5 q1 q2 q3 HFIN y0 y1
      go_wp2_with fail
      exact bodyPost_ret (v := .agg #[.int .i64 k, .int .i64 a]) (results_cell_row rfl _ _ w.heap.size 90 #[.int .i64 k, .int .i64 a] (0, 0) _ rfl HB9.out.heap Try.underlying90 rfl (by kernel_rfl)) rfl ⟨rfl, HA9.out⟩

end Go.Proofs.Ytlnjjcfkcoaceaa
