/- The page's model: its goroutine leaves its thread and its processor. -/
import Derived.Test.YtpcogpcpdbhgkaaN10
import Derived.Test.YtpcogpcpdbhgkaaN11
namespace Go.Proofs.Ytpcogpcpdbhgkaa
open Go Go.RowKit
set_option linter.unusedVariables false
set_option linter.unusedSimpArgs false
variable {x gb tb qb pb ib : Nat} {what : Int} {bh : Nat} {on : Bool}

set_option maxHeartbeats 8000000 in
theorem leave_0 (k o wh : Int) (w : World) (h : Ms w x gb tb qb pb ib 2 bh true) : Calls Try.prog 35 #[.pointer (some ⟨x, 0, none⟩), ev k o, .int .i64 wh] w fun e w' => (∃ v, e = .returned v) ∧ Ms w' x gb tb qb pb ib wh bh false ∧ Turns gb tb qb w w' := by
  have BA : Below w.heap.size w (w.alloc (.cells #[.int .i64 k, .int .i64 0, .int .i64 o, .int .i64 0, .int .i64 0] 25)) := (Below.refl _ w).alloc (Nat.le_refl _) _
  have HM := h.below BA
  have x1 := cell_of HM.hx 1
  have x2 := cell_of HM.hx 2
  have x3 := cell_of HM.hx 3
  simp only [List.getElem?_toArray, List.getElem?_cons_succ, List.getElem?_cons_zero] at x1 x2 x3
  have g0 := cell_of HM.hg 0
  simp only [List.getElem?_toArray, List.getElem?_cons_succ, List.getElem?_cons_zero] at g0
  have gf := frozen_of HM.hg 0
  have RA : (w.alloc (.cells #[.int .i64 k, .int .i64 0, .int .i64 o, .int .i64 0, .int .i64 0] 25)).heap[w.heap.size]? = some (.cells #[.int .i64 k, .int .i64 0, .int .i64 o, .int .i64 0, .int .i64 0] 25 (0, 0)) := heap_alloc_new _ _
  have r1 := cell_of RA 1
  have r3 := cell_of RA 3
  have r4 := cell_of RA 4
  simp only [List.getElem?_toArray, List.getElem?_cons_succ, List.getElem?_cons_zero] at r1 r3 r4
  unfold ev
  have HM2 := Lib.hid HM
  have RA2 := Lib.hid RA
  clear h HM RA
  go_enter Try.func35, Try.ntmps35
  go_wp2_with fail
  generalize w.alloc (.cells #[.int .i64 k, .int .i64 0, .int .i64 o, .int .i64 0, .int .i64 0] 25) = W at *
  go_region
  all_goals go_wp2_with fail
  have n1 := HM2.out.n1
  have n2 := HM2.out.n2
  have n3 := HM2.out.n3
  obtain ⟨c1, d1, ht⟩ := HM2.out.ht
  obtain ⟨c2, d2, hq⟩ := HM2.out.hq
  simp only [if_true] at ht hq
  obtain ⟨V, hV⟩ : ∃ V, V = (W.setCell ⟨gb, 0, none⟩ (.int .i64 wh)).drew := ⟨_, rfl⟩
  rw [← hV]
  have VB : ∀ k, k ≠ gb → V.heap[k]? = W.heap[k]? := fun k hk => by rw [hV]; exact Below.heap_setCell W _ _ _ hk
  have Vg : V.heap[gb]? = some (.cells #[.int .i64 wh, .int .i64 0, .int .i64 (bh : Int)] 52 (0, 0)) := by rw [hV]; exact heap_set HM2.out.hg 0 _
  have VL : ∀ lo, lo ≤ gb → Below lo W V := fun lo hl => by rw [hV]; exact ((Below.refl lo W).setCell (p := ⟨gb, 0, none⟩) hl _).drew
  clear hV
  have hrg : w.heap.size ≠ gb := by
    intro e
    have h1 := HM2.out.hg
    rw [← e, RA2.out] at h1
    simp at h1
  have hrt : w.heap.size ≠ tb := by
    intro e
    rw [← e, RA2.out] at ht
    simp at ht
  have hrq : w.heap.size ≠ qb := by
    intro e
    rw [← e, RA2.out] at hq
    simp at hq
  have RV : Reads V.drew x gb tb qb w.heap.size := by
    have e : ∀ (c j : Nat), c ≠ gb → V.drew.cell? ⟨c, j, none⟩ = W.cell? ⟨c, j, none⟩ := fun c j hc => by
      show V.cell? _ = _
      simp only [World.cell?, VB c hc]
    exact ⟨(e _ _ n1.1).trans x2, (e _ _ n1.1).trans x3, (e _ _ hrg).trans r1, (e _ _ hrg).trans r3, (e _ _ hrg).trans r4⟩
  have t0 : V.drew.heap[tb]? = some (.map #[one d1] c1) := (VB tb (by omega)).trans ht
  have q0 : V.drew.heap[qb]? = some (.map #[one d2] c2) := (VB qb (by omega)).trans hq
  have he1 := fun ty => delete_o tb c1 d1 V.drew t0 ty
  have t1 := setB_eq V.drew tb (.map #[] c1) (block_lt t0)
  have q1 := (setB_ne V.drew tb qb (.map #[] c1) (by omega)).trans q0
  have R1 := RV.setB tb (.map #[] c1) (by omega) hrt
  have N1 : ∀ k, k ≠ tb → (setB V.drew tb (.map #[] c1)).heap[k]? = V.heap[k]? := fun k hk => setB_ne V.drew tb k _ hk
  have L1 : ∀ lo, lo ≤ tb → Below lo V (setB V.drew tb (.map #[] c1)) := fun lo hl => ((Below.refl lo V).drew).trans (setB_below lo _ _ _ hl)
  generalize setB V.drew tb (.map #[] c1) = Y1 at *
  have R1d : Reads Y1.drew x gb tb qb w.heap.size := ⟨R1.x2, R1.x3, R1.r1, R1.r3, R1.r4⟩
  have he2 := fun ty => delete_o qb c2 d2 Y1.drew q1 ty
  have q2 := setB_eq Y1.drew qb (.map #[] c2) (block_lt q1)
  have t2 := (setB_ne Y1.drew qb tb (.map #[] c2) (by omega)).trans t1
  have N2 : ∀ k, k ≠ qb → (setB Y1.drew qb (.map #[] c2)).heap[k]? = Y1.heap[k]? := fun k hk => setB_ne Y1.drew qb k _ hk
  have L2 : ∀ lo, lo ≤ qb → Below lo Y1 (setB Y1.drew qb (.map #[] c2)) := fun lo hl => ((Below.refl lo Y1).drew).trans (setB_below lo _ _ _ hl)
  generalize setB Y1.drew qb (.map #[] c2) = Y2 at *
  have NN : ∀ k, k ≠ gb → k ≠ tb → k ≠ qb → Y2.heap[k]? = W.heap[k]? := fun k h1 h2 h3 => (N2 k h3).trans ((N1 k h2).trans (VB k h1))
  have FIN : Hid (Ms Y2 x gb tb qb pb ib wh bh false ∧ Turns gb tb qb w Y2) := by
    obtain ⟨⟨ic, hic, hp⟩, cu, hi, hcu⟩ := HM2.out.hp
    refine ⟨⟨(NN x (by omega) (by omega) (by omega)).trans HM2.out.hx, (N2 gb (by omega)).trans ((N1 gb (by omega)).trans Vg), ⟨⟨ic, hic, (NN pb (by omega) (by omega) (by omega)).trans hp⟩, cu, (NN ib (by omega) (by omega) (by omega)).trans hi, hcu⟩, ⟨c1, 0, by simpa using t2⟩, ⟨c2, 0, by simpa using q2⟩, n1, n2, n3⟩, ?_⟩
    exact ⟨(BA.mono (Nat.zero_le _)).trans ((VL 0 (Nat.zero_le _)).trans ((L1 0 (Nat.zero_le _)).trans (L2 0 (Nat.zero_le _)))), fun k h1 h2 h3 h4 => (NN k h1 h2 h3).trans (BA.block k h4)⟩
  obtain ⟨a0, a1, a2, a3, a4⟩ := RV
  obtain ⟨b0, b1, b2, b3, b4⟩ := R1d
  clear x1 x2 x3 g0 gf r1 r3 r4 HM2 RA2 n1 n2 n3 VB Vg VL N1 N2 L1 L2 NN t0 t1 t2 q0 q1 q2 ht hq hrg hrt hrq R1
  go_region
  all_goals go_wp2_with fail
  go_region
  all_goals go_wp2_with fail
  all_goals (go_end0; exact ⟨⟨_, rfl⟩, FIN.out⟩)
end Go.Proofs.Ytpcogpcpdbhgkaa
