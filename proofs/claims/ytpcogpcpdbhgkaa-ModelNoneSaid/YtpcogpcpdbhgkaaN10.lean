/- The page's model: what the page's events do to it. -/
import Derived.Test.YtpcogpcpdbhgkaaN9
namespace Go.Proofs.Ytpcogpcpdbhgkaa
open Go Go.RowKit
set_option linter.unusedVariables false
set_option linter.unusedSimpArgs false
variable {x gb tb qb pb ib : Nat} {what : Int} {bh : Nat} {on : Bool}

theorem setB_ne (w : World) (b k : Nat) (o : Obj) (hne : k ≠ b) : (setB w b o).heap[k]? = w.heap[k]? := by
  show (w.heap.setIfInBounds b o)[k]? = _
  rw [Array.getElem?_setIfInBounds_ne (by omega)]
theorem setB_eq (w : World) (b : Nat) (o : Obj) (hlt : b < w.heap.size) : (setB w b o).heap[b]? = some o := by
  show (w.heap.setIfInBounds b o)[b]? = _
  simp [hlt]
theorem setB_below (lo : Nat) (w : World) (b : Nat) (o : Obj) (h : lo ≤ b) : Below lo w (setB w b o) :=
  ⟨rfl, rfl, rfl, by show w.heap.size ≤ (w.heap.setIfInBounds b o).size; simp, fun k hk => setB_ne w b k o (by omega)⟩
/-- what a step of the page's model turns: its goroutine's row, its two maps -/
def Turns (gb tb qb : Nat) (w w' : World) : Prop := Below 0 w w' ∧ ∀ k, k ≠ gb → k ≠ tb → k ≠ qb → k < w.heap.size → w'.heap[k]? = w.heap[k]?
/-- the cells that a start reads -/
structure Reads (Y : World) (x gb tb qb r : Nat) : Prop where
  x2 : Y.cell? ⟨x, 2, none⟩ = some (.map (some tb))
  x3 : Y.cell? ⟨x, 3, none⟩ = some (.map (some qb))
  r1 : Y.cell? ⟨r, 1, none⟩ = some (.int .i64 0)
  r3 : Y.cell? ⟨r, 3, none⟩ = some (.int .i64 0)
  r4 : Y.cell? ⟨r, 4, none⟩ = some (.int .i64 0)
theorem Reads.setB {Y : World} {x gb tb qb r : Nat} (h : Reads Y x gb tb qb r) (b : Nat) (o : Obj) (hx : x ≠ b) (hr : r ≠ b) : Reads (setB Y b o) x gb tb qb r := by
  have e : ∀ (c j : Nat), c ≠ b → (Ytpcogpcpdbhgkaa.setB Y b o).cell? ⟨c, j, none⟩ = Y.cell? ⟨c, j, none⟩ := fun c j hc => by
    simp only [World.cell?, setB_ne Y b c o hc]
  exact ⟨(e x 2 hx).trans h.x2, (e x 3 hx).trans h.x3, (e r 1 hr).trans h.r1, (e r 3 hr).trans h.r3, (e r 4 hr).trans h.r4⟩

set_option maxHeartbeats 8000000 in
theorem run_0 (k o : Int) (w : World) (h : Ms w x gb tb qb pb ib 1 bh false) : Calls Try.prog 33 #[.pointer (some ⟨x, 0, none⟩), ev k o] w fun e w' => (∃ v, e = .returned v) ∧ Ms w' x gb tb qb pb ib 2 bh true ∧ Turns gb tb qb w w' := by
  have BA : Below w.heap.size w (w.alloc (.cells #[.int .i64 k, .int .i64 0, .int .i64 o, .int .i64 0, .int .i64 0] 25)) := (Below.refl _ w).alloc (Nat.le_refl _) _
  have HM := h.below BA
  have x1 := cell_of HM.hx 1
  have x2 := cell_of HM.hx 2
  have x3 := cell_of HM.hx 3
  simp only [List.getElem?_toArray, List.getElem?_cons_succ, List.getElem?_cons_zero] at x1 x2 x3
  have g0 := cell_of HM.hg 0
  simp only [List.getElem?_toArray, List.getElem?_cons_succ, List.getElem?_cons_zero] at g0
  have gf := frozen_of HM.hg 0
  have RA : (w.alloc (.cells #[.int .i64 k, .int .i64 0, .int .i64 o, .int .i64 0, .int .i64 0] 25)).heap[w.heap.size]? = some (.cells #[.int .i64 k, .int .i64 0, .int .i64 o, .int .i64 0, .int .i64 0] 25 (0, 0)) := heap_alloc_new _ _
  have r1 := cell_of RA 1
  have r3 := cell_of RA 3
  have r4 := cell_of RA 4
  simp only [List.getElem?_toArray, List.getElem?_cons_succ, List.getElem?_cons_zero] at r1 r3 r4
  unfold ev
  have HM2 := Lib.hid HM
  have RA2 := Lib.hid RA
  clear h HM RA
  go_enter Try.func33, Try.ntmps33
  go_wp2_with fail
  generalize w.alloc (.cells #[.int .i64 k, .int .i64 0, .int .i64 o, .int .i64 0, .int .i64 0] 25) = W at *
  go_region
  all_goals go_wp2_with fail
  have n1 := HM2.out.n1
  have n2 := HM2.out.n2
  have n3 := HM2.out.n3
  have hrl := block_lt RA2.out
  have hgx := block_lt HM2.out.hg
  obtain ⟨c1, _, ht⟩ := HM2.out.ht
  obtain ⟨c2, _, hq⟩ := HM2.out.hq
  simp only [Bool.false_eq_true, if_false] at ht hq
  obtain ⟨V, hV⟩ : ∃ V, V = (W.setCell ⟨gb, 0, none⟩ (.int .i64 2)).drew := ⟨_, rfl⟩
  rw [← hV]
  have VB : ∀ k, k ≠ gb → V.heap[k]? = W.heap[k]? := fun k hk => by rw [hV]; exact Below.heap_setCell W _ _ _ hk
  have Vg : V.heap[gb]? = some (.cells #[.int .i64 2, .int .i64 0, .int .i64 (bh : Int)] 52 (0, 0)) := by rw [hV]; exact heap_set HM2.out.hg 0 _
  have VL : ∀ lo, lo ≤ gb → Below lo W V := fun lo hl => by rw [hV]; exact ((Below.refl lo W).setCell (p := ⟨gb, 0, none⟩) hl _).drew
  clear hV
  have hrg : w.heap.size ≠ gb := by
    intro e
    have h1 := HM2.out.hg
    rw [← e, RA2.out] at h1
    simp at h1
  have hrt : w.heap.size ≠ tb := by
    intro e
    rw [← e, RA2.out] at ht
    simp at ht
  have hrq : w.heap.size ≠ qb := by
    intro e
    rw [← e, RA2.out] at hq
    simp at hq
  have RV : Reads V.drew x gb tb qb w.heap.size := by
    have e : ∀ (c j : Nat), c ≠ gb → V.drew.cell? ⟨c, j, none⟩ = W.cell? ⟨c, j, none⟩ := fun c j hc => by
      show V.cell? _ = _
      simp only [World.cell?, VB c hc]
    exact ⟨(e _ _ n1.1).trans x2, (e _ _ n1.1).trans x3, (e _ _ hrg).trans r1, (e _ _ hrg).trans r3, (e _ _ hrg).trans r4⟩
  have t0 : V.drew.heap[tb]? = some (.map #[] c1) := (VB tb (by omega)).trans ht
  have q0 : V.drew.heap[qb]? = some (.map #[] c2) := (VB qb (by omega)).trans hq
  have he1 := entry_e tb c1 V.drew t0
  have t1 := setB_eq V.drew tb (.map #[one c1] (c1 + 1)) (block_lt t0)
  have q1 := (setB_ne V.drew tb qb (.map #[one c1] (c1 + 1)) (by omega)).trans q0
  have R1 := RV.setB tb (.map #[one c1] (c1 + 1)) (by omega) hrt
  have N1 : ∀ k, k ≠ tb → (setB V.drew tb (.map #[one c1] (c1 + 1))).heap[k]? = V.heap[k]? := fun k hk => setB_ne V.drew tb k _ hk
  have L1 : ∀ lo, lo ≤ tb → Below lo V (setB V.drew tb (.map #[one c1] (c1 + 1))) := fun lo hl => ((Below.refl lo V).drew).trans (setB_below lo _ _ _ hl)
  generalize setB V.drew tb (.map #[one c1] (c1 + 1)) = Y1 at *
  have he2 := store_o tb (c1 + 1) c1 Y1 t1
  have t2 := setB_eq Y1 tb (.map #[one c1] (c1 + 1)) (block_lt t1)
  have q2 := (setB_ne Y1 tb qb (.map #[one c1] (c1 + 1)) (by omega)).trans q1
  have R2 := R1.setB tb (.map #[one c1] (c1 + 1)) (by omega) hrt
  have N2 : ∀ k, k ≠ tb → (setB Y1 tb (.map #[one c1] (c1 + 1))).heap[k]? = Y1.heap[k]? := fun k hk => setB_ne Y1 tb k _ hk
  have L2 : ∀ lo, lo ≤ tb → Below lo Y1 (setB Y1 tb (.map #[one c1] (c1 + 1))) := fun lo hl => setB_below lo _ _ _ hl
  generalize setB Y1 tb (.map #[one c1] (c1 + 1)) = Y2 at *
  have he3 := entry_e qb c2 Y2 q2
  have q3 := setB_eq Y2 qb (.map #[one c2] (c2 + 1)) (block_lt q2)
  have t3 := (setB_ne Y2 qb tb (.map #[one c2] (c2 + 1)) (by omega)).trans t2
  have R3 := R2.setB qb (.map #[one c2] (c2 + 1)) (by omega) hrq
  have N3 : ∀ k, k ≠ qb → (setB Y2 qb (.map #[one c2] (c2 + 1))).heap[k]? = Y2.heap[k]? := fun k hk => setB_ne Y2 qb k _ hk
  have L3 : ∀ lo, lo ≤ qb → Below lo Y2 (setB Y2 qb (.map #[one c2] (c2 + 1))) := fun lo hl => setB_below lo _ _ _ hl
  generalize setB Y2 qb (.map #[one c2] (c2 + 1)) = Y3 at *
  have he4 := store_o qb (c2 + 1) c2 Y3 q3
  have q4 := setB_eq Y3 qb (.map #[one c2] (c2 + 1)) (block_lt q3)
  have t4 := (setB_ne Y3 qb tb (.map #[one c2] (c2 + 1)) (by omega)).trans t3
  have N4 : ∀ k, k ≠ qb → (setB Y3 qb (.map #[one c2] (c2 + 1))).heap[k]? = Y3.heap[k]? := fun k hk => setB_ne Y3 qb k _ hk
  have L4 : ∀ lo, lo ≤ qb → Below lo Y3 (setB Y3 qb (.map #[one c2] (c2 + 1))) := fun lo hl => setB_below lo _ _ _ hl
  generalize setB Y3 qb (.map #[one c2] (c2 + 1)) = Y4 at *
  have NN : ∀ k, k ≠ gb → k ≠ tb → k ≠ qb → Y4.heap[k]? = W.heap[k]? := fun k h1 h2 h3 => (N4 k h3).trans ((N3 k h3).trans ((N2 k h2).trans ((N1 k h2).trans (VB k h1))))
  have FIN : Hid (Ms Y4 x gb tb qb pb ib 2 bh true ∧ Turns gb tb qb w Y4) := by
    obtain ⟨⟨ic, hic, hp⟩, cu, hi, hcu⟩ := HM2.out.hp
    refine ⟨⟨(NN x (by omega) (by omega) (by omega)).trans HM2.out.hx, (N4 gb (by omega)).trans ((N3 gb (by omega)).trans ((N2 gb (by omega)).trans ((N1 gb (by omega)).trans Vg))), ⟨⟨ic, hic, (NN pb (by omega) (by omega) (by omega)).trans hp⟩, cu, (NN ib (by omega) (by omega) (by omega)).trans hi, hcu⟩, ⟨_, _, t4⟩, ⟨_, _, q4⟩, n1, n2, n3⟩, ?_⟩
    exact ⟨(BA.mono (Nat.zero_le _)).trans ((VL 0 (Nat.zero_le _)).trans ((L1 0 (Nat.zero_le _)).trans ((L2 0 (Nat.zero_le _)).trans ((L3 0 (Nat.zero_le _)).trans (L4 0 (Nat.zero_le _)))))), fun k h1 h2 h3 h4 => (NN k h1 h2 h3).trans (BA.block k h4)⟩
  obtain ⟨a0, a1, a2, a3, a4⟩ := RV
  obtain ⟨b0, b1, b2, b3, b4⟩ := R1
  obtain ⟨d0, d1, d2, d3, d4⟩ := R2
  obtain ⟨f0, f1, f2, f3, f4⟩ := R3
  clear x1 x2 x3 g0 gf r1 r3 r4 HM2 RA2 n1 n2 n3 VB Vg VL N1 N2 N3 N4 L1 L2 L3 L4 NN t0 t1 t2 t3 t4 q0 q1 q2 q3 q4 ht hq hrg hrt hrq hrl hgx
  go_region
  all_goals go_wp2_with fail
  all_goals (go_end0; exact ⟨⟨_, rfl⟩, FIN.out⟩)
end Go.Proofs.Ytpcogpcpdbhgkaa
