/- The law ReportLines. -/
import Derived.Test.YtalilnnjpemmlaaDoorG2
import Derived.Test.YtalilnnjpemmlaaDoorE4
import Derived.Test.YtalilnnjpemmlaaDoorF1
namespace Go.Proofs.YtalilnnjpemmlaaDoor
open Go Go.RowKit
set_option linter.unusedVariables false
set_option linter.unusedSimpArgs false

theorem sees_one (w : World) (e : Ev) : Sees (w.alloc (.cells e.cells 25)) w.heap.size (some ⟨w.heap.size, 0, none⟩) [e] := fun _ => by
  refine ⟨0, rfl, fun j c hj hc => ?_⟩
  obtain rfl : j = 0 := by simp at hj; omega
  rw [cell_blk (heap_alloc_new _ _)]
  obtain rfl | rfl | rfl | rfl | rfl : c = 0 ∨ c = 1 ∨ c = 2 ∨ c = 3 ∨ c = 4 := by omega
  all_goals rfl
theorem BoxE.lo {b : Nat} {e : Ev} {w x : World} (h : BoxE b e w x) : Below w.heap.size w x := by rw [h.2.2]; exact h.2.1

set_option maxRecDepth 100000 in
set_option maxHeartbeats 4000000 in
theorem lawLines_bad (e : Ev) (hn : ¬ e.ok) (w : World) (hT : Tab w) : Calls Tryd.prog 4 #[e.v] w fun r w' => r = .returned (.bool true) ∧ Below w.heap.size w w' := by
  have HT := Lib.hid hT
  have HTT := Lib.hid (fun (X : World) (hb : Below w.heap.size w X) => hT.below hb hT.size)
  have hd : decide e.ok = false := decide_eq_false hn
  have hls : lnS e = [] := if_neg hn
  obtain ⟨k, g, o, t, p⟩ := e
  have HB : Hid (BoxE w.heap.size ⟨k, g, o, t, p⟩ w (w.alloc (.cells #[.int .i64 k, .int .i64 g, .int .i64 o, .int .i64 t, .int .i64 p] 25))) := ⟨heap_alloc_new _ _, (Below.refl _ w).alloc (Nat.le_refl _) _, rfl⟩
  have HL : Hid (∀ y, Tab y → Calls Tryd.prog 12 #[.agg #[.int .i64 k, .int .i64 g, .int .i64 o, .int .i64 t, .int .i64 p]] y fun r w' => r = .returned (.tuple #[.string ⟨#[]⟩, .bool false]) ∧ Below y.heap.size y w') := fun y hy => by
    have h := line_any ⟨k, g, o, t, p⟩ y hy
    rw [hd, hls] at h
    exact h
  have HR : Hid (∀ y, Calls Tryd.prog 13 #[.agg #[.int .i64 k, .int .i64 g, .int .i64 o, .int .i64 t, .int .i64 p]] y fun r w' => r = .returned (.bool false) ∧ Below y.heap.size y w') := fun y => by
    have h := rright_any ⟨k, g, o, t, p⟩ y
    rw [hd] at h
    exact h
  have HR2 : Hid (∀ y, Calls Tryd.prog 14 #[.agg #[.int .i64 k, .int .i64 g, .int .i64 o, .int .i64 t, .int .i64 p]] y fun r w' => r = .returned (.bool false) ∧ Below y.heap.size y w') := fun y => by
    have h := right_any ⟨k, g, o, t, p⟩ y
    rw [hd] at h
    exact h
  have HA := Lib.hid (fun (y : World) (hy : Tab y) => awake_any y hy)
  clear hd hls hn hT
  show Calls Tryd.prog 4 #[.agg #[.int .i64 k, .int .i64 g, .int .i64 o, .int .i64 t, .int .i64 p]] w _
  go_enter Tryd.func4, Tryd.ntmps4
  go_wp2_with fail
  generalize w.alloc (.cells #[.int .i64 k, .int .i64 g, .int .i64 o, .int .i64 t, .int .i64 p] 25) = W at *
  go_at_call 12
  refine (HL.out _ (HTT.out _ HB.out.lo)).mono ?_
  rintro e w1 ⟨rfl, hb⟩
  have B1 := Lib.hid (HB.out.next hb)
  clear hb HB HL
  obtain ⟨c0, c1, c2, c3, c4⟩ := B1.out.cells
  go_wp2_with fail
  go_at_call 13
  refine (HR.out _).mono ?_
  rintro e w2 ⟨rfl, hb⟩
  have B2 := Lib.hid (B1.out.next hb)
  clear hb HR c0 c1 c2 c3 c4 B1
  obtain ⟨c0, c1, c2, c3, c4⟩ := B2.out.cells
  go_wp2_with fail
  go_at_call 7
  refine (HA.out _ (HTT.out _ B2.out.lo)).mono ?_
  rintro e w3 ⟨rfl, hb⟩
  have B3 := Lib.hid (B2.out.next hb)
  clear hb HA c0 c1 c2 c3 c4 B2
  obtain ⟨c0, c1, c2, c3, c4⟩ := B3.out.cells
  go_wp2_with fail
  go_at_call 14
  refine (HR2.out _).mono ?_
  rintro e w4 ⟨rfl, hb⟩
  have B4 := Lib.hid (B3.out.next hb)
  clear hb HR2 c0 c1 c2 c3 c4 B3
  go_wp2_with fail
  go_ret
  exact ⟨rfl, B4.out.lo⟩

set_option maxRecDepth 100000 in
set_option maxHeartbeats 4000000 in
theorem lawLines_ok (e : Ev) (hn : e.ok) (w : World) (hT : Tab w) : Calls Tryd.prog 4 #[e.v] w fun r w' => r = .returned (.bool true) ∧ Below w.heap.size w w' := by
  have HTT := Lib.hid (fun (X : World) (hb : Below w.heap.size w X) => hT.below hb hT.size)
  have hd : decide e.ok = true := decide_eq_true hn
  have hls : lnS e = ln e ++ [10] := if_pos hn
  have hwr : wr [e] = ln e ++ [10] := wr_one e
  have hrd : rdt (ln e ++ [10]) = some [e] := by rw [← hwr]; exact rdt_wr (by intro x hx; rw [List.mem_singleton] at hx; subst hx; exact hn) (by simp)
  have hll := ln_len e hn
  have HRL := Lib.hid (fun y => rline_ok e hn y)
  have HRD := Lib.hid (fun (y : World) (hy : Tab y) => read_any (ln e ++ [10]) (by simp; omega) y hy)
  obtain ⟨k, g, o, t, p⟩ := e
  have HB : Hid (BoxE w.heap.size ⟨k, g, o, t, p⟩ w (w.alloc (.cells #[.int .i64 k, .int .i64 g, .int .i64 o, .int .i64 t, .int .i64 p] 25))) := ⟨heap_alloc_new _ _, (Below.refl _ w).alloc (Nat.le_refl _) _, rfl⟩
  have HL : Hid (∀ y, Tab y → Calls Tryd.prog 12 #[.agg #[.int .i64 k, .int .i64 g, .int .i64 o, .int .i64 t, .int .i64 p]] y fun r w' => r = .returned (.tuple #[.string (bA (ln ⟨k, g, o, t, p⟩ ++ [10])), .bool true]) ∧ Below y.heap.size y w') := fun y hy => by
    have h := line_any ⟨k, g, o, t, p⟩ y hy
    rw [hd, hls] at h
    exact h
  have HR : Hid (∀ y, Calls Tryd.prog 13 #[.agg #[.int .i64 k, .int .i64 g, .int .i64 o, .int .i64 t, .int .i64 p]] y fun r w' => r = .returned (.bool true) ∧ Below y.heap.size y w') := fun y => by
    have h := rright_any ⟨k, g, o, t, p⟩ y
    rw [hd] at h
    exact h
  have HR2 : Hid (∀ y, Calls Tryd.prog 14 #[.agg #[.int .i64 k, .int .i64 g, .int .i64 o, .int .i64 t, .int .i64 p]] y fun r w' => r = .returned (.bool true) ∧ Below y.heap.size y w') := fun y => by
    have h := right_any ⟨k, g, o, t, p⟩ y
    rw [hd] at h
    exact h
  change Hid (∀ y, Calls Tryd.prog 16 #[.agg #[.int .i64 k, .int .i64 g, .int .i64 o, .int .i64 t, .int .i64 p]] y _) at HRL
  have HA := Lib.hid (fun (y : World) (hy : Tab y) => awake_any y hy)
  have HRDT := Lib.hid hrd
  clear hd hls hn hT hwr hrd hll
  obtain ⟨S, hS⟩ : ∃ X, bA (ln ⟨k, g, o, t, p⟩ ++ [10]) = X := ⟨_, rfl⟩
  rw [hS] at HL HRL HRD
  clear hS
  show Calls Tryd.prog 4 #[.agg #[.int .i64 k, .int .i64 g, .int .i64 o, .int .i64 t, .int .i64 p]] w _
  go_enter Tryd.func4, Tryd.ntmps4
  go_wp2_with fail
  generalize w.alloc (.cells #[.int .i64 k, .int .i64 g, .int .i64 o, .int .i64 t, .int .i64 p] 25) = W at *
  go_at_call 12
  refine (HL.out _ (HTT.out _ HB.out.lo)).mono ?_
  rintro e w1 ⟨rfl, hb⟩
  have B1 := Lib.hid (HB.out.next hb)
  clear hb HB HL
  obtain ⟨c0, c1, c2, c3, c4⟩ := B1.out.cells
  go_wp2_with fail
  go_at_call 13
  refine (HR.out _).mono ?_
  rintro e w2 ⟨rfl, hb⟩
  have B2 := Lib.hid (B1.out.next hb)
  clear hb HR c0 c1 c2 c3 c4 B1
  go_wp2_with fail
  go_at_call 15
  refine (HRD.out _ (HTT.out _ B2.out.lo)).mono ?_
  rintro e w3 ⟨hb, (⟨m, A, cp, hm, rfl, how⟩ | ⟨hm, rfl⟩)⟩
  case inr => rw [HRDT.out] at hm; cases hm
  rw [HRDT.out] at hm
  cases hm
  have B3 := Lib.hid (B2.out.next hb)
  have HO3 := Lib.hid how
  clear hb HRD HRDT B2 how
  go_wp2_with fail
  go_at_call 7
  refine (HA.out _ (HTT.out _ B3.out.lo)).mono ?_
  rintro e w4 ⟨rfl, hb⟩
  have B4 := Lib.hid (B3.out.next hb)
  have HO4 := Lib.hid (own_below HO3.out hb)
  clear hb HA HO3 B3
  obtain ⟨c0, c1, c2, c3, c4⟩ := B4.out.cells
  go_wp2_with fail
  go_at_call 14
  refine (HR2.out _).mono ?_
  rintro e w5 ⟨rfl, hb⟩
  have B5 := Lib.hid (B4.out.next hb)
  have HO5 := Lib.hid (own_below HO4.out hb)
  clear hb HR2 c0 c1 c2 c3 c4 B4 HO4
  obtain ⟨c0, c1, c2, c3, c4⟩ := B5.out.cells
  go_wp2_with fail
  go_at_call 16
  refine (HRL.out _).mono ?_
  rintro e w6 ⟨rfl, hb⟩
  have B6 := Lib.hid (B5.out.next hb)
  have HO6 := Lib.hid (own_below HO5.out hb)
  clear hb HRL c0 c1 c2 c3 c4 B5 HO5
  obtain ⟨c0, c1, c2, c3, c4⟩ := B6.out.cells
  have HAL := Lib.hid ((Below.refl w6.heap.size w6).alloc (Nat.le_refl _) (.cells #[.int .i64 k, .int .i64 g, .int .i64 o, .int .i64 t, .int .i64 p] 25))
  have HSA : Hid (Calls Tryd.prog 9 #[.slice A 1 cp, .slice (some ⟨w6.heap.size, 0, none⟩) 1 1] (w6.alloc (.cells #[.int .i64 k, .int .i64 g, .int .i64 o, .int .i64 t, .int .i64 p] 25)) fun e w' => e = .returned (.bool true) ∧ Below w.heap.size w w') := by
    obtain ⟨gg, -, hs⟩ := row_sees (own_below HO6.out HAL.out)
    have h := same_any (w6.alloc (.cells #[.int .i64 k, .int .i64 g, .int .i64 o, .int .i64 t, .int .i64 p] 25)) gg w6.heap.size A (some ⟨w6.heap.size, 0, none⟩) cp 1 [⟨k, g, o, t, p⟩] [⟨k, g, o, t, p⟩] 1 1 rfl rfl (by omega) (by omega) hs (sees_one w6 ⟨k, g, o, t, p⟩)
    refine h.mono ?_
    rintro e w' ⟨rfl, m, rfl⟩
    have hb := B6.out.lo.trans (HAL.out.mono B6.out.lo.size)
    exact ⟨by simp, ⟨hb.os, hb.tape, hb.output, hb.size, hb.block⟩⟩
  clear HO6 HAL B6
  go_wp2_with fail
  go_at_call 9
  refine HSA.out.mono ?_
  rintro e w7 ⟨rfl, hb⟩
  go_wp2_with fail
  go_ret
  exact ⟨rfl, hb⟩
end Go.Proofs.YtalilnnjpemmlaaDoor
