/- The law of no agenda, walked. -/
import Derived.Test.YtideofojmgmboaaB8
namespace Go.Proofs.Ytideofojmgmboaa
open Go Go.RowKit
set_option linter.unusedVariables false
set_option linter.unusedSimpArgs false
set_option maxRecDepth 100000

theorem eq23 (w : World) : (binOp .eql 23 (.agg #[.int .i64 0, .int .i64 0]) (.agg #[.int .i64 0, .int .i64 0])).run Try.prog w = .ok (.bool true) w := by kernel_rfl
/-- a box of the zero item -/
def Zb (w : World) (b : Nat) : Prop := w.heap[b]? = some (.cells #[.int .i64 0, .int .i64 0] 23 (0, 0))
/-- the law's own: its item, two zero items -/
structure Bx (w X : World) (xb yb zb : Nat) (d k : Int) : Prop where
  bel : Below w.heap.size w X
  x : X.heap[xb]? = some (.cells #[.int .i64 d, .int .i64 k] 23 (0, 0))
  y : Zb X yb
  z : Zb X zb
theorem Bx.below {w X Y : World} {xb yb zb : Nat} {d k : Int} (h : Bx w X xb yb zb d k) (hb : Below X.heap.size X Y) : Bx w Y xb yb zb d k :=
  ⟨h.bel.trans (hb.mono h.bel.size), (hb.block _ (block_lt h.x)).trans h.x, (hb.block _ (block_lt h.y)).trans h.y, (hb.block _ (block_lt h.z)).trans h.z⟩
theorem Bx.cells {w X : World} {xb yb zb : Nat} {d k : Int} (h : Bx w X xb yb zb d k) :
    X.cell? ⟨xb, 0, none⟩ = some (.int .i64 d) ∧ X.cell? ⟨xb, 1, none⟩ = some (.int .i64 k) ∧ X.cell? ⟨yb, 0, none⟩ = some (.int .i64 0) ∧ X.cell? ⟨yb, 1, none⟩ = some (.int .i64 0) ∧ X.cell? ⟨zb, 0, none⟩ = some (.int .i64 0) ∧ X.cell? ⟨zb, 1, none⟩ = some (.int .i64 0) := by
  have hx := h.x
  have hy : X.heap[yb]? = _ := h.y
  have hz : X.heap[zb]? = _ := h.z
  exact ⟨by simp [cell_of hx], by simp [cell_of hx], by simp [cell_of hy], by simp [cell_of hy], by simp [cell_of hz], by simp [cell_of hz]⟩
set_option maxHeartbeats 8000000 in
theorem agendaNone_walk (d k : Int) (w : World) : Calls Try.prog 3 #[.agg #[.int .i64 d, .int .i64 k]] w fun e w' => e = .returned (.bool true) ∧ Below w.heap.size w w' := by
  have B0 := (Below.refl w.heap.size w).alloc (Nat.le_refl _) (.cells #[.int .i64 d, .int .i64 k] 23)
  have N0 := heap_alloc_new w (.cells #[.int .i64 d, .int .i64 k] 23)
  have HB := Lib.hid B0
  have HN := Lib.hid N0
  clear B0 N0
  have hq := eq23
  have HPo := Lib.hid (fun X => pop_nil (w := X))
  have HFi := Lib.hid (fun X => first_nil (w := X))
  have HAt := Lib.hid (fun X => at_nil (w := X) k)
  have HAw := Lib.hid awake_any
  have HPu := Lib.hid (fun X => put_nil (w := X) (d, k))
  have HDr := Lib.hid (fun X => drop_nil (w := X) k)
  have HMo := Lib.hid (fun X => move_nil (w := X) k d)
  have HDu := Lib.hid (fun X => due_nil (w := X) d)
  have HAl := Lib.hid (fun X => all_nil (w := X))
  have HLe := Lib.hid (fun X => Len_nil (w := X))
  unfold itV at HPu
  unfold noIt at HPo HFi
  go_enter Try.func3, Try.ntmps3
  go_wp2_with fail
  generalize w.alloc (.cells #[.int .i64 d, .int .i64 k] 23) = W at *
  generalize hxb : w.heap.size = xb at *
  go_at_call 6; refine (HPo.out _).mono ?_; rintro e w1 ⟨rfl, hb⟩
  have n1 := (hb.block _ (block_lt HN.out)).trans HN.out
  have b1 := HB.out.trans (hb.mono (hxb ▸ HB.out.size))
  have HB1 := Lib.hid (b1.alloc (hxb ▸ b1.size) (.cells #[.int .i64 0, .int .i64 0] 23))
  have HN1 := Lib.hid ((heap_al _ (block_lt n1) (.cells #[.int .i64 0, .int .i64 0] 23)).trans n1)
  have HY1 := Lib.hid (heap_alloc_new w1 (.cells #[.int .i64 0, .int .i64 0] 23))
  clear hb n1 b1
  go_wp2_with fail
  generalize w1.alloc (.cells #[.int .i64 0, .int .i64 0] 23) = W1 at *
  generalize w1.heap.size = yb at *
  go_at_call 7; refine (HFi.out _).mono ?_; rintro e w2 ⟨rfl, hb⟩
  have n1 := (hb.block _ (block_lt HN1.out)).trans HN1.out
  have y1 := (hb.block _ (block_lt HY1.out)).trans HY1.out
  have b1 := HB1.out.trans (hb.mono (hxb ▸ HB1.out.size))
  have HX : Hid (Bx w (w2.alloc (.cells #[.int .i64 0, .int .i64 0] 23)) xb yb w2.heap.size d k) :=
    ⟨by rw [hxb]; exact b1.alloc (hxb ▸ b1.size) _, (heap_al _ (block_lt n1) _).trans n1, (heap_al _ (block_lt y1) _).trans y1, heap_alloc_new _ _⟩
  clear hb n1 b1 y1
  obtain ⟨q0, q1, q2, q3, q4, q5⟩ := HX.out.cells
  go_wp2_with fail
  generalize w2.alloc (.cells #[.int .i64 0, .int .i64 0] 23) = W2 at *
  generalize w2.heap.size = zb at *
  go_at_call 8; refine (HAt.out _).mono ?_; rintro e w3 ⟨rfl, rfl⟩
  go_wp2_with fail
  go_at_call 9; refine (HAw.out _).mono ?_; rintro e w4 ⟨rfl, hb⟩
  have HX1 := Lib.hid (HX.out.below hb)
  clear hb q0 q1 q2 q3 q4 q5
  obtain ⟨q0, q1, q2, q3, q4, q5⟩ := HX1.out.cells
  go_wp2_with fail
  go_at_call 10; refine (HPu.out _).mono ?_; rintro e w5 ⟨rfl, hb⟩
  have HX2 := Lib.hid (HX1.out.below hb)
  clear hb q0 q1 q2 q3 q4 q5
  obtain ⟨q0, q1, q2, q3, q4, q5⟩ := HX2.out.cells
  go_wp2_with fail
  go_at_call 11; refine (HDr.out _).mono ?_; rintro e w6 ⟨rfl, rfl⟩
  go_wp2_with fail
  go_at_call 12; refine (HMo.out _).mono ?_; rintro e w7 ⟨rfl, rfl⟩
  go_wp2_with fail
  go_at_call 13; refine (HDu.out _).mono ?_; rintro e w8 ⟨rfl, hb⟩
  have HX3 := Lib.hid (HX2.out.below hb)
  clear hb q0 q1 q2 q3 q4 q5
  obtain ⟨q0, q1, q2, q3, q4, q5⟩ := HX3.out.cells
  go_wp2_with fail
  go_at_call 14; refine (HAl.out _).mono ?_; rintro e w9 ⟨rfl, rfl⟩
  go_wp2_with fail
  go_at_call 15; refine (HLe.out _).mono ?_; rintro e w10 ⟨rfl, rfl⟩
  go_wp2_with fail
  go_ret
  exact ⟨rfl, HX3.out.bel⟩
end Go.Proofs.Ytideofojmgmboaa
