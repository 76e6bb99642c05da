/- The order of items: it draws and lays blocks, no more; the sort's contract. -/
import Derived.Test.YtideofojmgmboaaA2
import Derived.Test.YtideofojmgmboaaP1
import Derived.Test.YtideofojmgmboaaS0
namespace Go.Proofs.Ytideofojmgmboaa
open Go Go.RowKit Go.Shelf Go.Sort
set_option linter.unusedVariables false
set_option linter.unusedSimpArgs false
set_option maxRecDepth 100000

/-- it drew, it laid blocks -/
def Gd (w w' : World) : Prop := ∃ q os, w' = grow (w.drewN q) os
theorem Gd.refl (w : World) : Gd w w := ⟨0, #[], by simp [grow]; rfl⟩
theorem Gd.alloc {w w' : World} (h : Gd w w') (o : Obj) : Gd w (w'.alloc o) := by
  obtain ⟨q, os, rfl⟩ := h
  exact ⟨q, os ++ #[o], by rw [alloc_eq_grow, grow_grow]⟩
theorem Gd.drewN {w w' : World} (h : Gd w w') (n : Nat) : Gd w (w'.drewN n) := by
  obtain ⟨q, os, rfl⟩ := h
  exact ⟨q + n, os, by rw [← World.drewN_drewN]; rfl⟩
theorem Gd.drew {w w' : World} (h : Gd w w') : Gd w w'.drew := by
  obtain ⟨q, os, rfl⟩ := h
  exact ⟨q + 1, os, rfl⟩
theorem Gd.trans {x y z : World} (h : Gd x y) (k : Gd y z) : Gd x z := by
  obtain ⟨q, os, rfl⟩ := h
  obtain ⟨p, os', rfl⟩ := k
  exact ⟨q + p, os ++ os', by rw [← grow_grow, ← World.drewN_drewN]; rfl⟩
theorem Gd.below {w w' : World} (h : Gd w w') : Below w.heap.size w w' := by
  obtain ⟨q, os, rfl⟩ := h
  refine ⟨rfl, rfl, rfl, by simp [grow, World.drewN], fun k hk => ?_⟩
  simp only [grow, World.drewN]
  rw [Array.getElem?_append_left hk]
set_option maxHeartbeats 4000000 in
theorem order_grow (x y : It) (w : World) : Calls Try.prog 28 #[.agg #[.int .i64 x.1, .int .i64 x.2], .agg #[.int .i64 y.1, .int .i64 y.2]] w fun e w' => e = .returned (.int .i64 (ordI x y)) ∧ Gd w w' := by
  obtain ⟨a, b⟩ := x
  obtain ⟨c, d⟩ := y
  have HC := Lib.hid (fun (x y : Int) (X : World) => compare_any x y X)
  have B2 := Lib.hid (((Gd.refl w).alloc (.cells #[.int .i64 a, .int .i64 b] 23)).alloc (.cells #[.int .i64 c, .int .i64 d] 23))
  have HO := Lib.hid (fun (X : World) (B : Nat) (h0 : X.cell? ⟨B, 0, none⟩ = some (.int .i64 (cmpI a c))) (h1 : X.cell? ⟨B, 1, none⟩ = some (.int .i64 (cmpI b d))) => or_any (cmpI a c) (cmpI b d) B 2 X h0 h1)
  go_enter Try.func28, Try.ntmps28
  go_wp2_with fail
  have x0 : ((w.alloc (.cells #[.int .i64 a, .int .i64 b] 23)).alloc (.cells #[.int .i64 c, .int .i64 d] 23)).cell? ⟨w.heap.size, 0, none⟩ = some (.int .i64 a) := by go_cell
  have x1 : ((w.alloc (.cells #[.int .i64 a, .int .i64 b] 23)).alloc (.cells #[.int .i64 c, .int .i64 d] 23)).cell? ⟨w.heap.size, 1, none⟩ = some (.int .i64 b) := by go_cell
  have y0 : ((w.alloc (.cells #[.int .i64 a, .int .i64 b] 23)).alloc (.cells #[.int .i64 c, .int .i64 d] 23)).cell? ⟨w.heap.size + 1, 0, none⟩ = some (.int .i64 c) := by go_cell
  have y1 : ((w.alloc (.cells #[.int .i64 a, .int .i64 b] 23)).alloc (.cells #[.int .i64 c, .int .i64 d] 23)).cell? ⟨w.heap.size + 1, 1, none⟩ = some (.int .i64 d) := by go_cell
  generalize (w.alloc (.cells #[.int .i64 a, .int .i64 b] 23)).alloc (.cells #[.int .i64 c, .int .i64 d] 23) = W at *
  have HX := Lib.hid (And.intro x0 (And.intro x1 (And.intro y0 y1)))
  clear x0 x1 y0 y1
  have KEEP : Hid (∀ X w' : World, (X.cell? ⟨w.heap.size, 0, none⟩ = some (.int .i64 a) ∧ X.cell? ⟨w.heap.size, 1, none⟩ = some (.int .i64 b) ∧ X.cell? ⟨w.heap.size + 1, 0, none⟩ = some (.int .i64 c) ∧ X.cell? ⟨w.heap.size + 1, 1, none⟩ = some (.int .i64 d) ∧ Gd w X) → Gd X w' →
      (w'.cell? ⟨w.heap.size, 0, none⟩ = some (.int .i64 a) ∧ w'.cell? ⟨w.heap.size, 1, none⟩ = some (.int .i64 b) ∧ w'.cell? ⟨w.heap.size + 1, 0, none⟩ = some (.int .i64 c) ∧ w'.cell? ⟨w.heap.size + 1, 1, none⟩ = some (.int .i64 d) ∧ Gd w w')) :=
    fun X w' ⟨h0, h1, h2, h3, h4⟩ hb => ⟨(hb.below.cell (cell_lt h0)).trans h0, (hb.below.cell (cell_lt h1)).trans h1, (hb.below.cell (cell_lt h2)).trans h2, (hb.below.cell (cell_lt h3)).trans h3, h4.trans hb⟩
  have hH : W.drew.cell? ⟨w.heap.size, 0, none⟩ = some (.int .i64 a) ∧ W.drew.cell? ⟨w.heap.size, 1, none⟩ = some (.int .i64 b) ∧ W.drew.cell? ⟨w.heap.size + 1, 0, none⟩ = some (.int .i64 c) ∧ W.drew.cell? ⟨w.heap.size + 1, 1, none⟩ = some (.int .i64 d) ∧ Gd w W.drew := ⟨HX.out.1, HX.out.2.1, HX.out.2.2.1, HX.out.2.2.2, B2.out.drew⟩
  have HA := Lib.hid (fun (X : World) => (Gd.refl X).alloc (.cells #[.int .i64 (cmpI a c), .int .i64 (cmpI b d)] 3))
  have HO2 : Hid (∀ X : World, Calls Try.prog 37 #[.slice (some ⟨X.heap.size, 0, none⟩) 2 2] (X.alloc (.cells #[.int .i64 (cmpI a c), .int .i64 (cmpI b d)] 3)).drew fun e w' => e = .returned (.int .i64 (ordI (a, b) (c, d))) ∧ w' = (X.alloc (.cells #[.int .i64 (cmpI a c), .int .i64 (cmpI b d)] 3)).drew) := (fun (X : World) => or_any (cmpI a c) (cmpI b d) X.heap.size 2 (X.alloc (.cells #[.int .i64 (cmpI a c), .int .i64 (cmpI b d)] 3)).drew (by go_cell) (by go_cell))
  clear HO
  generalize hr : ordI (a, b) (c, d) = r at HO2
  have HR := Lib.hid hr
  clear hr
  go_region_held3 (fun w' : World => w'.cell? ⟨w.heap.size, 0, none⟩ = some (.int .i64 a) ∧ w'.cell? ⟨w.heap.size, 1, none⟩ = some (.int .i64 b) ∧ w'.cell? ⟨w.heap.size + 1, 0, none⟩ = some (.int .i64 c) ∧ w'.cell? ⟨w.heap.size + 1, 1, none⟩ = some (.int .i64 d) ∧ Gd w w') (first | (with_reducible exact hH) | (with_reducible assumption) | exact KEEP.out _ _ ‹_› (HA.out _))
    (first | (go_at_call 38; refine (HC.out _ _ _).mono ?_; rintro e w3 ⟨rfl, rfl⟩) | (go_at_call 37; refine (HO2.out _).mono ?_; rintro e w3 ⟨rfl, rfl⟩))
  go_wp2
  rename_i hS
  go_ret
  exact ⟨by rw [HR.out]; rfl, hS.2.2.2.2⟩
end Go.Proofs.Ytideofojmgmboaa
