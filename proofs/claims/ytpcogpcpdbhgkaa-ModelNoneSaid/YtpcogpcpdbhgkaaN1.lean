/- code.Read of no word and of the page's one word: what its parts do. -/
import Derived.Test.YtpcogpcpdbhgkaaRows
import Derived.WalkKit
import Derived.Handy
import Derived.WalkSmall
import Derived.OwnWalk
import Derived.Deep.QuietTactic
import Derived.BigQuiet
import Derived.BigRegion
import Derived.Lib.Hide
import Derived.Deep.RegionHeld3
import Derived.Deep.LoopGhost
import Derived.Laws.ResultCell
import Derived.Laws.Rows
namespace Go.Proofs.Ytpcogpcpdbhgkaa
open Go Go.RowKit
set_option linter.unusedVariables false
set_option linter.unusedSimpArgs false

theorem block_lt {w : World} {k : Nat} {o : Obj} (h : w.heap[k]? = some o) : k < w.heap.size := by
  rcases Nat.lt_or_ge k w.heap.size with h' | h'
  · exact h'
  · rw [Array.getElem?_eq_none h'] at h; cases h
theorem heap_set {w : World} {g : Nat} {cs : Array Value} {t : TypeId} {fr : Nat × Nat} (h : w.heap[g]? = some (.cells cs t fr)) (i : Nat) (u : Value) : (w.setCell ⟨g, i, none⟩ u).heap[g]? = some (.cells (cs.setIfInBounds i u) t fr) := by
  have hlt := block_lt h
  show (w.heap.modify g _)[g]? = _
  rw [Array.getElem?_modify, if_pos rfl, h]
  rfl
theorem res_pair {fn : Func} {q u : Tmp} {ty : TypeId} (h : fn.results = #[.cell q ty, .tmp u]) (tmps : Array Value) (w : World) (g : Nat) (v z : Value)
    (hp : tmps.getD q undef = .pointer (some ⟨g, 0, none⟩)) (hv : tmps.getD u undef = v) (hl : (loadVar ty ⟨g, 0, none⟩).run Try.prog w = .ok z w) :
    (results fn tmps).run Try.prog w = .ok (.tuple #[z, v]) w := by
  rw [results_cell_tmp h, hp]
  have e1 : (asAddr (.pointer (some ⟨g, 0, none⟩))).run Try.prog w = .ok ⟨g, 0, none⟩ w := by simp [asAddr]
  rw [e1, Result.andThen_ok, hl, Result.andThen_ok, hv]
theorem size39 : (Try.prog.info? 39).map (·.size) = some 2 := by kernel_rfl
theorem band_a : bits .and .u64 3 7 = 3 := by decide +kernel
theorem band_b : bits .and .u64 0 2305843009213693951 = 0 := by decide +kernel
theorem ret_u64 {a b : Int} (h : a = b) : Ending.returned (.int .u64 a) = .returned (.int .u64 b) := by rw [h]
theorem bits_a (w : World) : Calls Try.prog 37 #[.int .u64 3, .int .i64 0, .int .i64 3] w fun e w' => e = .returned (.int .u64 3) ∧ ∃ k, w' = w.drewN k := by
  go_enter Try.func37, Try.ntmps37
  go_wp2
  go_quiet (fail)
  go_wp2
  go_ret
  exact ⟨ret_u64 band_a, nq, rfl⟩
theorem bits_b (w : World) : Calls Try.prog 37 #[.int .u64 3, .int .i64 3, .int .i64 61] w fun e w' => e = .returned (.int .u64 0) ∧ ∃ k, w' = w.drewN k := by
  go_enter Try.func37, Try.ntmps37
  go_wp2
  go_quiet (fail)
  go_wp2
  go_ret
  exact ⟨ret_u64 band_b, nq, rfl⟩
theorem kind_3 (w : World) : Calls Try.prog 27 #[.int .u64 3] w fun e w' => e = .returned (.int .i64 3) ∧ ∃ k, w' = w.drewN k := by
  go_enter Try.func27, Try.ntmps27
  go_wp2_with fail
  go_at_call 37
  refine (bits_a _).mono ?_
  rintro e w1 ⟨rfl, k, rfl⟩
  go_wp2
  go_ret
  exact ⟨rfl, k, rfl⟩
theorem parts_3 (w : World) : Calls Try.prog 15 #[.int .u64 3] w fun e w' => e = .returned (.bool false) ∧ ∃ k, w' = w.drewN k := by
  go_enter Try.func15, Try.ntmps15
  go_wp2_with fail
  go_at_call 27
  refine (kind_3 _).mono ?_
  rintro e w1 ⟨rfl, k, rfl⟩
  go_wp2
  go_ret
  exact ⟨rfl, k, rfl⟩
theorem instr_3 (p : Int) (w : World) : Calls Try.prog 28 #[.int .u64 3, .int .i64 p] w fun e w' => e = .returned (.tuple #[.agg #[.int .i64 3, .int .i64 0], .bool true]) ∧ Below w.heap.size w w' := by
  go_enter Try.func28, Try.ntmps28
  go_wp2_with fail
  go_at_call 15
  refine (parts_3 _).mono ?_
  rintro e w1 ⟨rfl, k, rfl⟩
  go_wp2_with fail
  go_at_call 27
  refine (kind_3 _).mono ?_
  rintro e w1 ⟨rfl, k2, rfl⟩
  go_wp2_with fail
  go_at_call 37
  refine (bits_b _).mono ?_
  rintro e w1 ⟨rfl, k3, rfl⟩
  go_wp2
  have HY : (((((w.alloc (.cells #[.int .i64 0, .int .i64 0] 39)).drewN (k + k2)).alloc (.cells #[.int .i64 3, .int .i64 0] 39)).drewN k3)).heap[w.heap.size]? = some (.cells #[.int .i64 0, .int .i64 0] 39 (0, 0)) := by
    have b : Below (w.heap.size + 1) (w.alloc (.cells #[.int .i64 0, .int .i64 0] 39)) ((((w.alloc (.cells #[.int .i64 0, .int .i64 0] 39)).drewN (k + k2)).alloc (.cells #[.int .i64 3, .int .i64 0] 39)).drewN k3) := below_drewN ((below_drewN (Below.refl _ _) _).alloc (by simp) _) _
    rw [b.block _ (by omega)]
    exact heap_alloc_new _ _
  have BY : Below w.heap.size w (((((w.alloc (.cells #[.int .i64 0, .int .i64 0] 39)).drewN (k + k2)).alloc (.cells #[.int .i64 3, .int .i64 0] 39)).drewN k3)) := below_drewN ((below_drewN ((Below.refl _ w).alloc (Nat.le_refl _) _) _).alloc (by simp) _) _
  generalize (((((w.alloc (.cells #[.int .i64 0, .int .i64 0] 39)).drewN (k + k2)).alloc (.cells #[.int .i64 3, .int .i64 0] 39)).drewN k3)) = Y at *
  have H2 := heap_set (heap_set HY 0 (.int .i64 3)) 1 (.int .i64 0)
  exact bodyPost_ret (v := .tuple #[.agg #[.int .i64 3, .int .i64 0], .bool true]) (res_pair rfl _ _ w.heap.size _ _ rfl rfl (run_loadVar_row _ w.heap.size 39 39 #[.int .i64 3, .int .i64 0] (0, 0) _ H2 Try.underlying39 rfl (by kernel_rfl))) rfl ⟨rfl, (BY.setCell (p := ⟨w.heap.size, 0, none⟩) (Nat.le_refl _) _).setCell (p := ⟨w.heap.size, 1, none⟩) (Nat.le_refl _) _⟩

/-- no item parts: of one word, of none -/
theorem index_1 (b : Nat) (w : World) (h0 : w.cell? ⟨b, 0, none⟩ = some (.int .u64 3)) (c : Nat) (hc : (1 : Int) ≤ (c : Int)) : Calls Try.prog 26 #[.slice (some ⟨b, 0, none⟩) 1 c, .func (.func 15) #[] #[]] w fun e w' => e = .returned (.int .i64 (-1)) ∧ ∃ k, w' = w.drewN k := by
  go_enter Try.func26, Try.ntmps26
  go_wp2_with fail
  go_loopw [8] (fun i wr => ∃ j n : Nat, j ≤ 1 ∧ i = .int .i64 j ∧ wr = w.drewN n) (fun i _ => 1 - (intOf i).toNat)
  case atStart => exact ⟨0, 0, by omega, rfl, rfl⟩
  case round =>
    obtain ⟨j, n, hj, rfl, rfl⟩ := hrel
    have hcj : j = 0 ∨ j = 1 := by omega
    rcases hcj with rfl | rfl
    · go_wp2_with fail
      go_at_call 15
      refine (parts_3 _).mono ?_
      rintro e w1 ⟨rfl, k, rfl⟩
      go_wp2_with fail
      go_roundw
      case rel => exact ⟨1, n + k, by omega, rfl, by simp⟩
      case measure => simp [intOf]
    · go_wp2_with fail
      go_ret
      exact ⟨rfl, n, rfl⟩
theorem index_0 (w : World) (A : Option Addr) (c : Nat) : Calls Try.prog 26 #[.slice A 0 c, .func (.func 15) #[] #[]] w fun e w' => e = .returned (.int .i64 (-1)) ∧ ∃ k, w' = w.drewN k := by
  go_enter Try.func26, Try.ntmps26
  go_wp2_with fail
  go_loopw [8] (fun i wr => i = .int .i64 0 ∧ wr = w) (fun _ _ => 0)
  case atStart => exact ⟨rfl, rfl⟩
  case round =>
    obtain ⟨rfl, rfl⟩ := hrel
    go_wp2_with fail
    go_ret
    exact ⟨rfl, 0, rfl⟩
end Go.Proofs.Ytpcogpcpdbhgkaa
