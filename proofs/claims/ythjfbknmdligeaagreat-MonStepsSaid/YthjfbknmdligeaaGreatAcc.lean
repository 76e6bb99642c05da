/- The contracts of package cell's inner functions: Len, has, and what each access does to a word. -/
import Derived.Test.YthjfbknmdligeaaGreatMem
namespace Go.Proofs.YthjfbknmdligeaaGreat
open Go Go.RowKit
set_option linter.unusedVariables false
set_option maxRecDepth 100000
set_option linter.unusedSimpArgs false

theorem len_any (w : World) (A : Option Addr) (cap c b n : Nat) (s : St) (h : Is w 114 A cap c b n s) :
    Calls Tryz.prog 80 #[.pointer (some ⟨c, 0, none⟩)] w fun e w' => e = .returned (.int .i64 n) ∧ w = w' := by
  have c0 := h.cells.1
  clear h
  go_enter Tryz.func80, Tryz.ntmps80
  go_wp2_with fail
  go_ret
  exact ⟨rfl, rfl⟩
theorem len_nil (w : World) : Calls Tryz.prog 80 #[.pointer none] w fun e w' => e = .returned (.int .i64 0) ∧ w = w' := by
  go_enter Tryz.func80, Tryz.ntmps80
  go_wp2_with fail
  go_ret
  exact ⟨rfl, rfl⟩
theorem has_any (w : World) (A : Option Addr) (cap c b n : Nat) (s : St) (i : Int) (h : Is w 114 A cap c b n s) :
    Calls Tryz.prog 55 #[.pointer (some ⟨c, 0, none⟩), .int .i64 i] w fun e w' => e = .returned (.bool (decide (0 ≤ i ∧ i < n))) ∧ w = w' := by
  have hl := len_any w A cap c b n s h
  clear h
  by_cases h0 : 0 ≤ i
  · go_enter Tryz.func55, Tryz.ntmps55
    go_wp2_with (go_at_call 80; refine hl.mono ?_; rintro e w1 ⟨rfl, rfl⟩)
    go_ret
    exact ⟨ret_bool (by simp [h0]), rfl⟩
  · go_enter Tryz.func55, Tryz.ntmps55
    go_wp2_with fail
    go_ret
    exact ⟨ret_bool (by simp; omega), rfl⟩
theorem has_nil (w : World) (i : Int) : Calls Tryz.prog 55 #[.pointer none, .int .i64 i] w fun e w' => e = .returned (.bool false) ∧ w = w' := by
  have hl := len_nil w
  by_cases h0 : 0 ≤ i
  · go_enter Tryz.func55, Tryz.ntmps55
    go_wp2_with (go_at_call 80; refine hl.mono ?_; rintro e w1 ⟨rfl, rfl⟩)
    go_ret
    exact ⟨ret_bool (by simp; omega), rfl⟩
  · go_enter Tryz.func55, Tryz.ntmps55
    go_wp2_with fail
    go_ret
    exact ⟨ret_bool (by simp [h0]), rfl⟩

/-- An access in memory at block q, as it is while its work is done. -/
structure AccAt (w : World) (q : Nat) (k who i old new : Int) (done : Bool) : Prop where
  blk : w.heap[q]? = some (.cells #[.int .i64 k, .int .i64 who, .int .i64 i, .int .u64 old, .int .u64 new, .bool done] 48 (0, 0))
theorem AccAt.cells {w : World} {q : Nat} {k who i old new : Int} {done : Bool} (h : AccAt w q k who i old new done) :
    w.cell? ⟨q, 0, none⟩ = some (.int .i64 k) ∧ w.cell? ⟨q, 1, none⟩ = some (.int .i64 who) ∧ w.cell? ⟨q, 2, none⟩ = some (.int .i64 i) ∧ w.cell? ⟨q, 3, none⟩ = some (.int .u64 old) ∧ w.cell? ⟨q, 4, none⟩ = some (.int .u64 new) ∧ w.cell? ⟨q, 5, none⟩ = some (.bool done) := by
  refine ⟨?_, ?_, ?_, ?_, ?_, ?_⟩ <;> simp [World.cell?, h.blk]
theorem AccAt.fro {w : World} {q : Nat} {k who i old new : Int} {done : Bool} (h : AccAt w q k who i old new done) (j : Nat) : w.frozen? ⟨q, j, none⟩ = false := by simp [World.frozen?, h.blk]

theorem work_load (w : World) (p q : Value) : Calls Tryz.prog 66 #[p, q] w fun e w' => (∃ v, e = .returned v) ∧ w = w' := by
  go_enter Tryz.func66, Tryz.ntmps66
  go_wp2_with fail
  go_end0
  exact ⟨⟨_, rfl⟩, rfl⟩
theorem work_store (w : World) (b j q : Nat) (k who i old new : Int) (x : Value) (h : AccAt w q k who i old new true) (hw : w.cell? ⟨b, j, none⟩ = some x) (hf : w.frozen? ⟨b, j, none⟩ = false) :
    Calls Tryz.prog 64 #[.pointer (some ⟨b, j, none⟩), .pointer (some ⟨q, 0, none⟩)] w fun e w' => (∃ v, e = .returned v) ∧ w' = w.setCell ⟨b, j, none⟩ (.int .u64 new) := by
  obtain ⟨c0, c1, c2, c3, c4, c5⟩ := h.cells
  clear h
  go_enter Tryz.func64, Tryz.ntmps64
  go_wp2_with fail
  go_end0
  exact ⟨⟨_, rfl⟩, rfl⟩
theorem work_swap_not (w : World) (b j q r : Nat) (k who i old new x y : Int) (h : AccAt w q k who i old new true) (hw : w.cell? ⟨b, j, none⟩ = some (.int .u64 x)) (hf : w.frozen? ⟨b, j, none⟩ = false) (hr : w.cell? ⟨r, 0, none⟩ = some (.int .u64 y)) (hne : x ≠ y) :
    Calls Tryz.prog 65 #[.pointer (some ⟨b, j, none⟩), .pointer (some ⟨q, 0, none⟩), .pointer (some ⟨r, 0, none⟩)] w fun e w' => (∃ v, e = .returned v) ∧ ∃ m, w' = (w.drewN m).setCell ⟨q, 5, none⟩ (.bool false) := by
  obtain ⟨c0, c1, c2, c3, c4, c5⟩ := h.cells
  have f5 := h.fro 5
  have hd : decide (x = y) = false := by simpa using hne
  clear h
  go_enter Tryz.func65, Tryz.ntmps65
  go_wp2_with fail
  go_quiet (fail)
  go_wp2_with fail
  refine bodyPost_ret (results_none rfl _ _ _) rfl ?_
  exact ⟨⟨_, rfl⟩, _, rfl⟩
theorem work_swap_done (w : World) (b j q r : Nat) (k who i old new x : Int) (h : AccAt w q k who i old new true) (hw : w.cell? ⟨b, j, none⟩ = some (.int .u64 x)) (hf : w.frozen? ⟨b, j, none⟩ = false) (hr : w.cell? ⟨r, 0, none⟩ = some (.int .u64 x)) :
    Calls Tryz.prog 65 #[.pointer (some ⟨b, j, none⟩), .pointer (some ⟨q, 0, none⟩), .pointer (some ⟨r, 0, none⟩)] w fun e w' => (∃ v, e = .returned v) ∧ ∃ m, w' = (w.drewN m).setCell ⟨b, j, none⟩ (.int .u64 new) := by
  obtain ⟨c0, c1, c2, c3, c4, c5⟩ := h.cells
  have f4 := h.fro 4
  clear h
  go_enter Tryz.func65, Tryz.ntmps65
  go_wp2_with fail
  go_quiet (fail)
  go_wp2_with fail
  go_end0
  exact ⟨⟨_, rfl⟩, _, rfl⟩
theorem work_add (w : World) (b j q : Nat) (k who i old new x : Int) (h : AccAt w q k who i old new true) (hbq : b ≠ q) (hx : 0 ≤ x ∧ x ≤ 18446744073709551615) (hn : 0 ≤ new ∧ new ≤ 18446744073709551615) (hw : w.cell? ⟨b, j, none⟩ = some (.int .u64 x)) (hf : w.frozen? ⟨b, j, none⟩ = false) :
    Calls Tryz.prog 57 #[.pointer (some ⟨b, j, none⟩), .pointer (some ⟨q, 0, none⟩)] w fun e w' => (∃ v, e = .returned v) ∧ ∃ m, w' = ((w.setCell ⟨q, 4, none⟩ (.int .u64 ((IntKind.u64.wrap (x + new)).tmod 4294967296))).setCell ⟨b, j, none⟩ (.int .u64 ((IntKind.u64.wrap (x + new)).tmod 4294967296))).drewN m := by
  obtain ⟨c0, c1, c2, c3, c4, c5⟩ := h.cells
  have f4 := h.fro 4
  clear h
  go_enter Tryz.func57, Tryz.ntmps57
  go_wp2_with fail
  go_region
  go_wp2_with fail
  go_end0
  exact ⟨⟨_, rfl⟩, 1, rfl⟩
end Go.Proofs.YthjfbknmdligeaaGreat
