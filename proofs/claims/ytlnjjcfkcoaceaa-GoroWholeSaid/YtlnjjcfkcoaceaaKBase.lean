/- The base: cells and blocks of the heap, what of it is kept, equality of structs, fields of struct values. -/
import Derived.Test.YtlnjjcfkcoaceaaRows
import Derived.WalkKit
import Derived.WalkSpells
import Derived.Handy
import Derived.Laws.StructEq
import Derived.Deep.QuietTactic
import Derived.BigQuiet
import Derived.BigRegion
import Derived.RegionCalls
import Derived.Deep.RegionHeld3
namespace Go.Proofs.Ytlnjjcfkcoaceaa
open Go Go.RowKit
set_option linter.unusedVariables false
set_option maxRecDepth 100000
set_option linter.unusedSimpArgs false

theorem ret_int {k : IntKind} {a b : Int} (h : a = b) : Ending.returned (.int k a) = .returned (.int k b) := by rw [h]
theorem ret_bool {a b : Bool} (h : a = b) : Ending.returned (.bool a) = .returned (.bool b) := by rw [h]
theorem cell_lt {w : World} {b o : Nat} {v : Value} (h : w.cell? ⟨b, o, none⟩ = some v) : b < w.heap.size := by
  rcases Nat.lt_or_ge b w.heap.size with l | l
  · exact l
  · simp [World.cell?, Array.getElem?_eq_none l] at h
theorem block_lt {w : World} {b : Nat} {o : Obj} (h : w.heap[b]? = some o) : b < w.heap.size := by
  rcases Nat.lt_or_ge b w.heap.size with l | l
  · exact l
  · rw [Array.getElem?_eq_none l] at h; cases h
theorem heap_set {w : World} {g : Nat} {cs : Array Value} {t : TypeId} {fr : Nat × Nat} (h : w.heap[g]? = some (.cells cs t fr)) (i : Nat) (u : Value) : (w.setCell ⟨g, i, none⟩ u).heap[g]? = some (.cells (cs.setIfInBounds i u) t fr) := by
  have hlt := block_lt h
  show (w.heap.modify g _)[g]? = _
  rw [Array.getElem?_eq_getElem (by rw [Array.size_modify]; exact hlt), Array.getElem_modify_self, (Array.getElem?_eq_some_iff.1 h).2]
  rfl
theorem heap_set_ne (w : World) {k g : Nat} (h : k ≠ g) (i : Nat) (u : Value) : (w.setCell ⟨g, i, none⟩ u).heap[k]? = w.heap[k]? := Below.heap_setCell _ _ _ _ (by simpa using h)
theorem size_set (w : World) (p : Addr) (u : Value) : (w.setCell p u).heap.size = w.heap.size := by simp [World.setCell]
theorem heap_al (w : World) {k : Nat} (h : k < w.heap.size) (o : Obj) : (w.alloc o).heap[k]? = w.heap[k]? := Below.heap_alloc w o k h
theorem Below.drewN' {B : Nat} {a w : World} (h : Below B a w) (n : Nat) : Below B a (w.drewN n) := ⟨h.os, h.tape, h.output, h.size, h.block⟩

/-- The equality of two configs. -/
theorem eq_config (w : World) (a b c x y z : Int) : (binOp .eql 66 (.agg #[.int .i64 a, .int .i64 b, .int .i64 c]) (.agg #[.int .i64 x, .int .i64 y, .int .i64 z])).run Try.prog w = .ok (.bool (a == x && (b == y && c == z))) w := by
  have e : ∃ p0 p1 p2 p3 p4 p5 p6 p7 p8 p9 p10 p11, Try.prog.fieldsOf 66 = #[⟨"Procs", 3, 0, p0, p1, p2, p3⟩, ⟨"Threads", 3, 1, p4, p5, p6, p7⟩, ⟨"Gs", 3, 2, p8, p9, p10, p11⟩] := by unfold Program.fieldsOf; rw [Try.underlying66]; exact ⟨_, _, _, _, _, _, _, _, _, _, _, _, rfl⟩
  obtain ⟨p0, p1, p2, p3, p4, p5, p6, p7, p8, p9, p10, p11, e⟩ := e
  rw [run_eql_struct, show (10000 : Nat) = 9999 + 1 from rfl, run_equalIn_agg w 9999 66 _ _ (by unfold Program.fieldsOf; rw [Try.underlying66]) (by kernel_rfl), e]
  have h3 : ∀ (x y : Int) (w : World), (Op.equalIn 9999 3 (.int .i64 x) (.int .i64 y)).run Try.prog w = .ok (x == y) w := fun x y w => run_equalIn_int w 9998 3 .i64 .i64 x y Try.underlying3
  by_cases h1 : a = x
  · by_cases h2 : b = y
    · by_cases h4 : c = z <;> simp [Op.eqFields, go_sem, part, isAgg, sizeOf, typeInfo, Result.andThen, h3, h1, h2, h4]
    · simp [Op.eqFields, go_sem, part, isAgg, sizeOf, typeInfo, Result.andThen, h3, h1, h2]
  · simp [Op.eqFields, go_sem, part, isAgg, sizeOf, typeInfo, Result.andThen, h3, h1]
/-- The equality of two instructions. -/
theorem eq_instr (w : World) (a b x y : Int) : (binOp .eql 90 (.agg #[.int .i64 a, .int .i64 b]) (.agg #[.int .i64 x, .int .i64 y])).run Try.prog w = .ok (.bool (a == x && b == y)) w := by
  have e : ∃ p0 p1 p2 p3 p4 p5 p6 p7, Try.prog.fieldsOf 90 = #[⟨"Kind", 3, 0, p0, p1, p2, p3⟩, ⟨"Arg", 3, 1, p4, p5, p6, p7⟩] := by unfold Program.fieldsOf; rw [Try.underlying90]; exact ⟨_, _, _, _, _, _, _, _, rfl⟩
  obtain ⟨p0, p1, p2, p3, p4, p5, p6, p7, e⟩ := e
  rw [run_eql_struct, show (10000 : Nat) = 9999 + 1 from rfl, run_equalIn_agg w 9999 90 _ _ (by unfold Program.fieldsOf; rw [Try.underlying90]) (by kernel_rfl), e]
  have h3 : ∀ (x y : Int) (w : World), (Op.equalIn 9999 3 (.int .i64 x) (.int .i64 y)).run Try.prog w = .ok (x == y) w := fun x y w => run_equalIn_int w 9998 3 .i64 .i64 x y Try.underlying3
  by_cases h1 : a = x
  · by_cases h2 : b = y <;> simp [Op.eqFields, go_sem, part, isAgg, sizeOf, typeInfo, Result.andThen, h3, h1, h2]
  · simp [Op.eqFields, go_sem, part, isAgg, sizeOf, typeInfo, Result.andThen, h3, h1]

theorem field_c0 (w : World) (a b c : Value) : (Instr.field 66 (.agg #[a, b, c]) 0).run Try.prog w = .ok a w := by
  unfold Instr.field
  rw [Sem.run_bind, run_underlying Try.underlying66 w]
  simp [go_sem, part, asAgg, isAgg, sizeOf, typeInfo, Result.andThen]
theorem field_c1 (w : World) (a b c : Value) : (Instr.field 66 (.agg #[a, b, c]) 1).run Try.prog w = .ok b w := by
  unfold Instr.field
  rw [Sem.run_bind, run_underlying Try.underlying66 w]
  simp [go_sem, part, asAgg, isAgg, sizeOf, typeInfo, Result.andThen]
theorem field_c2 (w : World) (a b c : Value) : (Instr.field 66 (.agg #[a, b, c]) 2).run Try.prog w = .ok c w := by
  unfold Instr.field
  rw [Sem.run_bind, run_underlying Try.underlying66 w]
  simp [go_sem, part, asAgg, isAgg, sizeOf, typeInfo, Result.andThen]
theorem field_k (w : World) (a b : Value) : (Instr.field 90 (.agg #[a, b]) 0).run Try.prog w = .ok a w := by
  unfold Instr.field
  rw [Sem.run_bind, run_underlying Try.underlying90 w]
  simp [go_sem, part, asAgg, isAgg, sizeOf, typeInfo, Result.andThen]
theorem field_a (w : World) (a b : Value) : (Instr.field 90 (.agg #[a, b]) 1).run Try.prog w = .ok b w := by
  unfold Instr.field
  rw [Sem.run_bind, run_underlying Try.underlying90 w]
  simp [go_sem, part, asAgg, isAgg, sizeOf, typeInfo, Result.andThen]
end Go.Proofs.Ytlnjjcfkcoaceaa
