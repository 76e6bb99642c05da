/- A map that holds no key, or the key 0 alone: what is asked of it, stored in it, struck from it. -/
import Derived.Test.YtpcogpcpdbhgkaaN4
import Derived.MapKept
namespace Go.Proofs.Ytpcogpcpdbhgkaa
open Go Go.RowKit
set_option linter.unusedVariables false
set_option linter.unusedSimpArgs false

/-- one entry: 0 at the key 0 -/
def one (born : Nat) : MapEntry := { key := .int .i64 0, val := .int .i64 0, born := born }
def setB (w : World) (b : Nat) (o : Obj) : World := { w with heap := w.heap.setIfInBounds b o }
theorem key0 (empty : Bool) (w : World) : (Instr.checkKey empty 10000 3 (.int .i64 0)).run Try.prog w = .ok () w := MapKept.run_checkKey (k := .int .i64 0) Try.underlying3 (by simp [MapKept.IsKey]) empty 9999
theorem find_e (w : World) : (Instr.findKey 3 (.int .i64 0) []).run Try.prog w = .ok none w := MapKept.run_findKey Try.underlying3 rfl
theorem find_o (born : Nat) (w : World) : (Instr.findKey 3 (.int .i64 0) [one born]).run Try.prog w = .ok (some (0, .int .i64 0)) w := MapKept.run_findKey Try.underlying3 rfl

theorem lookup_e (r clk : Nat) (w : World) (hb : w.heap[r]? = some (.map #[] clk)) : (Instr.lookup 48 (.map (some r)) (.int .i64 0) true).run Try.prog w = .ok (.tuple #[.int .i64 0, .bool false]) w := by
  simp [Instr.lookup, run_underlying Try.underlying48, MapKept.run_getObj_map hb, key0, find_e, Try.zeroValue3, Result.andThen]
theorem lookup_o (r clk born : Nat) (w : World) (hb : w.heap[r]? = some (.map #[one born] clk)) : (Instr.lookup 48 (.map (some r)) (.int .i64 0) true).run Try.prog w = .ok (.tuple #[.int .i64 0, .bool true]) w := by
  simp [Instr.lookup, run_underlying Try.underlying48, MapKept.run_getObj_map hb, key0, find_o, Result.andThen]
theorem entry_e (r clk : Nat) (w : World) (hb : w.heap[r]? = some (.map #[] clk)) : (Instr.mapEntry 48 (.map (some r)) (.int .i64 0)).run Try.prog w = .ok (.tuple #[.int .i64 0, .int .i64 (clk : Int)]) (setB w r (.map #[one clk] (clk + 1))) := by
  simp [Instr.mapEntry, run_underlying Try.underlying48, MapKept.run_getObj_map hb, key0, find_e, Try.zeroValue3, MapKept.run_setObj_map _ hb, Result.andThen, setB, one, goInt]
theorem store_o (r clk born : Nat) (w : World) (hb : w.heap[r]? = some (.map #[one born] clk)) : (Instr.entryStore 48 (.map (some r)) (.int .i64 (born : Int)) (.int .i64 0)).run Try.prog w = .ok () (setB w r (.map #[one born] clk)) := by
  simp [Instr.entryStore, MapKept.run_getObj_map hb, asInt, asIntOf, one, MapKept.run_setObj_map _ hb, Result.andThen, setB]
theorem delete_o (r clk born : Nat) (w : World) (hb : w.heap[r]? = some (.map #[one born] clk)) (ty : TypeId) : (Builtin.delete_ #[48, 3] ty #[.map (some r), .int .i64 0]).run Try.prog w = .ok (.tuple #[]) (setB w r (.map #[] clk)) := by
  simp [Builtin.delete_, run_underlying Try.underlying48, MapKept.run_getObj_map hb, key0, find_o, MapKept.run_setObj_map _ hb, Result.andThen, setB]
end Go.Proofs.Ytpcogpcpdbhgkaa
