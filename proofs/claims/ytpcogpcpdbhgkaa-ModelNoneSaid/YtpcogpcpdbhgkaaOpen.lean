/- Arguments that came in, as the walks see them. -/
import Derived.Test.YtpcogpcpdbhgkaaN1
import Derived.ProofKit
import Derived.OpenShut
import Derived.Lib.SmallJoins
import Derived.Deep.SlicePairs
import Derived.Deep.Fields
namespace Go.Proofs.Ytpcogpcpdbhgkaa
open Go Go.ChangeShapes Go.WideShapes Go.ChangeAt Go.RowKit Go.Joins Go.Deep
set_option linter.unusedVariables false
set_option linter.unusedSimpArgs false

theorem bounds_u64 {n : Int} (h : (Lit.int .u64 n).wf = true) : 0 ≤ n ∧ n ≤ 18446744073709551615 := by
  simp [Lit.wf, IntKind.min, IntKind.max, IntKind.signed, IntKind.bits] at h
  omega
theorem bounds_i64 {n : Int} (h : (Lit.int .i64 n).wf = true) : -9223372036854775808 ≤ n ∧ n ≤ 9223372036854775807 := by
  simp [Lit.wf, IntKind.min, IntKind.max, IntKind.signed, IntKind.bits] at h
  omega
theorem bounds_u8 {n : Int} (h : (Lit.int .u8 n).wf = true) : 0 ≤ n ∧ n ≤ 255 := by
  simp [Lit.wf, IntKind.min, IntKind.max, IntKind.signed, IntKind.bits] at h
  omega
section
variable {H : Type} {enc : TypeId × Value → H} {P : Program} {W : World} {base b0 : Nat} {t : TypeId} {v : Value} {d : DataW H} {p : List MemPlace}
theorem open_cfg {f0 f1 f2 : Field} (hs : P.underlying t = some (.struct #[f0, f1, f2])) (hone : oneCellFields P #[f0, f1, f2] = true) (hC : P.cellsOf t = 3) (u0 : P.underlying f0.type = some (.int .i64)) (u1 : P.underlying f1.type = some (.int .i64)) (u2 : P.underlying f2.type = some (.int .i64))
    (hv : Value.okWide P W .any b0 t v) (h : DataW.Trod enc P W base (fun _ => true) true t v d p) :
    ∃ a b c : Int, v = .agg #[.int .i64 a, .int .i64 b, .int .i64 c] ∧ (-9223372036854775808 ≤ a ∧ a ≤ 9223372036854775807) ∧ (-9223372036854775808 ≤ b ∧ b ≤ 9223372036854775807) ∧ (-9223372036854775808 ≤ c ∧ c ≤ 9223372036854775807) := by
  obtain ⟨v0, v1, v2, y0, y1, y2, n, rfl, _, _, h0, h1, h2⟩ := open_agg3 hs hone hC hv h
  obtain ⟨a, e0, _, wa⟩ := DataW.trod_int u0 h0
  obtain ⟨b, e1, _, wb⟩ := DataW.trod_int u1 h1
  obtain ⟨c, e2, _, wc⟩ := DataW.trod_int u2 h2
  simp at e0 e1 e2
  exact ⟨a, b, c, by rw [e0, e1, e2], bounds_i64 wa, bounds_i64 wb, bounds_i64 wc⟩
end
section
variable {H : Type} {enc : TypeId × Value → H} {P : Program} {W : World} {base : Nat} {sp : Nat → Bool} {held : Bool}
theorem one_int {T : TypeId} {q : IntKind} {cs : List Value} {xs : List (DataW H × List MemPlace)} {n j : Nat} {fl : Field} (o : fl.offset = j) (c : P.cellsOf fl.type = 1) (u : P.underlying fl.type = some (.int q)) (hlt : j < cs.length) (hx : j < xs.length)
    (g : DataW.trod enc P W base sp held n fl.type ((cs.drop fl.offset).take (P.cellsOf fl.type)) = xs[j]?) : ∃ a : Int, cs[j]? = some (.int q a) ∧ (Lit.int q a).wf = true := by
  rw [o, c, take1_drop cs j undef hlt, List.getElem?_eq_getElem hx] at g
  obtain ⟨a, e, _, wa⟩ := DataW.trod_int u g
  refine ⟨a, ?_, wa⟩
  simp only [List.cons.injEq, and_true] at e
  rw [List.getD_eq_getElem?_getD, List.getElem?_eq_getElem hlt] at e
  rw [List.getElem?_eq_getElem hlt]
  exact congrArg some e

variable {f0 f1 f2 f3 f4 : Field}
/-- A struct of three ints and two words: its cells. -/
theorem act_cells {e : TypeId} {fuel : Nat} {cs : List Value} {x : DataW H × List MemPlace} (hs : P.underlying e = some (.struct #[f0, f1, f2, f3, f4])) (ho : f0.offset = 0 ∧ f1.offset = 1 ∧ f2.offset = 2 ∧ f3.offset = 3 ∧ f4.offset = 4)
    (hc : P.cellsOf f0.type = 1 ∧ P.cellsOf f1.type = 1 ∧ P.cellsOf f2.type = 1 ∧ P.cellsOf f3.type = 1 ∧ P.cellsOf f4.type = 1)
    (hu : P.underlying f0.type = some (.int .i64) ∧ P.underlying f1.type = some (.int .i64) ∧ P.underlying f2.type = some (.int .i64) ∧ P.underlying f3.type = some (.int .i64) ∧ P.underlying f4.type = some (.int .i64)) (hl : cs.length = 5)
    (h : DataW.trod enc P W base sp held fuel e cs = some x) :
    ∃ k p i o v : Int, cs = [.int .i64 k, .int .i64 p, .int .i64 i, .int .i64 o, .int .i64 v] := by
  obtain ⟨xs, n, _, _, _, hxl, hg⟩ := DataW.trod_struct hs h
  have hxl' : xs.length = 5 := hxl
  obtain ⟨k, ek, _⟩ := one_int (T := e) ho.1 hc.1 hu.1 (by omega) (by omega) (hg 0 f0 rfl)
  obtain ⟨p, ep, _⟩ := one_int (T := e) ho.2.1 hc.2.1 hu.2.1 (by omega) (by omega) (hg 1 f1 rfl)
  obtain ⟨i, ei, _⟩ := one_int (T := e) ho.2.2.1 hc.2.2.1 hu.2.2.1 (by omega) (by omega) (hg 2 f2 rfl)
  obtain ⟨o, eo, _⟩ := one_int (T := e) ho.2.2.2.1 hc.2.2.2.1 hu.2.2.2.1 (by omega) (by omega) (hg 3 f3 rfl)
  obtain ⟨v, ev, wv⟩ := one_int (T := e) ho.2.2.2.2 hc.2.2.2.2 hu.2.2.2.2 (by omega) (by omega) (hg 4 f4 rfl)
  refine ⟨k, p, i, o, v, ?_⟩
  match cs, hl with
  | [c0, c1, c2, c3, c4], _ =>
    simp at ek ep ei eo ev
    rw [ek, ep, ei, eo, ev]
theorem open_ev {b0 : Nat} {t : TypeId} {v : Value} {d : DataW H} {p : List MemPlace} (hs : P.underlying t = some (.struct #[f0, f1, f2, f3, f4])) (ho : f0.offset = 0 ∧ f1.offset = 1 ∧ f2.offset = 2 ∧ f3.offset = 3 ∧ f4.offset = 4)
    (hc : P.cellsOf f0.type = 1 ∧ P.cellsOf f1.type = 1 ∧ P.cellsOf f2.type = 1 ∧ P.cellsOf f3.type = 1 ∧ P.cellsOf f4.type = 1)
    (hu : P.underlying f0.type = some (.int .i64) ∧ P.underlying f1.type = some (.int .i64) ∧ P.underlying f2.type = some (.int .i64) ∧ P.underlying f3.type = some (.int .i64) ∧ P.underlying f4.type = some (.int .i64)) (hC : P.cellsOf t = 5)
    (hv : Value.okWide P W .any b0 t v) (h : DataW.Trod enc P W base sp held t v d p) : ∃ a b c d e : Int, v = .agg #[.int .i64 a, .int .i64 b, .int .i64 c, .int .i64 d, .int .i64 e] := by
  obtain ⟨cs, rfl, hsz⟩ := okWide_struct hs hv
  obtain ⟨fuel, hf⟩ := h
  have hl : cs.toList.length = 5 := by simp [hsz, hC]
  obtain ⟨a, b, c, d, e, hcs⟩ := act_cells hs ho hc hu hl (by simpa [Value.cells] using hf)
  refine ⟨a, b, c, d, e, ?_⟩
  have : cs = #[.int .i64 a, .int .i64 b, .int .i64 c, .int .i64 d, .int .i64 e] := by apply Array.toList_inj.1; simpa using hcs
  rw [this]
end
end Go.Proofs.Ytpcogpcpdbhgkaa
