/- Starting a thread: what follows, one contract a function. -/
import Derived.Test.YtfdpikkinlljlaaGreatMem
import Derived.ProofKit
import Derived.OpenShut
import Derived.Lib.SmallJoins
import Derived.Deep.Fields
import Derived.Test.YtfdpikkinlljlaaGreatPub3
import Derived.Test.YtfdpikkinlljlaaGreatGnd2
import Derived.Deep.SlicePairs
import Derived.Test.YtfdpikkinlljlaaGreatFl
import Derived.Test.YtfdpikkinlljlaaGreatDo
import Derived.Test.YtfdpikkinlljlaaGreatMake
import Derived.Test.YtfdpikkinlljlaaGreatFlRun
import Derived.Stop.Asserts
import Derived.Test.YtfdpikkinlljlaaGreatFlow6
import Derived.Test.YtfdpikkinlljlaaGreatFlow2
import Derived.Test.YtfdpikkinlljlaaGreatLay
import Derived.Deep.RegionWith
import Derived.Test.YtfdpikkinlljlaaGreatCp
import Derived.Test.YtfdpikkinlljlaaGreatPoke
import Derived.Maps.OwnSet
import Derived.Maps.AppendAt
import Derived.OwnWalk
import Derived.ChangeShapes
import Derived.Deep.RegionHeld3
import Derived.Laws.BitsAllLaws
namespace Go.Proofs.YtfdpikkinlljlaaGreat
open Go Go.ChangeShapes Go.WideShapes Go.ChangeAt Go.RowKit Go.Joins Go.Deep
set_option linter.unusedVariables false
set_option maxRecDepth 100000
set_option linter.unusedSimpArgs false

theorem bounds_u64 {n : Int} (h : (Lit.int .u64 n).wf = true) : 0 ≤ n ∧ n ≤ 18446744073709551615 := by
  simp [Lit.wf, IntKind.min, IntKind.max, IntKind.signed, IntKind.bits] at h
  omega
theorem bounds_i64 {n : Int} (h : (Lit.int .i64 n).wf = true) : -9223372036854775808 ≤ n ∧ n ≤ 9223372036854775807 := by
  simp [Lit.wf, IntKind.min, IntKind.max, IntKind.signed, IntKind.bits] at h
  omega
theorem bounds_u8 {n : Int} (h : (Lit.int .u8 n).wf = true) : 0 ≤ n ∧ n ≤ 255 := by
  simp [Lit.wf, IntKind.min, IntKind.max, IntKind.signed, IntKind.bits] at h
  omega
section
variable {H : Type} {enc : TypeId × Value → H} {P : Program} {W : World} {base b0 : Nat} {t : TypeId} {v : Value} {d : DataW H} {p : List MemPlace}
theorem open_cfg {f0 f1 f2 : Field} (hs : P.underlying t = some (.struct #[f0, f1, f2])) (hone : oneCellFields P #[f0, f1, f2] = true) (hC : P.cellsOf t = 3) (u0 : P.underlying f0.type = some (.int .i64)) (u1 : P.underlying f1.type = some (.int .i64)) (u2 : P.underlying f2.type = some (.int .i64))
    (hv : Value.okWide P W .any b0 t v) (h : DataW.Trod enc P W base (fun _ => true) true t v d p) :
    ∃ a b c : Int, v = .agg #[.int .i64 a, .int .i64 b, .int .i64 c] ∧ (-9223372036854775808 ≤ a ∧ a ≤ 9223372036854775807) ∧ (-9223372036854775808 ≤ b ∧ b ≤ 9223372036854775807) ∧ (-9223372036854775808 ≤ c ∧ c ≤ 9223372036854775807) := by
  obtain ⟨v0, v1, v2, y0, y1, y2, n, rfl, _, _, h0, h1, h2⟩ := open_agg3 hs hone hC hv h
  obtain ⟨a, e0, _, wa⟩ := DataW.trod_int u0 h0
  obtain ⟨b, e1, _, wb⟩ := DataW.trod_int u1 h1
  obtain ⟨c, e2, _, wc⟩ := DataW.trod_int u2 h2
  simp at e0 e1 e2
  exact ⟨a, b, c, by rw [e0, e1, e2], bounds_i64 wa, bounds_i64 wb, bounds_i64 wc⟩
theorem open_ins {f0 f1 : Field} (hs : P.underlying t = some (.struct #[f0, f1])) (hone : oneCellFields P #[f0, f1] = true) (hC : P.cellsOf t = 2) (u0 : P.underlying f0.type = some (.int .i64)) (u1 : P.underlying f1.type = some (.int .i64))
    (hv : Value.okWide P W .any b0 t v) (h : DataW.Trod enc P W base (fun _ => true) true t v d p) :
    ∃ a b : Int, v = .agg #[.int .i64 a, .int .i64 b] ∧ (-9223372036854775808 ≤ a ∧ a ≤ 9223372036854775807) ∧ (-9223372036854775808 ≤ b ∧ b ≤ 9223372036854775807) := by
  obtain ⟨v0, v1, y0, y1, n, rfl, _, _, h0, h1⟩ := open_agg2 hs hone hC hv h
  obtain ⟨a, e0, _, wa⟩ := DataW.trod_int u0 h0
  obtain ⟨b, e1, _, wb⟩ := DataW.trod_int u1 h1
  simp at e0 e1
  exact ⟨a, b, by rw [e0, e1], bounds_i64 wa, bounds_i64 wb⟩
theorem open_two {e : TypeId} (ht : P.underlying t = some (.array 2 e)) (he : P.underlying e = some (.int .i64)) (hc : P.cellsOf e = 1) (hC : P.cellsOf t = 2)
    (hv : Value.okWide P W .any b0 t v) (h : DataW.Trod enc P W base (fun _ => true) true t v d p) :
    ∃ a b : Int, v = .agg #[.int .i64 a, .int .i64 b] ∧ (-9223372036854775808 ≤ a ∧ a ≤ 9223372036854775807) ∧ (-9223372036854775808 ≤ b ∧ b ≤ 9223372036854775807) := by
  obtain ⟨cs, rfl, hsz⟩ : ∃ cs, v = .agg cs ∧ cs.size = P.cellsOf t := by
    simp only [Value.okWide, ht] at hv
    obtain ⟨cs, h1, h2, _⟩ := hv
    exact ⟨cs, h1, h2⟩
  obtain ⟨c0, c1, rfl⟩ := array2 (hsz.trans hC)
  obtain ⟨fuel, hf⟩ := h
  obtain ⟨xs, m, _, _, _, hxl, hg⟩ := DataW.trod_array ht hf
  have g0 := hg 0 (by omega)
  have g1 := hg 1 (by omega)
  rw [hc, List.getElem?_eq_getElem (by omega)] at g0 g1
  simp [Value.cells] at g0 g1
  obtain ⟨a, e0, _, wa⟩ := DataW.trod_int he g0
  obtain ⟨b, e1, _, wb⟩ := DataW.trod_int he g1
  simp at e0 e1
  exact ⟨a, b, by rw [e0, e1], bounds_i64 wa, bounds_i64 wb⟩
theorem open_two8 {e : TypeId} (ht : P.underlying t = some (.array 2 e)) (he : P.underlying e = some (.int .u8)) (hc : P.cellsOf e = 1) (hC : P.cellsOf t = 2)
    (hv : Value.okWide P W .any b0 t v) (h : DataW.Trod enc P W base (fun _ => true) true t v d p) :
    ∃ a b : Int, v = .agg #[.int .u8 a, .int .u8 b] ∧ (0 ≤ a ∧ a ≤ 255) ∧ (0 ≤ b ∧ b ≤ 255) := by
  obtain ⟨cs, rfl, hsz⟩ : ∃ cs, v = .agg cs ∧ cs.size = P.cellsOf t := by
    simp only [Value.okWide, ht] at hv
    obtain ⟨cs, h1, h2, _⟩ := hv
    exact ⟨cs, h1, h2⟩
  obtain ⟨c0, c1, rfl⟩ := array2 (hsz.trans hC)
  obtain ⟨fuel, hf⟩ := h
  obtain ⟨xs, m, _, _, _, hxl, hg⟩ := DataW.trod_array ht hf
  have g0 := hg 0 (by omega)
  have g1 := hg 1 (by omega)
  rw [hc, List.getElem?_eq_getElem (by omega)] at g0 g1
  simp [Value.cells] at g0 g1
  obtain ⟨a, e0, _, wa⟩ := DataW.trod_int he g0
  obtain ⟨b, e1, _, wb⟩ := DataW.trod_int he g1
  simp at e0 e1
  exact ⟨a, b, by rw [e0, e1], bounds_u8 wa, bounds_u8 wb⟩
end
end Go.Proofs.YtfdpikkinlljlaaGreat

namespace Go.Proofs.YtfdpikkinlljlaaGreat
open Go Go.ChangeShapes Go.WideShapes Go.ChangeAt Go.RowKit Go.Deep
set_option linter.unusedVariables false
set_option maxRecDepth 100000
set_option linter.unusedSimpArgs false

theorem sees_words {H : Type} {enc : TypeId × Value → H} {P : Program} {W : World} {base b0 : Nat} {t e : TypeId} {v : Value} {d : DataW H} {p : List MemPlace} (ht : P.underlying t = some (.slice e)) (he : P.underlying e = some (.int .u64)) (hc : P.cellsOf e = 1)
    (hv : Value.okWide P W .any b0 t v) (h : DataW.Trod enc P W base (fun _ => true) true t v d p) :
    ∃ (A : Option Addr) (n cap : Nat) (f : Nat → Int), v = .slice A n cap ∧ n ≤ maxLen ∧ (A = none → n = 0 ∧ cap = 0) ∧ SeesU W W.heap.size A n f ∧ ∀ i, i < n → 0 ≤ f i ∧ f i ≤ 18446744073709551615 := by
  obtain ⟨A, n, cap, rfl⟩ := okWide_slice ht hv
  obtain ⟨fuel, hf⟩ := h
  rcases open_ints ht he hc hf with ⟨hcs, _⟩ | ⟨x, l, c, zs, hcs, _, hl, hm, hz, _, hcell, hwz⟩
  · simp [Value.cells] at hcs
    obtain ⟨rfl, rfl, rfl⟩ := hcs
    exact ⟨none, 0, 0, fun _ => 0, rfl, Nat.zero_le _, fun _ => ⟨rfl, rfl⟩, fun h => absurd h (Nat.lt_irrefl 0), fun i hi => absurd hi (Nat.not_lt_zero i)⟩
  · simp [Value.cells] at hcs
    obtain ⟨rfl, rfl, rfl⟩ := hcs
    have hz' : zs.length = cap := by simpa using hz
    refine ⟨some x, n, cap, fun i => zs.getD i 0, rfl, Nat.le_trans hl hm, (fun h => by cases h), ?_, ?_⟩
    · intro hn
      obtain ⟨b, off, spot⟩ := x
      have hs : spot = none := by
        have := hcell 0 (by omega)
        simpa [Addr.add] using World.cell?_spot this
      subst hs
      have hc0 := hcell 0 (by omega)
      simp [Addr.add] at hc0
      refine ⟨b, off, rfl, cell_lt hc0, fun i hi => ?_⟩
      have := hcell i (by omega)
      by_cases h0 : i = 0
      · subst h0; simpa [Addr.add] using this
      · simpa [Addr.add, h0] using this
    · intro i hi
      have : zs.getD i 0 ∈ zs := by
        rw [List.getD_eq_getElem?_getD, List.getElem?_eq_getElem (by omega)]
        exact List.getElem_mem _
      exact bounds_u64 (hwz _ this)


section
variable {H : Type} {enc : TypeId × Value → H} {P : Program} {W : World} {base : Nat} {sp : Nat → Bool} {held : Bool}
theorem one_int {T : TypeId} {q : IntKind} {cs : List Value} {xs : List (DataW H × List MemPlace)} {n j : Nat} {fl : Field} (o : fl.offset = j) (c : P.cellsOf fl.type = 1) (u : P.underlying fl.type = some (.int q)) (hlt : j < cs.length) (hx : j < xs.length)
    (g : DataW.trod enc P W base sp held n fl.type ((cs.drop fl.offset).take (P.cellsOf fl.type)) = xs[j]?) : ∃ a : Int, cs[j]? = some (.int q a) ∧ (Lit.int q a).wf = true := by
  rw [o, c, take1_drop cs j undef hlt, List.getElem?_eq_getElem hx] at g
  obtain ⟨a, e, _, wa⟩ := DataW.trod_int u g
  refine ⟨a, ?_, wa⟩
  simp only [List.cons.injEq, and_true] at e
  rw [List.getD_eq_getElem?_getD, List.getElem?_eq_getElem hlt] at e
  rw [List.getElem?_eq_getElem hlt]
  exact congrArg some e

variable {f0 f1 f2 f3 f4 : Field}
/-- A struct of three ints and two words: its cells. -/
theorem act_cells {e : TypeId} {fuel : Nat} {cs : List Value} {x : DataW H × List MemPlace} (hs : P.underlying e = some (.struct #[f0, f1, f2, f3, f4])) (ho : f0.offset = 0 ∧ f1.offset = 1 ∧ f2.offset = 2 ∧ f3.offset = 3 ∧ f4.offset = 4)
    (hc : P.cellsOf f0.type = 1 ∧ P.cellsOf f1.type = 1 ∧ P.cellsOf f2.type = 1 ∧ P.cellsOf f3.type = 1 ∧ P.cellsOf f4.type = 1)
    (hu : P.underlying f0.type = some (.int .i64) ∧ P.underlying f1.type = some (.int .i64) ∧ P.underlying f2.type = some (.int .i64) ∧ P.underlying f3.type = some (.int .u64) ∧ P.underlying f4.type = some (.int .u64)) (hl : cs.length = 5)
    (h : DataW.trod enc P W base sp held fuel e cs = some x) :
    ∃ k p i o v : Int, cs = [.int .i64 k, .int .i64 p, .int .i64 i, .int .u64 o, .int .u64 v] ∧ 0 ≤ v ∧ v ≤ 18446744073709551615 := by
  obtain ⟨xs, n, _, _, _, hxl, hg⟩ := DataW.trod_struct hs h
  have hxl' : xs.length = 5 := hxl
  obtain ⟨k, ek, _⟩ := one_int (T := e) ho.1 hc.1 hu.1 (by omega) (by omega) (hg 0 f0 rfl)
  obtain ⟨p, ep, _⟩ := one_int (T := e) ho.2.1 hc.2.1 hu.2.1 (by omega) (by omega) (hg 1 f1 rfl)
  obtain ⟨i, ei, _⟩ := one_int (T := e) ho.2.2.1 hc.2.2.1 hu.2.2.1 (by omega) (by omega) (hg 2 f2 rfl)
  obtain ⟨o, eo, _⟩ := one_int (T := e) ho.2.2.2.1 hc.2.2.2.1 hu.2.2.2.1 (by omega) (by omega) (hg 3 f3 rfl)
  obtain ⟨v, ev, wv⟩ := one_int (T := e) ho.2.2.2.2 hc.2.2.2.2 hu.2.2.2.2 (by omega) (by omega) (hg 4 f4 rfl)
  refine ⟨k, p, i, o, v, ?_, bounds_u64 wv⟩
  match cs, hl with
  | [c0, c1, c2, c3, c4], _ =>
    simp at ek ep ei eo ev
    rw [ek, ep, ei, eo, ev]


theorem one_bool {T : TypeId} {cs : List Value} {xs : List (DataW H × List MemPlace)} {n j : Nat} {fl : Field} (o : fl.offset = j) (c : P.cellsOf fl.type = 1) (u : P.underlying fl.type = some .bool) (hlt : j < cs.length) (hx : j < xs.length)
    (g : DataW.trod enc P W base sp held n fl.type ((cs.drop fl.offset).take (P.cellsOf fl.type)) = xs[j]?) : ∃ a : Bool, cs[j]? = some (.bool a) := by
  rw [o, c, take1_drop cs j undef hlt, List.getElem?_eq_getElem hx] at g
  obtain ⟨a, e, _⟩ := DataW.trod_bool u g
  refine ⟨a, ?_⟩
  simp only [List.cons.injEq, and_true] at e
  rw [List.getD_eq_getElem?_getD, List.getElem?_eq_getElem hlt] at e
  rw [List.getElem?_eq_getElem hlt]
  exact congrArg some e

/-- A struct of three ints: its cells. -/
theorem three_cells {e : TypeId} {fuel : Nat} {cs : List Value} {x : DataW H × List MemPlace} (hs : P.underlying e = some (.struct #[f0, f1, f2])) (ho : f0.offset = 0 ∧ f1.offset = 1 ∧ f2.offset = 2)
    (hc : P.cellsOf f0.type = 1 ∧ P.cellsOf f1.type = 1 ∧ P.cellsOf f2.type = 1) (hu : P.underlying f0.type = some (.int .i64) ∧ P.underlying f1.type = some (.int .i64) ∧ P.underlying f2.type = some (.int .i64)) (hl : cs.length = 3)
    (h : DataW.trod enc P W base sp held fuel e cs = some x) : ∃ a b c : Int, cs = [.int .i64 a, .int .i64 b, .int .i64 c] := by
  obtain ⟨xs, n, _, _, _, hxl, hg⟩ := DataW.trod_struct hs h
  have hxl' : xs.length = 3 := hxl
  obtain ⟨k, ek, _⟩ := one_int (T := e) ho.1 hc.1 hu.1 (by omega) (by omega) (hg 0 f0 rfl)
  obtain ⟨p, ep, _⟩ := one_int (T := e) ho.2.1 hc.2.1 hu.2.1 (by omega) (by omega) (hg 1 f1 rfl)
  obtain ⟨i, ei, _⟩ := one_int (T := e) ho.2.2 hc.2.2 hu.2.2 (by omega) (by omega) (hg 2 f2 rfl)
  refine ⟨k, p, i, ?_⟩
  match cs, hl with
  | [c0, c1, c2], _ =>
    simp at ek ep ei
    rw [ek, ep, ei]
/-- A struct of an int and a word: its cells. -/
theorem put_cells {e : TypeId} {fuel : Nat} {cs : List Value} {x : DataW H × List MemPlace} (hs : P.underlying e = some (.struct #[f0, f1])) (ho : f0.offset = 0 ∧ f1.offset = 1)
    (hc : P.cellsOf f0.type = 1 ∧ P.cellsOf f1.type = 1) (hu : P.underlying f0.type = some (.int .i64) ∧ P.underlying f1.type = some (.int .u64)) (hl : cs.length = 2)
    (h : DataW.trod enc P W base sp held fuel e cs = some x) : ∃ a b : Int, cs = [.int .i64 a, .int .u64 b] ∧ 0 ≤ b ∧ b ≤ 18446744073709551615 := by
  obtain ⟨xs, n, _, _, _, hxl, hg⟩ := DataW.trod_struct hs h
  have hxl' : xs.length = 2 := hxl
  obtain ⟨k, ek, _⟩ := one_int (T := e) ho.1 hc.1 hu.1 (by omega) (by omega) (hg 0 f0 rfl)
  obtain ⟨p, ep, wp⟩ := one_int (T := e) ho.2 hc.2 hu.2 (by omega) (by omega) (hg 1 f1 rfl)
  refine ⟨k, p, ?_, bounds_u64 wp⟩
  match cs, hl with
  | [c0, c1], _ =>
    simp at ek ep
    rw [ek, ep]
/-- A poke: a bool and an act. -/
theorem poke_cells {e : TypeId} {g0 g1 : Field} {fuel : Nat} {cs : List Value} {x : DataW H × List MemPlace} (hE : P.underlying e = some (.struct #[g0, g1])) (hgo : g0.offset = 0 ∧ g1.offset = 1) (hgc : P.cellsOf g0.type = 1 ∧ P.cellsOf g1.type = 5) (hgb : P.underlying g0.type = some .bool)
    (hs : P.underlying g1.type = some (.struct #[f0, f1, f2, f3, f4])) (ho : f0.offset = 0 ∧ f1.offset = 1 ∧ f2.offset = 2 ∧ f3.offset = 3 ∧ f4.offset = 4)
    (hc : P.cellsOf f0.type = 1 ∧ P.cellsOf f1.type = 1 ∧ P.cellsOf f2.type = 1 ∧ P.cellsOf f3.type = 1 ∧ P.cellsOf f4.type = 1)
    (hu : P.underlying f0.type = some (.int .i64) ∧ P.underlying f1.type = some (.int .i64) ∧ P.underlying f2.type = some (.int .i64) ∧ P.underlying f3.type = some (.int .u64) ∧ P.underlying f4.type = some (.int .u64)) (hl : cs.length = 6)
    (h : DataW.trod enc P W base sp held fuel e cs = some x) :
    ∃ (z : Bool) (k p i o v : Int), cs = [.bool z, .int .i64 k, .int .i64 p, .int .i64 i, .int .u64 o, .int .u64 v] ∧ 0 ≤ v ∧ v ≤ 18446744073709551615 := by
  obtain ⟨xs, n, _, _, _, hxl, hg⟩ := DataW.trod_struct hE h
  have hxl' : xs.length = 2 := hxl
  obtain ⟨z, ez⟩ := one_bool (T := e) hgo.1 hgc.1 hgb (by omega) (by omega) (hg 0 g0 rfl)
  have g := hg 1 g1 rfl
  rw [hgo.2, hgc.2, List.getElem?_eq_getElem (by omega)] at g
  obtain ⟨k, p, i, o, v, e1, hv⟩ := act_cells hs ho hc hu (by simp; omega) g
  refine ⟨z, k, p, i, o, v, ?_, hv⟩
  match cs, hl with
  | [c0, c1, c2, c3, c4, c5], _ =>
    simp at ez e1
    obtain ⟨r1, r2, r3, r4, r5⟩ := e1
    rw [ez, r1, r2, r3, r4, r5]
/-- An access: three ints, two words and a bool. -/
theorem acc_cells {e : TypeId} {f5 : Field} {fuel : Nat} {cs : List Value} {x : DataW H × List MemPlace} (hs : P.underlying e = some (.struct #[f0, f1, f2, f3, f4, f5])) (ho : f0.offset = 0 ∧ f1.offset = 1 ∧ f2.offset = 2 ∧ f3.offset = 3 ∧ f4.offset = 4 ∧ f5.offset = 5)
    (hc : P.cellsOf f0.type = 1 ∧ P.cellsOf f1.type = 1 ∧ P.cellsOf f2.type = 1 ∧ P.cellsOf f3.type = 1 ∧ P.cellsOf f4.type = 1 ∧ P.cellsOf f5.type = 1)
    (hu : P.underlying f0.type = some (.int .i64) ∧ P.underlying f1.type = some (.int .i64) ∧ P.underlying f2.type = some (.int .i64) ∧ P.underlying f3.type = some (.int .u64) ∧ P.underlying f4.type = some (.int .u64) ∧ P.underlying f5.type = some .bool) (hl : cs.length = 6)
    (h : DataW.trod enc P W base sp held fuel e cs = some x) :
    ∃ (k p i o v : Int) (z : Bool), cs = [.int .i64 k, .int .i64 p, .int .i64 i, .int .u64 o, .int .u64 v, .bool z] ∧ (0 ≤ o ∧ o ≤ 18446744073709551615) ∧ (0 ≤ v ∧ v ≤ 18446744073709551615) := by
  obtain ⟨xs, n, _, _, _, hxl, hg⟩ := DataW.trod_struct hs h
  have hxl' : xs.length = 6 := hxl
  obtain ⟨k, ek, _⟩ := one_int (T := e) ho.1 hc.1 hu.1 (by omega) (by omega) (hg 0 f0 rfl)
  obtain ⟨p, ep, _⟩ := one_int (T := e) ho.2.1 hc.2.1 hu.2.1 (by omega) (by omega) (hg 1 f1 rfl)
  obtain ⟨i, ei, _⟩ := one_int (T := e) ho.2.2.1 hc.2.2.1 hu.2.2.1 (by omega) (by omega) (hg 2 f2 rfl)
  obtain ⟨o, eo, wo⟩ := one_int (T := e) ho.2.2.2.1 hc.2.2.2.1 hu.2.2.2.1 (by omega) (by omega) (hg 3 f3 rfl)
  obtain ⟨v, ev, wv⟩ := one_int (T := e) ho.2.2.2.2.1 hc.2.2.2.2.1 hu.2.2.2.2.1 (by omega) (by omega) (hg 4 f4 rfl)
  obtain ⟨z, ez⟩ := one_bool (T := e) ho.2.2.2.2.2 hc.2.2.2.2.2 hu.2.2.2.2.2 (by omega) (by omega) (hg 5 f5 rfl)
  refine ⟨k, p, i, o, v, z, ?_, bounds_u64 wo, bounds_u64 wv⟩
  match cs, hl with
  | [c0, c1, c2, c3, c4, c5], _ =>
    simp at ek ep ei eo ev ez
    rw [ek, ep, ei, eo, ev, ez]
end

/-- A slice of n elements of k cells each, seen in memory below block B. -/
def SeesC (w : World) (B : Nat) (E : Option Addr) (n k : Nat) (C : Nat → List Value) : Prop :=
  0 < n → ∃ b off : Nat, E = some ⟨b, off, none⟩ ∧ b < B ∧ ∀ j, j < n → ∀ i u, (C j)[i]? = some u → w.cell? ⟨b, off + j * k + i, none⟩ = some u
theorem SeesC.below {w w' : World} {B B' n k : Nat} {E : Option Addr} {C : Nat → List Value} (h : SeesC w B E n k C) (hb : Below B' w w') (hB : B ≤ B') : SeesC w' B E n k C := fun hn => by
  obtain ⟨b, off, e, hlt, hc⟩ := h hn
  exact ⟨b, off, e, hlt, fun j hj i u hu => (hb.cell (p := ⟨b, off + j * k + i, none⟩) (Nat.lt_of_lt_of_le hlt hB)).trans (hc j hj i u hu)⟩
theorem SeesC.more {w : World} {B B' n k : Nat} {E : Option Addr} {C : Nat → List Value} (h : SeesC w B E n k C) (hB : B ≤ B') : SeesC w B' E n k C := fun hn => by
  obtain ⟨b, off, e, hlt, hc⟩ := h hn
  exact ⟨b, off, e, Nat.lt_of_lt_of_le hlt hB, hc⟩

theorem add_plain' (b off k : Nat) : (⟨b, off, none⟩ : Addr).add k = ⟨b, off + k, none⟩ := by
  unfold Addr.add; split <;> simp_all
theorem open_structs {H : Type} {enc : TypeId × Value → H} {P : Program} {W : World} {base : Nat} {t e : TypeId} {fuel k : Nat} {cs : List Value} {x : DataW H × List MemPlace} (Q : List Value → Prop) (ht : P.underlying t = some (.slice e)) (hC : P.cellsOf e = k) (hk : 0 < k)
    (hq : ∀ (f : Nat) (l : List Value) (y : DataW H × List MemPlace), l.length = k → DataW.trod enc P W base (fun _ => true) true f e l = some y → Q l)
    (h : DataW.trod enc P W base (fun _ => true) true fuel t cs = some x) :
    ∃ (A : Option Addr) (n cap : Nat) (C : Nat → List Value), cs = [.slice A n cap] ∧ n ≤ maxLen ∧ (A = none → n = 0 ∧ cap = 0) ∧ SeesC W W.heap.size A n k C ∧ ∀ j, j < n → (C j).length = k ∧ Q (C j) := by
  rcases open_slice ht h with ⟨hcs, _⟩ | ⟨a, l, c, m, q, D, Pl, hcs, _, hl, hm, hmm, _, hx⟩
  · exact ⟨none, 0, 0, fun _ => [], hcs, Nat.zero_le _, fun _ => ⟨rfl, rfl⟩, fun h => absurd h (Nat.lt_irrefl 0), fun i hi => absurd hi (Nat.not_lt_zero i)⟩
  · have hmm' : m = c := by simpa using hmm
    subst hmm'
    have each : ∀ j, j < l → ∃ C : List Value, (∀ i u, C[i]? = some u → W.cell? (a.add (j * k + i)) = some u) ∧ C.length = k ∧ Q C := by
      intro j hj
      obtain ⟨cs', h1, h2⟩ := hx j (by omega)
      rw [hC] at h1
      obtain ⟨_, hlen, hcell⟩ := World.cells?_some h1
      refine ⟨cs', fun i u hu => ?_, hlen, hq _ _ _ hlen h2⟩
      have hi : i < k := by rw [← hlen]; exact (List.getElem?_eq_some_iff.1 hu).1
      have := hcell i hi
      rw [add_add, hu] at this
      exact this
    obtain ⟨C, hy⟩ := choose_lt each
    refine ⟨some a, l, m, C, hcs, Nat.le_trans hl hm, (fun h => by cases h), fun hn => ?_, fun j hj => (hy j hj).2⟩
    obtain ⟨b, off, spot⟩ := a
    have hlen := (hy 0 hn).2.1
    have h0 := (hy 0 hn).1 0 ((C 0)[0]'(by omega)) (List.getElem?_eq_getElem (by omega))
    have hsp : spot = none := by
      simpa [Addr.add] using World.cell?_spot h0
    subst hsp
    rw [add_plain'] at h0
    refine ⟨b, off, rfl, cell_lt h0, fun j hj i u hu => ?_⟩
    have := (hy j hj).1 i u hu
    rw [add_plain'] at this
    rw [Nat.add_assoc]
    exact this

/-- A ground that came in. -/
theorem open_ground {H : Type} {enc : TypeId × Value → H} {W : World} {base b0 : Nat} {v : Value} {d : DataW H} {p : List MemPlace}
    (hv : Value.okWide Tryz.prog W .any b0 26 v) (h : DataW.Trod enc Tryz.prog W base (fun _ => true) true 26 v d p) :
    ∃ (P T G : Int) (E : Option Addr) (m cp : Nat) (a x : Nat → Int), v = .agg #[.int .i64 P, .int .i64 T, .int .i64 G, .slice E m cp] ∧ m ≤ maxLen ∧ SeesP W W.heap.size E m a x ∧ ∀ j, j < m → 0 ≤ x j ∧ x j ≤ 18446744073709551615 := by
  obtain ⟨cs, rfl, hsz⟩ := okWide_struct Tryz.underlying26 hv
  have hl : cs.toList.length = 4 := by
    have : Tryz.prog.cellsOf 26 = 4 := by kernel_rfl
    simpa using hsz.trans this
  obtain ⟨fuel, hf⟩ := h
  obtain ⟨xs, n, _, _, _, hxl, hg⟩ := DataW.trod_struct Tryz.underlying26 hf
  have hxl' : xs.length = 2 := hxl
  have g0 : DataW.trod enc Tryz.prog W base (fun _ => true) true n 23 ((cs.toList.drop 0).take (Tryz.prog.cellsOf 23)) = xs[0]? := hg 0 _ rfl
  have g1 : DataW.trod enc Tryz.prog W base (fun _ => true) true n 24 ((cs.toList.drop 3).take (Tryz.prog.cellsOf 24)) = xs[1]? := hg 1 _ rfl
  rw [List.getElem?_eq_getElem (by omega)] at g0 g1
  rw [show Tryz.prog.cellsOf 23 = 3 by kernel_rfl] at g0
  rw [show Tryz.prog.cellsOf 24 = 1 by kernel_rfl] at g1
  obtain ⟨P, T, G, e1⟩ := three_cells Tryz.underlying23 ⟨rfl, rfl, rfl⟩ ⟨by kernel_rfl, by kernel_rfl, by kernel_rfl⟩ ⟨Tryz.underlying3, Tryz.underlying3, Tryz.underlying3⟩ (by rw [List.length_take, List.length_drop, hl]; rfl) g0
  obtain ⟨E, m, cp, C, e2, hm, hnil, hC, hQ⟩ := open_structs (k := 2) (fun l => ∃ a b : Int, l = [.int .i64 a, .int .u64 b] ∧ 0 ≤ b ∧ b ≤ 18446744073709551615) Tryz.underlying24 (by kernel_rfl) (by omega)
    (fun f l y hl hy => put_cells Tryz.underlying80 ⟨rfl, rfl⟩ ⟨by kernel_rfl, by kernel_rfl⟩ ⟨Tryz.underlying3, Tryz.underlying39⟩ hl hy) g1
  obtain ⟨ab, hab⟩ := choose_lt (p := fun j (q : Int × Int) => C j = [.int .i64 q.1, .int .u64 q.2] ∧ 0 ≤ q.2 ∧ q.2 ≤ 18446744073709551615) (fun j hj => by obtain ⟨_, a, b, e, hb⟩ := hQ j hj; exact ⟨(a, b), e, hb⟩)
  refine ⟨P, T, G, E, m, cp, fun j => (ab j).1, fun j => (ab j).2, ?_, hm, ?_, fun j hj => (hab j hj).2⟩
  · have : cs.toList = [.int .i64 P, .int .i64 T, .int .i64 G, .slice E m cp] := by
      match hcs : cs.toList, hl with
      | [c0, c1, c2, c3], _ =>
        rw [hcs] at e1 e2
        simp at e1 e2
        obtain ⟨r1, r2, r3⟩ := e1
        rw [r1, r2, r3, e2]
    rw [← Array.toArray_toList (xs := cs), this]
  · intro hp
    obtain ⟨b, off, e, hlt, hc⟩ := hC hp
    refine ⟨b, off, e, hlt, fun j hj => ?_⟩
    have e3 := (hab j hj).1
    exact ⟨hc j hj 0 _ (by rw [e3]; rfl), hc j hj 1 _ (by rw [e3]; rfl)⟩
end Go.Proofs.YtfdpikkinlljlaaGreat

namespace Go.Proofs.YtfdpikkinlljlaaGreat
open Go Go.RowKit
set_option linter.unusedVariables false
set_option maxRecDepth 100000
set_option linter.unusedSimpArgs false

theorem lay_ne {w : World} {A : Option Addr} {cap c b n cl : Nat} {s : St} {P T G : Int} {T' : TypeId} (hL : Lay w cl P T G) (hT : T' ≠ 177) (hI : Is w T' A cap c b n s) (hn : 0 < n) : cl ≠ c ∧ cl ≠ b := by
  have h1 : w.heap[cl]? = some (.cells #[.int .i64 P, .int .i64 T, .int .i64 G] 177 (0, 0)) := hL
  constructor
  · rintro rfl
    have h2 := hI.main
    rw [h1] at h2
    simp at h2
    exact hT h2.2.symm
  · rintro rfl
    obtain ⟨_, _, cs, h2, h3⟩ := hI.wds hn
    rw [h1] at h2
    simp at h2

def Rd.blk (c : Nat) (cs : Array Value) (T : TypeId) : Rd := ⟨[c], fun w => Blk w c cs T, fun w w' l h hb hk => h.but hb (hk c (by simp))⟩

structure LawOn {σ : Type} (I : MI σ) (R : Rd) (W0 w : World) (A A' : Option Addr) (cap cap' c b c' b' n : Nat) (s s2 : St) (Ag : Option Addr) (capg m : Nat) (g : Nat → Int) (x : Nat) (t : σ) (L E : List Nat) : Prop where
  poke : PokeOn W0 w A A' cap cap' c b c' b' n s s2 Ag capg m g (L ++ E)
  mach : I w x t L
  rd : R.P w
  rb : ∀ k ∈ R.B, k ∈ E
  apart : ∀ k ∈ L, k ∉ E

section
variable {σ : Type} {I : MI σ} {M : PM σ} {R Rm : Rd} {W0 w w' : World} {A A' : Option Addr} {cap cap' c b c' b' n : Nat} {s s2 : St} {Ag : Option Addr} {capg m : Nat} {g : Nat → Int} {x : Nat} {t : σ} {L E : List Nat}
theorem LawOn.still (hG : I.Good M) (h : LawOn I R W0 w A A' cap cap' c b c' b' n s s2 Ag capg m g x t L E) (hb : Below w.heap.size w w') : LawOn I R W0 w' A A' cap cap' c b c' b' n s s2 Ag capg m g x t L E :=
  ⟨h.poke.still hb, hG.below h.mach hb, R.below h.rd hb, h.rb, h.apart⟩
theorem LawOn.pokes (hG : I.Good M) (h : LawOn I R W0 w A A' cap cap' c b c' b' n s s Ag capg m g x t L E) (hn : n ≤ 1000000) (hl : Low s 1000000) (k who i old new : Int) (hnb : 0 ≤ new ∧ new ≤ 18446744073709551615) :
    Calls Tryz.prog 12 #[.pointer (some ⟨c, 0, none⟩), .pointer (some ⟨c', 0, none⟩), .agg #[.int .i64 k, .int .i64 who, .int .i64 i, .int .u64 old, .int .u64 new]] w fun e w' => e = .returned (.bool true) ∧ LawOn I R W0 w' A A' cap cap' c b c' b' n (actS k who i old new n s) (actS k who i old new n s) Ag capg m g x t L E := by
  refine (h.poke.poke hn hl k who i old new hnb).mono ?_
  rintro e w' ⟨rfl, hO, hB⟩
  have hfar : ∀ z ∈ L ++ E, z ∉ [c, b, c', b'] := fun z hz => by
    obtain ⟨h1, h2, h3, h4⟩ := (h.poke.far z hz).1
    simp [h1, h2, h3, h4]
  exact ⟨rfl, hO, hG.keep h.mach hB (fun k hk => hfar k (List.mem_append_left _ hk)), R.keep _ _ _ h.rd hB (fun k hk => hfar k (List.mem_append_right _ (h.rb k hk))), h.rb, h.apart⟩
theorem LawOn.turn (hG : I.Good M) (h : LawOn I R W0 w A A' cap cap' c b c' b' n s s Ag capg m g x t L E) (hok : ∀ a, M.ax t = some a → a.Ok) (hn : n ≤ 1000000) (hl : Low s 1000000) (hm : m ≤ 1000) (who : Int) :
    Calls Tryz.prog 20 #[.pointer (some ⟨c', 0, none⟩), .agg (runCells (.slice Ag m capg) (M.rn t m)), .int .i64 who] w fun e w' => ∃ Ag' capg', e = .returned (.slice Ag' (M.goM n t s m) capg') ∧ LawOn I R W0 w' A A' cap cap' c b c' b' n s (M.goS who n t s) Ag' capg' (M.goM n t s m) (M.goG n t s g m) x t L E := by
  refine (pm_turn h.poke hok hn hl hm who).mono ?_
  rintro e w' ⟨Ag', capg', rfl, hO, hB⟩
  exact ⟨Ag', capg', rfl, hO, hG.keep h.mach hB (fun k hk => h.poke.apart (List.mem_append_left _ hk)), R.keep _ _ _ h.rd hB (fun k hk => h.poke.apart (List.mem_append_right _ (h.rb k hk))), h.rb, h.apart⟩
theorem LawOn.step (hG : I.Good M) {F : Nat} {who : Int} (hS : Steps M I Rm F who) (hRm : ∀ w, R.P w → Rm.P w) (hRb : ∀ k ∈ Rm.B, k ∈ R.B) (h : LawOn I R W0 w A A' cap cap' c b c' b' n s s2 Ag capg m g x t L E) (hn : n ≤ 1000000) (hl : Low s 1000000) :
    Calls Tryz.prog F #[.pointer (some ⟨x, 0, none⟩), .pointer (some ⟨c, 0, none⟩)] w fun e w' => (∃ z, e = .returned (.bool z)) ∧ ∃ L', LawOn I R W0 w' A A' cap cap' c b c' b' n (M.goS who n t s) s2 Ag capg m g x (M.goT n t s) L' E := by
  have hE : ∀ k ∈ E, k ∉ L := fun k hk hl => h.apart k hl hk
  have hfar := h.poke.far
  refine (hS w A cap c b n s x t L h.mach (hRm w h.rd) h.poke.mem hn hl (fun k hk => ⟨(hfar k (List.mem_append_left _ hk)).1.1, (hfar k (List.mem_append_left _ hk)).1.2.1, fun hr => h.apart k hk (h.rb k (hRb k hr))⟩)
    ⟨fun hr => (hfar c (List.mem_append_right _ (h.rb c (hRb c hr)))).1.1 rfl, fun hr => (hfar b (List.mem_append_right _ (h.rb b (hRb b hr)))).1.2.1 rfl⟩).mono ?_
  rintro e w' ⟨rfl, L', a1, a2, a3, a4⟩
  have hlt := hG.lt a1
  refine ⟨⟨_, rfl⟩, L', h.poke.stepped a2 a3 (fun k hk => ?_) (fun k hk => ?_), a1, R.keep _ _ _ h.rd a3 (fun k hk => ?_), h.rb, fun k hk hke => ?_⟩
  · simp only [List.mem_cons] at hk
    rcases hk with rfl | rfl | hk
    · exact .inl rfl
    · exact .inr (.inl rfl)
    · exact .inr (.inr (List.mem_append_left _ hk))
  · rcases List.mem_append.1 hk with hk | hk
    · refine ⟨?_, hlt k hk⟩
      rcases a4 k hk with h1 | h1
      · exact .inl (List.mem_append_left _ h1)
      · exact .inr h1
    · exact ⟨.inl (List.mem_append_right _ hk), Nat.lt_of_lt_of_le (hfar k (List.mem_append_right _ hk)).2.1 a3.size⟩
  · have hke := h.rb k hk
    have := hfar k (List.mem_append_right _ hke)
    simp only [List.mem_cons, not_or]
    exact ⟨this.1.1, this.1.2.1, hE k hke⟩
  · rcases a4 k hk with h1 | h1
    · exact h.apart k h1 hke
    · have := (hfar k (List.mem_append_right _ hke)).2.1
      omega
/-- How it begins. -/
theorem LawOn.begin {w2 w3 : World} (hT : Two w2 A A' cap cap' c b c' b' n s) (hb : Below w2.heap.size w2 w3) (hB2 : Below W0.heap.size W0 w2) (hup : W0.heap.size ≤ c ∧ W0.heap.size ≤ b ∧ W0.heap.size ≤ c' ∧ W0.heap.size ≤ b')
    (hm : I w3 x t L) (hG : I.Good M) (hL : ∀ k ∈ L, w2.heap.size ≤ k) (hr : R.P w3) (hrb : ∀ k ∈ R.B, k ∈ E) (hE : ∀ k ∈ E, (k ≠ c ∧ k ≠ b ∧ k ≠ c' ∧ k ≠ b') ∧ k < w2.heap.size ∧ W0.heap.size ≤ k) :
    LawOn I R W0 w3 A A' cap cap' c b c' b' n s s none 0 0 (fun _ => 0) x t L E := by
  have k1 := hT.m.lt
  have k2 := hT.m.bl
  have k3 := hT.r.lt
  have k4 := hT.r.bl
  have hsz := hB2.size
  have hlt := hG.lt hm
  refine ⟨⟨hT.m.below hb, hT.r.below hb, hT.ne, ⟨World.ownsRow_nil _ _ _ _⟩, (fun k e => by cases e), (fun k e => by cases e), fun k hk => ?_, hup, hB2.trans (hb.mono hsz)⟩, hm, hr, hrb, fun k hk hke => ?_⟩
  · rcases List.mem_append.1 hk with hk | hk
    · have h1 := hL k hk
      exact ⟨⟨by omega, by omega, by omega, by omega⟩, hlt k hk, Nat.le_trans hsz h1⟩
    · obtain ⟨h1, h2, h3⟩ := hE k hk
      exact ⟨h1, Nat.lt_of_lt_of_le h2 hb.size, h3⟩
  · have h1 := hL k hk
    have h2 := (hE k hke).2.1
    omega
end

theorem sameB_any (w : World) (A B : Option Addr) (n cap cap' : Nat) (f : Nat → Int) (hn : n ≤ 1000000) (hA : SeesU w w.heap.size A n f) (hB : SeesU w w.heap.size B n f) :
    Calls Tryz.prog 23 #[.slice A n cap, .slice B n cap'] w fun e w' => e = .returned (.bool true) ∧ Below w.heap.size w w' :=
  (same_any w A B n cap cap' f hn hA hB).mono fun e w' ⟨he, m, hm⟩ => ⟨he, by rw [hm]; exact Below.drewN' (Below.refl _ _) m⟩
theorem SeesP.up {w : World} {E : Option Addr} {m : Nat} {a v : Nat → Int} (hs : SeesP w w.heap.size E m a v) (o : Obj) : SeesP (w.alloc o) (w.alloc o).heap.size E m a v := fun hp => by
  obtain ⟨b0, off, e, hlt, hc⟩ := hs hp
  have hB : Below w.heap.size w (w.alloc o) := (Below.refl _ _).alloc (Nat.le_refl _) _
  exact ⟨b0, off, e, by simp; omega, fun j hj => ⟨(hB.cell (p := ⟨b0, off + j * 2, none⟩) hlt).trans (hc j hj).1, (hB.cell (p := ⟨b0, off + j * 2 + 1, none⟩) hlt).trans (hc j hj).2⟩⟩

def runL (v : Value) (r : Rn) : List Value := [v, .int .i64 r.used, .bool r.stop, .int .i64 r.k, .int .i64 0, .int .i64 r.i, .int .u64 r.old, .int .u64 r.new, .bool false, .bool r.sleep]
theorem RunOn.range {w : World} {x : Nat} {A : Option Addr} {cap m : Nat} {g : Nat → Int} {r : Rn} (h : RunOn w x A cap m g r) : w.rangeAt x 0 (runL (.slice A m cap) r) := by
  intro j v e
  rw [Nat.zero_add]
  exact h.blk.cell j (by rw [show runCells (.slice A m cap) r = (runL (.slice A m cap) r).toArray from rfl]; simpa using e)

theorem run_starts {w : World} {A : Option Addr} {cap m : Nat} {g : Nat → Int} (hG : GotOn w A cap m g) (hm : m ≤ 1000) : RunOn (w.alloc (.cells (runL (.slice A m cap) rn0).toArray 48)) w.heap.size A cap m g rn0 := by
  refine ⟨Blk.new _ _ _, hG.but (But.of_below (l := []) ((Below.refl _ _).alloc (Nat.le_refl _) _)) (fun b e => by simp), fun b e => ?_, by omega, Nat.zero_le _⟩
  rcases hG.form with ⟨e0, -, -⟩ | ⟨gb, e0, hl⟩
  · rw [e0] at e; cases e
  · rw [e0] at e; cases e; simp; omega
theorem wd_lock (lk f : Int) (h : 0 ≤ lk ∧ lk ≤ 1) (hf : 0 ≤ f ∧ f ≤ 2) : wd 0 2 3 lk f = 3 * lk + f := by
  unfold wd
  rw [if_pos ⟨h.1, by omega, hf.1, by omega⟩]
  omega

/-- The cells of a poke. -/
def pokeL (z : Bool) (k p i o v : Int) : List Value := [.bool z, .int .i64 k, .int .i64 p, .int .i64 i, .int .u64 o, .int .u64 v]
structure Pk where
  z : Bool
  k : Int
  p : Int
  i : Int
  o : Int
  v : Int
def pkC (P : Nat → Pk) (j : Nat) : List Value := pokeL (P j).z (P j).k (P j).p (P j).i (P j).o (P j).v


open Go.ChangeShapes Go.WideShapes Go.ChangeAt Go.Deep in
/-- Pokes that came in. -/
theorem open_pokes {H : Type} {enc : TypeId × Value → H} {W : World} {base b0 : Nat} {v : Value} {d : DataW H} {p : List MemPlace}
    (hv : Value.okWide Tryz.prog W .any b0 29 v) (h : DataW.Trod enc Tryz.prog W base (fun _ => true) true 29 v d p) :
    ∃ (F : Option Addr) (mp cq : Nat) (Pks : Nat → Pk), v = .slice F mp cq ∧ mp ≤ maxLen ∧ SeesC W W.heap.size F mp 6 (pkC Pks) ∧ ∀ j, j < mp → 0 ≤ (Pks j).v ∧ (Pks j).v ≤ 18446744073709551615 := by
  obtain ⟨A, n, cap, rfl⟩ := okWide_slice Tryz.underlying29 hv
  obtain ⟨fuel, hf⟩ := h
  obtain ⟨F, mp, cq, C, e2, hm, hnil, hC, hQ⟩ := open_structs (k := 6) (fun l => ∃ (z : Bool) (k p i o v : Int), l = [.bool z, .int .i64 k, .int .i64 p, .int .i64 i, .int .u64 o, .int .u64 v] ∧ 0 ≤ v ∧ v ≤ 18446744073709551615) Tryz.underlying29 (by kernel_rfl) (by omega)
    (fun f l y hl hy => poke_cells Tryz.underlying43 ⟨rfl, rfl⟩ ⟨by kernel_rfl, by kernel_rfl⟩ Tryz.underlying4 Tryz.underlying41 ⟨rfl, rfl, rfl, rfl, rfl⟩ ⟨by kernel_rfl, by kernel_rfl, by kernel_rfl, by kernel_rfl, by kernel_rfl⟩ ⟨Tryz.underlying3, Tryz.underlying3, Tryz.underlying3, Tryz.underlying39, Tryz.underlying39⟩ hl hy) hf
  have hinh : Inhabited Pk := ⟨⟨false, 0, 0, 0, 0, 0⟩⟩
  obtain ⟨ab, hab⟩ := choose_lt (p := fun j (q : Pk) => C j = pokeL q.z q.k q.p q.i q.o q.v ∧ 0 ≤ q.v ∧ q.v ≤ 18446744073709551615) (fun j hj => by obtain ⟨_, z, k, p, i, o, v, e, hb⟩ := hQ j hj; exact ⟨⟨z, k, p, i, o, v⟩, e, hb⟩)
  have e3 : Value.slice A n cap = .slice F mp cq := by simpa [Value.cells] using e2
  refine ⟨F, mp, cq, ab, e3, hm, ?_, fun j hj => (hab j hj).2⟩
  intro hp
  obtain ⟨b, off, e, hlt, hc⟩ := hC hp
  exact ⟨b, off, e, hlt, fun j hj i u hu => hc j hj i u (by rw [(hab j hj).1]; exact hu)⟩

end Go.Proofs.YtfdpikkinlljlaaGreat

namespace Go.Proofs.YtfdpikkinlljlaaGreat
open Go Go.RowKit
set_option linter.unusedVariables false
set_option maxRecDepth 100000
set_option linter.unusedSimpArgs false

theorem set_twice {cs : Array Value} (u v : Value) : (cs.setIfInBounds 1 u).setIfInBounds 1 v = cs.setIfInBounds 1 v := by
  apply Array.ext_getElem?
  intro i
  rw [Array.getElem?_setIfInBounds, Array.getElem?_setIfInBounds, Array.getElem?_setIfInBounds, Array.size_setIfInBounds]
  by_cases h : 1 = i
  · simp [h]
  · simp [h]


theorem stepby_acq : StepBy 346 := by
  intro w x mv M h
  go_enter Tryz.func346, Tryz.ntmps346
  go_wp2_with fail
  go_at_call 85; refine h.mono ?_; rintro e w1 ⟨z, rfl, h1⟩
  go_wp2_with fail
  go_ret
  exact ⟨z, rfl, h1⟩
theorem step_nil_acq (w : World) (mv : Value) : Calls Tryz.prog 346 #[.pointer none, mv] w fun e w' => e = .returned (.bool true) ∧ w = w' := by
  go_enter Tryz.func346, Tryz.ntmps346
  go_wp2_with fail
  go_ret
  exact ⟨rfl, rfl⟩
theorem done_acq (w : World) (x : Nat) (nx : Option Addr) (hc : w.cell? ⟨x, 1, none⟩ = some (.pointer nx)) :
    Calls Tryz.prog 345 #[.pointer (some ⟨x, 0, none⟩)] w fun e w' => e = .returned (.bool nx.isNone) ∧ w = w' := by
  have h := fdone_any w x nx hc
  go_enter Tryz.func345, Tryz.ntmps345
  go_wp2_with fail
  go_at_call 80; refine h.mono ?_; rintro e w1 ⟨rfl, rfl⟩
  go_wp2_with fail
  go_ret
  exact ⟨rfl, rfl⟩
theorem done_nil_acq (w : World) : Calls Tryz.prog 345 #[.pointer none] w fun e w' => e = .returned (.bool true) ∧ w = w' := by
  go_enter Tryz.func345, Tryz.ntmps345
  go_wp2_with fail
  go_ret
  exact ⟨rfl, rfl⟩

theorem stepby_rel : StepBy 352 := by
  intro w x mv M h
  go_enter Tryz.func352, Tryz.ntmps352
  go_wp2_with fail
  go_at_call 85; refine h.mono ?_; rintro e w1 ⟨z, rfl, h1⟩
  go_wp2_with fail
  go_ret
  exact ⟨z, rfl, h1⟩
theorem step_nil_rel (w : World) (mv : Value) : Calls Tryz.prog 352 #[.pointer none, mv] w fun e w' => e = .returned (.bool true) ∧ w = w' := by
  go_enter Tryz.func352, Tryz.ntmps352
  go_wp2_with fail
  go_ret
  exact ⟨rfl, rfl⟩
theorem done_rel (w : World) (x : Nat) (nx : Option Addr) (hc : w.cell? ⟨x, 1, none⟩ = some (.pointer nx)) :
    Calls Tryz.prog 351 #[.pointer (some ⟨x, 0, none⟩)] w fun e w' => e = .returned (.bool nx.isNone) ∧ w = w' := by
  have h := fdone_any w x nx hc
  go_enter Tryz.func351, Tryz.ntmps351
  go_wp2_with fail
  go_at_call 80; refine h.mono ?_; rintro e w1 ⟨rfl, rfl⟩
  go_wp2_with fail
  go_ret
  exact ⟨rfl, rfl⟩
theorem done_nil_rel (w : World) : Calls Tryz.prog 351 #[.pointer none] w fun e w' => e = .returned (.bool true) ∧ w = w' := by
  go_enter Tryz.func351, Tryz.ntmps351
  go_wp2_with fail
  go_ret
  exact ⟨rfl, rfl⟩




theorem stepby_look : StepBy 337 := by
  intro w x mv M h
  go_enter Tryz.func337, Tryz.ntmps337
  go_wp2_with fail
  go_at_call 85; refine h.mono ?_; rintro e w1 ⟨z, rfl, h1⟩
  go_wp2_with fail
  go_ret
  exact ⟨z, rfl, h1⟩
theorem step_nil_look (w : World) (mv : Value) : Calls Tryz.prog 337 #[.pointer none, mv] w fun e w' => e = .returned (.bool true) ∧ w = w' := by
  go_enter Tryz.func337, Tryz.ntmps337
  go_wp2_with fail
  go_ret
  exact ⟨rfl, rfl⟩
theorem done_look (w : World) (x : Nat) (nx : Option Addr) (hc : w.cell? ⟨x, 1, none⟩ = some (.pointer nx)) :
    Calls Tryz.prog 336 #[.pointer (some ⟨x, 0, none⟩)] w fun e w' => e = .returned (.bool nx.isNone) ∧ w = w' := by
  have h := fdone_any w x nx hc
  go_enter Tryz.func336, Tryz.ntmps336
  go_wp2_with fail
  go_at_call 80; refine h.mono ?_; rintro e w1 ⟨rfl, rfl⟩
  go_wp2_with fail
  go_ret
  exact ⟨rfl, rfl⟩
theorem done_nil_look (w : World) : Calls Tryz.prog 336 #[.pointer none] w fun e w' => e = .returned (.bool true) ∧ w = w' := by
  go_enter Tryz.func336, Tryz.ntmps336
  go_wp2_with fail
  go_ret
  exact ⟨rfl, rfl⟩

theorem stepby_qput : StepBy 335 := by
  intro w x mv M h
  go_enter Tryz.func335, Tryz.ntmps335
  go_wp2_with fail
  go_at_call 85; refine h.mono ?_; rintro e w1 ⟨z, rfl, h1⟩
  go_wp2_with fail
  go_ret
  exact ⟨z, rfl, h1⟩
theorem step_nil_qput (w : World) (mv : Value) : Calls Tryz.prog 335 #[.pointer none, mv] w fun e w' => e = .returned (.bool true) ∧ w = w' := by
  go_enter Tryz.func335, Tryz.ntmps335
  go_wp2_with fail
  go_ret
  exact ⟨rfl, rfl⟩
theorem done_qput (w : World) (x : Nat) (nx : Option Addr) (hc : w.cell? ⟨x, 1, none⟩ = some (.pointer nx)) :
    Calls Tryz.prog 334 #[.pointer (some ⟨x, 0, none⟩)] w fun e w' => e = .returned (.bool nx.isNone) ∧ w = w' := by
  have h := fdone_any w x nx hc
  go_enter Tryz.func334, Tryz.ntmps334
  go_wp2_with fail
  go_at_call 80; refine h.mono ?_; rintro e w1 ⟨rfl, rfl⟩
  go_wp2_with fail
  go_ret
  exact ⟨rfl, rfl⟩
theorem done_nil_qput (w : World) : Calls Tryz.prog 334 #[.pointer none] w fun e w' => e = .returned (.bool true) ∧ w = w' := by
  go_enter Tryz.func334, Tryz.ntmps334
  go_wp2_with fail
  go_ret
  exact ⟨rfl, rfl⟩



theorem stepby_rput : StepBy 350 := by
  intro w x mv M h
  go_enter Tryz.func350, Tryz.ntmps350
  go_wp2_with fail
  go_at_call 85; refine h.mono ?_; rintro e w1 ⟨z, rfl, h1⟩
  go_wp2_with fail
  go_ret
  exact ⟨z, rfl, h1⟩
theorem step_nil_rput (w : World) (mv : Value) : Calls Tryz.prog 350 #[.pointer none, mv] w fun e w' => e = .returned (.bool true) ∧ w = w' := by
  go_enter Tryz.func350, Tryz.ntmps350
  go_wp2_with fail
  go_ret
  exact ⟨rfl, rfl⟩
theorem done_rput (w : World) (x : Nat) (nx : Option Addr) (hc : w.cell? ⟨x, 1, none⟩ = some (.pointer nx)) :
    Calls Tryz.prog 349 #[.pointer (some ⟨x, 0, none⟩)] w fun e w' => e = .returned (.bool nx.isNone) ∧ w = w' := by
  have h := fdone_any w x nx hc
  go_enter Tryz.func349, Tryz.ntmps349
  go_wp2_with fail
  go_at_call 80; refine h.mono ?_; rintro e w1 ⟨rfl, rfl⟩
  go_wp2_with fail
  go_ret
  exact ⟨rfl, rfl⟩
theorem done_nil_rput (w : World) : Calls Tryz.prog 349 #[.pointer none] w fun e w' => e = .returned (.bool true) ∧ w = w' := by
  go_enter Tryz.func349, Tryz.ntmps349
  go_wp2_with fail
  go_ret
  exact ⟨rfl, rfl⟩



theorem stepby_ipp : StepBy 341 := by
  intro w x mv M h
  go_enter Tryz.func341, Tryz.ntmps341
  go_wp2_with fail
  go_at_call 85; refine h.mono ?_; rintro e w1 ⟨z, rfl, h1⟩
  go_wp2_with fail
  go_ret
  exact ⟨z, rfl, h1⟩
theorem step_nil_ipp (w : World) (mv : Value) : Calls Tryz.prog 341 #[.pointer none, mv] w fun e w' => e = .returned (.bool true) ∧ w = w' := by
  go_enter Tryz.func341, Tryz.ntmps341
  go_wp2_with fail
  go_ret
  exact ⟨rfl, rfl⟩
theorem done_ipp (w : World) (x : Nat) (nx : Option Addr) (hc : w.cell? ⟨x, 1, none⟩ = some (.pointer nx)) :
    Calls Tryz.prog 340 #[.pointer (some ⟨x, 0, none⟩)] w fun e w' => e = .returned (.bool nx.isNone) ∧ w = w' := by
  have h := fdone_any w x nx hc
  go_enter Tryz.func340, Tryz.ntmps340
  go_wp2_with fail
  go_at_call 80; refine h.mono ?_; rintro e w1 ⟨rfl, rfl⟩
  go_wp2_with fail
  go_ret
  exact ⟨rfl, rfl⟩
theorem done_nil_ipp (w : World) : Calls Tryz.prog 340 #[.pointer none] w fun e w' => e = .returned (.bool true) ∧ w = w' := by
  go_enter Tryz.func340, Tryz.ntmps340
  go_wp2_with fail
  go_ret
  exact ⟨rfl, rfl⟩

theorem stepby_ipg : StepBy 344 := by
  intro w x mv M h
  go_enter Tryz.func344, Tryz.ntmps344
  go_wp2_with fail
  go_at_call 85; refine h.mono ?_; rintro e w1 ⟨z, rfl, h1⟩
  go_wp2_with fail
  go_ret
  exact ⟨z, rfl, h1⟩
theorem step_nil_ipg (w : World) (mv : Value) : Calls Tryz.prog 344 #[.pointer none, mv] w fun e w' => e = .returned (.bool true) ∧ w = w' := by
  go_enter Tryz.func344, Tryz.ntmps344
  go_wp2_with fail
  go_ret
  exact ⟨rfl, rfl⟩
theorem done_ipg (w : World) (x : Nat) (nx : Option Addr) (hc : w.cell? ⟨x, 1, none⟩ = some (.pointer nx)) :
    Calls Tryz.prog 343 #[.pointer (some ⟨x, 0, none⟩)] w fun e w' => e = .returned (.bool nx.isNone) ∧ w = w' := by
  have h := fdone_any w x nx hc
  go_enter Tryz.func343, Tryz.ntmps343
  go_wp2_with fail
  go_at_call 80; refine h.mono ?_; rintro e w1 ⟨rfl, rfl⟩
  go_wp2_with fail
  go_ret
  exact ⟨rfl, rfl⟩
theorem done_nil_ipg (w : World) : Calls Tryz.prog 343 #[.pointer none] w fun e w' => e = .returned (.bool true) ∧ w = w' := by
  go_enter Tryz.func343, Tryz.ntmps343
  go_wp2_with fail
  go_ret
  exact ⟨rfl, rfl⟩


theorem stepby_img : StepBy 348 := by
  intro w x mv M h
  go_enter Tryz.func348, Tryz.ntmps348
  go_wp2_with fail
  go_at_call 85; refine h.mono ?_; rintro e w1 ⟨z, rfl, h1⟩
  go_wp2_with fail
  go_ret
  exact ⟨z, rfl, h1⟩
theorem step_nil_img (w : World) (mv : Value) : Calls Tryz.prog 348 #[.pointer none, mv] w fun e w' => e = .returned (.bool true) ∧ w = w' := by
  go_enter Tryz.func348, Tryz.ntmps348
  go_wp2_with fail
  go_ret
  exact ⟨rfl, rfl⟩
theorem done_img (w : World) (x : Nat) (nx : Option Addr) (hc : w.cell? ⟨x, 1, none⟩ = some (.pointer nx)) :
    Calls Tryz.prog 347 #[.pointer (some ⟨x, 0, none⟩)] w fun e w' => e = .returned (.bool nx.isNone) ∧ w = w' := by
  have h := fdone_any w x nx hc
  go_enter Tryz.func347, Tryz.ntmps347
  go_wp2_with fail
  go_at_call 80; refine h.mono ?_; rintro e w1 ⟨rfl, rfl⟩
  go_wp2_with fail
  go_ret
  exact ⟨rfl, rfl⟩
theorem done_nil_img (w : World) : Calls Tryz.prog 347 #[.pointer none] w fun e w' => e = .returned (.bool true) ∧ w = w' := by
  go_enter Tryz.func347, Tryz.ntmps347
  go_wp2_with fail
  go_ret
  exact ⟨rfl, rfl⟩

theorem stepby_wst : StepBy 339 := by
  intro w x mv M h
  go_enter Tryz.func339, Tryz.ntmps339
  go_wp2_with fail
  go_at_call 85; refine h.mono ?_; rintro e w1 ⟨z, rfl, h1⟩
  go_wp2_with fail
  go_ret
  exact ⟨z, rfl, h1⟩
theorem step_nil_wst (w : World) (mv : Value) : Calls Tryz.prog 339 #[.pointer none, mv] w fun e w' => e = .returned (.bool true) ∧ w = w' := by
  go_enter Tryz.func339, Tryz.ntmps339
  go_wp2_with fail
  go_ret
  exact ⟨rfl, rfl⟩
theorem done_wst (w : World) (x : Nat) (nx : Option Addr) (hc : w.cell? ⟨x, 1, none⟩ = some (.pointer nx)) :
    Calls Tryz.prog 338 #[.pointer (some ⟨x, 0, none⟩)] w fun e w' => e = .returned (.bool nx.isNone) ∧ w = w' := by
  have h := fdone_any w x nx hc
  go_enter Tryz.func338, Tryz.ntmps338
  go_wp2_with fail
  go_at_call 80; refine h.mono ?_; rintro e w1 ⟨rfl, rfl⟩
  go_wp2_with fail
  go_ret
  exact ⟨rfl, rfl⟩
theorem done_nil_wst (w : World) : Calls Tryz.prog 338 #[.pointer none] w fun e w' => e = .returned (.bool true) ∧ w = w' := by
  go_enter Tryz.func338, Tryz.ntmps338
  go_wp2_with fail
  go_ret
  exact ⟨rfl, rfl⟩

theorem stepby_wwk : StepBy 333 := by
  intro w x mv M h
  go_enter Tryz.func333, Tryz.ntmps333
  go_wp2_with fail
  go_at_call 85; refine h.mono ?_; rintro e w1 ⟨z, rfl, h1⟩
  go_wp2_with fail
  go_ret
  exact ⟨z, rfl, h1⟩
theorem step_nil_wwk (w : World) (mv : Value) : Calls Tryz.prog 333 #[.pointer none, mv] w fun e w' => e = .returned (.bool true) ∧ w = w' := by
  go_enter Tryz.func333, Tryz.ntmps333
  go_wp2_with fail
  go_ret
  exact ⟨rfl, rfl⟩
theorem done_wwk (w : World) (x : Nat) (nx : Option Addr) (hc : w.cell? ⟨x, 1, none⟩ = some (.pointer nx)) :
    Calls Tryz.prog 332 #[.pointer (some ⟨x, 0, none⟩)] w fun e w' => e = .returned (.bool nx.isNone) ∧ w = w' := by
  have h := fdone_any w x nx hc
  go_enter Tryz.func332, Tryz.ntmps332
  go_wp2_with fail
  go_at_call 80; refine h.mono ?_; rintro e w1 ⟨rfl, rfl⟩
  go_wp2_with fail
  go_ret
  exact ⟨rfl, rfl⟩
theorem done_nil_wwk (w : World) : Calls Tryz.prog 332 #[.pointer none] w fun e w' => e = .returned (.bool true) ∧ w = w' := by
  go_enter Tryz.func332, Tryz.ntmps332
  go_wp2_with fail
  go_ret
  exact ⟨rfl, rfl⟩

theorem stepby_nwk : StepBy 354 := by
  intro w x mv M h
  go_enter Tryz.func354, Tryz.ntmps354
  go_wp2_with fail
  go_at_call 85; refine h.mono ?_; rintro e w1 ⟨z, rfl, h1⟩
  go_wp2_with fail
  go_ret
  exact ⟨z, rfl, h1⟩
theorem step_nil_nwk (w : World) (mv : Value) : Calls Tryz.prog 354 #[.pointer none, mv] w fun e w' => e = .returned (.bool true) ∧ w = w' := by
  go_enter Tryz.func354, Tryz.ntmps354
  go_wp2_with fail
  go_ret
  exact ⟨rfl, rfl⟩
theorem done_nwk (w : World) (x : Nat) (nx : Option Addr) (hc : w.cell? ⟨x, 1, none⟩ = some (.pointer nx)) :
    Calls Tryz.prog 353 #[.pointer (some ⟨x, 0, none⟩)] w fun e w' => e = .returned (.bool nx.isNone) ∧ w = w' := by
  have h := fdone_any w x nx hc
  go_enter Tryz.func353, Tryz.ntmps353
  go_wp2_with fail
  go_at_call 80; refine h.mono ?_; rintro e w1 ⟨rfl, rfl⟩
  go_wp2_with fail
  go_ret
  exact ⟨rfl, rfl⟩
theorem done_nil_nwk (w : World) : Calls Tryz.prog 353 #[.pointer none] w fun e w' => e = .returned (.bool true) ∧ w = w' := by
  go_enter Tryz.func353, Tryz.ntmps353
  go_wp2_with fail
  go_ret
  exact ⟨rfl, rfl⟩

end Go.Proofs.YtfdpikkinlljlaaGreat

namespace Go.Proofs.YtfdpikkinlljlaaGreat
open Go Go.RowKit
set_option linter.unusedVariables false
set_option maxRecDepth 100000
set_option linter.unusedSimpArgs false

theorem isD_acq (v : Value) (xT : TypeId) (w : World) : (Instr.typeAssert (.iface 209 v) xT 245 true).run Tryz.prog w = .ok (.tuple #[.iface 209 v, .bool true]) w := run_typeAssert_hasB Tryz.underlying245 (by kernel_rfl) v xT w
theorem eqIIn_acq (w : World) (fuel : Nat) (v : Value) : (Op.equalIn (fuel + 1) 203 (.iface 209 v) .nilIface).run Tryz.prog w = .ok false w := by
  simp only [Op.equalIn, Sem.run_bind, run_underlying Tryz.underlying203, Result.andThen_ok]
  rfl
theorem eqI_acq (v : Value) (w : World) : (binOp .eql 203 (.iface 209 v) .nilIface).run Tryz.prog w = .ok (.bool false) w := by
  have h := eqIIn_acq w 9999 v
  simp only [binOp]
  simp [Op.equal, Op.maxDepth, h]
theorem neqI_acq (v : Value) (w : World) : (binOp .neq 203 (.iface 209 v) .nilIface).run Tryz.prog w = .ok (.bool true) w := by
  have h := eqIIn_acq w 9999 v
  simp only [binOp]
  simp [Op.equal, Op.maxDepth, h]
theorem isdone_acq (w : World) (x : Nat) (nx : Option Addr) (hc : w.cell? ⟨x, 1, none⟩ = some (.pointer nx)) :
    Calls Tryz.prog 150 #[.iface 209 (.pointer (some ⟨x, 0, none⟩))] w fun e w' => e = .returned (.bool nx.isNone) ∧ w = w' := by
  have h1 := isD_acq
  have h2 := eqI_acq
  have hD := done_acq w x nx hc
  go_enter Tryz.func150, Tryz.ntmps150
  go_wp2_with fail
  go_at_call 345; refine hD.mono ?_; rintro e w1 ⟨rfl, rfl⟩
  go_wp2_with fail
  go_ret
  exact ⟨rfl, rfl⟩

theorem frun0_acq (w : World) (c x : Nat) (cs : Array Value) (T : TypeId) (fv : Value) (nx : Addr) (h : Blk w c cs T) (hs : 2 ≤ cs.size) (hf : Fv fv) (hxc : x ≠ c) (hx : w.cell? ⟨x, 1, none⟩ = some (.pointer (some nx))) :
    Calls Tryz.prog 98 #[.pointer (some ⟨c, 0, none⟩), .iface 209 (.pointer (some ⟨x, 0, none⟩)), fv] w fun e w' => (∃ v, e = .returned v) ∧ ∃ q g, CameBox w w' c cs T (fun v => comCells 0 0 0 0 0 false (.iface 209 (.pointer (some ⟨x, 0, none⟩))) v false false) fv q g := by
  have c1 := h.cell 1 (Array.getElem?_eq_getElem (by omega))
  have f1 := h.fro 1
  have hlt := h.lt
  have h1 := h.set 1 (.pointer none)
  have c2 := h1.cell 1 (v := .pointer none) (by rw [Array.getElem?_setIfInBounds, if_pos rfl, if_pos (by omega)])
  have f2 := h1.fro 1
  have hB1 : But [c] w (w.setCell ⟨c, 1, none⟩ (.pointer none)) := (But.refl _ w).set (g := c) (.inl (by simp)) 1 _
  have hsz : (w.setCell ⟨c, 1, none⟩ (.pointer none)).heap.size = w.heap.size := size_set _ _ _
  have hD := isdone_acq (w.setCell ⟨c, 1, none⟩ (.pointer none)) x (some nx) (by
    rw [show (w.setCell ⟨c, 1, none⟩ (.pointer none)).cell? ⟨x, 1, none⟩ = w.cell? ⟨x, 1, none⟩ by simp only [World.cell?]; rw [heap_set_ne w hxc 1 _]]
    exact hx)
  have hU := fun w => untold_any w fv hf
  have HH : Hid (Blk (w.setCell ⟨c, 1, none⟩ (.pointer none)) c (cs.setIfInBounds 1 (.pointer none)) T ∧ But [c] w (w.setCell ⟨c, 1, none⟩ (.pointer none))) := ⟨h1, hB1⟩
  clear h h1 hB1 hx
  go_enter Tryz.func98, Tryz.ntmps98
  go_wp2_with fail
  generalize w.setCell ⟨c, 1, none⟩ (.pointer none) = W at *
  go_at_call 150; refine hD.mono ?_; rintro e w1 ⟨rfl, rfl⟩
  go_wp2_with fail
  go_at_call 140; refine (hU _).mono ?_; rintro e w2 ⟨rfl, rfl⟩
  have hg := Blk.new W #[fv] 1
  have hW2 : Blk (W.alloc (.cells #[fv] 1)) c (cs.setIfInBounds 1 (.pointer none)) T := HH.out.1.al _
  have hsz2 : Hid ((W.alloc (.cells #[fv] 1)).heap.size = w.heap.size + 1) := (by rw [World.size_alloc, hsz] : (W.alloc (.cells #[fv] 1)).heap.size = w.heap.size + 1)
  have hB2 : But [c] w (W.alloc (.cells #[fv] 1)) := HH.out.2.alloc _
  rw [hsz] at hg ⊢
  have HG : Hid (Blk (W.alloc (.cells #[fv] 1)) w.heap.size #[fv] 1 ∧ Blk (W.alloc (.cells #[fv] 1)) c (cs.setIfInBounds 1 (.pointer none)) T ∧ But [c] w (W.alloc (.cells #[fv] 1))) := ⟨hg, hW2, hB2⟩
  have c3 := hW2.cell 1 (v := .pointer none) (by rw [Array.getElem?_setIfInBounds, if_pos rfl, if_pos (by omega)])
  have f3 := hW2.fro 1
  clear hD hU c1 f1 c2 f2 hg hW2 hB2
  generalize W.alloc (.cells #[fv] 1) = W2 at *
  have hlt2 : c < W2.heap.size := by have := hsz2.out; omega
  clear hsz HH
  go_wp2_with fail
  go_end0
  obtain ⟨g1, g2, g3⟩ := HG.out
  have hsz2 := hsz2.out
  refine ⟨⟨_, rfl⟩, W2.heap.size, w.heap.size, ⟨⟨by omega, ?_, ?_, ?_⟩, Nat.le_refl _, ?_, by omega⟩⟩
  · have := (g2.set 1 (.pointer (some ⟨W2.heap.size, 0, none⟩))).al (.cells (comCells 0 0 0 0 0 false (.iface 209 (.pointer (some ⟨x, 0, none⟩))) (.func (.func 175) #[] #[.pointer (some ⟨w.heap.size, 0, none⟩)]) false false) 205)
    rw [set_twice] at this
    exact this
  · have := Blk.new (W2.setCell ⟨c, 1, none⟩ (.pointer (some ⟨W2.heap.size, 0, none⟩))) (comCells 0 0 0 0 0 false (.iface 209 (.pointer (some ⟨x, 0, none⟩))) (.func (.func 175) #[] #[.pointer (some ⟨w.heap.size, 0, none⟩)]) false false) 205
    rw [size_set] at this
    exact this
  · exact (g3.set (g := c) (.inl (by simp)) 1 _).alloc _
  · exact (g1.setne (by omega) 1 _).al _

theorem act0_acq (w : World) (q cm x : Nat) (who : Int) (thn : Value) (z : Bool) (Mw : World → Prop) (hq : Blk w q (comCells 0 0 0 0 0 false (.iface 209 (.pointer (some ⟨x, 0, none⟩))) thn false false) 205)
    (hS : ∀ W, But [q] w W → Blk W q (comCells 0 0 0 0 0 false (.iface 209 (.pointer (some ⟨x, 0, none⟩))) thn false true) 205 → Calls Tryz.prog 346 #[.pointer (some ⟨x, 0, none⟩), .pointer (some ⟨cm, 0, none⟩)] W fun e w' => e = .returned (.bool z) ∧ Blk w' q (comCells 0 0 0 0 0 false (.iface 209 (.pointer (some ⟨x, 0, none⟩))) thn false true) 205 ∧ Mw w') :
    Calls Tryz.prog 139 #[.pointer (some ⟨q, 0, none⟩), .int .i64 who, .pointer (some ⟨cm, 0, none⟩)] w fun e w' => e = .returned (.tuple #[.int .u64 0, .bool z]) ∧ ∃ w1, Mw w1 ∧ Blk w1 q (comCells 0 0 0 0 0 false (.iface 209 (.pointer (some ⟨x, 0, none⟩))) thn false true) 205 ∧ w' = w1.setCell ⟨q, 9, none⟩ (.bool false) := by
  have hn := neqI_acq
  have hbm := Blk.new w #[.pointer (some ⟨cm, 0, none⟩)] 31
  have hq1 := hq.al (.cells #[.pointer (some ⟨cm, 0, none⟩)] 31)
  have hqlt := hq.lt
  have k6 := hq1.cell 6 (v := .iface 209 (.pointer (some ⟨x, 0, none⟩))) rfl
  have hask : Calls Tryz.prog 172 #[.pointer (some ⟨q, 0, none⟩), .func (.func 173) #[] #[.pointer (some ⟨w.heap.size, 0, none⟩)]] (w.alloc (.cells #[.pointer (some ⟨cm, 0, none⟩)] 31)) fun e w' => e = .returned (.bool z) ∧ ∃ w1, Mw w1 ∧ Blk w1 q (comCells 0 0 0 0 0 false (.iface 209 (.pointer (some ⟨x, 0, none⟩))) thn false true) 205 ∧ w' = w1.setCell ⟨q, 9, none⟩ (.bool false) := by
    have hne : w.heap.size ≠ q := by omega
    have k9 := hq1.cell 9 (v := .bool false) rfl
    have f9 := hq1.fro 9
    have hq2 := hq1.set 9 (.bool true)
    have l6 := hq2.cell 6 (v := .iface 209 (.pointer (some ⟨x, 0, none⟩))) rfl
    have hb2 := hbm.setne hne 9 (.bool true)
    have b0 := hb2.cell 0 (v := .pointer (some ⟨cm, 0, none⟩)) rfl
    have hst := hS ((w.alloc (.cells #[.pointer (some ⟨cm, 0, none⟩)] 31)).setCell ⟨q, 9, none⟩ (.bool true)) (((But.refl [q] w).alloc _).set (g := q) (.inl (by simp)) 9 _) hq2
    have hrun : Calls Tryz.prog 173 #[.iface 209 (.pointer (some ⟨x, 0, none⟩)), .pointer (some ⟨w.heap.size, 0, none⟩)] ((w.alloc (.cells #[.pointer (some ⟨cm, 0, none⟩)] 31)).setCell ⟨q, 9, none⟩ (.bool true)) fun e w' => e = .returned (.bool z) ∧ Blk w' q (comCells 0 0 0 0 0 false (.iface 209 (.pointer (some ⟨x, 0, none⟩))) thn false true) 205 ∧ Mw w' := by
      clear hS hq hbm hq1 k6 k9 f9 hq2 l6 hb2 hqlt hne
      generalize (w.alloc (.cells #[.pointer (some ⟨cm, 0, none⟩)] 31)).setCell ⟨q, 9, none⟩ (.bool true) = W at *
      go_enter Tryz.func173, Tryz.ntmps173
      go_wp2_with fail
      go_at_call 346; refine hst.mono ?_; rintro e w1 ⟨rfl, h1, h2⟩
      go_wp2_with fail
      go_ret
      exact ⟨rfl, h1, h2⟩
    clear hS hq hbm hq1 hq2 hb2 hst b0 hqlt
    go_enter Tryz.func172, Tryz.ntmps172
    go_wp2_with fail
    generalize (w.alloc (.cells #[.pointer (some ⟨cm, 0, none⟩)] 31)).setCell ⟨q, 9, none⟩ (.bool true) = W at *
    go_at_call 173; refine hrun.mono ?_; rintro e w1 ⟨rfl, h1, h2⟩
    have m9 := h1.cell 9 (v := .bool true) rfl
    have g9 := h1.fro 9
    clear hrun l6 k9 f9 k6
    go_wp2_with fail
    go_ret
    exact ⟨rfl, w1, h2, h1, rfl⟩
  clear hS hq hq1 hbm
  go_enter Tryz.func139, Tryz.ntmps139
  go_wp2_with fail
  generalize w.alloc (.cells #[.pointer (some ⟨cm, 0, none⟩)] 31) = W at *
  go_at_call 172; refine hask.mono ?_; rintro e w1 ⟨rfl, h1⟩
  clear hask k6
  go_wp2_with fail
  go_returns
  exact ⟨rfl, h1⟩

theorem frun_acq : RunCome 209 := fun w c y cs T fv nx h hs hf hyc hx => frun0_acq w c y cs T fv nx h hs hf hyc hx
theorem act_acq : ActRun 209 346 := fun w q cm y g who z Mw hq hS => act0_acq w q cm y who _ z Mw hq hS
end Go.Proofs.YtfdpikkinlljlaaGreat

namespace Go.Proofs.YtfdpikkinlljlaaGreat
open Go Go.RowKit
set_option linter.unusedVariables false
set_option maxRecDepth 100000
set_option linter.unusedSimpArgs false

theorem isD_rel (v : Value) (xT : TypeId) (w : World) : (Instr.typeAssert (.iface 252 v) xT 245 true).run Tryz.prog w = .ok (.tuple #[.iface 252 v, .bool true]) w := run_typeAssert_hasB Tryz.underlying245 (by kernel_rfl) v xT w
theorem eqIIn_rel (w : World) (fuel : Nat) (v : Value) : (Op.equalIn (fuel + 1) 203 (.iface 252 v) .nilIface).run Tryz.prog w = .ok false w := by
  simp only [Op.equalIn, Sem.run_bind, run_underlying Tryz.underlying203, Result.andThen_ok]
  rfl
theorem eqI_rel (v : Value) (w : World) : (binOp .eql 203 (.iface 252 v) .nilIface).run Tryz.prog w = .ok (.bool false) w := by
  have h := eqIIn_rel w 9999 v
  simp only [binOp]
  simp [Op.equal, Op.maxDepth, h]
theorem neqI_rel (v : Value) (w : World) : (binOp .neq 203 (.iface 252 v) .nilIface).run Tryz.prog w = .ok (.bool true) w := by
  have h := eqIIn_rel w 9999 v
  simp only [binOp]
  simp [Op.equal, Op.maxDepth, h]
theorem isdone_rel (w : World) (x : Nat) (nx : Option Addr) (hc : w.cell? ⟨x, 1, none⟩ = some (.pointer nx)) :
    Calls Tryz.prog 150 #[.iface 252 (.pointer (some ⟨x, 0, none⟩))] w fun e w' => e = .returned (.bool nx.isNone) ∧ w = w' := by
  have h1 := isD_rel
  have h2 := eqI_rel
  have hD := done_rel w x nx hc
  go_enter Tryz.func150, Tryz.ntmps150
  go_wp2_with fail
  go_at_call 351; refine hD.mono ?_; rintro e w1 ⟨rfl, rfl⟩
  go_wp2_with fail
  go_ret
  exact ⟨rfl, rfl⟩

theorem frun0_rel (w : World) (c x : Nat) (cs : Array Value) (T : TypeId) (fv : Value) (nx : Addr) (h : Blk w c cs T) (hs : 2 ≤ cs.size) (hf : Fv fv) (hxc : x ≠ c) (hx : w.cell? ⟨x, 1, none⟩ = some (.pointer (some nx))) :
    Calls Tryz.prog 98 #[.pointer (some ⟨c, 0, none⟩), .iface 252 (.pointer (some ⟨x, 0, none⟩)), fv] w fun e w' => (∃ v, e = .returned v) ∧ ∃ q g, CameBox w w' c cs T (fun v => comCells 0 0 0 0 0 false (.iface 252 (.pointer (some ⟨x, 0, none⟩))) v false false) fv q g := by
  have c1 := h.cell 1 (Array.getElem?_eq_getElem (by omega))
  have f1 := h.fro 1
  have hlt := h.lt
  have h1 := h.set 1 (.pointer none)
  have c2 := h1.cell 1 (v := .pointer none) (by rw [Array.getElem?_setIfInBounds, if_pos rfl, if_pos (by omega)])
  have f2 := h1.fro 1
  have hB1 : But [c] w (w.setCell ⟨c, 1, none⟩ (.pointer none)) := (But.refl _ w).set (g := c) (.inl (by simp)) 1 _
  have hsz : (w.setCell ⟨c, 1, none⟩ (.pointer none)).heap.size = w.heap.size := size_set _ _ _
  have hD := isdone_rel (w.setCell ⟨c, 1, none⟩ (.pointer none)) x (some nx) (by
    rw [show (w.setCell ⟨c, 1, none⟩ (.pointer none)).cell? ⟨x, 1, none⟩ = w.cell? ⟨x, 1, none⟩ by simp only [World.cell?]; rw [heap_set_ne w hxc 1 _]]
    exact hx)
  have hU := fun w => untold_any w fv hf
  have HH : Hid (Blk (w.setCell ⟨c, 1, none⟩ (.pointer none)) c (cs.setIfInBounds 1 (.pointer none)) T ∧ But [c] w (w.setCell ⟨c, 1, none⟩ (.pointer none))) := ⟨h1, hB1⟩
  clear h h1 hB1 hx
  go_enter Tryz.func98, Tryz.ntmps98
  go_wp2_with fail
  generalize w.setCell ⟨c, 1, none⟩ (.pointer none) = W at *
  go_at_call 150; refine hD.mono ?_; rintro e w1 ⟨rfl, rfl⟩
  go_wp2_with fail
  go_at_call 140; refine (hU _).mono ?_; rintro e w2 ⟨rfl, rfl⟩
  have hg := Blk.new W #[fv] 1
  have hW2 : Blk (W.alloc (.cells #[fv] 1)) c (cs.setIfInBounds 1 (.pointer none)) T := HH.out.1.al _
  have hsz2 : Hid ((W.alloc (.cells #[fv] 1)).heap.size = w.heap.size + 1) := (by rw [World.size_alloc, hsz] : (W.alloc (.cells #[fv] 1)).heap.size = w.heap.size + 1)
  have hB2 : But [c] w (W.alloc (.cells #[fv] 1)) := HH.out.2.alloc _
  rw [hsz] at hg ⊢
  have HG : Hid (Blk (W.alloc (.cells #[fv] 1)) w.heap.size #[fv] 1 ∧ Blk (W.alloc (.cells #[fv] 1)) c (cs.setIfInBounds 1 (.pointer none)) T ∧ But [c] w (W.alloc (.cells #[fv] 1))) := ⟨hg, hW2, hB2⟩
  have c3 := hW2.cell 1 (v := .pointer none) (by rw [Array.getElem?_setIfInBounds, if_pos rfl, if_pos (by omega)])
  have f3 := hW2.fro 1
  clear hD hU c1 f1 c2 f2 hg hW2 hB2
  generalize W.alloc (.cells #[fv] 1) = W2 at *
  have hlt2 : c < W2.heap.size := by have := hsz2.out; omega
  clear hsz HH
  go_wp2_with fail
  go_end0
  obtain ⟨g1, g2, g3⟩ := HG.out
  have hsz2 := hsz2.out
  refine ⟨⟨_, rfl⟩, W2.heap.size, w.heap.size, ⟨⟨by omega, ?_, ?_, ?_⟩, Nat.le_refl _, ?_, by omega⟩⟩
  · have := (g2.set 1 (.pointer (some ⟨W2.heap.size, 0, none⟩))).al (.cells (comCells 0 0 0 0 0 false (.iface 252 (.pointer (some ⟨x, 0, none⟩))) (.func (.func 175) #[] #[.pointer (some ⟨w.heap.size, 0, none⟩)]) false false) 205)
    rw [set_twice] at this
    exact this
  · have := Blk.new (W2.setCell ⟨c, 1, none⟩ (.pointer (some ⟨W2.heap.size, 0, none⟩))) (comCells 0 0 0 0 0 false (.iface 252 (.pointer (some ⟨x, 0, none⟩))) (.func (.func 175) #[] #[.pointer (some ⟨w.heap.size, 0, none⟩)]) false false) 205
    rw [size_set] at this
    exact this
  · exact (g3.set (g := c) (.inl (by simp)) 1 _).alloc _
  · exact (g1.setne (by omega) 1 _).al _

theorem act0_rel (w : World) (q cm x : Nat) (who : Int) (thn : Value) (z : Bool) (Mw : World → Prop) (hq : Blk w q (comCells 0 0 0 0 0 false (.iface 252 (.pointer (some ⟨x, 0, none⟩))) thn false false) 205)
    (hS : ∀ W, But [q] w W → Blk W q (comCells 0 0 0 0 0 false (.iface 252 (.pointer (some ⟨x, 0, none⟩))) thn false true) 205 → Calls Tryz.prog 352 #[.pointer (some ⟨x, 0, none⟩), .pointer (some ⟨cm, 0, none⟩)] W fun e w' => e = .returned (.bool z) ∧ Blk w' q (comCells 0 0 0 0 0 false (.iface 252 (.pointer (some ⟨x, 0, none⟩))) thn false true) 205 ∧ Mw w') :
    Calls Tryz.prog 139 #[.pointer (some ⟨q, 0, none⟩), .int .i64 who, .pointer (some ⟨cm, 0, none⟩)] w fun e w' => e = .returned (.tuple #[.int .u64 0, .bool z]) ∧ ∃ w1, Mw w1 ∧ Blk w1 q (comCells 0 0 0 0 0 false (.iface 252 (.pointer (some ⟨x, 0, none⟩))) thn false true) 205 ∧ w' = w1.setCell ⟨q, 9, none⟩ (.bool false) := by
  have hn := neqI_rel
  have hbm := Blk.new w #[.pointer (some ⟨cm, 0, none⟩)] 31
  have hq1 := hq.al (.cells #[.pointer (some ⟨cm, 0, none⟩)] 31)
  have hqlt := hq.lt
  have k6 := hq1.cell 6 (v := .iface 252 (.pointer (some ⟨x, 0, none⟩))) rfl
  have hask : Calls Tryz.prog 172 #[.pointer (some ⟨q, 0, none⟩), .func (.func 173) #[] #[.pointer (some ⟨w.heap.size, 0, none⟩)]] (w.alloc (.cells #[.pointer (some ⟨cm, 0, none⟩)] 31)) fun e w' => e = .returned (.bool z) ∧ ∃ w1, Mw w1 ∧ Blk w1 q (comCells 0 0 0 0 0 false (.iface 252 (.pointer (some ⟨x, 0, none⟩))) thn false true) 205 ∧ w' = w1.setCell ⟨q, 9, none⟩ (.bool false) := by
    have hne : w.heap.size ≠ q := by omega
    have k9 := hq1.cell 9 (v := .bool false) rfl
    have f9 := hq1.fro 9
    have hq2 := hq1.set 9 (.bool true)
    have l6 := hq2.cell 6 (v := .iface 252 (.pointer (some ⟨x, 0, none⟩))) rfl
    have hb2 := hbm.setne hne 9 (.bool true)
    have b0 := hb2.cell 0 (v := .pointer (some ⟨cm, 0, none⟩)) rfl
    have hst := hS ((w.alloc (.cells #[.pointer (some ⟨cm, 0, none⟩)] 31)).setCell ⟨q, 9, none⟩ (.bool true)) (((But.refl [q] w).alloc _).set (g := q) (.inl (by simp)) 9 _) hq2
    have hrun : Calls Tryz.prog 173 #[.iface 252 (.pointer (some ⟨x, 0, none⟩)), .pointer (some ⟨w.heap.size, 0, none⟩)] ((w.alloc (.cells #[.pointer (some ⟨cm, 0, none⟩)] 31)).setCell ⟨q, 9, none⟩ (.bool true)) fun e w' => e = .returned (.bool z) ∧ Blk w' q (comCells 0 0 0 0 0 false (.iface 252 (.pointer (some ⟨x, 0, none⟩))) thn false true) 205 ∧ Mw w' := by
      clear hS hq hbm hq1 k6 k9 f9 hq2 l6 hb2 hqlt hne
      generalize (w.alloc (.cells #[.pointer (some ⟨cm, 0, none⟩)] 31)).setCell ⟨q, 9, none⟩ (.bool true) = W at *
      go_enter Tryz.func173, Tryz.ntmps173
      go_wp2_with fail
      go_at_call 352; refine hst.mono ?_; rintro e w1 ⟨rfl, h1, h2⟩
      go_wp2_with fail
      go_ret
      exact ⟨rfl, h1, h2⟩
    clear hS hq hbm hq1 hq2 hb2 hst b0 hqlt
    go_enter Tryz.func172, Tryz.ntmps172
    go_wp2_with fail
    generalize (w.alloc (.cells #[.pointer (some ⟨cm, 0, none⟩)] 31)).setCell ⟨q, 9, none⟩ (.bool true) = W at *
    go_at_call 173; refine hrun.mono ?_; rintro e w1 ⟨rfl, h1, h2⟩
    have m9 := h1.cell 9 (v := .bool true) rfl
    have g9 := h1.fro 9
    clear hrun l6 k9 f9 k6
    go_wp2_with fail
    go_ret
    exact ⟨rfl, w1, h2, h1, rfl⟩
  clear hS hq hq1 hbm
  go_enter Tryz.func139, Tryz.ntmps139
  go_wp2_with fail
  generalize w.alloc (.cells #[.pointer (some ⟨cm, 0, none⟩)] 31) = W at *
  go_at_call 172; refine hask.mono ?_; rintro e w1 ⟨rfl, h1⟩
  clear hask k6
  go_wp2_with fail
  go_returns
  exact ⟨rfl, h1⟩

theorem frun_rel : RunCome 252 := fun w c y cs T fv nx h hs hf hyc hx => frun0_rel w c y cs T fv nx h hs hf hyc hx
theorem act_rel : ActRun 252 352 := fun w q cm y g who z Mw hq hS => act0_rel w q cm y who _ z Mw hq hS
end Go.Proofs.YtfdpikkinlljlaaGreat

namespace Go.Proofs.YtfdpikkinlljlaaGreat
open Go Go.RowKit
set_option linter.unusedVariables false
set_option maxRecDepth 100000
set_option linter.unusedSimpArgs false

theorem CameAt.undrew {w w' : World} {c q : Nat} {cs com : Array Value} {T : TypeId} (h : CameAt w.drew w' c cs T com q) : CameAt w w' c cs T com q := ⟨h.fresh, h.own, h.com, ((But.refl _ w).drew).trans h.but⟩
theorem CameBox.undrew {w w' : World} {c q g : Nat} {cs : Array Value} {com : Value → Array Value} {fv : Value} {T : TypeId} (h : CameBox w.drew w' c cs T com fv q g) : CameBox w w' c cs T com fv q g := ⟨h.at'.undrew, h.fresh, h.box, h.ne⟩

def acqCells (who : Int) (nx : Option Addr) (sv ow turn : Int) (known : Bool) : Array Value := #[.int .i64 who, .pointer nx, .int .i64 sv, .int .i64 ow, .int .u64 turn, .bool known]
def relCells (who : Int) (nx : Option Addr) (sv : Int) : Array Value := #[.int .i64 who, .pointer nx, .int .i64 sv]

theorem wait_any (w : World) (x : Nat) (who sv ow turn : Int) (nx : Option Addr) (known : Bool) (h : Blk w x (acqCells who nx sv ow turn known) 242) :
    Calls Tryz.prog 204 #[.pointer (some ⟨x, 0, none⟩)] w fun e w' => (∃ v, e = .returned v) ∧ ∃ q, CameAt w w' x (acqCells who nx sv ow turn known) 242 (comCells 1 0 sv 0 0 false .nilIface (.func (.func 220) #[.pointer (some ⟨x, 0, none⟩)] #[]) false false) q := by
  have H := load_come w.drew x _ 242 sv h.drew (by simp [acqCells]) 220 #[.pointer (some ⟨x, 0, none⟩)] #[]
  have c2 := h.cell 2 (v := .int .i64 sv) rfl
  clear h
  go_enter Tryz.func204, Tryz.ntmps204
  go_wp2_with fail
  go_region_with (go_at_call 67; refine H.mono ?_; rintro e w1 ⟨⟨v, rfl⟩, q, hC⟩)
  all_goals
    go_wp2_with fail
    go_end0
    exact ⟨⟨_, rfl⟩, q, hC.undrew⟩

theorem wrap_u64 {a : Int} (h : 0 ≤ a ∧ a ≤ 18446744073709551615) : IntKind.u64.wrap a = a := by
  have e : IntKind.u64.wrap a = a % 18446744073709551616 := by simp [IntKind.wrap, IntKind.bits, IntKind.signed]
  rw [e]
  omega
/-- The turn that a ticket draws. -/
def turnOf (a : Int) : Int := (a + 4294967295) % 4294967296

theorem draw_any (w : World) (x : Nat) (who sv ow turn a : Int) (nx : Option Addr) (known : Bool) (h : Blk w x (acqCells who nx sv ow turn known) 242) (ha : 0 ≤ a ∧ a ≤ 18446744073709551615) :
    Calls Tryz.prog 187 #[.pointer (some ⟨x, 0, none⟩), .int .u64 a] w fun e w' => (∃ v, e = .returned v) ∧ ∃ q, CameAt w w' x (acqCells who nx sv ow (turnOf a) true) 242 (comCells 1 0 sv 0 0 false .nilIface (.func (.func 220) #[.pointer (some ⟨x, 0, none⟩)] #[]) false false) q := by
  have c4 := h.cell 4 (v := .int .u64 turn) rfl
  have c5 := h.cell 5 (v := .bool known) rfl
  have f4 := h.fro 4
  have f5 := h.fro 5
  have hs := (h.set 4 (.int .u64 (turnOf a))).set 5 (.bool true)
  have hB : But [x] w ((w.setCell ⟨x, 4, none⟩ (.int .u64 (turnOf a))).setCell ⟨x, 5, none⟩ (.bool true)) := ((But.refl _ w).set (g := x) (.inl (by simp)) 4 _).set (g := x) (.inl (by simp)) 5 _
  have H : Hid (Blk _ x (acqCells who nx sv ow (turnOf a) true) 242 ∧ But [x] w _) := ⟨hs, hB⟩
  clear h hs hB
  have hz : ∃ z, IntKind.u64.wrap (a - 1) = z ∧ 0 ≤ z ∧ z ≤ 18446744073709551615 ∧ z.tmod 4294967296 = turnOf a := by
    unfold turnOf
    by_cases h0 : a = 0
    · subst h0
      exact ⟨18446744073709551615, by decide, by omega, by omega, by decide⟩
    · refine ⟨a - 1, wrap_u64 (by omega), by omega, by omega, ?_⟩
      rw [Int.tmod_eq_emod_of_nonneg (by omega)]
      omega
  obtain ⟨z, hz1, hz2, hz3, hz4⟩ := hz
  generalize turnOf a = t at *
  go_enter Tryz.func187, Tryz.ntmps187
  go_wp2_with fail
  go_at_call 204; refine (wait_any _ x who sv ow t nx true H.out.1).mono ?_; rintro e w1 ⟨⟨v, rfl⟩, q, hC⟩
  have hF : CameAt w w1 x _ 242 _ q := ⟨by have := hC.fresh; rw [size_set, size_set] at this; exact this, hC.own, hC.com, H.out.2.trans hC.but⟩
  clear hC c4 c5 f4 f5
  go_wp2_with fail
  go_end0
  exact ⟨⟨_, rfl⟩, q, hF⟩

theorem who_any (w : World) (c : Nat) (who : Int) (c0 : w.cell? ⟨c, 0, none⟩ = some (.int .i64 who)) :
    Calls Tryz.prog 144 #[.pointer (some ⟨c, 0, none⟩)] w fun e w' => e = .returned (.int .i64 who) ∧ w = w' := by
  go_enter Tryz.func144, Tryz.ntmps144
  go_wp2_with fail
  go_ret
  exact ⟨rfl, rfl⟩

theorem serve_not (w : World) (x : Nat) (who sv ow turn a : Int) (nx : Option Addr) (known : Bool) (h : Blk w x (acqCells who nx sv ow turn known) 242) (ha : a ≠ turn) :
    Calls Tryz.prog 220 #[.pointer (some ⟨x, 0, none⟩), .int .u64 a] w fun e w' => (∃ v, e = .returned v) ∧ ∃ q, CameAt w w' x (acqCells who nx sv ow turn known) 242 (comCells 1 0 sv 0 0 false .nilIface (.func (.func 220) #[.pointer (some ⟨x, 0, none⟩)] #[]) false false) q := by
  have c4 := h.cell 4 (v := .int .u64 turn) rfl
  have hW := wait_any w x who sv ow turn nx known h
  have hd : decide (a = turn) = false := by simpa using ha
  clear h
  go_enter Tryz.func220, Tryz.ntmps220
  go_wp2_with fail
  go_at_call 204; refine hW.mono ?_; rintro e w1 ⟨⟨v, rfl⟩, q, hC⟩
  clear hW c4
  go_wp2_with fail
  refine bodyPost_ret (results_none rfl _ _ _) rfl ?_
  exact ⟨⟨_, rfl⟩, q, hC⟩
theorem serve_has (w : World) (x : Nat) (who sv ow turn : Int) (nx : Option Addr) (known : Bool) (h : Blk w x (acqCells who nx sv ow turn known) 242) (hw : 0 ≤ who ∧ who ≤ 1000000) :
    Calls Tryz.prog 220 #[.pointer (some ⟨x, 0, none⟩), .int .u64 turn] w fun e w' => (∃ v, e = .returned v) ∧ ∃ q g, CameBox w w' x (acqCells who nx sv ow turn known) 242 (fun v => comCells 2 0 ow 0 (who + 1) false .nilIface v false false) .nilFunc q g := by
  have c0 := h.cell 0 (v := .int .i64 who) rfl
  have c3 := h.cell 3 (v := .int .i64 ow) rfl
  have c4 := h.cell 4 (v := .int .u64 turn) rfl
  have hW := store_come w.drew x _ 242 ow (who + 1) h.drew (by simp [acqCells]) .nilFunc .none
  have hO := who_any w.drew x who (h.drew.cell 0 rfl)
  have w1 : IntKind.u64.wrap who = who := wrap_u64 (by omega)
  have w2 : IntKind.u64.wrap (who + 1) = who + 1 := wrap_u64 (by omega)
  clear h
  go_enter Tryz.func220, Tryz.ntmps220
  go_wp2_with fail
  go_region_with (first | (go_at_call 144; refine hO.mono ?_; rintro e w3 ⟨rfl, rfl⟩) | (go_at_call 88; refine hW.mono ?_; rintro e w4 ⟨⟨v, rfl⟩, q, g, hC⟩))
  all_goals
    clear hW hO w1 w2 c0 c3 c4
    go_wp2_with fail
    go_end0
    exact ⟨⟨_, rfl⟩, q, g, hC.undrew⟩
theorem pass_any (w : World) (x : Nat) (who sv : Int) (nx : Option Addr) (h : Blk w x (relCells who nx sv) 257) :
    Calls Tryz.prog 221 #[.pointer (some ⟨x, 0, none⟩)] w fun e w' => (∃ v, e = .returned v) ∧ ∃ q g, CameBox w w' x (relCells who nx sv) 257 (fun v => comCells 4 0 sv 0 1 false .nilIface v false false) .nilFunc q g := by
  have c2 := h.cell 2 (v := .int .i64 sv) rfl
  have hW := add_come_nil w.drew x _ 257 sv 1 h.drew (by simp [relCells])
  clear h
  go_enter Tryz.func221, Tryz.ntmps221
  go_wp2_with fail
  go_region_with (go_at_call 185; refine hW.mono ?_; rintro e w4 ⟨⟨v, rfl⟩, q, g, hC⟩)
  all_goals
    clear hW c2
    go_wp2_with fail
    go_end0
    exact ⟨⟨_, rfl⟩, q, g, hC.undrew⟩
end Go.Proofs.YtfdpikkinlljlaaGreat

namespace Go.Proofs.YtfdpikkinlljlaaGreat
open Go Go.RowKit
set_option linter.unusedVariables false
set_option maxRecDepth 100000
set_option linter.unusedSimpArgs false

theorem lock_new (w : World) (c : Nat) (lk who : Int) :
    Calls Tryz.prog 146 #[.pointer (some ⟨c, 0, none⟩), .int .i64 lk, .int .i64 who] w fun e w' => ∃ x q, e = .returned (.pointer (some ⟨x, 0, none⟩)) ∧ Blk w' x (acqCells who (some ⟨q, 0, none⟩) (wd 0 2 3 lk 1) (wd 0 2 3 lk 2) 0 false) 242 ∧ Blk w' q (comCells 4 0 (wd 0 2 3 lk 0) 0 1 false .nilIface (.func (.func 187) #[.pointer (some ⟨x, 0, none⟩)] #[]) false false) 205 ∧ Below w.heap.size w w' ∧ w.heap.size ≤ x ∧ w.heap.size ≤ q ∧ x < q := by
  have hS := serving_some c lk w
  have hO := fun w => owner_some c lk w
  have hT := fun w => ticket_some c lk w
  generalize wd 0 2 3 lk 1 = sv at *
  generalize wd 0 2 3 lk 2 = ow at *
  generalize wd 0 2 3 lk 0 = tk at *
  go_enter Tryz.func146, Tryz.ntmps146
  go_wp2_with fail
  go_at_call 183; refine hS.mono ?_; rintro e w1 ⟨rfl, h1⟩
  go_wp2_with fail
  go_at_call 184; refine (hO w1).mono ?_; rintro e w2 ⟨rfl, h2⟩
  have hb2 := seq h1 h2
  clear h1 h2 hS hO
  have hB := Blk.new w2 (acqCells 0 none sv ow 0 false) 242
  have hF := fof_any _ w2.heap.size _ 242 who hB (by simp [acqCells])
  go_wp2_with fail
  go_at_call 97; refine hF.mono ?_; rintro e w3 ⟨⟨v, rfl⟩, hw3⟩
  have h3 : Blk w3 w2.heap.size (acqCells who none sv ow 0 false) 242 := by rw [hw3]; exact hB.set 0 _
  have hb3 : Below w.heap.size w w3 := by rw [hw3]; exact (hb2.alloc hb2.size _).setCell (p := ⟨w2.heap.size, 0, none⟩) hb2.size _
  have hs2 := hb2.size
  have hlt := h3.lt
  generalize w2.heap.size = x at *
  clear hF hB hw3 hb2
  have hT3 := hT w3.drew
  clear hT
  go_wp2_with fail
  go_region_with (first | (go_at_call 186; refine hT3.mono ?_; rintro e w4 ⟨rfl, h4⟩; have h5 : Blk w4 x (acqCells who none sv ow 0 false) 242 := h3.drew.but (But.of_below (l := []) h4) (by simp)) | (go_at_call 185; refine (add_come w4 x _ 242 tk 1 h5 (by simp [acqCells]) 187 #[.pointer (some ⟨x, 0, none⟩)] #[]).mono ?_; rintro e w5 ⟨⟨v2, rfl⟩, q, hC⟩))
  all_goals
    have hb4 : Below w.heap.size w w4 := hb3.drew.trans (h4.mono hb3.size)
    have hq : x < q := Nat.lt_of_lt_of_le h5.lt hC.fresh
    have hb5 : Below w.heap.size w w5 := hb4.trans (hC.but.below (by simpa using hs2) hb4.size)
    have hc1 := hC.own
    have hc2 := hC.com
    clear h3 hT3 h4 h5 hC hb4 hb3
    go_wp2_with fail
    go_ret
    exact ⟨x, q, rfl, hc1, hc2, hb5, hs2, by omega, hq⟩

theorem rel_new (w : World) (c : Nat) (lk who : Int) :
    Calls Tryz.prog 205 #[.pointer (some ⟨c, 0, none⟩), .int .i64 lk, .int .i64 who] w fun e w' => ∃ x q g, e = .returned (.pointer (some ⟨x, 0, none⟩)) ∧ Blk w' x (relCells who (some ⟨q, 0, none⟩) (wd 0 2 3 lk 1)) 257 ∧ Blk w' q (comCells 2 0 (wd 0 2 3 lk 2) 0 0 false .nilIface (.func (.func 175) #[] #[.pointer (some ⟨g, 0, none⟩)]) false false) 205 ∧ Blk w' g #[.func (.func 221) #[.pointer (some ⟨x, 0, none⟩)] #[]] 1 ∧ Below w.heap.size w w' ∧ w.heap.size ≤ x ∧ w.heap.size ≤ q ∧ x < q ∧ x < g ∧ g ≠ q := by
  have hS := serving_some c lk w
  have hO := fun w => owner_some c lk w
  generalize wd 0 2 3 lk 1 = sv at *
  generalize wd 0 2 3 lk 2 = ow at *
  go_enter Tryz.func205, Tryz.ntmps205
  go_wp2_with fail
  go_at_call 183; refine hS.mono ?_; rintro e w2 ⟨rfl, hb2⟩
  clear hS
  have hB := Blk.new w2 (relCells 0 none sv) 257
  have hF := fof_any _ w2.heap.size _ 257 who hB (by simp [relCells])
  go_wp2_with fail
  go_at_call 97; refine hF.mono ?_; rintro e w3 ⟨⟨v, rfl⟩, hw3⟩
  have h3 : Blk w3 w2.heap.size (relCells who none sv) 257 := by rw [hw3]; exact hB.set 0 _
  have hb3 : Below w.heap.size w w3 := by rw [hw3]; exact (hb2.alloc hb2.size _).setCell (p := ⟨w2.heap.size, 0, none⟩) hb2.size _
  have hs2 := hb2.size
  have hlt := h3.lt
  generalize w2.heap.size = x at *
  clear hF hB hw3 hb2
  have hT3 := hO w3.drew
  clear hO
  go_wp2_with fail
  go_region_with (first | (go_at_call 184; refine hT3.mono ?_; rintro e w4 ⟨rfl, h4⟩; have h5 : Blk w4 x (relCells who none sv) 257 := h3.drew.but (But.of_below (l := []) h4) (by simp)) | (go_at_call 88; refine (store_come w4 x _ 257 ow 0 h5 (by simp [relCells]) (.func (.func 221) #[.pointer (some ⟨x, 0, none⟩)] #[]) (.some _ _ _)).mono ?_; rintro e w5 ⟨⟨v2, rfl⟩, q, g, hC⟩))
  all_goals
    have hb4 : Below w.heap.size w w4 := hb3.drew.trans (h4.mono hb3.size)
    have hq : x < q := Nat.lt_of_lt_of_le h5.lt hC.at'.fresh
    have hg : x < g := Nat.lt_of_lt_of_le h5.lt hC.fresh
    have hb5 : Below w.heap.size w w5 := hb4.trans (hC.at'.but.below (by simpa using hs2) hb4.size)
    have hc1 := hC.at'.own
    have hc2 := hC.at'.com
    have hc3 := hC.box
    have hc4 := hC.ne
    clear h3 hT3 h4 h5 hC hb4 hb3
    go_wp2_with fail
    go_ret
    exact ⟨x, q, g, rfl, hc1, hc2, hc3, hb5, hs2, by omega, hq, hg, hc4⟩
end Go.Proofs.YtfdpikkinlljlaaGreat

namespace Go.Proofs.YtfdpikkinlljlaaGreat
open Go Go.RowKit
set_option linter.unusedVariables false
set_option maxRecDepth 100000
set_option linter.unusedSimpArgs false

/-- A machine that acquires a lock. -/
inductive AcqT where
  | fresh
  | wait (t : Int)
  | has (t : Int)
  | over (t : Int)
def acqPM (tk sv ow who : Int) : PM AcqT where
  ax := fun
    | .fresh => some (axAd tk 1)
    | .wait _ => some (axLd sv)
    | .has _ => some (axSt ow (who + 1))
    | .over _ => none
  nx := fun
    | .fresh, v => .wait (turnOf v)
    | .wait t, v => if v = t then .has t else .wait t
    | .has t, _ => .over t
    | .over t, _ => .over t
def AcqT.turn : AcqT → Int
  | .fresh => 0
  | .wait t => t
  | .has t => t
  | .over t => t
def AcqT.known : AcqT → Bool
  | .fresh => false
  | _ => true
def acqFl (who sv ow : Int) : Fl AcqT where
  T := 242
  cells := fun t nx => acqCells who nx sv ow t.turn t.known
  fol := fun
    | .fresh => .told 187
    | .wait _ => .told 220
    | .has _ => .nil
    | .over _ => .nil
  ok := fun _ => True
theorem ent_draw : Ent 187 := fun args w => by kernel_rfl
theorem ent_serve : Ent 220 := fun args w => by kernel_rfl
theorem ent_pass : Ent 221 := fun args w => by kernel_rfl
theorem acq_laws (tk sv ow who : Int) (hw : 0 ≤ who ∧ who ≤ 1000000) : (acqFl who sv ow).Laws (acqPM tk sv ow who) Rd.nil who where
  c0 := fun t nx => rfl
  c1 := fun t nx => rfl
  set := fun t nx nx' => rfl
  axok := fun t a _ h => by
    cases t <;> cases h
    · exact axAd_ok _ _ (by omega)
    · exact axLd_ok _
    · exact axSt_ok _ _ (by omega)
  ents := fun t a h => by
    cases t <;> cases h
    · exact ent_draw
    · exact ent_serve
    · exact trivial
  ok := fun _ _ _ _ _ _ => trivial
  fol := fun W x t a v _ h hv hB _ _ => by
    cases t <;> cases h
    · refine (draw_any W x who sv ow 0 v none false hB hv).mono ?_
      rintro e w' ⟨hu, q, hC⟩
      exact ⟨hu, Came.of_at hC⟩
    · rename_i t _
      by_cases he : v = t
      · subst he
        have : (acqPM tk sv ow who).nx (.wait v) v = .has v := if_pos rfl
        rw [this]
        refine (serve_has W x who sv ow v none true hB hw).mono ?_
        rintro e w' ⟨hu, q, g, hC⟩
        exact ⟨hu, Came.of_box hC (fun _ h => by cases h) rfl rfl rfl⟩
      · have : (acqPM tk sv ow who).nx (.wait t) v = .wait t := if_neg he
        rw [this]
        refine (serve_not W x who sv ow t v none true hB he).mono ?_
        rintro e w' ⟨hu, q, hC⟩
        exact ⟨hu, Came.of_at hC⟩
    · exact ⟨hB, But.refl _ _⟩

/-- A machine that releases a lock. -/
inductive RelT where
  | fresh
  | pass
  | over
def relPM (sv ow : Int) : PM RelT where
  ax := fun
    | .fresh => some (axSt ow 0)
    | .pass => some (axAd sv 1)
    | .over => none
  nx := fun
    | .fresh, _ => .pass
    | .pass, _ => .over
    | .over, _ => .over
def relFl (who sv : Int) : Fl RelT where
  T := 257
  cells := fun t nx => relCells who nx sv
  fol := fun
    | .fresh => .untold 221
    | .pass => .nil
    | .over => .nil
  ok := fun _ => True
theorem rel_laws (sv ow who : Int) : (relFl who sv).Laws (relPM sv ow) Rd.nil who where
  c0 := fun t nx => rfl
  c1 := fun t nx => rfl
  set := fun t nx nx' => rfl
  axok := fun t a _ h => by
    cases t <;> cases h
    · exact axSt_ok _ _ (by omega)
    · exact axAd_ok _ _ (by omega)
  ents := fun t a h => by
    cases t <;> cases h
    · exact ent_pass
    · exact trivial
  ok := fun _ _ _ _ _ _ => trivial
  fol := fun W x t a v _ h hv hB _ _ => by
    cases t <;> cases h
    · refine (pass_any W x who sv none hB).mono ?_
      rintro e w' ⟨hu, q, g, hC⟩
      exact ⟨hu, Came.of_box hC (fun _ h => by cases h) rfl rfl rfl⟩
    · exact ⟨hB, But.refl _ _⟩

theorem lock_fresh (w : World) (c : Nat) (lk who : Int) :
    Calls Tryz.prog 146 #[.pointer (some ⟨c, 0, none⟩), .int .i64 lk, .int .i64 who] w fun e w' => ∃ x L, e = .returned (.pointer (some ⟨x, 0, none⟩)) ∧ ((acqFl who (wd 0 2 3 lk 1) (wd 0 2 3 lk 2)).I (acqPM (wd 0 2 3 lk 0) (wd 0 2 3 lk 1) (wd 0 2 3 lk 2) who)) w' x .fresh L ∧ Below w.heap.size w w' ∧ w.heap.size ≤ x ∧ (∀ k ∈ L, w.heap.size ≤ k) ∧ ∃ a, w'.cell? ⟨x, 1, none⟩ = some (.pointer (some a)) := by
  refine (lock_new w c lk who).mono ?_
  rintro e w' ⟨x, q, rfl, h1, h2, h3, h4, h5, h6⟩
  exact ⟨x, [x, q], rfl, ⟨trivial, q, [q], h1, .told _ h2, by simp; omega, rfl⟩, h3, h4, by intro k hk; simp at hk; omega, _, h1.cell 1 rfl⟩
theorem rel_fresh (w : World) (c : Nat) (lk who : Int) :
    Calls Tryz.prog 205 #[.pointer (some ⟨c, 0, none⟩), .int .i64 lk, .int .i64 who] w fun e w' => ∃ x L, e = .returned (.pointer (some ⟨x, 0, none⟩)) ∧ ((relFl who (wd 0 2 3 lk 1)).I (relPM (wd 0 2 3 lk 1) (wd 0 2 3 lk 2))) w' x .fresh L ∧ Below w.heap.size w w' ∧ w.heap.size ≤ x ∧ (∀ k ∈ L, w.heap.size ≤ k) ∧ ∃ a, w'.cell? ⟨x, 1, none⟩ = some (.pointer (some a)) := by
  refine (rel_new w c lk who).mono ?_
  rintro e w' ⟨x, q, g, rfl, h1, h2, h3, h4, h5, h6, h7, h8, h9⟩
  exact ⟨x, [x, q, g], rfl, ⟨trivial, q, [q, g], h1, .box _ g (fun _ h => by cases h) h2 h3 h9, by simp; omega, rfl⟩, h4, h5, by intro k hk; simp at hk; omega, _, h1.cell 1 rfl⟩

/-- How many rounds a routine may take. -/
def left' (m x : Nat) (w : World) : Nat := match w.cell? ⟨x, 1, none⟩, w.cell? ⟨x, 2, none⟩ with
  | some (.int _ u), some (.bool st) => (m - u.toNat) + (if st = true then 0 else 1)
  | _, _ => 0
theorem RunOn.left {w : World} {x : Nat} {A : Option Addr} {cap m : Nat} {g : Nat → Int} {r : Rn} (h : RunOn w x A cap m g r) : left' m x w = (m - r.used) + (if r.stop = true then 0 else 1) := by
  unfold left'
  rw [h.blk.cell 1 (v := .int .i64 r.used) rfl, h.blk.cell 2 (v := .bool r.stop) rfl]
  simp
/-- A routine that keeps step: how many rounds it may take. -/
theorem rj_left {w : World} {x : Nat} {A : Option Addr} {cap m : Nat} {g : Nat → Int} {σ : Type} {M : PM σ} {s0 t : σ} {j : Nat} {Q : σ → Prop} (h : RunOn w x A cap m g (M.rj s0 g m j)) (hS : Syn M s0 g m j t Q) : left' m x w = m + 1 - j := by
  rw [h.left]
  rw [rj_stop hS]
  by_cases hj : j ≤ m
  · have : (M.rj s0 g m j).used = j := by unfold PM.rj; rw [if_pos hj]
    rw [this]
    simp [show ¬ m < j by omega]
    omega
  · have : (M.rj s0 g m j).used = m := by unfold PM.rj; rw [if_neg hj]; unfold PM.rn; cases M.ax (M.run s0 g m) <;> rfl
    rw [this]
    simp [show m < j by omega]
    omega

/-- A part of a machine that acquires a lock. -/
structure AcqIn {σ : Type} (M : PM σ) (lk who : Int) (emb : AcqT → σ) : Prop where
  f : M.ax (emb .fresh) = some (axAd (3 * lk) 1)
  w : ∀ t, M.ax (emb (.wait t)) = some (axLd (3 * lk + 1))
  h : ∀ t, M.ax (emb (.has t)) = some (axSt (3 * lk + 2) (who + 1))
  nf : ∀ v, M.nx (emb .fresh) v = emb (.wait (turnOf v))
  nw : ∀ t v, M.nx (emb (.wait t)) v = if v = t then emb (.has t) else emb (.wait t)
  nh : ∀ t v, M.nx (emb (.has t)) v = emb (.over t)

set_option maxHeartbeats 2000000 in
theorem syn_acquire {σ : Type} {M : PM σ} {lk who : Int} {emb : AcqT → σ} (hE : AcqIn M lk who emb) (hlk : 0 ≤ lk ∧ lk ≤ 1) (hwho : 0 ≤ who ∧ who ≤ 300)
    {w : World} {x : Nat} {A : Option Addr} {cap m : Nat} {g : Nat → Int} {s0 : σ} {j : Nat} {Q : σ → Prop} (hR : RunOn w x A cap m g (M.rj s0 g m j)) (hS : Syn M s0 g m j (emb .fresh) Q) (hb : ∀ j, j < m → 0 ≤ g j ∧ g j ≤ 18446744073709551615) :
    Calls Tryz.prog 93 #[.pointer (some ⟨x, 0, none⟩), .int .i64 lk, .int .i64 who] w fun e w' => (∃ u, e = .returned u) ∧ ∃ j' t, RunOn w' x A cap m g (M.rj s0 g m j') ∧ Syn M s0 g m j' (emb (.over t)) (fun r => Q r ∨ ∃ p, (∀ t, p ≠ .over t) ∧ r = emb p) ∧ But [x] w w' ∧ j ≤ j' := by
  have hA := syn_add hR hS hb (3 * lk) 1 (fun _ => hE.f)
  have w1' : IntKind.u64.wrap who = who := wrap_u64 (by omega)
  have w2' : IntKind.u64.wrap (who + 1) = who + 1 := wrap_u64 (by omega)
  have HE : Hid (AcqIn M lk who emb) := hE
  have HBD : Hid (∀ j, j < m → 0 ≤ g j ∧ g j ≤ 18446744073709551615) := hb
  have HT : Hid (∀ a : Int, 0 ≤ a ∧ a ≤ 18446744073709551615 → (IntKind.u64.wrap (a + 4294967295)).tmod 4294967296 = turnOf a) := fun a ha => by
    have e1 : IntKind.u64.wrap (a + 4294967295) = (a + 4294967295) % 18446744073709551616 := by simp [IntKind.wrap, IntKind.bits, IntKind.signed]
    rw [e1, Int.tmod_eq_emod_of_nonneg (by omega)]
    unfold turnOf
    omega
  clear hR hS hE hb
  go_enter Tryz.func93, Tryz.ntmps93
  go_wp2_with fail
  go_at_call 137; refine hA.mono ?_; rintro e w2 ⟨a, rfl, hK⟩
  have HR2 : Hid (RunOn w2 x A cap m g (M.rj s0 g m (j + 1))) := hK.run
  have HS2 : Hid (Syn M s0 g m (j + 1) (emb (.wait (turnOf a))) (fun r => Q r ∨ ∃ p, (∀ t, p ≠ .over t) ∧ r = emb p)) := by
    have := hK.syn
    rw [HE.out.nf] at this
    exact this.weak (fun r hr => by rcases hr with rfl | hr; exact .inr ⟨_, (fun t h => by cases h), rfl⟩; exact .inl hr)
  have HB2 : Hid (But [x] w w2) := hK.but
  have ht := HT.out a hK.bd
  generalize hz : IntKind.u64.wrap (a + 4294967295) = z at *
  have hzb : 0 ≤ z := by
    have e1 : IntKind.u64.wrap (a + 4294967295) = (a + 4294967295) % 18446744073709551616 := by simp [IntKind.wrap, IntKind.bits, IntKind.signed]
    rw [← hz, e1]; omega
  have hzc : z.tmod 4294967296 = turnOf a := ht
  generalize turnOf a = t at *
  clear hA hK ht HT
  go_wp2_with fail
  go_loopw [18] (fun _ wr => ∃ (k : Nat), Hid (RunOn wr x A cap m g (M.rj s0 g m k)) ∧ Hid (Syn M s0 g m k (emb (.wait t)) (fun r => Q r ∨ ∃ p, (∀ t, p ≠ .over t) ∧ r = emb p)) ∧ Hid (But [x] w wr) ∧ Hid (j ≤ k)) (fun _ wr => left' m x wr)
  case atStart => exact ⟨j + 1, HR2, HS2, HB2, (Nat.le_succ j : j ≤ j + 1)⟩
  case round =>
    clear HR2 HS2 HB2
    obtain ⟨k, HR, HS, HB, HJ⟩ := hrel
    have c2 := HR.out.blk.cell 2 (v := .bool (M.rj s0 g m k).stop) rfl
    rw [rj_stop HS.out] at c2
    by_cases hk : m < k
    · rw [decide_eq_true hk] at c2
      have HX : Hid (m < k) := hk
      clear hk
      go_wp2_with fail
      go_ret
      exact ⟨⟨_, rfl⟩, k, t, HR.out, HS.out.as (fun h => absurd HX.out (by omega)), HB.out, HJ.out⟩
    · rw [decide_eq_false hk] at c2
      have HX : Hid (k ≤ m) := (by omega : k ≤ m)
      have hL := syn_load HR.out HS.out HBD.out (3 * lk + 1) (fun _ => HE.out.w t)
      have HLF : Hid (left' m x wr = m + 1 - k) := rj_left HR.out HS.out
      clear hk
      go_wp2_with fail
      go_at_call 75; refine hL.mono ?_; rintro e w3 ⟨v, rfl, hK⟩
      have HR3 : Hid (RunOn w3 x A cap m g (M.rj s0 g m (k + 1))) := hK.run
      have HS3 : Hid (Syn M s0 g m (k + 1) (if v = t then emb (.has t) else emb (.wait t)) (fun r => Q r ∨ ∃ p, (∀ t, p ≠ .over t) ∧ r = emb p)) := by
        have := hK.syn
        rw [HE.out.nw] at this
        exact this.weak (fun r hr => by rcases hr with rfl | hr; exact .inr ⟨_, (fun t h => by cases h), rfl⟩; exact hr)
      have HB3 : Hid (But [x] w w3) := HB.out.trans hK.but
      have k2 := HR3.out.blk.cell 2 (v := .bool (M.rj s0 g m (k + 1)).stop) rfl
      rw [rj_stop HS3.out] at k2
      clear hL hK c2 HR HS HB
      by_cases hv : v = t
      · subst hv
        have HS4 : Hid (Syn M s0 g m (k + 1) (emb (.has v)) (fun r => Q r ∨ ∃ p, (∀ t, p ≠ .over t) ∧ r = emb p)) := by have := HS3.out; rw [if_pos rfl] at this; exact this
        by_cases hm : m < k + 1
        · rw [decide_eq_true hm] at k2
          have HX2 : Hid (m < k + 1) := hm
          clear hm HS3
          go_wp2_with fail
          go_roundw
          case rel => exact ⟨k + 1, HR3, HS4.out.as (fun h => absurd HX2.out (by omega)), HB3, (Nat.le_succ_of_le HJ.out : j ≤ k + 1)⟩
          case measure => have hx := HX.out; rw [rj_left HR3.out HS4.out, HLF.out]; omega
        · rw [decide_eq_false hm] at k2
          have hSt := syn_store HR3.out HS4.out HBD.out (3 * lk + 2) (who + 1) (fun _ => HE.out.h v)
          clear hm HS3
          go_wp2_with fail
          go_at_call 92; refine hSt.mono ?_; rintro e w4 ⟨⟨u, rfl⟩, v4, hK⟩
          have HF : Hid (RunOn w4 x A cap m g (M.rj s0 g m (k + 1 + 1)) ∧ Syn M s0 g m (k + 1 + 1) (emb (.over v)) (fun r => Q r ∨ ∃ p, (∀ t, p ≠ .over t) ∧ r = emb p) ∧ But [x] w w4) := by
            refine ⟨hK.run, ?_, HB3.out.trans hK.but⟩
            have := hK.syn
            rw [HE.out.nh] at this
            exact this.weak (fun r hr => by rcases hr with rfl | hr; exact .inr ⟨_, (fun t h => by cases h), rfl⟩; exact hr)
          clear hSt hK k2
          go_wp2_with fail
          go_ret
          exact ⟨⟨_, rfl⟩, k + 1 + 1, v, HF.out.1, HF.out.2.1, HF.out.2.2, by have := HJ.out; omega⟩
      · have hd : decide (v = t) = false := decide_eq_false hv
        have HS4 : Hid (Syn M s0 g m (k + 1) (emb (.wait t)) (fun r => Q r ∨ ∃ p, (∀ t, p ≠ .over t) ∧ r = emb p)) := by have := HS3.out; rw [if_neg hv] at this; exact this
        generalize decide (m < k + 1) = zz at k2
        clear HS3
        go_wp2_with fail
        go_roundw
        case rel => exact ⟨k + 1, HR3, HS4, HB3, (Nat.le_succ_of_le HJ.out : j ≤ k + 1)⟩
        case measure => have hx := HX.out; rw [rj_left HR3.out HS4.out, HLF.out]; omega

/-- A part of a machine that releases a lock. -/
structure RelIn {σ : Type} (M : PM σ) (lk : Int) (emb : RelT → σ) : Prop where
  f : M.ax (emb .fresh) = some (axSt (3 * lk + 2) 0)
  p : M.ax (emb .pass) = some (axAd (3 * lk + 1) 1)
  nf : ∀ v, M.nx (emb .fresh) v = emb .pass
  np : ∀ v, M.nx (emb .pass) v = emb .over
theorem syn_release {σ : Type} {M : PM σ} {lk : Int} {emb : RelT → σ} (hE : RelIn M lk emb) (hlk : 0 ≤ lk ∧ lk ≤ 1)
    {w : World} {x : Nat} {A : Option Addr} {cap m : Nat} {g : Nat → Int} {s0 : σ} {j : Nat} {Q : σ → Prop} (hR : RunOn w x A cap m g (M.rj s0 g m j)) (hS : Syn M s0 g m j (emb .fresh) Q) (hb : ∀ j, j < m → 0 ≤ g j ∧ g j ≤ 18446744073709551615) :
    Calls Tryz.prog 95 #[.pointer (some ⟨x, 0, none⟩), .int .i64 lk] w fun e w' => (∃ u, e = .returned u) ∧ ∃ j', RunOn w' x A cap m g (M.rj s0 g m j') ∧ Syn M s0 g m j' (emb .over) (fun r => Q r ∨ r = emb .fresh ∨ r = emb .pass) ∧ But [x] w w' ∧ j ≤ j' := by
  have hA := syn_store hR hS hb (3 * lk + 2) 0 (fun _ => hE.f)
  have HE : Hid (RelIn M lk emb) := hE
  have HBD : Hid (∀ j, j < m → 0 ≤ g j ∧ g j ≤ 18446744073709551615) := hb
  clear hR hS hE hb
  go_enter Tryz.func95, Tryz.ntmps95
  go_wp2_with fail
  go_at_call 92; refine hA.mono ?_; rintro e w2 ⟨⟨u, rfl⟩, v2, hK⟩
  have hS2 := hK.syn
  rw [HE.out.nf] at hS2
  have hA2 := syn_add hK.run hS2 HBD.out (3 * lk + 1) 1 (fun _ => HE.out.p)
  have HB2 : Hid (But [x] w w2) := hK.but
  clear hA hK hS2
  go_wp2_with fail
  go_at_call 137; refine hA2.mono ?_; rintro e w3 ⟨v3, rfl, hK⟩
  have HF : Hid (RunOn w3 x A cap m g (M.rj s0 g m (j + 1 + 1)) ∧ Syn M s0 g m (j + 1 + 1) (emb .over) (fun r => Q r ∨ r = emb .fresh ∨ r = emb .pass) ∧ But [x] w w3) := by
    refine ⟨hK.run, ?_, HB2.out.trans hK.but⟩
    have := hK.syn
    rw [HE.out.np] at this
    exact this.weak (fun r hr => by rcases hr with rfl | rfl | hr; exact .inr (.inr rfl); exact .inr (.inl rfl); exact .inl hr)
  clear hA2 hK
  go_wp2_with fail
  go_end0
  exact ⟨⟨_, rfl⟩, j + 1 + 1, HF.out.1, HF.out.2.1, HF.out.2.2, by omega⟩
end Go.Proofs.YtfdpikkinlljlaaGreat

namespace Go.Proofs.YtfdpikkinlljlaaGreat
open Go Go.RowKit
set_option linter.unusedVariables false
set_option maxRecDepth 100000
set_option linter.unusedSimpArgs false

theorem But.lowk {w w1 w2 : World} {x k : Nat} (h : But [x] w w1) (h2 : But [k] w1 w2) (hk : w.heap.size ≤ k) : But [x] w w2 :=
  ⟨h2.os.trans h.os, h2.tape.trans h.tape, h2.output.trans h.output, Nat.le_trans h.size h2.size, fun i hi hc => (h2.block i (Nat.lt_of_lt_of_le hi h.size) (by simp; omega)).trans (h.block i hi hc)⟩
/-- Behind j accesses: the run, the config, the result's block, and the hand's. -/
structure HdAt {σ : Type} (w y : World) (x : Nat) (A : Option Addr) (cap m : Nat) (g : Nat → Int) (M : PM σ) (s0 : σ) (j0 j : Nat) (t : σ) (Q : σ → Prop) (cf : Array Value) (HT : TypeId) (z : Array Value) (o : Nat) (oc : Array Value) : Prop where
  run : RunOn y x A cap m g (M.rj s0 g m j)
  syn : Syn M s0 g m j t Q
  but : But [x] w y
  cfg : Blk y w.heap.size cf 23
  res : Blk y (w.heap.size + 1) z HT
  out : Blk y o oc HT
  lo : w.heap.size + 1 < o
  x : x < w.heap.size
  far : GotFar A [w.heap.size + 1, o]
  le : j0 ≤ j
section
variable {σ : Type} {w y : World} {x : Nat} {A : Option Addr} {cap m : Nat} {g : Nat → Int} {M : PM σ} {s0 : σ} {j0 j : Nat} {t : σ} {Q : σ → Prop} {cf : Array Value} {HT : TypeId} {z : Array Value} {o : Nat} {oc : Array Value} (h : HdAt w y x A cap m g M s0 j0 j t Q cf HT z o oc)
include h
theorem HdAt.go {y2 : World} {j2 : Nat} {t2 : σ} {Q2 : σ → Prop} (hR : RunOn y2 x A cap m g (M.rj s0 g m j2)) (hS : Syn M s0 g m j2 t2 Q2) (hB : But [x] y y2) (hj : j ≤ j2) : HdAt w y2 x A cap m g M s0 j0 j2 t2 Q2 cf HT z o oc := by
  have hx := h.x
  have hl := h.lo
  exact ⟨hR, hS, h.but.trans hB, h.cfg.but hB (by simp; omega), h.res.but hB (by simp; omega), h.out.but hB (by simp; omega), hl, hx, h.far, Nat.le_trans h.le hj⟩
theorem HdAt.low {Y : World} (hY : Below y.heap.size y Y) : HdAt w Y x A cap m g M s0 j0 j t Q cf HT z o oc :=
  ⟨h.run.below hY, h.syn, h.but.trans (But.of_below hY), h.cfg.but (But.of_below (l := []) hY) (by simp), h.res.but (But.of_below (l := []) hY) (by simp), h.out.but (But.of_below (l := []) hY) (by simp), h.lo, h.x, h.far, h.le⟩
theorem HdAt.as {t2 : σ} {Q2 : σ → Prop} (hS : Syn M s0 g m j t2 Q2) : HdAt w y x A cap m g M s0 j0 j t2 Q2 cf HT z o oc :=
  ⟨h.run, hS, h.but, h.cfg, h.res, h.out, h.lo, h.x, h.far, h.le⟩
theorem HdAt.set (i : Nat) (v : Value) : HdAt w (y.setCell ⟨o, i, none⟩ v) x A cap m g M s0 j0 j t Q cf HT z o (oc.setIfInBounds i v) := by
  have hx := h.x
  have hl := h.lo
  have hU : But [o] y (y.setCell ⟨o, i, none⟩ v) := (But.refl _ y).set (g := o) (.inl (by simp)) i _
  exact ⟨h.run.but hU (by simp; omega) (h.far.of (by intro k hk; simp at hk ⊢; omega)), h.syn, But.lowk h.but hU (by omega), h.cfg.but hU (by simp; omega), h.res.but hU (by simp; omega), h.out.set i v, hl, hx, h.far, h.le⟩
/-- An access: what is so behind it. -/
theorem HdAt.step {y2 : World} {v : Int} (hK : Kept' y y2 x A cap m g M s0 j t Q v) : HdAt w y2 x A cap m g M s0 j0 (j + 1) (M.nx t v) (fun r => r = t ∨ Q r) cf HT z o oc :=
  h.go hK.run hK.syn hK.but (Nat.le_succ _)
theorem HdAt.stop : y.cell? ⟨x, 2, none⟩ = some (.bool (decide (m < j))) := by
  have := h.run.blk.cell 2 (v := .bool (M.rj s0 g m j).stop) rfl
  rw [rj_stop h.syn] at this
  exact this
/-- The result is laid. -/
theorem HdAt.ret {a b c : Value} {z0 z1 z2 : Value} (hz : z = #[z0, z1, z2]) : RunOn (((y.setCell ⟨w.heap.size + 1, 0, none⟩ a).setCell ⟨w.heap.size + 1, 1, none⟩ b).setCell ⟨w.heap.size + 1, 2, none⟩ c) x A cap m g (M.rj s0 g m j) ∧ But [x] w (((y.setCell ⟨w.heap.size + 1, 0, none⟩ a).setCell ⟨w.heap.size + 1, 1, none⟩ b).setCell ⟨w.heap.size + 1, 2, none⟩ c) ∧ (((y.setCell ⟨w.heap.size + 1, 0, none⟩ a).setCell ⟨w.heap.size + 1, 1, none⟩ b).setCell ⟨w.heap.size + 1, 2, none⟩ c).heap[w.heap.size + 1]? = some (.cells #[a, b, c] HT (0, 0)) := by
  subst hz
  have hx := h.x
  have hU : But [w.heap.size + 1] y (((y.setCell ⟨w.heap.size + 1, 0, none⟩ a).setCell ⟨w.heap.size + 1, 1, none⟩ b).setCell ⟨w.heap.size + 1, 2, none⟩ c) := (((But.refl _ y).set (g := w.heap.size + 1) (.inl (by simp)) 0 _).set (g := w.heap.size + 1) (.inl (by simp)) 1 _).set (g := w.heap.size + 1) (.inl (by simp)) 2 _
  have hZ := ((h.res.set 0 a).set 1 b).set 2 c
  exact ⟨h.run.but hU (by simp; omega) (h.far.of (by intro k hk; simp at hk ⊢; omega)), But.lowk h.but hU (by omega), hZ.heap⟩
end
end Go.Proofs.YtfdpikkinlljlaaGreat

namespace Go.Proofs.YtfdpikkinlljlaaGreat
open Go Go.RowKit
set_option linter.unusedVariables false
set_option maxRecDepth 100000
set_option linter.unusedSimpArgs false

/-- A machine N within another. -/
structure PmIn {σ τ : Type} (M : PM σ) (N : PM τ) (emb : τ → σ) : Prop where
  ax : ∀ t a, N.ax t = some a → M.ax (emb t) = some a
  nx : ∀ t a v, N.ax t = some a → M.nx (emb t) v = emb (N.nx t v)
theorem pm_in {σ : Type} (M : PM σ) : PmIn M M (fun t => t) := ⟨fun _ _ h => h, fun _ _ _ _ => rfl⟩
/-- Where it stopped within N. -/
def PmQ {σ τ : Type} (Q : σ → Prop) (N : PM τ) (emb : τ → σ) (q : σ) : Prop := Q q ∨ ∃ t a, N.ax t = some a ∧ q = emb t
theorem PmQ.next {σ τ : Type} {Q : σ → Prop} {N : PM τ} {emb : τ → σ} {t : τ} {a : Ax} {q : σ} (ha : N.ax t = some a) (h : q = emb t ∨ PmQ Q N emb q) : PmQ Q N emb q := h.elim (fun h => .inr ⟨t, a, ha, h⟩) id
end Go.Proofs.YtfdpikkinlljlaaGreat

namespace Go.Proofs.YtfdpikkinlljlaaGreat
open Go Go.RowKit
set_option linter.unusedVariables false
set_option maxRecDepth 100000
set_option linter.unusedSimpArgs false


theorem glob_word (w : World) (c : Nat) : Calls Tryz.prog 68 #[.pointer (some ⟨c, 0, none⟩), .int .i64 16] w fun e w' => e = .returned (.int .i64 16) ∧ w = w' := by
  go_enter Tryz.func68, Tryz.ntmps68
  go_wp2_with fail
  go_ret
  exact ⟨rfl, rfl⟩

theorem gs_any (o : Option Addr) (P T G : Int) (w : World) (h : LayO w P T G o) (hp : 0 ≤ P ∧ P ≤ 64) (hT : 0 ≤ T ∧ T ≤ 65536) : Calls Tryz.prog 176 #[.pointer o] w fun e w' => e = .returned (.agg #[.int .i64 (20 + P * 264 + T * 3), .int .i64 G, .int .i64 2]) ∧ Below w.heap.size w w' := by
  have hfc := field_c2
  have hb : Below w.heap.size w (w.alloc (.cells #[.int .i64 0, .int .i64 0, .int .i64 0] 165)) := (Below.refl _ _).alloc (Nat.le_refl _) _
  have HL : Hid _ := h.below hb
  clear h
  go_enter Tryz.func176, Tryz.ntmps176
  go_wp2_with fail
  go_at_call 110; refine (threads_any o P T G _ HL.out hp).mono ?_; rintro e w1 ⟨rfl, h1⟩
  go_wp2_with fail
  go_at_call 159; refine (end_any (20 + P * 264) T 3 _ (by omega) (by omega) (by omega) (by omega)).mono ?_; rintro e w2 ⟨rfl, h2⟩
  have hb2 : Below (w.heap.size + 1) (w.alloc (.cells #[.int .i64 0, .int .i64 0, .int .i64 0] 165)) w2 := by
    have h1' : Below (w.heap.size + 1) (w.alloc (.cells #[.int .i64 0, .int .i64 0, .int .i64 0] 165)) w1 := by simpa using h1
    exact h1'.trans (h2.mono (by have := h1.size; simpa using this))
  have HL2 : Hid _ := HL.out.below (by simpa using hb2)
  go_wp2_with fail
  go_at_call 106; refine (config_any o P T G _ HL2.out).mono ?_; rintro e w3 ⟨rfl, h3⟩
  have hb3 := hb2.trans (h3.mono (by have := hb2.size; simpa using this))
  have hR : Res w3 w.heap.size := Res.of hb3
  obtain ⟨⟨r0, r1, r2⟩, f0, f1, f2⟩ := hR.cells
  have hbb : Below w.heap.size w w3 := hb.trans (hb3.mono (by simp))
  have hlt := block_lt hR.heap
  obtain ⟨W, hW, HR, hB⟩ := hR.stored hbb (Nat.le_refl _) (.int .i64 (20 + P * 264 + T * 3)) (.int .i64 G) (.int .i64 2)
  clear HL HL2 hb h1 hR hb2 h2 hb3 h3 hbb
  go_wp2_with fail
  clear hW r0 r1 r2 f0 f1 f2
  exact bodyPost_ret (v := .agg #[.int .i64 (20 + P * 264 + T * 3), .int .i64 G, .int .i64 2]) (results_cell_row rfl _ _ w.heap.size 165 #[.int .i64 (20 + P * 264 + T * 3), .int .i64 G, .int .i64 2] (0, 0) _ rfl HR.out Tryz.underlying165 rfl (by kernel_rfl)) rfl ⟨rfl, hB⟩

theorem g_word (c : Nat) (P T G g f : Int) (w : World) (h : Lay w c P T G) (hp : 0 ≤ P ∧ P ≤ 64) (hT : 0 ≤ T ∧ T ≤ 65536) (hG : G ≤ 65536) : Calls Tryz.prog 141 #[.pointer (some ⟨c, 0, none⟩), .int .i64 g, .int .i64 f] w fun e w' => e = .returned (.int .i64 (wd (20 + P * 264 + T * 3) G 2 g f)) ∧ Below w.heap.size w w' := by
  have hs := gs_any _ P T G w (.some c h) hp hT
  clear h
  go_enter Tryz.func141, Tryz.ntmps141
  go_wp2_with fail
  go_at_call 176; refine hs.mono ?_; rintro e w1 ⟨rfl, h1⟩
  clear hs
  go_wp2_with fail
  go_at_call 111; refine (word_any _ G 2 g f _ (by omega) (by omega) (by omega)).mono ?_; rintro e w2 ⟨rfl, h2⟩
  have hb := seq h1 h2
  go_wp2_with fail
  go_ret
  exact ⟨rfl, hb⟩

end Go.Proofs.YtfdpikkinlljlaaGreat

namespace Go.Proofs.YtfdpikkinlljlaaGreat
open Go Go.RowKit
set_option linter.unusedVariables false
set_option maxRecDepth 100000
set_option linter.unusedSimpArgs false


/-- A release that is to be run. -/
structure RelM (w : World) (x q g : Nat) (who sv ow : Int) : Prop where
  m : Blk w x (relCells who (some ⟨q, 0, none⟩) sv) 257
  com : Blk w q (comCells 2 0 ow 0 0 false .nilIface (.func (.func 175) #[] #[.pointer (some ⟨g, 0, none⟩)]) false false) 205
  box : Blk w g #[.func (.func 221) #[.pointer (some ⟨x, 0, none⟩)] #[]] 1
  o1 : x < q
  o2 : x < g
  ne : g ≠ q
/-- An acquire that is to be run. -/
structure AcqM (w : World) (x q : Nat) (who tk sv ow : Int) : Prop where
  m : Blk w x (acqCells who (some ⟨q, 0, none⟩) sv ow 0 false) 242
  com : Blk w q (comCells 4 0 tk 0 1 false .nilIface (.func (.func 187) #[.pointer (some ⟨x, 0, none⟩)] #[]) false false) 205
  o1 : x < q
theorem RelM.but {w w' : World} {x q g c : Nat} {who sv ow : Int} (h : RelM w x q g who sv ow) (hb : But [c] w w') (h1 : c < x) : RelM w' x q g who sv ow :=
  ⟨h.m.but hb (by simp; omega), h.com.but hb (by have := h.o1; simp; omega), h.box.but hb (by have := h.o2; simp; omega), h.o1, h.o2, h.ne⟩
theorem AcqM.but {w w' : World} {x q c : Nat} {who tk sv ow : Int} (h : AcqM w x q who tk sv ow) (hb : But [c] w w') (h1 : c < x) : AcqM w' x q who tk sv ow :=
  ⟨h.m.but hb (by simp; omega), h.com.but hb (by have := h.o1; simp; omega), h.o1⟩
theorem CameBox.before {a w w' : World} {c q g : Nat} {cs : Array Value} {com : Value → Array Value} {fv : Value} {T : TypeId} (h : CameBox w w' c cs T com fv q g) (hb : But [c] a w) : CameBox a w' c cs T com fv q g :=
  ⟨⟨Nat.le_trans hb.size h.at'.fresh, h.at'.own, h.at'.com, hb.trans h.at'.but⟩, Nat.le_trans hb.size h.fresh, h.box, h.ne⟩

end Go.Proofs.YtfdpikkinlljlaaGreat

namespace Go.Proofs.YtfdpikkinlljlaaGreat
open Go Go.RowKit
set_option linter.unusedVariables false
set_option maxRecDepth 100000
set_option linter.unusedSimpArgs false


def putCells (who : Int) (nx : Option Addr) (c : Nat) (g : Int) : Array Value := #[.int .i64 who, .pointer nx, .pointer (some ⟨c, 0, none⟩), .int .i64 g]

end Go.Proofs.YtfdpikkinlljlaaGreat

namespace Go.Proofs.YtfdpikkinlljlaaGreat
open Go Go.RowKit
set_option linter.unusedVariables false
set_option maxRecDepth 100000
set_option linter.unusedSimpArgs false


def getCells (who : Int) (nx : Option Addr) (c : Nat) (g : Int) (got : Bool) : Array Value := #[.int .i64 who, .pointer nx, .pointer (some ⟨c, 0, none⟩), .int .i64 g, .bool got]

theorem glob_word17 (w : World) (c : Nat) : Calls Tryz.prog 68 #[.pointer (some ⟨c, 0, none⟩), .int .i64 17] w fun e w' => e = .returned (.int .i64 17) ∧ w = w' := by
  go_enter Tryz.func68, Tryz.ntmps68
  go_wp2_with fail
  go_ret
  exact ⟨rfl, rfl⟩

end Go.Proofs.YtfdpikkinlljlaaGreat

namespace Go.Proofs.YtfdpikkinlljlaaGreat
open Go Go.RowKit
set_option linter.unusedVariables false
set_option maxRecDepth 100000
set_option linter.unusedSimpArgs false


end Go.Proofs.YtfdpikkinlljlaaGreat

namespace Go.Proofs.YtfdpikkinlljlaaGreat
open Go Go.RowKit
set_option linter.unusedVariables false
set_option maxRecDepth 100000
set_option linter.unusedSimpArgs false


end Go.Proofs.YtfdpikkinlljlaaGreat

namespace Go.Proofs.YtfdpikkinlljlaaGreat
open Go Go.RowKit
set_option linter.unusedVariables false
set_option maxRecDepth 100000
set_option linter.unusedSimpArgs false


end Go.Proofs.YtfdpikkinlljlaaGreat

namespace Go.Proofs.YtfdpikkinlljlaaGreat
open Go Go.RowKit
set_option linter.unusedVariables false
set_option maxRecDepth 100000
set_option linter.unusedSimpArgs false

def acqSub (tk sv ow who : Int) : Sub := ⟨AcqT, acqPM tk sv ow who, (acqFl who sv ow).I (acqPM tk sv ow who), Rd.nil, 209, 346⟩
def relSub (sv ow who : Int) : Sub := ⟨RelT, relPM sv ow, (relFl who sv).I (relPM sv ow), Rd.nil, 252, 352⟩
theorem acqSub_ok (tk sv ow who : Int) (hw : 0 ≤ who ∧ who ≤ 1000000) (R : Rd) : Steps (acqPM tk sv ow who) ((acqFl who sv ow).I (acqPM tk sv ow who)) Rd.nil 346 who ∧ MI.Good ((acqFl who sv ow).I (acqPM tk sv ow who)) (acqPM tk sv ow who) ∧ ActRun 209 346 ∧ (∀ w, R.P w → Rd.nil.P w) ∧ (∀ k ∈ Rd.nil.B, k ∈ R.B) :=
  ⟨Fl.steps (acq_laws _ _ _ who hw) stepby_acq, Fl.good (acq_laws _ _ _ who hw), act_acq, fun _ _ => trivial, fun k hk => by cases hk⟩
theorem relSub_ok (sv ow who : Int) (R : Rd) : Steps (relPM sv ow) ((relFl who sv).I (relPM sv ow)) Rd.nil 352 who ∧ MI.Good ((relFl who sv).I (relPM sv ow)) (relPM sv ow) ∧ ActRun 252 352 ∧ (∀ w, R.P w → Rd.nil.P w) ∧ (∀ k ∈ Rd.nil.B, k ∈ R.B) :=
  ⟨Fl.steps (rel_laws _ _ who) stepby_rel, Fl.good (rel_laws _ _ who), act_rel, fun _ _ => trivial, fun k hk => by cases hk⟩
theorem acqSub_at {w : World} {y q : Nat} {tk sv ow who : Int} (h : AcqM w y q who tk sv ow) : ((acqFl who sv ow).I (acqPM tk sv ow who)) w y AcqT.fresh [y, q] :=
  ⟨trivial, q, [q], h.m, .told _ h.com, by have := h.o1; simp; omega, rfl⟩
theorem relSub_at {w : World} {y q g : Nat} {sv ow who : Int} (h : RelM w y q g who sv ow) : ((relFl who sv).I (relPM sv ow)) w y RelT.fresh [y, q, g] :=
  ⟨trivial, q, [q, g], h.m, .box _ g (fun _ h => by cases h) h.com h.box h.ne, by have := h.o1; have := h.o2; simp; omega, rfl⟩

/-- Getting a lock, and what is so behind it. -/
def AcqT.goes {σ : Type} (f : AcqT → σ) (e : σ) : AcqT → σ
  | .over _ => e
  | p => f p

/-- The machine that gives a goroutine back; gl is the place of its GLink. -/
inductive GpT where
  | acq (p : AcqT)
  | ld
  | ln (f : Int)
  | st
  | rel (p : RelT)
def gpPM (who g gl : Int) : PM GpT where
  ax := fun
    | .acq p => (acqPM 3 4 5 who).ax p
    | .ld => some (axLd 16)
    | .ln f => some (axSt gl f)
    | .st => some (axSt 16 (g + 1))
    | .rel p => (relPM 4 5).ax p
  nx := fun
    | .acq p, v => ((acqPM 3 4 5 who).nx p v).goes .acq .ld
    | .ld, v => .ln v
    | .ln _, _ => .st
    | .st, _ => .rel .fresh
    | .rel p, v => .rel ((relPM 4 5).nx p v)
def AcqT.Live : AcqT → Prop
  | .over _ => False
  | _ => True
theorem acq_nx_live {who v : Int} (p : AcqT) (h : ((acqPM 3 4 5 who).ax ((acqPM 3 4 5 who).nx p v)).isSome = true) : ((acqPM 3 4 5 who).nx p v).Live := by
  cases hp : (acqPM 3 4 5 who).nx p v with
  | over t => rw [hp] at h; cases h
  | fresh => trivial
  | wait t => trivial
  | has t => trivial
theorem acq_then_live {σ : Type} {f : AcqT → σ} {e : σ} : ∀ (p : AcqT), p.Live → p.goes f e = f p
  | .fresh, _ => rfl
  | .wait _, _ => rfl
  | .has _, _ => rfl
theorem acq_then_over {σ : Type} {f : AcqT → σ} {e : σ} {who : Int} : ∀ (p : AcqT), (acqPM 3 4 5 who).ax p = none → p.goes f e = e
  | .fresh, h => by cases h
  | .wait _, h => by cases h
  | .has _, h => by cases h
  | .over _, _ => rfl
theorem acq_live_some {who : Int} : ∀ (p : AcqT), p.Live → ((acqPM 3 4 5 who).ax p).isSome = true
  | .fresh, _ => rfl
  | .wait _, _ => rfl
  | .has _, _ => rfl
end Go.Proofs.YtfdpikkinlljlaaGreat

namespace Go.Proofs.YtfdpikkinlljlaaGreat
open Go Go.RowKit
set_option linter.unusedVariables false
set_option maxRecDepth 100000
set_option linter.unusedSimpArgs false

/-- A machine was made, and runs. -/
def RunNew (S : Sub) (pt : S.τ) (W w' : World) (x : Nat) (cs : Array Value) (T : TypeId) (fv : Value) : Prop := ∃ y q b L, CameBox W w' x cs T (fun v => comCells 0 0 0 0 0 false (.iface S.D (.pointer (some ⟨y, 0, none⟩))) v false false) fv q b ∧ S.I w' y pt L ∧ (∀ k ∈ L, W.heap.size ≤ k) ∧ q ∉ L ∧ b ∉ L
theorem RunNew.mk {S : Sub} {pt : S.τ} {W w4 w5 : World} {x y q b : Nat} {L : List Nat} {cs : Array Value} {T : TypeId} {fv : Value} (hG : S.I.Good S.M) (hI : S.I w4 y pt L) (hL : ∀ k ∈ L, W.heap.size ≤ k) (hx : x < W.heap.size) (hB : But [x] W w4) (hC : CameBox w4 w5 x cs T (fun v => comCells 0 0 0 0 0 false (.iface S.D (.pointer (some ⟨y, 0, none⟩))) v false false) fv q b) : RunNew S pt W w5 x cs T fv := by
  have hlt := hG.lt hI
  refine ⟨y, q, b, L, hC.before hB, hG.keep hI hC.at'.but (fun k hk => ?_), hL, fun hm => ?_, fun hm => ?_⟩
  · have := hL k hk; simp; omega
  · have := hlt q hm; have := hC.at'.fresh; omega
  · have := hlt b hm; have := hC.fresh; omega

theorem RunNew.before {S : Sub} {pt : S.τ} {a W w' : World} {x : Nat} {cs : Array Value} {T : TypeId} {fv : Value} (h : RunNew S pt W w' x cs T fv) (hb : But [x] a W) : RunNew S pt a w' x cs T fv := by
  obtain ⟨y, q, b, L, h1, h2, h3, h4, h5⟩ := h
  exact ⟨y, q, b, L, h1.before hb, h2, fun k hk => Nat.le_trans hb.size (h3 k hk), h4, h5⟩
theorem ws_notmem {l : List Nat} {x k : Nat} (h : x ∉ l) (hk : k ∈ l) : k ∉ [x] := fun hm => h ((List.mem_singleton.1 hm) ▸ hk)
theorem RunNew.but {S : Sub} {pt : S.τ} {W w' : World} {x : Nat} {cs : Array Value} {T : TypeId} {fv : Value} (h : RunNew S pt W w' x cs T fv) : But [x] W w' := by
  obtain ⟨y, q, b, L, h1, -⟩ := h
  exact h1.at'.but
theorem Came.but {W w' : World} {x : Nat} {cs : Array Value} {T : TypeId} {a : Ax} {f : Fol} (h : Came W w' x cs T a f) : But [x] W w' := by
  obtain ⟨_, _, _, _, h, _⟩ := h
  exact h
end Go.Proofs.YtfdpikkinlljlaaGreat

namespace Go.Proofs.YtfdpikkinlljlaaGreat
open Go Go.RowKit
set_option linter.unusedVariables false
set_option maxRecDepth 100000
set_option linter.unusedSimpArgs false

section
variable {σ : Type} {C : Cp σ} {W w' : World} {x : Nat} {s : σ} {es Le Le' : List Nat}
theorem Cp.lnd_acc {a : Ax} {f : Fol} (h : Came W w' x (C.cells s es none) C.T a f) (hset : ∀ nx, (C.cells s es none).setIfInBounds 1 (.pointer nx) = C.cells s es nx) (hok : C.ok s) (hk : C.kind s = .acc a f) (hx : x < W.heap.size) (he : C.ext s es w' Le') (hxe : x ∉ Le') (hle : ∀ k ∈ Le', k ∈ Le ∧ k < W.heap.size) : C.Land W w' x s Le := by
  obtain ⟨q, Lc, c1, c2, c3, c4⟩ := h
  rw [hset] at c1
  refine ⟨c3, x :: (Lc ++ Le'), ⟨hok, es, Le', he, hxe, ?_⟩, fun k hm => by simp at hm; rcases hm with rfl | hm | hm; exact .inl rfl; exact .inr (.inr (c4 k hm)); exact .inr (.inl (hle k hm).1)⟩
  rw [hk]
  exact ⟨q, Lc, c1, c2, fun hm => absurd (c4 x hm) (by omega), (fun k hm h => by have := c4 k hm; have := (hle k h).2; omega), rfl⟩
theorem Cp.lnd_over (h : Blk w' x (C.cells s es none) C.T) (hb : But [x] W w') (hok : C.ok s) (hk : C.kind s = .over) (he : C.ext s es w' Le') (hxe : x ∉ Le') (hle : ∀ k ∈ Le', k ∈ Le) : C.Land W w' x s Le := by
  refine ⟨hb, x :: Le', ⟨hok, es, Le', he, hxe, ?_⟩, fun k hm => by simp at hm; rcases hm with rfl | hm; exact .inl rfl; exact .inr (.inl (hle k hm))⟩
  rw [hk]
  exact ⟨h, rfl⟩
theorem Cp.lnd_run1 {S : Sub} {af : After} {pt : S.τ} {y q b : Nat} {L : List Nat} (hC : CameBox W w' x (C.cells s es none) C.T (fun v => comCells 0 0 0 0 0 false (.iface S.D (.pointer (some ⟨y, 0, none⟩))) v false false) (af.fol.box x) q b) (hset : ∀ nx, (C.cells s es none).setIfInBounds 1 (.pointer nx) = C.cells s es nx) (hM : S.I w' y pt L) (hL : ∀ k ∈ L, W.heap.size ≤ k) (hq : q ∉ L) (hg : b ∉ L) (hok : C.ok s) (hk : C.kind s = .run S pt af) (htie : C.tie s es y) (hx : x < W.heap.size) (he : C.ext s es w' Le') (hxe : x ∉ Le') (hle : ∀ k ∈ Le', k ∈ Le ∨ W.heap.size ≤ k) (hd : ∀ k ∈ q :: b :: L, k ∉ Le') : C.Land W w' x s Le := by
  have hfq := hC.at'.fresh
  have hfb := hC.fresh
  refine ⟨hC.at'.but, x :: q :: b :: (L ++ Le'), ⟨hok, es, Le', he, hxe, ?_⟩, fun k hm => ?_⟩
  · rw [hk]
    refine ⟨q, y, b, L, RunAt.of hC hset, hM, htie, ?_, hq, hg, hd, rfl⟩
    simp only [List.mem_cons, not_or]
    exact ⟨by omega, by omega, fun hm => by have := hL x hm; omega⟩
  · simp only [List.mem_cons, List.mem_append] at hm
    rcases hm with rfl | rfl | rfl | hm | hm
    · exact .inl rfl
    · exact .inr (.inr hfq)
    · exact .inr (.inr hfb)
    · exact .inr (.inr (hL k hm))
    · rcases hle k hm with h | h
      · exact .inr (.inl h)
      · exact .inr (.inr h)
theorem Cp.lnd_run0 {S : Sub} {af : After} {pt : S.τ} {y q b : Nat} {L : List Nat} (hC : CameBox W w' x (C.cells s es none) C.T (fun v => comCells 0 0 0 0 0 false (.iface S.D (.pointer (some ⟨y, 0, none⟩))) v false false) (af.fol.box x) q b) (hset : ∀ nx, (C.cells s es none).setIfInBounds 1 (.pointer nx) = C.cells s es nx) (hM : S.I w' y pt L) (hL : ∀ k ∈ L, W.heap.size ≤ k) (hq : q ∉ L) (hg : b ∉ L) (hok : C.ok s) (hk : C.kind s = .run S pt af) (htie : C.tie s es y) (hx : x < W.heap.size) (he : C.ext s es w' Le') (hxe : x ∉ Le') (hle : ∀ k ∈ Le', k ∈ Le ∧ k < W.heap.size) : C.Land W w' x s Le := by
  have hfq := hC.at'.fresh
  have hfb := hC.fresh
  refine Cp.lnd_run1 hC hset hM hL hq hg hok hk htie hx he hxe (fun k hm => .inl (hle k hm).1) (fun k hm hk' => ?_)
  simp only [List.mem_cons] at hm
  have h1 := (hle k hk').2
  rcases hm with rfl | rfl | hm
  · omega
  · omega
  · have := hL k hm; omega
theorem Cp.lnd_run {S : Sub} {af : After} {pt : S.τ} (hR : RunNew S pt W w' x (C.cells s es none) C.T (af.fol.box x)) (hset : ∀ nx, (C.cells s es none).setIfInBounds 1 (.pointer nx) = C.cells s es nx) (hok : C.ok s) (hk : C.kind s = .run S pt af) (htie : ∀ y, C.tie s es y) (hx : x < W.heap.size) (he : C.ext s es w' Le') (hxe : x ∉ Le') (hle : ∀ k ∈ Le', k ∈ Le ∧ k < W.heap.size) : C.Land W w' x s Le := by
  obtain ⟨y, q, b, L, hC, hM, hL, hq, hg⟩ := hR
  exact Cp.lnd_run0 hC hset hM hL hq hg hok hk (htie y) hx he hxe hle
theorem Cp.blk' {w : World} {L : List Nat} (h : C.Here w x s es Le L (C.kind s)) : ∃ nx, Blk w x (C.cells s es nx) C.T := by
  cases hk : C.kind s with
  | over => rw [hk] at h; exact ⟨none, h.1⟩
  | acc a f => rw [hk] at h; obtain ⟨q, Lc, h1, -⟩ := h; exact ⟨_, h1⟩
  | run S q af => rw [hk] at h; obtain ⟨q1, y, g, Li, h1, -⟩ := h; exact ⟨_, h1.hx⟩
end
theorem folC_sw {W : World} {x K : Nat} {v : Int} {M : World → Prop} (b : Bool) (hb : decide (v ≠ 0) = b) (h : Calls Tryz.prog K #[.pointer (some ⟨x, 0, none⟩), .bool b] W fun e w' => (∃ u, e = .returned u) ∧ M w') : FolC W x (.swap K) v M := by
  subst hb; exact h
/-- A machine within it: its ax where it goes on, and what is so where it is over. -/
theorem nx_on {α : Type} {o : Option Ax} {a b : α} (h : o.isSome = true) : (if o.isSome = true then a else b) = a := if_pos h
theorem nx_off {α : Type} {o : Option Ax} {a b : α} (h : o = none) : (if o.isSome = true then a else b) = b := if_neg (by rw [h]; simp)
end Go.Proofs.YtfdpikkinlljlaaGreat

namespace Go.Proofs.YtfdpikkinlljlaaGreat
open Go Go.RowKit

/-- The goroutine that a word names. -/
def gw (v : Int) : Int := IntKind.i64.wrap (IntKind.u64.wrap (v - 1))
end Go.Proofs.YtfdpikkinlljlaaGreat

namespace Go.Proofs.YtfdpikkinlljlaaGreat
open Go Go.RowKit Go.Maps
set_option linter.unusedVariables false
set_option maxRecDepth 100000
set_option linter.unusedSimpArgs false

/-- How a list goes on from a word: acc are the numbers so far, nx tells the word behind a number. -/
def lsGo (nx : Int → Int) (many : Int) : Nat → List Int → Int → List Int × Bool
  | 0, acc, _ => (acc, false)
  | f + 1, acc, w => if w = 0 then (acc, true) else if (w - 1) ∈ acc ∨ many < w then (acc, false) else lsGo nx many f (acc ++ [w - 1]) (nx (w - 1))
def lsOf (nx : Int → Int) (many w : Int) : List Int × Bool := lsGo nx many (many.toNat + 1) [] w

theorem nodup_room : ∀ (m : Nat) (l : List Int), l.Nodup → (∀ x ∈ l, 0 ≤ x ∧ x < m) → l.length ≤ m
  | 0, l, _, h => by
    cases l with
    | nil => simp
    | cons a r => have := h a (by simp); omega
  | m + 1, l, hn, h => by
    by_cases hm : (m : Int) ∈ l
    · have h1 := nodup_room m (l.erase m) (hn.erase _) (fun x hx => by
        have h2 := h x (List.mem_of_mem_erase hx)
        have h3 : x ≠ m := fun e => by
          rw [e] at hx
          exact (List.Nodup.mem_erase_iff hn).1 hx |>.1 rfl
        omega)
      have h4 := List.length_erase_of_mem hm
      omega
    · have := nodup_room m l hn (fun x hx => by
        have h2 := h x hx
        have h3 : x ≠ m := fun e => hm (e ▸ hx)
        omega)
      omega

theorem any_word (x : Int) : ∀ l : List Int, (l.map (fun n => Lit.int .u64 (n + 1))).any (fun y => y.sameKey (.int .u64 x)) = decide ((x - 1) ∈ l)
  | [] => rfl
  | a :: r => by
    rw [List.map_cons, List.any_cons, any_word x r]
    show (decide (IntKind.u64 = IntKind.u64 ∧ a + 1 = x) || _) = _
    by_cases e : a + 1 = x
    · have : x - 1 = a := by omega
      simp [e, this]
    · have : x - 1 ≠ a := by omega
      simp [e, this]
theorem has_words {H : Type} (l : List Int) (x : Int) : Maps.has (setOf (H := H) (.agg []) (l.map (fun n => Lit.int .u64 (n + 1)))) (.int .u64 x) = decide ((x - 1) ∈ l) := by
  rw [has_setOf _ _ _ (fun y hy => by obtain ⟨_, _, rfl⟩ := List.mem_map.1 hy; trivial)]
  exact any_word x l

/-- A list of ints that the call made. -/
structure IntsOn (w : World) (base : Nat) (v : Value) (l : List Int) : Prop where
  own : w.ownsRow base 3 1 v l.length (l.map (Value.int .i64))
theorem lists_keyed : Keyed Tryz.prog 39 := int_keyed Tryz.underlying39
theorem lists_zero (w : World) : (zeroValue 224).run Tryz.prog w = .ok (.agg #[]) w := by kernel_rfl
theorem lists_info3 : (Tryz.prog.info? 3).map (fun i => (i.zero, i.size, i.bytes)) = some (some (.int .i64 0), 1, 8) := by kernel_rfl
theorem lists_row_ne {w : World} {base : Nat} {e : TypeId} {size : Nat} {v : Value} {n : Nat} {xs : List Value} (h : w.ownsRow base e size v n xs) {b : Nat} (hb : b < base) : some b ≠ v.ownBlock := fun e1 => by
  have := (h.lt b e1.symm).1
  omega
theorem row_but {w w' : World} {base : Nat} {e : TypeId} {size : Nat} {v : Value} {n : Nat} {xs : List Value} {l : List Nat} (h : w.ownsRow base e size v n xs) (hB : But l w w') (hl : ∀ b ∈ l, b < base) : w'.ownsRow base e size v n xs := by
  refine ⟨h.1, ?_⟩
  rcases h.2 with h0 | ⟨gb, cp, cur, e0, hb, hh, rest⟩
  · exact .inl h0
  · exact .inr ⟨gb, cp, cur, e0, hb, (hB.block gb (block_lt hh) (fun hm => absurd (hl gb hm) (by omega))).trans hh, rest⟩
theorem row_below {w w' : World} {base : Nat} {e : TypeId} {size : Nat} {v : Value} {n : Nat} {xs : List Value} (h : w.ownsRow base e size v n xs) (hB : Below w.heap.size w w') : w'.ownsRow base e size v n xs := row_but h (But.of_below (l := []) hB) (fun b hb => by cases hb)
theorem map_below {H : Type} {P : Program} {w w' : World} {k : TypeId} {R : Value → Option (DataW H × List MemPlace)} {b n : Nat} {D : DataW H} (h : w.ownsMap P k R b n D) (hB : Below w.heap.size w w') : w'.ownsMap P k R b n D := by
  obtain ⟨es, clock, h1, rest⟩ := h
  exact ⟨es, clock, (hB.block b (block_lt h1)).trans h1, rest⟩
theorem lists_slice {w : World} {base : Nat} {e : TypeId} {size : Nat} {v : Value} {n : Nat} {xs : List Value} (h : w.ownsRow base e size v n xs) : ∃ A cap, v = .slice A n cap := by
  rcases h.2 with ⟨e0, h0⟩ | ⟨gb, cp, cur, e0, hb, hh, rest⟩
  · subst h0; exact ⟨none, 0, e0⟩
  · exact ⟨_, _, e0⟩
theorem lists_wf {x : Int} (h : 0 ≤ x ∧ x ≤ 18446744073709551615) : (Lit.int .u64 x).wf = true := by
  unfold Lit.wf
  simp [IntKind.min, IntKind.max, IntKind.bits, IntKind.signed]
  omega

set_option maxHeartbeats 4000000 in
theorem links_any (w : World) (A : Option Addr) (cap c b n : Nat) (s : St) (first many : Int) (K bx : Nat) (pl : Int → Int) (hI : Is w 141 A cap c b n s) (hn : n ≤ 1000000) (hm : 0 ≤ many ∧ many ≤ 65536)
    (hent : Ent K) (hlink : ∀ W, Below w.heap.size w W → ∀ g, Calls Tryz.prog K #[.int .i64 g, .pointer (some ⟨bx, 0, none⟩)] W fun e w' => e = .returned (.int .i64 (pl g)) ∧ Below W.heap.size W w') :
    Calls Tryz.prog 105 #[.pointer (some ⟨c, 0, none⟩), .int .i64 first, .int .i64 many, .func (.func K) #[] #[.pointer (some ⟨bx, 0, none⟩)]] w fun e w' => ∃ v, e = .returned (.tuple #[v, .bool (lsOf (fun g => peekT n s (pl g)) many (peekT n s first)).2]) ∧ IntsOn w' (w.heap.size + 1) v (lsOf (fun g => peekT n s (pl g)) many (peekT n s first)).1 ∧ Below w.heap.size w w' := by
  have hmm := @run_makeMap Tryz.prog
  obtain ⟨i0, hi, hz0, hz1, hz2⟩ := info_parts lists_info3
  have HI : Hid (∀ W, Below w.heap.size w W → Is W 141 A cap c b n s) := fun W h => hI.below h
  have HL : Hid (∀ W, Below w.heap.size w W → ∀ g, Calls Tryz.prog K #[.int .i64 g, .pointer (some ⟨bx, 0, none⟩)] W fun e w' => e = .returned (.int .i64 (pl g)) ∧ Below W.heap.size W w') := hlink
  have HPB : Hid (∀ i, 0 ≤ peekT n s i ∧ peekT n s i ≤ 18446744073709551615) := fun i => by
    unfold peekT
    split
    · exact hI.bd _ (by omega)
    · omega
  have hent' : ∀ (g : Int) (w : World), (callFunc K #[.int .i64 g, .pointer (some ⟨bx, 0, none⟩)]).run Tryz.prog w = .ok (.enter K #[.int .i64 g, .pointer (some ⟨bx, 0, none⟩)]) w := fun g w => hent _ w
  have HP1 : Hid (Calls Tryz.prog 43 #[.pointer (some ⟨c, 0, none⟩), .int .i64 first] (w.alloc (.map #[] 0)) fun e w' => e = .returned (.tuple #[.int .u64 (peekT n s first), .bool (decide (0 ≤ first ∧ first < n))]) ∧ w.alloc (.map #[] 0) = w') := peek_any _ A cap c b n s first (hI.below ((Below.refl _ _).alloc (Nat.le_refl _) _)) hn
  have HR : Hid (∃ r, lsOf (fun g => peekT n s (pl g)) many (peekT n s first) = r) := ⟨_, rfl⟩
  have w1 : IntKind.u64.wrap many = many := wrap_u64 (by omega)
  obtain ⟨r, hr⟩ := HR.out
  rw [hr]
  clear hI hlink hent HR
  go_enter Tryz.func105, Tryz.ntmps105
  go_wp2_with fail
  go_at_call 43; refine HP1.out.mono ?_; rintro e w2 ⟨rfl, rfl⟩
  have HW0 : Hid (0 ≤ peekT n s first ∧ peekT n s first ≤ 18446744073709551615) := HPB.out first
  have HR0 : Hid (lsGo (fun g => peekT n s (pl g)) many (many.toNat + 1) [] (peekT n s first) = r) := hr
  generalize peekT n s first = fw at *
  clear HP1 hr
  go_wp2_with fail
  go_loopw [10, 12] (fun v x wr => ∃ (acc : List Int) (wv : Int), x = .int .u64 wv ∧ Hid (0 ≤ wv ∧ wv ≤ 18446744073709551615) ∧ Hid (wr.ownsMap Tryz.prog 39 unitElem w.heap.size acc.length (setOf (H := Unit) (.agg []) (acc.map (fun n => Lit.int .u64 (n + 1))))) ∧ Hid (wr.ownsRow (w.heap.size + 1) 3 1 v acc.length (acc.map (Value.int .i64))) ∧
      Hid (Below w.heap.size w wr) ∧ w.heap.size + 1 ≤ wr.heap.size ∧ Hid (acc.Nodup ∧ ∀ y ∈ acc, 0 ≤ y ∧ y < many) ∧ acc.length ≤ many.toNat ∧ Hid (lsGo (fun g => peekT n s (pl g)) many (many.toNat + 1 - acc.length) acc wv = r))
    (fun v _ _ => match v with | .slice _ k _ => many.toNat + 1 - k | _ => 0)
  case atStart => exact ⟨[], fw, rfl, HW0, World.ownsMap_made _ _ _ _, World.ownsRow_nil _ _ _ _, (Below.refl _ _).alloc (Nat.le_refl _) _, by simp, ⟨List.nodup_nil, by simp⟩, by simp, HR0⟩
  case round =>
    clear HW0 HR0
    obtain ⟨acc, wv, rfl, HWB, HM, HO, HB, hsz, HN, hlen, HRR⟩ := hrel
    by_cases h0 : wv = 0
    · subst h0
      have HE : Hid (r = (acc, true)) := by
        have := HRR.out
        obtain ⟨f, hf⟩ : ∃ f, many.toNat + 1 - acc.length = f + 1 := ⟨many.toNat - acc.length, by omega⟩
        rw [hf] at this
        exact this.symm.trans (if_pos rfl)
      clear HRR
      go_wp2_with fail
      go_returns
      rw [HE.out]
      exact ⟨_, rfl, ⟨HO.out⟩, HB.out⟩
    · have hd0 : (wv == 0) = false := by simpa using h0
      have hkey : keyOf Tryz.prog 39 (.int .u64 wv) = some (.int .u64 wv) := keyOf_int_mk Tryz.underlying39 (lists_wf HWB.out)
      have hhas := has_words (H := Unit) acc wv
      by_cases hin : (wv - 1) ∈ acc
      · rw [decide_eq_true hin] at hhas
        have HE : Hid (r = (acc, false)) := by
          have := HRR.out
          obtain ⟨f, hf⟩ : ∃ f, many.toNat + 1 - acc.length = f + 1 := ⟨many.toNat - acc.length, by omega⟩
          rw [hf, lsGo, if_neg h0, if_pos (.inl hin)] at this
          exact this.symm
        have hMM := HM.out
        generalize setOf (H := Unit) (.agg []) (acc.map (fun n => Lit.int .u64 (n + 1))) = D at *
        clear HRR hin
        go_wp2_with (at_lookup; refine wpList_lookup_own_unit _ rfl _ _ 223 rfl 39 224 lists_keyed Tryz.underlying223 (lists_zero _) w.heap.size acc.length _ rfl hMM _ _ rfl hkey ?_; rw [hhas])
        go_returns
        rw [HE.out]
        exact ⟨_, rfl, ⟨HO.out.alloc _⟩, HB.out.alloc (by omega) _⟩
      · rw [decide_eq_false hin] at hhas
        by_cases hgt : many < wv
        · have HE : Hid (r = (acc, false)) := by
            have := HRR.out
            obtain ⟨f, hf⟩ : ∃ f, many.toNat + 1 - acc.length = f + 1 := ⟨many.toNat - acc.length, by omega⟩
            rw [hf, lsGo, if_neg h0, if_pos (.inr hgt)] at this
            exact this.symm
          have hMM := HM.out
          generalize setOf (H := Unit) (.agg []) (acc.map (fun n => Lit.int .u64 (n + 1))) = D at *
          clear HRR hin
          go_wp2_with (at_lookup; refine wpList_lookup_own_unit _ rfl _ _ 223 rfl 39 224 lists_keyed Tryz.underlying223 (lists_zero _) w.heap.size acc.length _ rfl hMM _ _ rfl hkey ?_; rw [hhas])
          go_returns
          rw [HE.out]
          exact ⟨_, rfl, ⟨HO.out.alloc _⟩, HB.out.alloc (by omega) _⟩
        · have hwb := HWB.out
          have hd1 : decide (many < wv) = false := decide_eq_false hgt
          have hN2 : (acc ++ [wv - 1]).Nodup ∧ ∀ y ∈ acc ++ [wv - 1], 0 ≤ y ∧ y < many := by
            refine ⟨List.nodup_append.2 ⟨HN.out.1, by simp, ?_⟩, fun y hy => ?_⟩
            · intro a ha b hb
              simp at hb
              rintro rfl
              exact hin (hb ▸ ha)
            · rcases List.mem_append.1 hy with hy | hy
              · exact HN.out.2 y hy
              · simp at hy; omega
          have hlen2 : acc.length + 1 ≤ many.toNat := by
            have := nodup_room many.toNat _ hN2.1 (fun x hx => by have := hN2.2 x hx; omega)
            simpa using this
          have HN2 : Hid _ := hN2
          have HE : Hid (lsGo (fun g => peekT n s (pl g)) many (many.toNat + 1 - (acc.length + 1)) (acc ++ [wv - 1]) (peekT n s (pl (wv - 1))) = r) := by
            have := HRR.out
            rw [show many.toNat + 1 - acc.length = (many.toNat + 1 - (acc.length + 1)) + 1 by omega, lsGo, if_neg h0, if_neg (fun h => by rcases h with h | h; exact hin h; exact hgt h)] at this
            exact this
          have e1 : IntKind.u64.wrap (wv - 1) = wv - 1 := wrap_u64 (by omega)
          have e2 : IntKind.i64.wrap (wv - 1) = wv - 1 := by simp [IntKind.wrap, IntKind.bits, IntKind.signed]; omega
          have hMM := HM.out
          have hOO := HO.out
          have hml : acc.length < maxLen := by unfold maxLen; omega
          have HSN : Hid (∀ D, setOf (H := Unit) (.agg []) (acc.map (fun n => Lit.int .u64 (n + 1))) = D → setOf (H := Unit) (.agg []) ((acc ++ [wv - 1]).map (fun n => Lit.int .u64 (n + 1))) = D.put (.int .u64 wv) (.agg [])) := by
            rintro D rfl
            rw [List.map_append, List.map_singleton, setOf_snoc, show wv - 1 + 1 = wv by omega]
          generalize hDD : setOf (H := Unit) (.agg []) (acc.map (fun n => Lit.int .u64 (n + 1))) = D at *
          have HDD : Hid _ := hDD
          have HGT : Hid (¬ many < wv) := hgt
          have HH0 : Hid (wv ≠ 0) := h0
          have HWB2 : Hid (0 ≤ wv ∧ wv ≤ 18446744073709551615) := hwb
          clear HRR hin hN2 hDD hgt hwb
          go_wp2_with (first | (at_lookup; refine wpList_lookup_own_unit _ rfl _ _ 223 rfl 39 224 lists_keyed Tryz.underlying223 (lists_zero _) w.heap.size acc.length _ rfl hMM _ _ rfl hkey ?_; rw [hhas]) | (at_mapUpdate; refine wpList_mapUpdate_own _ rfl _ _ _ 223 rfl 39 224 lists_keyed Tryz.underlying223 (unitElem (H := Unit)) w.heap.size acc.length _ rfl (hMM.alloc _) hml _ _ _ rfl rfl hkey _ [] unitElem_mk ?_; intro w3 hown1 hgrow1) | (at_builtin; refine wpList_append_own _ rfl _ _ 49 rfl (w.heap.size + 1) 3 i0 (.int .i64 0) 1 8 Tryz.underlying49 hi hz0 hz1 hz2 rfl (by decide) _ _ _ rfl (((hOO.alloc _).kept hgrow1 (Or.inr (lists_row_ne hOO (Nat.lt_succ_self _)).symm)).alloc _) ⟨w3.heap.size, 0, none⟩ 1 1 [.int .i64 (wv - 1)] rfl rfl (cell_one_new _ _ _) (ints_oneCell .i64 [wv - 1]) (by unfold maxLen; omega) (by omega) (by have := hgrow1.size; simp at this ⊢; omega) ?_; intro v' w4 hown' hgrow2 hnil2))
          have hr1 := (hOO.alloc (.cells #[] 224)).kept hgrow1 (Or.inr (lists_row_ne hOO (Nat.lt_succ_self _)).symm)
          have s1 := hgrow1.size
          have s2 := hgrow2.size
          simp at s1 s2
          have HM4 : Hid (w4.ownsMap Tryz.prog 39 unitElem w.heap.size (acc.length + 1) (D.put (.int .u64 wv) (.agg []))) := (hown1.alloc _).kept hgrow2 (lists_row_ne hr1 (Nat.lt_succ_self _))
          have HB4 : Hid (Below w.heap.size w w4) := (((HB.out.alloc HB.out.size _).grown hgrow1 (by simp; omega) (fun j hj => by cases hj; exact Nat.le_refl _)).alloc (by omega) _).grown hgrow2 (by simp; omega) (fun j hj => Nat.le_trans (Nat.le_succ _) (hr1.lt j hj).1)
          have HO4 : Hid (w4.ownsRow (w.heap.size + 1) 3 1 v' (acc.length + 1) (List.map (Value.int .i64) acc ++ [Value.int .i64 (wv - 1)])) := hown'
          have hs4 : w.heap.size + 1 ≤ w4.heap.size := by omega
          obtain ⟨Ao, co, hvo⟩ := lists_slice HO.out
          have HVO : Hid (_ = Value.slice Ao acc.length co) := hvo
          have hLk := HL.out w4 HB4.out (wv - 1)
          clear hown' hgrow1 hgrow2 hnil2 hr1 hown1 hMM hOO HM HO s1 s2 hvo hhas hkey
          refine hLk.mono ?_
          rintro e w5 ⟨rfl, h5⟩
          have HM5 : Hid (w5.ownsMap Tryz.prog 39 unitElem w.heap.size (acc.length + 1) (D.put (.int .u64 wv) (.agg []))) := map_below HM4.out h5
          have HO5 : Hid (w5.ownsRow (w.heap.size + 1) 3 1 v' (acc.length + 1) (List.map (Value.int .i64) acc ++ [Value.int .i64 (wv - 1)])) := row_below HO4.out h5
          have HB5 : Hid (Below w.heap.size w w5) := seq HB4.out h5
          have hP5 := peek_any w5 A cap c b n s (pl (wv - 1)) (HI.out _ HB5.out) hn
          have hs5 := h5.size
          clear hLk h5 HM4 HO4 HB4
          go_wp2_with fail
          go_at_call 43; refine hP5.mono ?_; rintro e w6 ⟨rfl, rfl⟩
          clear hP5
          go_wp2_with fail
          go_roundw
          case rel =>
            refine ⟨acc ++ [wv - 1], peekT n s (pl (wv - 1)), rfl, HPB.out _, ?_, ?_, HB5, by omega, HN2, by simpa using hlen2, ?_⟩
            · have := HM5.out
              rw [← HSN.out D rfl] at this
              rw [List.length_append]
              exact this
            · have := HO5.out
              rw [List.length_append, List.map_append]
              exact this
            · rw [List.length_append]
              exact HE.out
          case measure =>
            obtain ⟨A5, c5, e5⟩ := lists_slice HO5.out
            rw [e5, HVO.out]
            show many.toNat + 1 - (acc.length + 1) < many.toNat + 1 - acc.length
            omega
end Go.Proofs.YtfdpikkinlljlaaGreat

namespace Go.Proofs.YtfdpikkinlljlaaGreat
open Go Go.RowKit
set_option linter.unusedVariables false
set_option maxRecDepth 100000
set_option linter.unusedSimpArgs false

theorem gw_eq (v : Int) (h : 0 ≤ v ∧ v ≤ 18446744073709551615) : wrap64 (IntKind.i64.wrap v - 1) = gw v := by
  simp [gw, wrap64, IntKind.wrap, IntKind.bits, IntKind.signed]
  split <;> split <;> omega
theorem gw_one (v : Int) (h : 0 ≤ v ∧ v ≤ 1000000) : gw (v + 1) = v := by
  simp [gw, IntKind.wrap, IntKind.bits, IntKind.signed]
  omega
theorem is_word (P T G : Int) (n : Nat) (v : Int) (hn : (n : Int) = 20 + 264 * P + 3 * T + 2 * G) (hp : 0 ≤ P ∧ P ≤ 64) (hT : 0 ≤ T ∧ T ≤ 65536) (hG : 0 ≤ G ∧ G ≤ 65536) (hv : 0 ≤ v ∧ v ≤ 18446744073709551615) (h0 : v ≠ 0) :
    (v ≤ G → gw v = v - 1) ∧ decide (0 ≤ wd (20 + P * 264 + T * 3) G 2 (gw v) 1 ∧ wd (20 + P * 264 + T * 3) G 2 (gw v) 1 < n) = decide (v ≤ G) := by
  have h1 : v ≤ G → gw v = v - 1 := fun h => by
    have := gw_one (v - 1) (by omega)
    rw [show v - 1 + 1 = v by omega] at this
    exact this
  refine ⟨h1, ?_⟩
  by_cases h : v ≤ G
  · rw [decide_eq_true h, h1 h, decide_eq_true]
    unfold wd
    rw [if_pos ⟨by omega, by omega, by omega, by omega⟩]
    omega
  · rw [decide_eq_false h, decide_eq_false]
    have hg : ¬ (0 ≤ gw v ∧ gw v < G) := by
      simp [gw, IntKind.wrap, IntKind.bits, IntKind.signed]
      split <;> omega
    unfold wd
    rw [if_neg (fun hh => hg ⟨hh.1, hh.2.1⟩)]
    omega
theorem lists_len {w : World} {base : Nat} {e : TypeId} {size : Nat} {v : Value} {n : Nat} {xs : List Value} (h : w.ownsRow base e size v n xs) : n ≤ maxLen := by
  rcases h.2 with ⟨e0, h0⟩ | ⟨gb, cp, cur, e0, hb, hh, hnc, hcm, rest⟩
  · omega
  · omega
theorem IntsOn.cell {w : World} {base : Nat} {v : Value} {l : List Int} (h : IntsOn w base v l) {j : Nat} (hj : j < l.length) : ∃ gb cap, v = .slice (some ⟨gb, 0, none⟩) l.length cap ∧ w.cell? ⟨gb, j, none⟩ = some (.int .i64 (l.getD j 0)) := by
  rcases h.own.2 with ⟨e, h0⟩ | ⟨gb, cp, cur, e, hb, hh, hnc, hcm, hcs, htk⟩
  · omega
  · subst e
    refine ⟨gb, cp, rfl, ?_⟩
    have hc := h.own.cellAt j (by omega)
    rw [List.getElem?_map, List.getElem?_eq_getElem hj] at hc
    rw [List.getD_eq_getElem?_getD, List.getElem?_eq_getElem hj]
    exact hc
end Go.Proofs.YtfdpikkinlljlaaGreat

namespace Go.Proofs.YtfdpikkinlljlaaGreat
open Go Go.RowKit
set_option linter.unusedVariables false
set_option maxRecDepth 100000
set_option linter.unusedSimpArgs false

theorem mny_any (h t : Int) (w : World) (hh : 0 ≤ h ∧ h ≤ 18446744073709551615) (ht : 0 ≤ t ∧ t ≤ 18446744073709551615) :
    Calls Tryz.prog 162 #[.int .u64 h, .int .u64 t] w fun e w' => e = .returned (.int .u64 ((t - h) % 4294967296)) ∧ w = w' := by
  have e1 : IntKind.u64.wrap (t - h) = (t - h) % 18446744073709551616 := by simp [IntKind.wrap, IntKind.bits, IntKind.signed]
  have hb : 0 ≤ (t - h) % 18446744073709551616 := Int.emod_nonneg _ (by omega)
  have e2 : Int.tmod ((t - h) % 18446744073709551616) 4294967296 = (t - h) % 4294967296 := by
    rw [Int.tmod_eq_emod_of_nonneg hb]
    omega
  have e3 : IntKind.u64.wrap ((t - h) % 4294967296) = (t - h) % 4294967296 := wrap_u64 (by omega)
  go_enter Tryz.func162, Tryz.ntmps162
  go_wp2_with fail
  go_ret
  first
    | exact ⟨rfl, rfl⟩
    | exact ⟨by rw [e1, e2, e3], rfl⟩
    | exact ⟨by rw [e1, e2], rfl⟩

theorem rmny_any (h t : Int) (w : World) (hh : 0 ≤ h ∧ h ≤ 18446744073709551615) (ht : 0 ≤ t ∧ t ≤ 18446744073709551615) :
    Calls Tryz.prog 132 #[.int .u64 h, .int .u64 t] w fun e w' => e = .returned (.int .u64 ((t - h) % 4294967296)) ∧ w = w' := by
  have e1 : Int.tmod h 4294967296 = h % 4294967296 := Int.tmod_eq_emod_of_nonneg hh.1
  have e2 : Int.tmod t 4294967296 = t % 4294967296 := Int.tmod_eq_emod_of_nonneg ht.1
  have e3 : IntKind.u64.wrap (h % 4294967296) = h % 4294967296 := wrap_u64 (by omega)
  have e4 : IntKind.u64.wrap (t % 4294967296) = t % 4294967296 := wrap_u64 (by omega)
  by_cases hlt : t % 4294967296 < h % 4294967296
  · have e5 : IntKind.u64.wrap (t % 4294967296 + 4294967296) = t % 4294967296 + 4294967296 := wrap_u64 (by omega)
    have e6 : IntKind.u64.wrap (t % 4294967296 + 4294967296 - h % 4294967296) = (t - h) % 4294967296 := by rw [wrap_u64 (by omega)]; omega
    go_enter Tryz.func132, Tryz.ntmps132
    go_wp2_with fail
    go_ret
    first
      | exact ⟨rfl, rfl⟩
      | exact ⟨by rw [← e6], rfl⟩
  · have d : decide (t % 4294967296 < h % 4294967296) = false := decide_eq_false hlt
    have e6 : IntKind.u64.wrap (t % 4294967296 - h % 4294967296) = (t - h) % 4294967296 := by rw [wrap_u64 (by omega)]; omega
    clear hlt
    go_enter Tryz.func132, Tryz.ntmps132
    go_wp2_with fail
    go_ret
    first
      | exact ⟨rfl, rfl⟩
      | exact ⟨by rw [← e6], rfl⟩

theorem lprc_any (o : Option Addr) (P T G n f : Int) (w : World) (h : LayO w P T G o) (hp : 0 ≤ P ∧ P ≤ 64) (hf : 0 ≤ f ∧ f < 8) : Calls Tryz.prog 108 #[.pointer o, .int .i64 n, .int .i64 f] w fun e w' => e = .returned (.int .i64 (wd 20 P 264 n f)) ∧ Below w.heap.size w w' := by
  have HL : Hid _ := h
  have d1 : decide (8 ≤ f) = false := decide_eq_false (by omega)
  clear h
  go_enter Tryz.func108, Tryz.ntmps108
  go_wp2_with fail
  go_at_call 157; refine (procs_any o P T G _ HL.out).mono ?_; rintro e w1 ⟨rfl, h1⟩
  go_wp2_with fail
  go_at_call 111; refine (word_any 20 P 264 n f _ (by omega) (by omega) (by omega)).mono ?_; rintro e w2 ⟨rfl, h2⟩
  have hb := seq h1 h2
  go_wp2_with fail
  go_ret
  exact ⟨rfl, hb⟩

theorem lrng_any (o : Option Addr) (P T G n i : Int) (w : World) (h : LayO w P T G o) (hp : 0 ≤ P ∧ P ≤ 64) (hi : 0 ≤ i ∧ i ≤ 18446744073709551615) : Calls Tryz.prog 163 #[.pointer o, .int .i64 n, .int .u64 i] w fun e w' => e = .returned (.int .i64 (wd 20 P 264 n (8 + i % 256))) ∧ Below w.heap.size w w' := by
  have HL : Hid _ := h
  have e1 : i.tmod 256 = i % 256 := Int.tmod_eq_emod_of_nonneg (by omega)
  generalize hz : i % 256 = z at *
  have e2 : IntKind.i64.wrap z = z := by simp [IntKind.wrap, IntKind.bits, IntKind.signed]; omega
  have e3 : IntKind.i64.wrap (8 + z) = 8 + z := by simp [IntKind.wrap, IntKind.bits, IntKind.signed]; omega
  have hzb : 0 ≤ z ∧ z < 256 := by omega
  clear h hz hi
  go_enter Tryz.func163, Tryz.ntmps163
  go_wp2_with fail
  go_at_call 157; refine (procs_any o P T G _ HL.out).mono ?_; rintro e w1 ⟨rfl, h1⟩
  go_wp2_with fail
  go_at_call 111; refine (word_any 20 P 264 n (8 + z) _ (by omega) (by omega) (by omega)).mono ?_; rintro e w2 ⟨rfl, h2⟩
  have hb := seq h1 h2
  go_wp2_with fail
  go_ret
  exact ⟨rfl, hb⟩


theorem rprc_any (p f : Int) (w : World) (hp : 0 ≤ p ∧ p ≤ 64) (hf : 0 ≤ f ∧ f < 8) : Calls Tryz.prog 40 #[.int .i64 p, .int .i64 f] w fun e w' => e = .returned (.int .i64 (20 + 264 * p + f)) ∧ w = w' := by
  go_enter Tryz.func40, Tryz.ntmps40
  go_wp2_with fail
  go_ret
  exact ⟨ret_int (by first | rfl | omega | (unfold wrap64; omega)), rfl⟩
theorem rprcAt_any (P T G p f : Int) (w : World) (hp : 0 ≤ p ∧ p < P) (hP : P ≤ 64) (hf : 0 ≤ f ∧ f < 8) :
    Calls Tryz.prog 131 #[.agg #[.int .i64 P, .int .i64 T, .int .i64 G], .int .i64 p, .int .i64 f] w fun e w' => e = .returned (.int .i64 (wd 20 P 264 p f)) ∧ Below w.heap.size w w' := by
  have hb : Below w.heap.size w (w.alloc (.cells #[.int .i64 P, .int .i64 T, .int .i64 G] 23)) := (Below.refl _ _).alloc (Nat.le_refl _) _
  have hT := rprc_any p f (w.alloc (.cells #[.int .i64 P, .int .i64 T, .int .i64 G] 23)) (by omega) hf
  have e : 20 + 264 * p + f = wd 20 P 264 p f := by unfold wd; rw [if_pos ⟨hp.1, hp.2, by omega, by omega⟩]; omega
  rw [e] at hT
  generalize wd 20 P 264 p f = nt at *
  clear e
  have d1 : decide (p < 0) = false := decide_eq_false (by omega)
  have d2 : decide (P ≤ p) = false := decide_eq_false (by omega)
  go_enter Tryz.func131, Tryz.ntmps131
  go_wp2_with fail
  go_at_call 40; refine hT.mono ?_; rintro e w1 ⟨rfl, rfl⟩
  go_wp2_with fail
  go_ret
  exact ⟨rfl, hb⟩

theorem rrng_any (p i : Int) (w : World) (hp : 0 ≤ p ∧ p ≤ 64) (hi : 0 ≤ i ∧ i ≤ 18446744073709551615) : Calls Tryz.prog 41 #[.int .i64 p, .int .u64 i] w fun e w' => e = .returned (.int .i64 (28 + 264 * p + i % 256)) ∧ w = w' := by
  have e1 : i.tmod 256 = i % 256 := Int.tmod_eq_emod_of_nonneg (by omega)
  generalize hz : i % 256 = z at *
  have e2 : IntKind.i64.wrap z = z := by simp [IntKind.wrap, IntKind.bits, IntKind.signed] <;> omega
  have hzb : 0 ≤ z ∧ z < 256 := by omega
  clear hz hi
  go_enter Tryz.func41, Tryz.ntmps41
  go_wp2_with fail
  go_ret
  exact ⟨ret_int (by first | rfl | omega | (unfold wrap64; omega)), rfl⟩
theorem rrngAt_any (P T G p i : Int) (w : World) (hp : 0 ≤ p ∧ p < P) (hP : P ≤ 64) (hi : 0 ≤ i ∧ i ≤ 18446744073709551615) :
    Calls Tryz.prog 133 #[.agg #[.int .i64 P, .int .i64 T, .int .i64 G], .int .i64 p, .int .u64 i] w fun e w' => e = .returned (.int .i64 (wd 20 P 264 p (8 + i % 256))) ∧ Below w.heap.size w w' := by
  have hb : Below w.heap.size w (w.alloc (.cells #[.int .i64 P, .int .i64 T, .int .i64 G] 23)) := (Below.refl _ _).alloc (Nat.le_refl _) _
  have hT := rrng_any p i (w.alloc (.cells #[.int .i64 P, .int .i64 T, .int .i64 G] 23)) (by omega) hi
  have e : 28 + 264 * p + i % 256 = wd 20 P 264 p (8 + i % 256) := by unfold wd; rw [if_pos ⟨hp.1, hp.2, by omega, by omega⟩]; omega
  rw [e] at hT
  generalize wd 20 P 264 p (8 + i % 256) = nt at *
  clear e
  have d1 : decide (p < 0) = false := decide_eq_false (by omega)
  have d2 : decide (P ≤ p) = false := decide_eq_false (by omega)
  go_enter Tryz.func133, Tryz.ntmps133
  go_wp2_with fail
  go_at_call 41; refine hT.mono ?_; rintro e w1 ⟨rfl, rfl⟩
  go_wp2_with fail
  go_ret
  exact ⟨rfl, hb⟩
end Go.Proofs.YtfdpikkinlljlaaGreat

namespace Go.Proofs.YtfdpikkinlljlaaGreat
open Go Go.RowKit
set_option linter.unusedVariables false
set_option maxRecDepth 100000
set_option linter.unusedSimpArgs false

theorem il_and_bit (w i : Nat) (h : ¬ w / 2 ^ i % 2 = 1) : w &&& 2 ^ i = 0 := by
  apply Nat.eq_of_testBit_eq
  intro j
  rw [Nat.testBit_and, Nat.testBit_two_pow, Nat.zero_testBit]
  by_cases e : i = j
  · subst e
    have : w.testBit i = false := by rw [Nat.testBit_eq_decide_div_mod_eq]; exact decide_eq_false h
    simp [this]
  · simp [e]
theorem il_or_out (w i : Nat) (hi : i < 64) (hw : w < 18446744073709551616) (h : ¬ w / 2 ^ i % 2 = 1) : w ||| 2 ^ i = w + 2 ^ i := by
  have hp : 2 ^ i ≤ 2 ^ 63 := Nat.pow_le_pow_right (by omega) (by omega)
  have e := congrArg BitVec.toNat (BitVec.add_eq_or_of_and_eq_zero (BitVec.ofNat 65 w) (BitVec.ofNat 65 (2 ^ i)) (by
    apply BitVec.eq_of_toNat_eq
    rw [BitVec.toNat_and, BitVec.toNat_ofNat, BitVec.toNat_ofNat, Nat.mod_eq_of_lt (by omega), Nat.mod_eq_of_lt (by omega), il_and_bit w i h]
    rfl))
  rw [BitVec.toNat_add, BitVec.toNat_or, BitVec.toNat_ofNat, BitVec.toNat_ofNat, Nat.mod_eq_of_lt (a := w) (by omega), Nat.mod_eq_of_lt (a := 2 ^ i) (by omega), Nat.mod_eq_of_lt (by omega)] at e
  exact e.symm
theorem il_or_in (w i : Nat) (h : w / 2 ^ i % 2 = 1) : w ||| 2 ^ i = w := by
  apply Nat.eq_of_testBit_eq
  intro j
  rw [Nat.testBit_or, Nat.testBit_two_pow]
  by_cases e : i = j
  · subst e
    have : w.testBit i = true := by rw [Nat.testBit_eq_decide_div_mod_eq]; exact decide_eq_true h
    simp [this]
  · simp [e]
theorem il_not_bit (i j : Nat) (hi : i < 64) : (18446744073709551615 - 2 ^ i).testBit j = (decide (j < 64) && !decide (i = j)) := by
  have hp : 2 ^ i < 2 ^ 64 := Nat.pow_lt_pow_right (by omega) hi
  rw [show 18446744073709551615 - 2 ^ i = 2 ^ 64 - (2 ^ i + 1) by omega, Nat.testBit_two_pow_sub_succ hp, Nat.testBit_two_pow]
theorem il_an_out (w i : Nat) (hi : i < 64) (hw : w < 18446744073709551616) (h : ¬ w / 2 ^ i % 2 = 1) : w &&& (18446744073709551615 - 2 ^ i) = w := by
  apply Nat.eq_of_testBit_eq
  intro j
  rw [Nat.testBit_and, il_not_bit i j hi]
  by_cases hj : j < 64
  · by_cases e : i = j
    · subst e
      have : w.testBit i = false := by rw [Nat.testBit_eq_decide_div_mod_eq]; exact decide_eq_false h
      simp [this]
    · simp [e, hj]
  · have : w.testBit j = false := Nat.testBit_lt_two_pow (Nat.lt_of_lt_of_le hw (show (2 : Nat) ^ 64 ≤ 2 ^ j from Nat.pow_le_pow_right (by omega) (by omega)))
    simp [this]
theorem il_an_in (w i : Nat) (hi : i < 64) (hw : w < 18446744073709551616) (h : w / 2 ^ i % 2 = 1) : w &&& (18446744073709551615 - 2 ^ i) = w - 2 ^ i := by
  have hz : w &&& (18446744073709551615 - 2 ^ i) ≤ w := Nat.and_le_left
  have h0 : ¬ (w &&& (18446744073709551615 - 2 ^ i)) / 2 ^ i % 2 = 1 := by
    have : (w &&& (18446744073709551615 - 2 ^ i)).testBit i = false := by rw [Nat.testBit_and, il_not_bit i i hi]; simp
    rw [Nat.testBit_eq_decide_div_mod_eq] at this
    exact of_decide_eq_false this
  have h1 := il_or_out _ i hi (Nat.lt_of_le_of_lt hz hw) h0
  have h2 : (w &&& (18446744073709551615 - 2 ^ i)) ||| 2 ^ i = w := by
    apply Nat.eq_of_testBit_eq
    intro j
    rw [Nat.testBit_or, Nat.testBit_and, il_not_bit i j hi, Nat.testBit_two_pow]
    by_cases e : i = j
    · subst e
      have : w.testBit i = true := by rw [Nat.testBit_eq_decide_div_mod_eq]; exact decide_eq_true h
      simp [this]
    · by_cases hj : j < 64
      · simp [e, hj]
      · have : w.testBit j = false := Nat.testBit_lt_two_pow (Nat.lt_of_lt_of_le hw (show (2 : Nat) ^ 64 ≤ 2 ^ j from Nat.pow_le_pow_right (by omega) (by omega)))
        simp [e, this]
  omega

/-- A processor's bit. -/
def bitOf (p : Int) : Int := if 0 ≤ p ∧ p < 64 then ((2 ^ p.toNat : Nat) : Int) else 0
/-- Has a word it? -/
def mskB (w p : Int) : Bool := decide (bitOf p ≠ 0) && decide (w / bitOf p % 2 = 1)
def mskIn (w p : Int) : Int := if mskB w p then w else w + bitOf p
def mskOut (w p : Int) : Int := if mskB w p then w - bitOf p else w
theorem bitOf_bd (p : Int) : 0 ≤ bitOf p ∧ bitOf p ≤ 9223372036854775808 := by
  unfold bitOf
  split
  · have h1 : 2 ^ p.toNat ≤ 2 ^ 63 := Nat.pow_le_pow_right (by omega) (by omega)
    generalize 2 ^ p.toNat = z at *
    omega
  · omega
theorem mskB_nat (w i : Nat) (hi : i < 64) : mskB w (i : Int) = decide (w / 2 ^ i % 2 = 1) := by
  have hp : 0 < 2 ^ i := Nat.two_pow_pos i
  have e : bitOf (i : Int) = ((2 ^ i : Nat) : Int) := by unfold bitOf; rw [if_pos (by omega)]; rfl
  unfold mskB
  rw [e]
  have h1 : decide (((2 ^ i : Nat) : Int) ≠ 0) = true := decide_eq_true (by omega)
  rw [h1, Bool.true_and]
  apply Bool.eq_iff_iff.2
  rw [decide_eq_true_iff, decide_eq_true_iff]
  rw [← Int.natCast_ediv]
  omega
theorem mskB_far {w p : Int} (h : ¬ (0 ≤ p ∧ p < 64)) : mskB w p = false := by
  unfold mskB bitOf
  rw [if_neg h]
  rfl
theorem or_bit (w p : Int) (hw : 0 ≤ w ∧ w ≤ 18446744073709551615) : bits .or .u64 w (bitOf p) = mskIn w p ∧ 0 ≤ mskIn w p ∧ mskIn w p ≤ 18446744073709551615 := by
  obtain ⟨W, rfl⟩ := Int.eq_ofNat_of_zero_le hw.1
  by_cases h : 0 ≤ p ∧ p < 64
  · obtain ⟨i, rfl⟩ := Int.eq_ofNat_of_zero_le h.1
    have hi : i < 64 := by omega
    have hp : 2 ^ i ≤ 2 ^ 63 := Nat.pow_le_pow_right (by omega) (by omega)
    have hlt : W ||| 2 ^ i < 2 ^ 64 := Nat.or_lt_two_pow (by omega) (by omega)
    have e : bitOf (i : Int) = ((2 ^ i : Nat) : Int) := by unfold bitOf; rw [if_pos h]; rfl
    unfold mskIn
    rw [mskB_nat W i hi, e, u64_or_nat W (2 ^ i) (by omega) (by omega)]
    by_cases hb : W / 2 ^ i % 2 = 1
    · rw [decide_eq_true hb, if_pos rfl, il_or_in W i hb]
      exact ⟨rfl, hw⟩
    · rw [decide_eq_false hb, if_neg (by simp)]
      have h3 := il_or_out W i hi (by omega) hb
      rw [h3]
      rw [h3] at hlt
      clear e h3 hb hp
      generalize 2 ^ i = z at *
      omega
  · have e : bitOf p = ((0 : Nat) : Int) := by unfold bitOf; rw [if_neg h]; rfl
    unfold mskIn
    rw [mskB_far h, e, u64_or_nat W 0 (by omega) (by omega)]
    simp
    omega
theorem an_bit (w p : Int) (hw : 0 ≤ w ∧ w ≤ 18446744073709551615) : bits .andNot .u64 w (bitOf p) = mskOut w p ∧ 0 ≤ mskOut w p ∧ mskOut w p ≤ 18446744073709551615 := by
  obtain ⟨W, rfl⟩ := Int.eq_ofNat_of_zero_le hw.1
  by_cases h : 0 ≤ p ∧ p < 64
  · obtain ⟨i, rfl⟩ := Int.eq_ofNat_of_zero_le h.1
    have hi : i < 64 := by omega
    have hp : 2 ^ i ≤ 2 ^ 63 := Nat.pow_le_pow_right (by omega) (by omega)
    have e : bitOf (i : Int) = ((2 ^ i : Nat) : Int) := by unfold bitOf; rw [if_pos h]; rfl
    unfold mskOut
    rw [mskB_nat W i hi, e, u64_andNot_nat W (2 ^ i) (by omega) (by omega)]
    by_cases hb : W / 2 ^ i % 2 = 1
    · rw [decide_eq_true hb, if_pos rfl, il_an_in W i hi (by omega) hb]
      have hge : 2 ^ i ≤ W := by
        apply Decidable.byContradiction
        intro hlt
        rw [Nat.div_eq_of_lt (by omega)] at hb
        omega
      clear e hb hp
      generalize 2 ^ i = z at *
      omega
    · rw [decide_eq_false hb, if_neg (by simp), il_an_out W i hi (by omega) hb]
      exact ⟨rfl, hw⟩
  · have e : bitOf p = ((0 : Nat) : Int) := by unfold bitOf; rw [if_neg h]; rfl
    unfold mskOut
    rw [mskB_far h, e, u64_andNot_nat W 0 (by omega) (by omega)]
    have : W &&& (18446744073709551615 - 0) = W := by
      have := Nat.and_two_pow_sub_one_eq_mod W 64
      rw [show 18446744073709551615 - 0 = 2 ^ 64 - 1 by omega, this]
      omega
    rw [this]
    simp
    omega
theorem and_bit (w p : Int) (hw : 0 ≤ w ∧ w ≤ 18446744073709551615) : decide (bits .and .u64 w (bitOf p) ≠ 0) = mskB w p := by
  obtain ⟨W, rfl⟩ := Int.eq_ofNat_of_zero_le hw.1
  by_cases h : 0 ≤ p ∧ p < 64
  · obtain ⟨i, rfl⟩ := Int.eq_ofNat_of_zero_le h.1
    have hi : i < 64 := by omega
    have hp : 2 ^ i ≤ 2 ^ 63 := Nat.pow_le_pow_right (by omega) (by omega)
    have hp0 : 0 < 2 ^ i := Nat.two_pow_pos i
    have e : bitOf (i : Int) = ((2 ^ i : Nat) : Int) := by unfold bitOf; rw [if_pos h]; rfl
    rw [mskB_nat W i hi, e, u64_and_nat W (2 ^ i) (by omega) (by omega)]
    by_cases hb : W / 2 ^ i % 2 = 1
    · rw [decide_eq_true hb, Go.nat_bit, hb]
      exact decide_eq_true (by omega)
    · rw [decide_eq_false hb, il_and_bit W i hb]
      rfl
  · have e : bitOf p = ((0 : Nat) : Int) := by unfold bitOf; rw [if_neg h]; rfl
    rw [mskB_far h, e, u64_and_nat W 0 (by omega) (by omega)]
    simp

theorem il_word (w : World) (c : Nat) (i : Int) (h : 6 ≤ i ∧ i ≤ 19) : Calls Tryz.prog 68 #[.pointer (some ⟨c, 0, none⟩), .int .i64 i] w fun e w' => e = .returned (.int .i64 i) ∧ w = w' := by
  have d1 : decide (i < 6) = false := decide_eq_false (by omega)
  have d2 : decide (19 < i) = false := decide_eq_false (by omega)
  clear h
  go_enter Tryz.func68, Tryz.ntmps68
  go_wp2_with fail
  go_ret
  exact ⟨rfl, rfl⟩
theorem lthr_any (o : Option Addr) (P T G n f : Int) (w : World) (h : LayO w P T G o) (hp : 0 ≤ P ∧ P ≤ 64) (hT : 0 ≤ T ∧ T ≤ 65536) : Calls Tryz.prog 44 #[.pointer o, .int .i64 n, .int .i64 f] w fun e w' => e = .returned (.int .i64 (wd (20 + P * 264) T 3 n f)) ∧ Below w.heap.size w w' := by
  have hs := threads_any o P T G w h hp
  clear h
  go_enter Tryz.func44, Tryz.ntmps44
  go_wp2_with fail
  go_at_call 110; refine hs.mono ?_; rintro e w1 ⟨rfl, h1⟩
  clear hs
  go_wp2_with fail
  go_at_call 111; refine (word_any _ T 3 n f _ (by omega) (by omega) (by omega)).mono ?_; rintro e w2 ⟨rfl, h2⟩
  have hb := seq h1 h2
  go_wp2_with fail
  go_ret
  exact ⟨rfl, hb⟩
theorem rprcAt_all (P T G p f : Int) (w : World) (hP : P ≤ 64) (hf : 0 ≤ f ∧ f < 8) :
    Calls Tryz.prog 131 #[.agg #[.int .i64 P, .int .i64 T, .int .i64 G], .int .i64 p, .int .i64 f] w fun e w' => e = .returned (.int .i64 (wd 20 P 264 p f)) ∧ Below w.heap.size w w' := by
  by_cases h : 0 ≤ p ∧ p < P
  · exact rprcAt_any P T G p f w h hP hf
  · have hb : Below w.heap.size w (w.alloc (.cells #[.int .i64 P, .int .i64 T, .int .i64 G] 23)) := (Below.refl _ _).alloc (Nat.le_refl _) _
    have e : wd 20 P 264 p f = -1 := by unfold wd; rw [if_neg (fun hh => h ⟨hh.1, hh.2.1⟩)]
    rw [e]
    by_cases h0 : p < 0
    · clear h e
      go_enter Tryz.func131, Tryz.ntmps131
      go_wp2_with fail
      go_ret
      exact ⟨rfl, hb⟩
    · have d1 : decide (p < 0) = false := decide_eq_false h0
      have h1 : P ≤ p := by omega
      clear h e
      go_enter Tryz.func131, Tryz.ntmps131
      go_wp2_with fail
      go_ret
      exact ⟨rfl, hb⟩
theorem rthr_any (P T G t f : Int) (w : World) (hp : 0 ≤ P ∧ P ≤ 64) (ht : 0 ≤ t ∧ t ≤ 65536) (hf : 0 ≤ f ∧ f < 3) : Calls Tryz.prog 194 #[.agg #[.int .i64 P, .int .i64 T, .int .i64 G], .int .i64 t, .int .i64 f] w fun e w' => e = .returned (.int .i64 (20 + 264 * P + 3 * t + f)) ∧ Below w.heap.size w w' := by
  have hb : Below w.heap.size w (w.alloc (.cells #[.int .i64 P, .int .i64 T, .int .i64 G] 23)) := (Below.refl _ _).alloc (Nat.le_refl _) _
  go_enter Tryz.func194, Tryz.ntmps194
  go_wp2_with fail
  go_ret
  exact ⟨ret_int (by first | rfl | omega | (unfold wrap64; omega)), hb⟩
theorem rthrAt_all (P T G t f : Int) (w : World) (hp : 0 ≤ P ∧ P ≤ 64) (hT : T ≤ 65536) (hf : 0 ≤ f ∧ f < 3) :
    Calls Tryz.prog 169 #[.agg #[.int .i64 P, .int .i64 T, .int .i64 G], .int .i64 t, .int .i64 f] w fun e w' => e = .returned (.int .i64 (wd (20 + P * 264) T 3 t f)) ∧ Below w.heap.size w w' := by
  have hb : Below w.heap.size w (w.alloc (.cells #[.int .i64 P, .int .i64 T, .int .i64 G] 23)) := (Below.refl _ _).alloc (Nat.le_refl _) _
  by_cases hg : 0 ≤ t ∧ t < T
  · have e : 20 + 264 * P + 3 * t + f = wd (20 + P * 264) T 3 t f := by unfold wd; rw [if_pos ⟨hg.1, hg.2, by omega, by omega⟩]; omega
    have hT := rthr_any P T G t f (w.alloc (.cells #[.int .i64 P, .int .i64 T, .int .i64 G] 23)) hp (by omega) hf
    rw [e] at hT
    generalize wd (20 + P * 264) T 3 t f = nt at *
    clear e
    have hX : Hid (Blk (w.alloc (.cells #[.int .i64 P, .int .i64 T, .int .i64 G] 23)) w.heap.size #[.int .i64 P, .int .i64 T, .int .i64 G] 23) := Blk.new _ _ _
    have HB : Hid (Below w.heap.size w (w.alloc (.cells #[.int .i64 P, .int .i64 T, .int .i64 G] 23))) := hb
    have hsz := World.size_alloc w (.cells #[.int .i64 P, .int .i64 T, .int .i64 G] 23)
    have d1 : decide (t < 0) = false := decide_eq_false (by omega)
    have d2 : decide (T ≤ t) = false := decide_eq_false (by omega)
    clear hb
    go_enter Tryz.func169, Tryz.ntmps169
    go_wp2_with fail
    go_at_call 194; refine hT.mono ?_; rintro e w1 ⟨rfl, h1⟩
    have h2 := HB.out.trans (h1.mono HB.out.size)
    clear hT h1
    go_wp2_with fail
    go_ret
    exact ⟨rfl, h2⟩
  · have e : wd (20 + P * 264) T 3 t f = -1 := by unfold wd; rw [if_neg (fun h => hg ⟨h.1, h.2.1⟩)]
    rw [e]
    by_cases h0 : t < 0
    · clear hg e
      go_enter Tryz.func169, Tryz.ntmps169
      go_wp2_with fail
      go_ret
      exact ⟨rfl, hb⟩
    · have d1 : decide (t < 0) = false := decide_eq_false h0
      have h1 : T ≤ t := by omega
      clear hg e
      go_enter Tryz.func169, Tryz.ntmps169
      go_wp2_with fail
      go_ret
      exact ⟨rfl, hb⟩
/-- A processor or a thread as a word. -/
def ilw (p : Int) : Int := IntKind.u64.wrap (IntKind.u64.wrap p + 1)
theorem ilw_bd (g : Int) : 0 ≤ ilw g ∧ ilw g ≤ 18446744073709551615 := by
  unfold ilw
  generalize IntKind.u64.wrap g + 1 = z
  simp [IntKind.wrap, IntKind.bits, IntKind.signed]
  omega
theorem ilw_small (g : Int) (h : 0 ≤ g ∧ g ≤ 1000000) : ilw g = g + 1 := by
  unfold ilw
  simp [IntKind.wrap, IntKind.bits, IntKind.signed]
  omega
end Go.Proofs.YtfdpikkinlljlaaGreat

namespace Go.Proofs.YtfdpikkinlljlaaGreat
open Go Go.RowKit
set_option linter.unusedVariables false
set_option maxRecDepth 100000
set_option linter.unusedSimpArgs false

section
variable (w : World) (x c : Nat) (cs : Array Value) (T : TypeId) (h : Blk w x cs T) (hs : 2 ≤ cs.size) (h2 : cs[2]? = some (.pointer (some ⟨c, 0, none⟩)))
include h hs h2
theorem ip_load (i : Int) (hi : 6 ≤ i ∧ i ≤ 19) (K : Nat) :
    Calls Tryz.prog 282 #[.pointer (some ⟨x, 0, none⟩), .int .i64 i, .func (.func K) #[.pointer (some ⟨x, 0, none⟩)] #[]] w fun e w' => (∃ v, e = .returned v) ∧ Came w w' x cs T (axLd i) (.told K) := by
  have H := came_load w.drew x cs T h.drew hs i K
  have c2 := h.cell 2 h2
  have hW := il_word w.drew c i hi
  clear h hs h2 hi
  go_enter Tryz.func282, Tryz.ntmps282
  go_wp2_with fail
  go_region_with (first | (go_at_call 68; refine hW.mono ?_; rintro e w3 ⟨rfl, rfl⟩) | (go_at_call 67; refine H.mono ?_; rintro e w1 ⟨⟨v, rfl⟩, hC⟩))
  all_goals
    have hC2 := hC.undrew
    clear hW H c2 hC
    go_wp2_with fail
    go_end0
    exact ⟨⟨_, rfl⟩, hC2⟩
theorem ip_store (i : Int) (hi : 6 ≤ i ∧ i ≤ 19) (u : Int) (K : Nat) :
    Calls Tryz.prog 296 #[.pointer (some ⟨x, 0, none⟩), .int .i64 i, .int .u64 u, .func (.func K) #[.pointer (some ⟨x, 0, none⟩)] #[]] w fun e w' => (∃ v, e = .returned v) ∧ Came w w' x cs T (axSt i u) (.untold K) := by
  have H := came_store w.drew x cs T h.drew hs i u K
  have c2 := h.cell 2 h2
  have hW := il_word w.drew c i hi
  clear h hs h2 hi
  go_enter Tryz.func296, Tryz.ntmps296
  go_wp2_with fail
  go_region_with (first | (go_at_call 68; refine hW.mono ?_; rintro e w3 ⟨rfl, rfl⟩) | (go_at_call 88; refine H.mono ?_; rintro e w1 ⟨⟨v, rfl⟩, hC⟩))
  all_goals
    have hC2 := hC.undrew
    clear hW H c2 hC
    go_wp2_with fail
    go_end0
    exact ⟨⟨_, rfl⟩, hC2⟩
theorem ip_count (u : Int) :
    Calls Tryz.prog 310 #[.pointer (some ⟨x, 0, none⟩), .int .u64 u] w fun e w' => (∃ v, e = .returned v) ∧ Came w w' x cs T (axAd 10 u) .nil := by
  have H := came_add_nil w.drew x cs T h.drew hs 10 u
  have c2 := h.cell 2 h2
  have hW := il_word w.drew c 10 (by omega)
  clear h hs h2
  go_enter Tryz.func310, Tryz.ntmps310
  go_wp2_with fail
  go_region_with (first | (go_at_call 68; refine hW.mono ?_; rintro e w3 ⟨rfl, rfl⟩) | (go_at_call 185; refine H.mono ?_; rintro e w1 ⟨⟨v, rfl⟩, hC⟩))
  all_goals
    have hC2 := hC.undrew
    clear hW H c2 hC
    go_wp2_with fail
    go_end0
    exact ⟨⟨_, rfl⟩, hC2⟩
omit hs in
theorem ip_behind (P T' G p : Int) (h3 : cs[3]? = some (.int .i64 p)) (hl : Lay w c P T' G) (hp : 0 ≤ P ∧ P ≤ 64) (hT : 0 ≤ T' ∧ T' ≤ 65536) :
    Calls Tryz.prog 293 #[.pointer (some ⟨x, 0, none⟩)] w fun e w' => e = .returned (.int .i64 (wd 20 P 264 p 7)) ∧ Below w.heap.size w w' := by
  have c2 := h.cell 2 h2
  have c3 := h.cell 3 h3
  have hW := lprc_any _ P T' G p 7 w.drew (.some c (hl.below ((Below.refl _ _).drew) hl.lt)) hp (by omega)
  clear h h2 h3 hl hp hT
  go_enter Tryz.func293, Tryz.ntmps293
  go_wp2_with fail
  go_region_with (first | (go_at_call 108; refine hW.mono ?_; rintro e w1 ⟨rfl, h1⟩))
  all_goals
    have h1' := (Below.refl _ w).drew.trans h1
    clear hW h1 c2 c3
    go_wp2_with fail
    go_ret
    exact ⟨rfl, h1'⟩
end
theorem ip_of (w : World) (x c : Nat) (who : Int) (cs cs' : Array Value) (T : TypeId) (h : Blk w x cs T) (hs : 3 ≤ cs.size) (hcs : (cs.setIfInBounds 2 (.pointer (some ⟨c, 0, none⟩))).setIfInBounds 0 (.int .i64 who) = cs') :
    Calls Tryz.prog 281 #[.pointer (some ⟨x, 0, none⟩), .pointer (some ⟨c, 0, none⟩), .int .i64 who] w fun e w' => (∃ v, e = .returned v) ∧ Blk w' x cs' T ∧ But [x] w w' ∧ w'.heap.size = w.heap.size := by
  have f2 := h.fro 2
  have hh2 := h.set 2 (.pointer (some ⟨c, 0, none⟩))
  have hF := fof_any _ x _ T who hh2 (by simp; omega)
  have hB0 : But [x] w (w.setCell ⟨x, 2, none⟩ (.pointer (some ⟨c, 0, none⟩))) := (But.refl _ w).set (g := x) (.inl (by simp)) 2 _
  obtain ⟨u, hu⟩ : ∃ u, w.cell? ⟨x, 2, none⟩ = some u := ⟨_, h.cell 2 (Array.getElem?_eq_getElem hs)⟩
  have HH : Hid (Blk _ x _ T ∧ But [x] w _ ∧ (w.setCell ⟨x, 2, none⟩ (.pointer (some ⟨c, 0, none⟩))).heap.size = w.heap.size) := ⟨hh2, hB0, size_set _ _ _⟩
  clear h hh2 hB0 hs
  go_enter Tryz.func281, Tryz.ntmps281
  go_wp2_with fail
  generalize w.setCell ⟨x, 2, none⟩ (.pointer (some ⟨c, 0, none⟩)) = W at *
  go_at_call 97; refine hF.mono ?_; rintro e w3 ⟨⟨v, rfl⟩, hw3⟩
  have h3 : Blk w3 x cs' T := by rw [hw3, ← hcs]; exact HH.out.1.set 0 _
  have hB3 : But [x] w w3 := by rw [hw3]; exact HH.out.2.1.set (g := x) (.inl (by simp)) 0 _
  have hs3 : w3.heap.size = w.heap.size := by rw [hw3, size_set]; exact HH.out.2.2
  clear hF hw3 HH hcs hu f2
  go_wp2_with fail
  go_end0
  exact ⟨⟨_, rfl⟩, h3, hB3, hs3⟩
theorem ip_bit (w : World) (p : Int) : Calls Tryz.prog 297 #[.int .i64 p] w fun e w' => e = .returned (.int .u64 (bitOf p)) ∧ w = w' := by
  by_cases h0 : p < 0
  · have e : bitOf p = 0 := by unfold bitOf; rw [if_neg (by omega)]
    rw [e]
    go_enter Tryz.func297, Tryz.ntmps297
    go_wp2_with fail
    go_ret
    exact ⟨rfl, rfl⟩
  · have d0 : decide (p < 0) = false := decide_eq_false h0
    by_cases h1 : 64 ≤ p
    · have e : bitOf p = 0 := by unfold bitOf; rw [if_neg (by omega)]
      rw [e]
      clear h0
      go_enter Tryz.func297, Tryz.ntmps297
      go_wp2_with fail
      go_ret
      exact ⟨rfl, rfl⟩
    · have d1 : decide (64 ≤ p) = false := decide_eq_false h1
      have hp0 : 0 ≤ p := by omega
      have e : IntKind.u64.wrap (1 * 2 ^ min p.toNat 64) = bitOf p := by
        have hm : min p.toNat 64 = p.toNat := by omega
        have hb := bitOf_bd p
        have hc : ((2 ^ p.toNat : Nat) : Int) = (2 : Int) ^ p.toNat := by simp
        rw [hm, Int.one_mul, ← hc]
        have : bitOf p = ((2 ^ p.toNat : Nat) : Int) := by unfold bitOf; rw [if_pos (by omega)]
        rw [← this]
        exact wrap_u64 (by omega)
      have HE : Hid (IntKind.u64.wrap (1 * 2 ^ min p.toNat 64) = bitOf p) := e
      clear h0 h1 e
      go_enter Tryz.func297, Tryz.ntmps297
      go_wp2_with fail
      go_ret
      have e := HE.out
      first
        | exact ⟨by rw [e], rfl⟩
        | (simp at e ⊢; exact e)
def ipCells (who : Int) (nx : Option Addr) (cl : Nat) (p : Int) (has : Bool) : Array Value := #[.int .i64 who, .pointer nx, .pointer (some ⟨cl, 0, none⟩), .int .i64 p, .bool has]
theorem ent_ip1 : Ent 286 := fun args w => by kernel_rfl
theorem ent_ip2 : Ent 298 := fun args w => by kernel_rfl
theorem ent_ip3 : Ent 302 := fun args w => by kernel_rfl
theorem ent_ip4 : Ent 305 := fun args w => by kernel_rfl
theorem ent_ip5 : Ent 308 := fun args w => by kernel_rfl
theorem iput_mask (w : World) (x cl : Nat) (who p : Int) (has : Bool) (nx : Option Addr) (v : Int) (hv : 0 ≤ v ∧ v ≤ 18446744073709551615) (h : Blk w x (ipCells who nx cl p has) 222) :
    Calls Tryz.prog 286 #[.pointer (some ⟨x, 0, none⟩), .int .u64 v] w fun e w' => (∃ v, e = .returned v) ∧ Came w w' x (ipCells who nx cl p has) 222 (axSt 19 (mskIn v p)) (.untold 298) := by
  have c3 := h.cell 3 (v := .int .i64 p) rfl
  have hb := (or_bit v p hv).1
  have HB := ip_bit w.drew p
  have H := ip_store w.drew x cl _ 222 h.drew (by simp [ipCells]) rfl 19 (by omega) (mskIn v p) 298
  generalize bitOf p = bp at *
  generalize mskIn v p = mv at *
  clear h hv
  go_enter Tryz.func286, Tryz.ntmps286
  go_wp2_with fail
  go_region_with (first | (go_at_call 297; refine HB.mono ?_; rintro e w4 ⟨rfl, rfl⟩) | (go_at_call 296; refine H.mono ?_; rintro e w5 ⟨⟨v, rfl⟩, hC⟩))
  all_goals
    have hC2 := hC.undrew
    clear HB H c3 hC hb
    go_wp2_with fail
    go_end0
    exact ⟨⟨_, rfl⟩, hC2⟩
theorem iput_look (w : World) (x cl : Nat) (who p : Int) (has : Bool) (nx : Option Addr) (h : Blk w x (ipCells who nx cl p has) 222) :
    Calls Tryz.prog 298 #[.pointer (some ⟨x, 0, none⟩)] w fun e w' => (∃ v, e = .returned v) ∧ Came w w' x (ipCells who nx cl p has) 222 (axLd 9) (.told 302) := by
  have H := ip_load w x cl _ 222 h (by simp [ipCells]) rfl 9 (by omega) 302
  clear h
  go_enter Tryz.func298, Tryz.ntmps298
  go_wp2_with fail
  go_at_call 282; refine H.mono ?_; rintro e w1 ⟨⟨u, rfl⟩, hC⟩
  clear H
  go_wp2_with fail
  go_end0
  exact ⟨⟨_, rfl⟩, hC⟩
theorem iput_link (w : World) (x cl : Nat) (who p : Int) (has : Bool) (nx : Option Addr) (P T G : Int) (v : Int) (hl : Lay w cl P T G) (hxc : cl ≠ x) (hp : 0 ≤ P ∧ P ≤ 64) (hT : 0 ≤ T ∧ T ≤ 65536) (h : Blk w x (ipCells who nx cl p has) 222) :
    Calls Tryz.prog 302 #[.pointer (some ⟨x, 0, none⟩), .int .u64 v] w fun e w' => (∃ v, e = .returned v) ∧ Came w w' x (ipCells who nx cl p has) 222 (axSt (wd 20 P 264 p 7) v) (.untold 305) := by
  have h' := h
  have hB : But [x] w w := But.refl _ _
  have hl' := hl
  have hV : True := trivial
  have hW := ip_behind w.drew x cl _ 222 h'.drew rfl P T G p rfl (hl'.below ((Below.refl _ _).drew) hl'.lt) hp hT
  have HS : Hid (∀ w4, Below w.drew.heap.size w.drew w4 → Calls Tryz.prog 88 #[.pointer (some ⟨x, 0, none⟩), .int .i64 (wd 20 P 264 p 7), .int .u64 v, .func (.func 305) #[.pointer (some ⟨x, 0, none⟩)] #[]] w4 fun e w' => (∃ v, e = .returned v) ∧ Came w w' x (ipCells who nx cl p has) 222 (axSt (wd 20 P 264 p 7) v) (.untold 305)) := by
    intro w4 k
    have hB4 : But [x] w w4 := hB.trans (((But.refl [x] w).drew).trans (But.of_below k))
    have h4 : Blk w4 x (ipCells who nx cl p has) 222 := h'.drew.but (But.of_below (l := []) k) (by simp)
    refine (came_store w4 x _ 222 h4 (by simp [ipCells]) _ v 305).mono ?_
    rintro e w5 ⟨hv, hC⟩
    exact ⟨hv, hC.before hB4⟩
  generalize wd 20 P 264 p 7 = at' at *
  clear h h' hB hl hl' hp hT hxc
  go_enter Tryz.func302, Tryz.ntmps302
  go_wp2_with fail
  clear hV
  go_region_with (first | (go_at_call 293; refine hW.mono ?_; rintro e w4 ⟨rfl, k⟩) | (go_at_call 88; refine (HS.out _ k).mono ?_; rintro e w5 ⟨⟨v, rfl⟩, hC⟩))
  all_goals
    clear hW k HS
    go_wp2_with fail
    go_end0
    exact ⟨⟨_, rfl⟩, hC⟩
theorem iput_lead (w : World) (x cl : Nat) (who p : Int) (has : Bool) (nx : Option Addr) (h : Blk w x (ipCells who nx cl p has) 222) :
    Calls Tryz.prog 305 #[.pointer (some ⟨x, 0, none⟩)] w fun e w' => (∃ v, e = .returned v) ∧ Came w w' x (ipCells who nx cl p has) 222 (axSt 9 (ilw p)) (.untold 308) := by
  have c3 := h.cell 3 (v := .int .i64 p) rfl
  have he : IntKind.u64.wrap (IntKind.u64.wrap p + 1) = ilw p := rfl
  have H := ip_store w.drew x cl _ 222 h.drew (by simp [ipCells]) rfl 9 (by omega) (ilw p) 308
  generalize ilw p = lp at *
  clear h
  go_enter Tryz.func305, Tryz.ntmps305
  go_wp2_with fail
  go_region_with (first | (go_at_call 296; refine H.mono ?_; rintro e w5 ⟨⟨v, rfl⟩, hC⟩))
  all_goals
    have hC2 := hC.undrew
    clear H c3 hC he
    go_wp2_with fail
    go_end0
    exact ⟨⟨_, rfl⟩, hC2⟩
theorem iput_leave (w : World) (x cl : Nat) (who p : Int) (has : Bool) (nx : Option Addr) (h : Blk w x (ipCells who nx cl p has) 222) :
    Calls Tryz.prog 308 #[.pointer (some ⟨x, 0, none⟩)] w fun e w' => (∃ v, e = .returned v) ∧ Came w w' x (ipCells who nx cl p false) 222 (axAd 10 1) .nil := by
  have c4 := h.cell 4 (v := .bool has) rfl
  have f4 := h.fro 4
  have hlt := h.lt
  have h' : Blk (w.setCell ⟨x, 4, none⟩ (.bool false)) x (ipCells who nx cl p false) 222 := h.set 4 (.bool false)
  have hB : But [x] w (w.setCell ⟨x, 4, none⟩ (.bool false)) := (But.refl _ w).set (g := x) (.inl (by simp)) 4 _
  have H := ip_count _ x cl _ 222 h' (by simp [ipCells]) rfl 1
  clear h h'
  go_enter Tryz.func308, Tryz.ntmps308
  go_wp2_with fail
  go_at_call 310; refine H.mono ?_; rintro e w1 ⟨⟨u, rfl⟩, hC⟩
  have hC2 := hC.before hB
  clear H hC hB c4 f4
  go_wp2_with fail
  go_end0
  exact ⟨⟨_, rfl⟩, hC2⟩
inductive IpT where
  | m0
  | ms (w : Int)
  | h0
  | ln (h : Int)
  | st
  | ct
  | over
def ipPM (P p : Int) : PM IpT where
  ax := fun
    | .m0 => some (axLd 19)
    | .ms w => some (axSt 19 (mskIn w p))
    | .h0 => some (axLd 9)
    | .ln h => some (axSt (wd 20 P 264 p 7) h)
    | .st => some (axSt 9 (ilw p))
    | .ct => some (axAd 10 1)
    | .over => none
  nx := fun
    | .m0, v => .ms v
    | .ms _, _ => .h0
    | .h0, v => .ln v
    | .ln _, _ => .st
    | .st, _ => .ct
    | .ct, _ => .over
    | t, _ => t
def IpT.has : IpT → Bool
  | .ct => false
  | .over => false
  | _ => true
/-- Which one is held. -/
def IpT.obs (p : Int) (t : IpT) : Int := if t.has then p else -1
def ipFl (who p : Int) (cl : Nat) : Fl IpT where
  T := 222
  cells := fun t nx => ipCells who nx cl p t.has
  fol := fun
    | .m0 => .told 286
    | .ms _ => .untold 298
    | .h0 => .told 302
    | .ln _ => .untold 305
    | .st => .untold 308
    | .ct => .nil
    | .over => .nil
  ok := fun
    | .ms w => 0 ≤ w ∧ w ≤ 18446744073709551615
    | .ln h => 0 ≤ h ∧ h ≤ 18446744073709551615
    | _ => True
theorem ip_laws (who P T G p : Int) (cl : Nat) (hp : 0 ≤ P ∧ P ≤ 64) (hT : 0 ≤ T ∧ T ≤ 65536) : (ipFl who p cl).Laws (ipPM P p) (Rd.lay cl P T G) who where
  c0 := fun t nx => rfl
  c1 := fun t nx => rfl
  set := fun t nx nx' => rfl
  axok := fun t a hok h => by
    cases t with
    | m0 => cases h; exact axLd_ok _
    | ms w => cases h; exact axSt_ok _ _ (or_bit w p hok).2
    | h0 => cases h; exact axLd_ok _
    | ln h' => cases h; exact axSt_ok _ _ hok
    | st => cases h; exact axSt_ok _ _ (ilw_bd p)
    | ct => cases h; exact axAd_ok _ _ (by omega)
    | over => cases h
  ents := fun t a h => by
    cases t with
    | m0 => exact ent_ip1
    | ms w => exact ent_ip2
    | h0 => exact ent_ip3
    | ln h' => exact ent_ip4
    | st => exact ent_ip5
    | ct => exact trivial
    | over => exact trivial
  ok := fun t a v hok h hv => by
    cases t with
    | m0 => exact hv
    | h0 => exact hv
    | _ => exact trivial
  fol := fun W x t a v hok h hv hB hR hxR => by
    have hcx : cl ≠ x := fun e => hxR (by rw [e]; exact List.mem_singleton.2 rfl)
    cases t with
    | m0 => cases h; exact iput_mask W x cl who p true none v hv hB
    | ms w => cases h; exact iput_look W x cl who p true none hB
    | h0 => cases h; exact iput_link W x cl who p true none P T G v hR hcx hp hT hB
    | ln h' => cases h; exact iput_lead W x cl who p true none hB
    | st => cases h; exact iput_leave W x cl who p true none hB
    | ct => cases h; exact ⟨hB, But.refl _ _⟩
    | over => cases h
theorem ip_new (w : World) (cl : Nat) (who p : Int) (P : Int) :
    Calls Tryz.prog 274 #[.pointer (some ⟨cl, 0, none⟩), .int .i64 who, .int .i64 p] w fun e w' => ∃ x L, e = .returned (.pointer (some ⟨x, 0, none⟩)) ∧ (ipFl who p cl).I (ipPM P p) w' x .m0 L ∧ Below w.heap.size w w' ∧ (∀ k ∈ L, w.heap.size ≤ k) ∧ w.heap.size ≤ x := by
  have hB := Blk.new w #[.int .i64 0, .pointer none, .pointer none, .int .i64 0, .bool true] 222
  have hb : Below w.heap.size w (w.alloc (.cells #[.int .i64 0, .pointer none, .pointer none, .int .i64 0, .bool true] 222)) := (Below.refl _ _).alloc (Nat.le_refl _) _
  have hO := ip_of _ w.heap.size cl who _ (ipCells who none cl 0 true) 222 hB (by simp) rfl
  have HH : Hid (Below w.heap.size w (w.alloc (.cells #[.int .i64 0, .pointer none, .pointer none, .int .i64 0, .bool true] 222))) := hb
  have hsz := World.size_alloc w (.cells #[.int .i64 0, .pointer none, .pointer none, .int .i64 0, .bool true] 222)
  clear hB hb
  go_enter Tryz.func274, Tryz.ntmps274
  go_wp2_with fail
  go_at_call 281; refine hO.mono ?_; rintro e w1 ⟨⟨v, rfl⟩, h1, h2, h3⟩
  have hlt := h1.lt
  have c3 := h1.cell 3 (v := .int .i64 0) rfl
  have f3 := h1.fro 3
  have h1' : Blk (w1.setCell ⟨w.heap.size, 3, none⟩ (.int .i64 p)) w.heap.size (ipCells who none cl p true) 222 := h1.set 3 (.int .i64 p)
  have h2' : But [w.heap.size] (w.alloc (.cells #[.int .i64 0, .pointer none, .pointer none, .int .i64 0, .bool true] 222)) (w1.setCell ⟨w.heap.size, 3, none⟩ (.int .i64 p)) := h2.set (g := w.heap.size) (.inl (by simp)) 3 _
  have h3' : (w1.setCell ⟨w.heap.size, 3, none⟩ (.int .i64 p)).heap.size = w.heap.size + 1 := by rw [size_set, h3, hsz]
  have hb1 : Hid (Below w.heap.size w (w1.setCell ⟨w.heap.size, 3, none⟩ (.int .i64 p))) := HH.out.trans (h2'.below (by simp) (by rw [hsz]; omega))
  have hL := ip_load (w1.setCell ⟨w.heap.size, 3, none⟩ (.int .i64 p)) w.heap.size cl _ 222 h1' (by simp [ipCells]) rfl 19 (by omega) 286
  clear hO h2 HH h1 h1' h2'
  go_wp2_with fail
  go_at_call 282; refine hL.mono ?_; rintro e w2 ⟨⟨v2, rfl⟩, hC⟩
  obtain ⟨q, Lc, c1, c2, c3, c4⟩ := hC
  have hF : Hid ((ipFl who p cl).I (ipPM P p) w2 w.heap.size .m0 (w.heap.size :: Lc) ∧ Below w.heap.size w w2 ∧ ∀ k ∈ w.heap.size :: Lc, w.heap.size ≤ k) := by
    refine ⟨⟨trivial, q, Lc, c1, c2, fun hm => by have := c4 _ hm; omega, rfl⟩, hb1.out.trans (c3.below (by simp) hb1.out.size), fun k hk => ?_⟩
    simp at hk
    rcases hk with rfl | hk
    · exact Nat.le_refl _
    · have := c4 k hk; omega
  clear hL c1 c2 c3 c4
  go_wp2_with fail
  go_ret
  exact ⟨w.heap.size, w.heap.size :: Lc, rfl, hF.out.1, hF.out.2.1, hF.out.2.2, Nat.le_refl _⟩
theorem iput_holds (w : World) (x cl : Nat) (who p : Int) (has : Bool) (nx : Option Addr) (h : Blk w x (ipCells who nx cl p has) 222) :
    Calls Tryz.prog 104 #[.pointer (some ⟨x, 0, none⟩)] w fun e w' => e = .returned (.int .i64 (if has then p else -1)) ∧ w = w' := by
  have c3 := h.cell 3 (v := .int .i64 p) rfl
  have c4 := h.cell 4 (v := .bool has) rfl
  clear h
  cases has with
  | false =>
    go_enter Tryz.func104, Tryz.ntmps104
    go_wp2_with fail
    go_ret
    exact ⟨rfl, rfl⟩
  | true =>
    go_enter Tryz.func104, Tryz.ntmps104
    go_wp2_with fail
    go_ret
    exact ⟨rfl, rfl⟩
theorem iput_holds_nil (w : World) : Calls Tryz.prog 104 #[.pointer none] w fun e w' => e = .returned (.int .i64 (-1)) ∧ w = w' := by
  go_enter Tryz.func104, Tryz.ntmps104
  go_wp2_with fail
  go_ret
  exact ⟨rfl, rfl⟩
theorem ip_holds {who P p : Int} {cl : Nat} {w : World} {x : Nat} {t : IpT} {L : List Nat} (h : (ipFl who p cl).I (ipPM P p) w x t L) :
    Calls Tryz.prog 104 #[.pointer (some ⟨x, 0, none⟩)] w fun e w' => e = .returned (.int .i64 (t.obs p)) ∧ w = w' := by
  obtain ⟨nx, h1, -⟩ := Fl.blk h
  exact iput_holds w x cl who p t.has nx h1
end Go.Proofs.YtfdpikkinlljlaaGreat

namespace Go.Proofs.YtfdpikkinlljlaaGreat
open Go Go.RowKit
set_option linter.unusedVariables false
set_option maxRecDepth 100000
set_option linter.unusedSimpArgs false

def igCells (who : Int) (nx : Option Addr) (cl : Nat) (p : Int) (n : Int) (z : Bool) : Array Value := #[.int .i64 who, .pointer nx, .pointer (some ⟨cl, 0, none⟩), .int .i64 p, .int .u64 n, .bool z]
theorem ent_ig1 : Ent 283 := fun args w => by kernel_rfl
theorem ent_ig2 : Ent 294 := fun args w => by kernel_rfl
theorem ent_ig3 : Ent 301 := fun args w => by kernel_rfl
theorem ent_ig4 : Ent 304 := fun args w => by kernel_rfl
theorem ent_ig5 : Ent 307 := fun args w => by kernel_rfl
theorem iget_choose_none (w : World) (x : Nat) :
    Calls Tryz.prog 283 #[.pointer (some ⟨x, 0, none⟩), .int .u64 0] w fun e w' => (∃ v, e = .returned v) ∧ w = w' := by
  go_enter Tryz.func283, Tryz.ntmps283
  go_wp2_with fail
  refine bodyPost_ret (results_none rfl _ _ _) rfl ?_
  exact ⟨⟨_, rfl⟩, rfl⟩
set_option maxHeartbeats 4000000 in
theorem iget_choose (w : World) (x cl : Nat) (who p n : Int) (z : Bool) (nx : Option Addr) (P T G : Int) (v : Int) (hv : v ≠ 0) (hl : Lay w cl P T G) (hxc : cl ≠ x) (hp : 0 ≤ P ∧ P ≤ 64) (hT : 0 ≤ T ∧ T ≤ 65536) (h : Blk w x (igCells who nx cl p n z) 231) :
    Calls Tryz.prog 283 #[.pointer (some ⟨x, 0, none⟩), .int .u64 v] w fun e w' => (∃ v, e = .returned v) ∧ Came w w' x (igCells who nx cl (gw v) n z) 231 (axLd (wd 20 P 264 (gw v) 7)) (.told 294) := by
  obtain ⟨zz, hz⟩ : ∃ zz, IntKind.u64.wrap (v - 1) = zz := ⟨_, rfl⟩
  obtain ⟨y, hy⟩ : ∃ y, IntKind.i64.wrap zz = y := ⟨_, rfl⟩
  have hgw : gw v = y := by unfold gw; rw [hz, hy]
  rw [hgw]
  have hd : (v == 0) = false := by simpa using hv
  have c3 := h.cell 3 (v := .int .i64 p) rfl
  have f3 := h.fro 3
  have hlt := h.lt
  have h' : Blk (w.setCell ⟨x, 3, none⟩ (.int .i64 y)) x (igCells who nx cl y n z) 231 := h.set 3 (.int .i64 y)
  have hB : But [x] w (w.setCell ⟨x, 3, none⟩ (.int .i64 y)) := (But.refl _ w).set (g := x) (.inl (by simp)) 3 _
  have hl' : Lay (w.setCell ⟨x, 3, none⟩ (.int .i64 y)) cl P T G := (hB.block cl hl.lt (by simpa using hxc)).trans hl
  generalize hV : (w.setCell ⟨x, 3, none⟩ (.int .i64 y)) = V at h' hB hl'
  have hW := ip_behind V.drew x cl _ 231 h'.drew rfl P T G y rfl (hl'.below ((Below.refl _ _).drew) hl'.lt) hp hT
  have HS : Hid (∀ w4, Below V.drew.heap.size V.drew w4 → Calls Tryz.prog 67 #[.pointer (some ⟨x, 0, none⟩), .int .i64 (wd 20 P 264 y 7), .func (.func 294) #[.pointer (some ⟨x, 0, none⟩)] #[]] w4 fun e w' => (∃ v, e = .returned v) ∧ Came w w' x (igCells who nx cl y n z) 231 (axLd (wd 20 P 264 y 7)) (.told 294)) := by
    intro w4 k
    have hB4 : But [x] w w4 := hB.trans (((But.refl [x] V).drew).trans (But.of_below k))
    have h4 : Blk w4 x (igCells who nx cl y n z) 231 := h'.drew.but (But.of_below (l := []) k) (by simp)
    refine (came_load w4 x _ 231 h4 (by simp [igCells]) _ 294).mono ?_
    rintro e w5 ⟨hv, hC⟩
    exact ⟨hv, hC.before hB4⟩
  generalize wd 20 P 264 y 7 = at' at *
  clear h h' hB hl hl' hp hT hxc hv hgw
  go_enter Tryz.func283, Tryz.ntmps283
  go_wp2_with fail
  try rw [hV]
  clear hV c3 f3
  go_region_with (first | (go_at_call 293; refine hW.mono ?_; rintro e w4 ⟨rfl, k⟩) | (go_at_call 67; refine (HS.out _ k).mono ?_; rintro e w5 ⟨⟨v, rfl⟩, hC⟩))
  all_goals
    clear hW k HS
    go_wp2_with fail
    go_end0
    exact ⟨⟨_, rfl⟩, hC⟩
theorem iget_lookMask (w : World) (x cl : Nat) (who p n : Int) (z : Bool) (nx : Option Addr) (v : Int) (h : Blk w x (igCells who nx cl p n z) 231) :
    Calls Tryz.prog 294 #[.pointer (some ⟨x, 0, none⟩), .int .u64 v] w fun e w' => (∃ v, e = .returned v) ∧ Came w w' x (igCells who nx cl p v z) 231 (axLd 19) (.told 301) := by
  have c4 := h.cell 4 (v := .int .u64 n) rfl
  have f4 := h.fro 4
  have hlt := h.lt
  have h' : Blk (w.setCell ⟨x, 4, none⟩ (.int .u64 v)) x (igCells who nx cl p v z) 231 := h.set 4 (.int .u64 v)
  have hB : But [x] w (w.setCell ⟨x, 4, none⟩ (.int .u64 v)) := (But.refl _ w).set (g := x) (.inl (by simp)) 4 _
  have H := ip_load _ x cl _ 231 h' (by simp [igCells]) rfl 19 (by omega) 301
  clear h h'
  go_enter Tryz.func294, Tryz.ntmps294
  go_wp2_with fail
  go_at_call 282; refine H.mono ?_; rintro e w1 ⟨⟨u, rfl⟩, hC⟩
  have hC2 := hC.before hB
  clear H hC hB c4 f4
  go_wp2_with fail
  go_end0
  exact ⟨⟨_, rfl⟩, hC2⟩
theorem iget_unmask (w : World) (x cl : Nat) (who p n : Int) (z : Bool) (nx : Option Addr) (v : Int) (hv : 0 ≤ v ∧ v ≤ 18446744073709551615) (h : Blk w x (igCells who nx cl p n z) 231) :
    Calls Tryz.prog 301 #[.pointer (some ⟨x, 0, none⟩), .int .u64 v] w fun e w' => (∃ v, e = .returned v) ∧ Came w w' x (igCells who nx cl p n z) 231 (axSt 19 (mskOut v p)) (.untold 304) := by
  have c3 := h.cell 3 (v := .int .i64 p) rfl
  have hb := (an_bit v p hv).1
  have HB := ip_bit w.drew p
  have H := ip_store w.drew x cl _ 231 h.drew (by simp [igCells]) rfl 19 (by omega) (mskOut v p) 304
  generalize bitOf p = bp at *
  generalize mskOut v p = mv at *
  clear h hv
  go_enter Tryz.func301, Tryz.ntmps301
  go_wp2_with fail
  go_region_with (first | (go_at_call 297; refine HB.mono ?_; rintro e w4 ⟨rfl, rfl⟩) | (go_at_call 296; refine H.mono ?_; rintro e w5 ⟨⟨v, rfl⟩, hC⟩))
  all_goals
    have hC2 := hC.undrew
    clear HB H c3 hC hb
    go_wp2_with fail
    go_end0
    exact ⟨⟨_, rfl⟩, hC2⟩
theorem iget_unlink (w : World) (x cl : Nat) (who p n : Int) (z : Bool) (nx : Option Addr) (h : Blk w x (igCells who nx cl p n z) 231) :
    Calls Tryz.prog 304 #[.pointer (some ⟨x, 0, none⟩)] w fun e w' => (∃ v, e = .returned v) ∧ Came w w' x (igCells who nx cl p n z) 231 (axSt 9 n) (.untold 307) := by
  have c4 := h.cell 4 (v := .int .u64 n) rfl
  have H := ip_store w.drew x cl _ 231 h.drew (by simp [igCells]) rfl 9 (by omega) n 307
  clear h
  go_enter Tryz.func304, Tryz.ntmps304
  go_wp2_with fail
  go_region_with (first | (go_at_call 296; refine H.mono ?_; rintro e w5 ⟨⟨v, rfl⟩, hC⟩))
  all_goals
    have hC2 := hC.undrew
    clear H c4 hC
    go_wp2_with fail
    go_end0
    exact ⟨⟨_, rfl⟩, hC2⟩
theorem iget_have (w : World) (x cl : Nat) (who p n : Int) (z : Bool) (nx : Option Addr) (h : Blk w x (igCells who nx cl p n z) 231) :
    Calls Tryz.prog 307 #[.pointer (some ⟨x, 0, none⟩)] w fun e w' => (∃ v, e = .returned v) ∧ Came w w' x (igCells who nx cl p n true) 231 (axAd 10 4294967295) .nil := by
  have c5 := h.cell 5 (v := .bool z) rfl
  have f5 := h.fro 5
  have hlt := h.lt
  have h' : Blk (w.setCell ⟨x, 5, none⟩ (.bool true)) x (igCells who nx cl p n true) 231 := h.set 5 (.bool true)
  have hB : But [x] w (w.setCell ⟨x, 5, none⟩ (.bool true)) := (But.refl _ w).set (g := x) (.inl (by simp)) 5 _
  have H := ip_count _ x cl _ 231 h' (by simp [igCells]) rfl 4294967295
  clear h h'
  go_enter Tryz.func307, Tryz.ntmps307
  go_wp2_with fail
  go_at_call 310; refine H.mono ?_; rintro e w1 ⟨⟨u, rfl⟩, hC⟩
  have hC2 := hC.before hB
  clear H hC hB c5 f5
  go_wp2_with fail
  go_end0
  exact ⟨⟨_, rfl⟩, hC2⟩
inductive IgT where
  | ld
  | lk (y : Int)
  | ms (y l : Int)
  | um (y l w : Int)
  | un (y l : Int)
  | ct (y l : Int)
  | none'
  | over (y l : Int)
def igPM (P : Int) : PM IgT where
  ax := fun
    | .ld => some (axLd 9)
    | .lk y => some (axLd (wd 20 P 264 y 7))
    | .ms _ _ => some (axLd 19)
    | .um y _ w => some (axSt 19 (mskOut w y))
    | .un _ l => some (axSt 9 l)
    | .ct _ _ => some (axAd 10 4294967295)
    | .none' => none
    | .over _ _ => none
  nx := fun
    | .ld, v => if v = 0 then .none' else .lk (gw v)
    | .lk y, v => .ms y v
    | .ms y l, v => .um y l v
    | .um y l _, _ => .un y l
    | .un y l, _ => .ct y l
    | .ct y l, _ => .over y l
    | t, _ => t
def IgT.p : IgT → Int
  | .lk y => y
  | .ms y _ => y
  | .um y _ _ => y
  | .un y _ => y
  | .ct y _ => y
  | .over y _ => y
  | _ => 0
def IgT.l : IgT → Int
  | .ms _ l => l
  | .um _ l _ => l
  | .un _ l => l
  | .ct _ l => l
  | .over _ l => l
  | _ => 0
def IgT.z : IgT → Bool
  | .ct _ _ => true
  | .over _ _ => true
  | _ => false
/-- Which one was got. -/
def IgT.obs (t : IgT) : Int := if t.z then t.p else -1
def igFl (who : Int) (cl : Nat) : Fl IgT where
  T := 231
  cells := fun t nx => igCells who nx cl t.p t.l t.z
  fol := fun
    | .ld => .told 283
    | .lk _ => .told 294
    | .ms _ _ => .told 301
    | .um _ _ _ => .untold 304
    | .un _ _ => .untold 307
    | _ => .nil
  ok := fun t => (0 ≤ t.l ∧ t.l ≤ 18446744073709551615) ∧ match t with
    | .um _ _ w => 0 ≤ w ∧ w ≤ 18446744073709551615
    | _ => True
theorem ig_laws (who P T G : Int) (cl : Nat) (hp : 0 ≤ P ∧ P ≤ 64) (hT : 0 ≤ T ∧ T ≤ 65536) : (igFl who cl).Laws (igPM P) (Rd.lay cl P T G) who where
  c0 := fun t nx => rfl
  c1 := fun t nx => rfl
  set := fun t nx nx' => rfl
  axok := fun t a hok h => by
    cases t with
    | ld => cases h; exact axLd_ok _
    | lk y => cases h; exact axLd_ok _
    | ms y l => cases h; exact axLd_ok _
    | um y l w => cases h; exact axSt_ok _ _ (an_bit w y hok.2).2
    | un y l => cases h; exact axSt_ok _ _ hok.1
    | ct y l => cases h; exact axAd_ok _ _ (by omega)
    | none' => cases h
    | over y l => cases h
  ents := fun t a h => by
    cases t with
    | ld => exact ent_ig1
    | lk y => exact ent_ig2
    | ms y l => exact ent_ig3
    | um y l w => exact ent_ig4
    | un y l => exact ent_ig5
    | _ => exact trivial
  ok := fun t a v hok h hv => by
    cases t with
    | ld => by_cases h0 : v = 0 <;> simp [igPM, igFl, h0, IgT.l]
    | lk y => exact ⟨hv, trivial⟩
    | ms y l => exact ⟨hok.1, hv⟩
    | um y l w => exact ⟨hok.1, trivial⟩
    | un y l => exact ⟨hok.1, trivial⟩
    | ct y l => exact ⟨hok.1, trivial⟩
    | none' => cases h
    | over y l => cases h
  fol := fun W x t a v hok h hv hB hR hxR => by
    have hcx : cl ≠ x := fun e => hxR (by rw [e]; exact List.mem_singleton.2 rfl)
    cases t with
    | ld =>
      cases h
      by_cases h0 : v = 0
      · subst h0
        refine (iget_choose_none W x).mono ?_
        rintro e w' ⟨hu, rfl⟩
        exact ⟨hu, hB, But.refl _ _⟩
      · have e : (igPM P).nx .ld v = .lk (gw v) := if_neg h0
        rw [e]
        exact iget_choose W x cl who 0 0 false none P T G v h0 hR hcx hp hT hB
    | lk y => cases h; exact iget_lookMask W x cl who y 0 false none v hB
    | ms y l => cases h; exact iget_unmask W x cl who y l false none v hv hB
    | um y l w => cases h; exact iget_unlink W x cl who y l false none hB
    | un y l => cases h; exact iget_have W x cl who y l false none hB
    | ct y l => cases h; exact ⟨hB, But.refl _ _⟩
    | none' => cases h
    | over y l => cases h
theorem ig_new (w : World) (cl : Nat) (who : Int) (P : Int) :
    Calls Tryz.prog 268 #[.pointer (some ⟨cl, 0, none⟩), .int .i64 who] w fun e w' => ∃ x L, e = .returned (.pointer (some ⟨x, 0, none⟩)) ∧ (igFl who cl).I (igPM P) w' x .ld L ∧ Below w.heap.size w w' ∧ (∀ k ∈ L, w.heap.size ≤ k) ∧ w.heap.size ≤ x := by
  have hB := Blk.new w #[.int .i64 0, .pointer none, .pointer none, .int .i64 0, .int .u64 0, .bool false] 231
  have hb : Below w.heap.size w (w.alloc (.cells #[.int .i64 0, .pointer none, .pointer none, .int .i64 0, .int .u64 0, .bool false] 231)) := (Below.refl _ _).alloc (Nat.le_refl _) _
  have hO := ip_of _ w.heap.size cl who _ (igCells who none cl 0 0 false) 231 hB (by simp) rfl
  have HH : Hid (Below w.heap.size w (w.alloc (.cells #[.int .i64 0, .pointer none, .pointer none, .int .i64 0, .int .u64 0, .bool false] 231))) := hb
  have hsz := World.size_alloc w (.cells #[.int .i64 0, .pointer none, .pointer none, .int .i64 0, .int .u64 0, .bool false] 231)
  clear hB hb
  go_enter Tryz.func268, Tryz.ntmps268
  go_wp2_with fail
  go_at_call 281; refine hO.mono ?_; rintro e w1 ⟨⟨v, rfl⟩, h1, h2, h3⟩
  have hlt := h1.lt
  have hb1 : Hid (Below w.heap.size w w1) := HH.out.trans (h2.below (by simp) (by rw [hsz]; omega))
  have hL := ip_load w1 w.heap.size cl _ 231 h1 (by simp [igCells]) rfl 9 (by omega) 283
  have h3' : w1.heap.size = w.heap.size + 1 := by rw [h3, hsz]
  clear hO h2 HH h1
  go_wp2_with fail
  go_at_call 282; refine hL.mono ?_; rintro e w2 ⟨⟨v2, rfl⟩, hC⟩
  obtain ⟨q, Lc, c1, c2, c3, c4⟩ := hC
  have hF : Hid ((igFl who cl).I (igPM P) w2 w.heap.size .ld (w.heap.size :: Lc) ∧ Below w.heap.size w w2 ∧ ∀ k ∈ w.heap.size :: Lc, w.heap.size ≤ k) := by
    refine ⟨⟨⟨by decide, trivial⟩, q, Lc, c1, c2, fun hm => by have := c4 _ hm; omega, rfl⟩, hb1.out.trans (c3.below (by simp) hb1.out.size), fun k hk => ?_⟩
    simp at hk
    rcases hk with rfl | hk
    · exact Nat.le_refl _
    · have := c4 k hk; omega
  clear hL c1 c2 c3 c4
  go_wp2_with fail
  go_ret
  exact ⟨w.heap.size, w.heap.size :: Lc, rfl, hF.out.1, hF.out.2.1, hF.out.2.2, Nat.le_refl _⟩
theorem iget_p (w : World) (x cl : Nat) (who p n : Int) (z : Bool) (nx : Option Addr) (h : Blk w x (igCells who nx cl p n z) 231) :
    Calls Tryz.prog 138 #[.pointer (some ⟨x, 0, none⟩)] w fun e w' => e = .returned (.int .i64 (if z then p else -1)) ∧ w = w' := by
  have c3 := h.cell 3 (v := .int .i64 p) rfl
  have cz := h.cell 5 (v := .bool z) rfl
  clear h
  cases z with
  | false =>
    go_enter Tryz.func138, Tryz.ntmps138
    go_wp2_with fail
    go_ret
    exact ⟨rfl, rfl⟩
  | true =>
    go_enter Tryz.func138, Tryz.ntmps138
    go_wp2_with fail
    go_ret
    exact ⟨rfl, rfl⟩
theorem iget_p_nil (w : World) : Calls Tryz.prog 138 #[.pointer none] w fun e w' => e = .returned (.int .i64 (-1)) ∧ w = w' := by
  go_enter Tryz.func138, Tryz.ntmps138
  go_wp2_with fail
  go_ret
  exact ⟨rfl, rfl⟩
theorem ig_got {who P : Int} {cl : Nat} {w : World} {x : Nat} {t : IgT} {L : List Nat} (h : (igFl who cl).I (igPM P) w x t L) :
    Calls Tryz.prog 138 #[.pointer (some ⟨x, 0, none⟩)] w fun e w' => e = .returned (.int .i64 t.obs) ∧ w = w' := by
  obtain ⟨nx, h1, -⟩ := Fl.blk h
  exact iget_p w x cl who t.p t.l t.z nx h1
end Go.Proofs.YtfdpikkinlljlaaGreat

namespace Go.Proofs.YtfdpikkinlljlaaGreat
open Go Go.RowKit
set_option linter.unusedVariables false
set_option maxRecDepth 100000
set_option linter.unusedSimpArgs false

section
variable (w : World) (x c : Nat) (cs : Array Value) (T : TypeId) (h : Blk w x cs T) (hs : 2 ≤ cs.size) (h2 : cs[2]? = some (.pointer (some ⟨c, 0, none⟩)))
include h hs h2
theorem im_load (i : Int) (hi : 6 ≤ i ∧ i ≤ 19) (K : Nat) :
    Calls Tryz.prog 237 #[.pointer (some ⟨x, 0, none⟩), .int .i64 i, .func (.func K) #[.pointer (some ⟨x, 0, none⟩)] #[]] w fun e w' => (∃ v, e = .returned v) ∧ Came w w' x cs T (axLd i) (.told K) := by
  have H := came_load w.drew x cs T h.drew hs i K
  have c2 := h.cell 2 h2
  have hW := il_word w.drew c i hi
  clear h hs h2 hi
  go_enter Tryz.func237, Tryz.ntmps237
  go_wp2_with fail
  go_region_with (first | (go_at_call 68; refine hW.mono ?_; rintro e w3 ⟨rfl, rfl⟩) | (go_at_call 67; refine H.mono ?_; rintro e w1 ⟨⟨v, rfl⟩, hC⟩))
  all_goals
    have hC2 := hC.undrew
    clear hW H c2 hC
    go_wp2_with fail
    go_end0
    exact ⟨⟨_, rfl⟩, hC2⟩
theorem im_store (i : Int) (hi : 6 ≤ i ∧ i ≤ 19) (u : Int) (K : Nat) :
    Calls Tryz.prog 270 #[.pointer (some ⟨x, 0, none⟩), .int .i64 i, .int .u64 u, .func (.func K) #[.pointer (some ⟨x, 0, none⟩)] #[]] w fun e w' => (∃ v, e = .returned v) ∧ Came w w' x cs T (axSt i u) (.untold K) := by
  have H := came_store w.drew x cs T h.drew hs i u K
  have c2 := h.cell 2 h2
  have hW := il_word w.drew c i hi
  clear h hs h2 hi
  go_enter Tryz.func270, Tryz.ntmps270
  go_wp2_with fail
  go_region_with (first | (go_at_call 68; refine hW.mono ?_; rintro e w3 ⟨rfl, rfl⟩) | (go_at_call 88; refine H.mono ?_; rintro e w1 ⟨⟨v, rfl⟩, hC⟩))
  all_goals
    have hC2 := hC.undrew
    clear hW H c2 hC
    go_wp2_with fail
    go_end0
    exact ⟨⟨_, rfl⟩, hC2⟩
theorem im_count (u : Int) :
    Calls Tryz.prog 285 #[.pointer (some ⟨x, 0, none⟩), .int .u64 u] w fun e w' => (∃ v, e = .returned v) ∧ Came w w' x cs T (axAd 12 u) .nil := by
  have H := came_add_nil w.drew x cs T h.drew hs 12 u
  have c2 := h.cell 2 h2
  have hW := il_word w.drew c 12 (by omega)
  clear h hs h2
  go_enter Tryz.func285, Tryz.ntmps285
  go_wp2_with fail
  go_region_with (first | (go_at_call 68; refine hW.mono ?_; rintro e w3 ⟨rfl, rfl⟩) | (go_at_call 185; refine H.mono ?_; rintro e w1 ⟨⟨v, rfl⟩, hC⟩))
  all_goals
    have hC2 := hC.undrew
    clear hW H c2 hC
    go_wp2_with fail
    go_end0
    exact ⟨⟨_, rfl⟩, hC2⟩
omit hs in
theorem im_behind (P T' G p : Int) (h3 : cs[3]? = some (.int .i64 p)) (hl : Lay w c P T' G) (hp : 0 ≤ P ∧ P ≤ 64) (hT : 0 ≤ T' ∧ T' ≤ 65536) :
    Calls Tryz.prog 254 #[.pointer (some ⟨x, 0, none⟩)] w fun e w' => e = .returned (.int .i64 (wd (20 + P * 264) T' 3 p 2)) ∧ Below w.heap.size w w' := by
  have c2 := h.cell 2 h2
  have c3 := h.cell 3 h3
  have hW := lthr_any _ P T' G p 2 w.drew (.some c (hl.below ((Below.refl _ _).drew) hl.lt)) hp hT
  clear h h2 h3 hl hp hT
  go_enter Tryz.func254, Tryz.ntmps254
  go_wp2_with fail
  go_region_with (first | (go_at_call 44; refine hW.mono ?_; rintro e w1 ⟨rfl, h1⟩))
  all_goals
    have h1' := (Below.refl _ w).drew.trans h1
    clear hW h1 c2 c3
    go_wp2_with fail
    go_ret
    exact ⟨rfl, h1'⟩
end
theorem im_of (w : World) (x c : Nat) (who : Int) (cs cs' : Array Value) (T : TypeId) (h : Blk w x cs T) (hs : 3 ≤ cs.size) (hcs : (cs.setIfInBounds 2 (.pointer (some ⟨c, 0, none⟩))).setIfInBounds 0 (.int .i64 who) = cs') :
    Calls Tryz.prog 236 #[.pointer (some ⟨x, 0, none⟩), .pointer (some ⟨c, 0, none⟩), .int .i64 who] w fun e w' => (∃ v, e = .returned v) ∧ Blk w' x cs' T ∧ But [x] w w' ∧ w'.heap.size = w.heap.size := by
  have f2 := h.fro 2
  have hh2 := h.set 2 (.pointer (some ⟨c, 0, none⟩))
  have hF := fof_any _ x _ T who hh2 (by simp; omega)
  have hB0 : But [x] w (w.setCell ⟨x, 2, none⟩ (.pointer (some ⟨c, 0, none⟩))) := (But.refl _ w).set (g := x) (.inl (by simp)) 2 _
  obtain ⟨u, hu⟩ : ∃ u, w.cell? ⟨x, 2, none⟩ = some u := ⟨_, h.cell 2 (Array.getElem?_eq_getElem hs)⟩
  have HH : Hid (Blk _ x _ T ∧ But [x] w _ ∧ (w.setCell ⟨x, 2, none⟩ (.pointer (some ⟨c, 0, none⟩))).heap.size = w.heap.size) := ⟨hh2, hB0, size_set _ _ _⟩
  clear h hh2 hB0 hs
  go_enter Tryz.func236, Tryz.ntmps236
  go_wp2_with fail
  generalize w.setCell ⟨x, 2, none⟩ (.pointer (some ⟨c, 0, none⟩)) = W at *
  go_at_call 97; refine hF.mono ?_; rintro e w3 ⟨⟨v, rfl⟩, hw3⟩
  have h3 : Blk w3 x cs' T := by rw [hw3, ← hcs]; exact HH.out.1.set 0 _
  have hB3 : But [x] w w3 := by rw [hw3]; exact HH.out.2.1.set (g := x) (.inl (by simp)) 0 _
  have hs3 : w3.heap.size = w.heap.size := by rw [hw3, size_set]; exact HH.out.2.2
  clear hF hw3 HH hcs hu f2
  go_wp2_with fail
  go_end0
  exact ⟨⟨_, rfl⟩, h3, hB3, hs3⟩
def imCells (who : Int) (nx : Option Addr) (cl : Nat) (t : Int) : Array Value := #[.int .i64 who, .pointer nx, .pointer (some ⟨cl, 0, none⟩), .int .i64 t]
inductive ImT where
  | h0
  | ln (h : Int)
  | st
  | ct
  | over
def imPM (P T t : Int) : PM ImT where
  ax := fun
    | .h0 => some (axLd 11)
    | .ln h => some (axSt (wd (20 + P * 264) T 3 t 2) h)
    | .st => some (axSt 11 (ilw t))
    | .ct => some (axAd 12 1)
    | .over => none
  nx := fun
    | .h0, v => .ln v
    | .ln _, _ => .st
    | .st, _ => .ct
    | .ct, _ => .over
    | t, _ => t
end Go.Proofs.YtfdpikkinlljlaaGreat

namespace Go.Proofs.YtfdpikkinlljlaaGreat
open Go Go.RowKit
set_option linter.unusedVariables false
set_option maxRecDepth 100000
set_option linter.unusedSimpArgs false

def jgCells (who : Int) (nx : Option Addr) (cl : Nat) (t : Int) (z : Bool) : Array Value := #[.int .i64 who, .pointer nx, .pointer (some ⟨cl, 0, none⟩), .int .i64 t, .bool z]
theorem ent_jg1 : Ent 238 := fun args w => by kernel_rfl
theorem ent_jg2 : Ent 255 := fun args w => by kernel_rfl
theorem ent_jg3 : Ent 272 := fun args w => by kernel_rfl
theorem ent_jg4 : Ent 253 := fun args w => by kernel_rfl
theorem ent_jg5 : Ent 271 := fun args w => by kernel_rfl
theorem jget_choose_none (w : World) (x cl : Nat) (who t : Int) (z : Bool) (nx : Option Addr) (h : Blk w x (jgCells who nx cl t z) 266) :
    Calls Tryz.prog 238 #[.pointer (some ⟨x, 0, none⟩), .int .u64 0] w fun e w' => (∃ v, e = .returned v) ∧ Came w w' x (jgCells who nx cl t z) 266 (axLd 15) (.told 253) := by
  have H := im_load w x cl _ 266 h (by simp [jgCells]) rfl 15 (by omega) 253
  clear h
  go_enter Tryz.func238, Tryz.ntmps238
  go_wp2_with fail
  go_at_call 237; refine H.mono ?_; rintro e w1 ⟨⟨u, rfl⟩, hC⟩
  clear H
  go_wp2_with fail
  refine bodyPost_ret (results_none rfl _ _ _) rfl ?_
  exact ⟨⟨_, rfl⟩, hC⟩
set_option maxHeartbeats 4000000 in
theorem jget_choose (w : World) (x cl : Nat) (who t : Int) (z : Bool) (nx : Option Addr) (P T G : Int) (v : Int) (hv : v ≠ 0) (hl : Lay w cl P T G) (hxc : cl ≠ x) (hp : 0 ≤ P ∧ P ≤ 64) (hT : 0 ≤ T ∧ T ≤ 65536) (h : Blk w x (jgCells who nx cl t z) 266) :
    Calls Tryz.prog 238 #[.pointer (some ⟨x, 0, none⟩), .int .u64 v] w fun e w' => (∃ v, e = .returned v) ∧ Came w w' x (jgCells who nx cl (gw v) z) 266 (axLd (wd (20 + P * 264) T 3 (gw v) 2)) (.told 255) := by
  obtain ⟨zz, hz⟩ : ∃ zz, IntKind.u64.wrap (v - 1) = zz := ⟨_, rfl⟩
  obtain ⟨y, hy⟩ : ∃ y, IntKind.i64.wrap zz = y := ⟨_, rfl⟩
  have hgw : gw v = y := by unfold gw; rw [hz, hy]
  rw [hgw]
  have hd : (v == 0) = false := by simpa using hv
  have c3 := h.cell 3 (v := .int .i64 t) rfl
  have f3 := h.fro 3
  have hlt := h.lt
  have h' : Blk (w.setCell ⟨x, 3, none⟩ (.int .i64 y)) x (jgCells who nx cl y z) 266 := h.set 3 (.int .i64 y)
  have hB : But [x] w (w.setCell ⟨x, 3, none⟩ (.int .i64 y)) := (But.refl _ w).set (g := x) (.inl (by simp)) 3 _
  have hl' : Lay (w.setCell ⟨x, 3, none⟩ (.int .i64 y)) cl P T G := (hB.block cl hl.lt (by simpa using hxc)).trans hl
  generalize hV : (w.setCell ⟨x, 3, none⟩ (.int .i64 y)) = V at h' hB hl'
  have hW := im_behind V.drew x cl _ 266 h'.drew rfl P T G y rfl (hl'.below ((Below.refl _ _).drew) hl'.lt) hp hT
  have HS : Hid (∀ w4, Below V.drew.heap.size V.drew w4 → Calls Tryz.prog 67 #[.pointer (some ⟨x, 0, none⟩), .int .i64 (wd (20 + P * 264) T 3 y 2), .func (.func 255) #[.pointer (some ⟨x, 0, none⟩)] #[]] w4 fun e w' => (∃ v, e = .returned v) ∧ Came w w' x (jgCells who nx cl y z) 266 (axLd (wd (20 + P * 264) T 3 y 2)) (.told 255)) := by
    intro w4 k
    have hB4 : But [x] w w4 := hB.trans (((But.refl [x] V).drew).trans (But.of_below k))
    have h4 : Blk w4 x (jgCells who nx cl y z) 266 := h'.drew.but (But.of_below (l := []) k) (by simp)
    refine (came_load w4 x _ 266 h4 (by simp [jgCells]) _ 255).mono ?_
    rintro e w5 ⟨hv, hC⟩
    exact ⟨hv, hC.before hB4⟩
  generalize wd (20 + P * 264) T 3 y 2 = at' at *
  clear h h' hB hl hl' hp hT hxc hv hgw
  go_enter Tryz.func238, Tryz.ntmps238
  go_wp2_with fail
  try rw [hV]
  clear hV c3 f3
  go_region_with (first | (go_at_call 254; refine hW.mono ?_; rintro e w4 ⟨rfl, k⟩) | (go_at_call 67; refine (HS.out _ k).mono ?_; rintro e w5 ⟨⟨v, rfl⟩, hC⟩))
  all_goals
    clear hW k HS
    go_wp2_with fail
    go_end0
    exact ⟨⟨_, rfl⟩, hC⟩
theorem jget_unlink (w : World) (x cl : Nat) (who t : Int) (z : Bool) (nx : Option Addr) (v : Int) (h : Blk w x (jgCells who nx cl t z) 266) :
    Calls Tryz.prog 255 #[.pointer (some ⟨x, 0, none⟩), .int .u64 v] w fun e w' => (∃ v, e = .returned v) ∧ Came w w' x (jgCells who nx cl t z) 266 (axSt 11 v) (.untold 272) := by
  have H := im_store w x cl _ 266 h (by simp [jgCells]) rfl 11 (by omega) v 272
  clear h
  go_enter Tryz.func255, Tryz.ntmps255
  go_wp2_with fail
  go_at_call 270; refine H.mono ?_; rintro e w1 ⟨⟨u, rfl⟩, hC⟩
  clear H
  go_wp2_with fail
  go_end0
  exact ⟨⟨_, rfl⟩, hC⟩
theorem jget_have (w : World) (x cl : Nat) (who t : Int) (z : Bool) (nx : Option Addr) (h : Blk w x (jgCells who nx cl t z) 266) :
    Calls Tryz.prog 272 #[.pointer (some ⟨x, 0, none⟩)] w fun e w' => (∃ v, e = .returned v) ∧ Came w w' x (jgCells who nx cl t true) 266 (axAd 12 4294967295) .nil := by
  have c4 := h.cell 4 (v := .bool z) rfl
  have f4 := h.fro 4
  have hlt := h.lt
  have h' : Blk (w.setCell ⟨x, 4, none⟩ (.bool true)) x (jgCells who nx cl t true) 266 := h.set 4 (.bool true)
  have hB : But [x] w (w.setCell ⟨x, 4, none⟩ (.bool true)) := (But.refl _ w).set (g := x) (.inl (by simp)) 4 _
  have H := im_count _ x cl _ 266 h' (by simp [jgCells]) rfl 4294967295
  clear h h'
  go_enter Tryz.func272, Tryz.ntmps272
  go_wp2_with fail
  go_at_call 285; refine H.mono ?_; rintro e w1 ⟨⟨u, rfl⟩, hC⟩
  have hC2 := hC.before hB
  clear H hC hB c4 f4
  go_wp2_with fail
  go_end0
  exact ⟨⟨_, rfl⟩, hC2⟩
theorem jget_haveNew (w : World) (x cl : Nat) (who t : Int) (z : Bool) (nx : Option Addr) (h : Blk w x (jgCells who nx cl t z) 266) :
    Calls Tryz.prog 271 #[.pointer (some ⟨x, 0, none⟩)] w fun e w' => (∃ v, e = .returned v) ∧ Blk w' x (jgCells who nx cl t true) 266 ∧ But [x] w w' := by
  have c4 := h.cell 4 (v := .bool z) rfl
  have f4 := h.fro 4
  have HF : Hid (Blk (w.setCell ⟨x, 4, none⟩ (.bool true)) x (jgCells who nx cl t true) 266 ∧ But [x] w (w.setCell ⟨x, 4, none⟩ (.bool true))) := ⟨h.set 4 (.bool true), (But.refl _ w).set (g := x) (.inl (by simp)) 4 _⟩
  clear h
  go_enter Tryz.func271, Tryz.ntmps271
  go_wp2_with fail
  go_end0
  exact ⟨⟨_, rfl⟩, HF.out⟩
theorem jget_make_none (w : World) (x cl : Nat) (who t : Int) (z : Bool) (nx : Option Addr) (P T G v : Int) (hl : Lay w cl P T G) (hT : 0 ≤ T ∧ T ≤ 65536) (hv : T ≤ v) (h : Blk w x (jgCells who nx cl t z) 266) :
    Calls Tryz.prog 253 #[.pointer (some ⟨x, 0, none⟩), .int .u64 v] w fun e w' => (∃ v, e = .returned v) ∧ Below w.heap.size w w' := by
  have c2 := h.cell 2 (v := .pointer (some ⟨cl, 0, none⟩)) rfl
  have hfc := field_c1
  have hC := config_any _ P T G w (.some cl hl)
  have hw1 : IntKind.u64.wrap T = T := wrap_u64 (by omega)
  have HB0 : Hid (Below w.heap.size w w) := Below.refl _ _
  clear h hl hT
  go_enter Tryz.func253, Tryz.ntmps253
  go_wp2_with fail
  go_at_call 106; refine hC.mono ?_; rintro e w4 ⟨rfl, k⟩
  have hF := HB0.out.trans k
  clear hC k c2
  go_wp2_with fail
  refine bodyPost_ret (results_none rfl _ _ _) rfl ?_
  exact ⟨⟨_, rfl⟩, hF⟩
set_option maxHeartbeats 4000000 in
theorem jget_make_some (w : World) (x cl : Nat) (who t : Int) (z : Bool) (nx : Option Addr) (P T G v : Int) (hl : Lay w cl P T G) (hxc : cl ≠ x) (hT : 0 ≤ T ∧ T ≤ 65536) (hv0 : 0 ≤ v) (hv : v < T) (h : Blk w x (jgCells who nx cl t z) 266) :
    Calls Tryz.prog 253 #[.pointer (some ⟨x, 0, none⟩), .int .u64 v] w fun e w' => (∃ v, e = .returned v) ∧ Came w w' x (jgCells who nx cl v z) 266 (axSt 15 (v + 1)) (.untold 271) := by
  have c2 := h.cell 2 (v := .pointer (some ⟨cl, 0, none⟩)) rfl
  have hfc := field_c1
  have hC := config_any _ P T G w (.some cl hl)
  have hw1 : IntKind.u64.wrap T = T := wrap_u64 (by omega)
  have hw2 : IntKind.i64.wrap v = v := by simp [IntKind.wrap, IntKind.bits, IntKind.signed]; omega
  have hw3 : IntKind.u64.wrap (v + 1) = v + 1 := wrap_u64 (by omega)
  have hd : decide (T ≤ v) = false := decide_eq_false (by omega)
  have HB0 : Hid (Below w.heap.size w w) := Below.refl _ _
  have HX : Hid (Blk w x (jgCells who nx cl t z) 266) := h
  clear h hl hT hv hv0
  go_enter Tryz.func253, Tryz.ntmps253
  go_wp2_with fail
  go_at_call 106; refine hC.mono ?_; rintro e w4 ⟨rfl, k⟩
  have hF := HB0.out.trans k
  have hX4 : Blk w4 x (jgCells who nx cl t z) 266 := HX.out.but (But.of_below (l := []) hF) (by simp)
  have d3 := hX4.cell 3 (v := .int .i64 t) rfl
  have e3 := hX4.fro 3
  have hX5 : Blk (w4.setCell ⟨x, 3, none⟩ (.int .i64 v)) x (jgCells who nx cl v z) 266 := hX4.set 3 (.int .i64 v)
  have hB5 : But [x] w (w4.setCell ⟨x, 3, none⟩ (.int .i64 v)) := (But.of_below hF).set (g := x) (.inl (by simp)) 3 _
  have H := im_store _ x cl _ 266 hX5 (by simp [jgCells]) rfl 15 (by omega) (v + 1) 271
  clear hC k c2 hF hX4 hX5 HX
  go_wp2_with fail
  go_at_call 270; refine H.mono ?_; rintro e w5 ⟨⟨u, rfl⟩, hC⟩
  have hC2 := hC.before hB5
  clear H hC hB5 d3 e3
  go_wp2_with fail
  go_end0
  exact ⟨⟨_, rfl⟩, hC2⟩
inductive JgT where
  | ld
  | lk (y : Int)
  | un (y l : Int)
  | ct (y : Int)
  | th
  | nw (y : Int)
  | none'
  | over (y : Int)
def jgPM (P T : Int) : PM JgT where
  ax := fun
    | .ld => some (axLd 11)
    | .lk y => some (axLd (wd (20 + P * 264) T 3 y 2))
    | .un _ l => some (axSt 11 l)
    | .ct _ => some (axAd 12 4294967295)
    | .th => some (axLd 15)
    | .nw y => some (axSt 15 (y + 1))
    | .none' => none
    | .over _ => none
  nx := fun
    | .ld, v => if v = 0 then .th else .lk (gw v)
    | .lk y, v => .un y v
    | .un y _, _ => .ct y
    | .ct y, _ => .over y
    | .th, v => if T ≤ v then .none' else .nw v
    | .nw y, _ => .over y
    | t, _ => t
def JgT.t : JgT → Int
  | .lk y => y
  | .un y _ => y
  | .ct y => y
  | .nw y => y
  | .over y => y
  | _ => 0
def JgT.z : JgT → Bool
  | .ct _ => true
  | .over _ => true
  | _ => false
/-- Which one was got. -/
def JgT.obs (t : JgT) : Int := if t.z then t.t else -1
def jgFl (who T : Int) (cl : Nat) : Fl JgT where
  T := 266
  cells := fun t nx => jgCells who nx cl t.t t.z
  fol := fun
    | .ld => .told 238
    | .lk _ => .told 255
    | .un _ _ => .untold 272
    | .th => .told 253
    | .nw _ => .untold 271
    | _ => .nil
  ok := fun
    | .un _ l => 0 ≤ l ∧ l ≤ 18446744073709551615
    | .nw y => 0 ≤ y ∧ y < T
    | _ => True
theorem jg_laws (who P T G : Int) (cl : Nat) (hp : 0 ≤ P ∧ P ≤ 64) (hT : 0 ≤ T ∧ T ≤ 65536) : (jgFl who T cl).Laws (jgPM P T) (Rd.lay cl P T G) who where
  c0 := fun t nx => rfl
  c1 := fun t nx => rfl
  set := fun t nx nx' => rfl
  axok := fun t a hok h => by
    cases t with
    | ld => cases h; exact axLd_ok _
    | lk y => cases h; exact axLd_ok _
    | un y l => cases h; exact axSt_ok _ _ hok
    | ct y => cases h; exact axAd_ok _ _ (by omega)
    | th => cases h; exact axLd_ok _
    | nw y => cases h; exact axSt_ok _ _ (by have : 0 ≤ y ∧ y < T := hok; omega)
    | none' => cases h
    | over y => cases h
  ents := fun t a h => by
    cases t with
    | ld => exact ent_jg1
    | lk y => exact ent_jg2
    | un y l => exact ent_jg3
    | th => exact ent_jg4
    | nw y => exact ent_jg5
    | _ => exact trivial
  ok := fun t a v hok h hv => by
    cases t with
    | ld => by_cases h0 : v = 0 <;> simp [jgPM, jgFl, h0]
    | lk y => exact hv
    | th => 
      by_cases h0 : T ≤ v
      · simp [jgPM, jgFl, h0]
      · simp [jgPM, jgFl, h0]; omega
    | _ => exact trivial
  fol := fun W x t a v hok h hv hB hR hxR => by
    have hcx : cl ≠ x := fun e => hxR (by rw [e]; exact List.mem_singleton.2 rfl)
    cases t with
    | ld =>
      cases h
      by_cases h0 : v = 0
      · subst h0
        exact jget_choose_none W x cl who 0 false none hB
      · have e : (jgPM P T).nx .ld v = .lk (gw v) := if_neg h0
        rw [e]
        exact jget_choose W x cl who 0 false none P T G v h0 hR hcx hp hT hB
    | lk y => cases h; exact jget_unlink W x cl who y false none v hB
    | un y l => cases h; exact jget_have W x cl who y false none hB
    | ct y => cases h; exact ⟨hB, But.refl _ _⟩
    | th =>
      cases h
      by_cases h0 : T ≤ v
      · have e : (jgPM P T).nx .th v = .none' := if_pos h0
        rw [e]
        refine (jget_make_none W x cl who 0 false none P T G v hR hT h0 hB).mono ?_
        rintro e w' ⟨hu, hb⟩
        exact ⟨hu, hB.but (But.of_below (l := []) hb) (by simp), But.of_below hb⟩
      · have e : (jgPM P T).nx .th v = .nw v := if_neg h0
        rw [e]
        exact jget_make_some W x cl who 0 false none P T G v hR hcx hT hv.1 (by omega) hB
    | nw y => cases h; exact jget_haveNew W x cl who y false none hB
    | none' => cases h
    | over y => cases h
theorem jg_new (w : World) (cl : Nat) (who : Int) (P T : Int) :
    Calls Tryz.prog 223 #[.pointer (some ⟨cl, 0, none⟩), .int .i64 who] w fun e w' => ∃ x L, e = .returned (.pointer (some ⟨x, 0, none⟩)) ∧ (jgFl who T cl).I (jgPM P T) w' x .ld L ∧ Below w.heap.size w w' ∧ (∀ k ∈ L, w.heap.size ≤ k) ∧ w.heap.size ≤ x := by
  have hB := Blk.new w #[.int .i64 0, .pointer none, .pointer none, .int .i64 0, .bool false] 266
  have hb : Below w.heap.size w (w.alloc (.cells #[.int .i64 0, .pointer none, .pointer none, .int .i64 0, .bool false] 266)) := (Below.refl _ _).alloc (Nat.le_refl _) _
  have hO := im_of _ w.heap.size cl who _ (jgCells who none cl 0 false) 266 hB (by simp) rfl
  have HH : Hid (Below w.heap.size w (w.alloc (.cells #[.int .i64 0, .pointer none, .pointer none, .int .i64 0, .bool false] 266))) := hb
  have hsz := World.size_alloc w (.cells #[.int .i64 0, .pointer none, .pointer none, .int .i64 0, .bool false] 266)
  clear hB hb
  go_enter Tryz.func223, Tryz.ntmps223
  go_wp2_with fail
  go_at_call 236; refine hO.mono ?_; rintro e w1 ⟨⟨v, rfl⟩, h1, h2, h3⟩
  have hlt := h1.lt
  have hb1 : Hid (Below w.heap.size w w1) := HH.out.trans (h2.below (by simp) (by rw [hsz]; omega))
  have hL := im_load w1 w.heap.size cl _ 266 h1 (by simp [jgCells]) rfl 11 (by omega) 238
  have h3' : w1.heap.size = w.heap.size + 1 := by rw [h3, hsz]
  clear hO h2 HH h1
  go_wp2_with fail
  go_at_call 237; refine hL.mono ?_; rintro e w2 ⟨⟨v2, rfl⟩, hC⟩
  obtain ⟨q, Lc, c1, c2, c3, c4⟩ := hC
  have hF : Hid ((jgFl who T cl).I (jgPM P T) w2 w.heap.size .ld (w.heap.size :: Lc) ∧ Below w.heap.size w w2 ∧ ∀ k ∈ w.heap.size :: Lc, w.heap.size ≤ k) := by
    refine ⟨⟨trivial, q, Lc, c1, c2, fun hm => by have := c4 _ hm; omega, rfl⟩, hb1.out.trans (c3.below (by simp) hb1.out.size), fun k hk => ?_⟩
    simp at hk
    rcases hk with rfl | hk
    · exact Nat.le_refl _
    · have := c4 k hk; omega
  clear hL c1 c2 c3 c4
  go_wp2_with fail
  go_ret
  exact ⟨w.heap.size, w.heap.size :: Lc, rfl, hF.out.1, hF.out.2.1, hF.out.2.2, Nat.le_refl _⟩
theorem jget_t (w : World) (x cl : Nat) (who t : Int) (z : Bool) (nx : Option Addr) (h : Blk w x (jgCells who nx cl t z) 266) :
    Calls Tryz.prog 256 #[.pointer (some ⟨x, 0, none⟩)] w fun e w' => e = .returned (.int .i64 (if z then t else -1)) ∧ w = w' := by
  have c3 := h.cell 3 (v := .int .i64 t) rfl
  have cz := h.cell 4 (v := .bool z) rfl
  clear h
  cases z with
  | false =>
    go_enter Tryz.func256, Tryz.ntmps256
    go_wp2_with fail
    go_ret
    exact ⟨rfl, rfl⟩
  | true =>
    go_enter Tryz.func256, Tryz.ntmps256
    go_wp2_with fail
    go_ret
    exact ⟨rfl, rfl⟩
theorem jget_t_nil (w : World) : Calls Tryz.prog 256 #[.pointer none] w fun e w' => e = .returned (.int .i64 (-1)) ∧ w = w' := by
  go_enter Tryz.func256, Tryz.ntmps256
  go_wp2_with fail
  go_ret
  exact ⟨rfl, rfl⟩
theorem jg_got {who P T : Int} {cl : Nat} {w : World} {x : Nat} {t : JgT} {L : List Nat} (h : (jgFl who T cl).I (jgPM P T) w x t L) :
    Calls Tryz.prog 256 #[.pointer (some ⟨x, 0, none⟩)] w fun e w' => e = .returned (.int .i64 t.obs) ∧ w = w' := by
  obtain ⟨nx, h1, -⟩ := Fl.blk h
  exact jget_t w x cl who t.t t.z nx h1
end Go.Proofs.YtfdpikkinlljlaaGreat

namespace Go.Proofs.YtfdpikkinlljlaaGreat
open Go Go.RowKit
set_option linter.unusedVariables false
set_option maxRecDepth 100000
set_option linter.unusedSimpArgs false

theorem isD_nwk (v : Value) (xT : TypeId) (w : World) : (Instr.typeAssert (.iface 272 v) xT 245 true).run Tryz.prog w = .ok (.tuple #[.iface 272 v, .bool true]) w := run_typeAssert_hasB Tryz.underlying245 (by kernel_rfl) v xT w
theorem eqIIn_nwk (w : World) (fuel : Nat) (v : Value) : (Op.equalIn (fuel + 1) 203 (.iface 272 v) .nilIface).run Tryz.prog w = .ok false w := by
  simp only [Op.equalIn, Sem.run_bind, run_underlying Tryz.underlying203, Result.andThen_ok]
  rfl
theorem eqI_nwk (v : Value) (w : World) : (binOp .eql 203 (.iface 272 v) .nilIface).run Tryz.prog w = .ok (.bool false) w := by
  have h := eqIIn_nwk w 9999 v
  simp only [binOp]
  simp [Op.equal, Op.maxDepth, h]
theorem neqI_nwk (v : Value) (w : World) : (binOp .neq 203 (.iface 272 v) .nilIface).run Tryz.prog w = .ok (.bool true) w := by
  have h := eqIIn_nwk w 9999 v
  simp only [binOp]
  simp [Op.equal, Op.maxDepth, h]
theorem isdone_nwk (w : World) (x : Nat) (nx : Option Addr) (hc : w.cell? ⟨x, 1, none⟩ = some (.pointer nx)) :
    Calls Tryz.prog 150 #[.iface 272 (.pointer (some ⟨x, 0, none⟩))] w fun e w' => e = .returned (.bool nx.isNone) ∧ w = w' := by
  have h1 := isD_nwk
  have h2 := eqI_nwk
  have hD := done_nwk w x nx hc
  go_enter Tryz.func150, Tryz.ntmps150
  go_wp2_with fail
  go_at_call 353; refine hD.mono ?_; rintro e w1 ⟨rfl, rfl⟩
  go_wp2_with fail
  go_ret
  exact ⟨rfl, rfl⟩

theorem frun0_nwk (w : World) (c x : Nat) (cs : Array Value) (T : TypeId) (fv : Value) (nx : Addr) (h : Blk w c cs T) (hs : 2 ≤ cs.size) (hf : Fv fv) (hxc : x ≠ c) (hx : w.cell? ⟨x, 1, none⟩ = some (.pointer (some nx))) :
    Calls Tryz.prog 98 #[.pointer (some ⟨c, 0, none⟩), .iface 272 (.pointer (some ⟨x, 0, none⟩)), fv] w fun e w' => (∃ v, e = .returned v) ∧ ∃ q g, CameBox w w' c cs T (fun v => comCells 0 0 0 0 0 false (.iface 272 (.pointer (some ⟨x, 0, none⟩))) v false false) fv q g := by
  have c1 := h.cell 1 (Array.getElem?_eq_getElem (by omega))
  have f1 := h.fro 1
  have hlt := h.lt
  have h1 := h.set 1 (.pointer none)
  have c2 := h1.cell 1 (v := .pointer none) (by rw [Array.getElem?_setIfInBounds, if_pos rfl, if_pos (by omega)])
  have f2 := h1.fro 1
  have hB1 : But [c] w (w.setCell ⟨c, 1, none⟩ (.pointer none)) := (But.refl _ w).set (g := c) (.inl (by simp)) 1 _
  have hsz : (w.setCell ⟨c, 1, none⟩ (.pointer none)).heap.size = w.heap.size := size_set _ _ _
  have hD := isdone_nwk (w.setCell ⟨c, 1, none⟩ (.pointer none)) x (some nx) (by
    rw [show (w.setCell ⟨c, 1, none⟩ (.pointer none)).cell? ⟨x, 1, none⟩ = w.cell? ⟨x, 1, none⟩ by simp only [World.cell?]; rw [heap_set_ne w hxc 1 _]]
    exact hx)
  have hU := fun w => untold_any w fv hf
  have HH : Hid (Blk (w.setCell ⟨c, 1, none⟩ (.pointer none)) c (cs.setIfInBounds 1 (.pointer none)) T ∧ But [c] w (w.setCell ⟨c, 1, none⟩ (.pointer none))) := ⟨h1, hB1⟩
  clear h h1 hB1 hx
  go_enter Tryz.func98, Tryz.ntmps98
  go_wp2_with fail
  generalize w.setCell ⟨c, 1, none⟩ (.pointer none) = W at *
  go_at_call 150; refine hD.mono ?_; rintro e w1 ⟨rfl, rfl⟩
  go_wp2_with fail
  go_at_call 140; refine (hU _).mono ?_; rintro e w2 ⟨rfl, rfl⟩
  have hg := Blk.new W #[fv] 1
  have hW2 : Blk (W.alloc (.cells #[fv] 1)) c (cs.setIfInBounds 1 (.pointer none)) T := HH.out.1.al _
  have hsz2 : Hid ((W.alloc (.cells #[fv] 1)).heap.size = w.heap.size + 1) := (by rw [World.size_alloc, hsz] : (W.alloc (.cells #[fv] 1)).heap.size = w.heap.size + 1)
  have hB2 : But [c] w (W.alloc (.cells #[fv] 1)) := HH.out.2.alloc _
  rw [hsz] at hg ⊢
  have HG : Hid (Blk (W.alloc (.cells #[fv] 1)) w.heap.size #[fv] 1 ∧ Blk (W.alloc (.cells #[fv] 1)) c (cs.setIfInBounds 1 (.pointer none)) T ∧ But [c] w (W.alloc (.cells #[fv] 1))) := ⟨hg, hW2, hB2⟩
  have c3 := hW2.cell 1 (v := .pointer none) (by rw [Array.getElem?_setIfInBounds, if_pos rfl, if_pos (by omega)])
  have f3 := hW2.fro 1
  clear hD hU c1 f1 c2 f2 hg hW2 hB2
  generalize W.alloc (.cells #[fv] 1) = W2 at *
  have hlt2 : c < W2.heap.size := by have := hsz2.out; omega
  clear hsz HH
  go_wp2_with fail
  go_end0
  obtain ⟨g1, g2, g3⟩ := HG.out
  have hsz2 := hsz2.out
  refine ⟨⟨_, rfl⟩, W2.heap.size, w.heap.size, ⟨⟨by omega, ?_, ?_, ?_⟩, Nat.le_refl _, ?_, by omega⟩⟩
  · have := (g2.set 1 (.pointer (some ⟨W2.heap.size, 0, none⟩))).al (.cells (comCells 0 0 0 0 0 false (.iface 272 (.pointer (some ⟨x, 0, none⟩))) (.func (.func 175) #[] #[.pointer (some ⟨w.heap.size, 0, none⟩)]) false false) 205)
    rw [set_twice] at this
    exact this
  · have := Blk.new (W2.setCell ⟨c, 1, none⟩ (.pointer (some ⟨W2.heap.size, 0, none⟩))) (comCells 0 0 0 0 0 false (.iface 272 (.pointer (some ⟨x, 0, none⟩))) (.func (.func 175) #[] #[.pointer (some ⟨w.heap.size, 0, none⟩)]) false false) 205
    rw [size_set] at this
    exact this
  · exact (g3.set (g := c) (.inl (by simp)) 1 _).alloc _
  · exact (g1.setne (by omega) 1 _).al _

theorem act0_nwk (w : World) (q cm x : Nat) (who : Int) (thn : Value) (z : Bool) (Mw : World → Prop) (hq : Blk w q (comCells 0 0 0 0 0 false (.iface 272 (.pointer (some ⟨x, 0, none⟩))) thn false false) 205)
    (hS : ∀ W, But [q] w W → Blk W q (comCells 0 0 0 0 0 false (.iface 272 (.pointer (some ⟨x, 0, none⟩))) thn false true) 205 → Calls Tryz.prog 354 #[.pointer (some ⟨x, 0, none⟩), .pointer (some ⟨cm, 0, none⟩)] W fun e w' => e = .returned (.bool z) ∧ Blk w' q (comCells 0 0 0 0 0 false (.iface 272 (.pointer (some ⟨x, 0, none⟩))) thn false true) 205 ∧ Mw w') :
    Calls Tryz.prog 139 #[.pointer (some ⟨q, 0, none⟩), .int .i64 who, .pointer (some ⟨cm, 0, none⟩)] w fun e w' => e = .returned (.tuple #[.int .u64 0, .bool z]) ∧ ∃ w1, Mw w1 ∧ Blk w1 q (comCells 0 0 0 0 0 false (.iface 272 (.pointer (some ⟨x, 0, none⟩))) thn false true) 205 ∧ w' = w1.setCell ⟨q, 9, none⟩ (.bool false) := by
  have hn := neqI_nwk
  have hbm := Blk.new w #[.pointer (some ⟨cm, 0, none⟩)] 31
  have hq1 := hq.al (.cells #[.pointer (some ⟨cm, 0, none⟩)] 31)
  have hqlt := hq.lt
  have k6 := hq1.cell 6 (v := .iface 272 (.pointer (some ⟨x, 0, none⟩))) rfl
  have hask : Calls Tryz.prog 172 #[.pointer (some ⟨q, 0, none⟩), .func (.func 173) #[] #[.pointer (some ⟨w.heap.size, 0, none⟩)]] (w.alloc (.cells #[.pointer (some ⟨cm, 0, none⟩)] 31)) fun e w' => e = .returned (.bool z) ∧ ∃ w1, Mw w1 ∧ Blk w1 q (comCells 0 0 0 0 0 false (.iface 272 (.pointer (some ⟨x, 0, none⟩))) thn false true) 205 ∧ w' = w1.setCell ⟨q, 9, none⟩ (.bool false) := by
    have hne : w.heap.size ≠ q := by omega
    have k9 := hq1.cell 9 (v := .bool false) rfl
    have f9 := hq1.fro 9
    have hq2 := hq1.set 9 (.bool true)
    have l6 := hq2.cell 6 (v := .iface 272 (.pointer (some ⟨x, 0, none⟩))) rfl
    have hb2 := hbm.setne hne 9 (.bool true)
    have b0 := hb2.cell 0 (v := .pointer (some ⟨cm, 0, none⟩)) rfl
    have hst := hS ((w.alloc (.cells #[.pointer (some ⟨cm, 0, none⟩)] 31)).setCell ⟨q, 9, none⟩ (.bool true)) (((But.refl [q] w).alloc _).set (g := q) (.inl (by simp)) 9 _) hq2
    have hrun : Calls Tryz.prog 173 #[.iface 272 (.pointer (some ⟨x, 0, none⟩)), .pointer (some ⟨w.heap.size, 0, none⟩)] ((w.alloc (.cells #[.pointer (some ⟨cm, 0, none⟩)] 31)).setCell ⟨q, 9, none⟩ (.bool true)) fun e w' => e = .returned (.bool z) ∧ Blk w' q (comCells 0 0 0 0 0 false (.iface 272 (.pointer (some ⟨x, 0, none⟩))) thn false true) 205 ∧ Mw w' := by
      clear hS hq hbm hq1 k6 k9 f9 hq2 l6 hb2 hqlt hne
      generalize (w.alloc (.cells #[.pointer (some ⟨cm, 0, none⟩)] 31)).setCell ⟨q, 9, none⟩ (.bool true) = W at *
      go_enter Tryz.func173, Tryz.ntmps173
      go_wp2_with fail
      go_at_call 354; refine hst.mono ?_; rintro e w1 ⟨rfl, h1, h2⟩
      go_wp2_with fail
      go_ret
      exact ⟨rfl, h1, h2⟩
    clear hS hq hbm hq1 hq2 hb2 hst b0 hqlt
    go_enter Tryz.func172, Tryz.ntmps172
    go_wp2_with fail
    generalize (w.alloc (.cells #[.pointer (some ⟨cm, 0, none⟩)] 31)).setCell ⟨q, 9, none⟩ (.bool true) = W at *
    go_at_call 173; refine hrun.mono ?_; rintro e w1 ⟨rfl, h1, h2⟩
    have m9 := h1.cell 9 (v := .bool true) rfl
    have g9 := h1.fro 9
    clear hrun l6 k9 f9 k6
    go_wp2_with fail
    go_ret
    exact ⟨rfl, w1, h2, h1, rfl⟩
  clear hS hq hq1 hbm
  go_enter Tryz.func139, Tryz.ntmps139
  go_wp2_with fail
  generalize w.alloc (.cells #[.pointer (some ⟨cm, 0, none⟩)] 31) = W at *
  go_at_call 172; refine hask.mono ?_; rintro e w1 ⟨rfl, h1⟩
  clear hask k6
  go_wp2_with fail
  go_returns
  exact ⟨rfl, h1⟩

theorem frun_nwk : RunCome 272 := fun w c y cs T fv nx h hs hf hyc hx => frun0_nwk w c y cs T fv nx h hs hf hyc hx
theorem act_nwk : ActRun 272 354 := fun w q cm y g who z Mw hq hS => act0_nwk w q cm y who _ z Mw hq hS
end Go.Proofs.YtfdpikkinlljlaaGreat

namespace Go.Proofs.YtfdpikkinlljlaaGreat
open Go Go.RowKit
set_option linter.unusedVariables false
set_option maxRecDepth 100000
set_option linter.unusedSimpArgs false

theorem isD_img (v : Value) (xT : TypeId) (w : World) : (Instr.typeAssert (.iface 216 v) xT 245 true).run Tryz.prog w = .ok (.tuple #[.iface 216 v, .bool true]) w := run_typeAssert_hasB Tryz.underlying245 (by kernel_rfl) v xT w
theorem eqIIn_img (w : World) (fuel : Nat) (v : Value) : (Op.equalIn (fuel + 1) 203 (.iface 216 v) .nilIface).run Tryz.prog w = .ok false w := by
  simp only [Op.equalIn, Sem.run_bind, run_underlying Tryz.underlying203, Result.andThen_ok]
  rfl
theorem eqI_img (v : Value) (w : World) : (binOp .eql 203 (.iface 216 v) .nilIface).run Tryz.prog w = .ok (.bool false) w := by
  have h := eqIIn_img w 9999 v
  simp only [binOp]
  simp [Op.equal, Op.maxDepth, h]
theorem neqI_img (v : Value) (w : World) : (binOp .neq 203 (.iface 216 v) .nilIface).run Tryz.prog w = .ok (.bool true) w := by
  have h := eqIIn_img w 9999 v
  simp only [binOp]
  simp [Op.equal, Op.maxDepth, h]
theorem isdone_img (w : World) (x : Nat) (nx : Option Addr) (hc : w.cell? ⟨x, 1, none⟩ = some (.pointer nx)) :
    Calls Tryz.prog 150 #[.iface 216 (.pointer (some ⟨x, 0, none⟩))] w fun e w' => e = .returned (.bool nx.isNone) ∧ w = w' := by
  have h1 := isD_img
  have h2 := eqI_img
  have hD := done_img w x nx hc
  go_enter Tryz.func150, Tryz.ntmps150
  go_wp2_with fail
  go_at_call 347; refine hD.mono ?_; rintro e w1 ⟨rfl, rfl⟩
  go_wp2_with fail
  go_ret
  exact ⟨rfl, rfl⟩

theorem frun0_img (w : World) (c x : Nat) (cs : Array Value) (T : TypeId) (fv : Value) (nx : Addr) (h : Blk w c cs T) (hs : 2 ≤ cs.size) (hf : Fv fv) (hxc : x ≠ c) (hx : w.cell? ⟨x, 1, none⟩ = some (.pointer (some nx))) :
    Calls Tryz.prog 98 #[.pointer (some ⟨c, 0, none⟩), .iface 216 (.pointer (some ⟨x, 0, none⟩)), fv] w fun e w' => (∃ v, e = .returned v) ∧ ∃ q g, CameBox w w' c cs T (fun v => comCells 0 0 0 0 0 false (.iface 216 (.pointer (some ⟨x, 0, none⟩))) v false false) fv q g := by
  have c1 := h.cell 1 (Array.getElem?_eq_getElem (by omega))
  have f1 := h.fro 1
  have hlt := h.lt
  have h1 := h.set 1 (.pointer none)
  have c2 := h1.cell 1 (v := .pointer none) (by rw [Array.getElem?_setIfInBounds, if_pos rfl, if_pos (by omega)])
  have f2 := h1.fro 1
  have hB1 : But [c] w (w.setCell ⟨c, 1, none⟩ (.pointer none)) := (But.refl _ w).set (g := c) (.inl (by simp)) 1 _
  have hsz : (w.setCell ⟨c, 1, none⟩ (.pointer none)).heap.size = w.heap.size := size_set _ _ _
  have hD := isdone_img (w.setCell ⟨c, 1, none⟩ (.pointer none)) x (some nx) (by
    rw [show (w.setCell ⟨c, 1, none⟩ (.pointer none)).cell? ⟨x, 1, none⟩ = w.cell? ⟨x, 1, none⟩ by simp only [World.cell?]; rw [heap_set_ne w hxc 1 _]]
    exact hx)
  have hU := fun w => untold_any w fv hf
  have HH : Hid (Blk (w.setCell ⟨c, 1, none⟩ (.pointer none)) c (cs.setIfInBounds 1 (.pointer none)) T ∧ But [c] w (w.setCell ⟨c, 1, none⟩ (.pointer none))) := ⟨h1, hB1⟩
  clear h h1 hB1 hx
  go_enter Tryz.func98, Tryz.ntmps98
  go_wp2_with fail
  generalize w.setCell ⟨c, 1, none⟩ (.pointer none) = W at *
  go_at_call 150; refine hD.mono ?_; rintro e w1 ⟨rfl, rfl⟩
  go_wp2_with fail
  go_at_call 140; refine (hU _).mono ?_; rintro e w2 ⟨rfl, rfl⟩
  have hg := Blk.new W #[fv] 1
  have hW2 : Blk (W.alloc (.cells #[fv] 1)) c (cs.setIfInBounds 1 (.pointer none)) T := HH.out.1.al _
  have hsz2 : Hid ((W.alloc (.cells #[fv] 1)).heap.size = w.heap.size + 1) := (by rw [World.size_alloc, hsz] : (W.alloc (.cells #[fv] 1)).heap.size = w.heap.size + 1)
  have hB2 : But [c] w (W.alloc (.cells #[fv] 1)) := HH.out.2.alloc _
  rw [hsz] at hg ⊢
  have HG : Hid (Blk (W.alloc (.cells #[fv] 1)) w.heap.size #[fv] 1 ∧ Blk (W.alloc (.cells #[fv] 1)) c (cs.setIfInBounds 1 (.pointer none)) T ∧ But [c] w (W.alloc (.cells #[fv] 1))) := ⟨hg, hW2, hB2⟩
  have c3 := hW2.cell 1 (v := .pointer none) (by rw [Array.getElem?_setIfInBounds, if_pos rfl, if_pos (by omega)])
  have f3 := hW2.fro 1
  clear hD hU c1 f1 c2 f2 hg hW2 hB2
  generalize W.alloc (.cells #[fv] 1) = W2 at *
  have hlt2 : c < W2.heap.size := by have := hsz2.out; omega
  clear hsz HH
  go_wp2_with fail
  go_end0
  obtain ⟨g1, g2, g3⟩ := HG.out
  have hsz2 := hsz2.out
  refine ⟨⟨_, rfl⟩, W2.heap.size, w.heap.size, ⟨⟨by omega, ?_, ?_, ?_⟩, Nat.le_refl _, ?_, by omega⟩⟩
  · have := (g2.set 1 (.pointer (some ⟨W2.heap.size, 0, none⟩))).al (.cells (comCells 0 0 0 0 0 false (.iface 216 (.pointer (some ⟨x, 0, none⟩))) (.func (.func 175) #[] #[.pointer (some ⟨w.heap.size, 0, none⟩)]) false false) 205)
    rw [set_twice] at this
    exact this
  · have := Blk.new (W2.setCell ⟨c, 1, none⟩ (.pointer (some ⟨W2.heap.size, 0, none⟩))) (comCells 0 0 0 0 0 false (.iface 216 (.pointer (some ⟨x, 0, none⟩))) (.func (.func 175) #[] #[.pointer (some ⟨w.heap.size, 0, none⟩)]) false false) 205
    rw [size_set] at this
    exact this
  · exact (g3.set (g := c) (.inl (by simp)) 1 _).alloc _
  · exact (g1.setne (by omega) 1 _).al _

theorem act0_img (w : World) (q cm x : Nat) (who : Int) (thn : Value) (z : Bool) (Mw : World → Prop) (hq : Blk w q (comCells 0 0 0 0 0 false (.iface 216 (.pointer (some ⟨x, 0, none⟩))) thn false false) 205)
    (hS : ∀ W, But [q] w W → Blk W q (comCells 0 0 0 0 0 false (.iface 216 (.pointer (some ⟨x, 0, none⟩))) thn false true) 205 → Calls Tryz.prog 348 #[.pointer (some ⟨x, 0, none⟩), .pointer (some ⟨cm, 0, none⟩)] W fun e w' => e = .returned (.bool z) ∧ Blk w' q (comCells 0 0 0 0 0 false (.iface 216 (.pointer (some ⟨x, 0, none⟩))) thn false true) 205 ∧ Mw w') :
    Calls Tryz.prog 139 #[.pointer (some ⟨q, 0, none⟩), .int .i64 who, .pointer (some ⟨cm, 0, none⟩)] w fun e w' => e = .returned (.tuple #[.int .u64 0, .bool z]) ∧ ∃ w1, Mw w1 ∧ Blk w1 q (comCells 0 0 0 0 0 false (.iface 216 (.pointer (some ⟨x, 0, none⟩))) thn false true) 205 ∧ w' = w1.setCell ⟨q, 9, none⟩ (.bool false) := by
  have hn := neqI_img
  have hbm := Blk.new w #[.pointer (some ⟨cm, 0, none⟩)] 31
  have hq1 := hq.al (.cells #[.pointer (some ⟨cm, 0, none⟩)] 31)
  have hqlt := hq.lt
  have k6 := hq1.cell 6 (v := .iface 216 (.pointer (some ⟨x, 0, none⟩))) rfl
  have hask : Calls Tryz.prog 172 #[.pointer (some ⟨q, 0, none⟩), .func (.func 173) #[] #[.pointer (some ⟨w.heap.size, 0, none⟩)]] (w.alloc (.cells #[.pointer (some ⟨cm, 0, none⟩)] 31)) fun e w' => e = .returned (.bool z) ∧ ∃ w1, Mw w1 ∧ Blk w1 q (comCells 0 0 0 0 0 false (.iface 216 (.pointer (some ⟨x, 0, none⟩))) thn false true) 205 ∧ w' = w1.setCell ⟨q, 9, none⟩ (.bool false) := by
    have hne : w.heap.size ≠ q := by omega
    have k9 := hq1.cell 9 (v := .bool false) rfl
    have f9 := hq1.fro 9
    have hq2 := hq1.set 9 (.bool true)
    have l6 := hq2.cell 6 (v := .iface 216 (.pointer (some ⟨x, 0, none⟩))) rfl
    have hb2 := hbm.setne hne 9 (.bool true)
    have b0 := hb2.cell 0 (v := .pointer (some ⟨cm, 0, none⟩)) rfl
    have hst := hS ((w.alloc (.cells #[.pointer (some ⟨cm, 0, none⟩)] 31)).setCell ⟨q, 9, none⟩ (.bool true)) (((But.refl [q] w).alloc _).set (g := q) (.inl (by simp)) 9 _) hq2
    have hrun : Calls Tryz.prog 173 #[.iface 216 (.pointer (some ⟨x, 0, none⟩)), .pointer (some ⟨w.heap.size, 0, none⟩)] ((w.alloc (.cells #[.pointer (some ⟨cm, 0, none⟩)] 31)).setCell ⟨q, 9, none⟩ (.bool true)) fun e w' => e = .returned (.bool z) ∧ Blk w' q (comCells 0 0 0 0 0 false (.iface 216 (.pointer (some ⟨x, 0, none⟩))) thn false true) 205 ∧ Mw w' := by
      clear hS hq hbm hq1 k6 k9 f9 hq2 l6 hb2 hqlt hne
      generalize (w.alloc (.cells #[.pointer (some ⟨cm, 0, none⟩)] 31)).setCell ⟨q, 9, none⟩ (.bool true) = W at *
      go_enter Tryz.func173, Tryz.ntmps173
      go_wp2_with fail
      go_at_call 348; refine hst.mono ?_; rintro e w1 ⟨rfl, h1, h2⟩
      go_wp2_with fail
      go_ret
      exact ⟨rfl, h1, h2⟩
    clear hS hq hbm hq1 hq2 hb2 hst b0 hqlt
    go_enter Tryz.func172, Tryz.ntmps172
    go_wp2_with fail
    generalize (w.alloc (.cells #[.pointer (some ⟨cm, 0, none⟩)] 31)).setCell ⟨q, 9, none⟩ (.bool true) = W at *
    go_at_call 173; refine hrun.mono ?_; rintro e w1 ⟨rfl, h1, h2⟩
    have m9 := h1.cell 9 (v := .bool true) rfl
    have g9 := h1.fro 9
    clear hrun l6 k9 f9 k6
    go_wp2_with fail
    go_ret
    exact ⟨rfl, w1, h2, h1, rfl⟩
  clear hS hq hq1 hbm
  go_enter Tryz.func139, Tryz.ntmps139
  go_wp2_with fail
  generalize w.alloc (.cells #[.pointer (some ⟨cm, 0, none⟩)] 31) = W at *
  go_at_call 172; refine hask.mono ?_; rintro e w1 ⟨rfl, h1⟩
  clear hask k6
  go_wp2_with fail
  go_returns
  exact ⟨rfl, h1⟩

theorem frun_img : RunCome 216 := fun w c y cs T fv nx h hs hf hyc hx => frun0_img w c y cs T fv nx h hs hf hyc hx
theorem act_img : ActRun 216 348 := fun w q cm y g who z Mw hq hS => act0_img w q cm y who _ z Mw hq hS
end Go.Proofs.YtfdpikkinlljlaaGreat

namespace Go.Proofs.YtfdpikkinlljlaaGreat
open Go Go.RowKit
set_option linter.unusedVariables false
set_option maxRecDepth 100000
set_option linter.unusedSimpArgs false

theorem isD_ipp (v : Value) (xT : TypeId) (w : World) : (Instr.typeAssert (.iface 154 v) xT 245 true).run Tryz.prog w = .ok (.tuple #[.iface 154 v, .bool true]) w := run_typeAssert_hasB Tryz.underlying245 (by kernel_rfl) v xT w
theorem eqIIn_ipp (w : World) (fuel : Nat) (v : Value) : (Op.equalIn (fuel + 1) 203 (.iface 154 v) .nilIface).run Tryz.prog w = .ok false w := by
  simp only [Op.equalIn, Sem.run_bind, run_underlying Tryz.underlying203, Result.andThen_ok]
  rfl
theorem eqI_ipp (v : Value) (w : World) : (binOp .eql 203 (.iface 154 v) .nilIface).run Tryz.prog w = .ok (.bool false) w := by
  have h := eqIIn_ipp w 9999 v
  simp only [binOp]
  simp [Op.equal, Op.maxDepth, h]
theorem neqI_ipp (v : Value) (w : World) : (binOp .neq 203 (.iface 154 v) .nilIface).run Tryz.prog w = .ok (.bool true) w := by
  have h := eqIIn_ipp w 9999 v
  simp only [binOp]
  simp [Op.equal, Op.maxDepth, h]
theorem isdone_ipp (w : World) (x : Nat) (nx : Option Addr) (hc : w.cell? ⟨x, 1, none⟩ = some (.pointer nx)) :
    Calls Tryz.prog 150 #[.iface 154 (.pointer (some ⟨x, 0, none⟩))] w fun e w' => e = .returned (.bool nx.isNone) ∧ w = w' := by
  have h1 := isD_ipp
  have h2 := eqI_ipp
  have hD := done_ipp w x nx hc
  go_enter Tryz.func150, Tryz.ntmps150
  go_wp2_with fail
  go_at_call 340; refine hD.mono ?_; rintro e w1 ⟨rfl, rfl⟩
  go_wp2_with fail
  go_ret
  exact ⟨rfl, rfl⟩

theorem frun0_ipp (w : World) (c x : Nat) (cs : Array Value) (T : TypeId) (fv : Value) (nx : Addr) (h : Blk w c cs T) (hs : 2 ≤ cs.size) (hf : Fv fv) (hxc : x ≠ c) (hx : w.cell? ⟨x, 1, none⟩ = some (.pointer (some nx))) :
    Calls Tryz.prog 98 #[.pointer (some ⟨c, 0, none⟩), .iface 154 (.pointer (some ⟨x, 0, none⟩)), fv] w fun e w' => (∃ v, e = .returned v) ∧ ∃ q g, CameBox w w' c cs T (fun v => comCells 0 0 0 0 0 false (.iface 154 (.pointer (some ⟨x, 0, none⟩))) v false false) fv q g := by
  have c1 := h.cell 1 (Array.getElem?_eq_getElem (by omega))
  have f1 := h.fro 1
  have hlt := h.lt
  have h1 := h.set 1 (.pointer none)
  have c2 := h1.cell 1 (v := .pointer none) (by rw [Array.getElem?_setIfInBounds, if_pos rfl, if_pos (by omega)])
  have f2 := h1.fro 1
  have hB1 : But [c] w (w.setCell ⟨c, 1, none⟩ (.pointer none)) := (But.refl _ w).set (g := c) (.inl (by simp)) 1 _
  have hsz : (w.setCell ⟨c, 1, none⟩ (.pointer none)).heap.size = w.heap.size := size_set _ _ _
  have hD := isdone_ipp (w.setCell ⟨c, 1, none⟩ (.pointer none)) x (some nx) (by
    rw [show (w.setCell ⟨c, 1, none⟩ (.pointer none)).cell? ⟨x, 1, none⟩ = w.cell? ⟨x, 1, none⟩ by simp only [World.cell?]; rw [heap_set_ne w hxc 1 _]]
    exact hx)
  have hU := fun w => untold_any w fv hf
  have HH : Hid (Blk (w.setCell ⟨c, 1, none⟩ (.pointer none)) c (cs.setIfInBounds 1 (.pointer none)) T ∧ But [c] w (w.setCell ⟨c, 1, none⟩ (.pointer none))) := ⟨h1, hB1⟩
  clear h h1 hB1 hx
  go_enter Tryz.func98, Tryz.ntmps98
  go_wp2_with fail
  generalize w.setCell ⟨c, 1, none⟩ (.pointer none) = W at *
  go_at_call 150; refine hD.mono ?_; rintro e w1 ⟨rfl, rfl⟩
  go_wp2_with fail
  go_at_call 140; refine (hU _).mono ?_; rintro e w2 ⟨rfl, rfl⟩
  have hg := Blk.new W #[fv] 1
  have hW2 : Blk (W.alloc (.cells #[fv] 1)) c (cs.setIfInBounds 1 (.pointer none)) T := HH.out.1.al _
  have hsz2 : Hid ((W.alloc (.cells #[fv] 1)).heap.size = w.heap.size + 1) := (by rw [World.size_alloc, hsz] : (W.alloc (.cells #[fv] 1)).heap.size = w.heap.size + 1)
  have hB2 : But [c] w (W.alloc (.cells #[fv] 1)) := HH.out.2.alloc _
  rw [hsz] at hg ⊢
  have HG : Hid (Blk (W.alloc (.cells #[fv] 1)) w.heap.size #[fv] 1 ∧ Blk (W.alloc (.cells #[fv] 1)) c (cs.setIfInBounds 1 (.pointer none)) T ∧ But [c] w (W.alloc (.cells #[fv] 1))) := ⟨hg, hW2, hB2⟩
  have c3 := hW2.cell 1 (v := .pointer none) (by rw [Array.getElem?_setIfInBounds, if_pos rfl, if_pos (by omega)])
  have f3 := hW2.fro 1
  clear hD hU c1 f1 c2 f2 hg hW2 hB2
  generalize W.alloc (.cells #[fv] 1) = W2 at *
  have hlt2 : c < W2.heap.size := by have := hsz2.out; omega
  clear hsz HH
  go_wp2_with fail
  go_end0
  obtain ⟨g1, g2, g3⟩ := HG.out
  have hsz2 := hsz2.out
  refine ⟨⟨_, rfl⟩, W2.heap.size, w.heap.size, ⟨⟨by omega, ?_, ?_, ?_⟩, Nat.le_refl _, ?_, by omega⟩⟩
  · have := (g2.set 1 (.pointer (some ⟨W2.heap.size, 0, none⟩))).al (.cells (comCells 0 0 0 0 0 false (.iface 154 (.pointer (some ⟨x, 0, none⟩))) (.func (.func 175) #[] #[.pointer (some ⟨w.heap.size, 0, none⟩)]) false false) 205)
    rw [set_twice] at this
    exact this
  · have := Blk.new (W2.setCell ⟨c, 1, none⟩ (.pointer (some ⟨W2.heap.size, 0, none⟩))) (comCells 0 0 0 0 0 false (.iface 154 (.pointer (some ⟨x, 0, none⟩))) (.func (.func 175) #[] #[.pointer (some ⟨w.heap.size, 0, none⟩)]) false false) 205
    rw [size_set] at this
    exact this
  · exact (g3.set (g := c) (.inl (by simp)) 1 _).alloc _
  · exact (g1.setne (by omega) 1 _).al _

theorem act0_ipp (w : World) (q cm x : Nat) (who : Int) (thn : Value) (z : Bool) (Mw : World → Prop) (hq : Blk w q (comCells 0 0 0 0 0 false (.iface 154 (.pointer (some ⟨x, 0, none⟩))) thn false false) 205)
    (hS : ∀ W, But [q] w W → Blk W q (comCells 0 0 0 0 0 false (.iface 154 (.pointer (some ⟨x, 0, none⟩))) thn false true) 205 → Calls Tryz.prog 341 #[.pointer (some ⟨x, 0, none⟩), .pointer (some ⟨cm, 0, none⟩)] W fun e w' => e = .returned (.bool z) ∧ Blk w' q (comCells 0 0 0 0 0 false (.iface 154 (.pointer (some ⟨x, 0, none⟩))) thn false true) 205 ∧ Mw w') :
    Calls Tryz.prog 139 #[.pointer (some ⟨q, 0, none⟩), .int .i64 who, .pointer (some ⟨cm, 0, none⟩)] w fun e w' => e = .returned (.tuple #[.int .u64 0, .bool z]) ∧ ∃ w1, Mw w1 ∧ Blk w1 q (comCells 0 0 0 0 0 false (.iface 154 (.pointer (some ⟨x, 0, none⟩))) thn false true) 205 ∧ w' = w1.setCell ⟨q, 9, none⟩ (.bool false) := by
  have hn := neqI_ipp
  have hbm := Blk.new w #[.pointer (some ⟨cm, 0, none⟩)] 31
  have hq1 := hq.al (.cells #[.pointer (some ⟨cm, 0, none⟩)] 31)
  have hqlt := hq.lt
  have k6 := hq1.cell 6 (v := .iface 154 (.pointer (some ⟨x, 0, none⟩))) rfl
  have hask : Calls Tryz.prog 172 #[.pointer (some ⟨q, 0, none⟩), .func (.func 173) #[] #[.pointer (some ⟨w.heap.size, 0, none⟩)]] (w.alloc (.cells #[.pointer (some ⟨cm, 0, none⟩)] 31)) fun e w' => e = .returned (.bool z) ∧ ∃ w1, Mw w1 ∧ Blk w1 q (comCells 0 0 0 0 0 false (.iface 154 (.pointer (some ⟨x, 0, none⟩))) thn false true) 205 ∧ w' = w1.setCell ⟨q, 9, none⟩ (.bool false) := by
    have hne : w.heap.size ≠ q := by omega
    have k9 := hq1.cell 9 (v := .bool false) rfl
    have f9 := hq1.fro 9
    have hq2 := hq1.set 9 (.bool true)
    have l6 := hq2.cell 6 (v := .iface 154 (.pointer (some ⟨x, 0, none⟩))) rfl
    have hb2 := hbm.setne hne 9 (.bool true)
    have b0 := hb2.cell 0 (v := .pointer (some ⟨cm, 0, none⟩)) rfl
    have hst := hS ((w.alloc (.cells #[.pointer (some ⟨cm, 0, none⟩)] 31)).setCell ⟨q, 9, none⟩ (.bool true)) (((But.refl [q] w).alloc _).set (g := q) (.inl (by simp)) 9 _) hq2
    have hrun : Calls Tryz.prog 173 #[.iface 154 (.pointer (some ⟨x, 0, none⟩)), .pointer (some ⟨w.heap.size, 0, none⟩)] ((w.alloc (.cells #[.pointer (some ⟨cm, 0, none⟩)] 31)).setCell ⟨q, 9, none⟩ (.bool true)) fun e w' => e = .returned (.bool z) ∧ Blk w' q (comCells 0 0 0 0 0 false (.iface 154 (.pointer (some ⟨x, 0, none⟩))) thn false true) 205 ∧ Mw w' := by
      clear hS hq hbm hq1 k6 k9 f9 hq2 l6 hb2 hqlt hne
      generalize (w.alloc (.cells #[.pointer (some ⟨cm, 0, none⟩)] 31)).setCell ⟨q, 9, none⟩ (.bool true) = W at *
      go_enter Tryz.func173, Tryz.ntmps173
      go_wp2_with fail
      go_at_call 341; refine hst.mono ?_; rintro e w1 ⟨rfl, h1, h2⟩
      go_wp2_with fail
      go_ret
      exact ⟨rfl, h1, h2⟩
    clear hS hq hbm hq1 hq2 hb2 hst b0 hqlt
    go_enter Tryz.func172, Tryz.ntmps172
    go_wp2_with fail
    generalize (w.alloc (.cells #[.pointer (some ⟨cm, 0, none⟩)] 31)).setCell ⟨q, 9, none⟩ (.bool true) = W at *
    go_at_call 173; refine hrun.mono ?_; rintro e w1 ⟨rfl, h1, h2⟩
    have m9 := h1.cell 9 (v := .bool true) rfl
    have g9 := h1.fro 9
    clear hrun l6 k9 f9 k6
    go_wp2_with fail
    go_ret
    exact ⟨rfl, w1, h2, h1, rfl⟩
  clear hS hq hq1 hbm
  go_enter Tryz.func139, Tryz.ntmps139
  go_wp2_with fail
  generalize w.alloc (.cells #[.pointer (some ⟨cm, 0, none⟩)] 31) = W at *
  go_at_call 172; refine hask.mono ?_; rintro e w1 ⟨rfl, h1⟩
  clear hask k6
  go_wp2_with fail
  go_returns
  exact ⟨rfl, h1⟩

theorem frun_ipp : RunCome 154 := fun w c y cs T fv nx h hs hf hyc hx => frun0_ipp w c y cs T fv nx h hs hf hyc hx
theorem act_ipp : ActRun 154 341 := fun w q cm y g who z Mw hq hS => act0_ipp w q cm y who _ z Mw hq hS
end Go.Proofs.YtfdpikkinlljlaaGreat

namespace Go.Proofs.YtfdpikkinlljlaaGreat
open Go Go.RowKit
set_option linter.unusedVariables false
set_option maxRecDepth 100000
set_option linter.unusedSimpArgs false

/-- A machine that wakes a thread. -/
inductive NwT where
  | fresh
  | over
def nwPM (at' : Int) : PM NwT where
  ax := fun
    | .fresh => some (axSt at' 1)
    | .over => none
  nx := fun _ _ => .over
def nwCells (who : Int) (nx : Option Addr) (nt : Int) : Array Value := #[.int .i64 who, .pointer nx, .int .i64 nt]
def nwFl (who nt : Int) : Fl NwT where
  T := 277
  cells := fun _ nx => nwCells who nx nt
  fol := fun _ => .nil
  ok := fun _ => True
theorem nw_laws (who nt : Int) : (nwFl who nt).Laws (nwPM nt) Rd.nil who where
  c0 := fun t nx => rfl
  c1 := fun t nx => rfl
  set := fun t nx nx' => rfl
  axok := fun t a _ h => by
    cases t <;> cases h
    exact axSt_ok _ _ (by omega)
  ents := fun t a h => trivial
  ok := fun _ _ _ _ _ _ => trivial
  fol := fun W x t a v _ h hv hB _ _ => by
    cases t <;> cases h
    exact ⟨hB, But.refl _ _⟩
def nwSub (nt who : Int) : Sub := ⟨NwT, nwPM nt, (nwFl who nt).I (nwPM nt), Rd.nil, 272, 354⟩
theorem nwSub_ok (nt who : Int) (R : Rd) : Steps (nwPM nt) ((nwFl who nt).I (nwPM nt)) Rd.nil 354 who ∧ MI.Good ((nwFl who nt).I (nwPM nt)) (nwPM nt) ∧ ActRun 272 354 ∧ (∀ w, R.P w → Rd.nil.P w) ∧ (∀ k ∈ Rd.nil.B, k ∈ R.B) :=
  ⟨Fl.steps (nw_laws who nt) stepby_nwk, Fl.good (nw_laws who nt), act_nwk, fun _ _ => trivial, fun k hk => by cases hk⟩
theorem nw_of (w : World) (x cl : Nat) (who t P T G : Int) (h : Blk w x (nwCells 0 none 0) 277) (hl : Lay w cl P T G) (hp : 0 ≤ P ∧ P ≤ 64) (hT : 0 ≤ T ∧ T ≤ 65536) (hxc : cl ≠ x) :
    Calls Tryz.prog 287 #[.pointer (some ⟨x, 0, none⟩), .pointer (some ⟨cl, 0, none⟩), .int .i64 t, .int .i64 who] w fun e w' => (∃ v, e = .returned v) ∧ Blk w' x (nwCells who none (wd (20 + P * 264) T 3 t 0)) 277 ∧ But [x] w w' := by
  have hF := fof_any w x _ 277 who h (by simp [nwCells])
  have HH : Hid (Blk w x (nwCells 0 none 0) 277) := h
  have hlx := h.lt
  obtain ⟨W, hW⟩ : ∃ W, w.setCell ⟨x, 0, none⟩ (.int .i64 who) = W := ⟨_, rfl⟩
  have HB1 : Hid (But [x] w W) := by rw [← hW]; exact (But.refl _ w).set (g := x) (.inl (by simp)) 0 _
  have HX1 : Hid (Blk W x (nwCells who none 0) 277) := by rw [← hW]; exact h.set 0 (.int .i64 who)
  have hl1 : Lay W cl P T G := (HB1.out.block cl hl.lt (by simpa using hxc)).trans hl
  have hT1 := lthr_any _ P T G t 0 W (.some cl hl1) hp hT
  generalize wd (20 + P * 264) T 3 t 0 = nt at *
  clear h hl hl1 hp hT hxc
  go_enter Tryz.func287, Tryz.ntmps287
  go_wp2_with fail
  go_at_call 97; refine hF.mono ?_; rintro e w3 ⟨⟨v, rfl⟩, hw3⟩
  obtain rfl : w3 = W := hw3.trans hW
  clear hF hw3 hW
  go_wp2_with fail
  go_at_call 44; refine hT1.mono ?_; rintro e w4 ⟨rfl, hb4⟩
  have HX4 : Hid (Blk w4 x (nwCells who none 0) 277) := HX1.out.but (But.of_below (l := []) hb4) (by simp)
  have HB4 : Hid (But [x] w w4) := HB1.out.trans (But.of_below hb4)
  have c2 := HX4.out.cell 2 (v := .int .i64 0) rfl
  have f2 := HX4.out.fro 2
  have HX5 : Hid (Blk (w4.setCell ⟨x, 2, none⟩ (.int .i64 nt)) x (nwCells who none nt) 277) := HX4.out.set 2 _
  have HB5 : Hid (But [x] w (w4.setCell ⟨x, 2, none⟩ (.int .i64 nt))) := HB4.out.set (g := x) (.inl (by simp)) 2 _
  clear hT1 hb4 HX1 HB1 HX4 HB4 HH
  go_wp2_with fail
  go_end0
  exact ⟨⟨_, rfl⟩, HX5.out, HB5.out⟩
theorem nw_put (w : World) (x : Nat) (who nt u : Int) (nx : Option Addr) (h : Blk w x (nwCells who nx nt) 277) :
    Calls Tryz.prog 288 #[.pointer (some ⟨x, 0, none⟩), .int .u64 u] w fun e w' => (∃ v, e = .returned v) ∧ Came w w' x (nwCells who nx nt) 277 (axSt nt u) .nil := by
  have H := came_store_nil w.drew x _ 277 h.drew (by simp [nwCells]) nt u
  have c2 := h.cell 2 (v := .int .i64 nt) rfl
  clear h
  go_enter Tryz.func288, Tryz.ntmps288
  go_wp2_with fail
  go_region_with (first | (go_at_call 88; refine H.mono ?_; rintro e w1 ⟨⟨v, rfl⟩, hC⟩))
  all_goals
    have hC2 := hC.undrew
    clear H c2 hC
    go_wp2_with fail
    go_end0
    exact ⟨⟨_, rfl⟩, hC2⟩
theorem nw_new (w : World) (cl : Nat) (who t P T G : Int) (hl : Lay w cl P T G) (hp : 0 ≤ P ∧ P ≤ 64) (hT : 0 ≤ T ∧ T ≤ 65536) :
    Calls Tryz.prog 276 #[.pointer (some ⟨cl, 0, none⟩), .int .i64 t, .int .i64 who] w fun e w' => ∃ x L, e = .returned (.pointer (some ⟨x, 0, none⟩)) ∧ (nwSub (wd (20 + P * 264) T 3 t 0) who).I w' x NwT.fresh L ∧ Below w.heap.size w w' ∧ w.heap.size ≤ x ∧ (∀ k ∈ L, w.heap.size ≤ k) ∧ ∃ a, w'.cell? ⟨x, 1, none⟩ = some (.pointer (some a)) := by
  have hB := Blk.new w (nwCells 0 none 0) 277
  have hb : Below w.heap.size w (w.alloc (.cells (nwCells 0 none 0) 277)) := (Below.refl _ _).alloc (Nat.le_refl _) _
  have hO := nw_of _ w.heap.size cl who t P T G hB (hl.below hb hl.lt) hp hT (by have := hl.lt; omega)
  have HH : Hid (Below w.heap.size w (w.alloc (.cells (nwCells 0 none 0) 277))) := hb
  have hsz := World.size_alloc w (.cells (nwCells 0 none 0) 277)
  generalize wd (20 + P * 264) T 3 t 0 = nt at *
  clear hB hb hl hp hT
  unfold nwCells at hO HH hsz
  go_enter Tryz.func276, Tryz.ntmps276
  go_wp2_with fail
  go_at_call 287; refine hO.mono ?_; rintro e w1 ⟨⟨v, rfl⟩, h1, h2⟩
  have hb1 : Hid (Below w.heap.size w w1) := HH.out.trans (h2.below (by simp) (by rw [hsz]; omega))
  have hL := nw_put w1 w.heap.size who nt 1 none h1
  have h1lt := h1.lt
  clear hO h1 h2 HH hsz
  go_wp2_with fail
  go_at_call 288; refine hL.mono ?_; rintro e w2 ⟨⟨v2, rfl⟩, hC⟩
  obtain ⟨q, Lc, c1, c2, c3, c4⟩ := hC
  have hs1 := hb1.out.size
  have hw1 : w.heap.size < w1.heap.size := h1lt
  have hF : Hid ((nwSub nt who).I w2 w.heap.size NwT.fresh (w.heap.size :: Lc) ∧ Below w.heap.size w w2 ∧ (∀ k ∈ w.heap.size :: Lc, w.heap.size ≤ k) ∧ ∃ a, w2.cell? ⟨w.heap.size, 1, none⟩ = some (.pointer (some a))) := by
    refine ⟨⟨trivial, q, Lc, c1, c2, fun hm => by have := c4 _ hm; omega, rfl⟩, hb1.out.trans (c3.below (by simp) hs1), fun k hk => ?_, _, c1.cell 1 rfl⟩
    simp at hk
    rcases hk with rfl | hk
    · exact Nat.le_refl _
    · have := c4 k hk; omega
  clear hL c1 c2 c3 c4
  go_wp2_with fail
  go_ret
  exact ⟨w.heap.size, w.heap.size :: Lc, rfl, hF.out.1, hF.out.2.1, Nat.le_refl _, hF.out.2.2.1, hF.out.2.2.2⟩

section
variable (w : World) (x cl : Nat) (who : Int) (cs : Array Value) (T : TypeId) (h : Blk w x cs T) (hs : 2 ≤ cs.size) (h0 : cs[0]? = some (.int .i64 who)) (h2 : cs[2]? = some (.pointer (some ⟨cl, 0, none⟩)))
include h hs h2
theorem wk_need (K : Nat) :
    Calls Tryz.prog 240 #[.pointer (some ⟨x, 0, none⟩), .func (.func K) #[.pointer (some ⟨x, 0, none⟩)] #[]] w fun e w' => (∃ v, e = .returned v) ∧ Came w w' x cs T (axSt 14 1) (.untold K) := by
  have H := came_store w.drew x cs T h.drew hs 14 1 K
  have c2 := h.cell 2 h2
  have hW := il_word w.drew cl 14 (by omega)
  clear h hs h2
  go_enter Tryz.func240, Tryz.ntmps240
  go_wp2_with fail
  go_region_with (first | (go_at_call 68; refine hW.mono ?_; rintro e w3 ⟨rfl, rfl⟩) | (go_at_call 88; refine H.mono ?_; rintro e w1 ⟨⟨v, rfl⟩, hC⟩))
  all_goals
    have hC2 := hC.undrew
    clear hW H c2 hC
    go_wp2_with fail
    go_end0
    exact ⟨⟨_, rfl⟩, hC2⟩
theorem wk_countOut (K : Nat) :
    Calls Tryz.prog 257 #[.pointer (some ⟨x, 0, none⟩), .func (.func K) #[.pointer (some ⟨x, 0, none⟩)] #[]] w fun e w' => (∃ v, e = .returned v) ∧ Came w w' x cs T (axAd 13 4294967295) (.told K) := by
  have H := came_add w.drew x cs T h.drew hs 13 4294967295 K
  have c2 := h.cell 2 h2
  have hW := il_word w.drew cl 13 (by omega)
  clear h hs h2
  go_enter Tryz.func257, Tryz.ntmps257
  go_wp2_with fail
  go_region_with (first | (go_at_call 68; refine hW.mono ?_; rintro e w3 ⟨rfl, rfl⟩) | (go_at_call 185; refine H.mono ?_; rintro e w1 ⟨⟨v, rfl⟩, hC⟩))
  all_goals
    have hC2 := hC.undrew
    clear hW H c2 hC
    go_wp2_with fail
    go_end0
    exact ⟨⟨_, rfl⟩, hC2⟩
include h0
set_option maxHeartbeats 4000000 in
theorem wk_release (fv : Value) (hf : Fv fv) :
    Calls Tryz.prog 242 #[.pointer (some ⟨x, 0, none⟩), fv] w fun e w' => (∃ v, e = .returned v) ∧ RunNew (relSub (wd 0 2 3 0 1) (wd 0 2 3 0 2) who) RelT.fresh w w' x cs T fv := by
  have hlt := h.lt
  have c2 := h.cell 2 h2
  have hO := who_any w.drew x who (h.drew.cell 0 h0)
  have hR := rel_fresh w.drew cl 0 who
  have HG : Hid ((relSub (wd 0 2 3 0 1) (wd 0 2 3 0 2) who).I.Good (relSub (wd 0 2 3 0 1) (wd 0 2 3 0 2) who).M) := Fl.good (rel_laws _ _ who)
  have HH : Hid (Blk w x cs T ∧ 2 ≤ cs.size ∧ Fv fv) := ⟨h, hs, hf⟩
  clear h hs h0 h2
  cases hf
  all_goals
    go_enter Tryz.func242, Tryz.ntmps242
    go_wp2_with fail
    go_region_with (first | (go_at_call 144; refine hO.mono ?_; rintro e w3 ⟨rfl, rfl⟩) | (go_at_call 205; refine hR.mono ?_; rintro e w4 ⟨y, L, rfl, k1, k4, k5, k6, a, k7⟩; have hB4 : But [x] w w4 := ((But.refl [x] w).drew).trans (But.of_below k4); have hf := frun_rel w4 x y cs T _ a (HH.out.1.but (But.of_below (l := []) (show Below w.heap.size w w4 from (Below.refl _ _).drew.trans k4)) (by simp)) HH.out.2.1 HH.out.2.2 (by have : w.heap.size ≤ y := k5; omega) k7) | (go_at_call 98; refine hf.mono ?_; rintro e w5 ⟨⟨v, rfl⟩, q, g, hC⟩))
    all_goals
      have k6' : ∀ k ∈ L, w.heap.size ≤ k := k6
      have hR5 := RunNew.mk (S := relSub (wd 0 2 3 0 1) (wd 0 2 3 0 2) who) (W := w) HG.out k1 k6' hlt hB4 hC
      clear hO hR c2 hf k1 k4 k5 k6 k6' k7 hC hB4 HH HG
      go_wp2_with fail
      go_end0
      exact ⟨⟨_, rfl⟩, hR5⟩
theorem wk_end :
    Calls Tryz.prog 275 #[.pointer (some ⟨x, 0, none⟩)] w fun e w' => (∃ v, e = .returned v) ∧ RunNew (relSub (wd 0 2 3 0 1) (wd 0 2 3 0 2) who) RelT.fresh w w' x cs T .nilFunc := by
  have H := wk_release w x cl who cs T h hs h0 h2 .nilFunc .none
  clear h hs h0 h2
  go_enter Tryz.func275, Tryz.ntmps275
  go_wp2_with fail
  go_at_call 242; refine H.mono ?_; rintro e w1 ⟨⟨v, rfl⟩, hC⟩
  clear H
  go_wp2_with fail
  go_end0
  exact ⟨⟨_, rfl⟩, hC⟩
end
theorem wk_of (w : World) (x c : Nat) (who : Int) (cs cs' : Array Value) (T : TypeId) (h : Blk w x cs T) (hs : 3 ≤ cs.size) (hcs : (cs.setIfInBounds 2 (.pointer (some ⟨c, 0, none⟩))).setIfInBounds 0 (.int .i64 who) = cs') :
    Calls Tryz.prog 217 #[.pointer (some ⟨x, 0, none⟩), .pointer (some ⟨c, 0, none⟩), .int .i64 who] w fun e w' => (∃ v, e = .returned v) ∧ Blk w' x cs' T ∧ But [x] w w' ∧ w'.heap.size = w.heap.size := by
  have f2 := h.fro 2
  have hh2 := h.set 2 (.pointer (some ⟨c, 0, none⟩))
  have hF := fof_any _ x _ T who hh2 (by simp; omega)
  have hB0 : But [x] w (w.setCell ⟨x, 2, none⟩ (.pointer (some ⟨c, 0, none⟩))) := (But.refl _ w).set (g := x) (.inl (by simp)) 2 _
  obtain ⟨u, hu⟩ : ∃ u, w.cell? ⟨x, 2, none⟩ = some u := ⟨_, h.cell 2 (Array.getElem?_eq_getElem hs)⟩
  have HH : Hid (Blk _ x _ T ∧ But [x] w _ ∧ (w.setCell ⟨x, 2, none⟩ (.pointer (some ⟨c, 0, none⟩))).heap.size = w.heap.size) := ⟨hh2, hB0, size_set _ _ _⟩
  clear h hh2 hB0 hs
  go_enter Tryz.func217, Tryz.ntmps217
  go_wp2_with fail
  generalize w.setCell ⟨x, 2, none⟩ (.pointer (some ⟨c, 0, none⟩)) = W at *
  go_at_call 97; refine hF.mono ?_; rintro e w3 ⟨⟨v, rfl⟩, hw3⟩
  have h3 : Blk w3 x cs' T := by rw [hw3, ← hcs]; exact HH.out.1.set 0 _
  have hB3 : But [x] w w3 := by rw [hw3]; exact HH.out.2.1.set (g := x) (.inl (by simp)) 0 _
  have hs3 : w3.heap.size = w.heap.size := by rw [hw3, size_set]; exact HH.out.2.2
  clear hF hw3 HH hcs hu f2
  go_wp2_with fail
  go_end0
  exact ⟨⟨_, rfl⟩, h3, hB3, hs3⟩
end Go.Proofs.YtfdpikkinlljlaaGreat

namespace Go.Proofs.YtfdpikkinlljlaaGreat
open Go Go.RowKit
set_option linter.unusedVariables false
set_option maxRecDepth 100000
set_option linter.unusedSimpArgs false

def wsCells (who : Int) (nx : Option Addr) (cl : Nat) (p : Int) (sp lf has : Bool) (th : Nat) (bk : Option Addr) : Array Value := #[.int .i64 who, .pointer nx, .pointer (some ⟨cl, 0, none⟩), .int .i64 p, .bool sp, .bool lf, .bool has, .pointer (some ⟨th, 0, none⟩), .pointer bk]
/-- What is given, as a word. -/
def wkWord (p : Int) (sp : Bool) : Int := if sp then IntKind.u64.wrap (ilw p + 4294967296) else ilw p
theorem wkWord_bd (p : Int) (sp : Bool) : 0 ≤ wkWord p sp ∧ wkWord p sp ≤ 18446744073709551615 := by
  cases sp with
  | false => exact ilw_bd p
  | true =>
    show 0 ≤ IntKind.u64.wrap (ilw p + 4294967296) ∧ IntKind.u64.wrap (ilw p + 4294967296) ≤ 18446744073709551615
    generalize ilw p + 4294967296 = z
    simp [IntKind.wrap, IntKind.bits, IntKind.signed]
    omega
theorem wk_word (w : World) (p : Int) (sp : Bool) : Calls Tryz.prog 260 #[.int .i64 p, .bool sp] w fun e w' => e = .returned (.int .u64 (wkWord p sp)) ∧ w = w' := by
  cases sp with
  | false =>
    go_enter Tryz.func260, Tryz.ntmps260
    go_wp2_with fail
    go_ret
    exact ⟨rfl, rfl⟩
  | true =>
    go_enter Tryz.func260, Tryz.ntmps260
    go_wp2_with fail
    go_ret
    exact ⟨rfl, rfl⟩
section
variable (w : World) (x cl th : Nat) (who p : Int) (sp lf has : Bool) (bk nx : Option Addr) (h : Blk w x (wsCells who nx cl p sp lf has th bk) 218)
include h
theorem ws_T (v : Int) (hT : Calls Tryz.prog 256 #[.pointer (some ⟨th, 0, none⟩)] w fun e w' => e = .returned (.int .i64 v) ∧ w = w') :
    Calls Tryz.prog 239 #[.pointer (some ⟨x, 0, none⟩)] w fun e w' => e = .returned (.int .i64 v) ∧ w = w' := by
  have c7 := h.cell 7 (v := .pointer (some ⟨th, 0, none⟩)) rfl
  clear h
  go_enter Tryz.func239, Tryz.ntmps239
  go_wp2_with fail
  go_at_call 256; refine hT.mono ?_; rintro e w1 ⟨rfl, rfl⟩
  clear hT
  go_wp2_with fail
  go_ret
  exact ⟨rfl, rfl⟩
theorem ws_choose_none (hT : Calls Tryz.prog 239 #[.pointer (some ⟨x, 0, none⟩)] w fun e w' => e = .returned (.int .i64 (-1)) ∧ w = w') :
    Calls Tryz.prog 224 #[.pointer (some ⟨x, 0, none⟩)] w fun e w' => (∃ v, e = .returned v) ∧ Came w w' x (wsCells who nx cl p sp lf has th bk) 218 (axSt 14 1) (.untold 241) := by
  have H := wk_need w x cl _ 218 h (by simp [wsCells]) rfl 241
  clear h
  go_enter Tryz.func224, Tryz.ntmps224
  go_wp2_with fail
  go_at_call 239; refine hT.mono ?_; rintro e w1 ⟨rfl, rfl⟩
  clear hT
  go_wp2_with fail
  go_at_call 240; refine H.mono ?_; rintro e w1 ⟨⟨u, rfl⟩, hC⟩
  clear H
  go_wp2_with fail
  refine bodyPost_ret (results_none rfl _ _ _) rfl ?_
  exact ⟨⟨_, rfl⟩, hC⟩
theorem ws_choose_some (v : Int) (hv : v ≠ -1) (hT : Calls Tryz.prog 239 #[.pointer (some ⟨x, 0, none⟩)] w fun e w' => e = .returned (.int .i64 v) ∧ w = w') :
    Calls Tryz.prog 224 #[.pointer (some ⟨x, 0, none⟩)] w fun e w' => (∃ v, e = .returned v) ∧ RunNew (relSub (wd 0 2 3 0 1) (wd 0 2 3 0 2) who) RelT.fresh w w' x (wsCells who nx cl p sp lf has th bk) 218 (.func (.func 243) #[.pointer (some ⟨x, 0, none⟩)] #[]) := by
  have H := wk_release w x cl who _ 218 h (by simp [wsCells]) rfl rfl (.func (.func 243) #[.pointer (some ⟨x, 0, none⟩)] #[]) (.some _ _ _)
  have hd : (v == -1) = false := by simpa using hv
  clear h hv
  go_enter Tryz.func224, Tryz.ntmps224
  go_wp2_with fail
  go_at_call 239; refine hT.mono ?_; rintro e w1 ⟨rfl, rfl⟩
  clear hT
  go_wp2_with fail
  go_at_call 242; refine H.mono ?_; rintro e w1 ⟨⟨u, rfl⟩, hC⟩
  clear H
  go_wp2_with fail
  go_end0
  exact ⟨⟨_, rfl⟩, hC⟩
theorem ws_give (v P T G : Int) (hT : ∀ Y, Below w.heap.size w Y → Calls Tryz.prog 239 #[.pointer (some ⟨x, 0, none⟩)] Y fun e w' => e = .returned (.int .i64 v) ∧ Y = w') (hl : Lay w cl P T G) (hp : 0 ≤ P ∧ P ≤ 64) (hTT : 0 ≤ T ∧ T ≤ 65536) :
    Calls Tryz.prog 243 #[.pointer (some ⟨x, 0, none⟩)] w fun e w' => (∃ v, e = .returned v) ∧ Came w w' x (wsCells who nx cl p sp lf has th bk) 218 (axSt (wd (20 + P * 264) T 3 v 1) (wkWord p sp)) (.untold 261) := by
  have hWd : Hid (∀ Y, Calls Tryz.prog 260 #[.int .i64 p, .bool sp] Y fun e w' => e = .returned (.int .u64 (wkWord p sp)) ∧ Y = w') := fun Y => wk_word Y p sp
  have hD : Hid (Below w.heap.size w w.drew) := (Below.refl _ _).drew
  have hTh := lthr_any _ P T G v 1 w.drew (.some cl (hl.below hD.out hl.lt)) hp hTT
  have hT1 := hT w.drew hD.out
  have HS : Hid (∀ Y, Below w.drew.heap.size w.drew Y → Calls Tryz.prog 88 #[.pointer (some ⟨x, 0, none⟩), .int .i64 (wd (20 + P * 264) T 3 v 1), .int .u64 (wkWord p sp), .func (.func 261) #[.pointer (some ⟨x, 0, none⟩)] #[]] Y fun e w' => (∃ v, e = .returned v) ∧ Came w w' x (wsCells who nx cl p sp lf has th bk) 218 (axSt (wd (20 + P * 264) T 3 v 1) (wkWord p sp)) (.untold 261)) := by
    intro Y hY
    refine (came_store Y x _ 218 (h.drew.but (But.of_below (l := []) hY) (by simp)) (by simp [wsCells]) _ (wkWord p sp) 261).mono ?_
    rintro e w5 ⟨hv, hC⟩
    exact ⟨hv, hC.before (((But.refl [x] w).drew).trans (But.of_below hY))⟩
  generalize wd (20 + P * 264) T 3 v 1 = at' at *
  generalize wkWord p sp = wv at *
  have hH : Hid (w.drew.cell? ⟨x, 2, none⟩ = some (.pointer (some ⟨cl, 0, none⟩)) ∧ w.drew.cell? ⟨x, 3, none⟩ = some (.int .i64 p) ∧ w.drew.cell? ⟨x, 4, none⟩ = some (.bool sp)) := ⟨h.drew.cell 2 (v := .pointer (some ⟨cl, 0, none⟩)) rfl, h.drew.cell 3 (v := .int .i64 p) rfl, h.drew.cell 4 (v := .bool sp) rfl⟩
  have KB : Hid (∀ w4, Below w.drew.heap.size w.drew w4 → w4.cell? ⟨x, 2, none⟩ = some (.pointer (some ⟨cl, 0, none⟩)) ∧ w4.cell? ⟨x, 3, none⟩ = some (.int .i64 p) ∧ w4.cell? ⟨x, 4, none⟩ = some (.bool sp)) := fun w4 k => by
    have h4 := h.drew.but (But.of_below (l := []) k) (by simp)
    exact ⟨h4.cell 2 rfl, h4.cell 3 rfl, h4.cell 4 rfl⟩
  have KC : Hid (∀ w5, Came w w5 x (wsCells who nx cl p sp lf has th bk) 218 (axSt at' wv) (.untold 261) → w5.cell? ⟨x, 2, none⟩ = some (.pointer (some ⟨cl, 0, none⟩)) ∧ w5.cell? ⟨x, 3, none⟩ = some (.int .i64 p) ∧ w5.cell? ⟨x, 4, none⟩ = some (.bool sp)) := fun w5 hC => by
    obtain ⟨q, Lc, h1, -⟩ := hC
    exact ⟨h1.cell 2 rfl, h1.cell 3 rfl, h1.cell 4 rfl⟩
  clear h hT hl hp hTT hD
  go_enter Tryz.func243, Tryz.ntmps243
  go_wp2_with fail
  go_region_held3 (fun w' => w'.cell? ⟨x, 2, none⟩ = some (.pointer (some ⟨cl, 0, none⟩)) ∧ w'.cell? ⟨x, 3, none⟩ = some (.int .i64 p) ∧ w'.cell? ⟨x, 4, none⟩ = some (.bool sp)) (first | exact hH.out | exact KB.out _ ‹_› | exact KC.out _ ‹_›) (first | (go_at_call 239; refine hT1.mono ?_; rintro e x1 ⟨rfl, rfl⟩) | (go_at_call 260; refine (hWd.out _).mono ?_; rintro e x2 ⟨rfl, rfl⟩) | (go_at_call 44; refine hTh.mono ?_; rintro e x3 ⟨rfl, g3⟩) | (go_at_call 88; refine (HS.out _ ‹_›).mono ?_; rintro e x4 ⟨⟨u, rfl⟩, hC⟩))
  all_goals
    clear hT1 hTh hWd HS hH KB KC
    go_wp2_with fail
    go_end0
    exact ⟨⟨_, rfl⟩, hC⟩
theorem ws_countBack_yes (hs : sp = true) :
    Calls Tryz.prog 241 #[.pointer (some ⟨x, 0, none⟩)] w fun e w' => (∃ v, e = .returned v) ∧ Came w w' x (wsCells who nx cl p sp lf has th bk) 218 (axAd 13 4294967295) (.told 258) := by
  have H := wk_countOut w x cl _ 218 h (by simp [wsCells]) rfl 258
  have c4 := h.cell 4 (v := .bool sp) rfl
  subst hs
  clear h
  go_enter Tryz.func241, Tryz.ntmps241
  go_wp2_with fail
  go_at_call 257; refine H.mono ?_; rintro e w1 ⟨⟨u, rfl⟩, hC⟩
  clear H c4
  go_wp2_with fail
  refine bodyPost_ret (results_none rfl _ _ _) rfl ?_
  exact ⟨⟨_, rfl⟩, hC⟩
theorem ws_countBack_no (M : World → Prop) (hs : sp = false) (H : Calls Tryz.prog 259 #[.pointer (some ⟨x, 0, none⟩)] w fun e w' => (∃ v, e = .returned v) ∧ M w') :
    Calls Tryz.prog 241 #[.pointer (some ⟨x, 0, none⟩)] w fun e w' => (∃ v, e = .returned v) ∧ M w' := by
  have c4 := h.cell 4 (v := .bool sp) rfl
  subst hs
  clear h
  go_enter Tryz.func241, Tryz.ntmps241
  go_wp2_with fail
  go_at_call 259; refine H.mono ?_; rintro e w1 ⟨⟨u, rfl⟩, hC⟩
  clear H c4
  go_wp2_with fail
  go_end0
  exact ⟨⟨_, rfl⟩, hC⟩
omit h in
theorem ws_counted (M : World → Prop) (u : Int) (H : Calls Tryz.prog 259 #[.pointer (some ⟨x, 0, none⟩)] w fun e w' => (∃ v, e = .returned v) ∧ M w') :
    Calls Tryz.prog 258 #[.pointer (some ⟨x, 0, none⟩), .int .u64 u] w fun e w' => (∃ v, e = .returned v) ∧ M w' := by
  go_enter Tryz.func258, Tryz.ntmps258
  go_wp2_with fail
  go_at_call 259; refine H.mono ?_; rintro e w1 ⟨⟨u, rfl⟩, hC⟩
  clear H
  go_wp2_with fail
  go_end0
  exact ⟨⟨_, rfl⟩, hC⟩
theorem ws_leave :
    Calls Tryz.prog 273 #[.pointer (some ⟨x, 0, none⟩)] w fun e w' => (∃ v, e = .returned v) ∧ RunNew (relSub (wd 0 2 3 0 1) (wd 0 2 3 0 2) who) RelT.fresh w w' x (wsCells who nx cl p sp lf false th bk) 218 .nilFunc := by
  have c6 := h.cell 6 (v := .bool has) rfl
  have f6 := h.fro 6
  have hlt := h.lt
  have h' : Blk (w.setCell ⟨x, 6, none⟩ (.bool false)) x (wsCells who nx cl p sp lf false th bk) 218 := h.set 6 (.bool false)
  have hB : But [x] w (w.setCell ⟨x, 6, none⟩ (.bool false)) := (But.refl _ w).set (g := x) (.inl (by simp)) 6 _
  have H := wk_end _ x cl who _ 218 h' (by simp [wsCells]) rfl rfl
  clear h h'
  go_enter Tryz.func273, Tryz.ntmps273
  go_wp2_with fail
  go_at_call 275; refine H.mono ?_; rintro e w1 ⟨⟨u, rfl⟩, hC⟩
  have hC2 := hC.before hB
  clear H hC hB c6 f6
  go_wp2_with fail
  go_end0
  exact ⟨⟨_, rfl⟩, hC2⟩
theorem ws_putBack_left (P T G : Int) (hl : Lay w cl P T G) (hp : 0 ≤ P ∧ P ≤ 64) (hf : lf = true) :
    Calls Tryz.prog 259 #[.pointer (some ⟨x, 0, none⟩)] w fun e w' => (∃ v, e = .returned v) ∧ Came w w' x (wsCells who nx cl p sp lf has th bk) 218 (axSt (wd 20 P 264 p 0) 2) (.untold 273) := by
  subst hf
  have c5 := h.cell 5 (v := .bool true) rfl
  have hD : Hid (Below w.heap.size w w.drew) := (Below.refl _ _).drew
  have hPr := lprc_any _ P T G p 0 w.drew (.some cl (hl.below hD.out hl.lt)) hp (by omega)
  have HS : Hid (∀ Y, Below w.drew.heap.size w.drew Y → Calls Tryz.prog 88 #[.pointer (some ⟨x, 0, none⟩), .int .i64 (wd 20 P 264 p 0), .int .u64 2, .func (.func 273) #[.pointer (some ⟨x, 0, none⟩)] #[]] Y fun e w' => (∃ v, e = .returned v) ∧ Came w w' x (wsCells who nx cl p sp true has th bk) 218 (axSt (wd 20 P 264 p 0) 2) (.untold 273)) := by
    intro Y hY
    refine (came_store Y x _ 218 (h.drew.but (But.of_below (l := []) hY) (by simp)) (by simp [wsCells]) _ 2 273).mono ?_
    rintro e w5 ⟨hv, hC⟩
    exact ⟨hv, hC.before (((But.refl [x] w).drew).trans (But.of_below hY))⟩
  generalize wd 20 P 264 p 0 = at' at *
  have hH : Hid (w.drew.cell? ⟨x, 2, none⟩ = some (.pointer (some ⟨cl, 0, none⟩)) ∧ w.drew.cell? ⟨x, 3, none⟩ = some (.int .i64 p)) := ⟨h.drew.cell 2 (v := .pointer (some ⟨cl, 0, none⟩)) rfl, h.drew.cell 3 (v := .int .i64 p) rfl⟩
  have KB : Hid (∀ w4, Below w.drew.heap.size w.drew w4 → w4.cell? ⟨x, 2, none⟩ = some (.pointer (some ⟨cl, 0, none⟩)) ∧ w4.cell? ⟨x, 3, none⟩ = some (.int .i64 p)) := fun w4 k => by
    have h4 := h.drew.but (But.of_below (l := []) k) (by simp)
    exact ⟨h4.cell 2 rfl, h4.cell 3 rfl⟩
  have KC : Hid (∀ w5, Came w w5 x (wsCells who nx cl p sp true has th bk) 218 (axSt at' 2) (.untold 273) → w5.cell? ⟨x, 2, none⟩ = some (.pointer (some ⟨cl, 0, none⟩)) ∧ w5.cell? ⟨x, 3, none⟩ = some (.int .i64 p)) := fun w5 hC => by
    obtain ⟨q, Lc, h1, -⟩ := hC
    exact ⟨h1.cell 2 rfl, h1.cell 3 rfl⟩
  clear h hl hp hD
  go_enter Tryz.func259, Tryz.ntmps259
  go_wp2_with fail
  clear c5
  go_region_held3 (fun w' => w'.cell? ⟨x, 2, none⟩ = some (.pointer (some ⟨cl, 0, none⟩)) ∧ w'.cell? ⟨x, 3, none⟩ = some (.int .i64 p)) (first | exact hH.out | exact KB.out _ ‹_› | exact KC.out _ ‹_›) (first | (go_at_call 108; refine hPr.mono ?_; rintro e x3 ⟨rfl, g3⟩) | (go_at_call 88; refine (HS.out _ ‹_›).mono ?_; rintro e x4 ⟨⟨u, rfl⟩, hC⟩))
  all_goals
    clear hPr HS hH KB KC
    go_wp2_with fail
    refine bodyPost_ret (results_none rfl _ _ _) rfl ?_
    exact ⟨⟨_, rfl⟩, hC⟩
end
end Go.Proofs.YtfdpikkinlljlaaGreat
