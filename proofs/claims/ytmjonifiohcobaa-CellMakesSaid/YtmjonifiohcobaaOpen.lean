/- Words and acts that came in, as the walks see them. -/
import Derived.Test.YtmjonifiohcobaaDoes
import Derived.ProofKit
import Derived.OpenShut
import Derived.Deep.SlicePairs
import Derived.Deep.Fields
namespace Go.Proofs.Ytmjonifiohcobaa
open Go Go.ChangeShapes Go.WideShapes Go.ChangeAt Go.RowKit Go.Deep
set_option linter.unusedVariables false
set_option linter.unusedSimpArgs false

theorem sees_words {H : Type} {enc : TypeId × Value → H} {P : Program} {W : World} {base b0 : Nat} {t e : TypeId} {v : Value} {d : DataW H} {p : List MemPlace} (ht : P.underlying t = some (.slice e)) (he : P.underlying e = some (.int .u64)) (hc : P.cellsOf e = 1)
    (hv : Value.okWide P W .any b0 t v) (h : DataW.Trod enc P W base (fun _ => true) true t v d p) :
    ∃ (A : Option Addr) (n cap : Nat) (f : Nat → Int), v = .slice A n cap ∧ n ≤ maxLen ∧ (A = none → n = 0 ∧ cap = 0) ∧ SeesU W W.heap.size A n f ∧ ∀ i, i < n → 0 ≤ f i ∧ f i ≤ 18446744073709551615 := by
  obtain ⟨A, n, cap, rfl⟩ := okWide_slice ht hv
  obtain ⟨fuel, hf⟩ := h
  rcases open_ints ht he hc hf with ⟨hcs, _⟩ | ⟨x, l, c, zs, hcs, _, hl, hm, hz, _, hcell, hwz⟩
  · simp [Value.cells] at hcs
    obtain ⟨rfl, rfl, rfl⟩ := hcs
    exact ⟨none, 0, 0, fun _ => 0, rfl, Nat.zero_le _, fun _ => ⟨rfl, rfl⟩, fun h => absurd h (Nat.lt_irrefl 0), fun i hi => absurd hi (Nat.not_lt_zero i)⟩
  · simp [Value.cells] at hcs
    obtain ⟨rfl, rfl, rfl⟩ := hcs
    have hz' : zs.length = cap := by simpa using hz
    refine ⟨some x, n, cap, fun i => zs.getD i 0, rfl, Nat.le_trans hl hm, (fun h => by cases h), ?_, ?_⟩
    · intro hn
      obtain ⟨b, off, spot⟩ := x
      have hs : spot = none := by
        have := hcell 0 (by omega)
        simpa [Addr.add] using World.cell?_spot this
      subst hs
      have hc0 := hcell 0 (by omega)
      simp [Addr.add] at hc0
      refine ⟨b, off, rfl, cell_lt hc0, fun i hi => ?_⟩
      have := hcell i (by omega)
      by_cases h0 : i = 0
      · subst h0; simpa [Addr.add] using this
      · simpa [Addr.add, h0] using this
    · intro i hi
      have : zs.getD i 0 ∈ zs := by
        rw [List.getD_eq_getElem?_getD, List.getElem?_eq_getElem (by omega)]
        exact List.getElem_mem _
      exact bounds_u64 (hwz _ this)

section
variable {H : Type} {enc : TypeId × Value → H} {P : Program} {W : World} {base : Nat} {sp : Nat → Bool} {held : Bool}
theorem one_int {T : TypeId} {q : IntKind} {cs : List Value} {xs : List (DataW H × List MemPlace)} {n j : Nat} {fl : Field} (o : fl.offset = j) (c : P.cellsOf fl.type = 1) (u : P.underlying fl.type = some (.int q)) (hlt : j < cs.length) (hx : j < xs.length)
    (g : DataW.trod enc P W base sp held n fl.type ((cs.drop fl.offset).take (P.cellsOf fl.type)) = xs[j]?) : ∃ a : Int, cs[j]? = some (.int q a) ∧ (Lit.int q a).wf = true := by
  rw [o, c, take1_drop cs j undef hlt, List.getElem?_eq_getElem hx] at g
  obtain ⟨a, e, _, wa⟩ := DataW.trod_int u g
  refine ⟨a, ?_, wa⟩
  simp only [List.cons.injEq, and_true] at e
  rw [List.getD_eq_getElem?_getD, List.getElem?_eq_getElem hlt] at e
  rw [List.getElem?_eq_getElem hlt]
  exact congrArg some e

variable {f0 f1 f2 f3 f4 : Field}
/-- A struct of three ints and two words: its cells. -/
theorem act_cells {e : TypeId} {fuel : Nat} {cs : List Value} {x : DataW H × List MemPlace} (hs : P.underlying e = some (.struct #[f0, f1, f2, f3, f4])) (ho : f0.offset = 0 ∧ f1.offset = 1 ∧ f2.offset = 2 ∧ f3.offset = 3 ∧ f4.offset = 4)
    (hc : P.cellsOf f0.type = 1 ∧ P.cellsOf f1.type = 1 ∧ P.cellsOf f2.type = 1 ∧ P.cellsOf f3.type = 1 ∧ P.cellsOf f4.type = 1)
    (hu : P.underlying f0.type = some (.int .i64) ∧ P.underlying f1.type = some (.int .i64) ∧ P.underlying f2.type = some (.int .i64) ∧ P.underlying f3.type = some (.int .u64) ∧ P.underlying f4.type = some (.int .u64)) (hl : cs.length = 5)
    (h : DataW.trod enc P W base sp held fuel e cs = some x) :
    ∃ k p i o v : Int, cs = [.int .i64 k, .int .i64 p, .int .i64 i, .int .u64 o, .int .u64 v] ∧ 0 ≤ v ∧ v ≤ 18446744073709551615 := by
  obtain ⟨xs, n, _, _, _, hxl, hg⟩ := DataW.trod_struct hs h
  have hxl' : xs.length = 5 := hxl
  obtain ⟨k, ek, _⟩ := one_int (T := e) ho.1 hc.1 hu.1 (by omega) (by omega) (hg 0 f0 rfl)
  obtain ⟨p, ep, _⟩ := one_int (T := e) ho.2.1 hc.2.1 hu.2.1 (by omega) (by omega) (hg 1 f1 rfl)
  obtain ⟨i, ei, _⟩ := one_int (T := e) ho.2.2.1 hc.2.2.1 hu.2.2.1 (by omega) (by omega) (hg 2 f2 rfl)
  obtain ⟨o, eo, _⟩ := one_int (T := e) ho.2.2.2.1 hc.2.2.2.1 hu.2.2.2.1 (by omega) (by omega) (hg 3 f3 rfl)
  obtain ⟨v, ev, wv⟩ := one_int (T := e) ho.2.2.2.2 hc.2.2.2.2 hu.2.2.2.2 (by omega) (by omega) (hg 4 f4 rfl)
  refine ⟨k, p, i, o, v, ?_, bounds_u64 wv⟩
  match cs, hl with
  | [c0, c1, c2, c3, c4], _ =>
    simp at ek ep ei eo ev
    rw [ek, ep, ei, eo, ev]

theorem open_act {b0 : Nat} {e : TypeId} {v : Value} {d : DataW H} {pl : List MemPlace} (hs : P.underlying e = some (.struct #[f0, f1, f2, f3, f4])) (ho : f0.offset = 0 ∧ f1.offset = 1 ∧ f2.offset = 2 ∧ f3.offset = 3 ∧ f4.offset = 4)
    (hc : P.cellsOf f0.type = 1 ∧ P.cellsOf f1.type = 1 ∧ P.cellsOf f2.type = 1 ∧ P.cellsOf f3.type = 1 ∧ P.cellsOf f4.type = 1)
    (hu : P.underlying f0.type = some (.int .i64) ∧ P.underlying f1.type = some (.int .i64) ∧ P.underlying f2.type = some (.int .i64) ∧ P.underlying f3.type = some (.int .u64) ∧ P.underlying f4.type = some (.int .u64)) (hC : P.cellsOf e = 5)
    (hv : Value.okWide P W .any b0 e v) (h : DataW.Trod enc P W base sp held e v d pl) :
    ∃ k p i o x : Int, v = .agg #[.int .i64 k, .int .i64 p, .int .i64 i, .int .u64 o, .int .u64 x] ∧ 0 ≤ x ∧ x ≤ 18446744073709551615 := by
  obtain ⟨cs, rfl, hsz⟩ := okWide_struct hs hv
  obtain ⟨fuel, hf⟩ := h
  obtain ⟨k, p, i, o, x, e1, hx⟩ := act_cells hs ho hc hu (by simpa [Value.cells] using hsz.trans hC) hf
  refine ⟨k, p, i, o, x, ?_, hx⟩
  have : cs.toList = [.int .i64 k, .int .i64 p, .int .i64 i, .int .u64 o, .int .u64 x] := by simpa [Value.cells] using e1
  rw [← Array.toArray_toList (xs := cs), this]

theorem sees_acts {b0 : Nat} {t e : TypeId} {v : Value} {d : DataW H} {pl : List MemPlace} (ht : P.underlying t = some (.slice e)) (hs : P.underlying e = some (.struct #[f0, f1, f2, f3, f4])) (ho : f0.offset = 0 ∧ f1.offset = 1 ∧ f2.offset = 2 ∧ f3.offset = 3 ∧ f4.offset = 4)
    (hc : P.cellsOf f0.type = 1 ∧ P.cellsOf f1.type = 1 ∧ P.cellsOf f2.type = 1 ∧ P.cellsOf f3.type = 1 ∧ P.cellsOf f4.type = 1)
    (hu : P.underlying f0.type = some (.int .i64) ∧ P.underlying f1.type = some (.int .i64) ∧ P.underlying f2.type = some (.int .i64) ∧ P.underlying f3.type = some (.int .u64) ∧ P.underlying f4.type = some (.int .u64)) (hC : P.cellsOf e = 5)
    (hv : Value.okWide P W .any b0 t v) (h : DataW.Trod enc P W base (fun _ => true) true t v d pl) :
    ∃ (A : Option Addr) (n cap : Nat) (k p i o x : Nat → Int), v = .slice A n cap ∧ n ≤ maxLen ∧ SeesA W W.heap.size A n k p i o x ∧ ∀ j, j < n → 0 ≤ x j ∧ x j ≤ 18446744073709551615 := by
  obtain ⟨A, n, cap, rfl⟩ := okWide_slice ht hv
  obtain ⟨fuel, hf⟩ := h
  rcases open_slice ht hf with ⟨hcs, _⟩ | ⟨a, l, c, m, q, D, Pl, hcs, _, hl, hm, hmm, _, hx⟩
  · simp [Value.cells] at hcs
    obtain ⟨rfl, rfl, rfl⟩ := hcs
    exact ⟨none, 0, 0, fun _ => 0, fun _ => 0, fun _ => 0, fun _ => 0, fun _ => 0, rfl, Nat.zero_le _, fun h => absurd h (Nat.lt_irrefl 0), fun i hi => absurd hi (Nat.not_lt_zero i)⟩
  · simp [Value.cells] at hcs
    obtain ⟨rfl, rfl, rfl⟩ := hcs
    have hmm' : m = cap := by simpa using hmm
    subst hmm'
    have each : ∀ j, j < n → ∃ y : Int × Int × Int × Int × Int, W.cell? (a.add (j * 5)) = some (.int .i64 y.1) ∧ W.cell? (a.add (j * 5 + 1)) = some (.int .i64 y.2.1) ∧ W.cell? (a.add (j * 5 + 2)) = some (.int .i64 y.2.2.1) ∧ W.cell? (a.add (j * 5 + 3)) = some (.int .u64 y.2.2.2.1) ∧ W.cell? (a.add (j * 5 + 4)) = some (.int .u64 y.2.2.2.2) ∧ 0 ≤ y.2.2.2.2 ∧ y.2.2.2.2 ≤ 18446744073709551615 := by
      intro j hj
      obtain ⟨cs', h1, h2⟩ := hx j (by omega)
      rw [hC] at h1
      obtain ⟨_, hlen, hcell⟩ := World.cells?_some h1
      obtain ⟨k, p, i, o, x, rfl, hb⟩ := act_cells hs ho hc hu hlen h2
      refine ⟨(k, p, i, o, x), ?_, ?_, ?_, ?_, ?_, hb⟩
      · have := hcell 0 (by omega); rw [add_add] at this; simpa using this
      · have := hcell 1 (by omega); rw [add_add] at this; simpa using this
      · have := hcell 2 (by omega); rw [add_add] at this; simpa using this
      · have := hcell 3 (by omega); rw [add_add] at this; simpa using this
      · have := hcell 4 (by omega); rw [add_add] at this; simpa using this
    obtain ⟨y, hy⟩ := choose_lt each
    refine ⟨some a, n, m, fun j => (y j).1, fun j => (y j).2.1, fun j => (y j).2.2.1, fun j => (y j).2.2.2.1, fun j => (y j).2.2.2.2, rfl, Nat.le_trans hl hm, fun hn => ?_, fun j hj => (hy j hj).2.2.2.2.2⟩
    obtain ⟨b, off, spot⟩ := a
    have hsp : spot = none := by
      have := (hy 0 hn).1
      simpa [Addr.add] using World.cell?_spot this
    subst hsp
    have hc0 := (hy 0 hn).1
    rw [add_plain] at hc0
    refine ⟨b, off, rfl, cell_lt hc0, fun j hj => ?_⟩
    obtain ⟨z0, z1, z2, z3, z4, _⟩ := hy j hj
    rw [add_plain] at z0 z1 z2 z3 z4
    exact ⟨z0, z1, z2, z3, z4⟩
end
end Go.Proofs.Ytmjonifiohcobaa
