/- Entries that come in, and slices of them. -/
import Derived.Test.YtemdhcegelddlaaDoorE1
import Derived.ProofKit
import Derived.OpenShut
import Derived.Lib.SmallJoins
import Derived.Deep.SlicePairs
import Derived.Deep.Fields
namespace Go.Proofs.YtemdhcegelddlaaDoor
open Go Go.ChangeShapes Go.WideShapes Go.ChangeAt Go.WideMaps Go.WideElems Go.RowKit Go.Joins Go.Deep
set_option linter.unusedVariables false
set_option linter.unusedSimpArgs false

section
variable {H : Type} {enc : TypeId × Value → H} {P : Program} {W : World} {base : Nat} {sp : Nat → Bool} {held : Bool}
theorem add_plain (b o j : Nat) : (⟨b, o, none⟩ : Addr).add j = ⟨b, o + j, none⟩ := by simp [Addr.add]
theorem one_int {T : TypeId} {q : IntKind} {cs : List Value} {xs : List (DataW H × List MemPlace)} {n j : Nat} {fl : Field} (o : fl.offset = j) (c : P.cellsOf fl.type = 1) (u : P.underlying fl.type = some (.int q)) (hlt : j < cs.length) (hx : j < xs.length)
    (g : DataW.trod enc P W base sp held n fl.type ((cs.drop fl.offset).take (P.cellsOf fl.type)) = xs[j]?) : ∃ a : Int, cs[j]? = some (.int q a) ∧ (Lit.int q a).wf = true := by
  rw [o, c, take1_drop cs j undef hlt, List.getElem?_eq_getElem hx] at g
  obtain ⟨a, e, _, wa⟩ := DataW.trod_int u g
  refine ⟨a, ?_, wa⟩
  simp only [List.cons.injEq, and_true] at e
  rw [List.getD_eq_getElem?_getD, List.getElem?_eq_getElem hlt] at e
  rw [List.getElem?_eq_getElem hlt]
  exact congrArg some e

variable {f0 f1 : Field}
/-- A struct of five ints: its cells. -/
theorem en_cells {e : TypeId} {fuel : Nat} {cs : List Value} {x : DataW H × List MemPlace} (hs : P.underlying e = some (.struct #[f0, f1])) (ho : f0.offset = 0 ∧ f1.offset = 1)
    (hc : P.cellsOf f0.type = 1 ∧ P.cellsOf f1.type = 1) (hu : P.underlying f0.type = some (.int .i64) ∧ P.underlying f1.type = some (.int .i64)) (hl : cs.length = 2)
    (h : DataW.trod enc P W base sp held fuel e cs = some x) :
    ∃ y : En, cs = y.cells.toList := by
  obtain ⟨xs, n, _, _, _, hxl, hg⟩ := DataW.trod_struct hs h
  have hxl' : xs.length = 2 := hxl
  obtain ⟨a, ea, _⟩ := one_int (T := e) ho.1 hc.1 hu.1 (by omega) (by omega) (hg 0 f0 rfl)
  obtain ⟨b, eb, _⟩ := one_int (T := e) ho.2 hc.2 hu.2 (by omega) (by omega) (hg 1 f1 rfl)
  refine ⟨⟨a, b⟩, ?_⟩
  match cs, hl with
  | [c0, c1], _ =>
    simp at ea eb
    rw [ea, eb]
    rfl
theorem sees_ens {b0 : Nat} {t e : TypeId} {v : Value} {d : DataW H} {pl : List MemPlace} (ht : P.underlying t = some (.slice e)) (hs : P.underlying e = some (.struct #[f0, f1])) (ho : f0.offset = 0 ∧ f1.offset = 1)
    (hc : P.cellsOf f0.type = 1 ∧ P.cellsOf f1.type = 1) (hu : P.underlying f0.type = some (.int .i64) ∧ P.underlying f1.type = some (.int .i64)) (hC : P.cellsOf e = 2)
    (hv : Value.okWide P W .any b0 t v) (h : DataW.Trod enc P W base (fun _ => true) true t v d pl) :
    ∃ (A : Option Addr) (n cap b : Nat) (I : List En), v = .slice A n cap ∧ I.length = n ∧ n ≤ cap ∧ Sees W b A I := by
  obtain ⟨A, n, cap, rfl⟩ := okWide_slice ht hv
  obtain ⟨fuel, hf⟩ := h
  rcases open_slice ht hf with ⟨hcs, _⟩ | ⟨a, l, c, m, q, D, Pl, hcs, _, hl, hm, hmm, _, hx⟩
  · simp [Value.cells] at hcs
    obtain ⟨rfl, rfl, rfl⟩ := hcs
    exact ⟨none, 0, 0, 0, [], rfl, rfl, Nat.le_refl _, fun h => absurd h (Nat.lt_irrefl 0)⟩
  · simp [Value.cells] at hcs
    obtain ⟨rfl, rfl, rfl⟩ := hcs
    have hll := hl
    have hmm' : m = cap := by simpa using hmm
    subst hmm'
    have each : ∀ j, j < n → ∃ y : En, W.cell? (a.add (j * 2)) = some (.int .i64 y.k) ∧ W.cell? (a.add (j * 2 + 1)) = some (.int .i64 y.w) := by
      intro j hj
      obtain ⟨cs', h1, h2⟩ := hx j (by omega)
      rw [hC] at h1
      obtain ⟨_, hlen, hcell⟩ := World.cells?_some h1
      obtain ⟨y, rfl⟩ := en_cells hs ho hc hu hlen h2
      refine ⟨y, ?_, ?_⟩
      · have := hcell 0 (by omega)
        rw [add_add, Nat.add_zero] at this
        rw [this]; rfl
      · have := hcell 1 (by omega)
        rw [add_add] at this
        rw [this]; rfl
    haveI : Inhabited En := ⟨⟨0, 0⟩⟩
    obtain ⟨y, hy⟩ := choose_lt each
    refine ⟨some a, n, m, a.block, (List.range n).map y, rfl, by simp, by omega, fun hn => ?_⟩
    have hn' : 0 < n := by simpa using hn
    obtain ⟨b, off, spot⟩ := a
    have hsp : spot = none := by
      have := (hy 0 hn').1
      simpa [Addr.add] using World.cell?_spot this
    subst hsp
    refine ⟨off, rfl, fun j hj => ?_⟩
    have hj' : j < n := by simpa using hj
    have e : at_ ((List.range n).map y) j = y j := by
      unfold at_
      rw [List.getD_eq_getElem?_getD]
      simp [hj']
    rw [e]
    have z := hy j hj'
    rw [add_plain, add_plain, ← Nat.add_assoc] at z
    exact z
end
end Go.Proofs.YtemdhcegelddlaaDoor
