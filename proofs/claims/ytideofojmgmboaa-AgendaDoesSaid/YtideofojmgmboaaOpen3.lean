/- A slice of acts that comes in. -/
import Derived.Test.YtideofojmgmboaaOpen2
import Derived.ProofKit
import Derived.OpenShut
import Derived.Lib.SmallJoins
import Derived.Deep.SlicePairs
import Derived.Deep.Fields
namespace Go.Proofs.Ytideofojmgmboaa
open Go Go.ChangeShapes Go.WideShapes Go.ChangeAt Go.RowKit Go.Joins Go.Deep
set_option linter.unusedVariables false
set_option linter.unusedSimpArgs false

/-- a slice of acts, in block b -/
def SeesA (w : World) (b : Nat) (A : Option Addr) (n : Nat) (y : Nat → Int × Int × Int) : Prop :=
  0 < n → ∃ off, A = some ⟨b, off, none⟩ ∧ ∀ j, j < n → w.cell? ⟨b, off + j * 3, none⟩ = some (.int .i64 (y j).1) ∧ w.cell? ⟨b, off + j * 3 + 1, none⟩ = some (.int .i64 (y j).2.1) ∧ w.cell? ⟨b, off + j * 3 + 2, none⟩ = some (.int .i64 (y j).2.2)
theorem SeesA.below {w w' : World} {b n : Nat} {A : Option Addr} {y : Nat → Int × Int × Int} (h : SeesA w b A n y) (hb : Below w.heap.size w w') : SeesA w' b A n y := fun hn => by
  obtain ⟨off, e, hc⟩ := h hn
  exact ⟨off, e, fun j hj => ⟨(hb.cell (cell_lt (hc j hj).1)).trans (hc j hj).1, (hb.cell (cell_lt (hc j hj).1)).trans (hc j hj).2.1, (hb.cell (cell_lt (hc j hj).1)).trans (hc j hj).2.2⟩⟩
section
variable {H : Type} {enc : TypeId × Value → H} {P : Program} {W : World} {base : Nat} {sp : Nat → Bool} {held : Bool}
variable {f0 f1 f2 : Field}
theorem act_cells {e : TypeId} {fuel : Nat} {cs : List Value} {x : DataW H × List MemPlace} (hs : P.underlying e = some (.struct #[f0, f1, f2])) (ho : f0.offset = 0 ∧ f1.offset = 1 ∧ f2.offset = 2)
    (hc : P.cellsOf f0.type = 1 ∧ P.cellsOf f1.type = 1 ∧ P.cellsOf f2.type = 1) (hu : P.underlying f0.type = some (.int .i64) ∧ P.underlying f1.type = some (.int .i64) ∧ P.underlying f2.type = some (.int .i64)) (hl : cs.length = 3)
    (h : DataW.trod enc P W base sp held fuel e cs = some x) :
    ∃ k p q : Int, cs = [.int .i64 k, .int .i64 p, .int .i64 q] := by
  obtain ⟨xs, n, _, _, _, hxl, hg⟩ := DataW.trod_struct hs h
  have hxl' : xs.length = 3 := hxl
  obtain ⟨k, ek, _⟩ := one_int (T := e) ho.1 hc.1 hu.1 (by omega) (by omega) (hg 0 f0 rfl)
  obtain ⟨p, ep, _⟩ := one_int (T := e) ho.2.1 hc.2.1 hu.2.1 (by omega) (by omega) (hg 1 f1 rfl)
  obtain ⟨q, eq, _⟩ := one_int (T := e) ho.2.2 hc.2.2 hu.2.2 (by omega) (by omega) (hg 2 f2 rfl)
  refine ⟨k, p, q, ?_⟩
  match cs, hl with
  | [c0, c1, c2], _ =>
    simp at ek ep eq
    rw [ek, ep, eq]
theorem sees_acts {b0 : Nat} {t e : TypeId} {v : Value} {d : DataW H} {pl : List MemPlace} (ht : P.underlying t = some (.slice e)) (hs : P.underlying e = some (.struct #[f0, f1, f2])) (ho : f0.offset = 0 ∧ f1.offset = 1 ∧ f2.offset = 2)
    (hc : P.cellsOf f0.type = 1 ∧ P.cellsOf f1.type = 1 ∧ P.cellsOf f2.type = 1) (hu : P.underlying f0.type = some (.int .i64) ∧ P.underlying f1.type = some (.int .i64) ∧ P.underlying f2.type = some (.int .i64)) (hC : P.cellsOf e = 3)
    (hv : Value.okWide P W .any b0 t v) (h : DataW.Trod enc P W base (fun _ => true) true t v d pl) :
    ∃ (A : Option Addr) (n cap b : Nat) (y : Nat → Int × Int × Int), v = .slice A n cap ∧ SeesA W b A n y := by
  obtain ⟨A, n, cap, rfl⟩ := okWide_slice ht hv
  obtain ⟨fuel, hf⟩ := h
  rcases open_slice ht hf with ⟨hcs, _⟩ | ⟨a, l, c, m, q, D, Pl, hcs, _, hl, hm, hmm, _, hx⟩
  · simp [Value.cells] at hcs
    obtain ⟨rfl, rfl, rfl⟩ := hcs
    exact ⟨none, 0, 0, 0, fun _ => (0, 0, 0), rfl, fun h => absurd h (Nat.lt_irrefl 0)⟩
  · simp [Value.cells] at hcs
    obtain ⟨rfl, rfl, rfl⟩ := hcs
    have hmm' : m = cap := by simpa using hmm
    subst hmm'
    have each : ∀ j, j < n → ∃ y : Int × Int × Int, W.cell? (a.add (j * 3)) = some (.int .i64 y.1) ∧ W.cell? (a.add (j * 3 + 1)) = some (.int .i64 y.2.1) ∧ W.cell? (a.add (j * 3 + 2)) = some (.int .i64 y.2.2) := by
      intro j hj
      obtain ⟨cs', h1, h2⟩ := hx j (by omega)
      rw [hC] at h1
      obtain ⟨_, hlen, hcell⟩ := World.cells?_some h1
      obtain ⟨k, p, q, rfl⟩ := act_cells hs ho hc hu hlen h2
      refine ⟨(k, p, q), ?_, ?_, ?_⟩
      · have := hcell 0 (by omega); rw [add_add] at this; simpa using this
      · have := hcell 1 (by omega); rw [add_add] at this; simpa using this
      · have := hcell 2 (by omega); rw [add_add] at this; simpa using this
    obtain ⟨y, hy⟩ := choose_lt each
    refine ⟨some a, n, m, a.block, y, rfl, fun hn' => ?_⟩
    obtain ⟨b, off, spot⟩ := a
    have hsp : spot = none := by
      have := (hy 0 hn').1
      simpa [Addr.add] using World.cell?_spot this
    subst hsp
    refine ⟨off, rfl, fun j hj' => ?_⟩
    obtain ⟨z0, z1, z2⟩ := hy j hj'
    rw [add_plain] at z0 z1 z2
    exact ⟨z0, z1, z2⟩
end
end Go.Proofs.Ytideofojmgmboaa
