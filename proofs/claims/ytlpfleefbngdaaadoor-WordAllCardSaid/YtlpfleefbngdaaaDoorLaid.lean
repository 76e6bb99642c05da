/- What the listed table of kinds gives the walks: its eight cells. -/
import Derived.Test.YtlpfleefbngdaaaDoorWalks
import Derived.ProofKit
import Derived.LaidMore
import Derived.OpenShut
import Derived.Stop.Joined
namespace Go.Proofs.YtlpfleefbngdaaaDoor
open Go Go.ChangeShapes Go.WideShapes Go.ChangeAt Go.WideMaps Go.WideElems Go.RowKit

def theLaid : List (String × DataW Unit) := [("turnspit/word.kinds", Rows.laid_turnspit_word_kinds)]
theorem own : ownKnob Tryd.prog.godebug = none := by kernel_rfl
theorem gKinds : Tryd.prog.globalNamed "turnspit/word.kinds" = some 0 := by kernel_rfl
theorem tKinds : (Tryd.prog.globals[0]?).map (·.type) = some 41 := by kernel_rfl
theorem cells3 : Tryd.prog.cellsOf 3 = 1 := by kernel_rfl
theorem laidOut : laidOutB Tryd.prog = true := by kernel_rfl
theorem cells27 : Tryd.prog.cellsOf 27 = 2 := by kernel_rfl
theorem cells41 : Tryd.prog.cellsOf 41 = 8 := by kernel_rfl

set_option maxRecDepth 100000 in
theorem door_met (os : Os) (args : Array Value) : laidMetH Tryd.prog theLaid ((World.doorLaid Tryd.prog 400 os).forCall (fun _ _ => 0) ⟨#[], args, []⟩).memory :=
  laidMetH_of_parts3 (fuel := 8) (laidMet_of_run' 8 (by kernel_rfl) (by kernel_rfl)) (by kernel_rfl) (by kernel_rfl)

theorem of_laid {W : World} (h : laidMetH Tryd.prog theLaid W) : Tab W := by
  rw [MakeChecks.laidMetH_plain _ _ _ (by kernel_rfl)] at h
  obtain ⟨ps, ⟨g0, t0, cs0, f0, p0, q0, hg0, ht0, hv0, hd0, _, _⟩, _, _⟩ := h
  obtain rfl := Option.some.inj (gKinds.symm.trans hg0)
  obtain rfl := Option.some.inj (tKinds.symm.trans ht0)
  obtain ⟨xs, m1, rfl, hx1, hlen, hn3, hel⟩ := DataW.trod_array Tryd.underlying41 hd0
  simp only [Prod.mk.injEq, Rows.laid_turnspit_word_kinds, DataW.agg.injEq] at hx1
  obtain ⟨hxs, _⟩ := hx1
  rw [cells3] at hel
  rw [cells41] at hlen
  have step : ∀ i : Nat, ∀ v : Int, (xs.map (·.1))[i]? = some (.lit (.int .i64 v)) → i < 8 → W.cell? ⟨0, i, none⟩ = some (.int .i64 v) := by
    intro i v hi h8
    have hiel := hel i h8
    rw [List.getElem?_map] at hi
    cases hx : xs[i]? with
    | none => rw [hx] at hi; simp at hi
    | some y =>
      rw [hx] at hi hiel
      obtain ⟨k, e1, e2, _⟩ := DataW.trod_int Tryd.underlying3 hiel
      have hk : k = v := by rw [e2] at hi; simpa using hi
      subst hk
      rw [World.var?_cell hg0 hv0 i]
      have e3 : cs0.toList[i]? = some (.int .i64 k) := by
        have := congrArg (·[0]?) e1
        simpa [List.getElem?_take, List.getElem?_drop] using this
      simpa using e3
  rw [← hxs] at step
  exact ⟨step 0 1 rfl (by decide), step 1 1 rfl (by decide), step 2 1 rfl (by decide), step 3 1 rfl (by decide), step 4 2 rfl (by decide), step 5 3 rfl (by decide), step 6 4 rfl (by decide), step 7 2 rfl (by decide)⟩

end Go.Proofs.YtlpfleefbngdaaaDoor
