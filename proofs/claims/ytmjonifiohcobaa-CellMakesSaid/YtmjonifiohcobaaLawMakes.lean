/- CellMakes: for every number and every list of words a memory is made, or none, as the document says, the words are copied, and of no memory nothing is told; no condition (the statement itself asks of up to 300 words, or more than may be, and of at most 100 that are handed in). -/
import Derived.Test.YtmjonifiohcobaaMakes
import Derived.Test.YtmjonifiohcobaaFrame
import Derived.ProofKit
import Derived.OpenShut
import Derived.Lib.SmallJoins
namespace Go.Proofs.Ytmjonifiohcobaa
open Go Go.ChangeShapes Go.WideShapes Go.ChangeAt Go.RowKit Go.Joins
set_option linter.unusedVariables false
set_option linter.unusedSimpArgs false

theorem own_cellMakes : ownKnob Try.prog.godebug = none := by kernel_rfl
theorem laidOut_cellMakes : laidOutB Try.prog = true := by kernel_rfl

set_option maxRecDepth 100000 in
theorem lifted_cellMakes (os : Os) (started : os.Started) (H : Type) (enc : TypeId × Value → H) :
    ReturnsInHanded {} Try.checked os 4 .any (Rows.cellMakesSpec.pre6 enc Try.prog Try.f4 Rows.cellMakesRow.domain false) (Rows.cellMakesSpec.post enc Try.prog Try.f4 false true false false) := by
  refine returnsInHanded_of_change (C := Try.checked) own_cellMakes started (by kernel_rfl) Try.func4
    (ChangeSpec.witness6 (enc := enc) (C := Try.checked) false ⟨#[], #[.int .i64 0, .slice none 0 0, .agg #[.int .i64 0, .int .i64 0, .int .i64 0, .int .u64 0, .int .u64 0]], []⟩ 8 (by kernel_rfl) (by kernel_rfl) (by kernel_rfl) (by kernel_rfl)) ?_
  intro W base args ds gs before hval0 hW hcnd _
  have hval : ∀ (j : Nat) t v, Try.f4.params[j]? = some t → args[j]? = some v → Value.okWide Try.prog W .any base t v := hval0
  have hW' := hW
  obtain ⟨p, q, hA0, hV, rfl, hfz, hnd⟩ := hW
  have hA : DataW.TrodAll enc Try.prog W 0 (fun _ => true) true Try.f4.params.toList args.toList ds p := hA0
  rw [Try.params4] at hA hval
  obtain ⟨v0, vs0, d0, ds0, p0, q0, hargs, rfl, rfl, h0, r0⟩ := trodAll_cons hA
  obtain ⟨v1, vs1, d1, ds1, p1, q1, rfl, rfl, rfl, h1, r1⟩ := trodAll_cons r0
  obtain ⟨v2, vs2, d2, ds2, p2, q2, rfl, rfl, rfl, h2, r2⟩ := trodAll_cons r1
  obtain ⟨rfl, rfl, rfl⟩ := trodAll_nil r2
  obtain rfl : args = #[v0, v1, v2] := by cases args; simp_all
  obtain ⟨M, rfl, rfl, rfl, wM⟩ := open_int Try.underlying3 (hval 0 3 v0 rfl rfl) h0
  obtain ⟨A, n, cap, f, rfl, hn, hnilA, hsA, hfA⟩ := sees_words Try.underlying22 Try.underlying32 cells32 (hval 1 22 v1 rfl rfl) h1
  obtain ⟨ak, ap, ai, ao, ax, rfl, hx⟩ := open_act Try.underlying34 ⟨rfl, rfl, rfl, rfl, rfl⟩ ⟨cells3, cells3, cells3, cells32, cells32⟩ ⟨Try.underlying3, Try.underlying3, Try.underlying3, Try.underlying32, Try.underlying32⟩ cells34 (hval 2 34 v2 rfl rfl) h2
  unfold maxLen at hn
  clear hA0 hval0
  refine (cellMakes_walk M A n cap f ak ap ai ao ax W (by omega) hsA hfA).mono fun e W' ⟨he, hb⟩ => ?_
  subst he
  exact ⟨_, rfl, law_post laidOut_cellMakes rfl Try.underlying4 (by kernel_rfl) rfl rfl rfl rfl hW' hb⟩

theorem cellMakes_holds : Rows.CellMakesSaid :=
  OpenClaim.holds_of_wide 4 Try.f4 rfl rfl rfl rfl rfl rfl rfl ⟨rfl, rfl, rfl, rfl, rfl⟩ rfl rfl rfl rfl rfl (by kernel_rfl) Try.func4 (by kernel_rfl)
    (of_decide_eq_true (by kernel_rfl)) (by unfold Func.isWrapper; first | (rw [if_pos (by decide +kernel)]; kernel_rfl) | (rw [if_neg (by decide +kernel)]; exact ⟨rfl, rfl⟩))
    (fun os started H enc _ => lifted_cellMakes os started H enc)
#print axioms cellMakes_holds
end Go.Proofs.Ytmjonifiohcobaa
