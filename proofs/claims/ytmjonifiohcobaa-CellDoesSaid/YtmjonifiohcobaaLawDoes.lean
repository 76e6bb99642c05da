/- CellDoes: for every list of words and every list of accesses the memory answers and stands as the document's does; no condition (the statement itself asks of at most 100 words and 100 accesses). -/
import Derived.Test.YtmjonifiohcobaaDoes2
import Derived.Test.YtmjonifiohcobaaFrame
import Derived.ProofKit
import Derived.OpenShut
import Derived.Lib.SmallJoins
namespace Go.Proofs.Ytmjonifiohcobaa
open Go Go.ChangeShapes Go.WideShapes Go.ChangeAt Go.RowKit Go.Joins
set_option linter.unusedVariables false
set_option linter.unusedSimpArgs false

theorem own_cellDoes : ownKnob Try.prog.godebug = none := by kernel_rfl
theorem laidOut_cellDoes : laidOutB Try.prog = true := by kernel_rfl

set_option maxRecDepth 100000 in
theorem lifted_cellDoes (os : Os) (started : os.Started) (H : Type) (enc : TypeId × Value → H) :
    ReturnsInHanded {} Try.checked os 3 .any (Rows.cellDoesSpec.pre6 enc Try.prog Try.f3 Rows.cellDoesRow.domain false) (Rows.cellDoesSpec.post enc Try.prog Try.f3 false true false false) := by
  refine returnsInHanded_of_change (C := Try.checked) own_cellDoes started (by kernel_rfl) Try.func3
    (ChangeSpec.witness6 (enc := enc) (C := Try.checked) false ⟨#[], #[.slice none 0 0, .slice none 0 0], []⟩ 8 (by kernel_rfl) (by kernel_rfl) (by kernel_rfl) (by kernel_rfl)) ?_
  intro W base args ds gs before hval0 hW hcnd _
  have hval : ∀ (j : Nat) t v, Try.f3.params[j]? = some t → args[j]? = some v → Value.okWide Try.prog W .any base t v := hval0
  have hW' := hW
  obtain ⟨p, q, hA0, hV, rfl, hfz, hnd⟩ := hW
  have hA : DataW.TrodAll enc Try.prog W 0 (fun _ => true) true Try.f3.params.toList args.toList ds p := hA0
  rw [Try.params3] at hA hval
  obtain ⟨v0, vs0, d0, ds0, p0, q0, hargs, rfl, rfl, h0, r0⟩ := trodAll_cons hA
  obtain ⟨v1, vs1, d1, ds1, p1, q1, rfl, rfl, rfl, h1, r1⟩ := trodAll_cons r0
  obtain ⟨rfl, rfl, rfl⟩ := trodAll_nil r1
  obtain rfl : args = #[v0, v1] := by cases args; simp_all
  obtain ⟨A, n, cap, f, rfl, hn, hnilA, hsA, hfA⟩ := sees_words Try.underlying22 Try.underlying32 cells32 (hval 0 22 v0 rfl rfl) h0
  obtain ⟨E, m, cp, k, p, ii, o, x, rfl, hm, hl, hv⟩ := sees_acts Try.underlying23 Try.underlying34 ⟨rfl, rfl, rfl, rfl, rfl⟩ ⟨cells3, cells3, cells3, cells32, cells32⟩ ⟨Try.underlying3, Try.underlying3, Try.underlying3, Try.underlying32, Try.underlying32⟩ cells34 (hval 1 23 v1 rfl rfl) h1
  unfold maxLen at hn hm
  clear hA0 hval0
  refine (cellDoes_walk A E n cap m cp f k p ii o x W (by omega) (by omega) hnilA hsA hfA hl hv).mono fun e W' ⟨he, hb⟩ => ?_
  subst he
  exact ⟨_, rfl, law_post laidOut_cellDoes rfl Try.underlying4 (by kernel_rfl) rfl rfl rfl rfl hW' hb⟩

theorem cellDoes_holds : Rows.CellDoesSaid :=
  OpenClaim.holds_of_wide 3 Try.f3 rfl rfl rfl rfl rfl rfl rfl ⟨rfl, rfl, rfl, rfl, rfl⟩ rfl rfl rfl rfl rfl (by kernel_rfl) Try.func3 (by kernel_rfl)
    (of_decide_eq_true (by kernel_rfl)) (by unfold Func.isWrapper; first | (rw [if_pos (by decide +kernel)]; kernel_rfl) | (rw [if_neg (by decide +kernel)]; exact ⟨rfl, rfl⟩))
    (fun os started H enc _ => lifted_cellDoes os started H enc)
#print axioms cellDoes_holds
end Go.Proofs.Ytmjonifiohcobaa
