/- CellAdds: for every first word, every list of numbers and every turn of it the sums are one, modulo 2^32; no condition (the statement itself asks of at most 100 numbers). -/
import Derived.Test.YtmjonifiohcobaaAdds2
import Derived.Test.YtmjonifiohcobaaFrame
import Derived.ProofKit
import Derived.OpenShut
import Derived.Lib.SmallJoins
namespace Go.Proofs.Ytmjonifiohcobaa
open Go Go.ChangeShapes Go.WideShapes Go.ChangeAt Go.RowKit Go.Joins
set_option linter.unusedVariables false
set_option linter.unusedSimpArgs false

theorem own_cellAdds : ownKnob Try.prog.godebug = none := by kernel_rfl
theorem laidOut_cellAdds : laidOutB Try.prog = true := by kernel_rfl

set_option maxRecDepth 100000 in
theorem lifted_cellAdds (os : Os) (started : os.Started) (H : Type) (enc : TypeId × Value → H) :
    ReturnsInHanded {} Try.checked os 6 .any (Rows.cellAddsSpec.pre6 enc Try.prog Try.f6 Rows.cellAddsRow.domain false) (Rows.cellAddsSpec.post enc Try.prog Try.f6 false true false false) := by
  refine returnsInHanded_of_change (C := Try.checked) own_cellAdds started (by kernel_rfl) Try.func6
    (ChangeSpec.witness6 (enc := enc) (C := Try.checked) false ⟨#[], #[.int .u64 0, .slice none 0 0, .int .u8 0], []⟩ 8 (by kernel_rfl) (by kernel_rfl) (by kernel_rfl) (by kernel_rfl)) ?_
  intro W base args ds gs before hval0 hW hcnd _
  have hval : ∀ (j : Nat) t v, Try.f6.params[j]? = some t → args[j]? = some v → Value.okWide Try.prog W .any base t v := hval0
  have hW' := hW
  obtain ⟨p, q, hA0, hV, rfl, hfz, hnd⟩ := hW
  have hA : DataW.TrodAll enc Try.prog W 0 (fun _ => true) true Try.f6.params.toList args.toList ds p := hA0
  rw [Try.params6] at hA hval
  obtain ⟨v0, vs0, d0, ds0, p0, q0, hargs, rfl, rfl, h0, r0⟩ := trodAll_cons hA
  obtain ⟨v1, vs1, d1, ds1, p1, q1, rfl, rfl, rfl, h1, r1⟩ := trodAll_cons r0
  obtain ⟨v2, vs2, d2, ds2, p2, q2, rfl, rfl, rfl, h2, r2⟩ := trodAll_cons r1
  obtain ⟨rfl, rfl, rfl⟩ := trodAll_nil r2
  obtain rfl : args = #[v0, v1, v2] := by cases args; simp_all
  obtain ⟨F, rfl, rfl, rfl, wF⟩ := open_int Try.underlying32 (hval 0 32 v0 rfl rfl) h0
  have bF := bounds_u64 wF
  obtain ⟨A, n, cap, g, rfl, hn, hnilA, hsA, hfA⟩ := sees_words Try.underlying22 Try.underlying32 cells32 (hval 1 22 v1 rfl rfl) h1
  obtain ⟨Q, rfl, rfl, rfl, wQ⟩ := open_int Try.underlying5 (hval 2 5 v2 rfl rfl) h2
  have bQ := bounds_u8 wQ
  obtain ⟨t, rfl⟩ : ∃ t : Nat, Q = (t : Int) := ⟨Q.toNat, by omega⟩
  unfold maxLen at hn
  clear hA0 hval0
  refine (cellAdds_walk F A n cap t g W (by omega) (by omega) bF hsA hfA).mono fun e W' ⟨he, hb⟩ => ?_
  subst he
  exact ⟨_, rfl, law_post laidOut_cellAdds rfl Try.underlying4 (by kernel_rfl) rfl rfl rfl rfl hW' hb⟩

theorem cellAdds_holds : Rows.CellAddsSaid :=
  OpenClaim.holds_of_wide 6 Try.f6 rfl rfl rfl rfl rfl rfl rfl ⟨rfl, rfl, rfl, rfl, rfl⟩ rfl rfl rfl rfl rfl (by kernel_rfl) Try.func6 (by kernel_rfl)
    (of_decide_eq_true (by kernel_rfl)) (by unfold Func.isWrapper; first | (rw [if_pos (by decide +kernel)]; kernel_rfl) | (rw [if_neg (by decide +kernel)]; exact ⟨rfl, rfl⟩))
    (fun os started H enc _ => lifted_cellAdds os started H enc)
#print axioms cellAdds_holds
end Go.Proofs.Ytmjonifiohcobaa
