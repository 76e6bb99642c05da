/- FlowNone: of no machine, and of one that is done, a step does nothing, for every access; no condition. -/
import Derived.Test.YtjbkhnolnlcjnaaFNone
import Derived.Test.YtjbkhnolnlcjnaaOpen2
import Derived.Test.YtjbkhnolnlcjnaaFrame
import Derived.ProofKit
import Derived.OpenShut
import Derived.Lib.SmallJoins
namespace Go.Proofs.Ytjbkhnolnlcjnaa
open Go Go.ChangeShapes Go.WideShapes Go.ChangeAt Go.RowKit Go.Joins
set_option linter.unusedVariables false
set_option linter.unusedSimpArgs false

set_option maxRecDepth 100000 in
set_option linter.constructorNameAsVariable false in
theorem open_access {H : Type} {enc : TypeId × Value → H} {W : World} {base b0 : Nat} {v : Value} {d : DataW H} {p : List MemPlace}
    (hv : Value.okWide Try.prog W .any b0 41 v) (h : DataW.Trod enc Try.prog W base (fun _ => true) true 41 v d p) :
    ∃ (k p i o x : Int) (z : Bool), v = .agg #[.int .i64 k, .int .i64 p, .int .i64 i, .int .u64 o, .int .u64 x, .bool z] := by
  obtain ⟨cs, rfl, hsz⟩ := okWide_struct Try.underlying41 hv
  have hl : cs.toList.length = 6 := by
    have : Try.prog.cellsOf 41 = 6 := by kernel_rfl
    simpa using hsz.trans this
  obtain ⟨fuel, hf⟩ := h
  obtain ⟨k, p, i, o, x, z, e, _⟩ := acc_cells Try.underlying41 ⟨rfl, rfl, rfl, rfl, rfl, rfl⟩ ⟨by kernel_rfl, by kernel_rfl, by kernel_rfl, by kernel_rfl, by kernel_rfl, by kernel_rfl⟩ ⟨Try.underlying3, Try.underlying3, Try.underlying3, Try.underlying34, Try.underlying34, Try.underlying4⟩ hl hf
  exact ⟨k, p, i, o, x, z, by rw [← Array.toArray_toList (xs := cs), e]⟩

theorem own_flowNone : ownKnob Try.prog.godebug = none := by kernel_rfl
theorem laidOut_flowNone : laidOutB Try.prog = true := by kernel_rfl

set_option maxRecDepth 100000 in
theorem lifted_flowNone (os : Os) (started : os.Started) (H : Type) (enc : TypeId × Value → H) :
    ReturnsInHanded {} Try.checked os 5 .any (Rows.flowNoneSpec.pre6 enc Try.prog Try.f5 Rows.flowNoneRow.domain false) (Rows.flowNoneSpec.post enc Try.prog Try.f5 false true false false) := by
  refine returnsInHanded_of_change (C := Try.checked) own_flowNone started (by kernel_rfl) Try.func5
    (ChangeSpec.witness6 (enc := enc) (C := Try.checked) false ⟨#[], #[.agg #[.int .i64 0, .int .i64 0, .int .i64 0, .int .u64 0, .int .u64 0, .bool false]], []⟩ 8 (by kernel_rfl) (by kernel_rfl) (by kernel_rfl) (by kernel_rfl)) ?_
  intro W base args ds gs before hval0 hW hcnd _
  have hval : ∀ (j : Nat) t v, Try.f5.params[j]? = some t → args[j]? = some v → Value.okWide Try.prog W .any base t v := hval0
  have hW' := hW
  obtain ⟨p, q, hA0, hV, rfl, hfz, hnd⟩ := hW
  have hA : DataW.TrodAll enc Try.prog W 0 (fun _ => true) true Try.f5.params.toList args.toList ds p := hA0
  rw [Try.params5] at hA hval
  obtain ⟨v0, vs0, d0, ds0, p0, q0, hargs, rfl, rfl, h0, r0⟩ := trodAll_cons hA
  obtain ⟨rfl, rfl, rfl⟩ := trodAll_nil r0
  obtain rfl : args = #[v0] := by cases args; simp_all
  obtain ⟨k, p, i, o, v, z, rfl⟩ := open_access (hval 0 41 v0 rfl rfl) h0
  clear hA0 hval0
  refine (flowNone_walk k p i o v z W).mono fun e W' ⟨he, hb⟩ => ?_
  subst he
  exact ⟨_, rfl, law_post laidOut_flowNone rfl Try.underlying4 (by kernel_rfl) rfl rfl rfl rfl hW' hb⟩

theorem flowNone_holds : Rows.FlowNoneSaid :=
  OpenClaim.holds_of_wide 5 Try.f5 rfl rfl rfl rfl rfl rfl rfl ⟨rfl, rfl, rfl, rfl, rfl⟩ rfl rfl rfl rfl rfl (by kernel_rfl) Try.func5 (by kernel_rfl)
    (of_decide_eq_true (by kernel_rfl)) (by unfold Func.isWrapper; first | (rw [if_pos (by decide +kernel)]; kernel_rfl) | (rw [if_neg (by decide +kernel)]; exact ⟨rfl, rfl⟩))
    (fun os started H enc _ => lifted_flowNone os started H enc)
#print axioms flowNone_holds
end Go.Proofs.Ytjbkhnolnlcjnaa
