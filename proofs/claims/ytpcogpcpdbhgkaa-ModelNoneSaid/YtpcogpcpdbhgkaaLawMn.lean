/- ModelNone: which models there are, and that of none nothing is told; no condition. -/
import Derived.Test.YtpcogpcpdbhgkaaN19
import Derived.Test.YtpcogpcpdbhgkaaN20
import Derived.Test.YtpcogpcpdbhgkaaN21
import Derived.Test.YtpcogpcpdbhgkaaOpen
import Derived.Test.YtpcogpcpdbhgkaaFrame
import Derived.ProofKit
import Derived.OpenShut
import Derived.Lib.SmallJoins
namespace Go.Proofs.Ytpcogpcpdbhgkaa
open Go Go.ChangeShapes Go.WideShapes Go.ChangeAt Go.RowKit Go.Joins
set_option linter.unusedVariables false
set_option linter.unusedSimpArgs false

theorem modelNone_walk (p t g a0 a1 a2 a3 a4 : Int) (w : World) : Calls Try.prog 3 #[.agg #[.int .i64 p, .int .i64 t, .int .i64 g], .agg #[.int .i64 a0, .int .i64 a1, .int .i64 a2, .int .i64 a3, .int .i64 a4]] w fun e w' => e = .returned (.bool true) ∧ Below w.heap.size w w' := by
  by_cases h1 : 300 < g ∧ g ≤ 65536
  · exact law_many p t g a0 a1 a2 a3 a4 h1 w
  · by_cases h2 : 1 ≤ p ∧ p ≤ 64 ∧ 1 ≤ g ∧ g ≤ 65536
    · obtain ⟨G, rfl⟩ : ∃ G : Nat, g = (G : Int) := ⟨g.toNat, by omega⟩
      exact law_ok p t G a0 a1 a2 a3 a4 ⟨h2.1, h2.2.1⟩ ⟨by omega, by omega⟩ w
    · by_cases h3 : g ≤ 300
      · exact law_bad1 p t g a0 a1 a2 a3 a4 h3 h2 w
      · exact law_bad2 p t g a0 a1 a2 a3 a4 (by omega) h2 w

theorem own_modelNone : ownKnob Try.prog.godebug = none := by kernel_rfl
theorem laidOut_modelNone : laidOutB Try.prog = true := by kernel_rfl

set_option maxRecDepth 100000 in
theorem lifted_modelNone (os : Os) (started : os.Started) (H : Type) (enc : TypeId × Value → H) :
    ReturnsInHanded {} Try.checked os 3 .any (Rows.modelNoneSpec.pre6 enc Try.prog Try.f3 Rows.modelNoneRow.domain false) (Rows.modelNoneSpec.post enc Try.prog Try.f3 false true false false) := by
  refine returnsInHanded_of_change (C := Try.checked) own_modelNone started (by kernel_rfl) Try.func3
    (ChangeSpec.witness6 (enc := enc) (C := Try.checked) false ⟨#[], #[.agg #[.int .i64 0, .int .i64 0, .int .i64 0], .agg #[.int .i64 0, .int .i64 0, .int .i64 0, .int .i64 0, .int .i64 0]], []⟩ 8 (by kernel_rfl) (by kernel_rfl) (by kernel_rfl) (by kernel_rfl)) ?_
  intro W base args ds gs before hval0 hW hcnd _
  have hval : ∀ (j : Nat) t v, Try.f3.params[j]? = some t → args[j]? = some v → Value.okWide Try.prog W .any base t v := hval0
  have hW' := hW
  obtain ⟨p, q, hA0, hV, rfl, hfz, hnd⟩ := hW
  have hA : DataW.TrodAll enc Try.prog W 0 (fun _ => true) true Try.f3.params.toList args.toList ds p := hA0
  rw [Try.params3] at hA hval
  obtain ⟨v0, vs0, d0, ds0, p0, q0, hargs, rfl, rfl, h0, r0⟩ := trodAll_cons hA
  obtain ⟨v1, vs1, d1, ds1, p1, q1, rfl, rfl, rfl, h1, r1⟩ := trodAll_cons r0
  obtain ⟨rfl, rfl, rfl⟩ := trodAll_nil r1
  obtain rfl : args = #[v0, v1] := by cases args; simp_all
  obtain ⟨P0, T0, G0, rfl, bP0, bT0, bG0⟩ := open_cfg Try.underlying23 (by kernel_rfl) (by kernel_rfl) Try.underlying3 Try.underlying3 Try.underlying3 (hval 0 23 v0 rfl rfl) h0
  obtain ⟨a0, a1, a2, a3, a4, rfl⟩ := open_ev Try.underlying25 ⟨rfl, rfl, rfl, rfl, rfl⟩ ⟨by kernel_rfl, by kernel_rfl, by kernel_rfl, by kernel_rfl, by kernel_rfl⟩ ⟨Try.underlying3, Try.underlying3, Try.underlying3, Try.underlying3, Try.underlying3⟩ (by kernel_rfl) (hval 1 25 v1 rfl rfl) h1
  clear hA0 hval0
  refine (modelNone_walk P0 T0 G0 a0 a1 a2 a3 a4 W).mono fun e W' ⟨he, hb⟩ => ?_
  subst he
  exact ⟨_, rfl, law_post laidOut_modelNone rfl Try.underlying4 (by kernel_rfl) rfl rfl rfl rfl hW' hb⟩

theorem modelNone_holds : Rows.ModelNoneSaid :=
  OpenClaim.holds_of_wide 3 Try.f3 rfl rfl rfl rfl rfl rfl rfl ⟨rfl, rfl, rfl, rfl, rfl⟩ rfl rfl rfl rfl rfl (by kernel_rfl) Try.func3 (by kernel_rfl)
    (of_decide_eq_true (by kernel_rfl)) (by unfold Func.isWrapper; first | (rw [if_pos (by decide +kernel)]; kernel_rfl) | (rw [if_neg (by decide +kernel)]; exact ⟨rfl, rfl⟩))
    (fun os started H enc _ => lifted_modelNone os started H enc)
#print axioms modelNone_holds
end Go.Proofs.Ytpcogpcpdbhgkaa
