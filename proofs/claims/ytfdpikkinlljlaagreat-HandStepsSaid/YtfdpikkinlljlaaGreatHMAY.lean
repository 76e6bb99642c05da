/- HandSteps: each step of handing a processor over, over any memory, whatever others do between: its access, the processor in its hand, whether it counts by itself; for every ground, caller and processor, and all pokes; no condition. -/
import Derived.Test.YtfdpikkinlljlaaGreatHMAX
import Derived.Test.YtfdpikkinlljlaaGreatHMAS
import Derived.Test.YtfdpikkinlljlaaGreatHMAA
import Derived.Test.YtfdpikkinlljlaaGreatHMAC
import Derived.ProofKit
import Derived.OpenShut
import Derived.Lib.SmallJoins
namespace Go.Proofs.YtfdpikkinlljlaaGreat
open Go Go.ChangeShapes Go.WideShapes Go.ChangeAt Go.RowKit Go.Joins
set_option linter.unusedVariables false
set_option linter.unusedSimpArgs false

theorem own_handSteps : ownKnob Tryz.prog.godebug = none := by kernel_rfl
theorem laidOut_handSteps : laidOutB Tryz.prog = true := by kernel_rfl

set_option maxRecDepth 100000 in
theorem lifted_handSteps (os : Os) (started : os.Started) (H : Type) (enc : TypeId × Value → H) :
    ReturnsInHanded {} Tryz.checked os 5 .any (Rows.handStepsSpec.pre6 enc Tryz.prog Tryz.f5 Rows.handStepsRow.domain false) (Rows.handStepsSpec.post enc Tryz.prog Tryz.f5 false true false false) := by
  refine returnsInHanded_of_change (C := Tryz.checked) own_handSteps started (by kernel_rfl) Tryz.func5
    (ChangeSpec.witness6 (enc := enc) (C := Tryz.checked) false ⟨#[], #[.agg #[.int .i64 0, .int .i64 0, .int .i64 0, .slice none 0 0], .agg #[.int .i64 0, .int .i64 0], .slice none 0 0], []⟩ 8 (by kernel_rfl) (by kernel_rfl) (by kernel_rfl) (by kernel_rfl)) ?_
  intro W base args ds gs before hval0 hW hcnd _
  have hval : ∀ (j : Nat) t v, Tryz.f5.params[j]? = some t → args[j]? = some v → Value.okWide Tryz.prog W .any base t v := hval0
  have hW' := hW
  obtain ⟨p, q, hA0, hV, rfl, hfz, hnd⟩ := hW
  have hA : DataW.TrodAll enc Tryz.prog W 0 (fun _ => true) true Tryz.f5.params.toList args.toList ds p := hA0
  rw [Tryz.params5] at hA hval
  obtain ⟨v0, vs0, d0, ds0, p0, q0, hargs, rfl, rfl, h0, r0⟩ := trodAll_cons hA
  obtain ⟨v1, vs1, d1, ds1, p1, q1, rfl, rfl, rfl, h1, r1⟩ := trodAll_cons r0
  obtain ⟨v2, vs2, d2, ds2, p2, q2, rfl, rfl, rfl, h2, r2⟩ := trodAll_cons r1
  obtain ⟨rfl, rfl, rfl⟩ := trodAll_nil r2
  obtain rfl : args = #[v0, v1, v2] := by cases args; simp_all
  obtain ⟨P, T, G, E, m, cp, a, x, rfl, hm, hs, hx⟩ := open_ground (hval 0 26 v0 rfl rfl) h0
  unfold maxLen at hm
  obtain ⟨x0, x1, rfl, bx0, bx1⟩ := open_two Tryz.underlying70 Tryz.underlying3 (by kernel_rfl) (by kernel_rfl) (hval 1 70 v1 rfl rfl) h1
  obtain ⟨F, mp, cq, Pks, rfl, hmp, hP, hpv⟩ := open_pokes (hval 2 29 v2 rfl rfl) h2
  unfold maxLen at hmp
  clear hA0 hval0
  refine (handSteps_walk P T G x0 x1 E F m cp mp cq a x Pks W hand_awake (by omega) (by omega) hs hx hP hpv).mono fun e W' ⟨he, hb⟩ => ?_
  subst he
  exact ⟨_, rfl, law_post laidOut_handSteps rfl Tryz.underlying4 (by kernel_rfl) rfl rfl rfl rfl hW' hb⟩

theorem handSteps_jlaid : laidOutB Tryz.pinned.checked.prog = true := by kernel_rfl
theorem handSteps_jmaps : mapsRowed Tryz.pinned.checked.prog = true := by kernel_rfl
theorem handSteps_jinp : (Rows.handStepsRow.inPlace == Tryz.pinned.checked.prog.inPlace 5) = true := by kernel_rfl
theorem handSteps_junf : (Rows.handStepsRow.unfollowed == Tryz.pinned.checked.prog.unfollowed 5) = true := by kernel_rfl
theorem handSteps_jrec : (Rows.handStepsRow.recurses == Tryz.pinned.checked.prog.recurses 5) = true := by kernel_rfl
theorem handSteps_jnam : (Rows.handStepsRow.named == Tryz.pinned.checked.prog.varsNamed 5) = true := by kernel_rfl
theorem handSteps_closed : joinedFacts Tryz.pinned.checked.prog 5 Tryz.f5 Rows.handStepsSpec Rows.handStepsRow = true := by
  unfold joinedFacts
  rw [handSteps_jlaid, handSteps_jmaps, handSteps_jinp, handSteps_junf, handSteps_jrec, handSteps_jnam]
  kernel_rfl
theorem handSteps_holds : Rows.HandStepsSaid :=
  OpenClaim.holds_of_wide 5 Tryz.f5 rfl rfl rfl rfl rfl rfl rfl ⟨rfl, rfl, rfl, rfl, rfl⟩ rfl rfl rfl rfl rfl (by kernel_rfl) Tryz.func5 handSteps_closed
    (of_decide_eq_true (by kernel_rfl)) (by unfold Func.isWrapper; first | (rw [if_pos (by decide +kernel)]; kernel_rfl) | (rw [if_neg (by decide +kernel)]; exact ⟨rfl, rfl⟩))
    (fun os started H enc _ => lifted_handSteps os started H enc)
#print axioms handSteps_holds
end Go.Proofs.YtfdpikkinlljlaaGreat
