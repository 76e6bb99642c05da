/- NoteSteps: over every ground, for every thread and every list of pokes each step of a sleep, whether it is asleep, and whether the thread is woken, is the document's; no condition (the statement itself goes through configs of up to 4 processors, 8 threads and 60 goroutines, up to 400 words that are laid, and up to 100 pokes). -/
import Derived.Test.YtjbkhnolnlcjnaaNStep
import Derived.Test.YtjbkhnolnlcjnaaOpen
import Derived.Test.YtjbkhnolnlcjnaaFrame
import Derived.ProofKit
import Derived.OpenShut
import Derived.Lib.SmallJoins
namespace Go.Proofs.Ytjbkhnolnlcjnaa
open Go Go.ChangeShapes Go.WideShapes Go.ChangeAt Go.RowKit Go.Joins
set_option linter.unusedVariables false
set_option linter.unusedSimpArgs false

theorem own_noteSteps : ownKnob Try.prog.godebug = none := by kernel_rfl
theorem laidOut_noteSteps : laidOutB Try.prog = true := by kernel_rfl

set_option maxRecDepth 100000 in
theorem lifted_noteSteps (os : Os) (started : os.Started) (H : Type) (enc : TypeId × Value → H) :
    ReturnsInHanded {} Try.checked os 10 .any (Rows.noteStepsSpec.pre6 enc Try.prog Try.f10 Rows.noteStepsRow.domain false) (Rows.noteStepsSpec.post enc Try.prog Try.f10 false true false false) := by
  refine returnsInHanded_of_change (C := Try.checked) own_noteSteps started (by kernel_rfl) Try.func10
    (ChangeSpec.witness6 (enc := enc) (C := Try.checked) false ⟨#[], #[.agg #[.int .i64 0, .int .i64 0, .int .i64 0, .slice none 0 0], .int .i64 0, .slice none 0 0], []⟩ 8 (by kernel_rfl) (by kernel_rfl) (by kernel_rfl) (by kernel_rfl)) ?_
  intro W base args ds gs before hval0 hW hcnd _
  have hval : ∀ (j : Nat) t v, Try.f10.params[j]? = some t → args[j]? = some v → Value.okWide Try.prog W .any base t v := hval0
  have hW' := hW
  obtain ⟨p, q, hA0, hV, rfl, hfz, hnd⟩ := hW
  have hA : DataW.TrodAll enc Try.prog W 0 (fun _ => true) true Try.f10.params.toList args.toList ds p := hA0
  rw [Try.params10] at hA hval
  obtain ⟨v0, vs0, d0, ds0, p0, q0, hargs, rfl, rfl, h0, r0⟩ := trodAll_cons hA
  obtain ⟨v1, vs1, d1, ds1, p1, q1, rfl, rfl, rfl, h1, r1⟩ := trodAll_cons r0
  obtain ⟨v2, vs2, d2, ds2, p2, q2, rfl, rfl, rfl, h2, r2⟩ := trodAll_cons r1
  obtain ⟨rfl, rfl, rfl⟩ := trodAll_nil r2
  obtain rfl : args = #[v0, v1, v2] := by cases args; simp_all
  obtain ⟨P, T, G, E, m, cp, a, x, rfl, hm, hs, hx⟩ := open_ground (hval 0 67 v0 rfl rfl) h0
  unfold maxLen at hm
  obtain ⟨X, rfl, rfl, rfl, wX⟩ := open_int Try.underlying3 (hval 1 3 v1 rfl rfl) h1
  have bX := bounds_i64 wX
  obtain ⟨F, mp, cq, Pks, rfl, hmp, hP, hpv⟩ := open_pokes (hval 2 24 v2 rfl rfl) h2
  unfold maxLen at hmp
  clear hA0 hval0
  refine (noteSteps_walk P T G X E F m cp mp cq a x Pks W (by omega) (by omega) hs hx hP hpv).mono fun e W' ⟨he, hb⟩ => ?_
  subst he
  exact ⟨_, rfl, law_post laidOut_noteSteps rfl Try.underlying4 (by kernel_rfl) rfl rfl rfl rfl hW' hb⟩

theorem noteSteps_holds : Rows.NoteStepsSaid :=
  OpenClaim.holds_of_wide 10 Try.f10 rfl rfl rfl rfl rfl rfl rfl ⟨rfl, rfl, rfl, rfl, rfl⟩ rfl rfl rfl rfl rfl (by kernel_rfl) Try.func10 (by kernel_rfl)
    (of_decide_eq_true (by kernel_rfl)) (by unfold Func.isWrapper; first | (rw [if_pos (by decide +kernel)]; kernel_rfl) | (rw [if_neg (by decide +kernel)]; exact ⟨rfl, rfl⟩))
    (fun os started H enc _ => lifted_noteSteps os started H enc)
#print axioms noteSteps_holds
end Go.Proofs.Ytjbkhnolnlcjnaa
