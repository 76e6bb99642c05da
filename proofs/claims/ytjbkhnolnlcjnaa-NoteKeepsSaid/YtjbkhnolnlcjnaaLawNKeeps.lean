/- NoteKeeps: for every number of threads, every thread and every two small numbers a wake is not lost, and without one a sleep does not end; no condition (the statement itself takes up to 8 threads and 100 steps). -/
import Derived.Test.YtjbkhnolnlcjnaaNKeeps
import Derived.Test.YtjbkhnolnlcjnaaOpen
import Derived.Test.YtjbkhnolnlcjnaaFrame
import Derived.ProofKit
import Derived.OpenShut
import Derived.Lib.SmallJoins
namespace Go.Proofs.Ytjbkhnolnlcjnaa
open Go Go.ChangeShapes Go.WideShapes Go.ChangeAt Go.RowKit Go.Joins
set_option linter.unusedVariables false
set_option linter.unusedSimpArgs false

theorem own_noteKeeps : ownKnob Try.prog.godebug = none := by kernel_rfl
theorem laidOut_noteKeeps : laidOutB Try.prog = true := by kernel_rfl

set_option maxRecDepth 100000 in
theorem lifted_noteKeeps (os : Os) (started : os.Started) (H : Type) (enc : TypeId × Value → H) :
    ReturnsInHanded {} Try.checked os 12 .any (Rows.noteKeepsSpec.pre6 enc Try.prog Try.f12 Rows.noteKeepsRow.domain false) (Rows.noteKeepsSpec.post enc Try.prog Try.f12 false true false false) := by
  refine returnsInHanded_of_change (C := Try.checked) own_noteKeeps started (by kernel_rfl) Try.func12
    (ChangeSpec.witness6 (enc := enc) (C := Try.checked) false ⟨#[], #[.int .i64 0, .int .i64 0, .agg #[.int .u8 0, .int .u8 0]], []⟩ 8 (by kernel_rfl) (by kernel_rfl) (by kernel_rfl) (by kernel_rfl)) ?_
  intro W base args ds gs before hval0 hW hcnd _
  have hval : ∀ (j : Nat) t v, Try.f12.params[j]? = some t → args[j]? = some v → Value.okWide Try.prog W .any base t v := hval0
  have hW' := hW
  obtain ⟨p, q, hA0, hV, rfl, hfz, hnd⟩ := hW
  have hA : DataW.TrodAll enc Try.prog W 0 (fun _ => true) true Try.f12.params.toList args.toList ds p := hA0
  rw [Try.params12] at hA hval
  obtain ⟨v0, vs0, d0, ds0, p0, q0, hargs, rfl, rfl, h0, r0⟩ := trodAll_cons hA
  obtain ⟨v1, vs1, d1, ds1, p1, q1, rfl, rfl, rfl, h1, r1⟩ := trodAll_cons r0
  obtain ⟨v2, vs2, d2, ds2, p2, q2, rfl, rfl, rfl, h2, r2⟩ := trodAll_cons r1
  obtain ⟨rfl, rfl, rfl⟩ := trodAll_nil r2
  obtain rfl : args = #[v0, v1, v2] := by cases args; simp_all
  obtain ⟨X, rfl, rfl, rfl, wX⟩ := open_int Try.underlying3 (hval 0 3 v0 rfl rfl) h0
  have bX := bounds_i64 wX
  obtain ⟨Y, rfl, rfl, rfl, wY⟩ := open_int Try.underlying3 (hval 1 3 v1 rfl rfl) h1
  have bY := bounds_i64 wY
  obtain ⟨x0, x1, rfl, bx0, bx1⟩ := open_two8 Try.underlying97 Try.underlying5 (by kernel_rfl) (by kernel_rfl) (hval 2 97 v2 rfl rfl) h2
  clear hA0 hval0
  refine (noteKeeps_walk X Y x0 x1 W bx0 bx1).mono fun e W' ⟨he, hb⟩ => ?_
  subst he
  exact ⟨_, rfl, law_post laidOut_noteKeeps rfl Try.underlying4 (by kernel_rfl) rfl rfl rfl rfl hW' hb⟩

theorem noteKeeps_holds : Rows.NoteKeepsSaid :=
  OpenClaim.holds_of_wide 12 Try.f12 rfl rfl rfl rfl rfl rfl rfl ⟨rfl, rfl, rfl, rfl, rfl⟩ rfl rfl rfl rfl rfl (by kernel_rfl) Try.func12 (by kernel_rfl)
    (of_decide_eq_true (by kernel_rfl)) (by unfold Func.isWrapper; first | (rw [if_pos (by decide +kernel)]; kernel_rfl) | (rw [if_neg (by decide +kernel)]; exact ⟨rfl, rfl⟩))
    (fun os started H enc _ => lifted_noteKeeps os started H enc)
#print axioms noteKeeps_holds
end Go.Proofs.Ytjbkhnolnlcjnaa
