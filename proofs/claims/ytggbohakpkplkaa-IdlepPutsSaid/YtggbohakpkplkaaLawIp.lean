/- IdlepPuts: each step of putting a processor on the list, over any memory, whatever others do between: its access, until when it is held; no machine; for every ground, every thread and processor, and all pokes; no condition. -/
import Derived.Test.YtggbohakpkplkaaIpW
import Derived.Test.YtggbohakpkplkaaIpAw
import Derived.Test.YtggbohakpkplkaaOpen
import Derived.Test.YtggbohakpkplkaaFrame
import Derived.ProofKit
import Derived.OpenShut
import Derived.Lib.SmallJoins
namespace Go.Proofs.Ytggbohakpkplkaa
open Go Go.ChangeShapes Go.WideShapes Go.ChangeAt Go.RowKit Go.Joins
set_option linter.unusedVariables false
set_option linter.unusedSimpArgs false

theorem own_idlepPuts : ownKnob Try.prog.godebug = none := by kernel_rfl
theorem laidOut_idlepPuts : laidOutB Try.prog = true := by kernel_rfl

set_option maxRecDepth 100000 in
theorem lifted_idlepPuts (os : Os) (started : os.Started) (H : Type) (enc : TypeId × Value → H) :
    ReturnsInHanded {} Try.checked os 3 .any (Rows.idlepPutsSpec.pre6 enc Try.prog Try.f3 Rows.idlepPutsRow.domain false) (Rows.idlepPutsSpec.post enc Try.prog Try.f3 false true false false) := by
  refine returnsInHanded_of_change (C := Try.checked) own_idlepPuts started (by kernel_rfl) Try.func3
    (ChangeSpec.witness6 (enc := enc) (C := Try.checked) false ⟨#[], #[.agg #[.int .i64 0, .int .i64 0, .int .i64 0, .slice none 0 0], .agg #[.int .i64 0, .int .i64 0], .slice none 0 0], []⟩ 8 (by kernel_rfl) (by kernel_rfl) (by kernel_rfl) (by kernel_rfl)) ?_
  intro W base args ds gs before hval0 hW hcnd _
  have hval : ∀ (j : Nat) t v, Try.f3.params[j]? = some t → args[j]? = some v → Value.okWide Try.prog W .any base t v := hval0
  have hW' := hW
  obtain ⟨p, q, hA0, hV, rfl, hfz, hnd⟩ := hW
  have hA : DataW.TrodAll enc Try.prog W 0 (fun _ => true) true Try.f3.params.toList args.toList ds p := hA0
  rw [Try.params3] at hA hval
  obtain ⟨v0, vs0, d0, ds0, p0, q0, hargs, rfl, rfl, h0, r0⟩ := trodAll_cons hA
  obtain ⟨v1, vs1, d1, ds1, p1, q1, rfl, rfl, rfl, h1, r1⟩ := trodAll_cons r0
  obtain ⟨v2, vs2, d2, ds2, p2, q2, rfl, rfl, rfl, h2, r2⟩ := trodAll_cons r1
  obtain ⟨rfl, rfl, rfl⟩ := trodAll_nil r2
  obtain rfl : args = #[v0, v1, v2] := by cases args; simp_all
  obtain ⟨P, T, G, E, m, cp, a, x, rfl, hm, hs, hx⟩ := open_ground (hval 0 26 v0 rfl rfl) h0
  unfold maxLen at hm
  obtain ⟨x0, x1, rfl, bx0, bx1⟩ := open_two Try.underlying27 Try.underlying3 (by kernel_rfl) (by kernel_rfl) (hval 1 27 v1 rfl rfl) h1
  obtain ⟨F, mp, cq, Pks, rfl, hmp, hP, hpv⟩ := open_pokes (hval 2 28 v2 rfl rfl) h2
  unfold maxLen at hmp
  clear hA0 hval0
  refine (idlepPuts_walk P T G x0 x1 E F m cp mp cq a x Pks W idlep_awake (by omega) (by omega) hs hx hP hpv).mono fun e W' ⟨he, hb⟩ => ?_
  subst he
  exact ⟨_, rfl, law_post laidOut_idlepPuts rfl Try.underlying4 (by kernel_rfl) rfl rfl rfl rfl hW' hb⟩

theorem idlepPuts_holds : Rows.IdlepPutsSaid :=
  OpenClaim.holds_of_wide 3 Try.f3 rfl rfl rfl rfl rfl rfl rfl ⟨rfl, rfl, rfl, rfl, rfl⟩ rfl rfl rfl rfl rfl (by kernel_rfl) Try.func3 (by kernel_rfl)
    (of_decide_eq_true (by kernel_rfl)) (by unfold Func.isWrapper; first | (rw [if_pos (by decide +kernel)]; kernel_rfl) | (rw [if_neg (by decide +kernel)]; exact ⟨rfl, rfl⟩))
    (fun os started H enc _ => lifted_idlepPuts os started H enc)
#print axioms idlepPuts_holds
end Go.Proofs.Ytggbohakpkplkaa
