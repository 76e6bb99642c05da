/- HandGives: a processor that is handed over is given to a thread, or lies on the list; for every config, processor and what is there; no condition. -/
import Derived.Test.YtfdpikkinlljlaaGreatHQB
import Derived.Test.YtfdpikkinlljlaaGreatHMAS
import Derived.Test.YtfdpikkinlljlaaGreatHMAA
import Derived.Test.YtfdpikkinlljlaaGreatHQA
import Derived.Test.YtfdpikkinlljlaaGreatHMAC
import Derived.ProofKit
import Derived.OpenShut
import Derived.Lib.SmallJoins
namespace Go.Proofs.YtfdpikkinlljlaaGreat
open Go Go.RowKit
set_option linter.unusedVariables false
set_option maxRecDepth 100000
set_option linter.unusedSimpArgs false

set_option maxHeartbeats 8000000 in
theorem handGives_bad (P T G p : Int) (x0 x1 x2 x3 x4 : Bool) (w : World) (h : ¬ ((2 ≤ P ∧ P ≤ 4) ∧ (P ≤ T ∧ T ≤ 8) ∧ 0 ≤ p ∧ p < P)) :
    Calls Tryz.prog 6 #[.agg #[.int .i64 P, .int .i64 T, .int .i64 G], .int .i64 p, .agg #[.bool x0, .bool x1, .bool x2, .bool x3, .bool x4]] w fun e w' => e = .returned (.bool true) ∧ Below w.heap.size w w' := by
  have hb0 : Hid (Below w.heap.size w ((w.alloc (.cells #[.int .i64 P, .int .i64 T, .int .i64 G] 23)).alloc (.cells #[.bool x0, .bool x1, .bool x2, .bool x3, .bool x4] 77))) := ((Below.refl _ _).alloc (Nat.le_refl _) _).alloc (by simp) _
  have hAw := hand_awake ((w.alloc (.cells #[.int .i64 P, .int .i64 T, .int .i64 G] 23)).alloc (.cells #[.bool x0, .bool x1, .bool x2, .bool x3, .bool x4] 77))
  rcases (by omega : P < 2 ∨ (¬ P < 2 ∧ 4 < P) ∨ (¬ P < 2 ∧ ¬ 4 < P ∧ T < P) ∨ (¬ P < 2 ∧ ¬ 4 < P ∧ ¬ T < P ∧ 8 < T) ∨ (¬ P < 2 ∧ ¬ 4 < P ∧ ¬ T < P ∧ ¬ 8 < T ∧ p < 0) ∨ (¬ P < 2 ∧ ¬ 4 < P ∧ ¬ T < P ∧ ¬ 8 < T ∧ ¬ p < 0 ∧ P ≤ p)) with d1 | ⟨d1, d2⟩ | ⟨d1, d2, d3⟩ | ⟨d1, d2, d3, d4⟩ | ⟨d1, d2, d3, d4, d5⟩ | ⟨d1, d2, d3, d4, d5, d6⟩
  all_goals
    clear h
    go_enter Tryz.func6, Tryz.ntmps6
    go_wp2_with fail
    go_at_call 33; refine hAw.mono ?_; rintro e w9 ⟨rfl, hb9⟩
    have HB : Hid (Below w.heap.size w w9) := seq hb0.out hb9
    clear hAw hb0 hb9
    go_wp2_with fail
    go_ret
    exact ⟨rfl, HB.out⟩
theorem handGives_walk (P T G p : Int) (x0 x1 x2 x3 x4 : Bool) (w : World) :
    Calls Tryz.prog 6 #[.agg #[.int .i64 P, .int .i64 T, .int .i64 G], .int .i64 p, .agg #[.bool x0, .bool x1, .bool x2, .bool x3, .bool x4]] w fun e w' => e = .returned (.bool true) ∧ Below w.heap.size w w' := by
  by_cases h : (2 ≤ P ∧ P ≤ 4) ∧ (P ≤ T ∧ T ≤ 8) ∧ 0 ≤ p ∧ p < P
  · exact handGives_ok P T G p x0 x1 x2 x3 x4 w h.1 h.2.1 h.2.2
  · exact handGives_bad P T G p x0 x1 x2 x3 x4 w h
end Go.Proofs.YtfdpikkinlljlaaGreat

namespace Go.Proofs.YtfdpikkinlljlaaGreat
open Go Go.ChangeShapes Go.WideShapes Go.ChangeAt Go.RowKit Go.Joins
set_option linter.unusedVariables false
set_option linter.unusedSimpArgs false

theorem own_handGives : ownKnob Tryz.prog.godebug = none := by kernel_rfl
theorem laidOut_handGives : laidOutB Tryz.prog = true := by kernel_rfl

set_option maxRecDepth 100000 in
theorem lifted_handGives (os : Os) (started : os.Started) (H : Type) (enc : TypeId × Value → H) :
    ReturnsInHanded {} Tryz.checked os 6 .any (Rows.handGivesSpec.pre6 enc Tryz.prog Tryz.f6 Rows.handGivesRow.domain false) (Rows.handGivesSpec.post enc Tryz.prog Tryz.f6 false true false false) := by
  refine returnsInHanded_of_change (C := Tryz.checked) own_handGives started (by kernel_rfl) Tryz.func6
    (ChangeSpec.witness6 (enc := enc) (C := Tryz.checked) false ⟨#[], #[.agg #[.int .i64 0, .int .i64 0, .int .i64 0], .int .i64 0, .agg #[.bool false, .bool false, .bool false, .bool false, .bool false]], []⟩ 8 (by kernel_rfl) (by kernel_rfl) (by kernel_rfl) (by kernel_rfl)) ?_
  intro W base args ds gs before hval0 hW hcnd _
  have hval : ∀ (j : Nat) t v, Tryz.f6.params[j]? = some t → args[j]? = some v → Value.okWide Tryz.prog W .any base t v := hval0
  have hW' := hW
  obtain ⟨p, q, hA0, hV, rfl, hfz, hnd⟩ := hW
  have hA : DataW.TrodAll enc Tryz.prog W 0 (fun _ => true) true Tryz.f6.params.toList args.toList ds p := hA0
  rw [Tryz.params6] at hA hval
  obtain ⟨v0, vs0, d0, ds0, p0, q0, hargs, rfl, rfl, h0, r0⟩ := trodAll_cons hA
  obtain ⟨v1, vs1, d1, ds1, p1, q1, rfl, rfl, rfl, h1, r1⟩ := trodAll_cons r0
  obtain ⟨v2, vs2, d2, ds2, p2, q2, rfl, rfl, rfl, h2, r2⟩ := trodAll_cons r1
  obtain ⟨rfl, rfl, rfl⟩ := trodAll_nil r2
  obtain rfl : args = #[v0, v1, v2] := by cases args; simp_all
  obtain ⟨P, T, G, rfl, cx0, cx1, cx2⟩ := open_cfg Tryz.underlying23 (by kernel_rfl) (by kernel_rfl) Tryz.underlying3 Tryz.underlying3 Tryz.underlying3 (hval 0 23 v0 rfl rfl) h0
  obtain ⟨p, rfl, rfl, rfl, wxp⟩ := open_int Tryz.underlying3 (hval 1 3 v1 rfl rfl) h1
  obtain ⟨x0, x1, x2, x3, x4, rfl⟩ := open_bools5 Tryz.underlying77 Tryz.underlying4 (by kernel_rfl) (by kernel_rfl) (hval 2 77 v2 rfl rfl) h2
  clear hA0 hval0
  refine (handGives_walk P T G p x0 x1 x2 x3 x4 W).mono fun e W' ⟨he, hb⟩ => ?_
  subst he
  exact ⟨_, rfl, law_post laidOut_handGives rfl Tryz.underlying4 (by kernel_rfl) rfl rfl rfl rfl hW' hb⟩

theorem handGives_jlaid : laidOutB Tryz.pinned.checked.prog = true := by kernel_rfl
theorem handGives_jmaps : mapsRowed Tryz.pinned.checked.prog = true := by kernel_rfl
theorem handGives_jinp : (Rows.handGivesRow.inPlace == Tryz.pinned.checked.prog.inPlace 6) = true := by kernel_rfl
theorem handGives_junf : (Rows.handGivesRow.unfollowed == Tryz.pinned.checked.prog.unfollowed 6) = true := by kernel_rfl
theorem handGives_jrec : (Rows.handGivesRow.recurses == Tryz.pinned.checked.prog.recurses 6) = true := by kernel_rfl
theorem handGives_jnam : (Rows.handGivesRow.named == Tryz.pinned.checked.prog.varsNamed 6) = true := by kernel_rfl
theorem handGives_closed : joinedFacts Tryz.pinned.checked.prog 6 Tryz.f6 Rows.handGivesSpec Rows.handGivesRow = true := by
  unfold joinedFacts
  rw [handGives_jlaid, handGives_jmaps, handGives_jinp, handGives_junf, handGives_jrec, handGives_jnam]
  kernel_rfl
theorem handGives_holds : Rows.HandGivesSaid :=
  OpenClaim.holds_of_wide 6 Tryz.f6 rfl rfl rfl rfl rfl rfl rfl ⟨rfl, rfl, rfl, rfl, rfl⟩ rfl rfl rfl rfl rfl (by kernel_rfl) Tryz.func6 handGives_closed
    (of_decide_eq_true (by kernel_rfl)) (by unfold Func.isWrapper; first | (rw [if_pos (by decide +kernel)]; kernel_rfl) | (rw [if_neg (by decide +kernel)]; exact ⟨rfl, rfl⟩))
    (fun os started H enc _ => lifted_handGives os started H enc)
#print axioms handGives_holds
end Go.Proofs.YtfdpikkinlljlaaGreat
