/- The page's example of draws, walked; and the law DrawSkips. -/
import Derived.Test.YtlpfleefbngdaaaDraw3
namespace Go.Proofs.Ytlpfleefbngdaaa
open Go Go.RowKit
set_option linter.unusedVariables false
set_option linter.unusedSimpArgs false

def fa : Nat → Int := fun i => if i = 0 then 7 else 9

theorem awake_any (w : World) : Calls Try.prog 6 #[] w fun e w' => e = .returned (.bool true) ∧ Below w.heap.size w w' := by
  have hS : Hid (SeesU (w.alloc (.cells #[.int .u64 7, .int .u64 9] 35)) (w.alloc (.cells #[.int .u64 7, .int .u64 9] 35)).heap.size (some ⟨w.heap.size, 0, none⟩) 2 fa) := fun _ => by
    refine ⟨w.heap.size, 0, rfl, by simp, fun i hi => ?_⟩
    match i, hi with
    | 0, _ => simp [go_sem, fa]
    | 1, _ => simp [go_sem, fa]
  have hA : Hid (Below w.heap.size w (w.alloc (.cells #[.int .u64 7, .int .u64 9] 35))) := (Below.refl _ _).alloc (Nat.le_refl _) _
  go_enter Try.func6, Try.ntmps6
  go_wp2_with fail
  go_at_call 7; refine (new_any _ 2 2 fa _ (by omega) (fun h => by cases h) hS.out).mono ?_; rintro e w1 ⟨c, rfl, hC, hb, hc⟩
  have hB1 := hA.out.trans (hb.mono hA.out.size)
  have hc' : w.heap.size ≤ c := Nat.le_trans hA.out.size hc
  clear hb hc
  go_wp2_with fail
  go_at_call 12; refine (next_any _ _ c fa 2 0 hC (by omega) (by omega)).mono ?_; rintro e w2 ⟨rfl, hC2, hb2⟩; rw [show wordAt fa 2 0 = 7 from rfl]
  go_wp2_with fail
  go_at_call 13; refine (below_any _ _ c fa 2 1 4 hC2 (by omega) (by omega) (fun i hi => by unfold fa; split <;> omega) (by omega) (by omega)).mono ?_; rintro e w3 ⟨rfl, hC3, hb3⟩; rw [show wordAt fa 2 1 % 4 = 1 from rfl]
  go_wp2_with fail
  go_at_call 12; refine (next_any _ _ c fa 2 2 hC3 (by omega) (by omega)).mono ?_; rintro e w4 ⟨rfl, hC4, hb4⟩; rw [show wordAt fa 2 2 = 0 from rfl]
  go_wp2_with fail
  go_at_call 12; refine (next_any _ _ c fa 2 3 hC4 (by omega) (by omega)).mono ?_; rintro e w5 ⟨rfl, hC5, hb5⟩; rw [show wordAt fa 2 3 = 0 from rfl]
  go_wp2_with fail
  go_at_call 11; refine (told_any _ _ c fa 2 4 hC5).mono ?_; rintro e w6 ⟨rfl, rfl⟩
  have hE := hB1.trans ((((hb2.trans hb3).trans hb4).trans hb5).below hc' hB1.size)
  go_wp2_with fail
  go_ret
  exact ⟨rfl, hE⟩

end Go.Proofs.Ytlpfleefbngdaaa
