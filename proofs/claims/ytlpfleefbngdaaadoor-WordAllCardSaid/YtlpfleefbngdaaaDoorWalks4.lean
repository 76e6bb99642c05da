/- The contracts of word.Right and of the reference's Right. -/
import Derived.Test.YtlpfleefbngdaaaDoorWalks3
import Derived.Deep.RegionHeld3
namespace Go.Proofs.YtlpfleefbngdaaaDoor
open Go Go.RowKit
set_option linter.unusedSimpArgs false
set_option linter.unusedVariables false

/-- Two cells and all below them are kept over a call that makes memory. -/
theorem held_call {n : Nat} {a b : Value} {W X w1 : World} (hS : X.cell? ⟨n, 0, none⟩ = some a ∧ X.cell? ⟨n, 1, none⟩ = some b ∧ n < X.heap.size ∧ Below n W X) (hb : Below X.heap.size X w1) :
    w1.cell? ⟨n, 0, none⟩ = some a ∧ w1.cell? ⟨n, 1, none⟩ = some b ∧ n < w1.heap.size ∧ Below n W w1 :=
  ⟨(hb.cell (p := ⟨n, 0, none⟩) hS.2.2.1).trans hS.1, (hb.cell (p := ⟨n, 1, none⟩) hS.2.2.1).trans hS.2.1, Nat.lt_of_lt_of_le hS.2.2.1 hb.size, hS.2.2.2.trans (hb.mono (Nat.le_of_lt hS.2.2.1))⟩
theorem held_box (w : World) (a b : Value) (t : TypeId) :
    (w.alloc (.cells #[a, b] t)).drew.cell? ⟨w.heap.size, 0, none⟩ = some a ∧ (w.alloc (.cells #[a, b] t)).drew.cell? ⟨w.heap.size, 1, none⟩ = some b ∧ w.heap.size < (w.alloc (.cells #[a, b] t)).drew.heap.size ∧ Below w.heap.size w (w.alloc (.cells #[a, b] t)).drew :=
  ⟨by simp [go_sem], by simp [go_sem], by simp [go_sem], (box2 w a b t).drew⟩

theorem right_none (k o t : Int) (w : World) (hT : Tab w) (h1 : ((1 : Int) == k) = false) (h2 : ((2 : Int) == k) = false) (h3 : ((3 : Int) == k) = false) (h4 : ((4 : Int) == k) = false) :
    Calls Tryd.prog 12 #[.agg #[.int .i64 k, .int .i64 o], .int .i64 t] w fun e w' => e = .returned (.bool false) ∧ Below w.heap.size w w' := by
  have hT1 := hT.below (box2 w (.int .i64 k) (.int .i64 o) 27) hT.size
  go_enter Tryd.func12, Tryd.ntmps12
  go_wp2_with fail
  go_at_call 20; refine (least_none k _ hT1 h1 h2 h3 h4).mono ?_; rintro e w1 ⟨rfl, rfl⟩
  go_wp2_with fail
  go_quiet (fail)
  go_wp2_with fail
  go_ret
  exact ⟨rfl, Below.drewN' (box2 _ _ _ _) _⟩

theorem right_1 (o t : Int) (w : World) (hT : Tab w) :
    Calls Tryd.prog 12 #[.agg #[.int .i64 1, .int .i64 o], .int .i64 t] w fun e w' => e = .returned (.bool (fitsB 1 o (thr t))) ∧ Below w.heap.size w w' := by
  have hT1 := hT.below (box2 w (.int .i64 1) (.int .i64 o) 27) hT.size
  have hH := held_box w (.int .i64 1) (.int .i64 o) 27
  go_enter Tryd.func12, Tryd.ntmps12
  go_wp2_with fail
  go_at_call 20; refine (least_step1 _ hT1).mono ?_; rintro e w1 ⟨rfl, rfl⟩
  go_wp2_with fail
  go_region_held3 (fun w' => w'.cell? ⟨w.heap.size, 0, none⟩ = some (.int .i64 1) ∧ w'.cell? ⟨w.heap.size, 1, none⟩ = some (.int .i64 o) ∧ w.heap.size < w'.heap.size ∧ Below w.heap.size w w') (first | exact hH | assumption | exact held_call ‹_› ‹_›)
    (first | (go_at_call 18; refine (within_any _ _).mono ?_; rintro e w' ⟨rfl, rfl⟩) | (go_at_call 21; refine (fits_any _ _ _ _).mono ?_; rintro e w' ⟨rfl, hbf⟩))
  have hE : Below w.heap.size w w' := by rename_i hz; exact hz.2.2.2
  go_wp2_with fail
  go_ret
  exact ⟨rfl, hE⟩

theorem right_2 (o t : Int) (w : World) (hT : Tab w) :
    Calls Tryd.prog 12 #[.agg #[.int .i64 2, .int .i64 o], .int .i64 t] w fun e w' => e = .returned (.bool (fitsB 2 o (thr t))) ∧ Below w.heap.size w w' := by
  have hT1 := hT.below (box2 w (.int .i64 2) (.int .i64 o) 27) hT.size
  have hH := held_box w (.int .i64 2) (.int .i64 o) 27
  go_enter Tryd.func12, Tryd.ntmps12
  go_wp2_with fail
  go_at_call 20; refine (least_step2 _ hT1).mono ?_; rintro e w1 ⟨rfl, rfl⟩
  go_wp2_with fail
  go_region_held3 (fun w' => w'.cell? ⟨w.heap.size, 0, none⟩ = some (.int .i64 2) ∧ w'.cell? ⟨w.heap.size, 1, none⟩ = some (.int .i64 o) ∧ w.heap.size < w'.heap.size ∧ Below w.heap.size w w') (first | exact hH | assumption | exact held_call ‹_› ‹_›)
    (first | (go_at_call 18; refine (within_any _ _).mono ?_; rintro e w' ⟨rfl, rfl⟩) | (go_at_call 21; refine (fits_any _ _ _ _).mono ?_; rintro e w' ⟨rfl, hbf⟩))
  have hE : Below w.heap.size w w' := by rename_i hz; exact hz.2.2.2
  go_wp2_with fail
  go_ret
  exact ⟨rfl, hE⟩

theorem right_3 (o t : Int) (w : World) (hT : Tab w) :
    Calls Tryd.prog 12 #[.agg #[.int .i64 3, .int .i64 o], .int .i64 t] w fun e w' => e = .returned (.bool (fitsB 3 o (thr t))) ∧ Below w.heap.size w w' := by
  have hT1 := hT.below (box2 w (.int .i64 3) (.int .i64 o) 27) hT.size
  have hH := held_box w (.int .i64 3) (.int .i64 o) 27
  go_enter Tryd.func12, Tryd.ntmps12
  go_wp2_with fail
  go_at_call 20; refine (least_step3 _ hT1).mono ?_; rintro e w1 ⟨rfl, rfl⟩
  go_wp2_with fail
  go_region_held3 (fun w' => w'.cell? ⟨w.heap.size, 0, none⟩ = some (.int .i64 3) ∧ w'.cell? ⟨w.heap.size, 1, none⟩ = some (.int .i64 o) ∧ w.heap.size < w'.heap.size ∧ Below w.heap.size w w') (first | exact hH | assumption | exact held_call ‹_› ‹_›)
    (first | (go_at_call 18; refine (within_any _ _).mono ?_; rintro e w' ⟨rfl, rfl⟩) | (go_at_call 21; refine (fits_any _ _ _ _).mono ?_; rintro e w' ⟨rfl, hbf⟩))
  have hE : Below w.heap.size w w' := by rename_i hz; exact hz.2.2.2
  go_wp2_with fail
  go_ret
  exact ⟨rfl, hE⟩

theorem right_4 (o t : Int) (w : World) (hT : Tab w) :
    Calls Tryd.prog 12 #[.agg #[.int .i64 4, .int .i64 o], .int .i64 t] w fun e w' => e = .returned (.bool (fitsB 4 o (thr t))) ∧ Below w.heap.size w w' := by
  have hT1 := hT.below (box2 w (.int .i64 4) (.int .i64 o) 27) hT.size
  have hH := held_box w (.int .i64 4) (.int .i64 o) 27
  go_enter Tryd.func12, Tryd.ntmps12
  go_wp2_with fail
  go_at_call 20; refine (least_step4 _ hT1).mono ?_; rintro e w1 ⟨rfl, rfl⟩
  go_wp2_with fail
  go_region_held3 (fun w' => w'.cell? ⟨w.heap.size, 0, none⟩ = some (.int .i64 4) ∧ w'.cell? ⟨w.heap.size, 1, none⟩ = some (.int .i64 o) ∧ w.heap.size < w'.heap.size ∧ Below w.heap.size w w') (first | exact hH | assumption | exact held_call ‹_› ‹_›)
    (first | (go_at_call 18; refine (within_any _ _).mono ?_; rintro e w' ⟨rfl, rfl⟩) | (go_at_call 21; refine (fits_any _ _ _ _).mono ?_; rintro e w' ⟨rfl, hbf⟩))
  have hE : Below w.heap.size w w' := by rename_i hz; exact hz.2.2.2
  go_wp2_with fail
  go_ret
  exact ⟨rfl, hE⟩

theorem right_any (k o t : Int) (w : World) (hT : Tab w) :
    Calls Tryd.prog 12 #[.agg #[.int .i64 k, .int .i64 o], .int .i64 t] w fun e w' => e = .returned (.bool (rightB k o t)) ∧ Below w.heap.size w w' := by
  have ht := thr_bd t
  by_cases h1 : k = 1
  · subst h1; have e : rightB 1 o t = fitsB 1 o (thr t) := by unfold rightB fitsB; rw [decide_eq_decide]; omega
    rw [e]; exact right_1 o t w hT
  by_cases h2 : k = 2
  · subst h2; have e : rightB 2 o t = fitsB 2 o (thr t) := by unfold rightB fitsB; rw [decide_eq_decide]; omega
    rw [e]; exact right_2 o t w hT
  by_cases h3 : k = 3
  · subst h3; have e : rightB 3 o t = fitsB 3 o (thr t) := by unfold rightB fitsB; rw [decide_eq_decide]; omega
    rw [e]; exact right_3 o t w hT
  by_cases h4 : k = 4
  · subst h4; have e : rightB 4 o t = fitsB 4 o (thr t) := by unfold rightB fitsB; rw [decide_eq_decide]; omega
    rw [e]; exact right_4 o t w hT
  have e : rightB k o t = false := by unfold rightB; rw [decide_eq_false_iff_not]; omega
  rw [e]
  exact right_none k o t w hT (by simpa using Ne.symm h1) (by simpa using Ne.symm h2) (by simpa using Ne.symm h3) (by simpa using Ne.symm h4)

theorem refRight_2 (o t : Int) (w : World) :
    Calls Tryd.prog 14 #[.agg #[.int .i64 2, .int .i64 o], .int .i64 t] w fun e w' => e = .returned (.bool (o == 0)) ∧ Below w.heap.size w w' := by
  go_enter Tryd.func14, Tryd.ntmps14
  go_wp2_with fail
  go_ret
  exact ⟨rfl, by go_grown⟩

theorem refRight_3 (o t : Int) (w : World) :
    Calls Tryd.prog 14 #[.agg #[.int .i64 3, .int .i64 o], .int .i64 t] w fun e w' => e = .returned (.bool (o == 0)) ∧ Below w.heap.size w w' := by
  go_enter Tryd.func14, Tryd.ntmps14
  go_wp2_with fail
  go_ret
  exact ⟨rfl, by go_grown⟩

theorem refRight_none (k o t : Int) (w : World) (h1 : (k == 1) = false) (h2 : (k == 2) = false) (h3 : (k == 3) = false) (h4 : (k == 4) = false) :
    Calls Tryd.prog 14 #[.agg #[.int .i64 k, .int .i64 o], .int .i64 t] w fun e w' => e = .returned (.bool false) ∧ Below w.heap.size w w' := by
  go_enter Tryd.func14, Tryd.ntmps14
  go_wp2_with fail
  go_quiet (fail)
  go_wp2_with fail
  go_ret
  exact ⟨rfl, Below.drewN' (box2 _ _ _ _) _⟩

theorem refRight_1n (o t : Int) (w : World) (h : o < 0) :
    Calls Tryd.prog 14 #[.agg #[.int .i64 1, .int .i64 o], .int .i64 t] w fun e w' => e = .returned (.bool false) ∧ Below w.heap.size w w' := by
  have hd : decide (0 ≤ o) = false := by simp; omega
  go_enter Tryd.func14, Tryd.ntmps14
  go_wp2_with fail
  go_quiet (fail)
  go_wp2_with fail
  go_ret
  exact ⟨rfl, Below.drewN' (box2 _ _ _ _) _⟩

theorem refRight_1 (o t : Int) (w : World) (h : 0 ≤ o) :
    Calls Tryd.prog 14 #[.agg #[.int .i64 1, .int .i64 o], .int .i64 t] w fun e w' => e = .returned (.bool (decide (o < thr t))) ∧ Below w.heap.size w w' := by
  have hd : decide (0 ≤ o) = true := by simp; omega
  go_enter Tryd.func14, Tryd.ntmps14
  go_wp2_with fail
  go_quiet ((go_at_call 19; exact Calls.quiet_of_same ((threads_any _ _).mono fun _ _ h => ⟨h.1, h.2.symm⟩)))
  go_wp2_with fail
  go_ret
  exact ⟨rfl, Below.drewN' (box2 _ _ _ _) _⟩

theorem refRight_4n (o t : Int) (w : World) (h : o < 0) :
    Calls Tryd.prog 14 #[.agg #[.int .i64 4, .int .i64 o], .int .i64 t] w fun e w' => e = .returned (.bool false) ∧ Below w.heap.size w w' := by
  have hd : decide (0 ≤ o) = false := by simp; omega
  go_enter Tryd.func14, Tryd.ntmps14
  go_wp2_with fail
  go_quiet (fail)
  go_wp2_with fail
  go_ret
  exact ⟨rfl, Below.drewN' (box2 _ _ _ _) _⟩

theorem refRight_4 (o t : Int) (w : World) (h : 0 ≤ o) :
    Calls Tryd.prog 14 #[.agg #[.int .i64 4, .int .i64 o], .int .i64 t] w fun e w' => e = .returned (.bool (decide (o < thr t))) ∧ Below w.heap.size w w' := by
  have hd : decide (0 ≤ o) = true := by simp; omega
  go_enter Tryd.func14, Tryd.ntmps14
  go_wp2_with fail
  go_quiet ((go_at_call 19; exact Calls.quiet_of_same ((threads_any _ _).mono fun _ _ h => ⟨h.1, h.2.symm⟩)))
  go_wp2_with fail
  go_ret
  exact ⟨rfl, Below.drewN' (box2 _ _ _ _) _⟩

theorem refRight_any (k o t : Int) (w : World) :
    Calls Tryd.prog 14 #[.agg #[.int .i64 k, .int .i64 o], .int .i64 t] w fun e w' => e = .returned (.bool (rightB k o t)) ∧ Below w.heap.size w w' := by
  have ht := thr_bd t
  by_cases h2 : k = 2
  · subst h2; have e : rightB 2 o t = (o == 0) := by unfold rightB; rw [Bool.eq_iff_iff]; simp
    rw [e]; exact refRight_2 o t w
  by_cases h3 : k = 3
  · subst h3; have e : rightB 3 o t = (o == 0) := by unfold rightB; rw [Bool.eq_iff_iff]; simp
    rw [e]; exact refRight_3 o t w
  by_cases h1 : k = 1
  · subst h1
    by_cases h0 : 0 ≤ o
    · have e : rightB 1 o t = decide (o < thr t) := by unfold rightB; rw [decide_eq_decide]; omega
      rw [e]; exact refRight_1 o t w h0
    · have e : rightB 1 o t = false := by unfold rightB; rw [decide_eq_false_iff_not]; omega
      rw [e]; exact refRight_1n o t w (by omega)
  by_cases h4 : k = 4
  · subst h4
    by_cases h0 : 0 ≤ o
    · have e : rightB 4 o t = decide (o < thr t) := by unfold rightB; rw [decide_eq_decide]; omega
      rw [e]; exact refRight_4 o t w h0
    · have e : rightB 4 o t = false := by unfold rightB; rw [decide_eq_false_iff_not]; omega
      rw [e]; exact refRight_4n o t w (by omega)
  have e : rightB k o t = false := by unfold rightB; rw [decide_eq_false_iff_not]; omega
  rw [e]
  exact refRight_none k o t w (by simpa using h1) (by simp; omega) (by simp; omega) (by simpa using h4)

end Go.Proofs.YtlpfleefbngdaaaDoor
