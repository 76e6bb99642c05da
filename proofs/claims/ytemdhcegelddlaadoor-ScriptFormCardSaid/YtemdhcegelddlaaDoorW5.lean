/- word.Right at this seat. -/
import Derived.Test.YtemdhcegelddlaaDoorW2
import Derived.BigRegion
import Derived.Deep.RegionHeld3
import Derived.Lib.AppendIntMem
import Derived.WalkSmall
namespace Go.Proofs.YtemdhcegelddlaaDoor
open Go Go.RowKit
set_option linter.unusedVariables false
set_option linter.unusedSimpArgs false

theorem below_drewN {B : Nat} {w x : World} (h : Below B w x) (n : Nat) : Below B w (x.drewN n) := ⟨h.os, h.tape, h.output, h.size, h.block⟩
theorem ret_int {k : IntKind} {a b : Int} (h : a = b) : Ending.returned (.int k a) = .returned (.int k b) := by rw [h]
def thr (t : Int) : Int := if t < 1 then 1 else if 256 < t then 256 else t
theorem thr_bd (t : Int) : 1 ≤ thr t ∧ thr t ≤ 256 := by unfold thr; split <;> (try split) <;> omega
def rightB (k o t : Int) : Bool := decide (((k = 2 ∨ k = 3) ∧ o = 0) ∨ ((k = 1 ∨ k = 4) ∧ 0 ≤ o ∧ o < thr t))
def fitsB (k o t : Int) : Bool := decide (((k ≠ 1 ∧ k ≠ 4) ∧ o = 0) ∨ ((k = 1 ∨ k = 4) ∧ 0 ≤ o ∧ o < t))
theorem box2 (w : World) (a b : Value) (t : TypeId) : Below w.heap.size w (w.alloc (.cells #[a, b] t)) := (Below.refl _ _).alloc (Nat.le_refl _) _
theorem held_call {n : Nat} {a b : Value} {W X w1 : World} (hS : X.cell? ⟨n, 0, none⟩ = some a ∧ X.cell? ⟨n, 1, none⟩ = some b ∧ n < X.heap.size ∧ Below n W X) (hb : Below X.heap.size X w1) :
    w1.cell? ⟨n, 0, none⟩ = some a ∧ w1.cell? ⟨n, 1, none⟩ = some b ∧ n < w1.heap.size ∧ Below n W w1 :=
  ⟨(hb.cell hS.2.2.1).trans hS.1, (hb.cell hS.2.2.1).trans hS.2.1, Nat.lt_of_lt_of_le hS.2.2.1 hb.size, hS.2.2.2.trans (hb.mono (Nat.le_of_lt hS.2.2.1))⟩
theorem held_box (w : World) (a b : Value) (t : TypeId) :
    (w.alloc (.cells #[a, b] t)).drew.cell? ⟨w.heap.size, 0, none⟩ = some a ∧ (w.alloc (.cells #[a, b] t)).drew.cell? ⟨w.heap.size, 1, none⟩ = some b ∧ w.heap.size < (w.alloc (.cells #[a, b] t)).drew.heap.size ∧ Below w.heap.size w (w.alloc (.cells #[a, b] t)).drew :=
  ⟨by simp, by simp, by simp, (box2 w a b t).drew⟩

theorem within_any (n : Int) (w : World) : Calls Tryd.prog 69 #[.int .i64 n] w fun e w' => e = .returned (.int .i64 (thr n)) ∧ w = w' := by
  by_cases h1 : n < 1
  · go_enter Tryd.func69, Tryd.ntmps69
    go_wp2
    all_goals (go_ret; exact ⟨ret_int (by unfold thr; rw [if_pos (by omega)]; omega), rfl⟩)
  · by_cases h2 : 256 < n
    · go_enter Tryd.func69, Tryd.ntmps69
      go_wp2
      all_goals (go_ret; exact ⟨ret_int (by unfold thr; rw [if_neg (by omega), if_pos (by omega)]; omega), rfl⟩)
    · go_enter Tryd.func69, Tryd.ntmps69
      go_wp2
      all_goals (go_ret; exact ⟨ret_int (by unfold thr; rw [if_neg (by omega), if_neg (by omega)]; omega), rfl⟩)
theorem who_any (k : Int) (w : World) : Calls Tryd.prog 83 #[.int .i64 k] w fun e w' => e = .returned (.bool (decide (k = 1 ∨ k = 4))) ∧ w = w' := by
  go_enter Tryd.func83, Tryd.ntmps83
  go_wp2
  all_goals (go_ret; exact ⟨ret_bool (by rw [Bool.eq_iff_iff]; simp [*]), rfl⟩)
theorem hasWho_any (k : Int) (w : World) : Calls Tryd.prog 53 #[.int .i64 k] w fun e w' => e = .returned (.bool (decide (k = 1 ∨ k = 4))) ∧ w = w' := by
  go_enter Tryd.func53, Tryd.ntmps53
  go_wp2
  all_goals (go_ret; exact ⟨ret_bool (by rw [Bool.eq_iff_iff]; simp [*]), rfl⟩)

theorem least_1 (w : World) (hT : Tab w) : Calls Tryd.prog 67 #[.int .i64 1] w fun e w' => e = .returned (.tuple #[.int .i64 0, .bool true]) ∧ w = w' := by
  have c0 := hT.c0; have c1 := hT.c1; have c2 := hT.c2; have c3 := hT.c3; have c4 := hT.c4; have c5 := hT.c5; have c6 := hT.c6; have c7 := hT.c7
  clear hT
  go_enter Tryd.func67, Tryd.ntmps67
  go_wp2
  go_rounds 9
  all_goals (go_ret2; exact ⟨rfl, rfl⟩)
theorem least_2 (w : World) (hT : Tab w) : Calls Tryd.prog 67 #[.int .i64 2] w fun e w' => e = .returned (.tuple #[.int .i64 4, .bool true]) ∧ w = w' := by
  have c0 := hT.c0; have c1 := hT.c1; have c2 := hT.c2; have c3 := hT.c3; have c4 := hT.c4; have c5 := hT.c5; have c6 := hT.c6; have c7 := hT.c7
  clear hT
  go_enter Tryd.func67, Tryd.ntmps67
  go_wp2
  go_rounds 9
  all_goals (go_ret2; exact ⟨rfl, rfl⟩)
theorem least_3 (w : World) (hT : Tab w) : Calls Tryd.prog 67 #[.int .i64 3] w fun e w' => e = .returned (.tuple #[.int .i64 5, .bool true]) ∧ w = w' := by
  have c0 := hT.c0; have c1 := hT.c1; have c2 := hT.c2; have c3 := hT.c3; have c4 := hT.c4; have c5 := hT.c5; have c6 := hT.c6; have c7 := hT.c7
  clear hT
  go_enter Tryd.func67, Tryd.ntmps67
  go_wp2
  go_rounds 9
  all_goals (go_ret2; exact ⟨rfl, rfl⟩)
theorem least_4 (w : World) (hT : Tab w) : Calls Tryd.prog 67 #[.int .i64 4] w fun e w' => e = .returned (.tuple #[.int .i64 6, .bool true]) ∧ w = w' := by
  have c0 := hT.c0; have c1 := hT.c1; have c2 := hT.c2; have c3 := hT.c3; have c4 := hT.c4; have c5 := hT.c5; have c6 := hT.c6; have c7 := hT.c7
  clear hT
  go_enter Tryd.func67, Tryd.ntmps67
  go_wp2
  go_rounds 9
  all_goals (go_ret2; exact ⟨rfl, rfl⟩)
theorem least_none (k : Int) (w : World) (hT : Tab w) (h1 : ((1 : Int) == k) = false) (h2 : ((2 : Int) == k) = false) (h3 : ((3 : Int) == k) = false) (h4 : ((4 : Int) == k) = false) : Calls Tryd.prog 67 #[.int .i64 k] w fun e w' => e = .returned (.tuple #[.int .i64 0, .bool false]) ∧ w = w' := by
  have c0 := hT.c0; have c1 := hT.c1; have c2 := hT.c2; have c3 := hT.c3; have c4 := hT.c4; have c5 := hT.c5; have c6 := hT.c6; have c7 := hT.c7
  clear hT
  go_enter Tryd.func67, Tryd.ntmps67
  go_wp2
  go_rounds 9
  all_goals (go_ret2; exact ⟨rfl, rfl⟩)

theorem fits_any (k o t : Int) (w : World) : Calls Tryd.prog 68 #[.agg #[.int .i64 k, .int .i64 o], .int .i64 t] w fun e w' => e = .returned (.bool (fitsB k o t)) ∧ Below w.heap.size w w' := by
  by_cases h : k = 1 ∨ k = 4
  · have hd : decide (k = 1 ∨ k = 4) = true := by simp [h]
    by_cases h0 : 0 ≤ o
    · have hf : fitsB k o t = decide (o < t) := by unfold fitsB; rw [decide_eq_decide]; omega
      rw [hf]
      clear h hf
      go_enter Tryd.func68, Tryd.ntmps68
      go_wp2_with (go_at_call 83; refine (who_any _ _).mono ?_; rintro e w' ⟨rfl, rfl⟩; simp only [hd])
      go_ret
      exact ⟨rfl, box2 _ _ _ _⟩
    · have hf : fitsB k o t = false := by unfold fitsB; rw [decide_eq_false_iff_not]; omega
      rw [hf]
      clear h hf
      go_enter Tryd.func68, Tryd.ntmps68
      go_wp2_with (go_at_call 83; refine (who_any _ _).mono ?_; rintro e w' ⟨rfl, rfl⟩; simp only [hd])
      go_ret
      exact ⟨rfl, box2 _ _ _ _⟩
  · have hd : decide (k = 1 ∨ k = 4) = false := by simpa using h
    have hf : fitsB k o t = (o == 0) := by unfold fitsB; rw [Bool.eq_iff_iff]; simp; omega
    rw [hf]
    clear h hf
    go_enter Tryd.func68, Tryd.ntmps68
    go_wp2_with (go_at_call 83; refine (who_any _ _).mono ?_; rintro e w' ⟨rfl, rfl⟩; simp only [hd])
    go_ret
    exact ⟨rfl, box2 _ _ _ _⟩

theorem right_none (k o t : Int) (w : World) (hT : Tab w) (h1 : ((1 : Int) == k) = false) (h2 : ((2 : Int) == k) = false) (h3 : ((3 : Int) == k) = false) (h4 : ((4 : Int) == k) = false) :
    Calls Tryd.prog 51 #[.agg #[.int .i64 k, .int .i64 o], .int .i64 t] w fun e w' => e = .returned (.bool false) ∧ Below w.heap.size w w' := by
  have hT1 := hT.below (box2 w (.int .i64 k) (.int .i64 o) 36) hT.size
  clear hT
  go_enter Tryd.func51, Tryd.ntmps51
  go_wp2_with fail
  go_at_call 67; refine (least_none k _ hT1 h1 h2 h3 h4).mono ?_; rintro e w1 ⟨rfl, rfl⟩
  go_wp2_with fail
  go_quiet (fail)
  go_wp2_with fail
  go_ret
  exact ⟨rfl, below_drewN (box2 _ _ _ _) _⟩

theorem right_1 (o t : Int) (w : World) (hT : Tab w) :
    Calls Tryd.prog 51 #[.agg #[.int .i64 1, .int .i64 o], .int .i64 t] w fun e w' => e = .returned (.bool (fitsB 1 o (thr t))) ∧ Below w.heap.size w w' := by
  have hT1 := hT.below (box2 w (.int .i64 1) (.int .i64 o) 36) hT.size
  have hH := held_box w (.int .i64 1) (.int .i64 o) 36
  clear hT
  go_enter Tryd.func51, Tryd.ntmps51
  go_wp2_with fail
  go_at_call 67; refine (least_1 _ hT1).mono ?_; rintro e w1 ⟨rfl, rfl⟩
  clear hT1
  go_wp2_with fail
  go_region_held3 (fun w' => w'.cell? ⟨w.heap.size, 0, none⟩ = some (.int .i64 1) ∧ w'.cell? ⟨w.heap.size, 1, none⟩ = some (.int .i64 o) ∧ w.heap.size < w'.heap.size ∧ Below w.heap.size w w') (first | exact hH | assumption | exact held_call ‹_› ‹_›)
    (first | (go_at_call 69; refine (within_any _ _).mono ?_; rintro e w' ⟨rfl, rfl⟩) | (go_at_call 68; refine (fits_any _ _ _ _).mono ?_; rintro e w' ⟨rfl, hbf⟩))
  have hE : Below w.heap.size w w' := by rename_i hz; exact hz.2.2.2
  go_wp2_with fail
  go_ret
  exact ⟨rfl, hE⟩

theorem right_2 (o t : Int) (w : World) (hT : Tab w) :
    Calls Tryd.prog 51 #[.agg #[.int .i64 2, .int .i64 o], .int .i64 t] w fun e w' => e = .returned (.bool (fitsB 2 o (thr t))) ∧ Below w.heap.size w w' := by
  have hT1 := hT.below (box2 w (.int .i64 2) (.int .i64 o) 36) hT.size
  have hH := held_box w (.int .i64 2) (.int .i64 o) 36
  clear hT
  go_enter Tryd.func51, Tryd.ntmps51
  go_wp2_with fail
  go_at_call 67; refine (least_2 _ hT1).mono ?_; rintro e w1 ⟨rfl, rfl⟩
  clear hT1
  go_wp2_with fail
  go_region_held3 (fun w' => w'.cell? ⟨w.heap.size, 0, none⟩ = some (.int .i64 2) ∧ w'.cell? ⟨w.heap.size, 1, none⟩ = some (.int .i64 o) ∧ w.heap.size < w'.heap.size ∧ Below w.heap.size w w') (first | exact hH | assumption | exact held_call ‹_› ‹_›)
    (first | (go_at_call 69; refine (within_any _ _).mono ?_; rintro e w' ⟨rfl, rfl⟩) | (go_at_call 68; refine (fits_any _ _ _ _).mono ?_; rintro e w' ⟨rfl, hbf⟩))
  have hE : Below w.heap.size w w' := by rename_i hz; exact hz.2.2.2
  go_wp2_with fail
  go_ret
  exact ⟨rfl, hE⟩

theorem right_3 (o t : Int) (w : World) (hT : Tab w) :
    Calls Tryd.prog 51 #[.agg #[.int .i64 3, .int .i64 o], .int .i64 t] w fun e w' => e = .returned (.bool (fitsB 3 o (thr t))) ∧ Below w.heap.size w w' := by
  have hT1 := hT.below (box2 w (.int .i64 3) (.int .i64 o) 36) hT.size
  have hH := held_box w (.int .i64 3) (.int .i64 o) 36
  clear hT
  go_enter Tryd.func51, Tryd.ntmps51
  go_wp2_with fail
  go_at_call 67; refine (least_3 _ hT1).mono ?_; rintro e w1 ⟨rfl, rfl⟩
  clear hT1
  go_wp2_with fail
  go_region_held3 (fun w' => w'.cell? ⟨w.heap.size, 0, none⟩ = some (.int .i64 3) ∧ w'.cell? ⟨w.heap.size, 1, none⟩ = some (.int .i64 o) ∧ w.heap.size < w'.heap.size ∧ Below w.heap.size w w') (first | exact hH | assumption | exact held_call ‹_› ‹_›)
    (first | (go_at_call 69; refine (within_any _ _).mono ?_; rintro e w' ⟨rfl, rfl⟩) | (go_at_call 68; refine (fits_any _ _ _ _).mono ?_; rintro e w' ⟨rfl, hbf⟩))
  have hE : Below w.heap.size w w' := by rename_i hz; exact hz.2.2.2
  go_wp2_with fail
  go_ret
  exact ⟨rfl, hE⟩

theorem right_4 (o t : Int) (w : World) (hT : Tab w) :
    Calls Tryd.prog 51 #[.agg #[.int .i64 4, .int .i64 o], .int .i64 t] w fun e w' => e = .returned (.bool (fitsB 4 o (thr t))) ∧ Below w.heap.size w w' := by
  have hT1 := hT.below (box2 w (.int .i64 4) (.int .i64 o) 36) hT.size
  have hH := held_box w (.int .i64 4) (.int .i64 o) 36
  clear hT
  go_enter Tryd.func51, Tryd.ntmps51
  go_wp2_with fail
  go_at_call 67; refine (least_4 _ hT1).mono ?_; rintro e w1 ⟨rfl, rfl⟩
  clear hT1
  go_wp2_with fail
  go_region_held3 (fun w' => w'.cell? ⟨w.heap.size, 0, none⟩ = some (.int .i64 4) ∧ w'.cell? ⟨w.heap.size, 1, none⟩ = some (.int .i64 o) ∧ w.heap.size < w'.heap.size ∧ Below w.heap.size w w') (first | exact hH | assumption | exact held_call ‹_› ‹_›)
    (first | (go_at_call 69; refine (within_any _ _).mono ?_; rintro e w' ⟨rfl, rfl⟩) | (go_at_call 68; refine (fits_any _ _ _ _).mono ?_; rintro e w' ⟨rfl, hbf⟩))
  have hE : Below w.heap.size w w' := by rename_i hz; exact hz.2.2.2
  go_wp2_with fail
  go_ret
  exact ⟨rfl, hE⟩

theorem right_any (k o t : Int) (w : World) (hT : Tab w) :
    Calls Tryd.prog 51 #[.agg #[.int .i64 k, .int .i64 o], .int .i64 t] w fun e w' => e = .returned (.bool (rightB k o t)) ∧ Below w.heap.size w w' := by
  have ht := thr_bd t
  by_cases h1 : k = 1
  · subst h1; have e : rightB 1 o t = fitsB 1 o (thr t) := by unfold rightB fitsB; rw [decide_eq_decide]; omega
    rw [e]; exact right_1 o t w hT
  by_cases h2 : k = 2
  · subst h2; have e : rightB 2 o t = fitsB 2 o (thr t) := by unfold rightB fitsB; rw [decide_eq_decide]; omega
    rw [e]; exact right_2 o t w hT
  by_cases h3 : k = 3
  · subst h3; have e : rightB 3 o t = fitsB 3 o (thr t) := by unfold rightB fitsB; rw [decide_eq_decide]; omega
    rw [e]; exact right_3 o t w hT
  by_cases h4 : k = 4
  · subst h4; have e : rightB 4 o t = fitsB 4 o (thr t) := by unfold rightB fitsB; rw [decide_eq_decide]; omega
    rw [e]; exact right_4 o t w hT
  have e : rightB k o t = false := by unfold rightB; rw [decide_eq_false_iff_not]; omega
  rw [e]
  exact right_none k o t w hT (by simpa using Ne.symm h1) (by simpa using Ne.symm h2) (by simpa using Ne.symm h3) (by simpa using Ne.symm h4)

/-- is the entry wrong? -/
theorem isWrong_any (k o : Int) (w : World) (hT : Tab w) : Calls Tryd.prog 31 #[.agg #[.int .i64 k, .int .i64 o]] w fun e w' => e = .returned (.bool (!rightB k o 256)) ∧ Below w.heap.size w w' := by
  have hT1 := hT.below (box2 w (.int .i64 k) (.int .i64 o) 36) hT.size
  clear hT
  go_enter Tryd.func31, Tryd.ntmps31
  go_wp2_with fail
  go_at_call 51
  refine (right_any k o 256 _ hT1).mono ?_
  rintro e w1 ⟨rfl, hb⟩
  go_wp2
  go_ret
  exact ⟨rfl, (box2 _ _ _ _).trans (hb.mono (by simp))⟩
end Go.Proofs.YtemdhcegelddlaaDoor
