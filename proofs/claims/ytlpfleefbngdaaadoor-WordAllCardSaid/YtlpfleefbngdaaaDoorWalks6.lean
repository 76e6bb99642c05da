/- The walks of the laws WordReads and WordWrites. -/
import Derived.Test.YtlpfleefbngdaaaDoorWalks5
import Derived.Deep.RegionHeld3
namespace Go.Proofs.YtlpfleefbngdaaaDoor
open Go Go.RowKit
set_option linter.unusedSimpArgs false
set_option linter.unusedVariables false

theorem held_tab {n : Nat} {a b : Value} {W X : World} (hT : Tab W) (hn : 0 < n) (hS : X.cell? ⟨n, 0, none⟩ = some a ∧ X.cell? ⟨n, 1, none⟩ = some b ∧ n < X.heap.size ∧ Below n W X) : Tab X :=
  hT.below hS.2.2.2 hn

theorem held_drew {n : Nat} {a b : Value} {W X : World} (hS : X.cell? ⟨n, 0, none⟩ = some a ∧ X.cell? ⟨n, 1, none⟩ = some b ∧ n < X.heap.size ∧ Below n W X) :
    X.drew.cell? ⟨n, 0, none⟩ = some a ∧ X.drew.cell? ⟨n, 1, none⟩ = some b ∧ n < X.drew.heap.size ∧ Below n W X.drew := ⟨hS.1, hS.2.1, hS.2.2.1, hS.2.2.2.drew⟩
theorem held_drewN {n : Nat} {a b : Value} {W X : World} (m : Nat) (hS : X.cell? ⟨n, 0, none⟩ = some a ∧ X.cell? ⟨n, 1, none⟩ = some b ∧ n < X.heap.size ∧ Below n W X) :
    (X.drewN m).cell? ⟨n, 0, none⟩ = some a ∧ (X.drewN m).cell? ⟨n, 1, none⟩ = some b ∧ n < (X.drewN m).heap.size ∧ Below n W (X.drewN m) := ⟨hS.1, hS.2.1, hS.2.2.1, Below.drewN' hS.2.2.2 _⟩

theorem wordReads_walk (x t : Int) (w : World) (hT : Tab w) (x0 : 0 ≤ x) (x1 : x ≤ 18446744073709551615) :
    Calls Tryd.prog 4 #[.int .u64 x, .int .i64 t] w fun e w' => e = .returned (.bool true) ∧ Below w.heap.size w w' := by
  have hsz := hT.size
  have HR : Hid (rightB (kindV x) (whoV x t) t = true) := right_word x t
  have HC : Hid (∀ w, Calls Tryd.prog 11 #[.int .u64 x, .int .i64 t] w fun e w' => e = .returned (.agg #[.int .i64 (kindV x), .int .i64 (whoV x t)]) ∧ Below w.heap.size w w') := fun w => refRead_any x t w x0 x1
  have HD : Hid (Calls Tryd.prog 10 #[.int .u64 x, .int .i64 t] w fun e w' => e = .returned (.agg #[.int .i64 (kindV x), .int .i64 (whoV x t)]) ∧ Below w.heap.size w w') := read_any x t w hT x0 x1
  generalize kindV x = k at HR HC HD
  generalize whoV x t = o at HR HC HD
  go_enter Tryd.func4, Tryd.ntmps4
  go_wp2_with fail
  go_at_call 10; refine HD.out.mono ?_; rintro e w1 ⟨rfl, hb1⟩
  go_wp2_with fail
  have hH := held_box w1 (.int .i64 k) (.int .i64 o) 27
  have hT1 := hT.below hb1 hsz
  have hs1 := hT1.size
  go_region_held3 (fun w' => w'.cell? ⟨w1.heap.size, 0, none⟩ = some (.int .i64 k) ∧ w'.cell? ⟨w1.heap.size, 1, none⟩ = some (.int .i64 o) ∧ w1.heap.size < w'.heap.size ∧ Below w1.heap.size w1 w') (first | exact hH | assumption | exact held_call ‹_› ‹_›)
    (first | (go_at_call 7; refine (awake_any _ (held_tab hT1 hs1 ‹_›)).mono ?_; rintro e w' ⟨rfl, hbf⟩) | (go_at_call 11; refine (HC.out _).mono ?_; rintro e w' ⟨rfl, hbf⟩) | (go_at_call 12; refine (right_any _ _ _ _ (held_tab hT1 hs1 ‹_›)).mono ?_; rintro e w' ⟨rfl, hbf⟩; rw [HR.out]))
  have hE : Below w.heap.size w w' := by rename_i hz; exact hb1.trans (hz.2.2.2.mono hb1.size)
  go_wp2_with fail
  go_ret
  exact ⟨rfl, hE⟩

theorem wordWrites_none (k o y : Int) (w : World) (hT : Tab w) (hk : k < 1 ∨ 4 < k) :
    Calls Tryd.prog 5 #[.agg #[.int .i64 k, .int .i64 o], .int .u64 y] w fun e w' => e = .returned (.bool true) ∧ Below w.heap.size w w' := by
  have hsz := hT.size
  have h1 : ((1 : Int) == k) = false := by simp; omega
  have h2 : ((2 : Int) == k) = false := by simp; omega
  have h3 : ((3 : Int) == k) = false := by simp; omega
  have h4 : ((4 : Int) == k) = false := by simp; omega
  have HW : Hid (∀ w, Tab w → Calls Tryd.prog 13 #[.agg #[.int .i64 k, .int .i64 o]] w fun e w' => e = .returned (.tuple #[.int .u64 0, .int .i64 1]) ∧ Below w.heap.size w w') := fun w hT => write_none k o w hT h1 h2 h3 h4
  clear h1 h2 h3 h4
  have hB := box2 w (.int .i64 k) (.int .i64 o) 27
  have hT0 := hT.below hB hsz
  rcases hk with hk | hk
  all_goals
    go_enter Tryd.func5, Tryd.ntmps5
    go_wp2_with fail
    go_at_call 13; refine (HW.out _ hT0).mono ?_; rintro e w1 ⟨rfl, hb1⟩
    have hc0 : w1.cell? ⟨w.heap.size, 0, none⟩ = some (.int .i64 k) := by
      rw [hb1.cell (p := ⟨w.heap.size, 0, none⟩) (by simp [go_sem])]; simp [go_sem]
    have hB1 := hB.trans (hb1.mono hB.size)
    have hT1 := hT.below hB1 hsz
    go_wp2_with fail
    go_at_call 7; refine (awake_any _ hT1).mono ?_; rintro e w2 ⟨rfl, hb2⟩
    have hB2 := hB1.trans (hb2.mono hB1.size)
    go_wp2_with fail
    go_ret
    exact ⟨rfl, hB2⟩

theorem wordWrites_far (k o y : Int) (w : World) (hT : Tab w) (hk1 : 1 ≤ k) (hk4 : k ≤ 4)
    (HW : Hid (∀ w, Tab w → Calls Tryd.prog 13 #[.agg #[.int .i64 k, .int .i64 o]] w fun e w' => e = .returned (.tuple #[.int .u64 0, .int .i64 5]) ∧ Below w.heap.size w w')) (HR : Hid (rightB k o 256 = false)) :
    Calls Tryd.prog 5 #[.agg #[.int .i64 k, .int .i64 o], .int .u64 y] w fun e w' => e = .returned (.bool true) ∧ Below w.heap.size w w' := by
  have hsz := hT.size
  have hB := box2 w (.int .i64 k) (.int .i64 o) 27
  have hT0 := hT.below hB hsz
  go_enter Tryd.func5, Tryd.ntmps5
  go_wp2_with fail
  go_at_call 13; refine (HW.out _ hT0).mono ?_; rintro e w1 ⟨rfl, hb1⟩
  have hc0 : w1.cell? ⟨w.heap.size, 0, none⟩ = some (.int .i64 k) := by
    rw [hb1.cell (p := ⟨w.heap.size, 0, none⟩) (by simp [go_sem])]; simp [go_sem]
  have hc1 : w1.cell? ⟨w.heap.size, 1, none⟩ = some (.int .i64 o) := by
    rw [hb1.cell (p := ⟨w.heap.size, 1, none⟩) (by simp [go_sem])]; simp [go_sem]
  have hB1 := hB.trans (hb1.mono hB.size)
  have hT1 := hT.below hB1 hsz
  go_wp2_with fail
  go_at_call 14; refine (refRight_any _ _ _ _).mono ?_; rintro e w2 ⟨rfl, hb2⟩; rw [HR.out]
  have hB2 := hB1.trans (hb2.mono hB1.size)
  have hT2 := hT.below hB2 hsz
  go_wp2_with fail
  go_at_call 7; refine (awake_any _ hT2).mono ?_; rintro e w3 ⟨rfl, hb3⟩
  have hB3 := hB2.trans (hb3.mono hB2.size)
  go_wp2_with fail
  go_ret
  exact ⟨rfl, hB3⟩

theorem wordWrites_ok (k o y X : Int) (w : World) (hT : Tab w) (hk1 : 1 ≤ k) (hk4 : k ≤ 4) (y0 : 0 ≤ y) (y1 : y ≤ 18446744073709551615) (X0 : 0 ≤ X) (X1 : X ≤ 18446744073709551615) (k' o' : Int)
    (HW : Hid (∀ w, Tab w → Calls Tryd.prog 13 #[.agg #[.int .i64 k, .int .i64 o]] w fun e w' => e = .returned (.tuple #[.int .u64 X, .int .i64 0]) ∧ Below w.heap.size w w')) (HR : Hid (rightB k o 256 = true))
    (HE : Hid (∀ w, Tab w → Calls Tryd.prog 10 #[.int .u64 X, .int .i64 256] w fun e w' => e = .returned (.agg #[.int .i64 k, .int .i64 o]) ∧ Below w.heap.size w w'))
    (HF : Hid (∀ w, Calls Tryd.prog 11 #[.int .u64 y, .int .i64 256] w fun e w' => e = .returned (.agg #[.int .i64 k', .int .i64 o']) ∧ Below w.heap.size w w'))
    (HM : Hid (y < X → (k' == k) = false ∨ (o' == o) = false)) :
    Calls Tryd.prog 5 #[.agg #[.int .i64 k, .int .i64 o], .int .u64 y] w fun e w' => e = .returned (.bool true) ∧ Below w.heap.size w w' := by
  have hsz := hT.size
  have hB := box2 w (.int .i64 k) (.int .i64 o) 27
  have hT0 := hT.below hB hsz
  go_enter Tryd.func5, Tryd.ntmps5
  go_wp2_with fail
  go_at_call 13; refine (HW.out _ hT0).mono ?_; rintro e w1 ⟨rfl, hb1⟩
  have hc0 : w1.cell? ⟨w.heap.size, 0, none⟩ = some (.int .i64 k) := by
    rw [hb1.cell (p := ⟨w.heap.size, 0, none⟩) (by simp [go_sem])]; simp [go_sem]
  have hc1 : w1.cell? ⟨w.heap.size, 1, none⟩ = some (.int .i64 o) := by
    rw [hb1.cell (p := ⟨w.heap.size, 1, none⟩) (by simp [go_sem])]; simp [go_sem]
  have hn1 : w.heap.size < w1.heap.size := Nat.lt_of_lt_of_le (by simp [go_sem]) hb1.size
  have hB1 := hB.trans (hb1.mono hB.size)
  have hT1 := hT.below hB1 hsz
  go_wp2_with fail
  go_at_call 14; refine (refRight_any _ _ _ _).mono ?_; rintro e w2 ⟨rfl, hb2⟩; rw [HR.out]
  have hS2 := held_call ⟨hc0, hc1, hn1, hB1⟩ hb2
  clear hc0 hc1
  go_wp2_with fail
  have hS2d := held_drew hS2
  by_cases hlt : y < X
  · have hm := HM.out hlt
    rcases hm with hm | hm
    all_goals
      go_region_held3 (fun w' => w'.cell? ⟨w.heap.size, 0, none⟩ = some (.int .i64 k) ∧ w'.cell? ⟨w.heap.size, 1, none⟩ = some (.int .i64 o) ∧ w.heap.size < w'.heap.size ∧ Below w.heap.size w w') (first | exact hS2d | assumption | exact held_call ‹_› ‹_›) (first | (go_at_call 11; refine (HF.out _).mono ?_; rintro e w' ⟨rfl, hbf⟩))
      all_goals
        rename_i hS3
        have hS3d := held_drew hS3
        go_wp2_with fail
        go_region_held3 (fun w' => w'.cell? ⟨w.heap.size, 0, none⟩ = some (.int .i64 k) ∧ w'.cell? ⟨w.heap.size, 1, none⟩ = some (.int .i64 o) ∧ w.heap.size < w'.heap.size ∧ Below w.heap.size w w') (first | exact hS3d | assumption | exact held_call ‹_› ‹_›) (first | (go_at_call 7; refine (awake_any _ (held_tab hT hsz ‹_›)).mono ?_; rintro e w' ⟨rfl, hbf⟩) | (go_at_call 10; refine (HE.out _ (held_tab hT hsz ‹_›)).mono ?_; rintro e w' ⟨rfl, hbf⟩))
        all_goals
          rename_i hS4
          have hE := hS4.2.2.2
          clear hS4
          go_wp2_with fail
          go_ret
          exact ⟨rfl, hE⟩
  · have hd : decide (y < X) = false := by simpa using hlt
    go_quiet (fail)
    have hS3d := held_drew (held_drewN nq hS2)
    have hS3 := held_drewN nq hS2
    clear hS2 hS2d
    go_wp2_with fail
    go_region_held3 (fun w' => w'.cell? ⟨w.heap.size, 0, none⟩ = some (.int .i64 k) ∧ w'.cell? ⟨w.heap.size, 1, none⟩ = some (.int .i64 o) ∧ w.heap.size < w'.heap.size ∧ Below w.heap.size w w') (first | exact hS3d | assumption | exact held_call ‹_› ‹_›) (first | (go_at_call 7; refine (awake_any _ (held_tab hT hsz ‹_›)).mono ?_; rintro e w' ⟨rfl, hbf⟩) | (go_at_call 10; refine (HE.out _ (held_tab hT hsz ‹_›)).mono ?_; rintro e w' ⟨rfl, hbf⟩))
    all_goals
      rename_i hS4
      have hE := hS4.2.2.2
      clear hS4
      go_wp2_with fail
      go_ret
      exact ⟨rfl, hE⟩

end Go.Proofs.YtlpfleefbngdaaaDoor
