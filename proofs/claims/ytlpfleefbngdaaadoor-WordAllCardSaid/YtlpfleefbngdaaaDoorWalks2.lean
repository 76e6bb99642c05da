/- The contracts of the functions of package word and turnspitref01 over entries, walked. -/
import Derived.Test.YtlpfleefbngdaaaDoorWalks
namespace Go.Proofs.YtlpfleefbngdaaaDoor
open Go Go.RowKit
set_option linter.unusedSimpArgs false
set_option linter.unusedVariables false

theorem fits_any (k o t : Int) (w : World) : Calls Tryd.prog 21 #[.agg #[.int .i64 k, .int .i64 o], .int .i64 t] w fun e w' => e = .returned (.bool (fitsB k o t)) ∧ Below w.heap.size w w' := by
  by_cases h : k = 1 ∨ k = 4
  · have hd : decide (k = 1 ∨ k = 4) = true := by simp [h]
    by_cases h0 : 0 ≤ o
    · have hf : fitsB k o t = decide (o < t) := by unfold fitsB; rw [decide_eq_decide]; omega
      rw [hf]
      clear h hf
      go_enter Tryd.func21, Tryd.ntmps21
      go_wp2_with (go_at_call 17; refine (hasWho_any _ _).mono ?_; rintro e w' ⟨rfl, rfl⟩; simp only [hd])
      go_ret
      exact ⟨rfl, by go_grown⟩
    · have hf : fitsB k o t = false := by unfold fitsB; rw [decide_eq_false_iff_not]; omega
      rw [hf]
      clear h hf
      go_enter Tryd.func21, Tryd.ntmps21
      go_wp2_with (go_at_call 17; refine (hasWho_any _ _).mono ?_; rintro e w' ⟨rfl, rfl⟩; simp only [hd])
      go_ret
      exact ⟨rfl, by go_grown⟩
  · have hd : decide (k = 1 ∨ k = 4) = false := by simpa using h
    have hf : fitsB k o t = (o == 0) := by unfold fitsB; rw [Bool.eq_iff_iff]; simp; omega
    rw [hf]
    clear h hf
    go_enter Tryd.func21, Tryd.ntmps21
    go_wp2_with (go_at_call 17; refine (hasWho_any _ _).mono ?_; rintro e w' ⟨rfl, rfl⟩; simp only [hd])
    go_ret
    exact ⟨rfl, by go_grown⟩

/-- The entry of a word, as a value. -/
def entV (x t : Int) : Value := .agg #[.int .i64 (kindV x), .int .i64 (whoV x t)]

theorem rem_conv (q t : Int) : 0 ≤ q % thr t ∧ q % thr t ≤ 255 := by
  have ht := thr_bd t
  have h1 := Int.emod_nonneg q (b := thr t) (by omega)
  have h2 := Int.emod_lt_of_pos q (b := thr t) (by omega)
  omega

theorem hasWho_yes1 (w : World) : Calls Tryd.prog 17 #[.int .i64 1] w fun e w' => e = .returned (.bool true) ∧ w = w' := hasWho_any 1 w
theorem hasWho_yes4 (w : World) : Calls Tryd.prog 17 #[.int .i64 4] w fun e w' => e = .returned (.bool true) ∧ w = w' := hasWho_any 4 w
theorem hasWho_no2 (w : World) : Calls Tryd.prog 17 #[.int .i64 2] w fun e w' => e = .returned (.bool false) ∧ w = w' := hasWho_any 2 w
theorem hasWho_no3 (w : World) : Calls Tryd.prog 17 #[.int .i64 3] w fun e w' => e = .returned (.bool false) ∧ w = w' := hasWho_any 3 w
theorem bits_low (x c : Int) (w : World) (x0 : 0 ≤ x) (x1 : x ≤ 18446744073709551615) (H : Hid (x % 8 = c)) : Calls Tryd.prog 8 #[.int .u64 x, .int .i64 0, .int .i64 3] w fun e w' => e = .returned (.int .u64 c) ∧ ∃ k, w' = w.drewN k := by
  have := bits_any x 0 3 w x0 x1
  rw [bitsV_low, H.out] at this; exact this
theorem bits_high (x : Int) (w : World) (x0 : 0 ≤ x) (x1 : x ≤ 18446744073709551615) : Calls Tryd.prog 8 #[.int .u64 x, .int .i64 3, .int .i64 61] w fun e w' => e = .returned (.int .u64 (x / 8)) ∧ ∃ k, w' = w.drewN k := by
  have := bits_any x 3 61 w x0 x1
  rw [bitsV_high x x0 x1] at this; exact this

theorem drewN_size (w : World) (n : Nat) : (w.drewN n).heap.size = w.heap.size := rfl
theorem Below.drewN' {B : Nat} {a w : World} (h : Below B a w) (n : Nat) : Below B a (w.drewN n) := ⟨h.os, h.tape, h.output, h.size, h.block⟩

theorem read_0 (x t : Int) (w : World) (hT : Tab w) (x0 : 0 ≤ x) (x1 : x ≤ 18446744073709551615) (H : Hid (x % 8 = 0)) :
    Calls Tryd.prog 10 #[.int .u64 x, .int .i64 t] w fun e w' => e = .returned (.agg #[.int .i64 1, .int .i64 (x / 8 % thr t)]) ∧ Below w.heap.size w w' := by
  have hsz := hT.size
  obtain ⟨c0, c1, c2, c3, c4, c5, c6, c7⟩ := hT
  have hq : 0 ≤ x / 8 ∧ x / 8 ≤ 18446744073709551615 := by omega
  have hr := rem_conv (x / 8) t
  have ht := thr_bd t
  go_enter Tryd.func10, Tryd.ntmps10
  go_wp2_with fail
  go_at_call 8; refine (bits_low x 0 _ x0 x1 H).mono ?_; rintro e w' ⟨rfl, k1, rfl⟩
  go_wp2_with fail
  go_at_call 17; refine (hasWho_yes1 _).mono ?_; rintro e w' ⟨rfl, rfl⟩
  go_wp2_with fail
  go_at_call 8; refine (bits_high x _ x0 x1).mono ?_; rintro e w' ⟨rfl, k2, rfl⟩
  go_wp2_with fail
  go_at_call 18; refine (within_any _ _).mono ?_; rintro e w' ⟨rfl, rfl⟩
  go_wp2_with fail
  go_returns
  exact ⟨rfl, by repeat' (first | (with_reducible exact Below.refl _ _) | (with_reducible refine Below.setCell ?_ ?_ _) | (with_reducible refine Below.drewN' ?_ _) | (with_reducible refine Below.alloc ?_ ?_ _) | omega | (simp only [World.size_alloc, drewN_size]; omega) | simp)⟩

theorem read_1 (x t : Int) (w : World) (hT : Tab w) (x0 : 0 ≤ x) (x1 : x ≤ 18446744073709551615) (H : Hid (x % 8 = 1)) :
    Calls Tryd.prog 10 #[.int .u64 x, .int .i64 t] w fun e w' => e = .returned (.agg #[.int .i64 1, .int .i64 (x / 8 % thr t)]) ∧ Below w.heap.size w w' := by
  have hsz := hT.size
  obtain ⟨c0, c1, c2, c3, c4, c5, c6, c7⟩ := hT
  have hq : 0 ≤ x / 8 ∧ x / 8 ≤ 18446744073709551615 := by omega
  have hr := rem_conv (x / 8) t
  have ht := thr_bd t
  go_enter Tryd.func10, Tryd.ntmps10
  go_wp2_with fail
  go_at_call 8; refine (bits_low x 1 _ x0 x1 H).mono ?_; rintro e w' ⟨rfl, k1, rfl⟩
  go_wp2_with fail
  go_at_call 17; refine (hasWho_yes1 _).mono ?_; rintro e w' ⟨rfl, rfl⟩
  go_wp2_with fail
  go_at_call 8; refine (bits_high x _ x0 x1).mono ?_; rintro e w' ⟨rfl, k2, rfl⟩
  go_wp2_with fail
  go_at_call 18; refine (within_any _ _).mono ?_; rintro e w' ⟨rfl, rfl⟩
  go_wp2_with fail
  go_returns
  exact ⟨rfl, by repeat' (first | (with_reducible exact Below.refl _ _) | (with_reducible refine Below.setCell ?_ ?_ _) | (with_reducible refine Below.drewN' ?_ _) | (with_reducible refine Below.alloc ?_ ?_ _) | omega | (simp only [World.size_alloc, drewN_size]; omega) | simp)⟩

theorem read_2 (x t : Int) (w : World) (hT : Tab w) (x0 : 0 ≤ x) (x1 : x ≤ 18446744073709551615) (H : Hid (x % 8 = 2)) :
    Calls Tryd.prog 10 #[.int .u64 x, .int .i64 t] w fun e w' => e = .returned (.agg #[.int .i64 1, .int .i64 (x / 8 % thr t)]) ∧ Below w.heap.size w w' := by
  have hsz := hT.size
  obtain ⟨c0, c1, c2, c3, c4, c5, c6, c7⟩ := hT
  have hq : 0 ≤ x / 8 ∧ x / 8 ≤ 18446744073709551615 := by omega
  have hr := rem_conv (x / 8) t
  have ht := thr_bd t
  go_enter Tryd.func10, Tryd.ntmps10
  go_wp2_with fail
  go_at_call 8; refine (bits_low x 2 _ x0 x1 H).mono ?_; rintro e w' ⟨rfl, k1, rfl⟩
  go_wp2_with fail
  go_at_call 17; refine (hasWho_yes1 _).mono ?_; rintro e w' ⟨rfl, rfl⟩
  go_wp2_with fail
  go_at_call 8; refine (bits_high x _ x0 x1).mono ?_; rintro e w' ⟨rfl, k2, rfl⟩
  go_wp2_with fail
  go_at_call 18; refine (within_any _ _).mono ?_; rintro e w' ⟨rfl, rfl⟩
  go_wp2_with fail
  go_returns
  exact ⟨rfl, by repeat' (first | (with_reducible exact Below.refl _ _) | (with_reducible refine Below.setCell ?_ ?_ _) | (with_reducible refine Below.drewN' ?_ _) | (with_reducible refine Below.alloc ?_ ?_ _) | omega | (simp only [World.size_alloc, drewN_size]; omega) | simp)⟩

theorem read_3 (x t : Int) (w : World) (hT : Tab w) (x0 : 0 ≤ x) (x1 : x ≤ 18446744073709551615) (H : Hid (x % 8 = 3)) :
    Calls Tryd.prog 10 #[.int .u64 x, .int .i64 t] w fun e w' => e = .returned (.agg #[.int .i64 1, .int .i64 (x / 8 % thr t)]) ∧ Below w.heap.size w w' := by
  have hsz := hT.size
  obtain ⟨c0, c1, c2, c3, c4, c5, c6, c7⟩ := hT
  have hq : 0 ≤ x / 8 ∧ x / 8 ≤ 18446744073709551615 := by omega
  have hr := rem_conv (x / 8) t
  have ht := thr_bd t
  go_enter Tryd.func10, Tryd.ntmps10
  go_wp2_with fail
  go_at_call 8; refine (bits_low x 3 _ x0 x1 H).mono ?_; rintro e w' ⟨rfl, k1, rfl⟩
  go_wp2_with fail
  go_at_call 17; refine (hasWho_yes1 _).mono ?_; rintro e w' ⟨rfl, rfl⟩
  go_wp2_with fail
  go_at_call 8; refine (bits_high x _ x0 x1).mono ?_; rintro e w' ⟨rfl, k2, rfl⟩
  go_wp2_with fail
  go_at_call 18; refine (within_any _ _).mono ?_; rintro e w' ⟨rfl, rfl⟩
  go_wp2_with fail
  go_returns
  exact ⟨rfl, by repeat' (first | (with_reducible exact Below.refl _ _) | (with_reducible refine Below.setCell ?_ ?_ _) | (with_reducible refine Below.drewN' ?_ _) | (with_reducible refine Below.alloc ?_ ?_ _) | omega | (simp only [World.size_alloc, drewN_size]; omega) | simp)⟩

theorem read_4 (x t : Int) (w : World) (hT : Tab w) (x0 : 0 ≤ x) (x1 : x ≤ 18446744073709551615) (H : Hid (x % 8 = 4)) :
    Calls Tryd.prog 10 #[.int .u64 x, .int .i64 t] w fun e w' => e = .returned (.agg #[.int .i64 2, .int .i64 0]) ∧ Below w.heap.size w w' := by
  have hsz := hT.size
  obtain ⟨c0, c1, c2, c3, c4, c5, c6, c7⟩ := hT
  go_enter Tryd.func10, Tryd.ntmps10
  go_wp2_with fail
  go_at_call 8; refine (bits_low x 4 _ x0 x1 H).mono ?_; rintro e w' ⟨rfl, k1, rfl⟩
  go_wp2_with fail
  go_at_call 17; refine (hasWho_no2 _).mono ?_; rintro e w' ⟨rfl, rfl⟩
  go_wp2_with fail
  go_returns
  exact ⟨rfl, by repeat' (first | (with_reducible exact Below.refl _ _) | (with_reducible refine Below.setCell ?_ ?_ _) | (with_reducible refine Below.drewN' ?_ _) | (with_reducible refine Below.alloc ?_ ?_ _) | omega | (simp only [World.size_alloc, drewN_size]; omega) | simp)⟩

theorem read_5 (x t : Int) (w : World) (hT : Tab w) (x0 : 0 ≤ x) (x1 : x ≤ 18446744073709551615) (H : Hid (x % 8 = 5)) :
    Calls Tryd.prog 10 #[.int .u64 x, .int .i64 t] w fun e w' => e = .returned (.agg #[.int .i64 3, .int .i64 0]) ∧ Below w.heap.size w w' := by
  have hsz := hT.size
  obtain ⟨c0, c1, c2, c3, c4, c5, c6, c7⟩ := hT
  go_enter Tryd.func10, Tryd.ntmps10
  go_wp2_with fail
  go_at_call 8; refine (bits_low x 5 _ x0 x1 H).mono ?_; rintro e w' ⟨rfl, k1, rfl⟩
  go_wp2_with fail
  go_at_call 17; refine (hasWho_no3 _).mono ?_; rintro e w' ⟨rfl, rfl⟩
  go_wp2_with fail
  go_returns
  exact ⟨rfl, by repeat' (first | (with_reducible exact Below.refl _ _) | (with_reducible refine Below.setCell ?_ ?_ _) | (with_reducible refine Below.drewN' ?_ _) | (with_reducible refine Below.alloc ?_ ?_ _) | omega | (simp only [World.size_alloc, drewN_size]; omega) | simp)⟩

theorem read_6 (x t : Int) (w : World) (hT : Tab w) (x0 : 0 ≤ x) (x1 : x ≤ 18446744073709551615) (H : Hid (x % 8 = 6)) :
    Calls Tryd.prog 10 #[.int .u64 x, .int .i64 t] w fun e w' => e = .returned (.agg #[.int .i64 4, .int .i64 (x / 8 % thr t)]) ∧ Below w.heap.size w w' := by
  have hsz := hT.size
  obtain ⟨c0, c1, c2, c3, c4, c5, c6, c7⟩ := hT
  have hq : 0 ≤ x / 8 ∧ x / 8 ≤ 18446744073709551615 := by omega
  have hr := rem_conv (x / 8) t
  have ht := thr_bd t
  go_enter Tryd.func10, Tryd.ntmps10
  go_wp2_with fail
  go_at_call 8; refine (bits_low x 6 _ x0 x1 H).mono ?_; rintro e w' ⟨rfl, k1, rfl⟩
  go_wp2_with fail
  go_at_call 17; refine (hasWho_yes4 _).mono ?_; rintro e w' ⟨rfl, rfl⟩
  go_wp2_with fail
  go_at_call 8; refine (bits_high x _ x0 x1).mono ?_; rintro e w' ⟨rfl, k2, rfl⟩
  go_wp2_with fail
  go_at_call 18; refine (within_any _ _).mono ?_; rintro e w' ⟨rfl, rfl⟩
  go_wp2_with fail
  go_returns
  exact ⟨rfl, by repeat' (first | (with_reducible exact Below.refl _ _) | (with_reducible refine Below.setCell ?_ ?_ _) | (with_reducible refine Below.drewN' ?_ _) | (with_reducible refine Below.alloc ?_ ?_ _) | omega | (simp only [World.size_alloc, drewN_size]; omega) | simp)⟩

theorem read_7 (x t : Int) (w : World) (hT : Tab w) (x0 : 0 ≤ x) (x1 : x ≤ 18446744073709551615) (H : Hid (x % 8 = 7)) :
    Calls Tryd.prog 10 #[.int .u64 x, .int .i64 t] w fun e w' => e = .returned (.agg #[.int .i64 2, .int .i64 0]) ∧ Below w.heap.size w w' := by
  have hsz := hT.size
  obtain ⟨c0, c1, c2, c3, c4, c5, c6, c7⟩ := hT
  go_enter Tryd.func10, Tryd.ntmps10
  go_wp2_with fail
  go_at_call 8; refine (bits_low x 7 _ x0 x1 H).mono ?_; rintro e w' ⟨rfl, k1, rfl⟩
  go_wp2_with fail
  go_at_call 17; refine (hasWho_no2 _).mono ?_; rintro e w' ⟨rfl, rfl⟩
  go_wp2_with fail
  go_returns
  exact ⟨rfl, by repeat' (first | (with_reducible exact Below.refl _ _) | (with_reducible refine Below.setCell ?_ ?_ _) | (with_reducible refine Below.drewN' ?_ _) | (with_reducible refine Below.alloc ?_ ?_ _) | omega | (simp only [World.size_alloc, drewN_size]; omega) | simp)⟩
end Go.Proofs.YtlpfleefbngdaaaDoor
