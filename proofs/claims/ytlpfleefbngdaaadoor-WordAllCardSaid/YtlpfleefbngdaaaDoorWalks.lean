/- The contracts of the functions of packages word and turnspitref01, walked. -/
import Derived.Test.YtlpfleefbngdaaaDoorRows
import Derived.Test.YtlpfleefbngdaaaDoorMath
import Derived.WalkKit
import Derived.Handy
import Derived.Deep.QuietTactic
import Derived.BigQuiet
namespace Go.Proofs.YtlpfleefbngdaaaDoor
open Go Go.RowKit

theorem ret_int {k : IntKind} {a b : Int} (h : a = b) : Ending.returned (.int k a) = .returned (.int k b) := by rw [h]
theorem ret_bool {a b : Bool} (h : a = b) : Ending.returned (.bool a) = .returned (.bool b) := by rw [h]

theorem within_any (n : Int) (w : World) : Calls Tryd.prog 18 #[.int .i64 n] w fun e w' => e = .returned (.int .i64 (thr n)) ∧ w = w' := by
  by_cases h1 : n < 1
  · go_enter Tryd.func18, Tryd.ntmps18
    go_wp2
    all_goals (go_ret; exact ⟨ret_int (by unfold thr; rw [if_pos (by omega)]), rfl⟩)
  · by_cases h2 : 256 < n
    · go_enter Tryd.func18, Tryd.ntmps18
      go_wp2
      all_goals (go_ret; exact ⟨ret_int (by unfold thr; rw [if_neg (by omega), if_pos (by omega)]), rfl⟩)
    · go_enter Tryd.func18, Tryd.ntmps18
      go_wp2
      all_goals (go_ret; exact ⟨ret_int (by unfold thr; rw [if_neg (by omega), if_neg (by omega)]), rfl⟩)

theorem hasWho_any (k : Int) (w : World) : Calls Tryd.prog 17 #[.int .i64 k] w fun e w' => e = .returned (.bool (decide (k = 1 ∨ k = 4))) ∧ w = w' := by
  go_enter Tryd.func17, Tryd.ntmps17
  go_wp2
  all_goals (go_ret; exact ⟨ret_bool (by rw [Bool.eq_iff_iff]; simp [*]), rfl⟩)

theorem threads_any (n : Int) (w : World) : Calls Tryd.prog 19 #[.int .i64 n] w fun e w' => e = .returned (.int .i64 (thr n)) ∧ w = w' := by
  by_cases h1 : n < 1
  · go_enter Tryd.func19, Tryd.ntmps19
    go_wp2
    all_goals (go_ret; exact ⟨ret_int (by unfold thr; rw [if_pos (by omega)]), rfl⟩)
  · by_cases h2 : 256 < n
    · go_enter Tryd.func19, Tryd.ntmps19
      go_wp2
      all_goals (go_ret; exact ⟨ret_int (by unfold thr; rw [if_neg (by omega), if_pos (by omega)]), rfl⟩)
    · go_enter Tryd.func19, Tryd.ntmps19
      go_wp2
      all_goals (go_ret; exact ⟨ret_int (by unfold thr; rw [if_neg (by omega), if_neg (by omega)]), rfl⟩)

theorem bits_far (x f n : Int) (w : World) (h : f < 0 ∨ 63 < f ∨ n < 0 ∨ 64 < n) : Calls Tryd.prog 8 #[.int .u64 x, .int .i64 f, .int .i64 n] w fun e w' => e = .returned (.int .u64 0) ∧ ∃ k, w' = w.drewN k := by
  go_enter Tryd.func8, Tryd.ntmps8
  go_wp2
  all_goals (go_ret; exact ⟨rfl, 0, rfl⟩)
theorem bits_near (x f n : Int) (w : World) (x0 : 0 ≤ x) (x1 : x ≤ 18446744073709551615) (h0 : 0 ≤ f) (h1 : f ≤ 63) (h2 : 0 ≤ n) (h3 : n ≤ 64) :
    Calls Tryd.prog 8 #[.int .u64 x, .int .i64 f, .int .i64 n] w fun e w' => e = .returned (.int .u64 (x / 2 ^ f.toNat % 2 ^ n.toNat)) ∧ ∃ k, w' = w.drewN k := by
  have hb := div_bd x f.toNat x0
  have hm := mask_eq (x / 2 ^ f.toNat) n hb.1 (by omega) h2 h3
  have H : Hid (bits .and .u64 (x / 2 ^ f.toNat) (IntKind.u64.wrap (IntKind.u64.wrap (2 ^ n.toNat) - 1)) = (x / 2 ^ f.toNat) % 2 ^ n.toNat) := hm
  clear hm hb
  go_enter Tryd.func8, Tryd.ntmps8
  go_wp2
  go_quiet (fail)
  go_wp2
  go_ret
  exact ⟨ret_int H.out, nq, rfl⟩
theorem bits_any (x f n : Int) (w : World) (x0 : 0 ≤ x) (x1 : x ≤ 18446744073709551615) :
    Calls Tryd.prog 8 #[.int .u64 x, .int .i64 f, .int .i64 n] w fun e w' => e = .returned (.int .u64 (bitsV x f n)) ∧ ∃ k, w' = w.drewN k := by
  by_cases h : f < 0 ∨ 63 < f ∨ n < 0 ∨ 64 < n
  · rw [bitsV_far x f n h]; exact bits_far x f n w h
  · rw [bitsV_near x f n (by omega) (by omega) (by omega) (by omega)]; exact bits_near x f n w x0 x1 (by omega) (by omega) (by omega) (by omega)

theorem refBits_far (x f n : Int) (w : World) (h : f < 0 ∨ 63 < f ∨ n < 0 ∨ 64 < n) : Calls Tryd.prog 9 #[.int .u64 x, .int .i64 f, .int .i64 n] w fun e w' => e = .returned (.int .u64 0) ∧ w = w' := by
  go_enter Tryd.func9, Tryd.ntmps9
  go_wp2
  all_goals first | (exfalso; omega) | (go_ret; exact ⟨rfl, rfl⟩)

theorem refBits_near (x : Int) (F N : Nat) (w : World) (x0 : 0 ≤ x) (x1 : x ≤ 18446744073709551615) (h1 : F ≤ 63) (h3 : N ≤ 64) :
    Calls Tryd.prog 9 #[.int .u64 x, .int .i64 F, .int .i64 N] w fun e w' => e = .returned (.int .u64 (x / 2 ^ F % 2 ^ N)) ∧ w = w' := by
  go_enter Tryd.func9, Tryd.ntmps9
  go_wp2
  go_loop [0, 7] (fun v i => ∃ k : Nat, k ≤ F ∧ i = .int .i64 k ∧ v = .int .u64 (x / 2 ^ k)) (fun _ i => F - (intOf i).toNat)
  case atStart => exact ⟨0, Nat.zero_le _, rfl, by simp⟩
  case round =>
    obtain ⟨k, hk, rfl, rfl⟩ := hrel
    have hb := div_bd x k x0
    have HS : Hid (x / 2 ^ (k + 1) = x / 2 ^ k / 2) := div_step x k
    by_cases hlt : k < F
    · generalize x / 2 ^ k = y at hb HS
      go_wp2
      go_round
      case rel => exact ⟨k + 1, by omega, by go_num, by rw [HS.out]⟩
      case measure => simp [intOf]; omega
    · obtain rfl : F = k := by omega
      clear HS
      generalize hy : x / 2 ^ F = y at hb
      have HY : Hid (x / 2 ^ F = y) := hy
      clear hy
      go_wp2
      go_loop [0, 8, 9, 10] (fun v o u i => ∃ k : Nat, ∃ z : Int, k ≤ N ∧ i = .int .i64 k ∧ v = .int .u64 (y / 2 ^ k) ∧ o = .int .u64 (y % 2 ^ k) ∧ u = .int .u64 z ∧ 0 ≤ z ∧ Hid (k < 64 → z = 2 ^ k)) (fun _ _ _ i => N - (intOf i).toNat)
      case atStart => exact ⟨0, 1, Nat.zero_le _, rfl, by simp, by simp, rfl, by omega, fun _ => by simp⟩
      case round =>
        obtain ⟨k, z, hk, rfl, rfl, rfl, rfl, hz0, HZ⟩ := hrel
        have hd := div_bd y k hb.1
        have HS : Hid (y / 2 ^ (k + 1) = y / 2 ^ k / 2) := div_step y k
        by_cases hlt : k < N
        · have HG : Hid (IntKind.u64.wrap (y % 2 ^ k + IntKind.u64.wrap (y / 2 ^ k % 2 * z)) = y % 2 ^ (k + 1)) := by
            have := gather_step y k hb.1 (by omega)
            rw [HZ.out (by omega)]; exact this
          have HU : Hid (k + 1 < 64 → IntKind.u64.wrap (2 * z) = 2 ^ (k + 1)) := fun h => by rw [HZ.out (by omega)]; exact unit_step k h
          have hm := mod_bd y k
          generalize y / 2 ^ k = q at hd HS HG
          generalize y % 2 ^ k = r at HG hm
          go_wp2
          go_round
          case rel => exact ⟨k + 1, IntKind.u64.wrap (2 * z), by omega, by go_num, by rw [HS.out], by rw [HG.out], rfl, wrap_u64_nonneg _, HU.out⟩
          case measure => simp [intOf]; omega
        · obtain rfl : N = k := by omega
          go_wp2
          go_ret
          exact ⟨ret_int (by rw [HY.out]), rfl⟩

theorem refBits_any (x f n : Int) (w : World) (x0 : 0 ≤ x) (x1 : x ≤ 18446744073709551615) :
    Calls Tryd.prog 9 #[.int .u64 x, .int .i64 f, .int .i64 n] w fun e w' => e = .returned (.int .u64 (bitsV x f n)) ∧ w = w' := by
  by_cases h : f < 0 ∨ 63 < f ∨ n < 0 ∨ 64 < n
  · rw [bitsV_far x f n h]; exact refBits_far x f n w h
  · obtain ⟨F, rfl⟩ : ∃ F : Nat, f = (F : Int) := ⟨f.toNat, by omega⟩
    obtain ⟨N, rfl⟩ : ∃ N : Nat, n = (N : Int) := ⟨n.toNat, by omega⟩
    rw [bitsV_near x F N (by omega) (by omega) (by omega) (by omega)]
    exact refBits_near x F N w x0 x1 (by omega) (by omega)

/-- The table of kinds, as the program's text lays it. -/
structure Tab (w : World) : Prop where
  c0 : w.cell? ⟨0, 0, none⟩ = some (.int .i64 1)
  c1 : w.cell? ⟨0, 1, none⟩ = some (.int .i64 1)
  c2 : w.cell? ⟨0, 2, none⟩ = some (.int .i64 1)
  c3 : w.cell? ⟨0, 3, none⟩ = some (.int .i64 1)
  c4 : w.cell? ⟨0, 4, none⟩ = some (.int .i64 2)
  c5 : w.cell? ⟨0, 5, none⟩ = some (.int .i64 3)
  c6 : w.cell? ⟨0, 6, none⟩ = some (.int .i64 4)
  c7 : w.cell? ⟨0, 7, none⟩ = some (.int .i64 2)

theorem Tab.size {w : World} (h : Tab w) : 0 < w.heap.size := by
  have h0 := h.c0
  rcases Nat.eq_zero_or_pos w.heap.size with e | e
  · exfalso
    have : w.heap[0]? = none := by simp [e]
    simp [World.cell?, this] at h0
  · exact e

theorem Tab.below {w w' : World} {B : Nat} (h : Tab w) (hb : Below B w w') (hB : 0 < B) : Tab w' :=
  ⟨(hb.cell hB).trans h.c0, (hb.cell hB).trans h.c1, (hb.cell hB).trans h.c2, (hb.cell hB).trans h.c3, (hb.cell hB).trans h.c4, (hb.cell hB).trans h.c5, (hb.cell hB).trans h.c6, (hb.cell hB).trans h.c7⟩

theorem least_step1 (w : World) (hT : Tab w) : Calls Tryd.prog 20 #[.int .i64 1] w fun e w' => e = .returned (.tuple #[.int .i64 0, .bool true]) ∧ w = w' := by
  obtain ⟨c0, c1, c2, c3, c4, c5, c6, c7⟩ := hT
  go_enter Tryd.func20, Tryd.ntmps20
  go_wp2
  go_rounds 9
  all_goals (go_ret2; exact ⟨rfl, rfl⟩)
theorem least_step2 (w : World) (hT : Tab w) : Calls Tryd.prog 20 #[.int .i64 2] w fun e w' => e = .returned (.tuple #[.int .i64 4, .bool true]) ∧ w = w' := by
  obtain ⟨c0, c1, c2, c3, c4, c5, c6, c7⟩ := hT
  go_enter Tryd.func20, Tryd.ntmps20
  go_wp2
  go_rounds 9
  all_goals (go_ret2; exact ⟨rfl, rfl⟩)
theorem least_step3 (w : World) (hT : Tab w) : Calls Tryd.prog 20 #[.int .i64 3] w fun e w' => e = .returned (.tuple #[.int .i64 5, .bool true]) ∧ w = w' := by
  obtain ⟨c0, c1, c2, c3, c4, c5, c6, c7⟩ := hT
  go_enter Tryd.func20, Tryd.ntmps20
  go_wp2
  go_rounds 9
  all_goals (go_ret2; exact ⟨rfl, rfl⟩)
theorem least_step4 (w : World) (hT : Tab w) : Calls Tryd.prog 20 #[.int .i64 4] w fun e w' => e = .returned (.tuple #[.int .i64 6, .bool true]) ∧ w = w' := by
  obtain ⟨c0, c1, c2, c3, c4, c5, c6, c7⟩ := hT
  go_enter Tryd.func20, Tryd.ntmps20
  go_wp2
  go_rounds 9
  all_goals (go_ret2; exact ⟨rfl, rfl⟩)
theorem least_none (k : Int) (w : World) (hT : Tab w) (h1 : ((1 : Int) == k) = false) (h2 : ((2 : Int) == k) = false) (h3 : ((3 : Int) == k) = false) (h4 : ((4 : Int) == k) = false) : Calls Tryd.prog 20 #[.int .i64 k] w fun e w' => e = .returned (.tuple #[.int .i64 0, .bool false]) ∧ w = w' := by
  obtain ⟨c0, c1, c2, c3, c4, c5, c6, c7⟩ := hT
  go_enter Tryd.func20, Tryd.ntmps20
  go_wp2
  go_rounds 9
  all_goals (go_ret2; exact ⟨rfl, rfl⟩)

end Go.Proofs.YtlpfleefbngdaaaDoor
