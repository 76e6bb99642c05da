/- The walk of the law DrawSkips. -/
import Derived.Test.YtlpfleefbngdaaaAwake
namespace Go.Proofs.Ytlpfleefbngdaaa
open Go Go.RowKit
set_option linter.unusedVariables false
set_option linter.unusedSimpArgs false

theorem drawSkips_many (A : Option Addr) (n cap : Nat) (N : Int) (w : World) (hn : n ≤ 9223372036854775807) (h : 100 < n) :
    Calls Try.prog 5 #[.slice A n cap, .int .i64 N] w fun e w' => e = .returned (.bool true) ∧ Below w.heap.size w w' := by
  go_enter Try.func5, Try.ntmps5
  go_wp2_with fail
  go_at_call 6; refine (awake_any _).mono ?_; rintro e w1 ⟨rfl, hb1⟩
  go_wp2_with fail
  go_ret
  exact ⟨rfl, hb1⟩

theorem drawSkips_out (A : Option Addr) (n cap : Nat) (N : Int) (f : Nat → Int) (w : World) (hn : n ≤ 100) (hnil : A = none → n = 0 ∧ cap = 0) (hs : SeesU w w.heap.size A n f) (hN : N < 0 ∨ (0 ≤ N ∧ (n : Int) < N)) :
    Calls Try.prog 5 #[.slice A n cap, .int .i64 N] w fun e w' => e = .returned (.bool true) ∧ Below w.heap.size w w' := by
  have HS : Hid (SeesU w w.heap.size A n f) := hs
  have HI : Hid (A = none → n = 0 ∧ cap = 0) := hnil
  clear hs hnil
  rcases hN with hN | ⟨hN1, hN2⟩
  all_goals
    go_enter Try.func5, Try.ntmps5
    go_wp2_with fail
    go_at_call 7; refine (new_any A n cap f _ (by omega) HI.out HS.out).mono ?_; rintro e w1 ⟨ca, rfl, hCa, hb1, hca⟩
    have hS1 : Hid (SeesU w1 w1.heap.size A n f) := (HS.out.below hb1 (Nat.le_refl _)).more hb1.size
    go_wp2_with fail
    go_at_call 7; refine (new_any A n cap f _ (by omega) HI.out hS1.out).mono ?_; rintro e w2 ⟨cb, rfl, hCb, hb2, hcb⟩
    have hB2 := hb1.trans (hb2.mono hb1.size)
    have hCa2 := hCa.below hb2 hCa.lt
    clear hCa hCb hb1 hb2
    go_wp2_with fail
    go_at_call 15; refine (skip_out _ _ ca f n 0 N hCa2 (by omega) (by first | exact Or.inl hN | exact Or.inr hN2)).mono ?_; rintro e w3 ⟨rfl, rfl⟩
    go_wp2_with fail
    go_at_call 6; refine (awake_any _).mono ?_; rintro e w4 ⟨rfl, hb4⟩
    have hCa4 := hCa2.below hb4 hCa2.lt
    have hB4 := hB2.trans (hb4.mono hB2.size)
    clear hCa2 hb4
    go_wp2_with fail
    go_at_call 11; refine (told_any _ _ ca f n 0 hCa4).mono ?_; rintro e w5 ⟨rfl, rfl⟩
    go_wp2_with fail
    go_at_call 9; refine (left_any _ _ ca f n 0 hCa4).mono ?_; rintro e w5 ⟨rfl, rfl⟩
    go_wp2_with fail
    go_ret
    exact ⟨rfl, hB4⟩

set_option maxHeartbeats 1000000 in
theorem drawSkips_in (A : Option Addr) (n cap N : Nat) (f : Nat → Int) (w : World) (hn : n ≤ 100) (hnil : A = none → n = 0 ∧ cap = 0) (hs : SeesU w w.heap.size A n f) (hN : N ≤ n) :
    Calls Try.prog 5 #[.slice A n cap, .int .i64 N] w fun e w' => e = .returned (.bool true) ∧ Below w.heap.size w w' := by
  have HS : Hid (SeesU w w.heap.size A n f) := hs
  have HI : Hid (A = none → n = 0 ∧ cap = 0) := hnil
  clear hs hnil
  have d1 : decide (n < N) = false := by simp; omega
  go_enter Try.func5, Try.ntmps5
  go_wp2_with fail
  go_at_call 7; refine (new_any A n cap f _ (by omega) HI.out HS.out).mono ?_; rintro e w1 ⟨ca, rfl, hCa, hb1, hca⟩
  have hS1 : Hid (SeesU w1 w1.heap.size A n f) := (HS.out.below hb1 (Nat.le_refl _)).more hb1.size
  go_wp2_with fail
  go_at_call 7; refine (new_any A n cap f _ (by omega) HI.out hS1.out).mono ?_; rintro e w2 ⟨cb, rfl, hCb, hb2, hcb⟩
  have hB2 := hb1.trans (hb2.mono hb1.size)
  have hCa2 := hCa.below hb2 hCa.lt
  have hlt := hCa.lt
  generalize hBe : w1.heap.size = Bb at hCb hcb hlt
  have hab : ca < cb := by omega
  clear hCa hb1 hb2 HS HI hS1 hBe
  go_wp2_with fail
  go_at_call 15; refine (skip_in _ _ ca f n 0 N hCa2 (by omega) (by omega) (by omega)).mono ?_; rintro e w3 ⟨rfl, hCa3, hbt3⟩
  have hCb3 := hCb.but hbt3 (Or.inr ⟨hlt, hab⟩)
  have hB3 := hB2.trans (hbt3.below hca hB2.size)
  simp only [Nat.zero_add] at hCa3
  clear hCa2 hCb hbt3 hB2
  have HB3 : Hid (Below w.heap.size w w3) := hB3
  clear hB3
  go_wp2_with fail
  go_loopw [8] (fun i wr => ∃ k : Nat, k ≤ N ∧ i = .int .i64 k ∧ Curs wr w.heap.size ca f n N ∧ Curs wr Bb cb f n k ∧ Below w.heap.size w wr) (fun i _ => N - (intOf i).toNat)
  case atStart => exact ⟨0, Nat.zero_le _, rfl, hCa3, hCb3, HB3.out⟩
  case round =>
    obtain ⟨k, hk, rfl, hA, hB, hbl⟩ := hrel
    clear hCa3 hCb3
    by_cases hlt2 : k < N
    · go_wp2_with fail
      go_at_call 12; refine (next_any _ _ cb f n k hB (by omega) (by omega)).mono ?_; rintro e w4 ⟨rfl, hB', hbt⟩
      have hA' := hA.but hbt (Or.inl hab)
      have hbl' := hbl.trans (hbt.below (by omega) hbl.size)
      clear hA hB hbl hbt
      go_wp2_with fail
      go_roundw
      case rel => exact ⟨k + 1, by omega, by go_num, hA', hB', hbl'⟩
      case measure => simp [intOf]; omega
    · obtain rfl : k = N := by omega
      go_wp2_with fail
      go_loopw [9] (fun i wr => ∃ j : Nat, j ≤ n + 1 ∧ i = .int .i64 j ∧ Curs wr w.heap.size ca f n (k + j) ∧ Curs wr Bb cb f n (k + j) ∧ Below w.heap.size w wr) (fun i _ => n + 1 - (intOf i).toNat)
      case atStart => exact ⟨0, by omega, rfl, hA, hB, hbl⟩
      case round =>
        obtain ⟨j, hj, rfl, hA2, hB2, hbl2⟩ := hrel
        clear hA hB hbl
        by_cases hlt3 : j ≤ n
        · go_wp2_with fail
          go_at_call 9; refine (left_any _ _ ca f n _ hA2).mono ?_; rintro e w5 ⟨rfl, rfl⟩
          go_wp2_with fail
          go_at_call 9; refine (left_any _ _ cb f n _ hB2).mono ?_; rintro e w5 ⟨rfl, rfl⟩
          go_wp2_with fail
          go_at_call 11; refine (told_any _ _ ca f n _ hA2).mono ?_; rintro e w5 ⟨rfl, rfl⟩
          go_wp2_with fail
          go_at_call 11; refine (told_any _ _ cb f n _ hB2).mono ?_; rintro e w5 ⟨rfl, rfl⟩
          go_wp2_with fail
          go_at_call 12; refine (next_any _ _ ca f n _ hA2 (by omega) (by omega)).mono ?_; rintro e w5 ⟨rfl, hA3, hbt3⟩
          have hB3 := hB2.but hbt3 (Or.inr ⟨hlt, hab⟩)
          have hbl3 := hbl2.trans (hbt3.below hca hbl2.size)
          clear hA2 hB2 hbl2 hbt3
          go_wp2_with fail
          go_at_call 12; refine (next_any _ _ cb f n _ hB3 (by omega) (by omega)).mono ?_; rintro e w6 ⟨rfl, hB4, hbt4⟩
          have hA4 := hA3.but hbt4 (Or.inl hab)
          have hbl4 := hbl3.trans (hbt4.below (by omega) hbl3.size)
          clear hA3 hB3 hbl3 hbt4
          go_wp2_with fail
          go_roundw
          case rel => exact ⟨j + 1, by omega, by go_num, hA4, hB4, hbl4⟩
          case measure => simp [intOf]; omega
        · obtain rfl : j = n + 1 := by omega
          go_wp2_with fail
          go_at_call 6; refine (awake_any _).mono ?_; rintro e w7 ⟨rfl, hb7⟩
          go_wp2_with fail
          go_ret
          exact ⟨rfl, hbl2.trans (hb7.mono hbl2.size)⟩

end Go.Proofs.Ytlpfleefbngdaaa
