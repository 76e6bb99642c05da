/- Program words made up. -/
import Derived.Test.YteibdjbipfimeaaM1
namespace Go.Proofs.Yteibdjbipfimeaa
open Go Go.RowKit
set_option linter.unusedVariables false
set_option linter.unusedSimpArgs false
set_option maxRecDepth 100000

/-- A program word, of a state and so many programs; and how many numbers it takes. -/
def wv (S n : Nat) : Nat :=
  if rem (num S 1) 8 = 0 then 2 + 8 * rem (num S 2) n
  else if rem (num S 1) 8 = 1 then 3
  else if rem (num S 1) 8 = 2 then 4
  else if rem (num S 1) 8 = 3 then 5 + 8 * rem (num S 2) 8
  else if rem (num S 1) 8 = 4 then 6
  else 1 + 8 * rem (num S 2) 16
def wu (S : Nat) : Nat := if rem (num S 1) 8 = 1 ∨ rem (num S 1) 8 = 2 ∨ rem (num S 1) 8 = 4 then 1 else 2
theorem wu_le (S : Nat) : 1 ≤ wu S ∧ wu S ≤ 2 := by unfold wu; split <;> omega

theorem arg_any (w : World) (c S m : Nat) (mi : Int) (hmi : mi = (m : Int)) (hs : S < 18446744073709551616) (h : Dc w c S) (hm : 1 ≤ m) (hm1 : m ≤ 1000) :
    Calls Try.prog 27 #[.pointer (some ⟨c, 0, none⟩), .int .i64 mi] w fun e w' => e = .returned (.int .u64 (8 * ((rem (num S 1) m : Nat) : Int))) ∧ Dc w' c (st S 1) ∧ But [c] w w' := by
  subst hmi
  obtain ⟨r, HR, hr⟩ : ∃ r : Nat, Hid (rem (num S 1) m = r) ∧ r < m := ⟨_, rfl, rem_lt _ _ (by omega)⟩
  rw [HR.out]
  go_enter Try.func27, Try.ntmps27
  go_wp2_with fail
  go_at_call 9; refine (below_lit _ c S m r m rfl hs h (by omega) (by omega) (by rw [HR.out])).mono ?_; rintro e w1 ⟨rfl, hD, hB⟩
  go_wp2_with fail
  go_ret
  exact ⟨ret_int (by omega), hD, hB⟩

theorem word_0 (w : World) (c S n : Nat) (hs : S < 18446744073709551616) (h : Dc w c S) (hn : 1 ≤ n) (hn2 : n ≤ 16) (h0 : rem (num S 1) 8 = 0) :
    Calls Try.prog 24 #[.pointer (some ⟨c, 0, none⟩), .int .i64 (n : Int)] w fun e w' => e = .returned (.int .u64 ((wv S n : Nat) : Int)) ∧ Dc w' c (st S (wu S)) ∧ But [c] w w' := by
  have H0 := Lib.hid h0
  have HS := Lib.hid hs
  have HH := Lib.hid h
  clear h0 hs h
  obtain ⟨r, HR, hr⟩ : ∃ r : Nat, Hid (rem (num S 2) n = r) ∧ r < n := ⟨_, rfl, rem_lt _ _ (by omega)⟩
  have HV : Hid (wv S n = 2 + 8 * r ∧ wu S = 2) := by
    show _ ∧ _
    have a := H0.out
    unfold wv wu
    simp [a, HR.out]
  rw [HV.out.1, HV.out.2]
  go_enter Try.func24, Try.ntmps24
  go_wp2_with fail
  go_at_call 9; refine (below_lit _ c S 8 0 8 rfl HS.out HH.out (by omega) (by omega) (by rw [H0.out]; rfl)).mono ?_; rintro e w1 ⟨rfl, hD, hB⟩
  have HD := Lib.hid hD
  have HB := Lib.hid hB
  clear hD hB
  go_wp2_with fail
  go_at_call 27; refine (arg_any _ c (st S 1) n n rfl (st_lt _ _) HD.out (by omega) (by omega)).mono ?_; rintro e w2 ⟨rfl, hD2, hB2⟩
  rw [num_st2, show rem (num S (1 + 1)) n = r from HR.out]
  rw [st_st2] at hD2
  go_wp2_with fail
  go_ret
  exact ⟨ret_int (by omega), hD2, HB.out.trans hB2⟩
theorem word_1 (w : World) (c S n : Nat) (hs : S < 18446744073709551616) (h : Dc w c S) (hn : 1 ≤ n) (hn2 : n ≤ 16) (h0 : rem (num S 1) 8 = 1) :
    Calls Try.prog 24 #[.pointer (some ⟨c, 0, none⟩), .int .i64 (n : Int)] w fun e w' => e = .returned (.int .u64 ((wv S n : Nat) : Int)) ∧ Dc w' c (st S (wu S)) ∧ But [c] w w' := by
  have H0 := Lib.hid h0
  have HS := Lib.hid hs
  have HH := Lib.hid h
  clear h0 hs h
  have HV : Hid (wv S n = 3 ∧ wu S = 1) := by
    show _ ∧ _
    have a := H0.out
    unfold wv wu
    simp [a]
  rw [HV.out.1, HV.out.2]
  go_enter Try.func24, Try.ntmps24
  go_wp2_with fail
  go_at_call 9; refine (below_lit _ c S 8 1 8 rfl HS.out HH.out (by omega) (by omega) (by rw [H0.out]; rfl)).mono ?_; rintro e w1 ⟨rfl, hD, hB⟩
  go_wp2_with fail
  go_ret
  exact ⟨rfl, hD, hB⟩
theorem word_2 (w : World) (c S n : Nat) (hs : S < 18446744073709551616) (h : Dc w c S) (hn : 1 ≤ n) (hn2 : n ≤ 16) (h0 : rem (num S 1) 8 = 2) :
    Calls Try.prog 24 #[.pointer (some ⟨c, 0, none⟩), .int .i64 (n : Int)] w fun e w' => e = .returned (.int .u64 ((wv S n : Nat) : Int)) ∧ Dc w' c (st S (wu S)) ∧ But [c] w w' := by
  have H0 := Lib.hid h0
  have HS := Lib.hid hs
  have HH := Lib.hid h
  clear h0 hs h
  have HV : Hid (wv S n = 4 ∧ wu S = 1) := by
    show _ ∧ _
    have a := H0.out
    unfold wv wu
    simp [a]
  rw [HV.out.1, HV.out.2]
  go_enter Try.func24, Try.ntmps24
  go_wp2_with fail
  go_at_call 9; refine (below_lit _ c S 8 2 8 rfl HS.out HH.out (by omega) (by omega) (by rw [H0.out]; rfl)).mono ?_; rintro e w1 ⟨rfl, hD, hB⟩
  go_wp2_with fail
  go_ret
  exact ⟨rfl, hD, hB⟩
theorem word_3 (w : World) (c S n : Nat) (hs : S < 18446744073709551616) (h : Dc w c S) (hn : 1 ≤ n) (hn2 : n ≤ 16) (h0 : rem (num S 1) 8 = 3) :
    Calls Try.prog 24 #[.pointer (some ⟨c, 0, none⟩), .int .i64 (n : Int)] w fun e w' => e = .returned (.int .u64 ((wv S n : Nat) : Int)) ∧ Dc w' c (st S (wu S)) ∧ But [c] w w' := by
  have H0 := Lib.hid h0
  have HS := Lib.hid hs
  have HH := Lib.hid h
  clear h0 hs h
  obtain ⟨r, HR, hr⟩ : ∃ r : Nat, Hid (rem (num S 2) 8 = r) ∧ r < 8 := ⟨_, rfl, rem_lt _ _ (by omega)⟩
  have HV : Hid (wv S n = 5 + 8 * r ∧ wu S = 2) := by
    show _ ∧ _
    have a := H0.out
    unfold wv wu
    simp [a, HR.out]
  rw [HV.out.1, HV.out.2]
  go_enter Try.func24, Try.ntmps24
  go_wp2_with fail
  go_at_call 9; refine (below_lit _ c S 8 3 8 rfl HS.out HH.out (by omega) (by omega) (by rw [H0.out]; rfl)).mono ?_; rintro e w1 ⟨rfl, hD, hB⟩
  have HD := Lib.hid hD
  have HB := Lib.hid hB
  clear hD hB
  go_wp2_with fail
  go_at_call 27; refine (arg_any _ c (st S 1) 8 8 rfl (st_lt _ _) HD.out (by omega) (by omega)).mono ?_; rintro e w2 ⟨rfl, hD2, hB2⟩
  rw [num_st2, show rem (num S (1 + 1)) 8 = r from HR.out]
  rw [st_st2] at hD2
  go_wp2_with fail
  go_ret
  exact ⟨ret_int (by omega), hD2, HB.out.trans hB2⟩
theorem word_4 (w : World) (c S n : Nat) (hs : S < 18446744073709551616) (h : Dc w c S) (hn : 1 ≤ n) (hn2 : n ≤ 16) (h0 : rem (num S 1) 8 = 4) :
    Calls Try.prog 24 #[.pointer (some ⟨c, 0, none⟩), .int .i64 (n : Int)] w fun e w' => e = .returned (.int .u64 ((wv S n : Nat) : Int)) ∧ Dc w' c (st S (wu S)) ∧ But [c] w w' := by
  have H0 := Lib.hid h0
  have HS := Lib.hid hs
  have HH := Lib.hid h
  clear h0 hs h
  have HV : Hid (wv S n = 6 ∧ wu S = 1) := by
    show _ ∧ _
    have a := H0.out
    unfold wv wu
    simp [a]
  rw [HV.out.1, HV.out.2]
  go_enter Try.func24, Try.ntmps24
  go_wp2_with fail
  go_at_call 9; refine (below_lit _ c S 8 4 8 rfl HS.out HH.out (by omega) (by omega) (by rw [H0.out]; rfl)).mono ?_; rintro e w1 ⟨rfl, hD, hB⟩
  go_wp2_with fail
  go_ret
  exact ⟨rfl, hD, hB⟩
theorem word_x (w : World) (c S n : Nat) (hs : S < 18446744073709551616) (h : Dc w c S) (hn : 1 ≤ n) (hn2 : n ≤ 16) (h0 : 5 ≤ rem (num S 1) 8) :
    Calls Try.prog 24 #[.pointer (some ⟨c, 0, none⟩), .int .i64 (n : Int)] w fun e w' => e = .returned (.int .u64 ((wv S n : Nat) : Int)) ∧ Dc w' c (st S (wu S)) ∧ But [c] w w' := by
  have H0 := Lib.hid h0
  have HS := Lib.hid hs
  have HH := Lib.hid h
  clear h0 hs h
  obtain ⟨kv, HKV⟩ : ∃ kv : Int, Hid (((rem (num S 1) 8 : Nat) : Int) = kv) := ⟨_, rfl⟩
  have n0 : (kv == 0) = false := by have := HKV.out; have := H0.out; simp; omega
  have n1 : (kv == 1) = false := by have := HKV.out; have := H0.out; simp; omega
  have n2 : (kv == 2) = false := by have := HKV.out; have := H0.out; simp; omega
  have n3 : (kv == 3) = false := by have := HKV.out; have := H0.out; simp; omega
  have n4 : (kv == 4) = false := by have := HKV.out; have := H0.out; simp; omega
  obtain ⟨r, HR, hr⟩ : ∃ r : Nat, Hid (rem (num S 2) 16 = r) ∧ r < 16 := ⟨_, rfl, rem_lt _ _ (by omega)⟩
  have HV : Hid (wv S n = 1 + 8 * r ∧ wu S = 2) := by
    show _ ∧ _
    have a := H0.out
    unfold wv wu
    rw [HR.out]
    constructor <;> (repeat (first | rw [if_neg (by omega)]))
  rw [HV.out.1, HV.out.2]
  go_enter Try.func24, Try.ntmps24
  go_wp2_with fail
  go_at_call 9; refine (below_lit _ c S 8 kv 8 rfl HS.out HH.out (by omega) (by omega) HKV.out).mono ?_; rintro e w1 ⟨rfl, hD, hB⟩
  have HD := Lib.hid hD
  have HB := Lib.hid hB
  clear hD hB
  go_wp2_with fail
  go_at_call 27; refine (arg_any _ c (st S 1) 16 16 rfl (st_lt _ _) HD.out (by omega) (by omega)).mono ?_; rintro e w2 ⟨rfl, hD2, hB2⟩
  rw [num_st2, show rem (num S (1 + 1)) 16 = r from HR.out]
  rw [st_st2] at hD2
  go_wp2_with fail
  go_ret
  exact ⟨ret_int (by omega), hD2, HB.out.trans hB2⟩
theorem word_any (w : World) (c S n : Nat) (hs : S < 18446744073709551616) (h : Dc w c S) (hn : 1 ≤ n) (hn2 : n ≤ 16) :
    Calls Try.prog 24 #[.pointer (some ⟨c, 0, none⟩), .int .i64 (n : Int)] w fun e w' => e = .returned (.int .u64 ((wv S n : Nat) : Int)) ∧ Dc w' c (st S (wu S)) ∧ But [c] w w' := by
  have hlt := rem_lt (num S 1) 8 (by omega)
  by_cases h0 : rem (num S 1) 8 = 0
  · exact word_0 w c S n hs h hn hn2 h0
  by_cases h1 : rem (num S 1) 8 = 1
  · exact word_1 w c S n hs h hn hn2 h1
  by_cases h2 : rem (num S 1) 8 = 2
  · exact word_2 w c S n hs h hn hn2 h2
  by_cases h3 : rem (num S 1) 8 = 3
  · exact word_3 w c S n hs h hn hn2 h3
  by_cases h4 : rem (num S 1) 8 = 4
  · exact word_4 w c S n hs h hn hn2 h4
  · exact word_x w c S n hs h hn hn2 (by omega)
end Go.Proofs.Yteibdjbipfimeaa
