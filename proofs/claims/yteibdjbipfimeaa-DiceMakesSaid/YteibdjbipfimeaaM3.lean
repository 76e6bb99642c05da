/- Program words made up, by the document. -/
import Derived.Test.YteibdjbipfimeaaM2
namespace Go.Proofs.Yteibdjbipfimeaa
open Go Go.RowKit
set_option linter.unusedVariables false
set_option linter.unusedSimpArgs false
set_option maxRecDepth 100000

theorem refWord_0 (w : World) (r s N n : Nat) (hs : s < 18446744073709551616) (hN : N ≤ 90000) (h : Rd w r s N) (hn : 1 ≤ n) (hn2 : n ≤ 16) (h0 : rem (num (st s N) 1) 8 = 0) :
    Calls Try.prog 25 #[.pointer (some ⟨r, 0, none⟩), .int .i64 (n : Int)] w fun e w' => e = .returned (.int .u64 ((wv (st s N) n : Nat) : Int)) ∧ Rd w' r s (N + wu (st s N)) ∧ But [r] w w' := by
  have H0 := Lib.hid h0
  have HS := Lib.hid hs
  have HH := Lib.hid h
  clear h0 hs h
  obtain ⟨q, HR, hr⟩ : ∃ q : Nat, Hid (rem (num (st s N) 2) n = q) ∧ q < n := ⟨_, rfl, rem_lt _ _ (by omega)⟩
  have HV : Hid (wv (st s N) n = 2 + 8 * q ∧ wu (st s N) = 2) := by
    show _ ∧ _
    have a := H0.out
    unfold wv wu
    simp [a, HR.out]
  rw [HV.out.1, HV.out.2]
  go_enter Try.func25, Try.ntmps25
  go_wp2_with fail
  go_at_call 8; refine (refBelow_lit _ r s N 8 0 8 rfl HS.out (by omega) HH.out (by omega) (by omega) (by rw [← num_st2, H0.out]; rfl)).mono ?_; rintro e w1 ⟨rfl, hD, hB⟩
  have HD := Lib.hid hD
  have HB := Lib.hid hB
  clear hD hB
  go_wp2_with fail
  go_at_call 8; refine (refBelow_lit _ r s (N + 1) n q n rfl HS.out (by omega) HD.out (by omega) (by omega) (by rw [show N + 1 + 1 = N + 2 by omega, ← num_st2, HR.out])).mono ?_; rintro e w2 ⟨rfl, hD2, hB2⟩
  go_wp2_with fail
  go_ret
  exact ⟨ret_int (by omega), hD2, HB.out.trans hB2⟩
theorem refWord_1 (w : World) (r s N n : Nat) (hs : s < 18446744073709551616) (hN : N ≤ 90000) (h : Rd w r s N) (hn : 1 ≤ n) (hn2 : n ≤ 16) (h0 : rem (num (st s N) 1) 8 = 1) :
    Calls Try.prog 25 #[.pointer (some ⟨r, 0, none⟩), .int .i64 (n : Int)] w fun e w' => e = .returned (.int .u64 ((wv (st s N) n : Nat) : Int)) ∧ Rd w' r s (N + wu (st s N)) ∧ But [r] w w' := by
  have H0 := Lib.hid h0
  have HS := Lib.hid hs
  have HH := Lib.hid h
  clear h0 hs h
  have HV : Hid (wv (st s N) n = 3 ∧ wu (st s N) = 1) := by
    show _ ∧ _
    have a := H0.out
    unfold wv wu
    simp [a]
  rw [HV.out.1, HV.out.2]
  go_enter Try.func25, Try.ntmps25
  go_wp2_with fail
  go_at_call 8; refine (refBelow_lit _ r s N 8 1 8 rfl HS.out (by omega) HH.out (by omega) (by omega) (by rw [← num_st2, H0.out]; rfl)).mono ?_; rintro e w1 ⟨rfl, hD, hB⟩
  go_wp2_with fail
  go_ret
  exact ⟨rfl, hD, hB⟩
theorem refWord_2 (w : World) (r s N n : Nat) (hs : s < 18446744073709551616) (hN : N ≤ 90000) (h : Rd w r s N) (hn : 1 ≤ n) (hn2 : n ≤ 16) (h0 : rem (num (st s N) 1) 8 = 2) :
    Calls Try.prog 25 #[.pointer (some ⟨r, 0, none⟩), .int .i64 (n : Int)] w fun e w' => e = .returned (.int .u64 ((wv (st s N) n : Nat) : Int)) ∧ Rd w' r s (N + wu (st s N)) ∧ But [r] w w' := by
  have H0 := Lib.hid h0
  have HS := Lib.hid hs
  have HH := Lib.hid h
  clear h0 hs h
  have HV : Hid (wv (st s N) n = 4 ∧ wu (st s N) = 1) := by
    show _ ∧ _
    have a := H0.out
    unfold wv wu
    simp [a]
  rw [HV.out.1, HV.out.2]
  go_enter Try.func25, Try.ntmps25
  go_wp2_with fail
  go_at_call 8; refine (refBelow_lit _ r s N 8 2 8 rfl HS.out (by omega) HH.out (by omega) (by omega) (by rw [← num_st2, H0.out]; rfl)).mono ?_; rintro e w1 ⟨rfl, hD, hB⟩
  go_wp2_with fail
  go_ret
  exact ⟨rfl, hD, hB⟩
theorem refWord_3 (w : World) (r s N n : Nat) (hs : s < 18446744073709551616) (hN : N ≤ 90000) (h : Rd w r s N) (hn : 1 ≤ n) (hn2 : n ≤ 16) (h0 : rem (num (st s N) 1) 8 = 3) :
    Calls Try.prog 25 #[.pointer (some ⟨r, 0, none⟩), .int .i64 (n : Int)] w fun e w' => e = .returned (.int .u64 ((wv (st s N) n : Nat) : Int)) ∧ Rd w' r s (N + wu (st s N)) ∧ But [r] w w' := by
  have H0 := Lib.hid h0
  have HS := Lib.hid hs
  have HH := Lib.hid h
  clear h0 hs h
  obtain ⟨q, HR, hr⟩ : ∃ q : Nat, Hid (rem (num (st s N) 2) 8 = q) ∧ q < 8 := ⟨_, rfl, rem_lt _ _ (by omega)⟩
  have HV : Hid (wv (st s N) n = 5 + 8 * q ∧ wu (st s N) = 2) := by
    show _ ∧ _
    have a := H0.out
    unfold wv wu
    simp [a, HR.out]
  rw [HV.out.1, HV.out.2]
  go_enter Try.func25, Try.ntmps25
  go_wp2_with fail
  go_at_call 8; refine (refBelow_lit _ r s N 8 3 8 rfl HS.out (by omega) HH.out (by omega) (by omega) (by rw [← num_st2, H0.out]; rfl)).mono ?_; rintro e w1 ⟨rfl, hD, hB⟩
  have HD := Lib.hid hD
  have HB := Lib.hid hB
  clear hD hB
  go_wp2_with fail
  go_at_call 8; refine (refBelow_lit _ r s (N + 1) 8 q 8 rfl HS.out (by omega) HD.out (by omega) (by omega) (by rw [show N + 1 + 1 = N + 2 by omega, ← num_st2, HR.out])).mono ?_; rintro e w2 ⟨rfl, hD2, hB2⟩
  go_wp2_with fail
  go_ret
  exact ⟨ret_int (by omega), hD2, HB.out.trans hB2⟩
theorem refWord_4 (w : World) (r s N n : Nat) (hs : s < 18446744073709551616) (hN : N ≤ 90000) (h : Rd w r s N) (hn : 1 ≤ n) (hn2 : n ≤ 16) (h0 : rem (num (st s N) 1) 8 = 4) :
    Calls Try.prog 25 #[.pointer (some ⟨r, 0, none⟩), .int .i64 (n : Int)] w fun e w' => e = .returned (.int .u64 ((wv (st s N) n : Nat) : Int)) ∧ Rd w' r s (N + wu (st s N)) ∧ But [r] w w' := by
  have H0 := Lib.hid h0
  have HS := Lib.hid hs
  have HH := Lib.hid h
  clear h0 hs h
  have HV : Hid (wv (st s N) n = 6 ∧ wu (st s N) = 1) := by
    show _ ∧ _
    have a := H0.out
    unfold wv wu
    simp [a]
  rw [HV.out.1, HV.out.2]
  go_enter Try.func25, Try.ntmps25
  go_wp2_with fail
  go_at_call 8; refine (refBelow_lit _ r s N 8 4 8 rfl HS.out (by omega) HH.out (by omega) (by omega) (by rw [← num_st2, H0.out]; rfl)).mono ?_; rintro e w1 ⟨rfl, hD, hB⟩
  go_wp2_with fail
  go_ret
  exact ⟨rfl, hD, hB⟩
theorem refWord_x (w : World) (r s N n : Nat) (hs : s < 18446744073709551616) (hN : N ≤ 90000) (h : Rd w r s N) (hn : 1 ≤ n) (hn2 : n ≤ 16) (h0 : 5 ≤ rem (num (st s N) 1) 8) :
    Calls Try.prog 25 #[.pointer (some ⟨r, 0, none⟩), .int .i64 (n : Int)] w fun e w' => e = .returned (.int .u64 ((wv (st s N) n : Nat) : Int)) ∧ Rd w' r s (N + wu (st s N)) ∧ But [r] w w' := by
  have H0 := Lib.hid h0
  have HS := Lib.hid hs
  have HH := Lib.hid h
  clear h0 hs h
  obtain ⟨kv, HKV⟩ : ∃ kv : Int, Hid (((rem (num (st s N) 1) 8 : Nat) : Int) = kv) := ⟨_, rfl⟩
  have n0 : (kv == 0) = false := by have := HKV.out; have := H0.out; simp; omega
  have n1 : (kv == 1) = false := by have := HKV.out; have := H0.out; simp; omega
  have n2 : (kv == 2) = false := by have := HKV.out; have := H0.out; simp; omega
  have n3 : (kv == 3) = false := by have := HKV.out; have := H0.out; simp; omega
  have n4 : (kv == 4) = false := by have := HKV.out; have := H0.out; simp; omega
  obtain ⟨q, HR, hr⟩ : ∃ q : Nat, Hid (rem (num (st s N) 2) 16 = q) ∧ q < 16 := ⟨_, rfl, rem_lt _ _ (by omega)⟩
  have HV : Hid (wv (st s N) n = 1 + 8 * q ∧ wu (st s N) = 2) := by
    show _ ∧ _
    have a := H0.out
    unfold wv wu
    rw [HR.out]
    constructor <;> (repeat (first | rw [if_neg (by omega)]))
  rw [HV.out.1, HV.out.2]
  go_enter Try.func25, Try.ntmps25
  go_wp2_with fail
  go_at_call 8; refine (refBelow_lit _ r s N 8 kv 8 rfl HS.out (by omega) HH.out (by omega) (by omega) (by rw [← num_st2]; exact HKV.out)).mono ?_; rintro e w1 ⟨rfl, hD, hB⟩
  have HD := Lib.hid hD
  have HB := Lib.hid hB
  clear hD hB
  go_wp2_with fail
  go_at_call 8; refine (refBelow_lit _ r s (N + 1) 16 q 16 rfl HS.out (by omega) HD.out (by omega) (by omega) (by rw [show N + 1 + 1 = N + 2 by omega, ← num_st2, HR.out])).mono ?_; rintro e w2 ⟨rfl, hD2, hB2⟩
  go_wp2_with fail
  go_ret
  exact ⟨ret_int (by omega), hD2, HB.out.trans hB2⟩
theorem refWord_any (w : World) (r s N n : Nat) (hs : s < 18446744073709551616) (hN : N ≤ 90000) (h : Rd w r s N) (hn : 1 ≤ n) (hn2 : n ≤ 16) :
    Calls Try.prog 25 #[.pointer (some ⟨r, 0, none⟩), .int .i64 (n : Int)] w fun e w' => e = .returned (.int .u64 ((wv (st s N) n : Nat) : Int)) ∧ Rd w' r s (N + wu (st s N)) ∧ But [r] w w' := by
  have hlt := rem_lt (num (st s N) 1) 8 (by omega)
  by_cases h0 : rem (num (st s N) 1) 8 = 0
  · exact refWord_0 w r s N n hs hN h hn hn2 h0
  by_cases h1 : rem (num (st s N) 1) 8 = 1
  · exact refWord_1 w r s N n hs hN h hn hn2 h1
  by_cases h2 : rem (num (st s N) 1) 8 = 2
  · exact refWord_2 w r s N n hs hN h hn hn2 h2
  by_cases h3 : rem (num (st s N) 1) 8 = 3
  · exact refWord_3 w r s N n hs hN h hn hn2 h3
  by_cases h4 : rem (num (st s N) 1) 8 = 4
  · exact refWord_4 w r s N n hs hN h hn hn2 h4
  · exact refWord_x w r s N n hs hN h hn hn2 (by omega)
end Go.Proofs.Yteibdjbipfimeaa
