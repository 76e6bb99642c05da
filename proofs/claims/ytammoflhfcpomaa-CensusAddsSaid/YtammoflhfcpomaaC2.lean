/- The document's other counts. -/
import Derived.Test.YtammoflhfcpomaaC1
namespace Go.Proofs.Ytammoflhfcpomaa
open Go Go.RowKit
set_option linter.unusedVariables false
set_option linter.unusedSimpArgs false
set_option maxRecDepth 100000

theorem refOf_1 (w : World) (B n cap q : Nat) (A : Option Addr) (ev : Nat → Ev) (hn : n ≤ 1000) (h : SeesE w B A n ev) :
    Calls Try.prog 15 #[.slice A n cap, .int .i64 1, .int .i64 (q : Int)] w fun e w' => e = .returned (.int .i64 ((cR ev n q 0 : Nat) : Int)) ∧ w = w' := by
  have HS := Lib.hid h
  clear h
  go_enter Try.func15, Try.ntmps15
  go_wp2_with fail
  go_loop [7, 8] (fun c i => ∃ j : Nat, j ≤ n ∧ i = .int .i64 j ∧ c = .int .i64 ((cR ev j q 0 : Nat) : Int)) (fun _ i => n - (intOf i).toNat)
  case atStart => exact ⟨0, Nat.zero_le _, rfl, rfl⟩
  case round =>
    obtain ⟨j, hj, rfl, rfl⟩ := hrel
    have hle := cR_le ev j q 0
    by_cases hlt : j < n
    · obtain ⟨b, off, rfl, hB, hc⟩ := HS.out (by omega)
      have c0 := (hc j hlt).1
      have c1 := (hc j hlt).2.1
      have HU : Hid (cR ev (j + 1) q 0 = cR ev j q 0 + (if hit (ev j) q 0 = true then 1 else 0)) := rfl
      have HH : Hid (hit (ev j) q 0 = ((ev j).kind == 1 && (ev j).g == (q : Int))) := by show _ = _; simp [hit]
      clear hc
      by_cases hk : (ev j).kind = 1
      · by_cases hg : (ev j).g = (q : Int)
        · have HE : Hid (cR ev (j + 1) q 0 = cR ev j q 0 + 1) := by have e := HU.out; rw [HH.out, hk, hg] at e; (refine Lib.hid ?_; simpa using e)
          rw [hk] at c0
          rw [hg] at c1
          clear hk hg
          generalize cR ev j q 0 = cc at *
          go_wp2_with fail
          go_round
          case rel => exact ⟨j + 1, by omega, by go_num, by rw [HE.out]; go_num⟩
          case measure => simp [intOf]; omega
        · have HE : Hid (cR ev (j + 1) q 0 = cR ev j q 0) := by
            have e := HU.out
            have e2 : ((ev j).g == (q : Int)) = false := by simpa using hg
            rw [HH.out, e2] at e; (refine Lib.hid ?_; simpa using e)
          have hd : ((ev j).g == (q : Int)) = false := by simpa using hg
          rw [hk] at c0
          clear hk
          generalize (ev j).g = gg at *
          generalize cR ev j q 0 = cc at *
          go_wp2_with fail
          go_round
          case rel => exact ⟨j + 1, by omega, by go_num, by rw [HE.out]⟩
          case measure => simp [intOf]; omega
      · have HE : Hid (cR ev (j + 1) q 0 = cR ev j q 0) := by
          have e := HU.out
          have e2 : ((ev j).kind == 1) = false := by simpa using hk
          rw [HH.out, e2] at e; (refine Lib.hid ?_; simpa using e)
        have hd : ((ev j).kind == 1) = false := by simpa using hk
        generalize (ev j).kind = kk at *
        generalize cR ev j q 0 = cc at *
        go_wp2_with fail
        go_round
        case rel => exact ⟨j + 1, by omega, by go_num, by rw [HE.out]⟩
        case measure => simp [intOf]; omega
    · obtain rfl : j = n := by omega
      go_wp2_with fail
      go_ret
      exact ⟨rfl, rfl⟩
theorem refOf_9 (w : World) (B n cap q : Nat) (A : Option Addr) (ev : Nat → Ev) (hn : n ≤ 1000) (h : SeesE w B A n ev) :
    Calls Try.prog 15 #[.slice A n cap, .int .i64 9, .int .i64 (q : Int)] w fun e w' => e = .returned (.int .i64 ((cR ev n q 1 : Nat) : Int)) ∧ w = w' := by
  have HS := Lib.hid h
  clear h
  go_enter Try.func15, Try.ntmps15
  go_wp2_with fail
  go_loop [7, 8] (fun c i => ∃ j : Nat, j ≤ n ∧ i = .int .i64 j ∧ c = .int .i64 ((cR ev j q 1 : Nat) : Int)) (fun _ i => n - (intOf i).toNat)
  case atStart => exact ⟨0, Nat.zero_le _, rfl, rfl⟩
  case round =>
    obtain ⟨j, hj, rfl, rfl⟩ := hrel
    have hle := cR_le ev j q 1
    by_cases hlt : j < n
    · obtain ⟨b, off, rfl, hB, hc⟩ := HS.out (by omega)
      have c0 := (hc j hlt).1
      have c1 := (hc j hlt).2.1
      have HU : Hid (cR ev (j + 1) q 1 = cR ev j q 1 + (if hit (ev j) q 1 = true then 1 else 0)) := rfl
      have HH : Hid (hit (ev j) q 1 = ((ev j).kind == 9 && (ev j).g == (q : Int))) := by show _ = _; simp [hit]
      clear hc
      by_cases hk : (ev j).kind = 9
      · by_cases hg : (ev j).g = (q : Int)
        · have HE : Hid (cR ev (j + 1) q 1 = cR ev j q 1 + 1) := by have e := HU.out; rw [HH.out, hk, hg] at e; (refine Lib.hid ?_; simpa using e)
          rw [hk] at c0
          rw [hg] at c1
          clear hk hg
          generalize cR ev j q 1 = cc at *
          go_wp2_with fail
          go_round
          case rel => exact ⟨j + 1, by omega, by go_num, by rw [HE.out]; go_num⟩
          case measure => simp [intOf]; omega
        · have HE : Hid (cR ev (j + 1) q 1 = cR ev j q 1) := by
            have e := HU.out
            have e2 : ((ev j).g == (q : Int)) = false := by simpa using hg
            rw [HH.out, e2] at e; (refine Lib.hid ?_; simpa using e)
          have hd : ((ev j).g == (q : Int)) = false := by simpa using hg
          rw [hk] at c0
          clear hk
          generalize (ev j).g = gg at *
          generalize cR ev j q 1 = cc at *
          go_wp2_with fail
          go_round
          case rel => exact ⟨j + 1, by omega, by go_num, by rw [HE.out]⟩
          case measure => simp [intOf]; omega
      · have HE : Hid (cR ev (j + 1) q 1 = cR ev j q 1) := by
          have e := HU.out
          have e2 : ((ev j).kind == 9) = false := by simpa using hk
          rw [HH.out, e2] at e; (refine Lib.hid ?_; simpa using e)
        have hd : ((ev j).kind == 9) = false := by simpa using hk
        generalize (ev j).kind = kk at *
        generalize cR ev j q 1 = cc at *
        go_wp2_with fail
        go_round
        case rel => exact ⟨j + 1, by omega, by go_num, by rw [HE.out]⟩
        case measure => simp [intOf]; omega
    · obtain rfl : j = n := by omega
      go_wp2_with fail
      go_ret
      exact ⟨rfl, rfl⟩
theorem refOf_2 (w : World) (B n cap q : Nat) (A : Option Addr) (ev : Nat → Ev) (hn : n ≤ 1000) (h : SeesE w B A n ev) :
    Calls Try.prog 15 #[.slice A n cap, .int .i64 2, .int .i64 (q : Int)] w fun e w' => e = .returned (.int .i64 ((cR ev n q 2 : Nat) : Int)) ∧ w = w' := by
  have HS := Lib.hid h
  clear h
  go_enter Try.func15, Try.ntmps15
  go_wp2_with fail
  go_loop [7, 8] (fun c i => ∃ j : Nat, j ≤ n ∧ i = .int .i64 j ∧ c = .int .i64 ((cR ev j q 2 : Nat) : Int)) (fun _ i => n - (intOf i).toNat)
  case atStart => exact ⟨0, Nat.zero_le _, rfl, rfl⟩
  case round =>
    obtain ⟨j, hj, rfl, rfl⟩ := hrel
    have hle := cR_le ev j q 2
    by_cases hlt : j < n
    · obtain ⟨b, off, rfl, hB, hc⟩ := HS.out (by omega)
      have c0 := (hc j hlt).1
      have c1 := (hc j hlt).2.2.1
      have HU : Hid (cR ev (j + 1) q 2 = cR ev j q 2 + (if hit (ev j) q 2 = true then 1 else 0)) := rfl
      have HH : Hid (hit (ev j) q 2 = ((ev j).kind == 2 && (ev j).other == (q : Int))) := by show _ = _; simp [hit]
      clear hc
      by_cases hk : (ev j).kind = 2
      · by_cases hg : (ev j).other = (q : Int)
        · have HE : Hid (cR ev (j + 1) q 2 = cR ev j q 2 + 1) := by have e := HU.out; rw [HH.out, hk, hg] at e; (refine Lib.hid ?_; simpa using e)
          rw [hk] at c0
          rw [hg] at c1
          clear hk hg
          generalize cR ev j q 2 = cc at *
          go_wp2_with fail
          go_round
          case rel => exact ⟨j + 1, by omega, by go_num, by rw [HE.out]; go_num⟩
          case measure => simp [intOf]; omega
        · have HE : Hid (cR ev (j + 1) q 2 = cR ev j q 2) := by
            have e := HU.out
            have e2 : ((ev j).other == (q : Int)) = false := by simpa using hg
            rw [HH.out, e2] at e; (refine Lib.hid ?_; simpa using e)
          have hd : ((ev j).other == (q : Int)) = false := by simpa using hg
          rw [hk] at c0
          clear hk
          generalize (ev j).other = gg at *
          generalize cR ev j q 2 = cc at *
          go_wp2_with fail
          go_round
          case rel => exact ⟨j + 1, by omega, by go_num, by rw [HE.out]⟩
          case measure => simp [intOf]; omega
      · have HE : Hid (cR ev (j + 1) q 2 = cR ev j q 2) := by
          have e := HU.out
          have e2 : ((ev j).kind == 2) = false := by simpa using hk
          rw [HH.out, e2] at e; (refine Lib.hid ?_; simpa using e)
        have hd : ((ev j).kind == 2) = false := by simpa using hk
        generalize (ev j).kind = kk at *
        generalize cR ev j q 2 = cc at *
        go_wp2_with fail
        go_round
        case rel => exact ⟨j + 1, by omega, by go_num, by rw [HE.out]⟩
        case measure => simp [intOf]; omega
    · obtain rfl : j = n := by omega
      go_wp2_with fail
      go_ret
      exact ⟨rfl, rfl⟩
theorem refProc_any (w : World) (B n cap q : Nat) (A : Option Addr) (ev : Nat → Ev) (hn : n ≤ 1000) (h : SeesE w B A n ev) :
    Calls Try.prog 16 #[.slice A n cap, .int .i64 (q : Int)] w fun e w' => e = .returned (.int .i64 ((cP ev n q : Nat) : Int)) ∧ w = w' := by
  have HS := Lib.hid h
  clear h
  go_enter Try.func16, Try.ntmps16
  go_wp2_with fail
  go_loop [5, 6] (fun c i => ∃ j : Nat, j ≤ n ∧ i = .int .i64 j ∧ c = .int .i64 ((cP ev j q : Nat) : Int)) (fun _ i => n - (intOf i).toNat)
  case atStart => exact ⟨0, Nat.zero_le _, rfl, rfl⟩
  case round =>
    obtain ⟨j, hj, rfl, rfl⟩ := hrel
    have hle := cP_le ev j q
    by_cases hlt : j < n
    · obtain ⟨b, off, rfl, hB, hc⟩ := HS.out (by omega)
      have c0 := (hc j hlt).1
      have c1 := (hc j hlt).2.2.2.2
      have HU : Hid (cP ev (j + 1) q = cP ev j q + (if runs (ev j) q = true then 1 else 0)) := rfl
      have HH : Hid (runs (ev j) q = (((ev j).kind == 1 || (ev j).kind == 9) && (ev j).proc == (q : Int))) := rfl
      clear hc
      by_cases hk : (ev j).kind = 1 ∨ (ev j).kind = 9
      · by_cases hg : (ev j).proc = (q : Int)
        · have HE : Hid (cP ev (j + 1) q = cP ev j q + 1) := by
            have e := HU.out
            rw [HH.out, hg] at e
            rcases hk with hk | hk <;> (rw [hk] at e; refine Lib.hid ?_; simpa using e)
          rw [hg] at c1
          clear hg
          generalize cP ev j q = cc at *
          rcases hk with hk | hk
          all_goals
            rw [hk] at c0
            clear hk
            go_wp2_with fail
            go_round
            case rel => exact ⟨j + 1, by omega, by go_num, by rw [HE.out]; go_num⟩
            case measure => simp [intOf]; omega
        · have HE : Hid (cP ev (j + 1) q = cP ev j q) := by
            have e := HU.out
            have e2 : ((ev j).proc == (q : Int)) = false := by simpa using hg
            rw [HH.out, e2] at e; (refine Lib.hid ?_; simpa using e)
          have hd : ((ev j).proc == (q : Int)) = false := by simpa using hg
          generalize (ev j).proc = gg at *
          generalize cP ev j q = cc at *
          rcases hk with hk | hk
          all_goals
            rw [hk] at c0
            clear hk
            go_wp2_with fail
            go_round
            case rel => exact ⟨j + 1, by omega, by go_num, by rw [HE.out]⟩
            case measure => simp [intOf]; omega
      · have n1 : ((ev j).kind == 1) = false := by simp; omega
        have n9 : ((ev j).kind == 9) = false := by simp; omega
        have HE : Hid (cP ev (j + 1) q = cP ev j q) := by
          have e := HU.out
          rw [HH.out, n1, n9] at e; (refine Lib.hid ?_; simpa using e)
        generalize (ev j).kind = kk at *
        generalize cP ev j q = cc at *
        clear hk
        go_wp2_with fail
        go_round
        case rel => exact ⟨j + 1, by omega, by go_num, by rw [HE.out]⟩
        case measure => simp [intOf]; omega
    · obtain rfl : j = n := by omega
      go_wp2_with fail
      go_ret
      exact ⟨rfl, rfl⟩
theorem refNow_any (w : World) (B n cap : Nat) (A : Option Addr) (ev : Nat → Ev) (hn : n ≤ 1000) (h : SeesE w B A n ev) :
    Calls Try.prog 13 #[.slice A n cap] w fun e w' => e = .returned (.int .i64 (nowN ev n)) ∧ w = w' := by
  rw [nowN_cK]
  have HS := Lib.hid h
  have h1 := cK_le ev n 1
  have h4 := cK_le ev n 4
  have h5 := cK_le ev n 5
  have h6 := cK_le ev n 6
  have h8 := cK_le ev n 8
  have h9 := cK_le ev n 9
  have h11 := cK_le ev n 11
  clear h
  go_enter Try.func13, Try.ntmps13
  go_wp2_with fail
  go_at_call 14; refine (refKind_any _ B n cap 4 A ev 4 rfl (by omega) hn HS.out).mono ?_; rintro e w1 ⟨rfl, rfl⟩
  go_wp2_with fail
  go_at_call 14; refine (refKind_any _ B n cap 5 A ev 5 rfl (by omega) hn HS.out).mono ?_; rintro e w1 ⟨rfl, rfl⟩
  go_wp2_with fail
  go_at_call 14; refine (refKind_any _ B n cap 6 A ev 6 rfl (by omega) hn HS.out).mono ?_; rintro e w1 ⟨rfl, rfl⟩
  go_wp2_with fail
  go_at_call 14; refine (refKind_any _ B n cap 8 A ev 8 rfl (by omega) hn HS.out).mono ?_; rintro e w1 ⟨rfl, rfl⟩
  go_wp2_with fail
  go_at_call 14; refine (refKind_any _ B n cap 11 A ev 11 rfl (by omega) hn HS.out).mono ?_; rintro e w1 ⟨rfl, rfl⟩
  go_wp2_with fail
  go_at_call 14; refine (refKind_any _ B n cap 1 A ev 1 rfl (by omega) hn HS.out).mono ?_; rintro e w1 ⟨rfl, rfl⟩
  go_wp2_with fail
  go_at_call 14; refine (refKind_any _ B n cap 9 A ev 9 rfl (by omega) hn HS.out).mono ?_; rintro e w1 ⟨rfl, rfl⟩
  go_wp2_with fail
  go_ret
  exact ⟨ret_int (by omega), rfl⟩
theorem refMost_any (w : World) (B n cap : Nat) (A : Option Addr) (ev : Nat → Ev) (hn : n ≤ 1000) (hcap : n ≤ cap) (hA : A = none → cap = 0) (hcap2 : cap ≤ 9223372036854775807) (h : SeesE w B A n ev) :
    Calls Try.prog 12 #[.slice A n cap] w fun e w' => e = .returned (.int .i64 (mostN ev n)) ∧ w = w' := by
  have HS := Lib.hid h
  have HA := Lib.hid hA
  clear h hA
  go_enter Try.func12, Try.ntmps12
  go_wp2_with fail
  go_loop [3, 4] (fun c i => ∃ j : Nat, j ≤ n + 1 ∧ i = .int .i64 j ∧ c = .int .i64 (if j = 0 then 0 else mostN ev (j - 1))) (fun _ i => n + 1 - (intOf i).toNat)
  case atStart => exact ⟨0, Nat.zero_le _, rfl, rfl⟩
  case round =>
    obtain ⟨j, hj, rfl, rfl⟩ := hrel
    by_cases hlt : j ≤ n
    · have hjc : j ≤ cap := by omega
      have hnb := nowN_bd ev j
      obtain ⟨m, hm⟩ : ∃ m : Int, (if j = 0 then 0 else mostN ev (j - 1)) = m := ⟨_, rfl⟩
      have HMX : Hid (mostN ev j = max m (nowN ev j)) := by
        show _ = _
        rw [← hm]
        cases j with
        | zero => simp [mostN, nowN]
        | succ j => simp [mostN]
      rw [hm]
      clear hm
      go_wp2_with fail
      go_at_call 13; refine (refNow_any _ B j cap A ev (by omega) (HS.out.less hlt)).mono ?_; rintro e w1 ⟨rfl, rfl⟩
      generalize nowN ev j = nw at *
      rcases (show m < nw ∨ nw ≤ m by omega) with hmm | hmm
      · have HM2 : Hid (mostN ev j = nw) := by have e := HMX.out; rw [Int.max_eq_right (by omega)] at e; exact e
        go_wp2_with fail
        go_round
        case rel => exact ⟨j + 1, by omega, by go_num, by simp only [Nat.add_one_ne_zero, if_false, Nat.add_sub_cancel]; rw [HM2.out]⟩
        case measure => simp [intOf]; omega
      · have HM2 : Hid (mostN ev j = m) := by have e := HMX.out; rw [Int.max_eq_left (by omega)] at e; exact e
        have hmm2 : ¬ m < nw := by omega
        go_wp2_with fail
        go_round
        case rel => exact ⟨j + 1, by omega, by go_num, by simp only [Nat.add_one_ne_zero, if_false, Nat.add_sub_cancel]; rw [HM2.out]⟩
        case measure => simp [intOf]; omega
    · obtain rfl : j = n + 1 := by omega
      go_wp2_with fail
      go_ret
      exact ⟨ret_int (by simp), rfl⟩
end Go.Proofs.Ytammoflhfcpomaa
