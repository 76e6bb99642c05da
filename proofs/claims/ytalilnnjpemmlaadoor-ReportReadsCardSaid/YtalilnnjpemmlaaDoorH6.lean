/- The law ReportReads. -/
import Derived.Test.YtalilnnjpemmlaaDoorH5
namespace Go.Proofs.YtalilnnjpemmlaaDoor
open Go Go.RowKit
set_option linter.unusedVariables false
set_option linter.unusedSimpArgs false

set_option maxRecDepth 100000 in
theorem lawReads_big (w : World) (hT : Tab w) (A : Option Addr) (cp n : Nat) (s : List UInt8) (h : 400 < s.length ∨ 50 < n) : Calls Tryd.prog 6 #[.string (bA s), .slice A n cp] w fun e w' => e = .returned (.bool true) ∧ Below w.heap.size w w' := by
  have HA := Lib.hid (awake_any w hT)
  have hz := bA_size s
  clear hT
  by_cases h1 : 400 < s.length
  · have h1i : (400 : Int) < ((bA s).size : Int) := by rw [hz]; omega
    clear hz
    generalize bA s = S at *
    go_enter Tryd.func6, Tryd.ntmps6
    go_wp2_with fail
    go_at_call 7
    refine HA.out.mono ?_
    rintro e w1 ⟨rfl, hb⟩
    go_wp2
    go_ret
    exact ⟨rfl, hb⟩
  · have h1i : ¬ (400 : Int) < ((bA s).size : Int) := by rw [hz]; omega
    have h2i : (50 : Int) < (n : Int) := by omega
    clear hz
    generalize bA s = S at *
    go_enter Tryd.func6, Tryd.ntmps6
    go_wp2_with fail
    go_at_call 7
    refine HA.out.mono ?_
    rintro e w1 ⟨rfl, hb⟩
    go_wp2
    go_ret
    exact ⟨rfl, hb⟩

set_option maxRecDepth 100000 in
set_option maxHeartbeats 8000000 in
theorem lawReads_any (w : World) (hT : Tab w) (b : Nat) (A : Option Addr) (cp : Nat) (l : List Ev) (n : Nat) (hn : l.length = n) (hl : n ≤ 50) (hs : Sees w b A l) (s : List UInt8) (hsl : s.length ≤ 400) : Calls Tryd.prog 6 #[.string (bA s), .slice A n cp] w fun e w' => e = .returned (.bool true) ∧ Below w.heap.size w w' := by
  have HN := Lib.hid hn
  have HL := Lib.hid hl
  have HS := Lib.hid (fun (X : World) (hb : Below w.heap.size w X) => hs.below hb)
  have HTT := Lib.hid (fun (X : World) (hb : Below w.heap.size w X) => hT.below hb hT.size)
  have hz := bA_size s
  have h1i : ¬ (400 : Int) < ((bA s).size : Int) := by rw [hz]; omega
  have h2i : ¬ (50 : Int) < (n : Int) := by omega
  have HRD := Lib.hid (fun (y : World) (hy : Tab y) => read_any s (by omega) y hy)
  have HTL := Lib.hid (bA_list s)
  clear hs hn hT hl hz hsl
  obtain ⟨S, hS⟩ : ∃ X, bA s = X := ⟨_, rfl⟩
  rw [hS] at h1i HRD HTL
  rw [hS]
  have HSS := Lib.hid hS
  clear hS
  go_enter Tryd.func6, Tryd.ntmps6
  go_wp2_with fail
  go_loopw [6, 5] (fun i r wx => ∃ (k : Nat) (rb : Bool), i = .int .i64 (k : Int) ∧ r = .bool rb ∧ k ≤ n ∧ Hid (rb = decide (oks (l.take k)) ∧ Below w.heap.size w wx)) (fun i _ _ => n - (intOf i).toNat)
  case atStart => exact ⟨0, true, rfl, rfl, by omega, by symm; apply decide_eq_true; intro x hx; simp at hx, Below.refl _ _⟩
  case round =>
    obtain ⟨k, rb, rfl, rfl, hk, HB⟩ := hrel
    by_cases hlt : k < n
    · have hki : (k : Int) < (n : Int) := by omega
      have HKL : Hid (k < l.length) := by show k < _; rw [HN.out]; exact hlt
      have HON := Lib.hid (oks_next HKL.out)
      cases rb with
      | false =>
        have HF : Hid (false = decide (oks (l.take (k + 1)))) := by
          show false = decide _; symm
          apply decide_eq_false
          intro h
          have h1 := (HON.out.1 h).1
          have h2 := HB.out.1
          rw [decide_eq_true h1] at h2
          cases h2
        have HBB := Lib.hid HB.out.2
        clear HB HON
        go_wp2_with fail
        go_roundw
        case rel => exact ⟨k + 1, false, by go_num, rfl, by omega, HF.out, HBB.out⟩
        case measure => simp [intOf]; omega
      | true =>
        obtain ⟨off, rfl, hcs⟩ := HS.out wr HB.out.2 (by have := HKL.out; omega)
        obtain ⟨⟨x0, x1, x2, x3, x4⟩, hx⟩ : ∃ x, at_ l k = x := ⟨_, rfl⟩
        have c0 := hcs k 0 HKL.out (by omega)
        have c1 := hcs k 1 HKL.out (by omega)
        have c2 := hcs k 2 HKL.out (by omega)
        have c3 := hcs k 3 HKL.out (by omega)
        have c4 := hcs k 4 HKL.out (by omega)
        rw [hx] at c0 c1 c2 c3 c4 HON
        simp only [Ev.f, Nat.add_zero] at c0 c1 c2 c3 c4
        have HF : Hid (decide (Ev.ok ⟨x0, x1, x2, x3, x4⟩) = decide (oks (l.take (k + 1)))) := by
          show _ = _
          rw [decide_eq_decide, HON.out]
          exact ⟨fun h => ⟨of_decide_eq_true HB.out.1.symm, h⟩, fun h => h.2⟩
        have HR : Hid (∀ y, Calls Tryd.prog 13 #[.agg #[.int .i64 x0, .int .i64 x1, .int .i64 x2, .int .i64 x3, .int .i64 x4]] y fun r w' => r = .returned (.bool (decide (Ev.ok ⟨x0, x1, x2, x3, x4⟩))) ∧ Below y.heap.size y w') := fun y => rright_any ⟨x0, x1, x2, x3, x4⟩ y
        generalize decide (Ev.ok ⟨x0, x1, x2, x3, x4⟩) = dk at *
        have HBB := Lib.hid HB.out.2
        clear HB HON hx hcs
        go_wp2_with fail
        go_at_call 13
        refine (HR.out _).mono ?_
        rintro e w2 ⟨rfl, hb2⟩
        have HB2 := Lib.hid (HBB.out.trans (hb2.mono HBB.out.size))
        clear c0 c1 c2 c3 c4 hb2 HR
        go_wp2_with fail
        go_roundw
        case rel => exact ⟨k + 1, dk, by go_num, rfl, by omega, HF.out, HB2.out⟩
        case measure => simp [intOf]; omega
    · obtain rfl : k = n := by omega
      have hki : ¬ (k : Int) < (k : Int) := by omega
      have HF : Hid (rb = decide (oks l) ∧ Below w.heap.size w wr) := by
        have h := HB.out
        rw [← HN.out, List.take_length] at h
        exact h
      have HA := Lib.hid (fun (x : World) (hx : Below w.heap.size w x) => awake_any x (HTT.out x hx))
      clear HB
      go_wp2_with fail
      go_at_call 15
      refine (HRD.out _ (HTT.out _ HF.out.2)).mono ?_
      rintro e w2 ⟨hb, (⟨m, A2, c2, hm, rfl, how⟩ | ⟨hm, rfl⟩)⟩
      · have HM := Lib.hid (rdt_some hm)
        have HB2 := Lib.hid (HF.out.2.trans (hb.mono HF.out.2.size))
        obtain ⟨gg, -, hsm⟩ := row_sees how
        have HSM := Lib.hid (fun (X : World) (hb : Below w2.heap.size w2 X) => hsm.below hb)
        obtain ⟨mm, hmm⟩ : ∃ mm, m.length = mm := ⟨_, rfl⟩
        have HMM := Lib.hid hmm
        rw [hmm]
        clear hb how hsm HRD hm hmm HF
        go_wp2_with fail
        go_loopw [9] (fun i wx => ∃ (j : Nat), i = .int .i64 (j : Int) ∧ j ≤ mm ∧ Hid (Below w2.heap.size w2 wx)) (fun i _ => mm - (intOf i).toNat)
        case atStart => exact ⟨0, rfl, by omega, Below.refl _ _⟩
        case round =>
          obtain ⟨j, rfl, hj, HJ⟩ := hrel
          by_cases hjl : j < mm
          · have hji : (j : Int) < (mm : Int) := by omega
            have hjb : (j : Int) < 100000 := by have h1 := HM.out.2.2; have h2 := HMM.out; omega
            have HJL : Hid (j < m.length) := by show j < _; rw [HMM.out]; exact hjl
            obtain ⟨off, rfl, hcs⟩ := HSM.out wr HJ.out (by have := HJL.out; omega)
            obtain ⟨⟨x0, x1, x2, x3, x4⟩, hx⟩ : ∃ x, at_ m j = x := ⟨_, rfl⟩
            have c0 := hcs j 0 HJL.out (by omega)
            have c1 := hcs j 1 HJL.out (by omega)
            have c2' := hcs j 2 HJL.out (by omega)
            have c3 := hcs j 3 HJL.out (by omega)
            have c4 := hcs j 4 HJL.out (by omega)
            rw [hx] at c0 c1 c2' c3 c4
            simp only [Ev.f, Nat.add_zero] at c0 c1 c2' c3 c4
            have hok : Ev.ok ⟨x0, x1, x2, x3, x4⟩ := by rw [← hx]; exact HM.out.1 _ (at_mem HJL.out)
            have HR : Hid (∀ y, Calls Tryd.prog 13 #[.agg #[.int .i64 x0, .int .i64 x1, .int .i64 x2, .int .i64 x3, .int .i64 x4]] y fun r w' => r = .returned (.bool true) ∧ Below y.heap.size y w') := fun y => by
              have h := rright_any ⟨x0, x1, x2, x3, x4⟩ y
              rw [decide_eq_true hok] at h
              exact h
            clear hok hx hcs
            go_wp2_with fail
            go_at_call 13
            refine (HR.out _).mono ?_
            rintro e w3 ⟨rfl, hb3⟩
            have HB3 := Lib.hid (HJ.out.trans (hb3.mono HJ.out.size))
            clear c0 c1 c2' c3 c4 hb3 HR
            go_wp2_with fail
            go_roundw
            case rel => exact ⟨j + 1, by go_num, by omega, HB3.out⟩
            case measure => simp [intOf]; omega
          · obtain rfl : j = mm := by omega
            have hji : ¬ (j : Int) < (j : Int) := by omega
            have HBJ := Lib.hid (HB2.out.trans (HJ.out.mono HB2.out.size))
            go_wp2_with fail
            go_at_call 7
            refine (HA.out _ HBJ.out).mono ?_
            rintro e w3 ⟨rfl, hb⟩
            have HJ3 := Lib.hid (HJ.out.trans (hb.mono HJ.out.size))
            have HB3 := Lib.hid (HBJ.out.trans (hb.mono HBJ.out.size))
            have HRW : Hid (Calls Tryd.prog 18 #[.slice A2 j c2] w3 fun e w' => e = .returned (.string S) ∧ Below w3.heap.size w3 w') := by
              have h := rwrite_any w3 gg A2 c2 m j HMM.out (by have h1 := HM.out.2.2; have h2 := HMM.out; omega) (HSM.out _ HJ3.out) HM.out.1
              rw [HM.out.2.1, HSS.out] at h
              exact h
            clear hb HA HJ HJ3
            go_wp2_with fail
            go_at_call 18
            refine HRW.out.mono ?_
            rintro e w4 ⟨rfl, hb⟩
            have HB4 := Lib.hid (HB3.out.trans (hb.mono HB3.out.size))
            go_wp2_with fail
            go_ret
            exact ⟨rfl, HB4.out⟩
      · have HB2 := Lib.hid (HF.out.2.trans (hb.mono HF.out.2.size))
        by_cases hok : oks l
        · have HRB : Hid (rb = true) := by have := HF.out.1; rw [decide_eq_true hok] at this; exact this
          obtain rfl := HRB.out
          have hne : ¬ (bA (Go.Proofs.YtalilnnjpemmlaaDoor.wr l)).toList = S.toList := by
            rw [bA_list, HTL.out]
            intro h
            rw [← h, rdt_wr hok (by have := HN.out; have := HL.out; omega)] at hm
            cases hm
          have HRW := Lib.hid (fun (y : World) (hy : Below w.heap.size w y) => rwrite_any y b A cp l k HN.out (by have := HL.out; omega) (HS.out _ hy) hok)
          obtain ⟨S2, hS2⟩ : ∃ X, bA (Go.Proofs.YtalilnnjpemmlaaDoor.wr l) = X := ⟨_, rfl⟩
          rw [hS2] at hne HRW
          have hnb : (S2.toList == S.toList) = false := by rw [beq_eq_false_iff_ne]; exact hne
          clear hS2 hok HRB hm hb HRD
          go_wp2_with fail
          go_at_call 7
          refine (HA.out _ HB2.out).mono ?_
          rintro e w3 ⟨rfl, hb⟩
          have HB3 := Lib.hid (HB2.out.trans (hb.mono HB2.out.size))
          clear hb
          go_wp2_with fail
          go_at_call 18
          refine (HRW.out _ HB3.out).mono ?_
          rintro e w4 ⟨rfl, hb⟩
          have HB4 := Lib.hid (HB3.out.trans (hb.mono HB3.out.size))
          go_wp2_with fail
          go_ret
          exact ⟨rfl, HB4.out⟩
        · have HRB : Hid (rb = false) := by have := HF.out.1; rw [decide_eq_false hok] at this; exact this
          obtain rfl := HRB.out
          clear hok HRB hm hb HRD
          go_wp2_with fail
          go_at_call 7
          refine (HA.out _ HB2.out).mono ?_
          rintro e w3 ⟨rfl, hb⟩
          have HB3 := Lib.hid (HB2.out.trans (hb.mono HB2.out.size))
          go_wp2_with fail
          go_ret
          exact ⟨rfl, HB3.out⟩
end Go.Proofs.YtalilnnjpemmlaaDoor
