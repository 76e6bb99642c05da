/- The law ReportWrites. -/
import Derived.Test.YtemdhcegelddlaaDoorF5
import Derived.Test.YtemdhcegelddlaaDoorF6
import Derived.Test.YtemdhcegelddlaaDoorE5
import Derived.Test.YtemdhcegelddlaaDoorE4
import Derived.Test.YtemdhcegelddlaaDoorF1
namespace Go.Proofs.YtemdhcegelddlaaDoor
open Go Go.RowKit
set_option linter.unusedVariables false
set_option linter.unusedSimpArgs false

theorem wrS_len {l : List En} (h : oksS l) (hl : l.length ≤ 65536) : (wrS l).length ≤ 61 * l.length := by
  have h1 := wrR_len (grp l.length l) (fun p hp => ⟨okR_grp h p hp, by have := mem_grp _ _ p hp; omega⟩)
  have h2 := grp_len l.length l
  unfold wrS
  omega

set_option maxRecDepth 100000 in
theorem lawWrites_big (w : World) (hT : Tab w) (A : Option Addr) (cp n : Nat) (h : 200 < n) : Calls Tryd.prog 4 #[.slice A n cp] w fun e w' => e = .returned (.bool true) ∧ Below w.heap.size w w' := by
  have HA := Lib.hid (awake_any w hT)
  clear hT
  have h1i : (200 : Int) < (n : Int) := by omega
  go_enter Tryd.func4, Tryd.ntmps4
  go_wp2_with fail
  go_at_call 11
  refine HA.out.mono ?_
  rintro e w1 ⟨rfl, hb⟩
  go_wp2
  go_ret
  exact ⟨rfl, hb⟩

set_option maxRecDepth 100000 in
set_option maxHeartbeats 4000000 in
theorem lawWrites_any (w : World) (hT : Tab w) (b : Nat) (A : Option Addr) (cp : Nat) (l : List En) (n : Nat) (hn : l.length = n) (hl : n ≤ 200) (hcp : n ≤ cp) (hs : Sees w b A l) : Calls Tryd.prog 4 #[.slice A n cp] w fun e w' => e = .returned (.bool true) ∧ Below w.heap.size w w' := by
  have HN := Lib.hid hn
  have HL := Lib.hid hl
  have HS := Lib.hid (fun (X : World) (hb : Below w.heap.size w X) => hs.below hb)
  have HTT := Lib.hid (fun (X : World) (hb : Below w.heap.size w X) => hT.below hb hT.size)
  have h1i : ¬ (200 : Int) < (n : Int) := by omega
  have HCP := Lib.hid hcp
  clear hs hn hT hl hcp
  go_enter Tryd.func4, Tryd.ntmps4
  go_wp2_with fail
  go_loopw [4, 3] (fun i r wx => ∃ (k : Nat) (rb : Bool), i = .int .i64 (k : Int) ∧ r = .bool rb ∧ k ≤ n ∧ Hid (rb = decide (oksS (l.take k)) ∧ Below w.heap.size w wx)) (fun i _ _ => n - (intOf i).toNat)
  case atStart => exact ⟨0, true, rfl, rfl, by omega, by symm; apply decide_eq_true; intro x hx; simp at hx, Below.refl _ _⟩
  case round =>
    obtain ⟨k, rb, rfl, rfl, hk, HB⟩ := hrel
    by_cases hlt : k < n
    · have hki : (k : Int) < (n : Int) := by omega
      have HKL : Hid (k < l.length) := by show k < _; rw [HN.out]; exact hlt
      have HON := Lib.hid (oksS_next HKL.out)
      cases rb with
      | false =>
        have HF : Hid (false = decide (oksS (l.take (k + 1)))) := by
          show false = decide _; symm
          apply decide_eq_false
          intro h
          have h1 := (HON.out.1 h).1
          have h2 := HB.out.1
          rw [decide_eq_true h1] at h2
          cases h2
        have HBB := Lib.hid HB.out.2
        clear HB HON
        go_wp2_with fail
        go_roundw
        case rel => exact ⟨k + 1, false, by go_num, rfl, by omega, HF.out, HBB.out⟩
        case measure => simp [intOf]; omega
      | true =>
        obtain ⟨off, rfl, hcs⟩ := HS.out wr HB.out.2 (by have := HKL.out; omega)
        obtain ⟨⟨x0, x1⟩, hx⟩ : ∃ x, at_ l k = x := ⟨_, rfl⟩
        obtain ⟨c0, c1⟩ := hcs k HKL.out
        rw [hx] at c0 c1 HON
        dsimp only at c0 c1
        have HF : Hid (decide (En.ok ⟨x0, x1⟩) = decide (oksS (l.take (k + 1)))) := by
          show _ = _
          rw [decide_eq_decide, HON.out]
          exact ⟨fun h => ⟨of_decide_eq_true HB.out.1.symm, h⟩, fun h => h.2⟩
        have HR : Hid (∀ y, Calls Tryd.prog 13 #[.agg #[.int .i64 x0, .int .i64 x1], .int .i64 256] y fun r w' => r = .returned (.bool (decide (En.ok ⟨x0, x1⟩))) ∧ Below y.heap.size y w') := fun y => rright_any ⟨x0, x1⟩ y
        generalize decide (En.ok ⟨x0, x1⟩) = dk at *
        have HBB := Lib.hid HB.out.2
        clear HB HON hx hcs
        go_wp2_with fail
        go_at_call 13
        refine (HR.out _).mono ?_
        rintro e w2 ⟨rfl, hb2⟩
        have HB2 := Lib.hid (HBB.out.trans (hb2.mono HBB.out.size))
        clear c0 c1 hb2 HR
        go_wp2_with fail
        go_roundw
        case rel => exact ⟨k + 1, dk, by go_num, rfl, by omega, HF.out, HB2.out⟩
        case measure => simp [intOf]; omega
    · obtain rfl : k = n := by omega
      have hki : ¬ (k : Int) < (k : Int) := by omega
      have HF : Hid (rb = decide (oksS l) ∧ Below w.heap.size w wr) := by
        have h := HB.out
        rw [← HN.out, List.take_length] at h
        exact h
      have HW := Lib.hid (write_en wr (HTT.out _ HF.out.2) b A cp l k HN.out (by have := HL.out; omega) HCP.out (HS.out _ HF.out.2))
      have HA := Lib.hid (fun (x : World) (hx : Below w.heap.size w x) => awake_any x (HTT.out x hx))
      clear HB
      by_cases hok : oksS l
      · have HRB : Hid (rb = true) := by have := HF.out.1; rw [decide_eq_true hok] at this; exact this
        obtain rfl := HRB.out
        have HOK := Lib.hid hok
        have hwl := wrS_len hok (by have := HN.out; have := HL.out; omega)
        have hrd : rdS (wrS l) = some l := rdS_wr hok (by have := HN.out; have := HL.out; omega)
        have HRDT := Lib.hid hrd
        have HRD := Lib.hid (fun (y : World) (hy : Tab y) => read_any (wrS l) (by have := HN.out; have := HL.out; omega) y hy)
        have HRW := Lib.hid (fun (y : World) (hy : Below w.heap.size w y) => rwrite_any y b A cp l k HN.out (by have := HL.out; omega) (HS.out _ hy) hok)
        obtain ⟨S, hS⟩ : ∃ X, bA (wrS l) = X := ⟨_, rfl⟩
        rw [hS] at HW HRD HRW
        clear hS hrd hwl hok HRB
        go_wp2_with fail
        go_at_call 14
        refine HW.out.mono ?_
        rintro e w1 ⟨(⟨-, rfl⟩ | ⟨hno, rfl⟩), hb⟩
        case inr => exact absurd HOK.out hno
        have HB1 := Lib.hid (HF.out.2.trans (hb.mono HF.out.2.size))
        clear hb HW
        go_wp2_with fail
        go_at_call 15
        refine (HRD.out _ (HTT.out _ HB1.out)).mono ?_
        rintro e w2 ⟨hb, (⟨m, A2, c2, hm, rfl, how⟩ | ⟨hm, rfl⟩)⟩
        case inr => rw [HRDT.out] at hm; cases hm
        rw [HRDT.out] at hm
        cases hm
        have HB2 := Lib.hid (HB1.out.trans (hb.mono HB1.out.size))
        have HO2 := Lib.hid how
        clear hb HRD HRDT how
        go_wp2_with fail
        go_at_call 11
        refine (HA.out _ HB2.out).mono ?_
        rintro e w3 ⟨rfl, hb⟩
        have HB3 := Lib.hid (HB2.out.trans (hb.mono HB2.out.size))
        have HO3 := Lib.hid (own_below HO2.out hb)
        clear hb HA HO2
        go_wp2_with fail
        go_at_call 16
        refine (HRW.out _ HB3.out).mono ?_
        rintro e w4 ⟨rfl, hb⟩
        have HB4 := Lib.hid (HB3.out.trans (hb.mono HB3.out.size))
        have HO4 := Lib.hid (own_below HO3.out hb)
        clear hb HRW HO3
        have HSA : Hid (Calls Tryd.prog 17 #[.slice A2 l.length c2, .slice A k cp] w4 fun e w' => e = .returned (.bool true) ∧ Below w.heap.size w w') := by
          obtain ⟨gg, -, hs⟩ := row_sees HO4.out
          have h := same_any w4 gg b A2 A c2 cp l l l.length k rfl HN.out (by have := HN.out; have := HL.out; omega) (by have := HL.out; omega) hs (HS.out _ HB4.out)
          refine h.mono ?_
          rintro e w' ⟨rfl, m, rfl⟩
          exact ⟨by simp, ⟨HB4.out.os, HB4.out.tape, HB4.out.output, HB4.out.size, HB4.out.block⟩⟩
        clear HO4
        go_wp2_with fail
        go_at_call 17
        refine HSA.out.mono ?_
        rintro e w7 ⟨rfl, hb⟩
        go_wp2_with fail
        go_ret
        exact ⟨rfl, hb⟩
      · have HRB : Hid (rb = false) := by have := HF.out.1; rw [decide_eq_false hok] at this; exact this
        obtain rfl := HRB.out
        have HOK := Lib.hid hok
        clear hok HRB
        go_wp2_with fail
        go_at_call 14
        refine HW.out.mono ?_
        rintro e w1 ⟨(⟨hno, rfl⟩ | ⟨-, rfl⟩), hb⟩
        case inl => exact absurd hno HOK.out
        have HB1 := Lib.hid (HF.out.2.trans (hb.mono HF.out.2.size))
        clear hb HW
        go_wp2_with fail
        go_at_call 11
        refine (HA.out _ HB1.out).mono ?_
        rintro e w3 ⟨rfl, hb⟩
        have HB3 := Lib.hid (HB1.out.trans (hb.mono HB1.out.size))
        go_wp2_with fail
        go_ret
        exact ⟨rfl, HB3.out⟩
end Go.Proofs.YtemdhcegelddlaaDoor
