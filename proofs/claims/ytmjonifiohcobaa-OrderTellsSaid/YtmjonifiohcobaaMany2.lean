/- The walk of the law OrderMany: three things and more. -/
import Derived.Test.YtmjonifiohcobaaMany
namespace Go.Proofs.Ytmjonifiohcobaa
open Go Go.RowKit
set_option linter.unusedVariables false
set_option linter.unusedSimpArgs false

theorem thrL_ok {n W : Nat} (h1 : 1 ≤ n) (h2 : n ≤ 64) : thrL n W = ordOf n W n := by unfold thrL; rw [if_pos ⟨by omega, by omega⟩]; simp

set_option maxHeartbeats 1000000 in
theorem orderMany_ok (n V U : Nat) (w : World) (h3 : 3 ≤ n) (h64 : n ≤ 64) (hV : V ≤ 18446744073709551615) (hU : U ≤ 18446744073709551615) : Calls Try.prog 9 #[.int .i64 n, .int .u64 V, .int .u64 U] w fun e w' => e = .returned (.bool true) ∧ Below w.heap.size w w' := by
  have hm := known_any n w
  rw [show decide (1 ≤ (n : Int) ∧ (n : Int) ≤ 64) = true by simp; omega] at hm
  have hS1 := fun Y => start_ok n V Y (by omega) h64
  have hS2 := fun Y => start_ok n U Y (by omega) h64
  have hP1 := fun Y => step_ok n V Y (by omega) h64 hV
  have hP2 := fun Y => step_ok n U Y (by omega) h64 hU
  have hO1 := fun Y => order_any n V Y hV
  have hO2 := fun Y => order_any n U Y hU
  rw [thrL_ok (by omega) h64] at hO1 hO2
  have hinj := ord_inj (V := V) (U := U) h3
  have hl1 : (ordOf n V n).length = n := by unfold ordOf; exact ordL_len _ _ _ _
  have hl2 : (ordOf n U n).length = n := by unfold ordOf; exact ordL_len _ _ _ _
  generalize ordOf n V n = L1 at hO1 hinj hl1
  generalize ordOf n U n = L2 at hO2 hinj hl2
  generalize V % n = s1 at hS1 hinj
  generalize U % n = s2 at hS2 hinj
  generalize stepAt n V = p1 at hP1 hinj
  generalize stepAt n U = p2 at hP2 hinj
  have HS1 : Hid (∀ Y : World, Calls Try.prog 32 #[.int .i64 n, .int .u64 V] Y fun e w' => e = .returned (.int .i64 ((s1 : Nat) : Int)) ∧ Y = w') := hS1
  have HS2 : Hid (∀ Y : World, Calls Try.prog 32 #[.int .i64 n, .int .u64 U] Y fun e w' => e = .returned (.int .i64 ((s2 : Nat) : Int)) ∧ Y = w') := hS2
  have HP1 : Hid (∀ Y : World, Calls Try.prog 33 #[.int .i64 n, .int .u64 V] Y fun e w' => e = .returned (.int .i64 ((p1 : Nat) : Int)) ∧ Below Y.heap.size Y w') := hP1
  have HP2 : Hid (∀ Y : World, Calls Try.prog 33 #[.int .i64 n, .int .u64 U] Y fun e w' => e = .returned (.int .i64 ((p2 : Nat) : Int)) ∧ Below Y.heap.size Y w') := hP2
  have HO1 : Hid (∀ Y : World, Calls Try.prog 27 #[.int .i64 n, .int .u64 V] Y fun e w' => ∃ v, e = .returned v ∧ Grows Y w' v L1) := hO1
  have HO2 : Hid (∀ Y : World, Calls Try.prog 27 #[.int .i64 n, .int .u64 U] Y fun e w' => ∃ v, e = .returned v ∧ Grows Y w' v L2) := hO2
  have HI : Hid (L1 = L2 ↔ s1 = s2 ∧ p1 = p2) := hinj
  have HL1 : Hid (L1.length = n) := hl1
  have HL2 : Hid (L2.length = n) := hl2
  have fin : Hid (∀ (Y : World) (A B : Option Addr) (c1 c2 : Nat), SeesN Y A L1 → SeesN Y B L2 → Calls Try.prog 36 #[.slice A n c1, .slice B n c2] Y fun e w' => e = .returned (.bool (decide (L1 = L2))) ∧ ∃ m, w' = Y.drewN m) := by
    show ∀ _ _ _ _ _, _
    intro Y A B c1 c2 hA hB
    have := sameN_any Y A B c1 c2 L1 L2 (by rw [hl1, hl2]) (by rw [hl1]; omega) hA hB
    rwa [hl1, hl2] at this
  clear hS1 hS2 hP1 hP2 hO1 hO2 hinj hl1 hl2
  by_cases hs : s1 = s2
  · by_cases hp : p1 = p2
    · have hd : Hid (decide (L1 = L2) = true) := by show _ = _; simpa using HI.out.2 ⟨hs, hp⟩
      subst hs
      subst hp
      clear HI
      go_enter Try.func9, Try.ntmps9
      go_wp2_with fail
      go_at_call 29; refine hm.mono ?_; clear hm; rintro e w1 ⟨rfl, rfl⟩
      go_wp2_with fail
      go_at_call 32; refine (HS1.out _).mono ?_; rintro e w1 ⟨rfl, rfl⟩
      go_wp2_with fail
      go_at_call 32; refine (HS2.out _).mono ?_; rintro e w1 ⟨rfl, rfl⟩
      go_wp2_with fail
      go_at_call 33; refine (HP1.out _).mono ?_; rintro e w1 ⟨rfl, hb1⟩
      go_wp2_with fail
      go_at_call 33; refine (HP2.out _).mono ?_; rintro e w2 ⟨rfl, hb2⟩
      have hbb := hb1.trans (hb2.mono hb1.size)
      go_wp2_with fail
      go_at_call 30; refine (awakeO_any _).mono ?_; rintro e w3 ⟨rfl, hb3⟩
      have hB3 := hbb.trans (hb3.mono hbb.size)
      go_wp2_with fail
      go_at_call 27; refine (HO1.out _).mono ?_; rintro e w4 ⟨v4, rfl, hG4⟩
      obtain ⟨A4, cap4, rfl⟩ := hG4.spelt
      have hs4 : SeesN w4 A4 L1 := hG4.sees
      have hB4 := hB3.trans (hG4.below.mono hB3.size)
      rw [HL1.out]
      clear hG4 hB3 hb3
      go_wp2_with fail
      go_at_call 27; refine (HO2.out _).mono ?_; rintro e w5 ⟨v5, rfl, hG5⟩
      obtain ⟨A5, cap5, rfl⟩ := hG5.spelt
      have hs5 : SeesN w5 A5 L2 := hG5.sees
      have hs45 : SeesN w5 A4 L1 := hs4.below hG5.below
      have hB5 := hB4.trans (hG5.below.mono hB4.size)
      rw [HL2.out]
      have hQ := fin.out w5 A4 A5 cap4 cap5 hs45 hs5
      rw [hd.out] at hQ
      clear hG5 hB4 hs4 hs5 hs45
      go_wp2_with fail
      go_at_call 36; refine hQ.mono ?_; clear hQ; rintro e w6 ⟨rfl, m, rfl⟩
      go_wp2_with fail
      go_ret
      exact ⟨rfl, hB5.trans ((below_drewN _ m).mono hB5.size)⟩
    · have hd : Hid (decide (L1 = L2) = false) := by show _ = _; simpa using fun h => hp (HI.out.1 h).2
      have hq : ((p1 : Int) == (p2 : Int)) = false := by rw [beq_eq_false_iff_ne]; intro h; exact hp (Int.ofNat.inj h)
      subst hs
      clear HI hp
      go_enter Try.func9, Try.ntmps9
      go_wp2_with fail
      go_at_call 29; refine hm.mono ?_; clear hm; rintro e w1 ⟨rfl, rfl⟩
      go_wp2_with fail
      go_at_call 32; refine (HS1.out _).mono ?_; rintro e w1 ⟨rfl, rfl⟩
      go_wp2_with fail
      go_at_call 32; refine (HS2.out _).mono ?_; rintro e w1 ⟨rfl, rfl⟩
      go_wp2_with fail
      go_at_call 33; refine (HP1.out _).mono ?_; rintro e w1 ⟨rfl, hb1⟩
      go_wp2_with fail
      go_at_call 33; refine (HP2.out _).mono ?_; rintro e w2 ⟨rfl, hb2⟩
      have hbb := hb1.trans (hb2.mono hb1.size)
      go_wp2_with fail
      go_at_call 30; refine (awakeO_any _).mono ?_; rintro e w3 ⟨rfl, hb3⟩
      have hB3 := hbb.trans (hb3.mono hbb.size)
      go_wp2_with fail
      go_at_call 27; refine (HO1.out _).mono ?_; rintro e w4 ⟨v4, rfl, hG4⟩
      obtain ⟨A4, cap4, rfl⟩ := hG4.spelt
      have hs4 : SeesN w4 A4 L1 := hG4.sees
      have hB4 := hB3.trans (hG4.below.mono hB3.size)
      rw [HL1.out]
      clear hG4 hB3 hb3
      go_wp2_with fail
      go_at_call 27; refine (HO2.out _).mono ?_; rintro e w5 ⟨v5, rfl, hG5⟩
      obtain ⟨A5, cap5, rfl⟩ := hG5.spelt
      have hs5 : SeesN w5 A5 L2 := hG5.sees
      have hs45 : SeesN w5 A4 L1 := hs4.below hG5.below
      have hB5 := hB4.trans (hG5.below.mono hB4.size)
      rw [HL2.out]
      have hQ := fin.out w5 A4 A5 cap4 cap5 hs45 hs5
      rw [hd.out] at hQ
      clear hG5 hB4 hs4 hs5 hs45
      go_wp2_with fail
      go_at_call 36; refine hQ.mono ?_; clear hQ; rintro e w6 ⟨rfl, m, rfl⟩
      go_wp2_with fail
      go_ret
      exact ⟨rfl, hB5.trans ((below_drewN _ m).mono hB5.size)⟩
  · have hd : Hid (decide (L1 = L2) = false) := by show _ = _; simpa using fun h => hs (HI.out.1 h).1
    have hq : ((s1 : Int) == (s2 : Int)) = false := by rw [beq_eq_false_iff_ne]; intro h; exact hs (Int.ofNat.inj h)
    clear HI hs
    go_enter Try.func9, Try.ntmps9
    go_wp2_with fail
    go_at_call 29; refine hm.mono ?_; clear hm; rintro e w1 ⟨rfl, rfl⟩
    go_wp2_with fail
    go_at_call 32; refine (HS1.out _).mono ?_; rintro e w1 ⟨rfl, rfl⟩
    go_wp2_with fail
    go_at_call 32; refine (HS2.out _).mono ?_; rintro e w1 ⟨rfl, rfl⟩
    have hb2 : Below w.heap.size w w := Below.refl _ _
    go_wp2_with fail
    go_at_call 30; refine (awakeO_any _).mono ?_; rintro e w3 ⟨rfl, hb3⟩
    have hB3 := hb2.trans (hb3.mono hb2.size)
    go_wp2_with fail
    go_at_call 27; refine (HO1.out _).mono ?_; rintro e w4 ⟨v4, rfl, hG4⟩
    obtain ⟨A4, cap4, rfl⟩ := hG4.spelt
    have hs4 : SeesN w4 A4 L1 := hG4.sees
    have hB4 := hB3.trans (hG4.below.mono hB3.size)
    rw [HL1.out]
    clear hG4 hB3 hb3
    go_wp2_with fail
    go_at_call 27; refine (HO2.out _).mono ?_; rintro e w5 ⟨v5, rfl, hG5⟩
    obtain ⟨A5, cap5, rfl⟩ := hG5.spelt
    have hs5 : SeesN w5 A5 L2 := hG5.sees
    have hs45 : SeesN w5 A4 L1 := hs4.below hG5.below
    have hB5 := hB4.trans (hG5.below.mono hB4.size)
    rw [HL2.out]
    have hQ := fin.out w5 A4 A5 cap4 cap5 hs45 hs5
    rw [hd.out] at hQ
    clear hG5 hB4 hs4 hs5 hs45
    go_wp2_with fail
    go_at_call 36; refine hQ.mono ?_; clear hQ; rintro e w6 ⟨rfl, m, rfl⟩
    go_wp2_with fail
    go_ret
    exact ⟨rfl, hB5.trans ((below_drewN _ m).mono hB5.size)⟩
end Go.Proofs.Ytmjonifiohcobaa
