/- RingMany: the page's example, and the law. -/
import Derived.Test.YtlnjjcfkcoaceaaRing3
import Derived.Test.YtlnjjcfkcoaceaaNote3
namespace Go.Proofs.Ytlnjjcfkcoaceaa
open Go Go.RowKit
set_option linter.unusedVariables false
set_option maxRecDepth 100000
set_option linter.unusedSimpArgs false


theorem many_any (h t : Int) (w : World) (hh : 0 ≤ h ∧ h ≤ 18446744073709551615) (ht : 0 ≤ t ∧ t ≤ 18446744073709551615) :
    Calls Try.prog 60 #[.int .u64 h, .int .u64 t] w fun e w' => e = .returned (.int .u64 ((t - h) % 4294967296)) ∧ w = w' := by
  have e1 : IntKind.u64.wrap (t - h) = (t - h) % 18446744073709551616 := by simp [IntKind.wrap, IntKind.bits, IntKind.signed]
  have hb : 0 ≤ (t - h) % 18446744073709551616 := Int.emod_nonneg _ (by omega)
  have e2 : Int.tmod ((t - h) % 18446744073709551616) 4294967296 = (t - h) % 4294967296 := by
    rw [Int.tmod_eq_emod_of_nonneg hb]
    omega
  have e3 : IntKind.u64.wrap ((t - h) % 4294967296) = (t - h) % 4294967296 := wrap_u64 (by omega)
  go_enter Try.func60, Try.ntmps60
  go_wp2_with fail
  go_ret
  first
    | exact ⟨rfl, rfl⟩
    | exact ⟨by rw [e1, e2, e3], rfl⟩
    | exact ⟨by rw [e1, e2], rfl⟩

theorem refmany_any (h t : Int) (w : World) (hh : 0 ≤ h ∧ h ≤ 18446744073709551615) (ht : 0 ≤ t ∧ t ≤ 18446744073709551615) :
    Calls Try.prog 62 #[.int .u64 h, .int .u64 t] w fun e w' => e = .returned (.int .u64 ((t - h) % 4294967296)) ∧ w = w' := by
  have e1 : Int.tmod h 4294967296 = h % 4294967296 := Int.tmod_eq_emod_of_nonneg hh.1
  have e2 : Int.tmod t 4294967296 = t % 4294967296 := Int.tmod_eq_emod_of_nonneg ht.1
  have e3 : IntKind.u64.wrap (h % 4294967296) = h % 4294967296 := wrap_u64 (by omega)
  have e4 : IntKind.u64.wrap (t % 4294967296) = t % 4294967296 := wrap_u64 (by omega)
  by_cases hlt : t % 4294967296 < h % 4294967296
  · have e5 : IntKind.u64.wrap (t % 4294967296 + 4294967296) = t % 4294967296 + 4294967296 := wrap_u64 (by omega)
    have e6 : IntKind.u64.wrap (t % 4294967296 + 4294967296 - h % 4294967296) = (t - h) % 4294967296 := by rw [wrap_u64 (by omega)]; omega
    go_enter Try.func62, Try.ntmps62
    go_wp2_with fail
    go_ret
    first
      | exact ⟨rfl, rfl⟩
      | exact ⟨by rw [← e6], rfl⟩
  · have d : decide (t % 4294967296 < h % 4294967296) = false := decide_eq_false hlt
    have e6 : IntKind.u64.wrap (t % 4294967296 - h % 4294967296) = (t - h) % 4294967296 := by rw [wrap_u64 (by omega)]; omega
    clear hlt
    go_enter Try.func62, Try.ntmps62
    go_wp2_with fail
    go_ret
    first
      | exact ⟨rfl, rfl⟩
      | exact ⟨by rw [← e6], rfl⟩

theorem isf_bd {w : World} {T : TypeId} {A : Option Addr} {cap c b n : Nat} {s : St} (h : Is w T A cap c b n s) (i : Int) : 0 ≤ peekT n s i ∧ peekT n s i ≤ 18446744073709551615 := by
  unfold peekT
  split
  · exact h.bd _ (by omega)
  · omega
theorem see_any (w : World) (cl : Nat) (P T G p : Int) (A : Option Addr) (cap c b n : Nat) (s : St) (hL : Lay w cl P T G) (hp : 0 ≤ P ∧ P ≤ 64) (hI : Is w 122 A cap c b n s) (hn : n ≤ 1000000) :
    Calls Try.prog 148 #[.pointer (some ⟨cl, 0, none⟩), .pointer (some ⟨c, 0, none⟩), .int .i64 p] w fun e w' => e = .returned (.tuple #[.int .u64 (peekT n s (wd 20 P 264 p 1)), .int .u64 ((peekT n s (wd 20 P 264 p 2) - peekT n s (wd 20 P 264 p 1)) % 4294967296), .int .u64 (peekT n s (wd 20 P 264 p 3))]) ∧ Below w.heap.size w w' := by
  have h1 := fun Y (hY : Lay Y cl P T G) => layproc_any (some ⟨cl, 0, none⟩) P T G p 1 Y (.some cl hY) hp (by omega)
  have h2 := fun Y (hY : Lay Y cl P T G) => layproc_any (some ⟨cl, 0, none⟩) P T G p 2 Y (.some cl hY) hp (by omega)
  have h3 := fun Y (hY : Lay Y cl P T G) => layproc_any (some ⟨cl, 0, none⟩) P T G p 3 Y (.some cl hY) hp (by omega)
  have HL : Hid (∀ Y, Below w.heap.size w Y → Lay Y cl P T G) := fun Y hY => hL.below hY hL.lt
  have HI : Hid (∀ Y, Below w.heap.size w Y → Is Y 122 A cap c b n s) := fun Y hY => hI.below hY
  have b1 := isf_bd hI (wd 20 P 264 p 1)
  have b2 := isf_bd hI (wd 20 P 264 p 2)
  generalize wd 20 P 264 p 1 = i1 at *
  generalize wd 20 P 264 p 2 = i2 at *
  generalize wd 20 P 264 p 3 = i3 at *
  have hM := fun w => many_any (peekT n s i1) (peekT n s i2) w b1 b2
  have P1 := fun Y (h : Is Y 122 A cap c b n s) => peek_any Y A cap c b n s i1 h hn
  have P2 := fun Y (h : Is Y 122 A cap c b n s) => peek_any Y A cap c b n s i2 h hn
  have P3 := fun Y (h : Is Y 122 A cap c b n s) => peek_any Y A cap c b n s i3 h hn
  clear hL hI b1 b2
  generalize peekT n s i1 = v1 at *
  generalize peekT n s i2 = v2 at *
  generalize peekT n s i3 = v3 at *
  go_enter Try.func148, Try.ntmps148
  go_wp2_with fail
  go_at_call 150; refine (h1 w (HL.out w (Below.refl _ _))).mono ?_; rintro e w1 ⟨rfl, k1⟩
  go_wp2_with fail
  go_at_call 36; refine (P1 w1 (HI.out w1 k1)).mono ?_; rintro e w2 ⟨rfl, rfl⟩
  go_wp2_with fail
  go_at_call 150; refine (h2 w1 (HL.out w1 k1)).mono ?_; rintro e w3 ⟨rfl, k3⟩
  have k3' := seq k1 k3
  go_wp2_with fail
  go_at_call 36; refine (P2 w3 (HI.out w3 k3')).mono ?_; rintro e w4 ⟨rfl, rfl⟩
  go_wp2_with fail
  go_at_call 150; refine (h3 w3 (HL.out w3 k3')).mono ?_; rintro e w5 ⟨rfl, k5⟩
  have k5' := seq k3' k5
  go_wp2_with fail
  go_at_call 36; refine (P3 w5 (HI.out w5 k5')).mono ?_; rintro e w6 ⟨rfl, rfl⟩
  go_wp2_with fail
  go_at_call 60; refine (hM w5).mono ?_; rintro e w7 ⟨rfl, rfl⟩
  clear h1 h2 h3 P1 P2 P3 hM
  go_wp2_with fail
  go_returns
  exact ⟨rfl, k5'⟩
theorem rempty_zero (w : World) (cl : Nat) (P T G p : Int) (A : Option Addr) (cap c b n : Nat) (s : St) (hL : Lay w cl P T G) (hp : 0 ≤ P ∧ P ≤ 64) (hI : Is w 122 A cap c b n s) (hn : n ≤ 1000000) (h0 : s.f = fun _ => 0) :
    Calls Try.prog 114 #[.pointer (some ⟨cl, 0, none⟩), .pointer (some ⟨c, 0, none⟩), .int .i64 p] w fun e w' => e = .returned (.bool true) ∧ Below w.heap.size w w' := by
  have hS := see_any w cl P T G p A cap c b n s hL hp hI hn
  have e0 : ∀ i, peekT n s i = 0 := fun i => by unfold peekT; rw [h0]; split <;> rfl
  rw [e0, e0, e0, show ((0 : Int) - 0) % 4294967296 = 0 from rfl] at hS
  clear e0 hL hI h0
  go_enter Try.func114, Try.ntmps114
  go_wp2_with fail
  go_at_call 148; refine hS.mono ?_; rintro e w1 ⟨rfl, k1⟩
  go_wp2_with fail
  go_ret
  exact ⟨rfl, k1⟩

theorem lkA_zero {s : St} (h0 : s.f = fun _ => 0) (P p : Int) (n ph : Nat) : lkA P p n ph s = 0 := by
  unfold lkA ans
  rw [h0]
  split
  · simp
  · rfl
theorem lkS_f {s : St} (P who p : Int) (n ph : Nat) : (lkS P who p n ph s).f = s.f := by
  unfold lkS stp
  split
  · split
    · simp
    · rfl
  · rfl
theorem lkS_clock {s : St} (P who p : Int) (n ph : Nat) (h : ph < 4) : (lkS P who p n ph s).clock = s.clock + 1 := by
  unfold lkS stp
  rw [if_pos h]
  split <;> rfl

set_option maxHeartbeats 1000000 in
theorem ring_awake (w : World) : Calls Try.prog 61 #[] w fun e w' => e = .returned (.bool true) ∧ Below w.heap.size w w' := by
  have hL := lay_some 1 1 1 none 0 0 289 (fun _ => 0) (fun _ => 0) w (by omega) ⟨⟨by omega⟩, by omega, by omega, by omega⟩ (by omega) (fun h => absurd h (by omega)) (fun i h => absurd h (by omega))
  have hM := fun w => many_any 4294967295 2 w (by omega) (by omega)
  rw [show ((2 : Int) - 4294967295) % 4294967296 = 3 from rfl] at hM
  go_enter Try.func61, Try.ntmps61
  go_wp2_with fail
  go_at_call 30; refine hL.mono ?_; rintro e w1 ⟨cl, A, A', cap, cap', c, b, c', b', rfl, hLd⟩
  have HL : Hid (Laid w w1 1 1 1 289 (fun _ => 0) cl A A' cap cap' c b c' b') := hLd
  have hN := look_new w1 cl 1 1 1 0 0 HL.out.lay (by omega)
  clear hL hLd
  go_wp2_with fail
  go_at_call 63; refine hN.mono ?_; rintro e w2 ⟨x, q, rfl, hx, hq, hb, h1, h2⟩
  have HLk0 : Hid (Lk w2 x cl 1 0 0 q 0 0 0 0 false) := .s0 q hx hq (by omega)
  obtain ⟨l1, l2, l3, l4, l5⟩ := laid_ground HL.out
  have HI0 : Hid (Is w2 122 A cap c b 289 (fresh fun _ => 0)) := HL.out.two.m.below hb
  have HL0 : Hid (Lay w2 cl 1 1 1) := HL.out.lay.below hb HL.out.lay.lt
  have hne := lay_ne HL.out.lay (by decide) HL.out.two.m (by omega)
  have hxc : x ≠ c := by omega
  have hxb : x ≠ b := by omega
  have hcx : cl ≠ x := by omega
  have hqq : Hid (q ≠ c ∧ q ≠ b) := ⟨by omega, by omega⟩
  have HB2 : Hid (Below w.heap.size w w2) := seq HL.out.below hb
  have hup : Hid (w.heap.size ≤ c ∧ w.heap.size ≤ b ∧ w.heap.size ≤ x) := by
    have := HL.out.up; have := HL.out.below.size
    exact ⟨by omega, by omega, by omega⟩
  have hlt2 : Hid (c < w2.heap.size ∧ b < w2.heap.size) := ⟨HI0.out.lt, HI0.out.bl⟩
  clear hN hx hq hb HL l1 l2 l3 l4 l5 h1 h2
  go_wp2_with fail
  go_loopw [6] (fun i wr => ∃ (k : Nat) (s : St) (q : Nat) (em : Bool), k ≤ 4 ∧ i = .int .i64 k ∧ Hid (s.f = (fun _ => 0) ∧ s.clock = (k : Int) ∧ Low s k ∧ (k = 4 → em = true)) ∧ Hid (Lk wr x cl 1 0 0 q k 0 0 0 em) ∧ Hid (Is wr 122 A cap c b 289 s) ∧ Hid (Lay wr cl 1 1 1) ∧ Hid (Below w.heap.size w wr) ∧ Hid (q ≠ c ∧ q ≠ b)) (fun i _ => 4 - (intOf i).toNat)
  case atStart => exact ⟨0, _, q, false, by omega, rfl, ⟨rfl, rfl, low_fresh _, fun h => by omega⟩, HLk0, HI0, HL0, HB2, hqq⟩
  case round =>
    clear HLk0 HI0 HL0 HB2 hqq
    obtain ⟨k, s, q, em, hk, rfl, HF, HK, HI, HL, HB, HQ⟩ := hrel
    by_cases hlt : k < 4
    · have hk1 : (k : Int) < 4 := by omega
      have hst := lk_on wr A cap c b 289 s HI.out (by omega) (HF.out.2.2.1.more (by omega)) x cl q k 1 1 1 0 0 0 0 0 em HK.out HL.out (by omega) hxc hxb HQ.out.1 HQ.out.2 hcx hne.1 hne.2
      rw [lkA_zero HF.out.1, if_pos hlt] at hst
      clear HK
      go_wp2_with fail
      go_at_call 67; refine hst.mono ?_; rintro e w3 ⟨⟨z, rfl⟩, q', hK, hI, hB, hq'⟩
      have HF2 : Hid ((lkS 1 0 0 289 k s).f = (fun _ => 0) ∧ (lkS 1 0 0 289 k s).clock = ((k + 1 : Nat) : Int) ∧ Low (lkS 1 0 0 289 k s) ((k + 1 : Nat) : Int)) := ⟨by rw [lkS_f]; exact HF.out.1, by rw [lkS_clock _ _ _ _ _ hlt, HF.out.2.1]; omega, (lkS_low HF.out.2.2.1 _ _ _ _ _).more (by omega)⟩
      have HI2 : Hid _ := hI
      have HL2 : Hid (Lay w3 cl 1 1 1) := (hB.block cl HL.out.lt (by simp [hne, hcx])).trans HL.out
      have HB2 : Hid (Below w.heap.size w w3) := HB.out.trans (hB.below (by obtain ⟨u1, u2, u3⟩ := hup.out; intro z hz; simp at hz; rcases hz with rfl | rfl | rfl <;> assumption) HB.out.size)
      have HQ2 : Hid (q' ≠ c ∧ q' ≠ b) := by
        have e1 := HI.out.lt; have e2 := HI.out.bl
        rcases hq' with rfl | h
        · exact ⟨hxc, hxb⟩
        · exact ⟨by omega, by omega⟩
      have HK2 : Hid (∃ em', Lk w3 x cl 1 0 0 q' (k + 1) 0 0 0 em' ∧ (k + 1 = 4 → em' = true)) := by
        refine ⟨_, by simpa using hK, fun h => ?_⟩
        simp [show k = 3 by omega]
      generalize lkS 1 0 0 289 k s = s' at *
      clear hst hK hI hB hq' HI HL HB HQ HF
      obtain ⟨em', hK2, hem⟩ := HK2.out
      have HK3 : Hid (Lk w3 x cl 1 0 0 q' (k + 1) 0 0 0 em') := hK2
      clear HK2 hK2
      go_wp2_with fail
      go_roundw
      case rel => exact ⟨k + 1, s', q', em', by omega, by go_num, ⟨HF2.out.1, HF2.out.2.1, HF2.out.2.2, hem⟩, HK3, HI2, HL2, HB2, HQ2⟩
      case measure => simp [intOf]; omega
    · obtain rfl : k = 4 := by omega
      obtain ⟨h0, hclk, hlow, hem⟩ := HF.out
      obtain rfl := hem rfl
      obtain ⟨nx, hmn, hnn⟩ := HK.out.main
      have hD := look_done wr x nx (hmn.cell 1 rfl)
      rw [hnn, show decide (4 = 4) = true from rfl] at hD
      have hE := look_empty wr x true (hmn.cell 7 rfl)
      have hR := rempty_zero wr cl 1 1 1 0 A cap c b 289 s HL.out (by omega) HI.out (by omega) h0
      have hC := fun Y (hY : Is Y 122 A cap c b 289 s) => clock_any Y A cap c b 289 s hY
      rw [hclk] at hC
      have hkk : decide (((4 : Nat) : Int) < 4) = false := rfl
      clear HF hlow hem hmn hnn h0 hclk HK HL HQ
      go_wp2_with fail
      go_at_call 60; refine (hM _).mono ?_; rintro e y1 ⟨rfl, rfl⟩
      go_wp2_with fail
      go_at_call 65; refine hD.mono ?_; rintro e y1 ⟨rfl, rfl⟩
      go_wp2_with fail
      go_at_call 66; refine hE.mono ?_; rintro e y1 ⟨rfl, rfl⟩
      go_wp2_with fail
      go_at_call 114; refine hR.mono ?_; rintro e y1 ⟨rfl, k1⟩
      have hC1 := hC y1 (HI.out.below k1)
      have hbb := seq HB.out k1
      clear hC hR hE hD HI HB k1
      go_wp2_with fail
      go_at_call 28; refine hC1.mono ?_; rintro e y2 ⟨rfl, rfl⟩
      clear hC1
      go_wp2_with fail
      go_ret
      exact ⟨rfl, hbb⟩

theorem ringMany_walk (h t : Int) (w : World) (hh : 0 ≤ h ∧ h ≤ 18446744073709551615) (ht : 0 ≤ t ∧ t ≤ 18446744073709551615) :
    Calls Try.prog 9 #[.int .u64 h, .int .u64 t] w fun e w' => e = .returned (.bool true) ∧ Below w.heap.size w w' := by
  have e1 : Int.tmod t 4294967296 = t % 4294967296 := Int.tmod_eq_emod_of_nonneg ht.1
  have e2 : IntKind.u64.wrap (t % 4294967296) = t % 4294967296 := wrap_u64 (by omega)
  have e3 : IntKind.u64.wrap (t % 4294967296 + 1) = t % 4294967296 + 1 := wrap_u64 (by omega)
  have hM1 := fun w => many_any h t w hh ht
  have hR1 := fun w => refmany_any h t w hh ht
  have hM2 := fun w => many_any h (t % 4294967296 + 1) w hh (by omega)
  have hM3 := fun w => many_any h h w hh hh
  rw [show (h - h) % 4294967296 = 0 by simp] at hM3
  rw [show (t % 4294967296 + 1 - h) % 4294967296 = ((t - h) % 4294967296 + 1) % 4294967296 by omega] at hM2
  generalize hm : (t - h) % 4294967296 = m at *
  have hmb : 0 ≤ m ∧ m < 4294967296 := by omega
  have e4 : IntKind.u64.wrap (m + 1) = m + 1 := wrap_u64 (by omega)
  have e5 : Int.tmod (m + 1) 4294967296 = (m + 1) % 4294967296 := Int.tmod_eq_emod_of_nonneg (by omega)
  have e6 : IntKind.u64.wrap ((m + 1) % 4294967296) = (m + 1) % 4294967296 := wrap_u64 (by omega)
  have hlt : m < 4294967296 := hmb.2
  clear hm hmb hh ht
  go_enter Try.func9, Try.ntmps9
  go_wp2_with fail
  go_at_call 60; refine (hM1 _).mono ?_; rintro e y1 ⟨rfl, rfl⟩
  go_wp2_with fail
  go_at_call 61; refine (ring_awake _).mono ?_; rintro e y1 ⟨rfl, k1⟩
  go_wp2_with fail
  go_at_call 62; refine (hR1 _).mono ?_; rintro e y2 ⟨rfl, rfl⟩
  go_wp2_with fail
  go_at_call 60; refine (hM2 _).mono ?_; rintro e y2 ⟨rfl, rfl⟩
  go_wp2_with fail
  go_at_call 60; refine (hM3 _).mono ?_; rintro e y2 ⟨rfl, rfl⟩
  go_wp2_with fail
  go_ret
  exact ⟨rfl, k1⟩

end Go.Proofs.Ytlnjjcfkcoaceaa
