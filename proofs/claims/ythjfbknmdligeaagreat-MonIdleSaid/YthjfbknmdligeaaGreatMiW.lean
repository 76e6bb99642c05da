/- The walk of the law MonIdle. -/
import Derived.Test.YthjfbknmdligeaaGreatMoAw
namespace Go.Proofs.YthjfbknmdligeaaGreat
open Go Go.RowKit
set_option linter.unusedVariables false
set_option maxRecDepth 100000
set_option linter.unusedSimpArgs false

theorem monIdle_bad (P now : Int) (np : Nat) (w : World) (h : P < 1 ∨ 4 < P ∨ 9 < np) :
    Calls Tryz.prog 6 #[.int .i64 P, .int .u64 now, .int .u8 np] w fun e w' => e = .returned (.bool true) ∧ Below w.heap.size w w' := by
  by_cases h1 : P < 1
  · clear h
    go_enter Tryz.func6, Tryz.ntmps6
    go_wp2_with fail
    go_at_call 8; refine (mon_awake _).mono ?_; rintro e w2 ⟨rfl, h2⟩
    go_wp2_with fail
    go_ret
    exact ⟨rfl, h2⟩
  have d1 : decide (P < 1) = false := decide_eq_false h1
  by_cases h3 : 4 < P
  · clear h
    go_enter Tryz.func6, Tryz.ntmps6
    go_wp2_with fail
    go_at_call 8; refine (mon_awake _).mono ?_; rintro e w2 ⟨rfl, h2⟩
    go_wp2_with fail
    go_ret
    exact ⟨rfl, h2⟩
  have d2 : decide (4 < P) = false := decide_eq_false h3
  have h4 : 9 < np := by omega
  have d3 : decide (9 < (np : Int)) = true := decide_eq_true (by omega)
  clear h
  go_enter Tryz.func6, Tryz.ntmps6
  go_wp2_with fail
  go_at_call 8; refine (mon_awake _).mono ?_; rintro e w2 ⟨rfl, h2⟩
  go_wp2_with fail
  go_ret
  exact ⟨rfl, h2⟩
def miF (now : Int) (n : Nat) : Nat → Int := putF (fun _ => 18) (fun _ => now) n 1
theorem miF_zero (now : Int) (n p : Nat) : miF now n (20 + 264 * p) = 0 := by
  unfold miF putF putF
  split
  · unfold upd
    rw [if_neg (by omega)]
  · rfl
set_option maxHeartbeats 16000000 in
theorem monIdle_ok (P np : Nat) (now : Int) (w : World) (hP : 1 ≤ P ∧ P ≤ 4) (hnp : np ≤ 9) (hnow : 0 ≤ now ∧ now ≤ 18446744073709551615) :
    Calls Tryz.prog 6 #[.int .i64 P, .int .u64 now, .int .u8 np] w fun e w' => e = .returned (.bool true) ∧ Below w.heap.size w w' := by
  obtain ⟨n, hn⟩ : ∃ n : Nat, n = 22 + 267 * P := ⟨_, rfl⟩
  have hX := Blk.new w #[.int .i64 18, .int .u64 now] 73
  have HB0 : Hid (Below w.heap.size w (w.alloc (.cells #[.int .i64 18, .int .u64 now] 73))) := (Below.refl _ _).alloc (Nat.le_refl _) _
  have hL := lay_some P P 1 (some ⟨w.heap.size, 0, none⟩) 1 1 n (fun _ => 18) (fun _ => now) (w.alloc (.cells #[.int .i64 18, .int .u64 now] 73)) (by omega) ⟨⟨by omega⟩, by omega, by omega, by omega⟩ (by omega) (fun _ => ⟨w.heap.size, 0, rfl, hX.lt, fun j hj => by
    obtain rfl : j = 0 := by omega
    exact ⟨hX.cell 0 rfl, hX.cell 1 rfl⟩⟩) (fun i hi => hnow)
  have HN : Hid (n = 22 + 267 * P ∧ n ≤ 1000000 ∧ 20 + 264 * P ≤ n ∧ 0 < n) := (by omega : n = 22 + 267 * P ∧ n ≤ 1000000 ∧ 20 + 264 * P ≤ n ∧ 0 < n)
  have HP : Hid (1 ≤ P ∧ P ≤ 4 ∧ np ≤ 9) := ⟨hP.1, hP.2, hnp⟩
  obtain ⟨hP1, hP4⟩ := hP
  have d1 : decide ((P : Int) < 1) = false := decide_eq_false (by omega)
  have d2 : decide (4 < (P : Int)) = false := decide_eq_false (by omega)
  have d3 : decide (9 < (np : Int)) = false := decide_eq_false (by omega)
  clear hX hn hnow
  go_enter Tryz.func6, Tryz.ntmps6
  go_wp2_with fail
  generalize (w.alloc (.cells #[.int .i64 18, .int .u64 now] 73)) = W at *
  clear d1 d2 d3
  go_at_call 7; refine hL.mono ?_; rintro e w1 ⟨cl, A, A', cap, cap', c, b, c', b', rfl, hLd⟩
  have hszW := HB0.out.size
  have HB1 : Hid (Below w.heap.size w w1) := HB0.out.trans (hLd.below.mono hszW)
  have HI1 : Hid (Is w1 114 A cap c b n (fresh (miF now n))) := hLd.two.m
  have HY1 : Hid (Lay w1 cl P P 1) := hLd.lay
  have hne : Hid (cl ≠ c ∧ cl ≠ b) := lay_ne hLd.lay (by decide) hLd.two.m HN.out.2.2.2
  have hup : Hid (w.heap.size ≤ c ∧ w.heap.size ≤ b) := ⟨by have := hLd.up.2.1; omega, by have := hLd.up.2.2.1; omega⟩
  have hlo : Hid (c < w1.heap.size ∧ b < w1.heap.size ∧ cl < w1.heap.size) := ⟨hLd.two.m.lt, hLd.two.m.bl, hLd.lay.lt⟩
  have hW := words_own w1 A cap c b n _ hLd.two.m HN.out.2.1 HN.out.2.2.2
  clear hL hLd hszW HB0
  go_wp2_with fail
  go_at_call 23; refine hW.mono ?_; rintro e w2 ⟨g, capg, rfl, hg, hwd, hb2⟩
  have HI2 : Hid (Is w2 114 A cap c b n (fresh (miF now n))) := HI1.out.below hb2
  have HY2 : Hid (Lay w2 cl P P 1) := HY1.out.below hb2 HY1.out.lt
  have HB2 : Hid (Below w.heap.size w w2) := seq HB1.out hb2
  have HWD : Hid ((Rd.wd1 g n (miF now n)).P w2) := hwd
  have HRF : Hid ((c ∉ ((Rd.lay cl P P 1).and (Rd.wd1 g n (miF now n))).B ∧ b ∉ ((Rd.lay cl P P 1).and (Rd.wd1 g n (miF now n))).B) ∧ ∀ k ∈ ((Rd.lay cl P P 1).and (Rd.wd1 g n (miF now n))).B, k = cl ∨ k = g) := by
    have hlo := hlo.out
    have hne := hne.out
    refine ⟨⟨fun hm => ?_, fun hm => ?_⟩, fun k hk => ?_⟩
    · rcases List.mem_append.1 hm with hm | hm
      · exact hne.1 (List.mem_singleton.1 hm).symm
      · have := List.mem_singleton.1 hm; omega
    · rcases List.mem_append.1 hm with hm | hm
      · exact hne.2 (List.mem_singleton.1 hm).symm
      · have := List.mem_singleton.1 hm; omega
    · rcases List.mem_append.1 hk with hk | hk
      · exact .inl (List.mem_singleton.1 hk)
      · exact .inr (List.mem_singleton.1 hk)
  have hN := mo_new w2 cl P P 1 HY2.out (by omega)
  clear hW hg hwd hb2 HI1 HY1 HB1 hne
  go_wp2_with fail
  go_at_call 9; refine hN.mono ?_; rintro e w3 ⟨x, r, L, rfl, ha1, ha2, ha3, -⟩
  have HS0 : Hid (Solo (moI P cl r P) ((Rd.lay cl P P 1).and (Rd.wd1 g n (miF now n))) w w3 A cap c b n (fresh (miF now n)) x (.nw, moD0) L) := Solo.begin HI2.out ha2 HB2.out hup.out ha1 ha3 ⟨HY2.out, HWD.out⟩ (fun k hk => by rcases HRF.out.2 k hk with rfl | rfl; exact HY2.out.lt; exact HWD.out.1) HRF.out.1
  have HQ0 : Hid (IdOk P (.nw, moD0) 0 0 ∧ (fresh (miF now n)).f = miF now n ∧ (fresh (miF now n)).clock = ((0 * (P + 1) : Nat) : Int) ∧ Low (fresh (miF now n)) ((0 * (P + 1) : Nat) : Int)) := by
    rw [Nat.zero_mul]
    exact ⟨id_start P, rfl, rfl, low_fresh _⟩
  clear hN ha1 ha2 ha3 HI2 HY2 HB2 HWD hlo hup
  have c1 : IntKind.i64.wrap (np : Int) = (np : Int) := by have := HP.out; simp [IntKind.wrap, IntKind.bits, IntKind.signed]; omega
  have c2 : wrap64 (np : Int) = (np : Int) := by have := HP.out; unfold wrap64; omega
  go_wp2_with fail
  go_loopw [13, 14] (fun iv kv wr => ∃ (i : Nat) (kk : Value) (t : MoP × MoD) (s : St) (L : List Nat), kk = kv ∧ i ≤ np ∧ iv = .int .i64 i ∧ Hid (Solo (moI P cl r P) ((Rd.lay cl P P 1).and (Rd.wd1 g n (miF now n))) w wr A cap c b n s x t L) ∧ Hid (IdOk P t i 0 ∧ s.f = miF now n ∧ s.clock = ((i * (P + 1) : Nat) : Int) ∧ Low s ((i * (P + 1) : Nat) : Int))) (fun iv kv _ => np - (intOf iv).toNat)
  case atStart => exact ⟨0, _, _, _, _, rfl, Nat.zero_le _, rfl, HS0, HQ0⟩
  case round =>
    clear HS0 HQ0
    obtain ⟨i, kk, t, s, L, rfl, hi, rfl, HS, HQ⟩ := hrel
    by_cases hin : i < np
    · have hin1 : (i : Int) < (np : Int) := by omega
      have HIN : Hid (i < np) := hin
      go_wp2_with fail
      go_loopw [14] (fun kv wi => ∃ (k i' k' : Nat) (t : MoP × MoD) (s : St) (L : List Nat), k ≤ P + 1 ∧ kv = .int .i64 k ∧ Hid ((k ≤ P ∧ i' = i ∧ k' = k) ∨ (k = P + 1 ∧ i' = i + 1 ∧ k' = 0)) ∧ Hid (Solo (moI P cl r P) ((Rd.lay cl P P 1).and (Rd.wd1 g n (miF now n))) w wi A cap c b n s x t L) ∧ Hid (IdOk P t i' k' ∧ s.f = miF now n ∧ s.clock = ((i * (P + 1) + k : Nat) : Int) ∧ Low s ((i * (P + 1) + k : Nat) : Int))) (fun kv _ => P + 1 - (intOf kv).toNat)
      case atStart => exact ⟨0, i, 0, t, s, L, by omega, rfl, .inl ⟨by omega, rfl, rfl⟩, HS, HQ⟩
      case round =>
        clear HS HQ
        obtain ⟨k, i', k', t, s, L, hk, rfl, HK, HS, HQ⟩ := hrel
        by_cases hkP : k ≤ P
        · obtain ⟨-, rfl, rfl⟩ : k ≤ P ∧ i' = i ∧ k' = k := by
            rcases HK.out with h | h
            · exact h
            · exact absurd h.1 (by omega)
          have hk1 : (k' : Int) ≤ (P : Int) := by omega
          have hbt := mo_between wr x cl r P P _ L HS.out.mach
          rw [HQ.out.1.un] at hbt
          have hps := mo_passes wr x cl r P P _ L HS.out.mach
          rw [HQ.out.1.ps] at hps
          have hb9 : i' * (P + 1) + k' ≤ 60 := by
            have h1 := HP.out
            have h2 := HIN.out
            have := Nat.mul_le_mul (show i' ≤ 9 by omega) (show P + 1 ≤ 5 by omega)
            omega
          have hs := id_solo (G := 1) (T := P) HS.out (fun _ h => h.1) (List.mem_append_left _ (List.mem_singleton.2 rfl)) HQ.out.1 ⟨HP.out.1, HP.out.2.1⟩ hkP (by have h1 := HP.out; have h2 := HIN.out; omega) ⟨HN.out.2.2.1, HN.out.2.1⟩ (fun p hp => by rw [HQ.out.2.1]; exact miF_zero now n p) HQ.out.2.2.2 (by omega)
          have HC : Hid (s.f = miF now n ∧ s.clock = ((i' * (P + 1) + k' : Nat) : Int)) := ⟨HQ.out.2.1, HQ.out.2.2.1⟩
          have hii : ((i' : Int) != (i' : Int)) = false := by simp
          obtain ⟨zb, hzb⟩ : ∃ zb, decide ((k' : Int) = 0) = zb := ⟨_, rfl⟩
          have hzb2 : ((k' : Int) == 0) = zb := by rw [← hzb]; rfl
          rw [hzb] at hbt
          have hzz : (zb != zb) = false := by simp
          clear HS HQ hb9 HK hzb
          go_wp2_with fail
          go_at_call 13; refine hbt.mono ?_; rintro e w5 ⟨rfl, rfl⟩
          clear hbt
          go_wp2_with fail
          go_at_call 14; refine hps.mono ?_; rintro e w5 ⟨rfl, rfl⟩
          clear hps
          go_wp2_with fail
          go_at_call 20; refine hs.mono ?_; rintro e w6 ⟨rfl, L', t', s', g1, g2, g3, g4, g5⟩
          have HS' : Hid _ := g1
          have HE : Hid (∃ (i2 k2 : Nat), ((k' + 1 ≤ P ∧ i2 = i' ∧ k2 = k' + 1) ∨ (k' + 1 = P + 1 ∧ i2 = i' + 1 ∧ k2 = 0)) ∧ IdOk P t' i2 k2 ∧ s'.f = miF now n ∧ s'.clock = ((i' * (P + 1) + (k' + 1) : Nat) : Int) ∧ Low s' ((i' * (P + 1) + (k' + 1) : Nat) : Int)) := by
            refine ⟨_, _, ?_, g2, g3.trans HC.out.1, ?_, g5⟩
            · by_cases he : k' = P
              · rw [if_pos he, if_pos he]; exact .inr ⟨by omega, rfl, rfl⟩
              · rw [if_neg he, if_neg he]; exact .inl ⟨by omega, rfl, rfl⟩
            · rw [g4, HC.out.2]; omega
          clear hs g1 g2 g3 g4 g5 HC
          go_wp2_with fail
          go_roundw
          case rel =>
            obtain ⟨i2, k2, e1, e2⟩ := HE.out
            exact ⟨k' + 1, i2, k2, t', s', L', by omega, by go_num, e1, HS', e2⟩
          case measure => simp [intOf]; omega
        · obtain ⟨rfl, rfl, rfl⟩ : k = P + 1 ∧ i' = i + 1 ∧ k' = 0 := by
            rcases HK.out with h | h
            · exact absurd h.1 hkP
            · exact h
          have HQ2 : Hid (IdOk P t (i + 1) 0 ∧ s.f = miF now n ∧ s.clock = (((i + 1) * (P + 1) : Nat) : Int) ∧ Low s (((i + 1) * (P + 1) : Nat) : Int)) := by
            rw [Nat.succ_mul]
            exact HQ.out
          have hgd : decide (((P + 1 : Nat) : Int) ≤ (P : Int)) = false := decide_eq_false (by omega)
          have hi2 : i + 1 ≤ np := by have := HIN.out; omega
          clear HQ HK hk hkP
          go_wp2_with fail
          go_roundw
          case rel => exact ⟨i + 1, _, t, s, L, rfl, hi2, by go_num, HS, HQ2⟩
          case measure => simp [intOf]; omega
    · obtain rfl : i = np := by omega
      have hgd : decide ((i : Int) < (i : Int)) = false := by simp
      have HXS : Hid (∀ Y, Below wr.heap.size wr Y → Is Y 114 A cap c b n s ∧ moI P cl r P Y x t L ∧ (Rd.wd1 g n (miF now n)).P Y) := fun Y hY => ⟨HS.out.mem.below hY, moI_good P cl r P HS.out.mach (But.of_below (l := []) hY) (fun k _ h => by cases h), (Rd.wd1 g n (miF now n)).below HS.out.rd.2 hY⟩
      have HBF : Hid (Below w.heap.size w wr) := HS.out.below
      clear HS
      go_wp2_with fail
      go_at_call 8; refine (mon_awake _).mono ?_; rintro e w4 ⟨rfl, h4⟩
      obtain ⟨x1, x2, x3⟩ := HXS.out w4 h4
      have HF4 : Hid (Below w.heap.size w w4) := seq HBF.out h4
      have hbt := mo_between w4 x cl r P P _ L x2
      rw [HQ.out.1.un, show decide (((0 : Nat) : Int) = 0) = true from rfl] at hbt
      have hps := mo_passes w4 x cl r P P _ L x2
      rw [HQ.out.1.ps] at hps
      have hhd := mo_hand_none w4 x cl r P P _ L x2 HQ.out.1.ov
      have hct := mo_counts_none w4 x cl r P P _ L x2 HQ.out.1.ov
      have hWW := words_any w4 A cap c b n s x1 HN.out.2.1
      rw [HQ.out.2.1] at hWW
      have HCK : Hid (∀ Y, Below w4.heap.size w4 Y → Calls Tryz.prog 31 #[.pointer (some ⟨c, 0, none⟩)] Y fun e w' => e = .returned (.int .i64 ((i * (P + 1) : Nat) : Int)) ∧ Y = w') := fun Y hY => by
        have h := clock_any Y _ _ _ _ _ _ (x1.below hY)
        rw [HQ.out.2.2.1] at h
        exact h
      have HSM : Hid (∀ (Y : World) (A' : Option Addr) (ca cb : Nat), Below w4.heap.size w4 Y → SeesU Y Y.heap.size A' n (miF now n) → Calls Tryz.prog 22 #[.slice A' n ca, .slice (some ⟨g, 0, none⟩) n cb] Y fun e w' => e = .returned (.bool true) ∧ Below Y.heap.size Y w') := fun Y A' ca cb hY hs => sameB_any Y A' (some ⟨g, 0, none⟩) n ca cb _ HN.out.2.1 hs (Rd.wd1_sees ((Rd.wd1 g n (miF now n)).below x3 hY))
      have hyy : ((i : Int) == (i : Int)) = true := by simp
      have hm1 : IntKind.i64.wrap ((P : Int) + 1) = ((P + 1 : Nat) : Int) := by have := HP.out; simp [IntKind.wrap, IntKind.bits, IntKind.signed]; omega
      have hm2 : wrap64 ((P : Int) + 1) = ((P + 1 : Nat) : Int) := by have := HP.out; unfold wrap64; omega
      have hmb : i * (P + 1) ≤ 60 := by
        have h1 := HP.out
        have := Nat.mul_le_mul (show i ≤ 9 by omega) (show P + 1 ≤ 5 by omega)
        omega
      have hm3 : wrap64 ((i : Int) * ((P + 1 : Nat) : Int)) = ((i * (P + 1) : Nat) : Int) := by rw [show (i : Int) * ((P + 1 : Nat) : Int) = ((i * (P + 1) : Nat) : Int) from (Int.natCast_mul _ _).symm]; unfold wrap64; omega
      have hmm : (((i * (P + 1) : Nat) : Int) == ((i * (P + 1) : Nat) : Int)) = true := by simp
      generalize hmi : i * (P + 1) = mi at *
      generalize hmp : P + 1 = mp at *
      clear HQ HXS HBF h4 x1 x2 x3 hmb hmi
      go_wp2_with fail
      go_at_call 13; refine hbt.mono ?_; rintro e w5 ⟨rfl, rfl⟩
      clear hbt
      go_wp2_with fail
      go_at_call 14; refine hps.mono ?_; rintro e w5 ⟨rfl, rfl⟩
      clear hps
      go_wp2_with fail
      go_at_call 16; refine hhd.mono ?_; rintro e w5 ⟨rfl, rfl⟩
      clear hhd
      go_wp2_with fail
      go_at_call 17; refine hct.mono ?_; rintro e w5 ⟨rfl, rfl⟩
      clear hct
      go_wp2_with fail
      go_at_call 23; refine hWW.mono ?_; rintro e w5 ⟨A5, cap5, rfl, hs5, hb5⟩
      have hSm := HSM.out w5 A5 cap5 capg hb5 hs5
      have HB5 : Hid (Below w4.heap.size w4 w5) := hb5
      clear hWW hs5 hb5 HSM
      go_wp2_with fail
      go_at_call 22; refine hSm.mono ?_; rintro e w6 ⟨rfl, hb6⟩
      have HB6 : Hid (Below w4.heap.size w4 w6) := seq HB5.out hb6
      have hck := HCK.out w6 HB6.out
      clear hSm hb6 HB5 HCK
      go_wp2_with fail
      go_at_call 31; refine hck.mono ?_; rintro e w7 ⟨rfl, rfl⟩
      clear hck
      go_wp2_with fail
      go_ret
      exact ⟨rfl, seq HF4.out HB6.out⟩
theorem monIdle_walk (P now : Int) (np : Nat) (w : World) (hnow : 0 ≤ now ∧ now ≤ 18446744073709551615) :
    Calls Tryz.prog 6 #[.int .i64 P, .int .u64 now, .int .u8 np] w fun e w' => e = .returned (.bool true) ∧ Below w.heap.size w w' := by
  by_cases h : P < 1 ∨ 4 < P ∨ 9 < np
  · exact monIdle_bad P now np w h
  · obtain ⟨Q, rfl⟩ := Int.eq_ofNat_of_zero_le (show 0 ≤ P by omega)
    exact monIdle_ok Q np now w (by omega) (by omega) hnow
end Go.Proofs.YthjfbknmdligeaaGreat
