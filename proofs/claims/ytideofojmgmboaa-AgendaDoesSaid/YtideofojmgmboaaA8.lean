/- Down, walked. -/
import Derived.Test.YtideofojmgmboaaA7
namespace Go.Proofs.Ytideofojmgmboaa
open Go Go.RowKit
set_option linter.unusedVariables false
set_option linter.unusedSimpArgs false
set_option maxRecDepth 100000
variable {w : World} {a lb mb cap clk : Nat}

theorem down_w1 (k m : Nat) (hb : k < 4611686018427387904) (hm : m = 2 * k + 1) : wrap64 (wrap64 (2 * (k : Int)) + 1) = (m : Int) := by
  subst hm
  have e1 : wrap64 (2 * (k : Int)) = 2 * (k : Int) := by unfold wrap64; omega
  rw [e1]
  unfold wrap64; omega
theorem down_w2 (k m : Nat) (hb : k < 4611686018427387904) (hm : m = k + 1) : wrap64 ((k : Int) + 1) = (m : Int) := by
  subst hm; unfold wrap64; omega
theorem down_c1 {K : List It} {k n m m2 : Nat} (hm : m = 2 * k + 1) (hm2 : m2 = m + 1) (h : m2 < n) (hl : ltI (at_ K m2) (at_ K m) = true) : child K k n = m2 := by
  subst hm2; subst hm; unfold child; rw [if_pos ⟨h, hl⟩]
theorem down_c2 {K : List It} {k n m m2 : Nat} (hm : m = 2 * k + 1) (hm2 : m2 = m + 1) (hl : ltI (at_ K m2) (at_ K m) = false) : child K k n = m := by
  subst hm2; subst hm; unfold child; rw [if_neg]; rintro ⟨_, h⟩; rw [show 2 * k + 2 = 2 * k + 1 + 1 by omega, hl] at h; cases h
theorem down_c3 {K : List It} {k n m m2 : Nat} (hm : m = 2 * k + 1) (hm2 : m2 = m + 1) (h : ¬ m2 < n) : child K k n = m := by
  subst hm2; subst hm; unfold child; rw [if_neg]; rintro ⟨h', _⟩; omega
set_option maxHeartbeats 8000000 in
theorem down_any (SW : SwapC) (L : List It) (i n : Nat) (hi : i < L.length) (hn : n ≤ L.length) (hcap : L.length < 2305843009213693951) (h : AgL w a lb mb cap clk L) :
    Calls Try.prog 34 #[.iface 59 (.pointer (some ⟨a, 0, none⟩)), .int .i64 i, .int .i64 n] w fun e w' => e = .returned (.bool (decide (i < (down L i n).2))) ∧ But [a, lb, mb] w w' ∧ AgL w' a lb mb cap clk (down L i n).1 := by
  have H0 := Lib.hid h
  have HI := Lib.hid hi
  have HN := Lib.hid hn
  have HC := Lib.hid hcap
  have HS := Lib.hid SW
  clear SW h hi hcap hn
  go_enter Try.func34, Try.ntmps34
  go_wp2_with fail
  go_loopw [7] (fun v wr => ∃ (k : Nat) (K : List It), v = .int .i64 k ∧ Hid (k < K.length) ∧ K.length = L.length ∧ But [a, lb, mb] w wr ∧ Hid (AgL wr a lb mb cap clk K) ∧ Hid (down K k n = down L i n)) (fun v _ => L.length - (intOf v).toNat)
  case atStart => exact ⟨i, L, rfl, HI, rfl, But.refl _ _, H0, rfl⟩
  case round =>
    obtain ⟨k, K, rfl, hk, hlen, hB, hA, hU⟩ := hrel
    have HB := Lib.hid hB
    have HL := Lib.hid hlen
    clear hB hlen
    obtain ⟨m, hm⟩ : ∃ m, m = 2 * k + 1 := ⟨_, rfl⟩
    obtain ⟨m2, hm2⟩ : ∃ m2, m2 = m + 1 := ⟨_, rfl⟩
    have hkk := hk.out
    have hlc := HC.out
    have hll := HL.out
    have hnn := HN.out
    have hw1 := down_w1 k m (by omega) hm
    have hw2 := down_w2 m m2 (by omega) hm2
    have HE := Lib.hid (down_eq K k n)
    rw [hU.out] at HE
    have HM := Lib.hid hm
    have HM2 := Lib.hid hm2
    have hm0 : decide ((m : Int) < 0) = false := by simp
    by_cases hmn : m < n
    · have hmK := Lib.hid (show m < K.length by omega)
      have hkm := Lib.hid (show k < m by omega)
      have hmL := Lib.hid (show m < L.length by omega)
      by_cases hm2n : m2 < n
      · have hm2K := Lib.hid (show m2 < K.length by omega)
        have hm2L := Lib.hid (show m2 < L.length by omega)
        have HL1 := Lib.hid (less_c wr a lb mb cap clk K m2 m hA.out hm2K.out hmK.out)
        clear hkk hlc hll hnn hm hm2
        by_cases hl1 : ltI (at_ K m2) (at_ K m) = true
        · have HCH := Lib.hid (down_c1 (K := K) HM.out HM2.out hm2n hl1)
          go_wp2_with fail
          go_at_call 73; refine HL1.out.mono ?_; rintro e w1 ⟨rfl, hb1⟩
          rw [hl1]
          have HA1 := Lib.hid (hA.out.below hb1)
          have HB1 := Lib.hid (HB.out.of_bel hb1)
          clear hb1
          have HL2 := Lib.hid (less_c w1 a lb mb cap clk K m2 k HA1.out hm2K.out hk.out)
          by_cases hl2 : ltI (at_ K m2) (at_ K k) = true
          · go_wp2_with fail
            go_at_call 73; refine HL2.out.mono ?_; rintro e w2 ⟨rfl, hb2⟩
            rw [hl2]
            have HA2 := Lib.hid (HA1.out.below hb2)
            have HB2 := Lib.hid (HB1.out.of_bel hb2)
            clear hb2
            have HSw := Lib.hid (HS.out w2 a lb mb cap clk K k m2 HA2.out hk.out hm2K.out)
            go_wp2_with fail
            go_at_call 76; refine HSw.out.mono ?_; rintro e w3 ⟨⟨v, rfl⟩, hb3, ha3⟩
            have HA3 := Lib.hid ha3
            have HB3 := Lib.hid (HB2.out.trans hb3)
            clear ha3 hb3
            go_wp2_with fail
            go_roundw
            case rel =>
              have e1 := HE.out
              rw [if_pos (by rw [← HM.out]; exact hmn), HCH.out, if_pos hl2] at e1
              exact ⟨m2, _, rfl, (by rw [swp_len]; exact hm2K.out), (by rw [swp_len]; exact HL.out), HB3.out, HA3.out, e1.symm⟩
            case measure => have := hm2L.out; have := hkm.out; have := HM2.out; simp [intOf]; omega
          · have hl2f : ltI (at_ K m2) (at_ K k) = false := by simpa using hl2
            go_wp2_with fail
            go_at_call 73; refine HL2.out.mono ?_; rintro e w2 ⟨rfl, hb2⟩
            rw [hl2f]
            have HA2 := Lib.hid (HA1.out.below hb2)
            have HB2 := Lib.hid (HB1.out.of_bel hb2)
            clear hb2
            go_wp2_with fail
            go_ret
            have e1 := HE.out
            rw [if_pos (by rw [← HM.out]; exact hmn), HCH.out, hl2f] at e1
            rw [e1]
            exact ⟨rfl, HB2.out, HA2.out⟩
        · have hl1f : ltI (at_ K m2) (at_ K m) = false := by simpa using hl1
          have HCH := Lib.hid (down_c2 (n := n) (K := K) HM.out HM2.out hl1f)
          go_wp2_with fail
          go_at_call 73; refine HL1.out.mono ?_; rintro e w1 ⟨rfl, hb1⟩
          rw [hl1f]
          have HA1 := Lib.hid (hA.out.below hb1)
          have HB1 := Lib.hid (HB.out.of_bel hb1)
          clear hb1
          have HL2 := Lib.hid (less_c w1 a lb mb cap clk K m k HA1.out hmK.out hk.out)
          by_cases hl2 : ltI (at_ K m) (at_ K k) = true
          · go_wp2_with fail
            go_at_call 73; refine HL2.out.mono ?_; rintro e w2 ⟨rfl, hb2⟩
            rw [hl2]
            have HA2 := Lib.hid (HA1.out.below hb2)
            have HB2 := Lib.hid (HB1.out.of_bel hb2)
            clear hb2
            have HSw := Lib.hid (HS.out w2 a lb mb cap clk K k m HA2.out hk.out hmK.out)
            go_wp2_with fail
            go_at_call 76; refine HSw.out.mono ?_; rintro e w3 ⟨⟨v, rfl⟩, hb3, ha3⟩
            have HA3 := Lib.hid ha3
            have HB3 := Lib.hid (HB2.out.trans hb3)
            clear ha3 hb3
            go_wp2_with fail
            go_roundw
            case rel =>
              have e1 := HE.out
              rw [if_pos (by rw [← HM.out]; exact hmn), HCH.out, if_pos hl2] at e1
              exact ⟨m, _, rfl, (by rw [swp_len]; exact hmK.out), (by rw [swp_len]; exact HL.out), HB3.out, HA3.out, e1.symm⟩
            case measure => have := hmL.out; have := hkm.out; have := HM2.out; simp [intOf]; omega
          · have hl2f : ltI (at_ K m) (at_ K k) = false := by simpa using hl2
            go_wp2_with fail
            go_at_call 73; refine HL2.out.mono ?_; rintro e w2 ⟨rfl, hb2⟩
            rw [hl2f]
            have HA2 := Lib.hid (HA1.out.below hb2)
            have HB2 := Lib.hid (HB1.out.of_bel hb2)
            clear hb2
            go_wp2_with fail
            go_ret
            have e1 := HE.out
            rw [if_pos (by rw [← HM.out]; exact hmn), HCH.out, hl2f] at e1
            rw [e1]
            exact ⟨rfl, HB2.out, HA2.out⟩
      · have HCH := Lib.hid (down_c3 (n := n) (K := K) HM.out HM2.out hm2n)
        have HA1 := hA
        have HB1 := HB
        have HL2 := Lib.hid (less_c wr a lb mb cap clk K m k hA.out hmK.out hk.out)
        clear hkk hlc hll hnn hm hm2
        by_cases hl2 : ltI (at_ K m) (at_ K k) = true
        · go_wp2_with fail
          go_at_call 73; refine HL2.out.mono ?_; rintro e w2 ⟨rfl, hb2⟩
          rw [hl2]
          have HA2 := Lib.hid (HA1.out.below hb2)
          have HB2 := Lib.hid (HB1.out.of_bel hb2)
          clear hb2
          have HSw := Lib.hid (HS.out w2 a lb mb cap clk K k m HA2.out hk.out hmK.out)
          go_wp2_with fail
          go_at_call 76; refine HSw.out.mono ?_; rintro e w3 ⟨⟨v, rfl⟩, hb3, ha3⟩
          have HA3 := Lib.hid ha3
          have HB3 := Lib.hid (HB2.out.trans hb3)
          clear ha3 hb3
          go_wp2_with fail
          go_roundw
          case rel =>
            have e1 := HE.out
            rw [if_pos (by rw [← HM.out]; exact hmn), HCH.out, if_pos hl2] at e1
            exact ⟨m, _, rfl, (by rw [swp_len]; exact hmK.out), (by rw [swp_len]; exact HL.out), HB3.out, HA3.out, e1.symm⟩
          case measure => have := hmL.out; have := hkm.out; have := HM2.out; simp [intOf]; omega
        · have hl2f : ltI (at_ K m) (at_ K k) = false := by simpa using hl2
          go_wp2_with fail
          go_at_call 73; refine HL2.out.mono ?_; rintro e w2 ⟨rfl, hb2⟩
          rw [hl2f]
          have HA2 := Lib.hid (HA1.out.below hb2)
          have HB2 := Lib.hid (HB1.out.of_bel hb2)
          clear hb2
          go_wp2_with fail
          go_ret
          have e1 := HE.out
          rw [if_pos (by rw [← HM.out]; exact hmn), HCH.out, hl2f] at e1
          rw [e1]
          exact ⟨rfl, HB2.out, HA2.out⟩
    · clear hkk hlc hll hnn hm hm2
      go_wp2_with fail
      go_ret
      have e1 := HE.out
      rw [if_neg (by rw [← HM.out]; exact hmn)] at e1
      rw [e1]
      exact ⟨rfl, HB.out, hA.out⟩
end Go.Proofs.Ytideofojmgmboaa
