/- Programs made up by the document, walked. -/
import Derived.Test.YteibdjbipfimeaaM5
namespace Go.Proofs.Yteibdjbipfimeaa
open Go Go.RowKit
set_option linter.unusedVariables false
set_option linter.unusedSimpArgs false
set_option maxRecDepth 100000

theorem refWord_lit (w : World) (r s N n : Nat) (ni : Int) (hni : ni = (n : Int)) (hs : s < 18446744073709551616) (hN : N ≤ 90000) (h : Rd w r s N) (hn : 1 ≤ n) (hn2 : n ≤ 16) :
    Calls Try.prog 25 #[.pointer (some ⟨r, 0, none⟩), .int .i64 ni] w fun e w' => e = .returned (.int .u64 ((wv (st s N) n : Nat) : Int)) ∧ Rd w' r s (N + wu (st s N)) ∧ But [r] w w' := by
  subst hni; exact refWord_any w r s N n hs hN h hn hn2

set_option maxHeartbeats 4000000 in
theorem refPrograms_lo (w : World) (c s N : Nat) (mi : Int) (hmi : mi < 1) (hs : s < 18446744073709551616) (hN : N ≤ 10000) (h : Rd w c s N) :
    Calls Try.prog 18 #[.pointer (some ⟨c, 0, none⟩), .int .i64 mi] w (Prg w c (pAcc (st s N) 1 1).1 (fun X => Rd X c s (N + ((pAcc (st s N) 1 1).2)))) := by
  obtain ⟨i0, hi, hz0, hz1, hz2⟩ := info_parts info22
  have HS := Lib.hid hs
  have HST := Lib.hid (prg_start w c (fun X => Rd X c s (N + ((pAcc (st s N) 1 0).2))) (by show Rd w c s (N + 0); exact h) h.lt)
  have hclt := h.lt
  have m1 : mi < 1 := hmi
  have HN : Hid (1 ≤ 1 ∧ 1 ≤ 16) := (by omega : 1 ≤ 1 ∧ 1 ≤ 16)
  clear h hs
  go_enter Try.func18, Try.ntmps18
  go_wp2_with fail
  go_loopw [5, 6] (fun v i wr => ∃ (p k cp : Nat) (A : Option Addr), v = .slice A k cp ∧ i = .int .i64 p ∧ (p : Int) ≤ 1 ∧ PrgOn w wr c (fun X => Rd X c s (N + ((pAcc (st s N) 1 p).2))) A k cp (pAcc (st s N) 1 p).1) (fun _ i _ => (1 : Nat) - (intOf i).toNat)
  case atStart => exact ⟨0, 0, 0, none, rfl, rfl, by omega, HST.out⟩
  case round =>
    obtain ⟨p, k, cp, A, rfl, rfl, hp, hR⟩ := hrel
    have hpl := pAcc_len (st s N) 1 p
    have hkl := hR.len
    have HR := Lib.hid hR
    clear HST hR
    by_cases hlt : (p : Int) < 1
    · obtain ⟨u, HU⟩ : ∃ u, Hid ((pAcc (st s N) 1 p).2 = u) := ⟨_, Lib.hid rfl⟩
      have hub : u ≤ 300 := by have := HU.out; have := hpl.2; have := HN.out; omega
      have hkb : k ≤ 200 := by have := hpl.1; have := HN.out; omega
      have HRu := Lib.hid (show PrgOn w wr c (fun X => Rd X c s (N + (u))) A k cp (pAcc (st s N) 1 p).1 from by have e := HR.out; rw [HU.out] at e; exact e)
      clear HR hpl hkl
      by_cases hp0 : p = 0
      · obtain ⟨l1, HL1⟩ : ∃ l1, Hid ((pAcc (st s N) 1 p).1 ++ (if p = 0 then [] else [7]) = l1) := ⟨_, Lib.hid rfl⟩
        have HR1 := Lib.hid (show PrgOn w wr c (fun X => Rd X c s (N + (u))) A k cp l1 from HRu.out.to (fun h => h) (by rw [← HL1.out, if_pos hp0, List.append_nil]))
        have hl1 : l1.length ≤ 201 := by have := HR1.out.len; omega
        have hpp : ¬ 0 < (p : Int) := by omega
        have hp00 : Hid (p = 0) := hp0
        clear HRu hp0
        obtain ⟨A1, hA1⟩ : ∃ A1, A1 = A := ⟨_, rfl⟩
        subst hA1
        obtain ⟨k1, hk1⟩ : ∃ k1, k1 = k := ⟨_, rfl⟩
        subst hk1
        obtain ⟨cp1, hcp1⟩ : ∃ cp1, cp1 = cp := ⟨_, rfl⟩
        subst hcp1
        obtain ⟨r, HRR, hr⟩ : ∃ r : Nat, Hid (rem (num (st (st s N) u) 1) 8 = r) ∧ r < 8 := ⟨_, Lib.hid rfl, rem_lt _ _ (by omega)⟩
        go_wp2_with fail
        go_at_call 8; refine (refBelow_lit _ c s (N + (u)) 8 r 8 rfl HS.out (by omega) HR1.out.q (by omega) (by omega) (by rw [show N + (u) + 1 = N + u + 1 by omega, ← num_st2, ← st_st2, HRR.out])).mono ?_; rintro e w2 ⟨rfl, hD, hB⟩
        have HI := Lib.hid (show PrgOn w w2 c (fun X => Rd X c s (N + (u + 1 + (wAcc (st (st s N) (u + 1)) 1 0).2))) A1 k1 cp1 (l1 ++ (wAcc (st (st s N) (u + 1)) 1 0).1) from (HR1.out.call (Q' := fun X => Rd X c s (N + (u + 1))) hB (by have e := hD; rw [show N + u + 1 = N + (u + 1) by omega] at e; exact e)).to (fun h => h) (List.append_nil _).symm)
        clear hD hB
        go_wp2_with fail
        go_loopw [5, 8] (fun v i wr => ∃ (j k cp : Nat) (A : Option Addr), v = .slice A k cp ∧ i = .int .i64 j ∧ j ≤ 1 + r ∧ PrgOn w wr c (fun X => Rd X c s (N + (u + 1 + (wAcc (st (st s N) (u + 1)) 1 j).2))) A k cp (l1 ++ (wAcc (st (st s N) (u + 1)) 1 j).1)) (fun _ i _ => (1 + r) - (intOf i).toNat)
        case atStart => exact ⟨0, k1, cp1, A1, rfl, rfl, by omega, HI.out⟩
        case round =>
          obtain ⟨j, k, cp, A, rfl, rfl, hj, hJ⟩ := hrel
          have HJ := Lib.hid hJ
          have hwl := wAcc_len (st (st s N) (u + 1)) 1 j
          have hkl := hJ.len
          have hkb : k ≤ 1000 := by have := hJ.len; rw [List.length_append] at this; omega
          clear HI hJ hkl
          by_cases hlt2 : j < 1 + r
          · go_wp2_with fail
            go_at_call 25; refine (refWord_lit _ c s (N + (u + 1 + (wAcc (st (st s N) (u + 1)) 1 j).2)) 1 1 rfl HS.out (by have := (wAcc_len (st (st s N) (u + 1)) 1 j).2; omega) HJ.out.q HN.out.1 HN.out.2).mono ?_; rintro e w3 ⟨rfl, hD, hB⟩
            have HJ1 := Lib.hid (HJ.out.call (Q' := fun X => Rd X c s (N + (u + 1 + (wAcc (st (st s N) (u + 1)) 1 (j + 1)).2))) hB (by show Rd w3 c s (N + (u + 1 + (wAcc (st (st s N) (u + 1)) 1 (j + 1)).2)); rw [wAcc_r]; exact hD))
            have HX : Hid (l1 ++ (wAcc (st (st s N) (u + 1)) 1 j).1 ++ [wv (st (st s N) (u + 1 + (wAcc (st (st s N) (u + 1)) 1 j).2)) 1] = l1 ++ (wAcc (st (st s N) (u + 1)) 1 (j + 1)).1) := wAcc_x (st s N) 1 u j l1
            clear hD hB
            rw [show st s (N + (u + 1 + (wAcc (st (st s N) (u + 1)) 1 j).2)) = st (st s N) (u + 1 + (wAcc (st (st s N) (u + 1)) 1 j).2) from (st_st2 s N _).symm]
            generalize hxx : wv (st (st s N) (u + 1 + (wAcc (st (st s N) (u + 1)) 1 j).2)) 1 = x at HX ⊢
            clear hxx
            go_wp2_with (refine wpList_append_lies _ rfl (.tmp 30) (.tmp 34) 44 rfl w.heap.size 22 i0 _ 1 8 Try.underlying44 hi hz0 hz1 hz2 rfl (by omega) (.slice A k cp) k (wc (l1 ++ (wAcc (st (st s N) (u + 1)) 1 j).1)) rfl (HJ1.out.own.alloc _) ⟨_, 0, none⟩ 1 1 [.int .u64 ((x : Nat) : Int)] rfl rfl (news1 _ _) (fun u hu => by simp at hu; subst hu; rfl) (by omega) (by unfold maxLen; omega) (by omega) (by have := HJ1.out.but.size; simp; omega) _ rfl ?_; intro g3 cap3 w4 hO2 hG2 _ _; have HJ2 := Lib.hid (((HJ1.out.alloc _ (HJ1.out.q.below ((Below.refl _ _).alloc (Nat.le_refl _) _) HJ1.out.q.lt)).app (Q' := fun X => Rd X c s (N + (u + 1 + (wAcc (st (st s N) (u + 1)) 1 (j + 1)).2))) hO2 hG2 (fun hk => (hk c HJ1.out.lt).trans (HJ1.out.q.below ((Below.refl _ _).alloc (Nat.le_refl _) _) HJ1.out.q.lt))).to (Q' := fun X => Rd X c s (N + (u + 1 + (wAcc (st (st s N) (u + 1)) 1 (j + 1)).2))) (fun h => h) HX.out); clear hO2 hG2)
            go_roundw
            case rel => exact ⟨j + 1, k + 1, cap3, _, rfl, by go_num, by omega, HJ2.out⟩
            case measure => simp [intOf]; omega
          · obtain rfl : j = 1 + r := by omega
            have HE := Lib.hid (show PrgOn w wr c (fun X => Rd X c s (N + ((pAcc (st s N) 1 (p + 1)).2))) A k cp (pAcc (st s N) 1 (p + 1)).1 from HJ.out.to (fun h => by rw [pAcc_s2 (st s N) 1 p u r HU.out HRR.out]; exact h) ((pAcc_s1 (st s N) 1 p u r l1 HU.out HRR.out HL1.out).symm))
            go_wp2_with fail
            go_roundw
            case rel => exact ⟨p + 1, k, cp, A, rfl, by go_num, by omega, HE.out⟩
            case measure => simp [intOf]; omega
      · exact absurd hlt (by omega)
    · obtain rfl : p = 1 := by omega
      go_wp2_with fail
      go_ret
      exact ⟨A, k, cp, rfl, HR.out⟩
set_option maxHeartbeats 4000000 in
theorem refPrograms_in (w : World) (c s N : Nat) (n : Nat) (hn1 : 1 ≤ n) (hn2 : n ≤ 16) (hs : s < 18446744073709551616) (hN : N ≤ 10000) (h : Rd w c s N) :
    Calls Try.prog 18 #[.pointer (some ⟨c, 0, none⟩), .int .i64 (n : Int)] w (Prg w c (pAcc (st s N) n n).1 (fun X => Rd X c s (N + ((pAcc (st s N) n n).2)))) := by
  obtain ⟨i0, hi, hz0, hz1, hz2⟩ := info_parts info22
  have HS := Lib.hid hs
  have HST := Lib.hid (prg_start w c (fun X => Rd X c s (N + ((pAcc (st s N) n 0).2))) (by show Rd w c s (N + 0); exact h) h.lt)
  have hclt := h.lt
  have m1 : ¬ (n : Int) < 1 := by omega
  have m2 : ¬ 16 < (n : Int) := by omega
  have HN : Hid (1 ≤ n ∧ n ≤ 16) := ⟨hn1, hn2⟩
  clear h hs
  go_enter Try.func18, Try.ntmps18
  go_wp2_with fail
  go_loopw [5, 6] (fun v i wr => ∃ (p k cp : Nat) (A : Option Addr), v = .slice A k cp ∧ i = .int .i64 p ∧ (p : Int) ≤ (n : Int) ∧ PrgOn w wr c (fun X => Rd X c s (N + ((pAcc (st s N) n p).2))) A k cp (pAcc (st s N) n p).1) (fun _ i _ => (n : Nat) - (intOf i).toNat)
  case atStart => exact ⟨0, 0, 0, none, rfl, rfl, by omega, HST.out⟩
  case round =>
    obtain ⟨p, k, cp, A, rfl, rfl, hp, hR⟩ := hrel
    have hpl := pAcc_len (st s N) n p
    have hkl := hR.len
    have HR := Lib.hid hR
    clear HST hR
    by_cases hlt : (p : Int) < (n : Int)
    · obtain ⟨u, HU⟩ : ∃ u, Hid ((pAcc (st s N) n p).2 = u) := ⟨_, Lib.hid rfl⟩
      have hub : u ≤ 300 := by have := HU.out; have := hpl.2; have := HN.out; omega
      have hkb : k ≤ 200 := by have := hpl.1; have := HN.out; omega
      have HRu := Lib.hid (show PrgOn w wr c (fun X => Rd X c s (N + (u))) A k cp (pAcc (st s N) n p).1 from by have e := HR.out; rw [HU.out] at e; exact e)
      clear HR hpl hkl
      by_cases hp0 : p = 0
      · obtain ⟨l1, HL1⟩ : ∃ l1, Hid ((pAcc (st s N) n p).1 ++ (if p = 0 then [] else [7]) = l1) := ⟨_, Lib.hid rfl⟩
        have HR1 := Lib.hid (show PrgOn w wr c (fun X => Rd X c s (N + (u))) A k cp l1 from HRu.out.to (fun h => h) (by rw [← HL1.out, if_pos hp0, List.append_nil]))
        have hl1 : l1.length ≤ 201 := by have := HR1.out.len; omega
        have hpp : ¬ 0 < (p : Int) := by omega
        have hp00 : Hid (p = 0) := hp0
        clear HRu hp0
        obtain ⟨A1, hA1⟩ : ∃ A1, A1 = A := ⟨_, rfl⟩
        subst hA1
        obtain ⟨k1, hk1⟩ : ∃ k1, k1 = k := ⟨_, rfl⟩
        subst hk1
        obtain ⟨cp1, hcp1⟩ : ∃ cp1, cp1 = cp := ⟨_, rfl⟩
        subst hcp1
        obtain ⟨r, HRR, hr⟩ : ∃ r : Nat, Hid (rem (num (st (st s N) u) 1) 8 = r) ∧ r < 8 := ⟨_, Lib.hid rfl, rem_lt _ _ (by omega)⟩
        go_wp2_with fail
        go_at_call 8; refine (refBelow_lit _ c s (N + (u)) 8 r 8 rfl HS.out (by omega) HR1.out.q (by omega) (by omega) (by rw [show N + (u) + 1 = N + u + 1 by omega, ← num_st2, ← st_st2, HRR.out])).mono ?_; rintro e w2 ⟨rfl, hD, hB⟩
        have HI := Lib.hid (show PrgOn w w2 c (fun X => Rd X c s (N + (u + 1 + (wAcc (st (st s N) (u + 1)) n 0).2))) A1 k1 cp1 (l1 ++ (wAcc (st (st s N) (u + 1)) n 0).1) from (HR1.out.call (Q' := fun X => Rd X c s (N + (u + 1))) hB (by have e := hD; rw [show N + u + 1 = N + (u + 1) by omega] at e; exact e)).to (fun h => h) (List.append_nil _).symm)
        clear hD hB
        go_wp2_with fail
        go_loopw [5, 8] (fun v i wr => ∃ (j k cp : Nat) (A : Option Addr), v = .slice A k cp ∧ i = .int .i64 j ∧ j ≤ 1 + r ∧ PrgOn w wr c (fun X => Rd X c s (N + (u + 1 + (wAcc (st (st s N) (u + 1)) n j).2))) A k cp (l1 ++ (wAcc (st (st s N) (u + 1)) n j).1)) (fun _ i _ => (1 + r) - (intOf i).toNat)
        case atStart => exact ⟨0, k1, cp1, A1, rfl, rfl, by omega, HI.out⟩
        case round =>
          obtain ⟨j, k, cp, A, rfl, rfl, hj, hJ⟩ := hrel
          have HJ := Lib.hid hJ
          have hwl := wAcc_len (st (st s N) (u + 1)) n j
          have hkl := hJ.len
          have hkb : k ≤ 1000 := by have := hJ.len; rw [List.length_append] at this; omega
          clear HI hJ hkl
          by_cases hlt2 : j < 1 + r
          · go_wp2_with fail
            go_at_call 25; refine (refWord_lit _ c s (N + (u + 1 + (wAcc (st (st s N) (u + 1)) n j).2)) n (n : Int) rfl HS.out (by have := (wAcc_len (st (st s N) (u + 1)) n j).2; omega) HJ.out.q HN.out.1 HN.out.2).mono ?_; rintro e w3 ⟨rfl, hD, hB⟩
            have HJ1 := Lib.hid (HJ.out.call (Q' := fun X => Rd X c s (N + (u + 1 + (wAcc (st (st s N) (u + 1)) n (j + 1)).2))) hB (by show Rd w3 c s (N + (u + 1 + (wAcc (st (st s N) (u + 1)) n (j + 1)).2)); rw [wAcc_r]; exact hD))
            have HX : Hid (l1 ++ (wAcc (st (st s N) (u + 1)) n j).1 ++ [wv (st (st s N) (u + 1 + (wAcc (st (st s N) (u + 1)) n j).2)) n] = l1 ++ (wAcc (st (st s N) (u + 1)) n (j + 1)).1) := wAcc_x (st s N) n u j l1
            clear hD hB
            rw [show st s (N + (u + 1 + (wAcc (st (st s N) (u + 1)) n j).2)) = st (st s N) (u + 1 + (wAcc (st (st s N) (u + 1)) n j).2) from (st_st2 s N _).symm]
            generalize hxx : wv (st (st s N) (u + 1 + (wAcc (st (st s N) (u + 1)) n j).2)) n = x at HX ⊢
            clear hxx
            go_wp2_with (refine wpList_append_lies _ rfl (.tmp 30) (.tmp 34) 44 rfl w.heap.size 22 i0 _ 1 8 Try.underlying44 hi hz0 hz1 hz2 rfl (by omega) (.slice A k cp) k (wc (l1 ++ (wAcc (st (st s N) (u + 1)) n j).1)) rfl (HJ1.out.own.alloc _) ⟨_, 0, none⟩ 1 1 [.int .u64 ((x : Nat) : Int)] rfl rfl (news1 _ _) (fun u hu => by simp at hu; subst hu; rfl) (by omega) (by unfold maxLen; omega) (by omega) (by have := HJ1.out.but.size; simp; omega) _ rfl ?_; intro g3 cap3 w4 hO2 hG2 _ _; have HJ2 := Lib.hid (((HJ1.out.alloc _ (HJ1.out.q.below ((Below.refl _ _).alloc (Nat.le_refl _) _) HJ1.out.q.lt)).app (Q' := fun X => Rd X c s (N + (u + 1 + (wAcc (st (st s N) (u + 1)) n (j + 1)).2))) hO2 hG2 (fun hk => (hk c HJ1.out.lt).trans (HJ1.out.q.below ((Below.refl _ _).alloc (Nat.le_refl _) _) HJ1.out.q.lt))).to (Q' := fun X => Rd X c s (N + (u + 1 + (wAcc (st (st s N) (u + 1)) n (j + 1)).2))) (fun h => h) HX.out); clear hO2 hG2)
            go_roundw
            case rel => exact ⟨j + 1, k + 1, cap3, _, rfl, by go_num, by omega, HJ2.out⟩
            case measure => simp [intOf]; omega
          · obtain rfl : j = 1 + r := by omega
            have HE := Lib.hid (show PrgOn w wr c (fun X => Rd X c s (N + ((pAcc (st s N) n (p + 1)).2))) A k cp (pAcc (st s N) n (p + 1)).1 from HJ.out.to (fun h => by rw [pAcc_s2 (st s N) n p u r HU.out HRR.out]; exact h) ((pAcc_s1 (st s N) n p u r l1 HU.out HRR.out HL1.out).symm))
            go_wp2_with fail
            go_roundw
            case rel => exact ⟨p + 1, k, cp, A, rfl, by go_num, by omega, HE.out⟩
            case measure => simp [intOf]; omega
      · obtain ⟨l1, HL1⟩ : ∃ l1, Hid ((pAcc (st s N) n p).1 ++ (if p = 0 then [] else [7]) = l1) := ⟨_, Lib.hid rfl⟩
        have hpp : 0 < (p : Int) := by omega
        have hp00 : Hid (¬ p = 0) := hp0
        have hl0 : ((pAcc (st s N) n p).1).length ≤ 200 := by have := HRu.out.len; omega
        clear hp0
        go_wp2_with (refine wpList_append_lies _ rfl (.tmp 19) (.tmp 20) 44 rfl w.heap.size 22 i0 _ 1 8 Try.underlying44 hi hz0 hz1 hz2 rfl (by omega) (.slice A k cp) k (wc ((pAcc (st s N) n p).1)) rfl (HRu.out.own.alloc _) ⟨_, 0, none⟩ 1 1 [.int .u64 (7 : Int)] rfl rfl (news1 _ _) (fun u hu => by simp at hu; subst hu; rfl) (by omega) (by unfold maxLen; omega) (by omega) (by have := HRu.out.but.size; simp; omega) _ rfl ?_; intro g1 cp1 w1 hO2 hG2 _ _; have HR1 := Lib.hid (((HRu.out.alloc _ (HRu.out.q.below ((Below.refl _ _).alloc (Nat.le_refl _) _) HRu.out.q.lt)).app (x := 7) (Q' := fun X => Rd X c s (N + (u))) hO2 hG2 (fun hk => (hk c HRu.out.lt).trans (HRu.out.q.below ((Below.refl _ _).alloc (Nat.le_refl _) _) HRu.out.q.lt))).to (Q' := fun X => Rd X c s (N + (u))) (l' := l1) (fun h => h) (by rw [← HL1.out, if_neg hp00.out])); clear hO2 hG2)
        have hl1 : l1.length ≤ 201 := by have := HR1.out.len; omega
        obtain ⟨A1, hA1⟩ : ∃ A1 : Option Addr, A1 = some ⟨g1, 0, none⟩ := ⟨_, rfl⟩
        obtain ⟨k1, hk1⟩ : ∃ k1, k1 = k + 1 := ⟨_, rfl⟩
        rw [← hA1, ← hk1] at HR1
        rw [← hA1, ← hk1]
        clear hA1 hk1
        obtain ⟨r, HRR, hr⟩ : ∃ r : Nat, Hid (rem (num (st (st s N) u) 1) 8 = r) ∧ r < 8 := ⟨_, Lib.hid rfl, rem_lt _ _ (by omega)⟩
        go_wp2_with fail
        go_at_call 8; refine (refBelow_lit _ c s (N + (u)) 8 r 8 rfl HS.out (by omega) HR1.out.q (by omega) (by omega) (by rw [show N + (u) + 1 = N + u + 1 by omega, ← num_st2, ← st_st2, HRR.out])).mono ?_; rintro e w2 ⟨rfl, hD, hB⟩
        have HI := Lib.hid (show PrgOn w w2 c (fun X => Rd X c s (N + (u + 1 + (wAcc (st (st s N) (u + 1)) n 0).2))) A1 k1 cp1 (l1 ++ (wAcc (st (st s N) (u + 1)) n 0).1) from (HR1.out.call (Q' := fun X => Rd X c s (N + (u + 1))) hB (by have e := hD; rw [show N + u + 1 = N + (u + 1) by omega] at e; exact e)).to (fun h => h) (List.append_nil _).symm)
        clear hD hB
        go_wp2_with fail
        go_loopw [5, 8] (fun v i wr => ∃ (j k cp : Nat) (A : Option Addr), v = .slice A k cp ∧ i = .int .i64 j ∧ j ≤ 1 + r ∧ PrgOn w wr c (fun X => Rd X c s (N + (u + 1 + (wAcc (st (st s N) (u + 1)) n j).2))) A k cp (l1 ++ (wAcc (st (st s N) (u + 1)) n j).1)) (fun _ i _ => (1 + r) - (intOf i).toNat)
        case atStart => exact ⟨0, k1, cp1, A1, rfl, rfl, by omega, HI.out⟩
        case round =>
          obtain ⟨j, k, cp, A, rfl, rfl, hj, hJ⟩ := hrel
          have HJ := Lib.hid hJ
          have hwl := wAcc_len (st (st s N) (u + 1)) n j
          have hkl := hJ.len
          have hkb : k ≤ 1000 := by have := hJ.len; rw [List.length_append] at this; omega
          clear HI hJ hkl
          by_cases hlt2 : j < 1 + r
          · go_wp2_with fail
            go_at_call 25; refine (refWord_lit _ c s (N + (u + 1 + (wAcc (st (st s N) (u + 1)) n j).2)) n (n : Int) rfl HS.out (by have := (wAcc_len (st (st s N) (u + 1)) n j).2; omega) HJ.out.q HN.out.1 HN.out.2).mono ?_; rintro e w3 ⟨rfl, hD, hB⟩
            have HJ1 := Lib.hid (HJ.out.call (Q' := fun X => Rd X c s (N + (u + 1 + (wAcc (st (st s N) (u + 1)) n (j + 1)).2))) hB (by show Rd w3 c s (N + (u + 1 + (wAcc (st (st s N) (u + 1)) n (j + 1)).2)); rw [wAcc_r]; exact hD))
            have HX : Hid (l1 ++ (wAcc (st (st s N) (u + 1)) n j).1 ++ [wv (st (st s N) (u + 1 + (wAcc (st (st s N) (u + 1)) n j).2)) n] = l1 ++ (wAcc (st (st s N) (u + 1)) n (j + 1)).1) := wAcc_x (st s N) n u j l1
            clear hD hB
            rw [show st s (N + (u + 1 + (wAcc (st (st s N) (u + 1)) n j).2)) = st (st s N) (u + 1 + (wAcc (st (st s N) (u + 1)) n j).2) from (st_st2 s N _).symm]
            generalize hxx : wv (st (st s N) (u + 1 + (wAcc (st (st s N) (u + 1)) n j).2)) n = x at HX ⊢
            clear hxx
            go_wp2_with (refine wpList_append_lies _ rfl (.tmp 30) (.tmp 34) 44 rfl w.heap.size 22 i0 _ 1 8 Try.underlying44 hi hz0 hz1 hz2 rfl (by omega) (.slice A k cp) k (wc (l1 ++ (wAcc (st (st s N) (u + 1)) n j).1)) rfl (HJ1.out.own.alloc _) ⟨_, 0, none⟩ 1 1 [.int .u64 ((x : Nat) : Int)] rfl rfl (news1 _ _) (fun u hu => by simp at hu; subst hu; rfl) (by omega) (by unfold maxLen; omega) (by omega) (by have := HJ1.out.but.size; simp; omega) _ rfl ?_; intro g3 cap3 w4 hO2 hG2 _ _; have HJ2 := Lib.hid (((HJ1.out.alloc _ (HJ1.out.q.below ((Below.refl _ _).alloc (Nat.le_refl _) _) HJ1.out.q.lt)).app (Q' := fun X => Rd X c s (N + (u + 1 + (wAcc (st (st s N) (u + 1)) n (j + 1)).2))) hO2 hG2 (fun hk => (hk c HJ1.out.lt).trans (HJ1.out.q.below ((Below.refl _ _).alloc (Nat.le_refl _) _) HJ1.out.q.lt))).to (Q' := fun X => Rd X c s (N + (u + 1 + (wAcc (st (st s N) (u + 1)) n (j + 1)).2))) (fun h => h) HX.out); clear hO2 hG2)
            go_roundw
            case rel => exact ⟨j + 1, k + 1, cap3, _, rfl, by go_num, by omega, HJ2.out⟩
            case measure => simp [intOf]; omega
          · obtain rfl : j = 1 + r := by omega
            have HE := Lib.hid (show PrgOn w wr c (fun X => Rd X c s (N + ((pAcc (st s N) n (p + 1)).2))) A k cp (pAcc (st s N) n (p + 1)).1 from HJ.out.to (fun h => by rw [pAcc_s2 (st s N) n p u r HU.out HRR.out]; exact h) ((pAcc_s1 (st s N) n p u r l1 HU.out HRR.out HL1.out).symm))
            go_wp2_with fail
            go_roundw
            case rel => exact ⟨p + 1, k, cp, A, rfl, by go_num, by omega, HE.out⟩
            case measure => simp [intOf]; omega
    · obtain rfl : p = n := by omega
      go_wp2_with fail
      go_ret
      exact ⟨A, k, cp, rfl, HR.out⟩
set_option maxHeartbeats 4000000 in
theorem refPrograms_hi (w : World) (c s N : Nat) (mi : Int) (hmi : 16 < mi) (hs : s < 18446744073709551616) (hN : N ≤ 10000) (h : Rd w c s N) :
    Calls Try.prog 18 #[.pointer (some ⟨c, 0, none⟩), .int .i64 mi] w (Prg w c (pAcc (st s N) 16 16).1 (fun X => Rd X c s (N + ((pAcc (st s N) 16 16).2)))) := by
  obtain ⟨i0, hi, hz0, hz1, hz2⟩ := info_parts info22
  have HS := Lib.hid hs
  have HST := Lib.hid (prg_start w c (fun X => Rd X c s (N + ((pAcc (st s N) 16 0).2))) (by show Rd w c s (N + 0); exact h) h.lt)
  have hclt := h.lt
  have m1 : ¬ mi < 1 := by omega
  have m2 : 16 < mi := hmi
  have HN : Hid (1 ≤ 16 ∧ 16 ≤ 16) := (by omega : 1 ≤ 16 ∧ 16 ≤ 16)
  clear h hs
  go_enter Try.func18, Try.ntmps18
  go_wp2_with fail
  go_loopw [5, 6] (fun v i wr => ∃ (p k cp : Nat) (A : Option Addr), v = .slice A k cp ∧ i = .int .i64 p ∧ (p : Int) ≤ 16 ∧ PrgOn w wr c (fun X => Rd X c s (N + ((pAcc (st s N) 16 p).2))) A k cp (pAcc (st s N) 16 p).1) (fun _ i _ => (16 : Nat) - (intOf i).toNat)
  case atStart => exact ⟨0, 0, 0, none, rfl, rfl, by omega, HST.out⟩
  case round =>
    obtain ⟨p, k, cp, A, rfl, rfl, hp, hR⟩ := hrel
    have hpl := pAcc_len (st s N) 16 p
    have hkl := hR.len
    have HR := Lib.hid hR
    clear HST hR
    by_cases hlt : (p : Int) < 16
    · obtain ⟨u, HU⟩ : ∃ u, Hid ((pAcc (st s N) 16 p).2 = u) := ⟨_, Lib.hid rfl⟩
      have hub : u ≤ 300 := by have := HU.out; have := hpl.2; have := HN.out; omega
      have hkb : k ≤ 200 := by have := hpl.1; have := HN.out; omega
      have HRu := Lib.hid (show PrgOn w wr c (fun X => Rd X c s (N + (u))) A k cp (pAcc (st s N) 16 p).1 from by have e := HR.out; rw [HU.out] at e; exact e)
      clear HR hpl hkl
      by_cases hp0 : p = 0
      · obtain ⟨l1, HL1⟩ : ∃ l1, Hid ((pAcc (st s N) 16 p).1 ++ (if p = 0 then [] else [7]) = l1) := ⟨_, Lib.hid rfl⟩
        have HR1 := Lib.hid (show PrgOn w wr c (fun X => Rd X c s (N + (u))) A k cp l1 from HRu.out.to (fun h => h) (by rw [← HL1.out, if_pos hp0, List.append_nil]))
        have hl1 : l1.length ≤ 201 := by have := HR1.out.len; omega
        have hpp : ¬ 0 < (p : Int) := by omega
        have hp00 : Hid (p = 0) := hp0
        clear HRu hp0
        obtain ⟨A1, hA1⟩ : ∃ A1, A1 = A := ⟨_, rfl⟩
        subst hA1
        obtain ⟨k1, hk1⟩ : ∃ k1, k1 = k := ⟨_, rfl⟩
        subst hk1
        obtain ⟨cp1, hcp1⟩ : ∃ cp1, cp1 = cp := ⟨_, rfl⟩
        subst hcp1
        obtain ⟨r, HRR, hr⟩ : ∃ r : Nat, Hid (rem (num (st (st s N) u) 1) 8 = r) ∧ r < 8 := ⟨_, Lib.hid rfl, rem_lt _ _ (by omega)⟩
        go_wp2_with fail
        go_at_call 8; refine (refBelow_lit _ c s (N + (u)) 8 r 8 rfl HS.out (by omega) HR1.out.q (by omega) (by omega) (by rw [show N + (u) + 1 = N + u + 1 by omega, ← num_st2, ← st_st2, HRR.out])).mono ?_; rintro e w2 ⟨rfl, hD, hB⟩
        have HI := Lib.hid (show PrgOn w w2 c (fun X => Rd X c s (N + (u + 1 + (wAcc (st (st s N) (u + 1)) 16 0).2))) A1 k1 cp1 (l1 ++ (wAcc (st (st s N) (u + 1)) 16 0).1) from (HR1.out.call (Q' := fun X => Rd X c s (N + (u + 1))) hB (by have e := hD; rw [show N + u + 1 = N + (u + 1) by omega] at e; exact e)).to (fun h => h) (List.append_nil _).symm)
        clear hD hB
        go_wp2_with fail
        go_loopw [5, 8] (fun v i wr => ∃ (j k cp : Nat) (A : Option Addr), v = .slice A k cp ∧ i = .int .i64 j ∧ j ≤ 1 + r ∧ PrgOn w wr c (fun X => Rd X c s (N + (u + 1 + (wAcc (st (st s N) (u + 1)) 16 j).2))) A k cp (l1 ++ (wAcc (st (st s N) (u + 1)) 16 j).1)) (fun _ i _ => (1 + r) - (intOf i).toNat)
        case atStart => exact ⟨0, k1, cp1, A1, rfl, rfl, by omega, HI.out⟩
        case round =>
          obtain ⟨j, k, cp, A, rfl, rfl, hj, hJ⟩ := hrel
          have HJ := Lib.hid hJ
          have hwl := wAcc_len (st (st s N) (u + 1)) 16 j
          have hkl := hJ.len
          have hkb : k ≤ 1000 := by have := hJ.len; rw [List.length_append] at this; omega
          clear HI hJ hkl
          by_cases hlt2 : j < 1 + r
          · go_wp2_with fail
            go_at_call 25; refine (refWord_lit _ c s (N + (u + 1 + (wAcc (st (st s N) (u + 1)) 16 j).2)) 16 16 rfl HS.out (by have := (wAcc_len (st (st s N) (u + 1)) 16 j).2; omega) HJ.out.q HN.out.1 HN.out.2).mono ?_; rintro e w3 ⟨rfl, hD, hB⟩
            have HJ1 := Lib.hid (HJ.out.call (Q' := fun X => Rd X c s (N + (u + 1 + (wAcc (st (st s N) (u + 1)) 16 (j + 1)).2))) hB (by show Rd w3 c s (N + (u + 1 + (wAcc (st (st s N) (u + 1)) 16 (j + 1)).2)); rw [wAcc_r]; exact hD))
            have HX : Hid (l1 ++ (wAcc (st (st s N) (u + 1)) 16 j).1 ++ [wv (st (st s N) (u + 1 + (wAcc (st (st s N) (u + 1)) 16 j).2)) 16] = l1 ++ (wAcc (st (st s N) (u + 1)) 16 (j + 1)).1) := wAcc_x (st s N) 16 u j l1
            clear hD hB
            rw [show st s (N + (u + 1 + (wAcc (st (st s N) (u + 1)) 16 j).2)) = st (st s N) (u + 1 + (wAcc (st (st s N) (u + 1)) 16 j).2) from (st_st2 s N _).symm]
            generalize hxx : wv (st (st s N) (u + 1 + (wAcc (st (st s N) (u + 1)) 16 j).2)) 16 = x at HX ⊢
            clear hxx
            go_wp2_with (refine wpList_append_lies _ rfl (.tmp 30) (.tmp 34) 44 rfl w.heap.size 22 i0 _ 1 8 Try.underlying44 hi hz0 hz1 hz2 rfl (by omega) (.slice A k cp) k (wc (l1 ++ (wAcc (st (st s N) (u + 1)) 16 j).1)) rfl (HJ1.out.own.alloc _) ⟨_, 0, none⟩ 1 1 [.int .u64 ((x : Nat) : Int)] rfl rfl (news1 _ _) (fun u hu => by simp at hu; subst hu; rfl) (by omega) (by unfold maxLen; omega) (by omega) (by have := HJ1.out.but.size; simp; omega) _ rfl ?_; intro g3 cap3 w4 hO2 hG2 _ _; have HJ2 := Lib.hid (((HJ1.out.alloc _ (HJ1.out.q.below ((Below.refl _ _).alloc (Nat.le_refl _) _) HJ1.out.q.lt)).app (Q' := fun X => Rd X c s (N + (u + 1 + (wAcc (st (st s N) (u + 1)) 16 (j + 1)).2))) hO2 hG2 (fun hk => (hk c HJ1.out.lt).trans (HJ1.out.q.below ((Below.refl _ _).alloc (Nat.le_refl _) _) HJ1.out.q.lt))).to (Q' := fun X => Rd X c s (N + (u + 1 + (wAcc (st (st s N) (u + 1)) 16 (j + 1)).2))) (fun h => h) HX.out); clear hO2 hG2)
            go_roundw
            case rel => exact ⟨j + 1, k + 1, cap3, _, rfl, by go_num, by omega, HJ2.out⟩
            case measure => simp [intOf]; omega
          · obtain rfl : j = 1 + r := by omega
            have HE := Lib.hid (show PrgOn w wr c (fun X => Rd X c s (N + ((pAcc (st s N) 16 (p + 1)).2))) A k cp (pAcc (st s N) 16 (p + 1)).1 from HJ.out.to (fun h => by rw [pAcc_s2 (st s N) 16 p u r HU.out HRR.out]; exact h) ((pAcc_s1 (st s N) 16 p u r l1 HU.out HRR.out HL1.out).symm))
            go_wp2_with fail
            go_roundw
            case rel => exact ⟨p + 1, k, cp, A, rfl, by go_num, by omega, HE.out⟩
            case measure => simp [intOf]; omega
      · obtain ⟨l1, HL1⟩ : ∃ l1, Hid ((pAcc (st s N) 16 p).1 ++ (if p = 0 then [] else [7]) = l1) := ⟨_, Lib.hid rfl⟩
        have hpp : 0 < (p : Int) := by omega
        have hp00 : Hid (¬ p = 0) := hp0
        have hl0 : ((pAcc (st s N) 16 p).1).length ≤ 200 := by have := HRu.out.len; omega
        clear hp0
        go_wp2_with (refine wpList_append_lies _ rfl (.tmp 19) (.tmp 20) 44 rfl w.heap.size 22 i0 _ 1 8 Try.underlying44 hi hz0 hz1 hz2 rfl (by omega) (.slice A k cp) k (wc ((pAcc (st s N) 16 p).1)) rfl (HRu.out.own.alloc _) ⟨_, 0, none⟩ 1 1 [.int .u64 (7 : Int)] rfl rfl (news1 _ _) (fun u hu => by simp at hu; subst hu; rfl) (by omega) (by unfold maxLen; omega) (by omega) (by have := HRu.out.but.size; simp; omega) _ rfl ?_; intro g1 cp1 w1 hO2 hG2 _ _; have HR1 := Lib.hid (((HRu.out.alloc _ (HRu.out.q.below ((Below.refl _ _).alloc (Nat.le_refl _) _) HRu.out.q.lt)).app (x := 7) (Q' := fun X => Rd X c s (N + (u))) hO2 hG2 (fun hk => (hk c HRu.out.lt).trans (HRu.out.q.below ((Below.refl _ _).alloc (Nat.le_refl _) _) HRu.out.q.lt))).to (Q' := fun X => Rd X c s (N + (u))) (l' := l1) (fun h => h) (by rw [← HL1.out, if_neg hp00.out])); clear hO2 hG2)
        have hl1 : l1.length ≤ 201 := by have := HR1.out.len; omega
        obtain ⟨A1, hA1⟩ : ∃ A1 : Option Addr, A1 = some ⟨g1, 0, none⟩ := ⟨_, rfl⟩
        obtain ⟨k1, hk1⟩ : ∃ k1, k1 = k + 1 := ⟨_, rfl⟩
        rw [← hA1, ← hk1] at HR1
        rw [← hA1, ← hk1]
        clear hA1 hk1
        obtain ⟨r, HRR, hr⟩ : ∃ r : Nat, Hid (rem (num (st (st s N) u) 1) 8 = r) ∧ r < 8 := ⟨_, Lib.hid rfl, rem_lt _ _ (by omega)⟩
        go_wp2_with fail
        go_at_call 8; refine (refBelow_lit _ c s (N + (u)) 8 r 8 rfl HS.out (by omega) HR1.out.q (by omega) (by omega) (by rw [show N + (u) + 1 = N + u + 1 by omega, ← num_st2, ← st_st2, HRR.out])).mono ?_; rintro e w2 ⟨rfl, hD, hB⟩
        have HI := Lib.hid (show PrgOn w w2 c (fun X => Rd X c s (N + (u + 1 + (wAcc (st (st s N) (u + 1)) 16 0).2))) A1 k1 cp1 (l1 ++ (wAcc (st (st s N) (u + 1)) 16 0).1) from (HR1.out.call (Q' := fun X => Rd X c s (N + (u + 1))) hB (by have e := hD; rw [show N + u + 1 = N + (u + 1) by omega] at e; exact e)).to (fun h => h) (List.append_nil _).symm)
        clear hD hB
        go_wp2_with fail
        go_loopw [5, 8] (fun v i wr => ∃ (j k cp : Nat) (A : Option Addr), v = .slice A k cp ∧ i = .int .i64 j ∧ j ≤ 1 + r ∧ PrgOn w wr c (fun X => Rd X c s (N + (u + 1 + (wAcc (st (st s N) (u + 1)) 16 j).2))) A k cp (l1 ++ (wAcc (st (st s N) (u + 1)) 16 j).1)) (fun _ i _ => (1 + r) - (intOf i).toNat)
        case atStart => exact ⟨0, k1, cp1, A1, rfl, rfl, by omega, HI.out⟩
        case round =>
          obtain ⟨j, k, cp, A, rfl, rfl, hj, hJ⟩ := hrel
          have HJ := Lib.hid hJ
          have hwl := wAcc_len (st (st s N) (u + 1)) 16 j
          have hkl := hJ.len
          have hkb : k ≤ 1000 := by have := hJ.len; rw [List.length_append] at this; omega
          clear HI hJ hkl
          by_cases hlt2 : j < 1 + r
          · go_wp2_with fail
            go_at_call 25; refine (refWord_lit _ c s (N + (u + 1 + (wAcc (st (st s N) (u + 1)) 16 j).2)) 16 16 rfl HS.out (by have := (wAcc_len (st (st s N) (u + 1)) 16 j).2; omega) HJ.out.q HN.out.1 HN.out.2).mono ?_; rintro e w3 ⟨rfl, hD, hB⟩
            have HJ1 := Lib.hid (HJ.out.call (Q' := fun X => Rd X c s (N + (u + 1 + (wAcc (st (st s N) (u + 1)) 16 (j + 1)).2))) hB (by show Rd w3 c s (N + (u + 1 + (wAcc (st (st s N) (u + 1)) 16 (j + 1)).2)); rw [wAcc_r]; exact hD))
            have HX : Hid (l1 ++ (wAcc (st (st s N) (u + 1)) 16 j).1 ++ [wv (st (st s N) (u + 1 + (wAcc (st (st s N) (u + 1)) 16 j).2)) 16] = l1 ++ (wAcc (st (st s N) (u + 1)) 16 (j + 1)).1) := wAcc_x (st s N) 16 u j l1
            clear hD hB
            rw [show st s (N + (u + 1 + (wAcc (st (st s N) (u + 1)) 16 j).2)) = st (st s N) (u + 1 + (wAcc (st (st s N) (u + 1)) 16 j).2) from (st_st2 s N _).symm]
            generalize hxx : wv (st (st s N) (u + 1 + (wAcc (st (st s N) (u + 1)) 16 j).2)) 16 = x at HX ⊢
            clear hxx
            go_wp2_with (refine wpList_append_lies _ rfl (.tmp 30) (.tmp 34) 44 rfl w.heap.size 22 i0 _ 1 8 Try.underlying44 hi hz0 hz1 hz2 rfl (by omega) (.slice A k cp) k (wc (l1 ++ (wAcc (st (st s N) (u + 1)) 16 j).1)) rfl (HJ1.out.own.alloc _) ⟨_, 0, none⟩ 1 1 [.int .u64 ((x : Nat) : Int)] rfl rfl (news1 _ _) (fun u hu => by simp at hu; subst hu; rfl) (by omega) (by unfold maxLen; omega) (by omega) (by have := HJ1.out.but.size; simp; omega) _ rfl ?_; intro g3 cap3 w4 hO2 hG2 _ _; have HJ2 := Lib.hid (((HJ1.out.alloc _ (HJ1.out.q.below ((Below.refl _ _).alloc (Nat.le_refl _) _) HJ1.out.q.lt)).app (Q' := fun X => Rd X c s (N + (u + 1 + (wAcc (st (st s N) (u + 1)) 16 (j + 1)).2))) hO2 hG2 (fun hk => (hk c HJ1.out.lt).trans (HJ1.out.q.below ((Below.refl _ _).alloc (Nat.le_refl _) _) HJ1.out.q.lt))).to (Q' := fun X => Rd X c s (N + (u + 1 + (wAcc (st (st s N) (u + 1)) 16 (j + 1)).2))) (fun h => h) HX.out); clear hO2 hG2)
            go_roundw
            case rel => exact ⟨j + 1, k + 1, cap3, _, rfl, by go_num, by omega, HJ2.out⟩
            case measure => simp [intOf]; omega
          · obtain rfl : j = 1 + r := by omega
            have HE := Lib.hid (show PrgOn w wr c (fun X => Rd X c s (N + ((pAcc (st s N) 16 (p + 1)).2))) A k cp (pAcc (st s N) 16 (p + 1)).1 from HJ.out.to (fun h => by rw [pAcc_s2 (st s N) 16 p u r HU.out HRR.out]; exact h) ((pAcc_s1 (st s N) 16 p u r l1 HU.out HRR.out HL1.out).symm))
            go_wp2_with fail
            go_roundw
            case rel => exact ⟨p + 1, k, cp, A, rfl, by go_num, by omega, HE.out⟩
            case measure => simp [intOf]; omega
    · obtain rfl : p = 16 := by omega
      go_wp2_with fail
      go_ret
      exact ⟨A, k, cp, rfl, HR.out⟩
end Go.Proofs.Yteibdjbipfimeaa
