/- Programs made up, walked. -/
import Derived.Test.YteibdjbipfimeaaM4
namespace Go.Proofs.Yteibdjbipfimeaa
open Go Go.RowKit
set_option linter.unusedVariables false
set_option linter.unusedSimpArgs false
set_option maxRecDepth 100000

theorem word_lit (w : World) (c S n : Nat) (ni : Int) (hni : ni = (n : Int)) (hs : S < 18446744073709551616) (h : Dc w c S) (hn : 1 ≤ n) (hn2 : n ≤ 16) :
    Calls Try.prog 24 #[.pointer (some ⟨c, 0, none⟩), .int .i64 ni] w fun e w' => e = .returned (.int .u64 ((wv S n : Nat) : Int)) ∧ Dc w' c (st S (wu S)) ∧ But [c] w w' := by
  subst hni; exact word_any w c S n hs h hn hn2
/-- What programs come to: a row of words of the call's own, and the dice. -/
def Prg (w : World) (c : Nat) (L : List Nat) (Q : World → Prop) (e : Ending) (w' : World) : Prop :=
  ∃ (A : Option Addr) (k cp : Nat), e = .returned (.slice A k cp) ∧ PrgOn w w' c Q A k cp L
theorem PrgOn.to {w wr : World} {c k cp : Nat} {Q Q' : World → Prop} {A : Option Addr} {l l' : List Nat} (h : PrgOn w wr c Q A k cp l) (hq : Q wr → Q' wr) (hl : l = l') : PrgOn w wr c Q' A k cp l' := by
  subst hl; exact ⟨h.own, h.len, hq h.q, h.but, h.lt⟩

theorem pAcc_s2 (S n p u r : Nat) (hu : (pAcc S n p).2 = u) (hr : rem (num (st S u) 1) 8 = r) : (pAcc S n (p + 1)).2 = u + 1 + (wAcc (st S (u + 1)) n (1 + r)).2 := by
  subst hu; subst hr; rfl
theorem pAcc_s1 (S n p u r : Nat) (l1 : List Nat) (hu : (pAcc S n p).2 = u) (hr : rem (num (st S u) 1) 8 = r) (hl : (pAcc S n p).1 ++ (if p = 0 then [] else [7]) = l1) : (pAcc S n (p + 1)).1 = l1 ++ (wAcc (st S (u + 1)) n (1 + r)).1 := by
  subst hu; subst hr; subst hl; rfl
theorem wAcc_u (S n u j : Nat) : u + 1 + (wAcc (st S (u + 1)) n (j + 1)).2 = u + 1 + (wAcc (st S (u + 1)) n j).2 + wu (st S (u + 1 + (wAcc (st S (u + 1)) n j).2)) := by
  show u + 1 + ((wAcc (st S (u + 1)) n j).2 + wu (st (st S (u + 1)) (wAcc (st S (u + 1)) n j).2)) = _
  rw [st_st2]; omega
theorem wAcc_q (S n u j : Nat) : st S (u + 1 + (wAcc (st S (u + 1)) n (j + 1)).2) = st (st S (u + 1 + (wAcc (st S (u + 1)) n j).2)) (wu (st S (u + 1 + (wAcc (st S (u + 1)) n j).2))) := by
  rw [wAcc_u, st_st2]
theorem wAcc_r (s N n u j : Nat) : N + (u + 1 + (wAcc (st (st s N) (u + 1)) n (j + 1)).2) = N + (u + 1 + (wAcc (st (st s N) (u + 1)) n j).2) + wu (st s (N + (u + 1 + (wAcc (st (st s N) (u + 1)) n j).2))) := by
  rw [wAcc_u, st_st2 s N (u + 1 + (wAcc (st (st s N) (u + 1)) n j).2)]; omega
theorem wAcc_x (S n u j : Nat) (l1 : List Nat) : l1 ++ (wAcc (st S (u + 1)) n j).1 ++ [wv (st S (u + 1 + (wAcc (st S (u + 1)) n j).2)) n] = l1 ++ (wAcc (st S (u + 1)) n (j + 1)).1 := by
  show _ = l1 ++ ((wAcc (st S (u + 1)) n j).1 ++ [wv (st (st S (u + 1)) (wAcc (st S (u + 1)) n j).2) n])
  rw [List.append_assoc, st_st2]
theorem news1 (X : World) (x : Value) : ∀ j u, ([x] : List Value)[j]? = some u → (X.alloc (.cells #[x] 22)).cell? ((⟨X.heap.size, 0, none⟩ : Addr).add j) = some u := fun j u hu => World.news_of_block (cs := #[x]) (heap_alloc_new X (.cells #[x] 22)) j u hu

set_option maxHeartbeats 4000000 in
theorem programs_lo (w : World) (c S : Nat) (mi : Int) (hmi : mi < 1) (hs : S < 18446744073709551616) (h : Dc w c S) :
    Calls Try.prog 17 #[.pointer (some ⟨c, 0, none⟩), .int .i64 mi] w (Prg w c (pAcc S 1 1).1 (fun X => Dc X c (st S ((pAcc S 1 1).2)))) := by
  obtain ⟨i0, hi, hz0, hz1, hz2⟩ := info_parts info22
  have HS := Lib.hid hs
  have HST := Lib.hid (prg_start w c (fun X => Dc X c (st S ((pAcc S 1 0).2))) (by show Dc w c (st S 0); rw [st_zero S hs]; exact h) h.lt)
  have hclt := h.lt
  have m1 : mi < 1 := hmi
  have HN : Hid (1 ≤ 1 ∧ 1 ≤ 16) := (by omega : 1 ≤ 1 ∧ 1 ≤ 16)
  clear h hs
  go_enter Try.func17, Try.ntmps17
  go_wp2_with fail
  go_loopw [5, 13] (fun v i wr => ∃ (p k cp : Nat) (A : Option Addr), v = .slice A k cp ∧ i = .int .i64 p ∧ (p : Int) ≤ 1 ∧ PrgOn w wr c (fun X => Dc X c (st S ((pAcc S 1 p).2))) A k cp (pAcc S 1 p).1) (fun _ i _ => (1 : Nat) - (intOf i).toNat)
  case atStart => exact ⟨0, 0, 0, none, rfl, rfl, by omega, HST.out⟩
  case round =>
    obtain ⟨p, k, cp, A, rfl, rfl, hp, hR⟩ := hrel
    have hpl := pAcc_len S 1 p
    have hkl := hR.len
    have HR := Lib.hid hR
    clear HST hR
    by_cases hlt : (p : Int) < 1
    · obtain ⟨u, HU⟩ : ∃ u, Hid ((pAcc S 1 p).2 = u) := ⟨_, Lib.hid rfl⟩
      have hub : u ≤ 300 := by have := HU.out; have := hpl.2; have := HN.out; omega
      have hkb : k ≤ 200 := by have := hpl.1; have := HN.out; omega
      have HRu := Lib.hid (show PrgOn w wr c (fun X => Dc X c (st S (u))) A k cp (pAcc S 1 p).1 from by have e := HR.out; rw [HU.out] at e; exact e)
      clear HR hpl hkl
      by_cases hp0 : p = 0
      · obtain ⟨l1, HL1⟩ : ∃ l1, Hid ((pAcc S 1 p).1 ++ (if p = 0 then [] else [7]) = l1) := ⟨_, Lib.hid rfl⟩
        have HR1 := Lib.hid (show PrgOn w wr c (fun X => Dc X c (st S (u))) A k cp l1 from HRu.out.to (fun h => h) (by rw [← HL1.out, if_pos hp0, List.append_nil]))
        have hl1 : l1.length ≤ 201 := by have := HR1.out.len; omega
        have hpp : ¬ 0 < (p : Int) := by omega
        have hp00 : Hid (p = 0) := hp0
        clear HRu hp0
        obtain ⟨A1, hA1⟩ : ∃ A1, A1 = A := ⟨_, rfl⟩
        subst hA1
        obtain ⟨k1, hk1⟩ : ∃ k1, k1 = k := ⟨_, rfl⟩
        subst hk1
        obtain ⟨cp1, hcp1⟩ : ∃ cp1, cp1 = cp := ⟨_, rfl⟩
        subst hcp1
        obtain ⟨r, HRR, hr⟩ : ∃ r : Nat, Hid (rem (num (st S u) 1) 8 = r) ∧ r < 8 := ⟨_, Lib.hid rfl, rem_lt _ _ (by omega)⟩
        go_wp2_with fail
        go_at_call 9; refine (below_lit _ c (st S (u)) 8 r 8 rfl (st_lt _ _) HR1.out.q (by omega) (by omega) (by rw [HRR.out])).mono ?_; rintro e w2 ⟨rfl, hD, hB⟩
        have HI := Lib.hid (show PrgOn w w2 c (fun X => Dc X c (st S (u + 1 + (wAcc (st S (u + 1)) 1 0).2))) A1 k1 cp1 (l1 ++ (wAcc (st S (u + 1)) 1 0).1) from (HR1.out.call (Q' := fun X => Dc X c (st S (u + 1))) hB (by have e := hD; rw [st_st2] at e; exact e)).to (fun h => h) (List.append_nil _).symm)
        clear hD hB
        go_wp2_with fail
        go_loopw [5, 24] (fun v i wr => ∃ (j k cp : Nat) (A : Option Addr), v = .slice A k cp ∧ i = .int .i64 j ∧ j ≤ 1 + r ∧ PrgOn w wr c (fun X => Dc X c (st S (u + 1 + (wAcc (st S (u + 1)) 1 j).2))) A k cp (l1 ++ (wAcc (st S (u + 1)) 1 j).1)) (fun _ i _ => (1 + r) - (intOf i).toNat)
        case atStart => exact ⟨0, k1, cp1, A1, rfl, rfl, by omega, HI.out⟩
        case round =>
          obtain ⟨j, k, cp, A, rfl, rfl, hj, hJ⟩ := hrel
          have HJ := Lib.hid hJ
          have hwl := wAcc_len (st S (u + 1)) 1 j
          have hkl := hJ.len
          have hkb : k ≤ 1000 := by have := hJ.len; rw [List.length_append] at this; omega
          clear HI hJ hkl
          by_cases hlt2 : j < 1 + r
          · go_wp2_with fail
            go_at_call 24; refine (word_lit _ c (st S (u + 1 + (wAcc (st S (u + 1)) 1 j).2)) 1 1 rfl (st_lt _ _) HJ.out.q HN.out.1 HN.out.2).mono ?_; rintro e w3 ⟨rfl, hD, hB⟩
            have HJ1 := Lib.hid (HJ.out.call (Q' := fun X => Dc X c (st S (u + 1 + (wAcc (st S (u + 1)) 1 (j + 1)).2))) hB (by show Dc w3 c (st S (u + 1 + (wAcc (st S (u + 1)) 1 (j + 1)).2)); rw [wAcc_q]; exact hD))
            have HX : Hid (l1 ++ (wAcc (st S (u + 1)) 1 j).1 ++ [wv (st S (u + 1 + (wAcc (st S (u + 1)) 1 j).2)) 1] = l1 ++ (wAcc (st S (u + 1)) 1 (j + 1)).1) := wAcc_x S 1 u j l1
            clear hD hB
            generalize hxx : wv (st S (u + 1 + (wAcc (st S (u + 1)) 1 j).2)) 1 = x at HX ⊢
            clear hxx
            go_wp2_with (refine wpList_append_lies _ rfl (.tmp 26) (.tmp 30) 44 rfl w.heap.size 22 i0 _ 1 8 Try.underlying44 hi hz0 hz1 hz2 rfl (by omega) (.slice A k cp) k (wc (l1 ++ (wAcc (st S (u + 1)) 1 j).1)) rfl (HJ1.out.own.alloc _) ⟨_, 0, none⟩ 1 1 [.int .u64 ((x : Nat) : Int)] rfl rfl (news1 _ _) (fun u hu => by simp at hu; subst hu; rfl) (by omega) (by unfold maxLen; omega) (by omega) (by have := HJ1.out.but.size; simp; omega) _ rfl ?_; intro g3 cap3 w4 hO2 hG2 _ _; have HJ2 := Lib.hid (((HJ1.out.alloc _ (HJ1.out.q.below ((Below.refl _ _).alloc (Nat.le_refl _) _) HJ1.out.q.lt)).app (Q' := fun X => Dc X c (st S (u + 1 + (wAcc (st S (u + 1)) 1 (j + 1)).2))) hO2 hG2 (fun hk => (hk c HJ1.out.lt).trans (HJ1.out.q.below ((Below.refl _ _).alloc (Nat.le_refl _) _) HJ1.out.q.lt))).to (Q' := fun X => Dc X c (st S (u + 1 + (wAcc (st S (u + 1)) 1 (j + 1)).2))) (fun h => h) HX.out); clear hO2 hG2)
            go_roundw
            case rel => exact ⟨j + 1, k + 1, cap3, _, rfl, by go_num, by omega, HJ2.out⟩
            case measure => simp [intOf]; omega
          · obtain rfl : j = 1 + r := by omega
            have HE := Lib.hid (show PrgOn w wr c (fun X => Dc X c (st S ((pAcc S 1 (p + 1)).2))) A k cp (pAcc S 1 (p + 1)).1 from HJ.out.to (fun h => by rw [pAcc_s2 S 1 p u r HU.out HRR.out]; exact h) ((pAcc_s1 S 1 p u r l1 HU.out HRR.out HL1.out).symm))
            go_wp2_with fail
            go_roundw
            case rel => exact ⟨p + 1, k, cp, A, rfl, by go_num, by omega, HE.out⟩
            case measure => simp [intOf]; omega
      · exact absurd hlt (by omega)
    · obtain rfl : p = 1 := by omega
      go_wp2_with fail
      go_ret
      exact ⟨A, k, cp, rfl, HR.out⟩
set_option maxHeartbeats 4000000 in
theorem programs_in (w : World) (c S : Nat) (n : Nat) (hn1 : 1 ≤ n) (hn2 : n ≤ 16) (hs : S < 18446744073709551616) (h : Dc w c S) :
    Calls Try.prog 17 #[.pointer (some ⟨c, 0, none⟩), .int .i64 (n : Int)] w (Prg w c (pAcc S n n).1 (fun X => Dc X c (st S ((pAcc S n n).2)))) := by
  obtain ⟨i0, hi, hz0, hz1, hz2⟩ := info_parts info22
  have HS := Lib.hid hs
  have HST := Lib.hid (prg_start w c (fun X => Dc X c (st S ((pAcc S n 0).2))) (by show Dc w c (st S 0); rw [st_zero S hs]; exact h) h.lt)
  have hclt := h.lt
  have m1 : ¬ (n : Int) < 1 := by omega
  have m2 : ¬ 16 < (n : Int) := by omega
  have HN : Hid (1 ≤ n ∧ n ≤ 16) := ⟨hn1, hn2⟩
  clear h hs
  go_enter Try.func17, Try.ntmps17
  go_wp2_with fail
  go_loopw [5, 13] (fun v i wr => ∃ (p k cp : Nat) (A : Option Addr), v = .slice A k cp ∧ i = .int .i64 p ∧ (p : Int) ≤ (n : Int) ∧ PrgOn w wr c (fun X => Dc X c (st S ((pAcc S n p).2))) A k cp (pAcc S n p).1) (fun _ i _ => (n : Nat) - (intOf i).toNat)
  case atStart => exact ⟨0, 0, 0, none, rfl, rfl, by omega, HST.out⟩
  case round =>
    obtain ⟨p, k, cp, A, rfl, rfl, hp, hR⟩ := hrel
    have hpl := pAcc_len S n p
    have hkl := hR.len
    have HR := Lib.hid hR
    clear HST hR
    by_cases hlt : (p : Int) < (n : Int)
    · obtain ⟨u, HU⟩ : ∃ u, Hid ((pAcc S n p).2 = u) := ⟨_, Lib.hid rfl⟩
      have hub : u ≤ 300 := by have := HU.out; have := hpl.2; have := HN.out; omega
      have hkb : k ≤ 200 := by have := hpl.1; have := HN.out; omega
      have HRu := Lib.hid (show PrgOn w wr c (fun X => Dc X c (st S (u))) A k cp (pAcc S n p).1 from by have e := HR.out; rw [HU.out] at e; exact e)
      clear HR hpl hkl
      by_cases hp0 : p = 0
      · obtain ⟨l1, HL1⟩ : ∃ l1, Hid ((pAcc S n p).1 ++ (if p = 0 then [] else [7]) = l1) := ⟨_, Lib.hid rfl⟩
        have HR1 := Lib.hid (show PrgOn w wr c (fun X => Dc X c (st S (u))) A k cp l1 from HRu.out.to (fun h => h) (by rw [← HL1.out, if_pos hp0, List.append_nil]))
        have hl1 : l1.length ≤ 201 := by have := HR1.out.len; omega
        have hpp : ¬ 0 < (p : Int) := by omega
        have hp00 : Hid (p = 0) := hp0
        clear HRu hp0
        obtain ⟨A1, hA1⟩ : ∃ A1, A1 = A := ⟨_, rfl⟩
        subst hA1
        obtain ⟨k1, hk1⟩ : ∃ k1, k1 = k := ⟨_, rfl⟩
        subst hk1
        obtain ⟨cp1, hcp1⟩ : ∃ cp1, cp1 = cp := ⟨_, rfl⟩
        subst hcp1
        obtain ⟨r, HRR, hr⟩ : ∃ r : Nat, Hid (rem (num (st S u) 1) 8 = r) ∧ r < 8 := ⟨_, Lib.hid rfl, rem_lt _ _ (by omega)⟩
        go_wp2_with fail
        go_at_call 9; refine (below_lit _ c (st S (u)) 8 r 8 rfl (st_lt _ _) HR1.out.q (by omega) (by omega) (by rw [HRR.out])).mono ?_; rintro e w2 ⟨rfl, hD, hB⟩
        have HI := Lib.hid (show PrgOn w w2 c (fun X => Dc X c (st S (u + 1 + (wAcc (st S (u + 1)) n 0).2))) A1 k1 cp1 (l1 ++ (wAcc (st S (u + 1)) n 0).1) from (HR1.out.call (Q' := fun X => Dc X c (st S (u + 1))) hB (by have e := hD; rw [st_st2] at e; exact e)).to (fun h => h) (List.append_nil _).symm)
        clear hD hB
        go_wp2_with fail
        go_loopw [5, 24] (fun v i wr => ∃ (j k cp : Nat) (A : Option Addr), v = .slice A k cp ∧ i = .int .i64 j ∧ j ≤ 1 + r ∧ PrgOn w wr c (fun X => Dc X c (st S (u + 1 + (wAcc (st S (u + 1)) n j).2))) A k cp (l1 ++ (wAcc (st S (u + 1)) n j).1)) (fun _ i _ => (1 + r) - (intOf i).toNat)
        case atStart => exact ⟨0, k1, cp1, A1, rfl, rfl, by omega, HI.out⟩
        case round =>
          obtain ⟨j, k, cp, A, rfl, rfl, hj, hJ⟩ := hrel
          have HJ := Lib.hid hJ
          have hwl := wAcc_len (st S (u + 1)) n j
          have hkl := hJ.len
          have hkb : k ≤ 1000 := by have := hJ.len; rw [List.length_append] at this; omega
          clear HI hJ hkl
          by_cases hlt2 : j < 1 + r
          · go_wp2_with fail
            go_at_call 24; refine (word_lit _ c (st S (u + 1 + (wAcc (st S (u + 1)) n j).2)) n (n : Int) rfl (st_lt _ _) HJ.out.q HN.out.1 HN.out.2).mono ?_; rintro e w3 ⟨rfl, hD, hB⟩
            have HJ1 := Lib.hid (HJ.out.call (Q' := fun X => Dc X c (st S (u + 1 + (wAcc (st S (u + 1)) n (j + 1)).2))) hB (by show Dc w3 c (st S (u + 1 + (wAcc (st S (u + 1)) n (j + 1)).2)); rw [wAcc_q]; exact hD))
            have HX : Hid (l1 ++ (wAcc (st S (u + 1)) n j).1 ++ [wv (st S (u + 1 + (wAcc (st S (u + 1)) n j).2)) n] = l1 ++ (wAcc (st S (u + 1)) n (j + 1)).1) := wAcc_x S n u j l1
            clear hD hB
            generalize hxx : wv (st S (u + 1 + (wAcc (st S (u + 1)) n j).2)) n = x at HX ⊢
            clear hxx
            go_wp2_with (refine wpList_append_lies _ rfl (.tmp 26) (.tmp 30) 44 rfl w.heap.size 22 i0 _ 1 8 Try.underlying44 hi hz0 hz1 hz2 rfl (by omega) (.slice A k cp) k (wc (l1 ++ (wAcc (st S (u + 1)) n j).1)) rfl (HJ1.out.own.alloc _) ⟨_, 0, none⟩ 1 1 [.int .u64 ((x : Nat) : Int)] rfl rfl (news1 _ _) (fun u hu => by simp at hu; subst hu; rfl) (by omega) (by unfold maxLen; omega) (by omega) (by have := HJ1.out.but.size; simp; omega) _ rfl ?_; intro g3 cap3 w4 hO2 hG2 _ _; have HJ2 := Lib.hid (((HJ1.out.alloc _ (HJ1.out.q.below ((Below.refl _ _).alloc (Nat.le_refl _) _) HJ1.out.q.lt)).app (Q' := fun X => Dc X c (st S (u + 1 + (wAcc (st S (u + 1)) n (j + 1)).2))) hO2 hG2 (fun hk => (hk c HJ1.out.lt).trans (HJ1.out.q.below ((Below.refl _ _).alloc (Nat.le_refl _) _) HJ1.out.q.lt))).to (Q' := fun X => Dc X c (st S (u + 1 + (wAcc (st S (u + 1)) n (j + 1)).2))) (fun h => h) HX.out); clear hO2 hG2)
            go_roundw
            case rel => exact ⟨j + 1, k + 1, cap3, _, rfl, by go_num, by omega, HJ2.out⟩
            case measure => simp [intOf]; omega
          · obtain rfl : j = 1 + r := by omega
            have HE := Lib.hid (show PrgOn w wr c (fun X => Dc X c (st S ((pAcc S n (p + 1)).2))) A k cp (pAcc S n (p + 1)).1 from HJ.out.to (fun h => by rw [pAcc_s2 S n p u r HU.out HRR.out]; exact h) ((pAcc_s1 S n p u r l1 HU.out HRR.out HL1.out).symm))
            go_wp2_with fail
            go_roundw
            case rel => exact ⟨p + 1, k, cp, A, rfl, by go_num, by omega, HE.out⟩
            case measure => simp [intOf]; omega
      · obtain ⟨l1, HL1⟩ : ∃ l1, Hid ((pAcc S n p).1 ++ (if p = 0 then [] else [7]) = l1) := ⟨_, Lib.hid rfl⟩
        have hpp : 0 < (p : Int) := by omega
        have hp00 : Hid (¬ p = 0) := hp0
        have hl0 : ((pAcc S n p).1).length ≤ 200 := by have := HRu.out.len; omega
        clear hp0
        go_wp2_with (refine wpList_append_lies _ rfl (.tmp 18) (.tmp 19) 44 rfl w.heap.size 22 i0 _ 1 8 Try.underlying44 hi hz0 hz1 hz2 rfl (by omega) (.slice A k cp) k (wc ((pAcc S n p).1)) rfl (HRu.out.own.alloc _) ⟨_, 0, none⟩ 1 1 [.int .u64 (7 : Int)] rfl rfl (news1 _ _) (fun u hu => by simp at hu; subst hu; rfl) (by omega) (by unfold maxLen; omega) (by omega) (by have := HRu.out.but.size; simp; omega) _ rfl ?_; intro g1 cp1 w1 hO2 hG2 _ _; have HR1 := Lib.hid (((HRu.out.alloc _ (HRu.out.q.below ((Below.refl _ _).alloc (Nat.le_refl _) _) HRu.out.q.lt)).app (x := 7) (Q' := fun X => Dc X c (st S (u))) hO2 hG2 (fun hk => (hk c HRu.out.lt).trans (HRu.out.q.below ((Below.refl _ _).alloc (Nat.le_refl _) _) HRu.out.q.lt))).to (Q' := fun X => Dc X c (st S (u))) (l' := l1) (fun h => h) (by rw [← HL1.out, if_neg hp00.out])); clear hO2 hG2)
        have hl1 : l1.length ≤ 201 := by have := HR1.out.len; omega
        obtain ⟨A1, hA1⟩ : ∃ A1 : Option Addr, A1 = some ⟨g1, 0, none⟩ := ⟨_, rfl⟩
        obtain ⟨k1, hk1⟩ : ∃ k1, k1 = k + 1 := ⟨_, rfl⟩
        rw [← hA1, ← hk1] at HR1
        rw [← hA1, ← hk1]
        clear hA1 hk1
        obtain ⟨r, HRR, hr⟩ : ∃ r : Nat, Hid (rem (num (st S u) 1) 8 = r) ∧ r < 8 := ⟨_, Lib.hid rfl, rem_lt _ _ (by omega)⟩
        go_wp2_with fail
        go_at_call 9; refine (below_lit _ c (st S (u)) 8 r 8 rfl (st_lt _ _) HR1.out.q (by omega) (by omega) (by rw [HRR.out])).mono ?_; rintro e w2 ⟨rfl, hD, hB⟩
        have HI := Lib.hid (show PrgOn w w2 c (fun X => Dc X c (st S (u + 1 + (wAcc (st S (u + 1)) n 0).2))) A1 k1 cp1 (l1 ++ (wAcc (st S (u + 1)) n 0).1) from (HR1.out.call (Q' := fun X => Dc X c (st S (u + 1))) hB (by have e := hD; rw [st_st2] at e; exact e)).to (fun h => h) (List.append_nil _).symm)
        clear hD hB
        go_wp2_with fail
        go_loopw [5, 24] (fun v i wr => ∃ (j k cp : Nat) (A : Option Addr), v = .slice A k cp ∧ i = .int .i64 j ∧ j ≤ 1 + r ∧ PrgOn w wr c (fun X => Dc X c (st S (u + 1 + (wAcc (st S (u + 1)) n j).2))) A k cp (l1 ++ (wAcc (st S (u + 1)) n j).1)) (fun _ i _ => (1 + r) - (intOf i).toNat)
        case atStart => exact ⟨0, k1, cp1, A1, rfl, rfl, by omega, HI.out⟩
        case round =>
          obtain ⟨j, k, cp, A, rfl, rfl, hj, hJ⟩ := hrel
          have HJ := Lib.hid hJ
          have hwl := wAcc_len (st S (u + 1)) n j
          have hkl := hJ.len
          have hkb : k ≤ 1000 := by have := hJ.len; rw [List.length_append] at this; omega
          clear HI hJ hkl
          by_cases hlt2 : j < 1 + r
          · go_wp2_with fail
            go_at_call 24; refine (word_lit _ c (st S (u + 1 + (wAcc (st S (u + 1)) n j).2)) n (n : Int) rfl (st_lt _ _) HJ.out.q HN.out.1 HN.out.2).mono ?_; rintro e w3 ⟨rfl, hD, hB⟩
            have HJ1 := Lib.hid (HJ.out.call (Q' := fun X => Dc X c (st S (u + 1 + (wAcc (st S (u + 1)) n (j + 1)).2))) hB (by show Dc w3 c (st S (u + 1 + (wAcc (st S (u + 1)) n (j + 1)).2)); rw [wAcc_q]; exact hD))
            have HX : Hid (l1 ++ (wAcc (st S (u + 1)) n j).1 ++ [wv (st S (u + 1 + (wAcc (st S (u + 1)) n j).2)) n] = l1 ++ (wAcc (st S (u + 1)) n (j + 1)).1) := wAcc_x S n u j l1
            clear hD hB
            generalize hxx : wv (st S (u + 1 + (wAcc (st S (u + 1)) n j).2)) n = x at HX ⊢
            clear hxx
            go_wp2_with (refine wpList_append_lies _ rfl (.tmp 26) (.tmp 30) 44 rfl w.heap.size 22 i0 _ 1 8 Try.underlying44 hi hz0 hz1 hz2 rfl (by omega) (.slice A k cp) k (wc (l1 ++ (wAcc (st S (u + 1)) n j).1)) rfl (HJ1.out.own.alloc _) ⟨_, 0, none⟩ 1 1 [.int .u64 ((x : Nat) : Int)] rfl rfl (news1 _ _) (fun u hu => by simp at hu; subst hu; rfl) (by omega) (by unfold maxLen; omega) (by omega) (by have := HJ1.out.but.size; simp; omega) _ rfl ?_; intro g3 cap3 w4 hO2 hG2 _ _; have HJ2 := Lib.hid (((HJ1.out.alloc _ (HJ1.out.q.below ((Below.refl _ _).alloc (Nat.le_refl _) _) HJ1.out.q.lt)).app (Q' := fun X => Dc X c (st S (u + 1 + (wAcc (st S (u + 1)) n (j + 1)).2))) hO2 hG2 (fun hk => (hk c HJ1.out.lt).trans (HJ1.out.q.below ((Below.refl _ _).alloc (Nat.le_refl _) _) HJ1.out.q.lt))).to (Q' := fun X => Dc X c (st S (u + 1 + (wAcc (st S (u + 1)) n (j + 1)).2))) (fun h => h) HX.out); clear hO2 hG2)
            go_roundw
            case rel => exact ⟨j + 1, k + 1, cap3, _, rfl, by go_num, by omega, HJ2.out⟩
            case measure => simp [intOf]; omega
          · obtain rfl : j = 1 + r := by omega
            have HE := Lib.hid (show PrgOn w wr c (fun X => Dc X c (st S ((pAcc S n (p + 1)).2))) A k cp (pAcc S n (p + 1)).1 from HJ.out.to (fun h => by rw [pAcc_s2 S n p u r HU.out HRR.out]; exact h) ((pAcc_s1 S n p u r l1 HU.out HRR.out HL1.out).symm))
            go_wp2_with fail
            go_roundw
            case rel => exact ⟨p + 1, k, cp, A, rfl, by go_num, by omega, HE.out⟩
            case measure => simp [intOf]; omega
    · obtain rfl : p = n := by omega
      go_wp2_with fail
      go_ret
      exact ⟨A, k, cp, rfl, HR.out⟩
set_option maxHeartbeats 4000000 in
theorem programs_hi (w : World) (c S : Nat) (mi : Int) (hmi : 16 < mi) (hs : S < 18446744073709551616) (h : Dc w c S) :
    Calls Try.prog 17 #[.pointer (some ⟨c, 0, none⟩), .int .i64 mi] w (Prg w c (pAcc S 16 16).1 (fun X => Dc X c (st S ((pAcc S 16 16).2)))) := by
  obtain ⟨i0, hi, hz0, hz1, hz2⟩ := info_parts info22
  have HS := Lib.hid hs
  have HST := Lib.hid (prg_start w c (fun X => Dc X c (st S ((pAcc S 16 0).2))) (by show Dc w c (st S 0); rw [st_zero S hs]; exact h) h.lt)
  have hclt := h.lt
  have m1 : ¬ mi < 1 := by omega
  have m2 : 16 < mi := hmi
  have HN : Hid (1 ≤ 16 ∧ 16 ≤ 16) := (by omega : 1 ≤ 16 ∧ 16 ≤ 16)
  clear h hs
  go_enter Try.func17, Try.ntmps17
  go_wp2_with fail
  go_loopw [5, 13] (fun v i wr => ∃ (p k cp : Nat) (A : Option Addr), v = .slice A k cp ∧ i = .int .i64 p ∧ (p : Int) ≤ 16 ∧ PrgOn w wr c (fun X => Dc X c (st S ((pAcc S 16 p).2))) A k cp (pAcc S 16 p).1) (fun _ i _ => (16 : Nat) - (intOf i).toNat)
  case atStart => exact ⟨0, 0, 0, none, rfl, rfl, by omega, HST.out⟩
  case round =>
    obtain ⟨p, k, cp, A, rfl, rfl, hp, hR⟩ := hrel
    have hpl := pAcc_len S 16 p
    have hkl := hR.len
    have HR := Lib.hid hR
    clear HST hR
    by_cases hlt : (p : Int) < 16
    · obtain ⟨u, HU⟩ : ∃ u, Hid ((pAcc S 16 p).2 = u) := ⟨_, Lib.hid rfl⟩
      have hub : u ≤ 300 := by have := HU.out; have := hpl.2; have := HN.out; omega
      have hkb : k ≤ 200 := by have := hpl.1; have := HN.out; omega
      have HRu := Lib.hid (show PrgOn w wr c (fun X => Dc X c (st S (u))) A k cp (pAcc S 16 p).1 from by have e := HR.out; rw [HU.out] at e; exact e)
      clear HR hpl hkl
      by_cases hp0 : p = 0
      · obtain ⟨l1, HL1⟩ : ∃ l1, Hid ((pAcc S 16 p).1 ++ (if p = 0 then [] else [7]) = l1) := ⟨_, Lib.hid rfl⟩
        have HR1 := Lib.hid (show PrgOn w wr c (fun X => Dc X c (st S (u))) A k cp l1 from HRu.out.to (fun h => h) (by rw [← HL1.out, if_pos hp0, List.append_nil]))
        have hl1 : l1.length ≤ 201 := by have := HR1.out.len; omega
        have hpp : ¬ 0 < (p : Int) := by omega
        have hp00 : Hid (p = 0) := hp0
        clear HRu hp0
        obtain ⟨A1, hA1⟩ : ∃ A1, A1 = A := ⟨_, rfl⟩
        subst hA1
        obtain ⟨k1, hk1⟩ : ∃ k1, k1 = k := ⟨_, rfl⟩
        subst hk1
        obtain ⟨cp1, hcp1⟩ : ∃ cp1, cp1 = cp := ⟨_, rfl⟩
        subst hcp1
        obtain ⟨r, HRR, hr⟩ : ∃ r : Nat, Hid (rem (num (st S u) 1) 8 = r) ∧ r < 8 := ⟨_, Lib.hid rfl, rem_lt _ _ (by omega)⟩
        go_wp2_with fail
        go_at_call 9; refine (below_lit _ c (st S (u)) 8 r 8 rfl (st_lt _ _) HR1.out.q (by omega) (by omega) (by rw [HRR.out])).mono ?_; rintro e w2 ⟨rfl, hD, hB⟩
        have HI := Lib.hid (show PrgOn w w2 c (fun X => Dc X c (st S (u + 1 + (wAcc (st S (u + 1)) 16 0).2))) A1 k1 cp1 (l1 ++ (wAcc (st S (u + 1)) 16 0).1) from (HR1.out.call (Q' := fun X => Dc X c (st S (u + 1))) hB (by have e := hD; rw [st_st2] at e; exact e)).to (fun h => h) (List.append_nil _).symm)
        clear hD hB
        go_wp2_with fail
        go_loopw [5, 24] (fun v i wr => ∃ (j k cp : Nat) (A : Option Addr), v = .slice A k cp ∧ i = .int .i64 j ∧ j ≤ 1 + r ∧ PrgOn w wr c (fun X => Dc X c (st S (u + 1 + (wAcc (st S (u + 1)) 16 j).2))) A k cp (l1 ++ (wAcc (st S (u + 1)) 16 j).1)) (fun _ i _ => (1 + r) - (intOf i).toNat)
        case atStart => exact ⟨0, k1, cp1, A1, rfl, rfl, by omega, HI.out⟩
        case round =>
          obtain ⟨j, k, cp, A, rfl, rfl, hj, hJ⟩ := hrel
          have HJ := Lib.hid hJ
          have hwl := wAcc_len (st S (u + 1)) 16 j
          have hkl := hJ.len
          have hkb : k ≤ 1000 := by have := hJ.len; rw [List.length_append] at this; omega
          clear HI hJ hkl
          by_cases hlt2 : j < 1 + r
          · go_wp2_with fail
            go_at_call 24; refine (word_lit _ c (st S (u + 1 + (wAcc (st S (u + 1)) 16 j).2)) 16 16 rfl (st_lt _ _) HJ.out.q HN.out.1 HN.out.2).mono ?_; rintro e w3 ⟨rfl, hD, hB⟩
            have HJ1 := Lib.hid (HJ.out.call (Q' := fun X => Dc X c (st S (u + 1 + (wAcc (st S (u + 1)) 16 (j + 1)).2))) hB (by show Dc w3 c (st S (u + 1 + (wAcc (st S (u + 1)) 16 (j + 1)).2)); rw [wAcc_q]; exact hD))
            have HX : Hid (l1 ++ (wAcc (st S (u + 1)) 16 j).1 ++ [wv (st S (u + 1 + (wAcc (st S (u + 1)) 16 j).2)) 16] = l1 ++ (wAcc (st S (u + 1)) 16 (j + 1)).1) := wAcc_x S 16 u j l1
            clear hD hB
            generalize hxx : wv (st S (u + 1 + (wAcc (st S (u + 1)) 16 j).2)) 16 = x at HX ⊢
            clear hxx
            go_wp2_with (refine wpList_append_lies _ rfl (.tmp 26) (.tmp 30) 44 rfl w.heap.size 22 i0 _ 1 8 Try.underlying44 hi hz0 hz1 hz2 rfl (by omega) (.slice A k cp) k (wc (l1 ++ (wAcc (st S (u + 1)) 16 j).1)) rfl (HJ1.out.own.alloc _) ⟨_, 0, none⟩ 1 1 [.int .u64 ((x : Nat) : Int)] rfl rfl (news1 _ _) (fun u hu => by simp at hu; subst hu; rfl) (by omega) (by unfold maxLen; omega) (by omega) (by have := HJ1.out.but.size; simp; omega) _ rfl ?_; intro g3 cap3 w4 hO2 hG2 _ _; have HJ2 := Lib.hid (((HJ1.out.alloc _ (HJ1.out.q.below ((Below.refl _ _).alloc (Nat.le_refl _) _) HJ1.out.q.lt)).app (Q' := fun X => Dc X c (st S (u + 1 + (wAcc (st S (u + 1)) 16 (j + 1)).2))) hO2 hG2 (fun hk => (hk c HJ1.out.lt).trans (HJ1.out.q.below ((Below.refl _ _).alloc (Nat.le_refl _) _) HJ1.out.q.lt))).to (Q' := fun X => Dc X c (st S (u + 1 + (wAcc (st S (u + 1)) 16 (j + 1)).2))) (fun h => h) HX.out); clear hO2 hG2)
            go_roundw
            case rel => exact ⟨j + 1, k + 1, cap3, _, rfl, by go_num, by omega, HJ2.out⟩
            case measure => simp [intOf]; omega
          · obtain rfl : j = 1 + r := by omega
            have HE := Lib.hid (show PrgOn w wr c (fun X => Dc X c (st S ((pAcc S 16 (p + 1)).2))) A k cp (pAcc S 16 (p + 1)).1 from HJ.out.to (fun h => by rw [pAcc_s2 S 16 p u r HU.out HRR.out]; exact h) ((pAcc_s1 S 16 p u r l1 HU.out HRR.out HL1.out).symm))
            go_wp2_with fail
            go_roundw
            case rel => exact ⟨p + 1, k, cp, A, rfl, by go_num, by omega, HE.out⟩
            case measure => simp [intOf]; omega
      · obtain ⟨l1, HL1⟩ : ∃ l1, Hid ((pAcc S 16 p).1 ++ (if p = 0 then [] else [7]) = l1) := ⟨_, Lib.hid rfl⟩
        have hpp : 0 < (p : Int) := by omega
        have hp00 : Hid (¬ p = 0) := hp0
        have hl0 : ((pAcc S 16 p).1).length ≤ 200 := by have := HRu.out.len; omega
        clear hp0
        go_wp2_with (refine wpList_append_lies _ rfl (.tmp 18) (.tmp 19) 44 rfl w.heap.size 22 i0 _ 1 8 Try.underlying44 hi hz0 hz1 hz2 rfl (by omega) (.slice A k cp) k (wc ((pAcc S 16 p).1)) rfl (HRu.out.own.alloc _) ⟨_, 0, none⟩ 1 1 [.int .u64 (7 : Int)] rfl rfl (news1 _ _) (fun u hu => by simp at hu; subst hu; rfl) (by omega) (by unfold maxLen; omega) (by omega) (by have := HRu.out.but.size; simp; omega) _ rfl ?_; intro g1 cp1 w1 hO2 hG2 _ _; have HR1 := Lib.hid (((HRu.out.alloc _ (HRu.out.q.below ((Below.refl _ _).alloc (Nat.le_refl _) _) HRu.out.q.lt)).app (x := 7) (Q' := fun X => Dc X c (st S (u))) hO2 hG2 (fun hk => (hk c HRu.out.lt).trans (HRu.out.q.below ((Below.refl _ _).alloc (Nat.le_refl _) _) HRu.out.q.lt))).to (Q' := fun X => Dc X c (st S (u))) (l' := l1) (fun h => h) (by rw [← HL1.out, if_neg hp00.out])); clear hO2 hG2)
        have hl1 : l1.length ≤ 201 := by have := HR1.out.len; omega
        obtain ⟨A1, hA1⟩ : ∃ A1 : Option Addr, A1 = some ⟨g1, 0, none⟩ := ⟨_, rfl⟩
        obtain ⟨k1, hk1⟩ : ∃ k1, k1 = k + 1 := ⟨_, rfl⟩
        rw [← hA1, ← hk1] at HR1
        rw [← hA1, ← hk1]
        clear hA1 hk1
        obtain ⟨r, HRR, hr⟩ : ∃ r : Nat, Hid (rem (num (st S u) 1) 8 = r) ∧ r < 8 := ⟨_, Lib.hid rfl, rem_lt _ _ (by omega)⟩
        go_wp2_with fail
        go_at_call 9; refine (below_lit _ c (st S (u)) 8 r 8 rfl (st_lt _ _) HR1.out.q (by omega) (by omega) (by rw [HRR.out])).mono ?_; rintro e w2 ⟨rfl, hD, hB⟩
        have HI := Lib.hid (show PrgOn w w2 c (fun X => Dc X c (st S (u + 1 + (wAcc (st S (u + 1)) 16 0).2))) A1 k1 cp1 (l1 ++ (wAcc (st S (u + 1)) 16 0).1) from (HR1.out.call (Q' := fun X => Dc X c (st S (u + 1))) hB (by have e := hD; rw [st_st2] at e; exact e)).to (fun h => h) (List.append_nil _).symm)
        clear hD hB
        go_wp2_with fail
        go_loopw [5, 24] (fun v i wr => ∃ (j k cp : Nat) (A : Option Addr), v = .slice A k cp ∧ i = .int .i64 j ∧ j ≤ 1 + r ∧ PrgOn w wr c (fun X => Dc X c (st S (u + 1 + (wAcc (st S (u + 1)) 16 j).2))) A k cp (l1 ++ (wAcc (st S (u + 1)) 16 j).1)) (fun _ i _ => (1 + r) - (intOf i).toNat)
        case atStart => exact ⟨0, k1, cp1, A1, rfl, rfl, by omega, HI.out⟩
        case round =>
          obtain ⟨j, k, cp, A, rfl, rfl, hj, hJ⟩ := hrel
          have HJ := Lib.hid hJ
          have hwl := wAcc_len (st S (u + 1)) 16 j
          have hkl := hJ.len
          have hkb : k ≤ 1000 := by have := hJ.len; rw [List.length_append] at this; omega
          clear HI hJ hkl
          by_cases hlt2 : j < 1 + r
          · go_wp2_with fail
            go_at_call 24; refine (word_lit _ c (st S (u + 1 + (wAcc (st S (u + 1)) 16 j).2)) 16 16 rfl (st_lt _ _) HJ.out.q HN.out.1 HN.out.2).mono ?_; rintro e w3 ⟨rfl, hD, hB⟩
            have HJ1 := Lib.hid (HJ.out.call (Q' := fun X => Dc X c (st S (u + 1 + (wAcc (st S (u + 1)) 16 (j + 1)).2))) hB (by show Dc w3 c (st S (u + 1 + (wAcc (st S (u + 1)) 16 (j + 1)).2)); rw [wAcc_q]; exact hD))
            have HX : Hid (l1 ++ (wAcc (st S (u + 1)) 16 j).1 ++ [wv (st S (u + 1 + (wAcc (st S (u + 1)) 16 j).2)) 16] = l1 ++ (wAcc (st S (u + 1)) 16 (j + 1)).1) := wAcc_x S 16 u j l1
            clear hD hB
            generalize hxx : wv (st S (u + 1 + (wAcc (st S (u + 1)) 16 j).2)) 16 = x at HX ⊢
            clear hxx
            go_wp2_with (refine wpList_append_lies _ rfl (.tmp 26) (.tmp 30) 44 rfl w.heap.size 22 i0 _ 1 8 Try.underlying44 hi hz0 hz1 hz2 rfl (by omega) (.slice A k cp) k (wc (l1 ++ (wAcc (st S (u + 1)) 16 j).1)) rfl (HJ1.out.own.alloc _) ⟨_, 0, none⟩ 1 1 [.int .u64 ((x : Nat) : Int)] rfl rfl (news1 _ _) (fun u hu => by simp at hu; subst hu; rfl) (by omega) (by unfold maxLen; omega) (by omega) (by have := HJ1.out.but.size; simp; omega) _ rfl ?_; intro g3 cap3 w4 hO2 hG2 _ _; have HJ2 := Lib.hid (((HJ1.out.alloc _ (HJ1.out.q.below ((Below.refl _ _).alloc (Nat.le_refl _) _) HJ1.out.q.lt)).app (Q' := fun X => Dc X c (st S (u + 1 + (wAcc (st S (u + 1)) 16 (j + 1)).2))) hO2 hG2 (fun hk => (hk c HJ1.out.lt).trans (HJ1.out.q.below ((Below.refl _ _).alloc (Nat.le_refl _) _) HJ1.out.q.lt))).to (Q' := fun X => Dc X c (st S (u + 1 + (wAcc (st S (u + 1)) 16 (j + 1)).2))) (fun h => h) HX.out); clear hO2 hG2)
            go_roundw
            case rel => exact ⟨j + 1, k + 1, cap3, _, rfl, by go_num, by omega, HJ2.out⟩
            case measure => simp [intOf]; omega
          · obtain rfl : j = 1 + r := by omega
            have HE := Lib.hid (show PrgOn w wr c (fun X => Dc X c (st S ((pAcc S 16 (p + 1)).2))) A k cp (pAcc S 16 (p + 1)).1 from HJ.out.to (fun h => by rw [pAcc_s2 S 16 p u r HU.out HRR.out]; exact h) ((pAcc_s1 S 16 p u r l1 HU.out HRR.out HL1.out).symm))
            go_wp2_with fail
            go_roundw
            case rel => exact ⟨p + 1, k, cp, A, rfl, by go_num, by omega, HE.out⟩
            case measure => simp [intOf]; omega
    · obtain rfl : p = 16 := by omega
      go_wp2_with fail
      go_ret
      exact ⟨A, k, cp, rfl, HR.out⟩
end Go.Proofs.Yteibdjbipfimeaa
