/- The contract of the document's Read of programs. -/
import Derived.Test.YtlnjjcfkcoaceaaKRef1
import Derived.Test.YtlnjjcfkcoaceaaKRead2
namespace Go.Proofs.Ytlnjjcfkcoaceaa
open Go Go.RowKit
set_option linter.unusedVariables false
set_option linter.unusedSimpArgs false

theorem scan_next (f : Nat → Int) (i : Nat) (h : pt (f i) = true) : scan f (i + 1) = ((scan f i).1 ++ [((scan f i).2, i - (scan f i).2)], i + 1) := by
  rw [scan, if_pos h]
theorem scan_same (f : Nat → Int) (i : Nat) (h : pt (f i) = false) : scan f (i + 1) = scan f i := by
  rw [scan, if_neg (by rw [h]; simp)]

set_option maxHeartbeats 4000000 in
set_option maxRecDepth 100000 in
theorem refRead_any (A : Option Addr) (n cap : Nat) (f : Nat → Int) (w : World) (hn : n ≤ 4096) (hs : SeesU w w.heap.size A n f) (hf : ∀ i, i < n → 0 ≤ f i ∧ f i ≤ 18446744073709551615) :
    Calls Try.prog 48 #[.slice A n cap] w fun e w' => ∃ v xs, e = .returned v ∧ Own w w' 96 1 v (segs f n).length xs ∧ PiecesI w' f ((segs f n).length : Nat) (segs f n) xs := by
  obtain ⟨i0, hi, hz0, hz1, hz2⟩ := info_parts info90
  obtain ⟨j0, hj, hy0, hy1, hy2⟩ := info_parts info96
  have HS : Hid (SeesU w w.heap.size A n f) := hs
  have HF : Hid (∀ i, i < n → 0 ≤ f i ∧ f i ≤ 18446744073709551615) := hf
  have hmany : Hid (((scan f n).1.length + 1 : Nat) = (segs f n).length) := by show _ = _; unfold segs; simp
  clear hs hf
  have hsl := scan_len f n
  go_enter Try.func48, Try.ntmps48
  go_wp2_with fail
  go_loopw [4, 5] (fun x y wr => ∃ i : Nat, i ≤ n ∧ x = .int .i64 (((scan f i).1.length + 1 : Nat) : Int) ∧ y = .int .i64 i ∧ w = wr) (fun _ y _ => n - (intOf y).toNat)
  case atStart => exact ⟨0, Nat.zero_le _, rfl, rfl, rfl⟩
  case round =>
    obtain ⟨i, hin, rfl, rfl, rfl⟩ := hrel
    have hli := scan_len f i
    by_cases hlt : i < n
    · obtain ⟨b, off, rfl, hb, hc⟩ := HS.out (by omega)
      have hc' := hc i hlt
      have hP := refParts_any (f i) w (HF.out i hlt)
      clear hc
      by_cases hp : pt (f i) = true
      · rw [hp] at hP
        have hN := scan_next f i hp
        have hl2 : (scan f (i + 1)).1.length = (scan f i).1.length + 1 := by rw [hN]; simp
        clear hN
        generalize (scan f i).1.length = K at *
        go_wp2_with fail
        go_at_call 104; refine hP.mono ?_; clear hP; rintro e w1 ⟨rfl, rfl⟩
        go_wp2_with fail
        go_roundw
        case rel => exact ⟨i + 1, by omega, by rw [hl2]; go_num, by go_num, by first | trivial | rfl⟩
        case measure => simp [intOf]; omega
      · have hp' : pt (f i) = false := by simpa using hp
        rw [hp'] at hP
        have hN := scan_same f i hp'
        have hl2 : (scan f (i + 1)).1.length = (scan f i).1.length := by rw [hN]
        clear hN
        generalize (scan f i).1.length = K at *
        go_wp2_with fail
        go_at_call 104; refine hP.mono ?_; clear hP; rintro e w1 ⟨rfl, rfl⟩
        go_wp2_with fail
        go_roundw
        case rel => exact ⟨i + 1, by omega, by rw [hl2]; go_num, by go_num, by first | trivial | rfl⟩
        case measure => simp [intOf]; omega
    · obtain rfl : n = i := by omega
      have hmm : (((scan f n).1.length + 1 : Nat) : Int) = ((segs f n).length : Nat) := by rw [hmany.out]
      rw [hmm]
      clear hmm hmany
      obtain ⟨M, hM⟩ : ∃ M : Nat, M = (segs f n).length := ⟨_, rfl⟩
      rw [← hM]
      have hM1 : M ≤ n + 1 := by have := segs_len f n; omega
      have HM : Hid (M = (segs f n).length) := hM
      clear hM
      go_wp2_with fail
      go_loopw [6, 7, 8] (fun x y z wr' => ∃ (i : Nat) (vo v1 : Value) (xs : List Value) (wB : World), i ≤ n ∧ x = vo ∧ y = v1 ∧ z = .int .i64 i ∧ Hid (Own w wB 96 1 vo (scan f i).1.length xs) ∧ Hid (PiecesI wB f (M : Nat) (scan f i).1 xs) ∧ Hid (Own wB wr' 90 2 v1 (i - (scan f i).2) (insC (fun j => f ((scan f i).2 + j)) (M : Nat) (i - (scan f i).2)))) (fun _ _ z _ => n - (intOf z).toNat)
      case atStart => exact ⟨0, _, _, [], w, Nat.zero_le _, rfl, rfl, rfl, Own.nil _ _ _, PiecesI.nil _ _ _, Own.nil _ _ _⟩
      case round =>
        obtain ⟨i, vo, v1, xs, wB, hin, rfl, rfl, rfl, HO, HP, H1⟩ := hrel
        have hbw : Below w.heap.size w wr := HO.out.below.trans (H1.out.below.mono HO.out.below.size)
        have hli2 := scan_len f i
        have hls := scan_le f i
        by_cases hlt : i < n
        · obtain ⟨b, off, rfl, hb, hc⟩ := HS.out (by omega)
          have hc' : wr.cell? ⟨b, off + i, none⟩ = some (.int .u64 (f i)) := (hbw.cell (p := ⟨b, off + i, none⟩) hb).trans (hc i hlt)
          have hP := refParts_any (f i) wr (HF.out i hlt)
          clear hc
          by_cases hp : pt (f i) = true
          · rw [hp] at hP
            have hN : Hid (scan f (i + 1) = ((scan f i).1 ++ [((scan f i).2, i - (scan f i).2)], i + 1)) := scan_next f i hp
            obtain ⟨A1, c1, hv1, hT⟩ := H1.out.seesT
            have HO1 : Hid (Own w wr 96 1 _ (scan f i).1.length xs) := HO.out.below' H1.out.below
            have HP1 : Hid (PiecesI wr f (M : Nat) ((scan f i).1 ++ [((scan f i).2, i - (scan f i).2)]) (xs ++ [.slice A1 (i - (scan f i).2) c1])) := (HP.out.below H1.out.below).snoc hT
            subst hv1
            clear hT H1 HO HP
            generalize hL : (scan f i).1 = L at *
            generalize (scan f i).2 = s at *
            clear hL
            go_wp2_with fail
            go_at_call 104; refine hP.mono ?_; clear hP; rintro e w1 ⟨rfl, rfl⟩
            go_wp2_with (at_builtin; refine wpList_append_own _ rfl _ _ 94 rfl w.heap.size 96 j0 (.slice none 0 0) 1 24 Try.underlying94 hj hy0 hy1 hy2 rfl (by decide) _ L.length xs rfl (HO1.out.own.alloc _) ⟨wr.heap.size, 0, none⟩ 1 1 [.slice A1 (i - s) c1] rfl rfl (cells_of _ _ _) (by simp [Value.oneCell']) (by unfold maxLen; omega) (by omega) (by have := HO1.out.below.size; simp at this ⊢; omega) ?_; intro v' w3 hown3 hgrow3 _)
            have hF := HO1.out.next hown3 hgrow3
            have hPP := HP1.out.grown HO1.out hgrow3
            clear hown3 hgrow3
            go_wp2_with fail
            go_roundw
            case rel => exact ⟨i + 1, v', .slice none 0 0, xs ++ [.slice A1 (i - s) c1], w3, by omega, rfl, rfl, by go_num, (by rw [hN.out, List.length_append]; exact hF), (by rw [hN.out]; exact hPP), (by rw [hN.out, show i + 1 - (i + 1) = 0 by omega]; exact Own.nil _ _ _)⟩
            case measure => simp [intOf]; omega
          · have hp' : pt (f i) = false := by simpa using hp
            rw [hp'] at hP
            have hN : Hid (scan f (i + 1) = scan f i) := scan_same f i hp'
            have hR := refInstr_any (f i) (M : Nat) wr (HF.out i hlt) (by omega)
            have e2 : Hid (insC (fun j => f ((scan f i).2 + j)) (M : Nat) (i + 1 - (scan f i).2) = insC (fun j => f ((scan f i).2 + j)) (M : Nat) (i - (scan f i).2) ++ [.int .i64 (kd (f i)), .int .i64 (ag (f i) (M : Nat))]) := by
              show _ = _
              rw [show i + 1 - (scan f i).2 = (i - (scan f i).2) + 1 by omega, insC, show (scan f i).2 + (i - (scan f i).2) = i by omega]
            have e3 : i + 1 - (scan f i).2 = (i - (scan f i).2) + 1 := by omega
            generalize hx : (scan f i).2 = s at *
            generalize hy : insC (fun j => f (s + j)) (M : Nat) (i - s) = ys at *
            generalize hk' : i - s = k at *
            go_wp2_with fail
            go_at_call 104; refine hP.mono ?_; clear hP; rintro e w1 ⟨rfl, rfl⟩
            go_wp2_with fail
            go_at_call 105; refine hR.mono ?_; clear hR hc'; rintro e w2 ⟨rfl, hb2⟩
            have H2 : Hid (Own wB w2 90 2 _ k ys) := H1.out.below' hb2
            go_wp2_with (at_builtin; refine wpList_append_own _ rfl _ _ 96 rfl wB.heap.size 90 i0 _ 2 16 Try.underlying96 hi hz0 hz1 hz2 rfl (by decide) _ k ys rfl (H2.out.own.alloc _) ⟨w2.heap.size, 0, none⟩ 1 1 [.int .i64 (kd (f i)), .int .i64 (ag (f i) (M : Nat))] rfl rfl (cells_of2 _ _ _ _) (by simp [Value.oneCell']) (by unfold maxLen; omega) (by omega) (by have := H2.out.below.size; simp at this ⊢; omega) ?_; intro v' w3 hown3 hgrow3 _)
            have hF := H2.out.next hown3 hgrow3
            clear hown3 hgrow3
            go_wp2_with fail
            go_roundw
            case rel => exact ⟨i + 1, _, v', xs, wB, by omega, rfl, rfl, by go_num, (by rw [hN.out]; exact HO.out), (by rw [hN.out]; exact HP.out), (by rw [hN.out, hx, e2.out, e3]; exact hF)⟩
            case measure => simp [intOf]; omega
        · obtain rfl : n = i := by omega
          have hN : Hid (segs f n = (scan f n).1 ++ [((scan f n).2, n - (scan f n).2)]) := rfl
          obtain ⟨A1, c1, hv1, hT⟩ := H1.out.seesT
          have HO1 : Hid (Own w wr 96 1 _ (scan f n).1.length xs) := HO.out.below' H1.out.below
          have HP1 : Hid (PiecesI wr f (M : Nat) ((scan f n).1 ++ [((scan f n).2, n - (scan f n).2)]) (xs ++ [.slice A1 (n - (scan f n).2) c1])) := (HP.out.below H1.out.below).snoc hT
          subst hv1
          clear hT H1 HO HP
          generalize hL : (scan f n).1 = L at *
          generalize (scan f n).2 = s at *
          clear hL
          go_wp2_with (at_builtin; refine wpList_append_own _ rfl _ _ 94 rfl w.heap.size 96 j0 (.slice none 0 0) 1 24 Try.underlying94 hj hy0 hy1 hy2 rfl (by decide) _ L.length xs rfl (HO1.out.own.alloc _) ⟨wr.heap.size, 0, none⟩ 1 1 [.slice A1 (n - s) c1] rfl rfl (cells_of _ _ _) (by simp [Value.oneCell']) (by unfold maxLen; omega) (by omega) (by have := HO1.out.below.size; simp at this ⊢; omega) ?_; intro v' w3 hown3 hgrow3 _)
          have hF := HO1.out.next hown3 hgrow3
          have hPP := HP1.out.grown HO1.out hgrow3
          clear hown3 hgrow3
          go_wp2_with fail
          go_ret
          refine ⟨v', xs ++ [.slice A1 (n - s) c1], rfl, ?_, ?_⟩
          · rw [hN.out, List.length_append]; exact hF
          · rw [← HM.out, hN.out]; exact hPP
end Go.Proofs.Ytlnjjcfkcoaceaa
