/- The law ReportOf. -/
import Derived.Test.YtalilnnjpemmlaaDoorF2
namespace Go.Proofs.YtalilnnjpemmlaaDoor
open Go Go.RowKit
set_option linter.unusedVariables false
set_option linter.unusedSimpArgs false

/-- the law's search for a word's kind -/
def KdAt (s : List UInt8) (k d : Nat) : Prop := (∀ j, 1 ≤ j → j < k → kw j = s → d = j) ∧ (d = 0 ∨ (1 ≤ d ∧ d < k ∧ kw d = s))
theorem kw_inj {i j : Nat} (hi : i < 12) (hj : j < 12) (h : kw i = kw j) : i = j := by
  have h1 := kind_kw i (by omega)
  have h2 := kind_kw j (by omega)
  rw [h] at h1
  omega
theorem KdAt.start (s : List UInt8) : KdAt s 1 0 := ⟨fun j h1 h2 => by omega, .inl rfl⟩
theorem KdAt.hit {s : List UInt8} {k d : Nat} (h : KdAt s k d) (hk : 1 ≤ k ∧ k < 12) (he : kw k = s) : KdAt s (k + 1) k := by
  refine ⟨fun j h1 h2 h3 => ?_, .inr ⟨by omega, by omega, he⟩⟩
  exact kw_inj hk.2 (by omega) (he.trans h3.symm)
theorem KdAt.miss {s : List UInt8} {k d : Nat} (h : KdAt s k d) (he : ¬ kw k = s) : KdAt s (k + 1) d := by
  refine ⟨fun j h1 h2 h3 => ?_, ?_⟩
  · by_cases e : j = k
    · subst e; exact absurd h3 he
    · exact h.1 j h1 (by omega) h3
  · rcases h.2 with h | ⟨h1, h2, h3⟩
    · exact .inl h
    · exact .inr ⟨h1, by omega, h3⟩
theorem KdAt.done {s : List UInt8} {d : Nat} (h : KdAt s 12 d) : d = kind s := by
  rcases h.2 with h0 | ⟨h1, h2, h3⟩
  · by_cases e : kw 0 = s
    · rw [← e, kind_kw 0 (by omega)]; exact h0
    · have := kind_none (s := s) (fun j hj hs => by
        by_cases hz : j = 0
        · subst hz; exact e hs
        · have := h.1 j (by omega) hj hs; omega)
      omega
  · rw [← h3, kind_kw d (by omega)]

set_option maxRecDepth 100000 in
set_option maxHeartbeats 4000000 in
theorem lawOf_big (w : World) (hT : Tab w) (A : Option Addr) (cp n : Nat) (g : Int) (s : List UInt8) (h : 200 < n ∨ 20 < s.length) : Calls Tryd.prog 3 #[.slice A n cp, .int .i64 g, .string (bA s)] w fun e w' => e = .returned (.bool true) ∧ Below w.heap.size w w' := by
  have HA := Lib.hid (awake_any w hT)
  have hz := bA_size s
  clear hT
  by_cases h1 : 200 < n
  · have h1i : (200 : Int) < (n : Int) := by omega
    go_enter Tryd.func3, Tryd.ntmps3
    go_wp2_with fail
    go_at_call 7
    refine HA.out.mono ?_
    rintro e w1 ⟨rfl, hb⟩
    go_wp2
    go_ret
    exact ⟨rfl, hb⟩
  · have h1i : ¬ (200 : Int) < (n : Int) := by omega
    have h2 : (20 : Int) < ((bA s).size : Int) := by rw [hz]; omega
    clear hz
    generalize bA s = S at *
    go_enter Tryd.func3, Tryd.ntmps3
    go_wp2_with fail
    go_at_call 7
    refine HA.out.mono ?_
    rintro e w1 ⟨rfl, hb⟩
    go_wp2
    go_ret
    exact ⟨rfl, hb⟩

set_option maxRecDepth 100000 in
set_option maxHeartbeats 8000000 in
theorem lawOf_any (w : World) (hT : Tab w) (b : Nat) (A : Option Addr) (cp : Nat) (l : List Ev) (n : Nat) (hn : l.length = n) (hl : n ≤ 200) (hs : Sees w b A l) (g : Int) (s : List UInt8) (hsl : s.length ≤ 20) : Calls Tryd.prog 3 #[.slice A n cp, .int .i64 g, .string (bA s)] w fun e w' => e = .returned (.bool true) ∧ Below w.heap.size w w' := by
  obtain ⟨i0, hi, hz0, hz1, hz2⟩ := info_parts info25
  have HN := Lib.hid hn
  have HL := Lib.hid hl
  have HS := Lib.hid (fun (X : World) (hb : Below w.heap.size w X) => hs.below hb)
  have HTT := Lib.hid (fun (X : World) (hb : Below w.heap.size w X) => hT.below hb hT.size)
  have hz := bA_size s
  have h1i : ¬ (200 : Int) < (n : Int) := by omega
  have h2i : ¬ (20 : Int) < ((bA s).size : Int) := by rw [hz]; omega
  have HQ : Hid (∀ i, ((bA (kw i)).toList == (bA s).toList) = (kw i == s)) := fun i => bA_beq _ _
  have HK := Lib.hid (fun x hx => kind_any s x hx)
  clear hs hn hT hz hl hsl
  generalize bA s = S at *
  go_enter Tryd.func3, Tryd.ntmps3
  go_wp2_with fail
  go_loopw [8, 7] (fun i r wr => ∃ (k c' : Nat) (A' : Option Addr) (O : List Ev), i = .int .i64 (k : Int) ∧ r = .slice A' O.length c' ∧ k ≤ n ∧ Hid (Gr w wr A' c' O ∧ O = (l.take k).filter (its g) ∧ O.length ≤ k)) (fun i _ _ => n - (intOf i).toNat)
  case atStart => exact ⟨0, 0, none, [], rfl, rfl, by omega, Gr.nil (Below.refl _ _), by simp, by simp⟩
  case round =>
    obtain ⟨k, c', A', O, rfl, rfl, hk, HG⟩ := hrel
    by_cases hlt : k < n
    · have hki : (k : Int) < (n : Int) := by omega
      have HKL : Hid (k < l.length) := by show k < _; rw [HN.out]; exact hlt
      obtain ⟨off, rfl, hcs⟩ := HS.out wr HG.out.1.bel (by have := HKL.out; omega)
      have HT := Lib.hid (take_its HKL.out g)
      obtain ⟨⟨x0, x1, x2, x3, x4⟩, hx⟩ : ∃ x, at_ l k = x := ⟨_, rfl⟩
      have c0 := hcs k 0 HKL.out (by omega)
      have c1 := hcs k 1 HKL.out (by omega)
      have c2 := hcs k 2 HKL.out (by omega)
      have c3 := hcs k 3 HKL.out (by omega)
      have c4 := hcs k 4 HKL.out (by omega)
      rw [hx] at c0 c1 c2 c3 c4 HT
      simp only [Ev.f, Nat.add_zero] at c0 c1 c2 c3 c4
      clear hx hcs
      have HZ1 := Lib.hid ((Below.refl wr.heap.size wr).alloc (Nat.le_refl _) (.cells #[.int .i64 x0, .int .i64 x1, .int .i64 x2, .int .i64 x3, .int .i64 x4] 25))
      have HOW := Lib.hid (HG.out.1.more HZ1.out).own
      have HOL : Hid (O.length ≤ 100000) := by have := HG.out.2.2; have := HL.out; show O.length ≤ _; omega
      have HLO : Hid (w.heap.size ≤ wr.heap.size) := HG.out.1.bel.size
      by_cases q1 : x1 = g
      · have qi : its g ⟨x0, x1, x2, x3, x4⟩ = true := by simp [its, q1]
        rw [qi] at HT
        have e1 : (x1 == g) = true := by rw [beq_iff_eq]; exact q1
        clear qi q1
        go_wp2_with (first | (refine wpList_append_lies _ rfl (.tmp 43) (.tmp 48) 22 rfl w.heap.size 25 i0 _ 5 40 Tryd.underlying22 hi hz0 hz1 hz2 rfl (by decide) (.slice A' O.length c') O.length (flat O) rfl HOW.out ⟨_, 0, none⟩ 1 1 [.int .i64 x0, .int .i64 x1, .int .i64 x2, .int .i64 x3, .int .i64 x4] rfl rfl (news5 _ _ _ _ _ _ _) (flat_one [⟨x0, x1, x2, x3, x4⟩]) (by omega) (by have := HOL.out; unfold maxLen; omega) (by have := HOL.out; omega) (by have := HLO.out; rw [size_al]; omega) _ rfl ?_; intro g1 cap1 w3 hO2 hG2 _ _; have HA := Lib.hid (HG.out.1.app HZ1.out hO2 hG2); clear hO2 hG2))
        go_roundw
        case rel => exact ⟨k + 1, cap1, some ⟨g1, 0, none⟩, O ++ [⟨x0, x1, x2, x3, x4⟩], by go_num, by simp, by omega, HA.out, by rw [HT.out, ← HG.out.2.1]; rfl, by have := HG.out.2.2; simp; omega⟩
        case measure => simp [intOf]; omega
      · have e1 : (x1 == g) = false := by rw [beq_eq_false_iff_ne]; exact q1
        by_cases q2 : x2 = g
        · have qi : its g ⟨x0, x1, x2, x3, x4⟩ = true := by simp [its, q2]
          rw [qi] at HT
          have e2 : (x2 == g) = true := by rw [beq_iff_eq]; exact q2
          clear qi q2
          go_wp2_with (first | (refine wpList_append_lies _ rfl (.tmp 43) (.tmp 48) 22 rfl w.heap.size 25 i0 _ 5 40 Tryd.underlying22 hi hz0 hz1 hz2 rfl (by decide) (.slice A' O.length c') O.length (flat O) rfl HOW.out ⟨_, 0, none⟩ 1 1 [.int .i64 x0, .int .i64 x1, .int .i64 x2, .int .i64 x3, .int .i64 x4] rfl rfl (news5 _ _ _ _ _ _ _) (flat_one [⟨x0, x1, x2, x3, x4⟩]) (by omega) (by have := HOL.out; unfold maxLen; omega) (by have := HOL.out; omega) (by have := HLO.out; rw [size_al]; omega) _ rfl ?_; intro g1 cap1 w3 hO2 hG2 _ _; have HA := Lib.hid (HG.out.1.app HZ1.out hO2 hG2); clear hO2 hG2))
          go_roundw
          case rel => exact ⟨k + 1, cap1, some ⟨g1, 0, none⟩, O ++ [⟨x0, x1, x2, x3, x4⟩], by go_num, by simp, by omega, HA.out, by rw [HT.out, ← HG.out.2.1]; rfl, by have := HG.out.2.2; simp; omega⟩
          case measure => simp [intOf]; omega
        · have qi : its g ⟨x0, x1, x2, x3, x4⟩ = false := by simp [its, q1, q2]
          rw [qi] at HT
          have e2 : (x2 == g) = false := by rw [beq_eq_false_iff_ne]; exact q2
          clear qi
          go_wp2_with fail
          go_roundw
          case rel => exact ⟨k + 1, c', A', O, by go_num, rfl, by omega, HG.out.1, by rw [HT.out, ← HG.out.2.1]; simp, by have := HG.out.2.2; omega⟩
          case measure => simp [intOf]; omega
    · obtain rfl : k = n := by omega
      have hki : ¬ (k : Int) < (k : Int) := by omega
      have HF : Hid (Gr w wr A' c' O ∧ O = l.filter (its g)) := by
        refine ⟨HG.out.1, ?_⟩
        have h := HG.out.2.1
        rw [← HN.out, List.take_length] at h
        exact h
      clear HG
      have HW := Lib.hid (words_any wr)
      go_wp2_with fail
      go_at_call 8
      refine HW.out.mono ?_
      rintro e w1 ⟨rfl, rfl⟩
      have HBW := Lib.hid (HF.out.1.bel.trans ((Below.refl wr.heap.size wr).alloc (Nat.le_refl _) (.cells wordCells 9) |>.mono HF.out.1.bel.size))
      have HF2 : Hid (Gr w (wr.alloc (.cells wordCells 9)) A' c' O) := HF.out.1.more ((Below.refl wr.heap.size wr).alloc (Nat.le_refl _) _)
      have hwc : (wr.alloc (.cells wordCells 9)).heap[wr.heap.size]? = some (.cells wordCells 9 (0, 0)) := heap_alloc_new _ _
      have HWC : Hid (∀ i, i < 12 → (wr.alloc (.cells wordCells 9)).cell? ⟨wr.heap.size, i, none⟩ = some (.string (bA (kw i)))) := fun i h => (cell_blk hwc i).trans (wordCells_get i h)
      clear hwc HW
      generalize (wr.alloc (.cells wordCells 9)) = W at *
      go_wp2_with fail
      go_loopw [11, 9] (fun i d wx => ∃ (j kd : Nat), i = .int .i64 (j : Int) ∧ d = .int .i64 (kd : Int) ∧ 1 ≤ j ∧ j ≤ 12 ∧ wx = W ∧ Hid (KdAt s j kd)) (fun i _ _ => 12 - (intOf i).toNat)
      case atStart => exact ⟨1, 0, rfl, rfl, by omega, by omega, rfl, KdAt.start s⟩
      case round =>
        obtain ⟨j, kd, rfl, rfl, hj1, hj2, rfl, HKD⟩ := hrel
        by_cases hj : j < 12
        · have hji : (j : Int) < 12 := by omega
          have hcw := HWC.out j hj
          have hq := HQ.out j
          obtain ⟨Kj, hKj⟩ : ∃ K, bA (kw j) = K := ⟨_, rfl⟩
          rw [hKj] at hcw hq
          clear hKj
          by_cases he : kw j = s
          · have hb2 : (Kj.toList == S.toList) = true := by rw [hq, beq_iff_eq]; exact he
            have HK2 := Lib.hid (HKD.out.hit ⟨hj1, hj⟩ he)
            clear hq he
            go_wp2_with fail
            go_roundw
            case rel => exact ⟨j + 1, j, by go_num, rfl, by omega, by omega, by simp, HK2.out⟩
            case measure => simp [intOf]; omega
          · have hb2 : (Kj.toList == S.toList) = false := by rw [hq, beq_eq_false_iff_ne]; exact he
            have HK2 := Lib.hid (HKD.out.miss he)
            clear hq he
            go_wp2_with fail
            go_roundw
            case rel => exact ⟨j + 1, kd, by go_num, rfl, by omega, by omega, by simp, HK2.out⟩
            case measure => simp [intOf]; omega
        · obtain rfl : j = 12 := by omega
          have HKD2 := Lib.hid HKD.out.done
          have hb : ((kind s : Int) == (kd : Int)) = true := by rw [beq_iff_eq, HKD2.out]
          have HA := Lib.hid (fun (x : World) (hx : Below w.heap.size w x) => awake_any x (HTT.out x hx))
          have HFO := Lib.hid HF.out.2
          have HOL : Hid (O.length ≤ 1000000) := by
            have h1 := HL.out
            have h2 := its_len l l.length g
            rw [List.take_length] at h2
            have h3 := HN.out
            show O.length ≤ _
            rw [HFO.out]; omega
          clear HF HKD HQ HWC
          go_wp2_with fail
          go_at_call 7
          refine (HA.out _ HBW.out).mono ?_
          rintro e w2 ⟨rfl, hb2⟩
          have HB2 := Lib.hid (HBW.out.trans (hb2.mono HBW.out.size))
          have HF3 := Lib.hid (HF2.out.more hb2)
          have HO := Lib.hid (of_any w2 b A cp l k HN.out (by have := HL.out; omega) (HS.out _ HB2.out) g)
          clear hb2 HA HF2 HBW
          go_wp2_with fail
          go_at_call 10
          refine HO.out.mono ?_
          rintro e w3 ⟨A2, c2, rfl, hG⟩
          have HB3 := Lib.hid (HB2.out.trans (hG.bel.mono HB2.out.size))
          obtain ⟨g2, -, hs2⟩ := row_sees hG.own
          obtain ⟨g1, -, hs1⟩ := row_sees (HF3.out.more hG.bel).own
          have HSA := Lib.hid (same_any w3 g2 g1 A2 A' c2 c' (l.filter (its g)) O _ _ rfl rfl (by have := HOL.out; rw [← HFO.out]; omega) (by have := HOL.out; omega) hs2 hs1)
          have HD : Hid (decide (l.filter (its g) = O) = true) := decide_eq_true HFO.out.symm
          rw [HD.out] at HSA
          clear hG hs1 hs2 HO HF3 HD
          go_wp2_with fail
          go_at_call 9
          refine HSA.out.mono ?_
          rintro e w4 ⟨rfl, q, rfl⟩
          have HB4 : Hid (Below w.heap.size w (w3.drewN q)) := ⟨HB3.out.os, HB3.out.tape, HB3.out.output, HB3.out.size, HB3.out.block⟩
          have HK4 := Lib.hid (HK.out _ (HTT.out _ HB4.out))
          clear HSA HK HTT HS
          go_wp2_with fail
          go_at_call 11
          refine HK4.out.mono ?_
          rintro e w5 ⟨rfl, rfl⟩
          go_wp2_with fail
          go_ret
          exact ⟨rfl, HB4.out⟩
end Go.Proofs.YtalilnnjpemmlaaDoor
