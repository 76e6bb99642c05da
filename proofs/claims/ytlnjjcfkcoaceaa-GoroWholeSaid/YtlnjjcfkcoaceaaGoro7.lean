/- A program written out step by step. -/
import Derived.Test.YtlnjjcfkcoaceaaGoro5
namespace Go.Proofs.Ytlnjjcfkcoaceaa
open Go Go.RowKit
set_option linter.unusedVariables false
set_option maxRecDepth 100000
set_option linter.unusedSimpArgs false


/-- The instructions of a program of l; behind them it exits. -/
def ik (ff : Nat → Int) (l i : Nat) : Int := if i < l then kd (ff i) else 0
def ia (ff : Nat → Int) (m : Int) (l i : Nat) : Int := if i < l then ag (ff i) m else 0
/-- Where a goroutine stands behind so many steps of its program. -/
def pos (ff : Nat → Int) (m : Int) (l : Nat) (p : Int) : Nat → Pl
  | 0 => ⟨p, 0, 0, 1⟩
  | j + 1 => plNext (pos ff m l p j) (ik ff l (pos ff m l p j).a.toNat) (ia ff m l (pos ff m l p j).a.toNat)
/-- The cells of the instructions of the first N steps. -/
def stC (ff : Nat → Int) (m : Int) (l : Nat) (p : Int) : Nat → List Value
  | 0 => []
  | j + 1 => stC ff m l p j ++ [.int .i64 (ik ff l (pos ff m l p j).a.toNat), .int .i64 (ia ff m l (pos ff m l p j).a.toNat)]
/-- In the midst of an instruction that takes c steps, of which d are done. -/
def mid (p : Int) (i c d : Nat) : Pl := if d = c then ⟨p, (i : Int) + 1, 0, 1⟩ else ⟨p, i, if d = 0 then 0 else (c : Int) - d, 1⟩
theorem kd_bd (x : Int) (hx : 0 ≤ x) : 0 ≤ kd x ∧ kd x ≤ 7 := by unfold kd; split <;> omega
theorem ag_one (x m : Int) (hx : 0 ≤ x) (h : kd x = 1) : 1 ≤ ag x m ∧ ag x m ≤ 16 := by
  unfold kd at h
  unfold ag
  split at h
  · omega
  · rw [if_neg ‹_›, if_pos h]; omega
/-- How many steps the i-th instruction takes. -/
def cnt (ff : Nat → Int) (m : Int) (i : Nat) : Nat := if kd (ff i) = 1 then (ag (ff i) m).toNat else 1
theorem mid_next {ff : Nat → Int} {m : Int} {l : Nat} {p : Int} {i d : Nat} (hi : i < l) (hx : 0 ≤ ff i) (h0 : kd (ff i) ≠ 0) (hd : d < cnt ff m i) : (mid p i (cnt ff m i) d).a.toNat = i ∧ plNext (mid p i (cnt ff m i) d) (ik ff l i) (ia ff m l i) = mid p i (cnt ff m i) (d + 1) := by
  have e1 : ik ff l i = kd (ff i) := by unfold ik; rw [if_pos hi]
  have e2 : ia ff m l i = ag (ff i) m := by unfold ia; rw [if_pos hi]
  rw [e1, e2]
  constructor
  · unfold mid
    rw [if_neg (by omega)]
    simp
  · have hm : mid p i (cnt ff m i) d = ⟨p, i, if d = 0 then 0 else (cnt ff m i : Int) - d, 1⟩ := by unfold mid; rw [if_neg (by omega)]
    by_cases h1 : kd (ff i) = 1
    · have hc : (cnt ff m i : Int) = ag (ff i) m := by
        have := ag_one (ff i) m hx h1
        unfold cnt
        rw [if_pos h1]
        omega
      rw [hm]
      generalize cnt ff m i = c at *
      have hL : plLeft ⟨p, i, if d = 0 then 0 else (c : Int) - d, 1⟩ (ag (ff i) m) = (c : Int) - d - 1 := by
        unfold plLeft
        dsimp only
        by_cases hd0 : d = 0
        · subst hd0
          simp
          omega
        · rw [if_neg hd0, if_neg (by omega)]
      unfold plNext
      rw [if_neg h0, if_pos h1]
      unfold plComp
      rw [hL]
      by_cases hz : d + 1 = c
      · rw [if_pos (by omega), hz]
        unfold mid
        rw [if_pos rfl]
      · rw [if_neg (by omega)]
        unfold mid
        rw [if_neg hz, if_neg (Nat.succ_ne_zero d)]
        have e : (c : Int) - d - 1 = (c : Int) - ((d + 1 : Nat) : Int) := by omega
        rw [e]
    · have hc : cnt ff m i = 1 := by unfold cnt; rw [if_neg h1]
      rw [hc] at hd hm ⊢
      obtain rfl : d = 0 := by omega
      rw [hm]
      unfold plNext
      rw [if_neg h0, if_neg h1]
      rfl
theorem mid_start (p : Int) (i c : Nat) (hc : 0 < c) : mid p i c 0 = ⟨p, i, 0, 1⟩ := by unfold mid; rw [if_neg (by omega)]; rfl
theorem mid_end (p : Int) (i c : Nat) : mid p i c c = ⟨p, (i : Int) + 1, 0, 1⟩ := by unfold mid; rw [if_pos rfl]
theorem cnt_bd (ff : Nat → Int) (m : Int) (i : Nat) (hx : 0 ≤ ff i) : 1 ≤ cnt ff m i ∧ cnt ff m i ≤ 16 := by
  unfold cnt
  split
  · have := ag_one (ff i) m hx ‹_›; omega
  · omega

/-- J steps lead to the beginning of the i-th instruction; none of them exits. -/
structure Upto (ff : Nat → Int) (m : Int) (l : Nat) (p : Int) (J : Nat) (q : Pl) : Prop where
  at' : pos ff m l p J = q
  all : ∀ j, j < J → ik ff l (pos ff m l p j).a.toNat ≠ 0
theorem Upto.next {ff : Nat → Int} {m : Int} {l : Nat} {p : Int} {J i d : Nat} (h : Upto ff m l p J (mid p i (cnt ff m i) d)) (hi : i < l) (hx : 0 ≤ ff i) (h0 : kd (ff i) ≠ 0) (hd : d < cnt ff m i) : Upto ff m l p (J + 1) (mid p i (cnt ff m i) (d + 1)) := by
  obtain ⟨e1, e2⟩ := mid_next (l := l) (p := p) hi hx h0 hd
  refine ⟨?_, fun j hj => ?_⟩
  · show plNext (pos ff m l p J) _ _ = _
    rw [h.at', e1, e2]
  · by_cases hjJ : j < J
    · exact h.all j hjJ
    · obtain rfl : j = J := by omega
      rw [h.at', e1]
      unfold ik
      rw [if_pos hi]
      exact h0
theorem stC_snoc {ff : Nat → Int} {m : Int} {l : Nat} {p : Int} {J i d : Nat} (h : Upto ff m l p J (mid p i (cnt ff m i) d)) (hi : i < l) (hx : 0 ≤ ff i) (h0 : kd (ff i) ≠ 0) (hd : d < cnt ff m i) : stC ff m l p (J + 1) = stC ff m l p J ++ [.int .i64 (kd (ff i)), .int .i64 (ag (ff i) m)] := by
  show stC ff m l p J ++ _ = _
  rw [h.at', (mid_next (l := l) (p := p) hi hx h0 hd).1]
  unfold ik ia
  rw [if_pos hi, if_pos hi]

set_option maxHeartbeats 2000000 in
theorem steps_any (A1 : Option Addr) (l c1 : Nat) (ff : Nat → Int) (m p : Int) (w : World) (hl : l ≤ 300) (hs : SeesI w 0 w.heap.size A1 l ff m) (hf : ∀ i, i < l → 0 ≤ ff i) :
    Calls Try.prog 49 #[.slice A1 l c1] w fun e w' => ∃ N v, e = .returned v ∧ Own w w' 90 2 v N (stC ff m l p N) ∧ N ≤ 4800 ∧ (∀ j, j < N → ik ff l (pos ff m l p j).a.toNat ≠ 0) ∧ ik ff l (pos ff m l p N).a.toNat = 0 := by
  obtain ⟨i0, hi, hz0, hz1, hz2⟩ := info_parts info90
  have HS : Hid (SeesI w 0 w.heap.size A1 l ff m) := hs
  have HF : Hid (∀ i, i < l → 0 ≤ ff i) := hf
  clear hs hf
  go_enter Try.func49, Try.ntmps49
  go_wp2_with fail
  go_loopw [3, 4] (fun x y wr => ∃ (i J : Nat) (v : Value), i ≤ l ∧ J ≤ i * 16 ∧ x = v ∧ y = .int .i64 i ∧ Hid (Own w wr 90 2 v J (stC ff m l p J)) ∧ Hid (Upto ff m l p J ⟨p, i, 0, 1⟩)) (fun _ y _ => l - (intOf y).toNat)
  case atStart => exact ⟨0, 0, _, Nat.zero_le _, Nat.zero_le _, rfl, rfl, Own.nil _ _ _, ⟨rfl, fun j hj => by omega⟩⟩
  case round =>
    obtain ⟨i, J, v, hil, hJ, rfl, rfl, HO, HU⟩ := hrel
    by_cases hlt : i < l
    · obtain ⟨b, off, rfl, -, hb, hc⟩ := HS.out (by omega)
      have hc0 : wr.cell? ⟨b, off + i * 2, none⟩ = some (.int .i64 (kd (ff i))) := (HO.out.below.cell (p := ⟨b, off + i * 2, none⟩) hb).trans (hc i hlt).1
      have hc1 : wr.cell? ⟨b, off + i * 2 + 1, none⟩ = some (.int .i64 (ag (ff i) m)) := (HO.out.below.cell (p := ⟨b, off + i * 2 + 1, none⟩) hb).trans (hc i hlt).2
      have hx0 := HF.out i hlt
      have hi1 : (i : Int) < (l : Int) := by omega
      have HCC : Hid (∀ Y, Below w.heap.size w Y → Y.cell? ⟨b, off + i * 2, none⟩ = some (.int .i64 (kd (ff i))) ∧ Y.cell? ⟨b, off + i * 2 + 1, none⟩ = some (.int .i64 (ag (ff i) m))) := fun Y hY => ⟨(hY.cell (p := ⟨b, off + i * 2, none⟩) hb).trans (hc i hlt).1, (hY.cell (p := ⟨b, off + i * 2 + 1, none⟩) hb).trans (hc i hlt).2⟩
      clear hc
      by_cases h0 : kd (ff i) = 0
      · have HZ : Hid (ik ff l (pos ff m l p J).a.toNat = 0) := by
          show ik ff l (pos ff m l p J).a.toNat = 0
          rw [HU.out.at']
          show ik ff l ((i : Int)).toNat = 0
          unfold ik
          rw [Int.toNat_natCast, if_pos hlt, h0]
        rw [h0] at hc0
        clear h0
        go_wp2_with fail
        go_ret
        exact ⟨J, _, rfl, HO.out, by omega, HU.out.all, HZ.out⟩
      · have hk0 : decide (kd (ff i) = 0) = false := decide_eq_false h0
        have H0 : Hid (kd (ff i) ≠ 0) := h0
        have he0 : (kd (ff i) == 0) = false := by simp [h0]
        have hcb := cnt_bd ff m i hx0
        have HU0 : Hid (Upto ff m l p J (mid p i (cnt ff m i) 0)) := by
          show Upto _ _ _ _ _ _
          rw [mid_start p i _ (by omega)]
          exact HU.out
        by_cases h1 : kd (ff i) = 1
        · have hcn : (cnt ff m i : Int) = ag (ff i) m := by
            have := ag_one (ff i) m hx0 h1
            unfold cnt
            rw [if_pos h1]
            omega
          have HCN : Hid ((cnt ff m i : Int) = ag (ff i) m) := hcn
          rw [h1] at hc0
          rw [← hcn] at hc1
          clear hcn h0 hk0 h1 he0
          go_wp2_with fail
          go_loopw [3, 6] (fun x2 y2 wr2 => ∃ (d : Nat) (v2 : Value), d ≤ cnt ff m i ∧ x2 = v2 ∧ y2 = .int .i64 d ∧ Hid (Own w wr2 90 2 v2 (J + d) (stC ff m l p (J + d))) ∧ Hid (Upto ff m l p (J + d) (mid p i (cnt ff m i) d))) (fun _ y2 _ => cnt ff m i - (intOf y2).toNat)
          case atStart => exact ⟨0, _, Nat.zero_le _, rfl, rfl, HO, HU0⟩
          case round =>
            clear HO HU HU0 hc0 hc1
            obtain ⟨d, v2, hd, rfl, rfl, HO, HU⟩ := hrel
            by_cases hdl : d < cnt ff m i
            · obtain ⟨k0, k1⟩ := HCC.out _ HO.out.below
              have hd1 : (d : Int) < ((cnt ff m i : Nat) : Int) := by have := HCN.out; omega
              have hsn := stC_snoc HU.out hlt hx0 H0.out hdl
              have HUn := HU.out.next hlt hx0 H0.out hdl
              go_wp2_with (at_builtin; refine wpList_append_own _ rfl _ _ 96 rfl w.heap.size 90 i0 _ 2 16 Try.underlying96 hi hz0 hz1 hz2 rfl (by decide) _ (J + d) (stC ff m l p (J + d)) rfl (HO.out.own.alloc _) ⟨wr.heap.size, 0, none⟩ 1 1 [.int .i64 (kd (ff i)), .int .i64 (ag (ff i) m)] rfl rfl (cells_of2 wr (.int .i64 (kd (ff i))) (.int .i64 (ag (ff i) m)) 90) (by simp [Value.oneCell']) (by unfold maxLen; omega) (by omega) (by have := HO.out.below.size; simp at this ⊢; omega) ?_; intro v' w3 hown3 hgrow3 _)
              have hF := HO.out.next hown3 hgrow3
              rw [← hsn] at hF
              go_wp2_with fail
              go_roundw
              case rel => exact ⟨d + 1, v', by omega, rfl, by go_num, hF, HUn⟩
              case measure => simp [intOf]; omega
            · obtain rfl : d = cnt ff m i := by omega
              have hgd : decide (((cnt ff m i : Nat) : Int) < ((cnt ff m i : Nat) : Int)) = false := decide_eq_false (by have := HCN.out; omega)
              have HUe := HU.out
              rw [mid_end] at HUe
              have HUe2 : Hid (Upto ff m l p (J + cnt ff m i) ⟨p, ((i + 1 : Nat) : Int), 0, 1⟩) := HUe
              clear HUe HU
              go_wp2_with fail
              go_roundw
              case rel => exact ⟨i + 1, J + cnt ff m i, _, by omega, by omega, rfl, by go_num, HO, HUe2⟩
              case measure => simp [intOf]; omega
        · have hk1 : decide (kd (ff i) = 1) = false := decide_eq_false h1
          have he1 : (kd (ff i) == 1) = false := by simp [h1]
          have hcn : cnt ff m i = 1 := by unfold cnt; rw [if_neg h1]
          have HCN : Hid ((cnt ff m i : Int) = 1) := by show (_ : Int) = 1; rw [hcn]; rfl
          clear h0 h1 hcn
          go_wp2_with fail
          go_loopw [3, 6] (fun x2 y2 wr2 => ∃ (d : Nat) (v2 : Value), d ≤ cnt ff m i ∧ x2 = v2 ∧ y2 = .int .i64 d ∧ Hid (Own w wr2 90 2 v2 (J + d) (stC ff m l p (J + d))) ∧ Hid (Upto ff m l p (J + d) (mid p i (cnt ff m i) d))) (fun _ y2 _ => cnt ff m i - (intOf y2).toNat)
          case atStart => exact ⟨0, _, Nat.zero_le _, rfl, rfl, HO, HU0⟩
          case round =>
            clear HO HU HU0 hc0 hc1
            obtain ⟨d, v2, hd, rfl, rfl, HO, HU⟩ := hrel
            by_cases hdl : d < cnt ff m i
            · obtain ⟨k0, k1⟩ := HCC.out _ HO.out.below
              have hd1 : (d : Int) < 1 := by have := HCN.out; omega
              have hsn := stC_snoc HU.out hlt hx0 H0.out hdl
              have HUn := HU.out.next hlt hx0 H0.out hdl
              go_wp2_with (at_builtin; refine wpList_append_own _ rfl _ _ 96 rfl w.heap.size 90 i0 _ 2 16 Try.underlying96 hi hz0 hz1 hz2 rfl (by decide) _ (J + d) (stC ff m l p (J + d)) rfl (HO.out.own.alloc _) ⟨wr.heap.size, 0, none⟩ 1 1 [.int .i64 (kd (ff i)), .int .i64 (ag (ff i) m)] rfl rfl (cells_of2 wr (.int .i64 (kd (ff i))) (.int .i64 (ag (ff i) m)) 90) (by simp [Value.oneCell']) (by unfold maxLen; omega) (by omega) (by have := HO.out.below.size; simp at this ⊢; omega) ?_; intro v' w3 hown3 hgrow3 _)
              have hF := HO.out.next hown3 hgrow3
              rw [← hsn] at hF
              go_wp2_with fail
              go_roundw
              case rel => exact ⟨d + 1, v', by omega, rfl, by go_num, hF, HUn⟩
              case measure => simp [intOf]; omega
            · obtain rfl : d = cnt ff m i := by omega
              have hgd : decide (((cnt ff m i : Nat) : Int) < 1) = false := decide_eq_false (by have := HCN.out; omega)
              have HUe := HU.out
              rw [mid_end] at HUe
              have HUe2 : Hid (Upto ff m l p (J + cnt ff m i) ⟨p, ((i + 1 : Nat) : Int), 0, 1⟩) := HUe
              clear HUe HU
              go_wp2_with fail
              go_roundw
              case rel => exact ⟨i + 1, J + cnt ff m i, _, by omega, by omega, rfl, by go_num, HO, HUe2⟩
              case measure => simp [intOf]; omega
    · obtain rfl : i = l := by omega
      have hgd : decide ((i : Int) < (i : Int)) = false := by simp
      have HZ : Hid (ik ff i (pos ff m i p J).a.toNat = 0) := by
        show ik ff i (pos ff m i p J).a.toNat = 0
        rw [HU.out.at']
        show ik ff i ((i : Int)).toNat = 0
        unfold ik
        rw [Int.toNat_natCast, if_neg (by omega)]
      go_wp2_with fail
      go_ret
      exact ⟨J, _, rfl, HO.out, by omega, HU.out.all, HZ.out⟩

end Go.Proofs.Ytlnjjcfkcoaceaa
