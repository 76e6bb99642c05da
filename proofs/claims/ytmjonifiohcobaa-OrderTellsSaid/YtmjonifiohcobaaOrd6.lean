/- The contract of the reference's Order. -/
import Derived.Test.YtmjonifiohcobaaOrd5
namespace Go.Proofs.Ytmjonifiohcobaa
open Go Go.RowKit
set_option linter.unusedVariables false
set_option linter.unusedSimpArgs false

/-- The i-th number of an order. -/
def ordK (st step n : Nat) : Nat → Nat
  | 0 => st
  | i + 1 => (ordK st step n i + step) % n
theorem ordK_lt {st step n : Nat} (h : st < n) : ∀ i, ordK st step n i < n
  | 0 => h
  | i + 1 => Nat.mod_lt _ (by omega)
/-- The first k numbers of an order. -/
def ordL (st step n k : Nat) : List Nat := (List.range k).map (ordK st step n)
theorem ordL_len (st step n k : Nat) : (ordL st step n k).length = k := by simp [ordL]
theorem ordL_snoc (st step n k : Nat) : ordL st step n (k + 1) = ordL st step n k ++ [ordK st step n k] := by simp [ordL, List.range_succ]
theorem ordL_at (st step n k i : Nat) (h : i < k) : (ordL st step n k).getD i 0 = ordK st step n i := by simp [ordL, h]
theorem stepAt_le (n W : Nat) (h1 : 1 ≤ n) : 1 ≤ stepAt n W ∧ stepAt n W ≤ n ∧ Nat.gcd (stepAt n W) n = 1 := by
  have hlt : W / n % (sU n n).length < (sU n n).length := Nat.mod_lt _ (len_pos n h1)
  have hm : stepAt n W ∈ sU n n := by
    unfold stepAt
    rw [List.getD_eq_getElem?_getD, List.getElem?_eq_getElem hlt]
    exact List.getElem_mem _
  exact sU_mem n n _ hm
/-- The order of a draw. -/
def ordOf (n W k : Nat) : List Nat := ordL (W % n) (stepAt n W) n k

theorem Grows.since {w w2 wr : World} {v : Value} {l : List Nat} (h : Grows w2 wr v l) (hb : Below w.heap.size w w2) : Grows w wr v l := by
  refine ⟨⟨h.own.1, ?_⟩, hb.trans (h.below.mono hb.size)⟩
  rcases h.own.2 with hn | ⟨g, cap, cur, e, hg, hr⟩
  · exact Or.inl hn
  · exact Or.inr ⟨g, cap, cur, e, Nat.le_trans hb.size hg, hr⟩

set_option maxHeartbeats 2000000 in
theorem refOrder_any (n W : Nat) (w : World) (h1 : 1 ≤ n) (h2 : n ≤ 64) (hW : W ≤ 18446744073709551615) : Calls Try.prog 34 #[.int .i64 n, .int .u64 W] w fun e w' => ∃ v, e = .returned v ∧ Grows w w' v (ordOf n W n) := by
  obtain ⟨i0, hi, hz0, hz1, hz2⟩ := info_parts info3
  have hS := refStrides_any n w h1 h2
  have hlen := sU_len n n
  have hpos := len_pos n h1
  have hq0 := tmod_nat W n
  have hq := tdiv_nat W n
  have hle : W / n ≤ W := Nat.div_le_self _ _
  have hq2 := tmod_nat (W / n) (sU n n).length
  have hlt : W / n % (sU n n).length < (sU n n).length := Nat.mod_lt _ hpos
  have hst0 : W % n < n := Nat.mod_lt _ (by omega)
  have hn0 : ¬ n = 0 := by omega
  have hl0 : ¬ (sU n n).length = 0 := by omega
  have hstl := stepAt_le n W h1
  unfold ordOf
  have hst : stepAt n W = (sU n n).getD (W / n % (sU n n).length) 0 := rfl
  generalize stepAt n W = step at hst hstl ⊢
  generalize W % n = st at hq0 hst0 ⊢
  generalize W / n = d at hq hq2 hlt hle hst
  generalize d % (sU n n).length = r at hq2 hlt hst
  go_enter Try.func34, Try.ntmps34
  go_wp2_with fail
  go_at_call 35; refine hS.mono ?_; clear hS; rintro e w2 ⟨v, rfl, hG⟩
  have hb := hG.below
  obtain ⟨g, cap, rfl, hg1, hg2, hc⟩ := hG.cell hlt
  have hcr := hc r hlt
  rw [← hst] at hcr
  clear hc hG hst
  generalize (sU n n).length = len at *
  go_wp2_with fail
  have hG0 : Grows w2 w2 (.slice none 0 0) (ordL st step n 0) := Grows.nil w2
  go_loopw [10, 9, 8] (fun x y z wr => ∃ k : Nat, k ≤ n ∧ x = .int .i64 k ∧ y = .int .i64 ((ordK st step n k : Nat) : Int) ∧ Grows w2 wr z (ordL st step n k)) (fun x _ _ _ => n - (intOf x).toNat)
  case atStart => exact ⟨0, Nat.zero_le _, rfl, rfl, hG0⟩
  case round =>
    obtain ⟨k, hk, rfl, rfl, hG⟩ := hrel
    clear hG0
    obtain ⟨A, cap1, rfl⟩ := hG.spelt
    rw [ordL_len] at hG ⊢
    by_cases hlt2 : k < n
    · have HG : Hid (Grows w2 wr (.slice A k cap1) (ordL st step n k)) := hG
      have hown : Hid (wr.ownsRow w2.heap.size 3 1 (.slice A k cap1) k (cellsN (ordL st step n k))) := by have := hG.own; rw [ordL_len] at this; exact this
      have hsn := ordL_snoc st step n k
      have hcl := ordK_lt (step := step) hst0 k
      have hnx : ordK st step n (k + 1) = (ordK st step n k + step) % n := rfl
      generalize ordK st step n k = cur at hcl hnx hsn ⊢
      have hnx2 : ((ordK st step n (k + 1) : Nat) : Int) = if (n : Int) ≤ (cur : Int) + (step : Int) then (cur : Int) + (step : Int) - (n : Int) else (cur : Int) + (step : Int) := by
        rw [hnx]
        split
        · rw [Nat.mod_eq_sub_mod (by omega), Nat.mod_eq_of_lt (by omega)]; omega
        · rw [Nat.mod_eq_of_lt (by omega)]; omega
      have HX : Hid _ := hnx2
      clear hG hnx hnx2
      go_wp2_with (at_builtin; refine wpList_append_own _ rfl _ _ 55 rfl w2.heap.size 3 i0 (.int .i64 0) 1 8 Try.underlying55 hi hz0 hz1 hz2 rfl (by decide) _ k (cellsN (ordL st step n k)) rfl (hown.out.alloc _) ⟨wr.heap.size, 0, none⟩ 1 1 [.int .i64 (cur : Int)] rfl rfl (cells_of _ _) (by simp [Value.oneCell']) (by unfold maxLen; omega) (by omega) (by have := HG.out.below.size; simp at this ⊢; omega) ?_; intro v' w3 hown3 hgrow3 _; have hN : Grows w2 w3 v' (ordL st step n k ++ [cur]) := HG.out.next (by rw [ordL_len]; simpa using hown3) hgrow3; clear hown3 hgrow3; rw [← hsn] at hN; obtain ⟨A3, cap3, rfl⟩ := hN.spelt; rw [ordL_len] at hN ⊢)
      all_goals
        go_roundw
        case rel => exact ⟨k + 1, by omega, by go_num, by rw [show ((ordK st step n (k + 1) : Nat) : Int) = _ from HX.out]; split <;> first | rfl | (exfalso; omega), hN⟩
        case measure => simp [intOf]; omega
    · obtain rfl : k = n := by omega
      go_wp2_with fail
      go_ret
      exact ⟨_, rfl, hG.since hb⟩
end Go.Proofs.Ytmjonifiohcobaa
