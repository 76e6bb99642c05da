/- The contracts of Start and Step, and of the law's helper same. -/
import Derived.Test.YtmjonifiohcobaaOrd2
namespace Go.Proofs.Ytmjonifiohcobaa
open Go Go.RowKit
set_option linter.unusedVariables false
set_option linter.unusedSimpArgs false

theorem tmod_nat (a b : Nat) : (a : Int).tmod (b : Int) = ((a % b : Nat) : Int) := by rw [Int.tmod_eq_emod_of_nonneg (by omega)]; simp
theorem tdiv_nat (a b : Nat) : (a : Int).tdiv (b : Int) = ((a / b : Nat) : Int) := by rw [Int.tdiv_eq_ediv_of_nonneg (by omega)]; simp

theorem start_no (n W : Int) (w : World) (h : ¬ (1 ≤ n ∧ n ≤ 64)) : Calls Try.prog 32 #[.int .i64 n, .int .u64 W] w fun e w' => e = .returned (.int .i64 0) ∧ w = w' := by
  have hm := may_any n w
  rw [show decide (1 ≤ n ∧ n ≤ 64) = false by simpa using h] at hm
  go_enter Try.func32, Try.ntmps32
  go_wp2_with (go_at_call 47; refine hm.mono ?_; rintro e w1 ⟨rfl, rfl⟩)
  go_ret
  exact ⟨rfl, rfl⟩
theorem start_ok (n W : Nat) (w : World) (h1 : 1 ≤ n) (h2 : n ≤ 64) : Calls Try.prog 32 #[.int .i64 n, .int .u64 W] w fun e w' => e = .returned (.int .i64 ((W % n : Nat) : Int)) ∧ w = w' := by
  have hm := may_any n w
  rw [show decide (1 ≤ (n : Int) ∧ (n : Int) ≤ 64) = true by simp; omega] at hm
  have hq := tmod_nat W n
  have hlt : W % n < n := Nat.mod_lt _ (by omega)
  have hn0 : ¬ n = 0 := by omega
  generalize W % n = r at hq hlt
  go_enter Try.func32, Try.ntmps32
  go_wp2_with fail
  go_at_call 47; refine hm.mono ?_; clear hm; rintro e w1 ⟨rfl, rfl⟩
  go_wp2_with fail
  go_ret
  exact ⟨by simp, rfl⟩

theorem step_no (n W : Int) (w : World) (h : ¬ (1 ≤ n ∧ n ≤ 64)) : Calls Try.prog 33 #[.int .i64 n, .int .u64 W] w fun e w' => e = .returned (.int .i64 0) ∧ w = w' := by
  have hm := may_any n w
  rw [show decide (1 ≤ n ∧ n ≤ 64) = false by simpa using h] at hm
  go_enter Try.func33, Try.ntmps33
  go_wp2_with (go_at_call 47; refine hm.mono ?_; rintro e w1 ⟨rfl, rfl⟩)
  go_ret
  exact ⟨rfl, rfl⟩

/-- The step of a draw. -/
def stepAt (n W : Nat) : Nat := (sU n n).getD (W / n % (sU n n).length) 0
theorem len_pos (n : Nat) (h : 1 ≤ n) : 0 < (sU n n).length := by
  obtain ⟨k, rfl⟩ : ∃ k, n = k + 1 := ⟨n - 1, by omega⟩
  exact sU_pos _ _
theorem Grows.cell {w wr : World} {v : Value} {l : List Nat} (h : Grows w wr v l) {i : Nat} (hi : i < l.length) : ∃ g cap, v = .slice (some ⟨g, 0, none⟩) l.length cap ∧ w.heap.size ≤ g ∧ g < wr.heap.size ∧ ∀ j, j < l.length → wr.cell? ⟨g, j, none⟩ = some (.int .i64 ((l.getD j 0 : Nat) : Int)) := by
  rcases h.own.2 with ⟨e, h0⟩ | ⟨g, cp, cur, e, hg, hh, _⟩
  · omega
  · refine ⟨g, cp, e, hg, ?_, fun j hj => ?_⟩
    · rcases Nat.lt_or_ge g wr.heap.size with q | q
      · exact q
      · rw [Array.getElem?_eq_none q] at hh; cases hh
    · have ho := h.own
      rw [e] at ho
      have hc := ho.cellAt j (by omega)
      rw [show (cellsN l)[j]? = some (.int .i64 ((l.getD j 0 : Nat) : Int)) by simp [cellsN, hj]] at hc
      exact hc
theorem step_ok (n W : Nat) (w : World) (h1 : 1 ≤ n) (h2 : n ≤ 64) (hW : W ≤ 18446744073709551615) : Calls Try.prog 33 #[.int .i64 n, .int .u64 W] w fun e w' => e = .returned (.int .i64 (stepAt n W : Nat)) ∧ Below w.heap.size w w' := by
  have hm := may_any n w
  rw [show decide (1 ≤ (n : Int) ∧ (n : Int) ≤ 64) = true by simp; omega] at hm
  have hS := strides_any n w h1 h2
  have hlen := sU_len n n
  have hpos := len_pos n h1
  have hq := tdiv_nat W n
  have hle : W / n ≤ W := Nat.div_le_self _ _
  have hq2 := tmod_nat (W / n) (sU n n).length
  have hlt : W / n % (sU n n).length < (sU n n).length := Nat.mod_lt _ hpos
  have hn0 : ¬ n = 0 := by omega
  have hl0 : ¬ (sU n n).length = 0 := by omega
  have hst : stepAt n W = (sU n n).getD (W / n % (sU n n).length) 0 := rfl
  rw [hst]
  clear hst
  generalize W / n = d at hq hq2 hlt hle ⊢
  generalize d % (sU n n).length = r at hq2 hlt ⊢
  obtain ⟨s, hsx⟩ : ∃ s, (sU n n).getD r 0 = s := ⟨_, rfl⟩
  rw [hsx]
  go_enter Try.func33, Try.ntmps33
  go_wp2_with fail
  go_at_call 47; refine hm.mono ?_; clear hm; rintro e w1 ⟨rfl, rfl⟩
  go_wp2_with fail
  go_at_call 31; refine hS.mono ?_; clear hS; rintro e w2 ⟨v, rfl, hG⟩
  have hb := hG.below
  obtain ⟨g, cap, rfl, hg1, hg2, hc⟩ := hG.cell hlt
  have hcr := hc r hlt
  rw [hsx] at hcr
  clear hc hG hsx
  generalize (sU n n).length = len at *
  go_wp2_with fail
  go_ret
  exact ⟨rfl, hb⟩
end Go.Proofs.Ytmjonifiohcobaa
