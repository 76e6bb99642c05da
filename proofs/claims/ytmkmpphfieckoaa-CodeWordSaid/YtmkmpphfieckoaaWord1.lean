/- The contract of code.Word, and the arithmetic of least words. -/
import Derived.Test.YtmkmpphfieckoaaWake
namespace Go.Proofs.Ytmkmpphfieckoaa
open Go Go.RowKit
set_option linter.unusedVariables false
set_option linter.unusedSimpArgs false

/-- The least and the greatest Arg of a kind. -/
def lo (k : Int) : Int := if k = 1 then 1 else 0
def hi (k : Int) : Int := if k = 1 then 16 else if k = 2 then 4096 else if k = 5 then 65535 else 0
theorem args_any (k : Int) (w : World) : Calls Try.prog 60 #[.int .i64 k] w fun e w' => e = .returned (.tuple #[.int .i64 (lo k), .int .i64 (hi k)]) ∧ w = w' := by
  by_cases h1 : k = 1
  · subst h1
    go_enter Try.func60, Try.ntmps60
    go_wp2_with fail
    go_returns
    exact ⟨rfl, rfl⟩
  · by_cases h2 : k = 2
    · subst h2
      go_enter Try.func60, Try.ntmps60
      go_wp2_with fail
      go_returns
      exact ⟨rfl, rfl⟩
    · by_cases h5 : k = 5
      · subst h5
        go_enter Try.func60, Try.ntmps60
        go_wp2_with fail
        go_returns
        exact ⟨rfl, rfl⟩
      · have e1 : lo k = 0 := by unfold lo; rw [if_neg h1]
        have e2 : hi k = 0 := by unfold hi; rw [if_neg h1, if_neg h2, if_neg h5]
        rw [e1, e2]
        go_enter Try.func60, Try.ntmps60
        go_wp2_with fail
        go_returns
        exact ⟨rfl, rfl⟩
/-- The least word. -/
def lw (k b : Int) : Int := (b - lo k) * 8 + k
theorem lohi (k : Int) : 0 ≤ lo k ∧ lo k ≤ 1 ∧ 0 ≤ hi k ∧ hi k ≤ 65535 ∧ lo k ≤ hi k := by
  unfold lo hi
  split
  · omega
  · split
    · omega
    · split <;> omega
theorem word_bad (k b : Int) (w : World) (h : k < 0 ∨ 6 < k) : Calls Try.prog 45 #[.agg #[.int .i64 k, .int .i64 b]] w fun e w' => e = .returned (.tuple #[.int .u64 0, .int .i64 1]) ∧ Below w.heap.size w w' := by
  have hb : Below w.heap.size w (w.alloc (.cells #[.int .i64 k, .int .i64 b] 54)) := (Below.refl _ _).alloc (Nat.le_refl _) _
  go_enter Try.func45, Try.ntmps45
  go_wp2_with fail
  all_goals
    first
    | (exfalso; omega)
    | (go_returns; exact ⟨rfl, hb⟩)
theorem word_range (k b : Int) (w : World) (h : 0 ≤ k ∧ k ≤ 6) (hb : b < lo k ∨ hi k < b) : Calls Try.prog 45 #[.agg #[.int .i64 k, .int .i64 b]] w fun e w' => e = .returned (.tuple #[.int .u64 0, .int .i64 5]) ∧ Below w.heap.size w w' := by
  have hB : Below w.heap.size w (w.alloc (.cells #[.int .i64 k, .int .i64 b] 54)) := (Below.refl _ _).alloc (Nat.le_refl _) _
  obtain ⟨h1, h2⟩ := h
  go_enter Try.func45, Try.ntmps45
  go_wp2_with fail
  go_at_call 60; refine (args_any k _).mono ?_; rintro e w1 ⟨rfl, rfl⟩
  generalize lo k = l at hb ⊢
  generalize hi k = m at hb ⊢
  go_wp2_with fail
  all_goals
    first
    | (exfalso; omega)
    | (go_returns; exact ⟨rfl, hB⟩)
theorem word_ok (k b : Int) (w : World) (h : 0 ≤ k ∧ k ≤ 6) (hb : lo k ≤ b ∧ b ≤ hi k) : Calls Try.prog 45 #[.agg #[.int .i64 k, .int .i64 b]] w fun e w' => e = .returned (.tuple #[.int .u64 (lw k b), .int .i64 0]) ∧ Below w.heap.size w w' := by
  have hB : Below w.heap.size w (w.alloc (.cells #[.int .i64 k, .int .i64 b] 54)) := (Below.refl _ _).alloc (Nat.le_refl _) _
  have hl := lohi k
  obtain ⟨h1, h2⟩ := h
  obtain ⟨h3, h4⟩ := hb
  unfold lw
  go_enter Try.func45, Try.ntmps45
  go_wp2_with fail
  go_at_call 60; refine (args_any k _).mono ?_; rintro e w1 ⟨rfl, rfl⟩
  go_wp2_with fail
  go_returns
  exact ⟨rfl, hB⟩

/-- The least word's own instruction. -/
theorem lw_kd (k b : Int) (h : 0 ≤ k ∧ k ≤ 6) (hb : lo k ≤ b ∧ b ≤ hi k) : 0 ≤ lw k b ∧ lw k b ≤ 524287 ∧ pt (lw k b) = false ∧ kd (lw k b) = k ∧ ag (lw k b) 5000 = b := by
  have hl := lohi k
  have e0 : 0 ≤ lw k b ∧ lw k b ≤ 524287 := by unfold lw; omega
  have e8 : lw k b % 8 = k := by unfold lw; omega
  have eq8 : lw k b / 8 = b - lo k := by unfold lw; omega
  refine ⟨e0.1, e0.2, ?_, ?_, ?_⟩
  · unfold pt
    rw [e8]
    have : (k == 7) = false := by simp; omega
    rw [this, Bool.and_false]
  · unfold kd; rw [if_neg (by omega), e8]
  · have em : mx 5000 = 5000 := by unfold mx; rw [if_pos (by omega)]
    unfold ag
    rw [if_neg (by omega), e8, eq8, em]
    unfold lo hi at hb
    unfold lo
    by_cases h1 : k = 1
    · rw [if_pos h1, if_pos h1]; rw [if_pos h1, if_pos h1] at hb; omega
    · rw [if_neg h1, if_neg h1]
      rw [if_neg h1, if_neg h1] at hb
      by_cases h2 : k = 2
      · rw [if_pos h2]; rw [if_pos h2] at hb; omega
      · rw [if_neg h2]
        rw [if_neg h2] at hb
        by_cases h5 : k = 5
        · rw [if_pos h5]; rw [if_pos h5] at hb; omega
        · rw [if_neg h5]; rw [if_neg h5] at hb; omega
/-- No lesser word has it. -/
theorem lw_least (k b v : Int) (h : 0 ≤ k ∧ k ≤ 6) (hb : lo k ≤ b ∧ b ≤ hi k) (v0 : 0 ≤ v) (hv : v < lw k b) : (kd v == k && ag v 5000 == b) = false := by
  have hl := lohi k
  have e0 : lw k b ≤ 524287 := by unfold lw; omega
  rw [Bool.and_eq_false_iff]
  by_cases hk : kd v = k
  · right
    have ek : v % 8 = k := by unfold kd at hk; rwa [if_neg (by omega)] at hk
    have em : mx 5000 = 5000 := by unfold mx; rw [if_pos (by omega)]
    have hq : v / 8 < b - lo k := by unfold lw at hv; omega
    simp only [beq_eq_false_iff_ne, ne_eq]
    unfold ag
    rw [if_neg (by omega), ek, em]
    unfold lo hi at hb
    unfold lo at hq
    by_cases h1 : k = 1
    · rw [if_pos h1]; rw [if_pos h1, if_pos h1] at hb; rw [if_pos h1] at hq; omega
    · rw [if_neg h1]
      rw [if_neg h1, if_neg h1] at hb
      rw [if_neg h1] at hq
      by_cases h2 : k = 2
      · rw [if_pos h2]; rw [if_pos h2] at hb; omega
      · rw [if_neg h2]
        rw [if_neg h2] at hb
        by_cases h5 : k = 5
        · rw [if_pos h5]; rw [if_pos h5] at hb; omega
        · rw [if_neg h5]; rw [if_neg h5] at hb; omega
  · left
    simpa using hk
end Go.Proofs.Ytmkmpphfieckoaa
