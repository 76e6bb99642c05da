/- An order has each number once: the counting. -/
import Derived.Test.YtmjonifiohcobaaMany
namespace Go.Proofs.Ytmjonifiohcobaa
open Go Go.RowKit
set_option linter.unusedVariables false
set_option linter.unusedSimpArgs false

theorem ordK_mul {st step n : Nat} (h : st < n) : ∀ i, ordK st step n i = (st + i * step) % n
  | 0 => by show st = (st + 0 * step) % n; rw [Nat.zero_mul, Nat.add_zero, Nat.mod_eq_of_lt h]
  | i + 1 => by
    show (ordK st step n i + step) % n = _
    rw [ordK_mul h i, Nat.mod_add_mod, Nat.add_mul, Nat.one_mul, Nat.add_assoc]
theorem ordK_inj {st step n : Nat} (h : st < n) (hg : Nat.gcd step n = 1) {i j : Nat} (hi : i < n) (hj : j < n) (he : ordK st step n i = ordK st step n j) : i = j := by
  rw [ordK_mul h, ordK_mul h] at he
  have key : ∀ a b : Nat, a ≤ b → b < n → (st + a * step) % n = (st + b * step) % n → a = b := by
    intro a b hab hb e
    have hd : n ∣ (b - a) * step := by
      have h1 : (st + b * step) - (st + a * step) = (b - a) * step := by rw [Nat.sub_mul]; omega
      rw [← h1]
      exact Nat.dvd_of_mod_eq_zero (Nat.sub_mod_eq_zero_of_mod_eq e.symm)
    have hc : Nat.Coprime n step := by rw [Nat.coprime_comm]; exact hg
    have := hc.dvd_of_dvd_mul_right hd
    have hz : b - a = 0 := Nat.eq_zero_of_dvd_of_lt this (by omega)
    omega
  rcases Nat.le_total i j with h1 | h1
  · exact key i j h1 hj he
  · exact (key j i h1 hi he.symm).symm

/-- How often x comes among the first k numbers of p. -/
def cnt (p : Nat → Nat) (x : Nat) : Nat → Nat
  | 0 => 0
  | k + 1 => cnt p x k + (if p k = x then 1 else 0)
theorem cnt_le {p : Nat → Nat} {n x : Nat} (hp : ∀ i j, i < n → j < n → p i = p j → i = j) : ∀ k, k ≤ n → cnt p x k ≤ 1 ∧ (1 ≤ cnt p x k → ∃ i, i < k ∧ p i = x)
  | 0, _ => ⟨by simp [cnt], fun h => by simp [cnt] at h⟩
  | k + 1, hk => by
    obtain ⟨h1, h2⟩ := cnt_le hp k (by omega)
    by_cases he : p k = x
    · have h0 : cnt p x k = 0 := by
        by_cases h : 1 ≤ cnt p x k
        · obtain ⟨i, hi, hx⟩ := h2 h
          have := hp i k (by omega) (by omega) (hx.trans he.symm)
          omega
        · omega
      exact ⟨by simp [cnt, he, h0], fun _ => ⟨k, by omega, he⟩⟩
    · refine ⟨by simp [cnt, he]; exact h1, fun h => ?_⟩
      simp [cnt, he] at h
      obtain ⟨i, hi, hx⟩ := h2 h
      exact ⟨i, by omega, hx⟩
/-- The sum of all counts is how many were counted. -/
def cntAll (p : Nat → Nat) (k : Nat) : Nat → Nat
  | 0 => 0
  | x + 1 => cntAll p k x + cnt p x k
theorem cntAll_zero (p : Nat → Nat) : ∀ m, cntAll p 0 m = 0
  | 0 => rfl
  | m + 1 => by simp [cntAll, cntAll_zero p m, cnt]
theorem cntAll_succ (p : Nat → Nat) (k : Nat) : ∀ m, cntAll p (k + 1) m = cntAll p k m + (if p k < m then 1 else 0)
  | 0 => by simp [cntAll]
  | m + 1 => by
    simp only [cntAll, cntAll_succ p k m, cnt]
    by_cases h : p k = m
    · simp [h]; omega
    · by_cases h2 : p k < m
      · simp [h, h2, show p k < m + 1 by omega]; omega
      · simp [h, h2, show ¬ p k < m + 1 by omega]
theorem cntAll_full (p : Nat → Nat) (n : Nat) (hp : ∀ i, i < n → p i < n) : ∀ k, k ≤ n → cntAll p k n = k
  | 0, _ => cntAll_zero p n
  | k + 1, hk => by rw [cntAll_succ, cntAll_full p n hp k (by omega), if_pos (hp k (by omega))]
theorem cntAll_le {p : Nat → Nat} {k : Nat} (h : ∀ x, cnt p x k ≤ 1) : ∀ m, cntAll p k m ≤ m ∧ (cntAll p k m = m → ∀ x, x < m → cnt p x k = 1)
  | 0 => ⟨Nat.le_refl _, fun _ x hx => absurd hx (Nat.not_lt_zero x)⟩
  | m + 1 => by
    obtain ⟨h1, h2⟩ := cntAll_le h m
    have hm := h m
    refine ⟨by simp only [cntAll]; omega, fun e x hx => ?_⟩
    simp only [cntAll] at e
    by_cases hxm : x = m
    · subst hxm; omega
    · exact h2 (by omega) x (by omega)
/-- **Each number comes once.** -/
theorem once {p : Nat → Nat} {n : Nat} (hp : ∀ i, i < n → p i < n) (hi : ∀ i j, i < n → j < n → p i = p j → i = j) : ∀ x, x < n → cnt p x n = 1 :=
  (cntAll_le (fun x => (cnt_le (x := x) hi n (Nat.le_refl _)).1) n).2 (cntAll_full p n hp n (Nat.le_refl _))
end Go.Proofs.Ytmjonifiohcobaa
