/- What was answered to a machine that acquires a lock, and how far the reference's routine goes by it. -/
import Derived.Test.YtjbkhnolnlcjnaaRun4
import Derived.Test.YtjbkhnolnlcjnaaLock3
namespace Go.Proofs.Ytjbkhnolnlcjnaa
open Go Go.RowKit
set_option linter.unusedVariables false
set_option maxRecDepth 100000
set_option linter.unusedSimpArgs false

structure AcqGot (m : Nat) (g : Nat → Int) (ph : Nat) (t : Int) : Prop where
  h : (ph = 0 ∧ m = 0 ∧ t = 0) ∨ (ph = 1 ∧ 1 ≤ m ∧ t = turnOf (g 0) ∧ ∀ i, 1 ≤ i → i < m → g i ≠ t) ∨ (ph = 2 ∧ 2 ≤ m ∧ t = turnOf (g 0) ∧ (∀ i, 1 ≤ i → i < m - 1 → g i ≠ t) ∧ g (m - 1) = t) ∨ (ph = 3 ∧ 3 ≤ m ∧ t = turnOf (g 0) ∧ (∀ i, 1 ≤ i → i < m - 2 → g i ≠ t) ∧ g (m - 2) = t)
  bd : 0 < m → 0 ≤ g 0 ∧ g 0 ≤ 4294967295
def rnU (u : Nat) : Rn := ⟨u, false, 0, 0, 0, 0, false⟩
theorem doS_rnU {m u : Nat} (h : u < m) (k i old new : Int) : doS m (rnU u) k i old new = rnU (u + 1) := by simp [doS, rnU, h]
theorem doV_rnU {m u : Nat} (h : u < m) (g : Nat → Int) : doV m g (rnU u) = g u := by simp [doV, rnU, h]
theorem doS_end (m : Nat) (k i old new : Int) : doS m (rnU m) k i old new = ⟨m, true, k, i, old, new, false⟩ := by simp [doS, rnU]
theorem doV_end (m : Nat) (g : Nat → Int) : doV m g (rnU m) = 0 := by simp [doV, rnU]
section
variable {m : Nat} {g : Nat → Int} {lk who t : Int}
theorem acq_miss : ∀ (d u f : Nat), (∀ i, u ≤ i → i < u + d → g i ≠ t) → u + d ≤ m → acqGo m g lk who t (f + d) (rnU u) = acqGo m g lk who t f (rnU (u + d))
  | 0, u, f, _, _ => rfl
  | d + 1, u, f, h, hm => by
    have hlt : u < m := by omega
    rw [show f + (d + 1) = (f + d) + 1 from rfl, acqGo, if_neg (by simp [rnU]), doV_rnU hlt, doS_rnU hlt, if_neg (fun hh => h u (Nat.le_refl _) (by omega) hh.1)]
    rw [acq_miss d (u + 1) f (fun i h1 h2 => h i (by omega) (by omega)) (by omega)]
    congr 2
    omega
theorem acq_end (f : Nat) : acqGo m g lk who t (f + 1) (rnU m) = ⟨m, true, 1, 3 * lk + 1, 0, 0, false⟩ := by
  rw [acqGo, if_neg (by simp [rnU]), doS_end, if_neg (fun h => by cases h.2)]
  cases f <;> simp [acqGo]
theorem acq_hit {u : Nat} (hu : u < m) (hg : g u = t) (f : Nat) : acqGo m g lk who t (f + 1) (rnU u) = doS m (rnU (u + 1)) 2 (3 * lk + 2) 0 (who + 1) := by
  rw [acqGo, if_neg (by simp [rnU]), doS_rnU hu, doV_rnU hu, if_pos ⟨hg, rfl⟩]

def acqRn (lk who : Int) (m ph : Nat) : Rn := if ph = 0 then ⟨0, true, 4, 3 * lk, 0, 1, false⟩ else if ph = 1 then ⟨m, true, 1, 3 * lk + 1, 0, 0, false⟩ else if ph = 2 then ⟨m, true, 2, 3 * lk + 2, 0, who + 1, false⟩ else ⟨m, false, 0, 0, 0, 0, false⟩
theorem AcqGot.run {ph : Nat} (h : AcqGot m g ph t) : acqGo m g lk who (turnOf (doV m g rn0)) (m + 2) (doS m rn0 4 (3 * lk) 0 1) = acqRn lk who m ph := by
  have e0 : rn0 = rnU 0 := rfl
  rcases h.h with ⟨rfl, rfl, rfl⟩ | ⟨rfl, hm, ht, hmiss⟩ | ⟨rfl, hm, ht, hmiss, hlast⟩ | ⟨rfl, hm, ht, hmiss, hlast⟩
  · rw [e0, doS_end, show (0 + 2 : Nat) = 1 + 1 from rfl, acqGo, if_pos rfl]
    rfl
  · rw [e0, doV_rnU (by omega), doS_rnU (by omega), ← ht, show m + 2 = 3 + (m - 1) by omega, acq_miss (m - 1) 1 3 (fun i h1 h2 => hmiss i h1 (by omega)) (by omega), show 1 + (m - 1) = m by omega, acq_end]
    rfl
  · rw [e0, doV_rnU (by omega), doS_rnU (by omega), ← ht, show m + 2 = 4 + (m - 2) by omega, acq_miss (m - 2) 1 4 (fun i h1 h2 => hmiss i h1 (by omega)) (by omega), acq_hit (by omega) (by rw [show 1 + (m - 2) = m - 1 by omega]; exact hlast), show 1 + (m - 2) + 1 = m by omega, doS_end]
    rfl
  · rw [e0, doV_rnU (by omega), doS_rnU (by omega), ← ht, show m + 2 = 5 + (m - 3) by omega, acq_miss (m - 3) 1 5 (fun i h1 h2 => hmiss i h1 (by omega)) (by omega), acq_hit (by omega) (by rw [show 1 + (m - 3) = m - 2 by omega]; exact hlast), show 1 + (m - 3) + 1 = m - 1 by omega, doS_rnU (by omega), show m - 1 + 1 = m by omega]
    rfl
theorem AcqGot.turn {ph : Nat} (h : AcqGot m g ph t) (hp : ph ≠ 0) : turnOf (doV m g rn0) = t := by
  have e0 : rn0 = rnU 0 := rfl
  rcases h.h with ⟨rfl, rfl, rfl⟩ | ⟨rfl, hm, ht, hmiss⟩ | ⟨rfl, hm, ht, hmiss, hlast⟩ | ⟨rfl, hm, ht, hmiss, hlast⟩
  · exact absurd rfl hp
  all_goals rw [e0, doV_rnU (by omega)]; exact ht.symm
theorem AcqGot.low {ph : Nat} (h : AcqGot m g ph t) : 0 ≤ doV m g rn0 ∧ doV m g rn0 ≤ 4294967295 := by
  by_cases hm : 0 < m
  · rw [show rn0 = rnU 0 from rfl, doV_rnU hm]; exact h.bd hm
  · obtain rfl : m = 0 := by omega
    rw [show rn0 = rnU 0 from rfl, doV_end]; omega
theorem gsnoc_lt {a : Int} {i : Nat} (h : i < m) : gsnoc g m a i = g i := by simp [gsnoc]; omega
theorem gsnoc_at {a : Int} : gsnoc g m a m = a := by simp [gsnoc]
theorem AcqGot.snoc0 {n : Nat} {s : St} {tk sv : Int} (h : AcqGot m g 0 t) : AcqGot (m + 1) (gsnoc g m (ans 4 tk 0 1 n s)) (acqP tk sv n 0 t s) (acqT tk n 0 t s) := by
  have hm : m = 0 := by rcases h.h with h | h | h | h <;> omega
  subst hm
  refine ⟨.inr (.inl ⟨rfl, by omega, ?_, fun i h1 h2 => by omega⟩), fun _ => ?_⟩
  · rw [gsnoc_at]; rfl
  · rw [gsnoc_at]; exact ans_add_bd _ _ _ _
theorem AcqGot.snoc1 {n : Nat} {s : St} {tk sv : Int} (h : AcqGot m g 1 t) : AcqGot (m + 1) (gsnoc g m (ans 1 sv 0 0 n s)) (acqP tk sv n 1 t s) (acqT tk n 1 t s) := by
  obtain ⟨hm, ht, hmiss⟩ : 1 ≤ m ∧ t = turnOf (g 0) ∧ ∀ i, 1 ≤ i → i < m → g i ≠ t := by
    rcases h.h with ⟨h, _⟩ | ⟨_, h⟩ | ⟨h, _⟩ | ⟨h, _⟩
    · omega
    · exact h
    · omega
    · omega
  have hb := h.bd (by omega)
  have g0 : gsnoc g m (ans 1 sv 0 0 n s) 0 = g 0 := gsnoc_lt (by omega)
  by_cases he : ans 1 sv 0 0 n s = t
  · rw [show acqP tk sv n 1 t s = 2 by simp [acqP, he], show acqT tk n 1 t s = t from rfl]
    refine ⟨.inr (.inr (.inl ⟨rfl, by omega, by rw [g0]; exact ht, fun i h1 h2 => ?_, ?_⟩)), fun _ => by rw [g0]; exact hb⟩
    · rw [gsnoc_lt (by omega)]; exact hmiss i h1 (by omega)
    · rw [show m + 1 - 1 = m by omega, gsnoc_at]; exact he
  · rw [show acqP tk sv n 1 t s = 1 by simp [acqP, he], show acqT tk n 1 t s = t from rfl]
    refine ⟨.inr (.inl ⟨rfl, by omega, by rw [g0]; exact ht, fun i h1 h2 => ?_⟩), fun _ => by rw [g0]; exact hb⟩
    by_cases hi : i = m
    · rw [hi, gsnoc_at]; exact he
    · rw [gsnoc_lt (by omega)]; exact hmiss i h1 (by omega)
theorem AcqGot.snoc2 {n : Nat} {s : St} {tk sv : Int} (h : AcqGot m g 2 t) : AcqGot (m + 1) (gsnoc g m 0) (acqP tk sv n 2 t s) (acqT tk n 2 t s) := by
  obtain ⟨hm, ht, hmiss, hlast⟩ : 2 ≤ m ∧ t = turnOf (g 0) ∧ (∀ i, 1 ≤ i → i < m - 1 → g i ≠ t) ∧ g (m - 1) = t := by
    rcases h.h with ⟨h, _⟩ | ⟨h, _⟩ | ⟨_, h⟩ | ⟨h, _⟩
    · omega
    · omega
    · exact h
    · omega
  have hb := h.bd (by omega)
  have g0 : gsnoc g m 0 0 = g 0 := gsnoc_lt (by omega)
  rw [show acqP tk sv n 2 t s = 3 from rfl, show acqT tk n 2 t s = t from rfl]
  refine ⟨.inr (.inr (.inr ⟨rfl, by omega, by rw [g0]; exact ht, fun i h1 h2 => ?_, ?_⟩)), fun _ => by rw [g0]; exact hb⟩
  · rw [gsnoc_lt (by omega)]; exact hmiss i h1 (by omega)
  · rw [show m + 1 - 2 = m - 1 by omega, gsnoc_lt (by omega)]; exact hlast
end
end Go.Proofs.Ytjbkhnolnlcjnaa
