/- A thread that rests while somebody is needed: the pure run, for every config. -/
import Derived.Test.YthbgoakaijeemaaGreatRA
namespace Go.Proofs.YthbgoakaijeemaaGreat
open Go Go.RowKit
set_option linter.unusedVariables false
set_option maxRecDepth 100000
set_option linter.unusedSimpArgs false

def ndA (i : Nat) : Int := if i = 0 then 9 else if i = 1 then 10 else if i = 2 then 14 else 19
def ndV (p : Int) (i : Nat) : Int := if i = 0 then p + 1 else if i = 1 then 1 else if i = 2 then 1 else if p = 0 then 1 else if p = 1 then 2 else if p = 2 then 4 else 8
def ndN (P T : Int) : Nat := (20 + 264 * P + 3 * T + 2).toNat
def ndS (P T p : Int) : St := fresh (putF ndA (ndV p) (ndN P T) 4)
def ndEnd (P T t p : Int) (x : ReT × St) : Bool := ((rePM P T t).ax x.1).isNone && decide (x.1.p = p) && x.1.spins && decide (peekT (ndN P T) x.2 13 = 1) && decide (peekT (ndN P T) x.2 14 = 0) && decide (peekT (ndN P T) x.2 (wd 20 P 264 p 0) = 1)
def ndRun (P T t p : Int) : Nat → ReT × St → Bool
  | 0, x => ndEnd P T t p x
  | k + 1, x => let y := ((rePM P T t).goT (ndN P T) x.1 x.2, (rePM P T t).goS t (ndN P T) x.1 x.2); (!(rePM P T t).aslp (ndN P T) y.1 y.2) && ndRun P T t p k y
theorem nd_tab : ((List.range 5).all fun P => (List.range 9).all fun T => (List.range 8).all fun t => (List.range 4).all fun p => !(decide (1 ≤ P) && decide (P ≤ T) && decide (p < P) && decide (t < T)) || ndRun (P : Int) (T : Int) (t : Int) (p : Int) 20 (.acq .fresh, ndS (P : Int) (T : Int) (p : Int))) = true := by decide +kernel
theorem nd_nat (P T t p : Nat) (hP : P < 5) (hT : T < 9) (ht : t < 8) (hp : p < 4) (h : 1 ≤ P ∧ P ≤ T ∧ p < P ∧ t < T) : ndRun (P : Int) (T : Int) (t : Int) (p : Int) 20 (.acq .fresh, ndS (P : Int) (T : Int) (p : Int)) = true := by
  have h1 := List.all_eq_true.1 nd_tab P (List.mem_range.2 hP)
  have h2 := List.all_eq_true.1 h1 T (List.mem_range.2 hT)
  have h3 := List.all_eq_true.1 h2 t (List.mem_range.2 ht)
  have h4 := List.all_eq_true.1 h3 p (List.mem_range.2 hp)
  rw [decide_eq_true h.1, decide_eq_true h.2.1, decide_eq_true h.2.2.1, decide_eq_true h.2.2.2] at h4
  exact h4
theorem nd_all (P T t p : Int) (hP : 1 ≤ P ∧ P ≤ 4) (hT : P ≤ T ∧ T ≤ 8) (hp : 0 ≤ p ∧ p < P) (ht : 0 ≤ t ∧ t < T) : ndRun P T t p 20 (.acq .fresh, ndS P T p) = true := by
  have h := nd_nat P.toNat T.toNat t.toNat p.toNat (by omega) (by omega) (by omega) (by omega) (by omega)
  rw [Int.toNat_of_nonneg (by omega : 0 ≤ P), Int.toNat_of_nonneg (by omega : 0 ≤ T), Int.toNat_of_nonneg (by omega : 0 ≤ t), Int.toNat_of_nonneg (by omega : 0 ≤ p)] at h
  exact h
theorem nd_step {P T t p : Int} : ∀ (k q : Nat) (x : ReT × St), ndRun P T t p (k + q) x = true → (∀ j, j < q → (rePM P T t).aslp (ndN P T) ((rePM P T t).steps t (ndN P T) (j + 1) x).1 ((rePM P T t).steps t (ndN P T) (j + 1) x).2 = false) ∧ ndRun P T t p k ((rePM P T t).steps t (ndN P T) q x) = true
  | k, 0, x, h => ⟨fun j hj => absurd hj (by omega), h⟩
  | k, q + 1, x, h => by
    rw [show k + (q + 1) = (k + q) + 1 by omega] at h
    unfold ndRun at h
    simp only [Bool.and_eq_true, Bool.not_eq_true'] at h
    obtain ⟨h1, h2⟩ := nd_step k q _ h.2
    refine ⟨fun j hj => ?_, h2⟩
    cases j with
    | zero => exact h.1
    | succ j => exact h1 j (by omega)
theorem nd_aslp {P T t p : Int} (h : ndRun P T t p 20 (.acq .fresh, ndS P T p) = true) (j : Nat) (hj : j < 20) : (rePM P T t).aslp (ndN P T) ((rePM P T t).steps t (ndN P T) (j + 1) (.acq .fresh, ndS P T p)).1 ((rePM P T t).steps t (ndN P T) (j + 1) (.acq .fresh, ndS P T p)).2 = false :=
  (nd_step 0 20 _ h).1 j hj
theorem nd_end {P T t p : Int} {n : Nat} {x : ReT × St} (hx : (rePM P T t).steps t n 20 (.acq .fresh, ndS P T p) = x) (hn : ndN P T = n) (h : ndRun P T t p 20 (.acq .fresh, ndS P T p) = true) :
    ((rePM P T t).ax x.1).isNone = true ∧ x.1.p = p ∧ x.1.spins = true ∧ peekT n x.2 13 = 1 ∧ peekT n x.2 14 = 0 ∧ peekT n x.2 (wd 20 P 264 p 0) = 1 := by
  have h2 := (nd_step 0 20 _ h).2
  rw [hn, hx] at h2
  unfold ndRun ndEnd at h2
  rw [hn] at h2
  simp only [Bool.and_eq_true, decide_eq_true_eq] at h2
  obtain ⟨⟨⟨⟨⟨a, b⟩, c⟩, d⟩, e⟩, f⟩ := h2
  exact ⟨a, b, c, d, e, f⟩
end Go.Proofs.YthbgoakaijeemaaGreat
