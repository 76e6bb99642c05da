/- The walk of the law CellAdds. -/
import Derived.Test.YtmjonifiohcobaaDoes
namespace Go.Proofs.Ytmjonifiohcobaa
open Go Go.RowKit
set_option linter.unusedVariables false
set_option linter.unusedSimpArgs false

theorem cellAdds_many (first : Int) (A : Option Addr) (n cap : Nat) (t : Int) (w : World) (hn : n ≤ 9223372036854775807) (h : 100 < n) :
    Calls Try.prog 6 #[.int .u64 first, .slice A n cap, .int .u8 t] w fun e w' => e = .returned (.bool true) ∧ Below w.heap.size w w' := by
  go_enter Try.func6, Try.ntmps6
  go_wp2_with fail
  go_at_call 10; refine (awake_any _).mono ?_; rintro e w1 ⟨rfl, hb1⟩
  go_wp2_with fail
  go_ret
  exact ⟨rfl, hb1⟩

/-- The sum of the first k words that p tells. -/
def total (p : Nat → Int) : Nat → Int
  | 0 => 0
  | k + 1 => total p k + p k
theorem total_congr {p q : Nat → Int} : ∀ k, (∀ i, i < k → p i = q i) → total p k = total q k
  | 0, _ => rfl
  | k + 1, h => by
    show total p k + p k = total q k + q k
    rw [total_congr k (fun i hi => h i (by omega)), h k (by omega)]
theorem total_split (p : Nat → Int) (a : Nat) : ∀ b, total p (a + b) = total p a + total (fun i => p (a + i)) b
  | 0 => by show total p a = total p a + 0; omega
  | b + 1 => by
    show total p (a + b) + p (a + b) = total p a + (total (fun i => p (a + i)) b + p (a + b))
    rw [total_split p a b]
    omega
/-- Turned round, a list has the same sum. -/
theorem total_turn (g : Nat → Int) (n t : Nat) (hn : 0 < n) : total (fun i => g ((i + t) % n)) n = total g n := by
  have h1 : ∀ i, g ((i + t) % n) = g ((i + t % n) % n) := fun i => by rw [Nat.add_mod i t n, Nat.add_mod i (t % n) n, Nat.mod_mod]
  rw [total_congr n (fun i _ => h1 i)]
  have hr : t % n < n := Nat.mod_lt _ hn
  generalize t % n = r at hr
  have e1 : n = (n - r) + r := by omega
  have e2 : n = r + (n - r) := by omega
  have hA : total (fun i => g ((i + r) % n)) n = total (fun i => g ((i + r) % n)) (n - r) + total (fun i => g (((n - r + i) + r) % n)) r := by
    conv => lhs; rw [show total (fun i => g ((i + r) % n)) n = total (fun i => g ((i + r) % n)) ((n - r) + r) by rw [← e1]]
    exact total_split _ _ _
  have hB : total g n = total g r + total (fun i => g (r + i)) (n - r) := by
    conv => lhs; rw [e2]
    exact total_split _ _ _
  rw [hA, hB, total_congr (n - r) (q := fun i => g (r + i)) (fun i hi => by rw [Nat.mod_eq_of_lt (by omega), Nat.add_comm]), total_congr r (q := g) (fun i hi => by
    rw [show n - r + i + r = i + n by omega, Nat.add_mod_right, Nat.mod_eq_of_lt (by omega)])]
  omega

/-- The word behind k adds. -/
def addV (first : Int) (p : Nat → Int) (k : Nat) : Int := if k = 0 then first else (first + total p k) % 4294967296
theorem addV_next (first : Int) (p : Nat → Int) (k : Nat) : (addV first p k + p k) % 4294967296 = addV first p (k + 1) := by
  unfold addV
  rw [if_neg (Nat.succ_ne_zero k)]
  show _ = (first + (total p k + p k)) % 4294967296
  by_cases h : k = 0
  · subst h
    rw [if_pos rfl]
    show _ = (first + (0 + p 0)) % 4294967296
    rw [Int.zero_add]
  · rw [if_neg h]
    omega
theorem add_step {s : St} {x : Int} (h : s.f 0 = x) (who new : Int) : (stp 4 who 0 0 new 1 s).f 0 = (x + new) % 4294967296 := by
  unfold stp
  rw [if_pos ⟨by decide, by decide⟩]
  simp [upd, h]
theorem total_bd (p : Nat → Int) (n : Nat) (hp : ∀ i, i < n → 0 ≤ p i ∧ p i ≤ 18446744073709551615) : ∀ k, k ≤ n → 0 ≤ total p k ∧ total p k ≤ 18446744073709551615 * k
  | 0, _ => ⟨Int.le_refl _, by show (0 : Int) ≤ _; omega⟩
  | k + 1, hk => by
    have := total_bd p n hp k (by omega)
    have := hp k (by omega)
    show 0 ≤ total p k + p k ∧ total p k + p k ≤ 18446744073709551615 * ((k + 1 : Nat) : Int)
    omega
end Go.Proofs.Ytmjonifiohcobaa
