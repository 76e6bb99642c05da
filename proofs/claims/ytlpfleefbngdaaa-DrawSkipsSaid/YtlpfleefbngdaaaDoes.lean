/- The contracts of the reference's cursor and of the law's helper 'does'. -/
import Derived.Test.YtlpfleefbngdaaaAwake
import Derived.BigRegion
import Derived.RegionCalls
import Derived.Deep.RegionHeld3
namespace Go.Proofs.Ytlpfleefbngdaaa
open Go Go.RowKit
set_option linter.unusedVariables false
set_option linter.unusedSimpArgs false

theorem box2 (w : World) (a b : Value) (t : TypeId) : Below w.heap.size w (w.alloc (.cells #[a, b] t)) := (Below.refl _ _).alloc (Nat.le_refl _) _

theorem refLeft_any (A : Option Addr) (n cap T : Nat) (w : World) (hn : n ≤ 1000000) (hT : T ≤ 1000000) :
    Calls Try.prog 10 #[.agg #[.slice A n cap, .int .i64 T]] w fun e w' => e = .returned (.int .i64 ((n - T : Nat) : Int)) ∧ Below w.heap.size w w' := by
  by_cases h : T ≤ n
  · have e : ((n - T : Nat) : Int) = (n : Int) - T := by omega
    rw [e]
    by_cases h1 : (n : Int) - T < 0
    · exfalso; omega
    · go_enter Try.func10, Try.ntmps10
      go_wp2_with fail
      all_goals (go_ret; exact ⟨ret_int (by first | rfl | omega | simp), box2 _ _ _ _⟩)
  · have e : ((n - T : Nat) : Int) = 0 := by omega
    rw [e]
    go_enter Try.func10, Try.ntmps10
    go_wp2_with fail
    all_goals (go_ret; exact ⟨ret_int (by first | rfl | omega | simp), box2 _ _ _ _⟩)

theorem refPeek_out (A : Option Addr) (n cap T : Nat) (i : Int) (w : World) (hn : n ≤ 1000000) (hT : T ≤ 1000000) (hi : i < 0 ∨ (0 ≤ i ∧ (n : Int) ≤ i) ∨ (0 ≤ i ∧ i < n ∧ (n : Int) - i ≤ T)) :
    Calls Try.prog 17 #[.agg #[.slice A n cap, .int .i64 T], .int .i64 i] w fun e w' => e = .returned (.int .u64 0) ∧ Below w.heap.size w w' := by
  rcases hi with hi | ⟨hi1, hi2⟩ | ⟨hi1, hi2, hi3⟩
  all_goals
    go_enter Try.func17, Try.ntmps17
    go_wp2_with fail
    go_ret
    exact ⟨rfl, box2 _ _ _ _⟩

theorem refPeek_in (b off n cap T i : Nat) (x : Int) (w : World) (hn : n ≤ 1000000) (hi : T + i < n) (hb : b < w.heap.size) (hc : w.cell? ⟨b, off + (T + i), none⟩ = some (.int .u64 x)) :
    Calls Try.prog 17 #[.agg #[.slice (some ⟨b, off, none⟩) n cap, .int .i64 T], .int .i64 i] w fun e w' => e = .returned (.int .u64 x) ∧ Below w.heap.size w w' := by
  have h1 : ¬ (n : Int) ≤ i := by omega
  have h2 : ¬ (n : Int) - i ≤ T := by omega
  have h3 : (w.alloc (.cells #[.slice (some ⟨b, off, none⟩) n cap, .int .i64 T] 28)).cell? ⟨b, off + (T + i), none⟩ = some (.int .u64 x) := (World.cell?_alloc_lt w _ _ hb).trans hc
  go_enter Try.func17, Try.ntmps17
  go_wp2_with fail
  go_ret
  exact ⟨rfl, box2 _ _ _ _⟩

theorem refPeek_any (A : Option Addr) (n cap T : Nat) (i : Int) (f : Nat → Int) (w : World) (hn : n ≤ 1000000) (hT : T ≤ 1000000) (hs : SeesU w w.heap.size A n f) :
    Calls Try.prog 17 #[.agg #[.slice A n cap, .int .i64 T], .int .i64 i] w fun e w' => e = .returned (.int .u64 (peekV f n T i)) ∧ Below w.heap.size w w' := by
  by_cases hi : 0 ≤ i ∧ (T : Int) + i < n
  · obtain ⟨k, rfl⟩ : ∃ k : Nat, i = (k : Int) := ⟨i.toNat, by omega⟩
    have hk : T + k < n := by omega
    have hpos : 0 < n := by omega
    have e : peekV f n T k = f (T + k) := by unfold peekV; rw [if_neg (by omega), if_pos (by omega)]; simp
    obtain ⟨b, off, rfl, hb, hc⟩ := hs hpos
    rw [e]
    exact refPeek_in b off n cap T k _ w hn hk hb (hc _ hk)
  · have e : peekV f n T i = 0 := by
      unfold peekV
      by_cases h0 : i < 0
      · rw [if_pos h0]
      · rw [if_neg h0, if_neg (by omega)]
    rw [e]
    exact refPeek_out A n cap T i w hn hT (by omega)

end Go.Proofs.Ytlpfleefbngdaaa
