/- The script of any config and length; of no dice nothing is made. -/
import Derived.Test.YteibdjbipfimeaaR5
namespace Go.Proofs.Yteibdjbipfimeaa
open Go Go.RowKit
set_option linter.unusedVariables false
set_option linter.unusedSimpArgs false
set_option maxRecDepth 100000

/-- The script of any number of threads, and of any length; and the state behind it. -/
def scrAll (S : Nat) (T n : Int) : List (Int × Int) × Nat := if 1 ≤ T ∧ T ≤ 256 ∧ 0 ≤ n then scr T.toNat n.toNat S else ([], S)
/-- What a script answers, whatever was asked for. -/
def ScrA (w : World) (c : Nat) (R : List (Int × Int) × Nat) (e : Ending) (w' : World) : Prop :=
  ∃ (A : Option Addr) (cp : Nat), e = .returned (.slice A R.1.length cp) ∧ w'.ownsRow w.heap.size 48 2 (.slice A R.1.length cp) R.1.length (flat R.1) ∧ Dc w' c R.2 ∧ But [c] w w'

theorem script_neg (w : World) (c S : Nat) (P T G n : Int) (hT : 1 ≤ T ∧ T ≤ 256) (hn : n < 0) :
    Calls Try.prog 14 #[.pointer (some ⟨c, 0, none⟩), .agg #[.int .i64 P, .int .i64 T, .int .i64 G], .int .i64 n] w fun e w' => e = .returned (.slice none 0 0) ∧ Below w.heap.size w w' := by
  have hB := (Below.refl w.heap.size w).alloc (Nat.le_refl _) (.cells #[.int .i64 P, .int .i64 T, .int .i64 G] 34)
  have h1 : ¬ T < 1 := by omega
  have h2 : ¬ 256 < T := by omega
  go_enter Try.func14, Try.ntmps14
  go_wp2_with fail
  go_loopw [7] (fun v wr => v = .slice none 0 0 ∧ Below w.heap.size w wr) (fun v _ => 0)
  case atStart => exact ⟨rfl, hB⟩
  case round =>
    obtain ⟨rfl, hR⟩ := hrel
    go_wp2_with fail
    go_ret
    exact ⟨rfl, hR⟩
theorem script_all (w : World) (c S : Nat) (P T G n : Int) (hS : S < 18446744073709551616) (hn : n ≤ 300) (h : Dc w c S) :
    Calls Try.prog 14 #[.pointer (some ⟨c, 0, none⟩), .agg #[.int .i64 P, .int .i64 T, .int .i64 G], .int .i64 n] w (ScrA w c (scrAll S T n)) := by
  by_cases hT : 1 ≤ T ∧ T ≤ 256
  · by_cases h0 : 0 ≤ n
    · obtain ⟨t, rfl⟩ : ∃ t : Nat, T = (t : Int) := ⟨T.toNat, by omega⟩
      obtain ⟨m, rfl⟩ : ∃ t : Nat, n = (t : Int) := ⟨n.toNat, by omega⟩
      refine (script_any w c S t m P G hS (by omega) (by omega) (by omega) h).mono ?_
      rintro e w' ⟨A, cp, rfl, hO, hl, hD, hB⟩
      unfold ScrA scrAll
      rw [if_pos ⟨hT.1, hT.2, h0⟩]
      simp only [Int.toNat_natCast, hl]
      exact ⟨A, cp, rfl, hO, hD, hB⟩
    · refine (script_neg w c S P T G n hT (by omega)).mono ?_
      rintro e w' ⟨rfl, hB⟩
      unfold ScrA scrAll
      rw [if_neg (by omega)]
      exact ⟨none, 0, rfl, World.ownsRow_nil _ _ _ _, h.below hB h.lt, But.of_below hB⟩
  · refine (script_wrong w _ P T G n (Or.inr (by omega))).mono ?_
    rintro e w' ⟨rfl, hB⟩
    unfold ScrA scrAll
    rw [if_neg (by omega)]
    exact ⟨none, 0, rfl, World.ownsRow_nil _ _ _ _, h.below hB h.lt, But.of_below hB⟩
theorem config_nil (w : World) (P T G : Int) : Calls Try.prog 12 #[.pointer none, .agg #[.int .i64 P, .int .i64 T, .int .i64 G]] w fun e w' => e = .returned (.tuple #[.agg #[.int .i64 0, .int .i64 0, .int .i64 0], .int .i64 1]) ∧ Below w.heap.size w w' := by
  go_enter Try.func12, Try.ntmps12
  go_wp2_with fail
  exact bodyPost_ret (v := .tuple #[.agg #[.int .i64 0, .int .i64 0, .int .i64 0], .int .i64 1]) (by simp [results, Try.results12, go_sem]) rfl ⟨rfl, (((Below.refl _ _).alloc (Nat.le_refl _) _).alloc (by simp) _)⟩
theorem programs_nil (w : World) (n : Int) : Calls Try.prog 17 #[.pointer none, .int .i64 n] w fun e w' => e = .returned (.slice none 0 0) ∧ w = w' := by
  go_enter Try.func17, Try.ntmps17
  go_wp2_with fail
  go_ret
  exact ⟨rfl, rfl⟩
theorem draws_nil (w : World) (n : Int) : Calls Try.prog 20 #[.pointer none, .int .i64 n] w fun e w' => e = .returned (.slice none 0 0) ∧ w = w' := by
  go_enter Try.func20, Try.ntmps20
  go_wp2_with fail
  go_ret
  exact ⟨rfl, rfl⟩
end Go.Proofs.Yteibdjbipfimeaa
