/- The contracts of word.Read, word.Right, word.Write and of the reference's Read and Right. -/
import Derived.Test.YtlpfleefbngdaaaDoorWalks2
import Derived.Deep.RegionHeld3
namespace Go.Proofs.YtlpfleefbngdaaaDoor
open Go Go.RowKit
set_option linter.unusedSimpArgs false
set_option linter.unusedVariables false

theorem kinds_of (x : Int) (h0 : 0 ≤ x) : x % 8 = 0 ∨ x % 8 = 1 ∨ x % 8 = 2 ∨ x % 8 = 3 ∨ x % 8 = 4 ∨ x % 8 = 5 ∨ x % 8 = 6 ∨ x % 8 = 7 := by omega

theorem read_any (x t : Int) (w : World) (hT : Tab w) (x0 : 0 ≤ x) (x1 : x ≤ 18446744073709551615) :
    Calls Tryd.prog 10 #[.int .u64 x, .int .i64 t] w fun e w' => e = .returned (entV x t) ∧ Below w.heap.size w w' := by
  unfold entV kindV whoV
  rcases kinds_of x x0 with h | h | h | h | h | h | h | h
  · rw [h]; exact read_0 x t w hT x0 x1 h
  · rw [h]; exact read_1 x t w hT x0 x1 h
  · rw [h]; exact read_2 x t w hT x0 x1 h
  · rw [h]; exact read_3 x t w hT x0 x1 h
  · rw [h]; exact read_4 x t w hT x0 x1 h
  · rw [h]; exact read_5 x t w hT x0 x1 h
  · rw [h]; exact read_6 x t w hT x0 x1 h
  · rw [h]; exact read_7 x t w hT x0 x1 h

theorem box2 (w : World) (a b : Value) (t : TypeId) : Below w.heap.size w (w.alloc (.cells #[a, b] t)) := (Below.refl _ _).alloc (Nat.le_refl _) _

theorem ent_eq (x t k o : Int) (hk : kindV x = k) (ho : whoV x t = o) : entV x t = .agg #[.int .i64 k, .int .i64 o] := by unfold entV; rw [hk, ho]

theorem refRead_any (x t : Int) (w : World) (x0 : 0 ≤ x) (x1 : x ≤ 18446744073709551615) :
    Calls Tryd.prog 11 #[.int .u64 x, .int .i64 t] w fun e w' => e = .returned (entV x t) ∧ Below w.heap.size w w' := by
  have hr := rem_conv (x / 8) t
  have ht := thr_bd t
  by_cases h4 : x % 8 < 4
  · rw [ent_eq x t 1 (x / 8 % thr t) (by unfold kindV; rw [if_pos h4]) (by unfold whoV; rw [if_pos (Or.inl h4)])]
    go_enter Tryd.func11, Tryd.ntmps11
    go_wp2_with (go_at_call 19; refine (threads_any _ _).mono ?_; rintro e w' ⟨rfl, rfl⟩)
    go_returns
    exact ⟨rfl, by go_grown⟩
  by_cases h5 : x % 8 = 5
  · rw [ent_eq x t 3 0 (by unfold kindV; rw [if_neg h4, if_pos h5]) (by unfold whoV; rw [if_neg (by omega)])]
    have H4 : ¬ x % 8 < 4 := h4
    go_enter Tryd.func11, Tryd.ntmps11
    go_wp2_with (go_at_call 19; refine (threads_any _ _).mono ?_; rintro e w' ⟨rfl, rfl⟩)
    go_returns
    exact ⟨rfl, by go_grown⟩
  by_cases h6 : x % 8 = 6
  · rw [ent_eq x t 4 (x / 8 % thr t) (by unfold kindV; rw [if_neg h4, if_neg h5, if_pos h6]) (by unfold whoV; rw [if_pos (Or.inr h6)])]
    go_enter Tryd.func11, Tryd.ntmps11
    go_wp2_with (go_at_call 19; refine (threads_any _ _).mono ?_; rintro e w' ⟨rfl, rfl⟩)
    go_returns
    exact ⟨rfl, by go_grown⟩
  · rw [ent_eq x t 2 0 (by unfold kindV; rw [if_neg h4, if_neg h5, if_neg h6]) (by unfold whoV; rw [if_neg (by omega)])]
    go_enter Tryd.func11, Tryd.ntmps11
    go_wp2_with (go_at_call 19; refine (threads_any _ _).mono ?_; rintro e w' ⟨rfl, rfl⟩)
    go_returns
    exact ⟨rfl, by go_grown⟩

theorem read_17 (w : World) (hT : Tab w) : Calls Tryd.prog 10 #[.int .u64 17, .int .i64 9] w fun e w' => e = .returned (.agg #[.int .i64 1, .int .i64 2]) ∧ Below w.heap.size w w' := read_any 17 9 w hT (by decide) (by decide)
theorem read_22 (w : World) (hT : Tab w) : Calls Tryd.prog 10 #[.int .u64 22, .int .i64 9] w fun e w' => e = .returned (.agg #[.int .i64 4, .int .i64 2]) ∧ Below w.heap.size w w' := read_any 22 9 w hT (by decide) (by decide)
theorem read_05 (w : World) (hT : Tab w) : Calls Tryd.prog 10 #[.int .u64 5, .int .i64 9] w fun e w' => e = .returned (.agg #[.int .i64 3, .int .i64 0]) ∧ Below w.heap.size w w' := read_any 5 9 w hT (by decide) (by decide)

theorem awake_any (w : World) (hT : Tab w) : Calls Tryd.prog 7 #[] w fun e w' => e = .returned (.bool true) ∧ Below w.heap.size w w' := by
  have hsz := hT.size
  go_enter Tryd.func7, Tryd.ntmps7
  go_wp2_with fail
  go_at_call 10; refine (read_17 _ hT).mono ?_; rintro e w1 ⟨rfl, hb1⟩
  have hT1 := hT.below hb1 hsz
  go_wp2_with fail
  go_at_call 10; refine (read_22 _ hT1).mono ?_; rintro e w2 ⟨rfl, hb2⟩
  have hb2' := hb1.trans (hb2.mono hb1.size)
  have hT2 := hT.below hb2' hsz
  go_wp2_with fail
  go_at_call 10; refine (read_05 _ hT2).mono ?_; rintro e w3 ⟨rfl, hb3⟩
  have hb3' := hb2'.trans (hb3.mono hb2'.size)
  go_wp2_with fail
  go_ret
  exact ⟨rfl, hb3'⟩

theorem wordBits_walk (x f n : Int) (w : World) (hT : Tab w) (x0 : 0 ≤ x) (x1 : x ≤ 18446744073709551615) :
    Calls Tryd.prog 3 #[.int .u64 x, .int .i64 f, .int .i64 n] w fun e w' => e = .returned (.bool true) ∧ Below w.heap.size w w' := by
  go_enter Tryd.func3, Tryd.ntmps3
  go_wp2_with fail
  go_at_call 7; refine (awake_any _ hT).mono ?_; rintro e w1 ⟨rfl, hb1⟩
  go_wp2_with fail
  go_at_call 8; refine (bits_any _ _ _ _ x0 x1).mono ?_; rintro e w2 ⟨rfl, k, rfl⟩
  go_wp2_with fail
  go_at_call 9; refine (refBits_any _ _ _ _ x0 x1).mono ?_; rintro e w3 ⟨rfl, rfl⟩
  go_wp2_with fail
  go_ret
  exact ⟨rfl, Below.drewN' hb1 _⟩

end Go.Proofs.YtlpfleefbngdaaaDoor
