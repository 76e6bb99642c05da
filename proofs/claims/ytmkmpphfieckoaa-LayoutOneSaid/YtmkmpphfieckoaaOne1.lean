/- The document's words of things, and of no layout. -/
import Derived.Test.YtmkmpphfieckoaaMay
namespace Go.Proofs.Ytmkmpphfieckoaa
open Go Go.RowKit
set_option linter.unusedVariables false
set_option linter.unusedSimpArgs false

theorem proc_nil (n f : Int) (w : World) : Calls Try.prog 21 #[.pointer none, .int .i64 n, .int .i64 f] w fun e w' => e = .returned (.int .i64 (-1)) ∧ Below w.heap.size w w' := by
  have h := proc_any none 0 0 0 n f w (.none rfl rfl rfl) (by omega)
  have e : wd 20 0 8 n f - 0 + (if 0 ≤ n ∧ n < 0 ∧ 0 ≤ f ∧ f < 8 then n * 256 else 0) = -1 := by unfold wd; rw [if_neg (by omega), if_neg (by omega)]; rfl
  rwa [e] at h
theorem ring_nil (n i : Int) (w : World) (hi : 0 ≤ i ∧ i ≤ 18446744073709551615) : Calls Try.prog 22 #[.pointer none, .int .i64 n, .int .u64 i] w fun e w' => e = .returned (.int .i64 (-1)) ∧ Below w.heap.size w w' := by
  have h := ring_any none 0 0 0 n i w (.none rfl rfl rfl) (by omega) hi
  rwa [if_neg (by omega)] at h
theorem thread_nil (n f : Int) (w : World) : Calls Try.prog 23 #[.pointer none, .int .i64 n, .int .i64 f] w fun e w' => e = .returned (.int .i64 (-1)) ∧ Below w.heap.size w w' := by
  have h := thread_any none 0 0 0 n f w (.none rfl rfl rfl) (by omega) (by omega)
  have e : wd (20 + 0 * 264) 0 3 n f = -1 := by unfold wd; rw [if_neg (by omega)]
  rwa [e] at h
theorem g_nil (n f : Int) (w : World) : Calls Try.prog 24 #[.pointer none, .int .i64 n, .int .i64 f] w fun e w' => e = .returned (.int .i64 (-1)) ∧ Below w.heap.size w w' := by
  have h := g_any none 0 0 0 n f w (.none rfl rfl rfl) (by omega) (by omega) (by omega)
  have e : wd (20 + 0 * 264 + 0 * 3) 0 2 n f = -1 := by unfold wd; rw [if_neg (by omega)]
  rwa [e] at h

theorem one_any (n m f k v : Int) (w : World) : Calls Try.prog 28 #[.int .i64 n, .int .i64 m, .int .i64 f, .int .i64 k, .int .i64 v] w fun e w' => e = .returned (.int .i64 (if 0 ≤ n ∧ n < m ∧ 0 ≤ f ∧ f < k then v else -1)) ∧ w = w' := by
  by_cases h : 0 ≤ n ∧ n < m ∧ 0 ≤ f ∧ f < k
  · rw [if_pos h]
    obtain ⟨h1, h2, h3, h4⟩ := h
    go_enter Try.func28, Try.ntmps28
    go_wp2_with fail
    go_ret
    exact ⟨rfl, rfl⟩
  · rw [if_neg h]
    go_enter Try.func28, Try.ntmps28
    go_wp2_with fail
    all_goals first | (exfalso; omega) | (go_ret; exact ⟨rfl, rfl⟩)
theorem refRing_any (n i : Int) (w : World) (hn : 0 ≤ n ∧ n ≤ 70000) (hi : 0 ≤ i ∧ i ≤ 18446744073709551615) : Calls Try.prog 27 #[.int .i64 n, .int .u64 i] w fun e w' => e = .returned (.int .i64 (28 + n * 264 + i % 256)) ∧ w = w' := by
  have hm : i.tmod 256 = i % 256 := Int.tmod_eq_emod_of_nonneg (by omega)
  have hr : 0 ≤ i % 256 ∧ i % 256 < 256 := by omega
  generalize i % 256 = r at *
  go_enter Try.func27, Try.ntmps27
  go_wp2_with fail
  go_ret
  exact ⟨ret_int (by omega), rfl⟩
theorem refProc_any (n f : Int) (w : World) (hn : 0 ≤ n ∧ n ≤ 70000) (hf : 0 ≤ f ∧ f ≤ 70000) : Calls Try.prog 31 #[.int .i64 n, .int .i64 f] w fun e w' => e = .returned (.int .i64 (20 + n * 264 + f)) ∧ w = w' := by
  go_enter Try.func31, Try.ntmps31
  go_wp2_with fail
  go_ret
  exact ⟨ret_int (by omega), rfl⟩
theorem refThread_any (P T G n f : Int) (w : World) (hP : 0 ≤ P ∧ P ≤ 64) (hn : 0 ≤ n ∧ n ≤ 70000) (hf : 0 ≤ f ∧ f ≤ 70000) : Calls Try.prog 32 #[.agg #[.int .i64 P, .int .i64 T, .int .i64 G], .int .i64 n, .int .i64 f] w fun e w' => e = .returned (.int .i64 (20 + P * 264 + n * 3 + f)) ∧ Below w.heap.size w w' := by
  have hb : Below w.heap.size w (w.alloc (.cells #[.int .i64 P, .int .i64 T, .int .i64 G] 23)) := (Below.refl _ _).alloc (Nat.le_refl _) _
  go_enter Try.func32, Try.ntmps32
  go_wp2_with fail
  go_ret
  exact ⟨ret_int (by omega), hb⟩
theorem refG_any (P T G n f : Int) (w : World) (hP : 0 ≤ P ∧ P ≤ 64) (hT : 0 ≤ T ∧ T ≤ 256) (hn : 0 ≤ n ∧ n ≤ 70000) (hf : 0 ≤ f ∧ f ≤ 70000) : Calls Try.prog 33 #[.agg #[.int .i64 P, .int .i64 T, .int .i64 G], .int .i64 n, .int .i64 f] w fun e w' => e = .returned (.int .i64 (20 + P * 264 + T * 3 + n * 2 + f)) ∧ Below w.heap.size w w' := by
  have hb : Below w.heap.size w (w.alloc (.cells #[.int .i64 P, .int .i64 T, .int .i64 G] 23)) := (Below.refl _ _).alloc (Nat.le_refl _) _
  go_enter Try.func33, Try.ntmps33
  go_wp2_with fail
  go_ret
  exact ⟨ret_int (by omega), hb⟩

/-- The config's box. -/
structure Box (w : World) (b : Nat) (P T G : Int) : Prop where
  h : w.heap[b]? = some (.cells #[.int .i64 P, .int .i64 T, .int .i64 G] 23 (0, 0))
theorem Box.below {w w' : World} {b : Nat} {P T G : Int} (h : Box w b P T G) (hb : Below w.heap.size w w') : Box w' b P T G := ⟨(hb.block _ (block_lt h.h)).trans h.h⟩
theorem Box.cells {w : World} {b : Nat} {P T G : Int} (h : Box w b P T G) : w.cell? ⟨b, 0, none⟩ = some (.int .i64 P) ∧ w.cell? ⟨b, 1, none⟩ = some (.int .i64 T) ∧ w.cell? ⟨b, 2, none⟩ = some (.int .i64 G) := by
  refine ⟨?_, ?_, ?_⟩ <;> simp [World.cell?, h.h]
end Go.Proofs.Ytmkmpphfieckoaa
