/- The page's example of package code. -/
import Derived.Test.YtmkmpphfieckoaaMeth2
import Derived.Test.YtmkmpphfieckoaaRead2
namespace Go.Proofs.Ytmkmpphfieckoaa
open Go Go.RowKit
set_option linter.unusedVariables false
set_option linter.unusedSimpArgs false

def ex : Nat → Int
  | 0 => 25
  | 1 => 0
  | 2 => 7
  | 3 => 18
  | _ => 0
theorem ex_segs : segs ex 4 = [(0, 2), (3, 1)] := by decide
set_option maxHeartbeats 1000000 in
theorem awakeC_any (w : World) : Calls Try.prog 34 #[] w fun e w' => e = .returned (.bool true) ∧ Below w.heap.size w w' := by
  have heq := eq_instr
  have hfk := field_k
  have hb0 : Below w.heap.size w (w.alloc (.cells #[.int .u64 25, .int .u64 0, .int .u64 7, .int .u64 18] 41)) := (Below.refl _ _).alloc (Nat.le_refl _) _
  have hh := heap_alloc_new w (.cells #[.int .u64 25, .int .u64 0, .int .u64 7, .int .u64 18] 41)
  have hS : SeesU (w.alloc (.cells #[.int .u64 25, .int .u64 0, .int .u64 7, .int .u64 18] 41)) (w.alloc (.cells #[.int .u64 25, .int .u64 0, .int .u64 7, .int .u64 18] 41)).heap.size (some ⟨w.heap.size, 0, none⟩) 4 ex := fun _ => ⟨w.heap.size, 0, rfl, by simp, fun i hi => by
    match i, hi with
    | 0, _ => simp only [World.cell?, hh]; rfl
    | 1, _ => simp only [World.cell?, hh]; rfl
    | 2, _ => simp only [World.cell?, hh]; rfl
    | 3, _ => simp only [World.cell?, hh]; rfl⟩
  have hF : ∀ i, i < 4 → 0 ≤ ex i ∧ ex i ≤ 18446744073709551615 := fun i hi => by
    match i, hi with
    | 0, _ => decide
    | 1, _ => decide
    | 2, _ => decide
    | 3, _ => decide
  have hR := read_few _ 4 4 ex _ (by omega) (by omega) (by omega) hS hF
  rw [ex_segs] at hR
  clear hS hF hh
  have a1 : lookK ex [(0, 2), (3, 1)] 0 0 = 1 := by decide
  have a2 : lookA ex [(0, 2), (3, 1)] 2 0 0 = 4 := by decide
  have a3 : lookK ex [(0, 2), (3, 1)] 1 0 = 2 := by decide
  have a4 : lookA ex [(0, 2), (3, 1)] 2 1 0 = 0 := by decide
  have a5 : lookK ex [(0, 2), (3, 1)] 1 1 = 0 := by decide
  have a6 : lookA ex [(0, 2), (3, 1)] 2 1 1 = 0 := by decide
  go_enter Try.func34, Try.ntmps34
  go_wp2_with fail
  go_at_call 35; refine hR.mono ?_; clear hR; rintro e w1 ⟨c, g, rfl, hC, h1⟩
  have HC : Hid (∀ X, Below w1.heap.size w1 X → IsCode X c g ex [(0, 2), (3, 1)]) := fun X hX => hC.below hX
  have hb1 := hb0.trans (h1.mono (by simp))
  clear hC hb0 h1
  have h0 : Below w1.heap.size w1 w1 := Below.refl _ _
  go_wp2_with fail
  go_at_call 37; refine (clen_some c g ex _ _ (HC.out _ h0)).mono ?_; rintro e w2 ⟨rfl, rfl⟩
  go_wp2_with fail
  go_at_call 41; refine (long_ok c g ex _ 0 (0, 2) _ (HC.out _ h0) rfl).mono ?_; rintro e w3 ⟨rfl, rfl⟩
  go_wp2_with fail
  go_at_call 38; refine (at_any c g ex _ 0 0 _ (HC.out _ h0)).mono ?_; rw [a1, show (([(0, 2), (3, 1)] : List (Nat × Nat)).length : Int) = 2 from rfl, a2]; rintro e w4 ⟨rfl, h4⟩
  go_wp2_with fail
  go_at_call 38; refine (at_any c g ex _ 1 0 _ (HC.out _ h4)).mono ?_; rw [a3, show (([(0, 2), (3, 1)] : List (Nat × Nat)).length : Int) = 2 from rfl, a4]; rintro e w5 ⟨rfl, h5⟩
  have h5 := h4.trans (h5.mono h4.size)
  go_wp2_with fail
  go_at_call 38; refine (at_any c g ex _ 1 1 _ (HC.out _ h5)).mono ?_; rw [a5, show (([(0, 2), (3, 1)] : List (Nat × Nat)).length : Int) = 2 from rfl, a6]; rintro e w6 ⟨rfl, h6⟩
  have h6 := h5.trans (h6.mono h5.size)
  go_wp2_with fail
  go_ret
  exact ⟨rfl, hb1.trans (h6.mono hb1.size)⟩
end Go.Proofs.Ytmkmpphfieckoaa
