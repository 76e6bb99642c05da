/- Events; which of them may be told; parts of a line; the document's number. -/
import Derived.Test.YtalilnnjpemmlaaDoorLa
import Derived.WalkKit
import Derived.Handy
import Derived.Deep.QuietTactic
import Derived.BigQuiet
import Derived.BigRegion
import Derived.WalkSmall
import Derived.Deep.RegionHeld3
import Derived.Lib.ItoaNum
import Derived.Shelf.Strconv.Itoa1
import Derived.Lib.ItoaLen
import Derived.Laws.Concat
import Derived.Lib.AppendIntMem
namespace Go.Proofs.YtalilnnjpemmlaaDoor
open Go Go.RowKit
set_option linter.unusedVariables false
set_option linter.unusedSimpArgs false

structure Ev where
  k : Int
  g : Int
  o : Int
  t : Int
  p : Int
deriving DecidableEq
def Ev.cells (e : Ev) : Array Value := #[.int .i64 e.k, .int .i64 e.g, .int .i64 e.o, .int .i64 e.t, .int .i64 e.p]
def Ev.v (e : Ev) : Value := .agg e.cells
/-- may it be told? -/
def Ev.ok (e : Ev) : Prop := (1 ≤ e.k ∧ e.k ≤ 11) ∧ (0 ≤ e.g ∧ e.g ≤ 65535) ∧ (-1 ≤ e.o ∧ e.o ≤ 65535) ∧ (0 ≤ e.t ∧ e.t ≤ 255) ∧ (-1 ≤ e.p ∧ e.p ≤ 63)
instance (e : Ev) : Decidable e.ok := by unfold Ev.ok; infer_instance

theorem ret_bool {a b : Bool} (h : a = b) : Ending.returned (.bool a) = .returned (.bool b) := by rw [h]

theorem isBelow_any (n m : Int) (w : World) : Calls Tryd.prog 20 #[.int .i64 n, .int .i64 m] w fun e w' => e = .returned (.bool (decide (0 ≤ n ∧ n < m))) ∧ w = w' := by
  go_enter Tryd.func20, Tryd.ntmps20
  go_wp2
  all_goals (go_ret; exact ⟨ret_bool (by rw [Bool.eq_iff_iff]; simp [*] <;> omega), rfl⟩)

theorem right_any (e : Ev) (w : World) : Calls Tryd.prog 14 #[e.v] w fun r w' => r = .returned (.bool (decide e.ok)) ∧ Below w.heap.size w w' := by
  obtain ⟨k, g, o, t, p⟩ := e
  have HB : Hid (∀ n m w, Calls Tryd.prog 20 #[.int .i64 n, .int .i64 m] w fun e w' => e = .returned (.bool (decide (0 ≤ n ∧ n < m))) ∧ w = w') := isBelow_any
  show Calls Tryd.prog 14 #[.agg #[.int .i64 k, .int .i64 g, .int .i64 o, .int .i64 t, .int .i64 p]] w _
  go_enter Tryd.func14, Tryd.ntmps14
  go_wp2_with (go_at_call 20; refine (HB.out _ _ _).mono ?_; rintro e w1 ⟨rfl, rfl⟩)
  all_goals (go_ret; exact ⟨ret_bool (by first | (symm; apply decide_eq_true; simp only [Ev.ok]; simp at *; omega) | (symm; apply decide_eq_false; simp only [Ev.ok]; simp at *; omega) | (refine Bool.eq_iff_iff.2 (Iff.trans ?_ decide_eq_true_iff.symm); simp only [Ev.ok, decide_eq_true_eq, beq_iff_eq, decide_eq_false_iff_not, Bool.or_eq_true, Bool.and_eq_true] at *; omega)), (Below.refl _ w).alloc (Nat.le_refl _) _⟩)
theorem rright_any (e : Ev) (w : World) : Calls Tryd.prog 13 #[e.v] w fun r w' => r = .returned (.bool (decide e.ok)) ∧ Below w.heap.size w w' := by
  obtain ⟨k, g, o, t, p⟩ := e
  show Calls Tryd.prog 13 #[.agg #[.int .i64 k, .int .i64 g, .int .i64 o, .int .i64 t, .int .i64 p]] w _
  go_enter Tryd.func13, Tryd.ntmps13
  go_wp2
  all_goals (go_ret; exact ⟨ret_bool (by first | (symm; apply decide_eq_true; simp only [Ev.ok]; simp at *; omega) | (symm; apply decide_eq_false; simp only [Ev.ok]; simp at *; omega) | (refine Bool.eq_iff_iff.2 (Iff.trans ?_ decide_eq_true_iff.symm); simp only [Ev.ok, decide_eq_true_eq, beq_iff_eq, decide_eq_false_iff_not, Bool.or_eq_true, Bool.and_eq_true] at *; omega)), (Below.refl _ w).alloc (Nat.le_refl _) _⟩)
end Go.Proofs.YtalilnnjpemmlaaDoor
