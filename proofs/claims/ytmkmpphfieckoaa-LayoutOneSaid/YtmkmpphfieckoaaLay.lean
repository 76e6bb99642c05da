/- Layouts: the contracts of package layout's blocks. -/
import Derived.Test.YtmkmpphfieckoaaBase
namespace Go.Proofs.Ytmkmpphfieckoaa
open Go Go.RowKit
set_option linter.unusedVariables false
set_option linter.unusedSimpArgs false

/-- A config that may be. -/
structure May (P T G : Int) : Prop where
  h : 1 ≤ P ∧ P ≤ 64 ∧ P ≤ T ∧ T ≤ 256 ∧ 1 ≤ G ∧ G ≤ 65536
instance (P T G : Int) : Decidable (May P T G) := decidable_of_iff (1 ≤ P ∧ P ≤ 64 ∧ P ≤ T ∧ T ≤ 256 ∧ 1 ≤ G ∧ G ≤ 65536) ⟨fun h => ⟨h⟩, fun h => h.h⟩

def cfg (P T G : Int) : Value := .agg #[.int .i64 P, .int .i64 T, .int .i64 G]
/-- The layout at block c is of the config. -/
def Lay (w : World) (c : Nat) (P T G : Int) : Prop := w.heap[c]? = some (.cells #[.int .i64 P, .int .i64 T, .int .i64 G] 70 (0, 0))
theorem Lay.lt {w : World} {c : Nat} {P T G : Int} (h : Lay w c P T G) : c < w.heap.size := block_lt h
theorem Lay.below {w w' : World} {c B : Nat} {P T G : Int} (h : Lay w c P T G) (hb : Below B w w') (hc : c < B) : Lay w' c P T G := (hb.block c hc).trans h
theorem Lay.cells {w : World} {c : Nat} {P T G : Int} (h : Lay w c P T G) : w.cell? ⟨c, 0, none⟩ = some (.int .i64 P) ∧ w.cell? ⟨c, 1, none⟩ = some (.int .i64 T) ∧ w.cell? ⟨c, 2, none⟩ = some (.int .i64 G) := by
  have h' : w.heap[c]? = some (.cells #[.int .i64 P, .int .i64 T, .int .i64 G] 70 (0, 0)) := h
  refine ⟨?_, ?_, ?_⟩ <;> simp [World.cell?, h']

theorem right_any (P T G : Int) (w : World) : Calls Try.prog 13 #[.agg #[.int .i64 P, .int .i64 T, .int .i64 G]] w fun e w' => e = .returned (.bool (decide (May P T G))) ∧ Below w.heap.size w w' := by
  have hb : Below w.heap.size w (w.alloc (.cells #[.int .i64 P, .int .i64 T, .int .i64 G] 23)) := (Below.refl _ _).alloc (Nat.le_refl _) _
  by_cases h : May P T G
  · have h1 := h.h
    obtain ⟨a1, a2, a3, a4, a5, a6⟩ := h1
    rw [decide_eq_true h]
    go_enter Try.func13, Try.ntmps13
    go_wp2_with fail
    go_ret
    exact ⟨ret_bool (by simp [*]), hb⟩
  · rw [decide_eq_false h]
    have hn : ¬ (1 ≤ P ∧ P ≤ 64 ∧ P ≤ T ∧ T ≤ 256 ∧ 1 ≤ G ∧ G ≤ 65536) := fun a => h ⟨a⟩
    go_enter Try.func13, Try.ntmps13
    go_wp2_with fail
    all_goals
      go_ret
      refine ⟨ret_bool ?_, hb⟩
      first | rfl | (simp; omega)
theorem refRight_any (P T G : Int) (w : World) : Calls Try.prog 11 #[.agg #[.int .i64 P, .int .i64 T, .int .i64 G]] w fun e w' => e = .returned (.bool (decide (May P T G))) ∧ Below w.heap.size w w' := by
  have hb : Below w.heap.size w (w.alloc (.cells #[.int .i64 P, .int .i64 T, .int .i64 G] 23)) := (Below.refl _ _).alloc (Nat.le_refl _) _
  by_cases h : May P T G
  · have h1 := h.h
    obtain ⟨a1, a2, a3, a4, a5, a6⟩ := h1
    rw [decide_eq_true h]
    go_enter Try.func11, Try.ntmps11
    go_wp2_with fail
    go_ret
    exact ⟨ret_bool (by simp [*]), hb⟩
  · rw [decide_eq_false h]
    have hn : ¬ (1 ≤ P ∧ P ≤ 64 ∧ P ≤ T ∧ T ≤ 256 ∧ 1 ≤ G ∧ G ≤ 65536) := fun a => h ⟨a⟩
    go_enter Try.func11, Try.ntmps11
    go_wp2_with fail
    all_goals
      go_ret
      refine ⟨ret_bool ?_, hb⟩
      first | rfl | (simp; omega)
theorem refLen_any (P T G : Int) (w : World) (h : May P T G) : Calls Try.prog 16 #[.agg #[.int .i64 P, .int .i64 T, .int .i64 G]] w fun e w' => e = .returned (.int .i64 (20 + 264 * P + 3 * T + 2 * G)) ∧ Below w.heap.size w w' := by
  have hb : Below w.heap.size w (w.alloc (.cells #[.int .i64 P, .int .i64 T, .int .i64 G] 23)) := (Below.refl _ _).alloc (Nat.le_refl _) _
  obtain ⟨h1⟩ := h
  go_enter Try.func16, Try.ntmps16
  go_wp2_with fail
  go_ret
  exact ⟨ret_int (by omega), hb⟩

/-- A layout, or none, of a config (of none, of noughts). -/
inductive LayO (w : World) (P T G : Int) : Option Addr → Prop
  | none : P = 0 → T = 0 → G = 0 → LayO w P T G none
  | some (c : Nat) : Lay w c P T G → LayO w P T G (some ⟨c, 0, none⟩)
theorem LayO.below {w w' : World} {o : Option Addr} {P T G : Int} (h : LayO w P T G o) (hb : Below w.heap.size w w') : LayO w' P T G o := by
  cases h with
  | none a b c => exact .none a b c
  | some c h => exact .some c (h.below hb h.lt)

theorem config_any (o : Option Addr) (P T G : Int) (w : World) (h : LayO w P T G o) : Calls Try.prog 15 #[.pointer o] w fun e w' => e = .returned (.agg #[.int .i64 P, .int .i64 T, .int .i64 G]) ∧ Below w.heap.size w w' := by
  cases h with
  | none a b c =>
    subst a b c
    go_enter Try.func15, Try.ntmps15
    go_wp2_with fail
    go_returns
    exact ⟨rfl, (Below.refl _ _).alloc (Nat.le_refl _) _⟩
  | some c h =>
    obtain ⟨c0, c1, c2⟩ := h.cells
    have hlt := h.lt
    clear h
    go_enter Try.func15, Try.ntmps15
    go_wp2_with fail
    go_returns
    exact ⟨rfl, (Below.refl _ _).alloc (Nat.le_refl _) _⟩
end Go.Proofs.Ytmkmpphfieckoaa
