/- The page's model: its goroutine's next instruction; whether it runs. -/
import Derived.Test.YtpcogpcpdbhgkaaN6
namespace Go.Proofs.Ytpcogpcpdbhgkaa
open Go Go.RowKit
set_option linter.unusedVariables false
set_option linter.unusedSimpArgs false
variable {x gb tb qb pb ib : Nat} {what : Int} {bh : Nat} {on : Bool}

theorem kindAt_1 (i : Nat) : (kindAt i == 1) = false := by unfold kindAt; split <;> rfl
theorem kindAt_5 (i : Nat) : (kindAt i == 5) = false := by unfold kindAt; split <;> rfl

theorem field_39 (a b : Value) (w : World) : (Instr.field 39 (.agg #[a, b]) 0).run Try.prog w = .ok a w := by
  simp [Instr.field, run_underlying Try.underlying39, Result.andThen, asAgg, part, run_underlying Try.underlying3]

theorem skip_0 (kb : Nat) (hbh : bh ≤ 100) (w : World) (h : Ms w x gb tb qb pb ib what bh on) (h0 : w.cell? ⟨kb, 0, none⟩ = some (.int .i64 1)) (h1 : w.cell? ⟨kb, 1, none⟩ = some (.int .i64 5)) (hkl : kb < w.heap.size) :
    Calls Try.prog 29 #[.pointer (some ⟨x, 0, none⟩), .int .i64 0, .slice (some ⟨kb, 0, none⟩) 2 2] w fun e w' => e = .returned (.int .i64 (bh : Int)) ∧ Below w.heap.size w w' := by
  have x1 : w.cell? ⟨x, 1, none⟩ = some (.slice (some ⟨gb, 0, none⟩) 1 1) := (cell_of h.hx 1)
  have g1 : w.cell? ⟨gb, 1, none⟩ = some (.int .i64 0) := (cell_of h.hg 1)
  have g2 : w.cell? ⟨gb, 2, none⟩ = some (.int .i64 (bh : Int)) := (cell_of h.hg 2)
  have hxl := block_lt h.hx
  have hgl := block_lt h.hg
  have HA : Hid (∀ X, (X.cell? ⟨x, 1, none⟩ = some (.slice (some ⟨gb, 0, none⟩) 1 1) ∧ X.cell? ⟨gb, 1, none⟩ = some (.int .i64 0) ∧ Below w.heap.size w X) → Calls Try.prog 24 #[.pointer (some ⟨x, 0, none⟩), .int .i64 0, .int .i64 (bh : Int)] X fun e w' => e = .returned (.agg #[.int .i64 (kindAt bh), .int .i64 0]) ∧ Below X.heap.size X w') := fun X hX => at_0 bh hbh X (h.below hX.2.2)
  have HC : Hid (∀ X, (X.cell? ⟨x, 1, none⟩ = some (.slice (some ⟨gb, 0, none⟩) 1 1) ∧ X.cell? ⟨gb, 1, none⟩ = some (.int .i64 0) ∧ Below w.heap.size w X) → Calls Try.prog 38 #[.slice (some ⟨kb, 0, none⟩) 2 2, .int .i64 (kindAt bh)] X fun e w' => e = .returned (.bool false) ∧ X = w') := fun X hX => contains_15 kb (kindAt bh) (kindAt_1 bh) (kindAt_5 bh) X ((hX.2.2.cell (p := ⟨kb, 0, none⟩) hkl).trans h0) ((hX.2.2.cell (p := ⟨kb, 1, none⟩) hkl).trans h1)
  have KEEP : Hid (∀ X w' : World, (X.cell? ⟨x, 1, none⟩ = some (.slice (some ⟨gb, 0, none⟩) 1 1) ∧ X.cell? ⟨gb, 1, none⟩ = some (.int .i64 0) ∧ Below w.heap.size w X) → Below X.heap.size X w' → (w'.cell? ⟨x, 1, none⟩ = some (.slice (some ⟨gb, 0, none⟩) 1 1) ∧ w'.cell? ⟨gb, 1, none⟩ = some (.int .i64 0) ∧ Below w.heap.size w w')) := by
    rintro X w' ⟨e1, e2, e3⟩ hb
    have := e3.size
    exact ⟨(hb.cell (by show x < _; omega)).trans e1, (hb.cell (by show gb < _; omega)).trans e2, e3.trans (hb.mono this)⟩
  have hH : w.drew.cell? ⟨x, 1, none⟩ = some (.slice (some ⟨gb, 0, none⟩) 1 1) ∧ w.drew.cell? ⟨gb, 1, none⟩ = some (.int .i64 0) ∧ Below w.heap.size w w.drew := ⟨x1, g1, (Below.refl _ _).drew⟩
  clear h h0 h1 hkl
  have hfd := fun (w : World) => field_39 (.int .i64 (kindAt bh)) (.int .i64 0) w
  generalize kindAt bh = K at *
  go_enter Try.func29, Try.ntmps29
  go_wp2_with fail
  go_loopw [7] (fun i wr => i = .int .i64 (bh : Int) ∧ wr = w) (fun _ _ => 0)
  case atStart => exact ⟨rfl, rfl⟩
  case round =>
    obtain ⟨rfl, rfl⟩ := hrel
    go_wp2_with fail
    go_region_held3 (fun w' : World => w'.cell? ⟨x, 1, none⟩ = some (.slice (some ⟨gb, 0, none⟩) 1 1) ∧ w'.cell? ⟨gb, 1, none⟩ = some (.int .i64 0) ∧ Below wr.heap.size wr w') (first | (with_reducible exact hH) | (with_reducible assumption) | exact KEEP.out _ _ ‹_› ‹_›) (first | (go_at_call 24; refine (HA.out _ ‹_›).mono ?_; rintro e w3 ⟨rfl, hb3⟩) | (go_at_call 38; refine (HC.out _ ‹_›).mono ?_; rintro e w3 ⟨rfl, rfl⟩))
    all_goals (rename_i hZ; go_wp2; go_ret; exact ⟨rfl, hZ.2.2⟩)

theorem next_0 (hbh : bh ≤ 100) (w : World) (h : Ms w x gb tb qb pb ib what bh on) : Calls Try.prog 25 #[.pointer (some ⟨x, 0, none⟩), .int .i64 0] w fun e w' => e = .returned (.int .i64 (bh : Int)) ∧ Below w.heap.size w w' := by
  have BA : Below w.heap.size w (w.alloc (.cells #[.int .i64 1, .int .i64 5] 3)) := (Below.refl _ w).alloc (Nat.le_refl _) _
  have H := skip_0 w.heap.size hbh (w.alloc (.cells #[.int .i64 1, .int .i64 5] 3)) (h.below BA) (by simp) (by simp) (by simp)
  have HS : Hid (Calls Try.prog 29 #[.pointer (some ⟨x, 0, none⟩), .int .i64 0, .slice (some ⟨w.heap.size, 0, none⟩) 2 2] (w.alloc (.cells #[.int .i64 1, .int .i64 5] 3)) fun e w' => e = .returned (.int .i64 (bh : Int)) ∧ Below (w.alloc (.cells #[.int .i64 1, .int .i64 5] 3)).heap.size (w.alloc (.cells #[.int .i64 1, .int .i64 5] 3)) w') := H
  clear H h
  go_enter Try.func25, Try.ntmps25
  go_wp2_with fail
  go_at_call 29
  refine HS.out.mono ?_
  rintro e w1 ⟨rfl, hb1⟩
  go_wp2
  go_ret
  exact ⟨rfl, BA.trans (hb1.mono BA.size)⟩
end Go.Proofs.Ytpcogpcpdbhgkaa
