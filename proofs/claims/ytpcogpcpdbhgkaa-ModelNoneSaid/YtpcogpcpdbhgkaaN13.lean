/- The page's model: what Do does of the page's events. -/
import Derived.Test.YtpcogpcpdbhgkaaN12
namespace Go.Proofs.Ytpcogpcpdbhgkaa
open Go Go.RowKit
set_option linter.unusedVariables false
set_option linter.unusedSimpArgs false
variable {x gb tb qb pb ib : Nat} {what : Int} {bh : Nat} {on : Bool}

theorem Turns.size {w a : World} (h : Turns gb tb qb w a) : w.heap.size ≤ a.heap.size := h.1.size
theorem Turns.trans {w a b : World} (h : Turns gb tb qb w a) (h' : Turns gb tb qb a b) : Turns gb tb qb w b := ⟨h.1.trans h'.1, fun k h1 h2 h3 h4 => (h'.2 k h1 h2 h3 (Nat.lt_of_lt_of_le h4 h.size)).trans (h.2 k h1 h2 h3 h4)⟩
theorem Turns.of_below {w a : World} (h : Below w.heap.size w a) : Turns gb tb qb w a := ⟨h.mono (Nat.zero_le _), fun k _ _ _ h4 => h.block k h4⟩
theorem Turns.below {w a : World} (h : Turns gb tb qb w a) (lo : Nat) (h1 : lo ≤ gb) (h2 : lo ≤ tb) (h3 : lo ≤ qb) (h4 : lo ≤ w.heap.size) : Below lo w a := ⟨h.1.os, h.1.tape, h.1.output, h.1.size, fun k hk => h.2 k (by omega) (by omega) (by omega) (by omega)⟩

theorem happen_start (w : World) (h : Ms w x gb tb qb pb ib 1 bh false) : Calls Try.prog 23 #[.pointer (some ⟨x, 0, none⟩), ev 1 (-1)] w fun e w' => (∃ v, e = .returned v) ∧ Ms w' x gb tb qb pb ib 2 bh true ∧ Turns gb tb qb w w' := by
  have BA : Below w.heap.size w (w.alloc (.cells #[.int .i64 1, .int .i64 0, .int .i64 (-1), .int .i64 0, .int .i64 0] 25)) := (Below.refl _ w).alloc (Nat.le_refl _) _
  have H := run_0 1 (-1) _ (h.below BA)
  unfold ev at H ⊢
  have H2 := Lib.hid H
  clear H h
  go_enter Try.func23, Try.ntmps23
  go_wp2_with fail
  go_at_call 33
  refine H2.out.mono ?_
  rintro e w1 ⟨⟨v, rfl⟩, hm, ht⟩
  go_wp2_with fail
  first | go_end0 | go_ret
  exact ⟨⟨_, rfl⟩, hm, (Turns.of_below BA).trans ht⟩
/-- the yield and the end of what runs: past its next instruction, off its thread and its processor -/
theorem happen_off (k wh : Int) (hk : (k = 4 ∧ wh = 1) ∨ (k = 11 ∧ wh = 5)) (hbh : bh ≤ 100) (w : World) (h : Ms w x gb tb qb pb ib 2 bh true) : Calls Try.prog 23 #[.pointer (some ⟨x, 0, none⟩), ev k (-1)] w fun e w' => (∃ v, e = .returned v) ∧ Ms w' x gb tb qb pb ib wh ((bh + 1 : Nat) : Int) false ∧ Turns gb tb qb w w' := by
  have BA : Below w.heap.size w (w.alloc (.cells #[.int .i64 k, .int .i64 0, .int .i64 (-1), .int .i64 0, .int .i64 0] 25)) := (Below.refl _ w).alloc (Nat.le_refl _) _
  have RA : (w.alloc (.cells #[.int .i64 k, .int .i64 0, .int .i64 (-1), .int .i64 0, .int .i64 0] 25)).heap[w.heap.size]? = some (.cells #[.int .i64 k, .int .i64 0, .int .i64 (-1), .int .i64 0, .int .i64 0] 25 (0, 0)) := heap_alloc_new _ _
  have hgl := block_lt h.hg
  have HP := Lib.hid (pass_0 hbh _ (h.below BA))
  have HL : Hid (∀ X, Ms X x gb tb qb pb ib 2 ((bh + 1 : Nat) : Int) true → Calls Try.prog 35 #[.pointer (some ⟨x, 0, none⟩), .agg #[.int .i64 k, .int .i64 0, .int .i64 (-1), .int .i64 0, .int .i64 0], .int .i64 wh] X fun e w' => (∃ v, e = .returned v) ∧ Ms w' x gb tb qb pb ib wh ((bh + 1 : Nat) : Int) false ∧ Turns gb tb qb X w') := fun X hX => leave_0 k (-1) wh X hX
  have r0 := cell_of RA 0
  have r1 := cell_of RA 1
  simp only [List.getElem?_toArray, List.getElem?_cons_succ, List.getElem?_cons_zero] at r0 r1
  have hs : (w.alloc (.cells #[.int .i64 k, .int .i64 0, .int .i64 (-1), .int .i64 0, .int .i64 0] 25)).heap.size = w.heap.size + 1 := by simp
  unfold ev
  clear h
  generalize hb1 : ((bh + 1 : Nat) : Int) = B at *
  rcases hk with ⟨rfl, rfl⟩ | ⟨rfl, rfl⟩
  all_goals
    go_enter Try.func23, Try.ntmps23
    go_wp2_with fail
    go_at_call 34
    generalize w.alloc (.cells #[.int .i64 _, .int .i64 0, .int .i64 (-1), .int .i64 0, .int .i64 0] 25) = W at *
    refine HP.out.mono ?_
    rintro e w1 ⟨⟨v, rfl⟩, hm, hb, hsame⟩
    have RB := (hsame w.heap.size (by omega) (by omega)).trans RA
    have s0 := cell_of RB 0
    have s1 := cell_of RB 1
    have s2 := cell_of RB 2
    have s3 := cell_of RB 3
    have s4 := cell_of RB 4
    simp only [List.getElem?_toArray, List.getElem?_cons_succ, List.getElem?_cons_zero] at s0 s1 s2 s3 s4
    have T1 : Turns gb tb qb W w1 := ⟨hb, fun k h1 _ _ h4 => hsame k h1 h4⟩
    have HL1 := Lib.hid (HL.out w1 hm)
    clear hm hb hsame RB RA HP HL r0 r1
    go_wp2_with fail
    go_at_call 35
    refine HL1.out.mono ?_
    rintro e w2 ⟨⟨v2, rfl⟩, hm2, ht2⟩
    go_wp2_with fail
    first | go_end0 | go_ret
    exact ⟨⟨_, rfl⟩, hm2, (Turns.of_below BA).trans (T1.trans ht2)⟩
end Go.Proofs.Ytpcogpcpdbhgkaa
