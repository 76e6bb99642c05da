/- The page's model: Do, of the page's events. -/
import Derived.Test.YtpcogpcpdbhgkaaN13
namespace Go.Proofs.Ytpcogpcpdbhgkaa
open Go Go.RowKit
set_option linter.unusedVariables false
set_option linter.unusedSimpArgs false
variable {x gb tb qb pb ib : Nat} {what : Int} {bh : Nat} {on : Bool}

theorem do_of (k : Int) (w : World) (what' : Int) (B' : Int) (on' : Bool) (h : Ms w x gb tb qb pb ib what bh on)
    (HM : Hid (∀ X, Below w.heap.size w X → Calls Try.prog 8 #[.pointer (some ⟨x, 0, none⟩), ev k (-1)] X fun e w' => e = .returned (.bool true) ∧ Below X.heap.size X w'))
    (HH : Hid (∀ X, Below w.heap.size w X → Calls Try.prog 23 #[.pointer (some ⟨x, 0, none⟩), ev k (-1)] X fun e w' => (∃ v, e = .returned v) ∧ Ms w' x gb tb qb pb ib what' B' on' ∧ Turns gb tb qb X w')) :
    Calls Try.prog 9 #[.pointer (some ⟨x, 0, none⟩), ev k (-1)] w fun e w' => e = .returned (.int .i64 0) ∧ Ms w' x gb tb qb pb ib what' B' on' ∧ Turns gb tb qb w w' := by
  have BA : Below w.heap.size w (w.alloc (.cells #[.int .i64 k, .int .i64 0, .int .i64 (-1), .int .i64 0, .int .i64 0] 25)) := (Below.refl _ w).alloc (Nat.le_refl _) _
  have RA : (w.alloc (.cells #[.int .i64 k, .int .i64 0, .int .i64 (-1), .int .i64 0, .int .i64 0] 25)).heap[w.heap.size]? = some (.cells #[.int .i64 k, .int .i64 0, .int .i64 (-1), .int .i64 0, .int .i64 0] 25 (0, 0)) := heap_alloc_new _ _
  have hs : (w.alloc (.cells #[.int .i64 k, .int .i64 0, .int .i64 (-1), .int .i64 0, .int .i64 0] 25)).heap.size = w.heap.size + 1 := by simp
  have HM1 := Lib.hid (HM.out _ BA)
  clear h HM
  unfold ev at HM1 HH ⊢
  go_enter Try.func9, Try.ntmps9
  go_wp2_with fail
  go_at_call 8
  generalize w.alloc (.cells #[.int .i64 k, .int .i64 0, .int .i64 (-1), .int .i64 0, .int .i64 0] 25) = W at *
  refine HM1.out.mono ?_
  rintro e w1 ⟨rfl, hb⟩
  have RB := (hb.block w.heap.size (by omega)).trans RA
  have B1 : Below w.heap.size w w1 := BA.trans (hb.mono (by omega))
  have s0 := cell_of RB 0
  have s1 := cell_of RB 1
  have s2 := cell_of RB 2
  have s3 := cell_of RB 3
  have s4 := cell_of RB 4
  simp only [List.getElem?_toArray, List.getElem?_cons_succ, List.getElem?_cons_zero] at s0 s1 s2 s3 s4
  have HH1 := Lib.hid (HH.out _ B1)
  clear RA RB hb HH HM1
  go_wp2_with fail
  go_at_call 23
  refine HH1.out.mono ?_
  rintro e w2 ⟨⟨v2, rfl⟩, hm2, ht2⟩
  go_wp2_with fail
  go_ret
  exact ⟨rfl, hm2, (Turns.of_below B1).trans ht2⟩

theorem do_start (w : World) (h : Ms w x gb tb qb pb ib 1 bh false) : Calls Try.prog 9 #[.pointer (some ⟨x, 0, none⟩), ev 1 (-1)] w fun e w' => e = .returned (.int .i64 0) ∧ Ms w' x gb tb qb pb ib 2 bh true ∧ Turns gb tb qb w w' :=
  do_of 1 w 2 bh true h (show ∀ X, _ from fun X hX => may_of 1 (Or.inl rfl) true X (h.below hX) (show ∀ Y, _ from fun Y hY => alone_start Y (-1) ((h.below hX).below hY)))
    (show ∀ X, _ from fun X hX => happen_start X (h.below hX))
theorem may_off (k kd : Int) (hk : (k = 4 ∧ kd = 3) ∨ (k = 11 ∧ kd = 0)) (hbh : bh ≤ 100) (w : World) (h : Ms w x gb tb qb pb ib 2 bh true) : Calls Try.prog 8 #[.pointer (some ⟨x, 0, none⟩), ev k (-1)] w fun e w' => e = .returned (.bool (kindAt bh == kd)) ∧ Below w.heap.size w w' :=
  may_of k (by omega) _ w h (show ∀ Y, _ from fun Y hY => alone_by k kd hk hbh Y (-1) (h.below hY))
theorem do_off (k wh kd : Int) (hk : (k = 4 ∧ kd = 3 ∧ wh = 1) ∨ (k = 11 ∧ kd = 0 ∧ wh = 5)) (hbh : bh ≤ 100) (hkd : (kindAt bh == kd) = true) (w : World) (h : Ms w x gb tb qb pb ib 2 bh true) :
    Calls Try.prog 9 #[.pointer (some ⟨x, 0, none⟩), ev k (-1)] w fun e w' => e = .returned (.int .i64 0) ∧ Ms w' x gb tb qb pb ib wh ((bh + 1 : Nat) : Int) false ∧ Turns gb tb qb w w' :=
  do_of k w wh _ false h (show ∀ X, _ from fun X hX => by
      have := may_off k kd (by omega) hbh X (h.below hX)
      rw [hkd] at this
      exact this)
    (show ∀ X, _ from fun X hX => happen_off k wh (by omega) hbh X (h.below hX))

theorem what_0 (w : World) (h : Ms w x gb tb qb pb ib what bh on) : Calls Try.prog 10 #[.pointer (some ⟨x, 0, none⟩), .int .i64 0] w fun e w' => e = .returned (.int .i64 what) ∧ w = w' := by
  have x1 := cell_of h.hx 1
  have g0 := cell_of h.hg 0
  simp only [List.getElem?_toArray, List.getElem?_cons_succ, List.getElem?_cons_zero] at x1 g0
  have HH := Lib.hid (has_0 w h)
  clear h
  go_enter Try.func10, Try.ntmps10
  go_wp2_with fail
  go_at_call 17
  refine HH.out.mono ?_
  rintro e w1 ⟨rfl, rfl⟩
  go_wp2
  go_ret
  exact ⟨rfl, rfl⟩
end Go.Proofs.Ytpcogpcpdbhgkaa
