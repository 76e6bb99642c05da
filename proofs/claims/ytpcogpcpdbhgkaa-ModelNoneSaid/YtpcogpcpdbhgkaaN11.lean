/- The page's model: it goes past its next instruction. -/
import Derived.Test.YtpcogpcpdbhgkaaN9
namespace Go.Proofs.Ytpcogpcpdbhgkaa
open Go Go.RowKit
set_option linter.unusedVariables false
set_option linter.unusedSimpArgs false
variable {x gb tb qb pb ib : Nat} {what : Int} {bh : Nat} {on : Bool}

theorem heap_ne (w : World) (b o k : Nat) (u : Value) (hne : k ≠ b) : (w.setCell ⟨b, o, none⟩ u).heap[k]? = w.heap[k]? := Below.heap_setCell w _ _ _ hne
theorem Ms.set2 {w : World} {behind : Int} (h : Ms w x gb tb qb pb ib what behind on) (v : Int) : Ms (w.setCell ⟨gb, 2, none⟩ (.int .i64 v)) x gb tb qb pb ib what v on := by
  obtain ⟨hx, hg, ⟨⟨ic, hic, hp⟩, cu, hi, hcu⟩, ⟨c1, b1, ht⟩, ⟨c2, b2, hq⟩, n1, n2, n3⟩ := h
  exact ⟨(heap_ne w gb 2 x _ (by omega)).trans hx, heap_set hg 2 _, ⟨⟨ic, hic, (heap_ne w gb 2 pb _ (by omega)).trans hp⟩, cu, (heap_ne w gb 2 ib _ (by omega)).trans hi, hcu⟩, ⟨c1, b1, (heap_ne w gb 2 tb _ (by omega)).trans ht⟩, ⟨c2, b2, (heap_ne w gb 2 qb _ (by omega)).trans hq⟩, n1, n2, n3⟩
theorem Ms.set0 {w : World} {behind : Int} (h : Ms w x gb tb qb pb ib what behind on) (v : Int) : Ms (w.setCell ⟨gb, 0, none⟩ (.int .i64 v)) x gb tb qb pb ib v behind on := by
  obtain ⟨hx, hg, ⟨⟨ic, hic, hp⟩, cu, hi, hcu⟩, ⟨c1, b1, ht⟩, ⟨c2, b2, hq⟩, n1, n2, n3⟩ := h
  exact ⟨(heap_ne w gb 0 x _ (by omega)).trans hx, heap_set hg 0 _, ⟨⟨ic, hic, (heap_ne w gb 0 pb _ (by omega)).trans hp⟩, cu, (heap_ne w gb 0 ib _ (by omega)).trans hi, hcu⟩, ⟨c1, b1, (heap_ne w gb 0 tb _ (by omega)).trans ht⟩, ⟨c2, b2, (heap_ne w gb 0 qb _ (by omega)).trans hq⟩, n1, n2, n3⟩

theorem pass_0 (hbh : bh ≤ 100) (w : World) (h : Ms w x gb tb qb pb ib what bh on) : Calls Try.prog 34 #[.pointer (some ⟨x, 0, none⟩), .int .i64 0] w fun e w' => (∃ v, e = .returned v) ∧ Ms w' x gb tb qb pb ib what ((bh + 1 : Nat) : Int) on ∧ Below 0 w w' ∧ ∀ k, k ≠ gb → k < w.heap.size → w'.heap[k]? = w.heap[k]? := by
  have hxl := block_lt h.hx
  have hgl := block_lt h.hg
  have x1 := cell_of h.hx 1
  simp only [List.getElem?_toArray, List.getElem?_cons_succ, List.getElem?_cons_zero] at x1
  have HM := Lib.hid h
  have HN2 : Hid (∀ X : World, (X.cell? ⟨x, 1, none⟩ = some (.slice (some ⟨gb, 0, none⟩) 1 1)) ∧ Below gb w X → True) := fun _ _ => trivial
  have HN : Hid (∀ X, Below w.heap.size w X → Calls Try.prog 25 #[.pointer (some ⟨x, 0, none⟩), .int .i64 0] X fun e w' => e = .returned (.int .i64 (bh : Int)) ∧ Below X.heap.size X w' ∧ Ms w' x gb tb qb pb ib what bh on ∧ Below w.heap.size w w') := fun X hX => by
    refine (next_0 hbh X (HM.out.below hX)).mono ?_
    rintro e w3 ⟨rfl, hb⟩
    exact ⟨rfl, hb, (HM.out.below hX).below hb, hX.trans (hb.mono hX.size)⟩
  clear h HM
  have hw1 : IntKind.i64.wrap ((bh : Int) + 1) = (bh : Int) + 1 := IntWalk.i64_in _ (by omega)
  have x1d : w.drew.cell? ⟨x, 1, none⟩ = some (.slice (some ⟨gb, 0, none⟩) 1 1) := x1
  go_enter Try.func34, Try.ntmps34
  go_wp2_with fail
  go_region_with (first | (go_at_call 25; refine (HN.out _ (Below.refl _ _).drew).mono ?_; rintro e w3 ⟨rfl, hb3, HM3, hbw⟩; have x13 := cell_of HM3.hx 1; have g2 := cell_of HM3.hg 2; have gf := frozen_of HM3.hg 2; simp only [List.getElem?_toArray, List.getElem?_cons_succ, List.getElem?_cons_zero] at x13 g2; have HM3 := Lib.hid HM3))
  all_goals (
    go_wp2_with fail
    go_end0
    exact ⟨⟨_, rfl⟩, HM3.out.set2 _, (hbw.mono (Nat.zero_le _)).setCell (p := ⟨gb, 2, none⟩) (Nat.zero_le _) _, fun k h1 h2 => (heap_ne w3 gb 2 k _ h1).trans (hbw.block k h2)⟩)
end Go.Proofs.Ytpcogpcpdbhgkaa
