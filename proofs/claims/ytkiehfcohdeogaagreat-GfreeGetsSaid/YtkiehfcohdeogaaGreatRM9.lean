/- The machine that gets a goroutine: how it is made, and which one it got. -/
import Derived.Test.YtkiehfcohdeogaaGreatRM6
namespace Go.Proofs.YtkiehfcohdeogaaGreat
open Go Go.RowKit
set_option linter.unusedVariables false
set_option maxRecDepth 100000
set_option linter.unusedSimpArgs false


theorem get_new (w : World) (c : Nat) (who : Int) :
    Calls Tryz.prog 11 #[.pointer (some ⟨c, 0, none⟩), .int .i64 who] w fun e w' => ∃ x x2 q2 q b, e = .returned (.pointer (some ⟨x, 0, none⟩)) ∧ Below w.heap.size w w' ∧ w.heap.size ≤ x ∧ x < x2 ∧ q2 < q ∧ q2 < b ∧ b ≠ q ∧ Blk w' x (getCells who (some ⟨q, 0, none⟩) c 0 false) 110 ∧ Blk w' q (comCells 0 0 0 0 0 false (.iface 164 (.pointer (some ⟨x2, 0, none⟩))) (.func (.func 166) #[] #[.pointer (some ⟨b, 0, none⟩)]) false false) 177 ∧ Blk w' b #[.func (.func 62) #[.pointer (some ⟨x, 0, none⟩)] #[]] 1 ∧ AcqM w' x2 q2 who (wd 0 2 3 1 0) (wd 0 2 3 1 1) (wd 0 2 3 1 2) := by
  have hB := Blk.new w #[.int .i64 0, .pointer none, .pointer none, .int .i64 0, .bool false] 110
  have hA := acquire_any _ w.heap.size c 62 who (getCells who none c 0 false) _ #[.pointer (some ⟨w.heap.size, 0, none⟩)] #[] 110 hB (by simp) rfl
  clear hB
  generalize wd 0 2 3 1 0 = tk at *
  generalize wd 0 2 3 1 1 = sv at *
  generalize wd 0 2 3 1 2 = ow at *
  have hs := World.size_alloc w (.cells #[.int .i64 0, .pointer none, .pointer none, .int .i64 0, .bool false] 110)
  have hb : Below w.heap.size w (w.alloc (.cells #[.int .i64 0, .pointer none, .pointer none, .int .i64 0, .bool false] 110)) := (Below.refl _ _).alloc (Nat.le_refl _) _
  have HH : Hid (Below w.heap.size w (w.alloc (.cells #[.int .i64 0, .pointer none, .pointer none, .int .i64 0, .bool false] 110)) ∧ (w.alloc (.cells #[.int .i64 0, .pointer none, .pointer none, .int .i64 0, .bool false] 110)).heap.size = w.heap.size + 1) := ⟨hb, hs⟩
  clear hb hs
  go_enter Tryz.func11, Tryz.ntmps11
  go_wp2_with fail
  go_at_call 61; refine hA.mono ?_; rintro e w1 ⟨⟨v, rfl⟩, x2, q2, q, b, hC, hM, h1, h2, h3⟩
  have hC1 := hC.at'.own
  have hC2 := hC.at'.com
  have hC3 := hC.box
  have hC4 := hC.ne
  have hb := HH.out.1.trans (hC.at'.but.below (by simp) (by rw [HH.out.2]; omega))
  have hx : w.heap.size < x2 := by rw [HH.out.2] at h1; omega
  clear hA hC HH h1
  go_wp2_with fail
  go_ret
  exact ⟨w.heap.size, x2, q2, q, b, rfl, hb, Nat.le_refl _, hx, h2, h3, hC4, hC1, hC2, hC3, hM⟩

theorem get_g (w : World) (x c : Nat) (who g : Int) (got : Bool) (nx : Option Addr) (h : Blk w x (getCells who nx c g got) 110) :
    Calls Tryz.prog 15 #[.pointer (some ⟨x, 0, none⟩)] w fun e w' => e = .returned (.int .i64 (if got then g else -1)) ∧ ∃ m, w' = w.drewN m := by
  have c3 := h.cell 3 (v := .int .i64 g) rfl
  have c4 := h.cell 4 (v := .bool got) rfl
  clear h
  cases got with
  | false =>
    go_enter Tryz.func15, Tryz.ntmps15
    go_wp2_with fail
    go_ret
    exact ⟨rfl, 0, rfl⟩
  | true =>
    go_enter Tryz.func15, Tryz.ntmps15
    go_wp2_with fail
    go_ret
    exact ⟨rfl, 0, rfl⟩

end Go.Proofs.YtkiehfcohdeogaaGreat
