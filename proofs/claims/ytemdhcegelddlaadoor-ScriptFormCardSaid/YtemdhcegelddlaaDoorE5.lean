/- The page's example. -/
import Derived.Test.YtemdhcegelddlaaDoorSD
namespace Go.Proofs.YtemdhcegelddlaaDoor
open Go Go.RowKit
set_option linter.unusedVariables false
set_option linter.unusedSimpArgs false

theorem text0 : wrS [⟨1, 1⟩, ⟨1, 1⟩, ⟨3, 0⟩] = [115, 116, 101, 112, 32, 49, 32, 120, 32, 50, 10, 116, 105, 99, 107, 10] := by
  simp [wrS, grp, same1, wrR, lnR, ahead, behind, kwS, Lib.decDigits_one]

set_option maxRecDepth 100000 in
theorem awake_any (w : World) (hT : Tab w) : Calls Tryd.prog 11 #[] w fun e w' => e = .returned (.bool true) ∧ Below w.heap.size w w' := by
  have HA := Lib.hid ((Below.refl w.heap.size w).alloc (Nat.le_refl _) (.cells #[.int .i64 1, .int .i64 1, .int .i64 1, .int .i64 1, .int .i64 3, .int .i64 0] 36))
  have hS : Sees (w.alloc (.cells #[.int .i64 1, .int .i64 1, .int .i64 1, .int .i64 1, .int .i64 3, .int .i64 0] 36)) w.heap.size (some ⟨w.heap.size, 0, none⟩) [⟨1, 1⟩, ⟨1, 1⟩, ⟨3, 0⟩] := fun _ => ⟨0, rfl, fun j hj => by
    rw [cell_blk (heap_alloc_new _ _), cell_blk (heap_alloc_new _ _)]
    obtain rfl | rfl | rfl : j = 0 ∨ j = 1 ∨ j = 2 := by simp at hj; omega
    all_goals exact ⟨rfl, rfl⟩⟩
  have HW := Lib.hid (write_en _ (hT.below HA.out hT.size) w.heap.size (some ⟨w.heap.size, 0, none⟩) 3 [⟨1, 1⟩, ⟨1, 1⟩, ⟨3, 0⟩] 3 rfl (by omega) (by omega) hS)
  rw [text0, show bA [115, 116, 101, 112, 32, 49, 32, 120, 32, 50, 10, 116, 105, 99, 107, 10] = ⟨#[115, 116, 101, 112, 32, 49, 32, 120, 32, 50, 10, 116, 105, 99, 107, 10]⟩ from rfl] at HW
  have hok : oksS [⟨1, 1⟩, ⟨1, 1⟩, ⟨3, 0⟩] := by decide
  clear hS hT
  go_enter Tryd.func11, Tryd.ntmps11
  go_wp2_with fail
  go_at_call 14
  refine HW.out.mono ?_
  rintro e w1 ⟨(⟨-, rfl⟩ | ⟨hn, -⟩), hb⟩
  · have HB := Lib.hid (HA.out.trans (hb.mono HA.out.size))
    clear hb HW hok
    go_wp2_with fail
    go_ret
    exact ⟨rfl, HB.out⟩
  · exact absurd hok hn
end Go.Proofs.YtemdhcegelddlaaDoor
