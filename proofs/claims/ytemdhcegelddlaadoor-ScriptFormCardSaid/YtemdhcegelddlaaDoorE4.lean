/- report.Read of any text; the page's example. -/
import Derived.Test.YtemdhcegelddlaaDoorE3
namespace Go.Proofs.YtemdhcegelddlaaDoor
open Go Go.RowKit
set_option linter.unusedVariables false
set_option linter.unusedSimpArgs false

/-- what Read answers -/
def RdP (s : List UInt8) (w : World) (e : Ending) (w' : World) : Prop :=
  Below w.heap.size w w' ∧ ((∃ m A cp, rdS s = some m ∧ e = .returned (.tuple #[.slice A m.length cp, .int .i64 0]) ∧ w'.ownsRow w.heap.size 36 2 (.slice A m.length cp) m.length (flat m)) ∨ (rdS s = none ∧ e = .returned (.tuple #[.slice none 0 0, .int .i64 3])))

set_option maxRecDepth 100000 in
theorem read_any (s : List UInt8) (hs : s.length ≤ 1048576) (w : World) (hT : Tab w) : Calls Tryd.prog 15 #[.string (bA s)] w (RdP s w) := by
  have h4 := hT.size
  have B0 := (Below.refl w.heap.size w).alloc (Nat.le_refl _) (.cells #[.slice none 0 0] 33)
  have s0 := size_al w (.cells #[.slice none 0 0] 33)
  have HE := Lib.hid (callsIn_wide.1 (each_in s (by omega) (w.alloc (.cells #[.slice none 0 0] 33)) (hT.below B0 h4) w.heap.size (heap_alloc_new _ _) h4))
  have hz := bA_size s
  have hle : ¬ (1048576 : Int) < ((bA s).size : Int) := by rw [hz]; omega
  clear hT
  generalize bA s = S at *
  go_enter Tryd.func15, Tryd.ntmps15
  go_wp2_with fail
  go_at_call 39
  generalize (w.alloc (.cells #[.slice none 0 0] 33)) = W at *
  refine HE.out.mono ?_
  rintro e w1 ⟨hk, (⟨m, hm, rfl, hA⟩ | ⟨hm, rfl⟩)⟩
  · obtain ⟨A, cp, hb, how, hlt⟩ := hA
    have hc := cell_blk hb 0
    have HP : Hid (Below w.heap.size w w1 ∧ w1.ownsRow w.heap.size 36 2 (.slice A m.length cp) m.length (flat m)) := ⟨B0.trans (hk.below (by intro k hk; omega) (by omega)), own_base how (by omega)⟩
    clear hb how hlt hk B0 HE
    go_wp2
    go_ret2
    exact ⟨HP.out.1, .inl ⟨m, A, cp, hm, rfl, HP.out.2⟩⟩
  · have HP : Hid (Below w.heap.size w w1) := B0.trans (hk.below (by intro k hk; omega) (by omega))
    clear hk B0 HE
    go_wp2
    go_ret2
    exact ⟨HP.out, .inr ⟨hm, rfl⟩⟩

end Go.Proofs.YtemdhcegelddlaaDoor
