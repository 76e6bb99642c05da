/- The list of idle threads: its machines. -/
import Derived.Test.YthjfbknmdligeaaGreatIl0
import Derived.Test.YthjfbknmdligeaaGreatRunD
namespace Go.Proofs.YthjfbknmdligeaaGreat
open Go Go.RowKit
set_option linter.unusedVariables false
set_option maxRecDepth 100000
set_option linter.unusedSimpArgs false

section
variable (w : World) (x c : Nat) (cs : Array Value) (T : TypeId) (h : Blk w x cs T) (hs : 2 ≤ cs.size) (h2 : cs[2]? = some (.pointer (some ⟨c, 0, none⟩)))
include h hs h2
theorem im_load (i : Int) (hi : 6 ≤ i ∧ i ≤ 19) (K : Nat) :
    Calls Tryz.prog 170 #[.pointer (some ⟨x, 0, none⟩), .int .i64 i, .func (.func K) #[.pointer (some ⟨x, 0, none⟩)] #[]] w fun e w' => (∃ v, e = .returned v) ∧ Came w w' x cs T (axLd i) (.told K) := by
  have H := came_load w.drew x cs T h.drew hs i K
  have c2 := h.cell 2 h2
  have hW := il_word w.drew c i hi
  clear h hs h2 hi
  go_enter Tryz.func170, Tryz.ntmps170
  go_wp2_with fail
  go_region_with (first | (go_at_call 84; refine hW.mono ?_; rintro e w3 ⟨rfl, rfl⟩) | (go_at_call 83; refine H.mono ?_; rintro e w1 ⟨⟨v, rfl⟩, hC⟩))
  all_goals
    have hC2 := hC.undrew
    clear hW H c2 hC
    go_wp2_with fail
    go_end0
    exact ⟨⟨_, rfl⟩, hC2⟩
theorem im_store (i : Int) (hi : 6 ≤ i ∧ i ≤ 19) (u : Int) (K : Nat) :
    Calls Tryz.prog 191 #[.pointer (some ⟨x, 0, none⟩), .int .i64 i, .int .u64 u, .func (.func K) #[.pointer (some ⟨x, 0, none⟩)] #[]] w fun e w' => (∃ v, e = .returned v) ∧ Came w w' x cs T (axSt i u) (.untold K) := by
  have H := came_store w.drew x cs T h.drew hs i u K
  have c2 := h.cell 2 h2
  have hW := il_word w.drew c i hi
  clear h hs h2 hi
  go_enter Tryz.func191, Tryz.ntmps191
  go_wp2_with fail
  go_region_with (first | (go_at_call 84; refine hW.mono ?_; rintro e w3 ⟨rfl, rfl⟩) | (go_at_call 114; refine H.mono ?_; rintro e w1 ⟨⟨v, rfl⟩, hC⟩))
  all_goals
    have hC2 := hC.undrew
    clear hW H c2 hC
    go_wp2_with fail
    go_end0
    exact ⟨⟨_, rfl⟩, hC2⟩
theorem im_count (u : Int) :
    Calls Tryz.prog 200 #[.pointer (some ⟨x, 0, none⟩), .int .u64 u] w fun e w' => (∃ v, e = .returned v) ∧ Came w w' x cs T (axAd 12 u) .nil := by
  have H := came_add_nil w.drew x cs T h.drew hs 12 u
  have c2 := h.cell 2 h2
  have hW := il_word w.drew c 12 (by omega)
  clear h hs h2
  go_enter Tryz.func200, Tryz.ntmps200
  go_wp2_with fail
  go_region_with (first | (go_at_call 84; refine hW.mono ?_; rintro e w3 ⟨rfl, rfl⟩) | (go_at_call 135; refine H.mono ?_; rintro e w1 ⟨⟨v, rfl⟩, hC⟩))
  all_goals
    have hC2 := hC.undrew
    clear hW H c2 hC
    go_wp2_with fail
    go_end0
    exact ⟨⟨_, rfl⟩, hC2⟩
omit hs in
theorem im_behind (P T' G p : Int) (h3 : cs[3]? = some (.int .i64 p)) (hl : Lay w c P T' G) (hp : 0 ≤ P ∧ P ≤ 64) (hT : 0 ≤ T' ∧ T' ≤ 65536) :
    Calls Tryz.prog 181 #[.pointer (some ⟨x, 0, none⟩)] w fun e w' => e = .returned (.int .i64 (wd (20 + P * 264) T' 3 p 2)) ∧ Below w.heap.size w w' := by
  have c2 := h.cell 2 h2
  have c3 := h.cell 3 h3
  have hW := lthr_any _ P T' G p 2 w.drew (.some c (hl.below ((Below.refl _ _).drew) hl.lt)) hp hT
  clear h h2 h3 hl hp hT
  go_enter Tryz.func181, Tryz.ntmps181
  go_wp2_with fail
  go_region_with (first | (go_at_call 30; refine hW.mono ?_; rintro e w1 ⟨rfl, h1⟩))
  all_goals
    have h1' := (Below.refl _ w).drew.trans h1
    clear hW h1 c2 c3
    go_wp2_with fail
    go_ret
    exact ⟨rfl, h1'⟩
end
theorem im_of (w : World) (x c : Nat) (who : Int) (cs cs' : Array Value) (T : TypeId) (h : Blk w x cs T) (hs : 3 ≤ cs.size) (hcs : (cs.setIfInBounds 2 (.pointer (some ⟨c, 0, none⟩))).setIfInBounds 0 (.int .i64 who) = cs') :
    Calls Tryz.prog 169 #[.pointer (some ⟨x, 0, none⟩), .pointer (some ⟨c, 0, none⟩), .int .i64 who] w fun e w' => (∃ v, e = .returned v) ∧ Blk w' x cs' T ∧ But [x] w w' ∧ w'.heap.size = w.heap.size := by
  have f2 := h.fro 2
  have hh2 := h.set 2 (.pointer (some ⟨c, 0, none⟩))
  have hF := fof_any _ x _ T who hh2 (by simp; omega)
  have hB0 : But [x] w (w.setCell ⟨x, 2, none⟩ (.pointer (some ⟨c, 0, none⟩))) := (But.refl _ w).set (g := x) (.inl (by simp)) 2 _
  obtain ⟨u, hu⟩ : ∃ u, w.cell? ⟨x, 2, none⟩ = some u := ⟨_, h.cell 2 (Array.getElem?_eq_getElem hs)⟩
  have HH : Hid (Blk _ x _ T ∧ But [x] w _ ∧ (w.setCell ⟨x, 2, none⟩ (.pointer (some ⟨c, 0, none⟩))).heap.size = w.heap.size) := ⟨hh2, hB0, size_set _ _ _⟩
  clear h hh2 hB0 hs
  go_enter Tryz.func169, Tryz.ntmps169
  go_wp2_with fail
  generalize w.setCell ⟨x, 2, none⟩ (.pointer (some ⟨c, 0, none⟩)) = W at *
  go_at_call 38; refine hF.mono ?_; rintro e w3 ⟨⟨v, rfl⟩, hw3⟩
  have h3 : Blk w3 x cs' T := by rw [hw3, ← hcs]; exact HH.out.1.set 0 _
  have hB3 : But [x] w w3 := by rw [hw3]; exact HH.out.2.1.set (g := x) (.inl (by simp)) 0 _
  have hs3 : w3.heap.size = w.heap.size := by rw [hw3, size_set]; exact HH.out.2.2
  clear hF hw3 HH hcs hu f2
  go_wp2_with fail
  go_end0
  exact ⟨⟨_, rfl⟩, h3, hB3, hs3⟩
def imCells (who : Int) (nx : Option Addr) (cl : Nat) (t : Int) : Array Value := #[.int .i64 who, .pointer nx, .pointer (some ⟨cl, 0, none⟩), .int .i64 t]
inductive ImT where
  | h0
  | ln (h : Int)
  | st
  | ct
  | over
def imPM (P T t : Int) : PM ImT where
  ax := fun
    | .h0 => some (axLd 11)
    | .ln h => some (axSt (wd (20 + P * 264) T 3 t 2) h)
    | .st => some (axSt 11 (ilw t))
    | .ct => some (axAd 12 1)
    | .over => none
  nx := fun
    | .h0, v => .ln v
    | .ln _, _ => .st
    | .st, _ => .ct
    | .ct, _ => .over
    | t, _ => t
end Go.Proofs.YthjfbknmdligeaaGreat
