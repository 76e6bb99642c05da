/- What is made to come: the contracts of a flow's Load, Store, Add and Sleep. -/
import Derived.Test.YthjfbknmdligeaaGreatFlow1
namespace Go.Proofs.YthjfbknmdligeaaGreat
open Go Go.RowKit
set_option linter.unusedVariables false
set_option maxRecDepth 100000
set_option linter.unusedSimpArgs false

/-- Something was made to come at a flow. -/
structure CameAt (w w' : World) (c : Nat) (cs : Array Value) (T : TypeId) (com : Array Value) (q : Nat) : Prop where
  fresh : w.heap.size ≤ q
  own : Blk w' c (cs.setIfInBounds 1 (.pointer (some ⟨q, 0, none⟩))) T
  com : Blk w' q com 148
  but : But [c] w w'
/-- Something was made to come, behind which what is kept in a box follows. -/
structure CameBox (w w' : World) (c : Nat) (cs : Array Value) (T : TypeId) (com : Value → Array Value) (fv : Value) (q g : Nat) : Prop where
  at' : CameAt w w' c cs T (com (.func (.func 110) #[] #[.pointer (some ⟨g, 0, none⟩)])) q
  fresh : w.heap.size ≤ g
  box : Blk w' g #[fv] 1
  ne : g ≠ q

section
variable (w : World) (c : Nat) (cs : Array Value) (T : TypeId) (i new : Int) (h : Blk w c cs T) (hs : 2 ≤ cs.size)
include h hs

set_option maxHeartbeats 2000000 in
theorem come_nil (k ao old : Int) (d : Bool) :
    Calls Tryz.prog 92 #[.pointer (some ⟨c, 0, none⟩), .agg (accL k ao i old new d).toArray, .nilFunc] w fun e w' => (∃ v, e = .returned v) ∧ ∃ q g, CameBox w w' c cs T (fun v => comCells k ao i old new d .nilIface v false false) .nilFunc q g := by
  have c1 := h.cell 1 (Array.getElem?_eq_getElem (by omega))
  have f1 := h.fro 1
  have hlt := h.lt
  have hq := nilEq127
  have H : Hid (Blk w c cs T) := h
  clear h
  unfold accL
  go_enter Tryz.func92, Tryz.ntmps92
  go_wp2_with fail
  go_at_call 98; refine (untold_any _ _ .none).mono ?_; rintro e w1 ⟨rfl, rfl⟩
  have hlt1 : c < w.heap.size + 1 := by omega
  have hlt2 : c < w.heap.size + 1 + 1 := by omega
  go_wp2_with fail
  go_end0
  refine ⟨⟨_, rfl⟩, w.heap.size + 1 + 1, w.heap.size + 1, ⟨by omega, ?_, ?_, ?_⟩, by omega, ?_, by omega⟩
  · exact (((H.out.set 1 _).al _).al _).al _
  · have := Blk.new (((w.setCell ⟨c, 1, none⟩ (.pointer (some ⟨w.heap.size + 1 + 1, 0, none⟩))).alloc (.cells (accL k ao i old new d).toArray 48)).alloc (.cells #[.nilFunc] 1)) (comCells k ao i old new d .nilIface (.func (.func 110) #[] #[.pointer (some ⟨w.heap.size + 1, 0, none⟩)]) false false) 148
    rw [World.size_alloc, World.size_alloc, size_set] at this
    exact this
  · exact ((((But.refl _ _).set (g := c) (.inl (List.mem_singleton.2 rfl)) 1 _).alloc _).alloc _).alloc _
  · have := Blk.new ((w.setCell ⟨c, 1, none⟩ (.pointer (some ⟨w.heap.size + 1 + 1, 0, none⟩))).alloc (.cells (accL k ao i old new d).toArray 48)) #[.nilFunc] 1
    rw [World.size_alloc, size_set] at this
    exact this.al _

theorem load_come (K : Nat) (first cap : Array Value) :
    Calls Tryz.prog 83 #[.pointer (some ⟨c, 0, none⟩), .int .i64 i, .func (.func K) first cap] w fun e w' => (∃ v, e = .returned v) ∧ ∃ q, CameAt w w' c cs T (comCells 1 0 i 0 0 false .nilIface (.func (.func K) first cap) false false) q := by
  have H := come_any w c cs T 1 0 i 0 0 false K first cap h hs
  clear h
  go_enter Tryz.func83, Tryz.ntmps83
  go_wp2_with fail
  go_at_call 92; refine H.mono ?_; rintro e w1 ⟨⟨v, rfl⟩, q, h1, h2, h3, h4⟩
  go_wp2_with fail
  go_end0
  exact ⟨⟨_, rfl⟩, q, h1, h2, h3, h4⟩
theorem add_come (K : Nat) (first cap : Array Value) :
    Calls Tryz.prog 135 #[.pointer (some ⟨c, 0, none⟩), .int .i64 i, .int .u64 new, .func (.func K) first cap] w fun e w' => (∃ v, e = .returned v) ∧ ∃ q, CameAt w w' c cs T (comCells 4 0 i 0 new false .nilIface (.func (.func K) first cap) false false) q := by
  have H := come_any w c cs T 4 0 i 0 new false K first cap h hs
  clear h
  go_enter Tryz.func135, Tryz.ntmps135
  go_wp2_with fail
  go_at_call 92; refine H.mono ?_; rintro e w1 ⟨⟨v, rfl⟩, q, h1, h2, h3, h4⟩
  go_wp2_with fail
  go_end0
  exact ⟨⟨_, rfl⟩, q, h1, h2, h3, h4⟩
theorem add_come_nil :
    Calls Tryz.prog 135 #[.pointer (some ⟨c, 0, none⟩), .int .i64 i, .int .u64 new, .nilFunc] w fun e w' => (∃ v, e = .returned v) ∧ ∃ q g, CameBox w w' c cs T (fun v => comCells 4 0 i 0 new false .nilIface v false false) .nilFunc q g := by
  have H := come_nil w c cs T i new h hs 4 0 0 false
  clear h
  go_enter Tryz.func135, Tryz.ntmps135
  go_wp2_with fail
  go_at_call 92; refine H.mono ?_; rintro e w1 ⟨⟨v, rfl⟩, q, g, hC⟩
  go_wp2_with fail
  go_end0
  exact ⟨⟨_, rfl⟩, q, g, hC⟩
theorem store_come (fv : Value) (hf : Fv fv) :
    Calls Tryz.prog 114 #[.pointer (some ⟨c, 0, none⟩), .int .i64 i, .int .u64 new, fv] w fun e w' => (∃ v, e = .returned v) ∧ ∃ q g, CameBox w w' c cs T (fun v => comCells 2 0 i 0 new false .nilIface v false false) fv q g := by
  have H := come_any (w.alloc (.cells #[fv] 1)) c cs T 2 0 i 0 new false 110 #[] #[.pointer (some ⟨w.heap.size, 0, none⟩)] (h.al _) hs
  have hlt := h.lt
  clear h
  go_enter Tryz.func114, Tryz.ntmps114
  go_wp2_with fail
  go_at_call 98; refine (untold_any _ _ hf).mono ?_; rintro e w1 ⟨rfl, rfl⟩
  go_wp2_with fail
  go_at_call 92; refine H.mono ?_; rintro e w1 ⟨⟨v, rfl⟩, q, h1, h2, h3, h4⟩
  go_wp2_with fail
  go_end0
  rw [World.size_alloc] at h1
  exact ⟨⟨_, rfl⟩, q, w.heap.size, ⟨by omega, h2, h3, ((But.refl _ _).alloc _).trans h4⟩, Nat.le_refl _, (Blk.new w #[fv] 1).but h4 (by simp; omega), by omega⟩
end
end Go.Proofs.YthjfbknmdligeaaGreat
