/- The contracts of package flow's smaller functions: what a flow holds, and what is made to come. -/
import Derived.Test.YthjfbknmdligeaaGreatAcc2
namespace Go.Proofs.YthjfbknmdligeaaGreat
open Go Go.RowKit
set_option linter.unusedVariables false
set_option maxRecDepth 100000
set_option linter.unusedSimpArgs false

/-- A block that is known whole. -/
structure Blk (w : World) (c : Nat) (cs : Array Value) (T : TypeId) : Prop where
  heap : w.heap[c]? = some (.cells cs T (0, 0))
theorem Blk.lt {w : World} {c : Nat} {cs : Array Value} {T : TypeId} (h : Blk w c cs T) : c < w.heap.size := block_lt h.heap
theorem Blk.cell {w : World} {c : Nat} {cs : Array Value} {T : TypeId} (h : Blk w c cs T) (i : Nat) {v : Value} (e : cs[i]? = some v) : w.cell? ⟨c, i, none⟩ = some v := by
  simp [World.cell?, h.heap, e]
theorem Blk.fro {w : World} {c : Nat} {cs : Array Value} {T : TypeId} (h : Blk w c cs T) (i : Nat) : w.frozen? ⟨c, i, none⟩ = false := by
  simp [World.frozen?, h.heap]
theorem Blk.set {w : World} {c : Nat} {cs : Array Value} {T : TypeId} (h : Blk w c cs T) (i : Nat) (u : Value) : Blk (w.setCell ⟨c, i, none⟩ u) c (cs.setIfInBounds i u) T := ⟨heap_set h.heap i u⟩
theorem Blk.keep {w w' : World} {c : Nat} {cs : Array Value} {T : TypeId} (h : Blk w c cs T) (e : w'.heap[c]? = w.heap[c]?) : Blk w' c cs T := ⟨e.trans h.heap⟩
theorem Blk.but {w w' : World} {c : Nat} {cs : Array Value} {T : TypeId} {l : List Nat} (h : Blk w c cs T) (hb : But l w w') (hc : c ∉ l) : Blk w' c cs T := h.keep (hb.block c h.lt hc)
theorem Blk.new (w : World) (cs : Array Value) (T : TypeId) : Blk (w.alloc (.cells cs T)) w.heap.size cs T := ⟨heap_alloc_new w _⟩
theorem Blk.al {w : World} {c : Nat} {cs : Array Value} {T : TypeId} (h : Blk w c cs T) (o : Obj) : Blk (w.alloc o) c cs T := h.keep (heap_al w h.lt o)
theorem Blk.setne {w : World} {c g : Nat} {cs : Array Value} {T : TypeId} (h : Blk w c cs T) (hne : c ≠ g) (i : Nat) (u : Value) : Blk (w.setCell ⟨g, i, none⟩ u) c cs T := h.keep (heap_set_ne w hne i u)
theorem Blk.drewN {w : World} {c : Nat} {cs : Array Value} {T : TypeId} (h : Blk w c cs T) (n : Nat) : Blk (w.drewN n) c cs T := ⟨h.heap⟩
theorem Blk.drew {w : World} {c : Nat} {cs : Array Value} {T : TypeId} (h : Blk w c cs T) : Blk w.drew c cs T := ⟨h.heap⟩

/-- What comes next: an access (or a sleep), or a machine that is run, and what follows. -/
def comCells (k ao i old new : Int) (d : Bool) (run thn : Value) (asl asked : Bool) : Array Value :=
  #[.int .i64 k, .int .i64 ao, .int .i64 i, .int .u64 old, .int .u64 new, .bool d, run, thn, .bool asl, .bool asked]

theorem eqIn127 (w : World) (fuel : Nat) (f : Fn) (a b : Array Value) : (Op.equalIn (fuel + 1) 127 (.func f a b) .nilFunc).run Tryz.prog w = .ok false w := by
  simp only [Op.equalIn, Sem.run_bind, run_underlying Tryz.underlying127, Result.andThen_ok]
  rfl
theorem eq127 (w : World) (f : Fn) (a b : Array Value) : (binOp .eql 127 (.func f a b) .nilFunc).run Tryz.prog w = .ok (.bool false) w := by
  have h := eqIn127 w 9999 f a b
  simp only [binOp]
  simp [Op.equal, Op.maxDepth, h]
theorem neq127 (w : World) (f : Fn) (a b : Array Value) : (binOp .neq 127 (.func f a b) .nilFunc).run Tryz.prog w = .ok (.bool true) w := by
  have h := eqIn127 w 9999 f a b
  simp only [binOp]
  simp [Op.equal, Op.maxDepth, h]
theorem nilEqIn127 (w : World) (fuel : Nat) : (Op.equalIn (fuel + 1) 127 .nilFunc .nilFunc).run Tryz.prog w = .ok true w := by
  simp only [Op.equalIn, Sem.run_bind, run_underlying Tryz.underlying127, Result.andThen_ok]
  rfl
theorem nilEq127 (w : World) : (binOp .eql 127 .nilFunc .nilFunc).run Tryz.prog w = .ok (.bool true) w := by
  have h := nilEqIn127 w 9999
  simp only [binOp]
  simp [Op.equal, Op.maxDepth, h]
theorem nilNeq127 (w : World) : (binOp .neq 127 .nilFunc .nilFunc).run Tryz.prog w = .ok (.bool false) w := by
  have h := nilEqIn127 w 9999
  simp only [binOp]
  simp [Op.equal, Op.maxDepth, h]

theorem eqIn1 (w : World) (fuel : Nat) (f : Fn) (a b : Array Value) : (Op.equalIn (fuel + 1) 1 (.func f a b) .nilFunc).run Tryz.prog w = .ok false w := by
  simp only [Op.equalIn, Sem.run_bind, run_underlying Tryz.underlying1, Result.andThen_ok]
  rfl
theorem eq1 (w : World) (f : Fn) (a b : Array Value) : (binOp .eql 1 (.func f a b) .nilFunc).run Tryz.prog w = .ok (.bool false) w := by
  have h := eqIn1 w 9999 f a b
  simp only [binOp]
  simp [Op.equal, Op.maxDepth, h]
theorem neq1 (w : World) (f : Fn) (a b : Array Value) : (binOp .neq 1 (.func f a b) .nilFunc).run Tryz.prog w = .ok (.bool true) w := by
  have h := eqIn1 w 9999 f a b
  simp only [binOp]
  simp [Op.equal, Op.maxDepth, h]
theorem nilEqIn1 (w : World) (fuel : Nat) : (Op.equalIn (fuel + 1) 1 .nilFunc .nilFunc).run Tryz.prog w = .ok true w := by
  simp only [Op.equalIn, Sem.run_bind, run_underlying Tryz.underlying1, Result.andThen_ok]
  rfl
theorem nilEq1 (w : World) : (binOp .eql 1 .nilFunc .nilFunc).run Tryz.prog w = .ok (.bool true) w := by
  have h := nilEqIn1 w 9999
  simp only [binOp]
  simp [Op.equal, Op.maxDepth, h]
theorem nilNeq1 (w : World) : (binOp .neq 1 .nilFunc .nilFunc).run Tryz.prog w = .ok (.bool false) w := by
  have h := nilEqIn1 w 9999
  simp only [binOp]
  simp [Op.equal, Op.maxDepth, h]

theorem fof_any (w : World) (c : Nat) (cs : Array Value) (T : TypeId) (who : Int) (h : Blk w c cs T) (hs : 2 ≤ cs.size) :
    Calls Tryz.prog 38 #[.pointer (some ⟨c, 0, none⟩), .int .i64 who] w fun e w' => (∃ v, e = .returned v) ∧ w' = w.setCell ⟨c, 0, none⟩ (.int .i64 who) := by
  have c0 := h.cell 0 (Array.getElem?_eq_getElem (by omega))
  have f0 := h.fro 0
  clear h
  go_enter Tryz.func38, Tryz.ntmps38
  go_wp2_with fail
  go_end0
  exact ⟨⟨_, rfl⟩, rfl⟩

theorem fdone_any (w : World) (c : Nat) (nx : Option Addr) (hc : w.cell? ⟨c, 1, none⟩ = some (.pointer nx)) :
    Calls Tryz.prog 78 #[.pointer (some ⟨c, 0, none⟩)] w fun e w' => e = .returned (.bool nx.isNone) ∧ w = w' := by
  go_enter Tryz.func78, Tryz.ntmps78
  go_wp2_with fail
  go_ret
  exact ⟨ret_bool (by cases nx <;> simp), rfl⟩

/-- A value of a function. -/
inductive Fv : Value → Prop
  | none : Fv .nilFunc
  | some (K : Nat) (first cap : Array Value) : Fv (.func (.func K) first cap)
theorem untold_any (w : World) (fv : Value) (h : Fv fv) :
    Calls Tryz.prog 98 #[fv] w fun e w' => e = .returned (.func (.func 110) #[] #[.pointer (some ⟨w.heap.size, 0, none⟩)]) ∧ w' = w.alloc (.cells #[fv] 1) := by
  cases h <;>
  · go_enter Tryz.func98, Tryz.ntmps98
    go_wp2_with fail
    go_ret
    exact ⟨rfl, rfl⟩

theorem come_any (w : World) (c : Nat) (cs : Array Value) (T : TypeId) (k ao i old new : Int) (d : Bool) (K : Nat) (first cap : Array Value) (h : Blk w c cs T) (hs : 2 ≤ cs.size) :
    Calls Tryz.prog 92 #[.pointer (some ⟨c, 0, none⟩), .agg (accL k ao i old new d).toArray, .func (.func K) first cap] w fun e w' => (∃ v, e = .returned v) ∧ ∃ q, w.heap.size ≤ q ∧ Blk w' c (cs.setIfInBounds 1 (.pointer (some ⟨q, 0, none⟩))) T ∧ Blk w' q (comCells k ao i old new d .nilIface (.func (.func K) first cap) false false) 148 ∧ But [c] w w' := by
  have c1 := h.cell 1 (Array.getElem?_eq_getElem (by omega))
  have f1 := h.fro 1
  have hlt := h.lt
  have hq := eq127
  have H : Hid (Blk w c cs T) := h
  clear h
  unfold accL
  go_enter Tryz.func92, Tryz.ntmps92
  go_wp2_with fail
  go_end0
  refine ⟨⟨_, rfl⟩, w.heap.size + 1, by omega, ?_, ?_, ?_⟩
  · exact ((H.out.set 1 _).al _).al _
  · have := Blk.new ((w.setCell ⟨c, 1, none⟩ (.pointer (some ⟨w.heap.size + 1, 0, none⟩))).alloc (.cells (accL k ao i old new d).toArray 48)) (comCells k ao i old new d .nilIface (.func (.func K) first cap) false false) 148
    rw [World.size_alloc, size_set] at this
    exact this
  · exact (((But.refl _ _).set (g := c) (.inl (List.mem_singleton.2 rfl)) 1 _).alloc _).alloc _
end Go.Proofs.YthjfbknmdligeaaGreat
