/- The reference's routines: what one has gone through, and where it stopped; the contract of do. -/
import Derived.Test.YthjfbknmdligeaaGreatFlow1
import Derived.Test.YthjfbknmdligeaaGreatRef2
import Derived.Deep.AppendLies
namespace Go.Proofs.YthjfbknmdligeaaGreat
open Go Go.RowKit
set_option linter.unusedVariables false
set_option maxRecDepth 100000
set_option linter.unusedSimpArgs false

/-- How far a routine is. -/
structure Rn where
  used : Nat
  stop : Bool
  k : Int
  i : Int
  old : Int
  new : Int
  sleep : Bool
def rn0 : Rn := ⟨0, false, 0, 0, 0, 0, false⟩
def runCells (v : Value) (r : Rn) : Array Value := #[v, .int .i64 r.used, .bool r.stop, .int .i64 r.k, .int .i64 0, .int .i64 r.i, .int .u64 r.old, .int .u64 r.new, .bool false, .bool r.sleep]

/-- What was answered so far: a slice of the call's own. -/
structure GotOn (w : World) (A : Option Addr) (cap m : Nat) (g : Nat → Int) : Prop where
  own : w.ownsRow 0 41 1 (.slice A m cap) m (wordCells g m)
theorem GotOn.keep {w w' : World} {A : Option Addr} {cap m : Nat} {g : Nat → Int} (h : GotOn w A cap m g) (hk : ∀ b, A = some ⟨b, 0, none⟩ → w'.heap[b]? = w.heap[b]?) : GotOn w' A cap m g := by
  refine ⟨h.own.1, ?_⟩
  rcases h.own.2 with h0 | ⟨gb, cp, cur, e, hb, hh, rest⟩
  · exact .inl h0
  · cases e
    exact .inr ⟨gb, cap, cur, rfl, hb, (hk gb rfl).trans hh, rest⟩
theorem GotOn.form {w : World} {A : Option Addr} {cap m : Nat} {g : Nat → Int} (h : GotOn w A cap m g) : (A = none ∧ m = 0 ∧ cap = 0) ∨ ∃ gb, A = some ⟨gb, 0, none⟩ ∧ gb < w.heap.size := by
  rcases h.own.2 with ⟨e, h0⟩ | ⟨gb, cp, cur, e, hb, hh, rest⟩
  · cases e; exact .inl ⟨rfl, h0, rfl⟩
  · cases e; exact .inr ⟨gb, rfl, block_lt hh⟩
theorem GotOn.cell {w : World} {A : Option Addr} {cap m : Nat} {g : Nat → Int} (h : GotOn w A cap m g) {j : Nat} (hj : j < m) : ∃ gb, A = some ⟨gb, 0, none⟩ ∧ w.cell? ⟨gb, j, none⟩ = some (.int .u64 (g j)) := by
  rcases h.own.2 with ⟨e, h0⟩ | ⟨gb, cp, cur, e, hb, hh, hnc, hcm, hcs, htk⟩
  · omega
  · cases e
    refine ⟨gb, rfl, ?_⟩
    have hc := h.own.cellAt j (by omega)
    rw [wordCells_at g m j hj] at hc
    exact hc
theorem GotOn.bound {w : World} {A : Option Addr} {cap m : Nat} {g : Nat → Int} (h : GotOn w A cap m g) : m ≤ cap := by
  rcases h.own.2 with ⟨e, h0⟩ | ⟨gb, cp, cur, e, hb, hh, hnc, hcm, hcs, htk⟩
  · omega
  · cases e; exact hnc
/-- The block of what was answered is none of these. -/
def GotFar (A : Option Addr) (l : List Nat) : Prop := ∀ b, A = some ⟨b, 0, none⟩ → b ∉ l
theorem GotOn.but {w w' : World} {A : Option Addr} {cap m : Nat} {g : Nat → Int} {l : List Nat} (h : GotOn w A cap m g) (hB : But l w w') (hf : GotFar A l) : GotOn w' A cap m g :=
  h.keep fun b e => hB.block b (by rcases h.form with ⟨e0, _⟩ | ⟨gb, e0, hl⟩; rw [e0] at e; cases e; rw [e0] at e; cases e; exact hl) (hf b e)

/-- What an access answers to a routine, and how far it is then. -/
def doS (m : Nat) (r : Rn) (k i old new : Int) : Rn := if r.stop = true then r else if r.used < m then { r with used := r.used + 1 } else { r with stop := true, k := k, i := i, old := old, new := new }
def doV (m : Nat) (g : Nat → Int) (r : Rn) : Int := if r.stop = true then 0 else if r.used < m then g r.used else 0

theorem rn_six {w : World} {x : Nat} {v : Value} {r : Rn} (h : Blk w x (runCells v r) 50) (k i old new : Int) : Blk (w.setCells x 3 (accL k 0 i old new false).toArray.toList) x (runCells v { r with k := k, i := i, old := old, new := new }) 50 := by
  simp only [accL, World.setCells]
  exact (((((h.set 3 _).set 4 _).set 5 _).set 6 _).set 7 _).set 8 _
theorem rn_room {w : World} {x : Nat} {v : Value} {r : Rn} (h : Blk w x (runCells v r) 50) (k i old new : Int) : w.there x 3 (accL k 0 i old new false).toArray.size := by
  intro j hj
  have hj' : j < 6 := hj
  have hm := h.heap
  refine ⟨?_, by simp [World.frozen?, hm]⟩
  simp only [World.cell?, hm]
  have : 3 + j < (runCells v r).size := by simp [runCells]; omega
  simp [this]

set_option maxHeartbeats 1000000 in
theorem do_run (w : World) (x : Nat) (A : Option Addr) (cap m : Nat) (g : Nat → Int) (r : Rn) (k i old new : Int) (h : Blk w x (runCells (.slice A m cap) r) 50) (hG : GotOn w A cap m g) (hf : GotFar A [x]) (hm : m ≤ 1000000) (hu : r.used ≤ m) :
    Calls Tryz.prog 67 #[.pointer (some ⟨x, 0, none⟩), .agg #[.int .i64 k, .int .i64 0, .int .i64 i, .int .u64 old, .int .u64 new, .bool false]] w fun e w' => e = .returned (.int .u64 (doV m g r)) ∧ Blk w' x (runCells (.slice A m cap) (doS m r k i old new)) 50 ∧ But [x] w w' := by
  have c0 := h.cell 0 (v := .slice A m cap) rfl
  have c1 := h.cell 1 (v := .int .i64 r.used) rfl
  have c2 := h.cell 2 (v := .bool r.stop) rfl
  have f1 := h.fro 1
  have f2 := h.fro 2
  have hlt := h.lt
  have H : Hid (Blk w x (runCells (.slice A m cap) r) 50) := h
  clear h
  by_cases hs : r.stop = true
  · have e1 : doV m g r = 0 := by simp [doV, hs]
    have e2 : doS m r k i old new = r := by simp [doS, hs]
    rw [e1, e2]
    rw [hs] at c2
    clear hs e1 e2
    go_enter Tryz.func67, Tryz.ntmps67
    go_wp2_with fail
    go_ret
    exact ⟨rfl, H.out.al _, (But.refl _ _).alloc _⟩
  · have hs' : r.stop = false := by simpa using hs
    rw [hs'] at c2
    by_cases hlu : r.used < m
    · have e1 : doV m g r = g r.used := by simp [doV, hs', hlu]
      have e2 : doS m r k i old new = { r with used := r.used + 1 } := by simp [doS, hs', hlu]
      rw [e1, e2]
      obtain ⟨gb, rfl, hgc⟩ := hG.cell hlu
      have hne : gb ≠ x := fun e => hf gb rfl (by simp [e])
      have hgl := cell_lt hgc
      have hd : (r.used : Int) < (m : Int) := by omega
      generalize r.used = u at *
      generalize g u = gv at *
      clear hs hs' e1 e2 hf hG
      go_enter Tryz.func67, Tryz.ntmps67
      go_wp2_with fail
      go_quiet (fail)
      go_wp2_with fail
      go_quiet (fail)
      go_wp2_with fail
      go_ret
      refine ⟨rfl, ?_, ?_⟩
      · exact (((H.out.al _).drewN _).set 1 _).drewN _
      · exact ((((But.refl [x] w).alloc _).drewN _).set (g := x) (.inl (by simp)) 1 _).drewN _
    · have e1 : doV m g r = 0 := by simp [doV, hs', hlu]
      have e2 : doS m r k i old new = { r with stop := true, k := k, i := i, old := old, new := new } := by simp [doS, hs', hlu]
      rw [e1, e2]
      have hd : decide ((r.used : Int) < (m : Int)) = false := decide_eq_false (by omega)
      have hdn : decide (r.used < m) = false := decide_eq_false hlu
      clear hG hf e1 e2 hs hlu
      have HS : Hid (r.stop = false) := hs'
      clear hs'
      generalize hru : r.used = u at *
      have HRU : Hid (r.used = u) := hru
      clear hru
      go_enter Tryz.func67, Tryz.ntmps67
      go_wp2_with fail
      go_quiet (fail)
      have hY1 : Hid (Blk ((w.alloc (.cells #[.int .i64 k, .int .i64 0, .int .i64 i, .int .u64 old, .int .u64 new, .bool false] 48)).drewN nq) x (runCells (.slice A m cap) r) 50) := (H.out.al _).drewN _
      have hY2 : Hid (But [x] w ((w.alloc (.cells #[.int .i64 k, .int .i64 0, .int .i64 i, .int .u64 old, .int .u64 new, .bool false] 48)).drewN nq)) := ((But.refl [x] w).alloc _).drewN _
      have hY3 : Hid (Blk ((w.alloc (.cells #[.int .i64 k, .int .i64 0, .int .i64 i, .int .u64 old, .int .u64 new, .bool false] 48)).drewN nq) w.heap.size (accL k 0 i old new false).toArray 48) := (Blk.new w _ 48).drewN _
      generalize (w.alloc (.cells #[.int .i64 k, .int .i64 0, .int .i64 i, .int .u64 old, .int .u64 new, .bool false] 48)).drewN nq = Y at *
      have k2 := hY1.out.cell 2 (v := .bool r.stop) rfl
      have g2 := hY1.out.fro 2
      have hZ1 : Hid (Blk (Y.setCell ⟨x, 2, none⟩ (.bool true)) x (runCells (.slice A m cap) { r with stop := true }) 50) := hY1.out.set 2 _
      have hZ2 : Hid (But [x] w (Y.setCell ⟨x, 2, none⟩ (.bool true))) := hY2.out.set (g := x) (.inl (by simp)) 2 _
      have hZ3 : Hid ((Y.setCell ⟨x, 2, none⟩ (.bool true)).rangeAt w.heap.size 0 (accL k 0 i old new false)) := by
        intro j v e
        rw [Nat.zero_add]
        exact (hY3.out.setne (by omega) 2 _).cell j (by simpa using e)
      generalize hz : Y.setCell ⟨x, 2, none⟩ (.bool true) = Z at *
      have HT : Hid (Z.there x 3 (accL k 0 i old new false).toArray.size) := rn_room hZ1.out _ _ _ _
      clear hY1 hY2 hY3 c0 c1 c2 f1 f2
      go_wp2_with (first | (refine wpList_load_mid rfl 48 _ rfl w.heap.size 0 rfl (accL k 0 i old new false) _ hZ3.out Tryz.underlying48 rfl (by kernel_rfl) ?_; clear hZ3) | (refine wpList_store_mid rfl 48 _ _ rfl x 3 (accL k 0 i old new false).toArray rfl rfl HT.out (by kernel_rfl) (accL_one _ _ _ _ _ _) ?_; clear HT))
      go_ret
      exact ⟨rfl, (by rw [← HRU.out]; exact rn_six hZ1.out k i old new), But.sets (.inl (by simp)) _ _ hZ2.out⟩
end Go.Proofs.YthjfbknmdligeaaGreat
