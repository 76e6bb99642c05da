/- The page's model: the next instruction itself; whether it runs and obeys. -/
import Derived.Test.YtpcogpcpdbhgkaaN7
namespace Go.Proofs.Ytpcogpcpdbhgkaa
open Go Go.RowKit
set_option linter.unusedVariables false
set_option linter.unusedSimpArgs false
variable {x gb tb qb pb ib : Nat} {what : Int} {bh : Nat} {on : Bool}

theorem Next_0 (hbh : bh ≤ 100) (w : World) (h : Ms w x gb tb qb pb ib what bh on) : Calls Try.prog 12 #[.pointer (some ⟨x, 0, none⟩), .int .i64 0] w fun e w' => e = .returned (.agg #[.int .i64 (kindAt bh), .int .i64 0]) ∧ Below w.heap.size w w' := by
  have hxl := block_lt h.hx
  have hgl := block_lt h.hg
  have HA : Hid (∀ X, Below w.heap.size w X → Calls Try.prog 24 #[.pointer (some ⟨x, 0, none⟩), .int .i64 0, .int .i64 (bh : Int)] X fun e w' => e = .returned (.agg #[.int .i64 (kindAt bh), .int .i64 0]) ∧ Below X.heap.size X w') := fun X hX => at_0 bh hbh X (h.below hX)
  have HN : Hid (∀ X, Below w.heap.size w X → Calls Try.prog 25 #[.pointer (some ⟨x, 0, none⟩), .int .i64 0] X fun e w' => e = .returned (.int .i64 (bh : Int)) ∧ Below X.heap.size X w') := fun X hX => next_0 hbh X (h.below hX)
  have HH : Hid (∀ X, Below w.heap.size w X → Calls Try.prog 17 #[.pointer (some ⟨x, 0, none⟩), .int .i64 0] X fun e w' => e = .returned (.bool true) ∧ X = w') := fun X hX => has_0 X (h.below hX)
  have BA : Below w.heap.size w (w.alloc (.cells #[.int .i64 0, .int .i64 0] 39)) := (Below.refl _ w).alloc (Nat.le_refl _) _
  have RA : (w.alloc (.cells #[.int .i64 0, .int .i64 0] 39)).heap[w.heap.size]? = some (.cells #[.int .i64 0, .int .i64 0] 39 (0, 0)) := heap_alloc_new _ _
  have x1 := (BA.cell (p := ⟨x, 1, none⟩) hxl).trans (cell_of h.hx 1)
  have g1 := (BA.cell (p := ⟨gb, 1, none⟩) hgl).trans (cell_of h.hg 1)
  simp only [List.getElem?_toArray, List.getElem?_cons_succ, List.getElem?_cons_zero] at x1 g1
  generalize kindAt bh = K at *
  clear h
  go_enter Try.func12, Try.ntmps12
  go_wp2_with fail
  go_at_call 17
  generalize w.alloc (.cells #[.int .i64 0, .int .i64 0] 39) = W at *
  refine (HH.out W BA).mono ?_
  rintro e w1 ⟨rfl, rfl⟩
  have hH : W.drew.cell? ⟨x, 1, none⟩ = some (.slice (some ⟨gb, 0, none⟩) 1 1) ∧ W.drew.cell? ⟨gb, 1, none⟩ = some (.int .i64 0) ∧ (∃ v0 v1, W.drew.heap[w.heap.size]? = some (.cells #[v0, v1] 39 (0, 0))) ∧ Below w.heap.size w W.drew := ⟨x1, g1, ⟨_, _, RA⟩, BA.drew⟩
  have KEEP : Hid (∀ X w' : World, (X.cell? ⟨x, 1, none⟩ = some (.slice (some ⟨gb, 0, none⟩) 1 1) ∧ X.cell? ⟨gb, 1, none⟩ = some (.int .i64 0) ∧ (∃ v0 v1, X.heap[w.heap.size]? = some (.cells #[v0, v1] 39 (0, 0))) ∧ Below w.heap.size w X) → Below X.heap.size X w' → (w'.cell? ⟨x, 1, none⟩ = some (.slice (some ⟨gb, 0, none⟩) 1 1) ∧ w'.cell? ⟨gb, 1, none⟩ = some (.int .i64 0) ∧ (∃ v0 v1, w'.heap[w.heap.size]? = some (.cells #[v0, v1] 39 (0, 0))) ∧ Below w.heap.size w w')) := by
    rintro X w' ⟨e1, e2, ⟨v0, v1, e4⟩, e3⟩ hb
    have := e3.size
    have hr := block_lt e4
    exact ⟨(hb.cell (by show x < _; omega)).trans e1, (hb.cell (by show gb < _; omega)).trans e2, ⟨v0, v1, (hb.block _ hr).trans e4⟩, e3.trans (hb.mono this)⟩
  have KEEP2 : Hid (∀ (X : World) (u0 u1 : Value), (X.cell? ⟨x, 1, none⟩ = some (.slice (some ⟨gb, 0, none⟩) 1 1) ∧ X.cell? ⟨gb, 1, none⟩ = some (.int .i64 0) ∧ (∃ v0 v1, X.heap[w.heap.size]? = some (.cells #[v0, v1] 39 (0, 0))) ∧ Below w.heap.size w X) → (((X.setCell ⟨w.heap.size, 0, none⟩ u0).setCell ⟨w.heap.size, 1, none⟩ u1).cell? ⟨x, 1, none⟩ = some (.slice (some ⟨gb, 0, none⟩) 1 1) ∧ ((X.setCell ⟨w.heap.size, 0, none⟩ u0).setCell ⟨w.heap.size, 1, none⟩ u1).cell? ⟨gb, 1, none⟩ = some (.int .i64 0) ∧ (∃ v0 v1, ((X.setCell ⟨w.heap.size, 0, none⟩ u0).setCell ⟨w.heap.size, 1, none⟩ u1).heap[w.heap.size]? = some (.cells #[v0, v1] 39 (0, 0))) ∧ Below w.heap.size w ((X.setCell ⟨w.heap.size, 0, none⟩ u0).setCell ⟨w.heap.size, 1, none⟩ u1))) := by
    rintro X u0 u1 ⟨e1, e2, ⟨v0, v1, e4⟩, e3⟩
    have hb : Below w.heap.size X ((X.setCell ⟨w.heap.size, 0, none⟩ u0).setCell ⟨w.heap.size, 1, none⟩ u1) := ((Below.refl _ X).setCell (p := ⟨w.heap.size, 0, none⟩) (Nat.le_refl _) _).setCell (p := ⟨w.heap.size, 1, none⟩) (Nat.le_refl _) _
    exact ⟨(hb.cell hxl).trans e1, (hb.cell hgl).trans e2, ⟨u0, u1, heap_set (heap_set e4 0 u0) 1 u1⟩, e3.trans hb⟩
  have HN2 : Hid (∀ X : World, (X.cell? ⟨x, 1, none⟩ = some (.slice (some ⟨gb, 0, none⟩) 1 1) ∧ X.cell? ⟨gb, 1, none⟩ = some (.int .i64 0) ∧ (∃ v0 v1, X.heap[w.heap.size]? = some (.cells #[v0, v1] 39 (0, 0))) ∧ Below w.heap.size w X) → Calls Try.prog 25 #[.pointer (some ⟨x, 0, none⟩), .int .i64 0] X fun e w' => e = .returned (.int .i64 (bh : Int)) ∧ Below X.heap.size X w') := fun X hS => HN.out X hS.2.2.2
  have HA2 : Hid (∀ X : World, (X.cell? ⟨x, 1, none⟩ = some (.slice (some ⟨gb, 0, none⟩) 1 1) ∧ X.cell? ⟨gb, 1, none⟩ = some (.int .i64 0) ∧ (∃ v0 v1, X.heap[w.heap.size]? = some (.cells #[v0, v1] 39 (0, 0))) ∧ Below w.heap.size w X) → Calls Try.prog 24 #[.pointer (some ⟨x, 0, none⟩), .int .i64 0, .int .i64 (bh : Int)] X fun e w' => e = .returned (.agg #[.int .i64 K, .int .i64 0]) ∧ Below X.heap.size X w' ∧ Below w.heap.size w w' ∧ ∃ v0 v1, w'.heap[w.heap.size]? = some (.cells #[v0, v1] 39 (0, 0))) := fun X hS => by
    refine (HA.out X hS.2.2.2).mono ?_
    rintro e w3 ⟨rfl, hb3⟩
    have hS3 := KEEP.out _ _ hS hb3
    exact ⟨rfl, hb3, hS3.2.2.2, hS3.2.2.1⟩
  clear x1 g1 RA HH HA HN
  go_wp2_with fail
  go_region_held3 (fun w' : World => w'.cell? ⟨x, 1, none⟩ = some (.slice (some ⟨gb, 0, none⟩) 1 1) ∧ w'.cell? ⟨gb, 1, none⟩ = some (.int .i64 0) ∧ (∃ v0 v1, w'.heap[w.heap.size]? = some (.cells #[v0, v1] 39 (0, 0))) ∧ Below w.heap.size w w') (first | (with_reducible exact hH) | (with_reducible assumption) | exact KEEP.out _ _ ‹_› ‹_› | exact KEEP2.out _ _ _ ‹_›)
    (first | (go_at_call 25; refine (HN2.out _ ‹_›).mono ?_; rintro e w3 ⟨rfl, hb3⟩) | (go_at_call 24; refine (HA2.out _ ‹_›).mono ?_; rintro e w3 ⟨rfl, hb3, hbw, v0, v1, q⟩; have q0 := cell_of q 0; have q1 := cell_of q 1; have f0 := frozen_of q 0; have f1 := frozen_of q 1; simp only [List.getElem?_toArray, List.getElem?_cons_succ, List.getElem?_cons_zero] at q0 q1))
  all_goals (
    go_wp2
    exact bodyPost_ret (v := .agg #[.int .i64 K, .int .i64 0]) (results_cell_row rfl _ _ w.heap.size 39 #[.int .i64 K, .int .i64 0] (0, 0) _ rfl (heap_set (heap_set q 0 (.int .i64 K)) 1 (.int .i64 0)) Try.underlying39 rfl (by kernel_rfl)) rfl ⟨rfl, (hbw.setCell (p := ⟨w.heap.size, 0, none⟩) (Nat.le_refl _) _).setCell (p := ⟨w.heap.size, 1, none⟩) (Nat.le_refl _) _⟩)

theorem quiet_here {P : Program} {f : FuncId} {args : Array Value} {w : World} {n : Nat} {v : Value} (h : Calls P f args (w.drewN n) fun e w' => e = .returned v ∧ w.drewN n = w') :
    Calls P f args (w.drewN n) fun e w'' => e = .returned v ∧ ∃ m, w'' = w.drewN m := h.mono fun _ _ ⟨he, hm⟩ => ⟨he, n, hm.symm⟩

theorem Ms.drewN {w : World} {behind : Int} (h : Ms w x gb tb qb pb ib what behind on) (n : Nat) : Ms (w.drewN n) x gb tb qb pb ib what behind on := h.below (below_drewN (Below.refl _ _) n)
/-- an event of the page: of the goroutine 0, by thread 0, with processor 0 -/
def ev (k o : Int) : Value := .agg #[.int .i64 k, .int .i64 0, .int .i64 o, .int .i64 0, .int .i64 0]
theorem runs_on (k o : Int) (w : World) (h : Ms w x gb tb qb pb ib 2 bh true) : Calls Try.prog 21 #[.pointer (some ⟨x, 0, none⟩), ev k o] w fun e w' => e = .returned (.bool true) ∧ Below w.heap.size w w' := by
  have BA : Below w.heap.size w (w.alloc (.cells #[.int .i64 k, .int .i64 0, .int .i64 o, .int .i64 0, .int .i64 0] 25)) := (Below.refl _ w).alloc (Nat.le_refl _) _
  have HM := h.below BA
  have x2 := cell_of HM.hx 2
  have x3 := cell_of HM.hx 3
  simp only [List.getElem?_toArray, List.getElem?_cons_succ, List.getElem?_cons_zero] at x2 x3
  have RA : (w.alloc (.cells #[.int .i64 k, .int .i64 0, .int .i64 o, .int .i64 0, .int .i64 0] 25)).heap[w.heap.size]? = some (.cells #[.int .i64 k, .int .i64 0, .int .i64 o, .int .i64 0, .int .i64 0] 25 (0, 0)) := heap_alloc_new _ _
  have r1 := cell_of RA 1
  have r3 := cell_of RA 3
  have r4 := cell_of RA 4
  simp only [List.getElem?_toArray, List.getElem?_cons_succ, List.getElem?_cons_zero] at r1 r3 r4
  unfold ev
  have HI : Hid (∀ n, Calls Try.prog 19 #[.pointer (some ⟨x, 0, none⟩), .int .i64 0, .int .i64 2] ((w.alloc (.cells #[.int .i64 k, .int .i64 0, .int .i64 o, .int .i64 0, .int .i64 0] 25)).drewN n) fun e w' => e = .returned (.bool true) ∧ ((w.alloc (.cells #[.int .i64 k, .int .i64 0, .int .i64 o, .int .i64 0, .int .i64 0] 25)).drewN n) = w') := fun n => is_0 2 _ (HM.drewN n)
  have HT : Hid (∀ n, Calls Try.prog 30 #[.map (some tb), .int .i64 0, .int .i64 0] ((w.alloc (.cells #[.int .i64 k, .int .i64 0, .int .i64 o, .int .i64 0, .int .i64 0] 25)).drewN n) fun e w' => e = .returned (.bool true) ∧ ((w.alloc (.cells #[.int .i64 k, .int .i64 0, .int .i64 o, .int .i64 0, .int .i64 0] 25)).drewN n) = w') := fun n => by_any tb _ (HM.drewN n).ht
  have HQ : Hid (∀ n, Calls Try.prog 30 #[.map (some qb), .int .i64 0, .int .i64 0] ((w.alloc (.cells #[.int .i64 k, .int .i64 0, .int .i64 o, .int .i64 0, .int .i64 0] 25)).drewN n) fun e w' => e = .returned (.bool true) ∧ ((w.alloc (.cells #[.int .i64 k, .int .i64 0, .int .i64 o, .int .i64 0, .int .i64 0] 25)).drewN n) = w') := fun n => by_any qb _ (HM.drewN n).hq
  clear h HM RA
  go_enter Try.func21, Try.ntmps21
  go_wp2_with fail
  generalize w.alloc (.cells #[.int .i64 k, .int .i64 0, .int .i64 o, .int .i64 0, .int .i64 0] 25) = W at *
  go_quiet (first | (go_at_call 19; exact quiet_here (HI.out _)) | (go_at_call 30; with_reducible exact quiet_here (HT.out _)) | (go_at_call 30; with_reducible exact quiet_here (HQ.out _)))
  go_wp2
  go_ret
  exact ⟨rfl, below_drewN BA _⟩
end Go.Proofs.Ytpcogpcpdbhgkaa
