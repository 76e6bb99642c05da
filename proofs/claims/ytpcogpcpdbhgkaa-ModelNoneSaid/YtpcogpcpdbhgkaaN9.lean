/- The page's model: which of the page's events may be. -/
import Derived.Test.YtpcogpcpdbhgkaaN8
namespace Go.Proofs.Ytpcogpcpdbhgkaa
open Go Go.RowKit
set_option linter.unusedVariables false
set_option linter.unusedSimpArgs false
variable {x gb tb qb pb ib : Nat} {what : Int} {bh : Nat} {on : Bool}

theorem obeys_on (hbh : bh ≤ 100) (k o kd : Int) (w : World) (h : Ms w x gb tb qb pb ib 2 bh true) : Calls Try.prog 18 #[.pointer (some ⟨x, 0, none⟩), ev k o, .int .i64 kd] w fun e w' => e = .returned (.bool (kindAt bh == kd)) ∧ Below w.heap.size w w' := by
  have BA : Below w.heap.size w (w.alloc (.cells #[.int .i64 k, .int .i64 0, .int .i64 o, .int .i64 0, .int .i64 0] 25)) := (Below.refl _ w).alloc (Nat.le_refl _) _
  have HR := runs_on k o (w.alloc (.cells #[.int .i64 k, .int .i64 0, .int .i64 o, .int .i64 0, .int .i64 0] 25)) (h.below BA)
  have r1 := cell_of (heap_alloc_new w (.cells #[.int .i64 k, .int .i64 0, .int .i64 o, .int .i64 0, .int .i64 0] 25)) 1
  simp only [List.getElem?_toArray, List.getElem?_cons_succ, List.getElem?_cons_zero] at r1
  have HN : Hid (∀ X, Below w.heap.size w X → Calls Try.prog 12 #[.pointer (some ⟨x, 0, none⟩), .int .i64 0] X fun e w' => e = .returned (.agg #[.int .i64 (kindAt bh), .int .i64 0]) ∧ Below X.heap.size X w') := fun X hX => Next_0 hbh X (h.below hX)
  have hs0 : w.heap.size < (w.alloc (.cells #[.int .i64 k, .int .i64 0, .int .i64 o, .int .i64 0, .int .i64 0] 25)).heap.size := by simp
  have hfd := fun (w : World) => field_39 (.int .i64 (kindAt bh)) (.int .i64 0) w
  unfold ev at HR ⊢
  have HR2 := Lib.hid HR
  clear h HR
  generalize kindAt bh = K at *
  go_enter Try.func18, Try.ntmps18
  go_wp2_with fail
  go_at_call 21
  generalize w.alloc (.cells #[.int .i64 k, .int .i64 0, .int .i64 o, .int .i64 0, .int .i64 0] 25) = W at *
  refine HR2.out.mono ?_
  rintro e w1 ⟨rfl, hb1⟩
  have s1 := (hb1.cell (p := ⟨w.heap.size, 1, none⟩) hs0).trans r1
  have B1 : Below w.heap.size w w1 := BA.trans (hb1.mono (by omega))
  clear hb1 r1 HR2
  go_wp2_with fail
  go_at_call 12
  refine (HN.out _ B1).mono ?_
  rintro e w2 ⟨rfl, hb2⟩
  go_wp2
  go_ret
  exact ⟨rfl, B1.trans (hb2.mono B1.size)⟩

/-- the page's start may be -/
theorem alone_start (w : World) (o : Int) (h : Ms w x gb tb qb pb ib 1 bh false) : Calls Try.prog 22 #[.pointer (some ⟨x, 0, none⟩), ev 1 o] w fun e w' => e = .returned (.bool true) ∧ Below w.heap.size w w' := by
  have BA : Below w.heap.size w (w.alloc (.cells #[.int .i64 1, .int .i64 0, .int .i64 o, .int .i64 0, .int .i64 0] 25)) := (Below.refl _ w).alloc (Nat.le_refl _) _
  have HM := h.below BA
  have x2 := cell_of HM.hx 2
  have x3 := cell_of HM.hx 3
  simp only [List.getElem?_toArray, List.getElem?_cons_succ, List.getElem?_cons_zero] at x2 x3
  have RA : (w.alloc (.cells #[.int .i64 1, .int .i64 0, .int .i64 o, .int .i64 0, .int .i64 0] 25)).heap[w.heap.size]? = some (.cells #[.int .i64 1, .int .i64 0, .int .i64 o, .int .i64 0, .int .i64 0] 25 (0, 0)) := heap_alloc_new _ _
  have r0 := cell_of RA 0
  have r1 := cell_of RA 1
  have r3 := cell_of RA 3
  have r4 := cell_of RA 4
  simp only [List.getElem?_toArray, List.getElem?_cons_succ, List.getElem?_cons_zero] at r0 r1 r3 r4
  unfold ev
  have HI : Hid (∀ n, Calls Try.prog 19 #[.pointer (some ⟨x, 0, none⟩), .int .i64 0, .int .i64 1] ((w.alloc (.cells #[.int .i64 1, .int .i64 0, .int .i64 o, .int .i64 0, .int .i64 0] 25)).drewN n) fun e w' => e = .returned (.bool true) ∧ ((w.alloc (.cells #[.int .i64 1, .int .i64 0, .int .i64 o, .int .i64 0, .int .i64 0] 25)).drewN n) = w') := fun n => is_0 1 _ (HM.drewN n)
  have HT : Hid (∀ n, Calls Try.prog 31 #[.map (some tb), .int .i64 0] ((w.alloc (.cells #[.int .i64 1, .int .i64 0, .int .i64 o, .int .i64 0, .int .i64 0] 25)).drewN n) fun e w' => e = .returned (.bool true) ∧ ((w.alloc (.cells #[.int .i64 1, .int .i64 0, .int .i64 o, .int .i64 0, .int .i64 0] 25)).drewN n) = w') := fun n => free_any tb _ (HM.drewN n).ht
  have HQ : Hid (∀ n, Calls Try.prog 31 #[.map (some qb), .int .i64 0] ((w.alloc (.cells #[.int .i64 1, .int .i64 0, .int .i64 o, .int .i64 0, .int .i64 0] 25)).drewN n) fun e w' => e = .returned (.bool true) ∧ ((w.alloc (.cells #[.int .i64 1, .int .i64 0, .int .i64 o, .int .i64 0, .int .i64 0] 25)).drewN n) = w') := fun n => free_any qb _ (HM.drewN n).hq
  clear h HM RA
  go_enter Try.func22, Try.ntmps22
  go_wp2_with fail
  generalize w.alloc (.cells #[.int .i64 1, .int .i64 0, .int .i64 o, .int .i64 0, .int .i64 0] 25) = W at *
  go_quiet (first | (go_at_call 19; exact quiet_here (HI.out _)) | (go_at_call 31; with_reducible exact quiet_here (HT.out _)) | (go_at_call 31; with_reducible exact quiet_here (HQ.out _)))
  go_wp2
  go_ret
  exact ⟨rfl, below_drewN BA _⟩
/-- of what runs: the page's yield and its end, as its next instruction says -/
theorem alone_by (k kd : Int) (hk : (k = 4 ∧ kd = 3) ∨ (k = 11 ∧ kd = 0)) (hbh : bh ≤ 100) (w : World) (o : Int) (h : Ms w x gb tb qb pb ib 2 bh true) : Calls Try.prog 22 #[.pointer (some ⟨x, 0, none⟩), ev k o] w fun e w' => e = .returned (.bool (kindAt bh == kd)) ∧ Below w.heap.size w w' := by
  have BA : Below w.heap.size w (w.alloc (.cells #[.int .i64 k, .int .i64 0, .int .i64 o, .int .i64 0, .int .i64 0] 25)) := (Below.refl _ w).alloc (Nat.le_refl _) _
  have HO := obeys_on hbh k o kd (w.alloc (.cells #[.int .i64 k, .int .i64 0, .int .i64 o, .int .i64 0, .int .i64 0] 25)) (h.below BA)
  unfold ev at HO ⊢
  have HO2 := Lib.hid HO
  clear HO h
  generalize (kindAt bh == kd) = B at *
  rcases hk with ⟨rfl, rfl⟩ | ⟨rfl, rfl⟩
  · go_enter Try.func22, Try.ntmps22
    go_wp2_with fail
    go_at_call 18
    refine HO2.out.mono ?_
    rintro e w1 ⟨rfl, hb1⟩
    go_wp2
    go_ret
    exact ⟨rfl, BA.trans (hb1.mono BA.size)⟩
  · go_enter Try.func22, Try.ntmps22
    go_wp2_with fail
    go_at_call 18
    refine HO2.out.mono ?_
    rintro e w1 ⟨rfl, hb1⟩
    go_wp2
    go_ret
    exact ⟨rfl, BA.trans (hb1.mono BA.size)⟩

theorem may_of (k : Int) (hk : k = 1 ∨ k = 4 ∨ k = 11) (b : Bool) (w : World) (h : Ms w x gb tb qb pb ib what bh on)
    (HA : Hid (∀ X, Below w.heap.size w X → Calls Try.prog 22 #[.pointer (some ⟨x, 0, none⟩), ev k (-1)] X fun e w' => e = .returned (.bool b) ∧ Below X.heap.size X w')) :
    Calls Try.prog 8 #[.pointer (some ⟨x, 0, none⟩), ev k (-1)] w fun e w' => e = .returned (.bool b) ∧ Below w.heap.size w w' := by
  have BA : Below w.heap.size w (w.alloc (.cells #[.int .i64 k, .int .i64 0, .int .i64 (-1), .int .i64 0, .int .i64 0] 25)) := (Below.refl _ w).alloc (Nat.le_refl _) _
  have HH := Lib.hid (has_0 _ (h.below BA))
  unfold ev at HA ⊢
  clear h
  have HA2 := Lib.hid (HA.out _ BA)
  clear HA
  rcases hk with rfl | rfl | rfl
  · go_enter Try.func8, Try.ntmps8
    go_wp2_with fail
    go_at_call 17
    refine HH.out.mono ?_
    rintro e w1 ⟨rfl, rfl⟩
    go_wp2_with fail
    go_at_call 22
    refine HA2.out.mono ?_
    rintro e w1 ⟨rfl, hb1⟩
    go_wp2
    go_ret
    exact ⟨rfl, BA.trans (hb1.mono BA.size)⟩
  · go_enter Try.func8, Try.ntmps8
    go_wp2_with fail
    go_at_call 17
    refine HH.out.mono ?_
    rintro e w1 ⟨rfl, rfl⟩
    go_wp2_with fail
    go_at_call 22
    refine HA2.out.mono ?_
    rintro e w1 ⟨rfl, hb1⟩
    go_wp2
    go_ret
    exact ⟨rfl, BA.trans (hb1.mono BA.size)⟩
  · go_enter Try.func8, Try.ntmps8
    go_wp2_with fail
    go_at_call 17
    refine HH.out.mono ?_
    rintro e w1 ⟨rfl, rfl⟩
    go_wp2_with fail
    go_at_call 22
    refine HA2.out.mono ?_
    rintro e w1 ⟨rfl, hb1⟩
    go_wp2
    go_ret
    exact ⟨rfl, BA.trans (hb1.mono BA.size)⟩
end Go.Proofs.Ytpcogpcpdbhgkaa
