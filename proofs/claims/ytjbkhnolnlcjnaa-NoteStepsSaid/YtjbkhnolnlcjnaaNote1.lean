/- The machines of notes: their making, and what follows. -/
import Derived.Test.YtjbkhnolnlcjnaaLock1
namespace Go.Proofs.Ytjbkhnolnlcjnaa
open Go Go.RowKit
set_option linter.unusedVariables false
set_option maxRecDepth 100000
set_option linter.unusedSimpArgs false

/-- A machine of a note. -/
def slpCells (who : Int) (nx : Option Addr) (nt : Int) : Array Value := #[.int .i64 who, .pointer nx, .int .i64 nt]
/-- A thread's note. -/
def noteAt (P T t : Int) : Int := wd (20 + P * 264) T 3 t 0

theorem mof_any (w : World) (x cl : Nat) (P T G t who : Int) (Ty : TypeId) (h : Blk w x (slpCells 0 none 0) Ty) (hL : Lay w cl P T G) (hM : May P T G) (hc : cl ≠ x) :
    Calls Try.prog 84 #[.pointer (some ⟨x, 0, none⟩), .pointer (some ⟨cl, 0, none⟩), .int .i64 t, .int .i64 who] w fun e w' => (∃ v, e = .returned v) ∧ Blk w' x (slpCells who none (noteAt P T t)) Ty ∧ But [x] w w' := by
  have hF := fof_any w x _ Ty who h (by simp [slpCells])
  have hx1 : Blk (w.setCell ⟨x, 0, none⟩ (.int .i64 who)) x (slpCells who none 0) Ty := h.set 0 _
  have hT := thread_any (some ⟨cl, 0, none⟩) P T G t 0 (w.setCell ⟨x, 0, none⟩ (.int .i64 who)) (.some cl ((heap_set_ne w hc 0 _).trans hL)) (by have := hM.h; omega) (by have := hM.h; omega)
  have hB0 : But [x] w (w.setCell ⟨x, 0, none⟩ (.int .i64 who)) := (But.refl _ w).set (g := x) (.inl (by simp)) 0 _
  rw [show wd (20 + P * 264) T 3 t 0 = noteAt P T t from rfl] at hT
  generalize noteAt P T t = nt at *
  clear h hL hM
  go_enter Try.func84, Try.ntmps84
  go_wp2_with fail
  go_at_call 57; refine hF.mono ?_; rintro e w1 ⟨⟨v, rfl⟩, rfl⟩
  go_wp2_with fail
  go_at_call 88; refine hT.mono ?_; rintro e w2 ⟨rfl, h2⟩
  have hx2 := hx1.but (But.of_below (l := []) h2) (by simp)
  have c2 := hx2.cell 2 (v := .int .i64 0) rfl
  have f2 := hx2.fro 2
  have hB2 := hB0.trans (But.of_below h2)
  clear hF hT h2 hB0 hx1
  go_wp2_with fail
  go_end0
  exact ⟨⟨_, rfl⟩, hx2.set 2 _, hB2.set (g := x) (.inl (by simp)) 2 _⟩

theorem put_any (w : World) (x : Nat) (who nt u : Int) (nx : Option Addr) (Ty : TypeId) (h : Blk w x (slpCells who nx nt) Ty) :
    Calls Try.prog 89 #[.pointer (some ⟨x, 0, none⟩), .int .u64 u] w fun e w' => (∃ v, e = .returned v) ∧ ∃ q g, CameBox w w' x (slpCells who nx nt) Ty (fun v => comCells 2 0 nt 0 u false .nilIface v false false) .nilFunc q g := by
  have c2 := h.cell 2 (v := .int .i64 nt) rfl
  have hW := store_come w.drew x _ Ty nt u h.drew (by simp [slpCells]) .nilFunc .none
  clear h
  go_enter Try.func89, Try.ntmps89
  go_wp2_with fail
  go_region_with (go_at_call 81; refine hW.mono ?_; rintro e w4 ⟨⟨v, rfl⟩, q, g, hC⟩)
  all_goals
    clear hW c2
    go_wp2_with fail
    go_end0
    exact ⟨⟨_, rfl⟩, q, g, hC.undrew⟩
theorem clear_any (w : World) (x : Nat) (who nt : Int) (a : Value) (nx : Option Addr) (h : Blk w x (slpCells who nx nt) 133) :
    Calls Try.prog 86 #[.pointer (some ⟨x, 0, none⟩), a] w fun e w' => (∃ v, e = .returned v) ∧ ∃ q g, CameBox w w' x (slpCells who nx nt) 133 (fun v => comCells 2 0 nt 0 0 false .nilIface v false false) .nilFunc q g := by
  have hP := put_any w x who nt 0 nx 133 h
  clear h
  go_enter Try.func86, Try.ntmps86
  go_wp2_with fail
  go_at_call 89; refine hP.mono ?_; rintro e w1 ⟨⟨v, rfl⟩, q, g, hC⟩
  go_wp2_with fail
  go_end0
  exact ⟨⟨_, rfl⟩, q, g, hC⟩

theorem note_new (w : World) (cl : Nat) (P T G t : Int) (hL : Lay w cl P T G) (hM : May P T G) :
    Calls Try.prog 46 #[.pointer (some ⟨cl, 0, none⟩), .int .i64 t] w fun e w' => ∃ x q, e = .returned (.pointer (some ⟨x, 0, none⟩)) ∧ Blk w' x (slpCells t (some ⟨q, 0, none⟩) (noteAt P T t)) 133 ∧ Blk w' q (comCells 0 0 (noteAt P T t) 0 0 false .nilIface (.func (.func 86) #[.pointer (some ⟨x, 0, none⟩)] #[]) false false) 150 ∧ Below w.heap.size w w' ∧ w.heap.size ≤ x ∧ x < q := by
  have hB := Blk.new w (slpCells 0 none 0) 133
  have hO := mof_any _ w.heap.size cl P T G t t 133 hB (hL.below ((Below.refl _ _).alloc (Nat.le_refl _) _) hL.lt) hM (by have := hL.lt; omega)
  have hb1 : Below w.heap.size w (w.alloc (.cells (slpCells 0 none 0) 133)) := (Below.refl _ _).alloc (Nat.le_refl _) _
  generalize noteAt P T t = nt at *
  clear hL hM hB
  go_enter Try.func46, Try.ntmps46
  go_wp2_with fail
  go_at_call 84; refine hO.mono ?_; rintro e w1 ⟨⟨v, rfl⟩, hx, hB⟩
  have hb2 : Below w.heap.size w w1 := hb1.trans (hB.below (by simp) (by simp))
  have c2 := hx.cell 2 (v := .int .i64 nt) rfl
  have hlt := hx.lt
  obtain ⟨x, hxs⟩ : ∃ x, w.heap.size = x := ⟨_, rfl⟩
  rw [hxs] at hx c2 hlt ⊢
  have hC := sleep_come w1.drew x _ 133 nt hx.drew (by simp [slpCells]) 86 #[.pointer (some ⟨x, 0, none⟩)] #[]
  clear hO hB hb1
  go_wp2_with fail
  go_region_with (go_at_call 85; refine hC.mono ?_; rintro e w3 ⟨⟨v2, rfl⟩, q, hD⟩)
  all_goals
    have hD2 := hD.undrew
    have hb3 : Below w.heap.size w w3 := hb2.trans (hD2.but.below (by simp; omega) hb2.size)
    have hqx := hD2.fresh
    clear hC c2 hx hD
    go_wp2_with fail
    go_ret
    exact ⟨x, q, rfl, hD2.own, hD2.com, hb3, by omega, by omega⟩

theorem wake_new (w : World) (cl : Nat) (P T G t who : Int) (hL : Lay w cl P T G) (hM : May P T G) :
    Calls Try.prog 54 #[.pointer (some ⟨cl, 0, none⟩), .int .i64 t, .int .i64 who] w fun e w' => ∃ x q g, e = .returned (.pointer (some ⟨x, 0, none⟩)) ∧ Blk w' x (slpCells who (some ⟨q, 0, none⟩) (noteAt P T t)) 137 ∧ Blk w' q (comCells 2 0 (noteAt P T t) 0 1 false .nilIface (.func (.func 118) #[] #[.pointer (some ⟨g, 0, none⟩)]) false false) 150 ∧ Blk w' g #[.nilFunc] 1 ∧ Below w.heap.size w w' ∧ w.heap.size ≤ x ∧ x < q ∧ x < g := by
  have hB := Blk.new w (slpCells 0 none 0) 137
  have hO := mof_any _ w.heap.size cl P T G t who 137 hB (hL.below ((Below.refl _ _).alloc (Nat.le_refl _) _) hL.lt) hM (by have := hL.lt; omega)
  have hb1 : Below w.heap.size w (w.alloc (.cells (slpCells 0 none 0) 137)) := (Below.refl _ _).alloc (Nat.le_refl _) _
  generalize noteAt P T t = nt at *
  clear hL hM hB
  go_enter Try.func54, Try.ntmps54
  go_wp2_with fail
  go_at_call 84; refine hO.mono ?_; rintro e w1 ⟨⟨v, rfl⟩, hx, hB⟩
  have hb2 : Below w.heap.size w w1 := hb1.trans (hB.below (by simp) (by simp))
  have hlt := hx.lt
  have hC := put_any w1 w.heap.size who nt 1 none 137 hx
  clear hO hB hb1
  go_wp2_with fail
  go_at_call 89; refine hC.mono ?_; rintro e w3 ⟨⟨v2, rfl⟩, q, g, hD⟩
  have hb3 : Below w.heap.size w w3 := hb2.trans (hD.at'.but.below (by simp) hb2.size)
  have hqx := hD.at'.fresh
  have hgx := hD.fresh
  clear hC hx
  go_wp2_with fail
  go_ret
  exact ⟨w.heap.size, q, g, rfl, hD.at'.own, hD.at'.com, hD.box, hb3, by omega, by omega, by omega⟩

theorem awake_note (w : World) (cl : Nat) (P T G t : Int) (A : Option Addr) (cap c b n : Nat) (s : St) (hL : Lay w cl P T G) (hM : May P T G) (hI : Is w 101 A cap c b n s) (hn : n ≤ 1000000) :
    Calls Try.prog 50 #[.pointer (some ⟨cl, 0, none⟩), .pointer (some ⟨c, 0, none⟩), .int .i64 t] w fun e w' => e = .returned (.bool (decide (peekT n s (noteAt P T t) ≠ 0))) ∧ Below w.heap.size w w' := by
  have hT := thread_any (some ⟨cl, 0, none⟩) P T G t 0 w (.some cl hL) (by have := hM.h; omega) (by have := hM.h; omega)
  have H : Hid (Is w 101 A cap c b n s) := hI
  rw [show wd (20 + P * 264) T 3 t 0 = noteAt P T t from rfl] at hT
  generalize noteAt P T t = nt at *
  clear hL hM hI
  go_enter Try.func50, Try.ntmps50
  go_wp2_with fail
  go_at_call 88; refine hT.mono ?_; rintro e w1 ⟨rfl, h1⟩
  have hP := peek_any w1 A cap c b n s nt (H.out.below h1) hn
  clear hT
  go_wp2_with fail
  go_at_call 43; refine hP.mono ?_; rintro e w2 ⟨rfl, rfl⟩
  clear hP
  go_wp2_with fail
  go_ret
  exact ⟨ret_bool (by by_cases h : peekT n s nt = 0 <;> simp [h]), h1⟩
end Go.Proofs.Ytjbkhnolnlcjnaa
