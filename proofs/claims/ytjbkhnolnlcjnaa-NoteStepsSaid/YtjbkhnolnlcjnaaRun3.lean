/- The reference's routines of notes: Wait, Sleep, Wake. -/
import Derived.Test.YtjbkhnolnlcjnaaRun2
import Derived.Test.YtjbkhnolnlcjnaaNote1
namespace Go.Proofs.Ytjbkhnolnlcjnaa
open Go Go.RowKit
set_option linter.unusedVariables false
set_option maxRecDepth 100000
set_option linter.unusedSimpArgs false

theorem rthread_any (P T G t f : Int) (w : World) (hM : May P T G) (ht : 0 ≤ t ∧ t < T) (hf : 0 ≤ f ∧ f ≤ 2) :
    Calls Try.prog 45 #[.agg #[.int .i64 P, .int .i64 T, .int .i64 G], .int .i64 t, .int .i64 f] w fun e w' => e = .returned (.int .i64 (20 + 264 * P + 3 * t + f)) ∧ Below w.heap.size w w' := by
  have hb : Below w.heap.size w (w.alloc (.cells #[.int .i64 P, .int .i64 T, .int .i64 G] 64)) := (Below.refl _ _).alloc (Nat.le_refl _) _
  obtain ⟨h1⟩ := hM
  go_enter Try.func45, Try.ntmps45
  go_wp2_with fail
  go_ret
  exact ⟨ret_int (by omega), hb⟩
theorem rthreadAt_any (P T G t : Int) (w : World) (hM : May P T G) (ht : 0 ≤ t ∧ t < T) :
    Calls Try.prog 87 #[.agg #[.int .i64 P, .int .i64 T, .int .i64 G], .int .i64 t, .int .i64 0] w fun e w' => e = .returned (.int .i64 (noteAt P T t)) ∧ Below w.heap.size w w' := by
  have hb : Below w.heap.size w (w.alloc (.cells #[.int .i64 P, .int .i64 T, .int .i64 G] 64)) := (Below.refl _ _).alloc (Nat.le_refl _) _
  have hT := rthread_any P T G t 0 (w.alloc (.cells #[.int .i64 P, .int .i64 T, .int .i64 G] 64)) hM ht (by omega)
  have e : 20 + 264 * P + 3 * t + 0 = noteAt P T t := by unfold noteAt wd; rw [if_pos ⟨ht.1, ht.2, by omega, by omega⟩]; omega
  rw [e] at hT
  generalize noteAt P T t = nt at *
  clear e hM
  have d1 : decide (t < 0) = false := decide_eq_false (by omega)
  have d2 : decide (T ≤ t) = false := decide_eq_false (by omega)
  go_enter Try.func87, Try.ntmps87
  go_wp2_with fail
  go_at_call 45; refine hT.mono ?_; rintro e w1 ⟨rfl, h1⟩
  have hb1 := hb.trans (h1.mono (by simp))
  go_wp2_with fail
  go_ret
  exact ⟨rfl, hb1⟩

section
variable (w : World) (x : Nat) (A : Option Addr) (cap m : Nat) (g : Nat → Int) (r : Rn) (h : RunOn w x A cap m g r)
include h
theorem rwake_on (P T G t : Int) (hM : May P T G) (ht : 0 ≤ t ∧ t < T) :
    Calls Try.prog 55 #[.pointer (some ⟨x, 0, none⟩), .agg #[.int .i64 P, .int .i64 T, .int .i64 G], .int .i64 t] w fun e w' => (∃ v, e = .returned v) ∧ RunOn w' x A cap m g (doS m r 2 (noteAt P T t) 0 1) ∧ But [x] w w' := by
  have hb : Below w.heap.size w (w.alloc (.cells #[.int .i64 P, .int .i64 T, .int .i64 G] 64)) := (Below.refl _ _).alloc (Nat.le_refl _) _
  have hT := rthreadAt_any P T G t (w.alloc (.cells #[.int .i64 P, .int .i64 T, .int .i64 G] 64)) hM ht
  have H : Hid (RunOn w x A cap m g r) := h
  generalize noteAt P T t = nt at *
  clear hM h
  go_enter Try.func55, Try.ntmps55
  go_wp2_with fail
  go_at_call 87; refine hT.mono ?_; rintro e w1 ⟨rfl, h1⟩
  have hb1 := hb.trans (h1.mono (by simp))
  have hS := rstore_on w1 x A cap m g r (H.out.below hb1) nt 1
  clear hT h1 hb
  go_wp2_with fail
  go_at_call 66; refine hS.mono ?_; rintro e w2 ⟨⟨v, rfl⟩, h2, h3⟩
  have hB := (But.of_below (l := [x]) hb1).trans h3
  clear hS h3 hb1
  go_wp2_with fail
  go_end0
  exact ⟨⟨_, rfl⟩, h2, hB⟩
end
end Go.Proofs.Ytjbkhnolnlcjnaa
