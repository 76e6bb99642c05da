/- Numbers below others; new dice; the page's example. -/
import Derived.Test.YteibdjbipfimeaaD1
namespace Go.Proofs.Yteibdjbipfimeaa
open Go Go.RowKit
set_option linter.unusedVariables false
set_option linter.unusedSimpArgs false

/-- The document's dice at block r: the state, and how many numbers were taken. -/
def Rd (w : World) (r s N : Nat) : Prop := w.heap[r]? = some (.cells #[.int .u64 (s : Int), .int .i64 (N : Int)] 28 (0, 0))
theorem Rd.lt {w : World} {r s N : Nat} (h : Rd w r s N) : r < w.heap.size := block_lt h
theorem Rd.c0 {w : World} {r s N : Nat} (h : Rd w r s N) : w.cell? ⟨r, 0, none⟩ = some (.int .u64 (s : Int)) := by unfold Rd at h; simp [World.cell?, h]
theorem Rd.c1 {w : World} {r s N : Nat} (h : Rd w r s N) : w.cell? ⟨r, 1, none⟩ = some (.int .i64 (N : Int)) := by unfold Rd at h; simp [World.cell?, h]
theorem Rd.z {w : World} {r s N : Nat} (h : Rd w r s N) (i : Nat) : w.frozen? ⟨r, i, none⟩ = false := by unfold Rd at h; simp [World.frozen?, h]
theorem Rd.but {w w' : World} {r s N : Nat} {l : List Nat} (h : Rd w r s N) (hb : But l w w') (hc : r ∉ l) : Rd w' r s N := (hb.block r h.lt hc).trans h
theorem Rd.below {w w' : World} {r s N B : Nat} (h : Rd w r s N) (hb : Below B w w') (hc : r < B) : Rd w' r s N := (hb.block r hc).trans h

/-- A number below another one. -/
def rem (x m : Nat) : Nat := x % m
theorem rem_lt (x m : Nat) (h : 1 ≤ m) : rem x m < m := Nat.mod_lt _ (by omega)
theorem rem_spelt (x m : Nat) (h : 1 ≤ m) (hm : m ≤ 9223372036854775807) : wrap64 ((x : Int) % (m : Int)) = ((rem x m : Nat) : Int) := by
  have e : (x : Int) % (m : Int) = ((rem x m : Nat) : Int) := (Int.natCast_emod x m).symm
  have := rem_lt x m h
  rw [e]; unfold wrap64; omega

theorem below_low (w : World) (p : Option Addr) (n : Int) (hn : n < 1) :
    Calls Try.prog 9 #[.pointer p, .int .i64 n] w fun e w' => e = .returned (.int .i64 0) ∧ w = w' := by
  go_enter Try.func9, Try.ntmps9
  go_wp2_with fail
  go_ret
  exact ⟨rfl, rfl⟩
theorem below_nil (w : World) (n : Int) (hn1 : n ≤ 9223372036854775807) :
    Calls Try.prog 9 #[.pointer none, .int .i64 n] w fun e w' => e = .returned (.int .i64 0) ∧ w = w' := by
  by_cases hn : n < 1
  · exact below_low w none n hn
  · go_enter Try.func9, Try.ntmps9
    go_wp2_with fail
    go_at_call 10; refine (next_nil _).mono ?_; rintro e w1 ⟨rfl, rfl⟩
    go_wp2_with fail
    go_ret
    refine ⟨ret_int ?_, rfl⟩
    simp
theorem below_any (w : World) (c s m : Nat) (hs : s < 18446744073709551616) (h : Dc w c s) (hm : 1 ≤ m) (hm1 : m ≤ 9223372036854775807) :
    Calls Try.prog 9 #[.pointer (some ⟨c, 0, none⟩), .int .i64 (m : Int)] w fun e w' => e = .returned (.int .i64 ((rem (num s 1) m : Nat) : Int)) ∧ Dc w' c (st s 1) ∧ But [c] w w' := by
  have HR : Hid (∀ x : Nat, wrap64 ((x : Int) % (m : Int)) = ((rem x m : Nat) : Int)) := fun x => rem_spelt x m hm hm1
  have hlt : (1 : Int) ≤ (m : Int) := by omega
  have hn := num_lt s 1
  go_enter Try.func9, Try.ntmps9
  go_wp2_with fail
  go_at_call 10; refine (next_any _ c s hs h).mono ?_; rintro e w1 ⟨rfl, hD, hB⟩
  go_wp2_with fail
  go_ret
  exact ⟨ret_int (HR.out _), hD, hB⟩
theorem refBelow_low (w : World) (r : Addr) (n : Int) (hn : n < 1) :
    Calls Try.prog 8 #[.pointer (some r), .int .i64 n] w fun e w' => e = .returned (.int .i64 0) ∧ w = w' := by
  go_enter Try.func8, Try.ntmps8
  go_wp2_with fail
  go_ret
  exact ⟨rfl, rfl⟩
theorem refBelow_any (w : World) (r s N m : Nat) (hs : s < 18446744073709551616) (hN : N ≤ 100000) (h : Rd w r s N) (hm : 1 ≤ m) (hm1 : m ≤ 9223372036854775807) :
    Calls Try.prog 8 #[.pointer (some ⟨r, 0, none⟩), .int .i64 (m : Int)] w fun e w' => e = .returned (.int .i64 ((rem (num s (N + 1)) m : Nat) : Int)) ∧ Rd w' r s (N + 1) ∧ But [r] w w' := by
  have HR : Hid (∀ x : Nat, wrap64 ((x : Int) % (m : Int)) = ((rem x m : Nat) : Int)) := fun x => rem_spelt x m hm hm1
  have hlt : (1 : Int) ≤ (m : Int) := by omega
  have hn := num_lt s (N + 1)
  have c0 := h.c0
  have c1 := h.c1
  have z1 := h.z 1
  have HH : Hid (Rd w r s N) := h
  have HN : Hid (∀ w : World, Calls Try.prog 11 #[.int .u64 (s : Int), .int .i64 ((N : Int) + 1)] w fun e w' => e = .returned (.int .u64 ((num s (N + 1) : Nat) : Int)) ∧ w = w') := by
    intro w; have e := number_any w s (N + 1) hs (by omega); rw [show ((N + 1 : Nat) : Int) = (N : Int) + 1 by omega] at e; exact e
  clear h
  go_enter Try.func8, Try.ntmps8
  go_wp2_with fail
  generalize hX : w.setCell ⟨r, 1, none⟩ (.int .i64 ((N : Int) + 1)) = X
  have hR : Rd X r s (N + 1) := by rw [← hX]; exact heap_set HH.out 1 _
  have hB : But [r] w X := by rw [← hX]; exact (But.refl _ _).set (Or.inl (List.mem_singleton.2 rfl)) 1 _
  have HX : Hid (w.setCell ⟨r, 1, none⟩ (.int .i64 ((N : Int) + 1)) = X) := hX
  clear hX c0 c1 z1
  have c0 := hR.c0
  have c1 : X.cell? ⟨r, 1, none⟩ = some (.int .i64 ((N : Int) + 1)) := hR.c1
  go_quiet ((go_at_call 11; exact Calls.quiet_of_same (((HN.out _)).mono (fun e w' ⟨h1, h2⟩ => ⟨h1, h2.symm⟩))))
  go_wp2_with fail
  go_ret
  exact ⟨ret_int (HR.out _), hR, hB.drewN nq⟩
theorem heap_alloc_new (w : World) (o : Obj) : (w.alloc o).heap[w.heap.size]? = some o := by show (w.heap.push o)[w.heap.size]? = _; simp
theorem new_any (w : World) (s : Nat) :
    Calls Try.prog 7 #[.int .u64 (s : Int)] w fun e w' => e = .returned (.pointer (some ⟨w.heap.size, 0, none⟩)) ∧ Dc w' w.heap.size s ∧ Below w.heap.size w w' ∧ w'.heap.size = w.heap.size + 1 := by
  go_enter Try.func7, Try.ntmps7
  go_wp2_with fail
  go_ret
  refine ⟨rfl, ?_, (Below.refl _ _).alloc (Nat.le_refl _) _, by simp⟩
  exact heap_alloc_new _ _
theorem num00 : num 0 1 = 16294208416658607535 := by decide +kernel
theorem awake_any (w : World) : Calls Try.prog 6 #[] w fun e w' => e = .returned (.bool true) ∧ Below w.heap.size w w' := by
  go_enter Try.func6, Try.ntmps6
  go_wp2_with fail
  go_at_call 7; refine (new_any _ 0).mono ?_; rintro e w1 ⟨rfl, hD, hb, hz⟩
  go_wp2_with fail
  go_at_call 10; refine (next_any _ _ 0 (by omega) hD).mono ?_; rintro e w2 ⟨rfl, hD2, hb2⟩
  have HB : Below w.heap.size w w2 := hb.trans (hb2.below (by simp) (by omega))
  rw [num00]
  go_wp2_with fail
  go_ret
  exact ⟨rfl, HB⟩
end Go.Proofs.Yteibdjbipfimeaa
