/- Arenas: an instruction, a beginning, a step. -/
import Derived.Test.YtlnjjcfkcoaceaaGoro2
namespace Go.Proofs.Ytlnjjcfkcoaceaa
open Go Go.RowKit
set_option linter.unusedVariables false
set_option maxRecDepth 100000
set_option linter.unusedSimpArgs false


theorem gnow_nil (w : World) (j : Int) : Calls Try.prog 43 #[.pointer none, .int .i64 j] w fun e w' => e = .returned (.agg #[.int .i64 0, .int .i64 0]) ∧ Below w.heap.size w w' := by
  have hB := gbegun_nil (w.alloc (.cells #[.int .i64 0, .int .i64 0] 90)) j
  go_enter Try.func43, Try.ntmps43
  go_wp2_with fail
  go_at_call 100; refine hB.mono ?_; rintro e w1 ⟨rfl, rfl⟩
  go_wp2_with fail
  go_returns
  exact ⟨rfl, (Below.refl _ _).alloc (Nat.le_refl _) _⟩
theorem gplace_nil (w : World) (j : Int) : Calls Try.prog 41 #[.pointer none, .int .i64 j] w fun e w' => e = .returned (.tuple #[.int .i64 0, .int .i64 0, .int .i64 0, .int .i64 0]) ∧ w = w' := by
  have hB := gbegun_nil w j
  go_enter Try.func41, Try.ntmps41
  go_wp2_with fail
  go_at_call 100; refine hB.mono ?_; rintro e w1 ⟨rfl, rfl⟩
  go_wp2_with fail
  go_returns
  exact ⟨rfl, rfl⟩
theorem gbegin_nil (w : World) (j p : Int) : Calls Try.prog 42 #[.pointer none, .int .i64 j, .int .i64 p] w fun e w' => e = .returned (.int .i64 1) ∧ w = w' := by
  go_enter Try.func42, Try.ntmps42
  go_wp2_with fail
  go_ret
  exact ⟨rfl, rfl⟩

theorem But.drew {l : List Nat} {w w' : World} (h : But l w w') : But l w w'.drew := ⟨h.os, h.tape, h.output, h.size, h.block⟩
section
variable (w : World) (x g c n : Nat) (P : Nat → Pl) (h : Ar w x g c n P)
include h
theorem gnow_zero (j : Nat) (hj : j < n) (hn : n ≤ 65536) (hb : (P j).b = 0) : Calls Try.prog 43 #[.pointer (some ⟨x, 0, none⟩), .int .i64 j] w fun e w' => e = .returned (.agg #[.int .i64 0, .int .i64 0]) ∧ Below w.heap.size w w' := by
  have hB := gbegun_some (w.alloc (.cells #[.int .i64 0, .int .i64 0] 90)) x g c n P (h.below ((Below.refl _ _).alloc (Nat.le_refl _) _)) j hj hn
  rw [if_pos hb] at hB
  clear h
  go_enter Try.func43, Try.ntmps43
  go_wp2_with fail
  go_at_call 100; refine hB.mono ?_; rintro e w1 ⟨rfl, rfl⟩
  go_wp2_with fail
  go_returns
  exact ⟨rfl, (Below.refl _ _).alloc (Nat.le_refl _) _⟩
set_option maxHeartbeats 4000000 in
theorem gnow_on (j : Nat) (hj : j < n) (hn : n ≤ 65536) (hb : (P j).b ≠ 0) (k a : Int) (hA : ∀ Y, Below w.heap.size w Y → Calls Try.prog 102 #[.pointer (some ⟨c, 0, none⟩), .int .i64 (P j).p, .int .i64 (P j).a] Y fun e w' => e = .returned (.agg #[.int .i64 k, .int .i64 a]) ∧ Below Y.heap.size Y w') :
    Calls Try.prog 43 #[.pointer (some ⟨x, 0, none⟩), .int .i64 j] w fun e w' => e = .returned (.agg #[.int .i64 k, .int .i64 a]) ∧ Below w.heap.size w w' := by
  have hbl : Below w.heap.size w (w.alloc (.cells #[.int .i64 0, .int .i64 0] 90)) := (Below.refl _ _).alloc (Nat.le_refl _) _
  have h1 := h.below hbl
  have hB := gbegun_some (w.alloc (.cells #[.int .i64 0, .int .i64 0] 90)) x g c n P h1 j hj hn
  rw [if_neg hb] at hB
  have hX : Blk (w.alloc (.cells #[.int .i64 0, .int .i64 0] 90)) w.heap.size #[.int .i64 0, .int .i64 0] 90 := Blk.new _ _ _
  obtain ⟨k0, k1⟩ := h1.cells
  obtain ⟨p0, p1, p2, p3⟩ := h1.place hj
  have hA1 := hA (w.alloc (.cells #[.int .i64 0, .int .i64 0] 90)).drew hbl.drew
  have HX : Hid (∀ Y, Below (w.alloc (.cells #[.int .i64 0, .int .i64 0] 90)).heap.size (w.alloc (.cells #[.int .i64 0, .int .i64 0] 90)) Y → Blk Y w.heap.size #[.int .i64 0, .int .i64 0] 90 ∧ Below w.heap.size w Y) := fun Y hY => ⟨hX.but (But.of_below (l := []) hY) (by simp), hbl.trans (hY.mono hbl.size)⟩
  clear h h1 hA hX hbl
  go_enter Try.func43, Try.ntmps43
  go_wp2_with fail
  generalize w.alloc (.cells #[.int .i64 0, .int .i64 0] 90) = W at *
  go_at_call 100; refine hB.mono ?_; rintro e w1 ⟨rfl, rfl⟩
  go_wp2_with fail
  go_region_with (go_at_call 102; refine hA1.mono ?_; rintro e w4 ⟨rfl, h4⟩; have h5 : Below W.heap.size W w4 := ((Below.refl _ _).drew).trans h4; have q0 := (HX.out w4 h5).1.cell 0 (v := .int .i64 0) rfl; have q1 := (HX.out w4 h5).1.cell 1 (v := .int .i64 0) rfl; have f0 := (HX.out w4 h5).1.fro 0; have f1 := (HX.out w4 h5).1.fro 1)
  all_goals
    have hbb := (HX.out w4 h5).2
    have hB9 := ((HX.out w4 h5).1.set 0 (.int .i64 k)).set 1 (.int .i64 a)
    have hb9 := (hbb.setCell (p := ⟨w.heap.size, 0, none⟩) (Nat.le_refl _) (.int .i64 k)).setCell (p := ⟨w.heap.size, 1, none⟩) (Nat.le_refl _) (.int .i64 a)
    clear q0 q1 f0 f1 hbb hB hA1 HX h4 h5
    generalize (w4.setCell ⟨w.heap.size, 0, none⟩ (.int .i64 k)).setCell ⟨w.heap.size, 1, none⟩ (.int .i64 a) = W9 at *
    go_wp2_with fail
    exact bodyPost_ret (v := .agg #[.int .i64 k, .int .i64 a]) (results_cell_row rfl _ _ w.heap.size 90 #[.int .i64 k, .int .i64 a] (0, 0) _ rfl hB9.heap Try.underlying90 rfl (by kernel_rfl)) rfl ⟨rfl, hb9⟩
theorem gbegin_range (j p : Int) (hj : j < 0 ∨ (n : Int) ≤ j) : Calls Try.prog 42 #[.pointer (some ⟨x, 0, none⟩), .int .i64 j, .int .i64 p] w fun e w' => e = .returned (.int .i64 5) ∧ w = w' := by
  have hH := ghas_some w x g c n P h j
  rw [decide_eq_false (by omega)] at hH
  clear h
  go_enter Try.func42, Try.ntmps42
  go_wp2_with fail
  go_at_call 101; refine hH.mono ?_; rintro e w1 ⟨rfl, rfl⟩
  go_wp2_with fail
  go_ret
  exact ⟨rfl, rfl⟩
theorem gbegin_prog (gg : Nat) (f : Nat → Int) (L : List (Nat × Nat)) (hC : IsCode w c gg f L) (j : Nat) (hj : j < n) (p : Int) (hp : p < 0 ∨ (L.length : Int) ≤ p) : Calls Try.prog 42 #[.pointer (some ⟨x, 0, none⟩), .int .i64 j, .int .i64 p] w fun e w' => e = .returned (.int .i64 4) ∧ w = w' := by
  have hH := ghas_some w x g c n P h j
  rw [decide_eq_true ⟨by omega, by omega⟩] at hH
  have k0 := h.cells.1
  have hL := clen_some c gg f L w hC
  clear h hC
  by_cases h0 : p < 0
  · clear hp
    go_enter Try.func42, Try.ntmps42
    go_wp2_with fail
    go_at_call 101; refine hH.mono ?_; rintro e w1 ⟨rfl, rfl⟩
    go_wp2_with fail
    go_ret
    exact ⟨rfl, rfl⟩
  · have d : decide (p < 0) = false := decide_eq_false h0
    have h1 : (L.length : Int) ≤ p := by omega
    clear hp
    go_enter Try.func42, Try.ntmps42
    go_wp2_with fail
    go_at_call 101; refine hH.mono ?_; rintro e w1 ⟨rfl, rfl⟩
    go_wp2_with fail
    go_at_call 47; refine hL.mono ?_; rintro e w1 ⟨rfl, rfl⟩
    go_wp2_with fail
    go_ret
    exact ⟨rfl, rfl⟩
set_option maxHeartbeats 4000000 in
theorem gbegin_ok (gg : Nat) (f : Nat → Int) (L : List (Nat × Nat)) (hC : IsCode w c gg f L) (j : Nat) (hj : j < n) (hn : n ≤ 65536) (p : Nat) (hp : p < L.length) (hb : 0 ≤ (P j).b ∧ (P j).b ≤ 1000000) : Calls Try.prog 42 #[.pointer (some ⟨x, 0, none⟩), .int .i64 j, .int .i64 p] w fun e w' => e = .returned (.int .i64 0) ∧ Ar w' x g c n (upP P j ⟨p, 0, 0, (P j).b + 1⟩) ∧ But [g] w w' := by
  have hH := ghas_some w x g c n P h j
  rw [decide_eq_true ⟨by omega, by omega⟩] at hH
  obtain ⟨k0, k1⟩ := h.cells
  obtain ⟨p0, p1, p2, p3⟩ := h.place hj
  have f0 := h.fro (j * 4)
  have f1 := h.fro (j * 4 + 1)
  have f2 := h.fro (j * 4 + 2)
  have f3 := h.fro (j * 4 + 3)
  have hL := clen_some c gg f L w hC
  have d1 : decide ((p : Int) < 0) = false := decide_eq_false (by omega)
  have d2 : decide ((L.length : Int) ≤ (p : Int)) = false := decide_eq_false (by omega)
  have hj1 : (j : Int) < (n : Int) := by omega
  have hW : wrap64 ((P j).b + 1) = (P j).b + 1 := by unfold wrap64; omega
  have HE : Hid (∀ v, v = (P j).b + 1 → Ar ((((w.drew.setCell ⟨g, j * 4, none⟩ (.int .i64 p)).setCell ⟨g, j * 4 + 1, none⟩ (.int .i64 0)).setCell ⟨g, j * 4 + 2, none⟩ (.int .i64 0)).setCell ⟨g, j * 4 + 3, none⟩ (.int .i64 v)) x g c n (upP P j ⟨p, 0, 0, (P j).b + 1⟩) ∧ But [g] w ((((w.drew.setCell ⟨g, j * 4, none⟩ (.int .i64 p)).setCell ⟨g, j * 4 + 1, none⟩ (.int .i64 0)).setCell ⟨g, j * 4 + 2, none⟩ (.int .i64 0)).setCell ⟨g, j * 4 + 3, none⟩ (.int .i64 v))) := by
    rintro v rfl
    have hd : Ar w.drew x g c n P := h.below (Below.refl _ _).drew
    have a1 := hd.put hj 0 (by omega) (.int .i64 p) ⟨p, (P j).a, (P j).l, (P j).b⟩ rfl
    have a2 := a1.put hj 1 (by omega) (.int .i64 0) ⟨p, 0, (P j).l, (P j).b⟩ (by rw [upP_at]; rfl)
    rw [upP_upP] at a2
    have a3 := a2.put hj 2 (by omega) (.int .i64 0) ⟨p, 0, 0, (P j).b⟩ (by rw [upP_at]; rfl)
    rw [upP_upP] at a3
    have a4 := a3.put hj 3 (by omega) (.int .i64 ((P j).b + 1)) ⟨p, 0, 0, (P j).b + 1⟩ (by rw [upP_at]; rfl)
    rw [upP_upP] at a4
    exact ⟨a4, (((((But.refl [g] w).drew).set (g := g) (.inl (by simp)) _ _).set (g := g) (.inl (by simp)) _ _).set (g := g) (.inl (by simp)) _ _).set (g := g) (.inl (by simp)) _ _⟩
  clear h hC
  go_enter Try.func42, Try.ntmps42
  go_wp2_with fail
  go_at_call 101; refine hH.mono ?_; rintro e w1 ⟨rfl, rfl⟩
  go_wp2_with fail
  go_at_call 47; refine hL.mono ?_; rintro e w1 ⟨rfl, rfl⟩
  go_wp2_with fail
  go_region
  all_goals
    go_wp2_with fail
    go_ret
    exact ⟨rfl, HE.out _ (by first | rfl | exact hW | omega)⟩
end

end Go.Proofs.Ytlnjjcfkcoaceaa
