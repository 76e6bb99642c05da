/- Where things lie: the contracts of locks, procs, threads, gs, end, word and which. -/
import Derived.Test.YtmkmpphfieckoaaLay
namespace Go.Proofs.Ytmkmpphfieckoaa
open Go Go.RowKit
set_option linter.unusedVariables false
set_option linter.unusedSimpArgs false

/-- Three cells of a block that was made last, behind calls that kept it. -/
structure Res (w1 : World) (g : Nat) : Prop where
  heap : w1.heap[g]? = some (.cells #[.int .i64 0, .int .i64 0, .int .i64 0] 72 (0, 0))
theorem Res.of {w w1 : World} (hb : Below (w.heap.size + 1) (w.alloc (.cells #[.int .i64 0, .int .i64 0, .int .i64 0] 72)) w1) : Res w1 w.heap.size :=
  ⟨(hb.block _ (Nat.lt_succ_self _)).trans (heap_alloc_new _ _)⟩
theorem Res.below {w1 w2 : World} {g : Nat} (h : Res w1 g) (hb : Below w1.heap.size w1 w2) : Res w2 g := ⟨(hb.block _ (block_lt h.heap)).trans h.heap⟩
theorem Res.cells {w1 : World} {g : Nat} (h : Res w1 g) : (w1.cell? ⟨g, 0, none⟩ = some (.int .i64 0) ∧ w1.cell? ⟨g, 1, none⟩ = some (.int .i64 0) ∧ w1.cell? ⟨g, 2, none⟩ = some (.int .i64 0)) ∧ w1.frozen? ⟨g, 0, none⟩ = false ∧ w1.frozen? ⟨g, 1, none⟩ = false ∧ w1.frozen? ⟨g, 2, none⟩ = false := by
  refine ⟨⟨?_, ?_, ?_⟩, ?_, ?_, ?_⟩ <;> simp [World.cell?, World.frozen?, h.heap]

/-- The three cells once they are stored. -/
theorem Res.stored {w w1 : World} {g : Nat} (h : Res w1 g) (hb : Below w.heap.size w w1) (hg : w.heap.size ≤ g) (a b c : Value) :
    ∃ W, ((w1.setCell ⟨g, 0, none⟩ a).setCell ⟨g, 1, none⟩ b).setCell ⟨g, 2, none⟩ c = W ∧ Hid (W.heap[g]? = some (.cells #[a, b, c] 72 (0, 0))) ∧ Below w.heap.size w W := by
  have h1 := heap_set (heap_set (heap_set h.heap 0 a) 1 b) 2 c
  exact ⟨_, rfl, h1, ((hb.setCell (p := ⟨g, 0, none⟩) hg a).setCell (p := ⟨g, 1, none⟩) hg b).setCell (p := ⟨g, 2, none⟩) hg c⟩

theorem locks_nil (w : World) : Calls Try.prog 48 #[.pointer none] w fun e w' => e = .returned (.agg #[.int .i64 0, .int .i64 0, .int .i64 0]) ∧ Below w.heap.size w w' := by
  go_enter Try.func48, Try.ntmps48
  go_wp2_with fail
  go_returns
  exact ⟨rfl, (Below.refl _ _).alloc (Nat.le_refl _) _⟩
theorem locks_some (w : World) (c : Nat) : Calls Try.prog 48 #[.pointer (some ⟨c, 0, none⟩)] w fun e w' => e = .returned (.agg #[.int .i64 0, .int .i64 2, .int .i64 3]) ∧ Below w.heap.size w w' := by
  go_enter Try.func48, Try.ntmps48
  go_wp2_with fail
  go_returns
  exact ⟨rfl, (Below.refl _ _).alloc (Nat.le_refl _) _⟩
theorem end_any (a b c : Int) (w : World) (ha : 0 ≤ a ∧ a ≤ 1000000) (hb : 0 ≤ b ∧ b ≤ 65536) (hc : 0 ≤ c ∧ c ≤ 1000) (hp : 0 ≤ b * c ∧ b * c ≤ 65536000) : Calls Try.prog 47 #[.agg #[.int .i64 a, .int .i64 b, .int .i64 c]] w fun e w' => e = .returned (.int .i64 (a + b * c)) ∧ Below w.heap.size w w' := by
  have hB : Below w.heap.size w (w.alloc (.cells #[.int .i64 a, .int .i64 b, .int .i64 c] 72)) := (Below.refl _ _).alloc (Nat.le_refl _) _
  go_enter Try.func47, Try.ntmps47
  go_wp2_with fail
  go_ret
  exact ⟨rfl, hB⟩

theorem procs_any (o : Option Addr) (P T G : Int) (w : World) (h : LayO w P T G o) : Calls Try.prog 50 #[.pointer o] w fun e w' => e = .returned (.agg #[.int .i64 20, .int .i64 P, .int .i64 264]) ∧ Below w.heap.size w w' := by
  have hfc := field_c0
  have hb : Below w.heap.size w (w.alloc (.cells #[.int .i64 0, .int .i64 0, .int .i64 0] 72)) := (Below.refl _ _).alloc (Nat.le_refl _) _
  have HL : Hid _ := h.below hb
  clear h
  go_enter Try.func50, Try.ntmps50
  go_wp2_with fail
  go_at_call 15; refine (config_any o P T G _ HL.out).mono ?_; rintro e w1 ⟨rfl, h1⟩
  have hR : Res w1 w.heap.size := Res.of (by simpa using h1)
  obtain ⟨⟨r0, r1, r2⟩, f0, f1, f2⟩ := hR.cells
  have hbb : Below w.heap.size w w1 := hb.trans (h1.mono (by simp))
  have hlt := block_lt hR.heap
  obtain ⟨W, hW, HR, hB⟩ := hR.stored hbb (Nat.le_refl _) (.int .i64 20) (.int .i64 P) (.int .i64 264)
  clear HL hb h1 hR
  go_wp2_with fail
  clear hW r0 r1 r2 f0 f1 f2
  exact bodyPost_ret (v := .agg #[.int .i64 20, .int .i64 P, .int .i64 264]) (results_cell_row rfl _ _ w.heap.size 72 #[.int .i64 20, .int .i64 P, .int .i64 264] (0, 0) _ rfl HR.out Try.underlying72 rfl (by kernel_rfl)) rfl ⟨rfl, hB⟩
theorem threads_any (o : Option Addr) (P T G : Int) (w : World) (h : LayO w P T G o) (hp : 0 ≤ P ∧ P ≤ 64) : Calls Try.prog 51 #[.pointer o] w fun e w' => e = .returned (.agg #[.int .i64 (20 + P * 264), .int .i64 T, .int .i64 3]) ∧ Below w.heap.size w w' := by
  have hfc := field_c1
  have hb : Below w.heap.size w (w.alloc (.cells #[.int .i64 0, .int .i64 0, .int .i64 0] 72)) := (Below.refl _ _).alloc (Nat.le_refl _) _
  have HL : Hid _ := h.below hb
  clear h
  go_enter Try.func51, Try.ntmps51
  go_wp2_with fail
  go_at_call 50; refine (procs_any o P T G _ HL.out).mono ?_; rintro e w1 ⟨rfl, h1⟩
  go_wp2_with fail
  go_at_call 47; refine (end_any 20 P 264 _ (by omega) (by omega) (by omega) (by omega)).mono ?_; rintro e w2 ⟨rfl, h2⟩
  have hb2 : Below (w.heap.size + 1) (w.alloc (.cells #[.int .i64 0, .int .i64 0, .int .i64 0] 72)) w2 := by
    have h1' : Below (w.heap.size + 1) (w.alloc (.cells #[.int .i64 0, .int .i64 0, .int .i64 0] 72)) w1 := by simpa using h1
    exact h1'.trans (h2.mono (by have := h1.size; simpa using this))
  have HL2 : Hid _ := HL.out.below (by simpa using hb2)
  go_wp2_with fail
  go_at_call 15; refine (config_any o P T G _ HL2.out).mono ?_; rintro e w3 ⟨rfl, h3⟩
  have hb3 := hb2.trans (h3.mono (by have := hb2.size; simpa using this))
  have hR : Res w3 w.heap.size := Res.of hb3
  obtain ⟨⟨r0, r1, r2⟩, f0, f1, f2⟩ := hR.cells
  have hbb : Below w.heap.size w w3 := hb.trans (hb3.mono (by simp))
  have hlt := block_lt hR.heap
  obtain ⟨W, hW, HR, hB⟩ := hR.stored hbb (Nat.le_refl _) (.int .i64 (20 + P * 264)) (.int .i64 T) (.int .i64 3)
  clear HL HL2 hb h1 hR hb2 h2 hb3 h3 hbb
  go_wp2_with fail
  clear hW r0 r1 r2 f0 f1 f2
  exact bodyPost_ret (v := .agg #[.int .i64 (20 + P * 264), .int .i64 T, .int .i64 3]) (results_cell_row rfl _ _ w.heap.size 72 #[.int .i64 (20 + P * 264), .int .i64 T, .int .i64 3] (0, 0) _ rfl HR.out Try.underlying72 rfl (by kernel_rfl)) rfl ⟨rfl, hB⟩
theorem gs_any (o : Option Addr) (P T G : Int) (w : World) (h : LayO w P T G o) (hp : 0 ≤ P ∧ P ≤ 64) (ht : 0 ≤ T ∧ T ≤ 256) : Calls Try.prog 46 #[.pointer o] w fun e w' => e = .returned (.agg #[.int .i64 (20 + P * 264 + T * 3), .int .i64 G, .int .i64 2]) ∧ Below w.heap.size w w' := by
  have hfc := field_c2
  have hb : Below w.heap.size w (w.alloc (.cells #[.int .i64 0, .int .i64 0, .int .i64 0] 72)) := (Below.refl _ _).alloc (Nat.le_refl _) _
  have HL : Hid _ := h.below hb
  clear h
  go_enter Try.func46, Try.ntmps46
  go_wp2_with fail
  go_at_call 51; refine (threads_any o P T G _ HL.out hp).mono ?_; rintro e w1 ⟨rfl, h1⟩
  go_wp2_with fail
  go_at_call 47; refine (end_any (20 + P * 264) T 3 _ (by omega) (by omega) (by omega) (by omega)).mono ?_; rintro e w2 ⟨rfl, h2⟩
  have hb2 : Below (w.heap.size + 1) (w.alloc (.cells #[.int .i64 0, .int .i64 0, .int .i64 0] 72)) w2 := by
    have h1' : Below (w.heap.size + 1) (w.alloc (.cells #[.int .i64 0, .int .i64 0, .int .i64 0] 72)) w1 := by simpa using h1
    exact h1'.trans (h2.mono (by have := h1.size; simpa using this))
  have HL2 : Hid _ := HL.out.below (by simpa using hb2)
  go_wp2_with fail
  go_at_call 15; refine (config_any o P T G _ HL2.out).mono ?_; rintro e w3 ⟨rfl, h3⟩
  have hb3 := hb2.trans (h3.mono (by have := hb2.size; simpa using this))
  have hR : Res w3 w.heap.size := Res.of hb3
  obtain ⟨⟨r0, r1, r2⟩, f0, f1, f2⟩ := hR.cells
  have hbb : Below w.heap.size w w3 := hb.trans (hb3.mono (by simp))
  have hlt := block_lt hR.heap
  obtain ⟨W, hW, HR, hB⟩ := hR.stored hbb (Nat.le_refl _) (.int .i64 (20 + P * 264 + T * 3)) (.int .i64 G) (.int .i64 2)
  clear HL HL2 hb h1 hR hb2 h2 hb3 h3 hbb
  go_wp2_with fail
  clear hW r0 r1 r2 f0 f1 f2
  exact bodyPost_ret (v := .agg #[.int .i64 (20 + P * 264 + T * 3), .int .i64 G, .int .i64 2]) (results_cell_row rfl _ _ w.heap.size 72 #[.int .i64 (20 + P * 264 + T * 3), .int .i64 G, .int .i64 2] (0, 0) _ rfl HR.out Try.underlying72 rfl (by kernel_rfl)) rfl ⟨rfl, hB⟩
end Go.Proofs.Ytmkmpphfieckoaa
