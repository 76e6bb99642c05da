/- Layouts: the contracts of package layout. -/
import Derived.Test.YthjfbknmdligeaaGreatMem
namespace Go.Proofs.YthjfbknmdligeaaGreat
open Go Go.RowKit
set_option linter.unusedVariables false
set_option maxRecDepth 100000
set_option linter.unusedSimpArgs false

theorem field_c0 (w : World) (a b c : Value) : (Instr.field 23 (.agg #[a, b, c]) 0).run Tryz.prog w = .ok a w := by
  unfold Instr.field
  rw [Sem.run_bind, run_underlying Tryz.underlying23 w]
  simp [go_sem, part, asAgg, isAgg, sizeOf, typeInfo, Result.andThen]
theorem field_c1 (w : World) (a b c : Value) : (Instr.field 23 (.agg #[a, b, c]) 1).run Tryz.prog w = .ok b w := by
  unfold Instr.field
  rw [Sem.run_bind, run_underlying Tryz.underlying23 w]
  simp [go_sem, part, asAgg, isAgg, sizeOf, typeInfo, Result.andThen]
theorem field_c2 (w : World) (a b c : Value) : (Instr.field 23 (.agg #[a, b, c]) 2).run Tryz.prog w = .ok c w := by
  unfold Instr.field
  rw [Sem.run_bind, run_underlying Tryz.underlying23 w]
  simp [go_sem, part, asAgg, isAgg, sizeOf, typeInfo, Result.andThen]
/-- A config that may be. -/
structure May (P T G : Int) : Prop where
  h : 1 ≤ P ∧ P ≤ 64 ∧ P ≤ T ∧ T ≤ 256 ∧ 1 ≤ G ∧ G ≤ 65536
instance (P T G : Int) : Decidable (May P T G) := decidable_of_iff (1 ≤ P ∧ P ≤ 64 ∧ P ≤ T ∧ T ≤ 256 ∧ 1 ≤ G ∧ G ≤ 65536) ⟨fun h => ⟨h⟩, fun h => h.h⟩

def cfg (P T G : Int) : Value := .agg #[.int .i64 P, .int .i64 T, .int .i64 G]
/-- The layout at block c is of the config. -/
def Lay (w : World) (c : Nat) (P T G : Int) : Prop := w.heap[c]? = some (.cells #[.int .i64 P, .int .i64 T, .int .i64 G] 124 (0, 0))
theorem Lay.lt {w : World} {c : Nat} {P T G : Int} (h : Lay w c P T G) : c < w.heap.size := block_lt h
theorem Lay.below {w w' : World} {c B : Nat} {P T G : Int} (h : Lay w c P T G) (hb : Below B w w') (hc : c < B) : Lay w' c P T G := (hb.block c hc).trans h
theorem Lay.cells {w : World} {c : Nat} {P T G : Int} (h : Lay w c P T G) : w.cell? ⟨c, 0, none⟩ = some (.int .i64 P) ∧ w.cell? ⟨c, 1, none⟩ = some (.int .i64 T) ∧ w.cell? ⟨c, 2, none⟩ = some (.int .i64 G) := by
  have h' : w.heap[c]? = some (.cells #[.int .i64 P, .int .i64 T, .int .i64 G] 124 (0, 0)) := h
  refine ⟨?_, ?_, ?_⟩ <;> simp [World.cell?, h']

theorem right_any (P T G : Int) (w : World) : Calls Tryz.prog 61 #[.agg #[.int .i64 P, .int .i64 T, .int .i64 G]] w fun e w' => e = .returned (.bool (decide (May P T G))) ∧ Below w.heap.size w w' := by
  have hb : Below w.heap.size w (w.alloc (.cells #[.int .i64 P, .int .i64 T, .int .i64 G] 23)) := (Below.refl _ _).alloc (Nat.le_refl _) _
  by_cases h : May P T G
  · have h1 := h.h
    obtain ⟨a1, a2, a3, a4, a5, a6⟩ := h1
    rw [decide_eq_true h]
    go_enter Tryz.func61, Tryz.ntmps61
    go_wp2_with fail
    go_ret
    exact ⟨ret_bool (by simp [*]), hb⟩
  · rw [decide_eq_false h]
    have hn : ¬ (1 ≤ P ∧ P ≤ 64 ∧ P ≤ T ∧ T ≤ 256 ∧ 1 ≤ G ∧ G ≤ 65536) := fun a => h ⟨a⟩
    go_enter Tryz.func61, Tryz.ntmps61
    go_wp2_with fail
    all_goals
      go_ret
      refine ⟨ret_bool ?_, hb⟩
      first | rfl | (simp; omega)
theorem refRight_any (P T G : Int) (w : World) : Calls Tryz.prog 60 #[.agg #[.int .i64 P, .int .i64 T, .int .i64 G]] w fun e w' => e = .returned (.bool (decide (May P T G))) ∧ Below w.heap.size w w' := by
  have hb : Below w.heap.size w (w.alloc (.cells #[.int .i64 P, .int .i64 T, .int .i64 G] 23)) := (Below.refl _ _).alloc (Nat.le_refl _) _
  by_cases h : May P T G
  · have h1 := h.h
    obtain ⟨a1, a2, a3, a4, a5, a6⟩ := h1
    rw [decide_eq_true h]
    go_enter Tryz.func60, Tryz.ntmps60
    go_wp2_with fail
    go_ret
    exact ⟨ret_bool (by simp [*]), hb⟩
  · rw [decide_eq_false h]
    have hn : ¬ (1 ≤ P ∧ P ≤ 64 ∧ P ≤ T ∧ T ≤ 256 ∧ 1 ≤ G ∧ G ≤ 65536) := fun a => h ⟨a⟩
    go_enter Tryz.func60, Tryz.ntmps60
    go_wp2_with fail
    all_goals
      go_ret
      refine ⟨ret_bool ?_, hb⟩
      first | rfl | (simp; omega)
theorem refLen_any (P T G : Int) (w : World) (h : May P T G) : Calls Tryz.prog 33 #[.agg #[.int .i64 P, .int .i64 T, .int .i64 G]] w fun e w' => e = .returned (.int .i64 (20 + 264 * P + 3 * T + 2 * G)) ∧ Below w.heap.size w w' := by
  have hb : Below w.heap.size w (w.alloc (.cells #[.int .i64 P, .int .i64 T, .int .i64 G] 23)) := (Below.refl _ _).alloc (Nat.le_refl _) _
  obtain ⟨h1⟩ := h
  go_enter Tryz.func33, Tryz.ntmps33
  go_wp2_with fail
  go_ret
  exact ⟨ret_int (by omega), hb⟩

/-- A layout, or none, of a config (of none, of noughts). -/
inductive LayO (w : World) (P T G : Int) : Option Addr → Prop
  | none : P = 0 → T = 0 → G = 0 → LayO w P T G none
  | some (c : Nat) : Lay w c P T G → LayO w P T G (some ⟨c, 0, none⟩)
theorem LayO.below {w w' : World} {o : Option Addr} {P T G : Int} (h : LayO w P T G o) (hb : Below w.heap.size w w') : LayO w' P T G o := by
  cases h with
  | none a b c => exact .none a b c
  | some c h => exact .some c (h.below hb h.lt)

theorem config_any (o : Option Addr) (P T G : Int) (w : World) (h : LayO w P T G o) : Calls Tryz.prog 37 #[.pointer o] w fun e w' => e = .returned (.agg #[.int .i64 P, .int .i64 T, .int .i64 G]) ∧ Below w.heap.size w w' := by
  cases h with
  | none a b c =>
    subst a b c
    go_enter Tryz.func37, Tryz.ntmps37
    go_wp2_with fail
    go_returns
    exact ⟨rfl, (Below.refl _ _).alloc (Nat.le_refl _) _⟩
  | some c h =>
    obtain ⟨c0, c1, c2⟩ := h.cells
    have hlt := h.lt
    clear h
    go_enter Tryz.func37, Tryz.ntmps37
    go_wp2_with fail
    go_returns
    exact ⟨rfl, (Below.refl _ _).alloc (Nat.le_refl _) _⟩
/-- Three cells of a block that was made last, behind calls that kept it. -/
structure Res (w1 : World) (g : Nat) : Prop where
  heap : w1.heap[g]? = some (.cells #[.int .i64 0, .int .i64 0, .int .i64 0] 121 (0, 0))
theorem Res.of {w w1 : World} (hb : Below (w.heap.size + 1) (w.alloc (.cells #[.int .i64 0, .int .i64 0, .int .i64 0] 121)) w1) : Res w1 w.heap.size :=
  ⟨(hb.block _ (Nat.lt_succ_self _)).trans (heap_alloc_new _ _)⟩
theorem Res.below {w1 w2 : World} {g : Nat} (h : Res w1 g) (hb : Below w1.heap.size w1 w2) : Res w2 g := ⟨(hb.block _ (block_lt h.heap)).trans h.heap⟩
theorem Res.cells {w1 : World} {g : Nat} (h : Res w1 g) : (w1.cell? ⟨g, 0, none⟩ = some (.int .i64 0) ∧ w1.cell? ⟨g, 1, none⟩ = some (.int .i64 0) ∧ w1.cell? ⟨g, 2, none⟩ = some (.int .i64 0)) ∧ w1.frozen? ⟨g, 0, none⟩ = false ∧ w1.frozen? ⟨g, 1, none⟩ = false ∧ w1.frozen? ⟨g, 2, none⟩ = false := by
  refine ⟨⟨?_, ?_, ?_⟩, ?_, ?_, ?_⟩ <;> simp [World.cell?, World.frozen?, h.heap]

/-- The three cells once they are stored. -/
theorem Res.stored {w w1 : World} {g : Nat} (h : Res w1 g) (hb : Below w.heap.size w w1) (hg : w.heap.size ≤ g) (a b c : Value) :
    ∃ W, ((w1.setCell ⟨g, 0, none⟩ a).setCell ⟨g, 1, none⟩ b).setCell ⟨g, 2, none⟩ c = W ∧ Hid (W.heap[g]? = some (.cells #[a, b, c] 121 (0, 0))) ∧ Below w.heap.size w W := by
  have h1 := heap_set (heap_set (heap_set h.heap 0 a) 1 b) 2 c
  exact ⟨_, rfl, h1, ((hb.setCell (p := ⟨g, 0, none⟩) hg a).setCell (p := ⟨g, 1, none⟩) hg b).setCell (p := ⟨g, 2, none⟩) hg c⟩

theorem locks_nil (w : World) : Calls Tryz.prog 140 #[.pointer none] w fun e w' => e = .returned (.agg #[.int .i64 0, .int .i64 0, .int .i64 0]) ∧ Below w.heap.size w w' := by
  go_enter Tryz.func140, Tryz.ntmps140
  go_wp2_with fail
  go_returns
  exact ⟨rfl, (Below.refl _ _).alloc (Nat.le_refl _) _⟩
theorem locks_some (w : World) (c : Nat) : Calls Tryz.prog 140 #[.pointer (some ⟨c, 0, none⟩)] w fun e w' => e = .returned (.agg #[.int .i64 0, .int .i64 2, .int .i64 3]) ∧ Below w.heap.size w w' := by
  go_enter Tryz.func140, Tryz.ntmps140
  go_wp2_with fail
  go_returns
  exact ⟨rfl, (Below.refl _ _).alloc (Nat.le_refl _) _⟩
theorem end_any (a b c : Int) (w : World) (ha : 0 ≤ a ∧ a ≤ 1000000) (hb : 0 ≤ b ∧ b ≤ 65536) (hc : 0 ≤ c ∧ c ≤ 1000) (hp : 0 ≤ b * c ∧ b * c ≤ 65536000) : Calls Tryz.prog 82 #[.agg #[.int .i64 a, .int .i64 b, .int .i64 c]] w fun e w' => e = .returned (.int .i64 (a + b * c)) ∧ Below w.heap.size w w' := by
  have hB : Below w.heap.size w (w.alloc (.cells #[.int .i64 a, .int .i64 b, .int .i64 c] 121)) := (Below.refl _ _).alloc (Nat.le_refl _) _
  go_enter Tryz.func82, Tryz.ntmps82
  go_wp2_with fail
  go_ret
  exact ⟨rfl, hB⟩

theorem procs_any (o : Option Addr) (P T G : Int) (w : World) (h : LayO w P T G o) : Calls Tryz.prog 81 #[.pointer o] w fun e w' => e = .returned (.agg #[.int .i64 20, .int .i64 P, .int .i64 264]) ∧ Below w.heap.size w w' := by
  have hfc := field_c0
  have hb : Below w.heap.size w (w.alloc (.cells #[.int .i64 0, .int .i64 0, .int .i64 0] 121)) := (Below.refl _ _).alloc (Nat.le_refl _) _
  have HL : Hid _ := h.below hb
  clear h
  go_enter Tryz.func81, Tryz.ntmps81
  go_wp2_with fail
  go_at_call 37; refine (config_any o P T G _ HL.out).mono ?_; rintro e w1 ⟨rfl, h1⟩
  have hR : Res w1 w.heap.size := Res.of (by simpa using h1)
  obtain ⟨⟨r0, r1, r2⟩, f0, f1, f2⟩ := hR.cells
  have hbb : Below w.heap.size w w1 := hb.trans (h1.mono (by simp))
  have hlt := block_lt hR.heap
  obtain ⟨W, hW, HR, hB⟩ := hR.stored hbb (Nat.le_refl _) (.int .i64 20) (.int .i64 P) (.int .i64 264)
  clear HL hb h1 hR
  go_wp2_with fail
  clear hW r0 r1 r2 f0 f1 f2
  exact bodyPost_ret (v := .agg #[.int .i64 20, .int .i64 P, .int .i64 264]) (results_cell_row rfl _ _ w.heap.size 121 #[.int .i64 20, .int .i64 P, .int .i64 264] (0, 0) _ rfl HR.out Tryz.underlying121 rfl (by kernel_rfl)) rfl ⟨rfl, hB⟩
theorem threads_any (o : Option Addr) (P T G : Int) (w : World) (h : LayO w P T G o) (hp : 0 ≤ P ∧ P ≤ 64) : Calls Tryz.prog 58 #[.pointer o] w fun e w' => e = .returned (.agg #[.int .i64 (20 + P * 264), .int .i64 T, .int .i64 3]) ∧ Below w.heap.size w w' := by
  have hfc := field_c1
  have hb : Below w.heap.size w (w.alloc (.cells #[.int .i64 0, .int .i64 0, .int .i64 0] 121)) := (Below.refl _ _).alloc (Nat.le_refl _) _
  have HL : Hid _ := h.below hb
  clear h
  go_enter Tryz.func58, Tryz.ntmps58
  go_wp2_with fail
  go_at_call 81; refine (procs_any o P T G _ HL.out).mono ?_; rintro e w1 ⟨rfl, h1⟩
  go_wp2_with fail
  go_at_call 82; refine (end_any 20 P 264 _ (by omega) (by omega) (by omega) (by omega)).mono ?_; rintro e w2 ⟨rfl, h2⟩
  have hb2 : Below (w.heap.size + 1) (w.alloc (.cells #[.int .i64 0, .int .i64 0, .int .i64 0] 121)) w2 := by
    have h1' : Below (w.heap.size + 1) (w.alloc (.cells #[.int .i64 0, .int .i64 0, .int .i64 0] 121)) w1 := by simpa using h1
    exact h1'.trans (h2.mono (by have := h1.size; simpa using this))
  have HL2 : Hid _ := HL.out.below (by simpa using hb2)
  go_wp2_with fail
  go_at_call 37; refine (config_any o P T G _ HL2.out).mono ?_; rintro e w3 ⟨rfl, h3⟩
  have hb3 := hb2.trans (h3.mono (by have := hb2.size; simpa using this))
  have hR : Res w3 w.heap.size := Res.of hb3
  obtain ⟨⟨r0, r1, r2⟩, f0, f1, f2⟩ := hR.cells
  have hbb : Below w.heap.size w w3 := hb.trans (hb3.mono (by simp))
  have hlt := block_lt hR.heap
  obtain ⟨W, hW, HR, hB⟩ := hR.stored hbb (Nat.le_refl _) (.int .i64 (20 + P * 264)) (.int .i64 T) (.int .i64 3)
  clear HL HL2 hb h1 hR hb2 h2 hb3 h3 hbb
  go_wp2_with fail
  clear hW r0 r1 r2 f0 f1 f2
  exact bodyPost_ret (v := .agg #[.int .i64 (20 + P * 264), .int .i64 T, .int .i64 3]) (results_cell_row rfl _ _ w.heap.size 121 #[.int .i64 (20 + P * 264), .int .i64 T, .int .i64 3] (0, 0) _ rfl HR.out Tryz.underlying121 rfl (by kernel_rfl)) rfl ⟨rfl, hB⟩
theorem below_drewN {B : Nat} {a w : World} (h : Below B a w) (n : Nat) : Below B a (w.drewN n) := ⟨h.os, h.tape, h.output, h.size, h.block⟩
/-- A block's word. -/
def wd (a b c n f : Int) : Int := if 0 ≤ n ∧ n < b ∧ 0 ≤ f ∧ f < c then a + n * c + f else -1

theorem word_any (a b c n f : Int) (w : World) (ha : 0 ≤ a ∧ a ≤ 1000000) (hc : c ≤ 1000) (hp : 0 ≤ n → n < b → 0 ≤ n * c ∧ n * c ≤ 65536000) :
    Calls Tryz.prog 59 #[.agg #[.int .i64 a, .int .i64 b, .int .i64 c], .int .i64 n, .int .i64 f] w fun e w' => e = .returned (.int .i64 (wd a b c n f)) ∧ Below w.heap.size w w' := by
  have hB : Below w.heap.size w (w.alloc (.cells #[.int .i64 a, .int .i64 b, .int .i64 c] 121)) := (Below.refl _ _).alloc (Nat.le_refl _) _
  unfold wd
  by_cases h : 0 ≤ n ∧ n < b ∧ 0 ≤ f ∧ f < c
  · rw [if_pos h]
    obtain ⟨h1, h2, h3, h4⟩ := h
    have h5 := hp h1 h2
    clear hp
    go_enter Tryz.func59, Tryz.ntmps59
    go_wp2_with fail
    go_ret
    exact ⟨ret_int (by generalize n * c = m at *; first | rfl | omega | (unfold wrap64; omega)), hB⟩
  · rw [if_neg h]
    clear hp
    go_enter Tryz.func59, Tryz.ntmps59
    go_wp2_with fail
    all_goals first | (exfalso; omega) | (go_ret; exact ⟨rfl, hB⟩)

/-- The world of a call behind another. -/
theorem seq {w w1 w2 : World} (h1 : Below w.heap.size w w1) (h2 : Below w1.heap.size w1 w2) : Below w.heap.size w w2 := h1.trans (h2.mono h1.size)

theorem ticket_some (c : Nat) (n : Int) (w : World) : Calls Tryz.prog 136 #[.pointer (some ⟨c, 0, none⟩), .int .i64 n] w fun e w' => e = .returned (.int .i64 (wd 0 2 3 n 0)) ∧ Below w.heap.size w w' := by
  go_enter Tryz.func136, Tryz.ntmps136
  go_wp2_with fail
  go_at_call 140; refine (locks_some _ c).mono ?_; rintro e w1 ⟨rfl, h1⟩
  go_wp2_with fail
  go_at_call 59; refine (word_any 0 2 3 n 0 _ (by omega) (by omega) (by omega)).mono ?_; rintro e w2 ⟨rfl, h2⟩
  have hb := seq h1 h2
  go_wp2_with fail
  go_ret
  exact ⟨rfl, hb⟩
theorem serving_some (c : Nat) (n : Int) (w : World) : Calls Tryz.prog 133 #[.pointer (some ⟨c, 0, none⟩), .int .i64 n] w fun e w' => e = .returned (.int .i64 (wd 0 2 3 n 1)) ∧ Below w.heap.size w w' := by
  go_enter Tryz.func133, Tryz.ntmps133
  go_wp2_with fail
  go_at_call 140; refine (locks_some _ c).mono ?_; rintro e w1 ⟨rfl, h1⟩
  go_wp2_with fail
  go_at_call 59; refine (word_any 0 2 3 n 1 _ (by omega) (by omega) (by omega)).mono ?_; rintro e w2 ⟨rfl, h2⟩
  have hb := seq h1 h2
  go_wp2_with fail
  go_ret
  exact ⟨rfl, hb⟩
theorem owner_some (c : Nat) (n : Int) (w : World) : Calls Tryz.prog 134 #[.pointer (some ⟨c, 0, none⟩), .int .i64 n] w fun e w' => e = .returned (.int .i64 (wd 0 2 3 n 2)) ∧ Below w.heap.size w w' := by
  go_enter Tryz.func134, Tryz.ntmps134
  go_wp2_with fail
  go_at_call 140; refine (locks_some _ c).mono ?_; rintro e w1 ⟨rfl, h1⟩
  go_wp2_with fail
  go_at_call 59; refine (word_any 0 2 3 n 2 _ (by omega) (by omega) (by omega)).mono ?_; rintro e w2 ⟨rfl, h2⟩
  have hb := seq h1 h2
  go_wp2_with fail
  go_ret
  exact ⟨rfl, hb⟩
theorem of_bad (P T G : Int) (w : World) (h : ¬ May P T G) : Calls Tryz.prog 34 #[.agg #[.int .i64 P, .int .i64 T, .int .i64 G]] w fun e w' => e = .returned (.tuple #[.pointer none, .int .i64 1]) ∧ Below w.heap.size w w' := by
  have hb : Below w.heap.size w (w.alloc (.cells #[.int .i64 P, .int .i64 T, .int .i64 G] 23)) := (Below.refl _ _).alloc (Nat.le_refl _) _
  have hR := right_any P T G (w.alloc (.cells #[.int .i64 P, .int .i64 T, .int .i64 G] 23))
  rw [decide_eq_false h] at hR
  go_enter Tryz.func34, Tryz.ntmps34
  go_wp2_with fail
  go_at_call 61; refine hR.mono ?_; rintro e w1 ⟨rfl, h1⟩
  have hb1 := hb.trans (h1.mono (by simp))
  go_wp2_with fail
  go_returns
  exact ⟨rfl, hb1⟩
theorem of_ok (P T G : Int) (w : World) (h : May P T G) : Calls Tryz.prog 34 #[.agg #[.int .i64 P, .int .i64 T, .int .i64 G]] w fun e w' => ∃ c, e = .returned (.tuple #[.pointer (some ⟨c, 0, none⟩), .int .i64 0]) ∧ Lay w' c P T G ∧ w.heap.size ≤ c ∧ Below w.heap.size w w' := by
  have hb : Below w.heap.size w (w.alloc (.cells #[.int .i64 P, .int .i64 T, .int .i64 G] 23)) := (Below.refl _ _).alloc (Nat.le_refl _) _
  have hR := right_any P T G (w.alloc (.cells #[.int .i64 P, .int .i64 T, .int .i64 G] 23))
  rw [decide_eq_true h] at hR
  have h0 : (w.alloc (.cells #[.int .i64 P, .int .i64 T, .int .i64 G] 23)).heap[w.heap.size]? = some (.cells #[.int .i64 P, .int .i64 T, .int .i64 G] 23 (0, 0)) := heap_alloc_new _ _
  have H0 : Hid _ := h0
  clear h0
  go_enter Tryz.func34, Tryz.ntmps34
  go_wp2_with fail
  go_at_call 61; refine hR.mono ?_; rintro e w1 ⟨rfl, h1⟩
  have hb1 := hb.trans (h1.mono (by simp))
  have hh : w1.heap[w.heap.size]? = some (.cells #[.int .i64 P, .int .i64 T, .int .i64 G] 23 (0, 0)) := (h1.block _ (by simp)).trans H0.out
  have c0 : w1.cell? ⟨w.heap.size, 0, none⟩ = some (.int .i64 P) := by simp [World.cell?, hh]
  have c1 : w1.cell? ⟨w.heap.size, 1, none⟩ = some (.int .i64 T) := by simp [World.cell?, hh]
  have c2 : w1.cell? ⟨w.heap.size, 2, none⟩ = some (.int .i64 G) := by simp [World.cell?, hh]
  have hs := hb1.size
  clear hR h1 H0 hh hb
  go_wp2_with fail
  go_returns
  exact ⟨w1.heap.size, rfl, heap_alloc_new _ _, hs, hb1.alloc hs _⟩
end Go.Proofs.YthjfbknmdligeaaGreat
