/- Of no agenda; of one without items. -/
import Derived.Test.YtideofojmgmboaaB6
namespace Go.Proofs.Ytideofojmgmboaa
open Go Go.RowKit
set_option linter.unusedVariables false
set_option linter.unusedSimpArgs false
set_option maxRecDepth 100000
variable {w : World} {a : Nat} {F : Nat → Prop} {L : List It}

/-- the zero item, and false -/
def noIt : Value := .tuple #[.agg #[.int .i64 0, .int .i64 0], .bool false]
theorem zero_none (p : Option Addr) (f : FuncId) (hf : f = 6 ∨ f = 7) (hl : ∀ X : World, Below w.heap.size w X → Calls Try.prog 15 #[.pointer p] X fun e w' => e = .returned (.int .i64 0) ∧ w' = X) :
    Calls Try.prog f #[.pointer p] w fun e w' => e = .returned noIt ∧ Below w.heap.size w w' := by
  have BA := (Below.refl w.heap.size w).alloc (Nat.le_refl _) (.cells #[.int .i64 0, .int .i64 0] 23)
  have HL := Lib.hid (hl _ BA)
  have HB := Lib.hid BA
  have HN := Lib.hid (heap_alloc_new w (.cells #[.int .i64 0, .int .i64 0] 23))
  have r0 := cell_of HN.out 0
  have r1 := cell_of HN.out 1
  have g0 := frozen_of HN.out 0
  have g1 := frozen_of HN.out 1
  simp only [List.getElem?_toArray, List.getElem?_cons_succ, List.getElem?_cons_zero] at r0 r1
  clear BA hl
  unfold noIt
  rcases hf with rfl | rfl
  · go_enter Try.func6, Try.ntmps6
    go_wp2_with fail
    generalize hW : w.alloc (.cells #[.int .i64 0, .int .i64 0] 23) = W at *
    generalize hbw : w.heap.size = B at *
    clear hW
    go_at_call 15; refine HL.out.mono ?_; rintro e w1 ⟨rfl, rfl⟩
    go_wp2_with fail
    have zb : ((w1.setCell ⟨B, 0, none⟩ (.int .i64 0)).setCell ⟨B, 1, none⟩ (.int .i64 0)).heap[B]? = some (.cells #[.int .i64 0, .int .i64 0] 23 (0, 0)) := by rw [heap_set (heap_set HN.out 0 _) 1 _]; rfl
    exact bodyPost_ret (v := .tuple #[.agg #[.int .i64 0, .int .i64 0], .bool false]) (res_pair rfl _ _ B _ _ rfl rfl (run_loadVar_row _ B 23 23 #[.int .i64 0, .int .i64 0] (0, 0) _ zb Try.underlying23 rfl size23)) rfl
      ⟨rfl, by rw [hbw]; exact (HB.out.setCell (p := ⟨B, 0, none⟩) (Nat.le_refl _) _).setCell (p := ⟨B, 1, none⟩) (Nat.le_refl _) _⟩
  · go_enter Try.func7, Try.ntmps7
    go_wp2_with fail
    generalize hW : w.alloc (.cells #[.int .i64 0, .int .i64 0] 23) = W at *
    generalize hbw : w.heap.size = B at *
    clear hW
    go_at_call 15; refine HL.out.mono ?_; rintro e w1 ⟨rfl, rfl⟩
    go_wp2_with fail
    have zb : ((w1.setCell ⟨B, 0, none⟩ (.int .i64 0)).setCell ⟨B, 1, none⟩ (.int .i64 0)).heap[B]? = some (.cells #[.int .i64 0, .int .i64 0] 23 (0, 0)) := by rw [heap_set (heap_set HN.out 0 _) 1 _]; rfl
    exact bodyPost_ret (v := .tuple #[.agg #[.int .i64 0, .int .i64 0], .bool false]) (res_pair rfl _ _ B _ _ rfl rfl (run_loadVar_row _ B 23 23 #[.int .i64 0, .int .i64 0] (0, 0) _ zb Try.underlying23 rfl size23)) rfl
      ⟨rfl, by rw [hbw]; exact (HB.out.setCell (p := ⟨B, 0, none⟩) (Nat.le_refl _) _).setCell (p := ⟨B, 1, none⟩) (Nat.le_refl _) _⟩
theorem pop_nil : Calls Try.prog 6 #[.pointer none] w fun e w' => e = .returned noIt ∧ Below w.heap.size w w' := zero_none none 6 (Or.inl rfl) fun X _ => Len_nil
theorem first_nil : Calls Try.prog 7 #[.pointer none] w fun e w' => e = .returned noIt ∧ Below w.heap.size w w' := zero_none none 7 (Or.inr rfl) fun X _ => Len_nil
theorem pop_none (h : Ag w a F []) : Calls Try.prog 6 #[.pointer (some ⟨a, 0, none⟩)] w fun e w' => e = .returned noIt ∧ Below w.heap.size w w' := zero_none _ 6 (Or.inl rfl) fun X hb => Len_ag (h.below hb)
theorem first_none (h : Ag w a F []) : Calls Try.prog 7 #[.pointer (some ⟨a, 0, none⟩)] w fun e w' => e = .returned noIt ∧ Below w.heap.size w w' := zero_none _ 7 (Or.inr rfl) fun X hb => Len_ag (h.below hb)
theorem at_nil (k : Int) : Calls Try.prog 8 #[.pointer none, .int .i64 k] w fun e w' => e = .returned (.tuple #[.int .i64 0, .bool false]) ∧ w' = w := by
  have HP := Lib.hid (place_nil (w := w) k)
  go_enter Try.func8, Try.ntmps8
  go_wp2_with fail
  go_at_call 22; refine HP.out.mono ?_; rintro e w1 ⟨rfl, rfl⟩
  go_wp2_with fail
  go_ret2
  simp
theorem put_nil (x : It) : Calls Try.prog 10 #[.pointer none, itV x] w fun e w' => e = .returned (.int .i64 1) ∧ Below w.heap.size w w' := by
  obtain ⟨d, k⟩ := x
  unfold itV
  have HB := Lib.hid ((Below.refl w.heap.size w).alloc (Nat.le_refl _) (.cells #[.int .i64 d, .int .i64 k] 23))
  go_enter Try.func10, Try.ntmps10
  go_wp2_with fail
  go_ret
  exact ⟨rfl, HB.out⟩
theorem drop_nil (k : Int) : Calls Try.prog 11 #[.pointer none, .int .i64 k] w fun e w' => e = .returned (.bool false) ∧ w' = w := by
  have HP := Lib.hid (place_nil (w := w) k)
  go_enter Try.func11, Try.ntmps11
  go_wp2_with fail
  go_at_call 22; refine HP.out.mono ?_; rintro e w1 ⟨rfl, rfl⟩
  go_wp2_with fail
  go_ret
  simp
theorem move_nil (k d : Int) : Calls Try.prog 12 #[.pointer none, .int .i64 k, .int .i64 d] w fun e w' => e = .returned (.bool false) ∧ w' = w := by
  have HP := Lib.hid (place_nil (w := w) k)
  go_enter Try.func12, Try.ntmps12
  go_wp2_with fail
  go_at_call 22; refine HP.out.mono ?_; rintro e w1 ⟨rfl, rfl⟩
  go_wp2_with fail
  go_ret
  simp
theorem all_nil : Calls Try.prog 14 #[.pointer none] w fun e w' => e = .returned (.slice none 0 0) ∧ w' = w := by
  go_enter Try.func14, Try.ntmps14
  go_wp2_with fail
  go_ret
  simp
theorem due_nil (n : Int) : Calls Try.prog 13 #[.pointer none, .int .i64 n] w fun e w' => e = .returned (.slice none 0 0) ∧ Below w.heap.size w w' := by
  have HF := Lib.hid (first_nil (w := w))
  go_enter Try.func13, Try.ntmps13
  go_wp2_with fail
  go_at_call 7; refine HF.out.mono ?_; rintro e w1 ⟨rfl, hb⟩
  unfold noIt
  have HB1 := Lib.hid (hb.alloc hb.size (.cells #[.int .i64 0, .int .i64 0] 23))
  clear hb
  go_wp2_with fail
  go_loopw [5, 7] (fun v u wr => v = .slice none 0 0 ∧ u = .bool false ∧ Below w.heap.size w wr) (fun _ _ _ => 0)
  case atStart => exact ⟨rfl, rfl, HB1.out⟩
  case round =>
    obtain ⟨rfl, rfl, hb⟩ := hrel
    have HB2 := Lib.hid hb
    clear hb
    go_wp2_with fail
    go_ret
    exact ⟨rfl, HB2.out⟩
end Go.Proofs.Ytideofojmgmboaa
