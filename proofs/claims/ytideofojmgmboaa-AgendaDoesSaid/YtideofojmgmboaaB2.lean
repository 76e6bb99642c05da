/- The first item is laid. -/
import Derived.Test.YtideofojmgmboaaB1
import Derived.Deep.RegionLaw
namespace Go.Proofs.Ytideofojmgmboaa
open Go Go.RowKit
set_option linter.unusedVariables false
set_option linter.unusedSimpArgs false
set_option maxRecDepth 100000
variable {w : World} {a : Nat}
set_option maxHeartbeats 4000000 in
theorem push_0 (h : w.heap[a]? = some (.cells #[.slice none 0 0, .map none] 56 (0, 0))) (x : It) :
    Calls Try.prog 75 #[.pointer (some ⟨a, 0, none⟩), .iface 23 (.agg #[.int .i64 x.1, .int .i64 x.2])] w fun e w' => (∃ v, e = .returned v) ∧ But [a] w w' ∧
      ∃ lb' mb' cap', AgL w' a lb' mb' cap' 1 [x] ∧ w.heap.size ≤ lb' ∧ w.heap.size ≤ mb' := by
  have qT : ∀ (w : World) (r : Option Nat), (binOp .eql 52 (.map r) (.map none)).run Try.prog w = .ok (.bool r.isNone) w := fun w r => run_eql_map_nil w _ _ _ r Try.underlying52
  obtain ⟨i0, hi, hz0, hz1, hz2⟩ := info_parts info23
  obtain ⟨d, k⟩ := x
  have BA : Below w.heap.size w (w.alloc (.cells #[.int .i64 d, .int .i64 k] 23)) := (Below.refl _ w).alloc (Nat.le_refl _) _
  have HW := (BA.block _ (block_lt h)).trans h
  have c0 : (w.alloc (.cells #[.int .i64 d, .int .i64 k] 23)).cell? ⟨a, 0, none⟩ = some (.slice none 0 0) := by simp [cell_of HW]
  have c1 : (w.alloc (.cells #[.int .i64 d, .int .i64 k] 23)).cell? ⟨a, 1, none⟩ = some (.map none) := by simp [cell_of HW]
  have f1 := frozen_of HW 1
  have HB0 := heap_alloc_new w (.cells #[.int .i64 d, .int .i64 k] 23)
  have b0 : (w.alloc (.cells #[.int .i64 d, .int .i64 k] 23)).cell? ⟨w.heap.size, 0, none⟩ = some (.int .i64 d) := by simp [cell_of HB0]
  have b1 : (w.alloc (.cells #[.int .i64 d, .int .i64 k] 23)).cell? ⟨w.heap.size, 1, none⟩ = some (.int .i64 k) := by simp [cell_of HB0]
  have hs := size_al w (.cells #[.int .i64 d, .int .i64 k] 23)
  have HBB := Lib.hid HB0
  have HH := Lib.hid HW
  have HBL := Lib.hid BA
  clear h HW HB0 BA
  have hmm := @run_makeMap Try.prog
  have c1m : ((w.alloc (.cells #[.int .i64 d, .int .i64 k] 23)).alloc (.map #[] 0)).cell? ⟨a, 1, none⟩ = some (.map none) := by rw [World.cell?_alloc_some _ _ _ (by rw [c1]; rfl)]; exact c1
  have f1m : ((w.alloc (.cells #[.int .i64 d, .int .i64 k] 23)).alloc (.map #[] 0)).frozen? ⟨a, 1, none⟩ = false := by
    have h2 := (heap_al _ (block_lt HH.out) (.map #[] 0)).trans HH.out
    exact frozen_of h2 1
  have hta := assert23 (.agg #[.int .i64 d, .int .i64 k])
  go_enter Try.func75, Try.ntmps75
  go_wp2_with fail
  obtain ⟨W, hW⟩ : ∃ W, W = (((w.alloc (.cells #[.int .i64 d, .int .i64 k] 23)).alloc (.map #[] 0)).setCell ⟨a, 1, none⟩ (.map (some (w.heap.size + 1)))) := ⟨_, rfl⟩
  have hal := block_lt HH.out
  have hbl := block_lt HBB.out
  have haB : a < w.heap.size + 1 := by omega
  have w0 := (heap_al _ hal (.map #[] 0)).trans HH.out
  have wa0 := heap_set w0 1 (.map (some (w.heap.size + 1)))
  have wa : W.heap[a]? = some (.cells #[.slice none 0 0, .map (some (w.heap.size + 1))] 56 (0, 0)) := by rw [hW, wa0]; simp
  have hm0 : ((w.alloc (.cells #[.int .i64 d, .int .i64 k] 23)).alloc (.map #[] 0)).heap[w.heap.size + 1]? = some (.map #[] 0) := by rw [← hs]; exact heap_alloc_new _ _
  have hBa : w.heap.size ≠ a := by rintro e; have h1 := HH.out; rw [← e, HBB.out] at h1; simp at h1
  have wm : W.heap[w.heap.size + 1]? = some (.map (ents []) 0) := by rw [hW, heap_set_ne _ (by omega)]; exact hm0
  have wb : W.heap[w.heap.size]? = some (.cells #[.int .i64 d, .int .i64 k] 23 (0, 0)) := by rw [hW, heap_set_ne _ hBa, heap_al _ (by omega)]; exact HBB.out
  have ws : W.heap.size = w.heap.size + 2 := by rw [hW, size_set, size_al]; omega
  have WU : But [a] w W := by rw [hW]; exact ((But.of_below HBL.out).alloc _).set (Or.inl (by simp)) _ _
  rw [← hW]
  clear hW wa0 w0 hm0 c0 c1 f1 b0 b1 c1m f1m
  generalize hbw : w.heap.size = B at *
  have c0 : W.cell? ⟨a, 0, none⟩ = some (.slice none 0 0) := by simp [cell_of wa]
  have c1 : W.cell? ⟨a, 1, none⟩ = some (.map (some (B + 1))) := by simp [cell_of wa]
  have b0 : W.cell? ⟨B, 0, none⟩ = some (.int .i64 d) := by simp [cell_of wb]
  have b1 : W.cell? ⟨B, 1, none⟩ = some (.int .i64 k) := by simp [cell_of wb]
  have t0 : W.drew.heap[B + 1]? = some (.map (ents []) 0) := wm
  have hu := update_no (M := []) (k := k) (v := 0) (by simp) t0
  have t1 := setB_eq W.drew (B + 1) (.map (ents ([] ++ [(k, 0, (0 : Int))])) (0 + 1)) (block_lt t0)
  have N1 : ∀ j, j ≠ B + 1 → (setB W.drew (B + 1) (.map (ents ([] ++ [(k, 0, (0 : Int))])) (0 + 1))).heap[j]? = W.heap[j]? := fun j hj => setB_ne W.drew (B + 1) j _ hj
  have z1 : (setB W.drew (B + 1) (.map (ents ([] ++ [(k, 0, (0 : Int))])) (0 + 1))).heap.size = W.heap.size := setB_size _ _ _
  have U1 : But [a] w (setB W.drew (B + 1) (.map (ents ([] ++ [(k, 0, (0 : Int))])) (0 + 1))) := ⟨WU.os, WU.tape, WU.output, by rw [z1]; exact WU.size, fun j hj hm => (N1 j (by omega)).trans (WU.block j hj hm)⟩
  generalize setB W.drew (B + 1) (.map (ents ([] ++ [(k, 0, (0 : Int))])) (0 + 1)) = Y1 at *
  have ya : Y1.heap[a]? = some (.cells #[.slice none 0 0, .map (some (B + 1))] 56 (0, 0)) := by rw [N1 a (by omega)]; exact wa
  have yb : Y1.heap[B]? = some (.cells #[.int .i64 d, .int .i64 k] 23 (0, 0)) := (N1 B (by omega)).trans wb
  have T1 := Lib.hid t1
  have UU1 := Lib.hid U1
  have Z1 := Lib.hid (z1.trans ws)
  have HBW := Lib.hid hbw
  clear t0 t1 N1 U1 z1 ws WU wm wb wa hbw HBB HH HBL hs hal hbl
  go_wp2_with fail
  go_region
  clear c0 c1 b0 b1 hu
  have c0 : Y1.cell? ⟨a, 0, none⟩ = some (.slice none 0 0) := by simp [cell_of ya]
  have b0 : Y1.cell? ⟨B, 0, none⟩ = some (.int .i64 d) := by simp [cell_of yb]
  have b1 : Y1.cell? ⟨B, 1, none⟩ = some (.int .i64 k) := by simp [cell_of yb]
  have c0a : (Y1.alloc (.cells #[.int .i64 d, .int .i64 k] 23)).cell? ⟨a, 0, none⟩ = some (.slice none 0 0) := by rw [World.cell?_alloc_some _ _ _ (by rw [c0]; rfl)]; exact c0
  have PF : Hid (∀ g cap' w1, w1.ownsRow 0 23 2 (.slice (some ⟨g, 0, none⟩) (0 + 1) cap') (0 + 1) ([] ++ [.int .i64 d, .int .i64 k]) → (Y1.alloc (.cells #[.int .i64 d, .int .i64 k] 23)).drew.grownBy w1 (Value.slice none 0 0).ownBlock → ((Value.slice none 0 0).ownBlock = some g ∨ g = Y1.heap.size + 1) →
      w1.cell? ⟨a, 0, none⟩ = some (.slice none 0 0) ∧ w1.frozen? ⟨a, 0, none⟩ = false ∧ But [a] w (w1.setCell ⟨a, 0, none⟩ (.slice (some ⟨g, 0, none⟩) (0 + 1) cap')) ∧ (AgL (w1.setCell ⟨a, 0, none⟩ (.slice (some ⟨g, 0, none⟩) (0 + 1) cap')) a g (B + 1) cap' 1 [(d, k)] ∧ B ≤ g)) := by
    intro g cap' w1 hown hgrow hgor
    obtain ⟨h1, h2⟩ := hown
    rcases h2 with ⟨_, h2⟩ | ⟨g', cap'', cur', hv, _, hg, l1, l2, l3, l4⟩
    · omega
    cases hv
    have al : a < Y1.heap.size := block_lt ya
    have wa : w1.heap[a]? = some (.cells #[.slice none 0 0, .map (some (B + 1))] 56 (0, 0)) := by
      rw [hgrow.block a (by show a < (Y1.alloc _).heap.size; rw [size_al]; omega) (by simp [Value.ownBlock])]
      exact (heap_al Y1 al _).trans ya
    have hlm : B + 1 < Y1.heap.size := block_lt T1.out
    have wm : w1.heap[B + 1]? = some (.map (ents ([] ++ [(k, 0, (0 : Int))])) (0 + 1)) := by
      rw [hgrow.block (B + 1) (by show B + 1 < (Y1.alloc _).heap.size; rw [size_al]; omega) (by simp [Value.ownBlock])]
      exact (heap_al Y1 hlm _).trans T1.out
    have s0 : w1.cell? ⟨a, 0, none⟩ = some (.slice none 0 0) := by simp [cell_of wa]
    have s1 : w1.frozen? ⟨a, 0, none⟩ = false := frozen_of wa 0
    have gne : g ≠ a ∧ g ≠ B + 1 := by
      refine ⟨?_, ?_⟩
      · rintro rfl; rw [wa] at hg; simp at hg
      · rintro rfl; rw [wm] at hg; simp at hg
    refine ⟨s0, s1, ?_, ⟨cur', [] ++ [(k, 0, (0 : Int))], ?_, ?_, ?_, ?_, l3, ?_, ?_⟩, ?_⟩
    · have u2 := (UU1.out.alloc (.cells #[.int .i64 d, .int .i64 k] 23)).drew
      have u3 := u2.trans (But.of_grown hgrow (l := [a]) (by simp [Value.ownBlock]))
      exact u3.set (Or.inl (by simp)) _ _
    · have := heap_set wa 0 (.slice (some ⟨g, 0, none⟩) (0 + 1) cap')
      rw [this]; simp
    · rw [heap_set_ne _ gne.1]; exact hg
    · rw [heap_set_ne _ (by omega)]; exact wm
    · simp; exact ⟨l1, l2⟩
    · simpa [flat] using l4
    · have h0 : Mok [] 0 [] := ⟨by simp, by simp, by simp, by simp⟩
      exact h0.push (x := (d, k)) rfl
    · rcases hgor with h | h
      · simp [Value.ownBlock] at h
      · have e1 := Z1.out
        omega
  have HOWN := Lib.hid (World.ownsRow_nil (Y1.alloc (.cells #[.int .i64 d, .int .i64 k] 23)).drew 0 23 2)
  have HNW := Lib.hid (World.news_of_block (cs := #[.int .i64 d, .int .i64 k]) (heap_alloc_new Y1 (.cells #[.int .i64 d, .int .i64 k] 23)))
  clear ya yb
  go_wp2_with fail
  go_region_law ((refine step_append_lies _ (by rfl) _ _ _ (by rfl) 0 23 i0 _ 2 16 Try.underlying34 hi hz0 hz1 hz2 rfl (by decide) (.slice none 0 0) 0 [] (by rfl) HOWN.out ⟨Y1.heap.size, 0, none⟩ 1 1 [.int .i64 d, .int .i64 k] (by rfl) (by rfl) HNW.out (by simp [Value.oneCell']) (by omega) (by unfold maxLen; omega) (by omega) (by omega) (Y1.heap.size + 1) (by simp) ?_; intro g cap1 w1 hown1 hgrow hat hlt1; have q := PF.out _ _ _ hown1 hgrow hat; have q0 := q.1; have q1 := q.2.1; have q2 := Lib.hid q.2.2; clear q hown1 hgrow hat))
  all_goals exact bodyPost_end (results_none rfl _ _ _) rfl ⟨⟨_, rfl⟩, q2.out.1, g, B + 1, cap1, q2.out.2.1, by rw [HBW.out]; exact q2.out.2.2, by rw [HBW.out]; omega⟩
end Go.Proofs.Ytideofojmgmboaa
