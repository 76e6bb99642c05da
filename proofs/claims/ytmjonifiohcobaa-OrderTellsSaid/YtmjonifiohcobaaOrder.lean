/- The contract of Order: what Through tells, collected. -/
import Derived.Test.YtmjonifiohcobaaThr
namespace Go.Proofs.Ytmjonifiohcobaa
open Go Go.RowKit Go.Shelf
set_option linter.unusedVariables false
set_option linter.unusedSimpArgs false
attribute [local go_sem] Oper.semAt_some

theorem thrL_len (n : Int) (W : Nat) : (thrL n W).length ≤ 64 := by
  unfold thrL
  split
  · unfold ordOf; rw [ordL_len]; omega
  · simp

theorem row_base {X : World} {B B' : Nat} {e : TypeId} {v : Value} {k : Nat} {xs : List Value} (h : X.ownsRow B e 1 v k xs) (hB : B' ≤ B) : X.ownsRow B' e 1 v k xs := by
  refine ⟨h.1, ?_⟩
  rcases h.2 with hn | ⟨g, cap, cur, e, hg, hr⟩
  · exact Or.inl hn
  · exact Or.inr ⟨g, cap, cur, e, Nat.le_trans hB hg, hr⟩
/-- What stands behind a number that was collected. -/
theorem collected {w W w1 : World} {v v' : Value} {k m : Nat} {xs ys : List Value} {tmp : Obj}
    (hv : Boxed W w.heap.size 55 v) (hrow : W.ownsRow (w.heap.size + 3) 3 1 v k xs) (hB : Below w.heap.size w W) (hn : w.heap.size + 3 ≤ W.heap.size)
    (hown' : w1.ownsRow (w.heap.size + 3) 3 1 v' m ys) (hgrow : (W.alloc tmp).grownBy w1 v.ownBlock) :
    Boxed w1 w.heap.size 55 v ∧ Boxed (w1.setCell ⟨w.heap.size, 0, none⟩ v') w.heap.size 55 v' ∧ (w1.setCell ⟨w.heap.size, 0, none⟩ v').ownsRow (w.heap.size + 3) 3 1 v' m ys ∧ KeepsOthers W (w1.setCell ⟨w.heap.size, 0, none⟩ v') ∧ Below w.heap.size W (w1.setCell ⟨w.heap.size, 0, none⟩ v') ∧ (w1.setCell ⟨w.heap.size, 0, none⟩ v').heap[w.heap.size + 1]? = W.heap[w.heap.size + 1]? := by
  have hfar : ∀ j, v.ownBlock = some j → w.heap.size + 3 ≤ j := fun j ej => by
    rcases hrow.2 with ⟨rfl, _⟩ | ⟨g, cap, cur, rfl, hb, _, _⟩
    · simp [Value.ownBlock] at ej
    · simp [Value.ownBlock] at ej; omega
  have hv1 : Boxed w1 w.heap.size 55 v := (hv.alloc tmp).kept hgrow (hv.not_row (by decide) hrow)
  refine ⟨hv1, hv1.set v', hown'.kept (grownBy_setCell' w1 w.heap.size v') (.inr (hv1.not_row (by decide) hown').symm), ?_, ?_, ?_⟩
  · refine ((KeepsOthers.alloc W tmp).trans (KeepsOthers.of_grownBy hgrow fun j o ej hj => ?_)).trans (KeepsOthers.setCell _ _ _)
    rcases (hrow.alloc tmp).2 with ⟨rfl, _⟩ | ⟨g, cap, cur, rfl, _, hgb, _⟩
    · simp [Value.ownBlock] at ej
    · obtain rfl : g = j := by simpa [Value.ownBlock] using ej
      rw [hgb] at hj; cases hj; rfl
  · exact (((Below.refl _ W).alloc hB.size tmp).grown hgrow (by have := hB.size; simp; omega) fun j ej => by have := hfar j ej; omega).setCell (p := ⟨w.heap.size, 0, none⟩) (Nat.le_refl _) v'
  · rw [heap_set_ne _ (by omega)]
    refine (hgrow.block _ (by simp; omega) (fun e => ?_)).trans (heap_al _ (by omega) _)
    have := hfar _ e.symm
    omega

set_option maxRecDepth 100000 in
set_option maxHeartbeats 4000000 in
theorem order_in (n : Int) (W : Nat) (w : World) (hW : W ≤ 18446744073709551615) :
    CallsIn Fence.wide 5 Try.prog 27 #[.int .i64 n, .int .u64 W] w fun e W' => ∃ v, e = .returned v ∧ W'.ownsRow w.heap.size 3 1 v (thrL n W).length (cellsN (thrL n W)) ∧ Below w.heap.size w W' := by
  obtain ⟨i0, hi, hz0, hz1, hz2⟩ := info_parts info3
  refine callsIn_of_wp_marks Try.func27 rfl trivial ?_ rfl
  simp only [Try.ntmps27, List.size_toArray, List.length_cons, List.length_nil, Nat.reduceAdd, Nat.reduceSub, Array.replicate_succ, Array.replicate_zero, List.push_toArray, List.append_toArray, List.nil_append, List.cons_append]
  gi_wp2_with (refine ⟨trivial, ?_⟩; gi_at_call 28; refine (through_in Fence.wide _ trivial rfl n W _).mono ?_; rintro e w' ⟨rfl, rfl⟩)
  have bO := Boxed.new w 55 (.slice none 0 0)
  have bN := Boxed.new (w.alloc (.cells #[.slice none 0 0] 55)) 3 (.int .i64 n)
  have bW := Boxed.new ((w.alloc (.cells #[.slice none 0 0] 55)).alloc (.cells #[.int .i64 n] 3)) 32 (.int .u64 W)
  rw [World.size_alloc] at bN
  rw [World.size_alloc, World.size_alloc] at bW
  have hB0 : Below w.heap.size w (((w.alloc (.cells #[.slice none 0 0] 55)).alloc (.cells #[.int .i64 n] 3)).alloc (.cells #[.int .u64 W] 32)) := (((Below.refl _ w).alloc (Nat.le_refl _) _).alloc (by simp) _).alloc (by simp; omega) _
  have bN' := bN.alloc (.cells #[.int .u64 W] 32)
  refine wpIn_rangeFunc_ownG rfl (by omega) (gf := 46) (lb := #[.pointer (some ⟨w.heap.size + 1, 0, none⟩), .pointer (some ⟨w.heap.size + 1 + 1, 0, none⟩)]) rfl trivial (enters_of Try.func46 (by kernel_rfl) rfl)
    (thr_stops 4 W n (by omega) hW (w.heap.size + 1) (w.heap.size + 1 + 1) _ (by simp) (by simp) bN'.cell bW.cell) (fun h k => k.trans h) (fun Y l o o' hl _ _ _ => World.putObj_heap_other (by simp at hl; omega)) (Below.refl _ _) (fun _ => rfl)
    (fun pre X => (∃ v, Boxed X w.heap.size 55 v ∧ X.ownsRow (w.heap.size + 3) 3 1 v pre.length (cellsN pre) ∧ True) ∧ (Below w.heap.size w X ∧ w.heap.size + 3 ≤ X.heap.size))
    (fun _ _ _ => False)
    (OwnFrom.and (Own.from (holdsRow_own (w.heap.size + 3) w.heap.size 55 3 1 (fun pre => pre.length) (fun pre => cellsN pre) (fun _ _ => True)) _) (OwnFrom.and (ownFrom_below (Nat.le_refl _) (by simp; omega)) (fun _ _ _ _ hs hg _ => Nat.le_trans hs hg.size)))
    (fun _ _ _ _ _ hs _ _ => hs)
    ⟨⟨_, (bO.alloc _).alloc _, World.ownsRow_nil _ _ _ _, trivial⟩, hB0, by simp⟩
    (fun x => { tmps := #[.int .i64 n, .int .u64 W, undef, undef, .slice none 0 0, .pointer (some ⟨w.heap.size, 0, none⟩), .int .i64 ((x : Nat) : Int), .int .i64 n, .int .u64 W, .func (.func 46) #[] #[.pointer (some ⟨w.heap.size + 1, 0, none⟩), .pointer (some ⟨w.heap.size + 1 + 1, 0, none⟩)], .int .i64 ((x : Nat) : Int), undef, undef, undef, undef, undef], defers := [] }) ?assign ?body ?done ?stop
  case assign =>
    intro l x X K hK
    gi_wp2
    exact hK
  case body =>
    rintro l pre x X ⟨⟨v, hv, hrow, -⟩, hB, hn3⟩ hlt
    have hc := hv.cell
    have hl64 := thrL_len n W
    have hbs := hB.size
    gi_wp2_with (gi_at_builtin; refine wpListIn_append_own _ rfl _ _ 55 rfl (w.heap.size + 3) 3 i0 (.int .i64 0) 1 8 Try.underlying55 hi hz0 hz1 hz2 rfl (by decide) _ _ _ rfl (hrow.alloc _) ⟨X.heap.size, 0, none⟩ 1 1 [.int .i64 ((x : Nat) : Int)] rfl rfl (cell_one_new _ _ _) (by simp [Value.oneCell']) (by unfold maxLen; omega) (by omega) (by simp; omega) ?_; intro v' w1 hown' hgrow _; obtain ⟨g', cap', rfl⟩ := ownsRow_succ hown'; have hC := collected hv hrow hB hn3 hown' hgrow; have hc1 := hC.1.cell; have hf1 := hC.1.frozen)
    obtain ⟨-, hC2, hC3, hC4, hC5, hC6⟩ := hC
    exact ⟨hC4.from _, hC6, ⟨_, hC2, by simpa [cellsN] using hC3, trivial⟩, hB.trans hC5, Nat.le_trans hn3 hC4.size⟩
  case done =>
    rintro D ys X hD rfl ⟨⟨v, hv, hrow, -⟩, hB, hn3⟩ hK
    have hc := hv.cell
    gi_wp2
    refine ⟨by simp, .inl ⟨_, _, rfl, run_takeDeferred hK, ?_⟩⟩
    exact ⟨_, results_tmp rfl _ _ _, v, rfl, row_base (ownsRow_putObj hrow _ hK rfl) (by omega), hB.trans (belowK_b (w := w) (Nat.le_refl _) X D _ _ (by simp at hD; omega) hK rfl rfl)⟩
  case stop =>
    rintro D c pre X _ _ h _
    exact h.elim
/-- **Order: what Through tells.** -/
theorem order_any (n : Int) (W : Nat) (w : World) (hW : W ≤ 18446744073709551615) : Calls Try.prog 27 #[.int .i64 n, .int .u64 W] w fun e w' => ∃ v, e = .returned v ∧ Grows w w' v (thrL n W) :=
  (callsIn_wide.1 (order_in n W w hW)).mono fun e w' ⟨v, he, ho, hb⟩ => ⟨v, he, ho, hb⟩
end Go.Proofs.Ytmjonifiohcobaa
