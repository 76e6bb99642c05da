/- The contract of Through: an order, yielded one by one. -/
import Derived.RangeFuncNested
import Derived.RangeFuncBound
import Derived.RangeFuncCalls
import Derived.RangeFuncLeaves
import Derived.Shelf.Abstract
import Derived.Shelf.RegionOpen
import Derived.OwnWalkIn
import Derived.TacticsInMore
import Derived.LoopNIn
import Derived.LoopIn
import Derived.Maps.AppendAt
import Derived.Test.YtmjonifiohcobaaOrd6
namespace Go.Proofs.Ytmjonifiohcobaa
open Go Go.RowKit Go.Shelf
set_option linter.unusedVariables false
set_option linter.unusedSimpArgs false
attribute [local go_sem] Oper.semAt_some

theorem grown_of_below {w w' : World} (h : Below w.heap.size w w') : w.grownBy w' none := ⟨h.os, h.tape, h.output, h.size, fun k hk _ => h.block k hk⟩

/-- Through(n, w): a function value over two boxes. -/
theorem through_in (F : Fence) (N : Nat) (hF : F.fn 28) (hro : F.round = none) (n W : Int) (w : World) :
    CallsIn F N Try.prog 28 #[.int .i64 n, .int .u64 W] w fun e w' => e = .returned (.func (.func 46) #[] #[.pointer (some ⟨w.heap.size, 0, none⟩), .pointer (some ⟨w.heap.size + 1, 0, none⟩)]) ∧ w' = (w.alloc (.cells #[.int .i64 n] 3)).alloc (.cells #[.int .u64 W] 32) := by
  refine callsIn_of_wp Try.func28 rfl hF ?_ hro
  simp only [Try.ntmps28, List.size_toArray, List.length_cons, List.length_nil, Nat.reduceAdd, Nat.reduceSub, Array.replicate_succ, Array.replicate_zero, List.push_toArray, List.append_toArray, List.nil_append, List.cons_append]
  gi_wp2
  go_ret
  exact ⟨rfl, rfl⟩

theorem ordL_pre (st step n : Nat) {k m : Nat} (h : k ≤ m) : ordL st step n k <+: ordL st step n m := by
  obtain ⟨d, rfl⟩ : ∃ d, m = k + d := ⟨m - k, by omega⟩
  clear h
  induction d with
  | zero => exact List.prefix_refl _
  | succ d ih =>
    rw [show k + (d + 1) = (k + d) + 1 by omega, ordL_snoc]
    exact ih.trans (List.prefix_append _ _)

/-- The numbers that Through tells: none, or the order. -/
def thrL (n : Int) (W : Nat) : List Nat := if 1 ≤ n ∧ n ≤ 64 then ordOf n.toNat W n.toNat else []

set_option maxRecDepth 100000 in
set_option maxHeartbeats 4000000 in
theorem thr_ok (N n W : Nat) (hN : 1 ≤ N) (h1 : 1 ≤ n) (h2 : n ≤ 64) (hW : W ≤ 18446744073709551615) (l B1 B2 B0 : Nat) (J Jx : List Nat → World → Prop) (hJ : AbidesFrom B0 J)
    (hY : ∀ pre x W1, J pre W1 → pre.length < n → YieldAt Fence.wide (N - 1) Try.prog l #[.int .i64 ((x : Nat) : Int)] W1 fun e W' =>
      (e = .returned (.bool true) ∧ J (pre ++ [x]) W' ∧ W'.heap[B1]? = W1.heap[B1]?) ∨ (e = .returned (.bool false) ∧ Jx (pre ++ [x]) W'))
    (X : World) (hB1 : B1 < X.heap.size) (hB2 : B2 < X.heap.size) (c1 : X.cell? ⟨B1, 0, none⟩ = some (.int .i64 n)) (c2 : X.cell? ⟨B2, 0, none⟩ = some (.int .u64 W)) (h0 : J [] X) :
    CallsIn Fence.wide N Try.prog 46 #[.func (.yield l) #[] #[], .pointer (some ⟨B1, 0, none⟩), .pointer (some ⟨B2, 0, none⟩)] X fun e W' => (∃ v, e = .returned v) ∧
      ((∃ ys, ys = ordOf n W n ∧ J ys W') ∨ (∃ pre, pre <+: ordOf n W n ∧ Jx pre W')) := by
  have hm := may_any n X
  rw [show decide (1 ≤ (n : Int) ∧ (n : Int) ≤ 64) = true by simp; omega] at hm
  have hst0 : W % n < n := Nat.mod_lt _ (by omega)
  have hstl := stepAt_le n W h1
  have hS := fun (Y : World) => start_ok n W Y h1 h2
  have hP := fun (Y : World) => step_ok n W Y h1 h2 hW
  unfold ordOf
  generalize W % n = st at hst0 hS ⊢
  generalize stepAt n W = step at hstl hP ⊢
  have HS : Hid (∀ Y : World, Calls Try.prog 32 #[.int .i64 n, .int .u64 W] Y fun e w' => e = .returned (.int .i64 ((st : Nat) : Int)) ∧ Y = w') := hS
  have HP : Hid (∀ Y : World, Calls Try.prog 33 #[.int .i64 n, .int .u64 W] Y fun e w' => e = .returned (.int .i64 ((step : Nat) : Int)) ∧ Below Y.heap.size Y w') := hP
  have hH : Hid (X.drew.cell? ⟨B1, 0, none⟩ = some (.int .i64 n) ∧ X.drew.cell? ⟨B2, 0, none⟩ = some (.int .u64 W) ∧ Below X.heap.size X X.drew) := ⟨c1, c2, (Below.refl _ _).drew⟩
  have KEEP : Hid (∀ Y w' : World, (Y.cell? ⟨B1, 0, none⟩ = some (.int .i64 n) ∧ Y.cell? ⟨B2, 0, none⟩ = some (.int .u64 W) ∧ Below X.heap.size X Y) → Below Y.heap.size Y w' → (w'.cell? ⟨B1, 0, none⟩ = some (.int .i64 n) ∧ w'.cell? ⟨B2, 0, none⟩ = some (.int .u64 W) ∧ Below X.heap.size X w')) := by
    show ∀ _ _, _
    rintro Y w' ⟨e1, e2, hb⟩ hB
    have hs := hb.size
    exact ⟨(hB.cell (p := ⟨B1, 0, none⟩) (by show B1 < _; omega)).trans e1, (hB.cell (p := ⟨B2, 0, none⟩) (by show B2 < _; omega)).trans e2, hb.trans (hB.mono hs)⟩
  have HY : Hid _ := hY
  have HJ : Hid _ := hJ
  have HJ0 : Hid (J [] X) := h0
  clear hS hP hY hJ h0
  refine callsIn_of_wp Try.func46 rfl trivial ?_ rfl
  simp only [Try.ntmps46, List.size_toArray, List.length_cons, List.length_nil, Nat.reduceAdd, Nat.reduceSub, Array.replicate_succ, Array.replicate_zero, List.push_toArray, List.append_toArray, List.nil_append, List.cons_append]
  gi_wp2_with (first | (gi_at_call 47; refine (callsIn_wide.2 hm).mono ?_; rintro e w1 ⟨rfl, rfl⟩) | (refine ⟨trivial, ?_⟩; gi_at_call 47; refine (callsIn_wide.2 hm).mono ?_; rintro e w1 ⟨rfl, rfl⟩))
  refine wpIn_wide.2 ?_
  go_region_held3 (fun w' => w'.cell? ⟨B1, 0, none⟩ = some (.int .i64 n) ∧ w'.cell? ⟨B2, 0, none⟩ = some (.int .u64 W) ∧ Below X.heap.size X w') (first | exact hH | assumption | exact KEEP.out _ _ ‹_› ‹_›) (first | (go_at_call 32; refine (HS.out _).mono ?_; rintro e w3 ⟨rfl, rfl⟩) | (go_at_call 33; refine (HP.out _).mono ?_; rintro e w3 ⟨rfl, hb3⟩))
  rename_i hSS
  obtain ⟨c1', c2', hbX⟩ := hSS
  have hJ0 : J (ordL st step n 0) w3 := HJ.out [] X w3 none HJ0.out (grown_of_below hbX) (fun r e => by cases e)
  clear hH KEEP HS HP hm HJ HJ0 hb3 c1 c2 hbX
  gi_wp2
  gi_loopw [16, 4] (fun p q wr => ∃ i : Nat, i ≤ n ∧ p = .int .i64 i ∧ q = .int .i64 ((ordK st step n i : Nat) : Int) ∧ J (ordL st step n i) wr ∧ wr.cell? ⟨B1, 0, none⟩ = some (.int .i64 n)) (fun p _ _ => n - (intOf p).toNat)
  case atStart => exact ⟨0, Nat.zero_le _, rfl, rfl, hJ0, c1'⟩
  case round =>
    obtain ⟨i, hi, rfl, rfl, hJi, hc⟩ := hrel
    clear hJ0 c1' c2'
    by_cases hlt : i < n
    · obtain ⟨fn, tmps, assign, body, hy, hR⟩ := HY.out (ordL st step n i) (ordK st step n i) wr hJi (by rw [ordL_len]; exact hlt)
      have hcl := ordK_lt (step := step) hst0 i
      have hnx : ((ordK st step n i : Nat) : Int) + ((step : Nat) : Int) = ((ordK st step n i + step : Nat) : Int) := by omega
      have hmd := tmod_nat (ordK st step n i + step) n
      rw [← hnx] at hmd
      have hn0 : ¬ n = 0 := by omega
      have hE : ordK st step n (i + 1) = (ordK st step n i + step) % n := rfl
      rw [← hE] at hmd
      have hsn := ordL_snoc st step n i
      have HE : Hid _ := hsn
      clear hsn hE hnx
      gi_wp2
      refine hR.mono ?_
      clear hR hy
      rintro e W3 (⟨rfl, hJ3, hk3⟩ | ⟨rfl, hJx3⟩)
      · rw [← HE.out] at hJ3
        have hc3 : W3.cell? ⟨B1, 0, none⟩ = some (.int .i64 n) := (World.cell?_of_block (w := wr) hk3).trans hc
        clear hk3
        gi_wp2
        go_roundw
        case rel => exact ⟨i + 1, by omega, by go_num, rfl, hJ3, hc3⟩
        case measure => simp [intOf]; omega
      · rw [← HE.out] at hJx3
        gi_wp2
        refine bodyPost_ret (results_none rfl _ _ _) rfl ?_
        exact ⟨⟨_, rfl⟩, .inr ⟨_, ordL_pre st step n (by omega), hJx3⟩⟩
    · obtain rfl : i = n := by omega
      gi_wp2
      go_end0
      exact ⟨⟨_, rfl⟩, .inl ⟨_, rfl, hJi⟩⟩

/-- Through's function value over a number that may not be tells nothing. -/
theorem thr_no (N W : Nat) (n : Int) (hN : 1 ≤ N) (hn : ¬ (1 ≤ n ∧ n ≤ 64)) (l B1 B2 : Nat) (J Jx : List Nat → World → Prop) (X : World) (c1 : X.cell? ⟨B1, 0, none⟩ = some (.int .i64 n)) (h0 : J [] X) :
    CallsIn Fence.wide N Try.prog 46 #[.func (.yield l) #[] #[], .pointer (some ⟨B1, 0, none⟩), .pointer (some ⟨B2, 0, none⟩)] X fun e W' => (∃ v, e = .returned v) ∧
      ((∃ ys, ys = ([] : List Nat) ∧ J ys W') ∨ (∃ pre, pre <+: ([] : List Nat) ∧ Jx pre W')) := by
  have hm := may_any n X
  rw [show decide (1 ≤ n ∧ n ≤ 64) = false by simpa using hn] at hm
  have HJ0 : Hid (J [] X) := h0
  clear h0 hn
  refine callsIn_of_wp Try.func46 rfl trivial ?_ rfl
  simp only [Try.ntmps46, List.size_toArray, List.length_cons, List.length_nil, Nat.reduceAdd, Nat.reduceSub, Array.replicate_succ, Array.replicate_zero, List.push_toArray, List.append_toArray, List.nil_append, List.cons_append]
  gi_wp2_with (first | (gi_at_call 47; refine (callsIn_wide.2 hm).mono ?_; rintro e w1 ⟨rfl, rfl⟩) | (refine ⟨trivial, ?_⟩; gi_at_call 47; refine (callsIn_wide.2 hm).mono ?_; rintro e w1 ⟨rfl, rfl⟩))
  refine bodyPost_ret (results_none rfl _ _ _) rfl ?_
  exact ⟨⟨_, rfl⟩, .inl ⟨_, rfl, HJ0.out⟩⟩

/-- **Through's function value yields the order, or nothing.** -/
theorem thr_stops (N W : Nat) (n : Int) (hN : 1 ≤ N) (hW : W ≤ 18446744073709551615) (B1 B2 : Nat) (w : World) (hB1 : B1 < w.heap.size) (hB2 : B2 < w.heap.size) (c1 : w.cell? ⟨B1, 0, none⟩ = some (.int .i64 n)) (c2 : w.cell? ⟨B2, 0, none⟩ = some (.int .u64 W)) :
    SeqStopsK Fence.wide N Try.prog 46 #[.pointer (some ⟨B1, 0, none⟩), .pointer (some ⟨B2, 0, none⟩)] (fun x : Nat => #[Value.int .i64 (x : Int)]) (fun X X' => X'.heap[B1]? = X.heap[B1]?) (fun ys => ys = thrL n W) (fun pre => pre <+: thrL n W) (thrL n W).length w := by
  intro l J Jx X hX hJ hJx hY h0
  have d1 : X.cell? ⟨B1, 0, none⟩ = some (.int .i64 n) := (hX.cell (p := ⟨B1, 0, none⟩) (by show B1 < _; omega)).trans c1
  have d2 : X.cell? ⟨B2, 0, none⟩ = some (.int .u64 W) := (hX.cell (p := ⟨B2, 0, none⟩) (by show B2 < _; omega)).trans c2
  by_cases hn : 1 ≤ n ∧ n ≤ 64
  · obtain ⟨m, rfl⟩ : ∃ m : Nat, n = (m : Int) := ⟨n.toNat, by omega⟩
    have e : thrL m W = ordOf m W m := by unfold thrL; rw [if_pos hn]; simp
    rw [e] at hY ⊢
    have hl : (ordOf m W m).length = m := by unfold ordOf; exact ordL_len _ _ _ _
    rw [hl] at hY
    exact thr_ok N m W hN (by omega) (by omega) hW l B1 B2 X.heap.size J Jx hJ hY X (Nat.lt_of_lt_of_le hB1 hX.size) (Nat.lt_of_lt_of_le hB2 hX.size) d1 d2 h0
  · have e : thrL n W = [] := by unfold thrL; rw [if_neg hn]
    rw [e]
    exact thr_no N W n hN hn l B1 B2 J Jx X d1 h0
end Go.Proofs.Ytmjonifiohcobaa
