/- An item is laid behind all others. -/
import Derived.Test.YtideofojmgmboaaA7
import Derived.Deep.RegionLaw
namespace Go.Proofs.Ytideofojmgmboaa
open Go Go.RowKit
set_option linter.unusedVariables false
set_option linter.unusedSimpArgs false
set_option maxRecDepth 100000
variable {w : World} {a lb mb cap clk : Nat} {cur : Array Value} {M : List Ent} {L : List It}

theorem info23 : (Try.prog.info? 23).map (fun i => (i.zero, i.size, i.bytes)) = some (some (.agg #[.int .i64 0, .int .i64 0]), 2, 16) := by kernel_rfl
theorem assert23 (v : Value) (w : World) : (Instr.typeAssert (.iface 23 v) 20 23 true).run Try.prog w = .ok (.tuple #[v, .bool true]) w := by
  simp [Instr.typeAssert, run_underlying Try.underlying23, Result.andThen]
theorem But.of_grown {l : List Nat} {x y : World} {r : Option Nat} (h : x.grownBy y r) (hr : ∀ k, r = some k → k ∈ l) : But l x y :=
  ⟨h.os, h.tape, h.output, h.size, fun k hk hm => h.block k hk (fun e => hm (hr k e.symm))⟩
theorem Mok.push (h : Mok M clk L) {x : It} (hx : pos L x.2 = none) : Mok (M ++ [(x.2, clk, (L.length : Int))]) (clk + 1) (L ++ [x]) := by
  have hno := h.no (pos_none hx)
  refine ⟨?_, ?_, ?_, ?_⟩
  · simp only [List.map_append, List.map_cons, List.map_nil]
    refine List.nodup_append.2 ⟨h.keys, by simp, fun u hu v hv => ?_⟩
    obtain ⟨e, he, rfl⟩ := List.mem_map.1 hu
    simp at hv
    rw [hv]
    exact hno e he
  · simp only [List.map_append, List.map_cons, List.map_nil]
    refine List.nodup_append.2 ⟨h.born, by simp, fun u hu v hv => ?_⟩
    obtain ⟨e, he, rfl⟩ := List.mem_map.1 hu
    simp at hv
    have := h.time e he
    omega
  · intro e he
    rcases List.mem_append.1 he with he | he
    · have := h.time e he; omega
    · simp at he; subst he; simp
  · intro k v
    have hat : ∀ i, i < L.length → at_ (L ++ [x]) i = at_ L i := fun i hi => by
      unfold at_; rw [List.getD_eq_getElem?_getD, List.getD_eq_getElem?_getD, List.getElem?_append_left hi]
    have hlast : at_ (L ++ [x]) L.length = x := by unfold at_; simp
    constructor
    · rintro ⟨b, hb⟩
      rcases List.mem_append.1 hb with hb | hb
      · obtain ⟨i, hi, h1, h2⟩ := (h.says k v).1 ⟨b, hb⟩
        exact ⟨i, by simp; omega, h1, by rw [hat i hi]; exact h2⟩
      · simp at hb
        exact ⟨L.length, by simp, hb.2.2.symm, by rw [hlast]; exact hb.1.symm⟩
    · rintro ⟨i, hi, h1, h2⟩
      by_cases hlt : i < L.length
      · rw [hat i hlt] at h2
        obtain ⟨b, hb⟩ := (h.says k v).2 ⟨i, hlt, h1, h2⟩
        exact ⟨b, List.mem_append_left _ hb⟩
      · have : i = L.length := by simp at hi; omega
        subst this
        rw [hlast] at h2
        exact ⟨clk, List.mem_append_right _ (by simp [← h1, h2])⟩
set_option maxHeartbeats 4000000 in
theorem push_1 (h : Ag1 w a lb mb cap cur M clk L) (x : It) (hx : pos L x.2 = none) (hlen : L.length < 65536) :
    Calls Try.prog 75 #[.pointer (some ⟨a, 0, none⟩), .iface 23 (.agg #[.int .i64 x.1, .int .i64 x.2])] w fun e w' => (∃ v, e = .returned v) ∧ But [a, lb, mb] w w' ∧
      ∃ lb' cap', AgL w' a lb' mb cap' (clk + 1) (L ++ [x]) ∧ (lb' = lb ∨ w.heap.size ≤ lb') := by
  have qT : ∀ (w : World) (r : Option Nat), (binOp .eql 52 (.map r) (.map none)).run Try.prog w = .ok (.bool r.isNone) w := fun w r => run_eql_map_nil w _ _ _ r Try.underlying52
  obtain ⟨i0, hi, hz0, hz1, hz2⟩ := info_parts info23
  obtain ⟨d, k⟩ := x
  have BA : Below w.heap.size w (w.alloc (.cells #[.int .i64 d, .int .i64 k] 23)) := (Below.refl _ w).alloc (Nat.le_refl _) _
  have HW := h.below BA
  have c0 := HW.c0
  have c1 := HW.c1
  have HB0 := heap_alloc_new w (.cells #[.int .i64 d, .int .i64 k] 23)
  have b0 : (w.alloc (.cells #[.int .i64 d, .int .i64 k] 23)).cell? ⟨w.heap.size, 0, none⟩ = some (.int .i64 d) := by simp [cell_of HB0]
  have b1 : (w.alloc (.cells #[.int .i64 d, .int .i64 k] 23)).cell? ⟨w.heap.size, 1, none⟩ = some (.int .i64 k) := by simp [cell_of HB0]
  have hs := size_al w (.cells #[.int .i64 d, .int .i64 k] 23)
  have HBB := Lib.hid HB0
  have HH := Lib.hid HW
  have HX := Lib.hid hx
  have HLE := Lib.hid hlen
  have HBL := Lib.hid BA
  clear h hx hlen HW HB0 BA
  generalize hln : L.length = n at *
  have HLN := Lib.hid hln
  clear hln
  have hta := assert23 (.agg #[.int .i64 d, .int .i64 k])
  go_enter Try.func75, Try.ntmps75
  go_wp2_with fail
  generalize w.alloc (.cells #[.int .i64 d, .int .i64 k] 23) = W at *
  have HS := Lib.hid hs
  generalize hbw : w.heap.size = B at *
  clear hs
  have H := HH.out
  obtain ⟨n1, n2, n3⟩ := H.ne
  have hBa : a ≠ B := by rintro rfl; have := H.ha; rw [HBB.out] at this; simp at this
  have hBm : mb ≠ B := by rintro rfl; have := H.hm; rw [HBB.out] at this; simp at this
  have t0 : W.drew.heap[mb]? = some (.map (ents M) clk) := H.hm
  have hu := update_no (v := (n : Int)) (H.mok.no (pos_none HX.out)) t0
  have t1 := setB_eq W.drew mb (.map (ents (M ++ [(k, clk, (n : Int))])) (clk + 1)) (block_lt t0)
  have N1 : ∀ j, j ≠ mb → (setB W.drew mb (.map (ents (M ++ [(k, clk, (n : Int))])) (clk + 1))).heap[j]? = W.heap[j]? := fun j hj => setB_ne W.drew mb j _ hj
  have z1 : (setB W.drew mb (.map (ents (M ++ [(k, clk, (n : Int))])) (clk + 1))).heap.size = W.heap.size := setB_size _ _ _
  have U1 : But [a, lb, mb] W (setB W.drew mb (.map (ents (M ++ [(k, clk, (n : Int))])) (clk + 1))) := ⟨rfl, rfl, rfl, by rw [z1]; exact Nat.le_refl _, fun j hj hm => N1 j (by rintro rfl; simp at hm)⟩
  generalize setB W.drew mb (.map (ents (M ++ [(k, clk, (n : Int))])) (clk + 1)) = Y1 at *
  clear H
  have T1 := Lib.hid t1
  have NN1 := Lib.hid N1
  have UU1 := Lib.hid U1
  have Z1 := Lib.hid z1
  clear t0 t1 N1 U1 z1
  go_wp2_with fail
  go_region
  clear c0 c1 b0 b1 hu
  have HO := HH.out
  have ya : Y1.heap[a]? = some (.cells #[.slice (some ⟨lb, 0, none⟩) n cap, .map (some mb)] 56 (0, 0)) := by rw [NN1.out a n2, HO.ha, HLN.out]
  have yl : Y1.heap[lb]? = some (.cells cur 23 (0, 0)) := (NN1.out lb n3).trans HO.hl
  have yb : Y1.heap[B]? = some (.cells #[.int .i64 d, .int .i64 k] 23 (0, 0)) := (NN1.out B (Ne.symm hBm)).trans HBB.out
  have hle := HO.le
  rw [HLN.out] at hle
  have own : Y1.ownsRow 0 23 2 (.slice (some ⟨lb, 0, none⟩) n cap) n (flat L) := ⟨by rw [flat_len, HLN.out]; omega, .inr ⟨lb, cap, cur, rfl, Nat.zero_le _, yl, hle.1, hle.2, HO.size, by rw [← HO.take, HLN.out, Nat.mul_comm]⟩⟩
  have c0 : Y1.cell? ⟨a, 0, none⟩ = some (.slice (some ⟨lb, 0, none⟩) n cap) := by simp [cell_of ya]
  have b0 : Y1.cell? ⟨B, 0, none⟩ = some (.int .i64 d) := by simp [cell_of yb]
  have b1 : Y1.cell? ⟨B, 1, none⟩ = some (.int .i64 k) := by simp [cell_of yb]
  have c0a : (Y1.alloc (.cells #[.int .i64 d, .int .i64 k] 23)).cell? ⟨a, 0, none⟩ = some (.slice (some ⟨lb, 0, none⟩) n cap) := by rw [World.cell?_alloc_some _ _ _ (by rw [c0]; rfl)]; exact c0
  have hle2 := HLE.out
  have PF : Hid (∀ g cap' w1, w1.ownsRow 0 23 2 (.slice (some ⟨g, 0, none⟩) (n + 1) cap') (n + 1) (flat L ++ [.int .i64 d, .int .i64 k]) → (Y1.alloc (.cells #[.int .i64 d, .int .i64 k] 23)).drew.grownBy w1 (Value.slice (some ⟨lb, 0, none⟩) n cap).ownBlock → ((Value.slice (some ⟨lb, 0, none⟩) n cap).ownBlock = some g ∨ g = Y1.heap.size + 1) →
      w1.cell? ⟨a, 0, none⟩ = some (.slice (some ⟨lb, 0, none⟩) n cap) ∧ w1.frozen? ⟨a, 0, none⟩ = false ∧ But [a, lb, mb] w (w1.setCell ⟨a, 0, none⟩ (.slice (some ⟨g, 0, none⟩) (n + 1) cap')) ∧ (AgL (w1.setCell ⟨a, 0, none⟩ (.slice (some ⟨g, 0, none⟩) (n + 1) cap')) a g mb cap' (clk + 1) (L ++ [(d, k)]) ∧ (g = lb ∨ B ≤ g))) := by
    intro g cap' w1 hown hgrow hgor
    obtain ⟨h1, h2⟩ := hown
    rcases h2 with ⟨_, h2⟩ | ⟨g', cap'', cur', hv, _, hg, l1, l2, l3, l4⟩
    · omega
    cases hv
    have e40 : flat L ++ [.int .i64 d, .int .i64 k] = flat (L ++ [(d, k)]) := by rw [flat_app]; rfl
    have al : a < Y1.heap.size := block_lt ya
    have wa : w1.heap[a]? = some (.cells #[.slice (some ⟨lb, 0, none⟩) n cap, .map (some mb)] 56 (0, 0)) := by
      rw [hgrow.block a (by show a < (Y1.alloc _).heap.size; rw [size_al]; omega) (by simp [Value.ownBlock]; exact n1)]
      exact (heap_al Y1 al _).trans ya
    have hlm : mb < Y1.heap.size := block_lt T1.out
    have wm : w1.heap[mb]? = some (.map (ents (M ++ [(k, clk, (n : Int))])) (clk + 1)) := by
      rw [hgrow.block mb (by show mb < (Y1.alloc _).heap.size; rw [size_al]; omega) (by simp [Value.ownBlock]; exact Ne.symm n3)]
      exact (heap_al Y1 hlm _).trans T1.out
    have s0 : w1.cell? ⟨a, 0, none⟩ = some (.slice (some ⟨lb, 0, none⟩) n cap) := by simp [cell_of wa]
    have s1 : w1.frozen? ⟨a, 0, none⟩ = false := frozen_of wa 0
    have gne : g ≠ a ∧ g ≠ mb := by
      refine ⟨?_, ?_⟩
      · rintro rfl; rw [wa] at hg; simp at hg
      · rintro rfl; rw [wm] at hg; simp at hg
    refine ⟨s0, s1, ?_, ⟨cur', M ++ [(k, clk, (n : Int))], ?_, ?_, ?_, ?_, l3, ?_, ?_⟩, ?_⟩
    · have u1 : But [a, lb, mb] w W := But.of_below (by rw [hbw]; exact HBL.out)
      have u2 := ((u1.trans UU1.out).alloc (.cells #[.int .i64 d, .int .i64 k] 23)).drew
      have u3 := u2.trans (But.of_grown hgrow (l := [a, lb, mb]) (by simp [Value.ownBlock]))
      exact u3.set (Or.inl (by simp)) _ _
    · have := heap_set wa 0 (.slice (some ⟨g, 0, none⟩) (n + 1) cap')
      rw [this]; simp [HLN.out]
    · rw [heap_set_ne _ gne.1]; exact hg
    · rw [heap_set_ne _ (Ne.symm n2)]; exact wm
    · simp [HLN.out]; exact ⟨l1, l2⟩
    · rw [← e40, ← l4]; simp [HLN.out, Nat.mul_comm]
    · have := HO.mok.push (x := (d, k)) HX.out; rw [HLN.out] at this; exact this
    · rcases hgor with h | h
      · simp [Value.ownBlock] at h; exact Or.inl h.symm
      · refine Or.inr ?_
        have e1 := Z1.out; have e2 := HS.out
        omega
  have HOWN := Lib.hid (own.alloc (.cells #[.int .i64 d, .int .i64 k] 23))
  have HNW := Lib.hid (World.news_of_block (cs := #[.int .i64 d, .int .i64 k]) (heap_alloc_new Y1 (.cells #[.int .i64 d, .int .i64 k] 23)))
  have hflat : (flat L).length = n * 2 := by rw [flat_len, HLN.out]; omega
  clear own ya yl yb hle HO
  go_wp2_with fail
  go_region_law ((refine step_append_lies _ (by rfl) _ _ _ (by rfl) 0 23 i0 _ 2 16 Try.underlying34 hi hz0 hz1 hz2 rfl (by decide) (.slice (some ⟨lb, 0, none⟩) n cap) n (flat L) (by rfl) HOWN.out ⟨Y1.heap.size, 0, none⟩ 1 1 [.int .i64 d, .int .i64 k] (by rfl) (by rfl) HNW.out (by simp [Value.oneCell']) (by omega) (by unfold maxLen; omega) (by omega) (by omega) (Y1.heap.size + 1) (by simp) ?_; intro g cap1 w1 hown1 hgrow hat hlt1; have q := PF.out _ _ _ hown1 hgrow hat; have q0 := q.1; have q1 := q.2.1; have q2 := Lib.hid q.2.2; clear q hown1 hgrow hat))
  all_goals exact bodyPost_end (results_none rfl _ _ _) rfl ⟨⟨_, rfl⟩, q2.out.1, g, cap1, q2.out.2.1, by rw [hbw]; exact q2.out.2.2⟩
end Go.Proofs.Ytideofojmgmboaa
