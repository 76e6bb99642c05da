/- The item that lies behind all others is taken. -/
import Derived.Test.YtideofojmgmboaaA7
import Derived.Deep.RegionLaw
namespace Go.Proofs.Ytideofojmgmboaa
open Go Go.RowKit
set_option linter.unusedVariables false
set_option linter.unusedSimpArgs false
set_option maxRecDepth 100000
variable {w : World} {a lb mb cap clk : Nat} {cur : Array Value} {M : List Ent} {L : List It}

theorem at_take {L : List It} {n i : Nat} (h : i < n) (hn : n ≤ L.length) : at_ (L.take n) i = at_ L i := by
  unfold at_
  rw [List.getD_eq_getElem?_getD, List.getD_eq_getElem?_getD, List.getElem?_take, if_pos h]
theorem mem_erase {M : List Ent} (hn : (M.map (·.1)).Nodup) {p : Nat} {e : Ent} (he : M[p]? = some e) (x : Ent) : x ∈ M.eraseIdx p ↔ x ∈ M ∧ x.1 ≠ e.1 := by
  rw [List.mem_eraseIdx_iff_getElem?]
  constructor
  · rintro ⟨q, hq, hx⟩
    exact ⟨List.mem_of_getElem? hx, fun e1 => hq (key_inj hn hx he e1)⟩
  · rintro ⟨hx, hk⟩
    obtain ⟨q, hq⟩ := List.mem_iff_getElem?.1 hx
    exact ⟨q, fun e1 => hk (by subst e1; rw [he] at hq; cases hq; rfl), hq⟩
theorem Mok.pop (h : Mok M clk L) {n p : Nat} {e : Ent} (hL : L.length = n + 1) (he : M[p]? = some e) (e1 : e.1 = (at_ L n).2) : Mok (M.eraseIdx p) clk (L.take n) := by
  have hsub : ∀ {α : Type} (f : Ent → α), List.Sublist ((M.eraseIdx p).map f) (M.map f) := fun f => (List.eraseIdx_sublist M p).map f
  refine ⟨h.keys.sublist (hsub _), h.born.sublist (hsub _), fun x hx => h.time x ((mem_erase h.keys he x).1 hx).1, fun k v => ?_⟩
  have hlen : (L.take n).length = n := by rw [List.length_take]; omega
  rw [hlen]
  constructor
  · rintro ⟨b, hb⟩
    obtain ⟨h1, h2⟩ := (mem_erase h.keys he _).1 hb
    obtain ⟨i, hi, h3, h4⟩ := (h.says k v).1 ⟨b, h1⟩
    have hin : i ≠ n := by rintro rfl; exact h2 (by rw [e1, h4])
    exact ⟨i, by omega, h3, by rw [at_take (by omega) (by omega)]; exact h4⟩
  · rintro ⟨i, hi, h3, h4⟩
    rw [at_take hi (by omega)] at h4
    obtain ⟨b, hb⟩ := (h.says k v).2 ⟨i, by omega, h3, h4⟩
    refine ⟨b, (mem_erase h.keys he _).2 ⟨hb, ?_⟩⟩
    show k ≠ e.1
    rw [e1, ← h4]
    exact fun e0 => by have := h.inj (by omega) (by omega) e0; omega
set_option maxHeartbeats 4000000 in
theorem pop_any (n : Nat) (h : Ag1 w a lb mb cap cur M clk L) (hL : L.length = n + 1) :
    Calls Try.prog 74 #[.pointer (some ⟨a, 0, none⟩)] w fun e w' => e = .returned (.iface 23 (.agg #[.int .i64 (at_ L n).1, .int .i64 (at_ L n).2])) ∧ But [a, lb, mb] w w' ∧ AgL w' a lb mb cap clk (L.take n) := by
  have c0 := h.c0
  have c1 := h.c1
  have d0 := h.l0 (i := n) (by omega)
  have d1 := h.l1 (i := n) (by omega)
  have f0 := frozen_of h.ha 0
  have hx : ∃ x, x = at_ L n := ⟨_, rfl⟩
  obtain ⟨x, hx⟩ := hx
  rw [← hx] at d0 d1 ⊢
  obtain ⟨d, k⟩ := x
  simp only at d0 d1 ⊢
  rw [hL] at c0
  have HH := Lib.hid h
  have HL := Lib.hid hL
  have HX := Lib.hid hx
  have hle := h.le
  rw [hL] at hle
  have hcap : n + 1 ≤ cap := hle.1
  have hmax : cap ≤ maxLen := hle.2
  have hs : wrap64 (((n + 1 : Nat) : Int) - 1) = (n : Int) := by unfold maxLen at hmax; unfold wrap64; omega
  have hs' : wrap64 (n : Int) = (n : Int) := by unfold maxLen at hmax; unfold wrap64; omega
  have BA : Below w.heap.size w (w.alloc (.cells #[.int .i64 d, .int .i64 k] 23)) := (Below.refl _ w).alloc (Nat.le_refl _) _
  have HW := h.below BA
  have c0' := HW.c0
  rw [hL] at c0'
  have c1' := HW.c1
  have f0' := frozen_of HW.ha 0
  have HB0 := heap_alloc_new w (.cells #[.int .i64 d, .int .i64 k] 23)
  have b1 : (w.alloc (.cells #[.int .i64 d, .int .i64 k] 23)).cell? ⟨w.heap.size, 1, none⟩ = some (.int .i64 k) := by simp [cell_of HB0]
  have b0 : (w.alloc (.cells #[.int .i64 d, .int .i64 k] 23)).cell? ⟨w.heap.size, 0, none⟩ = some (.int .i64 d) := by simp [cell_of HB0]
  have HHW := Lib.hid HW
  have HBB := Lib.hid HB0
  have HBL := Lib.hid BA
  clear h hL hx hle HW HB0 BA
  go_enter Try.func74, Try.ntmps74
  go_wp2_with fail
  obtain ⟨W, hW⟩ : ∃ W, W = (w.alloc (.cells #[.int .i64 d, .int .i64 k] 23)).setCell ⟨a, 0, none⟩ (.slice (some ⟨lb, 0, none⟩) n cap) := ⟨_, rfl⟩
  rw [← hW]
  have H := HHW.out
  obtain ⟨n1, n2, n3⟩ := H.ne
  have hBa : a ≠ w.heap.size := by rintro e; have := H.ha; rw [e, HBB.out] at this; simp at this
  have hBm : mb ≠ w.heap.size := by rintro e; have := H.hm; rw [e, HBB.out] at this; simp at this
  have wa : W.heap[a]? = some (.cells #[.slice (some ⟨lb, 0, none⟩) n cap, .map (some mb)] 56 (0, 0)) := by rw [hW, heap_set H.ha]; simp
  have wl : W.heap[lb]? = some (.cells cur 23 (0, 0)) := by rw [hW, heap_set_ne _ (Ne.symm n1)]; exact H.hl
  have wm : W.heap[mb]? = some (.map (ents M) clk) := by rw [hW, heap_set_ne _ (Ne.symm n2)]; exact H.hm
  have wb : W.heap[w.heap.size]? = some (.cells #[.int .i64 d, .int .i64 k] 23 (0, 0)) := by rw [hW, heap_set_ne _ (Ne.symm hBa)]; exact HBB.out
  have WU : But [a, lb, mb] w W := by rw [hW]; exact (But.of_below HBL.out).set (Or.inl (by simp)) _ _
  clear hW c0 c1 d0 d1 f0 c0' c1' b0 b1 f0'
  generalize hbw : w.heap.size = B at *
  obtain ⟨p, e, he, e1, e2⟩ := H.mok.at (i := n) (by rw [HL.out]; omega)
  have ek : e.1 = k := by rw [e1, ← HX.out]
  have MK := Lib.hid (H.mok.pop HL.out he e1)
  have c1 : W.cell? ⟨a, 1, none⟩ = some (.map (some mb)) := by simp [cell_of wa]
  have b1 : W.cell? ⟨B, 1, none⟩ = some (.int .i64 k) := by simp [cell_of wb]
  have t0 : W.drew.heap[mb]? = some (.map (ents M) clk) := wm
  have hd := delete_at H.mok.keys he t0
  rw [ek] at hd
  have t1 := setB_eq W.drew mb (.map (ents (M.eraseIdx p)) clk) (block_lt t0)
  have N1 : ∀ j, j ≠ mb → (setB W.drew mb (.map (ents (M.eraseIdx p)) clk)).heap[j]? = W.heap[j]? := fun j hj => setB_ne W.drew mb j _ hj
  have U1 : But [a, lb, mb] w (setB W.drew mb (.map (ents (M.eraseIdx p)) clk)) := ⟨WU.os, WU.tape, WU.output, by rw [setB_size]; exact WU.size, fun j hj hm => (N1 j (by rintro rfl; simp at hm)).trans (WU.block j hj hm)⟩
  generalize setB W.drew mb (.map (ents (M.eraseIdx p)) clk) = Y1 at *
  have yb : Y1.heap[B]? = some (.cells #[.int .i64 d, .int .i64 k] 23 (0, 0)) := (N1 B (Ne.symm hBm)).trans wb
  have y0 : Y1.cell? ⟨B, 0, none⟩ = some (.int .i64 d) := by simp [cell_of yb]
  have y1 : Y1.cell? ⟨B, 1, none⟩ = some (.int .i64 k) := by simp [cell_of yb]
  have FIN : Hid (But [a, lb, mb] w Y1 ∧ AgL Y1 a lb mb cap clk (L.take n)) := by
    refine ⟨U1, cur, M.eraseIdx p, ?_, ?_, t1, ?_, H.size, ?_, MK.out⟩
    · rw [N1 a n2, wa]; simp [HL.out]
    · exact (N1 lb n3).trans wl
    · simp [HL.out]; exact ⟨by omega, hmax⟩
    · have h1 := H.take
      have h2 : (L.take n).length = n := by simp [HL.out]
      rw [h2, ← flat_take, ← h1, List.take_take, HL.out]
      congr 1; omega
  clear t0 t1 N1 U1 wa wl wm wb WU yb H he e1 e2 ek MK
  go_region
  all_goals (
    go_wp2_with fail
    go_ret
    exact ⟨rfl, FIN.out⟩)
end Go.Proofs.Ytideofojmgmboaa
