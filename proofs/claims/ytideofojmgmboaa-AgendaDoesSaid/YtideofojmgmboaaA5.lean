/- Two items change their places. -/
import Derived.Test.YtideofojmgmboaaA4
namespace Go.Proofs.Ytideofojmgmboaa
open Go Go.RowKit
set_option linter.unusedVariables false
set_option linter.unusedSimpArgs false
set_option maxRecDepth 100000
variable {w : World} {a lb mb cap clk : Nat} {cur : Array Value} {M : List Ent} {L : List It}

theorem take_put {cur : Array Value} {L : List It} (n : Nat) (h : cur.toList.take (2 * n) = flat L) (i : Nat) (x : It) (hi : i < L.length) :
    ((cur.setIfInBounds (i * 2) (.int .i64 x.1)).setIfInBounds (i * 2 + 1) (.int .i64 x.2)).toList.take (2 * n) = flat (L.set i x) := by
  rw [Array.toList_setIfInBounds, Array.toList_setIfInBounds, List.take_set, List.take_set, h, Nat.mul_comm i 2, flat_set L i x hi]
/-- the cells that the map's turn reads -/
structure Rd5 (Y : World) (a lb mb n cap i j : Nat) (x1 y1 : Int) : Prop where
  c0 : Y.cell? ⟨a, 0, none⟩ = some (.slice (some ⟨lb, 0, none⟩) n cap)
  c1 : Y.cell? ⟨a, 1, none⟩ = some (.map (some mb))
  ki : Y.cell? ⟨lb, i * 2 + 1, none⟩ = some (.int .i64 y1)
  kj : Y.cell? ⟨lb, j * 2 + 1, none⟩ = some (.int .i64 x1)
theorem Rd5.setB {Y : World} {n i j : Nat} {x1 y1 : Int} (h : Rd5 Y a lb mb n cap i j x1 y1) (o : Obj) (ha : a ≠ mb) (hl : lb ≠ mb) : Rd5 (setB Y mb o) a lb mb n cap i j x1 y1 := by
  have e : ∀ (c k : Nat), c ≠ mb → (Ytideofojmgmboaa.setB Y mb o).cell? ⟨c, k, none⟩ = Y.cell? ⟨c, k, none⟩ := fun c k hc => by
    simp only [World.cell?, setB_ne Y mb c o hc]
  exact ⟨(e a 0 ha).trans h.c0, (e a 1 ha).trans h.c1, (e lb _ hl).trans h.ki, (e lb _ hl).trans h.kj⟩
theorem setB_same {Y : World} {b : Nat} {o : Obj} (h : Y.heap[b]? = some o) : setB Y b o = Y := by
  have e : Y.heap.setIfInBounds b o = Y.heap := by
    apply Array.ext_getElem?
    intro k
    by_cases hk : k = b
    · subst hk; rw [h]; simp [block_lt h]
    · rw [Array.getElem?_setIfInBounds_ne (by omega)]
  unfold setB
  rw [e]
set_option maxHeartbeats 4000000 in
theorem swap_ne (h : Ag1 w a lb mb cap cur M clk L) (i j : Nat) (hi : i < L.length) (hj : j < L.length) (hij : i ≠ j) :
    Calls Try.prog 76 #[.pointer (some ⟨a, 0, none⟩), .int .i64 i, .int .i64 j] w fun e w' => (∃ v, e = .returned v) ∧ But [a, lb, mb] w w' ∧ ∃ cur' M', Ag1 w' a lb mb cap cur' M' clk (swp L i j) := by
  have c0 := h.c0
  have c1 := h.c1
  have i0 := h.l0 hi
  have i1 := h.l1 hi
  have j0 := h.l0 hj
  have j1 := h.l1 hj
  have fi0 := frozen_of h.hl (i * 2)
  have fi1 := frozen_of h.hl (i * 2 + 1)
  have fj0 := frozen_of h.hl (j * 2)
  have fj1 := frozen_of h.hl (j * 2 + 1)
  have HH := Lib.hid h
  generalize hx : at_ L i = x at *
  generalize hy : at_ L j = y at *
  have hn := h.le
  have HX := Lib.hid hx
  have HY := Lib.hid hy
  clear h hx hy
  generalize hln : L.length = n at *
  have HLN := Lib.hid hln
  clear hln
  obtain ⟨x0, x1⟩ := x
  obtain ⟨y0, y1⟩ := y
  simp only at i0 i1 j0 j1
  have hji : ¬ j = i := fun e => hij e.symm
  have hij2 : ¬ i = j := hij
  clear hij
  go_enter Try.func76, Try.ntmps76
  go_wp2_with fail
  go_region
  have H := HH.out
  obtain ⟨V, hV⟩ : ∃ V, V = ((((w.setCell ⟨lb, i * 2, none⟩ (.int .i64 y0)).setCell ⟨lb, i * 2 + 1, none⟩ (.int .i64 y1)).setCell ⟨lb, j * 2, none⟩ (.int .i64 x0)).setCell ⟨lb, j * 2 + 1, none⟩ (.int .i64 x1)).drew := ⟨_, rfl⟩
  rw [← hV]
  have VB : ∀ k, k ≠ lb → V.heap[k]? = w.heap[k]? := fun k hk => by
    rw [hV]
    show ((((w.setCell ⟨lb, i * 2, none⟩ (.int .i64 y0)).setCell ⟨lb, i * 2 + 1, none⟩ (.int .i64 y1)).setCell ⟨lb, j * 2, none⟩ (.int .i64 x0)).setCell ⟨lb, j * 2 + 1, none⟩ (.int .i64 x1)).heap[k]? = _
    rw [heap_set_ne _ hk, heap_set_ne _ hk, heap_set_ne _ hk, heap_set_ne _ hk]
  have VL : V.heap[lb]? = some (.cells ((((cur.setIfInBounds (i * 2) (.int .i64 y0)).setIfInBounds (i * 2 + 1) (.int .i64 y1)).setIfInBounds (j * 2) (.int .i64 x0)).setIfInBounds (j * 2 + 1) (.int .i64 x1)) 23 (0, 0)) := by
    rw [hV]; exact heap_set (heap_set (heap_set (heap_set H.hl _ _) _ _) _ _) _ _
  have VU : But [a, lb, mb] w V := by
    rw [hV]
    exact ((((But.refl _ w).set (Or.inl (by simp)) _ _).set (Or.inl (by simp)) _ _).set (Or.inl (by simp)) _ _).set (Or.inl (by simp)) _ _ |>.drew
  clear hV
  obtain ⟨n1, n2, n3⟩ := H.ne
  have hi' : i < L.length := by rw [HLN.out]; exact hi
  have hj' : j < L.length := by rw [HLN.out]; exact hj
  obtain ⟨q, f, hf, f1, f2⟩ := H.mok.at hj'
  obtain ⟨p, e, he, e1, e2⟩ := H.mok.at hi'
  have hpq : q ≠ p := by
    rintro rfl
    rw [he] at hf; cases hf
    exact hij2 (H.mok.inj hi' hj' (by rw [← e1, ← f1]))
  have MK := Lib.hid (H.mok.swap hi' hj' he e1 hf f1)
  have he' : (setV M q i)[p]? = some e := by rw [setV_at, if_neg hpq]; exact he
  have TK : ((((cur.setIfInBounds (i * 2) (.int .i64 y0)).setIfInBounds (i * 2 + 1) (.int .i64 y1)).setIfInBounds (j * 2) (.int .i64 x0)).setIfInBounds (j * 2 + 1) (.int .i64 x1)).toList.take (2 * L.length) = flat (swp L i j) := by
    unfold swp
    rw [HX.out, HY.out]
    exact take_put _ (take_put _ H.take i (y0, y1) hi') j (x0, x1) (by simpa using hj')
  have hsz : ((((cur.setIfInBounds (i * 2) (.int .i64 y0)).setIfInBounds (i * 2 + 1) (.int .i64 y1)).setIfInBounds (j * 2) (.int .i64 x0)).setIfInBounds (j * 2 + 1) (.int .i64 x1)).size = cap * 2 := by simp [H.size]
  have RV : Rd5 V.drew a lb mb n cap i j x1 y1 := by
    have k0 : V.heap[a]? = _ := VB a n1
    refine ⟨?_, ?_, ?_, ?_⟩
    · show V.cell? _ = _; simp only [World.cell?, k0]; exact c0
    · show V.cell? _ = _; simp only [World.cell?, k0]; exact c1
    · show V.cell? _ = _; rw [cell_of VL]
      have hb1 : i * 2 + 1 < cur.size := by have := H.size; omega
      rw [Array.getElem?_setIfInBounds_ne (by omega), Array.getElem?_setIfInBounds_ne (by omega), Array.getElem?_setIfInBounds_self_of_lt (by simpa using hb1)]
    · show V.cell? _ = _; rw [cell_of VL]
      have hb1 : j * 2 + 1 < cur.size := by have := H.size; omega
      rw [Array.getElem?_setIfInBounds_self_of_lt (by simpa using hb1)]
  generalize ((((cur.setIfInBounds (i * 2) (.int .i64 y0)).setIfInBounds (i * 2 + 1) (.int .i64 y1)).setIfInBounds (j * 2) (.int .i64 x0)).setIfInBounds (j * 2 + 1) (.int .i64 x1)) = cur4 at VL TK hsz
  have t0 : V.drew.heap[mb]? = some (.map (ents M) clk) := (VB mb (by omega)).trans H.hm
  have eq1 : f.1 = y1 := by rw [f1, HY.out]
  have eq2 : e.1 = x1 := by rw [e1, HX.out]
  have he1 := entry_at H.mok.keys hf t0
  rw [eq1, setB_same t0] at he1
  have he2 := store_at H.mok.born hf (i : Int) t0
  have t2 := setB_eq V.drew mb (.map (ents (setV M q i)) clk) (block_lt t0)
  have R2 := RV.setB (.map (ents (setV M q i)) clk) n2 n3
  have N2 : ∀ k, k ≠ mb → (setB V.drew mb (.map (ents (setV M q i)) clk)).heap[k]? = V.heap[k]? := fun k hk => setB_ne V.drew mb k _ hk
  have U2 : But [a, lb, mb] w (setB V.drew mb (.map (ents (setV M q i)) clk)) := ⟨VU.os, VU.tape, VU.output, by rw [setB_size]; exact VU.size, fun k hk hm => (N2 k (by rintro rfl; simp at hm)).trans (VU.block k hk hm)⟩
  generalize setB V.drew mb (.map (ents (setV M q i)) clk) = Y2 at *
  have he3 := entry_at (by rw [setV_key]; exact H.mok.keys) he' t2
  rw [eq2, setB_same t2] at he3
  have he4 := store_at (by rw [setV_born]; exact H.mok.born) he' (j : Int) t2
  have t4 := setB_eq Y2 mb (.map (ents (setV (setV M q i) p j)) clk) (block_lt t2)
  have N4 : ∀ k, k ≠ mb → (setB Y2 mb (.map (ents (setV (setV M q i) p j)) clk)).heap[k]? = Y2.heap[k]? := fun k hk => setB_ne Y2 mb k _ hk
  have U4 : But [a, lb, mb] w (setB Y2 mb (.map (ents (setV (setV M q i) p j)) clk)) := ⟨U2.os, U2.tape, U2.output, by rw [setB_size]; exact U2.size, fun k hk hm => (N4 k (by rintro rfl; simp at hm)).trans (U2.block k hk hm)⟩
  generalize setB Y2 mb (.map (ents (setV (setV M q i) p j)) clk) = Y4 at *
  have FIN : Hid (∃ cur' M', Ag1 Y4 a lb mb cap cur' M' clk (swp L i j)) := by
    refine ⟨cur4, _, ⟨?_, ?_, t4, by rw [swp_len]; exact H.le, hsz, by rw [swp_len]; exact TK, MK.out⟩⟩
    · rw [swp_len]
      exact (N4 a n2).trans ((N2 a n2).trans ((VB a n1).trans H.ha))
    · exact (N4 lb n3).trans ((N2 lb n3).trans VL)
  have FU := Lib.hid U4
  obtain ⟨a0, a1, a2, a3⟩ := RV
  obtain ⟨g0, g1, g2, g3⟩ := R2
  have V0 : V.cell? ⟨a, 0, none⟩ = some (.slice (some ⟨lb, 0, none⟩) n cap) := a0
  have V1 : V.cell? ⟨a, 1, none⟩ = some (.map (some mb)) := a1
  have V2 : V.cell? ⟨lb, i * 2 + 1, none⟩ = some (.int .i64 y1) := a2
  have V3 : V.cell? ⟨lb, j * 2 + 1, none⟩ = some (.int .i64 x1) := a3
  clear a0 a1 a2 a3 U2 U4 N2 N4 t0 t2 t4 VU VB VL TK hsz MK H HH HX HY he hf he' e1 e2 f1 f2 eq1 eq2 hpq c0 c1 i0 i1 j0 j1 fi0 fi1 fj0 fj1
  generalize (e.2.1 : Int) = be at *
  generalize (f.2.1 : Int) = bf at *
  go_wp2_with fail
  go_region
  exact bodyPost_end (results_none rfl _ _ _) rfl ⟨⟨_, rfl⟩, FU.out, FIN.out⟩
end Go.Proofs.Ytideofojmgmboaa
