/- report.readLine: the event of a line. -/
import Derived.Test.YtalilnnjpemmlaaDoorK1
import Derived.Test.YtalilnnjpemmlaaDoorK2
import Derived.Test.YtalilnnjpemmlaaDoorK3
import Derived.Test.YtalilnnjpemmlaaDoorK4
import Derived.Laws.ResultCell
namespace Go.Proofs.YtalilnnjpemmlaaDoor
open Go Go.RowKit
set_option linter.unusedVariables false
set_option linter.unusedSimpArgs false

/-- no event -/
def ev0 : Ev := ⟨0, 0, 0, 0, 0⟩
/-- while the parts are read: what is known of the world -/
structure Rl (B : Nat) (L : List (List UInt8)) (e : Ev) (w x : World) : Prop where
  kt : Below B w x
  parts : x.heap[B + 1]? = some (.cells (cellsS L) 9 (0, 0))
  ev : x.heap[B + 2]? = some (.cells e.cells 25 (0, 0))
  out : x.heap[B]? = some (.cells ev0.cells 25 (0, 0))
  hB : w.heap.size = B
theorem Rl.next {B : Nat} {L : List (List UInt8)} {e : Ev} {w x y : World} (h : Rl B L e w x) (hb : Below x.heap.size x y) : Rl B L e w y := by
  have h1 := block_lt h.ev
  exact ⟨h.kt.trans (hb.mono (by omega)), (hb.block _ (by omega)).trans h.parts, (hb.block _ h1).trans h.ev, (hb.block _ (by omega)).trans h.out, h.hB⟩
theorem Below.set_new {B : Nat} {w x : World} (h : Below B w x) {g : Nat} (hg : B ≤ g) (i : Nat) (u : Value) : Below B w (x.setCell ⟨g, i, none⟩ u) :=
  ⟨h.os, h.tape, h.output, by rw [size_set]; exact h.size, fun k hk => (heap_set_ne x (by omega) i u).trans (h.block k hk)⟩
theorem Rl.set {B : Nat} {L : List (List UInt8)} {e e' : Ev} {w x : World} (h : Rl B L e w x) (i : Nat) (v : Value) (he : e.cells.setIfInBounds i v = e'.cells) : Rl B L e' w (x.setCell ⟨B + 2, i, none⟩ v) :=
  ⟨Below.set_new h.kt (by omega) _ _, (heap_set_ne x (by omega) _ _).trans h.parts, by rw [heap_set h.ev, he], (heap_set_ne x (by omega) _ _).trans h.out, h.hB⟩
theorem Rl.tab {B : Nat} {L : List (List UInt8)} {e : Ev} {w x : World} (h : Rl B L e w x) (hT : Tab w) : Tab x := by
  have := hT.size
  exact hT.below h.kt (by have := h.hB; omega)
theorem Rl.cells {B : Nat} {L : List (List UInt8)} {k g o t p : Int} {w x : World} (h : Rl B L ⟨k, g, o, t, p⟩ w x) :
    x.cell? ⟨B + 2, 0, none⟩ = some (.int .i64 k) ∧ x.cell? ⟨B + 2, 1, none⟩ = some (.int .i64 g) ∧ x.cell? ⟨B + 2, 2, none⟩ = some (.int .i64 o) ∧ x.cell? ⟨B + 2, 3, none⟩ = some (.int .i64 t) ∧ x.cell? ⟨B + 2, 4, none⟩ = some (.int .i64 p) ∧ ∀ j, x.frozen? ⟨B + 2, j, none⟩ = false :=
  ⟨cell_blk h.ev 0, cell_blk h.ev 1, cell_blk h.ev 2, cell_blk h.ev 3, cell_blk h.ev 4, fun j => by simp [World.frozen?, h.ev]⟩
theorem Rl.outs {B : Nat} {L : List (List UInt8)} {e : Ev} {w x : World} (h : Rl B L e w x) :
    x.cell? ⟨B, 0, none⟩ = some (.int .i64 0) ∧ x.cell? ⟨B, 1, none⟩ = some (.int .i64 0) ∧ x.cell? ⟨B, 2, none⟩ = some (.int .i64 0) ∧ x.cell? ⟨B, 3, none⟩ = some (.int .i64 0) ∧ x.cell? ⟨B, 4, none⟩ = some (.int .i64 0) ∧ ∀ j, x.frozen? ⟨B, j, none⟩ = false :=
  ⟨cell_blk h.out 0, cell_blk h.out 1, cell_blk h.out 2, cell_blk h.out 3, cell_blk h.out 4, fun j => by simp [World.frozen?, h.out]⟩
theorem Rl.part {B : Nat} {p0 : List UInt8} {ps : List (List UInt8)} {e : Ev} {w x : World} (h : Rl B (p0 :: ps) e w x) (k : Nat) (hk : k < ps.length) : x.cell? ⟨B + 1, 1 + k, none⟩ = some (.string (bA (ps.getD k []))) := by
  rw [cell_blk h.parts, cellsS_get _ _ (by simp; omega), Nat.add_comm]
  simp [List.getD_cons_succ]

theorem Rl.put {B : Nat} {L : List (List UInt8)} {e : Ev} {w x : World} (h : Rl B L e w x) (a b c d f : Int) :
    Below B w (((((x.setCell ⟨B, 0, none⟩ (.int .i64 a)).setCell ⟨B, 1, none⟩ (.int .i64 b)).setCell ⟨B, 2, none⟩ (.int .i64 c)).setCell ⟨B, 3, none⟩ (.int .i64 d)).setCell ⟨B, 4, none⟩ (.int .i64 f)) ∧
    (((((x.setCell ⟨B, 0, none⟩ (.int .i64 a)).setCell ⟨B, 1, none⟩ (.int .i64 b)).setCell ⟨B, 2, none⟩ (.int .i64 c)).setCell ⟨B, 3, none⟩ (.int .i64 d)).setCell ⟨B, 4, none⟩ (.int .i64 f)).heap[B]? = some (.cells (Ev.cells ⟨a, b, c, d, f⟩) 25 (0, 0)) :=
  ⟨Below.set_new (Below.set_new (Below.set_new (Below.set_new (Below.set_new h.kt (Nat.le_refl _) _ _) (Nat.le_refl _) _ _) (Nat.le_refl _) _ _) (Nat.le_refl _) _ _) (Nat.le_refl _) _ _,
   heap_set (heap_set (heap_set (heap_set (heap_set h.out 0 _) 1 _) 2 _) 3 _) 4 _⟩
theorem rdl_of {s : List UInt8} {e : Ev} (h : cand s = e) : rdl s = if e.ok ∧ ln e = s then some e else none := by
  subst h; rfl

set_option maxRecDepth 100000 in
set_option maxHeartbeats 8000000 in
theorem readLine_any (s : List UInt8) (hs : s.length ≤ 4194304) (w : World) (hT : Tab w) :
    Calls Tryd.prog 22 #[.string (bA s)] w fun e w' => e = .returned (.tuple #[((rdl s).getD ev0).v, .bool (rdl s).isSome]) ∧ Below w.heap.size w w' := by
  have HS : Hid (∀ x, Tab x → Calls Tryd.prog 28 #[.string (bA s), .string ⟨#[32]⟩] x fun e w' => e = .returned (.slice (some ⟨x.heap.size, 0, none⟩) (spl s).length (spl s).length) ∧ w' = x.alloc (.cells (cellsS (spl s)) 9)) := fun x hx => split_any s hs x hx
  have HK : Hid (∀ (a : List UInt8) x, Tab x → Calls Tryd.prog 11 #[.string (bA a)] x fun e w' => e = .returned (.int .i64 (kind a : Int)) ∧ w' = x) := fun a x hx => kind_any a x hx
  have T1 : Tab (w.alloc (.cells ev0.cells 25)) := hT.below ((Below.refl _ w).alloc (Nat.le_refl _) _) hT.size
  obtain ⟨p0, ps, hps⟩ : ∃ p0 ps, spl s = p0 :: ps := by
    cases h : spl s with
    | nil => exact absurd h (spl_ne s)
    | cons a l => exact ⟨a, l, rfl⟩
  have hlen := (spl_len s.length s (Nat.le_refl _)).1
  rw [hps] at HS hlen
  simp only [List.length_cons] at HS hlen
  have c0 : (cellsS (p0 :: ps))[0]? = some (.string (bA p0)) := rfl
  have E1 : Kt (fun k => k = w.heap.size ∨ k = w.heap.size + 2) w ((w.alloc (.cells ev0.cells 25)).alloc (.cells (cellsS (p0 :: ps)) 9)) ∧ ((w.alloc (.cells ev0.cells 25)).alloc (.cells (cellsS (p0 :: ps)) 9)).heap[w.heap.size]? = some (.cells ev0.cells 25 (0, 0)) ∧ ((w.alloc (.cells ev0.cells 25)).alloc (.cells (cellsS (p0 :: ps)) 9)).heap[w.heap.size + 1]? = some (.cells (cellsS (p0 :: ps)) 9 (0, 0)) ∧ ((w.alloc (.cells ev0.cells 25)).alloc (.cells (cellsS (p0 :: ps)) 9)).heap.size = w.heap.size + 2 ∧ (w.alloc (.cells ev0.cells 25)).heap.size = w.heap.size + 1 := by
    have s1 : (w.alloc (.cells ev0.cells 25)).heap.size = w.heap.size + 1 := size_al _ _
    refine ⟨(Kt.alloc _ _ _).trans (Kt.alloc _ _ _), ?_, ?_, ?_, s1⟩
    · rw [heap_al _ (by omega)]; exact heap_alloc_new _ _
    · rw [← s1]; exact heap_alloc_new _ _
    · rw [size_al, s1]
  obtain ⟨ek, eB, eN, es, es1⟩ := E1
  have T2 : Tab ((w.alloc (.cells ev0.cells 25)).alloc (.cells (cellsS (p0 :: ps)) 9)) := T1.below ((Below.refl _ _).alloc (Nat.le_refl _) _) T1.size
  go_enter Tryd.func22, Tryd.ntmps22
  go_wp2_with fail
  go_at_call 28
  refine (HS.out _ T1).mono ?_
  rintro e w1 ⟨rfl, rfl⟩
  clear HS T1
  rw [es1]
  generalize (w.alloc (.cells ev0.cells 25)).alloc (.cells (cellsS (p0 :: ps)) 9) = w2 at *
  clear es1
  have HK0 := Lib.hid (HK.out p0 w2 T2)
  have hc : w2.cell? ⟨w.heap.size + 1, 0, none⟩ = some (.string (bA p0)) := (cell_blk eN 0).trans c0
  have hl0 : ((ps.length + 1 : Nat) : Int) = (ps.length : Int) + 1 := by omega
  go_wp2_with fail
  go_at_call 11
  refine HK0.out.mono ?_
  rintro e w1 ⟨rfl, rfl⟩
  have HR : Hid (Rl w.heap.size (p0 :: ps) ⟨(kind p0 : Int), -1, -1, -1, -1⟩ w (w1.alloc (.cells #[.int .i64 (kind p0 : Int), .int .i64 (-1), .int .i64 (-1), .int .i64 (-1), .int .i64 (-1)] 25))) := by
    refine ⟨?_, ?_, ?_, ?_, rfl⟩
    · exact (ek.below (by rintro k (rfl | rfl) <;> omega) (Nat.le_refl _)).trans ((Below.refl _ _).alloc (by omega) _)
    · rw [heap_al _ (by omega)]; exact eN
    · rw [← es]; exact heap_alloc_new _ _
    · rw [heap_al _ (by omega)]; exact eB
  clear HK HK0 hc c0 hl0 ek eB eN
  have hl1 : ((ps.length : Int) + 1 - 1) = (ps.length : Int) := by omega
  have HC : Hid (cand s = ps.foldl step ⟨(kind p0 : Int), -1, -1, -1, -1⟩) := by
    show cand s = _
    unfold cand
    rw [hps]; rfl
  have HPL : Hid (∀ k, k < ps.length → (ps.getD k []).length ≤ 4194304) := fun k hk => by
    have h1 := (spl_len s.length s (Nat.le_refl _)).2 (ps.getD k []) (by
      rw [hps, List.getD_eq_getElem?_getD, List.getElem?_eq_getElem hk]
      exact List.mem_cons_of_mem _ (List.getElem_mem hk))
    omega
  have HTT := Lib.hid hT
  clear hT T2 hps
  by_cases hpe : ps = []
  · go_wp2_with fail
    clear es hl1
    generalize (w1.alloc _) = w3 at HR ⊢
    clear w1
    generalize (kind p0 : Int) = k0 at *
    go_loopw [22] (fun i wr => ∃ (k : Nat) (e : Ev), i = .int .i64 (k : Int) ∧ k ≤ ps.length ∧ Rl w.heap.size (p0 :: ps) e w wr ∧ Hid (e = (ps.take k).foldl step ⟨k0, -1, -1, -1, -1⟩)) (fun i _ => ps.length - (intOf i).toNat)
    case atStart => exact ⟨0, _, rfl, by omega, HR.out, rfl⟩
    case round =>
      obtain ⟨k, e, rfl, hk, hR, HE⟩ := hrel
      have HRR := Lib.hid hR
      clear hR HR
      by_cases hkl : k < ps.length
      · rw [hpe] at hkl; simp at hkl
      · obtain rfl : k = ps.length := by omega
        rw [List.take_length] at HE
        have HEc : Hid (cand s = e) := HC.out.trans HE.out.symm
        clear HE HC
        obtain ⟨ek, eg, eo, et, ep⟩ := e
        obtain ⟨c0, c1, c2, c3, c4, cf⟩ := HRR.out.cells
        have HL : Hid (∀ x, Tab x → Calls Tryd.prog 12 #[.agg #[.int .i64 ek, .int .i64 eg, .int .i64 eo, .int .i64 et, .int .i64 ep]] x fun r w' => r = .returned (.tuple #[.string (bA (lnS ⟨ek, eg, eo, et, ep⟩)), .bool (decide (Ev.ok ⟨ek, eg, eo, et, ep⟩))]) ∧ Below x.heap.size x w') := fun x hx => line_any ⟨ek, eg, eo, et, ep⟩ x hx
        have T := Lib.hid (HRR.out.tab HTT.out)
        have fa : ∀ x : World, (Op.stringOp .add (bA s) ⟨#[10]⟩).run Tryd.prog x = .ok (.string (bA (s ++ [10]))) x := add_run s [10] (by simp; omega)
        have q2 := bA_list (s ++ [10])
        have HRD := Lib.hid (rdl_of HEc.out)
        clear HEc
        go_wp2_with fail
        go_at_call 12
        refine (HL.out _ T.out).mono ?_
        rintro e w4 ⟨rfl, hb4⟩
        have HR4 := Lib.hid (HRR.out.next hb4)
        clear c0 c1 c2 c3 c4 cf HL HRR T hb4
        obtain ⟨c0, c1, c2, c3, c4, -⟩ := HR4.out.cells
        obtain ⟨o0, o1, o2, o3, o4, of⟩ := HR4.out.outs
        by_cases hok : Ev.ok ⟨ek, eg, eo, et, ep⟩
        · have hd : decide (Ev.ok ⟨ek, eg, eo, et, ep⟩) = true := decide_eq_true hok
          have hls : lnS ⟨ek, eg, eo, et, ep⟩ = ln ⟨ek, eg, eo, et, ep⟩ ++ [10] := if_pos hok
          rw [hd, hls]
          by_cases heq : ln ⟨ek, eg, eo, et, ep⟩ = s
          · have HF : Hid (rdl s = some ⟨ek, eg, eo, et, ep⟩) := HRD.out.trans (if_pos ⟨hok, heq⟩)
            rw [heq]
            clear HRD hd hls heq hok q2
            generalize bA (s ++ [10]) = L2 at *
            go_wp2_with fail
            have hP := HR4.out.put ek eg eo et ep
            generalize (((((w4.setCell ⟨w.heap.size, 0, none⟩ _).setCell _ _).setCell _ _).setCell _ _).setCell _ _) = w5 at hP ⊢
            obtain ⟨hb5, hc5⟩ := hP
            have z0 := cell_blk hc5 0
            have z1 := cell_blk hc5 1
            have z2 := cell_blk hc5 2
            have z3 := cell_blk hc5 3
            have z4 := cell_blk hc5 4
            simp only [Ev.cells, List.getElem?_toArray, List.getElem?_cons_zero, List.getElem?_cons_succ] at z0 z1 z2 z3 z4
            clear c0 c1 c2 c3 c4 o0 o1 o2 o3 o4 of hc5
            refine bodyPost_ret (v := .tuple #[.agg #[.int .i64 ek, .int .i64 eg, .int .i64 eo, .int .i64 et, .int .i64 ep], .bool true]) ?_ rfl ?_
            · rw [results_cell_tmp rfl]
              go_simp
            · rw [HF.out]; exact ⟨rfl, hb5⟩
          · have HF : Hid (rdl s = none) := HRD.out.trans (if_neg (fun h => heq h.2))
            have q1 := bA_list (ln ⟨ek, eg, eo, et, ep⟩ ++ [10])
            have hne : ¬ (bA (ln ⟨ek, eg, eo, et, ep⟩ ++ [10])).toList = (bA (s ++ [10])).toList := by
              rw [q1, q2]
              intro h
              exact heq (List.append_cancel_right h)
            have hnb : ((bA (ln ⟨ek, eg, eo, et, ep⟩ ++ [10])).toList == (bA (s ++ [10])).toList) = false := by rw [beq_eq_false_iff_ne]; exact hne
            clear HRD hd hls heq hok q1 q2
            generalize bA (s ++ [10]) = L2 at *
            generalize bA (ln ⟨ek, eg, eo, et, ep⟩ ++ [10]) = L1 at *
            go_wp2_with fail
            have hP := HR4.out.put 0 0 0 0 0
            generalize (((((w4.setCell ⟨w.heap.size, 0, none⟩ _).setCell _ _).setCell _ _).setCell _ _).setCell _ _) = w5 at hP ⊢
            obtain ⟨hb5, hc5⟩ := hP
            have z0 := cell_blk hc5 0
            have z1 := cell_blk hc5 1
            have z2 := cell_blk hc5 2
            have z3 := cell_blk hc5 3
            have z4 := cell_blk hc5 4
            simp only [Ev.cells, List.getElem?_toArray, List.getElem?_cons_zero, List.getElem?_cons_succ] at z0 z1 z2 z3 z4
            clear c0 c1 c2 c3 c4 o0 o1 o2 o3 o4 of hc5
            refine bodyPost_ret (v := .tuple #[.agg #[.int .i64 0, .int .i64 0, .int .i64 0, .int .i64 0, .int .i64 0], .bool false]) ?_ rfl ?_
            · rw [results_cell_tmp rfl]
              go_simp
            · rw [HF.out]; exact ⟨rfl, hb5⟩
        · have hd : decide (Ev.ok ⟨ek, eg, eo, et, ep⟩) = false := decide_eq_false hok
          have HF : Hid (rdl s = none) := HRD.out.trans (if_neg (fun h => hok h.1))
          rw [hd]
          clear HRD hd hok
          generalize bA (lnS ⟨ek, eg, eo, et, ep⟩) = L1
          go_wp2_with fail
          have hP := HR4.out.put 0 0 0 0 0
          generalize (((((w4.setCell ⟨w.heap.size, 0, none⟩ _).setCell _ _).setCell _ _).setCell _ _).setCell _ _) = w5 at hP ⊢
          obtain ⟨hb5, hc5⟩ := hP
          have z0 := cell_blk hc5 0
          have z1 := cell_blk hc5 1
          have z2 := cell_blk hc5 2
          have z3 := cell_blk hc5 3
          have z4 := cell_blk hc5 4
          simp only [Ev.cells, List.getElem?_toArray, List.getElem?_cons_zero, List.getElem?_cons_succ] at z0 z1 z2 z3 z4
          clear c0 c1 c2 c3 c4 o0 o1 o2 o3 o4 of hc5
          refine bodyPost_ret (v := .tuple #[.agg #[.int .i64 0, .int .i64 0, .int .i64 0, .int .i64 0, .int .i64 0], .bool false]) ?_ rfl ?_
          · rw [results_cell_tmp rfl]
            go_simp
          · rw [HF.out]; exact ⟨rfl, hb5⟩
  · go_wp2_with fail
    clear es hl1
    generalize (w1.alloc _) = w3 at HR ⊢
    clear w1
    generalize (kind p0 : Int) = k0 at *
    go_loopw [22] (fun i wr => ∃ (k : Nat) (e : Ev), i = .int .i64 (k : Int) ∧ k ≤ ps.length ∧ Rl w.heap.size (p0 :: ps) e w wr ∧ Hid (e = (ps.take k).foldl step ⟨k0, -1, -1, -1, -1⟩)) (fun i _ => ps.length - (intOf i).toNat)
    case atStart => exact ⟨0, _, rfl, by omega, HR.out, rfl⟩
    case round =>
      obtain ⟨k, e, rfl, hk, hR, HE⟩ := hrel
      have HRR := Lib.hid hR
      clear hR HR
      by_cases hkl : k < ps.length
      · obtain ⟨ek, eg, eo, et, ep⟩ := e
        obtain ⟨c0, c1, c2, c3, c4, cf⟩ := HRR.out.cells
        have hcp := HRR.out.part k hkl
        have HP := Lib.hid (fun x hx => part_read (ps.getD k []) (HPL.out k hkl) x hx)
        have HE2 : Hid ((ps.take (k + 1)).foldl step ⟨k0, -1, -1, -1, -1⟩ = step ⟨ek, eg, eo, et, ep⟩ (ps.getD k [])) := by
          show _ = _
          rw [List.take_succ_eq_append_getElem hkl, List.foldl_append, ← HE.out]
          simp [List.getD_eq_getElem?_getD, List.getElem?_eq_getElem hkl]
        have T := Lib.hid (HRR.out.tab HTT.out)
        generalize ps.getD k [] = P at *
        have hki : (k : Int) < (ps.length : Int) := by omega
        go_wp2_with fail
        go_at_call 29
        refine (HP.out _ T.out).mono ?_
        rintro e w4 ⟨rfl, hb4⟩
        have HR4 := Lib.hid (HRR.out.next hb4)
        clear c0 c1 c2 c3 c4 cf hcp HP HPL HRR T hb4
        obtain ⟨c0, c1, c2, c3, c4, cf⟩ := HR4.out.cells
        have hf1 := cf 1
        have hf2 := cf 2
        have hf3 := cf 3
        have hf4 := cf 4
        clear cf
        have q := bA_list (P.take 1)
        have hst : step ⟨ek, eg, eo, et, ep⟩ P = if P.take 1 = [103] then (if eg = -1 then ⟨ek, num (P.drop 1), eo, et, ep⟩ else ⟨ek, eg, num (P.drop 1), et, ep⟩) else if P.take 1 = [116] then ⟨ek, eg, eo, num (P.drop 1), ep⟩ else if P.take 1 = [112] then ⟨ek, eg, eo, et, num (P.drop 1)⟩ else ⟨ek, eg, eo, et, ep⟩ := rfl
        rw [hst] at HE2
        clear hst
        generalize num (P.drop 1) = n at *
        generalize P.take 1 = A at *
        generalize bA P = PB at *
        generalize bA A = AB at *
        by_cases a1 : A = [103]
        · rw [if_pos a1] at HE2
          have r1 : AB.toList = [103] := q.trans a1
          by_cases a2 : eg = -1
          · rw [if_pos a2] at HE2
            subst a2
            clear q
            go_wp2_with fail
            go_roundw
            case rel => exact ⟨k + 1, ⟨ek, n, eo, et, ep⟩, by go_num, by omega, (HR4.out.set 1 (.int .i64 n) rfl), HE2.out.symm⟩
            case measure => simp [intOf]; omega
          · rw [if_neg a2] at HE2
            have r2 : (eg == (-1 : Int)) = false := by rw [beq_eq_false_iff_ne]; exact a2
            clear q
            go_wp2_with fail
            go_roundw
            case rel => exact ⟨k + 1, ⟨ek, eg, n, et, ep⟩, by go_num, by omega, (HR4.out.set 2 (.int .i64 n) rfl), HE2.out.symm⟩
            case measure => simp [intOf]; omega
        · rw [if_neg a1] at HE2
          have r1n : ¬ AB.toList = [103] := fun h => absurd (q.symm.trans h) a1
          have r1 : (AB.toList == [103]) = false := by rw [beq_eq_false_iff_ne]; exact r1n
          by_cases a2 : A = [116]
          · rw [if_pos a2] at HE2
            have r2 : AB.toList = [116] := q.trans a2
            clear q
            go_wp2_with fail
            go_roundw
            case rel => exact ⟨k + 1, ⟨ek, eg, eo, n, ep⟩, by go_num, by omega, (HR4.out.set 3 (.int .i64 n) rfl), HE2.out.symm⟩
            case measure => simp [intOf]; omega
          · rw [if_neg a2] at HE2
            have r2n : ¬ AB.toList = [116] := fun h => absurd (q.symm.trans h) a2
            have r2 : (AB.toList == [116]) = false := by rw [beq_eq_false_iff_ne]; exact r2n
            by_cases a3 : A = [112]
            · rw [if_pos a3] at HE2
              have r3 : AB.toList = [112] := q.trans a3
              clear q
              go_wp2_with fail
              go_roundw
              case rel => exact ⟨k + 1, ⟨ek, eg, eo, et, n⟩, by go_num, by omega, (HR4.out.set 4 (.int .i64 n) rfl), HE2.out.symm⟩
              case measure => simp [intOf]; omega
            · rw [if_neg a3] at HE2
              have r3n : ¬ AB.toList = [112] := fun h => absurd (q.symm.trans h) a3
              have r3 : (AB.toList == [112]) = false := by rw [beq_eq_false_iff_ne]; exact r3n
              clear q
              go_wp2_with fail
              go_roundw
              case rel => exact ⟨k + 1, ⟨ek, eg, eo, et, ep⟩, by go_num, by omega, HR4.out, HE2.out.symm⟩
              case measure => simp [intOf]; omega
      · obtain rfl : k = ps.length := by omega
        rw [List.take_length] at HE
        have HEc : Hid (cand s = e) := HC.out.trans HE.out.symm
        clear HE HC
        obtain ⟨ek, eg, eo, et, ep⟩ := e
        obtain ⟨c0, c1, c2, c3, c4, cf⟩ := HRR.out.cells
        have HL : Hid (∀ x, Tab x → Calls Tryd.prog 12 #[.agg #[.int .i64 ek, .int .i64 eg, .int .i64 eo, .int .i64 et, .int .i64 ep]] x fun r w' => r = .returned (.tuple #[.string (bA (lnS ⟨ek, eg, eo, et, ep⟩)), .bool (decide (Ev.ok ⟨ek, eg, eo, et, ep⟩))]) ∧ Below x.heap.size x w') := fun x hx => line_any ⟨ek, eg, eo, et, ep⟩ x hx
        have T := Lib.hid (HRR.out.tab HTT.out)
        have fa : ∀ x : World, (Op.stringOp .add (bA s) ⟨#[10]⟩).run Tryd.prog x = .ok (.string (bA (s ++ [10]))) x := add_run s [10] (by simp; omega)
        have q2 := bA_list (s ++ [10])
        have HRD := Lib.hid (rdl_of HEc.out)
        clear HEc
        go_wp2_with fail
        go_at_call 12
        refine (HL.out _ T.out).mono ?_
        rintro e w4 ⟨rfl, hb4⟩
        have HR4 := Lib.hid (HRR.out.next hb4)
        clear c0 c1 c2 c3 c4 cf HL HRR T hb4
        obtain ⟨c0, c1, c2, c3, c4, -⟩ := HR4.out.cells
        obtain ⟨o0, o1, o2, o3, o4, of⟩ := HR4.out.outs
        by_cases hok : Ev.ok ⟨ek, eg, eo, et, ep⟩
        · have hd : decide (Ev.ok ⟨ek, eg, eo, et, ep⟩) = true := decide_eq_true hok
          have hls : lnS ⟨ek, eg, eo, et, ep⟩ = ln ⟨ek, eg, eo, et, ep⟩ ++ [10] := if_pos hok
          rw [hd, hls]
          by_cases heq : ln ⟨ek, eg, eo, et, ep⟩ = s
          · have HF : Hid (rdl s = some ⟨ek, eg, eo, et, ep⟩) := HRD.out.trans (if_pos ⟨hok, heq⟩)
            rw [heq]
            clear HRD hd hls heq hok q2
            generalize bA (s ++ [10]) = L2 at *
            go_wp2_with fail
            have hP := HR4.out.put ek eg eo et ep
            generalize (((((w4.setCell ⟨w.heap.size, 0, none⟩ _).setCell _ _).setCell _ _).setCell _ _).setCell _ _) = w5 at hP ⊢
            obtain ⟨hb5, hc5⟩ := hP
            have z0 := cell_blk hc5 0
            have z1 := cell_blk hc5 1
            have z2 := cell_blk hc5 2
            have z3 := cell_blk hc5 3
            have z4 := cell_blk hc5 4
            simp only [Ev.cells, List.getElem?_toArray, List.getElem?_cons_zero, List.getElem?_cons_succ] at z0 z1 z2 z3 z4
            clear c0 c1 c2 c3 c4 o0 o1 o2 o3 o4 of hc5
            refine bodyPost_ret (v := .tuple #[.agg #[.int .i64 ek, .int .i64 eg, .int .i64 eo, .int .i64 et, .int .i64 ep], .bool true]) ?_ rfl ?_
            · rw [results_cell_tmp rfl]
              go_simp
            · rw [HF.out]; exact ⟨rfl, hb5⟩
          · have HF : Hid (rdl s = none) := HRD.out.trans (if_neg (fun h => heq h.2))
            have q1 := bA_list (ln ⟨ek, eg, eo, et, ep⟩ ++ [10])
            have hne : ¬ (bA (ln ⟨ek, eg, eo, et, ep⟩ ++ [10])).toList = (bA (s ++ [10])).toList := by
              rw [q1, q2]
              intro h
              exact heq (List.append_cancel_right h)
            have hnb : ((bA (ln ⟨ek, eg, eo, et, ep⟩ ++ [10])).toList == (bA (s ++ [10])).toList) = false := by rw [beq_eq_false_iff_ne]; exact hne
            clear HRD hd hls heq hok q1 q2
            generalize bA (s ++ [10]) = L2 at *
            generalize bA (ln ⟨ek, eg, eo, et, ep⟩ ++ [10]) = L1 at *
            go_wp2_with fail
            have hP := HR4.out.put 0 0 0 0 0
            generalize (((((w4.setCell ⟨w.heap.size, 0, none⟩ _).setCell _ _).setCell _ _).setCell _ _).setCell _ _) = w5 at hP ⊢
            obtain ⟨hb5, hc5⟩ := hP
            have z0 := cell_blk hc5 0
            have z1 := cell_blk hc5 1
            have z2 := cell_blk hc5 2
            have z3 := cell_blk hc5 3
            have z4 := cell_blk hc5 4
            simp only [Ev.cells, List.getElem?_toArray, List.getElem?_cons_zero, List.getElem?_cons_succ] at z0 z1 z2 z3 z4
            clear c0 c1 c2 c3 c4 o0 o1 o2 o3 o4 of hc5
            refine bodyPost_ret (v := .tuple #[.agg #[.int .i64 0, .int .i64 0, .int .i64 0, .int .i64 0, .int .i64 0], .bool false]) ?_ rfl ?_
            · rw [results_cell_tmp rfl]
              go_simp
            · rw [HF.out]; exact ⟨rfl, hb5⟩
        · have hd : decide (Ev.ok ⟨ek, eg, eo, et, ep⟩) = false := decide_eq_false hok
          have HF : Hid (rdl s = none) := HRD.out.trans (if_neg (fun h => hok h.1))
          rw [hd]
          clear HRD hd hok
          generalize bA (lnS ⟨ek, eg, eo, et, ep⟩) = L1
          go_wp2_with fail
          have hP := HR4.out.put 0 0 0 0 0
          generalize (((((w4.setCell ⟨w.heap.size, 0, none⟩ _).setCell _ _).setCell _ _).setCell _ _).setCell _ _) = w5 at hP ⊢
          obtain ⟨hb5, hc5⟩ := hP
          have z0 := cell_blk hc5 0
          have z1 := cell_blk hc5 1
          have z2 := cell_blk hc5 2
          have z3 := cell_blk hc5 3
          have z4 := cell_blk hc5 4
          simp only [Ev.cells, List.getElem?_toArray, List.getElem?_cons_zero, List.getElem?_cons_succ] at z0 z1 z2 z3 z4
          clear c0 c1 c2 c3 c4 o0 o1 o2 o3 o4 of hc5
          refine bodyPost_ret (v := .tuple #[.agg #[.int .i64 0, .int .i64 0, .int .i64 0, .int .i64 0, .int .i64 0], .bool false]) ?_ rfl ?_
          · rw [results_cell_tmp rfl]
            go_simp
          · rw [HF.out]; exact ⟨rfl, hb5⟩
end Go.Proofs.YtalilnnjpemmlaaDoor
