/- script.readRun: the run of a line. -/
import Derived.Test.YtemdhcegelddlaaDoorSE
namespace Go.Proofs.YtemdhcegelddlaaDoor
open Go Go.RowKit
set_option linter.unusedVariables false
set_option linter.unusedSimpArgs false

/-- while a line is read -/
structure Rr (w x : World) (M : Nat) (k a n : Int) : Prop where
  bel : Below w.heap.size w x
  ev : x.heap[M]? = some (.cells #[.int .i64 k, .int .i64 a, .int .i64 n] 76 (0, 0))
  out : x.heap[w.heap.size]? = some (.cells #[.int .i64 0, .int .i64 0, .int .i64 0] 76 (0, 0))
  hM : w.heap.size < M
theorem Below.set_new {B : Nat} {w x : World} (h : Below B w x) {g : Nat} (hg : B ≤ g) (i : Nat) (u : Value) : Below B w (x.setCell ⟨g, i, none⟩ u) :=
  ⟨h.os, h.tape, h.output, by rw [size_set]; exact h.size, fun k hk => (heap_set_ne x (by omega) i u).trans (h.block k hk)⟩
theorem Rr.next {w x y : World} {M : Nat} {k a n : Int} (h : Rr w x M k a n) (hb : Below x.heap.size x y) : Rr w y M k a n :=
  ⟨h.bel.trans (hb.mono h.bel.size), (hb.block _ (block_lt h.ev)).trans h.ev, (hb.block _ (block_lt h.out)).trans h.out, h.hM⟩
theorem Rr.set {w x : World} {M : Nat} {k a n : Int} (h : Rr w x M k a n) (m : Int) : Rr w (x.setCell ⟨M, 2, none⟩ (.int .i64 m)) M k a m := by
  have := h.hM
  exact ⟨Below.set_new h.bel (by omega) _ _, by rw [heap_set h.ev]; rfl, (heap_set_ne x (by omega) _ _).trans h.out, h.hM⟩
theorem Rr.cells {w x : World} {M : Nat} {k a n : Int} (h : Rr w x M k a n) : x.cell? ⟨M, 0, none⟩ = some (.int .i64 k) ∧ x.cell? ⟨M, 1, none⟩ = some (.int .i64 a) ∧ x.cell? ⟨M, 2, none⟩ = some (.int .i64 n) ∧ x.frozen? ⟨M, 2, none⟩ = false :=
  ⟨cell_blk h.ev 0, cell_blk h.ev 1, cell_blk h.ev 2, by simp [World.frozen?, h.ev]⟩
theorem Rr.outs {w x : World} {M : Nat} {k a n : Int} (h : Rr w x M k a n) : x.cell? ⟨w.heap.size, 0, none⟩ = some (.int .i64 0) ∧ x.cell? ⟨w.heap.size, 1, none⟩ = some (.int .i64 0) ∧ x.cell? ⟨w.heap.size, 2, none⟩ = some (.int .i64 0) ∧ ∀ j, x.frozen? ⟨w.heap.size, j, none⟩ = false :=
  ⟨cell_blk h.out 0, cell_blk h.out 1, cell_blk h.out 2, fun j => by simp [World.frozen?, h.out]⟩
theorem Rr.put {w x : World} {M : Nat} {k a n : Int} (h : Rr w x M k a n) (p q r : Int) :
    Below w.heap.size w (((x.setCell ⟨w.heap.size, 0, none⟩ (.int .i64 p)).setCell ⟨w.heap.size, 1, none⟩ (.int .i64 q)).setCell ⟨w.heap.size, 2, none⟩ (.int .i64 r)) ∧
    (((x.setCell ⟨w.heap.size, 0, none⟩ (.int .i64 p)).setCell ⟨w.heap.size, 1, none⟩ (.int .i64 q)).setCell ⟨w.heap.size, 2, none⟩ (.int .i64 r)).heap[w.heap.size]? = some (.cells #[.int .i64 p, .int .i64 q, .int .i64 r] 76 (0, 0)) :=
  ⟨Below.set_new (Below.set_new (Below.set_new h.bel (Nat.le_refl _) _ _) (Nat.le_refl _) _ _) (Nat.le_refl _) _ _, heap_set (heap_set (heap_set h.out 0 _) 1 _) 2 _⟩
/-- what readRun answers -/
def rrV : Option (En × Int) → Value
  | some (e, n) => .agg #[.int .i64 e.k, .int .i64 e.w, .int .i64 n]
  | none => .agg #[.int .i64 0, .int .i64 0, .int .i64 0]
theorem rdr_of {s : List UInt8} {e : En} {n : Int} (h : candR s = (e, n)) : rdr s = if e.ok ∧ n ≤ 65536 ∧ lnR e n = s then some (e, n) else none := by
  unfold rdr; rw [h]

set_option maxRecDepth 100000 in
set_option maxHeartbeats 8000000 in
theorem readRun_any (s : List UInt8) (hs : s.length ≤ 4194304) (w : World) (hT : Tab w) :
    Calls Tryd.prog 37 #[.string (bA s)] w fun e w' => e = .returned (.tuple #[rrV (rdr s), .bool (rdr s).isSome]) ∧ Below w.heap.size w w' := by
  have HTT := Lib.hid (fun (X : World) (hb : Below w.heap.size w X) => hT.below hb hT.size)
  have HC1 : Hid (∀ x, Tab x → Calls Tryd.prog 54 #[.string (bA s), .string ⟨#[32, 120, 32]⟩] x fun e w' => e = .returned (.tuple #[.string (bA (cutL s [32, 120, 32]).1), .string (bA (cutL s [32, 120, 32]).2.1), .bool (cutL s [32, 120, 32]).2.2]) ∧ Below x.heap.size x w') := fun x hx => cut_any s [32, 120, 32] hs x hx
  have hcl := cut_len s [32, 120, 32]
  have hcand : candR s = (candE (cutL s [32, 120, 32]).1, if (cutL s [32, 120, 32]).2.2 = true then num (cutL s [32, 120, 32]).2.1 else 1) := rfl
  obtain ⟨⟨one, count, long⟩, hcut⟩ : ∃ c, cutL s [32, 120, 32] = c := ⟨_, rfl⟩
  rw [hcut] at HC1 hcl hcand
  simp only at HC1 hcl hcand
  have HC2 : Hid (∀ x, Tab x → Calls Tryd.prog 54 #[.string (bA one), .string ⟨#[32]⟩] x fun e w' => e = .returned (.tuple #[.string (bA (cutL one [32]).1), .string (bA (cutL one [32]).2.1), .bool (cutL one [32]).2.2]) ∧ Below x.heap.size x w') := fun x hx => cut_any one [32] (by omega) x hx
  have hcl2 := cut_len one [32]
  have hce : candE one = ⟨kindS (cutL one [32]).1, num (cutL one [32]).2.1⟩ := rfl
  obtain ⟨⟨kk, who, lg⟩, hcut2⟩ : ∃ c, cutL one [32] = c := ⟨_, rfl⟩
  rw [hcut2] at HC2 hcl2 hce
  simp only at HC2 hcl2 hce
  have HK := Lib.hid (fun x hx => kind_any kk x hx)
  have HN1 := Lib.hid (fun x hx => number_read who (by omega) x hx)
  have HN2 := Lib.hid (fun x hx => number_read count (by omega) x hx)
  rw [hce] at hcand
  have q0 := bA_list s
  generalize kindS kk = k at *
  generalize num who = a at *
  generalize num count = cn at *
  have HCAND := Lib.hid hcand
  have HB0 := Lib.hid ((Below.refl w.heap.size w).alloc (Nat.le_refl _) (.cells #[.int .i64 0, .int .i64 0, .int .i64 0] 76))
  have HO0 : Hid ((w.alloc (.cells #[.int .i64 0, .int .i64 0, .int .i64 0] 76)).heap[w.heap.size]? = some (.cells #[.int .i64 0, .int .i64 0, .int .i64 0] 76 (0, 0))) := heap_alloc_new _ _
  have HWR := Lib.hid (fun x hx => wrong_any ⟨k, a⟩ x hx)
  change Hid (∀ x, Tab x → Calls Tryd.prog 31 #[.agg #[.int .i64 k, .int .i64 a]] x fun r w' => r = .returned (.bool (!decide (En.ok ⟨k, a⟩))) ∧ Below x.heap.size x w') at HWR
  have HLN := Lib.hid (fun (n : Int) (he : En.ok ⟨k, a⟩) (hn : n ≤ 65536) (x : World) (hx : Tab x) => line_any ⟨k, a⟩ n he hn x hx)
  clear hcl hcand hcut hcl2 hce hcut2 hT hs
  obtain ⟨SB, hSB⟩ : ∃ X, bA s = X := ⟨_, rfl⟩
  rw [hSB] at HC1 q0
  rw [hSB]
  clear hSB
  generalize bA one = OB at *
  generalize bA count = CB at *
  generalize bA who = WB at *
  generalize bA kk = KB at *
  go_enter Tryd.func37, Tryd.ntmps37
  go_wp2_with fail
  generalize w.alloc (.cells #[.int .i64 0, .int .i64 0, .int .i64 0] 76) = W0 at *
  go_at_call 54
  refine (HC1.out _ (HTT.out _ HB0.out)).mono ?_
  rintro e w1 ⟨rfl, hb⟩
  have HB1 := Lib.hid (HB0.out.trans (hb.mono HB0.out.size))
  have HO1 := Lib.hid ((hb.block _ (block_lt HO0.out)).trans HO0.out)
  clear hb HO0 HB0 HC1
  go_wp2_with fail
  go_at_call 54
  refine (HC2.out _ (HTT.out _ HB1.out)).mono ?_
  rintro e w2 ⟨rfl, hb⟩
  have HB2 := Lib.hid (HB1.out.trans (hb.mono HB1.out.size))
  have HO2 := Lib.hid ((hb.block _ (block_lt HO1.out)).trans HO1.out)
  clear hb HO1 HB1 HC2
  go_wp2_with fail
  go_at_call 55
  refine (HK.out _ (HTT.out _ HB2.out)).mono ?_
  rintro e w3 ⟨rfl, rfl⟩
  go_wp2_with fail
  go_at_call 56
  refine (HN1.out _ (HTT.out _ HB2.out)).mono ?_
  rintro e w4 ⟨rfl, hb⟩
  have HB4 := Lib.hid (HB2.out.trans (hb.mono HB2.out.size))
  have HO4 := Lib.hid ((hb.block _ (block_lt HO2.out)).trans HO2.out)
  clear hb HO2 HB2 HK HN1
  have HR : Hid (Rr w (w4.alloc (.cells #[.int .i64 k, .int .i64 a, .int .i64 1] 76)) w4.heap.size k a 1) :=
    ⟨HB4.out.alloc HB4.out.size _, heap_alloc_new _ _, (heap_al _ (block_lt HO4.out) _).trans HO4.out, block_lt HO4.out⟩
  clear HO4
  cases long with
  | false =>
    obtain ⟨c0, c1, c2, -⟩ := HR.out.cells
    have HRD := Lib.hid (rdr_of HCAND.out)
    simp only [if_true, if_false, Bool.false_eq_true] at HRD
    by_cases hok : En.ok ⟨k, a⟩
    · rw [decide_eq_true hok] at HWR
      have HOK := Lib.hid hok
      clear hok
      by_cases hn : (1 : Int) ≤ 65536
      · have HLL := Lib.hid (HLN.out (1 : Int) HOK.out hn)
        have q1 := bA_list (lnR ⟨k, a⟩ (1 : Int))
        have HN := Lib.hid hn
        have hn2 : ¬ (65536 : Int) < (1 : Int) := by omega
        obtain ⟨LB, hLB⟩ : ∃ X, bA (lnR ⟨k, a⟩ (1 : Int)) = X := ⟨_, rfl⟩
        rw [hLB] at HLL q1
        clear hLB hn
        by_cases heq : lnR ⟨k, a⟩ (1 : Int) = s
        · have HF : Hid (rdr s = some (⟨k, a⟩, (1 : Int))) := HRD.out.trans (if_pos ⟨HOK.out, HN.out, heq⟩)
          have qe : LB.toList = SB.toList := by rw [q1, q0, heq]
          clear q0 q1 heq HRD
          go_wp2_with fail
          go_at_call 31
          refine (HWR.out _ (HTT.out _ HR.out.bel)).mono ?_
          rintro e y1 ⟨rfl, hb⟩
          have HY1 := Lib.hid (HR.out.next hb)
          clear hb c0 c1 c2
          obtain ⟨c0, c1, c2, -⟩ := HY1.out.cells
          go_wp2_with fail
          go_at_call 34
          refine (HLL.out _ (HTT.out _ HY1.out.bel)).mono ?_
          rintro e y2 ⟨rfl, hb⟩
          have HY2 := Lib.hid (HY1.out.next hb)
          clear hb c0 c1 c2
          obtain ⟨c0, c1, c2, -⟩ := HY2.out.cells
          obtain ⟨o0, o1, o2, of⟩ := HY2.out.outs
          go_wp2_with fail
          have hP := HY2.out.put k a (1 : Int)
          generalize (((y2.setCell ⟨w.heap.size, 0, none⟩ _).setCell _ _).setCell _ _) = w5 at hP ⊢
          obtain ⟨hb5, hc5⟩ := hP
          have z0 := cell_blk hc5 0
          have z1 := cell_blk hc5 1
          have z2 := cell_blk hc5 2
          simp only [List.getElem?_toArray, List.getElem?_cons_zero, List.getElem?_cons_succ] at z0 z1 z2
          clear o0 o1 o2 of hc5
          refine bodyPost_ret (v := .tuple #[.agg #[.int .i64 k, .int .i64 a, .int .i64 (1 : Int)], .bool true]) ?_ rfl ?_
          · rw [results_cell_tmp rfl]
            go_simp
          · rw [HF.out]; exact ⟨rfl, hb5⟩
        · have HF : Hid (rdr s = none) := HRD.out.trans (if_neg (fun h => heq h.2.2))
          have qe : ¬ LB.toList = SB.toList := by rw [q1, q0]; exact heq
          have qb : (LB.toList == SB.toList) = false := by rw [beq_eq_false_iff_ne]; exact qe
          clear q0 q1 heq HRD
          go_wp2_with fail
          go_at_call 31
          refine (HWR.out _ (HTT.out _ HR.out.bel)).mono ?_
          rintro e y1 ⟨rfl, hb⟩
          have HY1 := Lib.hid (HR.out.next hb)
          clear hb c0 c1 c2
          obtain ⟨c0, c1, c2, -⟩ := HY1.out.cells
          go_wp2_with fail
          go_at_call 34
          refine (HLL.out _ (HTT.out _ HY1.out.bel)).mono ?_
          rintro e y2 ⟨rfl, hb⟩
          have HY2 := Lib.hid (HY1.out.next hb)
          clear hb c0 c1 c2
          obtain ⟨o0, o1, o2, of⟩ := HY2.out.outs
          go_wp2_with fail
          have hP := HY2.out.put 0 0 0
          generalize (((y2.setCell ⟨w.heap.size, 0, none⟩ _).setCell _ _).setCell _ _) = w5 at hP ⊢
          obtain ⟨hb5, hc5⟩ := hP
          have z0 := cell_blk hc5 0
          have z1 := cell_blk hc5 1
          have z2 := cell_blk hc5 2
          simp only [List.getElem?_toArray, List.getElem?_cons_zero, List.getElem?_cons_succ] at z0 z1 z2
          clear o0 o1 o2 of hc5
          refine bodyPost_ret (v := .tuple #[.agg #[.int .i64 0, .int .i64 0, .int .i64 0], .bool false]) ?_ rfl ?_
          · rw [results_cell_tmp rfl]
            go_simp
          · rw [HF.out]; exact ⟨rfl, hb5⟩
      · exact absurd (by decide) hn
    · rw [decide_eq_false hok] at HWR
      have HF : Hid (rdr s = none) := HRD.out.trans (if_neg (fun h => hok h.1))
      clear hok
      go_wp2_with fail
      go_at_call 31
      refine (HWR.out _ (HTT.out _ HR.out.bel)).mono ?_
      rintro e y1 ⟨rfl, hb⟩
      have HY1 := Lib.hid (HR.out.next hb)
      clear hb c0 c1 c2
      obtain ⟨c0, c1, c2, -⟩ := HY1.out.cells
      have HY2 := Lib.hid HY1.out
      clear c0 c1 c2
      obtain ⟨o0, o1, o2, of⟩ := HY2.out.outs
      go_wp2_with fail
      have hP := HY2.out.put 0 0 0
      generalize (((y1.setCell ⟨w.heap.size, 0, none⟩ _).setCell _ _).setCell _ _) = w5 at hP ⊢
      obtain ⟨hb5, hc5⟩ := hP
      have z0 := cell_blk hc5 0
      have z1 := cell_blk hc5 1
      have z2 := cell_blk hc5 2
      simp only [List.getElem?_toArray, List.getElem?_cons_zero, List.getElem?_cons_succ] at z0 z1 z2
      clear o0 o1 o2 of hc5
      refine bodyPost_ret (v := .tuple #[.agg #[.int .i64 0, .int .i64 0, .int .i64 0], .bool false]) ?_ rfl ?_
      · rw [results_cell_tmp rfl]
        go_simp
      · rw [HF.out]; exact ⟨rfl, hb5⟩
  | true =>
    have HR5 := Lib.hid HR.out
    go_wp2_with fail
    go_at_call 56
    generalize w4.alloc (.cells #[.int .i64 k, .int .i64 a, .int .i64 1] 76) = X4 at *
    refine (HN2.out _ (HTT.out _ HR.out.bel)).mono ?_
    rintro e w5 ⟨rfl, hb⟩
    have HR6 := Lib.hid (HR.out.next hb)
    clear hb HR5 HR
    obtain ⟨c0, c1, c2, f2⟩ := HR6.out.cells
    have HR7 := Lib.hid (HR6.out.set cn)
    clear HR6

    have HRD := Lib.hid (rdr_of HCAND.out)
    simp only [if_true, if_false, Bool.false_eq_true] at HRD
    by_cases hok : En.ok ⟨k, a⟩
    · rw [decide_eq_true hok] at HWR
      have HOK := Lib.hid hok
      clear hok
      by_cases hn : cn ≤ 65536
      · have HLL := Lib.hid (HLN.out cn HOK.out hn)
        have q1 := bA_list (lnR ⟨k, a⟩ cn)
        have HN := Lib.hid hn
        have hn2 : ¬ (65536 : Int) < cn := by omega
        obtain ⟨LB, hLB⟩ : ∃ X, bA (lnR ⟨k, a⟩ cn) = X := ⟨_, rfl⟩
        rw [hLB] at HLL q1
        clear hLB hn
        by_cases heq : lnR ⟨k, a⟩ cn = s
        · have HF : Hid (rdr s = some (⟨k, a⟩, cn)) := HRD.out.trans (if_pos ⟨HOK.out, HN.out, heq⟩)
          have qe : LB.toList = SB.toList := by rw [q1, q0, heq]
          clear q0 q1 heq HRD
          go_wp2_with fail
          go_at_call 31
          refine (HWR.out _ (HTT.out _ HR7.out.bel)).mono ?_
          rintro e y1 ⟨rfl, hb⟩
          have HY1 := Lib.hid (HR7.out.next hb)
          clear hb c0 c1 c2
          obtain ⟨c0, c1, c2, -⟩ := HY1.out.cells
          go_wp2_with fail
          go_at_call 34
          refine (HLL.out _ (HTT.out _ HY1.out.bel)).mono ?_
          rintro e y2 ⟨rfl, hb⟩
          have HY2 := Lib.hid (HY1.out.next hb)
          clear hb c0 c1 c2
          obtain ⟨c0, c1, c2, -⟩ := HY2.out.cells
          obtain ⟨o0, o1, o2, of⟩ := HY2.out.outs
          go_wp2_with fail
          have hP := HY2.out.put k a cn
          generalize (((y2.setCell ⟨w.heap.size, 0, none⟩ _).setCell _ _).setCell _ _) = w5 at hP ⊢
          obtain ⟨hb5, hc5⟩ := hP
          have z0 := cell_blk hc5 0
          have z1 := cell_blk hc5 1
          have z2 := cell_blk hc5 2
          simp only [List.getElem?_toArray, List.getElem?_cons_zero, List.getElem?_cons_succ] at z0 z1 z2
          clear o0 o1 o2 of hc5
          refine bodyPost_ret (v := .tuple #[.agg #[.int .i64 k, .int .i64 a, .int .i64 cn], .bool true]) ?_ rfl ?_
          · rw [results_cell_tmp rfl]
            go_simp
          · rw [HF.out]; exact ⟨rfl, hb5⟩
        · have HF : Hid (rdr s = none) := HRD.out.trans (if_neg (fun h => heq h.2.2))
          have qe : ¬ LB.toList = SB.toList := by rw [q1, q0]; exact heq
          have qb : (LB.toList == SB.toList) = false := by rw [beq_eq_false_iff_ne]; exact qe
          clear q0 q1 heq HRD
          go_wp2_with fail
          go_at_call 31
          refine (HWR.out _ (HTT.out _ HR7.out.bel)).mono ?_
          rintro e y1 ⟨rfl, hb⟩
          have HY1 := Lib.hid (HR7.out.next hb)
          clear hb c0 c1 c2
          obtain ⟨c0, c1, c2, -⟩ := HY1.out.cells
          go_wp2_with fail
          go_at_call 34
          refine (HLL.out _ (HTT.out _ HY1.out.bel)).mono ?_
          rintro e y2 ⟨rfl, hb⟩
          have HY2 := Lib.hid (HY1.out.next hb)
          clear hb c0 c1 c2
          obtain ⟨o0, o1, o2, of⟩ := HY2.out.outs
          go_wp2_with fail
          have hP := HY2.out.put 0 0 0
          generalize (((y2.setCell ⟨w.heap.size, 0, none⟩ _).setCell _ _).setCell _ _) = w5 at hP ⊢
          obtain ⟨hb5, hc5⟩ := hP
          have z0 := cell_blk hc5 0
          have z1 := cell_blk hc5 1
          have z2 := cell_blk hc5 2
          simp only [List.getElem?_toArray, List.getElem?_cons_zero, List.getElem?_cons_succ] at z0 z1 z2
          clear o0 o1 o2 of hc5
          refine bodyPost_ret (v := .tuple #[.agg #[.int .i64 0, .int .i64 0, .int .i64 0], .bool false]) ?_ rfl ?_
          · rw [results_cell_tmp rfl]
            go_simp
          · rw [HF.out]; exact ⟨rfl, hb5⟩
      · have HF : Hid (rdr s = none) := HRD.out.trans (if_neg (fun h => hn h.2.1))
        have hn2 : (65536 : Int) < cn := by omega
        clear hn
        go_wp2_with fail
        go_at_call 31
        refine (HWR.out _ (HTT.out _ HR7.out.bel)).mono ?_
        rintro e y1 ⟨rfl, hb⟩
        have HY1 := Lib.hid (HR7.out.next hb)
        clear hb c0 c1 c2
        obtain ⟨c0, c1, c2, -⟩ := HY1.out.cells
        have HY2 := Lib.hid HY1.out
        obtain ⟨o0, o1, o2, of⟩ := HY2.out.outs
        go_wp2_with fail
        have hP := HY2.out.put 0 0 0
        generalize (((y1.setCell ⟨w.heap.size, 0, none⟩ _).setCell _ _).setCell _ _) = w5 at hP ⊢
        obtain ⟨hb5, hc5⟩ := hP
        have z0 := cell_blk hc5 0
        have z1 := cell_blk hc5 1
        have z2 := cell_blk hc5 2
        simp only [List.getElem?_toArray, List.getElem?_cons_zero, List.getElem?_cons_succ] at z0 z1 z2
        clear o0 o1 o2 of hc5
        refine bodyPost_ret (v := .tuple #[.agg #[.int .i64 0, .int .i64 0, .int .i64 0], .bool false]) ?_ rfl ?_
        · rw [results_cell_tmp rfl]
          go_simp
        · rw [HF.out]; exact ⟨rfl, hb5⟩
    · rw [decide_eq_false hok] at HWR
      have HF : Hid (rdr s = none) := HRD.out.trans (if_neg (fun h => hok h.1))
      clear hok
      go_wp2_with fail
      go_at_call 31
      refine (HWR.out _ (HTT.out _ HR7.out.bel)).mono ?_
      rintro e y1 ⟨rfl, hb⟩
      have HY1 := Lib.hid (HR7.out.next hb)
      clear hb c0 c1 c2
      obtain ⟨c0, c1, c2, -⟩ := HY1.out.cells
      have HY2 := Lib.hid HY1.out
      clear c0 c1 c2
      obtain ⟨o0, o1, o2, of⟩ := HY2.out.outs
      go_wp2_with fail
      have hP := HY2.out.put 0 0 0
      generalize (((y1.setCell ⟨w.heap.size, 0, none⟩ _).setCell _ _).setCell _ _) = w5 at hP ⊢
      obtain ⟨hb5, hc5⟩ := hP
      have z0 := cell_blk hc5 0
      have z1 := cell_blk hc5 1
      have z2 := cell_blk hc5 2
      simp only [List.getElem?_toArray, List.getElem?_cons_zero, List.getElem?_cons_succ] at z0 z1 z2
      clear o0 o1 o2 of hc5
      refine bodyPost_ret (v := .tuple #[.agg #[.int .i64 0, .int .i64 0, .int .i64 0], .bool false]) ?_ rfl ?_
      · rw [results_cell_tmp rfl]
        go_simp
      · rw [HF.out]; exact ⟨rfl, hb5⟩
end Go.Proofs.YtemdhcegelddlaaDoor
