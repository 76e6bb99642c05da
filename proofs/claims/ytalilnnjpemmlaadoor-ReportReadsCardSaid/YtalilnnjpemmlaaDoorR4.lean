/- The document's line: of any event that may be told. -/
import Derived.Test.YtalilnnjpemmlaaDoorR3
import Derived.Test.YtalilnnjpemmlaaDoorF1
import Derived.Test.YtalilnnjpemmlaaDoorK4
namespace Go.Proofs.YtalilnnjpemmlaaDoor
open Go Go.RowKit
set_option linter.unusedVariables false
set_option linter.unusedSimpArgs false

/-- the event's cells in a box -/
def BoxE (b : Nat) (e : Ev) (w x : World) : Prop := x.heap[b]? = some (.cells e.cells 25 (0, 0)) ∧ Below b w x ∧ w.heap.size = b
theorem BoxE.next {b : Nat} {e : Ev} {w x y : World} (h : BoxE b e w x) (hb : Below x.heap.size x y) : BoxE b e w y := by
  obtain ⟨h1, h2, h3⟩ := h
  exact ⟨(hb.block _ (block_lt h1)).trans h1, h2.trans (hb.mono (by have := h2.size; omega)), h3⟩
theorem BoxE.drewN {b : Nat} {e : Ev} {w x : World} (h : BoxE b e w x) (n : Nat) : BoxE b e w (x.drewN n) := ⟨h.1, ⟨h.2.1.os, h.2.1.tape, h.2.1.output, h.2.1.size, h.2.1.block⟩, h.2.2⟩
theorem BoxE.cells {b : Nat} {k g o t p : Int} {w x : World} (h : BoxE b ⟨k, g, o, t, p⟩ w x) : x.cell? ⟨b, 0, none⟩ = some (.int .i64 k) ∧ x.cell? ⟨b, 1, none⟩ = some (.int .i64 g) ∧ x.cell? ⟨b, 2, none⟩ = some (.int .i64 o) ∧ x.cell? ⟨b, 3, none⟩ = some (.int .i64 t) ∧ x.cell? ⟨b, 4, none⟩ = some (.int .i64 p) :=
  ⟨cell_blk h.1 0, cell_blk h.1 1, cell_blk h.1 2, cell_blk h.1 3, cell_blk h.1 4⟩
/-- ahead of the words -/
def Wd0 (b : Nat) (e : Ev) (w x : World) : Prop := BoxE b e w x ∧ x.heap.size = b + 1
/-- behind them -/
def Wd1 (b k : Nat) (e : Ev) (w x : World) : Prop := BoxE b e w x ∧ x.cell? ⟨b + 1, k, none⟩ = some (.string (bA (kw k)))

theorem lnA (k g : Nat) (o t p : Int) : ln ⟨(k : Int), (g : Int), o, t, p⟩ = (((kw k ++ [32, 103]) ++ Lib.decDigits g) ++ (if o = -1 then [] else pt 103 o.toNat)) ++ pt 116 t.toNat ++ (if p = -1 then [] else pt 112 p.toNat) := by
  simp [ln, pt]

set_option maxRecDepth 100000 in
set_option maxHeartbeats 16000000 in
theorem rline_any (k g t : Nat) (o p : Int) (hk : 1 ≤ k ∧ k ≤ 11) (hg : g ≤ 65535) (ht : t ≤ 255) (ho : -1 ≤ o ∧ o ≤ 65535) (hp : -1 ≤ p ∧ p ≤ 63) (w : World) :
    Calls Tryd.prog 16 #[.agg #[.int .i64 (k : Int), .int .i64 (g : Int), .int .i64 o, .int .i64 (t : Int), .int .i64 p]] w fun r w' => r = .returned (.string (bA (ln ⟨(k : Int), (g : Int), o, (t : Int), p⟩ ++ [10]))) ∧ Below w.heap.size w w' := by
  have HB : Hid (BoxE w.heap.size ⟨(k : Int), (g : Int), o, (t : Int), p⟩ w (w.alloc (.cells #[.int .i64 (k : Int), .int .i64 (g : Int), .int .i64 o, .int .i64 (t : Int), .int .i64 p] 25))) := ⟨heap_alloc_new _ _, (Below.refl _ w).alloc (Nat.le_refl _) _, rfl⟩
  have HP0 : Hid (Wd0 w.heap.size ⟨(k : Int), (g : Int), o, (t : Int), p⟩ w (w.alloc (.cells #[.int .i64 (k : Int), .int .i64 (g : Int), .int .i64 o, .int .i64 (t : Int), .int .i64 p] 25))) := ⟨HB.out, size_al _ _⟩
  have HW : Hid (∀ x, Wd0 w.heap.size ⟨(k : Int), (g : Int), o, (t : Int), p⟩ w x → Calls Tryd.prog 8 #[] x fun r y => r = .returned (.slice (some ⟨w.heap.size + 1, 0, none⟩) 12 12) ∧ Hid (Wd1 w.heap.size k ⟨(k : Int), (g : Int), o, (t : Int), p⟩ w y)) := fun x hx => by
    refine (words_any x).mono ?_
    rintro r y ⟨rfl, rfl⟩
    rw [hx.2]
    refine ⟨rfl, hx.1.next ((Below.refl _ x).alloc (Nat.le_refl _) _), ?_⟩
    rw [← hx.2, cell_blk (heap_alloc_new _ _), wordCells_get k (by omega)]
  have HN0 : Hid (∀ x, Wd0 w.heap.size ⟨(k : Int), (g : Int), o, (t : Int), p⟩ w x → Calls Tryd.prog 24 #[.int .i64 (g : Int)] x fun r y => r = .returned (.string (bA (Lib.decDigits g))) ∧ Hid (Wd0 w.heap.size ⟨(k : Int), (g : Int), o, (t : Int), p⟩ w y)) := fun x hx => by
    refine (number_any g (by omega) x).mono ?_
    rintro r y ⟨rfl, m, rfl⟩
    exact ⟨rfl, hx.1.drewN m, hx.2⟩
  have HN1 : Hid (∀ x, Wd1 w.heap.size k ⟨(k : Int), (g : Int), o, (t : Int), p⟩ w x → Calls Tryd.prog 24 #[.int .i64 (g : Int)] x fun r y => r = .returned (.string (bA (Lib.decDigits g))) ∧ Hid (Wd1 w.heap.size k ⟨(k : Int), (g : Int), o, (t : Int), p⟩ w y)) := fun x hx => by
    refine (number_any g (by omega) x).mono ?_
    rintro r y ⟨rfl, m, rfl⟩
    exact ⟨rfl, hx.1.drewN m, hx.2⟩
  have hkl := kw_len k
  have hdg := dig_len g hg
  have f0 : ∀ x : World, (Op.stringOp .add (bA (kw k)) ⟨#[32, 103]⟩).run Tryd.prog x = .ok (.string (bA (kw k ++ [32, 103]))) x := add_run _ [32, 103] (by simp; omega)
  have f1 : ∀ x : World, (Op.stringOp .add (bA (kw k ++ [32, 103])) (bA (Lib.decDigits g))).run Tryd.prog x = .ok (.string (bA ((kw k ++ [32, 103]) ++ Lib.decDigits g))) x := add_run _ _ (by simp; omega)
  have hk0 : (0 : Int) ≤ (k : Int) := by omega
  have hk12 : (k : Int) < 12 := by omega
  have hr1 : ((kw k ++ [32, 103]) ++ Lib.decDigits g).length ≤ 30 := by simp; omega
  rw [lnA]
  clear hkl hdg
  generalize (kw k ++ [32, 103]) ++ Lib.decDigits g = R1 at *
  obtain ⟨ANS, hANS⟩ : ∃ X, bA ((((R1 ++ (if o = -1 then [] else pt 103 o.toNat)) ++ pt 116 ((t : Int)).toNat) ++ (if p = -1 then [] else pt 112 p.toNat)) ++ [10]) = X := ⟨_, rfl⟩
  rw [hANS]
  have HANS := Lib.hid hANS
  clear hANS
  obtain ⟨K, hK⟩ : ∃ K, bA (kw k) = K := ⟨_, rfl⟩
  obtain ⟨G, hG⟩ : ∃ G, bA (Lib.decDigits g) = G := ⟨_, rfl⟩
  rw [hK] at f0
  rw [hG] at f1 HN0 HN1
  generalize bA (kw k ++ [32, 103]) = Q at *
  go_enter Tryd.func16, Tryd.ntmps16
  go_wp2_with fail
  obtain ⟨c0, c1, -, -, -⟩ := HB.out.cells
  generalize w.alloc (.cells #[.int .i64 (k : Int), .int .i64 (g : Int), .int .i64 o, .int .i64 (t : Int), .int .i64 p] 25) = W at *
  clear HB hG
  obtain ⟨S1, hS1⟩ : ∃ X, bA R1 = X := ⟨_, rfl⟩
  rw [hS1] at f1
  have HKK := Lib.hid hK
  rename_i Kt hKt
  have REST : Hid (∀ y : World, BoxE w.heap.size ⟨(k : Int), (g : Int), o, (t : Int), p⟩ w y → Kt { tmps := #[.agg #[.int .i64 (k : Int), .int .i64 (g : Int), .int .i64 o, .int .i64 (t : Int), .int .i64 p], .pointer (some ⟨w.heap.size, 0, none⟩), .string ⟨#[]⟩, .string S1, .slice (some ⟨w.heap.size + 1, 0, none⟩) 12 12, .pointer (some ⟨w.heap.size, 0, none⟩), .int .i64 (k : Int), .pointer (some ⟨w.heap.size + 1, k, none⟩), .string K, .string Q, .pointer (some ⟨w.heap.size, 1, none⟩), .int .i64 (g : Int), .string G, .string S1, undef, undef, undef, undef, undef, undef, undef, undef, undef, undef, undef, undef, undef, undef, undef, undef, undef, undef, undef, undef, undef, undef, undef, undef, undef, undef], defers := [] } y) := by
    intro y hy
    refine hKt _ _ ?_
    clear hKt HW HN0 HN1 HP0 c0 c1 f0 f1
    have Hy := Lib.hid hy
    clear hy W
    obtain ⟨-, -, c2, c3, c4⟩ := Hy.out.cells
    by_cases h1 : o = -1
    · have q1 : ¬ (0 : Int) ≤ o := by omega
      by_cases h2 : p = -1
      · have q2 : ¬ (0 : Int) ≤ p := by omega
        have faR3 : ∀ x : World, (Op.stringOp .add (bA R1) ⟨#[32, 116]⟩).run Tryd.prog x = .ok (.string (bA (R1 ++ [32, 116]))) x := add_run _ [32, 116] (by simp; omega)
        have fdR3 := dig_len t (by omega)
        have fbR3 : ∀ x : World, (Op.stringOp .add (bA (R1 ++ [32, 116])) (bA (Lib.decDigits t))).run Tryd.prog x = .ok (.string (bA ((R1 ++ [32, 116]) ++ Lib.decDigits t))) x := add_run _ _ (by simp; omega)
        have flR3 : ((R1 ++ [32, 116]) ++ Lib.decDigits t).length ≤ 100 := by simp; omega
        have HER3 : Hid (R1 ++ pt 116 t = (R1 ++ [32, 116]) ++ Lib.decDigits t) := by show _ = _; simp [pt]
        have HUR3 : Hid (∀ x : World, Calls Tryd.prog 24 #[.int .i64 (t : Int)] x fun e w' => e = .returned (.string (bA (Lib.decDigits t))) ∧ ∃ m, w' = x.drewN m) := fun x => number_any t (by omega) x
        obtain ⟨R3, hR3⟩ : ∃ X, (R1 ++ [32, 116]) ++ Lib.decDigits t = X := ⟨_, rfl⟩
        rw [hR3] at fbR3 flR3 HER3
        obtain ⟨AR3, hAR3⟩ : ∃ X, bA (R1 ++ [32, 116]) = X := ⟨_, rfl⟩
        obtain ⟨DR3, hDR3⟩ : ∃ X, bA (Lib.decDigits t) = X := ⟨_, rfl⟩
        obtain ⟨BR3, hBR3⟩ : ∃ X, bA R3 = X := ⟨_, rfl⟩
        rw [hAR3] at faR3 fbR3
        rw [hDR3] at fbR3 HUR3
        rw [hBR3] at fbR3
        rw [hS1] at faR3
        clear hR3 fdR3 hAR3 hDR3
        have fz : ∀ x : World, (Op.stringOp .add (bA R3) ⟨#[10]⟩).run Tryd.prog x = .ok (.string (bA (R3 ++ [10]))) x := add_run _ [10] (by simp; omega)
        obtain ⟨Z, hZ⟩ : ∃ X, bA (R3 ++ [10]) = X := ⟨_, rfl⟩
        rw [hZ, hBR3] at fz
        have HZ := Lib.hid hZ
        have HFIN : Hid (((R1 ++ (if o = -1 then [] else pt 103 (o).toNat)) ++ pt 116 ((t : Int)).toNat) ++ (if p = -1 then [] else pt 112 (p).toNat) = R3) := by
          show _ = _
          rw [if_pos h1, if_pos h2]
          simp only [List.append_nil, Int.toNat_natCast]
          rw [HER3.out]
        clear hZ hBR3 flR3 HER3
        go_wp2_with fail
        go_at_call 24
        refine (HUR3.out y).mono ?_
        rintro e y3 ⟨rfl, my3, hy3⟩
        have Hy3 := Lib.hid (show BoxE w.heap.size _ w y3 by subst hy3; exact Hy.out.drewN _)
        clear hy3
        obtain ⟨-, -, c2y3, c3y3, c4y3⟩ := Hy3.out.cells
        clear HUR3
        go_wp2_with fail
        go_ret
        rw [← HANS.out, HFIN.out, HZ.out]
        exact ⟨rfl, Hy3.out.2.1⟩
      · obtain ⟨pn, rfl⟩ := Int.eq_ofNat_of_zero_le (show 0 ≤ p by omega)
        have q2 : (0 : Int) ≤ (pn : Int) := by omega
        have faR3 : ∀ x : World, (Op.stringOp .add (bA R1) ⟨#[32, 116]⟩).run Tryd.prog x = .ok (.string (bA (R1 ++ [32, 116]))) x := add_run _ [32, 116] (by simp; omega)
        have fdR3 := dig_len t (by omega)
        have fbR3 : ∀ x : World, (Op.stringOp .add (bA (R1 ++ [32, 116])) (bA (Lib.decDigits t))).run Tryd.prog x = .ok (.string (bA ((R1 ++ [32, 116]) ++ Lib.decDigits t))) x := add_run _ _ (by simp; omega)
        have flR3 : ((R1 ++ [32, 116]) ++ Lib.decDigits t).length ≤ 100 := by simp; omega
        have HER3 : Hid (R1 ++ pt 116 t = (R1 ++ [32, 116]) ++ Lib.decDigits t) := by show _ = _; simp [pt]
        have HUR3 : Hid (∀ x : World, Calls Tryd.prog 24 #[.int .i64 (t : Int)] x fun e w' => e = .returned (.string (bA (Lib.decDigits t))) ∧ ∃ m, w' = x.drewN m) := fun x => number_any t (by omega) x
        obtain ⟨R3, hR3⟩ : ∃ X, (R1 ++ [32, 116]) ++ Lib.decDigits t = X := ⟨_, rfl⟩
        rw [hR3] at fbR3 flR3 HER3
        obtain ⟨AR3, hAR3⟩ : ∃ X, bA (R1 ++ [32, 116]) = X := ⟨_, rfl⟩
        obtain ⟨DR3, hDR3⟩ : ∃ X, bA (Lib.decDigits t) = X := ⟨_, rfl⟩
        obtain ⟨BR3, hBR3⟩ : ∃ X, bA R3 = X := ⟨_, rfl⟩
        rw [hAR3] at faR3 fbR3
        rw [hDR3] at fbR3 HUR3
        rw [hBR3] at fbR3
        rw [hS1] at faR3
        clear hR3 fdR3 hAR3 hDR3
        have faR5 : ∀ x : World, (Op.stringOp .add (bA R3) ⟨#[32, 112]⟩).run Tryd.prog x = .ok (.string (bA (R3 ++ [32, 112]))) x := add_run _ [32, 112] (by simp; omega)
        have fdR5 := dig_len pn (by omega)
        have fbR5 : ∀ x : World, (Op.stringOp .add (bA (R3 ++ [32, 112])) (bA (Lib.decDigits pn))).run Tryd.prog x = .ok (.string (bA ((R3 ++ [32, 112]) ++ Lib.decDigits pn))) x := add_run _ _ (by simp; omega)
        have flR5 : ((R3 ++ [32, 112]) ++ Lib.decDigits pn).length ≤ 130 := by simp; omega
        have HER5 : Hid (R3 ++ pt 112 pn = (R3 ++ [32, 112]) ++ Lib.decDigits pn) := by show _ = _; simp [pt]
        have HUR5 : Hid (∀ x : World, Calls Tryd.prog 24 #[.int .i64 (pn : Int)] x fun e w' => e = .returned (.string (bA (Lib.decDigits pn))) ∧ ∃ m, w' = x.drewN m) := fun x => number_any pn (by omega) x
        obtain ⟨R5, hR5⟩ : ∃ X, (R3 ++ [32, 112]) ++ Lib.decDigits pn = X := ⟨_, rfl⟩
        rw [hR5] at fbR5 flR5 HER5
        obtain ⟨AR5, hAR5⟩ : ∃ X, bA (R3 ++ [32, 112]) = X := ⟨_, rfl⟩
        obtain ⟨DR5, hDR5⟩ : ∃ X, bA (Lib.decDigits pn) = X := ⟨_, rfl⟩
        obtain ⟨BR5, hBR5⟩ : ∃ X, bA R5 = X := ⟨_, rfl⟩
        rw [hAR5] at faR5 fbR5
        rw [hDR5] at fbR5 HUR5
        rw [hBR5] at fbR5
        rw [hBR3] at faR5
        clear hR5 fdR5 hAR5 hDR5
        have fz : ∀ x : World, (Op.stringOp .add (bA R5) ⟨#[10]⟩).run Tryd.prog x = .ok (.string (bA (R5 ++ [10]))) x := add_run _ [10] (by simp; omega)
        obtain ⟨Z, hZ⟩ : ∃ X, bA (R5 ++ [10]) = X := ⟨_, rfl⟩
        rw [hZ, hBR5] at fz
        have HZ := Lib.hid hZ
        have HFIN : Hid (((R1 ++ (if o = -1 then [] else pt 103 (o).toNat)) ++ pt 116 ((t : Int)).toNat) ++ (if (pn : Int) = -1 then [] else pt 112 ((pn : Int)).toNat) = R5) := by
          show _ = _
          rw [if_pos h1, if_neg h2]
          simp only [List.append_nil, Int.toNat_natCast]
          rw [HER3.out, HER5.out]
        clear hZ hBR3 flR3 HER3 hBR5 flR5 HER5
        go_wp2_with fail
        go_at_call 24
        refine (HUR3.out y).mono ?_
        rintro e y3 ⟨rfl, my3, hy3⟩
        have Hy3 := Lib.hid (show BoxE w.heap.size _ w y3 by subst hy3; exact Hy.out.drewN _)
        clear hy3
        obtain ⟨-, -, c2y3, c3y3, c4y3⟩ := Hy3.out.cells
        clear HUR3
        go_wp2_with fail
        go_at_call 24
        refine (HUR5.out y3).mono ?_
        rintro e y5 ⟨rfl, my5, hy5⟩
        have Hy5 := Lib.hid (show BoxE w.heap.size _ w y5 by subst hy5; exact Hy3.out.drewN _)
        clear hy5
        obtain ⟨-, -, c2y5, c3y5, c4y5⟩ := Hy5.out.cells
        clear HUR5
        go_wp2_with fail
        go_ret
        rw [← HANS.out, HFIN.out, HZ.out]
        exact ⟨rfl, Hy5.out.2.1⟩
    · obtain ⟨on, rfl⟩ := Int.eq_ofNat_of_zero_le (show 0 ≤ o by omega)
      have q1 : (0 : Int) ≤ (on : Int) := by omega
      have faR2 : ∀ x : World, (Op.stringOp .add (bA R1) ⟨#[32, 103]⟩).run Tryd.prog x = .ok (.string (bA (R1 ++ [32, 103]))) x := add_run _ [32, 103] (by simp; omega)
      have fdR2 := dig_len on (by omega)
      have fbR2 : ∀ x : World, (Op.stringOp .add (bA (R1 ++ [32, 103])) (bA (Lib.decDigits on))).run Tryd.prog x = .ok (.string (bA ((R1 ++ [32, 103]) ++ Lib.decDigits on))) x := add_run _ _ (by simp; omega)
      have flR2 : ((R1 ++ [32, 103]) ++ Lib.decDigits on).length ≤ 60 := by simp; omega
      have HER2 : Hid (R1 ++ pt 103 on = (R1 ++ [32, 103]) ++ Lib.decDigits on) := by show _ = _; simp [pt]
      have HUR2 : Hid (∀ x : World, Calls Tryd.prog 24 #[.int .i64 (on : Int)] x fun e w' => e = .returned (.string (bA (Lib.decDigits on))) ∧ ∃ m, w' = x.drewN m) := fun x => number_any on (by omega) x
      obtain ⟨R2, hR2⟩ : ∃ X, (R1 ++ [32, 103]) ++ Lib.decDigits on = X := ⟨_, rfl⟩
      rw [hR2] at fbR2 flR2 HER2
      obtain ⟨AR2, hAR2⟩ : ∃ X, bA (R1 ++ [32, 103]) = X := ⟨_, rfl⟩
      obtain ⟨DR2, hDR2⟩ : ∃ X, bA (Lib.decDigits on) = X := ⟨_, rfl⟩
      obtain ⟨BR2, hBR2⟩ : ∃ X, bA R2 = X := ⟨_, rfl⟩
      rw [hAR2] at faR2 fbR2
      rw [hDR2] at fbR2 HUR2
      rw [hBR2] at fbR2
      rw [hS1] at faR2
      clear hR2 fdR2 hAR2 hDR2
      go_wp2_with fail
      go_at_call 24
      refine (HUR2.out y).mono ?_
      rintro e y2 ⟨rfl, my2, hy2⟩
      have Hy2 := Lib.hid (show BoxE w.heap.size _ w y2 by subst hy2; exact Hy.out.drewN _)
      clear hy2
      obtain ⟨-, -, c2y2, c3y2, c4y2⟩ := Hy2.out.cells
      clear HUR2
      by_cases h2 : p = -1
      · have q2 : ¬ (0 : Int) ≤ p := by omega
        have faR3 : ∀ x : World, (Op.stringOp .add (bA R2) ⟨#[32, 116]⟩).run Tryd.prog x = .ok (.string (bA (R2 ++ [32, 116]))) x := add_run _ [32, 116] (by simp; omega)
        have fdR3 := dig_len t (by omega)
        have fbR3 : ∀ x : World, (Op.stringOp .add (bA (R2 ++ [32, 116])) (bA (Lib.decDigits t))).run Tryd.prog x = .ok (.string (bA ((R2 ++ [32, 116]) ++ Lib.decDigits t))) x := add_run _ _ (by simp; omega)
        have flR3 : ((R2 ++ [32, 116]) ++ Lib.decDigits t).length ≤ 100 := by simp; omega
        have HER3 : Hid (R2 ++ pt 116 t = (R2 ++ [32, 116]) ++ Lib.decDigits t) := by show _ = _; simp [pt]
        have HUR3 : Hid (∀ x : World, Calls Tryd.prog 24 #[.int .i64 (t : Int)] x fun e w' => e = .returned (.string (bA (Lib.decDigits t))) ∧ ∃ m, w' = x.drewN m) := fun x => number_any t (by omega) x
        obtain ⟨R3, hR3⟩ : ∃ X, (R2 ++ [32, 116]) ++ Lib.decDigits t = X := ⟨_, rfl⟩
        rw [hR3] at fbR3 flR3 HER3
        obtain ⟨AR3, hAR3⟩ : ∃ X, bA (R2 ++ [32, 116]) = X := ⟨_, rfl⟩
        obtain ⟨DR3, hDR3⟩ : ∃ X, bA (Lib.decDigits t) = X := ⟨_, rfl⟩
        obtain ⟨BR3, hBR3⟩ : ∃ X, bA R3 = X := ⟨_, rfl⟩
        rw [hAR3] at faR3 fbR3
        rw [hDR3] at fbR3 HUR3
        rw [hBR3] at fbR3
        rw [hBR2] at faR3
        clear hR3 fdR3 hAR3 hDR3
        have fz : ∀ x : World, (Op.stringOp .add (bA R3) ⟨#[10]⟩).run Tryd.prog x = .ok (.string (bA (R3 ++ [10]))) x := add_run _ [10] (by simp; omega)
        obtain ⟨Z, hZ⟩ : ∃ X, bA (R3 ++ [10]) = X := ⟨_, rfl⟩
        rw [hZ, hBR3] at fz
        have HZ := Lib.hid hZ
        have HFIN : Hid (((R1 ++ (if (on : Int) = -1 then [] else pt 103 ((on : Int)).toNat)) ++ pt 116 ((t : Int)).toNat) ++ (if p = -1 then [] else pt 112 (p).toNat) = R3) := by
          show _ = _
          rw [if_neg h1, if_pos h2]
          simp only [List.append_nil, Int.toNat_natCast]
          rw [HER2.out, HER3.out]
        clear hZ hBR3 flR3 HER3 hBR2 flR2 HER2
        go_wp2_with fail
        go_at_call 24
        refine (HUR3.out y2).mono ?_
        rintro e y3 ⟨rfl, my3, hy3⟩
        have Hy3 := Lib.hid (show BoxE w.heap.size _ w y3 by subst hy3; exact Hy2.out.drewN _)
        clear hy3
        obtain ⟨-, -, c2y3, c3y3, c4y3⟩ := Hy3.out.cells
        clear HUR3
        go_wp2_with fail
        go_ret
        rw [← HANS.out, HFIN.out, HZ.out]
        exact ⟨rfl, Hy3.out.2.1⟩
      · obtain ⟨pn, rfl⟩ := Int.eq_ofNat_of_zero_le (show 0 ≤ p by omega)
        have q2 : (0 : Int) ≤ (pn : Int) := by omega
        have faR3 : ∀ x : World, (Op.stringOp .add (bA R2) ⟨#[32, 116]⟩).run Tryd.prog x = .ok (.string (bA (R2 ++ [32, 116]))) x := add_run _ [32, 116] (by simp; omega)
        have fdR3 := dig_len t (by omega)
        have fbR3 : ∀ x : World, (Op.stringOp .add (bA (R2 ++ [32, 116])) (bA (Lib.decDigits t))).run Tryd.prog x = .ok (.string (bA ((R2 ++ [32, 116]) ++ Lib.decDigits t))) x := add_run _ _ (by simp; omega)
        have flR3 : ((R2 ++ [32, 116]) ++ Lib.decDigits t).length ≤ 100 := by simp; omega
        have HER3 : Hid (R2 ++ pt 116 t = (R2 ++ [32, 116]) ++ Lib.decDigits t) := by show _ = _; simp [pt]
        have HUR3 : Hid (∀ x : World, Calls Tryd.prog 24 #[.int .i64 (t : Int)] x fun e w' => e = .returned (.string (bA (Lib.decDigits t))) ∧ ∃ m, w' = x.drewN m) := fun x => number_any t (by omega) x
        obtain ⟨R3, hR3⟩ : ∃ X, (R2 ++ [32, 116]) ++ Lib.decDigits t = X := ⟨_, rfl⟩
        rw [hR3] at fbR3 flR3 HER3
        obtain ⟨AR3, hAR3⟩ : ∃ X, bA (R2 ++ [32, 116]) = X := ⟨_, rfl⟩
        obtain ⟨DR3, hDR3⟩ : ∃ X, bA (Lib.decDigits t) = X := ⟨_, rfl⟩
        obtain ⟨BR3, hBR3⟩ : ∃ X, bA R3 = X := ⟨_, rfl⟩
        rw [hAR3] at faR3 fbR3
        rw [hDR3] at fbR3 HUR3
        rw [hBR3] at fbR3
        rw [hBR2] at faR3
        clear hR3 fdR3 hAR3 hDR3
        have faR5 : ∀ x : World, (Op.stringOp .add (bA R3) ⟨#[32, 112]⟩).run Tryd.prog x = .ok (.string (bA (R3 ++ [32, 112]))) x := add_run _ [32, 112] (by simp; omega)
        have fdR5 := dig_len pn (by omega)
        have fbR5 : ∀ x : World, (Op.stringOp .add (bA (R3 ++ [32, 112])) (bA (Lib.decDigits pn))).run Tryd.prog x = .ok (.string (bA ((R3 ++ [32, 112]) ++ Lib.decDigits pn))) x := add_run _ _ (by simp; omega)
        have flR5 : ((R3 ++ [32, 112]) ++ Lib.decDigits pn).length ≤ 130 := by simp; omega
        have HER5 : Hid (R3 ++ pt 112 pn = (R3 ++ [32, 112]) ++ Lib.decDigits pn) := by show _ = _; simp [pt]
        have HUR5 : Hid (∀ x : World, Calls Tryd.prog 24 #[.int .i64 (pn : Int)] x fun e w' => e = .returned (.string (bA (Lib.decDigits pn))) ∧ ∃ m, w' = x.drewN m) := fun x => number_any pn (by omega) x
        obtain ⟨R5, hR5⟩ : ∃ X, (R3 ++ [32, 112]) ++ Lib.decDigits pn = X := ⟨_, rfl⟩
        rw [hR5] at fbR5 flR5 HER5
        obtain ⟨AR5, hAR5⟩ : ∃ X, bA (R3 ++ [32, 112]) = X := ⟨_, rfl⟩
        obtain ⟨DR5, hDR5⟩ : ∃ X, bA (Lib.decDigits pn) = X := ⟨_, rfl⟩
        obtain ⟨BR5, hBR5⟩ : ∃ X, bA R5 = X := ⟨_, rfl⟩
        rw [hAR5] at faR5 fbR5
        rw [hDR5] at fbR5 HUR5
        rw [hBR5] at fbR5
        rw [hBR3] at faR5
        clear hR5 fdR5 hAR5 hDR5
        have fz : ∀ x : World, (Op.stringOp .add (bA R5) ⟨#[10]⟩).run Tryd.prog x = .ok (.string (bA (R5 ++ [10]))) x := add_run _ [10] (by simp; omega)
        obtain ⟨Z, hZ⟩ : ∃ X, bA (R5 ++ [10]) = X := ⟨_, rfl⟩
        rw [hZ, hBR5] at fz
        have HZ := Lib.hid hZ
        have HFIN : Hid (((R1 ++ (if (on : Int) = -1 then [] else pt 103 ((on : Int)).toNat)) ++ pt 116 ((t : Int)).toNat) ++ (if (pn : Int) = -1 then [] else pt 112 ((pn : Int)).toNat) = R5) := by
          show _ = _
          rw [if_neg h1, if_neg h2]
          simp only [List.append_nil, Int.toNat_natCast]
          rw [HER2.out, HER3.out, HER5.out]
        clear hZ hBR3 flR3 HER3 hBR5 flR5 HER5 hBR2 flR2 HER2
        go_wp2_with fail
        go_at_call 24
        refine (HUR3.out y2).mono ?_
        rintro e y3 ⟨rfl, my3, hy3⟩
        have Hy3 := Lib.hid (show BoxE w.heap.size _ w y3 by subst hy3; exact Hy2.out.drewN _)
        clear hy3
        obtain ⟨-, -, c2y3, c3y3, c4y3⟩ := Hy3.out.cells
        clear HUR3
        go_wp2_with fail
        go_at_call 24
        refine (HUR5.out y3).mono ?_
        rintro e y5 ⟨rfl, my5, hy5⟩
        have Hy5 := Lib.hid (show BoxE w.heap.size _ w y5 by subst hy5; exact Hy3.out.drewN _)
        clear hy5
        obtain ⟨-, -, c2y5, c3y5, c4y5⟩ := Hy5.out.cells
        clear HUR5
        go_wp2_with fail
        go_ret
        rw [← HANS.out, HFIN.out, HZ.out]
        exact ⟨rfl, Hy5.out.2.1⟩
  clear hKt hS1 hK
  have HP0d : Hid (Wd0 w.heap.size ⟨(k : Int), (g : Int), o, (t : Int), p⟩ w W.drew) := ⟨⟨HP0.out.1.1, HP0.out.1.2.1.drew, HP0.out.1.2.2⟩, HP0.out.2⟩
  go_region_with (first
    | (go_at_call 8; refine (HW.out _ HP0d.out).mono ?_; rintro e w2 ⟨rfl, HP1⟩; obtain ⟨hbx1, hwd1⟩ := HP1.out; obtain ⟨c0b, c1b, -, -, -⟩ := hbx1.cells; clear hbx1; rw [HKK.out] at hwd1)
    | (go_at_call 24; refine (HN1.out _ HP1.out).mono ?_; rintro e w3 ⟨rfl, HP2⟩; obtain ⟨hbx2, hwd2⟩ := HP2.out; obtain ⟨c0d, c1d, -, -, -⟩ := hbx2.cells; clear hbx2; rw [HKK.out] at hwd2))
  all_goals exact REST.out _ HP2.out.1
end Go.Proofs.YtalilnnjpemmlaaDoor
