/- CensusAdds: of unlike configs nothing is added. -/
import Derived.Test.YtammoflhfcpomaaS1
namespace Go.Proofs.Ytammoflhfcpomaa
open Go Go.RowKit
set_option linter.unusedVariables false
set_option linter.unusedSimpArgs false
set_option maxRecDepth 100000

set_option maxHeartbeats 4000000 in
theorem adds_unlike_q (p0 q0 p1 q1 : Nat) (T0 T1 : Int) (n m cp cq : Nat) (A B : Option Addr) (W : World) (hn : n ≤ 50) (hm : m ≤ 50) (hp0 : 1 ≤ p0 ∧ p0 ≤ 64) (hg0 : 1 ≤ q0 ∧ q0 ≤ 60) (hp1 : 1 ≤ p1 ∧ p1 ≤ 64) (hg1 : 1 ≤ q1 ∧ q1 ≤ 60) (ev : Nat → Ev) (hs : SeesE W W.heap.size A n ev) (eu : Nat → Ev) (hu : SeesE W W.heap.size B m eu) (hne : q0 ≠ q1) :
    Calls Try.prog 4 #[.agg #[.int .i64 (p0 : Int), .int .i64 T0, .int .i64 (q0 : Int), .int .i64 (p1 : Int), .int .i64 T1, .int .i64 (q1 : Int)], .slice A n cp, .slice B m cq] W fun e W' => e = .returned (.bool true) ∧ Below W.heap.size W W' := by
  have HA := Lib.hid awake_any
  have HT := Lib.hid zero_total
  have HAB := Lib.hid (fun (w : World) (K1 K2 : Nat → Int) (g1 h1 g2 h2 : Nat) (M1 N1 M2 N2 : Int) => add_bad w K1 K2 g1 q0 h1 p0 g2 q1 h2 p1 M1 N1 M2 N2 (Or.inl hne))
  have HB0 := Lib.hid (fun o => (Below.refl W.heap.size W).alloc (Nat.le_refl _) o)
  have HS0 := Lib.hid (show ∀ o, SeesE (W.alloc o) (W.alloc o).heap.size A n ev from fun o => by
    have := hs.bel (HB0.out o)
    exact fun h => by obtain ⟨b, off, e, h1, h2⟩ := this h; exact ⟨b, off, e, by rw [size_al]; omega, h2⟩)
  have HOF0 := Lib.hid (show ∀ w, SeesE w w.heap.size A n ev → _ from fun w hw => of_ok w p0 q0 T0 n cp A ev hp0 hg0 (by omega) hw)
  have HS1 := Lib.hid (show ∀ w, Below W.heap.size W w → SeesE w w.heap.size B m eu from fun w hw h => by
    obtain ⟨b, off, e, h1, h2⟩ := hu.bel hw h; exact ⟨b, off, e, Nat.lt_of_lt_of_le h1 hw.size, h2⟩)
  have HOF1 := Lib.hid (show ∀ w, SeesE w w.heap.size B m eu → _ from fun w hw => of_ok w p1 q1 T1 m cq B eu hp1 hg1 (by omega) hw)
  have i1 : (n : Int) ≤ 50 := by omega
  have i2 : (m : Int) ≤ 50 := by omega
  have i3 : (q0 : Int) ≤ 60 := by omega
  have i4 : (q1 : Int) ≤ 60 := by omega
  go_enter Try.func4, Try.ntmps4
  go_wp2_with fail
  go_at_call 6
  refine (HOF0.out _ (HS0.out _)).mono ?_
  rintro e w1 ⟨x0, g0, h0, rfl, hr0, hi0, hb, hg0lo, hh0lo⟩
  have HB1 := Lib.hid ((HB0.out (.cells #[.int .i64 (p0 : Int), .int .i64 T0, .int .i64 (q0 : Int), .int .i64 (p1 : Int), .int .i64 T1, .int .i64 (q1 : Int)] 37)).trans (hb.mono (by rw [size_al]; omega)))
  have hbx := (hb.block W.heap.size (by rw [size_al]; omega)).trans (heap_alloc_new W (.cells #[.int .i64 (p0 : Int), .int .i64 T0, .int .i64 (q0 : Int), .int .i64 (p1 : Int), .int .i64 T1, .int .i64 (q1 : Int)] 37))
  have hlt := block_lt hbx
  obtain ⟨c0, c1, c2, c3, c4, c5⟩ := cells6 ((heap_al w1 hlt (.cells (cenCells (fun k => ((cK ev n k : Nat) : Int)) g0 q0 h0 p0 (mostN ev n) (nowN ev n)) 30)).trans hbx)
  have HR0 := Lib.hid hr0
  have HI0 := Lib.hid hi0
  have HLO0 := Lib.hid (And.intro hg0lo hh0lo)
  clear hr0 hi0 hg0lo hh0lo
  unfold cenVal
  have HBX := Lib.hid hbx
  have HB1A := Lib.hid (HB1.out.alloc HB1.out.size (.cells (cenCells (fun k => ((cK ev n k : Nat) : Int)) g0 q0 h0 p0 (mostN ev n) (nowN ev n)) 30))
  clear hb hbx
  unfold cenCells at c0 c1 c2 c3 c4 c5 HB1A ⊢
  go_wp2_with fail
  go_at_call 6
  refine (HOF1.out _ (HS1.out _ HB1A.out)).mono ?_
  rintro e w2 ⟨x1, g1, h1, rfl, hr1, hi1, hb2, _, _⟩
  have HB2 := Lib.hid (HB1A.out.trans (hb2.mono HB1A.out.size))
  have hbx2 := (hb2.block W.heap.size (by rw [size_al]; have := block_lt HBX.out; omega)).trans ((heap_al w1 (block_lt HBX.out) (.cells (cenCells (fun k => ((cK ev n k : Nat) : Int)) g0 q0 h0 p0 (mostN ev n) (nowN ev n)) 30)).trans HBX.out)
  have hx2 := (hb2.block w1.heap.size (by rw [size_al]; omega)).trans (heap_alloc_new w1 (.cells (cenCells (fun k => ((cK ev n k : Nat) : Int)) g0 q0 h0 p0 (mostN ev n) (nowN ev n)) 30))
  have HB2A := Lib.hid (HB2.out.alloc HB2.out.size (.cells (cenCells (fun k => ((cK eu m k : Nat) : Int)) g1 q1 h1 p1 (mostN eu m) (nowN eu m)) 30))
  have hbx3 := (heap_al w2 (block_lt hbx2) (.cells (cenCells (fun k => ((cK eu m k : Nat) : Int)) g1 q1 h1 p1 (mostN eu m) (nowN eu m)) 30)).trans hbx2
  have hx3 := (heap_al w2 (block_lt hx2) (.cells (cenCells (fun k => ((cK eu m k : Nat) : Int)) g1 q1 h1 p1 (mostN eu m) (nowN eu m)) 30)).trans hx2
  have hlt2 := block_lt hx2
  have HX3 := Lib.hid hx3
  have HY3 := Lib.hid (show (w2.alloc (.cells (cenCells (fun k => ((cK eu m k : Nat) : Int)) g1 q1 h1 p1 (mostN eu m) (nowN eu m)) 30)).heap[w2.heap.size]? = some (.cells (cenCells (fun k => ((cK eu m k : Nat) : Int)) g1 q1 h1 p1 (mostN eu m) (nowN eu m)) 30 (0, 0)) from heap_alloc_new _ _)
  clear c0 c1 c2 c3 c4 c5
  have HBX3 := Lib.hid hbx3
  clear hx2 hx3 hb2 hbx2 hbx3 hr1 hi1 hlt2
  unfold cenVal
  unfold cenCells
  go_wp2_with (first | (refine wpList_load_row rfl 30 _ rfl w1.heap.size rfl 30 (cenCells (fun k => ((cK ev n k : Nat) : Int)) g0 q0 h0 p0 (mostN ev n) (nowN ev n)) (0, 0) _ HX3.out Try.underlying30 rfl info30 ?_) | (refine wpList_load_row rfl 30 _ rfl w2.heap.size rfl 30 (cenCells (fun k => ((cK eu m k : Nat) : Int)) g1 q1 h1 p1 (mostN eu m) (nowN eu m)) (0, 0) _ HY3.out Try.underlying30 rfl info30 ?_) | fail)
  go_at_call 9
  refine (show Calls Try.prog 9 #[.agg (cenCells (fun k => ((cK ev n k : Nat) : Int)) g0 q0 h0 p0 (mostN ev n) (nowN ev n)), .agg (cenCells (fun k => ((cK eu m k : Nat) : Int)) g1 q1 h1 p1 (mostN eu m) (nowN eu m))] _ _ from HAB.out _ _ _ _ _ _ _ _ _ _ _).mono ?_
  rintro e w3 ⟨rfl, hb3⟩
  have HB3 := Lib.hid (HB2A.out.trans (hb3.mono HB2A.out.size))
  have hbx3 := (hb3.block W.heap.size (block_lt HBX3.out)).trans HBX3.out
  obtain ⟨c0, c1, c2, c3, c4, c5⟩ := cells6 ((heap_al w3 (block_lt hbx3) (.cells zero16 30)).trans hbx3)
  clear hb3 hbx3 HB2A HBX3 HX3 HY3
  unfold zero16 at c0 c1 c2 c3 c4 c5 ⊢
  have hq := hne
  clear hne
  have hq2 : ((q0 : Int) == (q1 : Int)) = false := by simp; omega
  have HE := Lib.hid hq
  clear hq
  go_wp2_with fail
  refine (HA.out _).mono ?_
  rintro e w4 ⟨rfl, hb4⟩
  have hx4 : w4.heap[w3.heap.size]? = some (.cells zero16 30 (0, 0)) := (hb4.block _ (by rw [size_al]; omega)).trans (heap_alloc_new w3 _)
  have HB4 := Lib.hid ((HB3.out.alloc HB3.out.size _).trans (hb4.mono (by have := HB3.out.size; rw [size_al]; omega)))
  have kk : ∀ (i : Nat) (v : Value), zero16[i]? = some v → w4.cell? ⟨w3.heap.size, i, none⟩ = some v := fun i v hv => by simp only [World.cell?, hx4]; exact hv
  have k0 : w4.cell? ⟨w3.heap.size, 0, none⟩ = some (.int .i64 0) := kk 0 _ rfl
  have k1 : w4.cell? ⟨w3.heap.size, 1, none⟩ = some (.int .i64 0) := kk 1 _ rfl
  have k2 : w4.cell? ⟨w3.heap.size, 2, none⟩ = some (.int .i64 0) := kk 2 _ rfl
  have k3 : w4.cell? ⟨w3.heap.size, 3, none⟩ = some (.int .i64 0) := kk 3 _ rfl
  have k4 : w4.cell? ⟨w3.heap.size, 4, none⟩ = some (.int .i64 0) := kk 4 _ rfl
  have k5 : w4.cell? ⟨w3.heap.size, 5, none⟩ = some (.int .i64 0) := kk 5 _ rfl
  have k6 : w4.cell? ⟨w3.heap.size, 6, none⟩ = some (.int .i64 0) := kk 6 _ rfl
  have k7 : w4.cell? ⟨w3.heap.size, 7, none⟩ = some (.int .i64 0) := kk 7 _ rfl
  have k8 : w4.cell? ⟨w3.heap.size, 8, none⟩ = some (.int .i64 0) := kk 8 _ rfl
  have k9 : w4.cell? ⟨w3.heap.size, 9, none⟩ = some (.int .i64 0) := kk 9 _ rfl
  have k10 : w4.cell? ⟨w3.heap.size, 10, none⟩ = some (.int .i64 0) := kk 10 _ rfl
  have k11 : w4.cell? ⟨w3.heap.size, 11, none⟩ = some (.int .i64 0) := kk 11 _ rfl
  have k12 : w4.cell? ⟨w3.heap.size, 12, none⟩ = some (.slice none 0 0) := kk 12 _ rfl
  have k13 : w4.cell? ⟨w3.heap.size, 13, none⟩ = some (.slice none 0 0) := kk 13 _ rfl
  have k14 : w4.cell? ⟨w3.heap.size, 14, none⟩ = some (.int .i64 0) := kk 14 _ rfl
  have k15 : w4.cell? ⟨w3.heap.size, 15, none⟩ = some (.int .i64 0) := kk 15 _ rfl
  clear kk hx4 hb4 c0 c1 c2 c3 c4 c5
  go_wp2_with fail
  refine (HT.out _).mono ?_
  rintro e w5 ⟨rfl, hb5⟩
  have HB5 := Lib.hid (HB4.out.trans (hb5.mono HB4.out.size))
  have d12 := (hb5.cell (p := ⟨w3.heap.size, 12, none⟩) (cell_lt k12)).trans k12
  clear hb5 k0 k1 k2 k3 k4 k5 k6 k7 k8 k9 k10 k11 k12 k13 k14 k15
  go_wp2_with fail
  go_ret
  exact ⟨rfl, HB5.out⟩
set_option maxHeartbeats 4000000 in
theorem adds_unlike_p (p0 q0 p1 : Nat) (T0 T1 : Int) (n m cp cq : Nat) (A B : Option Addr) (W : World) (hn : n ≤ 50) (hm : m ≤ 50) (hp0 : 1 ≤ p0 ∧ p0 ≤ 64) (hg0 : 1 ≤ q0 ∧ q0 ≤ 60) (hp1 : 1 ≤ p1 ∧ p1 ≤ 64) (hg1 : 1 ≤ q0 ∧ q0 ≤ 60) (ev : Nat → Ev) (hs : SeesE W W.heap.size A n ev) (eu : Nat → Ev) (hu : SeesE W W.heap.size B m eu) (hne : p0 ≠ p1) :
    Calls Try.prog 4 #[.agg #[.int .i64 (p0 : Int), .int .i64 T0, .int .i64 (q0 : Int), .int .i64 (p1 : Int), .int .i64 T1, .int .i64 (q0 : Int)], .slice A n cp, .slice B m cq] W fun e W' => e = .returned (.bool true) ∧ Below W.heap.size W W' := by
  have HA := Lib.hid awake_any
  have HT := Lib.hid zero_total
  have HAB := Lib.hid (fun (w : World) (K1 K2 : Nat → Int) (g1 h1 g2 h2 : Nat) (M1 N1 M2 N2 : Int) => add_bad w K1 K2 g1 q0 h1 p0 g2 q0 h2 p1 M1 N1 M2 N2 (Or.inr ⟨rfl, hne⟩))
  have HB0 := Lib.hid (fun o => (Below.refl W.heap.size W).alloc (Nat.le_refl _) o)
  have HS0 := Lib.hid (show ∀ o, SeesE (W.alloc o) (W.alloc o).heap.size A n ev from fun o => by
    have := hs.bel (HB0.out o)
    exact fun h => by obtain ⟨b, off, e, h1, h2⟩ := this h; exact ⟨b, off, e, by rw [size_al]; omega, h2⟩)
  have HOF0 := Lib.hid (show ∀ w, SeesE w w.heap.size A n ev → _ from fun w hw => of_ok w p0 q0 T0 n cp A ev hp0 hg0 (by omega) hw)
  have HS1 := Lib.hid (show ∀ w, Below W.heap.size W w → SeesE w w.heap.size B m eu from fun w hw h => by
    obtain ⟨b, off, e, h1, h2⟩ := hu.bel hw h; exact ⟨b, off, e, Nat.lt_of_lt_of_le h1 hw.size, h2⟩)
  have HOF1 := Lib.hid (show ∀ w, SeesE w w.heap.size B m eu → _ from fun w hw => of_ok w p1 q0 T1 m cq B eu hp1 hg1 (by omega) hw)
  have i1 : (n : Int) ≤ 50 := by omega
  have i2 : (m : Int) ≤ 50 := by omega
  have i3 : (q0 : Int) ≤ 60 := by omega
  have i4 : (q0 : Int) ≤ 60 := by omega
  go_enter Try.func4, Try.ntmps4
  go_wp2_with fail
  go_at_call 6
  refine (HOF0.out _ (HS0.out _)).mono ?_
  rintro e w1 ⟨x0, g0, h0, rfl, hr0, hi0, hb, hg0lo, hh0lo⟩
  have HB1 := Lib.hid ((HB0.out (.cells #[.int .i64 (p0 : Int), .int .i64 T0, .int .i64 (q0 : Int), .int .i64 (p1 : Int), .int .i64 T1, .int .i64 (q0 : Int)] 37)).trans (hb.mono (by rw [size_al]; omega)))
  have hbx := (hb.block W.heap.size (by rw [size_al]; omega)).trans (heap_alloc_new W (.cells #[.int .i64 (p0 : Int), .int .i64 T0, .int .i64 (q0 : Int), .int .i64 (p1 : Int), .int .i64 T1, .int .i64 (q0 : Int)] 37))
  have hlt := block_lt hbx
  obtain ⟨c0, c1, c2, c3, c4, c5⟩ := cells6 ((heap_al w1 hlt (.cells (cenCells (fun k => ((cK ev n k : Nat) : Int)) g0 q0 h0 p0 (mostN ev n) (nowN ev n)) 30)).trans hbx)
  have HR0 := Lib.hid hr0
  have HI0 := Lib.hid hi0
  have HLO0 := Lib.hid (And.intro hg0lo hh0lo)
  clear hr0 hi0 hg0lo hh0lo
  unfold cenVal
  have HBX := Lib.hid hbx
  have HB1A := Lib.hid (HB1.out.alloc HB1.out.size (.cells (cenCells (fun k => ((cK ev n k : Nat) : Int)) g0 q0 h0 p0 (mostN ev n) (nowN ev n)) 30))
  clear hb hbx
  unfold cenCells at c0 c1 c2 c3 c4 c5 HB1A ⊢
  go_wp2_with fail
  go_at_call 6
  refine (HOF1.out _ (HS1.out _ HB1A.out)).mono ?_
  rintro e w2 ⟨x1, g1, h1, rfl, hr1, hi1, hb2, _, _⟩
  have HB2 := Lib.hid (HB1A.out.trans (hb2.mono HB1A.out.size))
  have hbx2 := (hb2.block W.heap.size (by rw [size_al]; have := block_lt HBX.out; omega)).trans ((heap_al w1 (block_lt HBX.out) (.cells (cenCells (fun k => ((cK ev n k : Nat) : Int)) g0 q0 h0 p0 (mostN ev n) (nowN ev n)) 30)).trans HBX.out)
  have hx2 := (hb2.block w1.heap.size (by rw [size_al]; omega)).trans (heap_alloc_new w1 (.cells (cenCells (fun k => ((cK ev n k : Nat) : Int)) g0 q0 h0 p0 (mostN ev n) (nowN ev n)) 30))
  have HB2A := Lib.hid (HB2.out.alloc HB2.out.size (.cells (cenCells (fun k => ((cK eu m k : Nat) : Int)) g1 q0 h1 p1 (mostN eu m) (nowN eu m)) 30))
  have hbx3 := (heap_al w2 (block_lt hbx2) (.cells (cenCells (fun k => ((cK eu m k : Nat) : Int)) g1 q0 h1 p1 (mostN eu m) (nowN eu m)) 30)).trans hbx2
  have hx3 := (heap_al w2 (block_lt hx2) (.cells (cenCells (fun k => ((cK eu m k : Nat) : Int)) g1 q0 h1 p1 (mostN eu m) (nowN eu m)) 30)).trans hx2
  have hlt2 := block_lt hx2
  have HX3 := Lib.hid hx3
  have HY3 := Lib.hid (show (w2.alloc (.cells (cenCells (fun k => ((cK eu m k : Nat) : Int)) g1 q0 h1 p1 (mostN eu m) (nowN eu m)) 30)).heap[w2.heap.size]? = some (.cells (cenCells (fun k => ((cK eu m k : Nat) : Int)) g1 q0 h1 p1 (mostN eu m) (nowN eu m)) 30 (0, 0)) from heap_alloc_new _ _)
  clear c0 c1 c2 c3 c4 c5
  have HBX3 := Lib.hid hbx3
  clear hx2 hx3 hb2 hbx2 hbx3 hr1 hi1 hlt2
  unfold cenVal
  unfold cenCells
  go_wp2_with (first | (refine wpList_load_row rfl 30 _ rfl w1.heap.size rfl 30 (cenCells (fun k => ((cK ev n k : Nat) : Int)) g0 q0 h0 p0 (mostN ev n) (nowN ev n)) (0, 0) _ HX3.out Try.underlying30 rfl info30 ?_) | (refine wpList_load_row rfl 30 _ rfl w2.heap.size rfl 30 (cenCells (fun k => ((cK eu m k : Nat) : Int)) g1 q0 h1 p1 (mostN eu m) (nowN eu m)) (0, 0) _ HY3.out Try.underlying30 rfl info30 ?_) | fail)
  go_at_call 9
  refine (show Calls Try.prog 9 #[.agg (cenCells (fun k => ((cK ev n k : Nat) : Int)) g0 q0 h0 p0 (mostN ev n) (nowN ev n)), .agg (cenCells (fun k => ((cK eu m k : Nat) : Int)) g1 q0 h1 p1 (mostN eu m) (nowN eu m))] _ _ from HAB.out _ _ _ _ _ _ _ _ _ _ _).mono ?_
  rintro e w3 ⟨rfl, hb3⟩
  have HB3 := Lib.hid (HB2A.out.trans (hb3.mono HB2A.out.size))
  have hbx3 := (hb3.block W.heap.size (block_lt HBX3.out)).trans HBX3.out
  obtain ⟨c0, c1, c2, c3, c4, c5⟩ := cells6 ((heap_al w3 (block_lt hbx3) (.cells zero16 30)).trans hbx3)
  clear hb3 hbx3 HB2A HBX3 HX3 HY3
  unfold zero16 at c0 c1 c2 c3 c4 c5 ⊢
  have hp := hne
  clear hne
  have hp2 : ((p0 : Int) == (p1 : Int)) = false := by simp; omega
  have HE := Lib.hid hp
  clear hp
  go_wp2_with fail
  refine (HA.out _).mono ?_
  rintro e w4 ⟨rfl, hb4⟩
  have hx4 : w4.heap[w3.heap.size]? = some (.cells zero16 30 (0, 0)) := (hb4.block _ (by rw [size_al]; omega)).trans (heap_alloc_new w3 _)
  have HB4 := Lib.hid ((HB3.out.alloc HB3.out.size _).trans (hb4.mono (by have := HB3.out.size; rw [size_al]; omega)))
  have kk : ∀ (i : Nat) (v : Value), zero16[i]? = some v → w4.cell? ⟨w3.heap.size, i, none⟩ = some v := fun i v hv => by simp only [World.cell?, hx4]; exact hv
  have k0 : w4.cell? ⟨w3.heap.size, 0, none⟩ = some (.int .i64 0) := kk 0 _ rfl
  have k1 : w4.cell? ⟨w3.heap.size, 1, none⟩ = some (.int .i64 0) := kk 1 _ rfl
  have k2 : w4.cell? ⟨w3.heap.size, 2, none⟩ = some (.int .i64 0) := kk 2 _ rfl
  have k3 : w4.cell? ⟨w3.heap.size, 3, none⟩ = some (.int .i64 0) := kk 3 _ rfl
  have k4 : w4.cell? ⟨w3.heap.size, 4, none⟩ = some (.int .i64 0) := kk 4 _ rfl
  have k5 : w4.cell? ⟨w3.heap.size, 5, none⟩ = some (.int .i64 0) := kk 5 _ rfl
  have k6 : w4.cell? ⟨w3.heap.size, 6, none⟩ = some (.int .i64 0) := kk 6 _ rfl
  have k7 : w4.cell? ⟨w3.heap.size, 7, none⟩ = some (.int .i64 0) := kk 7 _ rfl
  have k8 : w4.cell? ⟨w3.heap.size, 8, none⟩ = some (.int .i64 0) := kk 8 _ rfl
  have k9 : w4.cell? ⟨w3.heap.size, 9, none⟩ = some (.int .i64 0) := kk 9 _ rfl
  have k10 : w4.cell? ⟨w3.heap.size, 10, none⟩ = some (.int .i64 0) := kk 10 _ rfl
  have k11 : w4.cell? ⟨w3.heap.size, 11, none⟩ = some (.int .i64 0) := kk 11 _ rfl
  have k12 : w4.cell? ⟨w3.heap.size, 12, none⟩ = some (.slice none 0 0) := kk 12 _ rfl
  have k13 : w4.cell? ⟨w3.heap.size, 13, none⟩ = some (.slice none 0 0) := kk 13 _ rfl
  have k14 : w4.cell? ⟨w3.heap.size, 14, none⟩ = some (.int .i64 0) := kk 14 _ rfl
  have k15 : w4.cell? ⟨w3.heap.size, 15, none⟩ = some (.int .i64 0) := kk 15 _ rfl
  clear kk hx4 hb4 c0 c1 c2 c3 c4 c5
  go_wp2_with fail
  refine (HT.out _).mono ?_
  rintro e w5 ⟨rfl, hb5⟩
  have HB5 := Lib.hid (HB4.out.trans (hb5.mono HB4.out.size))
  have d12 := (hb5.cell (p := ⟨w3.heap.size, 12, none⟩) (cell_lt k12)).trans k12
  clear hb5 k0 k1 k2 k3 k4 k5 k6 k7 k8 k9 k10 k11 k12 k13 k14 k15
  go_wp2_with fail
  go_ret
  exact ⟨rfl, HB5.out⟩
end Go.Proofs.Ytammoflhfcpomaa
