/- CensusAdds: the ways on which nothing is added. -/
import Derived.Test.YtammoflhfcpomaaL1
import Derived.Test.YtammoflhfcpomaaA2
namespace Go.Proofs.Ytammoflhfcpomaa
open Go Go.RowKit
set_option linter.unusedVariables false
set_option linter.unusedSimpArgs false
set_option maxRecDepth 100000

theorem cells6 {w : World} {z : Nat} {a b c d e f : Int} (h : w.heap[z]? = some (.cells #[.int .i64 a, .int .i64 b, .int .i64 c, .int .i64 d, .int .i64 e, .int .i64 f] 37 (0, 0))) :
    w.cell? ⟨z, 0, none⟩ = some (.int .i64 a) ∧ w.cell? ⟨z, 1, none⟩ = some (.int .i64 b) ∧ w.cell? ⟨z, 2, none⟩ = some (.int .i64 c) ∧ w.cell? ⟨z, 3, none⟩ = some (.int .i64 d) ∧ w.cell? ⟨z, 4, none⟩ = some (.int .i64 e) ∧ w.cell? ⟨z, 5, none⟩ = some (.int .i64 f) :=
  ⟨by simp only [World.cell?, h]; rfl, by simp only [World.cell?, h]; rfl, by simp only [World.cell?, h]; rfl, by simp only [World.cell?, h]; rfl, by simp only [World.cell?, h]; rfl, by simp only [World.cell?, h]; rfl⟩
set_option maxHeartbeats 4000000 in
theorem adds_many (P0 T0 G0 P1 T1 G1 : Int) (n m cp cq : Nat) (A B : Option Addr) (W : World) (h : 50 < n ∨ 50 < m ∨ 60 < G0 ∨ 60 < G1) :
    Calls Try.prog 4 #[.agg #[.int .i64 P0, .int .i64 T0, .int .i64 G0, .int .i64 P1, .int .i64 T1, .int .i64 G1], .slice A n cp, .slice B m cq] W fun e W' => e = .returned (.bool true) ∧ Below W.heap.size W W' := by
  have HA := Lib.hid awake_any
  have HB0 := Lib.hid (fun o => (Below.refl W.heap.size W).alloc (Nat.le_refl _) o)
  rcases (show (50 : Int) < (n : Int) ∨ ((n : Int) ≤ 50 ∧ (50 : Int) < (m : Int)) ∨ ((n : Int) ≤ 50 ∧ (m : Int) ≤ 50 ∧ 60 < G0) ∨ ((n : Int) ≤ 50 ∧ (m : Int) ≤ 50 ∧ G0 ≤ 60 ∧ 60 < G1) by omega) with h | ⟨h1, h2⟩ | ⟨h1, h2, h3⟩ | ⟨h1, h2, h3, h4⟩
  all_goals
    go_enter Try.func4, Try.ntmps4
    go_wp2_with fail
    refine (HA.out _).mono ?_
    rintro e w1 ⟨rfl, hb⟩
    have HB1 := Lib.hid ((HB0.out _).trans (hb.mono (by rw [size_al]; omega)))
    clear hb
    go_wp2_with fail
    go_ret
    exact ⟨rfl, HB1.out⟩
set_option maxHeartbeats 4000000 in
theorem adds_b0b1 (P0 T0 G0 P1 T1 G1 : Int) (n m cp cq : Nat) (A B : Option Addr) (W : World) (hn : n ≤ 50) (hm : m ≤ 50) (hg0 : G0 ≤ 60) (hg1 : G1 ≤ 60) (hbad0 : P0 < 1 ∨ 64 < P0 ∨ G0 < 1 ∨ 65536 < G0) (hbad1 : P1 < 1 ∨ 64 < P1 ∨ G1 < 1 ∨ 65536 < G1) :
    Calls Try.prog 4 #[.agg #[.int .i64 P0, .int .i64 T0, .int .i64 G0, .int .i64 P1, .int .i64 T1, .int .i64 G1], .slice A n cp, .slice B m cq] W fun e W' => e = .returned (.bool true) ∧ Below W.heap.size W W' := by
  have HA := Lib.hid awake_any
  have HB0 := Lib.hid (fun o => (Below.refl W.heap.size W).alloc (Nat.le_refl _) o)
  have i1 : (n : Int) ≤ 50 := by omega
  have i2 : (m : Int) ≤ 50 := by omega
  have i3 : G0 ≤ 60 := hg0
  have i4 : G1 ≤ 60 := hg1
  go_enter Try.func4, Try.ntmps4
  go_wp2_with fail
  go_at_call 6
  refine (of_bad _ P0 T0 G0 n cp A hbad0).mono ?_
  rintro e w1 ⟨rfl, hb⟩
  have HB1 := Lib.hid ((HB0.out (.cells #[.int .i64 P0, .int .i64 T0, .int .i64 G0, .int .i64 P1, .int .i64 T1, .int .i64 G1] 37)).trans (hb.mono (by rw [size_al]; omega)))
  have hbx := (hb.block W.heap.size (by rw [size_al]; omega)).trans (heap_alloc_new W (.cells #[.int .i64 P0, .int .i64 T0, .int .i64 G0, .int .i64 P1, .int .i64 T1, .int .i64 G1] 37))
  have hlt := block_lt hbx
  obtain ⟨c0, c1, c2, c3, c4, c5⟩ := cells6 ((heap_al w1 hlt (.cells zero16 30)).trans hbx)
  have HBX := Lib.hid hbx
  have HB1A := Lib.hid (HB1.out.alloc HB1.out.size (.cells zero16 30))
  clear hb hbx
  unfold zero16 at c0 c1 c2 c3 c4 c5 HB1A ⊢
  go_wp2_with fail
  go_at_call 6
  refine (of_bad _ P1 T1 G1 m cq B hbad1).mono ?_
  rintro e w2 ⟨rfl, hb2⟩
  have HB2 := Lib.hid (HB1A.out.trans (hb2.mono HB1A.out.size))
  clear hb2 c0 c1 c2 c3 c4 c5
  unfold zero16
  go_wp2_with fail
  refine (HA.out _).mono ?_
  rintro e w3 ⟨rfl, hb3⟩
  have HB3 := Lib.hid ((HB2.out.alloc HB2.out.size _).trans (hb3.mono (by rw [size_al]; have := HB2.out.size; omega)))
  clear hb3
  go_wp2_with fail
  go_ret
  exact ⟨rfl, HB3.out⟩
set_option maxHeartbeats 4000000 in
theorem adds_b0k1 (P0 T0 G0 T1 : Int) (p1 q1 : Nat) (n m cp cq : Nat) (A B : Option Addr) (W : World) (hn : n ≤ 50) (hm : m ≤ 50) (hg0 : G0 ≤ 60) (hp1 : 1 ≤ p1 ∧ p1 ≤ 64) (hg1 : 1 ≤ q1 ∧ q1 ≤ 60) (hbad0 : P0 < 1 ∨ 64 < P0 ∨ G0 < 1 ∨ 65536 < G0) (eu : Nat → Ev) (hu : SeesE W W.heap.size B m eu) :
    Calls Try.prog 4 #[.agg #[.int .i64 P0, .int .i64 T0, .int .i64 G0, .int .i64 (p1 : Int), .int .i64 T1, .int .i64 (q1 : Int)], .slice A n cp, .slice B m cq] W fun e W' => e = .returned (.bool true) ∧ Below W.heap.size W W' := by
  have HA := Lib.hid awake_any
  have HB0 := Lib.hid (fun o => (Below.refl W.heap.size W).alloc (Nat.le_refl _) o)
  have HS1 := Lib.hid (show ∀ w, Below W.heap.size W w → SeesE w w.heap.size B m eu from fun w hw h => by
    obtain ⟨b, off, e, h1, h2⟩ := hu.bel hw h; exact ⟨b, off, e, Nat.lt_of_lt_of_le h1 hw.size, h2⟩)
  have HOF1 := Lib.hid (show ∀ w, SeesE w w.heap.size B m eu → _ from fun w hw => of_ok w p1 q1 T1 m cq B eu hp1 hg1 (by omega) hw)
  have i1 : (n : Int) ≤ 50 := by omega
  have i2 : (m : Int) ≤ 50 := by omega
  have i3 : G0 ≤ 60 := hg0
  have i4 : (q1 : Int) ≤ 60 := by omega
  go_enter Try.func4, Try.ntmps4
  go_wp2_with fail
  go_at_call 6
  refine (of_bad _ P0 T0 G0 n cp A hbad0).mono ?_
  rintro e w1 ⟨rfl, hb⟩
  have HB1 := Lib.hid ((HB0.out (.cells #[.int .i64 P0, .int .i64 T0, .int .i64 G0, .int .i64 (p1 : Int), .int .i64 T1, .int .i64 (q1 : Int)] 37)).trans (hb.mono (by rw [size_al]; omega)))
  have hbx := (hb.block W.heap.size (by rw [size_al]; omega)).trans (heap_alloc_new W (.cells #[.int .i64 P0, .int .i64 T0, .int .i64 G0, .int .i64 (p1 : Int), .int .i64 T1, .int .i64 (q1 : Int)] 37))
  have hlt := block_lt hbx
  obtain ⟨c0, c1, c2, c3, c4, c5⟩ := cells6 ((heap_al w1 hlt (.cells zero16 30)).trans hbx)
  have HBX := Lib.hid hbx
  have HB1A := Lib.hid (HB1.out.alloc HB1.out.size (.cells zero16 30))
  clear hb hbx
  unfold zero16 at c0 c1 c2 c3 c4 c5 HB1A ⊢
  go_wp2_with fail
  go_at_call 6
  refine (HOF1.out _ (HS1.out _ HB1A.out)).mono ?_
  rintro e w2 ⟨x1, g1, h1, rfl, hr1, hi1, hb2, _, _⟩
  have HB2 := Lib.hid (HB1A.out.trans (hb2.mono HB1A.out.size))
  clear hb2 c0 c1 c2 c3 c4 c5
  unfold cenVal cenCells
  go_wp2_with fail
  refine (HA.out _).mono ?_
  rintro e w3 ⟨rfl, hb3⟩
  have HB3 := Lib.hid ((HB2.out.alloc HB2.out.size _).trans (hb3.mono (by rw [size_al]; have := HB2.out.size; omega)))
  clear hb3
  go_wp2_with fail
  go_ret
  exact ⟨rfl, HB3.out⟩
set_option maxHeartbeats 4000000 in
theorem adds_k0b1 (p0 q0 : Nat) (T0 P1 T1 G1 : Int) (n m cp cq : Nat) (A B : Option Addr) (W : World) (hn : n ≤ 50) (hm : m ≤ 50) (hp0 : 1 ≤ p0 ∧ p0 ≤ 64) (hg0 : 1 ≤ q0 ∧ q0 ≤ 60) (hg1 : G1 ≤ 60) (hbad1 : P1 < 1 ∨ 64 < P1 ∨ G1 < 1 ∨ 65536 < G1) (ev : Nat → Ev) (hs : SeesE W W.heap.size A n ev) :
    Calls Try.prog 4 #[.agg #[.int .i64 (p0 : Int), .int .i64 T0, .int .i64 (q0 : Int), .int .i64 P1, .int .i64 T1, .int .i64 G1], .slice A n cp, .slice B m cq] W fun e W' => e = .returned (.bool true) ∧ Below W.heap.size W W' := by
  have HA := Lib.hid awake_any
  have HB0 := Lib.hid (fun o => (Below.refl W.heap.size W).alloc (Nat.le_refl _) o)
  have HS0 := Lib.hid (show ∀ o, SeesE (W.alloc o) (W.alloc o).heap.size A n ev from fun o => by
    have := hs.bel (HB0.out o)
    exact fun h => by obtain ⟨b, off, e, h1, h2⟩ := this h; exact ⟨b, off, e, by rw [size_al]; omega, h2⟩)
  have HOF0 := Lib.hid (show ∀ w, SeesE w w.heap.size A n ev → _ from fun w hw => of_ok w p0 q0 T0 n cp A ev hp0 hg0 (by omega) hw)
  have i1 : (n : Int) ≤ 50 := by omega
  have i2 : (m : Int) ≤ 50 := by omega
  have i3 : (q0 : Int) ≤ 60 := by omega
  have i4 : G1 ≤ 60 := hg1
  go_enter Try.func4, Try.ntmps4
  go_wp2_with fail
  go_at_call 6
  refine (HOF0.out _ (HS0.out _)).mono ?_
  rintro e w1 ⟨x0, g0, h0, rfl, hr0, hi0, hb, hg0lo, hh0lo⟩
  have HB1 := Lib.hid ((HB0.out (.cells #[.int .i64 (p0 : Int), .int .i64 T0, .int .i64 (q0 : Int), .int .i64 P1, .int .i64 T1, .int .i64 G1] 37)).trans (hb.mono (by rw [size_al]; omega)))
  have hbx := (hb.block W.heap.size (by rw [size_al]; omega)).trans (heap_alloc_new W (.cells #[.int .i64 (p0 : Int), .int .i64 T0, .int .i64 (q0 : Int), .int .i64 P1, .int .i64 T1, .int .i64 G1] 37))
  have hlt := block_lt hbx
  obtain ⟨c0, c1, c2, c3, c4, c5⟩ := cells6 ((heap_al w1 hlt (.cells (cenCells (fun k => ((cK ev n k : Nat) : Int)) g0 q0 h0 p0 (mostN ev n) (nowN ev n)) 30)).trans hbx)
  have HR0 := Lib.hid hr0
  have HI0 := Lib.hid hi0
  have HLO0 := Lib.hid (And.intro hg0lo hh0lo)
  clear hr0 hi0 hg0lo hh0lo
  unfold cenVal
  have HBX := Lib.hid hbx
  have HB1A := Lib.hid (HB1.out.alloc HB1.out.size (.cells (cenCells (fun k => ((cK ev n k : Nat) : Int)) g0 q0 h0 p0 (mostN ev n) (nowN ev n)) 30))
  clear hb hbx
  unfold cenCells at c0 c1 c2 c3 c4 c5 HB1A ⊢
  go_wp2_with fail
  go_at_call 6
  refine (of_bad _ P1 T1 G1 m cq B hbad1).mono ?_
  rintro e w2 ⟨rfl, hb2⟩
  have HB2 := Lib.hid (HB1A.out.trans (hb2.mono HB1A.out.size))
  clear hb2 c0 c1 c2 c3 c4 c5
  unfold zero16
  go_wp2_with fail
  refine (HA.out _).mono ?_
  rintro e w3 ⟨rfl, hb3⟩
  have HB3 := Lib.hid ((HB2.out.alloc HB2.out.size _).trans (hb3.mono (by rw [size_al]; have := HB2.out.size; omega)))
  clear hb3
  go_wp2_with fail
  go_ret
  exact ⟨rfl, HB3.out⟩
end Go.Proofs.Ytammoflhfcpomaa
