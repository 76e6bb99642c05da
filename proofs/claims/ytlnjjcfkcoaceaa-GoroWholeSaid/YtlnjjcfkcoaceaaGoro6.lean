/- The walk of the law GoroMakes. -/
import Derived.Test.YtlnjjcfkcoaceaaGoro5
namespace Go.Proofs.Ytlnjjcfkcoaceaa
open Go Go.RowKit
set_option linter.unusedVariables false
set_option maxRecDepth 100000
set_option linter.unusedSimpArgs false


theorem seq {B : Nat} {x y z : World} (h : Below B x y) (k : Below y.heap.size y z) (hB : B ≤ y.heap.size) : Below B x z := h.trans (k.mono hB)
theorem neq_instr (w : World) (a b : Int) : (binOp .neq 90 (.agg #[.int .i64 a, .int .i64 b]) (.agg #[.int .i64 a, .int .i64 b])).run Try.prog w = .ok (.bool false) w := by
  have h := eq_instr w a b a b
  rw [run_eql_struct] at h
  rw [run_neq_struct]
  generalize ((Op.equalIn 10000 90 (.agg #[.int .i64 a, .int .i64 b]) (.agg #[.int .i64 a, .int .i64 b])).run Try.prog w) = r at *
  cases r with
  | ok x w' =>
    simp [Result.andThen] at h ⊢
    obtain ⟨h1, h2⟩ := h
    exact ⟨by rw [h1], h2⟩
  | halt x w' => simp [Result.andThen] at h

def ex3 : Nat → Int := fun _ => 3
theorem sees_one (w : World) : SeesU (w.alloc (.cells #[.int .u64 3] 34)) (w.alloc (.cells #[.int .u64 3] 34)).heap.size (some ⟨w.heap.size, 0, none⟩) 1 ex3 := fun _ => by
  have hh := Blk.new w #[.int .u64 3] 34
  refine ⟨w.heap.size, 0, rfl, hh.lt, fun i hi => ?_⟩
  obtain rfl : i = 0 := by omega
  exact hh.cell 0 rfl
theorem ex3_segs : segs ex3 1 = [(0, 1)] := by decide

theorem goroMakes_many (gs j p : Int) (w : World) (h : 300 < gs ∧ gs ≤ 65536) : Calls Try.prog 6 #[.int .i64 gs, .int .i64 j, .int .i64 p] w fun e w' => e = .returned (.bool true) ∧ Below w.heap.size w w' := by
  obtain ⟨h1, h2⟩ := h
  go_enter Try.func6, Try.ntmps6
  go_wp2_with fail
  go_at_call 38; refine (goro_awake _).mono ?_; rintro e w1 ⟨rfl, k1⟩
  go_wp2_with fail
  go_ret
  exact ⟨rfl, k1⟩

set_option maxHeartbeats 1000000 in
theorem goroMakes_low (gs j p : Int) (w : World) (hlow : gs < 1) (h : gs < 1 ∨ 65536 < gs) : Calls Try.prog 6 #[.int .i64 gs, .int .i64 j, .int .i64 p] w fun e w' => e = .returned (.bool true) ∧ Below w.heap.size w w' := by
  have heq := eq_instr
  have hnq := neq_instr
  have hb0 : Below w.heap.size w (w.alloc (.cells #[.int .u64 3] 34)) := (Below.refl _ _).alloc (Nat.le_refl _) _
  have hR := read_few _ 1 1 ex3 _ (by omega) (by omega) (by omega) (sees_one w) (fun i hi => by show (0 : Int) ≤ 3 ∧ (3 : Int) ≤ 18446744073709551615; omega)
  rw [ex3_segs] at hR
  have d1 : decide (300 < gs) = false := decide_eq_false (by omega)
  have d2 : decide (1 ≤ gs) = false := decide_eq_false (by omega)
  go_enter Try.func6, Try.ntmps6
  go_wp2_with fail
  generalize w.alloc (.cells #[.int .u64 3] 34) = W at *
  go_at_call 39; refine hR.mono ?_; rintro e w1 ⟨c, gg, rfl, hC, h1⟩
  have hb1 : Below w.heap.size w w1 := hb0.trans (h1.mono hb0.size)
  have hclt := block_lt hC.main
  have hN := gnew_bad (some ⟨c, 0, none⟩) gs w1 (.inr h)
  clear h hR hC h1 hb0 hclt
  go_wp2_with fail
  go_at_call 40; refine hN.mono ?_; rintro e w2 ⟨rfl, rfl⟩
  go_wp2_with fail
  go_at_call_of 40 (Value.pointer none); refine (gnew_bad none 1 _ (.inl rfl)).mono ?_; rintro e y1 ⟨rfl, rfl⟩
  go_wp2_with fail
  go_at_call 41; refine (gplace_nil _ j).mono ?_; rintro e y1 ⟨rfl, rfl⟩
  go_wp2_with fail
  go_at_call 42; refine (gbegin_nil _ j p).mono ?_; rintro e y1 ⟨rfl, rfl⟩
  go_wp2_with fail
  go_at_call 43; refine (gnow_nil _ j).mono ?_; rintro e y1 ⟨rfl, m1⟩
  go_wp2_with fail
  go_at_call 44; refine (gstep_nil _ j).mono ?_; rintro e y2 ⟨rfl, m2⟩
  have m3 := seq m1 m2 m1.size
  go_wp2_with fail
  go_at_call 45; refine (glen_nil _).mono ?_; rintro e y3 ⟨rfl, rfl⟩
  go_wp2_with fail
  go_at_call 46; refine (gcode_nil _).mono ?_; rintro e y3 ⟨rfl, rfl⟩
  clear m1 m2
  go_wp2_with fail
  go_at_call 38; refine (goro_awake _).mono ?_; rintro e y4 ⟨rfl, m4⟩
  have m5 := seq m3 m4 m3.size
  have hfin := hb1.trans (m5.mono hb1.size)
  go_wp2_with fail
  go_ret
  exact ⟨rfl, hfin⟩

set_option maxHeartbeats 1000000 in
theorem goroMakes_high (gs j p : Int) (w : World) (hhi : 65536 < gs) (h : gs < 1 ∨ 65536 < gs) : Calls Try.prog 6 #[.int .i64 gs, .int .i64 j, .int .i64 p] w fun e w' => e = .returned (.bool true) ∧ Below w.heap.size w w' := by
  have heq := eq_instr
  have hnq := neq_instr
  have hb0 : Below w.heap.size w (w.alloc (.cells #[.int .u64 3] 34)) := (Below.refl _ _).alloc (Nat.le_refl _) _
  have hR := read_few _ 1 1 ex3 _ (by omega) (by omega) (by omega) (sees_one w) (fun i hi => by show (0 : Int) ≤ 3 ∧ (3 : Int) ≤ 18446744073709551615; omega)
  rw [ex3_segs] at hR
  have d1 : (300 : Int) < gs := by omega
  have d2 : decide (gs ≤ 65536) = false := decide_eq_false (by omega)
  have d3 : (1 : Int) ≤ gs := by omega
  have d4 : decide (gs ≤ 300) = false := decide_eq_false (by omega)
  go_enter Try.func6, Try.ntmps6
  go_wp2_with fail
  generalize w.alloc (.cells #[.int .u64 3] 34) = W at *
  go_at_call 39; refine hR.mono ?_; rintro e w1 ⟨c, gg, rfl, hC, h1⟩
  have hb1 : Below w.heap.size w w1 := hb0.trans (h1.mono hb0.size)
  have hclt := block_lt hC.main
  have hN := gnew_bad (some ⟨c, 0, none⟩) gs w1 (.inr h)
  clear h hR hC h1 hb0 hclt
  go_wp2_with fail
  go_at_call 40; refine hN.mono ?_; rintro e w2 ⟨rfl, rfl⟩
  go_wp2_with fail
  go_at_call_of 40 (Value.pointer none); refine (gnew_bad none 1 _ (.inl rfl)).mono ?_; rintro e y1 ⟨rfl, rfl⟩
  go_wp2_with fail
  go_at_call 41; refine (gplace_nil _ j).mono ?_; rintro e y1 ⟨rfl, rfl⟩
  go_wp2_with fail
  go_at_call 42; refine (gbegin_nil _ j p).mono ?_; rintro e y1 ⟨rfl, rfl⟩
  go_wp2_with fail
  go_at_call 43; refine (gnow_nil _ j).mono ?_; rintro e y1 ⟨rfl, m1⟩
  go_wp2_with fail
  go_at_call 44; refine (gstep_nil _ j).mono ?_; rintro e y2 ⟨rfl, m2⟩
  have m3 := seq m1 m2 m1.size
  go_wp2_with fail
  go_at_call 45; refine (glen_nil _).mono ?_; rintro e y3 ⟨rfl, rfl⟩
  go_wp2_with fail
  go_at_call 46; refine (gcode_nil _).mono ?_; rintro e y3 ⟨rfl, rfl⟩
  clear m1 m2
  go_wp2_with fail
  go_at_call 38; refine (goro_awake _).mono ?_; rintro e y4 ⟨rfl, m4⟩
  have m5 := seq m3 m4 m3.size
  have hfin := hb1.trans (m5.mono hb1.size)
  go_wp2_with fail
  go_ret
  exact ⟨rfl, hfin⟩

set_option maxHeartbeats 1000000 in
theorem goroMakes_ok (n : Nat) (j p : Int) (w : World) (h : 1 ≤ n ∧ n ≤ 300) : Calls Try.prog 6 #[.int .i64 n, .int .i64 j, .int .i64 p] w fun e w' => e = .returned (.bool true) ∧ Below w.heap.size w w' := by
  have heq := eq_instr
  have hnq := neq_instr
  have hb0 : Below w.heap.size w (w.alloc (.cells #[.int .u64 3] 34)) := (Below.refl _ _).alloc (Nat.le_refl _) _
  have hR := read_few _ 1 1 ex3 _ (by omega) (by omega) (by omega) (sees_one w) (fun i hi => by show (0 : Int) ≤ 3 ∧ (3 : Int) ≤ 18446744073709551615; omega)
  rw [ex3_segs] at hR
  have d1 : decide (300 < (n : Int)) = false := decide_eq_false (by omega)
  have d2 : (1 : Int) ≤ n := by omega
  have d3 : (n : Int) ≤ 300 := by omega
  go_enter Try.func6, Try.ntmps6
  go_wp2_with fail
  generalize w.alloc (.cells #[.int .u64 3] 34) = W at *
  go_at_call 39; refine hR.mono ?_; rintro e w1 ⟨c, gg, rfl, hC, h1⟩
  have hb1 : Below w.heap.size w w1 := hb0.trans (h1.mono hb0.size)
  have hclt := block_lt hC.main
  have hN := gnew_ok c n w1 (by omega) hclt
  have HC : Hid (∀ Y, Below w1.heap.size w1 Y → IsCode Y c gg ex3 [(0, 1)]) := fun Y hY => hC.below hY
  clear hR hC h1 hb0 hclt
  go_wp2_with fail
  go_at_call 40; refine hN.mono ?_; rintro e w2 ⟨x, g, rfl, hA, hb2, -, -⟩
  have HA : Hid (∀ Y, Below w2.heap.size w2 Y → Ar Y x g c n (fun _ => pl0)) := fun Y hY => hA.below hY
  have HB2 : Hid (Below w1.heap.size w1 w2) := hb2
  clear hN hA hb2
  go_wp2_with fail
  go_at_call_of 40 (Value.pointer none); refine (gnew_bad none 1 _ (.inl rfl)).mono ?_; rintro e y1 ⟨rfl, rfl⟩
  go_wp2_with fail
  go_at_call 41; refine (gplace_nil _ j).mono ?_; rintro e y1 ⟨rfl, rfl⟩
  go_wp2_with fail
  go_at_call 42; refine (gbegin_nil _ j p).mono ?_; rintro e y1 ⟨rfl, rfl⟩
  go_wp2_with fail
  go_at_call 43; refine (gnow_nil _ j).mono ?_; rintro e y1 ⟨rfl, m1⟩
  go_wp2_with fail
  go_at_call 44; refine (gstep_nil _ j).mono ?_; rintro e y2 ⟨rfl, m2⟩
  have m3 := seq m1 m2 m1.size
  go_wp2_with fail
  go_at_call 45; refine (glen_nil _).mono ?_; rintro e y3 ⟨rfl, rfl⟩
  go_wp2_with fail
  go_at_call 46; refine (gcode_nil _).mono ?_; rintro e y3 ⟨rfl, rfl⟩
  clear m1 m2
  go_wp2_with fail
  go_at_call 38; refine (goro_awake _).mono ?_; rintro e y4 ⟨rfl, m4⟩
  have m5 := seq m3 m4 m3.size
  have hA9 := HA.out _ m5
  have hC9 := HC.out _ (HB2.out.trans (m5.mono HB2.out.size))
  have q1 := glen_some _ x g c n _ hA9
  have q2 := gcode_some _ x g c n _ hA9
  have q3 := clen_some c gg ex3 _ _ hC9
  have q4 := gnow_zero _ x g c n _ hA9 0 (by omega) (by omega) rfl
  have HA4 : Hid (∀ Y, Below y4.heap.size y4 Y → Ar Y x g c n (fun _ => pl0)) := fun Y hY => hA9.below hY
  have HC4 : Hid (∀ Y, Below y4.heap.size y4 Y → IsCode Y c gg ex3 [(0, 1)]) := fun Y hY => hC9.below hY
  have hfin := hb1.trans ((HB2.out.trans (m5.mono HB2.out.size)).mono hb1.size)
  clear m3 m4 m5 hA9 hC9
  go_wp2_with fail
  go_at_call 45; refine q1.mono ?_; rintro e y5 ⟨rfl, rfl⟩
  go_wp2_with fail
  go_at_call 46; refine q2.mono ?_; rintro e y5 ⟨rfl, rfl⟩
  go_wp2_with fail
  go_at_call 47; refine q3.mono ?_; rintro e y5 ⟨rfl, rfl⟩
  go_wp2_with fail
  go_at_call 43; refine q4.mono ?_; rintro e y5 ⟨rfl, m5⟩
  have q5 := gbegin_range _ x g c n _ (HA4.out _ m5) n 0 (.inr (Int.le_refl _))
  have q6 := gbegin_prog _ x g c n _ (HA4.out _ m5) gg ex3 _ (HC4.out _ m5) 0 (by omega) 1 (.inr (by decide))
  clear q1 q2 q3 q4
  go_wp2_with fail
  go_at_call 42; refine q5.mono ?_; rintro e y6 ⟨rfl, rfl⟩
  go_wp2_with fail
  go_at_call 42; refine q6.mono ?_; rintro e y6 ⟨rfl, rfl⟩
  have hfin2 := seq hfin m5 hfin.size
  clear q5 q6
  go_wp2_with fail
  go_ret
  exact ⟨rfl, hfin2⟩

theorem goroMakes_walk (gs j p : Int) (w : World) : Calls Try.prog 6 #[.int .i64 gs, .int .i64 j, .int .i64 p] w fun e w' => e = .returned (.bool true) ∧ Below w.heap.size w w' := by
  by_cases h1 : gs < 1
  · exact goroMakes_low gs j p w h1 (.inl h1)
  · by_cases h2 : 65536 < gs
    · exact goroMakes_high gs j p w h2 (.inr h2)
    · by_cases h3 : 300 < gs
      · exact goroMakes_many gs j p w ⟨h3, by omega⟩
      · obtain ⟨n, rfl⟩ : ∃ n : Nat, gs = n := ⟨gs.toNat, by omega⟩
        exact goroMakes_ok n j p w (by omega)

end Go.Proofs.Ytlnjjcfkcoaceaa
