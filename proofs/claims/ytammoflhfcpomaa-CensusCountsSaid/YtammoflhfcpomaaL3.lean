/- CensusCounts: the walk of the law, where there is no census. -/
import Derived.Test.YtammoflhfcpomaaL1
namespace Go.Proofs.Ytammoflhfcpomaa
open Go Go.RowKit
set_option linter.unusedVariables false
set_option linter.unusedSimpArgs false
set_option maxRecDepth 100000

set_option maxHeartbeats 4000000 in
theorem counts_bad_g1b1 (P T G : Int) (n cap : Nat) (A : Option Addr) (W : World) (hn : n ≤ 100) (g1 : decide ((60 : Int) < G) = false) (b1 : P < 1) :
    Calls Try.prog 3 #[.agg #[.int .i64 P, .int .i64 T, .int .i64 G], .slice A n cap] W fun e W' => e = .returned (.bool true) ∧ Below W.heap.size W W' := by
  have HA := Lib.hid awake_any
  have HT := Lib.hid zero_total
  have HB0 := Lib.hid (fun o => (Below.refl W.heap.size W).alloc (Nat.le_refl _) o)
  have HOF := Lib.hid (fun w => of_bad w P T G n cap A (Or.inl b1))
  have d1 : decide ((100 : Int) < (n : Int)) = false := decide_eq_false (by omega)
  go_enter Try.func3, Try.ntmps3
  go_wp2_with fail
  go_at_call 6
  refine (HOF.out _).mono ?_
  rintro e w1 ⟨rfl, hb⟩
  have HB1 := Lib.hid ((HB0.out (.cells #[.int .i64 P, .int .i64 T, .int .i64 G] 23)).trans (hb.mono (by rw [size_al]; omega)))
  have hcf := (hb.block W.heap.size (by rw [size_al]; omega)).trans (heap_alloc_new W (.cells #[.int .i64 P, .int .i64 T, .int .i64 G] 23))
  have hne := block_lt hcf
  have c0 : w1.cell? ⟨W.heap.size, 0, none⟩ = some (.int .i64 P) := by simp only [World.cell?, hcf]; rfl
  have c2 : w1.cell? ⟨W.heap.size, 2, none⟩ = some (.int .i64 G) := by simp only [World.cell?, hcf]; rfl
  clear hb hcf
  unfold zero16
  go_wp2_with fail
  refine (HA.out _).mono ?_
  rintro e w2 ⟨rfl, hb2⟩
  have hx2 : w2.heap[w1.heap.size]? = some (.cells zero16 30 (0, 0)) := (hb2.block _ (by rw [size_al]; omega)).trans (heap_alloc_new w1 _)
  have HB2 := Lib.hid ((HB1.out.alloc HB1.out.size _).trans (hb2.mono (by have := HB1.out.size; rw [size_al]; omega)))
  have kk : ∀ (i : Nat) (v : Value), zero16[i]? = some v → w2.cell? ⟨w1.heap.size, i, none⟩ = some v := fun i v hv => by simp only [World.cell?, hx2]; exact hv
  have k0 : w2.cell? ⟨w1.heap.size, 0, none⟩ = some (.int .i64 0) := kk 0 _ rfl
  have k1 : w2.cell? ⟨w1.heap.size, 1, none⟩ = some (.int .i64 0) := kk 1 _ rfl
  have k2 : w2.cell? ⟨w1.heap.size, 2, none⟩ = some (.int .i64 0) := kk 2 _ rfl
  have k3 : w2.cell? ⟨w1.heap.size, 3, none⟩ = some (.int .i64 0) := kk 3 _ rfl
  have k4 : w2.cell? ⟨w1.heap.size, 4, none⟩ = some (.int .i64 0) := kk 4 _ rfl
  have k5 : w2.cell? ⟨w1.heap.size, 5, none⟩ = some (.int .i64 0) := kk 5 _ rfl
  have k6 : w2.cell? ⟨w1.heap.size, 6, none⟩ = some (.int .i64 0) := kk 6 _ rfl
  have k7 : w2.cell? ⟨w1.heap.size, 7, none⟩ = some (.int .i64 0) := kk 7 _ rfl
  have k8 : w2.cell? ⟨w1.heap.size, 8, none⟩ = some (.int .i64 0) := kk 8 _ rfl
  have k9 : w2.cell? ⟨w1.heap.size, 9, none⟩ = some (.int .i64 0) := kk 9 _ rfl
  have k10 : w2.cell? ⟨w1.heap.size, 10, none⟩ = some (.int .i64 0) := kk 10 _ rfl
  have k11 : w2.cell? ⟨w1.heap.size, 11, none⟩ = some (.int .i64 0) := kk 11 _ rfl
  have k12 : w2.cell? ⟨w1.heap.size, 12, none⟩ = some (.slice none 0 0) := kk 12 _ rfl
  have k13 : w2.cell? ⟨w1.heap.size, 13, none⟩ = some (.slice none 0 0) := kk 13 _ rfl
  have k14 : w2.cell? ⟨w1.heap.size, 14, none⟩ = some (.int .i64 0) := kk 14 _ rfl
  have k15 : w2.cell? ⟨w1.heap.size, 15, none⟩ = some (.int .i64 0) := kk 15 _ rfl
  clear kk hx2 hb2 HB1 c0 c2
  go_wp2_with fail
  refine (HT.out _).mono ?_
  rintro e w3 ⟨rfl, hb3⟩
  have HB3 := Lib.hid (HB2.out.trans (hb3.mono HB2.out.size))
  clear hb3
  go_wp2_with fail
  go_ret
  exact ⟨rfl, HB3.out⟩
set_option maxHeartbeats 4000000 in
theorem counts_bad_g1b2 (P T G : Int) (n cap : Nat) (A : Option Addr) (W : World) (hn : n ≤ 100) (g1 : decide ((60 : Int) < G) = false) (b1 : decide (P < 1) = false) (b2 : 64 < P) :
    Calls Try.prog 3 #[.agg #[.int .i64 P, .int .i64 T, .int .i64 G], .slice A n cap] W fun e W' => e = .returned (.bool true) ∧ Below W.heap.size W W' := by
  have HA := Lib.hid awake_any
  have HT := Lib.hid zero_total
  have HB0 := Lib.hid (fun o => (Below.refl W.heap.size W).alloc (Nat.le_refl _) o)
  have HOF := Lib.hid (fun w => of_bad w P T G n cap A (Or.inr (Or.inl b2)))
  have d1 : decide ((100 : Int) < (n : Int)) = false := decide_eq_false (by omega)
  go_enter Try.func3, Try.ntmps3
  go_wp2_with fail
  go_at_call 6
  refine (HOF.out _).mono ?_
  rintro e w1 ⟨rfl, hb⟩
  have HB1 := Lib.hid ((HB0.out (.cells #[.int .i64 P, .int .i64 T, .int .i64 G] 23)).trans (hb.mono (by rw [size_al]; omega)))
  have hcf := (hb.block W.heap.size (by rw [size_al]; omega)).trans (heap_alloc_new W (.cells #[.int .i64 P, .int .i64 T, .int .i64 G] 23))
  have hne := block_lt hcf
  have c0 : w1.cell? ⟨W.heap.size, 0, none⟩ = some (.int .i64 P) := by simp only [World.cell?, hcf]; rfl
  have c2 : w1.cell? ⟨W.heap.size, 2, none⟩ = some (.int .i64 G) := by simp only [World.cell?, hcf]; rfl
  clear hb hcf
  unfold zero16
  go_wp2_with fail
  refine (HA.out _).mono ?_
  rintro e w2 ⟨rfl, hb2⟩
  have hx2 : w2.heap[w1.heap.size]? = some (.cells zero16 30 (0, 0)) := (hb2.block _ (by rw [size_al]; omega)).trans (heap_alloc_new w1 _)
  have HB2 := Lib.hid ((HB1.out.alloc HB1.out.size _).trans (hb2.mono (by have := HB1.out.size; rw [size_al]; omega)))
  have kk : ∀ (i : Nat) (v : Value), zero16[i]? = some v → w2.cell? ⟨w1.heap.size, i, none⟩ = some v := fun i v hv => by simp only [World.cell?, hx2]; exact hv
  have k0 : w2.cell? ⟨w1.heap.size, 0, none⟩ = some (.int .i64 0) := kk 0 _ rfl
  have k1 : w2.cell? ⟨w1.heap.size, 1, none⟩ = some (.int .i64 0) := kk 1 _ rfl
  have k2 : w2.cell? ⟨w1.heap.size, 2, none⟩ = some (.int .i64 0) := kk 2 _ rfl
  have k3 : w2.cell? ⟨w1.heap.size, 3, none⟩ = some (.int .i64 0) := kk 3 _ rfl
  have k4 : w2.cell? ⟨w1.heap.size, 4, none⟩ = some (.int .i64 0) := kk 4 _ rfl
  have k5 : w2.cell? ⟨w1.heap.size, 5, none⟩ = some (.int .i64 0) := kk 5 _ rfl
  have k6 : w2.cell? ⟨w1.heap.size, 6, none⟩ = some (.int .i64 0) := kk 6 _ rfl
  have k7 : w2.cell? ⟨w1.heap.size, 7, none⟩ = some (.int .i64 0) := kk 7 _ rfl
  have k8 : w2.cell? ⟨w1.heap.size, 8, none⟩ = some (.int .i64 0) := kk 8 _ rfl
  have k9 : w2.cell? ⟨w1.heap.size, 9, none⟩ = some (.int .i64 0) := kk 9 _ rfl
  have k10 : w2.cell? ⟨w1.heap.size, 10, none⟩ = some (.int .i64 0) := kk 10 _ rfl
  have k11 : w2.cell? ⟨w1.heap.size, 11, none⟩ = some (.int .i64 0) := kk 11 _ rfl
  have k12 : w2.cell? ⟨w1.heap.size, 12, none⟩ = some (.slice none 0 0) := kk 12 _ rfl
  have k13 : w2.cell? ⟨w1.heap.size, 13, none⟩ = some (.slice none 0 0) := kk 13 _ rfl
  have k14 : w2.cell? ⟨w1.heap.size, 14, none⟩ = some (.int .i64 0) := kk 14 _ rfl
  have k15 : w2.cell? ⟨w1.heap.size, 15, none⟩ = some (.int .i64 0) := kk 15 _ rfl
  clear kk hx2 hb2 HB1 c0 c2
  go_wp2_with fail
  refine (HT.out _).mono ?_
  rintro e w3 ⟨rfl, hb3⟩
  have HB3 := Lib.hid (HB2.out.trans (hb3.mono HB2.out.size))
  clear hb3
  go_wp2_with fail
  go_ret
  exact ⟨rfl, HB3.out⟩
set_option maxHeartbeats 4000000 in
theorem counts_bad_g1b3 (P T G : Int) (n cap : Nat) (A : Option Addr) (W : World) (hn : n ≤ 100) (g1 : decide ((60 : Int) < G) = false) (b1 : decide (P < 1) = false) (b2 : decide (64 < P) = false) (b3 : G < 1) :
    Calls Try.prog 3 #[.agg #[.int .i64 P, .int .i64 T, .int .i64 G], .slice A n cap] W fun e W' => e = .returned (.bool true) ∧ Below W.heap.size W W' := by
  have HA := Lib.hid awake_any
  have HT := Lib.hid zero_total
  have HB0 := Lib.hid (fun o => (Below.refl W.heap.size W).alloc (Nat.le_refl _) o)
  have HOF := Lib.hid (fun w => of_bad w P T G n cap A (Or.inr (Or.inr (Or.inl b3))))
  have d1 : decide ((100 : Int) < (n : Int)) = false := decide_eq_false (by omega)
  go_enter Try.func3, Try.ntmps3
  go_wp2_with fail
  go_at_call 6
  refine (HOF.out _).mono ?_
  rintro e w1 ⟨rfl, hb⟩
  have HB1 := Lib.hid ((HB0.out (.cells #[.int .i64 P, .int .i64 T, .int .i64 G] 23)).trans (hb.mono (by rw [size_al]; omega)))
  have hcf := (hb.block W.heap.size (by rw [size_al]; omega)).trans (heap_alloc_new W (.cells #[.int .i64 P, .int .i64 T, .int .i64 G] 23))
  have hne := block_lt hcf
  have c0 : w1.cell? ⟨W.heap.size, 0, none⟩ = some (.int .i64 P) := by simp only [World.cell?, hcf]; rfl
  have c2 : w1.cell? ⟨W.heap.size, 2, none⟩ = some (.int .i64 G) := by simp only [World.cell?, hcf]; rfl
  clear hb hcf
  unfold zero16
  go_wp2_with fail
  refine (HA.out _).mono ?_
  rintro e w2 ⟨rfl, hb2⟩
  have hx2 : w2.heap[w1.heap.size]? = some (.cells zero16 30 (0, 0)) := (hb2.block _ (by rw [size_al]; omega)).trans (heap_alloc_new w1 _)
  have HB2 := Lib.hid ((HB1.out.alloc HB1.out.size _).trans (hb2.mono (by have := HB1.out.size; rw [size_al]; omega)))
  have kk : ∀ (i : Nat) (v : Value), zero16[i]? = some v → w2.cell? ⟨w1.heap.size, i, none⟩ = some v := fun i v hv => by simp only [World.cell?, hx2]; exact hv
  have k0 : w2.cell? ⟨w1.heap.size, 0, none⟩ = some (.int .i64 0) := kk 0 _ rfl
  have k1 : w2.cell? ⟨w1.heap.size, 1, none⟩ = some (.int .i64 0) := kk 1 _ rfl
  have k2 : w2.cell? ⟨w1.heap.size, 2, none⟩ = some (.int .i64 0) := kk 2 _ rfl
  have k3 : w2.cell? ⟨w1.heap.size, 3, none⟩ = some (.int .i64 0) := kk 3 _ rfl
  have k4 : w2.cell? ⟨w1.heap.size, 4, none⟩ = some (.int .i64 0) := kk 4 _ rfl
  have k5 : w2.cell? ⟨w1.heap.size, 5, none⟩ = some (.int .i64 0) := kk 5 _ rfl
  have k6 : w2.cell? ⟨w1.heap.size, 6, none⟩ = some (.int .i64 0) := kk 6 _ rfl
  have k7 : w2.cell? ⟨w1.heap.size, 7, none⟩ = some (.int .i64 0) := kk 7 _ rfl
  have k8 : w2.cell? ⟨w1.heap.size, 8, none⟩ = some (.int .i64 0) := kk 8 _ rfl
  have k9 : w2.cell? ⟨w1.heap.size, 9, none⟩ = some (.int .i64 0) := kk 9 _ rfl
  have k10 : w2.cell? ⟨w1.heap.size, 10, none⟩ = some (.int .i64 0) := kk 10 _ rfl
  have k11 : w2.cell? ⟨w1.heap.size, 11, none⟩ = some (.int .i64 0) := kk 11 _ rfl
  have k12 : w2.cell? ⟨w1.heap.size, 12, none⟩ = some (.slice none 0 0) := kk 12 _ rfl
  have k13 : w2.cell? ⟨w1.heap.size, 13, none⟩ = some (.slice none 0 0) := kk 13 _ rfl
  have k14 : w2.cell? ⟨w1.heap.size, 14, none⟩ = some (.int .i64 0) := kk 14 _ rfl
  have k15 : w2.cell? ⟨w1.heap.size, 15, none⟩ = some (.int .i64 0) := kk 15 _ rfl
  clear kk hx2 hb2 HB1 c0 c2
  go_wp2_with fail
  refine (HT.out _).mono ?_
  rintro e w3 ⟨rfl, hb3⟩
  have HB3 := Lib.hid (HB2.out.trans (hb3.mono HB2.out.size))
  clear hb3
  go_wp2_with fail
  go_ret
  exact ⟨rfl, HB3.out⟩
end Go.Proofs.Ytammoflhfcpomaa
