/- The walk of the law LayoutOne: a config that may not be; one beyond what there is. -/
import Derived.Test.YtmkmpphfieckoaaOne1
namespace Go.Proofs.Ytmkmpphfieckoaa
open Go Go.RowKit
set_option linter.unusedVariables false
set_option linter.unusedSimpArgs false

set_option maxHeartbeats 8000000 in
set_option maxRecDepth 100000 in
theorem layoutOne_bad (P T G n f i : Int) (w : World) (bn : -9223372036854775808 ≤ n ∧ n ≤ 9223372036854775807) (bf : -9223372036854775808 ≤ f ∧ f ≤ 9223372036854775807) (hi : 0 ≤ i ∧ i ≤ 18446744073709551615) (h : ¬ May P T G) : Calls Try.prog 5 #[.agg #[.int .i64 P, .int .i64 T, .int .i64 G], .agg #[.int .i64 n, .int .i64 f], .int .u64 i] w fun e w' => e = .returned (.bool true) ∧ Below w.heap.size w w' := by
  have hR := refRight_any P T G
  rw [decide_eq_false h] at hR
  have HR : Hid _ := hR
  clear hR
  have hb0 : Below w.heap.size w ((w.alloc (.cells #[.int .i64 P, .int .i64 T, .int .i64 G] 23)).alloc (.cells #[.int .i64 n, .int .i64 f] 40)) := ((Below.refl _ _).alloc (Nat.le_refl _) _).alloc (by simp) _
  have hB0 : Box ((w.alloc (.cells #[.int .i64 P, .int .i64 T, .int .i64 G] 23)).alloc (.cells #[.int .i64 n, .int .i64 f] 40)) w.heap.size P T G := ⟨(heap_al _ (by simp) _).trans (heap_alloc_new _ _)⟩
  go_enter Try.func5, Try.ntmps5
  go_wp2_with fail
  go_quiet (fail)
  generalize hX : (((w.alloc (.cells #[.int .i64 P, .int .i64 T, .int .i64 G] 23)).alloc (.cells #[.int .i64 n, .int .i64 f] 40)).drewN nq) = X
  have hbX : Below w.heap.size w X := by rw [← hX]; exact below_drewN hb0 nq
  have hBX : Box X w.heap.size P T G := by rw [← hX]; exact ⟨hB0.h⟩
  clear hX hb0 hB0
  obtain ⟨c0, c1, c2⟩ := hBX.cells
  go_wp2_with fail
  go_at_call 10; refine (of_bad P T G _ h).mono ?_; rintro e w1 ⟨rfl, h1⟩
  clear c0 c1 c2
  go_wp2_with fail
  go_at_call 21; refine (proc_nil n f _).mono ?_; rintro e w2 ⟨rfl, h2⟩
  have h2 := seq h1 h2
  go_wp2_with fail
  go_at_call 22; refine (ring_nil n i _ hi).mono ?_; rintro e w3 ⟨rfl, h3⟩
  have h3 := seq h2 h3
  go_wp2_with fail
  go_at_call 23; refine (thread_nil n f _).mono ?_; rintro e w4 ⟨rfl, h4⟩
  have h4 := seq h3 h4
  go_wp2_with fail
  go_at_call 24; refine (g_nil n f _).mono ?_; rintro e w5 ⟨rfl, h5⟩
  have h5 := seq h4 h5
  go_wp2_with fail
  go_at_call 25; refine (lword_nil f _).mono ?_; rintro e w6 ⟨rfl, rfl⟩
  go_wp2_with fail
  go_at_call 26; refine (ticket_nil n _).mono ?_; rintro e w7 ⟨rfl, h7⟩
  have h7 := seq h5 h7
  have hB7 := hBX.below h7
  obtain ⟨c0, c1, c2⟩ := hB7.cells
  go_wp2_with fail
  go_at_call 11; refine (HR.out _).mono ?_; rintro e w8 ⟨rfl, h8⟩
  have hB8 := hB7.below h8
  have h8 := hbX.trans ((seq h7 h8).mono hbX.size)
  clear h1 h2 h3 h4 h5 h7
  go_wp2_with fail
  go_at_call 12; refine (awakeL_any _).mono ?_; rintro e w9 ⟨rfl, h9⟩
  have h9 := h8.trans (h9.mono h8.size)
  go_wp2_with fail
  go_ret
  exact ⟨rfl, h9⟩
set_option maxHeartbeats 8000000 in
set_option maxRecDepth 100000 in
theorem layoutOne_far_a (P T G n f i : Int) (w : World) (bn : -9223372036854775808 ≤ n ∧ n ≤ 9223372036854775807) (bf : -9223372036854775808 ≤ f ∧ f ≤ 9223372036854775807) (hi : 0 ≤ i ∧ i ≤ 18446744073709551615) (h : May P T G) (hp : n < 0) : Calls Try.prog 5 #[.agg #[.int .i64 P, .int .i64 T, .int .i64 G], .agg #[.int .i64 n, .int .i64 f], .int .u64 i] w fun e w' => e = .returned (.bool true) ∧ Below w.heap.size w w' := by
  obtain ⟨hm⟩ := id h
  have hR := refRight_any P T G
  rw [decide_eq_true h] at hR
  have HR : Hid _ := hR
  clear hR
  have v1 : wd 20 P 8 n f - 0 + (if 0 ≤ n ∧ n < P ∧ 0 ≤ f ∧ f < 8 then n * 256 else 0) = -1 := by unfold wd; rw [if_neg (by omega), if_neg (by omega)]; rfl
  have v2 : wd (20 + P * 264) T 3 n f = -1 := by unfold wd; rw [if_neg (by omega)]
  have v3 : wd (20 + P * 264 + T * 3) G 2 n f = -1 := by unfold wd; rw [if_neg (by omega)]
  have hb0 : Below w.heap.size w ((w.alloc (.cells #[.int .i64 P, .int .i64 T, .int .i64 G] 23)).alloc (.cells #[.int .i64 n, .int .i64 f] 40)) := ((Below.refl _ _).alloc (Nat.le_refl _) _).alloc (by simp) _
  have hB0 : Box ((w.alloc (.cells #[.int .i64 P, .int .i64 T, .int .i64 G] 23)).alloc (.cells #[.int .i64 n, .int .i64 f] 40)) w.heap.size P T G := ⟨(heap_al _ (by simp) _).trans (heap_alloc_new _ _)⟩
  go_enter Try.func5, Try.ntmps5
  go_wp2_with fail
  go_quiet (fail)
  generalize hX : (((w.alloc (.cells #[.int .i64 P, .int .i64 T, .int .i64 G] 23)).alloc (.cells #[.int .i64 n, .int .i64 f] 40)).drewN nq) = X
  have hbX : Below w.heap.size w X := by rw [← hX]; exact below_drewN hb0 nq
  have hBX : Box X w.heap.size P T G := by rw [← hX]; exact ⟨hB0.h⟩
  clear hX hb0 hB0
  obtain ⟨c0, c1, c2⟩ := hBX.cells
  go_wp2_with fail
  go_at_call 10; refine (of_ok P T G _ h).mono ?_; rintro e w1 ⟨c, rfl, hL1, hc, h1⟩
  have HL1 : Hid (Lay w1 c P T G) := hL1
  clear hL1 c0 c1 c2
  go_wp2_with fail
  go_at_call 21; refine (proc_nil n f _).mono ?_; rintro e w2 ⟨rfl, h2⟩
  have k2 := h2
  have h2 := seq h1 h2
  go_wp2_with fail
  go_at_call 22; refine (ring_nil n i _ hi).mono ?_; rintro e w3 ⟨rfl, h3⟩
  have k3 := seq k2 h3
  have h3 := seq h2 h3
  go_wp2_with fail
  go_at_call 23; refine (thread_nil n f _).mono ?_; rintro e w4 ⟨rfl, h4⟩
  have k4 := seq k3 h4
  have h4 := seq h3 h4
  go_wp2_with fail
  go_at_call 24; refine (g_nil n f _).mono ?_; rintro e w5 ⟨rfl, h5⟩
  have k5 := seq k4 h5
  have h5 := seq h4 h5
  go_wp2_with fail
  go_at_call 25; refine (lword_nil f _).mono ?_; rintro e w6 ⟨rfl, rfl⟩
  go_wp2_with fail
  go_at_call 26; refine (ticket_nil n _).mono ?_; rintro e w7 ⟨rfl, h7⟩
  have k7 := seq k5 h7
  have h7 := seq h5 h7
  have hB7 := hBX.below h7
  obtain ⟨c0, c1, c2⟩ := hB7.cells
  go_wp2_with fail
  go_at_call 11; refine (HR.out _).mono ?_; rintro e w8 ⟨rfl, h8⟩
  have hB8 := hB7.below h8
  have k8 := seq k7 h8
  have hL8 : Lay w8 c P T G := Lay.below HL1.out k8 (Lay.lt HL1.out)
  have h8 := hbX.trans ((seq h7 h8).mono hbX.size)
  clear h1 h2 h3 h4 h5 h7 k2 k3 k4 k5 k7 k8 hB7 hBX hbX c0 c1 c2 HL1
  obtain ⟨c0, c1, c2⟩ := hB8.cells
  go_wp2_with fail
  clear c0 c1 c2
  go_at_call 22; refine (ring_any _ P T G n i _ (.some c hL8) (by omega) hi).mono ?_; rw [if_neg (by omega)]; rintro e w10 ⟨rfl, h10⟩
  have hL10 := hL8.below h10 hL8.lt
  have hB10 := hB8.below h10
  have h10 := h8.trans (h10.mono h8.size)
  clear h8 hL8 hB8
  go_wp2_with fail
  all_goals
    go_at_call 12; refine (awakeL_any _).mono ?_; rintro e w11 ⟨rfl, h11⟩
    have hL11 := hL10.below h11 hL10.lt
    have h11 := h10.trans (h11.mono h10.size)
    go_wp2_with fail
    go_at_call 21; refine (proc_any _ P T G n f _ (.some c hL11) (by omega)).mono ?_; rw [v1]; rintro e w12 ⟨rfl, h12⟩
    have hL12 := hL11.below h12 hL11.lt
    have h12 := h11.trans (h12.mono h11.size)
    go_wp2_with fail
    go_at_call 23; refine (thread_any _ P T G n f _ (.some c hL12) (by omega) (by omega)).mono ?_; rw [v2]; rintro e w13 ⟨rfl, h13⟩
    have hL13 := hL12.below h13 hL12.lt
    have h13 := h12.trans (h13.mono h12.size)
    go_wp2_with fail
    go_at_call 24; refine (g_any _ P T G n f _ (.some c hL13) (by omega) (by omega) (by omega)).mono ?_; rw [v3]; rintro e w14 ⟨rfl, h14⟩
    have h14 := h13.trans (h14.mono h13.size)
    go_wp2_with fail
    go_ret
    exact ⟨rfl, h14⟩
set_option maxHeartbeats 8000000 in
set_option maxRecDepth 100000 in
theorem layoutOne_far_b (P T G n f i : Int) (w : World) (bn : -9223372036854775808 ≤ n ∧ n ≤ 9223372036854775807) (bf : -9223372036854775808 ≤ f ∧ f ≤ 9223372036854775807) (hi : 0 ≤ i ∧ i ≤ 18446744073709551615) (h : May P T G) (hp : 0 ≤ n ∧ P ≤ n) (hx : f < 0 ∨ 70000 < n ∨ 70000 < f) : Calls Try.prog 5 #[.agg #[.int .i64 P, .int .i64 T, .int .i64 G], .agg #[.int .i64 n, .int .i64 f], .int .u64 i] w fun e w' => e = .returned (.bool true) ∧ Below w.heap.size w w' := by
  obtain ⟨hm⟩ := id h
  have hR := refRight_any P T G
  rw [decide_eq_true h] at hR
  have HR : Hid _ := hR
  clear hR
  have v1 : wd 20 P 8 n f - 0 + (if 0 ≤ n ∧ n < P ∧ 0 ≤ f ∧ f < 8 then n * 256 else 0) = -1 := by unfold wd; rw [if_neg (by omega), if_neg (by omega)]; rfl
  have v2 : wd (20 + P * 264) T 3 n f = -1 := by unfold wd; rw [if_neg (by omega)]
  have v3 : wd (20 + P * 264 + T * 3) G 2 n f = -1 := by unfold wd; rw [if_neg (by omega)]
  have hb0 : Below w.heap.size w ((w.alloc (.cells #[.int .i64 P, .int .i64 T, .int .i64 G] 23)).alloc (.cells #[.int .i64 n, .int .i64 f] 40)) := ((Below.refl _ _).alloc (Nat.le_refl _) _).alloc (by simp) _
  have hB0 : Box ((w.alloc (.cells #[.int .i64 P, .int .i64 T, .int .i64 G] 23)).alloc (.cells #[.int .i64 n, .int .i64 f] 40)) w.heap.size P T G := ⟨(heap_al _ (by simp) _).trans (heap_alloc_new _ _)⟩
  go_enter Try.func5, Try.ntmps5
  go_wp2_with fail
  go_quiet (fail)
  generalize hX : (((w.alloc (.cells #[.int .i64 P, .int .i64 T, .int .i64 G] 23)).alloc (.cells #[.int .i64 n, .int .i64 f] 40)).drewN nq) = X
  have hbX : Below w.heap.size w X := by rw [← hX]; exact below_drewN hb0 nq
  have hBX : Box X w.heap.size P T G := by rw [← hX]; exact ⟨hB0.h⟩
  clear hX hb0 hB0
  obtain ⟨c0, c1, c2⟩ := hBX.cells
  go_wp2_with fail
  go_at_call 10; refine (of_ok P T G _ h).mono ?_; rintro e w1 ⟨c, rfl, hL1, hc, h1⟩
  have HL1 : Hid (Lay w1 c P T G) := hL1
  clear hL1 c0 c1 c2
  go_wp2_with fail
  go_at_call 21; refine (proc_nil n f _).mono ?_; rintro e w2 ⟨rfl, h2⟩
  have k2 := h2
  have h2 := seq h1 h2
  go_wp2_with fail
  go_at_call 22; refine (ring_nil n i _ hi).mono ?_; rintro e w3 ⟨rfl, h3⟩
  have k3 := seq k2 h3
  have h3 := seq h2 h3
  go_wp2_with fail
  go_at_call 23; refine (thread_nil n f _).mono ?_; rintro e w4 ⟨rfl, h4⟩
  have k4 := seq k3 h4
  have h4 := seq h3 h4
  go_wp2_with fail
  go_at_call 24; refine (g_nil n f _).mono ?_; rintro e w5 ⟨rfl, h5⟩
  have k5 := seq k4 h5
  have h5 := seq h4 h5
  go_wp2_with fail
  go_at_call 25; refine (lword_nil f _).mono ?_; rintro e w6 ⟨rfl, rfl⟩
  go_wp2_with fail
  go_at_call 26; refine (ticket_nil n _).mono ?_; rintro e w7 ⟨rfl, h7⟩
  have k7 := seq k5 h7
  have h7 := seq h5 h7
  have hB7 := hBX.below h7
  obtain ⟨c0, c1, c2⟩ := hB7.cells
  go_wp2_with fail
  go_at_call 11; refine (HR.out _).mono ?_; rintro e w8 ⟨rfl, h8⟩
  have hB8 := hB7.below h8
  have k8 := seq k7 h8
  have hL8 : Lay w8 c P T G := Lay.below HL1.out k8 (Lay.lt HL1.out)
  have h8 := hbX.trans ((seq h7 h8).mono hbX.size)
  clear h1 h2 h3 h4 h5 h7 k2 k3 k4 k5 k7 k8 hB7 hBX hbX c0 c1 c2 HL1
  obtain ⟨c0, c1, c2⟩ := hB8.cells
  go_wp2_with fail
  clear c0 c1 c2
  go_at_call 22; refine (ring_any _ P T G n i _ (.some c hL8) (by omega) hi).mono ?_; rw [if_neg (by omega)]; rintro e w10 ⟨rfl, h10⟩
  have hL10 := hL8.below h10 hL8.lt
  have hB10 := hB8.below h10
  have h10 := h8.trans (h10.mono h8.size)
  clear h8 hL8 hB8
  go_wp2_with fail
  all_goals
    go_at_call 12; refine (awakeL_any _).mono ?_; rintro e w11 ⟨rfl, h11⟩
    have hL11 := hL10.below h11 hL10.lt
    have h11 := h10.trans (h11.mono h10.size)
    go_wp2_with fail
    go_at_call 21; refine (proc_any _ P T G n f _ (.some c hL11) (by omega)).mono ?_; rw [v1]; rintro e w12 ⟨rfl, h12⟩
    have hL12 := hL11.below h12 hL11.lt
    have h12 := h11.trans (h12.mono h11.size)
    go_wp2_with fail
    go_at_call 23; refine (thread_any _ P T G n f _ (.some c hL12) (by omega) (by omega)).mono ?_; rw [v2]; rintro e w13 ⟨rfl, h13⟩
    have hL13 := hL12.below h13 hL12.lt
    have h13 := h12.trans (h13.mono h12.size)
    go_wp2_with fail
    go_at_call 24; refine (g_any _ P T G n f _ (.some c hL13) (by omega) (by omega) (by omega)).mono ?_; rw [v3]; rintro e w14 ⟨rfl, h14⟩
    have h14 := h13.trans (h14.mono h13.size)
    go_wp2_with fail
    go_ret
    exact ⟨rfl, h14⟩
set_option maxHeartbeats 8000000 in
set_option maxRecDepth 100000 in
theorem layoutOne_far_c (P T G n f i : Int) (w : World) (bn : -9223372036854775808 ≤ n ∧ n ≤ 9223372036854775807) (bf : -9223372036854775808 ≤ f ∧ f ≤ 9223372036854775807) (hi : 0 ≤ i ∧ i ≤ 18446744073709551615) (h : May P T G) (hp : 0 ≤ n ∧ n < P) (hx : f < 0 ∨ 70000 < f) : Calls Try.prog 5 #[.agg #[.int .i64 P, .int .i64 T, .int .i64 G], .agg #[.int .i64 n, .int .i64 f], .int .u64 i] w fun e w' => e = .returned (.bool true) ∧ Below w.heap.size w w' := by
  obtain ⟨hm⟩ := id h
  have hR := refRight_any P T G
  rw [decide_eq_true h] at hR
  have HR : Hid _ := hR
  clear hR
  have v1 : wd 20 P 8 n f - 0 + (if 0 ≤ n ∧ n < P ∧ 0 ≤ f ∧ f < 8 then n * 256 else 0) = -1 := by unfold wd; rw [if_neg (by omega), if_neg (by omega)]; rfl
  have v2 : wd (20 + P * 264) T 3 n f = -1 := by unfold wd; rw [if_neg (by omega)]
  have v3 : wd (20 + P * 264 + T * 3) G 2 n f = -1 := by unfold wd; rw [if_neg (by omega)]
  have hb0 : Below w.heap.size w ((w.alloc (.cells #[.int .i64 P, .int .i64 T, .int .i64 G] 23)).alloc (.cells #[.int .i64 n, .int .i64 f] 40)) := ((Below.refl _ _).alloc (Nat.le_refl _) _).alloc (by simp) _
  have hB0 : Box ((w.alloc (.cells #[.int .i64 P, .int .i64 T, .int .i64 G] 23)).alloc (.cells #[.int .i64 n, .int .i64 f] 40)) w.heap.size P T G := ⟨(heap_al _ (by simp) _).trans (heap_alloc_new _ _)⟩
  go_enter Try.func5, Try.ntmps5
  go_wp2_with fail
  go_quiet (fail)
  generalize hX : (((w.alloc (.cells #[.int .i64 P, .int .i64 T, .int .i64 G] 23)).alloc (.cells #[.int .i64 n, .int .i64 f] 40)).drewN nq) = X
  have hbX : Below w.heap.size w X := by rw [← hX]; exact below_drewN hb0 nq
  have hBX : Box X w.heap.size P T G := by rw [← hX]; exact ⟨hB0.h⟩
  clear hX hb0 hB0
  obtain ⟨c0, c1, c2⟩ := hBX.cells
  go_wp2_with fail
  go_at_call 10; refine (of_ok P T G _ h).mono ?_; rintro e w1 ⟨c, rfl, hL1, hc, h1⟩
  have HL1 : Hid (Lay w1 c P T G) := hL1
  clear hL1 c0 c1 c2
  go_wp2_with fail
  go_at_call 21; refine (proc_nil n f _).mono ?_; rintro e w2 ⟨rfl, h2⟩
  have k2 := h2
  have h2 := seq h1 h2
  go_wp2_with fail
  go_at_call 22; refine (ring_nil n i _ hi).mono ?_; rintro e w3 ⟨rfl, h3⟩
  have k3 := seq k2 h3
  have h3 := seq h2 h3
  go_wp2_with fail
  go_at_call 23; refine (thread_nil n f _).mono ?_; rintro e w4 ⟨rfl, h4⟩
  have k4 := seq k3 h4
  have h4 := seq h3 h4
  go_wp2_with fail
  go_at_call 24; refine (g_nil n f _).mono ?_; rintro e w5 ⟨rfl, h5⟩
  have k5 := seq k4 h5
  have h5 := seq h4 h5
  go_wp2_with fail
  go_at_call 25; refine (lword_nil f _).mono ?_; rintro e w6 ⟨rfl, rfl⟩
  go_wp2_with fail
  go_at_call 26; refine (ticket_nil n _).mono ?_; rintro e w7 ⟨rfl, h7⟩
  have k7 := seq k5 h7
  have h7 := seq h5 h7
  have hB7 := hBX.below h7
  obtain ⟨c0, c1, c2⟩ := hB7.cells
  go_wp2_with fail
  go_at_call 11; refine (HR.out _).mono ?_; rintro e w8 ⟨rfl, h8⟩
  have hB8 := hB7.below h8
  have k8 := seq k7 h8
  have hL8 : Lay w8 c P T G := Lay.below HL1.out k8 (Lay.lt HL1.out)
  have h8 := hbX.trans ((seq h7 h8).mono hbX.size)
  clear h1 h2 h3 h4 h5 h7 k2 k3 k4 k5 k7 k8 hB7 hBX hbX c0 c1 c2 HL1
  obtain ⟨c0, c1, c2⟩ := hB8.cells
  go_wp2_with fail
  go_at_call 27; refine (refRing_any n i _ (by omega) hi).mono ?_; rintro e w9 ⟨rfl, rfl⟩
  clear c0 c1 c2
  go_wp2_with fail
  go_at_call 22; refine (ring_any _ P T G n i _ (.some c hL8) (by omega) hi).mono ?_; rw [if_pos (by omega)]; rintro e w10 ⟨rfl, h10⟩
  have hL10 := hL8.below h10 hL8.lt
  have hB10 := hB8.below h10
  have h10 := h8.trans (h10.mono h8.size)
  clear h8 hL8 hB8
  go_wp2_with fail
  all_goals
    go_at_call 12; refine (awakeL_any _).mono ?_; rintro e w11 ⟨rfl, h11⟩
    have hL11 := hL10.below h11 hL10.lt
    have h11 := h10.trans (h11.mono h10.size)
    go_wp2_with fail
    go_at_call 21; refine (proc_any _ P T G n f _ (.some c hL11) (by omega)).mono ?_; rw [v1]; rintro e w12 ⟨rfl, h12⟩
    have hL12 := hL11.below h12 hL11.lt
    have h12 := h11.trans (h12.mono h11.size)
    go_wp2_with fail
    go_at_call 23; refine (thread_any _ P T G n f _ (.some c hL12) (by omega) (by omega)).mono ?_; rw [v2]; rintro e w13 ⟨rfl, h13⟩
    have hL13 := hL12.below h13 hL12.lt
    have h13 := h12.trans (h13.mono h12.size)
    go_wp2_with fail
    go_at_call 24; refine (g_any _ P T G n f _ (.some c hL13) (by omega) (by omega) (by omega)).mono ?_; rw [v3]; rintro e w14 ⟨rfl, h14⟩
    have h14 := h13.trans (h14.mono h13.size)
    go_wp2_with fail
    go_ret
    exact ⟨rfl, h14⟩
end Go.Proofs.Ytmkmpphfieckoaa
