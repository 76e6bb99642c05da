/- The law's at: the word that a name has. -/
import Derived.Test.YtmkmpphfieckoaaAll1
namespace Go.Proofs.Ytmkmpphfieckoaa
open Go Go.RowKit
set_option linter.unusedVariables false
set_option linter.unusedSimpArgs false

set_option maxHeartbeats 2000000 in
set_option maxRecDepth 100000 in
theorem at_ticket (c : Nat) (P T G i : Int) (w : World) (hL : Lay w c P T G) (hm : May P T G) (h : 0 ≤ i ∧ i < 6) (hf : i % 3 = 0) : Calls Try.prog 20 #[.pointer (some ⟨c, 0, none⟩), .agg #[.int .i64 1, .int .i64 (i / 3), .int .i64 0]] w fun e w' => e = .returned (.int .i64 i) ∧ Below w.heap.size w w' := by
  obtain ⟨hp⟩ := id hm
  have hb : Below w.heap.size w (w.alloc (.cells #[.int .i64 1, .int .i64 (i / 3), .int .i64 0] 39)) := (Below.refl _ _).alloc (Nat.le_refl _) _
  have HL : Hid (LayO (w.alloc (.cells #[.int .i64 1, .int .i64 (i / 3), .int .i64 0] 39)) P T G (some ⟨c, 0, none⟩)) := .some c (hL.below hb hL.lt)
  clear hL
  have hv : wd 0 2 3 (i / 3) 0 = i := by unfold wd; rw [if_pos (by omega)]; omega
  go_enter Try.func20, Try.ntmps20
  go_wp2_with fail
  go_at_call 26; refine (ticket_some c (i / 3) _).mono ?_; rw [hv]; rintro e w1 ⟨rfl, h1⟩
  go_wp2_with fail
  go_ret
  exact ⟨rfl, hb.trans (h1.mono hb.size)⟩

set_option maxHeartbeats 2000000 in
set_option maxRecDepth 100000 in
theorem at_serving (c : Nat) (P T G i : Int) (w : World) (hL : Lay w c P T G) (hm : May P T G) (h : 0 ≤ i ∧ i < 6) (hf : i % 3 = 1) : Calls Try.prog 20 #[.pointer (some ⟨c, 0, none⟩), .agg #[.int .i64 1, .int .i64 (i / 3), .int .i64 1]] w fun e w' => e = .returned (.int .i64 i) ∧ Below w.heap.size w w' := by
  obtain ⟨hp⟩ := id hm
  have hb : Below w.heap.size w (w.alloc (.cells #[.int .i64 1, .int .i64 (i / 3), .int .i64 1] 39)) := (Below.refl _ _).alloc (Nat.le_refl _) _
  have HL : Hid (LayO (w.alloc (.cells #[.int .i64 1, .int .i64 (i / 3), .int .i64 1] 39)) P T G (some ⟨c, 0, none⟩)) := .some c (hL.below hb hL.lt)
  clear hL
  have hv : wd 0 2 3 (i / 3) 1 = i := by unfold wd; rw [if_pos (by omega)]; omega
  go_enter Try.func20, Try.ntmps20
  go_wp2_with fail
  go_at_call 29; refine (serving_some c (i / 3) _).mono ?_; rw [hv]; rintro e w1 ⟨rfl, h1⟩
  go_wp2_with fail
  go_ret
  exact ⟨rfl, hb.trans (h1.mono hb.size)⟩

set_option maxHeartbeats 2000000 in
set_option maxRecDepth 100000 in
theorem at_owner (c : Nat) (P T G i : Int) (w : World) (hL : Lay w c P T G) (hm : May P T G) (h : 0 ≤ i ∧ i < 6) (hf : i % 3 = 2) : Calls Try.prog 20 #[.pointer (some ⟨c, 0, none⟩), .agg #[.int .i64 1, .int .i64 (i / 3), .int .i64 2]] w fun e w' => e = .returned (.int .i64 i) ∧ Below w.heap.size w w' := by
  obtain ⟨hp⟩ := id hm
  have hb : Below w.heap.size w (w.alloc (.cells #[.int .i64 1, .int .i64 (i / 3), .int .i64 2] 39)) := (Below.refl _ _).alloc (Nat.le_refl _) _
  have HL : Hid (LayO (w.alloc (.cells #[.int .i64 1, .int .i64 (i / 3), .int .i64 2] 39)) P T G (some ⟨c, 0, none⟩)) := .some c (hL.below hb hL.lt)
  clear hL
  have hv : wd 0 2 3 (i / 3) 2 = i := by unfold wd; rw [if_pos (by omega)]; omega
  go_enter Try.func20, Try.ntmps20
  go_wp2_with fail
  go_at_call 30; refine (owner_some c (i / 3) _).mono ?_; rw [hv]; rintro e w1 ⟨rfl, h1⟩
  go_wp2_with fail
  go_ret
  exact ⟨rfl, hb.trans (h1.mono hb.size)⟩

set_option maxHeartbeats 2000000 in
set_option maxRecDepth 100000 in
theorem at_word (c : Nat) (P T G i : Int) (w : World) (hL : Lay w c P T G) (hm : May P T G) (h : 6 ≤ i ∧ i < 20) : Calls Try.prog 20 #[.pointer (some ⟨c, 0, none⟩), .agg #[.int .i64 2, .int .i64 0, .int .i64 i]] w fun e w' => e = .returned (.int .i64 i) ∧ Below w.heap.size w w' := by
  obtain ⟨hp⟩ := id hm
  have hb : Below w.heap.size w (w.alloc (.cells #[.int .i64 2, .int .i64 0, .int .i64 i] 39)) := (Below.refl _ _).alloc (Nat.le_refl _) _
  have HL : Hid (LayO (w.alloc (.cells #[.int .i64 2, .int .i64 0, .int .i64 i] 39)) P T G (some ⟨c, 0, none⟩)) := .some c (hL.below hb hL.lt)
  clear hL
  have hv : (if 6 ≤ i ∧ i ≤ 19 then i else -1) = i := by rw [if_pos (by omega)]
  go_enter Try.func20, Try.ntmps20
  go_wp2_with fail
  go_at_call 25; refine (lword_some c i _).mono ?_; rw [hv]; rintro e w1 ⟨rfl, h1⟩
  go_wp2_with fail
  go_ret
  exact ⟨rfl, by rw [← h1]; exact hb⟩

set_option maxHeartbeats 2000000 in
set_option maxRecDepth 100000 in
theorem at_proc (c : Nat) (P T G i : Int) (w : World) (hL : Lay w c P T G) (hm : May P T G) (h : 20 ≤ i ∧ i < 20 + P * 264) (hf : (i - 20) % 264 < 8) : Calls Try.prog 20 #[.pointer (some ⟨c, 0, none⟩), .agg #[.int .i64 3, .int .i64 ((i - 20) / 264), .int .i64 ((i - 20) % 264)]] w fun e w' => e = .returned (.int .i64 i) ∧ Below w.heap.size w w' := by
  obtain ⟨hp⟩ := id hm
  have hb : Below w.heap.size w (w.alloc (.cells #[.int .i64 3, .int .i64 ((i - 20) / 264), .int .i64 ((i - 20) % 264)] 39)) := (Below.refl _ _).alloc (Nat.le_refl _) _
  have HL : Hid (LayO (w.alloc (.cells #[.int .i64 3, .int .i64 ((i - 20) / 264), .int .i64 ((i - 20) % 264)] 39)) P T G (some ⟨c, 0, none⟩)) := .some c (hL.below hb hL.lt)
  clear hL
  have hv : wd 20 P 8 ((i - 20) / 264) ((i - 20) % 264) - 0 + (if 0 ≤ (i - 20) / 264 ∧ (i - 20) / 264 < P ∧ 0 ≤ (i - 20) % 264 ∧ (i - 20) % 264 < 8 then (i - 20) / 264 * 256 else 0) = i := by unfold wd; rw [if_pos (by omega), if_pos (by omega)]; omega
  go_enter Try.func20, Try.ntmps20
  go_wp2_with fail
  go_at_call 21; refine (proc_any _ P T G ((i - 20) / 264) ((i - 20) % 264) _ HL.out (by omega)).mono ?_; rw [hv]; rintro e w1 ⟨rfl, h1⟩
  go_wp2_with fail
  go_ret
  exact ⟨rfl, hb.trans (h1.mono hb.size)⟩

set_option maxHeartbeats 2000000 in
set_option maxRecDepth 100000 in
theorem at_ring (c : Nat) (P T G i : Int) (w : World) (hL : Lay w c P T G) (hm : May P T G) (h : 20 ≤ i ∧ i < 20 + P * 264) (hf : ¬ (i - 20) % 264 < 8) : Calls Try.prog 20 #[.pointer (some ⟨c, 0, none⟩), .agg #[.int .i64 4, .int .i64 ((i - 20) / 264), .int .i64 ((i - 20) % 264 - 8)]] w fun e w' => e = .returned (.int .i64 i) ∧ Below w.heap.size w w' := by
  obtain ⟨hp⟩ := id hm
  have hb : Below w.heap.size w (w.alloc (.cells #[.int .i64 4, .int .i64 ((i - 20) / 264), .int .i64 ((i - 20) % 264 - 8)] 39)) := (Below.refl _ _).alloc (Nat.le_refl _) _
  have HL : Hid (LayO (w.alloc (.cells #[.int .i64 4, .int .i64 ((i - 20) / 264), .int .i64 ((i - 20) % 264 - 8)] 39)) P T G (some ⟨c, 0, none⟩)) := .some c (hL.below hb hL.lt)
  clear hL
  have hw : IntKind.u64.wrap ((i - 20) % 264 - 8) = (i - 20) % 264 - 8 := by rw [IntWalk.u64_in _ (by omega)]
  have hv : (if 0 ≤ (i - 20) / 264 ∧ (i - 20) / 264 < P then 28 + (i - 20) / 264 * 264 + ((i - 20) % 264 - 8) % 256 else -1) = i := by rw [if_pos (by omega)]; omega
  go_enter Try.func20, Try.ntmps20
  go_wp2_with fail
  go_at_call 22; refine (ring_any _ P T G ((i - 20) / 264) ((i - 20) % 264 - 8) _ HL.out (by omega) (by omega)).mono ?_; rw [hv]; rintro e w1 ⟨rfl, h1⟩
  go_wp2_with fail
  go_ret
  exact ⟨rfl, hb.trans (h1.mono hb.size)⟩

set_option maxHeartbeats 2000000 in
set_option maxRecDepth 100000 in
theorem at_thread (c : Nat) (P T G i : Int) (w : World) (hL : Lay w c P T G) (hm : May P T G) (h : 20 + P * 264 ≤ i ∧ i < 20 + P * 264 + T * 3) : Calls Try.prog 20 #[.pointer (some ⟨c, 0, none⟩), .agg #[.int .i64 5, .int .i64 ((i - (20 + P * 264)) / 3), .int .i64 ((i - (20 + P * 264)) % 3)]] w fun e w' => e = .returned (.int .i64 i) ∧ Below w.heap.size w w' := by
  obtain ⟨hp⟩ := id hm
  have hb : Below w.heap.size w (w.alloc (.cells #[.int .i64 5, .int .i64 ((i - (20 + P * 264)) / 3), .int .i64 ((i - (20 + P * 264)) % 3)] 39)) := (Below.refl _ _).alloc (Nat.le_refl _) _
  have HL : Hid (LayO (w.alloc (.cells #[.int .i64 5, .int .i64 ((i - (20 + P * 264)) / 3), .int .i64 ((i - (20 + P * 264)) % 3)] 39)) P T G (some ⟨c, 0, none⟩)) := .some c (hL.below hb hL.lt)
  clear hL
  have hv : wd (20 + P * 264) T 3 ((i - (20 + P * 264)) / 3) ((i - (20 + P * 264)) % 3) = i := by unfold wd; rw [if_pos (by omega)]; omega
  go_enter Try.func20, Try.ntmps20
  go_wp2_with fail
  go_at_call 23; refine (thread_any _ P T G ((i - (20 + P * 264)) / 3) ((i - (20 + P * 264)) % 3) _ HL.out (by omega) (by omega)).mono ?_; rw [hv]; rintro e w1 ⟨rfl, h1⟩
  go_wp2_with fail
  go_ret
  exact ⟨rfl, hb.trans (h1.mono hb.size)⟩

set_option maxHeartbeats 2000000 in
set_option maxRecDepth 100000 in
theorem at_g (c : Nat) (P T G i : Int) (w : World) (hL : Lay w c P T G) (hm : May P T G) (h : 20 + P * 264 + T * 3 ≤ i ∧ i < 20 + P * 264 + T * 3 + G * 2) : Calls Try.prog 20 #[.pointer (some ⟨c, 0, none⟩), .agg #[.int .i64 6, .int .i64 ((i - (20 + P * 264 + T * 3)) / 2), .int .i64 ((i - (20 + P * 264 + T * 3)) % 2)]] w fun e w' => e = .returned (.int .i64 i) ∧ Below w.heap.size w w' := by
  obtain ⟨hp⟩ := id hm
  have hb : Below w.heap.size w (w.alloc (.cells #[.int .i64 6, .int .i64 ((i - (20 + P * 264 + T * 3)) / 2), .int .i64 ((i - (20 + P * 264 + T * 3)) % 2)] 39)) := (Below.refl _ _).alloc (Nat.le_refl _) _
  have HL : Hid (LayO (w.alloc (.cells #[.int .i64 6, .int .i64 ((i - (20 + P * 264 + T * 3)) / 2), .int .i64 ((i - (20 + P * 264 + T * 3)) % 2)] 39)) P T G (some ⟨c, 0, none⟩)) := .some c (hL.below hb hL.lt)
  clear hL
  have hv : wd (20 + P * 264 + T * 3) G 2 ((i - (20 + P * 264 + T * 3)) / 2) ((i - (20 + P * 264 + T * 3)) % 2) = i := by unfold wd; rw [if_pos (by omega)]; omega
  go_enter Try.func20, Try.ntmps20
  go_wp2_with fail
  go_at_call 24; refine (g_any _ P T G ((i - (20 + P * 264 + T * 3)) / 2) ((i - (20 + P * 264 + T * 3)) % 2) _ HL.out (by omega) (by omega) (by omega)).mono ?_; rw [hv]; rintro e w1 ⟨rfl, h1⟩
  go_wp2_with fail
  go_ret
  exact ⟨rfl, hb.trans (h1.mono hb.size)⟩

theorem atN (c : Nat) (P T G i : Int) (w : World) (hL : Lay w c P T G) (hm : May P T G) (h : 0 ≤ i ∧ i < 20 + P * 264 + T * 3 + G * 2) : Calls Try.prog 20 #[.pointer (some ⟨c, 0, none⟩), .agg #[.int .i64 (nA P T i), .int .i64 (nN P T i), .int .i64 (nF P T i)]] w fun e w' => e = .returned (.int .i64 i) ∧ Below w.heap.size w w' := by
  obtain ⟨hp⟩ := id hm
  by_cases h1 : i < 6
  · obtain ⟨a, b, d⟩ := kind_lock (P := P) (T := T) h1
    rw [a, b, d]
    by_cases f0 : i % 3 = 0
    · rw [f0]; exact at_ticket c P T G i w hL hm ⟨h.1, h1⟩ f0
    · by_cases f1 : i % 3 = 1
      · rw [f1]; exact at_serving c P T G i w hL hm ⟨h.1, h1⟩ f1
      · have f2 : i % 3 = 2 := by omega
        rw [f2]; exact at_owner c P T G i w hL hm ⟨h.1, h1⟩ f2
  · by_cases h2 : i < 20
    · obtain ⟨a, b, d⟩ := kind_word (P := P) (T := T) (i := i) ⟨by omega, h2⟩
      rw [a, b, d]; exact at_word c P T G i w hL hm ⟨by omega, h2⟩
    · by_cases h3 : i < 20 + P * 264
      · by_cases hf : (i - 20) % 264 < 8
        · obtain ⟨a, b, d⟩ := kind_proc (P := P) (T := T) (i := i) ⟨by omega, h3⟩ hf
          rw [a, b, d]; exact at_proc c P T G i w hL hm ⟨by omega, h3⟩ hf
        · obtain ⟨a, b, d⟩ := kind_ring (P := P) (T := T) (i := i) ⟨by omega, h3⟩ hf
          rw [a, b, d]; exact at_ring c P T G i w hL hm ⟨by omega, h3⟩ hf
      · by_cases h4 : i < 20 + P * 264 + T * 3
        · obtain ⟨a, b, d⟩ := kind_thread (P := P) (T := T) (i := i) (by omega) ⟨by omega, h4⟩
          rw [a, b, d]; exact at_thread c P T G i w hL hm ⟨by omega, h4⟩
        · obtain ⟨a, b, d⟩ := kind_g (P := P) (T := T) (i := i) (by omega) (by omega) (by omega)
          rw [a, b, d]; exact at_g c P T G i w hL hm ⟨by omega, h.2⟩
end Go.Proofs.Ytmkmpphfieckoaa
