/- What each word is: the contracts of Which, and of the law's at. -/
import Derived.Test.YtmkmpphfieckoaaLay3
namespace Go.Proofs.Ytmkmpphfieckoaa
open Go Go.RowKit
set_option linter.unusedVariables false
set_option linter.unusedSimpArgs false

/-- What word i is: its area, whose, which field. -/
def nA (P T i : Int) : Int := if i < 6 then 1 else if i < 20 then 2 else if i < 20 + P * 264 then (if (i - 20) % 264 < 8 then 3 else 4) else if i < 20 + P * 264 + T * 3 then 5 else 6
def nN (P T i : Int) : Int := if i < 6 then i / 3 else if i < 20 then 0 else if i < 20 + P * 264 then (i - 20) / 264 else if i < 20 + P * 264 + T * 3 then (i - (20 + P * 264)) / 3 else (i - (20 + P * 264 + T * 3)) / 2
def nF (P T i : Int) : Int := if i < 6 then i % 3 else if i < 20 then i else if i < 20 + P * 264 then (if (i - 20) % 264 < 8 then (i - 20) % 264 else (i - 20) % 264 - 8) else if i < 20 + P * 264 + T * 3 then (i - (20 + P * 264)) % 3 else (i - (20 + P * 264 + T * 3)) % 2

theorem kind_lock {P T i : Int} (h : i < 6) : nA P T i = 1 ∧ nN P T i = i / 3 ∧ nF P T i = i % 3 := by
  unfold nA nN nF
  rw [if_pos h, if_pos h, if_pos h]
  exact ⟨rfl, rfl, rfl⟩
theorem kind_word {P T i : Int} (h : 6 ≤ i ∧ i < 20) : nA P T i = 2 ∧ nN P T i = 0 ∧ nF P T i = i := by
  unfold nA nN nF
  rw [if_neg (by omega), if_pos h.2, if_neg (by omega), if_pos h.2, if_neg (by omega), if_pos h.2]
  exact ⟨rfl, rfl, rfl⟩
theorem kind_proc {P T i : Int} (h : 20 ≤ i ∧ i < 20 + P * 264) (hf : (i - 20) % 264 < 8) : nA P T i = 3 ∧ nN P T i = (i - 20) / 264 ∧ nF P T i = (i - 20) % 264 := by
  unfold nA nN nF
  rw [if_neg (by omega), if_neg (by omega), if_pos h.2, if_pos hf, if_neg (by omega), if_neg (by omega), if_pos h.2, if_neg (by omega), if_neg (by omega), if_pos h.2, if_pos hf]
  exact ⟨rfl, rfl, rfl⟩
theorem kind_ring {P T i : Int} (h : 20 ≤ i ∧ i < 20 + P * 264) (hf : ¬ (i - 20) % 264 < 8) : nA P T i = 4 ∧ nN P T i = (i - 20) / 264 ∧ nF P T i = (i - 20) % 264 - 8 := by
  unfold nA nN nF
  rw [if_neg (by omega), if_neg (by omega), if_pos h.2, if_neg hf, if_neg (by omega), if_neg (by omega), if_pos h.2, if_neg (by omega), if_neg (by omega), if_pos h.2, if_neg hf]
  exact ⟨rfl, rfl, rfl⟩
theorem kind_thread {P T i : Int} (hp : 0 ≤ P) (h : 20 + P * 264 ≤ i ∧ i < 20 + P * 264 + T * 3) : nA P T i = 5 ∧ nN P T i = (i - (20 + P * 264)) / 3 ∧ nF P T i = (i - (20 + P * 264)) % 3 := by
  unfold nA nN nF
  rw [if_neg (by omega), if_neg (by omega), if_neg (by omega), if_pos h.2, if_neg (by omega), if_neg (by omega), if_neg (by omega), if_pos h.2, if_neg (by omega), if_neg (by omega), if_neg (by omega), if_pos h.2]
  exact ⟨rfl, rfl, rfl⟩
theorem kind_g {P T i : Int} (hp : 0 ≤ P) (ht : 0 ≤ T) (h : 20 + P * 264 + T * 3 ≤ i) : nA P T i = 6 ∧ nN P T i = (i - (20 + P * 264 + T * 3)) / 2 ∧ nF P T i = (i - (20 + P * 264 + T * 3)) % 2 := by
  unfold nA nN nF
  rw [if_neg (by omega), if_neg (by omega), if_neg (by omega), if_neg (by omega), if_neg (by omega), if_neg (by omega), if_neg (by omega), if_neg (by omega), if_neg (by omega), if_neg (by omega), if_neg (by omega), if_neg (by omega)]
  exact ⟨rfl, rfl, rfl⟩
theorem which_low (c : Nat) (P T G i : Int) (w : World) (h : i < 0) : Calls Try.prog 19 #[.pointer (some ⟨c, 0, none⟩), .int .i64 i] w fun e w' => e = .returned (.tuple #[.int .i64 0, .int .i64 0, .int .i64 0]) ∧ Below w.heap.size w w' := by
  go_enter Try.func19, Try.ntmps19
  go_wp2_with fail
  go_returns
  exact ⟨rfl, Below.refl _ _⟩
set_option maxHeartbeats 2000000 in
set_option maxRecDepth 100000 in
theorem which_high (c : Nat) (P T G i : Int) (w : World) (hL : Lay w c P T G) (hm : May P T G) (h : 0 ≤ i ∧ 20 + P * 264 + T * 3 + G * 2 ≤ i) : Calls Try.prog 19 #[.pointer (some ⟨c, 0, none⟩), .int .i64 i] w fun e w' => e = .returned (.tuple #[.int .i64 0, .int .i64 0, .int .i64 0]) ∧ Below w.heap.size w w' := by
  obtain ⟨hp⟩ := id hm
  obtain ⟨hi0, hi1⟩ := h
  have HL : Hid (∀ X, Below w.heap.size w X → LayO X P T G (some ⟨c, 0, none⟩)) := fun X hX => .some c (hL.below hX hL.lt)
  have hl := len_some c P T G w hL hm
  clear hL
  go_enter Try.func19, Try.ntmps19
  go_wp2_with fail
  go_at_call 14; refine hl.mono ?_; clear hl; rintro e w1 ⟨rfl, h1⟩
  go_wp2_with fail
  go_returns
  exact ⟨rfl, h1⟩
set_option maxHeartbeats 2000000 in
set_option maxRecDepth 100000 in
theorem which_lock (c : Nat) (P T G i : Int) (w : World) (hL : Lay w c P T G) (hm : May P T G) (h : 0 ≤ i ∧ i < 6) : Calls Try.prog 19 #[.pointer (some ⟨c, 0, none⟩), .int .i64 i] w fun e w' => e = .returned (.tuple #[.int .i64 1, .int .i64 (i / 3), .int .i64 (i % 3)]) ∧ Below w.heap.size w w' := by
  obtain ⟨hp⟩ := id hm
  obtain ⟨hi0, hi1⟩ := h
  have HL : Hid (∀ X, Below w.heap.size w X → LayO X P T G (some ⟨c, 0, none⟩)) := fun X hX => .some c (hL.below hX hL.lt)
  have hl := len_some c P T G w hL hm
  clear hL
  have hz : i - 0 = i := by omega
  go_enter Try.func19, Try.ntmps19
  go_wp2_with fail
  go_at_call 14; refine hl.mono ?_; clear hl; rintro e w1 ⟨rfl, h1⟩
  go_wp2_with fail
  go_at_call 48; refine (locks_some _ c).mono ?_; rintro e w2 ⟨rfl, k2⟩
  have h2 := h1.trans (k2.mono h1.size)
  go_wp2_with fail
  go_at_call 49; refine (which_any 0 2 3 i _ (by omega) (by omega) (by omega)).mono ?_; rw [hz]; rintro e w3 ⟨rfl, k3⟩
  have h3 := h2.trans (k3.mono h2.size)
  go_wp2_with fail
  go_returns
  exact ⟨rfl, h3⟩
set_option maxHeartbeats 2000000 in
set_option maxRecDepth 100000 in
theorem which_word (c : Nat) (P T G i : Int) (w : World) (hL : Lay w c P T G) (hm : May P T G) (h : 6 ≤ i ∧ i < 20) : Calls Try.prog 19 #[.pointer (some ⟨c, 0, none⟩), .int .i64 i] w fun e w' => e = .returned (.tuple #[.int .i64 2, .int .i64 0, .int .i64 i]) ∧ Below w.heap.size w w' := by
  obtain ⟨hp⟩ := id hm
  obtain ⟨hi0, hi1⟩ := h
  have HL : Hid (∀ X, Below w.heap.size w X → LayO X P T G (some ⟨c, 0, none⟩)) := fun X hX => .some c (hL.below hX hL.lt)
  have hl := len_some c P T G w hL hm
  clear hL
  go_enter Try.func19, Try.ntmps19
  go_wp2_with fail
  go_at_call 14; refine hl.mono ?_; clear hl; rintro e w1 ⟨rfl, h1⟩
  go_wp2_with fail
  go_returns
  exact ⟨rfl, h1⟩
set_option maxHeartbeats 2000000 in
set_option maxRecDepth 100000 in
theorem which_proc (c : Nat) (P T G i : Int) (w : World) (hL : Lay w c P T G) (hm : May P T G) (h : 20 ≤ i ∧ i < 20 + P * 264) (hf : (i - 20) % 264 < 8) : Calls Try.prog 19 #[.pointer (some ⟨c, 0, none⟩), .int .i64 i] w fun e w' => e = .returned (.tuple #[.int .i64 3, .int .i64 ((i - 20) / 264), .int .i64 ((i - 20) % 264)]) ∧ Below w.heap.size w w' := by
  obtain ⟨hp⟩ := id hm
  obtain ⟨hi0, hi1⟩ := h
  have HL : Hid (∀ X, Below w.heap.size w X → LayO X P T G (some ⟨c, 0, none⟩)) := fun X hX => .some c (hL.below hX hL.lt)
  have hl := len_some c P T G w hL hm
  clear hL
  have hr0 : 0 ≤ (i - 20) % 264 := by omega
  go_enter Try.func19, Try.ntmps19
  go_wp2_with fail
  go_at_call 14; refine hl.mono ?_; clear hl; rintro e w1 ⟨rfl, h1⟩
  go_wp2_with fail
  go_at_call 50; refine (procs_any _ P T G _ (HL.out _ h1)).mono ?_; rintro e w2 ⟨rfl, k2⟩
  have h2 := h1.trans (k2.mono h1.size)
  go_wp2_with fail
  go_at_call 47; refine (end_any 20 P 264 _ (by omega) (by omega) (by omega) (by omega)).mono ?_; rintro e w3 ⟨rfl, k3⟩
  have h3 := h2.trans (k3.mono h2.size)
  go_wp2_with fail
  go_at_call 50; refine (procs_any _ P T G _ (HL.out _ h3)).mono ?_; rintro e w4 ⟨rfl, k4⟩
  have h4 := h3.trans (k4.mono h3.size)
  go_wp2_with fail
  go_at_call 49; refine (which_any 20 P 264 i _ (by omega) (by omega) (by omega)).mono ?_; rintro e w5 ⟨rfl, k5⟩
  have h5 := h4.trans (k5.mono h4.size)
  go_wp2_with fail
  go_returns
  exact ⟨rfl, h5⟩
set_option maxHeartbeats 2000000 in
set_option maxRecDepth 100000 in
theorem which_ring (c : Nat) (P T G i : Int) (w : World) (hL : Lay w c P T G) (hm : May P T G) (h : 20 ≤ i ∧ i < 20 + P * 264) (hf : ¬ (i - 20) % 264 < 8) : Calls Try.prog 19 #[.pointer (some ⟨c, 0, none⟩), .int .i64 i] w fun e w' => e = .returned (.tuple #[.int .i64 4, .int .i64 ((i - 20) / 264), .int .i64 ((i - 20) % 264 - 8)]) ∧ Below w.heap.size w w' := by
  obtain ⟨hp⟩ := id hm
  obtain ⟨hi0, hi1⟩ := h
  have HL : Hid (∀ X, Below w.heap.size w X → LayO X P T G (some ⟨c, 0, none⟩)) := fun X hX => .some c (hL.below hX hL.lt)
  have hl := len_some c P T G w hL hm
  clear hL
  have hr0 : (i - 20) % 264 < 264 := by omega
  go_enter Try.func19, Try.ntmps19
  go_wp2_with fail
  go_at_call 14; refine hl.mono ?_; clear hl; rintro e w1 ⟨rfl, h1⟩
  go_wp2_with fail
  go_at_call 50; refine (procs_any _ P T G _ (HL.out _ h1)).mono ?_; rintro e w2 ⟨rfl, k2⟩
  have h2 := h1.trans (k2.mono h1.size)
  go_wp2_with fail
  go_at_call 47; refine (end_any 20 P 264 _ (by omega) (by omega) (by omega) (by omega)).mono ?_; rintro e w3 ⟨rfl, k3⟩
  have h3 := h2.trans (k3.mono h2.size)
  go_wp2_with fail
  go_at_call 50; refine (procs_any _ P T G _ (HL.out _ h3)).mono ?_; rintro e w4 ⟨rfl, k4⟩
  have h4 := h3.trans (k4.mono h3.size)
  go_wp2_with fail
  go_at_call 49; refine (which_any 20 P 264 i _ (by omega) (by omega) (by omega)).mono ?_; rintro e w5 ⟨rfl, k5⟩
  have h5 := h4.trans (k5.mono h4.size)
  go_wp2_with fail
  go_returns
  exact ⟨rfl, h5⟩
set_option maxHeartbeats 2000000 in
set_option maxRecDepth 100000 in
theorem which_thread (c : Nat) (P T G i : Int) (w : World) (hL : Lay w c P T G) (hm : May P T G) (h : 20 + P * 264 ≤ i ∧ i < 20 + P * 264 + T * 3) : Calls Try.prog 19 #[.pointer (some ⟨c, 0, none⟩), .int .i64 i] w fun e w' => e = .returned (.tuple #[.int .i64 5, .int .i64 ((i - (20 + P * 264)) / 3), .int .i64 ((i - (20 + P * 264)) % 3)]) ∧ Below w.heap.size w w' := by
  obtain ⟨hp⟩ := id hm
  obtain ⟨hi0, hi1⟩ := h
  have HL : Hid (∀ X, Below w.heap.size w X → LayO X P T G (some ⟨c, 0, none⟩)) := fun X hX => .some c (hL.below hX hL.lt)
  have hl := len_some c P T G w hL hm
  clear hL
  go_enter Try.func19, Try.ntmps19
  go_wp2_with fail
  go_at_call 14; refine hl.mono ?_; clear hl; rintro e w1 ⟨rfl, h1⟩
  go_wp2_with fail
  go_at_call 50; refine (procs_any _ P T G _ (HL.out _ h1)).mono ?_; rintro e w2 ⟨rfl, k2⟩
  have h2 := h1.trans (k2.mono h1.size)
  go_wp2_with fail
  go_at_call 47; refine (end_any 20 P 264 _ (by omega) (by omega) (by omega) (by omega)).mono ?_; rintro e w3 ⟨rfl, k3⟩
  have h3 := h2.trans (k3.mono h2.size)
  go_wp2_with fail
  go_at_call 51; refine (threads_any _ P T G _ (HL.out _ h3) (by omega)).mono ?_; rintro e w4 ⟨rfl, k4⟩
  have h4 := h3.trans (k4.mono h3.size)
  go_wp2_with fail
  go_at_call 47; refine (end_any (20 + P * 264) T 3 _ (by omega) (by omega) (by omega) (by omega)).mono ?_; rintro e w5 ⟨rfl, k5⟩
  have h5 := h4.trans (k5.mono h4.size)
  go_wp2_with fail
  go_at_call 51; refine (threads_any _ P T G _ (HL.out _ h5) (by omega)).mono ?_; rintro e w6 ⟨rfl, k6⟩
  have h6 := h5.trans (k6.mono h5.size)
  go_wp2_with fail
  go_at_call 49; refine (which_any (20 + P * 264) T 3 i _ (by omega) (by omega) (by omega)).mono ?_; rintro e w7 ⟨rfl, k7⟩
  have h7 := h6.trans (k7.mono h6.size)
  go_wp2_with fail
  go_returns
  exact ⟨rfl, h7⟩
set_option maxHeartbeats 2000000 in
set_option maxRecDepth 100000 in
theorem which_g (c : Nat) (P T G i : Int) (w : World) (hL : Lay w c P T G) (hm : May P T G) (h : 20 + P * 264 + T * 3 ≤ i ∧ i < 20 + P * 264 + T * 3 + G * 2) : Calls Try.prog 19 #[.pointer (some ⟨c, 0, none⟩), .int .i64 i] w fun e w' => e = .returned (.tuple #[.int .i64 6, .int .i64 ((i - (20 + P * 264 + T * 3)) / 2), .int .i64 ((i - (20 + P * 264 + T * 3)) % 2)]) ∧ Below w.heap.size w w' := by
  obtain ⟨hp⟩ := id hm
  obtain ⟨hi0, hi1⟩ := h
  have HL : Hid (∀ X, Below w.heap.size w X → LayO X P T G (some ⟨c, 0, none⟩)) := fun X hX => .some c (hL.below hX hL.lt)
  have hl := len_some c P T G w hL hm
  clear hL
  go_enter Try.func19, Try.ntmps19
  go_wp2_with fail
  go_at_call 14; refine hl.mono ?_; clear hl; rintro e w1 ⟨rfl, h1⟩
  go_wp2_with fail
  go_at_call 50; refine (procs_any _ P T G _ (HL.out _ h1)).mono ?_; rintro e w2 ⟨rfl, k2⟩
  have h2 := h1.trans (k2.mono h1.size)
  go_wp2_with fail
  go_at_call 47; refine (end_any 20 P 264 _ (by omega) (by omega) (by omega) (by omega)).mono ?_; rintro e w3 ⟨rfl, k3⟩
  have h3 := h2.trans (k3.mono h2.size)
  go_wp2_with fail
  go_at_call 51; refine (threads_any _ P T G _ (HL.out _ h3) (by omega)).mono ?_; rintro e w4 ⟨rfl, k4⟩
  have h4 := h3.trans (k4.mono h3.size)
  go_wp2_with fail
  go_at_call 47; refine (end_any (20 + P * 264) T 3 _ (by omega) (by omega) (by omega) (by omega)).mono ?_; rintro e w5 ⟨rfl, k5⟩
  have h5 := h4.trans (k5.mono h4.size)
  go_wp2_with fail
  go_at_call 46; refine (gs_any _ P T G _ (HL.out _ h5) (by omega) (by omega)).mono ?_; rintro e w6 ⟨rfl, k6⟩
  have h6 := h5.trans (k6.mono h5.size)
  go_wp2_with fail
  go_at_call 49; refine (which_any (20 + P * 264 + T * 3) G 2 i _ (by omega) (by omega) (by omega)).mono ?_; rintro e w7 ⟨rfl, k7⟩
  have h7 := h6.trans (k7.mono h6.size)
  go_wp2_with fail
  go_returns
  exact ⟨rfl, h7⟩
theorem whichN (c : Nat) (P T G i : Int) (w : World) (hL : Lay w c P T G) (hm : May P T G) (h : 0 ≤ i ∧ i < 20 + P * 264 + T * 3 + G * 2) : Calls Try.prog 19 #[.pointer (some ⟨c, 0, none⟩), .int .i64 i] w fun e w' => e = .returned (.tuple #[.int .i64 (nA P T i), .int .i64 (nN P T i), .int .i64 (nF P T i)]) ∧ Below w.heap.size w w' := by
  obtain ⟨hp⟩ := id hm
  by_cases h1 : i < 6
  · obtain ⟨a, b, d⟩ := kind_lock (P := P) (T := T) h1
    rw [a, b, d]; exact which_lock c P T G i w hL hm ⟨h.1, h1⟩
  · by_cases h2 : i < 20
    · obtain ⟨a, b, d⟩ := kind_word (P := P) (T := T) (i := i) ⟨by omega, h2⟩
      rw [a, b, d]; exact which_word c P T G i w hL hm ⟨by omega, h2⟩
    · by_cases h3 : i < 20 + P * 264
      · by_cases hf : (i - 20) % 264 < 8
        · obtain ⟨a, b, d⟩ := kind_proc (P := P) (T := T) (i := i) ⟨by omega, h3⟩ hf
          rw [a, b, d]; exact which_proc c P T G i w hL hm ⟨by omega, h3⟩ hf
        · obtain ⟨a, b, d⟩ := kind_ring (P := P) (T := T) (i := i) ⟨by omega, h3⟩ hf
          rw [a, b, d]; exact which_ring c P T G i w hL hm ⟨by omega, h3⟩ hf
      · by_cases h4 : i < 20 + P * 264 + T * 3
        · obtain ⟨a, b, d⟩ := kind_thread (P := P) (T := T) (i := i) (by omega) ⟨by omega, h4⟩
          rw [a, b, d]; exact which_thread c P T G i w hL hm ⟨by omega, h4⟩
        · obtain ⟨a, b, d⟩ := kind_g (P := P) (T := T) (i := i) (by omega) (by omega) (by omega)
          rw [a, b, d]; exact which_g c P T G i w hL hm ⟨by omega, h.2⟩
end Go.Proofs.Ytmkmpphfieckoaa
