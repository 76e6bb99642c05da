/- The contracts of a block's word and which, and of the layout's calls. -/
import Derived.Test.YtmkmpphfieckoaaLay2
namespace Go.Proofs.Ytmkmpphfieckoaa
open Go Go.RowKit
set_option linter.unusedVariables false
set_option linter.unusedSimpArgs false

theorem below_drewN {B : Nat} {a w : World} (h : Below B a w) (n : Nat) : Below B a (w.drewN n) := ⟨h.os, h.tape, h.output, h.size, h.block⟩
/-- A block's word. -/
def wd (a b c n f : Int) : Int := if 0 ≤ n ∧ n < b ∧ 0 ≤ f ∧ f < c then a + n * c + f else -1

theorem word_any (a b c n f : Int) (w : World) (ha : 0 ≤ a ∧ a ≤ 1000000) (hc : c ≤ 1000) (hp : 0 ≤ n → n < b → 0 ≤ n * c ∧ n * c ≤ 65536000) :
    Calls Try.prog 52 #[.agg #[.int .i64 a, .int .i64 b, .int .i64 c], .int .i64 n, .int .i64 f] w fun e w' => e = .returned (.int .i64 (wd a b c n f)) ∧ Below w.heap.size w w' := by
  have hB : Below w.heap.size w (w.alloc (.cells #[.int .i64 a, .int .i64 b, .int .i64 c] 72)) := (Below.refl _ _).alloc (Nat.le_refl _) _
  unfold wd
  by_cases h : 0 ≤ n ∧ n < b ∧ 0 ≤ f ∧ f < c
  · rw [if_pos h]
    obtain ⟨h1, h2, h3, h4⟩ := h
    have h5 := hp h1 h2
    clear hp
    go_enter Try.func52, Try.ntmps52
    go_wp2_with fail
    go_ret
    exact ⟨ret_int (by generalize n * c = m at *; first | rfl | omega | (unfold wrap64; omega)), hB⟩
  · rw [if_neg h]
    clear hp
    go_enter Try.func52, Try.ntmps52
    go_wp2_with fail
    all_goals first | (exfalso; omega) | (go_ret; exact ⟨rfl, hB⟩)

theorem which_any (a b c at' : Int) (w : World) (ha : 0 ≤ a ∧ a ≤ at') (hat : at' ≤ 1000000) (hc : 0 < c ∧ c ≤ 1000) :
    Calls Try.prog 49 #[.agg #[.int .i64 a, .int .i64 b, .int .i64 c], .int .i64 at'] w fun e w' => e = .returned (.tuple #[.int .i64 ((at' - a) / c), .int .i64 ((at' - a) % c)]) ∧ Below w.heap.size w w' := by
  have hB : Below w.heap.size w (w.alloc (.cells #[.int .i64 a, .int .i64 b, .int .i64 c] 72)) := (Below.refl _ _).alloc (Nat.le_refl _) _
  have hq : (at' - a).tdiv c = (at' - a) / c := Int.tdiv_eq_ediv_of_nonneg (by omega)
  have hm : (at' - a).tmod c = (at' - a) % c := Int.tmod_eq_emod_of_nonneg (by omega)
  have hw : wrap64 (at' - a) = at' - a := by unfold wrap64; omega
  have hw2 : IntKind.i64.wrap (at' - a) = at' - a := by simp [IntKind.wrap, IntKind.bits, IntKind.signed]; omega
  have hne : ¬ c = 0 := by omega
  have hlq : 0 ≤ (at' - a) / c ∧ (at' - a) / c ≤ 1000000 := ⟨Int.ediv_nonneg (by omega) (by omega), Int.le_trans (Int.ediv_le_self _ (by omega)) (by omega)⟩
  generalize (at' - a) / c = q at *
  generalize (at' - a) % c = r at *
  go_enter Try.func49, Try.ntmps49
  go_wp2_with fail
  go_quiet (fail)
  go_wp2_with fail
  go_returns
  exact ⟨rfl, below_drewN hB _⟩

/-- The world of a call behind another. -/
theorem seq {w w1 w2 : World} (h1 : Below w.heap.size w w1) (h2 : Below w1.heap.size w1 w2) : Below w.heap.size w w2 := h1.trans (h2.mono h1.size)

theorem len_nil (w : World) : Calls Try.prog 14 #[.pointer none] w fun e w' => e = .returned (.int .i64 0) ∧ w = w' := by
  go_enter Try.func14, Try.ntmps14
  go_wp2_with fail
  go_ret
  exact ⟨rfl, rfl⟩
theorem len_some (c : Nat) (P T G : Int) (w : World) (h : Lay w c P T G) (hm : May P T G) : Calls Try.prog 14 #[.pointer (some ⟨c, 0, none⟩)] w fun e w' => e = .returned (.int .i64 (20 + P * 264 + T * 3 + G * 2)) ∧ Below w.heap.size w w' := by
  have HL : Hid _ := LayO.some (P := P) (T := T) (G := G) c h
  obtain ⟨hp⟩ := hm
  clear h
  go_enter Try.func14, Try.ntmps14
  go_wp2_with fail
  go_at_call 46; refine (gs_any _ P T G _ HL.out (by omega) (by omega)).mono ?_; rintro e w1 ⟨rfl, h1⟩
  go_wp2_with fail
  go_at_call 47; refine (end_any (20 + P * 264 + T * 3) G 2 _ (by omega) (by omega) (by omega) (by omega)).mono ?_; rintro e w2 ⟨rfl, h2⟩
  have hb := seq h1 h2
  go_wp2_with fail
  go_ret
  exact ⟨rfl, hb⟩

theorem ticket_nil (n : Int) (w : World) : Calls Try.prog 26 #[.pointer none, .int .i64 n] w fun e w' => e = .returned (.int .i64 (-1)) ∧ Below w.heap.size w w' := by
  have e0 : wd 0 0 0 n 0 = -1 := by unfold wd; rw [if_neg (by omega)]
  go_enter Try.func26, Try.ntmps26
  go_wp2_with fail
  go_at_call 48; refine (locks_nil _).mono ?_; rintro e w1 ⟨rfl, h1⟩
  go_wp2_with fail
  go_at_call 52; refine (word_any 0 0 0 n 0 _ (by omega) (by omega) (by omega)).mono ?_; rintro e w2 ⟨rfl, h2⟩
  have hb := seq h1 h2
  rw [e0]
  go_wp2_with fail
  go_ret
  exact ⟨rfl, hb⟩
theorem ticket_some (c : Nat) (n : Int) (w : World) : Calls Try.prog 26 #[.pointer (some ⟨c, 0, none⟩), .int .i64 n] w fun e w' => e = .returned (.int .i64 (wd 0 2 3 n 0)) ∧ Below w.heap.size w w' := by
  go_enter Try.func26, Try.ntmps26
  go_wp2_with fail
  go_at_call 48; refine (locks_some _ c).mono ?_; rintro e w1 ⟨rfl, h1⟩
  go_wp2_with fail
  go_at_call 52; refine (word_any 0 2 3 n 0 _ (by omega) (by omega) (by omega)).mono ?_; rintro e w2 ⟨rfl, h2⟩
  have hb := seq h1 h2
  go_wp2_with fail
  go_ret
  exact ⟨rfl, hb⟩
theorem serving_some (c : Nat) (n : Int) (w : World) : Calls Try.prog 29 #[.pointer (some ⟨c, 0, none⟩), .int .i64 n] w fun e w' => e = .returned (.int .i64 (wd 0 2 3 n 1)) ∧ Below w.heap.size w w' := by
  go_enter Try.func29, Try.ntmps29
  go_wp2_with fail
  go_at_call 48; refine (locks_some _ c).mono ?_; rintro e w1 ⟨rfl, h1⟩
  go_wp2_with fail
  go_at_call 52; refine (word_any 0 2 3 n 1 _ (by omega) (by omega) (by omega)).mono ?_; rintro e w2 ⟨rfl, h2⟩
  have hb := seq h1 h2
  go_wp2_with fail
  go_ret
  exact ⟨rfl, hb⟩
theorem owner_some (c : Nat) (n : Int) (w : World) : Calls Try.prog 30 #[.pointer (some ⟨c, 0, none⟩), .int .i64 n] w fun e w' => e = .returned (.int .i64 (wd 0 2 3 n 2)) ∧ Below w.heap.size w w' := by
  go_enter Try.func30, Try.ntmps30
  go_wp2_with fail
  go_at_call 48; refine (locks_some _ c).mono ?_; rintro e w1 ⟨rfl, h1⟩
  go_wp2_with fail
  go_at_call 52; refine (word_any 0 2 3 n 2 _ (by omega) (by omega) (by omega)).mono ?_; rintro e w2 ⟨rfl, h2⟩
  have hb := seq h1 h2
  go_wp2_with fail
  go_ret
  exact ⟨rfl, hb⟩
theorem lword_nil (f : Int) (w : World) : Calls Try.prog 25 #[.pointer none, .int .i64 f] w fun e w' => e = .returned (.int .i64 (-1)) ∧ w = w' := by
  go_enter Try.func25, Try.ntmps25
  go_wp2_with fail
  go_ret
  exact ⟨rfl, rfl⟩
theorem lword_some (c : Nat) (f : Int) (w : World) : Calls Try.prog 25 #[.pointer (some ⟨c, 0, none⟩), .int .i64 f] w fun e w' => e = .returned (.int .i64 (if 6 ≤ f ∧ f ≤ 19 then f else -1)) ∧ w = w' := by
  by_cases h : 6 ≤ f ∧ f ≤ 19
  · rw [if_pos h]
    obtain ⟨h1, h2⟩ := h
    go_enter Try.func25, Try.ntmps25
    go_wp2_with fail
    go_ret
    exact ⟨rfl, rfl⟩
  · rw [if_neg h]
    go_enter Try.func25, Try.ntmps25
    go_wp2_with fail
    all_goals first | (exfalso; omega) | (go_ret; exact ⟨rfl, rfl⟩)
theorem proc_any (o : Option Addr) (P T G n f : Int) (w : World) (h : LayO w P T G o) (hp : 0 ≤ P ∧ P ≤ 64) : Calls Try.prog 21 #[.pointer o, .int .i64 n, .int .i64 f] w fun e w' => e = .returned (.int .i64 (wd 20 P 8 n f - 0 + (if 0 ≤ n ∧ n < P ∧ 0 ≤ f ∧ f < 8 then n * 256 else 0))) ∧ Below w.heap.size w w' := by
  have HL : Hid _ := h
  clear h
  by_cases h : 8 ≤ f
  · have e1 : wd 20 P 8 n f - 0 + (if 0 ≤ n ∧ n < P ∧ 0 ≤ f ∧ f < 8 then n * 256 else 0) = -1 := by unfold wd; rw [if_neg (by omega), if_neg (by omega)]; rfl
    rw [e1]
    go_enter Try.func21, Try.ntmps21
    go_wp2_with fail
    go_ret
    exact ⟨rfl, Below.refl _ _⟩
  · have e1 : wd 20 P 8 n f - 0 + (if 0 ≤ n ∧ n < P ∧ 0 ≤ f ∧ f < 8 then n * 256 else 0) = wd 20 P 264 n f := by
      unfold wd
      by_cases h2 : 0 ≤ n ∧ n < P ∧ 0 ≤ f ∧ f < 8
      · rw [if_pos h2, if_pos h2, if_pos (by omega)]; omega
      · rw [if_neg h2, if_neg h2, if_neg (by omega)]; rfl
    rw [e1]
    go_enter Try.func21, Try.ntmps21
    go_wp2_with fail
    go_at_call 50; refine (procs_any o P T G _ HL.out).mono ?_; rintro e w1 ⟨rfl, h1⟩
    go_wp2_with fail
    go_at_call 52; refine (word_any 20 P 264 n f _ (by omega) (by omega) (by omega)).mono ?_; rintro e w2 ⟨rfl, h2⟩
    have hb := seq h1 h2
    clear e1
    go_wp2_with fail
    go_ret
    exact ⟨rfl, hb⟩
theorem ring_any (o : Option Addr) (P T G n i : Int) (w : World) (h : LayO w P T G o) (hp : 0 ≤ P ∧ P ≤ 64) (hi : 0 ≤ i ∧ i ≤ 18446744073709551615) : Calls Try.prog 22 #[.pointer o, .int .i64 n, .int .u64 i] w fun e w' => e = .returned (.int .i64 (if 0 ≤ n ∧ n < P then 28 + n * 264 + i % 256 else -1)) ∧ Below w.heap.size w w' := by
  have HL : Hid _ := h
  clear h
  have hm : i.tmod 256 = i % 256 := Int.tmod_eq_emod_of_nonneg (by omega)
  have hr : 0 ≤ i % 256 ∧ i % 256 < 256 := by omega
  generalize i % 256 = r at *
  have e1 : wd 20 P 264 n (8 + r) = (if 0 ≤ n ∧ n < P then 28 + n * 264 + r else -1) := by
    unfold wd
    by_cases h2 : 0 ≤ n ∧ n < P
    · rw [if_pos h2, if_pos (by omega)]; omega
    · rw [if_neg h2, if_neg (by omega)]
  rw [← e1]
  clear e1
  go_enter Try.func22, Try.ntmps22
  go_wp2_with fail
  go_at_call 50; refine (procs_any o P T G _ HL.out).mono ?_; rintro e w1 ⟨rfl, h1⟩
  go_wp2_with fail
  go_at_call 52; refine (word_any 20 P 264 n (8 + r) _ (by omega) (by omega) (by omega)).mono ?_; rintro e w2 ⟨rfl, h2⟩
  have hb := seq h1 h2
  go_wp2_with fail
  go_ret
  exact ⟨rfl, hb⟩
theorem thread_any (o : Option Addr) (P T G n f : Int) (w : World) (h : LayO w P T G o) (hp : 0 ≤ P ∧ P ≤ 64) (ht : 0 ≤ T ∧ T ≤ 256) : Calls Try.prog 23 #[.pointer o, .int .i64 n, .int .i64 f] w fun e w' => e = .returned (.int .i64 (wd (20 + P * 264) T 3 n f)) ∧ Below w.heap.size w w' := by
  have HL : Hid _ := h
  clear h
  go_enter Try.func23, Try.ntmps23
  go_wp2_with fail
  go_at_call 51; refine (threads_any o P T G _ HL.out hp).mono ?_; rintro e w1 ⟨rfl, h1⟩
  go_wp2_with fail
  go_at_call 52; refine (word_any (20 + P * 264) T 3 n f _ (by omega) (by omega) (by omega)).mono ?_; rintro e w2 ⟨rfl, h2⟩
  have hb := seq h1 h2
  go_wp2_with fail
  go_ret
  exact ⟨rfl, hb⟩
theorem g_any (o : Option Addr) (P T G n f : Int) (w : World) (h : LayO w P T G o) (hp : 0 ≤ P ∧ P ≤ 64) (ht : 0 ≤ T ∧ T ≤ 256) (hg : 0 ≤ G ∧ G ≤ 65536) : Calls Try.prog 24 #[.pointer o, .int .i64 n, .int .i64 f] w fun e w' => e = .returned (.int .i64 (wd (20 + P * 264 + T * 3) G 2 n f)) ∧ Below w.heap.size w w' := by
  have HL : Hid _ := h
  clear h
  go_enter Try.func24, Try.ntmps24
  go_wp2_with fail
  go_at_call 46; refine (gs_any o P T G _ HL.out hp ht).mono ?_; rintro e w1 ⟨rfl, h1⟩
  go_wp2_with fail
  go_at_call 52; refine (word_any (20 + P * 264 + T * 3) G 2 n f _ (by omega) (by omega) (by omega)).mono ?_; rintro e w2 ⟨rfl, h2⟩
  have hb := seq h1 h2
  go_wp2_with fail
  go_ret
  exact ⟨rfl, hb⟩
theorem of_bad (P T G : Int) (w : World) (h : ¬ May P T G) : Calls Try.prog 10 #[.agg #[.int .i64 P, .int .i64 T, .int .i64 G]] w fun e w' => e = .returned (.tuple #[.pointer none, .int .i64 1]) ∧ Below w.heap.size w w' := by
  have hb : Below w.heap.size w (w.alloc (.cells #[.int .i64 P, .int .i64 T, .int .i64 G] 23)) := (Below.refl _ _).alloc (Nat.le_refl _) _
  have hR := right_any P T G (w.alloc (.cells #[.int .i64 P, .int .i64 T, .int .i64 G] 23))
  rw [decide_eq_false h] at hR
  go_enter Try.func10, Try.ntmps10
  go_wp2_with fail
  go_at_call 13; refine hR.mono ?_; rintro e w1 ⟨rfl, h1⟩
  have hb1 := hb.trans (h1.mono (by simp))
  go_wp2_with fail
  go_returns
  exact ⟨rfl, hb1⟩
theorem of_ok (P T G : Int) (w : World) (h : May P T G) : Calls Try.prog 10 #[.agg #[.int .i64 P, .int .i64 T, .int .i64 G]] w fun e w' => ∃ c, e = .returned (.tuple #[.pointer (some ⟨c, 0, none⟩), .int .i64 0]) ∧ Lay w' c P T G ∧ w.heap.size ≤ c ∧ Below w.heap.size w w' := by
  have hb : Below w.heap.size w (w.alloc (.cells #[.int .i64 P, .int .i64 T, .int .i64 G] 23)) := (Below.refl _ _).alloc (Nat.le_refl _) _
  have hR := right_any P T G (w.alloc (.cells #[.int .i64 P, .int .i64 T, .int .i64 G] 23))
  rw [decide_eq_true h] at hR
  have h0 : (w.alloc (.cells #[.int .i64 P, .int .i64 T, .int .i64 G] 23)).heap[w.heap.size]? = some (.cells #[.int .i64 P, .int .i64 T, .int .i64 G] 23 (0, 0)) := heap_alloc_new _ _
  have H0 : Hid _ := h0
  clear h0
  go_enter Try.func10, Try.ntmps10
  go_wp2_with fail
  go_at_call 13; refine hR.mono ?_; rintro e w1 ⟨rfl, h1⟩
  have hb1 := hb.trans (h1.mono (by simp))
  have hh : w1.heap[w.heap.size]? = some (.cells #[.int .i64 P, .int .i64 T, .int .i64 G] 23 (0, 0)) := (h1.block _ (by simp)).trans H0.out
  have c0 : w1.cell? ⟨w.heap.size, 0, none⟩ = some (.int .i64 P) := by simp [World.cell?, hh]
  have c1 : w1.cell? ⟨w.heap.size, 1, none⟩ = some (.int .i64 T) := by simp [World.cell?, hh]
  have c2 : w1.cell? ⟨w.heap.size, 2, none⟩ = some (.int .i64 G) := by simp [World.cell?, hh]
  have hs := hb1.size
  clear hR h1 H0 hh hb
  go_wp2_with fail
  go_returns
  exact ⟨w1.heap.size, rfl, heap_alloc_new _ _, hs, hb1.alloc hs _⟩
end Go.Proofs.Ytmkmpphfieckoaa
