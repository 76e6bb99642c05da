/- Bound; FairBound's walk. -/
import Derived.Test.YtbnjdldobfckjaaE7
namespace Go.Proofs.Ytbnjdldobfckjaa
open Go Go.RowKit Go.Maps
set_option linter.unusedVariables false
set_option linter.unusedSimpArgs false
set_option maxRecDepth 100000

theorem bound_bad (w : World) (P T G x : Int) (h : mayB P T G = false ∨ x < 1) :
    Calls Try.prog 6 #[.agg #[.int .i64 P, .int .i64 T, .int .i64 G], .int .i64 x] w fun e w' => e = .returned (.tuple #[.int .i64 0, .int .i64 1]) ∧ Below w.heap.size w w' := by
  have HB := Lib.hid (fun o1 => ((Below.refl w.heap.size w).alloc (Nat.le_refl _) o1))
  cases hm : mayB P T G
  · go_enter Try.func6, Try.ntmps6
    go_wp2_with fail
    go_at_call 14; refine (may_any _ P T G).mono ?_; rintro e w1 ⟨rfl, hb⟩
    rw [hm]
    have HB1 := Lib.hid ((HB.out (.cells #[.int .i64 P, .int .i64 T, .int .i64 G] 23)).trans (hb.mono (by rw [size_al]; omega)))
    go_wp2_with fail
    go_returns
    exact ⟨rfl, HB1.out⟩
  · have hx : x < 1 := by rcases h with h | h; (rw [hm] at h; cases h); exact h
    go_enter Try.func6, Try.ntmps6
    go_wp2_with fail
    go_at_call 14; refine (may_any _ P T G).mono ?_; rintro e w1 ⟨rfl, hb⟩
    rw [hm]
    have HB1 := Lib.hid ((HB.out (.cells #[.int .i64 P, .int .i64 T, .int .i64 G] 23)).trans (hb.mono (by rw [size_al]; omega)))
    go_wp2_with fail
    go_returns
    exact ⟨rfl, HB1.out⟩
theorem cfg_cells {w w1 : World} {P T G : Int} {z : Nat} (h : w1.heap[z]? = some (.cells #[.int .i64 P, .int .i64 T, .int .i64 G] 23 (0, 0))) : w1.cell? ⟨z, 0, none⟩ = some (.int .i64 P) ∧ w1.cell? ⟨z, 1, none⟩ = some (.int .i64 T) ∧ w1.cell? ⟨z, 2, none⟩ = some (.int .i64 G) :=
  ⟨by simp only [World.cell?, h]; rfl, by simp only [World.cell?, h]; rfl, by simp only [World.cell?, h]; rfl⟩
theorem bound_ok (w : World) (P T G x E b f : Int) (h : mayB P T G = true) (hx : 1 ≤ x) (hE : 261993005056 * (G + 256) = E) (hc : (4611686018427387904 / E < x ∧ b = 0 ∧ f = 2) ∨ (x ≤ 4611686018427387904 / E ∧ b = wrap64 (x * E) ∧ f = 0)) :
    Calls Try.prog 6 #[.agg #[.int .i64 P, .int .i64 T, .int .i64 G], .int .i64 x] w fun e w' => e = .returned (.tuple #[.int .i64 b, .int .i64 f]) ∧ Below w.heap.size w w' := by
  have HB := Lib.hid (fun o1 => ((Below.refl w.heap.size w).alloc (Nat.le_refl _) o1))
  have hG := mayB_true h
  obtain ⟨_, _, _, _, hg1, hg2⟩ := hG
  subst hE
  rcases hc with ⟨hc, rfl, rfl⟩ | ⟨hc, rfl, rfl⟩
  all_goals
    go_enter Try.func6, Try.ntmps6
    go_wp2_with fail
    go_at_call 14; refine (may_any _ P T G).mono ?_; rintro e w1 ⟨rfl, hb⟩
    rw [h]
    have HB1 := Lib.hid ((HB.out (.cells #[.int .i64 P, .int .i64 T, .int .i64 G] 23)).trans (hb.mono (by rw [size_al]; omega)))
    obtain ⟨c0, c1, c2⟩ := cfg_cells (w := w) ((hb.block w.heap.size (by rw [size_al]; omega)).trans (heap_alloc_new w _))
    clear hb
    go_wp2_with fail
    go_returns
    exact ⟨rfl, HB1.out⟩
set_option maxHeartbeats 1000000 in
theorem fairBound_walk (P T G x : Int) (W : World) : Calls Try.prog 3 #[.agg #[.int .i64 P, .int .i64 T, .int .i64 G], .int .i64 x] W fun e w' => e = .returned (.bool true) ∧ Below W.heap.size W w' := by
  have HB := Lib.hid (fun o1 => ((Below.refl W.heap.size W).alloc (Nat.le_refl _) o1))
  by_cases hg : mayB P T G = true ∧ 1 ≤ x
  · obtain ⟨hm, hx⟩ := hg
    obtain ⟨_, _, _, _, hg1, hg2⟩ := mayB_true hm
    obtain ⟨b, f, hbf⟩ : ∃ b f : Int, (4611686018427387904 / (261993005056 * (G + 256)) < x ∧ b = 0 ∧ f = 2) ∨ (x ≤ 4611686018427387904 / (261993005056 * (G + 256)) ∧ b = wrap64 (x * (261993005056 * (G + 256))) ∧ f = 0) := by
      rcases Int.lt_or_le (4611686018427387904 / (261993005056 * (G + 256))) x with h | h
      · exact ⟨_, _, Or.inl ⟨h, rfl, rfl⟩⟩
      · exact ⟨_, _, Or.inr ⟨h, rfl, rfl⟩⟩
    have HBO := Lib.hid (fun w => bound_ok w P T G x _ b f hm hx rfl hbf)
    rcases hbf with ⟨hc, rfl, rfl⟩ | ⟨hc, rfl, rfl⟩
    all_goals
      go_enter Try.func3, Try.ntmps3
      go_wp2_with fail
      go_at_call 6; refine (HBO.out _).mono ?_; rintro e w1 ⟨rfl, hb⟩
      have HB1 := Lib.hid ((HB.out (.cells #[.int .i64 P, .int .i64 T, .int .i64 G] 23)).trans (hb.mono (by rw [size_al]; omega)))
      have hbx := ((hb.block W.heap.size (by rw [size_al]; omega)).trans (heap_alloc_new W _))
      obtain ⟨c0, c1, c2⟩ := cfg_cells (w := W) hbx
      clear hb HBO
      go_wp2_with fail
      go_at_call 7; refine (ref_may _ P T G).mono ?_; rintro e w2 ⟨rfl, hb2⟩
      rw [hm]
      have HB2 := Lib.hid (HB1.out.trans (hb2.mono HB1.out.size))
      have hbx2 := (hb2.block W.heap.size (block_lt hbx)).trans hbx
      clear c0 c1 c2
      obtain ⟨c0, c1, c2⟩ := cfg_cells (w := W) hbx2
      clear hb2 hbx hbx2
      go_wp2_with fail
      go_at_call 8; refine (awake_any _).mono ?_; rintro e w3 ⟨rfl, hb3⟩
      have HB3 := Lib.hid (HB2.out.trans (hb3.mono HB2.out.size))
      clear hb3 c0 c1 c2
      go_wp2_with fail
      go_ret
      exact ⟨rfl, HB3.out⟩
  · have hor : mayB P T G = false ∨ x < 1 := by
      cases hm : mayB P T G
      · exact Or.inl rfl
      · right
        apply Classical.byContradiction
        intro h; exact hg ⟨hm, by omega⟩
    have HBO := Lib.hid (fun w => bound_bad w P T G x hor)
    cases hm : mayB P T G
    · go_enter Try.func3, Try.ntmps3
      go_wp2_with fail
      go_at_call 6; refine (HBO.out _).mono ?_; rintro e w1 ⟨rfl, hb⟩
      have HB1 := Lib.hid ((HB.out (.cells #[.int .i64 P, .int .i64 T, .int .i64 G] 23)).trans (hb.mono (by rw [size_al]; omega)))
      have hbx := ((hb.block W.heap.size (by rw [size_al]; omega)).trans (heap_alloc_new W _))
      obtain ⟨c0, c1, c2⟩ := cfg_cells (w := W) hbx
      clear hb HBO
      go_wp2_with fail
      go_at_call 7; refine (ref_may _ P T G).mono ?_; rintro e w2 ⟨rfl, hb2⟩
      rw [hm]
      have HB2 := Lib.hid (HB1.out.trans (hb2.mono HB1.out.size))
      clear hb2 hbx c0 c1 c2
      go_wp2_with fail
      go_at_call 8; refine (awake_any _).mono ?_; rintro e w3 ⟨rfl, hb3⟩
      have HB3 := Lib.hid (HB2.out.trans (hb3.mono HB2.out.size))
      clear hb3
      go_wp2_with fail
      go_ret
      exact ⟨rfl, HB3.out⟩
    · have hx : x < 1 := by rcases hor with h | h; (rw [hm] at h; cases h); exact h
      go_enter Try.func3, Try.ntmps3
      go_wp2_with fail
      go_at_call 6; refine (HBO.out _).mono ?_; rintro e w1 ⟨rfl, hb⟩
      have HB1 := Lib.hid ((HB.out (.cells #[.int .i64 P, .int .i64 T, .int .i64 G] 23)).trans (hb.mono (by rw [size_al]; omega)))
      have hbx := ((hb.block W.heap.size (by rw [size_al]; omega)).trans (heap_alloc_new W _))
      obtain ⟨c0, c1, c2⟩ := cfg_cells (w := W) hbx
      clear hb HBO
      go_wp2_with fail
      go_at_call 7; refine (ref_may _ P T G).mono ?_; rintro e w2 ⟨rfl, hb2⟩
      rw [hm]
      have HB2 := Lib.hid (HB1.out.trans (hb2.mono HB1.out.size))
      clear hb2 hbx c0 c1 c2
      go_wp2_with fail
      go_at_call 8; refine (awake_any _).mono ?_; rintro e w3 ⟨rfl, hb3⟩
      have HB3 := Lib.hid (HB2.out.trans (hb3.mono HB2.out.size))
      clear hb3
      go_wp2_with fail
      go_ret
      exact ⟨rfl, HB3.out⟩
end Go.Proofs.Ytbnjdldobfckjaa
