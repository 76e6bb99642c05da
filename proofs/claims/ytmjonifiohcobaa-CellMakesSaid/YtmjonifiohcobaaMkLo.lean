/- The walk of the law CellMakes at a number below 0. -/
import Derived.Test.YtmjonifiohcobaaNil
import Derived.Deep.Cut
namespace Go.Proofs.Ytmjonifiohcobaa
open Go Go.RowKit
set_option linter.unusedVariables false
set_option linter.unusedSimpArgs false


theorem lastn_spelt (w : World) : Calls Try.prog 26 #[.pointer none] w fun e w' => e = .returned (.agg #[.int .i64 0, .int .i64 0, .int .i64 0, .int .u64 0, .int .u64 0, .bool false]) ∧ Below w.heap.size w w' := last_nil w

set_option maxRecDepth 100000 in
theorem cellMakes_many (E : Option Addr) (m cp : Nat) (N k who i old new : Int) (w : World) (hm : m ≤ 9223372036854775807) (h : (300 < N ∧ N ≤ 262144) ∨ (N ≤ 300 ∧ 100 < m) ∨ (300 < N ∧ 262144 < N ∧ 100 < m)) :
    Calls Try.prog 4 #[.int .i64 N, .slice E m cp, .agg #[.int .i64 k, .int .i64 who, .int .i64 i, .int .u64 old, .int .u64 new]] w fun e w' => e = .returned (.bool true) ∧ Below w.heap.size w w' := by
  have hb : Below w.heap.size w (w.alloc (.cells #[.int .i64 k, .int .i64 who, .int .i64 i, .int .u64 old, .int .u64 new] 34)) := (Below.refl _ _).alloc (Nat.le_refl _) _
  rcases h with ⟨h1, h2⟩ | ⟨h1, h2⟩ | ⟨h1, h2, h3⟩
  all_goals
    go_enter Try.func4, Try.ntmps4
    go_wp2_with fail
    go_at_call 10; refine (awake_any _).mono ?_; rintro e w1 ⟨rfl, hb1⟩
    go_wp2_with fail
    go_ret
    exact ⟨rfl, hb.trans (hb1.mono hb.size)⟩

set_option maxHeartbeats 4000000 in
set_option maxRecDepth 100000 in
theorem cellMakes_lo (E : Option Addr) (m cp : Nat) (N k who i old new : Int) (f : Nat → Int) (w : World) (hm : m ≤ 100) (hN : N < 0) (hs : SeesU w w.heap.size E m f) (hf : ∀ i, i < m → 0 ≤ f i ∧ f i ≤ 18446744073709551615) :
    Calls Try.prog 4 #[.int .i64 N, .slice E m cp, .agg #[.int .i64 k, .int .i64 who, .int .i64 i, .int .u64 old, .int .u64 new]] w fun e w' => e = .returned (.bool true) ∧ Below w.heap.size w w' := by
  have hb0 : Below w.heap.size w (w.alloc (.cells #[.int .i64 k, .int .i64 who, .int .i64 i, .int .u64 old, .int .u64 new] 34)) := (Below.refl _ _).alloc (Nat.le_refl _) _
  have HS : Hid (SeesU (w.alloc (.cells #[.int .i64 k, .int .i64 who, .int .i64 i, .int .u64 old, .int .u64 new] 34)) (w.alloc (.cells #[.int .i64 k, .int .i64 who, .int .i64 i, .int .u64 old, .int .u64 new] 34)).heap.size E m f) := (hs.below hb0 (Nat.le_refl _)).more hb0.size
  have HF : Hid (∀ i, i < m → 0 ≤ f i ∧ f i ≤ 18446744073709551615) := hf
  have hA : ActAt (w.alloc (.cells #[.int .i64 k, .int .i64 who, .int .i64 i, .int .u64 old, .int .u64 new] 34)) w.heap.size k who i old new := ⟨heap_alloc_new _ _⟩
  have hq : w.heap.size < (w.alloc (.cells #[.int .i64 k, .int .i64 who, .int .i64 i, .int .u64 old, .int .u64 new] 34)).heap.size := by simp
  clear hs hf
  go_enter Try.func4, Try.ntmps4
  go_wp2_with fail
  generalize hW : (w.alloc (.cells #[.int .i64 k, .int .i64 who, .int .i64 i, .int .u64 old, .int .u64 new] 34)) = W at hb0 HS hA hq ⊢
  clear hW
  go_at_call 18; refine (new_low W N hN).mono ?_; rintro e w1 ⟨rfl, rfl⟩
  go_wp2_with fail
  go_quiet (fail)
  go_upto_region 11 with fail
  generalize hX0 : W.drewN nq = X
  have hX : Below W.heap.size W X := by rw [← hX0]; exact Below.drewN' (Below.refl _ _) nq
  clear hX0
  have hmk := make_run m (by omega) X
  have hR0 : Row (X.alloc (.cells (zs m) 32)) X.heap.size m 0 f := ⟨zs m, heap_alloc_new _ _, size_madeCells _ _, fun i hi => absurd hi (Nat.not_lt_zero i)⟩
  have hX1 := hX.alloc hX.size (.cells (zs m) 32)
  have hgX := hX.size
  go_wp2_with fail
  clear hmk
  generalize X.alloc (.cells (zs m) 32) = X1 at hR0 hX1
  generalize X.heap.size = g at hR0 hgX
  clear hX
  go_loopw [11] (fun x wr => ∃ j : Nat, j ≤ m ∧ x = .int .i64 j ∧ Row wr g m j f ∧ Below W.heap.size W wr) (fun x _ => m - (intOf x).toNat)
  case atStart => exact ⟨0, Nat.zero_le _, rfl, hR0, hX1⟩
  case round =>
    obtain ⟨j, hj, rfl, hR, hB⟩ := hrel
    clear hR0 hX1
    by_cases hlt : j < m
    · obtain ⟨b9, off9, rfl, hb9, hcell9⟩ := HS.out (by omega)
      have e0 : wr.cell? ⟨b9, off9 + j, none⟩ = some (.int .u64 (f j)) := (hB.cell (p := ⟨b9, off9 + j, none⟩) hb9).trans (hcell9 j hlt)
      obtain ⟨v0, hv0⟩ := hR.there j hlt
      have hz := hR.frozen j
      have hR' := hR.set hlt
      have hB' := hB.setCell (p := ⟨g, j, none⟩) hgX (.int .u64 (f j))
      clear hcell9 hR hB
      go_wp2_with fail
      go_roundw
      case rel => exact ⟨j + 1, by omega, by go_num, hR', hB'⟩
      case measure => simp [intOf]; omega
    · obtain rfl : j = m := by omega
      have hgl := hR.lt
      go_wp2_with fail
      go_at_call 11; refine (of_any wr _ j j f (by omega) (fun h => by cases h) hR.sees HF.out).mono ?_; rintro e w2 ⟨A2, cap2, c2, b2, rfl, hI2, hb2, h1, h2, h3⟩
      have hR2 := (hR.below hb2 hgl).none_
      have hB2 := hB.trans (hb2.mono hB.size)
      have hne2 : g ≠ c2 ∧ g ≠ b2 := ⟨by omega, by omega⟩
      clear hR hB hb2
      go_wp2_with fail
      go_loopw [14] (fun x wx => ∃ t : Nat, t ≤ j ∧ x = .int .i64 t ∧ Row wx g j 0 f ∧ Is wx 68 A2 cap2 c2 b2 j (fresh f) ∧ Below W.heap.size W wx) (fun x _ => j - (intOf x).toNat)
      case atStart => exact ⟨0, Nat.zero_le _, rfl, hR2, hI2, hB2⟩
      case round =>
        obtain ⟨t, ht, rfl, hR3, hI3, hB3⟩ := hrel
        clear hR2 hI2 hB2
        by_cases hlt2 : t < j
        · obtain ⟨v0, hv0⟩ := hR3.there t hlt2
          have hz := hR3.frozen t
          have hR4 := hR3.wipe t (.int .u64 77)
          have hI4 : Is (wr.setCell ⟨g, t, none⟩ (.int .u64 77)) 68 A2 cap2 c2 b2 j (fresh f) := hI3.keep (Nat.le_of_eq (size_set _ _ _).symm) (heap_set_ne _ (Ne.symm hne2.1) _ _) (fun _ => heap_set_ne _ (Ne.symm hne2.2) _ _)
          have hB4 := hB3.setCell (p := ⟨g, t, none⟩) hgX (.int .u64 77)
          clear hR3 hI3 hB3
          go_wp2_with fail
          go_roundw
          case rel => exact ⟨t + 1, by omega, by go_num, hR4, hI4, hB4⟩
          case measure => simp [intOf]; omega
        · obtain rfl : t = j := by omega
          have hact : ∀ Y, Below W.heap.size W Y → ActAt Y w.heap.size k who i old new := fun Y hY => ⟨(hY.block _ hq).trans hA.blk⟩
          have HACT : Hid (∀ Y, Below W.heap.size W Y → ActAt Y w.heap.size k who i old new) := hact
          clear hact hA hR3 h1 h2 h3 hne2
          obtain ⟨x0, x1, x2, x3, x4⟩ := (HACT.out _ hB3).cells
          go_wp2_with fail
          go_at_call 19; refine (store_nil _ who i new).mono ?_; rintro e y1 ⟨⟨v, rfl⟩, hy1⟩
          have hY1 := hB3.trans (hy1.mono hB3.size)
          have hO1 := hI3.below hy1
          clear x0 x1 x2 x3 x4 hy1 hI3 hB3
          obtain ⟨x0, x1, x2, x3, x4⟩ := (HACT.out _ hY1).cells
          go_wp2_with fail
          go_at_call 20; refine (peek_nil _ i).mono ?_; rintro e y2 ⟨rfl, rfl⟩
          go_wp2_with fail
          go_at_call 10; refine (awake_any _).mono ?_; rintro e y3 ⟨rfl, hy3⟩
          have hY3 := hY1.trans (hy3.mono hY1.size)
          have hO3 := hO1.below hy3
          clear x0 x1 x2 x3 x4 hy3 hO1 hY1
          go_wp2_with fail
          go_at_call 16; refine (words_any _ A2 cap2 c2 b2 t (fresh f) hO3 (by omega)).mono ?_; rintro e y4 ⟨A4, cap4, rfl, hs4, hy4⟩
          have hY4 := hY3.trans (hy4.mono hY3.size)
          clear hy4 hY3 hO3
          go_wp2_with fail
          go_at_call 15; refine (same_any _ A4 E t cap4 cp f (by omega) hs4 ((HS.out.below hY4 (Nat.le_refl _)).more hY4.size)).mono ?_; rintro e y5 ⟨rfl, m5, rfl⟩
          have hY5 := Below.drewN' hY4 m5
          clear hs4 hY4 HS
          generalize y4.drewN m5 = y5 at hY5
          obtain ⟨x0, x1, x2, x3, x4⟩ := (HACT.out _ hY5).cells
          go_wp2_with fail
          go_at_call 21; refine (load_nil _ who i).mono ?_; rintro e y6 ⟨rfl, hy6⟩
          have hY6 := hY5.trans (hy6.mono hY5.size)
          clear x0 x1 x2 x3 x4 hy6 hY5
          obtain ⟨x0, x1, x2, x3, x4⟩ := (HACT.out _ hY6).cells
          go_wp2_with fail
          go_at_call 22; refine (swap_nil _ who i old new).mono ?_; rintro e y7 ⟨rfl, hy7⟩
          have hY7 := hY6.trans (hy7.mono hY6.size)
          clear x0 x1 x2 x3 x4 hy7 hY6
          obtain ⟨x0, x1, x2, x3, x4⟩ := (HACT.out _ hY7).cells
          go_wp2_with fail
          go_at_call 23; refine (add_nil _ who i new).mono ?_; rintro e y8 ⟨rfl, hy8⟩
          have hY8 := hY7.trans (hy8.mono hY7.size)
          clear x0 x1 x2 x3 x4 hy8 hY7 HACT
          go_wp2_with fail
          go_at_call 16; refine (words_nil _).mono ?_; rintro e y9 ⟨rfl, rfl⟩
          go_wp2_with fail
          go_at_call 17; refine (len_nil _).mono ?_; rintro e y9 ⟨rfl, rfl⟩
          go_wp2_with fail
          go_at_call 24; refine (clock_nil _).mono ?_; rintro e y9 ⟨rfl, rfl⟩
          go_wp2_with fail
          go_at_call 25; refine (bad_nil _).mono ?_; rintro e y9 ⟨rfl, rfl⟩
          go_wp2_with fail
          go_at_call 26; refine (lastn_spelt _).mono ?_; rintro e y9 ⟨rfl, hy9⟩
          go_wp2_with fail
          go_ret
          exact ⟨rfl, hb0.trans ((hY8.trans (hy9.mono hY8.size)).mono hb0.size)⟩
end Go.Proofs.Ytmjonifiohcobaa
