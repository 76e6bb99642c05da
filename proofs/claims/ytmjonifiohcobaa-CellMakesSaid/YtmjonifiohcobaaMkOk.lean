/- The walk of the law CellMakes at a number that may be. -/
import Derived.Test.YtmjonifiohcobaaMkLo
import Derived.Deep.Cut
namespace Go.Proofs.Ytmjonifiohcobaa
open Go Go.RowKit
set_option linter.unusedVariables false
set_option linter.unusedSimpArgs false


theorem sameB_any (w : World) (A B : Option Addr) (n cap cap' : Nat) (f : Nat → Int) (hn : n ≤ 1000000) (hA : SeesU w w.heap.size A n f) (hB : SeesU w w.heap.size B n f) :
    Calls Try.prog 15 #[.slice A n cap, .slice B n cap'] w fun e w' => e = .returned (.bool true) ∧ Below w.heap.size w w' :=
  (same_any w A B n cap cap' f hn hA hB).mono fun e w' ⟨he, m, hm⟩ => ⟨he, by rw [hm]; exact Below.drewN' (Below.refl _ _) m⟩
theorem sees_more {w : World} {A : Option Addr} {n : Nat} {f : Nat → Int} (h : SeesU w w.heap.size A n f) (o : Obj) : SeesU (w.alloc o) (w.alloc o).heap.size A n f :=
  (h.below ((Below.refl _ w).alloc (Nat.le_refl _) o) (Nat.le_refl _)).more (by simp)
theorem made_sees {w w4 : World} {n : Nat} {Z : Array Value} (hZ : Row (w.drew.alloc (.cells Z 32)) w.drew.heap.size n n (fun _ => 0)) (hb : Below (w.drew.alloc (.cells Z 32)).heap.size (w.drew.alloc (.cells Z 32)) w4) : SeesU w4 w4.heap.size (some ⟨w.heap.size, 0, none⟩) n (fun _ => 0) :=
  (hZ.sees.below hb (Nat.le_refl _)).more hb.size

set_option maxHeartbeats 4000000 in
set_option maxRecDepth 100000 in
theorem cellMakes_ok (E : Option Addr) (m cp N : Nat) (k who i old new : Int) (f : Nat → Int) (w : World) (hm : m ≤ 100) (hN : N ≤ 300) (hs : SeesU w w.heap.size E m f) (hf : ∀ i, i < m → 0 ≤ f i ∧ f i ≤ 18446744073709551615) :
    Calls Try.prog 4 #[.int .i64 N, .slice E m cp, .agg #[.int .i64 k, .int .i64 who, .int .i64 i, .int .u64 old, .int .u64 new]] w fun e w' => e = .returned (.bool true) ∧ Below w.heap.size w w' := by
  have hb0 : Below w.heap.size w (w.alloc (.cells #[.int .i64 k, .int .i64 who, .int .i64 i, .int .u64 old, .int .u64 new] 34)) := (Below.refl _ _).alloc (Nat.le_refl _) _
  have HS : Hid (SeesU (w.alloc (.cells #[.int .i64 k, .int .i64 who, .int .i64 i, .int .u64 old, .int .u64 new] 34)) (w.alloc (.cells #[.int .i64 k, .int .i64 who, .int .i64 i, .int .u64 old, .int .u64 new] 34)).heap.size E m f) := (hs.below hb0 (Nat.le_refl _)).more hb0.size
  have HF : Hid (∀ i, i < m → 0 ≤ f i ∧ f i ≤ 18446744073709551615) := hf
  have hA : ActAt (w.alloc (.cells #[.int .i64 k, .int .i64 who, .int .i64 i, .int .u64 old, .int .u64 new] 34)) w.heap.size k who i old new := ⟨heap_alloc_new _ _⟩
  have hq : w.heap.size < (w.alloc (.cells #[.int .i64 k, .int .i64 who, .int .i64 i, .int .u64 old, .int .u64 new] 34)).heap.size := by simp
  clear hs hf
  go_enter Try.func4, Try.ntmps4
  go_wp2_with fail
  generalize hW : (w.alloc (.cells #[.int .i64 k, .int .i64 who, .int .i64 i, .int .u64 old, .int .u64 new] 34)) = W at hb0 HS hA hq ⊢
  clear hW
  go_at_call 18; refine (new_any W N (by omega)).mono ?_; rintro e w1 ⟨A1, cap1, c, b, rfl, hI1, hB1, h1, h2⟩
  have hI1w : Hid (Is w1 68 A1 cap1 c b N (fresh fun _ => 0)) := hI1
  have hI1d : Hid (Is w1.drew 68 A1 cap1 c b N (fresh fun _ => 0)) := hI1.below (Below.refl _ _).drew
  obtain ⟨Z, hmkN, hZ⟩ : ∃ Z : Array Value, (∀ w, (Instr.makeSlice 22 (.int .i64 N) (.int .i64 N)).run Try.prog w = .ok (.slice (some ⟨w.heap.size, 0, none⟩) N N) (w.alloc (.cells Z 32))) ∧ Hid (∀ w : World, Row (w.alloc (.cells Z 32)) w.heap.size N N (fun _ => 0)) := ⟨zs N, make_run N (by omega), zs_row N⟩
  have hI1a : Hid (Is (w1.drew.alloc (.cells Z 32)) 68 A1 cap1 c b N (fresh fun _ => 0)) := hI1d.out.below ((Below.refl _ _).alloc (Nat.le_refl _) _)
  have hBd : Below W.heap.size W w1.drew := hB1.drew
  have hBw : Below W.heap.size W w1 := hB1
  clear hI1 hB1 h1 h2
  go_wp2_with fail
  have HIS : Hid (∀ Y, Below w1.heap.size w1 Y → Is Y 68 A1 cap1 c b N (fresh fun _ => 0)) := fun Y hY => hI1w.out.below hY
  have hH : Hid (Below w1.heap.size w1 w1.drew) := (Below.refl _ _).drew
  have KEEP : Hid (∀ Y w' : World, Below w1.heap.size w1 Y → Below Y.heap.size Y w' → Below w1.heap.size w1 w') := fun Y w' h k => h.trans (k.mono h.size)
  have KEEPA : Hid (∀ (Y : World) (o : Obj), Below w1.heap.size w1 Y → Below w1.heap.size w1 (Y.alloc o)) := fun Y o h => h.alloc h.size o
  clear hI1d hI1a
  go_region_held3 (fun w' => Below w1.heap.size w1 w') (first | exact hH | assumption | exact KEEPA.out _ _ ‹_› | exact KEEP.out _ _ ‹_› ‹_›) (first | (go_at_call 17; refine (len_any _ A1 cap1 c b N (fresh fun _ => 0) (HIS.out _ (by simp only [*]))).mono ?_; rintro e w3 ⟨rfl, rfl⟩) | (go_at_call 16; refine (words_any _ A1 cap1 c b N (fresh fun _ => 0) (HIS.out _ (by simp only [*])) (by omega)).mono ?_; rintro e w4 ⟨A4, cap4, rfl, hs4, hb4⟩) | (go_at_call 15; refine (sameB_any _ A4 _ N cap4 _ (fun _ => 0) (by omega) (by first | exact hs4 | exact sees_more hs4 _) (by first | exact (hZ.out w4).sees | exact made_sees (hZ.out _) hb4)).mono ?_; rintro e w5 ⟨rfl, hb5⟩))
  all_goals
    rename_i hHeld
    have hX : Below W.heap.size W w5 := hBw.trans (hHeld.mono hBw.size)
    clear hs4 hb4 hb5 hZ HIS hH KEEP KEEPA hmkN hHeld hBw hBd hI1w
    generalize w5 = X at hX ⊢
    go_upto_region 11 with fail
    have hmk := make_run m (by omega) X
    have hR0 : Row (X.alloc (.cells (zs m) 32)) X.heap.size m 0 f := ⟨zs m, heap_alloc_new _ _, size_madeCells _ _, fun i hi => absurd hi (Nat.not_lt_zero i)⟩
    have hX1 := hX.alloc hX.size (.cells (zs m) 32)
    have hgX := hX.size
    go_wp2_with fail
    clear hmk
    generalize X.alloc (.cells (zs m) 32) = X1 at hR0 hX1
    generalize X.heap.size = g at hR0 hgX
    clear hX
    go_loopw [11] (fun x wr => ∃ j : Nat, j ≤ m ∧ x = .int .i64 j ∧ Row wr g m j f ∧ Below W.heap.size W wr) (fun x _ => m - (intOf x).toNat)
    case atStart => exact ⟨0, Nat.zero_le _, rfl, hR0, hX1⟩
    case round =>
      obtain ⟨j, hj, rfl, hR, hB⟩ := hrel
      clear hR0 hX1
      by_cases hlt : j < m
      · obtain ⟨b9, off9, rfl, hb9, hcell9⟩ := HS.out (by omega)
        have e0 : wr.cell? ⟨b9, off9 + j, none⟩ = some (.int .u64 (f j)) := (hB.cell (p := ⟨b9, off9 + j, none⟩) hb9).trans (hcell9 j hlt)
        obtain ⟨v0, hv0⟩ := hR.there j hlt
        have hz := hR.frozen j
        have hR' := hR.set hlt
        have hB' := hB.setCell (p := ⟨g, j, none⟩) hgX (.int .u64 (f j))
        clear hcell9 hR hB
        go_wp2_with fail
        go_roundw
        case rel => exact ⟨j + 1, by omega, by go_num, hR', hB'⟩
        case measure => simp [intOf]; omega
      · obtain rfl : j = m := by omega
        have hgl := hR.lt
        go_wp2_with fail
        go_at_call 11; refine (of_any wr _ j j f (by omega) (fun h => by cases h) hR.sees HF.out).mono ?_; rintro e w2 ⟨A2, cap2, c2, b2, rfl, hI2, hb2, h1, h2, h3⟩
        have hR2 := (hR.below hb2 hgl).none_
        have hB2 := hB.trans (hb2.mono hB.size)
        have hne2 : g ≠ c2 ∧ g ≠ b2 := ⟨by omega, by omega⟩
        clear hR hB hb2
        go_wp2_with fail
        go_loopw [14] (fun x wx => ∃ t : Nat, t ≤ j ∧ x = .int .i64 t ∧ Row wx g j 0 f ∧ Is wx 68 A2 cap2 c2 b2 j (fresh f) ∧ Below W.heap.size W wx) (fun x _ => j - (intOf x).toNat)
        case atStart => exact ⟨0, Nat.zero_le _, rfl, hR2, hI2, hB2⟩
        case round =>
          obtain ⟨t, ht, rfl, hR3, hI3, hB3⟩ := hrel
          clear hR2 hI2 hB2
          by_cases hlt2 : t < j
          · obtain ⟨v0, hv0⟩ := hR3.there t hlt2
            have hz := hR3.frozen t
            have hR4 := hR3.wipe t (.int .u64 77)
            have hI4 : Is (wr.setCell ⟨g, t, none⟩ (.int .u64 77)) 68 A2 cap2 c2 b2 j (fresh f) := hI3.keep (Nat.le_of_eq (size_set _ _ _).symm) (heap_set_ne _ (Ne.symm hne2.1) _ _) (fun _ => heap_set_ne _ (Ne.symm hne2.2) _ _)
            have hB4 := hB3.setCell (p := ⟨g, t, none⟩) hgX (.int .u64 77)
            clear hR3 hI3 hB3
            go_wp2_with fail
            go_roundw
            case rel => exact ⟨t + 1, by omega, by go_num, hR4, hI4, hB4⟩
            case measure => simp [intOf]; omega
          · obtain rfl : t = j := by omega
            have hact : ∀ Y, Below W.heap.size W Y → ActAt Y w.heap.size k who i old new := fun Y hY => ⟨(hY.block _ hq).trans hA.blk⟩
            have HACT : Hid (∀ Y, Below W.heap.size W Y → ActAt Y w.heap.size k who i old new) := hact
            clear hact hA hR3 h1 h2 h3 hne2
            obtain ⟨x0, x1, x2, x3, x4⟩ := (HACT.out _ hB3).cells
            go_wp2_with fail
            go_at_call 19; refine (store_nil _ who i new).mono ?_; rintro e y1 ⟨⟨v, rfl⟩, hy1⟩
            have hY1 := hB3.trans (hy1.mono hB3.size)
            have hO1 := hI3.below hy1
            clear x0 x1 x2 x3 x4 hy1 hI3 hB3
            obtain ⟨x0, x1, x2, x3, x4⟩ := (HACT.out _ hY1).cells
            go_wp2_with fail
            go_at_call 20; refine (peek_nil _ i).mono ?_; rintro e y2 ⟨rfl, rfl⟩
            go_wp2_with fail
            go_at_call 10; refine (awake_any _).mono ?_; rintro e y3 ⟨rfl, hy3⟩
            have hY3 := hY1.trans (hy3.mono hY1.size)
            have hO3 := hO1.below hy3
            clear x0 x1 x2 x3 x4 hy3 hO1 hY1
            go_wp2_with fail
            go_at_call 16; refine (words_any _ A2 cap2 c2 b2 t (fresh f) hO3 (by omega)).mono ?_; rintro e y4 ⟨A4, cap4, rfl, hs4, hy4⟩
            have hY4 := hY3.trans (hy4.mono hY3.size)
            clear hy4 hY3 hO3
            go_wp2_with fail
            go_at_call 15; refine (same_any _ A4 E t cap4 cp f (by omega) hs4 ((HS.out.below hY4 (Nat.le_refl _)).more hY4.size)).mono ?_; rintro e y5 ⟨rfl, m5, rfl⟩
            have hY5 := Below.drewN' hY4 m5
            clear hs4 hY4 HS
            generalize y4.drewN m5 = y5 at hY5
            obtain ⟨x0, x1, x2, x3, x4⟩ := (HACT.out _ hY5).cells
            go_wp2_with fail
            go_at_call 21; refine (load_nil _ who i).mono ?_; rintro e y6 ⟨rfl, hy6⟩
            have hY6 := hY5.trans (hy6.mono hY5.size)
            clear x0 x1 x2 x3 x4 hy6 hY5
            obtain ⟨x0, x1, x2, x3, x4⟩ := (HACT.out _ hY6).cells
            go_wp2_with fail
            go_at_call 22; refine (swap_nil _ who i old new).mono ?_; rintro e y7 ⟨rfl, hy7⟩
            have hY7 := hY6.trans (hy7.mono hY6.size)
            clear x0 x1 x2 x3 x4 hy7 hY6
            obtain ⟨x0, x1, x2, x3, x4⟩ := (HACT.out _ hY7).cells
            go_wp2_with fail
            go_at_call 23; refine (add_nil _ who i new).mono ?_; rintro e y8 ⟨rfl, hy8⟩
            have hY8 := hY7.trans (hy8.mono hY7.size)
            clear x0 x1 x2 x3 x4 hy8 hY7 HACT
            go_wp2_with fail
            go_at_call 16; refine (words_nil _).mono ?_; rintro e y9 ⟨rfl, rfl⟩
            go_wp2_with fail
            go_at_call 17; refine (len_nil _).mono ?_; rintro e y9 ⟨rfl, rfl⟩
            go_wp2_with fail
            go_at_call 24; refine (clock_nil _).mono ?_; rintro e y9 ⟨rfl, rfl⟩
            go_wp2_with fail
            go_at_call 25; refine (bad_nil _).mono ?_; rintro e y9 ⟨rfl, rfl⟩
            go_wp2_with fail
            go_at_call 26; refine (lastn_spelt _).mono ?_; rintro e y9 ⟨rfl, hy9⟩
            go_wp2_with fail
            go_ret
            exact ⟨rfl, hb0.trans ((hY8.trans (hy9.mono hY8.size)).mono hb0.size)⟩
end Go.Proofs.Ytmjonifiohcobaa
