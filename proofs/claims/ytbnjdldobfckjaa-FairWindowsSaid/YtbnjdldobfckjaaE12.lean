/- The document's Window; FairWindows' walk. -/
import Derived.Test.YtbnjdldobfckjaaE11
namespace Go.Proofs.Ytbnjdldobfckjaa
open Go Go.RowKit Go.Maps
set_option linter.unusedVariables false
set_option linter.unusedSimpArgs false
set_option maxRecDepth 100000

set_option maxHeartbeats 2000000 in
theorem refWindow_any (w : World) (P G : Int) (T n cap : Nat) (A : Option Addr) (l : Nat → En) (hT : T ≤ 256) (hn : n ≤ 60) (hcap : n ≤ cap) (hcap2 : cap ≤ 9223372036854775807) (hs : Sees w A n l) :
    Calls Try.prog 13 #[.agg #[.int .i64 P, .int .i64 (T : Int), .int .i64 G], .slice A n cap] w fun e w' => e = .returned (.int .i64 (winN T l n : Nat)) ∧ Below w.heap.size w w' := by
  have hb0 := (Below.refl w.heap.size w).alloc (Nat.le_refl _) (.cells #[.int .i64 P, .int .i64 (T : Int), .int .i64 G] 23)
  have HB := Lib.hid hb0
  have HS := Lib.hid (hs.bel hb0)
  have HBX := Lib.hid (heap_alloc_new w (.cells #[.int .i64 P, .int .i64 (T : Int), .int .i64 G] 23))
  have HLT := Lib.hid (show w.heap.size < (w.alloc (.cells #[.int .i64 P, .int .i64 (T : Int), .int .i64 G] 23)).heap.size by rw [size_al]; omega)
  clear hs hb0
  go_enter Try.func13, Try.ntmps13
  go_wp2_with fail
  generalize hW : w.alloc (.cells #[.int .i64 P, .int .i64 (T : Int), .int .i64 G] 23) = W at *
  clear hW
  go_loopw [5] (fun i wr => ∃ v : Nat, 1 ≤ v ∧ v ≤ n + 1 ∧ i = .int .i64 v ∧ Below W.heap.size W wr ∧ ∀ u, 1 ≤ u → u < v → gap T l n u) (fun i _ => n + 1 - (intOf i).toNat)
  case atStart => exact ⟨1, by omega, by omega, rfl, Below.refl _ _, fun u a b => absurd b (by omega)⟩
  case round =>
    obtain ⟨v, h1, hv, rfl, hb, hg⟩ := hrel
    have HBL := Lib.hid hb
    have HG := Lib.hid hg
    clear hb hg
    by_cases hlt : v ≤ n
    · have hvi : (v : Int) ≤ (n : Int) := by omega
      obtain ⟨b, off, rfl, _⟩ := HS.out (by omega)
      go_wp2_with fail
      go_loopw [6, 7] (fun a i wr => ∃ (t : Bool) (i' : Nat), a = .bool t ∧ i = .int .i64 i' ∧ i' + v ≤ n + 1 ∧ Below W.heap.size W wr ∧ (t = true → ∀ k, k < i' → k + v ≤ n → fairB T (fun q => l (k + q)) v = true) ∧ (t = false → gap T l n v)) (fun _ i _ => n + 1 - (intOf i).toNat)
      case atStart => exact ⟨true, 0, rfl, rfl, by omega, HBL.out, fun _ k hk => absurd hk (Nat.not_lt_zero _), fun h => by cases h⟩
      case round =>
        obtain ⟨t, i, rfl, rfl, hi, hb, ht, hf⟩ := hrel
        have HBU := Lib.hid hb
        have HTT := Lib.hid ht
        have HFF := Lib.hid hf
        clear hb ht hf HBL
        by_cases hiv : i + v ≤ n
        · have hiv2 : (i : Int) + (v : Int) ≤ (n : Int) := by omega
          cases t
          · have HGV := Lib.hid (HFF.out rfl)
            go_wp2_with fail
            go_roundw
            case rel => exact ⟨v + 1, by omega, by omega, by go_num, HBU.out, fun u a c => by
              by_cases e : u = v
              · subst e; exact HGV.out
              · exact HG.out u a (by omega)⟩
            case measure => simp [intOf]; omega
          · obtain ⟨wc, hwc⟩ : ∃ X, X = wr := ⟨_, rfl⟩
            subst hwc
            obtain ⟨c0, c1, c2⟩ := cfg_cells (w := w) ((HBU.out.block w.heap.size HLT.out).trans HBX.out)
            have hlw : w.heap.size < wc.heap.size := by have := HBU.out.size; have := HLT.out; omega
            have hH : Hid (wc.drew.cell? ⟨w.heap.size, 0, none⟩ = some (.int .i64 P) ∧ wc.drew.cell? ⟨w.heap.size, 1, none⟩ = some (.int .i64 (T : Int)) ∧ wc.drew.cell? ⟨w.heap.size, 2, none⟩ = some (.int .i64 G) ∧ Below wc.heap.size wc wc.drew) := ⟨c0, c1, c2, (Below.refl _ _).drew⟩
            have KEEP : Hid (∀ Y w' : World, (Y.cell? ⟨w.heap.size, 0, none⟩ = some (.int .i64 P) ∧ Y.cell? ⟨w.heap.size, 1, none⟩ = some (.int .i64 (T : Int)) ∧ Y.cell? ⟨w.heap.size, 2, none⟩ = some (.int .i64 G) ∧ Below wc.heap.size wc Y) → Below Y.heap.size Y w' → (w'.cell? ⟨w.heap.size, 0, none⟩ = some (.int .i64 P) ∧ w'.cell? ⟨w.heap.size, 1, none⟩ = some (.int .i64 (T : Int)) ∧ w'.cell? ⟨w.heap.size, 2, none⟩ = some (.int .i64 G) ∧ Below wc.heap.size wc w')) := by
              show ∀ _ _, _
              rintro Y w' ⟨e1, e2, e3, hb⟩ hB
              have hs := hb.size
              exact ⟨(hB.cell (p := ⟨w.heap.size, 0, none⟩) (by show w.heap.size < _; omega)).trans e1, (hB.cell (p := ⟨w.heap.size, 1, none⟩) (by show w.heap.size < _; omega)).trans e2, (hB.cell (p := ⟨w.heap.size, 2, none⟩) (by show w.heap.size < _; omega)).trans e3, hb.trans (hB.mono hs)⟩
            have HSV := Lib.hid (show ∀ X, Below wc.heap.size wc X → Sees X (some ⟨b, off + i * 2, none⟩) v (fun q => l (i + q)) from fun X hX => ((HS.out.bel HBU.out).sub i v (by omega)).bel hX)
            have hic : i < cap := by omega
            have hic2 : ¬ (cap - i = 0) := by omega
            have hwr : IntKind.i64.wrap ((i : Int) + (v : Int)) = (i : Int) + (v : Int) := IntWalk.i64_in _ (by omega)
            have hi0 : (0 : Int) ≤ (i : Int) + (v : Int) := by omega
            have hi1 : (i : Int) + (v : Int) ≤ (cap : Int) := by omega
            have his : (i : Int) ≤ (i : Int) + (v : Int) := by omega
            have hne : ¬ cap = i := by omega
            have hvl : ((i : Int) + (v : Int)).toNat - i = v := by omega
            clear hic2 hic
            go_wp2_with fail
            go_region_held3 (fun w' => w'.cell? ⟨w.heap.size, 0, none⟩ = some (.int .i64 P) ∧ w'.cell? ⟨w.heap.size, 1, none⟩ = some (.int .i64 (T : Int)) ∧ w'.cell? ⟨w.heap.size, 2, none⟩ = some (.int .i64 G) ∧ Below wc.heap.size wc w') (first | exact hH | assumption | exact KEEP.out _ _ ‹_› ‹_›) (first | (go_at_call 12; refine (refRight_any _ P G T v (cap - i) (some ⟨b, off + i * 2, none⟩) (fun q => l (i + q)) hT (by omega) (HSV.out _ (by simp only [*]))).mono ?_; rintro e z1 ⟨rfl, hz1⟩))
            rename_i hS
            have HBS := Lib.hid (HBU.out.trans (hS.2.2.2.mono HBU.out.size))
            clear hS hH KEEP c0 c1 c2 HSV
            cases hfb : fairB T (fun q => l (i + q)) v
            · have HNF := Lib.hid (show gap T l n v from ⟨i, hiv, hfb⟩)
              clear hfb
              go_wp2_with fail
              go_roundw
              case rel => exact ⟨false, i + 1, rfl, by go_num, by omega, HBS.out, (fun h => by cases h), fun _ => HNF.out⟩
              case measure => simp [intOf]; omega
            · have HYF := Lib.hid (show ∀ k, k < i + 1 → k + v ≤ n → fairB T (fun q => l (k + q)) v = true from fun k hk hkv => by
                by_cases e : k = i
                · subst e; exact hfb
                · exact HTT.out trivial k (by omega) hkv)
              clear hfb
              go_wp2_with fail
              go_roundw
              case rel => exact ⟨true, i + 1, rfl, by go_num, by omega, HBS.out, fun _ => HYF.out, fun h => by cases h⟩
              case measure => simp [intOf]; omega
        · have hiv2 : ¬ (i : Int) + (v : Int) ≤ (n : Int) := by omega
          cases t
          · have HGV := Lib.hid (HFF.out rfl)
            go_wp2_with fail
            go_roundw
            case rel => exact ⟨v + 1, by omega, by omega, by go_num, HBU.out, fun u a c => by
              by_cases e : u = v
              · subst e; exact HGV.out
              · exact HG.out u a (by omega)⟩
            case measure => simp [intOf]; omega
          · have HW := Lib.hid (win_found h1 hlt (fun k hk => HTT.out rfl k (by omega) hk) HG.out)
            go_wp2_with fail
            go_ret
            exact ⟨by rw [HW.out]; rfl, HB.out.trans (HBU.out.mono HB.out.size)⟩
    · obtain rfl : v = n + 1 := by omega
      have HW := Lib.hid (win_none HG.out)
      go_wp2_with fail
      go_ret
      exact ⟨by rw [HW.out]; rfl, HB.out.trans (HBL.out.mono HB.out.size)⟩
/-- Where the law is idle. -/
theorem windows_idle (P T G : Int) (n cap : Nat) (A : Option Addr) (W : World) (h : 4 < P ∨ 8 < T ∨ 60 < n) (hn : n ≤ 9223372036854775807) :
    Calls Try.prog 5 #[.agg #[.int .i64 P, .int .i64 T, .int .i64 G], .slice A n cap] W fun e w' => e = .returned (.bool true) ∧ Below W.heap.size W w' := by
  have HB := Lib.hid (fun o1 => ((Below.refl W.heap.size W).alloc (Nat.le_refl _) o1))
  rcases (show 4 < P ∨ (P ≤ 4 ∧ 8 < T) ∨ (P ≤ 4 ∧ T ≤ 8 ∧ (60 : Int) < (n : Int)) by omega) with h | ⟨h1, h2⟩ | ⟨h1, h2, h3⟩
  all_goals
    go_enter Try.func5, Try.ntmps5
    go_wp2_with fail
    go_at_call 8; refine (awake_any _).mono ?_; rintro e w3 ⟨rfl, hb3⟩
    have HB3 := Lib.hid ((HB.out (.cells #[.int .i64 P, .int .i64 T, .int .i64 G] 23)).trans (hb3.mono (by rw [size_al]; omega)))
    clear hb3
    go_wp2_with fail
    go_ret
    exact ⟨rfl, HB3.out⟩
set_option maxHeartbeats 1000000 in
theorem windows_bad (P T G : Int) (n cap : Nat) (A : Option Addr) (l : Nat → En) (W : World) (h : P ≤ 4 ∧ T ≤ 8 ∧ n ≤ 60) (hm : mayB P T G = false) (hs : Sees W A n l) (hl : ∀ i, i < n → EnOk (l i)) :
    Calls Try.prog 5 #[.agg #[.int .i64 P, .int .i64 T, .int .i64 G], .slice A n cap] W fun e w' => e = .returned (.bool true) ∧ Below W.heap.size W w' := by
  have HB := Lib.hid (fun o1 => ((Below.refl W.heap.size W).alloc (Nat.le_refl _) o1))
  have HS := Lib.hid hs
  obtain ⟨h1, h2, h3⟩ := h
  have h3' : (n : Int) ≤ 60 := by omega
  clear hs
  go_enter Try.func5, Try.ntmps5
  go_wp2_with fail
  go_at_call 7; refine (ref_may _ P T G).mono ?_; rintro e w1 ⟨rfl, hb1⟩
  rw [hm]
  have HB1 := Lib.hid ((HB.out (.cells #[.int .i64 P, .int .i64 T, .int .i64 G] 23)).trans (hb1.mono (by rw [size_al]; omega)))
  have hbx := (hb1.block W.heap.size (by rw [size_al]; omega)).trans (heap_alloc_new W _)
  clear hb1
  go_wp2_with fail
  go_at_call 8; refine (awake_any _).mono ?_; rintro e w2 ⟨rfl, hb2⟩
  have HB2 := Lib.hid (HB1.out.trans (hb2.mono HB1.out.size))
  have hbx2 := (hb2.block W.heap.size (block_lt hbx)).trans hbx
  obtain ⟨c0, c1, c2⟩ := cfg_cells (w := W) hbx2
  clear hb2 hbx HB1
  go_wp2_with fail
  go_at_call 10; refine (right_not _ P T G n cap A l hm (by omega) hl (HS.out.bel HB2.out)).mono ?_; rintro e w3 ⟨rfl, hb3⟩
  have HB3 := Lib.hid (HB2.out.trans (hb3.mono HB2.out.size))
  have hbx3 := (hb3.block W.heap.size (block_lt hbx2)).trans hbx2
  clear c0 c1 c2
  obtain ⟨c0, c1, c2⟩ := cfg_cells (w := W) hbx3
  clear hb3 hbx2 HB2
  go_wp2_with fail
  go_at_call 11; refine (window_not _ P T G n cap A l hm (by omega) hl (HS.out.bel HB3.out)).mono ?_; rintro e w4 ⟨rfl, hb4⟩
  have HB4 := Lib.hid (HB3.out.trans (hb4.mono HB3.out.size))
  have hbx4 := (hb4.block W.heap.size (block_lt hbx3)).trans hbx3
  clear c0 c1 c2
  obtain ⟨c0, c1, c2⟩ := cfg_cells (w := W) hbx4
  clear hb4 hbx3 HB3
  go_wp2_with fail
  go_at_call 9; refine (round_no _ P T G hm).mono ?_; rintro e w5 ⟨rfl, hb5⟩
  have HB5 := Lib.hid (HB4.out.trans (hb5.mono HB4.out.size))
  clear hb5 c0 c1 c2
  go_wp2_with fail
  go_ret
  exact ⟨rfl, HB5.out⟩
set_option maxHeartbeats 2000000 in
theorem windows_ok (P G : Int) (T n cap : Nat) (A : Option Addr) (l : Nat → En) (W : World) (h : P ≤ 4 ∧ T ≤ 8 ∧ n ≤ 60) (hm : mayB P T G = true) (hcap : n ≤ cap) (hcap2 : cap ≤ 9223372036854775807) (hs : Sees W A n l) (hl : ∀ i, i < n → EnOk (l i)) :
    Calls Try.prog 5 #[.agg #[.int .i64 P, .int .i64 (T : Int), .int .i64 G], .slice A n cap] W fun e w' => e = .returned (.bool true) ∧ Below W.heap.size W w' := by
  have HB := Lib.hid (fun o1 => ((Below.refl W.heap.size W).alloc (Nat.le_refl _) o1))
  have HS := Lib.hid hs
  have HL := Lib.hid hl
  obtain ⟨h1, h2, h3⟩ := h
  have h2' : (T : Int) ≤ 8 := by omega
  have h3' : (n : Int) ≤ 60 := by omega
  clear hs hl
  go_enter Try.func5, Try.ntmps5
  go_wp2_with fail
  go_at_call 7; refine (ref_may _ P T G).mono ?_; rintro e w1 ⟨rfl, hb1⟩
  rw [hm]
  have HB1 := Lib.hid ((HB.out (.cells #[.int .i64 P, .int .i64 (T : Int), .int .i64 G] 23)).trans (hb1.mono (by rw [size_al]; omega)))
  have hbx := (hb1.block W.heap.size (by rw [size_al]; omega)).trans (heap_alloc_new W _)
  obtain ⟨c0, c1, c2⟩ := cfg_cells (w := W) hbx
  have hlw := block_lt hbx
  have HSX := Lib.hid (HS.out.bel HB1.out)
  clear hb1 hbx
  have W3 := Lib.hid (show ∀ X, Below w1.heap.size w1 X → Calls Try.prog 10 #[.agg #[.int .i64 P, .int .i64 (T : Int), .int .i64 G], .slice A n cap] X fun e w' => e = .returned (.bool (fairB T l n)) ∧ Below X.heap.size X w' from fun X hX => right_may X P G T n cap A l hm (by omega) HL.out (HSX.out.bel hX))
  have W4 := Lib.hid (show ∀ X, Below w1.heap.size w1 X → Calls Try.prog 12 #[.agg #[.int .i64 P, .int .i64 (T : Int), .int .i64 G], .slice A n cap] X fun e w' => e = .returned (.bool (fairB T l n)) ∧ Below X.heap.size X w' from fun X hX => refRight_any X P G T n cap A l (by omega) (by omega) (HSX.out.bel hX))
  have W5 := Lib.hid (show ∀ X, Below w1.heap.size w1 X → Calls Try.prog 11 #[.agg #[.int .i64 P, .int .i64 (T : Int), .int .i64 G], .slice A n cap] X fun e w' => e = .returned (.int .i64 (winN T l n : Nat)) ∧ Below X.heap.size X w' from fun X hX => window_may X P G T n cap A l hm (by omega) HL.out (HSX.out.bel hX))
  have W6 := Lib.hid (show ∀ X, Below w1.heap.size w1 X → Calls Try.prog 13 #[.agg #[.int .i64 P, .int .i64 (T : Int), .int .i64 G], .slice A n cap] X fun e w' => e = .returned (.int .i64 (winN T l n : Nat)) ∧ Below X.heap.size X w' from fun X hX => refWindow_any X P G T n cap A l (by omega) h3 hcap hcap2 (HSX.out.bel hX))
  have hH : Hid (w1.drew.cell? ⟨W.heap.size, 0, none⟩ = some (.int .i64 P) ∧ w1.drew.cell? ⟨W.heap.size, 1, none⟩ = some (.int .i64 (T : Int)) ∧ w1.drew.cell? ⟨W.heap.size, 2, none⟩ = some (.int .i64 G) ∧ Below w1.heap.size w1 w1.drew) := ⟨c0, c1, c2, (Below.refl _ _).drew⟩
  have KEEP : Hid (∀ Y w' : World, (Y.cell? ⟨W.heap.size, 0, none⟩ = some (.int .i64 P) ∧ Y.cell? ⟨W.heap.size, 1, none⟩ = some (.int .i64 (T : Int)) ∧ Y.cell? ⟨W.heap.size, 2, none⟩ = some (.int .i64 G) ∧ Below w1.heap.size w1 Y) → Below Y.heap.size Y w' → (w'.cell? ⟨W.heap.size, 0, none⟩ = some (.int .i64 P) ∧ w'.cell? ⟨W.heap.size, 1, none⟩ = some (.int .i64 (T : Int)) ∧ w'.cell? ⟨W.heap.size, 2, none⟩ = some (.int .i64 G) ∧ Below w1.heap.size w1 w')) := by
    show ∀ _ _, _
    rintro Y w' ⟨e1, e2, e3, hb⟩ hB
    have hs := hb.size
    exact ⟨(hB.cell (p := ⟨W.heap.size, 0, none⟩) (by show W.heap.size < _; omega)).trans e1, (hB.cell (p := ⟨W.heap.size, 1, none⟩) (by show W.heap.size < _; omega)).trans e2, (hB.cell (p := ⟨W.heap.size, 2, none⟩) (by show W.heap.size < _; omega)).trans e3, hb.trans (hB.mono hs)⟩
  generalize fairB T l n = fb at W3 W4
  generalize winN T l n = wn at W5 W6
  go_wp2_with fail
  go_region_held3 (fun w' => w'.cell? ⟨W.heap.size, 0, none⟩ = some (.int .i64 P) ∧ w'.cell? ⟨W.heap.size, 1, none⟩ = some (.int .i64 (T : Int)) ∧ w'.cell? ⟨W.heap.size, 2, none⟩ = some (.int .i64 G) ∧ Below w1.heap.size w1 w') (first | exact hH | assumption | exact KEEP.out _ _ ‹_› ‹_›) (first | (go_at_call 8; refine (awake_any _).mono ?_; rintro e z0 ⟨rfl, hz0⟩) | (go_at_call 10; (with_reducible refine (W3.out _ ?hb).mono ?_); (case hb => simp only [*]); rintro e z1 ⟨rfl, hz1⟩) | (go_at_call 12; (with_reducible refine (W4.out _ ?hb).mono ?_); (case hb => simp only [*]); rintro e z2 ⟨rfl, hz2⟩) | (go_at_call 11; (with_reducible refine (W5.out _ ?hb).mono ?_); (case hb => simp only [*]); rintro e z3 ⟨rfl, hz3⟩) | (go_at_call 13; (with_reducible refine (W6.out _ ?hb).mono ?_); (case hb => simp only [*]); rintro e z4 ⟨rfl, hz4⟩))
  rename_i hS
  go_wp2_with fail
  go_ret
  exact ⟨ret_bool (by simp), HB1.out.trans (hS.2.2.2.mono HB1.out.size)⟩
theorem fairWindows_walk (P T G : Int) (n cap : Nat) (A : Option Addr) (l : Nat → En) (W : World) (hcap : n ≤ cap) (hA : A = none → cap = 0) (hcap2 : cap ≤ 9223372036854775807) (hl : ∀ i, i < n → EnOk (l i)) (hs : Sees W A n l) :
    Calls Try.prog 5 #[.agg #[.int .i64 P, .int .i64 T, .int .i64 G], .slice A n cap] W fun e w' => e = .returned (.bool true) ∧ Below W.heap.size W w' := by
  by_cases h : 4 < P ∨ 8 < T ∨ 60 < n
  · exact windows_idle P T G n cap A W h (by omega)
  · cases hm : mayB P T G
    · exact windows_bad P T G n cap A l W (by omega) hm hs hl
    · have := mayB_true hm
      obtain ⟨t, rfl⟩ : ∃ t : Nat, T = (t : Int) := ⟨T.toNat, by omega⟩
      exact windows_ok P G t n cap A l W (by omega) hm hcap hcap2 hs hl
end Go.Proofs.Ytbnjdldobfckjaa
