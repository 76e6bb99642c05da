/- The walk of the law LayoutOne: numbers that are near. -/
import Derived.Test.YtmkmpphfieckoaaOne1
import Derived.Deep.CutRange
namespace Go.Proofs.Ytmkmpphfieckoaa
open Go Go.RowKit
set_option linter.unusedVariables false
set_option linter.unusedSimpArgs false

set_option maxHeartbeats 16000000 in
set_option maxRecDepth 100000 in
theorem layoutOne_near (P T G n f i : Int) (w : World) (bn : -9223372036854775808 ≤ n ∧ n ≤ 9223372036854775807) (bf : -9223372036854775808 ≤ f ∧ f ≤ 9223372036854775807) (hi : 0 ≤ i ∧ i ≤ 18446744073709551615) (h : May P T G) (hn0 : 0 ≤ n) (hn : n ≤ 70000) (hf : 0 ≤ f ∧ f ≤ 70000) : Calls Try.prog 5 #[.agg #[.int .i64 P, .int .i64 T, .int .i64 G], .agg #[.int .i64 n, .int .i64 f], .int .u64 i] w fun e w' => e = .returned (.bool true) ∧ Below w.heap.size w w' := by
  obtain ⟨hf1, hf2⟩ := hf
  obtain ⟨hm⟩ := id h
  have hR := refRight_any P T G
  rw [decide_eq_true h] at hR
  have HR : Hid _ := hR
  clear hR
  have e1 : wd 20 P 8 n f - 0 + (if 0 ≤ n ∧ n < P ∧ 0 ≤ f ∧ f < 8 then n * 256 else 0) = (if 0 ≤ n ∧ n < P ∧ 0 ≤ f ∧ f < 8 then 20 + n * 264 + f else -1) := by
    unfold wd
    by_cases h2 : 0 ≤ n ∧ n < P ∧ 0 ≤ f ∧ f < 8
    · rw [if_pos h2, if_pos h2, if_pos h2]; omega
    · rw [if_neg h2, if_neg h2, if_neg h2]; rfl
  have HO1 : Hid (∀ w, Calls Try.prog 28 #[.int .i64 n, .int .i64 P, .int .i64 f, .int .i64 8, .int .i64 (20 + n * 264 + f)] w fun e w' => e = .returned (.int .i64 (if 0 ≤ n ∧ n < P ∧ 0 ≤ f ∧ f < 8 then 20 + n * 264 + f else -1)) ∧ w = w') := fun w => one_any n P f 8 (20 + n * 264 + f) w
  have HO2 : Hid (∀ w, Calls Try.prog 28 #[.int .i64 n, .int .i64 T, .int .i64 f, .int .i64 3, .int .i64 (20 + P * 264 + n * 3 + f)] w fun e w' => e = .returned (.int .i64 (wd (20 + P * 264) T 3 n f)) ∧ w = w') := fun w => one_any n T f 3 (20 + P * 264 + n * 3 + f) w
  have HO3 : Hid (∀ w, Calls Try.prog 28 #[.int .i64 n, .int .i64 G, .int .i64 f, .int .i64 2, .int .i64 (20 + P * 264 + T * 3 + n * 2 + f)] w fun e w' => e = .returned (.int .i64 (wd (20 + P * 264 + T * 3) G 2 n f)) ∧ w = w') := fun w => one_any n G f 2 (20 + P * 264 + T * 3 + n * 2 + f) w
  have HPr : Hid (∀ (o : Option Addr) (w : World), LayO w P T G o → Calls Try.prog 21 #[.pointer o, .int .i64 n, .int .i64 f] w fun e w' => e = .returned (.int .i64 (if 0 ≤ n ∧ n < P ∧ 0 ≤ f ∧ f < 8 then 20 + n * 264 + f else -1)) ∧ Below w.heap.size w w') := fun o w hl => by rw [← e1]; exact proc_any o P T G n f w hl (by omega)
  have HTh : Hid (∀ (o : Option Addr) (w : World), LayO w P T G o → Calls Try.prog 23 #[.pointer o, .int .i64 n, .int .i64 f] w fun e w' => e = .returned (.int .i64 (wd (20 + P * 264) T 3 n f)) ∧ Below w.heap.size w w') := fun o w hl => thread_any o P T G n f w hl (by omega) (by omega)
  have HGo : Hid (∀ (o : Option Addr) (w : World), LayO w P T G o → Calls Try.prog 24 #[.pointer o, .int .i64 n, .int .i64 f] w fun e w' => e = .returned (.int .i64 (wd (20 + P * 264 + T * 3) G 2 n f)) ∧ Below w.heap.size w w') := fun o w hl => g_any o P T G n f w hl (by omega) (by omega) (by omega)
  generalize (if 0 ≤ n ∧ n < P ∧ 0 ≤ f ∧ f < 8 then 20 + n * 264 + f else -1) = pv at HO1 HPr
  generalize wd (20 + P * 264) T 3 n f = tv at HO2 HTh
  generalize wd (20 + P * 264 + T * 3) G 2 n f = gv at HO3 HGo
  clear e1

  have HRg : Hid (∀ (o : Option Addr) (w : World), LayO w P T G o → Calls Try.prog 22 #[.pointer o, .int .i64 n, .int .u64 i] w fun e w' => e = .returned (.int .i64 (if 0 ≤ n ∧ n < P then 28 + n * 264 + i % 256 else -1)) ∧ Below w.heap.size w w') := fun o w hl => ring_any o P T G n i w hl (by omega) hi
  have hrv : Hid ((n < P → (if 0 ≤ n ∧ n < P then 28 + n * 264 + i % 256 else -1) = 28 + n * 264 + i % 256) ∧ (¬ n < P → (if 0 ≤ n ∧ n < P then 28 + n * 264 + i % 256 else -1) = -1)) := ⟨fun h => if_pos ⟨hn0, h⟩, fun h => if_neg (fun k => h k.2)⟩
  generalize (if 0 ≤ n ∧ n < P then 28 + n * 264 + i % 256 else -1) = rv at HRg hrv
  have HLk : Hid (∀ w, Calls Try.prog 28 #[.int .i64 n, .int .i64 2, .int .i64 0, .int .i64 3, .int .i64 (3 * n)] w fun e w' => e = .returned (.int .i64 (if 0 ≤ n ∧ n < 2 ∧ (0 : Int) ≤ 0 ∧ (0 : Int) < 3 then 3 * n else -1)) ∧ w = w') := fun w => one_any n 2 0 3 (3 * n) w
  have hlk : Hid ((n < 2 → (if 0 ≤ n ∧ n < 2 ∧ (0 : Int) ≤ 0 ∧ (0 : Int) < 3 then 3 * n else -1) = 3 * n) ∧ (¬ n < 2 → (if 0 ≤ n ∧ n < 2 ∧ (0 : Int) ≤ 0 ∧ (0 : Int) < 3 then 3 * n else -1) = -1)) := ⟨fun h => if_pos (by omega), fun h => if_neg (by omega)⟩
  generalize (if 0 ≤ n ∧ n < 2 ∧ (0 : Int) ≤ 0 ∧ (0 : Int) < 3 then 3 * n else -1) = lk at HLk hlk
  have hb0 : Below w.heap.size w ((w.alloc (.cells #[.int .i64 P, .int .i64 T, .int .i64 G] 23)).alloc (.cells #[.int .i64 n, .int .i64 f] 40)) := ((Below.refl _ _).alloc (Nat.le_refl _) _).alloc (by simp) _
  have hB0 : Box ((w.alloc (.cells #[.int .i64 P, .int .i64 T, .int .i64 G] 23)).alloc (.cells #[.int .i64 n, .int .i64 f] 40)) w.heap.size P T G := ⟨(heap_al _ (by simp) _).trans (heap_alloc_new _ _)⟩
  go_enter Try.func5, Try.ntmps5
  go_wp2_with fail
  go_quiet (fail)
  generalize hX : (((w.alloc (.cells #[.int .i64 P, .int .i64 T, .int .i64 G] 23)).alloc (.cells #[.int .i64 n, .int .i64 f] 40)).drewN nq) = X
  have hbX : Below w.heap.size w X := by rw [← hX]; exact below_drewN hb0 nq
  have hBX : Box X w.heap.size P T G := by rw [← hX]; exact ⟨hB0.h⟩
  clear hX hb0 hB0
  obtain ⟨c0, c1, c2⟩ := hBX.cells
  go_wp2_with fail
  go_at_call 10; refine (of_ok P T G _ h).mono ?_; rintro e w1 ⟨c, rfl, hL1, hc, h1⟩
  have HL1 : Hid (Lay w1 c P T G) := hL1
  clear hL1 c0 c1 c2
  go_wp2_with fail
  go_at_call 21; refine (proc_nil n f _).mono ?_; rintro e w2 ⟨rfl, h2⟩
  have k2 := h2
  have h2 := seq h1 h2
  go_wp2_with fail
  go_at_call 22; refine (ring_nil n i _ hi).mono ?_; rintro e w3 ⟨rfl, h3⟩
  have k3 := seq k2 h3
  have h3 := seq h2 h3
  go_wp2_with fail
  go_at_call 23; refine (thread_nil n f _).mono ?_; rintro e w4 ⟨rfl, h4⟩
  have k4 := seq k3 h4
  have h4 := seq h3 h4
  go_wp2_with fail
  go_at_call 24; refine (g_nil n f _).mono ?_; rintro e w5 ⟨rfl, h5⟩
  have k5 := seq k4 h5
  have h5 := seq h4 h5
  go_wp2_with fail
  go_at_call 25; refine (lword_nil f _).mono ?_; rintro e w6 ⟨rfl, rfl⟩
  go_wp2_with fail
  go_at_call 26; refine (ticket_nil n _).mono ?_; rintro e w7 ⟨rfl, h7⟩
  have k7 := seq k5 h7
  have h7 := seq h5 h7
  have hB7 := hBX.below h7
  obtain ⟨c0, c1, c2⟩ := hB7.cells
  go_wp2_with fail
  go_at_call 11; refine (HR.out _).mono ?_; rintro e w8 ⟨rfl, h8⟩
  have hB8 := hB7.below h8
  have k8 := seq k7 h8
  have hL8 : Lay w8 c P T G := Lay.below HL1.out k8 (Lay.lt HL1.out)
  have h8 := hbX.trans ((seq h7 h8).mono hbX.size)
  clear h1 h2 h3 h4 h5 h7 k2 k3 k4 k5 k7 k8 hB7 hBX hbX c0 c1 c2 HL1
  obtain ⟨c0, c1, c2⟩ := hB8.cells
  go_upto_region 8 with fail
  go_cut [12] from 71 to 78 (fun v wx => v = .bool (decide (n < P)) ∧ wx = w8)
  case first =>
    go_wp2_with fail
    all_goals
      go_meet
      case rel => exact ⟨congrArg Value.bool (by simp [*]), rfl⟩
  case rest =>
  obtain ⟨rfl, hw⟩ := hcut
  subst hw
  go_upto_if 79 with fail
  go_cut [12, 13] from 71 to 82 (fun u v wx => v = .int .i64 rv ∧ wx = wc)
  case first =>
    by_cases hnp : n < P
    · have hkb : decide (n < P) = true := by simpa using hnp
      have e1 := hrv.out.1 (by omega)
      go_wp2_with fail
      go_at_call 27; refine (refRing_any n i _ (by omega) hi).mono ?_; rintro e y1 ⟨rfl, rfl⟩
      go_wp2_with fail
      go_meet
      case rel => exact ⟨by rw [e1], rfl⟩
    · have hkb : decide (n < P) = false := by simpa using hnp
      have e1 := hrv.out.2 (by omega)
      go_wp2_with fail
      go_meet
      case rel => exact ⟨by rw [e1], rfl⟩
  case rest =>
  obtain ⟨rfl, hw⟩ := hcut
  subst hw
  clear hrv c0 c1 c2
  go_wp2_with fail
  go_at_call 22; refine (HRg.out _ _ (.some c hL8)).mono ?_; rintro e w10 ⟨rfl, h10⟩
  have hL10 := hL8.below h10 hL8.lt
  have hB10 := hB8.below h10
  have h10 := h8.trans (h10.mono h8.size)
  clear h8 hL8 hB8 HRg
  go_upto_region 17 with fail
  have HWd : Hid (∀ w, Calls Try.prog 25 #[.pointer (some ⟨c, 0, none⟩), .int .i64 f] w fun e w' => e = .returned (.int .i64 (if 6 ≤ f ∧ f ≤ 19 then f else -1)) ∧ w = w') := fun w => lword_some c f w
  have hvw : Hid ((6 ≤ f ∧ f ≤ 19 → f = (if 6 ≤ f ∧ f ≤ 19 then f else -1)) ∧ (¬ (6 ≤ f ∧ f ≤ 19) → (-1 : Int) = (if 6 ≤ f ∧ f ≤ 19 then f else -1))) := ⟨fun h => (if_pos h).symm, fun h => (if_neg h).symm⟩
  generalize (if 6 ≤ f ∧ f ≤ 19 then f else -1) = vw at HWd hvw
  go_cut [130] from 71 to 130 (fun v wx => v = .bool (decide (6 ≤ f ∧ f ≤ 19)) ∧ wx = w10)
  case first =>
    go_wp2_with fail
    all_goals
      go_meet
      case rel => exact ⟨congrArg Value.bool (by simp; try omega), rfl⟩
  case rest =>
  obtain ⟨rfl, hw⟩ := hcut
  subst hw
  go_upto_if 130 with fail
  go_cut [14] from 71 to 131 (fun v wx => v = .int .i64 vw ∧ wx = wc)
  case first =>
    by_cases hq : 6 ≤ f ∧ f ≤ 19
    · rw [decide_eq_true hq]
      go_wp2_with fail
      go_meet
      case rel => exact ⟨by rw [← hvw.out.1 hq], rfl⟩
    · rw [decide_eq_false hq]
      go_wp2_with fail
      go_meet
      case rel => exact ⟨by rw [← hvw.out.2 hq], rfl⟩
  case rest =>
  obtain ⟨rfl, hw⟩ := hcut
  subst hw
  clear hvw
  go_wp2_with fail
  go_at_call 28; refine (HLk.out _).mono ?_; rintro e y1 ⟨rfl, rfl⟩
  go_upto_region 20 with fail
  go_cut [15, 160] from 71 to 160 (fun u v wx => v = .bool false ∧ Hid (Lay wx c P T G) ∧ Hid (Box wx w.heap.size P T G) ∧ Hid (Below w.heap.size w wx))
  case first =>
    by_cases hl : n < 2
    · have u1 : wd 0 2 3 n 0 = 3 * n := by unfold wd; rw [if_pos (by omega)]; omega
      have u2 : wd 0 2 3 n 1 = 3 * n + 1 := by unfold wd; rw [if_pos (by omega)]; omega
      have u3 : wd 0 2 3 n 2 = 3 * n + 2 := by unfold wd; rw [if_pos (by omega)]; omega
      have u0 := hlk.out.1 (by omega)
      rw [u0]
      go_wp2_with fail
      go_at_call 26; refine (ticket_some c n _).mono ?_; rw [u1]; rintro e y2 ⟨rfl, hy2⟩
      go_wp2_with fail
      go_at_call 29; refine (serving_some c n _).mono ?_; rw [u2]; rintro e y3 ⟨rfl, hy3⟩
      go_wp2_with fail
      go_at_call 30; refine (owner_some c n _).mono ?_; rw [u3]; rintro e y4 ⟨rfl, hy4⟩
      have hy := seq (seq hy2 hy3) hy4
      go_wp2_with fail
      go_meet
      case rel => exact ⟨congrArg Value.bool (by simp), hL10.below hy hL10.lt, hB10.below hy, h10.trans (hy.mono h10.size)⟩
    · have u1 : wd 0 2 3 n 0 = -1 := by unfold wd; rw [if_neg (by omega)]
      have u0 := hlk.out.2 (by omega)
      rw [u0]
      go_wp2_with fail
      go_at_call 26; refine (ticket_some c n _).mono ?_; rw [u1]; rintro e y2 ⟨rfl, hy⟩
      go_wp2_with fail
      go_meet
      case rel => exact ⟨congrArg Value.bool (by simp), hL10.below hy hL10.lt, hB10.below hy, h10.trans (hy.mono h10.size)⟩
  case rest =>
    obtain ⟨rfl, HL11, HB11, H11⟩ := hcut
    have hL11 : Lay wc c P T G := HL11.out
    have hB11 := HB11.out
    have h11 := H11.out
    clear HL11 HB11 H11 hL10 hB10 h10 hlk HLk
    generalize wc = w11 at *
    have hL11' : Hid (∀ Y, Below w11.heap.size w11 Y → Lay Y c P T G) := fun Y hY => hL11.below hY hL11.lt
    have hb11 := block_lt hB11.h
    have hH : Hid (w11.drew.cell? ⟨w.heap.size, 0, none⟩ = some (.int .i64 P) ∧ w11.drew.cell? ⟨w.heap.size, 1, none⟩ = some (.int .i64 T) ∧ w11.drew.cell? ⟨w.heap.size, 2, none⟩ = some (.int .i64 G) ∧ Below w11.heap.size w11 w11.drew) := ⟨hB11.cells.1, hB11.cells.2.1, hB11.cells.2.2, (Below.refl _ _).drew⟩
    have KEEP : Hid (∀ Y w' : World, (Y.cell? ⟨w.heap.size, 0, none⟩ = some (.int .i64 P) ∧ Y.cell? ⟨w.heap.size, 1, none⟩ = some (.int .i64 T) ∧ Y.cell? ⟨w.heap.size, 2, none⟩ = some (.int .i64 G) ∧ Below w11.heap.size w11 Y) → Below Y.heap.size Y w' → (w'.cell? ⟨w.heap.size, 0, none⟩ = some (.int .i64 P) ∧ w'.cell? ⟨w.heap.size, 1, none⟩ = some (.int .i64 T) ∧ w'.cell? ⟨w.heap.size, 2, none⟩ = some (.int .i64 G) ∧ Below w11.heap.size w11 w')) := by
      show ∀ _ _, _
      rintro Y w' ⟨e1, e2, e3, hb⟩ hB
      have hs := hb.size
      exact ⟨(hB.cell (p := ⟨w.heap.size, 0, none⟩) (by show w.heap.size < _; omega)).trans e1, (hB.cell (p := ⟨w.heap.size, 1, none⟩) (by show w.heap.size < _; omega)).trans e2, (hB.cell (p := ⟨w.heap.size, 2, none⟩) (by show w.heap.size < _; omega)).trans e3, hb.trans (hB.mono hs)⟩
    clear hB11 hL11
    go_wp2_with fail
    go_region_held3 (fun w' => w'.cell? ⟨w.heap.size, 0, none⟩ = some (.int .i64 P) ∧ w'.cell? ⟨w.heap.size, 1, none⟩ = some (.int .i64 T) ∧ w'.cell? ⟨w.heap.size, 2, none⟩ = some (.int .i64 G) ∧ Below w11.heap.size w11 w') (first | exact hH | assumption | exact KEEP.out _ _ ‹_› ‹_›) (first | (go_at_call 12; refine (awakeL_any _).mono ?_; rintro e z1 ⟨rfl, hz1⟩) | (go_at_call 25; refine (HWd.out _).mono ?_; rintro e z2 ⟨rfl, rfl⟩) | (go_at_call 21; refine (HPr.out _ _ (.some c (hL11'.out _ (by simp only [*])))).mono ?_; rintro e z3 ⟨rfl, hz3⟩) | (go_at_call 23; refine (HTh.out _ _ (.some c (hL11'.out _ (by simp only [*])))).mono ?_; rintro e z4 ⟨rfl, hz4⟩) | (go_at_call 24; refine (HGo.out _ _ (.some c (hL11'.out _ (by simp only [*])))).mono ?_; rintro e z5 ⟨rfl, hz5⟩) | (go_at_call 31; refine (refProc_any n f _ (by omega) (by omega)).mono ?_; rintro e z6 ⟨rfl, rfl⟩) | (go_at_call 32; refine (refThread_any P T G n f _ (by omega) (by omega) (by omega)).mono ?_; rintro e z7 ⟨rfl, hz7⟩) | (go_at_call 33; refine (refG_any P T G n f _ (by omega) (by omega) (by omega) (by omega)).mono ?_; rintro e z8 ⟨rfl, hz8⟩) | (go_at_call_of 28 (Value.int .i64 8); refine (HO1.out _).mono ?_; rintro e z9 ⟨rfl, rfl⟩) | (go_at_call_of 28 (Value.int .i64 3); refine (HO2.out _).mono ?_; rintro e z10 ⟨rfl, rfl⟩) | (go_at_call_of 28 (Value.int .i64 2); refine (HO3.out _).mono ?_; rintro e z11 ⟨rfl, rfl⟩))
    all_goals
      rename_i hS
      have hfin := h11.trans (hS.2.2.2.mono h11.size)
      go_wp2_with fail
      go_ret
      exact ⟨ret_bool (by simp), hfin⟩
end Go.Proofs.Ytmkmpphfieckoaa
