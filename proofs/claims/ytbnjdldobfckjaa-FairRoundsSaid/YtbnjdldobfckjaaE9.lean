/- FairRounds' walk. -/
import Derived.Test.YtbnjdldobfckjaaE8
namespace Go.Proofs.Ytbnjdldobfckjaa
open Go Go.RowKit Go.Maps
set_option linter.unusedVariables false
set_option linter.unusedSimpArgs false
set_option maxRecDepth 100000

/-- Where the law cares for its config, and for its number. -/
def careB (P T G x : Int) : Bool := mayB P T G && decide (T ≤ 8) && decide (1 ≤ x) && decide (x ≤ 6)
theorem rounds_idle (P T G x : Int) (W : World) (h : careB P T G x = false) : Calls Try.prog 4 #[.agg #[.int .i64 P, .int .i64 T, .int .i64 G], .int .i64 x] W fun e w' => e = .returned (.bool true) ∧ Below W.heap.size W w' := by
  have HB := Lib.hid (fun o1 => ((Below.refl W.heap.size W).alloc (Nat.le_refl _) o1))
  have hcase : mayB P T G = false ∨ (mayB P T G = true ∧ 8 < T) ∨ (mayB P T G = true ∧ T ≤ 8 ∧ x < 1) ∨ (mayB P T G = true ∧ T ≤ 8 ∧ 1 ≤ x ∧ 6 < x) := by
    cases hm : mayB P T G
    · exact Or.inl rfl
    · simp [careB, hm] at h
      by_cases h1 : 8 < T
      · exact Or.inr (Or.inl ⟨rfl, h1⟩)
      · by_cases h2 : x < 1
        · exact Or.inr (Or.inr (Or.inl ⟨rfl, by omega, h2⟩))
        · exact Or.inr (Or.inr (Or.inr ⟨rfl, by omega, by omega, by have := h (by omega) (by omega); omega⟩))
  rcases hcase with hm | ⟨hm, h1⟩ | ⟨hm, h1, h2⟩ | ⟨hm, h1, h2, h3⟩
  all_goals
    go_enter Try.func4, Try.ntmps4
    go_wp2_with fail
    go_at_call 7; refine (ref_may _ P T G).mono ?_; rintro e w2 ⟨rfl, hb2⟩
    rw [hm]
    have HB2 := Lib.hid ((HB.out (.cells #[.int .i64 P, .int .i64 T, .int .i64 G] 23)).trans (hb2.mono (by rw [size_al]; omega)))
    obtain ⟨c0, c1, c2⟩ := cfg_cells (w := W) ((hb2.block W.heap.size (by rw [size_al]; omega)).trans (heap_alloc_new W _))
    clear hb2
    go_wp2_with fail
    go_at_call 8; refine (awake_any _).mono ?_; rintro e w3 ⟨rfl, hb3⟩
    have HB3 := Lib.hid (HB2.out.trans (hb3.mono HB2.out.size))
    clear hb3 c0 c1 c2
    go_wp2_with fail
    go_ret
    exact ⟨rfl, HB3.out⟩
theorem rds_at (T k N : Nat) (h : k < N) : atL ((List.range N).map (rds T)) k = rds T k := by
  simp [atL, List.getD_eq_getElem?_getD, h]
theorem rds_ok {T i : Nat} (hT : T ≤ 256) : EnOk (rds T i) := rd_ok hT
theorem rds_step (T i k : Nat) (h : k < 2 * T + 5) : rds T (i * (2 * T + 5) + k) = rd T k := by
  unfold rds
  rw [Nat.mul_comm, Nat.mul_add_mod, Nat.mod_eq_of_lt h]
theorem rds_fair : ∀ T, T < 9 → ∀ r, r < 7 → 1 ≤ r → winN T (rds T) (r * (2 * T + 5)) = 2 * T + 5 := by decide +kernel
theorem rd_fair : ∀ T, T < 9 → fairB T (rd T) (2 * T + 5) = true := by decide +kernel
/-- A row of entries that grows behind a world. -/
structure OwnR (V w : World) (f : Nat → En) (A : Option Addr) (k cp : Nat) : Prop where
  own : w.ownsRow V.heap.size 33 2 (.slice A k cp) k (flat ((List.range k).map f))
  bel : Below V.heap.size V w
theorem OwnR.app {V w w1 : World} {f : Nat → En} {A : Option Addr} {k cp g cap : Nat} {x y : Int} (h : OwnR V w f A k cp) (hf : f k = (x, y))
    (hO : w1.ownsRow V.heap.size 33 2 (.slice (some ⟨g, 0, none⟩) (k + 1) cap) (k + 1) (flat ((List.range k).map f) ++ [.int .i64 x, .int .i64 y])) (hG : (w.alloc (.cells #[.int .i64 x, .int .i64 y] 33)).grownBy w1 (Value.slice A k cp).ownBlock) :
    OwnR V w1 f (some ⟨g, 0, none⟩) (k + 1) cap := by
  have hlow := h.own.lt
  have hsz := hG.size
  rw [size_al] at hsz
  have hb := h.bel
  refine ⟨?_, ⟨hG.os.trans hb.os, hG.tape.trans hb.tape, hG.output.trans hb.output, by have := hb.size; omega, fun j hj => (hG.block j (by rw [size_al]; have := hb.size; omega) (fun e => by have := (hlow j e.symm).1; omega)).trans ((heap_al _ (by have := hb.size; omega) _).trans (hb.block j hj))⟩⟩
  rw [List.range_succ, List.map_append, flat_app]
  simp only [List.map_cons, List.map_nil, hf, flat]
  exact hO
set_option maxHeartbeats 2000000 in
theorem rounds_care (P G : Int) (T r : Nat) (W : World) (hm : mayB P T G = true) (hT : T ≤ 8) (hr : 1 ≤ r ∧ r ≤ 6) : Calls Try.prog 4 #[.agg #[.int .i64 P, .int .i64 (T : Int), .int .i64 G], .int .i64 (r : Int)] W fun e w' => e = .returned (.bool true) ∧ Below W.heap.size W w' := by
  obtain ⟨i0, hi, hz0, hz1, hz2⟩ := info_parts info33
  have HB := Lib.hid (fun o1 => ((Below.refl W.heap.size W).alloc (Nat.le_refl _) o1))
  have HRF := Lib.hid (rds_fair T (by omega) r (by omega) hr.1)
  have HRD := Lib.hid (rd_fair T (by omega))
  have HTR := Lib.hid (And.intro hT hr)
  go_enter Try.func4, Try.ntmps4
  go_wp2_with fail
  go_at_call 7; refine (ref_may _ P T G).mono ?_; rintro e w1 ⟨rfl, hb1⟩
  rw [hm]
  have HB1 := Lib.hid ((HB.out (.cells #[.int .i64 P, .int .i64 (T : Int), .int .i64 G] 23)).trans (hb1.mono (by rw [size_al]; omega)))
  have hbx := (hb1.block W.heap.size (by rw [size_al]; omega)).trans (heap_alloc_new W _)
  obtain ⟨c0, c1, c2⟩ := cfg_cells (w := W) hbx
  have h8 : ¬ (8 : Int) < (T : Int) := by omega
  have hr1 : ¬ (r : Int) < 1 := by omega
  have hr6 : ¬ (6 : Int) < (r : Int) := by omega
  clear hb1
  go_wp2_with fail
  go_at_call 9; refine (round_sees _ P G T hm).mono ?_; rintro e V ⟨A1, cap1, rfl, hs1, hb2⟩
  have HBV := Lib.hid (HB1.out.trans (hb2.mono HB1.out.size))
  have HBX := Lib.hid ((hb2.block W.heap.size (block_lt hbx)).trans hbx)
  have HS1 := Lib.hid hs1
  have HO0 := Lib.hid (show OwnR V V (rds T) none 0 0 from ⟨World.ownsRow_nil _ _ _ _, Below.refl _ _⟩)
  clear hb2 hs1 c0 c1 c2 hbx h8 hr1 hr6 hr hT
  obtain ⟨V0, hV0⟩ : ∃ v, v = V := ⟨_, rfl⟩
  go_wp2_with fail
  go_loopw [5, 7] (fun v i wr => ∃ (j k cp : Nat) (A : Option Addr), v = .slice A k cp ∧ i = .int .i64 j ∧ j ≤ r ∧ OwnR V wr (rds T) A k cp ∧ Hid (k = j * (2 * T + 5))) (fun _ i _ => r - (intOf i).toNat)
  case atStart => exact ⟨0, 0, 0, none, rfl, rfl, Nat.zero_le _, HO0.out, Lib.hid (by omega)⟩
  case round =>
    obtain ⟨j, k, cp, A, rfl, rfl, hj, hO, HK⟩ := hrel
    have HO := Lib.hid hO
    clear hO HO0
    by_cases hlt : j < r
    · have hji : (j : Int) < (r : Int) := by omega
      go_wp2_with fail
      go_loopw [5, 8] (fun v i wr => ∃ (t k cp : Nat) (A : Option Addr), v = .slice A k cp ∧ i = .int .i64 t ∧ t ≤ 2 * T + 5 ∧ OwnR V wr (rds T) A k cp ∧ Hid (k = j * (2 * T + 5) + t)) (fun _ i _ => 2 * T + 5 - (intOf i).toNat)
      case atStart => exact ⟨0, k, cp, A, rfl, rfl, Nat.zero_le _, HO.out, Lib.hid (by have := HK.out; omega)⟩
      case round =>
        obtain ⟨t, k, cp, A, rfl, rfl, ht, hO, HK⟩ := hrel
        have HU := Lib.hid hO
        clear hO HO
        by_cases hlt : t < 2 * T + 5
        · obtain ⟨b1, off, rfl, hcs⟩ := HS1.out (by omega)
          have c0 := (HU.out.bel.cell (cell_lt (hcs t hlt).1)).trans (hcs t hlt).1
          have c1 := (HU.out.bel.cell (cell_lt (hcs t hlt).1)).trans (hcs t hlt).2
          have hti : (t : Int) < 2 * (T : Int) + 5 := by omega
          have hti2 : (t : Int) < ((2 * T + 5 : Nat) : Int) := by omega
          have htb : t < 100 := by have := HTR.out; omega
          have HFX := Lib.hid (show rds T k = rd T t from by rw [HK.out]; exact rds_step T j t hlt)
          have HKB := Lib.hid (show k ≤ 200 from by
            rw [HK.out]
            have h1 := HTR.out
            have h2 : j * (2 * T + 5) ≤ 5 * 21 := Nat.mul_le_mul (by omega) (by omega)
            omega)
          clear hcs
          generalize rd T t = x at c0 c1 HFX
          go_wp2_with (refine wpList_append_lies _ rfl (.tmp 40) (.tmp 45) 30 rfl V.heap.size 33 i0 _ 2 16 Try.underlying30 hi hz0 hz1 hz2 rfl (by omega) (.slice A k cp) k (flat ((List.range k).map (rds T))) rfl (HU.out.own.alloc _) ⟨_, 0, none⟩ 1 1 [.int .i64 x.1, .int .i64 x.2] rfl rfl (news2 _ _ _) (flat_one [x]) (by omega) (by have := HKB.out; unfold maxLen; omega) (by have := HKB.out; omega) (by have := HU.out.bel.size; rw [size_al]; omega) _ rfl ?_; intro g3 cap3 w5 hO2 hG2 _ _; have HU2 := Lib.hid (HU.out.app HFX.out hO2 hG2); clear hO2 hG2)
          go_roundw
          case rel =>
            first
              | exact ⟨t + 1, k + 1, cap3, _, rfl, by go_num, by omega, HU2.out, Lib.hid (by have := HK.out; omega)⟩
              | (repeat apply Exists.intro
                 exact ⟨⟨t + 1, k + 1, cap3, _, rfl, by go_num, by omega, HU2.out, Lib.hid (by have := HK.out; omega)⟩, rfl⟩)
          case measure => simp [intOf]; omega
        · obtain rfl : t = 2 * T + 5 := by omega
          go_wp2_with fail
          go_roundw
          case rel => exact ⟨j + 1, k, cp, A, rfl, by go_num, by omega, HU.out, Lib.hid (by rw [HK.out, Nat.add_mul]; omega)⟩
          case measure => simp [intOf]; omega
    · obtain rfl : j = r := by omega
      obtain ⟨W2, hW2⟩ : ∃ v, v = wr := ⟨_, rfl⟩
      subst hW2
      have hbx := (HO.out.bel.block W.heap.size (block_lt HBX.out)).trans HBX.out
      have HBX2 := Lib.hid hbx
      obtain ⟨c0, c1, c2⟩ := cfg_cells (w := W) hbx
      have HB2 := Lib.hid (HBV.out.trans (HO.out.bel.mono HBV.out.size))
      have HSR := Lib.hid (HS1.out.bel HO.out.bel)
      have HSW := Lib.hid ((sees_own HO.out.own (by simp)).ext (fun i hi => rds_at T i k hi))
      have HWN := Lib.hid (show winN T (rds T) k = 2 * T + 5 from by rw [HK.out]; exact HRF.out)
      have HKB := Lib.hid (show k ≤ 200 from by
        rw [HK.out]
        have h1 := HTR.out
        have h2 : j * (2 * T + 5) ≤ 6 * 21 := Nat.mul_le_mul (by omega) (by omega)
        omega)
      have htb : T ≤ 8 := HTR.out.1
      clear hbx HO HK HBX HBV HS1 HRF
      go_wp2_with fail
      go_at_call 8; refine (awake_any _).mono ?_; rintro e w3 ⟨rfl, hb3⟩
      have HB3 := Lib.hid (HB2.out.trans (hb3.mono HB2.out.size))
      have hbx3 := (hb3.block W.heap.size (block_lt HBX2.out)).trans HBX2.out
      clear c0 c1 c2
      obtain ⟨c0, c1, c2⟩ := cfg_cells (w := W) hbx3
      have HBX3 := Lib.hid hbx3
      have HSR3 := Lib.hid (HSR.out.bel hb3)
      have HSW3 := Lib.hid (HSW.out.bel hb3)
      clear hb3 hbx3 HSR HSW HB2 HBX2
      go_wp2_with fail
      go_at_call 10; refine (right_may _ P G T (2 * T + 5) cap1 A1 (rd T) hm (by omega) (fun i _ => rd_ok (by omega)) HSR3.out).mono ?_; rintro e w4 ⟨rfl, hb4⟩
      rw [HRD.out]
      have HB4 := Lib.hid (HB3.out.trans (hb4.mono HB3.out.size))
      have hbx4 := (hb4.block W.heap.size (block_lt HBX3.out)).trans HBX3.out
      clear c0 c1 c2
      obtain ⟨c0, c1, c2⟩ := cfg_cells (w := W) hbx4
      have HSW4 := Lib.hid (HSW3.out.bel hb4)
      clear hb4 hbx4 HSR3 HSW3 HB3 HBX3
      go_wp2_with fail
      go_at_call 11; refine (window_may _ P G T k cp A (rds T) hm (by have := HKB.out; omega) (fun i _ => rds_ok (by omega)) HSW4.out).mono ?_; rintro e w5 ⟨rfl, hb5⟩
      rw [HWN.out]
      have HB5 := Lib.hid (HB4.out.trans (hb5.mono HB4.out.size))
      clear hb5 c0 c1 c2 HB4 HSW4
      go_wp2_with fail
      go_ret
      exact ⟨rfl, HB5.out⟩
theorem fairRounds_walk (P T G x : Int) (W : World) : Calls Try.prog 4 #[.agg #[.int .i64 P, .int .i64 T, .int .i64 G], .int .i64 x] W fun e w' => e = .returned (.bool true) ∧ Below W.heap.size W w' := by
  cases h : careB P T G x
  · exact rounds_idle P T G x W h
  · simp [careB] at h
    obtain ⟨⟨⟨hm, hT⟩, h1⟩, h6⟩ := h
    have := mayB_true hm
    obtain ⟨t, rfl⟩ : ∃ t : Nat, T = (t : Int) := ⟨T.toNat, by omega⟩
    obtain ⟨r, rfl⟩ : ∃ r : Nat, x = (r : Int) := ⟨x.toNat, by omega⟩
    exact rounds_care P G t r W hm (by omega) (by omega)
end Go.Proofs.Ytbnjdldobfckjaa
