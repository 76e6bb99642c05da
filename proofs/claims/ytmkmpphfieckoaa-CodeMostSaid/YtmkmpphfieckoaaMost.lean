/- The walk of the law CodeMost. -/
import Derived.Test.YtmkmpphfieckoaaWake
namespace Go.Proofs.Ytmkmpphfieckoaa
open Go Go.RowKit
set_option linter.unusedVariables false
set_option linter.unusedSimpArgs false

/-- The words: all 3, but for V at place 4096. -/
def fm (V : Int) (j : Nat) : Int := if j = 4096 then V else 3
theorem fm_segs (V : Int) (N : Nat) (hN : N = 4096) : segs (fm V) N = [(0, N)] := by
  have h := segs_run (fm V) 0 N rfl (Nat.zero_le _) (fun j hj => by
    unfold fm
    rw [if_neg (by omega)]
    decide)
  simpa [scan] using h
theorem row_sees {w w' : World} {v : Value} {n : Nat} (h : Own w w' 41 1 v n (List.replicate n (.int .u64 3))) (hn : 0 < n) : ∃ g cap, v = .slice (some ⟨g, 0, none⟩) n cap ∧ n ≤ cap ∧ cap ≤ maxLen ∧ w.heap.size ≤ g ∧ g < w'.heap.size ∧ (∀ j, j < n → w'.cell? ⟨g, j, none⟩ = some (.int .u64 3)) ∧ ∀ j, w'.frozen? ⟨g, j, none⟩ = false := by
  obtain ⟨h1, h2⟩ := h.own
  rcases h2 with ⟨rfl, rfl⟩ | ⟨g, cap, cur, rfl, hg, hh, hnc, hcm, hcs, htk⟩
  · omega
  · refine ⟨g, cap, rfl, hnc, hcm, hg, block_lt hh, fun j hj => ?_, fun j => by simp [World.frozen?, hh]⟩
    have hu : (List.replicate n (Value.int .u64 3))[j]? = some (.int .u64 3) := by simp [hj]
    rw [← htk, List.getElem?_take_of_lt (by omega)] at hu
    simp only [World.cell?, hh]
    simpa using hu

/-- What the law asks of the code of such words. -/
theorem most_code (V : Int) (N : Nat) (hN : N = 4096) : lookK (fm V) [(0, N)] 0 4095 = 3 ∧ lookK (fm V) [(0, N)] 0 4096 = 0 := by
  subst hN
  constructor
  · have e : look [(0, 4096)] 0 4095 = some (0 + 4095) := look_ok (L := [(0, 4096)]) (p := 0) (i := 4095) (x := (0, 4096)) rfl (by decide)
    unfold lookK
    rw [e]
    show kd (fm V (0 + 4095)) = 3
    unfold fm
    rw [if_neg (by omega)]
    decide
  · have e : look [(0, 4096)] 0 4096 = none := look_far (L := [(0, 4096)]) (p := 0) (x := (0, 4096)) rfl (by right; decide)
    unfold lookK
    rw [e]

set_option maxHeartbeats 2000000 in
set_option maxRecDepth 100000 in
theorem codeMost_walk0 (m n : Nat) (V : Int) (w : World) (hm : m ≤ 255) (hn : n = 4096 + m) (bV : 0 ≤ V ∧ V ≤ 18446744073709551615) : Calls Try.prog 9 #[.int .u8 m, .int .u64 V] w fun e w' => e = .returned (.bool true) ∧ Below w.heap.size w w' := by
  obtain ⟨i0, hi, hz0, hz1, hz2⟩ := info_parts info41
  have hfk := field_k
  have HE : Hid (n = 4096 + m) := hn
  have e1 : (4096 : Int) + (m : Nat) = (n : Nat) := by omega
  have hn1 : 4096 ≤ n := by omega
  have hn2 : n ≤ 5000 := by omega
  clear hn
  obtain ⟨N, hN⟩ : ∃ N : Nat, N = 4096 := ⟨_, rfl⟩
  obtain ⟨k1, k2⟩ := most_code V N hN
  have HK : Hid (N = 4096) := hN
  have hsg := fm_segs V N hN
  clear hN
  go_enter Try.func9, Try.ntmps9
  go_wp2_with fail
  go_loopw [5, 6] (fun x y wr => ∃ (k : Nat) (v : Value), k ≤ n ∧ x = v ∧ y = .int .i64 k ∧ Hid (Own w wr 41 1 v k (List.replicate k (.int .u64 3)))) (fun _ y _ => n - (intOf y).toNat)
  case atStart => exact ⟨0, _, Nat.zero_le _, rfl, rfl, Own.nil _ _ _⟩
  case round =>
    obtain ⟨k, v, hk, rfl, rfl, HO⟩ := hrel
    by_cases hlt : k < n
    · have hlt2 : (k : Int) < (n : Nat) := by omega
      go_wp2_with (at_builtin; refine wpList_append_own _ rfl _ _ 48 rfl w.heap.size 41 i0 (.int .u64 0) 1 8 Try.underlying48 hi hz0 hz1 hz2 rfl (by decide) _ k (List.replicate k (.int .u64 3)) rfl (HO.out.own.alloc _) ⟨wr.heap.size, 0, none⟩ 1 1 [.int .u64 3] rfl rfl (cells_of _ _ _) (by simp [Value.oneCell']) (by unfold maxLen; omega) (by omega) (by have := HO.out.below.size; simp at this ⊢; omega) ?_; intro v' w3 hown3 hgrow3 _)
      have hF := HO.out.next hown3 hgrow3
      have e2 : List.replicate k (Value.int .u64 3) ++ [.int .u64 3] = List.replicate (k + 1) (Value.int .u64 3) := by rw [List.replicate_succ']
      rw [e2] at hF
      go_wp2_with fail
      go_roundw
      case rel => exact ⟨k + 1, v', by omega, rfl, by go_num, hF⟩
      case measure => simp [intOf]; omega
    · obtain rfl : n = k := by omega
      have hge : ¬ (n : Int) < (n : Nat) := by omega
      obtain ⟨g, cap, rfl, hc1, hc2, hg1, hg2, hcell, hfz⟩ := row_sees HO.out (by omega)
      have hbw := HO.out.below
      clear HO
      by_cases hm0 : m = 0
      · subst hm0
        have hnN : n = N := by have := HE.out; have := HK.out; omega
        have hS : SeesU wr wr.heap.size (some ⟨g, 0, none⟩) n (fm V) := fun _ => ⟨g, 0, rfl, hg2, fun j hj => by
          rw [Nat.zero_add, hcell j hj]
          unfold fm
          rw [if_neg (by have := HE.out; omega)]⟩
        have HR := read_few (some ⟨g, 0, none⟩) n cap (fm V) wr (by have := HE.out; omega) hc1 (by unfold maxLen at hc2; omega) hS (fun j hj => by unfold fm; split <;> omega)
        rw [show segs (fm V) n = [(0, N)] by rw [hnN]; exact hsg] at HR
        have HB : Hid (Below w.heap.size w wr) := hbw
        clear hS hnN hsg
        go_wp2_with fail
        go_at_call 35; refine HR.mono ?_; clear HR; rintro e w5 ⟨c, g5, rfl, hC, h5⟩
        have HC : Hid (∀ X, Below w5.heap.size w5 X → IsCode X c g5 (fm V) [(0, N)]) := fun X hX => hC.below hX
        have hb5 := HB.out.trans (h5.mono HB.out.size)
        have hx : ([(0, N)] : List (Nat × Nat))[0]? = some (0, N) := rfl
        have eN : ((N : Nat) : Int) = 4096 := by have := HK.out; omega
        clear hC h5 hcell hfz hbw
        go_wp2_with fail
        go_at_call 34; refine (awakeC_any _).mono ?_; rintro e z1 ⟨rfl, y1⟩
        go_wp2_with fail
        go_at_call 37; refine (clen_some c g5 (fm V) _ _ (HC.out _ y1)).mono ?_; rintro e z2 ⟨rfl, rfl⟩
        go_wp2_with fail
        go_at_call 41; refine (long_ok c g5 (fm V) _ 0 (0, N) _ (HC.out _ y1) hx).mono ?_; rw [show (((0, N) : Nat × Nat).2 : Int) = 4096 from eN]; rintro e z3 ⟨rfl, rfl⟩
        go_wp2_with fail
        go_at_call 38; refine (at_any c g5 (fm V) _ 0 4095 _ (HC.out _ y1)).mono ?_; rw [k1]; rintro e z4 ⟨rfl, y4⟩
        have y4 := y1.trans (y4.mono y1.size)
        go_wp2_with fail
        go_at_call 38; refine (at_any c g5 (fm V) _ 0 4096 _ (HC.out _ y4)).mono ?_; rw [k2]; rintro e z5 ⟨rfl, y5⟩
        have y5 := y4.trans (y5.mono y4.size)
        go_wp2_with fail
        go_ret
        exact ⟨rfl, hb5.trans (y5.mono hb5.size)⟩
      · have hmp : 0 < m := by omega
        have hgt : (0 : Int) < (m : Nat) := by omega
        have hv0 := hcell 4096 (by have := HE.out; omega)
        have hf0 := hfz 4096
        have h4 : (4096 : Int) < (n : Nat) := by have := HE.out; omega
        have hS : SeesU (wr.setCell ⟨g, 4096, none⟩ (.int .u64 V)) (wr.setCell ⟨g, 4096, none⟩ (.int .u64 V)).heap.size (some ⟨g, 0, none⟩) n (fm V) := fun _ => ⟨g, 0, rfl, by rw [size_set]; exact hg2, fun j hj => by
          rw [Nat.zero_add]
          unfold fm
          by_cases e : j = 4096
          · subst e
            rw [if_pos rfl]
            exact World.cell?_setCell_same _ _ _ hv0
          · rw [if_neg e, World.cell?_setCell_other _ _ _ _ (by simp <;> omega)]
            exact hcell j hj⟩
        have HR := read_cap (some ⟨g, 0, none⟩) n cap N (fm V) (wr.setCell ⟨g, 4096, none⟩ (.int .u64 V)) HK.out (by have := HE.out; omega) hc1 (by unfold maxLen at hc2; omega) hS (fun j hj => by unfold fm; split <;> omega)
        rw [hsg] at HR
        have HB : Hid (Below w.heap.size w (wr.setCell ⟨g, 4096, none⟩ (.int .u64 V))) := hbw.setCell (p := ⟨g, 4096, none⟩) hg1 _
        clear hS hsg
        go_wp2_with fail
        go_at_call 35; refine HR.mono ?_; clear HR; rintro e w5 ⟨c, g5, rfl, hC, h5⟩
        have HC : Hid (∀ X, Below w5.heap.size w5 X → IsCode X c g5 (fm V) [(0, N)]) := fun X hX => hC.below hX
        have hb5 := HB.out.trans (h5.mono HB.out.size)
        have hx : ([(0, N)] : List (Nat × Nat))[0]? = some (0, N) := rfl
        have eN : ((N : Nat) : Int) = 4096 := by have := HK.out; omega
        clear hC h5 hcell hfz hbw
        go_wp2_with fail
        go_at_call 34; refine (awakeC_any _).mono ?_; rintro e z1 ⟨rfl, y1⟩
        go_wp2_with fail
        go_at_call 37; refine (clen_some c g5 (fm V) _ _ (HC.out _ y1)).mono ?_; rintro e z2 ⟨rfl, rfl⟩
        go_wp2_with fail
        go_at_call 41; refine (long_ok c g5 (fm V) _ 0 (0, N) _ (HC.out _ y1) hx).mono ?_; rw [show (((0, N) : Nat × Nat).2 : Int) = 4096 from eN]; rintro e z3 ⟨rfl, rfl⟩
        go_wp2_with fail
        go_at_call 38; refine (at_any c g5 (fm V) _ 0 4095 _ (HC.out _ y1)).mono ?_; rw [k1]; rintro e z4 ⟨rfl, y4⟩
        have y4 := y1.trans (y4.mono y1.size)
        go_wp2_with fail
        go_at_call 38; refine (at_any c g5 (fm V) _ 0 4096 _ (HC.out _ y4)).mono ?_; rw [k2]; rintro e z5 ⟨rfl, y5⟩
        have y5 := y4.trans (y5.mono y4.size)
        go_wp2_with fail
        go_ret
        exact ⟨rfl, hb5.trans (y5.mono hb5.size)⟩
theorem codeMost_walk (M V : Int) (w : World) (bM : 0 ≤ M ∧ M ≤ 255) (bV : 0 ≤ V ∧ V ≤ 18446744073709551615) : Calls Try.prog 9 #[.int .u8 M, .int .u64 V] w fun e w' => e = .returned (.bool true) ∧ Below w.heap.size w w' := by
  obtain ⟨m, rfl⟩ : ∃ m : Nat, M = (m : Int) := ⟨M.toNat, by omega⟩
  exact codeMost_walk0 m (4096 + m) V w (by omega) rfl bV
end Go.Proofs.Ytmkmpphfieckoaa
