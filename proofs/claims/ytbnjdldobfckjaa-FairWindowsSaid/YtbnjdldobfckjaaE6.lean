/- The window of entries: the walk. -/
import Derived.Test.YtbnjdldobfckjaaE5
namespace Go.Proofs.Ytbnjdldobfckjaa
open Go Go.RowKit Go.Maps
set_option linter.unusedVariables false
set_option linter.unusedSimpArgs false
set_option maxRecDepth 100000

theorem window_no (w : World) (P T G : Int) (n cap : Nat) (A : Option Addr)
    (hr : ∀ wr, Below w.heap.size w wr → Calls Try.prog 10 #[.agg #[.int .i64 P, .int .i64 T, .int .i64 G], .slice A n cap] wr fun e w' => e = .returned (.bool false) ∧ Below wr.heap.size wr w') :
    Calls Try.prog 11 #[.agg #[.int .i64 P, .int .i64 T, .int .i64 G], .slice A n cap] w fun e w' => e = .returned (.int .i64 0) ∧ Below w.heap.size w w' := by
  have HB := Lib.hid (fun o1 => ((Below.refl w.heap.size w).alloc (Nat.le_refl _) o1))
  have HR := Lib.hid hr
  clear hr
  go_enter Try.func11, Try.ntmps11
  go_wp2_with fail
  go_at_call 10; refine (HR.out _ (HB.out _)).mono ?_; rintro e w1 ⟨rfl, hb⟩
  have HB1 := Lib.hid ((HB.out (.cells #[.int .i64 P, .int .i64 T, .int .i64 G] 23)).trans (hb.mono (by rw [size_al]; omega)))
  clear hb
  go_wp2_with fail
  go_ret
  exact ⟨rfl, HB1.out⟩
set_option maxHeartbeats 4000000 in
theorem window_yes (w : World) (P G : Int) (T : Nat) (n cap : Nat) (A : Option Addr) (l : Nat → En) (hT : T ≤ 256) (hn : n ≤ 1000000) (hl : ∀ i, i < n → EnOk (l i)) (hs : Sees w A n l)
    (hr : ∀ wr, Below w.heap.size w wr → Calls Try.prog 10 #[.agg #[.int .i64 P, .int .i64 (T : Int), .int .i64 G], .slice A n cap] wr fun e w' => e = .returned (.bool true) ∧ Below wr.heap.size wr w')
    (hc : ∀ w, Calls Try.prog 9 #[.agg #[.int .i64 P, .int .i64 (T : Int), .int .i64 G]] w fun e w' => ∃ A cap, e = .returned (.slice A (2 * T + 5) cap) ∧ Sees w' A (2 * T + 5) (rd T) ∧ Below w.heap.size w w') :
    Calls Try.prog 11 #[.agg #[.int .i64 P, .int .i64 (T : Int), .int .i64 G], .slice A n cap] w fun e w' => ∃ M : Nat, e = .returned (.int .i64 ((M + 1 : Nat) : Int)) ∧ Longest T l n M ∧ Below w.heap.size w w' := by
  have HB := Lib.hid (fun o1 => ((Below.refl w.heap.size w).alloc (Nat.le_refl _) o1))
  have HC := Lib.hid hc
  have HR := Lib.hid hr
  have HL := Lib.hid hl
  have HS := Lib.hid hs
  clear hc hr hl hs
  go_enter Try.func11, Try.ntmps11
  go_wp2_with fail
  go_at_call 10; refine (HR.out _ (HB.out _)).mono ?_; rintro e V ⟨rfl, hb1⟩
  have HBV := Lib.hid ((HB.out (.cells #[.int .i64 P, .int .i64 (T : Int), .int .i64 G] 23)).trans (hb1.mono (by rw [size_al]; omega)))
  have hbx := (hb1.block w.heap.size (by rw [size_al]; omega)).trans (heap_alloc_new _ _)
  have hVs := block_lt hbx
  have hbx2 := (heap_al V hVs (.map #[] 0)).trans hbx
  have c0 : (V.alloc (.map #[] 0)).cell? ⟨w.heap.size, 0, none⟩ = some (.int .i64 P) := by simp only [World.cell?, hbx2]; rfl
  have c1 : (V.alloc (.map #[] 0)).cell? ⟨w.heap.size, 1, none⟩ = some (.int .i64 T) := by simp only [World.cell?, hbx2]; rfl
  have c2 : (V.alloc (.map #[] 0)).cell? ⟨w.heap.size, 2, none⟩ = some (.int .i64 G) := by simp only [World.cell?, hbx2]; rfl
  clear hb1 hbx2 hbx hVs HR
  have hmk := @run_makeMap Try.prog 40 V
  go_wp2_with fail
  clear hmk c0 c1 c2
  go_at_call 9; refine (HC.out _).mono ?_; rintro e V2 ⟨A1, cap1, rfl, hs1, hb1⟩
  clear HC
  have HM0 := Lib.hid ((World.ownsMap_made V Try.prog 33 (plainElem (H := Unit) Try.prog 3)).kept (row := none) (w' := V2) ⟨hb1.os, hb1.tape, hb1.output, hb1.size, fun k hk _ => hb1.block k hk⟩ (by simp))
  have hmap2 : V2.heap[V.heap.size]? = some (.map #[] 0) := (hb1.block _ (by rw [size_al]; omega)).trans (heap_alloc_new _ _)
  have HB2 := Lib.hid ((HBV.out.alloc HBV.out.size (.map #[] 0)).trans (hb1.mono (by rw [size_al]; have := HBV.out.size; omega)))
  have HNC := Lib.hid (map_nocell hmap2)
  have HS1 := Lib.hid hs1
  have HSA := Lib.hid (HS.out.bel HB2.out)
  have HVS := Lib.hid HBV.out.size
  clear hs1 hb1 hmap2 HS HBV HB
  generalize hb : V.heap.size = b at HM0 HNC HVS ⊢
  clear hb
  have HV0 := Lib.hid (But.refl [b] V2)
  obtain ⟨W, hW⟩ : ∃ v, v = V2 := ⟨_, rfl⟩
  go_wp2_with fail
  go_loopw [23] (fun i wr => ∃ (j : Nat) (D : DataW Unit), j ≤ 2 * T + 5 ∧ i = .int .i64 j ∧ But [b] V2 wr ∧ wr.ownsMap Try.prog 33 (plainElem (H := Unit) Try.prog 3) b j D ∧ PlIs D (fun e => ∃ k, k < j ∧ rd T k = e) (fun _ => 0)) (fun i _ => 2 * T + 5 - (intOf i).toNat)
  case atStart => exact ⟨0, _, Nat.zero_le _, rfl, HV0.out, HM0.out, SetIs.none.to (fun e _ => ⟨fun h => False.elim h, fun ⟨k, h, _⟩ => absurd h (Nat.not_lt_zero _)⟩), fun e _ ⟨k, h, _⟩ => absurd h (Nat.not_lt_zero _)⟩
  case round =>
    obtain ⟨j, D, hj, rfl, hV, hM, hD⟩ := hrel
    have HV := Lib.hid hV
    have HM := Lib.hid hM
    have HD := Lib.hid hD
    clear HM0 HV0 hV hM hD hW
    by_cases hlt : j < 2 * T + 5
    · obtain ⟨b1, off, rfl, hcs⟩ := (HS1.out.but HV.out HNC.out) (by omega)
      have c0 := (hcs j hlt).1
      have c1 := (hcs j hlt).2
      have hji : (j : Int) < ((2 * T + 5 : Nat) : Int) := by omega
      have hji2 : (j : Int) < 2 * (T : Int) + 5 := by omega
      have hb1 := cell_lt c0
      have HRO := Lib.hid (rd_ok (i := j) hT)
      clear hcs
      generalize hrj : rd T j = x at c0 c1 HRO
      have HRJ := Lib.hid hrj
      clear hrj
      go_wp2_with (first | (at_mapUpdate; refine wpList_mapUpdate_own _ rfl _ _ _ 40 rfl 33 3 keyedE Try.underlying40 (plainElem Try.prog 3) b j D rfl (HM.out.alloc _) (by unfold maxLen; omega) _ _ (ky x) rfl rfl (ky_some HRO.out) (.lit (.int .i64 0)) [] (plainElem_int Try.underlying3 (by decide)) ?_; intro w3 hown3 hgrow3) | fail)
      have HV3 := Lib.hid ((HV.out.alloc _).row hgrow3 (by simp))
      have HM3 := Lib.hid hown3
      have HD3 := Lib.hid ((HD.out.put HRO.out 0).to (S' := fun e => ∃ k, k < j + 1 ∧ rd T k = e) (f' := fun _ => 0) (fun e _ => ⟨fun h => by
        rcases h with ⟨k, h1, h2⟩ | h
        · exact ⟨k, by omega, h2⟩
        · exact ⟨j, by omega, by rw [HRJ.out]; exact h.symm⟩, fun ⟨k, h1, h2⟩ => by
        by_cases e : k = j
        · subst e; exact Or.inr (by rw [← h2]; exact HRJ.out)
        · exact Or.inl ⟨k, by omega, h2⟩⟩) (fun e _ _ => by show (if e = x then 0 else 0) = 0; split <;> rfl))
      clear hown3 hgrow3 c0 c1 hb1 HV HM HD
      go_wp2_with fail
      go_roundw
      case rel => exact ⟨j + 1, _, by omega, by go_num, HV3.out, HM3.out, HD3.out⟩
      case measure => simp [intOf]; omega
    · obtain rfl : j = 2 * T + 5 := by omega
      have hmq : ∀ X : World, (Builtin.max_ #[3, 3] 3 #[.int .i64 0, .int .i64 0]).run Try.prog X = .ok (.int .i64 0) X := fun X => by kernel_rfl
      obtain ⟨W1, hW1⟩ : ∃ v, v = wr := ⟨_, rfl⟩
      subst hW1
      have HD1 := Lib.hid (HD.out.to (S' := wanted T) (f' := fun e => last l e 0) (fun e _ => Iff.rfl) (fun e _ _ => rfl))
      clear HD
      go_wp2_with fail
      go_loopw [8, 32] (fun v i wr => ∃ (m k : Nat) (D : DataW Unit), m ≤ n ∧ k ≤ 2 * T + 5 + n ∧ v = .int .i64 (gm T l m : Nat) ∧ i = .int .i64 m ∧ But [b] V2 wr ∧ wr.ownsMap Try.prog 33 (plainElem (H := Unit) Try.prog 3) b (2 * T + 5 + m) D ∧ PlIs D (wanted T) (fun e => last l e m)) (fun _ i _ => n - (intOf i).toNat)
      case atStart => exact ⟨0, 0, D, Nat.zero_le _, Nat.zero_le _, rfl, rfl, HV.out, HM.out, HD1.out⟩
      case round =>
        obtain ⟨m, _, E, hm, _, rfl, rfl, hV, hM, hD⟩ := hrel
        have HU := Lib.hid hV
        have HN := Lib.hid hM
        have HE := Lib.hid hD
        clear HV HM HD1 hV hM hD hmq
        by_cases hlt : m < n
        · obtain ⟨b1, off, rfl, hcs⟩ := (HSA.out.but HU.out HNC.out) (by omega)
          have c0 := (hcs m hlt).1
          have c1 := (hcs m hlt).2
          have hmi : (m : Int) < (n : Int) := by omega
          have hb1 := cell_lt c0
          have HPO := Lib.hid (pl_ok (HL.out m hlt))
          have HGL := Lib.hid (gm_le T l m)
          have HLL := Lib.hid (last_le l (pl (l m)) m)
          clear hcs
          have HP1 := Lib.hid (plain_any (wr.alloc (.cells #[.int .i64 (l m).1, .int .i64 (l m).2] 33)) (l m))
          cases hw : isW T (pl (l m))
          · have HH := Lib.hid (show has E (ky (pl (l m))) = false from by
              cases h : has E (ky (pl (l m)))
              · rfl
              · have := wanted_isW.1 ((HE.out.set.mem _ HPO.out).1 h); rw [hw] at this; cases this)
            have HG := Lib.hid (gm_no (l := l) hw)
            have HEs := Lib.hid (HE.out.to (S' := wanted T) (f' := fun e => last l e (m + 1)) (fun e _ => Iff.rfl) (fun e _ hS => by
              show last l e m = last l e (m + 1)
              rw [last_s, if_neg (fun h => by have := wanted_isW.1 hS; rw [← h, hw] at this; cases this)]))
            clear HE hw
            generalize gm T l m = gg at HG HGL ⊢
            go_wp2_with (first | (go_at_call 15; refine HP1.out.mono ?_; rintro e w3 ⟨rfl, hb3⟩; have HV3 := Lib.hid (((HU.out.alloc (.cells #[.int .i64 (l m).1, .int .i64 (l m).2] 33)).trans (But.of_below hb3))); have HN3 := Lib.hid ((HN.out.alloc (.cells #[.int .i64 (l m).1, .int .i64 (l m).2] 33)).kept (row := none) (w' := w3) ⟨hb3.os, hb3.tape, hb3.output, hb3.size, fun k hk _ => hb3.block k hk⟩ (by simp)); clear hb3) | (at_lookup; refine wpList_lookup_own_ok_int _ rfl _ _ 40 rfl 33 3 .i64 keyedE Try.underlying40 Try.underlying3 (zeroI _) b (2 * T + 5 + m) E rfl HN3.out _ (ky (pl (l m))) rfl (ky_some HPO.out) ?_; intro c hat hwc; rw [HH.out]; clear hat hwc) | fail)
            go_roundw
            case rel =>
              repeat apply Exists.intro
              exact ⟨⟨m + 1, 0, _, by omega, Nat.zero_le _, by rw [HG.out], by go_num, HV3.out, HN3.out.mono (by omega), HEs.out⟩, rfl⟩
            case measure => simp [intOf]; omega
          · have HH := Lib.hid (show has E (ky (pl (l m))) = true from (HE.out.set.mem _ HPO.out).2 (wanted_isW.2 hw))
            have HAT := Lib.hid (HE.out.at_ _ HPO.out (wanted_isW.2 hw))
            have HG := Lib.hid (gm_yes (l := l) hw)
            have HEs := Lib.hid ((HE.out.put HPO.out (m + 1)).to (S' := wanted T) (f' := fun e => last l e (m + 1)) (fun e _ => ⟨fun h => by
              rcases h with h | h
              · exact h
              · subst h; exact wanted_isW.2 hw, fun h => Or.inl h⟩) (fun e _ hS => by
              show (if e = pl (l m) then m + 1 else last l e m) = last l e (m + 1)
              rw [last_s]
              by_cases h : e = pl (l m)
              · rw [if_pos h, if_pos h.symm]
              · rw [if_neg h, if_neg (fun h2 => h h2.symm)]))
            clear HE hw
            generalize hla : last l (pl (l m)) m = la at HG HLL HAT
            clear hla
            generalize gm T l m = gg at HG HGL ⊢
            have hgl := HGL.out
            have hll := HLL.out
            rcases (show gg < m - la ∨ m - la ≤ gg by omega) with hc | hc
            · have HG2 := Lib.hid (show gm T l (m + 1) = m - la by rw [HG.out]; omega)
              have hc2 : (gg : Int) < (m : Int) - (la : Int) := by omega
              go_wp2_with fail
              refine HP1.out.mono ?_
              rintro e w3 ⟨rfl, hb3⟩
              clear HP1
              have HV3 := Lib.hid (((HU.out.alloc (.cells #[.int .i64 (l m).1, .int .i64 (l m).2] 33)).trans (But.of_below hb3)))
              have HN3 := Lib.hid ((HN.out.alloc (.cells #[.int .i64 (l m).1, .int .i64 (l m).2] 33)).kept (row := none) (w' := w3) ⟨hb3.os, hb3.tape, hb3.output, hb3.size, fun k hk _ => hb3.block k hk⟩ (by simp))
              have hx3 := (hb3.block wr.heap.size (by rw [size_al]; omega)).trans (heap_alloc_new wr _)
              have d0 : w3.cell? ⟨wr.heap.size, 0, none⟩ = some (.int .i64 (l m).1) := by simp only [World.cell?, hx3]; rfl
              have d1 : w3.cell? ⟨wr.heap.size, 1, none⟩ = some (.int .i64 (l m).2) := by simp only [World.cell?, hx3]; rfl
              have HP2 := Lib.hid (plain_any w3 (l m))
              clear hx3 hb3
              generalize wr.heap.size = z at d0 d1 hb1 ⊢
              go_wp2_with (first | (at_lookup; refine wpList_lookup_own_ok_int _ rfl _ _ 40 rfl 33 3 .i64 keyedE Try.underlying40 Try.underlying3 (zeroI _) b (2 * T + 5 + m) E rfl HN3.out _ (ky (pl (l m))) rfl (ky_some HPO.out) ?_; intro c hat hwc; rw [HH.out]; obtain rfl : c = (la : Int) := (by rw [HAT.out] at hat; simpa using hat.symm)) | fail)
              clear hat hwc
              refine HP2.out.mono ?_
              rintro e w4 ⟨rfl, hb4⟩
              have HV4 := Lib.hid (HV3.out.trans (But.of_below hb4))
              have HN4 := Lib.hid (HN3.out.kept (row := none) (w' := w4) ⟨hb4.os, hb4.tape, hb4.output, hb4.size, fun k hk _ => hb4.block k hk⟩ (by simp))
              clear hb4 HP2 HV3 HN3 d0 d1 c0 c1 hb1
              go_wp2_with (first | (at_mapUpdate; refine wpList_mapUpdate_own _ rfl _ _ _ 40 rfl 33 3 keyedE Try.underlying40 (plainElem Try.prog 3) b (2 * T + 5 + m) E rfl HN4.out (by unfold maxLen; omega) _ _ (ky (pl (l m))) rfl rfl (ky_some HPO.out) (.lit (.int .i64 ((m + 1 : Nat) : Int))) [] (plainElem_int Try.underlying3 (wf_i64' (by omega))) ?_; intro w5 hown5 hgrow5) | fail)
              have HV5 := Lib.hid (HV4.out.row hgrow5 (by simp))
              have HN5 := Lib.hid hown5
              clear hown5 hgrow5 HV4 HN4
              go_wp2_with fail
              go_roundw
              case rel =>
                repeat apply Exists.intro
                exact ⟨⟨m + 1, 0, _, by omega, Nat.zero_le _, by rw [HG2.out]; congr 1; omega, by go_num, HV5.out, HN5.out, HEs.out⟩, rfl⟩
              case measure => simp [intOf]; omega
            · have HG2 := Lib.hid (show gm T l (m + 1) = gg by rw [HG.out]; omega)
              have hc2 : ¬ ((gg : Int) < (m : Int) - (la : Int)) := by omega
              go_wp2_with fail
              refine HP1.out.mono ?_
              rintro e w3 ⟨rfl, hb3⟩
              clear HP1
              have HV3 := Lib.hid (((HU.out.alloc (.cells #[.int .i64 (l m).1, .int .i64 (l m).2] 33)).trans (But.of_below hb3)))
              have HN3 := Lib.hid ((HN.out.alloc (.cells #[.int .i64 (l m).1, .int .i64 (l m).2] 33)).kept (row := none) (w' := w3) ⟨hb3.os, hb3.tape, hb3.output, hb3.size, fun k hk _ => hb3.block k hk⟩ (by simp))
              have hx3 := (hb3.block wr.heap.size (by rw [size_al]; omega)).trans (heap_alloc_new wr _)
              have d0 : w3.cell? ⟨wr.heap.size, 0, none⟩ = some (.int .i64 (l m).1) := by simp only [World.cell?, hx3]; rfl
              have d1 : w3.cell? ⟨wr.heap.size, 1, none⟩ = some (.int .i64 (l m).2) := by simp only [World.cell?, hx3]; rfl
              have HP2 := Lib.hid (plain_any w3 (l m))
              clear hx3 hb3
              generalize wr.heap.size = z at d0 d1 hb1 ⊢
              go_wp2_with (first | (at_lookup; refine wpList_lookup_own_ok_int _ rfl _ _ 40 rfl 33 3 .i64 keyedE Try.underlying40 Try.underlying3 (zeroI _) b (2 * T + 5 + m) E rfl HN3.out _ (ky (pl (l m))) rfl (ky_some HPO.out) ?_; intro c hat hwc; rw [HH.out]; obtain rfl : c = (la : Int) := (by rw [HAT.out] at hat; simpa using hat.symm)) | fail)
              clear hat hwc
              refine HP2.out.mono ?_
              rintro e w4 ⟨rfl, hb4⟩
              have HV4 := Lib.hid (HV3.out.trans (But.of_below hb4))
              have HN4 := Lib.hid (HN3.out.kept (row := none) (w' := w4) ⟨hb4.os, hb4.tape, hb4.output, hb4.size, fun k hk _ => hb4.block k hk⟩ (by simp))
              clear hb4 HP2 HV3 HN3 d0 d1 c0 c1 hb1
              go_wp2_with (first | (at_mapUpdate; refine wpList_mapUpdate_own _ rfl _ _ _ 40 rfl 33 3 keyedE Try.underlying40 (plainElem Try.prog 3) b (2 * T + 5 + m) E rfl HN4.out (by unfold maxLen; omega) _ _ (ky (pl (l m))) rfl rfl (ky_some HPO.out) (.lit (.int .i64 ((m + 1 : Nat) : Int))) [] (plainElem_int Try.underlying3 (wf_i64' (by omega))) ?_; intro w5 hown5 hgrow5) | fail)
              have HV5 := Lib.hid (HV4.out.row hgrow5 (by simp))
              have HN5 := Lib.hid hown5
              clear hown5 hgrow5 HV4 HN4
              go_wp2_with fail
              go_roundw
              case rel =>
                repeat apply Exists.intro
                exact ⟨⟨m + 1, 0, _, by omega, Nat.zero_le _, by rw [HG2.out], by go_num, HV5.out, HN5.out, HEs.out⟩, rfl⟩
              case measure => simp [intOf]; omega
        · obtain rfl : m = n := by omega
          obtain ⟨W3, hW3⟩ : ∃ v, v = wr := ⟨_, rfl⟩
          subst hW3
          have HBW := Lib.hid (show Below w.heap.size w W3 from HB2.out.trans (HU.out.below (fun k hk => by have := HVS.out; simp at hk; omega) HB2.out.size))
          have HES := Lib.hid (Ends.start T l m (fun e => has E (ky e)) (fun x hx => (HE.out.set.mem _ (wanted_ok hT hx)).2 hx))
          have HGL := Lib.hid (gm_le T l m)
          generalize gm T l m = gg at HES HGL ⊢
          go_wp2_with (first | (at_range; refine wpList_range_own _ rfl _ 40 rfl 33 3 keyedE Try.underlying40 _ b (2 * T + 5 + m) E rfl HN.out ?_; intro w0 hrg0 hg0 hs0) | fail)
          go_frame
          have HB0 := Lib.hid (show Below w.heap.size w w0 from ⟨hg0.os.trans HBW.out.os, hg0.tape.trans HBW.out.tape, hg0.output.trans HBW.out.output, Nat.le_trans HBW.out.size hg0.size, fun k hk => (hg0.block k (Nat.lt_of_lt_of_le hk HBW.out.size) (by simp)).trans (HBW.out.block k hk)⟩)
          have HRS := Lib.hid HBW.out.size
          have HRG0 := Lib.hid hrg0
          clear hrg0 hg0 hs0
          generalize W3.heap.size = r at HRG0 HRS ⊢
          clear HU HN HBW HSA HS1 HB2
          go_loopw [8] (fun v wr => ∃ (M : Nat) (left : Lit → Bool) (cnt : Nat), v = .int .i64 (M : Int) ∧ wr.ranges Try.prog 33 (plainElem (H := Unit) Try.prog 3) b r (2 * T + 5 + m) E left cnt ∧ Below w.heap.size w wr ∧ Ends T l m (fun e => left (ky e)) M) (fun _ wr => wr.rangeLeft b r)
          case atStart => exact ⟨gg, _, _, rfl, HRG0.out, HB0.out, HES.out⟩
          case round =>
            obtain ⟨M, left, cnt, rfl, hrg, hbl, hE⟩ := hrel
            have HRG := Lib.hid hrg
            have HBL := Lib.hid hbl
            have HEE := Lib.hid hE
            clear hrg hbl hE HRG0 HB0 HES HGL
            go_wp2_with (first | (at_next; refine wpList_next_ranges _ rfl _ rfl 33 keyedE (plainElem Try.prog 3) enV (Value.int .i64) (fun key kl h => by obtain ⟨x, e, _⟩ := key_inv h; exact ⟨x, e⟩) (fun v y h => by obtain ⟨c, e, _⟩ := plainElem_int_inv Try.underlying3 h; exact ⟨c, e⟩) b r _ E left cnt rfl HRG.out ?_ ?_) | fail)
            · intro hc0 hl0
              have HLO := Lib.hid (HEE.out.done (fun e => hl0 (ky e)))
              have hMb := HEE.out.bd
              clear hc0 hl0 HEE
              go_wp2_with fail
              go_ret
              exact ⟨M, by go_num, HLO.out, HBL.out⟩
            · intro xa xb c kl yd yp w1 cnt1 hkey hlk hRv hat hrg1 hlt1 hg1 hs1 hen
              obtain ⟨x, hx, hok, rfl⟩ := key_inv hkey
              have hwx : wanted T x := (HE.out.set.mem _ hok).1 (has_true_of_atKey hat)
              have hcl : c = (last l x m : Nat) := by
                obtain ⟨c', e1, e2, _⟩ := plainElem_int_inv Try.underlying3 hRv
                cases e1
                cases e2
                have h1 := hat .nil
                have h2 := HE.out.at_ _ hok hwx .nil
                rw [h2] at h1
                simpa using h1.symm
              subst hcl
              have hll := last_le l x m
              have hMb := HEE.out.bd
              have HE1 := Lib.hid (HEE.out.step (left' := fun e => left (ky e) && !(ky e).sameKey (ky x)) x hwx (fun y hy hne => by rw [sameKey_ne (ky_ne (wanted_ok hT hy) hok hne)]; simp))
              have HB1 := Lib.hid (below_row HBL.out hg1 HRS.out)
              have HRG1 := Lib.hid hrg1
              have HLT := Lib.hid hlt1
              generalize enV (xa, xb) = ex at hen ⊢
              clear hkey hlk hRv hat hrg1 hg1 hs1 hlt1 hx hok
              generalize last l x m = la at HE1 hll hen ⊢
              clear hwx
              rcases (show M < m - la ∨ m - la ≤ M by omega) with hc | hc
              · have hmx : max M (m - la) = m - la := by omega
                have hc2 : (M : Int) < (m : Int) - (la : Int) := by omega
                go_wp2_with fail
                go_roundw
                case rel =>
                  repeat apply Exists.intro
                  exact ⟨⟨m - la, _, _, by congr 1; omega, HRG1.out, HB1.out, by have := HE1.out; rw [hmx] at this; exact this⟩, rfl⟩
                case measure => rw [HRG1.out.left_eq, HRG.out.left_eq]; exact HLT.out
              · have hmx : max M (m - la) = M := by omega
                have hc2 : ¬ ((M : Int) < (m : Int) - (la : Int)) := by omega
                go_wp2_with fail
                go_roundw
                case rel =>
                  exact ⟨M, rfl, _, ⟨_, HRG1.out⟩, HB1.out, by have := HE1.out; rw [hmx] at this; exact this⟩
                case measure => rw [HRG1.out.left_eq, HRG.out.left_eq]; exact HLT.out
end Go.Proofs.Ytbnjdldobfckjaa
