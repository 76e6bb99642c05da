/- Are entries fair? The walk. -/
import Derived.Test.YtbnjdldobfckjaaE3
namespace Go.Proofs.Ytbnjdldobfckjaa
open Go Go.RowKit Go.Maps
set_option linter.unusedVariables false
set_option linter.unusedSimpArgs false
set_option maxRecDepth 100000

theorem make_hint (n : Int) (w : World) (h : 0 ≤ n) : (Instr.makeMap 37 (some (.int .i64 n))).run Try.prog w = .ok (.map (some w.heap.size)) (w.alloc (.map #[] 0)) := by
  simp [Instr.makeMap, go_sem, run_underlying Try.underlying37, Result.andThen]
  try rfl
/-- A world whose elder blocks are all kept, but for what one of the newer ones holds. -/
theorem below_row {V w w' : World} {b : Nat} (h : Below V.heap.size V w) (hg : w.grownBy w' (some b)) (hb : V.heap.size ≤ b) : Below V.heap.size V w' :=
  ⟨hg.os.trans h.os, hg.tape.trans h.tape, hg.output.trans h.output, Nat.le_trans h.size hg.size, fun k hk => (hg.block k (Nat.lt_of_lt_of_le hk h.size) (fun e => by have := Option.some.inj e; omega)).trans (h.block k hk)⟩
theorem below_turned {V w w' : World} {b : Nat} (h : Below V.heap.size V w) (hg : w.mapTurned w' b) (hb : V.heap.size ≤ b) : Below V.heap.size V w' := below_row h hg.grown hb
set_option maxHeartbeats 4000000 in
theorem right_gen (w : World) (P T G : Int) (N : Nat) (r : Nat → En) (n cap : Nat) (A : Option Addr) (l : Nat → En) (b : Bool) (hN : N ≤ 1000) (hn : n ≤ 1000000) (hr : ∀ i, i < N → EnOk (r i)) (hl : ∀ i, i < n → EnOk (l i)) (hs : Sees w A n l)
    (hb : b = true ↔ ∀ i, i < N → ∃ k, k < n ∧ pl (l k) = r i)
    (hc : ∀ w, Calls Try.prog 9 #[.agg #[.int .i64 P, .int .i64 T, .int .i64 G]] w fun e w' => ∃ A cap, e = .returned (.slice A N cap) ∧ Sees w' A N r ∧ Below w.heap.size w w') :
    Calls Try.prog 10 #[.agg #[.int .i64 P, .int .i64 T, .int .i64 G], .slice A n cap] w fun e w' => e = .returned (.bool (decide (0 < N) && b)) ∧ Below w.heap.size w w' := by
  have HB := Lib.hid (fun o1 => ((Below.refl w.heap.size w).alloc (Nat.le_refl _) o1))
  have HC := Lib.hid hc
  have HR := Lib.hid hr
  have HL := Lib.hid hl
  have HS := Lib.hid hs
  have HBB := Lib.hid hb
  clear hc hr hl hs hb
  go_enter Try.func10, Try.ntmps10
  go_wp2_with fail
  go_at_call 9; refine (HC.out _).mono ?_; rintro e V ⟨A1, cap1, rfl, hs1, hb1⟩
  have HBV := Lib.hid ((HB.out (.cells #[.int .i64 P, .int .i64 T, .int .i64 G] 23)).trans (hb1.mono (by rw [size_al]; omega)))
  have HS1 := Lib.hid hs1
  have HSA := Lib.hid (HS.out.bel HBV.out)
  clear hs1 hb1
  have hmk := make_hint (N : Int) V (by omega)
  go_wp2_with fail
  clear hmk
  have HM0 := Lib.hid (World.ownsMap_made V Try.prog 33 (unitElem (H := Unit)))
  have HV0 := Lib.hid ((Below.refl V.heap.size V).alloc (Nat.le_refl _) (.map #[] 0))
  generalize hW : V.alloc (.map #[] 0) = W at HM0 HV0 ⊢
  clear hW
  go_loopw [18] (fun i wr => ∃ (j : Nat) (D : DataW Unit), j ≤ N ∧ i = .int .i64 j ∧ Below V.heap.size V wr ∧ wr.ownsMap Try.prog 33 (unitElem (H := Unit)) V.heap.size j D ∧ SetIs D (fun e => ∃ k, k < j ∧ r k = e)) (fun i _ => N - (intOf i).toNat)
  case atStart => exact ⟨0, _, Nat.zero_le _, rfl, HV0.out, HM0.out, SetIs.none.to (fun e _ => ⟨fun h => False.elim h, fun ⟨k, h, _⟩ => absurd h (Nat.not_lt_zero _)⟩)⟩
  case round =>
    obtain ⟨j, D, hj, rfl, hV, hM, hD⟩ := hrel
    have HV := Lib.hid hV
    have HM := Lib.hid hM
    have HD := Lib.hid hD
    clear HM0 HV0 hV hM hD
    by_cases hlt : j < N
    · obtain ⟨b1, off, rfl, hcs⟩ := HS1.out (by omega)
      have c0 := (HV.out.cell (cell_lt (hcs j hlt).1)).trans (hcs j hlt).1
      have c1 := (HV.out.cell (cell_lt (hcs j hlt).1)).trans (hcs j hlt).2
      have hji : (j : Int) < (N : Int) := by omega
      have hb1 := cell_lt c0
      clear hcs
      go_wp2_with (first | (at_mapUpdate; refine wpList_mapUpdate_own _ rfl _ _ _ 37 rfl 33 38 keyedE Try.underlying37 unitElem V.heap.size j D rfl (HM.out.alloc _) (by unfold maxLen; omega) _ _ (ky (r j)) rfl rfl (ky_some (HR.out j hlt)) (.agg []) [] unitElem_mk ?_; intro w3 hown3 hgrow3) | fail)
      have HV3 := Lib.hid (below_row (HV.out.alloc HV.out.size _) hgrow3 (Nat.le_refl _))
      have HM3 := Lib.hid hown3
      have HD3 := Lib.hid ((HD.out.put (HR.out j hlt) (.agg [])).to (S' := fun e => ∃ k, k < j + 1 ∧ r k = e) (fun e _ => ⟨fun h => by
        rcases h with ⟨k, h1, h2⟩ | h
        · exact ⟨k, by omega, h2⟩
        · exact ⟨j, by omega, h.symm⟩, fun ⟨k, h1, h2⟩ => by
        by_cases e : k = j
        · subst e; exact Or.inr h2.symm
        · exact Or.inl ⟨k, by omega, h2⟩⟩))
      clear hown3 hgrow3 c0 c1 hb1 HV HM HD
      go_wp2_with fail
      go_roundw
      case rel => exact ⟨j + 1, _, by omega, by go_num, HV3.out, HM3.out, HD3.out⟩
      case measure => simp [intOf]; omega
    · obtain rfl : j = N := by omega
      obtain ⟨W1, hW1⟩ : ∃ v, v = wr := ⟨_, rfl⟩
      subst hW1
      go_wp2_with fail
      go_loopw [28] (fun i wr => ∃ (m : Nat) (D : DataW Unit), m ≤ n ∧ i = .int .i64 m ∧ Below V.heap.size V wr ∧ wr.ownsMap Try.prog 33 (unitElem (H := Unit)) V.heap.size j D ∧ SetIs D (fun e => (∃ k, k < j ∧ r k = e) ∧ ∀ k, k < m → pl (l k) ≠ e)) (fun i _ => n - (intOf i).toNat)
      case atStart => exact ⟨0, D, Nat.zero_le _, rfl, HV.out, HM.out, HD.out.to (fun e _ => ⟨fun h => ⟨h, fun k hk => absurd hk (Nat.not_lt_zero _)⟩, fun h => h.1⟩)⟩
      case round =>
        obtain ⟨m, E, hm, rfl, hV, hM, hD⟩ := hrel
        have HU := Lib.hid hV
        have HN := Lib.hid hM
        have HE := Lib.hid hD
        clear HV HM HD hV hM hD
        by_cases hlt : m < n
        · obtain ⟨b1, off, rfl, hcs⟩ := HSA.out (by omega)
          have c0 := (HU.out.cell (cell_lt (hcs m hlt).1)).trans (hcs m hlt).1
          have c1 := (HU.out.cell (cell_lt (hcs m hlt).1)).trans (hcs m hlt).2
          have hmi : (m : Int) < (n : Int) := by omega
          have hb1 := cell_lt c0
          have HPO := Lib.hid (pl_ok (HL.out m hlt))
          clear hcs
          go_wp2_with (first | (go_at_call 15; refine (plain_any _ (l m)).mono ?_; rintro e w3 ⟨rfl, hb3⟩; have HV3 := Lib.hid ((HU.out.alloc HU.out.size (.cells #[.int .i64 (l m).1, .int .i64 (l m).2] 33)).trans (hb3.mono (by rw [size_al]; have := HU.out.size; omega))); have HN3 := Lib.hid ((HN.out.alloc (.cells #[.int .i64 (l m).1, .int .i64 (l m).2] 33)).kept (row := none) ⟨hb3.os, hb3.tape, hb3.output, hb3.size, fun k hk _ => hb3.block k hk⟩ (by simp)); clear hb3) | (at_delete; refine wpList_delete_own _ rfl _ _ 37 33 rfl 38 keyedE Try.underlying37 unitElem V.heap.size j E rfl HN3.out _ (ky (pl (l m))) rfl (ky_some HPO.out) ?_; intro w4 hown4 hturn4) | fail)
          have HV4 := Lib.hid (below_turned HV3.out hturn4 (Nat.le_refl _))
          have HN4 := Lib.hid hown4
          have HE4 := Lib.hid ((HE.out.del HPO.out).to (S' := fun e => (∃ k, k < j ∧ r k = e) ∧ ∀ k, k < m + 1 → pl (l k) ≠ e) (fun e _ => ⟨fun h => ⟨h.1.1, fun k hk => by
            by_cases ee : k = m
            · subst ee; exact fun h2 => h.2 h2.symm
            · exact h.1.2 k (by omega)⟩, fun h => ⟨⟨h.1, fun k hk => h.2 k (by omega)⟩, fun h2 => h.2 m (by omega) h2.symm⟩⟩))
          clear hown4 hturn4 c0 c1 hb1 HU HN HE HV3 HN3
          go_wp2_with fail
          go_roundw
          case rel => exact ⟨m + 1, _, by omega, by go_num, HV4.out, HN4.out, HE4.out⟩
          case measure => simp [intOf]; omega
        · obtain rfl : m = n := by omega
          have hlen := HN.out.len Try.underlying37 3
          have hz : Maps.size E = 0 ↔ b = true := by
            rw [HE.out.size HN.out, HBB.out]
            constructor
            · intro h i hi
              apply Classical.byContradiction
              intro hne
              exact h (r i) (HR.out i hi) ⟨⟨i, hi, rfl⟩, fun k hk he => hne ⟨k, hk, he⟩⟩
            · rintro h e he ⟨⟨i, hi, rfl⟩, h2⟩
              obtain ⟨k, hk, hp⟩ := h i hi
              exact h2 k hk hp
          generalize hsz : Maps.size E = sz at hlen hz
          have HZ := Lib.hid hz
          have HEND := Lib.hid (HBV.out.trans (HU.out.mono HBV.out.size))
          clear hz hsz
          rcases Nat.eq_zero_or_pos j with h0 | h0
          · subst h0
            go_wp2_with fail
            go_ret
            exact ⟨rfl, HEND.out⟩
          · have hj0 : (0 : Int) < (j : Int) := by omega
            go_wp2_with fail
            go_ret
            refine ⟨?_, HEND.out⟩
            rw [show decide (0 < j) = true from decide_eq_true h0, Bool.true_and]
            have hz := HZ.out
            cases b
            · have : sz ≠ 0 := fun e => by have := hz.1 e; cases this
              simp [this]
            · have : sz = 0 := hz.2 rfl
              simp [this]
end Go.Proofs.Ytbnjdldobfckjaa
