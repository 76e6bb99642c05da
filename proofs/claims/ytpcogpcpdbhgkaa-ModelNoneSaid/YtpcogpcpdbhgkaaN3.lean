/- code.Read of the page's word and of no word. -/
import Derived.Test.YtpcogpcpdbhgkaaN2
namespace Go.Proofs.Ytpcogpcpdbhgkaa
open Go Go.RowKit
set_option linter.unusedVariables false
set_option linter.unusedSimpArgs false

/-- the page's program: one instruction, InYield -/
structure Prog1 (w : World) (pb ib : Nat) : Prop where
  p0 : ∃ ic : Nat, 1 ≤ ic ∧ w.heap[pb]? = some (.cells #[.slice (some ⟨ib, 0, none⟩) 1 ic] 56 (0, 0))
  i0 : ∃ cur, w.heap[ib]? = some (.cells cur 39 (0, 0)) ∧ cur.toList.take 2 = [.int .i64 3, .int .i64 0]

theorem instrs_0 (A : Option Addr) (c : Nat) (m : Int) (w : World) : Calls Try.prog 16 #[.slice A 0 c, .int .i64 m] w fun e w' => ∃ g, e = .returned (.slice (some ⟨g, 0, none⟩) 0 0) ∧ Below w.heap.size w w' := by
  obtain ⟨i0, hi, hz0, hz1, hz2⟩ := info_parts info39
  go_enter Try.func16, Try.ntmps16
  go_wp2_with (refine wpList_make_own _ rfl _ _ 56 rfl w.heap.size 39 i0 _ 2 Try.underlying56 hi hz0 hz1 .i64 .i64 0 0 rfl rfl rfl (by rw [hz2]; omega) (by unfold maxLen; omega) (Nat.le_refl _) ?_; intro w1 hown1 hgrow1)
  have HO1 : Hid (Own w w1 39 2 (.slice (some ⟨w.heap.size, 0, none⟩) 0 0) 0 []) := Own.made hown1 hgrow1 rfl
  clear hown1 hgrow1
  go_loopw [5, 15] (fun x y wr => x = .slice (some ⟨w.heap.size, 0, none⟩) 0 0 ∧ y = .int .i64 0 ∧ Hid (Below w.heap.size w wr)) (fun _ y _ => 1 - (intOf y).toNat)
  case atStart => exact ⟨rfl, rfl, HO1.out.below⟩
  case round =>
    obtain ⟨rfl, rfl, HB⟩ := hrel
    go_wp2_with fail
    go_ret
    exact ⟨_, rfl, HB.out⟩

theorem read_0 (w : World) : Calls Try.prog 6 #[.slice none 0 0] w fun e w' => ∃ c pb, e = .returned (.pointer (some ⟨c, 0, none⟩)) ∧ w.heap.size ≤ c ∧ w.heap.size ≤ pb ∧ w'.heap[c]? = some (.cells #[.slice (some ⟨pb, 0, none⟩) 1 1] 46 (0, 0)) ∧ Below w.heap.size w w' := by
  obtain ⟨i0, hi, hz0, hz1, hz2⟩ := info_parts info56
  go_enter Try.func6, Try.ntmps6
  go_wp2_with fail
  go_at_call 14
  refine (cut_0 w none 0).mono ?_
  rintro e w1 ⟨v, rfl, HO⟩
  obtain ⟨_, ho2⟩ := HO.own
  rcases ho2 with ⟨_, h0⟩ | ⟨lb, cap, cur, rfl, hlb, hgb, hcap, hmx, hcs, hcur⟩
  · exact absurd h0 (by decide)
  have B1 : Hid (Below w.heap.size w w1) := HO.below
  have hs1 := HO.below.size
  have l0 : w1.cell? ⟨lb, 0, none⟩ = some (.slice none 0 0) := by
    have e1 : w1.cell? ⟨lb, 0, none⟩ = cur[0]? := by simp [World.cell?, hgb]
    rw [e1]
    have := congrArg (·[0]?) hcur
    simpa using this
  have hll := block_lt hgb
  have hcap1 : (1 : Int) ≤ (cap : Int) := by omega
  clear HO hgb hcur hcs hmx
  go_wp2_with (refine wpList_make_full _ rfl _ _ 44 rfl w1.heap.size 56 i0 _ 1 Try.underlying44 hi hz0 hz1 .i64 .i64 1 1 1 rfl rfl rfl rfl (by rw [hz2]; omega) (by unfold maxLen; omega) (Nat.le_refl _) ?_; intro w2 hown2 hgrow2)
  have HO2 : Own w1 w2 56 1 (.slice (some ⟨w1.heap.size, 0, none⟩) 1 1) 1 _ := Own.made hown2 hgrow2 rfl
  clear hown2 hgrow2
  obtain ⟨cu, hpb, hcz⟩ : ∃ cu, w2.heap[w1.heap.size]? = some (.cells cu 56 (0, 0)) ∧ cu.size = 1 := by
    obtain ⟨_, h2⟩ := HO2.own
    rcases h2 with ⟨h3, _⟩ | ⟨g, cp, cu, e1, _, hg, _, _, hs, _⟩
    · cases h3
    · simp only [Value.slice.injEq, Option.some.injEq, Addr.mk.injEq, and_true] at e1
      obtain ⟨e2, e3⟩ := e1
      rw [← e2] at hg
      exact ⟨cu, hg, by omega⟩
  obtain ⟨x0, rfl⟩ : ∃ x0, cu = #[x0] := ⟨cu[0]'(by omega), by apply Array.ext <;> simp_all⟩
  have B2 : Below w1.heap.size w1 w2 := HO2.below
  have hp2 := block_lt hpb
  clear HO2
  obtain ⟨W, hW⟩ : ∃ W, W = w2.alloc (.cells #[.slice (some ⟨w1.heap.size, 0, none⟩) 1 1] 46) := ⟨_, rfl⟩
  rw [← hW]
  have hWs : W.heap.size = w2.heap.size + 1 := by rw [hW]; simp
  have hWc : W.heap[w2.heap.size]? = some (.cells #[.slice (some ⟨w1.heap.size, 0, none⟩) 1 1] 46 (0, 0)) := by rw [hW]; exact heap_alloc_new _ _
  have hWb : Below w2.heap.size w2 W := by rw [hW]; exact (Below.refl _ _).alloc (Nat.le_refl _) _
  clear hW
  have BW : Hid (Below w1.heap.size w1 W) := B2.trans (hWb.mono (by omega))
  have PW : W.heap[w1.heap.size]? = some (.cells #[x0] 56 (0, 0)) := (hWb.block _ hp2).trans hpb
  have lW : W.cell? ⟨lb, 0, none⟩ = some (.slice none 0 0) := (BW.out.cell hll).trans l0
  have cW : W.cell? ⟨w2.heap.size, 0, none⟩ = some (.slice (some ⟨w1.heap.size, 0, none⟩) 1 1) := by simp [World.cell?, hWc]
  have hlW : lb < W.heap.size := by omega
  clear l0 hpb hWb B2
  generalize hc : w2.heap.size = c at *
  generalize hp : w1.heap.size = pb at *
  have HW : Hid (W.heap[c]? = some (.cells #[.slice (some ⟨pb, 0, none⟩) 1 1] 46 (0, 0)) ∧ W.heap[pb]? = some (.cells #[x0] 56 (0, 0))) := ⟨hWc, PW⟩
  clear hWc PW
  go_loopw [19] (fun i wr => (i = .int .i64 0 ∧ wr = W) ∨ (i = .int .i64 1 ∧ Hid (Below pb w1 wr ∧ wr.heap[c]? = some (.cells #[.slice (some ⟨pb, 0, none⟩) 1 1] 46 (0, 0))))) (fun i _ => 1 - (intOf i).toNat)
  case atStart => exact Or.inl ⟨rfl, rfl⟩
  case round =>
    rcases hrel with ⟨rfl, rfl⟩ | ⟨rfl, HF⟩
    · have cellsC : Hid (∀ x, Below wr.heap.size wr x → x.cell? ⟨c, 0, none⟩ = some (.slice (some ⟨pb, 0, none⟩) 1 1)) := fun x hx => (hx.cell (by show c < _; omega)).trans cW
      have cellsP : Hid (∀ x, Below wr.heap.size wr x → x.cell? ⟨pb, 0, none⟩ = some x0) := fun x hx => (hx.cell (by show pb < _; omega)).trans (by simp [World.cell?, HW.out.2])
      have frozP : Hid (∀ x, Below wr.heap.size wr x → x.frozen? ⟨pb, 0, none⟩ = false) := fun x hx => by
        have := (hx.block pb (by omega)).trans HW.out.2
        simp [World.frozen?, this]
      have HBx : Hid (∀ (n : Nat) x, Below (wr.drewN n).heap.size (wr.drewN n) x → Below wr.heap.size wr x) := fun n x hx => (below_drewN (Below.refl _ wr) n).trans hx
      go_wp2_with fail
      go_region_with ((go_at_call 16; refine (instrs_0 _ _ _ _).mono ?_; rintro e w3 ⟨g, rfl, hb3⟩; have b3 := HBx.out 1 _ hb3; have d0 := cellsC.out _ b3; have g0 := cellsP.out _ b3; have f0 := frozP.out _ b3))
      all_goals (
        go_wp2_with fail
        go_roundw
        case rel => exact Or.inr ⟨rfl, (BW.out.trans (b3.mono (by omega))).setCell (p := ⟨pb, 0, none⟩) (Nat.le_refl _) _, (Below.heap_setCell _ _ _ _ (by show c ≠ pb; omega)).trans ((b3.block c (by omega)).trans HW.out.1)⟩
        case measure => simp [intOf])
    · obtain ⟨f1, f2⟩ := HF.out
      go_wp2_with fail
      go_ret
      exact ⟨c, pb, rfl, by omega, by omega, f2, B1.out.trans (f1.mono (by omega))⟩
theorem read_1 (b : Nat) (w : World) (h0 : w.cell? ⟨b, 0, none⟩ = some (.int .u64 3)) : Calls Try.prog 6 #[.slice (some ⟨b, 0, none⟩) 1 1] w fun e w' => ∃ c pb ib, e = .returned (.pointer (some ⟨c, 0, none⟩)) ∧ w.heap.size ≤ c ∧ w.heap.size ≤ pb ∧ w'.heap[c]? = some (.cells #[.slice (some ⟨pb, 0, none⟩) 1 1] 46 (0, 0)) ∧ w.heap.size ≤ ib ∧ c ≠ pb ∧ c ≠ ib ∧ pb ≠ ib ∧ Prog1 w' pb ib ∧ Below w.heap.size w w' := by
  obtain ⟨i0, hi, hz0, hz1, hz2⟩ := info_parts info56
  have hb0 : b < w.heap.size := by
    rcases Nat.lt_or_ge b w.heap.size with h' | h'
    · exact h'
    · simp [World.cell?, Array.getElem?_eq_none h'] at h0
  have H0 : Hid (w.cell? ⟨b, 0, none⟩ = some (.int .u64 3)) := h0
  have HCUT : Hid (Calls Try.prog 14 #[.slice (some ⟨b, 0, none⟩) 1 1, .func (.func 15) #[] #[]] w fun e w' => ∃ v, e = .returned v ∧ Own w w' 43 1 v 1 [.slice (some ⟨b, 0, none⟩) 1 1]) := cut_1 b 1 w h0 (by decide)
  clear h0
  go_enter Try.func6, Try.ntmps6
  go_wp2_with fail
  go_at_call 14
  refine (HCUT.out).mono ?_
  rintro e w1 ⟨v, rfl, HO⟩
  obtain ⟨_, ho2⟩ := HO.own
  rcases ho2 with ⟨_, h0⟩ | ⟨lb, cap, cur, rfl, hlb, hgb, hcap, hmx, hcs, hcur⟩
  · exact absurd h0 (by decide)
  have B1 : Hid (Below w.heap.size w w1) := HO.below
  have hs1 := HO.below.size
  have l0 : w1.cell? ⟨lb, 0, none⟩ = some (.slice (some ⟨b, 0, none⟩) 1 1) := by
    have e1 : w1.cell? ⟨lb, 0, none⟩ = cur[0]? := by simp [World.cell?, hgb]
    rw [e1]
    have := congrArg (·[0]?) hcur
    simpa using this
  have hll := block_lt hgb
  have hcap1 : (1 : Int) ≤ (cap : Int) := by omega
  clear HO hgb hcur hcs hmx
  go_wp2_with (refine wpList_make_full _ rfl _ _ 44 rfl w1.heap.size 56 i0 _ 1 Try.underlying44 hi hz0 hz1 .i64 .i64 1 1 1 rfl rfl rfl rfl (by rw [hz2]; omega) (by unfold maxLen; omega) (Nat.le_refl _) ?_; intro w2 hown2 hgrow2)
  have HO2 : Own w1 w2 56 1 (.slice (some ⟨w1.heap.size, 0, none⟩) 1 1) 1 _ := Own.made hown2 hgrow2 rfl
  clear hown2 hgrow2
  obtain ⟨cu, hpb, hcz⟩ : ∃ cu, w2.heap[w1.heap.size]? = some (.cells cu 56 (0, 0)) ∧ cu.size = 1 := by
    obtain ⟨_, h2⟩ := HO2.own
    rcases h2 with ⟨h3, _⟩ | ⟨g, cp, cu, e1, _, hg, _, _, hs, _⟩
    · cases h3
    · simp only [Value.slice.injEq, Option.some.injEq, Addr.mk.injEq, and_true] at e1
      obtain ⟨e2, e3⟩ := e1
      rw [← e2] at hg
      exact ⟨cu, hg, by omega⟩
  obtain ⟨x0, rfl⟩ : ∃ x0, cu = #[x0] := ⟨cu[0]'(by omega), by apply Array.ext <;> simp_all⟩
  have B2 : Below w1.heap.size w1 w2 := HO2.below
  have hp2 := block_lt hpb
  clear HO2
  obtain ⟨W, hW⟩ : ∃ W, W = w2.alloc (.cells #[.slice (some ⟨w1.heap.size, 0, none⟩) 1 1] 46) := ⟨_, rfl⟩
  rw [← hW]
  have hWs : W.heap.size = w2.heap.size + 1 := by rw [hW]; simp
  have hWc : W.heap[w2.heap.size]? = some (.cells #[.slice (some ⟨w1.heap.size, 0, none⟩) 1 1] 46 (0, 0)) := by rw [hW]; exact heap_alloc_new _ _
  have hWb : Below w2.heap.size w2 W := by rw [hW]; exact (Below.refl _ _).alloc (Nat.le_refl _) _
  clear hW
  have BW : Hid (Below w1.heap.size w1 W) := B2.trans (hWb.mono (by omega))
  have PW : W.heap[w1.heap.size]? = some (.cells #[x0] 56 (0, 0)) := (hWb.block _ hp2).trans hpb
  have lW : W.cell? ⟨lb, 0, none⟩ = some (.slice (some ⟨b, 0, none⟩) 1 1) := (BW.out.cell hll).trans l0
  have cW : W.cell? ⟨w2.heap.size, 0, none⟩ = some (.slice (some ⟨w1.heap.size, 0, none⟩) 1 1) := by simp [World.cell?, hWc]
  have hlW : lb < W.heap.size := by omega
  clear l0 hpb hWb B2
  generalize hc : w2.heap.size = c at *
  generalize hp : w1.heap.size = pb at *
  have HW : Hid (W.heap[c]? = some (.cells #[.slice (some ⟨pb, 0, none⟩) 1 1] 46 (0, 0)) ∧ W.heap[pb]? = some (.cells #[x0] 56 (0, 0))) := ⟨hWc, PW⟩
  clear hWc PW
  go_loopw [19] (fun i wr => (i = .int .i64 0 ∧ wr = W) ∨ (i = .int .i64 1 ∧ Hid (Below pb w1 wr ∧ wr.heap[c]? = some (.cells #[.slice (some ⟨pb, 0, none⟩) 1 1] 46 (0, 0)) ∧ ∃ ib, c < ib ∧ pb < ib ∧ Prog1 wr pb ib))) (fun i _ => 1 - (intOf i).toNat)
  case atStart => exact Or.inl ⟨rfl, rfl⟩
  case round =>
    rcases hrel with ⟨rfl, rfl⟩ | ⟨rfl, HF⟩
    · have cellsC : Hid (∀ x, Below wr.heap.size wr x → x.cell? ⟨c, 0, none⟩ = some (.slice (some ⟨pb, 0, none⟩) 1 1)) := fun x hx => (hx.cell (by show c < _; omega)).trans cW
      have cellsP : Hid (∀ x, Below wr.heap.size wr x → x.cell? ⟨pb, 0, none⟩ = some x0) := fun x hx => (hx.cell (by show pb < _; omega)).trans (by simp [World.cell?, HW.out.2])
      have frozP : Hid (∀ x, Below wr.heap.size wr x → x.frozen? ⟨pb, 0, none⟩ = false) := fun x hx => by
        have := (hx.block pb (by omega)).trans HW.out.2
        simp [World.frozen?, this]
      have HBx : Hid (∀ (n : Nat) x, Below (wr.drewN n).heap.size (wr.drewN n) x → Below wr.heap.size wr x) := fun n x hx => (below_drewN (Below.refl _ wr) n).trans hx
      have HI1 : Hid (Calls Try.prog 16 #[.slice (some ⟨b, 0, none⟩) 1 1, .int .i64 1] wr.drew fun e w3 => ∃ (ib ic : Nat) (cu3 : Array Value), e = .returned (.slice (some ⟨ib, 0, none⟩) 1 ic) ∧ 1 ≤ ic ∧ wr.heap.size ≤ ib ∧ w3.heap[ib]? = some (.cells cu3 39 (0, 0)) ∧ cu3.toList.take 2 = [.int .i64 3, .int .i64 0] ∧ Below wr.drew.heap.size wr.drew w3) := by
        refine (instrs_1 b 1 1 wr.drew (((BW.out.drew).cell (show b < pb by omega)).trans ((B1.out.cell hb0).trans H0.out))).mono ?_
        rintro e w3 ⟨v, rfl, HO3⟩
        obtain ⟨_, h2⟩ := HO3.own
        rcases h2 with ⟨_, h3⟩ | ⟨ib, ic, cu3, rfl, h3, h4, h5, _, _, h7⟩
        · exact absurd h3 (by decide)
        · exact ⟨ib, ic, cu3, rfl, h5, h3, h4, h7, HO3.below⟩
      go_wp2_with fail
      go_region_with ((go_at_call 16; refine HI1.out.mono ?_; rintro e w3 ⟨ib, ic, cu3, rfl, hi1, hi2, hi3, hi4, hb3⟩; have b3 := HBx.out 1 _ hb3; have d0 := cellsC.out _ b3; have g0 := cellsP.out _ b3; have f0 := frozP.out _ b3))
      all_goals (
        go_wp2_with fail
        go_roundw
        case rel => exact Or.inr ⟨rfl, (BW.out.trans (b3.mono (by omega))).setCell (p := ⟨pb, 0, none⟩) (Nat.le_refl _) _, (Below.heap_setCell _ _ _ _ (by show c ≠ pb; omega)).trans ((b3.block c (by omega)).trans HW.out.1), ib, by omega, by omega, ⟨⟨ic, hi1, heap_set ((b3.block pb (by omega)).trans HW.out.2) 0 _⟩, ⟨cu3, (Below.heap_setCell _ _ _ _ (by show ib ≠ pb; omega)).trans hi3, hi4⟩⟩⟩
        case measure => simp [intOf])
    · obtain ⟨f1, f2, ib, f3, f4, f5⟩ := HF.out
      go_wp2_with fail
      go_ret
      exact ⟨c, pb, ib, rfl, by omega, by omega, f2, by omega, by omega, by omega, by omega, f5, B1.out.trans (f1.mono (by omega))⟩
end Go.Proofs.Ytpcogpcpdbhgkaa
