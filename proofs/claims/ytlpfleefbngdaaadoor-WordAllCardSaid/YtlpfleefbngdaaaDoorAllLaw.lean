/- The walk of the law WordAll. -/
import Derived.Test.YtlpfleefbngdaaaDoorCount
import Derived.Test.YtlpfleefbngdaaaDoorWalks6
import Derived.Deep.RegionHeld3
import Derived.BigGuardPart
namespace Go.Proofs.YtlpfleefbngdaaaDoor
open Go Go.RowKit
set_option linter.unusedSimpArgs false
set_option linter.unusedVariables false

set_option maxRecDepth 100000 in
theorem wordAll_many (A E : Option Addr) (n cap m cp : Nat) (t : Int) (w : World) (hT : Tab w) (hn : n ≤ 9223372036854775807) (hm : m ≤ 9223372036854775807) (h : 100 < n ∨ (n ≤ 100 ∧ 100 < m)) :
    Calls Tryd.prog 6 #[.slice A n cap, .int .i64 t, .slice E m cp] w fun e w' => e = .returned (.bool true) ∧ Below w.heap.size w w' := by
  rcases h with h | ⟨h1, h2⟩
  all_goals
    go_enter Tryd.func6, Tryd.ntmps6
    go_wp2_with fail
    go_at_call 7; refine (awake_any _ hT).mono ?_; rintro e w1 ⟨rfl, hb1⟩
    go_wp2_with fail
    go_ret
    exact ⟨rfl, hb1⟩

theorem entCells_at (f : Nat → Int) (t : Int) (n k : Nat) (hk : k < n) : (entCells f t n)[k * 2]? = some (.int .i64 (kindV (f k))) ∧ (entCells f t n)[k * 2 + 1]? = some (.int .i64 (whoV (f k) t)) := by
  induction n with
  | zero => omega
  | succ n ih =>
    have hl := entCells_length f t n
    unfold entCells
    by_cases e : k = n
    · subst e
      rw [List.getElem?_append_right (by omega), List.getElem?_append_right (by omega), hl]
      simp
    · have := ih (by omega)
      rw [List.getElem?_append_left (by omega), List.getElem?_append_left (by omega)]
      exact this

theorem SeesE.more {w : World} {B B' n : Nat} {A : Option Addr} {f g : Nat → Int} (h : SeesE w B A n f g) (hB : B ≤ B') : SeesE w B' A n f g := fun hn => by
  obtain ⟨b, off, e, h1, h2⟩ := h hn
  exact ⟨b, off, e, Nat.lt_of_lt_of_le h1 hB, h2⟩
theorem five_at (p : Nat → Int) (m J : Nat) (hJ : J < 5) : (#[Value.int .i64 (cntOf p 0 m), .int .i64 (cntOf p 1 m), .int .i64 (cntOf p 2 m), .int .i64 (cntOf p 3 m), .int .i64 (cntOf p 4 m)])[J]? = some (.int .i64 (cntOf p J m)) := by
  match J, hJ with
  | 0, _ => rfl
  | 1, _ => rfl
  | 2, _ => rfl
  | 3, _ => rfl
  | 4, _ => rfl

/-- Three cells, and all below, kept over a call that makes memory. -/
theorem held3 {W : World} {a b c : Addr} {x y z : Value} (ha : a.block < W.heap.size) (hb : b.block < W.heap.size) (hc : c.block < W.heap.size) (X w' : World)
    (hS : X.cell? a = some x ∧ X.cell? b = some y ∧ X.cell? c = some z ∧ Below W.heap.size W X) (h : Below X.heap.size X w') :
    w'.cell? a = some x ∧ w'.cell? b = some y ∧ w'.cell? c = some z ∧ Below W.heap.size W w' :=
  ⟨(h.cell (Nat.lt_of_lt_of_le ha hS.2.2.2.size)).trans hS.1, (h.cell (Nat.lt_of_lt_of_le hb hS.2.2.2.size)).trans hS.2.1, (h.cell (Nat.lt_of_lt_of_le hc hS.2.2.2.size)).trans hS.2.2.1, hS.2.2.2.trans (h.mono hS.2.2.2.size)⟩

/-- Two cells, and all below, kept over a call that makes memory. -/
theorem held2 {W : World} {a b : Addr} {x y : Value} (ha : a.block < W.heap.size) (hb : b.block < W.heap.size) (X w' : World)
    (hS : X.cell? a = some x ∧ X.cell? b = some y ∧ Below W.heap.size W X) (h : Below X.heap.size X w') :
    w'.cell? a = some x ∧ w'.cell? b = some y ∧ Below W.heap.size W w' :=
  ⟨(h.cell (Nat.lt_of_lt_of_le ha hS.2.2.size)).trans hS.1, (h.cell (Nat.lt_of_lt_of_le hb hS.2.2.size)).trans hS.2.1, hS.2.2.trans (h.mono hS.2.2.size)⟩
theorem held2_tab {W X : World} {a b : Addr} {x y : Value} (hT : Tab W) (hn : 0 < W.heap.size) (hS : X.cell? a = some x ∧ X.cell? b = some y ∧ Below W.heap.size W X) : Tab X := hT.below hS.2.2 hn

set_option maxRecDepth 100000 in
set_option maxHeartbeats 4000000 in
theorem wordAll_few (A E : Option Addr) (n cap m cp : Nat) (f p q : Nat → Int) (t : Int) (w : World) (hT : Tab w) (hn : n ≤ 100) (hm : m ≤ 100)
    (hs : SeesU w w.heap.size A n f) (hf : ∀ i, i < n → 0 ≤ f i ∧ f i ≤ 18446744073709551615) (hl : SeesE w w.heap.size E m p q) :
    Calls Tryd.prog 6 #[.slice A n cap, .int .i64 t, .slice E m cp] w fun e w' => e = .returned (.bool true) ∧ Below w.heap.size w w' := by
  have hsz := hT.size
  have HF : Hid (∀ i, i < n → 0 ≤ f i ∧ f i ≤ 18446744073709551615) := hf
  have HS : Hid (SeesU w w.heap.size A n f) := hs
  have HL : Hid (SeesE w w.heap.size E m p q) := hl
  clear hf hs hl
  go_enter Tryd.func6, Tryd.ntmps6
  go_wp2_with fail
  go_at_call 15; refine (all_any A n cap f t _ hT hn HS.out HF.out).mono ?_; rintro e w1 ⟨rfl, hown, hb1⟩
  have hT1 := hT.below hb1 hsz
  go_wp2_with fail
  go_loopw [8] (fun i wr => ∃ k : Nat, k ≤ n ∧ i = .int .i64 k ∧ Below w1.heap.size w1 wr) (fun i _ => n - (intOf i).toNat)
  case atStart => exact ⟨0, Nat.zero_le _, rfl, Below.refl _ _⟩
  case round =>
    obtain ⟨k, hk, rfl, hB⟩ := hrel
    by_cases hlt : k < n
    · obtain ⟨b, off, rfl, hbB, hcell⟩ := HS.out (by omega)
      have hgl : w.heap.size < w1.heap.size := (hown.lt _ rfl).2
      have hbl : b < w1.heap.size := Nat.lt_of_lt_of_le hbB hb1.size
      have hat := entCells_at f t n k hlt
      have e0 : wr.cell? ⟨w.heap.size, k * 2, none⟩ = some (.int .i64 (kindV (f k))) := (hB.cell (p := ⟨w.heap.size, k * 2, none⟩) hgl).trans ((hown.cellAt (k * 2) (by omega)).trans hat.1)
      have e1 : wr.cell? ⟨w.heap.size, k * 2 + 1, none⟩ = some (.int .i64 (whoV (f k) t)) := (hB.cell (p := ⟨w.heap.size, k * 2 + 1, none⟩) hgl).trans ((hown.cellAt (k * 2 + 1) (by omega)).trans hat.2)
      have e2 : wr.cell? ⟨b, off + k, none⟩ = some (.int .u64 (f k)) := (hB.cell (p := ⟨b, off + k, none⟩) hbl).trans ((hb1.cell (p := ⟨b, off + k, none⟩) hbB).trans (hcell k hlt))
      have hfk := HF.out k hlt
      have HC : Hid (∀ w, Calls Tryd.prog 11 #[.int .u64 (f k), .int .i64 t] w fun e w' => e = .returned (.agg #[.int .i64 (kindV (f k)), .int .i64 (whoV (f k) t)]) ∧ Below w.heap.size w w') := fun w => refRead_any (f k) t w hfk.1 hfk.2
      clear hcell hat hfk
      generalize kindV (f k) = kk at e0 HC
      generalize whoV (f k) t = oo at e1 HC
      generalize f k = x at e2 HC
      have KEEP : Hid (∀ X w' : World, (X.cell? ⟨w.heap.size, k * 2, none⟩ = some (.int .i64 kk) ∧ X.cell? ⟨w.heap.size, k * 2 + 1, none⟩ = some (.int .i64 oo) ∧ X.cell? ⟨b, off + k, none⟩ = some (.int .u64 x) ∧ Below w1.heap.size w1 X) → Below X.heap.size X w' →
          (w'.cell? ⟨w.heap.size, k * 2, none⟩ = some (.int .i64 kk) ∧ w'.cell? ⟨w.heap.size, k * 2 + 1, none⟩ = some (.int .i64 oo) ∧ w'.cell? ⟨b, off + k, none⟩ = some (.int .u64 x) ∧ Below w1.heap.size w1 w')) :=
        held3 (a := ⟨w.heap.size, k * 2, none⟩) (b := ⟨w.heap.size, k * 2 + 1, none⟩) (c := ⟨b, off + k, none⟩) hgl hgl hbl
      have hH : wr.drew.cell? ⟨w.heap.size, k * 2, none⟩ = some (.int .i64 kk) ∧ wr.drew.cell? ⟨w.heap.size, k * 2 + 1, none⟩ = some (.int .i64 oo) ∧ wr.drew.cell? ⟨b, off + k, none⟩ = some (.int .u64 x) ∧ Below w1.heap.size w1 wr.drew := ⟨e0, e1, e2, hB.drew⟩
      clear e0 e1 e2
      go_wp2_with fail
      go_region_held3 (fun w' => w'.cell? ⟨w.heap.size, k * 2, none⟩ = some (.int .i64 kk) ∧ w'.cell? ⟨w.heap.size, k * 2 + 1, none⟩ = some (.int .i64 oo) ∧ w'.cell? ⟨b, off + k, none⟩ = some (.int .u64 x) ∧ Below w1.heap.size w1 w') (first | exact hH | assumption | exact KEEP.out _ _ ‹_› ‹_›) (first | (go_at_call 11; refine (HC.out _).mono ?_; rintro e w' ⟨rfl, hbf⟩))
      rename_i hS
      have hE := hS.2.2.2
      clear hS hH
      go_wp2_with fail
      go_roundw
      case rel => exact ⟨k + 1, by omega, by go_num, hE⟩
      case measure => simp [intOf]; omega
    · obtain rfl : k = n := by omega
      have hBr := hb1.trans (hB.mono hb1.size)
      have hTr := hT.below hBr hsz
      clear hown hB hT1
      go_wp2_with fail
      go_at_call 16; refine (count_any E m cp p q _ hTr hm ((HL.out.below hBr (Nat.le_refl _)).more hBr.size)).mono ?_; rintro e w2 ⟨rfl, hb2⟩
      have hB2 := hBr.trans (hb2.mono hBr.size)
      have hB3 := hB2.alloc hB2.size (.cells #[.int .i64 (cntOf p 0 m), .int .i64 (cntOf p 1 m), .int .i64 (cntOf p 2 m), .int .i64 (cntOf p 3 m), .int .i64 (cntOf p 4 m)] 38)
      have hF3 : Five (w2.alloc (.cells #[.int .i64 (cntOf p 0 m), .int .i64 (cntOf p 1 m), .int .i64 (cntOf p 2 m), .int .i64 (cntOf p 3 m), .int .i64 (cntOf p 4 m)] 38)) w2.heap.size (cntOf p 0 m) (cntOf p 1 m) (cntOf p 2 m) (cntOf p 3 m) (cntOf p 4 m) := heap_alloc_new _ _
      go_wp2_with fail
      have HL3 : Hid (SeesE (w2.alloc (.cells #[.int .i64 (cntOf p 0 m), .int .i64 (cntOf p 1 m), .int .i64 (cntOf p 2 m), .int .i64 (cntOf p 3 m), .int .i64 (cntOf p 4 m)] 38)) w.heap.size E m p q) := HL.out.below hB3 (Nat.le_refl _)
      generalize (w2.alloc (.cells #[.int .i64 (cntOf p 0 m), .int .i64 (cntOf p 1 m), .int .i64 (cntOf p 2 m), .int .i64 (cntOf p 3 m), .int .i64 (cntOf p 4 m)] 38)) = w3 at hB3 hF3 HL3 ⊢
      have HF3 : Hid (Five w3 w2.heap.size (cntOf p 0 m) (cntOf p 1 m) (cntOf p 2 m) (cntOf p 3 m) (cntOf p 4 m)) := hF3
      clear hF3 hb2 hB2 hTr
      generalize w2.heap.size = g2 at HF3 ⊢
      go_loop [10] (fun j => ∃ J : Nat, J ≤ 5 ∧ j = .int .i64 J) (fun j => 5 - (intOf j).toNat)
      case atStart => exact ⟨0, by omega, rfl⟩
      case round =>
        obtain ⟨J, hJ, rfl⟩ := hrel
        by_cases hJ5 : J < 5
        · have hc : w3.cell? ⟨g2, J, none⟩ = some (.int .i64 (cntOf p J m)) := (HF3.out.cell J).trans (five_at p m J hJ5)
          go_wp2_with fail
          go_loop [11, 12] (fun c i => ∃ I : Nat, I ≤ m ∧ i = .int .i64 I ∧ c = .int .i64 (cntOf p J I)) (fun _ i => m - (intOf i).toNat)
          case atStart => exact ⟨0, Nat.zero_le _, rfl, rfl⟩
          case round =>
            obtain ⟨I, hI, rfl, rfl⟩ := hrel
            by_cases hIm : I < m
            · obtain ⟨b2, off2, rfl, hb2B, hcell2⟩ := HL3.out (by omega)
              have e0 : w3.cell? ⟨b2, off2 + I * 2, none⟩ = some (.int .i64 (p I)) := (hcell2 I hIm).1
              have hle := cntOf_le p J I
              clear hcell2
              have hO := cnt_step p J I
              generalize p I = x at e0 hO
              have HO : Hid (∀ b, ofKind J x = b → cntOf p J (I + 1) = cntOf p J I + if b then 1 else 0) := hO
              clear hO
              have hq : (J = 0 ∧ x = 0) ∨ (J = 0 ∧ x ≠ 0 ∧ x < 1) ∨ (J = 0 ∧ x ≠ 0 ∧ 1 ≤ x ∧ 4 < x) ∨ (J = 0 ∧ x ≠ 0 ∧ 1 ≤ x ∧ x ≤ 4) ∨ (0 < J ∧ x = J) ∨ (0 < J ∧ x ≠ J) := by omega
              rcases hq with ⟨rfl, rfl⟩ | ⟨rfl, h1, h2⟩ | ⟨rfl, h1, h2, h3⟩ | ⟨rfl, h1, h2, h3⟩ | ⟨h1, rfl⟩ | ⟨h1, h2⟩
              · have HN : Hid (cntOf p 0 (I + 1) = cntOf p 0 I + 1) := HO.out true (by decide)
                clear HO
                have hle0 : cntOf p 0 I ≤ I := hle
                go_wp2_with fail
                go_round
                case rel => exact ⟨I + 1, by omega, by go_num, by rw [show cntOf p ((0 : Nat) : Int) (I + 1) = cntOf p 0 I + 1 from HN.out]; go_num⟩
                case measure => simp [intOf]; omega
              · have HN : Hid (cntOf p 0 (I + 1) = cntOf p 0 I + 1) := HO.out true (by unfold ofKind; rw [decide_eq_true_iff]; omega)
                clear HO
                have hle0 : cntOf p 0 I ≤ I := hle
                have d1 : (x == (0 : Int)) = false := by simpa using h1
                go_wp2_with fail
                go_round
                case rel => exact ⟨I + 1, by omega, by go_num, by rw [show cntOf p ((0 : Nat) : Int) (I + 1) = cntOf p 0 I + 1 from HN.out]; go_num⟩
                case measure => simp [intOf]; omega
              · have HN : Hid (cntOf p 0 (I + 1) = cntOf p 0 I + 1) := HO.out true (by unfold ofKind; rw [decide_eq_true_iff]; omega)
                clear HO
                have hle0 : cntOf p 0 I ≤ I := hle
                have d1 : (x == (0 : Int)) = false := by simpa using h1
                go_wp2_with fail
                go_round
                case rel => exact ⟨I + 1, by omega, by go_num, by rw [show cntOf p ((0 : Nat) : Int) (I + 1) = cntOf p 0 I + 1 from HN.out]; go_num⟩
                case measure => simp [intOf]; omega
              · have HN : Hid (cntOf p 0 (I + 1) = cntOf p 0 I) := HO.out false (by unfold ofKind; rw [decide_eq_false_iff_not]; omega)
                clear HO
                have hle0 : cntOf p 0 I ≤ I := hle
                have d1 : (x == (0 : Int)) = false := by simpa using h1
                go_wp2_with fail
                any_goals (first | (exfalso; omega) | skip)
                go_round
                case rel => exact ⟨I + 1, by omega, by go_num, by rw [show cntOf p ((0 : Nat) : Int) (I + 1) = cntOf p 0 I from HN.out]; rfl⟩
                case measure => simp [intOf]; omega
              · have HN : Hid (cntOf p J (I + 1) = cntOf p J I + 1) := HO.out true (by unfold ofKind; rw [decide_eq_true_iff]; omega)
                clear HO
                have d2 : ((J : Int) == 0) = false := by simp; omega
                go_wp2_with fail
                go_round
                case rel => exact ⟨I + 1, by omega, by go_num, by rw [HN.out]; go_num⟩
                case measure => simp [intOf]; omega
              · have HN : Hid (cntOf p J (I + 1) = cntOf p J I) := HO.out false (by unfold ofKind; rw [decide_eq_false_iff_not]; omega)
                clear HO
                have d1 : (x == (J : Int)) = false := by simpa using h2
                have d2 : ((J : Int) == 0) = false := by simp; omega
                go_wp2_with fail
                go_round
                case rel => exact ⟨I + 1, by omega, by go_num, by rw [HN.out]⟩
                case measure => simp [intOf]; omega
            · obtain rfl : I = m := by omega
              go_wp2_with fail
              go_round
              case rel => exact ⟨J + 1, by omega, by go_num⟩
              case measure => simp [intOf]; omega
        · obtain rfl : J = 5 := by omega
          go_wp2_with fail
          have hT3 := hT.below hB3 hsz
          have hs3 := hT3.size
          clear HF3
          go_loopw [13] (fun i wr => ∃ I : Nat, I ≤ m ∧ i = .int .i64 I ∧ Below w3.heap.size w3 wr) (fun i _ => m - (intOf i).toNat)
          case atStart => exact ⟨0, Nat.zero_le _, rfl, Below.refl _ _⟩
          case round =>
            obtain ⟨I, hI, rfl, hBr3⟩ := hrel
            by_cases hIm : I < m
            · obtain ⟨b3, off3, rfl, hb3B, hcell3⟩ := HL3.out (by omega)
              have hbl : b3 < w3.heap.size := Nat.lt_of_lt_of_le hb3B hB3.size
              have e0 := (hBr3.cell (p := ⟨b3, off3 + I * 2, none⟩) hbl).trans (hcell3 I hIm).1
              have e1 := (hBr3.cell (p := ⟨b3, off3 + I * 2 + 1, none⟩) hbl).trans (hcell3 I hIm).2
              clear hcell3
              generalize p I = x at e0
              generalize q I = y at e1
              have KEEP : Hid (∀ X w' : World, (X.cell? ⟨b3, off3 + I * 2, none⟩ = some (.int .i64 x) ∧ X.cell? ⟨b3, off3 + I * 2 + 1, none⟩ = some (.int .i64 y) ∧ Below w3.heap.size w3 X) → Below X.heap.size X w' →
                  (w'.cell? ⟨b3, off3 + I * 2, none⟩ = some (.int .i64 x) ∧ w'.cell? ⟨b3, off3 + I * 2 + 1, none⟩ = some (.int .i64 y) ∧ Below w3.heap.size w3 w')) :=
                held2 (a := ⟨b3, off3 + I * 2, none⟩) (b := ⟨b3, off3 + I * 2 + 1, none⟩) hbl hbl
              have hH : wr.drew.cell? ⟨b3, off3 + I * 2, none⟩ = some (.int .i64 x) ∧ wr.drew.cell? ⟨b3, off3 + I * 2 + 1, none⟩ = some (.int .i64 y) ∧ Below w3.heap.size w3 wr.drew := ⟨e0, e1, hBr3.drew⟩
              clear e0 e1
              go_wp2_with fail
              go_region_held3 (fun w' => w'.cell? ⟨b3, off3 + I * 2, none⟩ = some (.int .i64 x) ∧ w'.cell? ⟨b3, off3 + I * 2 + 1, none⟩ = some (.int .i64 y) ∧ Below w3.heap.size w3 w') (first | exact hH | assumption | exact KEEP.out _ _ ‹_› ‹_›) (first | (go_at_call 12; refine (right_any _ _ _ _ (held2_tab hT3 hs3 ‹_›)).mono ?_; rintro e w' ⟨rfl, hbf⟩) | (go_at_call 14; refine (refRight_any _ _ _ _).mono ?_; rintro e w' ⟨rfl, hbf⟩))
              all_goals
                rename_i hS
                have hE := hS.2.2
                clear hS hH
                go_wp2_with fail
                go_roundw
                case rel => exact ⟨I + 1, by omega, by go_num, hE⟩
                case measure => simp [intOf]; omega
            · obtain rfl : I = m := by omega
              have hTr := hT3.below hBr3 hs3
              have hBe := hB3.trans (hBr3.mono hB3.size)
              go_wp2_with fail
              go_at_call 7; refine (awake_any _ hTr).mono ?_; rintro e w4 ⟨rfl, hb4⟩
              go_wp2_with fail
              go_ret
              exact ⟨rfl, hBe.trans (hb4.mono hBe.size)⟩

end Go.Proofs.YtlpfleefbngdaaaDoor
