/- Is there a wrong entry? Of the page's three. -/
import Derived.Test.YtemdhcegelddlaaDoorW5
namespace Go.Proofs.YtemdhcegelddlaaDoor
open Go Go.RowKit
set_option linter.unusedVariables false
set_option linter.unusedSimpArgs false

/-- the page's three entries -/
structure Three (w : World) (b : Nat) : Prop where
  e0 : w.cell? ⟨b, 0, none⟩ = some (.int .i64 1)
  e1 : w.cell? ⟨b, 1, none⟩ = some (.int .i64 1)
  e2 : w.cell? ⟨b, 2, none⟩ = some (.int .i64 1)
  e3 : w.cell? ⟨b, 3, none⟩ = some (.int .i64 1)
  e4 : w.cell? ⟨b, 4, none⟩ = some (.int .i64 3)
  e5 : w.cell? ⟨b, 5, none⟩ = some (.int .i64 0)
theorem Three.lt {w : World} {b : Nat} (h : Three w b) : b < w.heap.size := by
  rcases Nat.lt_or_ge b w.heap.size with h' | h'
  · exact h'
  · have := h.e0; simp [World.cell?, Array.getElem?_eq_none h'] at this
theorem Three.below {w w' : World} {b B : Nat} (h : Three w b) (hb : Below B w w') (hB : b < B) : Three w' b :=
  ⟨(hb.cell hB).trans h.e0, (hb.cell hB).trans h.e1, (hb.cell hB).trans h.e2, (hb.cell hB).trans h.e3, (hb.cell hB).trans h.e4, (hb.cell hB).trans h.e5⟩

theorem index_three (b : Nat) (w : World) (hT : Tab w) (h3 : Three w b) : Calls Tryd.prog 50 #[.slice (some ⟨b, 0, none⟩) 3 3, .func (.func 31) #[] #[]] w fun e w' => e = .returned (.int .i64 (-1)) ∧ Below w.heap.size w w' := by
  have hsz := hT.size
  have hbl := h3.lt
  have HT : Hid (Tab w) := hT
  have H3 : Hid (Three w b) := h3
  clear hT h3
  have HR : Hid (∀ x : World, Tab x → Calls Tryd.prog 31 #[.agg #[.int .i64 1, .int .i64 1]] x fun e w' => e = .returned (.bool false) ∧ Below x.heap.size x w') := fun x hx => isWrong_any 1 1 x hx
  have HK : Hid (∀ x : World, Tab x → Calls Tryd.prog 31 #[.agg #[.int .i64 3, .int .i64 0]] x fun e w' => e = .returned (.bool false) ∧ Below x.heap.size x w') := fun x hx => isWrong_any 3 0 x hx
  go_enter Tryd.func50, Tryd.ntmps50
  go_wp2_with fail
  go_loopw [8, 5] (fun i u wr => ∃ j : Nat, j ≤ 3 ∧ i = .int .i64 j ∧ Below w.heap.size w wr) (fun i _ _ => 3 - (intOf i).toNat)
  case atStart => exact ⟨0, by omega, rfl, Below.refl _ _⟩
  case round =>
    obtain ⟨j, hj, rfl, hb⟩ := hrel
    have HB : Hid (Below w.heap.size w wr) := hb
    have T1 := HT.out.below hb hsz
    have h3 := H3.out.below hb hbl
    have e0 := h3.e0; have e1 := h3.e1; have e2 := h3.e2; have e3 := h3.e3; have e4 := h3.e4; have e5 := h3.e5
    have HT1 : Hid (Tab wr) := T1
    have hse := hb.size
    clear T1 h3 hb
    have hc : j = 0 ∨ j = 1 ∨ j = 2 ∨ j = 3 := by omega
    rcases hc with rfl | rfl | rfl | rfl
    · go_wp2_with fail
      go_at_call 31
      refine (HR.out _ HT1.out).mono ?_
      rintro e w1 ⟨rfl, hb1⟩
      have HB1 : Hid (Below w.heap.size w w1) := HB.out.trans (hb1.mono hse)
      clear hb1
      go_wp2_with fail
      go_roundw
      case rel => exact ⟨1, by omega, rfl, HB1.out⟩
      case measure => simp [intOf]
    · go_wp2_with fail
      go_at_call 31
      refine (HR.out _ HT1.out).mono ?_
      rintro e w1 ⟨rfl, hb1⟩
      have HB1 : Hid (Below w.heap.size w w1) := HB.out.trans (hb1.mono hse)
      clear hb1
      go_wp2_with fail
      go_roundw
      case rel => exact ⟨2, by omega, rfl, HB1.out⟩
      case measure => simp [intOf]
    · go_wp2_with fail
      go_at_call 31
      refine (HK.out _ HT1.out).mono ?_
      rintro e w1 ⟨rfl, hb1⟩
      have HB1 : Hid (Below w.heap.size w w1) := HB.out.trans (hb1.mono hse)
      clear hb1
      go_wp2_with fail
      go_roundw
      case rel => exact ⟨3, by omega, rfl, HB1.out⟩
      case measure => simp [intOf]
    · go_wp2_with fail
      go_ret
      exact ⟨rfl, HB.out⟩

theorem contains_three (b : Nat) (w : World) (hT : Tab w) (h3 : Three w b) : Calls Tryd.prog 30 #[.slice (some ⟨b, 0, none⟩) 3 3, .func (.func 31) #[] #[]] w fun e w' => e = .returned (.bool false) ∧ Below w.heap.size w w' := by
  have H := index_three b w hT h3
  clear hT h3
  go_enter Tryd.func30, Tryd.ntmps30
  go_wp2_with fail
  go_at_call 50
  refine H.mono ?_
  rintro e w1 ⟨rfl, hb1⟩
  go_wp2_with fail
  go_ret
  exact ⟨rfl, hb1⟩
end Go.Proofs.YtemdhcegelddlaaDoor
