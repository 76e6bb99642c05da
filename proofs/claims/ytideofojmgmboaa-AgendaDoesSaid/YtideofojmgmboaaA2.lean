/- The order of items: Compare, Or, order. -/
import Derived.Test.YtideofojmgmboaaA1
namespace Go.Proofs.Ytideofojmgmboaa
open Go Go.RowKit
set_option linter.unusedVariables false
set_option linter.unusedSimpArgs false
set_option maxRecDepth 100000

def cmpI (x y : Int) : Int := if x < y then -1 else if y < x then 1 else 0
def ordI (x y : It) : Int := if cmpI x.1 y.1 ≠ 0 then cmpI x.1 y.1 else cmpI x.2 y.2
theorem isNaN_any (x : Int) (w : World) : Calls Try.prog 49 #[.int .i64 x] w fun e w' => e = .returned (.bool false) ∧ w' = w := by
  go_enter Try.func49, Try.ntmps49
  go_wp2
  go_ret
  simp
theorem compare_any (x y : Int) (w : World) : Calls Try.prog 38 #[.int .i64 x, .int .i64 y] w fun e w' => e = .returned (.int .i64 (cmpI x y)) ∧ w' = w := by
  have h1 : decide (x < y) = true ∨ decide (x < y) = false := by cases decide (x < y) <;> simp
  have h2 : decide (y < x) = true ∨ decide (y < x) = false := by cases decide (y < x) <;> simp
  unfold cmpI
  by_cases a : x < y
  · go_enter Try.func38, Try.ntmps38
    go_wp2
    go_ret
    simp [a]
  · by_cases b : y < x
    · go_enter Try.func38, Try.ntmps38
      go_wp2
      go_ret
      simp [a, b]
    · go_enter Try.func38, Try.ntmps38
      go_wp2
      go_ret
      simp [a, b]
theorem or_any (x y : Int) (b : Nat) (cp : Nat) (w : World) (h0 : w.cell? ⟨b, 0, none⟩ = some (.int .i64 x)) (h1 : w.cell? ⟨b, 1, none⟩ = some (.int .i64 y)) :
    Calls Try.prog 37 #[.slice (some ⟨b, 0, none⟩) 2 cp] w fun e w' => e = .returned (.int .i64 (if x ≠ 0 then x else y)) ∧ w' = w := by
  by_cases a : x = 0
  · subst a
    by_cases c : y = 0
    · subst c
      go_enter Try.func37, Try.ntmps37
      go_wp2
      go_loop [8] (fun i => ∃ j : Nat, j ≤ 2 ∧ i = .int .i64 j) (fun i => 2 - (intOf i).toNat)
      case atStart => exact ⟨0, by omega, rfl⟩
      case round =>
        obtain ⟨j, hj, rfl⟩ := hrel
        have hc : j = 0 ∨ j = 1 ∨ j = 2 := by omega
        rcases hc with rfl | rfl | rfl
        · go_wp2
          go_round
          case rel => exact ⟨1, by omega, rfl⟩
          case measure => simp [intOf]
        · go_wp2
          go_round
          case rel => exact ⟨2, by omega, rfl⟩
          case measure => simp [intOf]
        · go_wp2
          go_ret
          simp
    · go_enter Try.func37, Try.ntmps37
      go_wp2
      go_loop [8] (fun i => ∃ j : Nat, j ≤ 1 ∧ i = .int .i64 j) (fun i => 2 - (intOf i).toNat)
      case atStart => exact ⟨0, by omega, rfl⟩
      case round =>
        obtain ⟨j, hj, rfl⟩ := hrel
        have hc : j = 0 ∨ j = 1 := by omega
        rcases hc with rfl | rfl
        · go_wp2
          go_round
          case rel => exact ⟨1, by omega, rfl⟩
          case measure => simp [intOf]
        · go_wp2
          go_ret
          simp
  · go_enter Try.func37, Try.ntmps37
    go_wp2
    go_loop [8] (fun i => i = .int .i64 0) (fun i => 2 - (intOf i).toNat)
    case atStart => rfl
    case round =>
      obtain rfl := hrel
      go_wp2
      go_ret
      simp [a]
theorem news2 (X : World) (x y : Value) (T : TypeId) : ∀ j u, ([x, y] : List Value)[j]? = some u → (X.alloc (.cells #[x, y] T)).cell? ((⟨X.heap.size, 0, none⟩ : Addr).add j) = some u := fun j u hu => World.news_of_block (cs := #[x, y]) (heap_alloc_new X (.cells #[x, y] T)) j u hu
set_option maxHeartbeats 4000000 in
theorem order_any (x y : It) (w : World) : Calls Try.prog 28 #[.agg #[.int .i64 x.1, .int .i64 x.2], .agg #[.int .i64 y.1, .int .i64 y.2]] w fun e w' => e = .returned (.int .i64 (ordI x y)) ∧ Below w.heap.size w w' := by
  obtain ⟨a, b⟩ := x
  obtain ⟨c, d⟩ := y
  have HC := Lib.hid (fun (x y : Int) (X : World) => compare_any x y X)
  have B2 := Lib.hid ((((Below.refl w.heap.size w).alloc (Nat.le_refl _) (.cells #[.int .i64 a, .int .i64 b] 23)).alloc (by rw [size_al]; omega) (.cells #[.int .i64 c, .int .i64 d] 23)))
  have HO := Lib.hid (fun (X : World) (B : Nat) (h0 : X.cell? ⟨B, 0, none⟩ = some (.int .i64 (cmpI a c))) (h1 : X.cell? ⟨B, 1, none⟩ = some (.int .i64 (cmpI b d))) => or_any (cmpI a c) (cmpI b d) B 2 X h0 h1)
  go_enter Try.func28, Try.ntmps28
  go_wp2_with fail
  have x0 : ((w.alloc (.cells #[.int .i64 a, .int .i64 b] 23)).alloc (.cells #[.int .i64 c, .int .i64 d] 23)).cell? ⟨w.heap.size, 0, none⟩ = some (.int .i64 a) := by go_cell
  have x1 : ((w.alloc (.cells #[.int .i64 a, .int .i64 b] 23)).alloc (.cells #[.int .i64 c, .int .i64 d] 23)).cell? ⟨w.heap.size, 1, none⟩ = some (.int .i64 b) := by go_cell
  have y0 : ((w.alloc (.cells #[.int .i64 a, .int .i64 b] 23)).alloc (.cells #[.int .i64 c, .int .i64 d] 23)).cell? ⟨w.heap.size + 1, 0, none⟩ = some (.int .i64 c) := by go_cell
  have y1 : ((w.alloc (.cells #[.int .i64 a, .int .i64 b] 23)).alloc (.cells #[.int .i64 c, .int .i64 d] 23)).cell? ⟨w.heap.size + 1, 1, none⟩ = some (.int .i64 d) := by go_cell
  generalize (w.alloc (.cells #[.int .i64 a, .int .i64 b] 23)).alloc (.cells #[.int .i64 c, .int .i64 d] 23) = W at *
  have HX := Lib.hid (And.intro x0 (And.intro x1 (And.intro y0 y1)))
  clear x0 x1 y0 y1
  have KEEP : Hid (∀ X w' : World, (X.cell? ⟨w.heap.size, 0, none⟩ = some (.int .i64 a) ∧ X.cell? ⟨w.heap.size, 1, none⟩ = some (.int .i64 b) ∧ X.cell? ⟨w.heap.size + 1, 0, none⟩ = some (.int .i64 c) ∧ X.cell? ⟨w.heap.size + 1, 1, none⟩ = some (.int .i64 d) ∧ Below w.heap.size w X) → Below X.heap.size X w' →
      (w'.cell? ⟨w.heap.size, 0, none⟩ = some (.int .i64 a) ∧ w'.cell? ⟨w.heap.size, 1, none⟩ = some (.int .i64 b) ∧ w'.cell? ⟨w.heap.size + 1, 0, none⟩ = some (.int .i64 c) ∧ w'.cell? ⟨w.heap.size + 1, 1, none⟩ = some (.int .i64 d) ∧ Below w.heap.size w w')) :=
    fun X w' ⟨h0, h1, h2, h3, h4⟩ hb => ⟨(hb.cell (cell_lt h0)).trans h0, (hb.cell (cell_lt h1)).trans h1, (hb.cell (cell_lt h2)).trans h2, (hb.cell (cell_lt h3)).trans h3, h4.trans (hb.mono h4.size)⟩
  have hH : W.drew.cell? ⟨w.heap.size, 0, none⟩ = some (.int .i64 a) ∧ W.drew.cell? ⟨w.heap.size, 1, none⟩ = some (.int .i64 b) ∧ W.drew.cell? ⟨w.heap.size + 1, 0, none⟩ = some (.int .i64 c) ∧ W.drew.cell? ⟨w.heap.size + 1, 1, none⟩ = some (.int .i64 d) ∧ Below w.heap.size w W.drew := ⟨HX.out.1, HX.out.2.1, HX.out.2.2.1, HX.out.2.2.2, B2.out.drew⟩
  have HA := Lib.hid (fun (X : World) => (Below.refl X.heap.size X).alloc (Nat.le_refl _) (.cells #[.int .i64 (cmpI a c), .int .i64 (cmpI b d)] 3))
  have HO2 : Hid (∀ X : World, Calls Try.prog 37 #[.slice (some ⟨X.heap.size, 0, none⟩) 2 2] (X.alloc (.cells #[.int .i64 (cmpI a c), .int .i64 (cmpI b d)] 3)).drew fun e w' => e = .returned (.int .i64 (ordI (a, b) (c, d))) ∧ w' = (X.alloc (.cells #[.int .i64 (cmpI a c), .int .i64 (cmpI b d)] 3)).drew) := (fun (X : World) => or_any (cmpI a c) (cmpI b d) X.heap.size 2 (X.alloc (.cells #[.int .i64 (cmpI a c), .int .i64 (cmpI b d)] 3)).drew (by go_cell) (by go_cell))
  clear HO
  generalize hr : ordI (a, b) (c, d) = r at HO2
  have HR := Lib.hid hr
  clear hr
  go_region_held3 (fun w' : World => w'.cell? ⟨w.heap.size, 0, none⟩ = some (.int .i64 a) ∧ w'.cell? ⟨w.heap.size, 1, none⟩ = some (.int .i64 b) ∧ w'.cell? ⟨w.heap.size + 1, 0, none⟩ = some (.int .i64 c) ∧ w'.cell? ⟨w.heap.size + 1, 1, none⟩ = some (.int .i64 d) ∧ Below w.heap.size w w') (first | (with_reducible exact hH) | (with_reducible assumption) | exact KEEP.out _ _ ‹_› (HA.out _))
    (first | (go_at_call 38; refine (HC.out _ _ _).mono ?_; rintro e w3 ⟨rfl, rfl⟩) | (go_at_call 37; refine (HO2.out _).mono ?_; rintro e w3 ⟨rfl, rfl⟩))
  go_wp2
  rename_i hS
  go_ret
  exact ⟨by rw [HR.out]; rfl, hS.2.2.2.2⟩
end Go.Proofs.Ytideofojmgmboaa
