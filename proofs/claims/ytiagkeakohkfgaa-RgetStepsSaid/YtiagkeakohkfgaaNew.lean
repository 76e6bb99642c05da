/- The contracts of cell.New, of the law's helper Alike, and the page's example. -/
import Derived.Test.YtiagkeakohkfgaaDo
namespace Go.Proofs.Ytiagkeakohkfgaa
open Go Go.RowKit
set_option linter.unusedVariables false
set_option maxRecDepth 100000
set_option linter.unusedSimpArgs false

theorem made_zero (n : Nat) : (madeCells #[Value.int .u64 0] n).toList = wordCells (fun _ => 0) n := by
  unfold madeCells wordCells
  rw [Array.toList_map, Array.toList_range]
  apply List.map_congr_left
  intro a _
  have : a % #[Value.int .u64 0].size = 0 := Nat.mod_one a
  rw [this]
  rfl

theorem new_low (w : World) (n : Int) (h : n < 0) : Calls Try.prog 56 #[.int .i64 n] w fun e w' => e = .returned (.tuple #[.pointer none, .int .i64 1]) ∧ w = w' := by
  go_enter Try.func56, Try.ntmps56
  go_wp2_with fail
  go_returns
  exact ⟨rfl, rfl⟩
theorem new_high (w : World) (n : Int) (h : 262144 < n) : Calls Try.prog 56 #[.int .i64 n] w fun e w' => e = .returned (.tuple #[.pointer none, .int .i64 2]) ∧ w = w' := by
  go_enter Try.func56, Try.ntmps56
  go_wp2_with fail
  go_returns
  exact ⟨rfl, rfl⟩
theorem new_any (w : World) (n : Nat) (hn : n ≤ 262144) :
    Calls Try.prog 56 #[.int .i64 n] w fun e w' => ∃ (A' : Option Addr) (cap' c b : Nat), e = .returned (.tuple #[.pointer (some ⟨c, 0, none⟩), .int .i64 0]) ∧ Is w' 107 A' cap' c b n (fresh fun _ => 0) ∧ Below w.heap.size w w' ∧ w.heap.size ≤ b ∧ w.heap.size ≤ c := by
  obtain ⟨i0, hi, hz0, hz1, hz2⟩ := info_parts info26
  go_enter Try.func56, Try.ntmps56
  go_wp2_with (at_make; refine wpList_make_full _ rfl _ _ 22 rfl w.heap.size 26 i0 (.int .u64 0) 1 Try.underlying22 hi hz0 hz1 _ _ _ _ n rfl rfl rfl rfl ?b2 ?b3 (Nat.le_refl _) ?_)
  case b2 => rw [hz2]; omega
  case b3 => unfold maxLen; omega
  intro w1 hown hgrow
  rw [made_zero] at hown
  have hb : Below w.heap.size w w1 := (Below.refl _ _).grown hgrow (Nat.le_refl _) (fun k h => by cases h)
  obtain ⟨A', cap', b, e, h1, h2, h3, hI⟩ := mem_row w w1 107 _ n (fun _ => 0) (by omega) (fun _ _ => ⟨by omega, by omega⟩) hown hb
  have hI' : Hid _ := hI
  cases e
  have hB := hb.alloc hb.size (.cells (memCells (some ⟨w.heap.size, 0, none⟩) n n (fresh fun _ => 0)) 107)
  have hs := hb.size
  clear hown hb hI hgrow
  go_wp2_with fail
  go_returns
  exact ⟨_, _, w1.heap.size, b, rfl, hI'.out, hB, h1, hs⟩

end Go.Proofs.Ytiagkeakohkfgaa
