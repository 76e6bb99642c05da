/- How many goroutines of a new model are so. -/
import Derived.Test.YtpcogpcpdbhgkaaN4
namespace Go.Proofs.Ytpcogpcpdbhgkaa
open Go Go.RowKit
set_option linter.unusedVariables false
set_option linter.unusedSimpArgs false

theorem count_1 (G : Nat) (hG : 1 ≤ G ∧ G ≤ 65536) (s : Value) (lo x gb tb qb : Nat) (cs : Array Value) (hcz : cs.size = G * 3) (hcs : ∀ i, i < G → cs[i * 3]? = some (.int .i64 0) ∧ cs[i * 3 + 1]? = some (.int .i64 0) ∧ cs[i * 3 + 2]? = some (.int .i64 0)) (w : World)
    (h : Made w lo s G (cs.setIfInBounds 0 (.int .i64 1)) x gb tb qb) : Calls Try.prog 13 #[.pointer (some ⟨x, 0, none⟩), .int .i64 1] w fun e w' => e = .returned (.int .i64 1) ∧ w = w' := by
  have x1 : w.cell? ⟨x, 1, none⟩ = some (.slice (some ⟨gb, 0, none⟩) G G) := cell_of h.hx 1
  have g0 : w.cell? ⟨gb, 0, none⟩ = some (.int .i64 1) := by
    rw [cell_of h.hg 0]
    rw [Array.getElem?_setIfInBounds_self]
    rw [if_pos (by omega)]
  have HG : Hid (∀ i, 0 < i → i < G → w.cell? ⟨gb, i * 3, none⟩ = some (.int .i64 0)) := fun i hi0 hi => by
    rw [cell_of h.hg (i * 3), Array.getElem?_setIfInBounds_ne (by omega)]
    exact (hcs i hi).1
  have hG1 := hG.1
  have hG2 := hG.2
  clear h hcs hcz hG
  go_enter Try.func13, Try.ntmps13
  go_wp2_with fail
  go_loopw [14, 5] (fun i n wr => ∃ j : Nat, j ≤ G ∧ i = .int .i64 j ∧ n = .int .i64 (if j = 0 then 0 else 1) ∧ wr = w) (fun i _ _ => G - (intOf i).toNat)
  case atStart => exact ⟨0, by omega, rfl, by simp, rfl⟩
  case round =>
    obtain ⟨j, hj, rfl, rfl, rfl⟩ := hrel
    by_cases hlt : j < G
    · by_cases h0 : j = 0
      · subst h0
        simp only [if_true]
        go_wp2_with fail
        go_roundw
        case rel => exact ⟨1, by omega, by simp, by simp, by first | trivial | rfl⟩
        case measure => simp [intOf]; omega
      · have gj := HG.out j (by omega) hlt
        have hj1 : (j : Int) < (G : Int) := by omega
        simp only [if_neg h0]
        have hw : IntKind.i64.wrap ((j : Int) - 1 + 1) = (j : Int) - 1 + 1 := IntWalk.i64_in _ (by omega)
        have hw2 : IntKind.i64.wrap ((j : Int) + 1) = (j : Int) + 1 := IntWalk.i64_in _ (by omega)
        go_wp2_with fail
        go_roundw
        case rel => exact ⟨j + 1, by omega, by simp, by simp <;> omega, by first | trivial | rfl⟩
        case measure => simp [intOf]; omega
    · obtain rfl : j = G := by omega
      rw [if_neg (by omega)]
      go_wp2_with fail
      go_ret
      exact ⟨rfl, rfl⟩

theorem count_0 (G : Nat) (hG : 1 ≤ G ∧ G ≤ 65536) (s : Value) (lo x gb tb qb : Nat) (cs : Array Value) (hcz : cs.size = G * 3) (hcs : ∀ i, i < G → cs[i * 3]? = some (.int .i64 0) ∧ cs[i * 3 + 1]? = some (.int .i64 0) ∧ cs[i * 3 + 2]? = some (.int .i64 0)) (w : World)
    (h : Made w lo s G (cs.setIfInBounds 0 (.int .i64 1)) x gb tb qb) : Calls Try.prog 13 #[.pointer (some ⟨x, 0, none⟩), .int .i64 0] w fun e w' => e = .returned (.int .i64 ((G : Int) - 1)) ∧ w = w' := by
  have x1 : w.cell? ⟨x, 1, none⟩ = some (.slice (some ⟨gb, 0, none⟩) G G) := cell_of h.hx 1
  have g0 : w.cell? ⟨gb, 0, none⟩ = some (.int .i64 1) := by
    rw [cell_of h.hg 0]
    rw [Array.getElem?_setIfInBounds_self]
    rw [if_pos (by omega)]
  have HG : Hid (∀ i, 0 < i → i < G → w.cell? ⟨gb, i * 3, none⟩ = some (.int .i64 0)) := fun i hi0 hi => by
    rw [cell_of h.hg (i * 3), Array.getElem?_setIfInBounds_ne (by omega)]
    exact (hcs i hi).1
  have hG1 := hG.1
  have hG2 := hG.2
  clear h hcs hcz hG
  go_enter Try.func13, Try.ntmps13
  go_wp2_with fail
  go_loopw [14, 5] (fun i n wr => ∃ j : Nat, j ≤ G ∧ i = .int .i64 j ∧ n = .int .i64 ((j : Int) - (if j = 0 then 0 else 1)) ∧ wr = w) (fun i _ _ => G - (intOf i).toNat)
  case atStart => exact ⟨0, by omega, rfl, by simp, rfl⟩
  case round =>
    obtain ⟨j, hj, rfl, rfl, rfl⟩ := hrel
    by_cases hlt : j < G
    · by_cases h0 : j = 0
      · subst h0
        simp only [if_true]
        go_wp2_with fail
        go_roundw
        case rel => exact ⟨1, by omega, by simp, by simp, by first | trivial | rfl⟩
        case measure => simp [intOf]; omega
      · have gj := HG.out j (by omega) hlt
        have hj1 : (j : Int) < (G : Int) := by omega
        simp only [if_neg h0]
        have hw : IntKind.i64.wrap ((j : Int) - 1 + 1) = (j : Int) - 1 + 1 := IntWalk.i64_in _ (by omega)
        have hw2 : IntKind.i64.wrap ((j : Int) + 1) = (j : Int) + 1 := IntWalk.i64_in _ (by omega)
        go_wp2_with fail
        go_roundw
        case rel => exact ⟨j + 1, by omega, by simp, by simp <;> omega, by first | trivial | rfl⟩
        case measure => simp [intOf]; omega
    · obtain rfl : j = G := by omega
      rw [if_neg (by omega)]
      go_wp2_with fail
      go_ret
      exact ⟨rfl, rfl⟩
end Go.Proofs.Ytpcogpcpdbhgkaa
