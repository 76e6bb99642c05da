/- The heap: pure. -/
import Derived.Test.YtideofojmgmboaaA4
namespace Go.Proofs.Ytideofojmgmboaa
open Go Go.RowKit
set_option linter.unusedVariables false
set_option linter.unusedSimpArgs false

/-- up, as the library goes -/
def upF : Nat → List It → Nat → List It
  | 0, L, _ => L
  | f + 1, L, j => if j = 0 then L else if ltI (at_ L j) (at_ L ((j - 1) / 2)) then upF f (swp L ((j - 1) / 2) j) ((j - 1) / 2) else L
def up (L : List It) (j : Nat) : List It := upF (j + 1) L j
theorem upF_more : ∀ (f g : Nat) (L : List It) (j : Nat), j < f → j < g → upF f L j = upF g L j
  | 0, g, L, j, h, _ => by omega
  | f + 1, 0, L, j, _, h => by omega
  | f + 1, g + 1, L, j, h1, h2 => by
    simp only [upF]
    by_cases hj : j = 0
    · simp [hj]
    · rw [if_neg hj, if_neg hj, upF_more f g _ _ (by omega) (by omega)]
theorem up_eq (L : List It) (j : Nat) : up L j = if j = 0 then L else if ltI (at_ L j) (at_ L ((j - 1) / 2)) then up (swp L ((j - 1) / 2) j) ((j - 1) / 2) else L := by
  unfold up
  rw [upF]
  by_cases hj : j = 0
  · simp [hj]
  · rw [if_neg hj, if_neg hj, upF_more j ((j - 1) / 2 + 1) _ _ (by omega) (by omega)]
theorem upF_len : ∀ (f : Nat) (L : List It) (j : Nat), (upF f L j).length = L.length
  | 0, L, j => rfl
  | f + 1, L, j => by
    simp only [upF]
    split
    · rfl
    · split
      · rw [upF_len f, swp_len]
      · rfl
theorem up_len (L : List It) (j : Nat) : (up L j).length = L.length := upF_len _ _ _
/-- which child goes up -/
def child (L : List It) (i n : Nat) : Nat := if 2 * i + 2 < n ∧ ltI (at_ L (2 * i + 2)) (at_ L (2 * i + 1)) = true then 2 * i + 2 else 2 * i + 1
/-- down, as the library goes: the list, and where it ended -/
def downF : Nat → List It → Nat → Nat → List It × Nat
  | 0, L, i, _ => (L, i)
  | f + 1, L, i, n => if 2 * i + 1 < n then (if ltI (at_ L (child L i n)) (at_ L i) then downF f (swp L i (child L i n)) (child L i n) n else (L, i)) else (L, i)
def down (L : List It) (i n : Nat) : List It × Nat := downF (n + 1 - i) L i n
theorem child_lt {L : List It} {i n : Nat} (h : 2 * i + 1 < n) : i < child L i n ∧ child L i n < n := by
  unfold child; split <;> omega
theorem downF_more : ∀ (f g : Nat) (L : List It) (i n : Nat), n < f + i → n < g + i → downF f L i n = downF g L i n
  | 0, 0, L, i, n, h, h2 => rfl
  | 0, g + 1, L, i, n, h, h2 => by simp only [downF]; rw [if_neg (by omega)]
  | f + 1, 0, L, i, n, h, h2 => by simp only [downF]; rw [if_neg (by omega)]
  | f + 1, g + 1, L, i, n, h1, h2 => by
    simp only [downF]
    by_cases hn : 2 * i + 1 < n
    · have := child_lt (L := L) hn
      rw [if_pos hn, if_pos hn, downF_more f g _ _ _ (by omega) (by omega)]
    · rw [if_neg hn, if_neg hn]
theorem down_eq (L : List It) (i n : Nat) : down L i n = if 2 * i + 1 < n then (if ltI (at_ L (child L i n)) (at_ L i) then down (swp L i (child L i n)) (child L i n) n else (L, i)) else (L, i) := by
  by_cases hn : 2 * i + 1 < n
  · have hc := child_lt (L := L) hn
    rw [if_pos hn]
    unfold down
    rw [show n + 1 - i = (n - i) + 1 by omega, downF, if_pos hn, downF_more (n - i) (n + 1 - child L i n) _ _ _ (by omega) (by omega)]
  · rw [if_neg hn]
    unfold down
    cases h : n + 1 - i with
    | zero => rfl
    | succ f => rw [downF, if_neg hn]
theorem downF_len : ∀ (f : Nat) (L : List It) (i n : Nat), (downF f L i n).1.length = L.length
  | 0, L, i, n => rfl
  | f + 1, L, i, n => by
    simp only [downF]
    split
    · split
      · rw [downF_len f, swp_len]
      · rfl
    · rfl
theorem down_len (L : List It) (i n : Nat) : (down L i n).1.length = L.length := downF_len _ _ _ _
end Go.Proofs.Ytideofojmgmboaa
