/- The goroutine that a word names. -/
import Derived.Test.YthjfbknmdligeaaGreatGg0
import Derived.Test.YthjfbknmdligeaaGreatLinks
namespace Go.Proofs.YthjfbknmdligeaaGreat
open Go Go.RowKit
set_option linter.unusedVariables false
set_option maxRecDepth 100000
set_option linter.unusedSimpArgs false

theorem gw_eq (v : Int) (h : 0 ≤ v ∧ v ≤ 18446744073709551615) : wrap64 (IntKind.i64.wrap v - 1) = gw v := by
  simp [gw, wrap64, IntKind.wrap, IntKind.bits, IntKind.signed]
  split <;> split <;> omega
theorem gw_one (v : Int) (h : 0 ≤ v ∧ v ≤ 1000000) : gw (v + 1) = v := by
  simp [gw, IntKind.wrap, IntKind.bits, IntKind.signed]
  omega
theorem is_word (P T G : Int) (n : Nat) (v : Int) (hn : (n : Int) = 20 + 264 * P + 3 * T + 2 * G) (hp : 0 ≤ P ∧ P ≤ 64) (hT : 0 ≤ T ∧ T ≤ 65536) (hG : 0 ≤ G ∧ G ≤ 65536) (hv : 0 ≤ v ∧ v ≤ 18446744073709551615) (h0 : v ≠ 0) :
    (v ≤ G → gw v = v - 1) ∧ decide (0 ≤ wd (20 + P * 264 + T * 3) G 2 (gw v) 1 ∧ wd (20 + P * 264 + T * 3) G 2 (gw v) 1 < n) = decide (v ≤ G) := by
  have h1 : v ≤ G → gw v = v - 1 := fun h => by
    have := gw_one (v - 1) (by omega)
    rw [show v - 1 + 1 = v by omega] at this
    exact this
  refine ⟨h1, ?_⟩
  by_cases h : v ≤ G
  · rw [decide_eq_true h, h1 h, decide_eq_true]
    unfold wd
    rw [if_pos ⟨by omega, by omega, by omega, by omega⟩]
    omega
  · rw [decide_eq_false h, decide_eq_false]
    have hg : ¬ (0 ≤ gw v ∧ gw v < G) := by
      simp [gw, IntKind.wrap, IntKind.bits, IntKind.signed]
      split <;> omega
    unfold wd
    rw [if_neg (fun hh => hg ⟨hh.1, hh.2.1⟩)]
    omega
theorem lists_len {w : World} {base : Nat} {e : TypeId} {size : Nat} {v : Value} {n : Nat} {xs : List Value} (h : w.ownsRow base e size v n xs) : n ≤ maxLen := by
  rcases h.2 with ⟨e0, h0⟩ | ⟨gb, cp, cur, e0, hb, hh, hnc, hcm, rest⟩
  · omega
  · omega
theorem IntsOn.cell {w : World} {base : Nat} {v : Value} {l : List Int} (h : IntsOn w base v l) {j : Nat} (hj : j < l.length) : ∃ gb cap, v = .slice (some ⟨gb, 0, none⟩) l.length cap ∧ w.cell? ⟨gb, j, none⟩ = some (.int .i64 (l.getD j 0)) := by
  rcases h.own.2 with ⟨e, h0⟩ | ⟨gb, cp, cur, e, hb, hh, hnc, hcm, hcs, htk⟩
  · omega
  · subst e
    refine ⟨gb, cp, rfl, ?_⟩
    have hc := h.own.cellAt j (by omega)
    rw [List.getElem?_map, List.getElem?_eq_getElem hj] at hc
    rw [List.getD_eq_getElem?_getD, List.getElem?_eq_getElem hj]
    exact hc
end Go.Proofs.YthjfbknmdligeaaGreat
