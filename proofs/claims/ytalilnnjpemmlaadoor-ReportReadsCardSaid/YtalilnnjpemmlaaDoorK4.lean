/- report.Line of any event. -/
import Derived.Test.YtalilnnjpemmlaaDoorR3
import Derived.Test.YtalilnnjpemmlaaDoorU1
namespace Go.Proofs.YtalilnnjpemmlaaDoor
open Go Go.RowKit
set_option linter.unusedVariables false
set_option linter.unusedSimpArgs false

/-- what Line answers -/
def lnS (e : Ev) : List UInt8 := if e.ok then ln e ++ [10] else []
theorem line_any (e : Ev) (w : World) (hT : Tab w) : Calls Tryd.prog 12 #[e.v] w fun r w' => r = .returned (.tuple #[.string (bA (lnS e)), .bool (decide e.ok)]) ∧ Below w.heap.size w w' := by
  by_cases hn : e.ok
  · have hd : decide e.ok = true := decide_eq_true hn
    have hl : lnS e = ln e ++ [10] := if_pos hn
    rw [hd, hl]
    obtain ⟨k, g, o, t, p⟩ := e
    obtain ⟨hk, hg, ho, ht, hp⟩ := hn
    simp only at hk hg ho ht hp
    obtain ⟨k, rfl⟩ := Int.eq_ofNat_of_zero_le (show 0 ≤ k by omega)
    obtain ⟨g, rfl⟩ := Int.eq_ofNat_of_zero_le (show 0 ≤ g by omega)
    obtain ⟨t, rfl⟩ := Int.eq_ofNat_of_zero_le (show 0 ≤ t by omega)
    by_cases h1 : o = -1
    · subst h1
      by_cases h2 : p = -1
      · subst h2
        have h := line_11 k g t (by omega) (by omega) (by omega) w hT
        rw [show ((kw k ++ pt 103 g) ++ pt 116 t) ++ [10] = ln ⟨(k : Int), (g : Int), -1, (t : Int), -1⟩ ++ [10] by simp [ln]] at h
        exact h
      · obtain ⟨p, rfl⟩ := Int.eq_ofNat_of_zero_le (show 0 ≤ p by omega)
        have h := line_10 k g t p (by omega) (by omega) (by omega) (by omega) w hT
        rw [show (((kw k ++ pt 103 g) ++ pt 116 t) ++ pt 112 p) ++ [10] = ln ⟨(k : Int), (g : Int), -1, (t : Int), (p : Int)⟩ ++ [10] by simp [ln, h2]] at h
        exact h
    · obtain ⟨o, rfl⟩ := Int.eq_ofNat_of_zero_le (show 0 ≤ o by omega)
      by_cases h2 : p = -1
      · subst h2
        have h := line_01 k g o t (by omega) (by omega) (by omega) (by omega) w hT
        rw [show (((kw k ++ pt 103 g) ++ pt 103 o) ++ pt 116 t) ++ [10] = ln ⟨(k : Int), (g : Int), (o : Int), (t : Int), -1⟩ ++ [10] by simp [ln, h1]] at h
        exact h
      · obtain ⟨p, rfl⟩ := Int.eq_ofNat_of_zero_le (show 0 ≤ p by omega)
        have h := line_00 k g o t p (by omega) (by omega) (by omega) (by omega) (by omega) w hT
        rw [show ((((kw k ++ pt 103 g) ++ pt 103 o) ++ pt 116 t) ++ pt 112 p) ++ [10] = ln ⟨(k : Int), (g : Int), (o : Int), (t : Int), (p : Int)⟩ ++ [10] by simp [ln, h1, h2]] at h
        exact h
  · have hd : decide e.ok = false := decide_eq_false hn
    have hl : lnS e = [] := if_neg hn
    rw [hd, hl]
    exact line_bad e hn w
end Go.Proofs.YtalilnnjpemmlaaDoor
