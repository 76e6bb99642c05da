/- The walk of the law NoteKeeps. -/
import Derived.Test.YtlnjjcfkcoaceaaNote3
namespace Go.Proofs.Ytlnjjcfkcoaceaa
open Go Go.RowKit
set_option linter.unusedVariables false
set_option maxRecDepth 100000
set_option linter.unusedSimpArgs false

theorem peek_load (who i j : Int) (n : Nat) (s : St) : peekT n (stp 1 who i 0 0 n s) j = peekT n s j := by
  unfold peekT stp
  by_cases h : 0 ≤ i ∧ i < n
  · rw [if_pos h]; simp
  · rw [if_neg h]
theorem peek_store (who i v : Int) (n : Nat) (s : St) (hi : 0 ≤ i ∧ i < n) : peekT n (stp 2 who i 0 v n s) i = v := by
  unfold peekT stp
  rw [if_pos hi, if_pos hi]
  simp [upd]
theorem note_in {T t : Int} {n : Nat} (P : Int) (hP : 0 ≤ P) (h : 0 ≤ t ∧ t < T) (hn : 20 + P * 264 + 3 * T ≤ n) : 0 ≤ noteAt P T t ∧ noteAt P T t < n := by
  unfold noteAt wd
  rw [if_pos ⟨h.1, h.2, by omega, by omega⟩]
  omega

end Go.Proofs.Ytlnjjcfkcoaceaa
