/- A goroutine as a word, of any number; a program's own word for it. -/
import Derived.Test.YthhlklfioipmgaaGreatRunD
namespace Go.Proofs.YthhlklfioipmgaaGreat
open Go Go.RowKit
set_option linter.unusedVariables false
set_option maxRecDepth 100000
set_option linter.unusedSimpArgs false

def qwd (g : Int) : Int := IntKind.u64.wrap (IntKind.u64.wrap g + 1)
theorem qwd_bd (g : Int) : 0 ≤ qwd g ∧ qwd g ≤ 18446744073709551615 := by
  unfold qwd
  generalize IntKind.u64.wrap g + 1 = z
  simp [IntKind.wrap, IntKind.bits, IntKind.signed]
  omega
theorem q_word2 (w : World) (g : Int) : Calls Tryz.prog 126 #[.int .i64 g] w fun e w' => e = .returned (.int .u64 (qwd g)) ∧ w = w' := by
  go_enter Tryz.func126, Tryz.ntmps126
  go_wp2_with fail
  go_ret
  exact ⟨rfl, rfl⟩
theorem qwd_small (g : Int) (h : 0 ≤ g ∧ g ≤ 1000000) : qwd g = g + 1 := by
  unfold qwd
  simp [IntKind.wrap, IntKind.bits, IntKind.signed]
  omega
end Go.Proofs.YthhlklfioipmgaaGreat
