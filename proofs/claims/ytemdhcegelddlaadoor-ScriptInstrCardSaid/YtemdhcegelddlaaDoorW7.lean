/- The lines of the page's two runs. -/
import Derived.Test.YtemdhcegelddlaaDoorW6
namespace Go.Proofs.YtemdhcegelddlaaDoor
open Go Go.RowKit
set_option linter.unusedVariables false
set_option linter.unusedSimpArgs false

def stepLine : ByteArray := ⟨#[115, 116, 101, 112, 32, 49, 32, 120, 32, 50]⟩
def tickLine : ByteArray := ⟨#[116, 105, 99, 107]⟩
theorem stepE : ((⟨#[115, 116, 101, 112]⟩ : ByteArray) ++ (⟨#[32]⟩ ++ ⟨#[49]⟩) ++ (⟨#[32, 120, 32]⟩ ++ ⟨#[50]⟩)) = stepLine := by decide +kernel
theorem itoa_1 (w : World) : Calls Tryd.prog 26 #[.int .i64 1] w fun e w' => e = .returned (.string ⟨#[49]⟩) ∧ w' = w := by
  have h := strconv_Itoa_small 1 (by decide) w
  rw [Lib.decDigits_one (by decide)] at h
  exact h
theorem itoa_2 (w : World) : Calls Tryd.prog 26 #[.int .i64 2] w fun e w' => e = .returned (.string ⟨#[50]⟩) ∧ w' = w := by
  have h := strconv_Itoa_small 2 (by decide) w
  rw [Lib.decDigits_one (by decide)] at h
  exact h

theorem line_step (w : World) (hT : Tab w) : Calls Tryd.prog 34 #[.agg #[.int .i64 1, .int .i64 1, .int .i64 2]] w fun e w' => e = .returned (.string stepLine) ∧ Below w.heap.size w w' := by
  have hsz := hT.size
  have k1 := hT.k1
  clear hT
  have z1 : (1 : Nat) < w.heap.size := by omega
  go_enter Tryd.func34, Tryd.ntmps34
  go_wp2_with fail
  go_at_call 53
  refine (hasWho_any 1 _).mono ?_
  rintro e w1 ⟨rfl, rfl⟩
  go_wp2_with fail
  go_at_call 26
  refine (itoa_1 _).mono ?_
  rintro e w1 ⟨rfl, rfl⟩
  go_wp2_with fail
  go_at_call 26
  refine (itoa_2 _).mono ?_
  rintro e w1 ⟨rfl, rfl⟩
  go_wp2
  go_ret
  exact ⟨congrArg (fun s => Ending.returned (Value.string s)) stepE, (Below.refl _ w).alloc (Nat.le_refl _) _⟩
theorem line_tick (w : World) (hT : Tab w) : Calls Tryd.prog 34 #[.agg #[.int .i64 3, .int .i64 0, .int .i64 1]] w fun e w' => e = .returned (.string tickLine) ∧ Below w.heap.size w w' := by
  have hsz := hT.size
  have k3 := hT.k3
  clear hT
  have z1 : (1 : Nat) < w.heap.size := by omega
  go_enter Tryd.func34, Tryd.ntmps34
  go_wp2_with fail
  go_at_call 53
  refine (hasWho_any 3 _).mono ?_
  rintro e w1 ⟨rfl, rfl⟩
  go_wp2
  go_ret
  exact ⟨rfl, (Below.refl _ w).alloc (Nat.le_refl _) _⟩
end Go.Proofs.YtemdhcegelddlaaDoor
