/- How many threads there are to be had: idlem.Spare. -/
import Derived.Test.YtggbohakpkplkaaLaw
import Derived.Test.YtggbohakpkplkaaIl0
import Derived.Test.YtggbohakpkplkaaIntsR
namespace Go.Proofs.Ytggbohakpkplkaa
open Go Go.RowKit
set_option linter.unusedVariables false
set_option maxRecDepth 100000
set_option linter.unusedSimpArgs false

def spv (T a b : Int) : Int := if a < 2147483648 ∧ b < 2147483648 then T + a - b else 0
theorem spare_any (w : World) (A : Option Addr) (cap c b n cl : Nat) (s : St) (P T G : Int) (hI : Is w 111 A cap c b n s) (hn : n ≤ 1000000) (hl : Lay w cl P T G) (hT : 0 ≤ T ∧ T ≤ 65536) :
    Calls Try.prog 49 #[.pointer (some ⟨cl, 0, none⟩), .pointer (some ⟨c, 0, none⟩)] w fun e w' => e = .returned (.int .i64 (spv T (peekT n s 12) (peekT n s 15))) ∧ Below w.heap.size w w' := by
  have hfc := field_c1
  have hW1 := il_word w cl 12 (by omega)
  have hW2 := il_word w cl 15 (by omega)
  have hP1 := peek_any w A cap c b n s 12 hI hn
  have hP2 := peek_any w A cap c b n s 15 hI hn
  have hC := config_any _ P T G w (.some cl hl)
  have hpb : ∀ i, 0 ≤ peekT n s i ∧ peekT n s i ≤ 18446744073709551615 := fun i => by
    unfold peekT
    split
    · exact hI.bd _ (by omega)
    · omega
  have hb1 := hpb 12
  have hb2 := hpb 15
  generalize peekT n s 12 = a1 at *
  generalize peekT n s 15 = a2 at *
  clear hI hl hpb
  unfold spv
  by_cases h1 : a1 < 2147483648
  · have d1 : decide (2147483648 ≤ a1) = false := decide_eq_false (by omega)
    by_cases h2 : a2 < 2147483648
    · rw [if_pos ⟨h1, h2⟩]
      have d2 : decide (2147483648 ≤ a2) = false := decide_eq_false (by omega)
      have e1 : IntKind.i64.wrap a1 = a1 := by simp [IntKind.wrap, IntKind.bits, IntKind.signed]; omega
      have e2 : IntKind.i64.wrap a2 = a2 := by simp [IntKind.wrap, IntKind.bits, IntKind.signed]; omega
      have e3 : wrap64 (T + a1) = T + a1 := by unfold wrap64; omega
      have e4 : wrap64 (T + a1 - a2) = T + a1 - a2 := by unfold wrap64; omega
      clear h1 h2 hb1 hb2 hT
      go_enter Try.func49, Try.ntmps49
      go_wp2_with fail
      go_at_call 74; refine hW1.mono ?_; rintro e w1 ⟨rfl, rfl⟩
      go_wp2_with fail
      go_at_call 34; refine hP1.mono ?_; rintro e w1 ⟨rfl, rfl⟩
      go_wp2_with fail
      go_at_call 74; refine hW2.mono ?_; rintro e w1 ⟨rfl, rfl⟩
      go_wp2_with fail
      go_at_call 34; refine hP2.mono ?_; rintro e w1 ⟨rfl, rfl⟩
      go_wp2_with fail
      go_at_call 75; refine hC.mono ?_; rintro e w1 ⟨rfl, hb⟩
      clear hW1 hW2 hP1 hP2 hC
      go_wp2_with fail
      go_ret
      exact ⟨ret_int (by first | exact e4 | (rw [e3]; exact e4)), hb⟩
    · rw [if_neg (fun h => h2 h.2)]
      have d2 : decide (2147483648 ≤ a2) = true := decide_eq_true (by omega)
      clear h1 h2 hb1 hb2 hT hC
      go_enter Try.func49, Try.ntmps49
      go_wp2_with fail
      go_at_call 74; refine hW1.mono ?_; rintro e w1 ⟨rfl, rfl⟩
      go_wp2_with fail
      go_at_call 34; refine hP1.mono ?_; rintro e w1 ⟨rfl, rfl⟩
      go_wp2_with fail
      go_at_call 74; refine hW2.mono ?_; rintro e w1 ⟨rfl, rfl⟩
      go_wp2_with fail
      go_at_call 34; refine hP2.mono ?_; rintro e w1 ⟨rfl, rfl⟩
      clear hW1 hW2 hP1 hP2
      go_wp2_with fail
      go_ret
      exact ⟨rfl, Below.refl _ _⟩
  · rw [if_neg (fun h => h1 h.1)]
    have d1 : decide (2147483648 ≤ a1) = true := decide_eq_true (by omega)
    clear h1 hb1 hb2 hT hC
    go_enter Try.func49, Try.ntmps49
    go_wp2_with fail
    go_at_call 74; refine hW1.mono ?_; rintro e w1 ⟨rfl, rfl⟩
    go_wp2_with fail
    go_at_call 34; refine hP1.mono ?_; rintro e w1 ⟨rfl, rfl⟩
    go_wp2_with fail
    go_at_call 74; refine hW2.mono ?_; rintro e w1 ⟨rfl, rfl⟩
    go_wp2_with fail
    go_at_call 34; refine hP2.mono ?_; rintro e w1 ⟨rfl, rfl⟩
    clear hW1 hW2 hP1 hP2
    go_wp2_with fail
    go_ret
    exact ⟨rfl, Below.refl _ _⟩
end Go.Proofs.Ytggbohakpkplkaa
