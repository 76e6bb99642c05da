/- WakeWords: what is given as a word, and back. -/
import Derived.Test.YthbgoakaijeemaaGreatBD
import Derived.Test.YthbgoakaijeemaaGreatQD
namespace Go.Proofs.YthbgoakaijeemaaGreat
open Go Go.RowKit
set_option linter.unusedVariables false
set_option maxRecDepth 100000
set_option linter.unusedSimpArgs false

theorem wk_given (w : World) (v : Int) (hv : 0 ≤ v ∧ v ≤ 18446744073709551615) :
    Calls Tryz.prog 30 #[.int .u64 v] w fun e w' => e = .returned (.tuple #[.int .i64 (v % 4294967296 - 1), .bool (decide (4294967296 ≤ v))]) ∧ w = w' := by
  have e1 : Int.tmod v 4294967296 = v % 4294967296 := Int.tmod_eq_emod_of_nonneg hv.1
  have e2 : IntKind.u64.wrap (v % 4294967296) = v % 4294967296 := wrap_u64 (by omega)
  have e3 : IntKind.i64.wrap (v % 4294967296) = v % 4294967296 := by
    simp only [IntKind.wrap, IntKind.bits, IntKind.signed]
    simp
    omega
  have e4 : wrap64 (v % 4294967296 - 1) = v % 4294967296 - 1 := by unfold wrap64; omega
  clear hv
  go_enter Tryz.func30, Tryz.ntmps30
  go_wp2_with fail
  go_ret2
  exact ⟨rfl, rfl⟩
theorem wk_word_bd (p : Int) (sp : Bool) (hp : 0 ≤ p ∧ p ≤ 2147483648) : wkWord p sp % 4294967296 - 1 = p ∧ decide (4294967296 ≤ wkWord p sp) = sp := by
  have e1 : IntKind.u64.wrap p = p := wrap_u64 (by omega)
  have e2 : IntKind.u64.wrap (p + 1) = p + 1 := wrap_u64 (by omega)
  cases sp with
  | false =>
    have : wkWord p false = p + 1 := by show IntKind.u64.wrap (IntKind.u64.wrap p + 1) = _; rw [e1, e2]
    rw [this]
    exact ⟨by omega, by simp; omega⟩
  | true =>
    have : wkWord p true = p + 1 + 4294967296 := by
      show IntKind.u64.wrap (IntKind.u64.wrap (IntKind.u64.wrap p + 1) + 4294967296) = _
      rw [e1, e2]; exact wrap_u64 (by omega)
    rw [this]
    exact ⟨by omega, by simp; omega⟩
set_option maxHeartbeats 1000000 in
theorem wakeWords_walk (p : Int) (sp : Bool) (v : Int) (w : World) (hAw : ∀ w, Calls Tryz.prog 12 #[] w fun e w' => e = .returned (.bool true) ∧ Below w.heap.size w w') (hv : 0 ≤ v ∧ v ≤ 18446744073709551615) :
    Calls Tryz.prog 5 #[.int .i64 p, .bool sp, .int .u64 v] w fun e w' => e = .returned (.bool true) ∧ Below w.heap.size w w' := by
  have e1 : Int.tmod v 4294967296 = v % 4294967296 := Int.tmod_eq_emod_of_nonneg hv.1
  have e2 : IntKind.u64.wrap (v % 4294967296) = v % 4294967296 := wrap_u64 (by omega)
  have e3 : IntKind.i64.wrap (v % 4294967296) = v % 4294967296 := by
    simp only [IntKind.wrap, IntKind.bits, IntKind.signed]
    simp
    omega
  have e4 : wrap64 (v % 4294967296 - 1) = v % 4294967296 - 1 := by unfold wrap64; omega
  have hG := fun Y => wk_given Y v hv
  have hA := hAw
  clear hAw
  by_cases h1 : p < 0
  · clear hv
    go_enter Tryz.func5, Tryz.ntmps5
    go_wp2_with fail
    go_at_call 30; refine (hG _).mono ?_; rintro e w1 ⟨rfl, rfl⟩
    go_wp2_with fail
    go_at_call 12; refine (hA _).mono ?_; rintro e w2 ⟨rfl, h2⟩
    have HB : Hid (Below w.heap.size w w2) := h2
    clear hG hA h2
    go_wp2_with fail
    go_ret
    exact ⟨rfl, HB.out⟩
  have d1 : decide (p < 0) = false := decide_eq_false h1
  by_cases h2 : 2147483648 < p
  · clear hv h1
    go_enter Tryz.func5, Tryz.ntmps5
    go_wp2_with fail
    go_at_call 30; refine (hG _).mono ?_; rintro e w1 ⟨rfl, rfl⟩
    go_wp2_with fail
    go_at_call 12; refine (hA _).mono ?_; rintro e w2 ⟨rfl, h2⟩
    have HB : Hid (Below w.heap.size w w2) := h2
    clear hG hA h2
    go_wp2_with fail
    go_ret
    exact ⟨rfl, HB.out⟩
  have d2 : decide (2147483648 < p) = false := decide_eq_false h2
  have hWd := fun Y => wk_word Y p sp
  have hRw := fun Y => rws_word Y p sp
  have hG2 := fun Y => wk_given Y (wkWord p sp) (wkWord_bd p sp)
  have hE := wk_word_bd p sp (by omega)
  rw [hE.1, hE.2] at hG2
  generalize wkWord p sp = x at *
  clear hv h1 h2 hE
  go_enter Tryz.func5, Tryz.ntmps5
  go_wp2_with fail
  go_at_call 30; refine (hG _).mono ?_; rintro e w1 ⟨rfl, rfl⟩
  clear hG
  go_wp2_with fail
  go_at_call 31; refine (hWd _).mono ?_; rintro e w1 ⟨rfl, rfl⟩
  clear hWd
  go_wp2_with fail
  go_at_call 30; refine (hG2 _).mono ?_; rintro e w1 ⟨rfl, rfl⟩
  clear hG2
  go_wp2_with fail
  go_at_call 12; refine (hA _).mono ?_; rintro e w2 ⟨rfl, h2⟩
  have HB : Hid (Below w.heap.size w w2) := h2
  clear hA h2
  go_wp2_with fail
  go_at_call 32; refine (hRw _).mono ?_; rintro e w3 ⟨rfl, rfl⟩
  clear hRw
  go_wp2_with fail
  go_ret
  exact ⟨rfl, HB.out⟩
end Go.Proofs.YthbgoakaijeemaaGreat
