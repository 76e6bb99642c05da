/- Places of a processor and of a ring: contracts. -/
import Derived.Test.YtcjidigpdecdlaaLaw
import Derived.Test.YtcjidigpdecdlaaLock1
import Derived.Deep.RegionHeld3
namespace Go.Proofs.Ytcjidigpdecdlaa
open Go Go.RowKit
set_option linter.unusedVariables false
set_option maxRecDepth 100000
set_option linter.unusedSimpArgs false

theorem mny_any (h t : Int) (w : World) (hh : 0 ≤ h ∧ h ≤ 18446744073709551615) (ht : 0 ≤ t ∧ t ≤ 18446744073709551615) :
    Calls Try.prog 31 #[.int .u64 h, .int .u64 t] w fun e w' => e = .returned (.int .u64 ((t - h) % 4294967296)) ∧ w = w' := by
  have e1 : IntKind.u64.wrap (t - h) = (t - h) % 18446744073709551616 := by simp [IntKind.wrap, IntKind.bits, IntKind.signed]
  have hb : 0 ≤ (t - h) % 18446744073709551616 := Int.emod_nonneg _ (by omega)
  have e2 : Int.tmod ((t - h) % 18446744073709551616) 4294967296 = (t - h) % 4294967296 := by
    rw [Int.tmod_eq_emod_of_nonneg hb]
    omega
  have e3 : IntKind.u64.wrap ((t - h) % 4294967296) = (t - h) % 4294967296 := wrap_u64 (by omega)
  go_enter Try.func31, Try.ntmps31
  go_wp2_with fail
  go_ret
  first
    | exact ⟨rfl, rfl⟩
    | exact ⟨by rw [e1, e2, e3], rfl⟩
    | exact ⟨by rw [e1, e2], rfl⟩

theorem lprc_any (o : Option Addr) (P T G n f : Int) (w : World) (h : LayO w P T G o) (hp : 0 ≤ P ∧ P ≤ 64) (hf : 0 ≤ f ∧ f < 8) : Calls Try.prog 22 #[.pointer o, .int .i64 n, .int .i64 f] w fun e w' => e = .returned (.int .i64 (wd 20 P 264 n f)) ∧ Below w.heap.size w w' := by
  have HL : Hid _ := h
  have d1 : decide (8 ≤ f) = false := decide_eq_false (by omega)
  clear h
  go_enter Try.func22, Try.ntmps22
  go_wp2_with fail
  go_at_call 33; refine (procs_any o P T G _ HL.out).mono ?_; rintro e w1 ⟨rfl, h1⟩
  go_wp2_with fail
  go_at_call 34; refine (word_any 20 P 264 n f _ (by omega) (by omega) (by omega)).mono ?_; rintro e w2 ⟨rfl, h2⟩
  have hb := seq h1 h2
  go_wp2_with fail
  go_ret
  exact ⟨rfl, hb⟩

theorem lrng_any (o : Option Addr) (P T G n i : Int) (w : World) (h : LayO w P T G o) (hp : 0 ≤ P ∧ P ≤ 64) (hi : 0 ≤ i ∧ i ≤ 18446744073709551615) : Calls Try.prog 19 #[.pointer o, .int .i64 n, .int .u64 i] w fun e w' => e = .returned (.int .i64 (wd 20 P 264 n (8 + i % 256))) ∧ Below w.heap.size w w' := by
  have HL : Hid _ := h
  have e1 : i.tmod 256 = i % 256 := Int.tmod_eq_emod_of_nonneg (by omega)
  generalize hz : i % 256 = z at *
  have e2 : IntKind.i64.wrap z = z := by simp [IntKind.wrap, IntKind.bits, IntKind.signed]; omega
  have e3 : IntKind.i64.wrap (8 + z) = 8 + z := by simp [IntKind.wrap, IntKind.bits, IntKind.signed]; omega
  have hzb : 0 ≤ z ∧ z < 256 := by omega
  clear h hz hi
  go_enter Try.func19, Try.ntmps19
  go_wp2_with fail
  go_at_call 33; refine (procs_any o P T G _ HL.out).mono ?_; rintro e w1 ⟨rfl, h1⟩
  go_wp2_with fail
  go_at_call 34; refine (word_any 20 P 264 n (8 + z) _ (by omega) (by omega) (by omega)).mono ?_; rintro e w2 ⟨rfl, h2⟩
  have hb := seq h1 h2
  go_wp2_with fail
  go_ret
  exact ⟨rfl, hb⟩


end Go.Proofs.Ytcjidigpdecdlaa
