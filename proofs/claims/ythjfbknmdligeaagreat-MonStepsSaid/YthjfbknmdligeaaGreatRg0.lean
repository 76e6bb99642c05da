/- Places of a processor and of a ring: contracts. -/
import Derived.Test.YthjfbknmdligeaaGreatLaw
import Derived.Test.YthjfbknmdligeaaGreatLock1
import Derived.Deep.RegionHeld3
namespace Go.Proofs.YthjfbknmdligeaaGreat
open Go Go.RowKit
set_option linter.unusedVariables false
set_option maxRecDepth 100000
set_option linter.unusedSimpArgs false

theorem mny_any (h t : Int) (w : World) (hh : 0 ≤ h ∧ h ≤ 18446744073709551615) (ht : 0 ≤ t ∧ t ≤ 18446744073709551615) :
    Calls Tryz.prog 113 #[.int .u64 h, .int .u64 t] w fun e w' => e = .returned (.int .u64 ((t - h) % 4294967296)) ∧ w = w' := by
  have e1 : IntKind.u64.wrap (t - h) = (t - h) % 18446744073709551616 := by simp [IntKind.wrap, IntKind.bits, IntKind.signed]
  have hb : 0 ≤ (t - h) % 18446744073709551616 := Int.emod_nonneg _ (by omega)
  have e2 : Int.tmod ((t - h) % 18446744073709551616) 4294967296 = (t - h) % 4294967296 := by
    rw [Int.tmod_eq_emod_of_nonneg hb]
    omega
  have e3 : IntKind.u64.wrap ((t - h) % 4294967296) = (t - h) % 4294967296 := wrap_u64 (by omega)
  go_enter Tryz.func113, Tryz.ntmps113
  go_wp2_with fail
  go_ret
  first
    | exact ⟨rfl, rfl⟩
    | exact ⟨by rw [e1, e2, e3], rfl⟩
    | exact ⟨by rw [e1, e2], rfl⟩

theorem rmny_any (h t : Int) (w : World) (hh : 0 ≤ h ∧ h ≤ 18446744073709551615) (ht : 0 ≤ t ∧ t ≤ 18446744073709551615) :
    Calls Tryz.prog 68 #[.int .u64 h, .int .u64 t] w fun e w' => e = .returned (.int .u64 ((t - h) % 4294967296)) ∧ w = w' := by
  have e1 : Int.tmod h 4294967296 = h % 4294967296 := Int.tmod_eq_emod_of_nonneg hh.1
  have e2 : Int.tmod t 4294967296 = t % 4294967296 := Int.tmod_eq_emod_of_nonneg ht.1
  have e3 : IntKind.u64.wrap (h % 4294967296) = h % 4294967296 := wrap_u64 (by omega)
  have e4 : IntKind.u64.wrap (t % 4294967296) = t % 4294967296 := wrap_u64 (by omega)
  by_cases hlt : t % 4294967296 < h % 4294967296
  · have e5 : IntKind.u64.wrap (t % 4294967296 + 4294967296) = t % 4294967296 + 4294967296 := wrap_u64 (by omega)
    have e6 : IntKind.u64.wrap (t % 4294967296 + 4294967296 - h % 4294967296) = (t - h) % 4294967296 := by rw [wrap_u64 (by omega)]; omega
    go_enter Tryz.func68, Tryz.ntmps68
    go_wp2_with fail
    go_ret
    first
      | exact ⟨rfl, rfl⟩
      | exact ⟨by rw [← e6], rfl⟩
  · have d : decide (t % 4294967296 < h % 4294967296) = false := decide_eq_false hlt
    have e6 : IntKind.u64.wrap (t % 4294967296 - h % 4294967296) = (t - h) % 4294967296 := by rw [wrap_u64 (by omega)]; omega
    clear hlt
    go_enter Tryz.func68, Tryz.ntmps68
    go_wp2_with fail
    go_ret
    first
      | exact ⟨rfl, rfl⟩
      | exact ⟨by rw [← e6], rfl⟩

theorem lprc_any (o : Option Addr) (P T G n f : Int) (w : World) (h : LayO w P T G o) (hp : 0 ≤ P ∧ P ≤ 64) (hf : 0 ≤ f ∧ f < 8) : Calls Tryz.prog 111 #[.pointer o, .int .i64 n, .int .i64 f] w fun e w' => e = .returned (.int .i64 (wd 20 P 264 n f)) ∧ Below w.heap.size w w' := by
  have HL : Hid _ := h
  have d1 : decide (8 ≤ f) = false := decide_eq_false (by omega)
  clear h
  go_enter Tryz.func111, Tryz.ntmps111
  go_wp2_with fail
  go_at_call 81; refine (procs_any o P T G _ HL.out).mono ?_; rintro e w1 ⟨rfl, h1⟩
  go_wp2_with fail
  go_at_call 59; refine (word_any 20 P 264 n f _ (by omega) (by omega) (by omega)).mono ?_; rintro e w2 ⟨rfl, h2⟩
  have hb := seq h1 h2
  go_wp2_with fail
  go_ret
  exact ⟨rfl, hb⟩

theorem rprc_any (p f : Int) (w : World) (hp : 0 ≤ p ∧ p ≤ 64) (hf : 0 ≤ f ∧ f < 8) : Calls Tryz.prog 25 #[.int .i64 p, .int .i64 f] w fun e w' => e = .returned (.int .i64 (20 + 264 * p + f)) ∧ w = w' := by
  go_enter Tryz.func25, Tryz.ntmps25
  go_wp2_with fail
  go_ret
  exact ⟨ret_int (by first | rfl | omega | (unfold wrap64; omega)), rfl⟩
theorem rprcAt_any (P T G p f : Int) (w : World) (hp : 0 ≤ p ∧ p < P) (hP : P ≤ 64) (hf : 0 ≤ f ∧ f < 8) :
    Calls Tryz.prog 86 #[.agg #[.int .i64 P, .int .i64 T, .int .i64 G], .int .i64 p, .int .i64 f] w fun e w' => e = .returned (.int .i64 (wd 20 P 264 p f)) ∧ Below w.heap.size w w' := by
  have hb : Below w.heap.size w (w.alloc (.cells #[.int .i64 P, .int .i64 T, .int .i64 G] 23)) := (Below.refl _ _).alloc (Nat.le_refl _) _
  have hT := rprc_any p f (w.alloc (.cells #[.int .i64 P, .int .i64 T, .int .i64 G] 23)) (by omega) hf
  have e : 20 + 264 * p + f = wd 20 P 264 p f := by unfold wd; rw [if_pos ⟨hp.1, hp.2, by omega, by omega⟩]; omega
  rw [e] at hT
  generalize wd 20 P 264 p f = nt at *
  clear e
  have d1 : decide (p < 0) = false := decide_eq_false (by omega)
  have d2 : decide (P ≤ p) = false := decide_eq_false (by omega)
  go_enter Tryz.func86, Tryz.ntmps86
  go_wp2_with fail
  go_at_call 25; refine hT.mono ?_; rintro e w1 ⟨rfl, rfl⟩
  go_wp2_with fail
  go_ret
  exact ⟨rfl, hb⟩

theorem rrng_any (p i : Int) (w : World) (hp : 0 ≤ p ∧ p ≤ 64) (hi : 0 ≤ i ∧ i ≤ 18446744073709551615) : Calls Tryz.prog 29 #[.int .i64 p, .int .u64 i] w fun e w' => e = .returned (.int .i64 (28 + 264 * p + i % 256)) ∧ w = w' := by
  have e1 : i.tmod 256 = i % 256 := Int.tmod_eq_emod_of_nonneg (by omega)
  generalize hz : i % 256 = z at *
  have e2 : IntKind.i64.wrap z = z := by simp [IntKind.wrap, IntKind.bits, IntKind.signed] <;> omega
  have hzb : 0 ≤ z ∧ z < 256 := by omega
  clear hz hi
  go_enter Tryz.func29, Tryz.ntmps29
  go_wp2_with fail
  go_ret
  exact ⟨ret_int (by first | rfl | omega | (unfold wrap64; omega)), rfl⟩
end Go.Proofs.YthjfbknmdligeaaGreat
