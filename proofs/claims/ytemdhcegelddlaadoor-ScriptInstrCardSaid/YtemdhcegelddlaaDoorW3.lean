/- The document's line of an instruction. -/
import Derived.Test.YtemdhcegelddlaaDoorW2
import Derived.BigRegion
import Derived.WalkSmall
import Derived.Deep.RegionHeld3
namespace Go.Proofs.YtemdhcegelddlaaDoor
open Go Go.RowKit
set_option linter.unusedVariables false
set_option linter.unusedSimpArgs false

def nm : Nat → ByteArray
  | 0 => ⟨#[101, 120, 105, 116]⟩
  | 1 => ⟨#[99, 111, 109, 112, 117, 116, 101]⟩
  | 2 => ⟨#[115, 112, 97, 119, 110]⟩
  | 3 => ⟨#[121, 105, 101, 108, 100]⟩
  | 4 => ⟨#[112, 97, 114, 107]⟩
  | 5 => ⟨#[114, 101, 97, 100, 121]⟩
  | _ => ⟨#[115, 121, 115, 99, 97, 108, 108]⟩
def sp : ByteArray := ⟨#[32]⟩
/-- an instruction's line -/
def lineI (k a : Nat) : ByteArray := if k = 1 ∨ k = 2 ∨ k = 5 then nm k ++ sp ++ dB a else nm k

theorem refI_0 (a : Nat) (h : a ≤ 65535) (w : World) : Calls Tryd.prog 12 #[.agg #[.int .i64 0, .int .i64 (a : Int)]] w fun e w' => e = .returned (.string (lineI 0 a)) ∧ Below w.heap.size w w' := by
  go_enter Tryd.func12, Tryd.ntmps12
  go_wp2
  go_ret
  exact ⟨rfl, ((Below.refl _ w).alloc (Nat.le_refl _) _).alloc (by simp) _⟩
theorem refI_1 (a : Nat) (h : a ≤ 65535) (w : World) : Calls Tryd.prog 12 #[.agg #[.int .i64 1, .int .i64 (a : Int)]] w fun e w' => e = .returned (.string (lineI 1 a)) ∧ Below w.heap.size w w' := by
  have HN : Hid (∀ w, Calls Tryd.prog 28 #[.int .i64 (a : Int)] w fun e w' => e = .returned (.string (dB a)) ∧ ∃ k, w' = w.drewN k) := number_any a (by omega)
  have hS0 := dB_size a (by omega)
  have hS : ¬ (9223372036854775807 < ((⟨#[99, 111, 109, 112, 117, 116, 101]⟩ : ByteArray) ++ ⟨#[32]⟩).size + (dB a).size) := by
    have : ((⟨#[99, 111, 109, 112, 117, 116, 101]⟩ : ByteArray) ++ ⟨#[32]⟩).size ≤ 8 := by decide +kernel
    omega
  have HL : Hid (lineI 1 a = ((⟨#[99, 111, 109, 112, 117, 116, 101]⟩ : ByteArray) ++ ⟨#[32]⟩) ++ dB a) := rfl
  generalize dB a = D at *
  go_enter Tryd.func12, Tryd.ntmps12
  go_wp2_with fail
  go_at_call 28
  refine (HN.out _).mono ?_
  rintro e w1 ⟨rfl, k1, rfl⟩
  go_wp2
  go_ret
  rw [HL.out]
  exact ⟨rfl, below_drewN (((Below.refl _ w).alloc (Nat.le_refl _) _).alloc (by simp) _) _⟩
theorem refI_2 (a : Nat) (h : a ≤ 65535) (w : World) : Calls Tryd.prog 12 #[.agg #[.int .i64 2, .int .i64 (a : Int)]] w fun e w' => e = .returned (.string (lineI 2 a)) ∧ Below w.heap.size w w' := by
  have HN : Hid (∀ w, Calls Tryd.prog 28 #[.int .i64 (a : Int)] w fun e w' => e = .returned (.string (dB a)) ∧ ∃ k, w' = w.drewN k) := number_any a (by omega)
  have hS0 := dB_size a (by omega)
  have hS : ¬ (9223372036854775807 < ((⟨#[115, 112, 97, 119, 110]⟩ : ByteArray) ++ ⟨#[32]⟩).size + (dB a).size) := by
    have : ((⟨#[115, 112, 97, 119, 110]⟩ : ByteArray) ++ ⟨#[32]⟩).size ≤ 8 := by decide +kernel
    omega
  have HL : Hid (lineI 2 a = ((⟨#[115, 112, 97, 119, 110]⟩ : ByteArray) ++ ⟨#[32]⟩) ++ dB a) := rfl
  generalize dB a = D at *
  go_enter Tryd.func12, Tryd.ntmps12
  go_wp2_with fail
  go_at_call 28
  refine (HN.out _).mono ?_
  rintro e w1 ⟨rfl, k1, rfl⟩
  go_wp2
  go_ret
  rw [HL.out]
  exact ⟨rfl, below_drewN (((Below.refl _ w).alloc (Nat.le_refl _) _).alloc (by simp) _) _⟩
theorem refI_3 (a : Nat) (h : a ≤ 65535) (w : World) : Calls Tryd.prog 12 #[.agg #[.int .i64 3, .int .i64 (a : Int)]] w fun e w' => e = .returned (.string (lineI 3 a)) ∧ Below w.heap.size w w' := by
  go_enter Tryd.func12, Tryd.ntmps12
  go_wp2
  go_ret
  exact ⟨rfl, ((Below.refl _ w).alloc (Nat.le_refl _) _).alloc (by simp) _⟩
theorem refI_4 (a : Nat) (h : a ≤ 65535) (w : World) : Calls Tryd.prog 12 #[.agg #[.int .i64 4, .int .i64 (a : Int)]] w fun e w' => e = .returned (.string (lineI 4 a)) ∧ Below w.heap.size w w' := by
  go_enter Tryd.func12, Tryd.ntmps12
  go_wp2
  go_ret
  exact ⟨rfl, ((Below.refl _ w).alloc (Nat.le_refl _) _).alloc (by simp) _⟩
theorem refI_5 (a : Nat) (h : a ≤ 65535) (w : World) : Calls Tryd.prog 12 #[.agg #[.int .i64 5, .int .i64 (a : Int)]] w fun e w' => e = .returned (.string (lineI 5 a)) ∧ Below w.heap.size w w' := by
  have HN : Hid (∀ w, Calls Tryd.prog 28 #[.int .i64 (a : Int)] w fun e w' => e = .returned (.string (dB a)) ∧ ∃ k, w' = w.drewN k) := number_any a (by omega)
  have hS0 := dB_size a (by omega)
  have hS : ¬ (9223372036854775807 < ((⟨#[114, 101, 97, 100, 121]⟩ : ByteArray) ++ ⟨#[32]⟩).size + (dB a).size) := by
    have : ((⟨#[114, 101, 97, 100, 121]⟩ : ByteArray) ++ ⟨#[32]⟩).size ≤ 8 := by decide +kernel
    omega
  have HL : Hid (lineI 5 a = ((⟨#[114, 101, 97, 100, 121]⟩ : ByteArray) ++ ⟨#[32]⟩) ++ dB a) := rfl
  generalize dB a = D at *
  go_enter Tryd.func12, Tryd.ntmps12
  go_wp2_with fail
  go_at_call 28
  refine (HN.out _).mono ?_
  rintro e w1 ⟨rfl, k1, rfl⟩
  go_wp2
  go_ret
  rw [HL.out]
  exact ⟨rfl, below_drewN (((Below.refl _ w).alloc (Nat.le_refl _) _).alloc (by simp) _) _⟩
theorem refI_6 (a : Nat) (h : a ≤ 65535) (w : World) : Calls Tryd.prog 12 #[.agg #[.int .i64 6, .int .i64 (a : Int)]] w fun e w' => e = .returned (.string (lineI 6 a)) ∧ Below w.heap.size w w' := by
  go_enter Tryd.func12, Tryd.ntmps12
  go_wp2
  go_ret
  exact ⟨rfl, ((Below.refl _ w).alloc (Nat.le_refl _) _).alloc (by simp) _⟩

theorem refI_any (k : Int) (a : Nat) (hk : 0 ≤ k ∧ k ≤ 6) (h : a ≤ 65535) (w : World) : Calls Tryd.prog 12 #[.agg #[.int .i64 k, .int .i64 (a : Int)]] w fun e w' => e = .returned (.string (lineI k.toNat a)) ∧ Below w.heap.size w w' := by
  have : k = 0 ∨ k = 1 ∨ k = 2 ∨ k = 3 ∨ k = 4 ∨ k = 5 ∨ k = 6 := by omega
  rcases this with rfl | rfl | rfl | rfl | rfl | rfl | rfl
  · exact refI_0 a h w
  · exact refI_1 a h w
  · exact refI_2 a h w
  · exact refI_3 a h w
  · exact refI_4 a h w
  · exact refI_5 a h w
  · exact refI_6 a h w
end Go.Proofs.YtemdhcegelddlaaDoor
