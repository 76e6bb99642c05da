/- The document's number. -/
import Derived.Test.YtemdhcegelddlaaDoorLa
import Derived.BigQuiet
import Derived.Deep.QuietTactic
import Derived.Handy
import Derived.Laws.Concat
import Derived.Lib.ItoaLen
import Derived.Lib.ItoaNum
import Derived.Shelf.Strconv.Itoa1
import Derived.WalkKit
namespace Go.Proofs.YtemdhcegelddlaaDoor
open Go Go.RowKit
set_option linter.unusedVariables false
set_option linter.unusedSimpArgs false

theorem ret_bool {a b : Bool} (h : a = b) : Ending.returned (.bool a) = .returned (.bool b) := by rw [h]

def ten : ByteArray := ⟨#[48, 49, 50, 51, 52, 53, 54, 55, 56, 57]⟩
theorem ten_size : ten.size = 10 := by decide +kernel
theorem ten_one : ∀ i : Fin 10, ten.extract i.val (i.val + 1) = ⟨#[UInt8.ofNat (48 + i.val)]⟩ := by decide +kernel
theorem ten_at {i : Nat} (h : i < 10) : ten.extract i (i + 1) = ⟨(Lib.decDigits i).toArray⟩ := by rw [Lib.decDigits_one h]; exact ten_one ⟨i, h⟩

theorem ten_slice (i : Nat) (h : i < 10) (w : World) : (Instr.slice 9 (.string ten) (some (.int .i64 (i : Int))) (some (.int .i64 ((i : Int) + 1))) none).run Tryd.prog w = .ok (.string (ten.extract i (i + 1))) w := by
  rw [run_slice_string w 9 ten .i64 .i64 _ _ Tryd.underlying9 (by omega) (by omega) (by rw [ten_size]; omega), show ((i : Int)).toNat = i by omega, show ((i : Int) + 1).toNat = i + 1 by omega]

theorem quiet_draws {P : Program} {f : FuncId} {args : Array Value} {w : World} {n : Nat} {v : Value} (h : Calls P f args (w.drewN n) fun e w' => e = .returned v ∧ ∃ k, w' = (w.drewN n).drewN k) :
    Calls P f args (w.drewN n) fun e w'' => e = .returned v ∧ ∃ m, w'' = w.drewN m := h.mono fun _ _ ⟨he, k, hm⟩ => ⟨he, n + k, by rw [hm, World.drewN_drewN]⟩

theorem number_low (n : Nat) (h : n < 10) (w : World) : Calls Tryd.prog 28 #[.int .i64 (n : Int)] w fun e w' => e = .returned (.string ⟨(Lib.decDigits n).toArray⟩) ∧ w = w' := by
  have hsl := ten_slice n h
  go_enter Tryd.func28, Tryd.ntmps28
  go_name_bytes_deep 9 DG hDG
  have eDG : DG = ten := by rw [← hDG]; decide +kernel
  subst eDG
  clear hDG
  go_wp2
  go_ret
  refine ⟨?_, rfl⟩
  show Ending.returned (Value.string (ten.extract n (n + 1))) = _
  rw [ten_at h]

def dB (n : Nat) : ByteArray := ⟨(Lib.decDigits n).toArray⟩
theorem dB_size (n : Nat) (h : n < 18446744073709551616) : (dB n).size ≤ 20 := by
  have h1 : (dB n).size = (Lib.decDigits n).length := by simp [dB, ByteArray.size]
  rw [h1, Lib.decDigits_length]
  exact Lib.nDigits_le20 n h
theorem dB_step (n : Nat) (h : ¬ n < 10) : dB n = dB (n / 10) ++ ten.extract (n % 10) (n % 10 + 1) := by
  rw [ten_at (i := n % 10) (by omega), Lib.decDigits_one (by omega)]
  unfold dB
  rw [Lib.decDigits, dif_neg h, ByteArray.mk_append_mk]

set_option maxRecDepth 100000 in
theorem number_any : ∀ (n : Nat), n < 4611686018427387904 → ∀ (w : World), Calls Tryd.prog 28 #[.int .i64 (n : Int)] w fun e w' => e = .returned (.string (dB n)) ∧ ∃ k, w' = w.drewN k := by
  intro n
  induction n using Nat.strongRecOn with
  | ind n ih =>
    intro hb w
    by_cases h : n < 10
    · refine (number_low n h w).mono ?_
      rintro e w' ⟨rfl, rfl⟩
      exact ⟨rfl, 0, rfl⟩
    · have HH : Hid (∀ w, Calls Tryd.prog 28 #[.int .i64 ((n / 10 : Nat) : Int)] w fun e w' => e = .returned (.string (dB (n / 10))) ∧ ∃ k, w' = w.drewN k) := ih (n / 10) (by omega) (by omega)
      clear ih
      have hsl := ten_slice (n % 10) (by omega)
      have q1 : Int.tdiv (n : Int) 10 = ((n / 10 : Nat) : Int) := by rw [Int.tdiv_eq_ediv_of_nonneg (by omega)]; omega
      have q2 : Int.tmod (n : Int) 10 = ((n % 10 : Nat) : Int) := by rw [Int.tmod_eq_emod_of_nonneg (by omega)]; omega
      have hlt : (decide ((n : Int) < 10)) = false := by simp; omega
      have HD : Hid (dB n = dB (n / 10) ++ ten.extract (n % 10) (n % 10 + 1)) := dB_step n h
      have hX : (ten.extract (n % 10) (n % 10 + 1)).size = 1 := by rw [ten_at (by omega), Lib.decDigits_one (by omega)]; rfl
      have hS : ¬ (9223372036854775807 < (dB (n / 10)).size + (ten.extract (n % 10) (n % 10 + 1)).size) := by have := dB_size (n / 10) (by omega); omega
      clear hX
      have w1 : IntKind.i64.wrap ((n / 10 : Nat) : Int) = ((n / 10 : Nat) : Int) := IntWalk.i64_in _ (by omega)
      have w2 : IntKind.i64.wrap ((n % 10 : Nat) : Int) = ((n % 10 : Nat) : Int) := IntWalk.i64_in _ (by omega)
      have w3 : IntKind.i64.wrap (((n % 10 : Nat) : Int) + 1) = ((n % 10 : Nat) : Int) + 1 := IntWalk.i64_in _ (by omega)
      generalize n / 10 = q at *
      generalize n % 10 = r at *
      generalize ten.extract r (r + 1) = X at *
      generalize dB q = D at *
      go_enter Tryd.func28, Tryd.ntmps28
      go_name_bytes_deep 9 DG hDG
      have eDG : DG = ten := by rw [← hDG]; decide +kernel
      subst eDG
      clear hDG
      go_wp2
      go_quiet ((go_at_call 28; exact quiet_draws (HH.out _)))
      go_wp2
      go_ret
      rw [HD.out]
      exact ⟨rfl, _, rfl⟩
end Go.Proofs.YtemdhcegelddlaaDoor
