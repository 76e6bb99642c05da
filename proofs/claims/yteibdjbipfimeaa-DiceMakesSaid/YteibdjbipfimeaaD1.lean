/- Numbers of dice: the plain mathematics, and the contracts of what takes them. -/
import Derived.Test.YteibdjbipfimeaaB0
import Derived.Laws.Bits64
import Derived.IntWalk
namespace Go.Proofs.Yteibdjbipfimeaa
open Go Go.RowKit
set_option linter.unusedVariables false
set_option linter.unusedSimpArgs false

/-- What a state tells. -/
def mix (X : Nat) : Nat :=
  let a := (X ^^^ X / 1073741824) * 13787848793156543929 % 18446744073709551616
  let b := (a ^^^ a / 134217728) * 10723151780598845931 % 18446744073709551616
  b ^^^ b / 2147483648
theorem mix_lt (X : Nat) : mix X < 18446744073709551616 := by
  have h := Nat.mod_lt ((((X ^^^ X / 1073741824) * 13787848793156543929 % 18446744073709551616) ^^^ ((X ^^^ X / 1073741824) * 13787848793156543929 % 18446744073709551616) / 134217728) * 10723151780598845931) (show 0 < 18446744073709551616 by omega)
  unfold mix
  dsimp only
  generalize (((X ^^^ X / 1073741824) * 13787848793156543929 % 18446744073709551616) ^^^ ((X ^^^ X / 1073741824) * 13787848793156543929 % 18446744073709551616) / 134217728) * 10723151780598845931 % 18446744073709551616 = b at h ⊢
  exact Nat.xor_lt_two_pow (n := 64) (by omega) (by have := Nat.div_le_self b 2147483648; omega)
/-- The state behind so many numbers. -/
def st (s k : Nat) : Nat := (s + k * 11400714819323198485) % 18446744073709551616
theorem st_lt (s k : Nat) : st s k < 18446744073709551616 := Nat.mod_lt _ (by omega)
theorem st_zero (s : Nat) (h : s < 18446744073709551616) : st s 0 = s := by unfold st; omega
theorem st_succ (s k : Nat) : st s (k + 1) = (st s k + 11400714819323198485) % 18446744073709551616 := by unfold st; omega
/-- The k-th number of a state (the first one: 1). -/
def num (s k : Nat) : Nat := mix (st s k)
theorem num_lt (s k : Nat) : num s k < 18446744073709551616 := mix_lt _

theorem wrap_add (s : Nat) : IntKind.u64.wrap ((s : Int) + 11400714819323198485) = (((s + 11400714819323198485) % 18446744073709551616 : Nat) : Int) := by rw [IntKind.wrap_u64]; omega
theorem mix_spelt (X : Nat) (h : X < 18446744073709551616) :
    bits BinOp.xor IntKind.u64 (IntKind.u64.wrap (bits BinOp.xor IntKind.u64 (IntKind.u64.wrap (bits BinOp.xor IntKind.u64 (X : Int) ((X : Int) / 1073741824) * 13787848793156543929)) (IntKind.u64.wrap (bits BinOp.xor IntKind.u64 (X : Int) ((X : Int) / 1073741824) * 13787848793156543929) / 134217728) * 10723151780598845931))
      (IntKind.u64.wrap (bits BinOp.xor IntKind.u64 (IntKind.u64.wrap (bits BinOp.xor IntKind.u64 (X : Int) ((X : Int) / 1073741824) * 13787848793156543929)) (IntKind.u64.wrap (bits BinOp.xor IntKind.u64 (X : Int) ((X : Int) / 1073741824) * 13787848793156543929) / 134217728) * 10723151780598845931) / 2147483648) = ((mix X : Nat) : Int) := by
  have e1 := mixStep_u64 X 1073741824 13787848793156543929 h
  have m1 : (X ^^^ X / 1073741824) * 13787848793156543929 % 18446744073709551616 < 18446744073709551616 := Nat.mod_lt _ (by omega)
  have e2 := mixStep_u64 _ 134217728 10723151780598845931 m1
  have m2 := Nat.mod_lt (((X ^^^ X / 1073741824) * 13787848793156543929 % 18446744073709551616 ^^^ (X ^^^ X / 1073741824) * 13787848793156543929 % 18446744073709551616 / 134217728) * 10723151780598845931) (show 0 < 18446744073709551616 by omega)
  have e3 := xorShift_u64 _ 2147483648 m2
  simp only [Int.cast_ofNat_Int] at e1 e2 e3
  rw [e1, e2, e3]
  rfl
theorem quo_spelt (x : Int) (m : Int) (hm : 1 ≤ m) (h : 0 ≤ x) (h1 : x ≤ 18446744073709551615) : IntKind.u64.wrap (x.tdiv m) = x / m := IntWalk.u64_quo x m ⟨h, h1, hm⟩
theorem wrap_bd (x : Int) : 0 ≤ IntKind.u64.wrap x ∧ IntKind.u64.wrap x ≤ 18446744073709551615 := by rw [IntKind.wrap_u64]; omega
theorem num_spelt (s n : Nat) :
    IntKind.u64.wrap ((s : Int) + IntKind.u64.wrap ((n : Int) * 11400714819323198485)) = ((st s n : Nat) : Int) := by
  rw [IntKind.wrap_u64, IntKind.wrap_u64]; unfold st; omega

/-- Dice of a state at block c. -/
def Dc (w : World) (c s : Nat) : Prop := w.heap[c]? = some (.cells #[.int .u64 (s : Int)] 52 (0, 0))
theorem Dc.lt {w : World} {c s : Nat} (h : Dc w c s) : c < w.heap.size := block_lt h
theorem Dc.c0 {w : World} {c s : Nat} (h : Dc w c s) : w.cell? ⟨c, 0, none⟩ = some (.int .u64 (s : Int)) := by unfold Dc at h; simp [World.cell?, h]
theorem Dc.z0 {w : World} {c s : Nat} (h : Dc w c s) : w.frozen? ⟨c, 0, none⟩ = false := by unfold Dc at h; simp [World.frozen?, h]
theorem Dc.but {w w' : World} {c s : Nat} {l : List Nat} (h : Dc w c s) (hb : But l w w') (hc : c ∉ l) : Dc w' c s := (hb.block c h.lt hc).trans h
theorem Dc.below {w w' : World} {c s B : Nat} (h : Dc w c s) (hb : Below B w w') (hc : c < B) : Dc w' c s := (hb.block c hc).trans h

theorem next_any (w : World) (c s : Nat) (hs : s < 18446744073709551616) (h : Dc w c s) :
    Calls Try.prog 10 #[.pointer (some ⟨c, 0, none⟩)] w fun e w' => e = .returned (.int .u64 ((num s 1 : Nat) : Int)) ∧ Dc w' c (st s 1) ∧ But [c] w w' := by
  have c0 := h.c0
  have z0 := h.z0
  have hc := h.lt
  have e1 : ((st s 1 : Nat) : Int) = IntKind.u64.wrap ((s : Int) + 11400714819323198485) := by rw [wrap_add]; unfold st; omega
  have HM : Hid (∀ X : Nat, X < 18446744073709551616 → _) := mix_spelt
  have HE : Hid (((st s 1 : Nat) : Int) = IntKind.u64.wrap ((s : Int) + 11400714819323198485)) := e1
  have HH : Hid (Dc w c s) := h
  clear h e1
  go_enter Try.func10, Try.ntmps10
  go_wp2_with fail
  go_ret
  rw [← HE.out]
  refine ⟨ret_int (HM.out _ (st_lt _ _)), heap_set HH.out 0 _, (But.refl _ _).set (Or.inl (List.mem_singleton.2 rfl)) 0 _⟩
theorem next_nil (w : World) : Calls Try.prog 10 #[.pointer none] w fun e w' => e = .returned (.int .u64 0) ∧ w = w' := by
  go_enter Try.func10, Try.ntmps10
  go_wp2_with fail
  go_ret
  exact ⟨rfl, rfl⟩
theorem number_any (w : World) (s n : Nat) (h1 : s < 18446744073709551616) (n1 : n ≤ 1000000) :
    Calls Try.prog 11 #[.int .u64 (s : Int), .int .i64 (n : Int)] w fun e w' => e = .returned (.int .u64 ((num s n : Nat) : Int)) ∧ w = w' := by
  have HM : Hid (∀ X : Nat, X < 18446744073709551616 → _) := mix_spelt
  have HQ : Hid (∀ x m : Int, _ → _ → _ → _) := quo_spelt
  have HS : Hid (∀ s n : Nat, _) := num_spelt
  go_enter Try.func11, Try.ntmps11
  go_wp2_with fail
  go_ret
  refine ⟨?_, rfl⟩
  have e := HM.out _ (st_lt s n)
  simp only [Frame.tmps]
  refine ret_int ?_
  rw [HS.out, quo_spelt _ 1073741824 (by omega) (by omega) (by have := st_lt s n; omega), quo_spelt _ 134217728 (by omega) (wrap_bd _).1 (wrap_bd _).2, quo_spelt _ 2147483648 (by omega) (wrap_bd _).1 (wrap_bd _).2]
  exact e
end Go.Proofs.Yteibdjbipfimeaa
