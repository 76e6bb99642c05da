/- A line's run: kinds, numbers, readRun. -/
import Derived.Test.YtemdhcegelddlaaDoorSA
import Derived.Test.YtemdhcegelddlaaDoorSB
import Derived.Laws.ResultCell
namespace Go.Proofs.YtemdhcegelddlaaDoor
open Go Go.RowKit
set_option linter.unusedVariables false
set_option linter.unusedSimpArgs false

theorem kindS_first {s : List UInt8} {i : Nat} (hi : i < 5) (h : kwS i = s) : kindS s = (i : Int) := by
  subst h; exact kindS_kw i (by omega)
theorem kindS_none {s : List UInt8} (hn : ∀ j, j < 5 → kwS j ≠ s) : kindS s = -1 := by
  unfold kindS
  have : (List.range 5).find? (fun i => kwS i == s) = none := by
    rw [List.find?_eq_none]
    intro i hi
    rw [List.mem_range] at hi
    simp [hn i hi]
  rw [this]
theorem idx5 (K : Nat → ByteArray) (i : Nat) (hi : i < 5) (w : World) : (Instr.index 98 (.agg #[.string (K 0), .string (K 1), .string (K 2), .string (K 3), .string (K 4)]) (.int .i64 (i : Int))).run Tryd.prog w = .ok (.string (K i)) w := by
  obtain rfl | rfl | rfl | rfl | rfl : i = 0 ∨ i = 1 ∨ i = 2 ∨ i = 3 ∨ i = 4 := by omega
  all_goals (simp [Instr.index, run_underlying Tryd.underlying98, asIntOf, go_sem])
set_option maxRecDepth 100000 in
set_option maxHeartbeats 8000000 in
theorem kind_any (s : List UInt8) (w : World) (hT : Tab w) : Calls Tryd.prog 55 #[.string (bA s)] w fun e w' => e = .returned (.int .i64 (kindS s)) ∧ w' = w := by
  have k0 := hT.word 0 (by omega)
  have k1 := hT.word 1 (by omega)
  have k2 := hT.word 2 (by omega)
  have k3 := hT.word 3 (by omega)
  have k4 := hT.word 4 (by omega)
  rw [kwB_eq] at k0 k1 k2 k3 k4
  change w.cell? ⟨1, 0, none⟩ = some (.string (bA (kwS 0))) at k0
  change w.cell? ⟨1, 1, none⟩ = some (.string (bA (kwS 1))) at k1
  change w.cell? ⟨1, 2, none⟩ = some (.string (bA (kwS 2))) at k2
  change w.cell? ⟨1, 3, none⟩ = some (.string (bA (kwS 3))) at k3
  change w.cell? ⟨1, 4, none⟩ = some (.string (bA (kwS 4))) at k4
  clear hT
  have HQ : Hid (∀ i, ((bA (kwS i)).toList == (bA s).toList) = (kwS i == s)) := fun i => bA_beq _ _
  have HK : Hid (∀ i, i < 5 → kwS i = s → kindS s = (i : Int)) := fun i h1 h2 => kindS_first h1 h2
  have HN : Hid ((∀ j, j < 5 → kwS j ≠ s) → kindS s = -1) := kindS_none
  generalize bA s = S at *
  obtain ⟨K, hK⟩ : ∃ K : Nat → ByteArray, ∀ i, bA (kwS i) = K i := ⟨_, fun _ => rfl⟩
  simp only [hK] at k0 k1 k2 k3 k4 HQ
  go_enter Tryd.func55, Tryd.ntmps55
  go_wp2
  have HX : Hid (∀ (i : Nat) (x : World), i < 5 → (Instr.index 98 (.agg #[.string (K 0), .string (K 1), .string (K 2), .string (K 3), .string (K 4)]) (.int .i64 (i : Int))).run Tryd.prog x = .ok (.string (K i)) x) := fun i x h => idx5 K i h x
  generalize #[Value.string (K 0), Value.string (K 1), Value.string (K 2), Value.string (K 3), Value.string (K 4)] = A at HX ⊢
  clear k0 k1 k2 k3 k4 hK
  go_loopw [6] (fun p wr => ∃ (i : Nat), i ≤ 5 ∧ p = .int .i64 (i : Int) ∧ wr = w ∧ Hid (∀ j, j < i → kwS j ≠ s)) (fun p _ => 5 - (intOf p).toNat)
  case atStart => exact ⟨0, by omega, rfl, rfl, fun j hj => by omega⟩
  case round =>
    obtain ⟨i, hi, rfl, rfl, HP⟩ := hrel
    by_cases h5 : i < 5
    · have hb := HQ.out i
      have HKi := Lib.hid (HK.out i h5)
      have hx := fun x => HX.out i x h5
      have hlt : (decide ((i : Int) < 5)) = true := by simp; omega
      by_cases he : kwS i = s
      · have HR := Lib.hid (HKi.out he)
        have hb2 : ((K i).toList == S.toList) = true := by rw [hb, beq_iff_eq]; exact he
        clear hb he
        go_wp2
        go_ret
        exact ⟨by rw [HR.out]; rfl, rfl⟩
      · have hb2 : ((K i).toList == S.toList) = false := by rw [hb, beq_eq_false_iff_ne]; exact he
        have HP2 : Hid (∀ j, j < i + 1 → kwS j ≠ s) := fun j hj => by
          by_cases e : j = i
          · subst e; exact he
          · exact HP.out j (by omega)
        clear hb he HP
        go_wp2
        go_roundw
        case rel => exact ⟨i + 1, by omega, by go_num, by simp, HP2⟩
        case measure => simp [intOf]; omega
    · obtain rfl : i = 5 := by omega
      have HR := Lib.hid (HN.out HP.out)
      go_wp2
      go_ret
      exact ⟨by rw [HR.out]; rfl, rfl⟩

/-- a text's number -/
theorem number_read (s : List UInt8) (hs : s.length ≤ 4194304) (w : World) (hT : Tab w) : Calls Tryd.prog 56 #[.string (bA s)] w fun e w' => e = .returned (.int .i64 (num s)) ∧ Below w.heap.size w w' := by
  have HA : Hid (Calls Tryd.prog 72 #[.string (bA s)] w fun e w' => (∃ er, e = .returned (.tuple #[.int .i64 (num s), er])) ∧ Below w.heap.size w w') := by
    have hz := bA_size s
    cases h : Lib.atoiAll s with
    | ok v =>
      have h2 : Lib.atoiAll (bA s).data.toList = .ok v := by rw [bA_data]; exact h
      refine (strconv_Atoi_ok (bA s) (by omega) v h2 w).mono ?_
      rintro e w' ⟨rfl, hw⟩
      refine ⟨⟨_, by unfold num; rw [h]⟩, ?_⟩
      rcases hw with rfl | ⟨t, rfl⟩
      · exact Below.refl _ _
      · exact Lib.bytesWorld_below _ _ _
    | «syntax» =>
      have h2 : Lib.atoiAll (bA s).data.toList = .«syntax» := by rw [bA_data]; exact h
      obtain ⟨te, pe, hv⟩ := hT.es
      refine (strconv_Atoi_syntax (bA s) (by omega) h2 _ w hv (.inr ⟨_, _, rfl⟩)).mono ?_
      rintro e w' ⟨N, rfl, _, _, hb⟩
      exact ⟨⟨_, by unfold num; rw [h]⟩, hb⟩
    | range =>
      have h2 : Lib.atoiAll (bA s).data.toList = .range := by rw [bA_data]; exact h
      obtain ⟨te, pe, hv⟩ := hT.er
      refine (strconv_Atoi_range (bA s) (by omega) h2 _ w hv (.inr ⟨_, _, rfl⟩)).mono ?_
      rintro e w' ⟨N, rfl, _, _, hb⟩
      exact ⟨⟨_, by unfold num; rw [h, bA_data]⟩, hb⟩
  clear hT hs
  generalize bA s = S at *
  go_enter Tryd.func56, Tryd.ntmps56
  go_wp2_with fail
  go_at_call 72
  refine HA.out.mono ?_
  rintro e w1 ⟨⟨er, rfl⟩, hb1⟩
  go_wp2
  go_ret
  exact ⟨rfl, hb1⟩
theorem cut_eq (s sep : List UInt8) : Lib.cut s sep = cutL s sep := by
  unfold Lib.cut cutL
  have := Lib.index_ge s sep
  by_cases h : Lib.index s sep = -1
  · rw [if_neg (by omega), if_pos h]
  · rw [if_pos (by omega), if_neg h]
theorem cut_any (s sep : List UInt8) (hs : s.length ≤ 4194304) (w : World) (hT : Tab w) : Calls Tryd.prog 54 #[.string (bA s), .string (bA sep)] w fun e w' => e = .returned (.tuple #[.string (bA (cutL s sep).1), .string (bA (cutL s sep).2.1), .bool (cutL s sep).2.2]) ∧ Below w.heap.size w w' := by
  obtain ⟨m, hm⟩ := hT.mx
  refine (strings_Cut (bA s) (bA sep) m w (by rw [bA_size]; omega) hm).mono ?_
  rintro e w' ⟨rfl, n, rfl⟩
  rw [bA_data, bA_data, cut_eq]
  exact ⟨rfl, below_drewN (Below.refl _ _) n⟩
theorem cut_len (s sep : List UInt8) : (cutL s sep).1.length ≤ s.length ∧ (cutL s sep).2.1.length ≤ s.length := by
  unfold cutL
  split <;> simp <;> omega
end Go.Proofs.YtemdhcegelddlaaDoor
