/- A part of a line: its letter and its number. -/
import Derived.Test.YtalilnnjpemmlaaDoorU1
namespace Go.Proofs.YtalilnnjpemmlaaDoor
open Go Go.RowKit
set_option linter.unusedVariables false
set_option linter.unusedSimpArgs false

/-- strconv.Atoi at any string, its error left aside -/
theorem atoi_any (s : List UInt8) (hs : s.length ≤ 4194304) (w : World) (hT : Tab w) : Calls Tryd.prog 35 #[.string (bA s)] w fun e w' => (∃ er, e = .returned (.tuple #[.int .i64 (num s), er])) ∧ Below w.heap.size w w' := by
  have hz := bA_size s
  cases h : Lib.atoiAll s with
  | ok v =>
    have h2 : Lib.atoiAll (bA s).data.toList = .ok v := by rw [bA_data]; exact h
    refine (strconv_Atoi_ok (bA s) (by omega) v h2 w).mono ?_
    rintro e w' ⟨rfl, hw⟩
    refine ⟨⟨_, by unfold num; rw [h]⟩, ?_⟩
    rcases hw with rfl | ⟨t, rfl⟩
    · exact Below.refl _ _
    · exact Lib.bytesWorld_below _ _ _
  | «syntax» =>
    have h2 : Lib.atoiAll (bA s).data.toList = .«syntax» := by rw [bA_data]; exact h
    obtain ⟨te, pe, hv⟩ := hT.es
    refine (strconv_Atoi_syntax (bA s) (by omega) h2 _ w hv (.inr ⟨_, _, rfl⟩)).mono ?_
    rintro e w' ⟨N, rfl, _, _, hb⟩
    exact ⟨⟨_, by unfold num; rw [h]⟩, hb⟩
  | range =>
    have h2 : Lib.atoiAll (bA s).data.toList = .range := by rw [bA_data]; exact h
    obtain ⟨te, pe, hv⟩ := hT.er
    refine (strconv_Atoi_range (bA s) (by omega) h2 _ w hv (.inr ⟨_, _, rfl⟩)).mono ?_
    rintro e w' ⟨N, rfl, _, _, hb⟩
    exact ⟨⟨_, by unfold num; rw [h, bA_data]⟩, hb⟩

set_option maxRecDepth 100000 in
theorem part_read (p : List UInt8) (hs : p.length ≤ 4194304) (w : World) (hT : Tab w) : Calls Tryd.prog 29 #[.string (bA p)] w fun e w' => e = .returned (.tuple #[.string (bA (p.take 1)), .int .i64 (num (p.drop 1))]) ∧ Below w.heap.size w w' := by
  have HA : Hid (Calls Tryd.prog 35 #[.string (bA (p.drop 1))] w fun e w' => (∃ er, e = .returned (.tuple #[.int .i64 (num (p.drop 1)), er])) ∧ Below w.heap.size w w') := atoi_any (p.drop 1) (by simp; omega) w hT
  have hz := bA_size p
  cases p with
  | nil =>
    have s1 : ∀ x : World, (Instr.slice 9 (.string (bA [])) (some (.int .i64 0)) none none).run Tryd.prog x = .ok (.string (bA [])) x := fun x => by
      rw [run_slice_string_from_if _ _ _ _ _ Tryd.underlying9, if_pos ⟨by omega, by rw [bA_size]; simp⟩]; rfl
    have s2 : ∀ x : World, (Instr.slice 9 (.string (bA [])) none (some (.int .i64 0)) none).run Tryd.prog x = .ok (.string (bA [])) x := fun x => by
      rw [run_slice_string_to_if _ _ _ _ _ Tryd.underlying9, if_pos ⟨by omega, by rw [bA_size]; simp⟩]; rfl
    simp only [List.drop_nil, List.take_nil] at HA ⊢
    have hz : (bA []).size = 0 := rfl
    have hm : min (0 : Int) 1 = 0 := by decide
    have hm2 : min ((bA []).size : Int) 1 = 0 := by rw [hz]; decide
    have hx : (bA []).extract 0 0 = bA [] := rfl
    generalize bA [] = E at *
    go_enter Tryd.func29, Tryd.ntmps29
    go_wp2_with fail
    go_at_call 35
    refine HA.out.mono ?_
    rintro e w1 ⟨⟨er, rfl⟩, hb1⟩
    clear s1 hT
    go_wp2
    go_ret2
    exact ⟨rfl, hb1⟩
  | cons c r =>
    have s1 : ∀ x : World, (Instr.slice 9 (.string (bA (c :: r))) (some (.int .i64 1)) none none).run Tryd.prog x = .ok (.string (bA r)) x := fun x => by
      rw [run_slice_string_from_if _ _ _ _ _ Tryd.underlying9, if_pos ⟨by omega, by rw [bA_size]; simp; omega⟩]
      rw [bA_of ((bA (c :: r)).extract (1 : Int).toNat (bA (c :: r)).size) r (by rw [Lib.extract_to_end, bA_data]; rfl)]
    have s2 : ∀ x : World, (Instr.slice 9 (.string (bA (c :: r))) none (some (.int .i64 1)) none).run Tryd.prog x = .ok (.string (bA [c])) x := fun x => by
      rw [run_slice_string_to_if _ _ _ _ _ Tryd.underlying9, if_pos ⟨by omega, by rw [bA_size]; simp; omega⟩]
      rw [bA_of ((bA (c :: r)).extract 0 (1 : Int).toNat) [c] (by rw [Lib.extract_data, bA_data]; rfl)]
    simp only [List.drop_succ_cons, List.drop_zero, List.take_succ_cons, List.take_zero] at HA ⊢
    have hpos : 1 ≤ (bA (c :: r)).size := by rw [bA_size]; simp
    have hm : min ((bA (c :: r)).size : Int) 1 = 1 := by omega
    generalize bA (c :: r) = E at *
    generalize bA r = R at *
    generalize bA [c] = Cc at *
    clear hz hT
    go_enter Tryd.func29, Tryd.ntmps29
    go_wp2_with fail
    go_at_call 35
    refine HA.out.mono ?_
    rintro e w1 ⟨⟨er, rfl⟩, hb1⟩
    go_wp2
    go_ret2
    exact ⟨rfl, hb1⟩
end Go.Proofs.YtalilnnjpemmlaaDoor
