/- The walk of the law CodeInstr. -/
import Derived.Test.YtmkmpphfieckoaaWake
import Derived.Deep.RegionWith
namespace Go.Proofs.Ytmkmpphfieckoaa
open Go Go.RowKit
set_option linter.unusedVariables false
set_option linter.unusedSimpArgs false

theorem codeInstr_part (V M : Int) (w : World) (bV : 0 ≤ V ∧ V ≤ 18446744073709551615) (hp : pt V = true) : Calls Try.prog 7 #[.int .u64 V, .int .i64 M] w fun e w' => e = .returned (.bool true) ∧ Below w.heap.size w w' := by
  have heq := eq_instr
  have hP := refParts_any V
  rw [hp] at hP
  go_enter Try.func7, Try.ntmps7
  go_wp2_with fail
  go_at_call 42; refine (instr_part V M _ bV hp).mono ?_; rintro e w1 ⟨rfl, h1⟩
  have hb1 := h1.alloc h1.size (.cells #[.int .i64 0, .int .i64 0] 54)
  have hh := heap_alloc_new w1 (.cells #[.int .i64 0, .int .i64 0] 54)
  go_wp2_with fail
  go_at_call 43; refine (hP _ bV).mono ?_; clear hP; rintro e w2 ⟨rfl, rfl⟩
  go_wp2_with fail
  go_at_call 34; refine (awakeC_any _).mono ?_; rintro e w3 ⟨rfl, h3⟩
  have hh3 := (h3.block w1.heap.size (by simp)).trans hh
  have c0 : w3.cell? ⟨w1.heap.size, 0, none⟩ = some (.int .i64 0) := by simp [World.cell?, hh3]
  have c1 : w3.cell? ⟨w1.heap.size, 1, none⟩ = some (.int .i64 0) := by simp [World.cell?, hh3]
  have hb3 := hb1.trans (h3.mono hb1.size)
  clear hh hh3
  go_wp2_with fail
  go_ret
  exact ⟨rfl, hb3⟩
theorem ag_bd (x m : Int) (h0 : 0 ≤ x) (hk : kd x = 2) : 0 ≤ ag x m ∧ ag x m < mx m := by
  have h1 : ¬ 281474976710656 ≤ x := by intro h; unfold kd at hk; rw [if_pos h] at hk; omega
  have h2 : x % 8 = 2 := by unfold kd at hk; rwa [if_neg h1] at hk
  have h3 : 0 < mx m := by unfold mx; split <;> omega
  have e : ag x m = x / 8 % mx m := by unfold ag; rw [if_neg h1, if_neg (by omega), if_pos h2]
  rw [e]
  exact ⟨Int.emod_nonneg _ (by omega), Int.emod_lt_of_pos _ h3⟩

set_option maxHeartbeats 4000000 in
theorem codeInstr_not (V M : Int) (w : World) (bV : 0 ≤ V ∧ V ≤ 18446744073709551615) (bM : -9223372036854775808 ≤ M ∧ M ≤ 9223372036854775807) (hp : pt V = false) (hk : kd V ≠ 2) : Calls Try.prog 7 #[.int .u64 V, .int .i64 M] w fun e w' => e = .returned (.bool true) ∧ Below w.heap.size w w' := by
  have heq := eq_instr
  have hP := refParts_any V
  rw [hp] at hP
  have hI := instr_any V M w bV bM hp
  have HR : Hid (∀ w, Calls Try.prog 44 #[.int .u64 V, .int .i64 M] w fun e w' => e = .returned (.agg #[.int .i64 (kd V), .int .i64 (ag V M)]) ∧ Below w.heap.size w w') := fun w => refInstr_any V M w bV bM
  have hkk : (kd V == 2) = false := by simpa using hk
  have hkn : (kd V != 2) = true := by simpa using hk
  have hkd : decide (kd V = 2) = false := by simpa using hk
  have hk' : ¬ kd V = 2 := hk
  generalize kd V = k at *
  generalize ag V M = a at *
  go_enter Try.func7, Try.ntmps7
  go_wp2_with fail
  go_at_call 42; refine hI.mono ?_; clear hI; rintro e w1 ⟨rfl, h1⟩
  have hb1 := h1.alloc h1.size (.cells #[.int .i64 k, .int .i64 a] 54)
  have hh := heap_alloc_new w1 (.cells #[.int .i64 k, .int .i64 a] 54)
  have hq : w1.heap.size < (w1.alloc (.cells #[.int .i64 k, .int .i64 a] 54)).heap.size := by simp
  go_wp2_with fail
  go_at_call 43; refine (hP _ bV).mono ?_; clear hP; rintro e w2 ⟨rfl, rfl⟩
  generalize hW : w1.alloc (.cells #[.int .i64 k, .int .i64 a] 54) = W at hb1 hh hq ⊢
  generalize w1.heap.size = q at hh hq ⊢
  clear hW
  have hC : ∀ X, Below W.heap.size W X → X.cell? ⟨q, 0, none⟩ = some (.int .i64 k) ∧ X.cell? ⟨q, 1, none⟩ = some (.int .i64 a) := fun X hX => by
    have hh' := (hX.block q hq).trans hh
    exact ⟨by simp [World.cell?, hh'], by simp [World.cell?, hh']⟩
  have HA : Hid (∀ z, Below W.heap.size W z → Calls Try.prog 34 #[] z fun e z' => e = .returned (.bool true) ∧ z'.cell? ⟨q, 0, none⟩ = some (.int .i64 k) ∧ z'.cell? ⟨q, 1, none⟩ = some (.int .i64 a) ∧ Below W.heap.size W z') := fun z hz => by
    refine (awakeC_any z).mono ?_
    rintro e z' ⟨rfl, h⟩
    have h' := hz.trans (h.mono hz.size)
    exact ⟨rfl, (hC _ h').1, (hC _ h').2, h'⟩
  have HB : Hid (∀ z, Below W.heap.size W z → Calls Try.prog 44 #[.int .u64 V, .int .i64 M] z fun e z' => e = .returned (.agg #[.int .i64 k, .int .i64 a]) ∧ z'.cell? ⟨q, 0, none⟩ = some (.int .i64 k) ∧ z'.cell? ⟨q, 1, none⟩ = some (.int .i64 a) ∧ Below W.heap.size W z') := fun z hz => by
    refine (HR.out z).mono ?_
    rintro e z' ⟨rfl, h⟩
    have h' := hz.trans (h.mono hz.size)
    exact ⟨rfl, (hC _ h').1, (hC _ h').2, h'⟩
  have hu : yielded.match_1 (motive := fun _ => Option Bool) (some undef) (fun b => some b) (fun _ => none) = none := rfl
  have hd0 : Below W.heap.size W W.drew := (Below.refl _ _).drew
  clear hh HR hC
  go_wp2_with fail
  first | (go_region_with (first | (go_at_call 34; refine (HA.out _ ?_).mono ?_; exact hd0; rintro e z1 ⟨rfl, d0, d1, hz1⟩) | (go_at_call 44; refine (HB.out _ ?_).mono ?_; exact hz1; rintro e z2 ⟨rfl, f0, f1, hz2⟩))) | fail "region"
  all_goals
    have hfin := hb1.trans (hz2.mono hb1.size)
    go_wp2_with fail
    go_ret
    exact ⟨ret_bool (by simp [*]), hfin⟩

set_option maxHeartbeats 4000000 in
theorem codeInstr_twoM (V M : Int) (w : World) (bV : 0 ≤ V ∧ V ≤ 18446744073709551615) (bM : -9223372036854775808 ≤ M ∧ M ≤ 9223372036854775807) (hp : pt V = false) (hk : kd V = 2) (hm : 1 ≤ M) : Calls Try.prog 7 #[.int .u64 V, .int .i64 M] w fun e w' => e = .returned (.bool true) ∧ Below w.heap.size w w' := by
  have heq := eq_instr
  have hP := refParts_any V
  rw [hp] at hP
  have hI := instr_any V M w bV bM hp
  have HR : Hid (∀ w, Calls Try.prog 44 #[.int .u64 V, .int .i64 M] w fun e w' => e = .returned (.agg #[.int .i64 (kd V), .int .i64 (ag V M)]) ∧ Below w.heap.size w w') := fun w => refInstr_any V M w bV bM
  have hmx : mx M = M := by unfold mx; rw [if_pos hm]
  have hbd := ag_bd V M bV.1 hk
  rw [hmx] at hbd
  obtain ⟨hb1', hb2'⟩ := hbd
  rw [hk] at HR hI
  generalize ag V M = a at *
  go_enter Try.func7, Try.ntmps7
  go_wp2_with fail
  go_at_call 42; refine hI.mono ?_; clear hI; rintro e w1 ⟨rfl, h1⟩
  have hb1 := h1.alloc h1.size (.cells #[(.int .i64 2), .int .i64 a] 54)
  have hh := heap_alloc_new w1 (.cells #[(.int .i64 2), .int .i64 a] 54)
  have hq : w1.heap.size < (w1.alloc (.cells #[(.int .i64 2), .int .i64 a] 54)).heap.size := by simp
  go_wp2_with fail
  go_at_call 43; refine (hP _ bV).mono ?_; clear hP; rintro e w2 ⟨rfl, rfl⟩
  generalize hW : w1.alloc (.cells #[(.int .i64 2), .int .i64 a] 54) = W at hb1 hh hq ⊢
  generalize w1.heap.size = q at hh hq ⊢
  clear hW
  have hH : Hid (W.drew.cell? ⟨q, 0, none⟩ = some (.int .i64 2) ∧ W.drew.cell? ⟨q, 1, none⟩ = some (.int .i64 a) ∧ Below W.heap.size W W.drew) := by
    show _ ∧ _ ∧ _
    exact ⟨by show W.cell? _ = _; simp [World.cell?, hh], by show W.cell? _ = _; simp [World.cell?, hh], (Below.refl _ _).drew⟩
  have KEEP : Hid (∀ Y w' : World, (Y.cell? ⟨q, 0, none⟩ = some (.int .i64 2) ∧ Y.cell? ⟨q, 1, none⟩ = some (.int .i64 a) ∧ Below W.heap.size W Y) → Below Y.heap.size Y w' → (w'.cell? ⟨q, 0, none⟩ = some (.int .i64 2) ∧ w'.cell? ⟨q, 1, none⟩ = some (.int .i64 a) ∧ Below W.heap.size W w')) := by
    show ∀ _ _, _
    rintro Y w' ⟨e1, e2, hb⟩ hB
    have hs := hb.size
    exact ⟨(hB.cell (p := ⟨q, 0, none⟩) (by show q < _; omega)).trans e1, (hB.cell (p := ⟨q, 1, none⟩) (by show q < _; omega)).trans e2, hb.trans (hB.mono hs)⟩
  clear hh
  go_wp2_with fail
  (go_region_held3 (fun w' => w'.cell? ⟨q, 0, none⟩ = some (.int .i64 2) ∧ w'.cell? ⟨q, 1, none⟩ = some (.int .i64 a) ∧ Below W.heap.size W w') (first | exact hH | assumption | exact KEEP.out _ _ ‹_› ‹_›) (first | (go_at_call 34; refine (awakeC_any _).mono ?_; rintro e z1 ⟨rfl, hz1⟩) | (go_at_call 44; refine (HR.out _).mono ?_; rintro e z2 ⟨rfl, hz2⟩)))
  all_goals
    rename_i hS
    have hfin := hb1.trans (hS.2.2.mono hb1.size)
    go_wp2_with fail
    go_ret
    exact ⟨ret_bool (by simp [*]), hfin⟩

set_option maxHeartbeats 4000000 in
theorem codeInstr_two1 (V M : Int) (w : World) (bV : 0 ≤ V ∧ V ≤ 18446744073709551615) (bM : -9223372036854775808 ≤ M ∧ M ≤ 9223372036854775807) (hp : pt V = false) (hk : kd V = 2) (hm : M < 1) : Calls Try.prog 7 #[.int .u64 V, .int .i64 M] w fun e w' => e = .returned (.bool true) ∧ Below w.heap.size w w' := by
  have heq := eq_instr
  have hP := refParts_any V
  rw [hp] at hP
  have hI := instr_any V M w bV bM hp
  have HR : Hid (∀ w, Calls Try.prog 44 #[.int .u64 V, .int .i64 M] w fun e w' => e = .returned (.agg #[.int .i64 (kd V), .int .i64 (ag V M)]) ∧ Below w.heap.size w w') := fun w => refInstr_any V M w bV bM
  have hmx : mx M = 1 := by unfold mx; rw [if_neg (by omega)]
  have hbd := ag_bd V M bV.1 hk
  rw [hmx] at hbd
  obtain ⟨hb1', hb2'⟩ := hbd
  rw [hk] at HR hI
  generalize ag V M = a at *
  go_enter Try.func7, Try.ntmps7
  go_wp2_with fail
  go_at_call 42; refine hI.mono ?_; clear hI; rintro e w1 ⟨rfl, h1⟩
  have hb1 := h1.alloc h1.size (.cells #[(.int .i64 2), .int .i64 a] 54)
  have hh := heap_alloc_new w1 (.cells #[(.int .i64 2), .int .i64 a] 54)
  have hq : w1.heap.size < (w1.alloc (.cells #[(.int .i64 2), .int .i64 a] 54)).heap.size := by simp
  go_wp2_with fail
  go_at_call 43; refine (hP _ bV).mono ?_; clear hP; rintro e w2 ⟨rfl, rfl⟩
  generalize hW : w1.alloc (.cells #[(.int .i64 2), .int .i64 a] 54) = W at hb1 hh hq ⊢
  generalize w1.heap.size = q at hh hq ⊢
  clear hW
  have hH : Hid (W.drew.cell? ⟨q, 0, none⟩ = some (.int .i64 2) ∧ W.drew.cell? ⟨q, 1, none⟩ = some (.int .i64 a) ∧ Below W.heap.size W W.drew) := by
    show _ ∧ _ ∧ _
    exact ⟨by show W.cell? _ = _; simp [World.cell?, hh], by show W.cell? _ = _; simp [World.cell?, hh], (Below.refl _ _).drew⟩
  have KEEP : Hid (∀ Y w' : World, (Y.cell? ⟨q, 0, none⟩ = some (.int .i64 2) ∧ Y.cell? ⟨q, 1, none⟩ = some (.int .i64 a) ∧ Below W.heap.size W Y) → Below Y.heap.size Y w' → (w'.cell? ⟨q, 0, none⟩ = some (.int .i64 2) ∧ w'.cell? ⟨q, 1, none⟩ = some (.int .i64 a) ∧ Below W.heap.size W w')) := by
    show ∀ _ _, _
    rintro Y w' ⟨e1, e2, hb⟩ hB
    have hs := hb.size
    exact ⟨(hB.cell (p := ⟨q, 0, none⟩) (by show q < _; omega)).trans e1, (hB.cell (p := ⟨q, 1, none⟩) (by show q < _; omega)).trans e2, hb.trans (hB.mono hs)⟩
  clear hh
  go_wp2_with fail
  (go_region_held3 (fun w' => w'.cell? ⟨q, 0, none⟩ = some (.int .i64 2) ∧ w'.cell? ⟨q, 1, none⟩ = some (.int .i64 a) ∧ Below W.heap.size W w') (first | exact hH | assumption | exact KEEP.out _ _ ‹_› ‹_›) (first | (go_at_call 34; refine (awakeC_any _).mono ?_; rintro e z1 ⟨rfl, hz1⟩) | (go_at_call 44; refine (HR.out _).mono ?_; rintro e z2 ⟨rfl, hz2⟩)))
  all_goals
    rename_i hS
    have hfin := hb1.trans (hS.2.2.mono hb1.size)
    go_wp2_with fail
    go_ret
    exact ⟨ret_bool (by simp [*]), hfin⟩
theorem codeInstr_walk (V M : Int) (w : World) (bV : 0 ≤ V ∧ V ≤ 18446744073709551615) (bM : -9223372036854775808 ≤ M ∧ M ≤ 9223372036854775807) : Calls Try.prog 7 #[.int .u64 V, .int .i64 M] w fun e w' => e = .returned (.bool true) ∧ Below w.heap.size w w' := by
  by_cases hp : pt V = true
  · exact codeInstr_part V M w bV hp
  · have hp' : pt V = false := by simpa using hp
    by_cases hk : kd V = 2
    · by_cases hm : 1 ≤ M
      · exact codeInstr_twoM V M w bV bM hp' hk hm
      · exact codeInstr_two1 V M w bV bM hp' hk (by omega)
    · exact codeInstr_not V M w bV bM hp' hk
end Go.Proofs.Ytmkmpphfieckoaa
