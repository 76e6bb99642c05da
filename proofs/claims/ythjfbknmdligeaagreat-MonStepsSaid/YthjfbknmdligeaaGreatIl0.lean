/- Bits of a word; the scheduler's words; places of threads and processors. -/
import Derived.Test.YthjfbknmdligeaaGreatGwEq
import Derived.Test.YthjfbknmdligeaaGreatRg0
import Derived.Laws.BitsAllLaws
namespace Go.Proofs.YthjfbknmdligeaaGreat
open Go Go.RowKit
set_option linter.unusedVariables false
set_option maxRecDepth 100000
set_option linter.unusedSimpArgs false

theorem il_and_bit (w i : Nat) (h : ¬ w / 2 ^ i % 2 = 1) : w &&& 2 ^ i = 0 := by
  apply Nat.eq_of_testBit_eq
  intro j
  rw [Nat.testBit_and, Nat.testBit_two_pow, Nat.zero_testBit]
  by_cases e : i = j
  · subst e
    have : w.testBit i = false := by rw [Nat.testBit_eq_decide_div_mod_eq]; exact decide_eq_false h
    simp [this]
  · simp [e]
theorem il_or_out (w i : Nat) (hi : i < 64) (hw : w < 18446744073709551616) (h : ¬ w / 2 ^ i % 2 = 1) : w ||| 2 ^ i = w + 2 ^ i := by
  have hp : 2 ^ i ≤ 2 ^ 63 := Nat.pow_le_pow_right (by omega) (by omega)
  have e := congrArg BitVec.toNat (BitVec.add_eq_or_of_and_eq_zero (BitVec.ofNat 65 w) (BitVec.ofNat 65 (2 ^ i)) (by
    apply BitVec.eq_of_toNat_eq
    rw [BitVec.toNat_and, BitVec.toNat_ofNat, BitVec.toNat_ofNat, Nat.mod_eq_of_lt (by omega), Nat.mod_eq_of_lt (by omega), il_and_bit w i h]
    rfl))
  rw [BitVec.toNat_add, BitVec.toNat_or, BitVec.toNat_ofNat, BitVec.toNat_ofNat, Nat.mod_eq_of_lt (a := w) (by omega), Nat.mod_eq_of_lt (a := 2 ^ i) (by omega), Nat.mod_eq_of_lt (by omega)] at e
  exact e.symm
theorem il_or_in (w i : Nat) (h : w / 2 ^ i % 2 = 1) : w ||| 2 ^ i = w := by
  apply Nat.eq_of_testBit_eq
  intro j
  rw [Nat.testBit_or, Nat.testBit_two_pow]
  by_cases e : i = j
  · subst e
    have : w.testBit i = true := by rw [Nat.testBit_eq_decide_div_mod_eq]; exact decide_eq_true h
    simp [this]
  · simp [e]
theorem il_not_bit (i j : Nat) (hi : i < 64) : (18446744073709551615 - 2 ^ i).testBit j = (decide (j < 64) && !decide (i = j)) := by
  have hp : 2 ^ i < 2 ^ 64 := Nat.pow_lt_pow_right (by omega) hi
  rw [show 18446744073709551615 - 2 ^ i = 2 ^ 64 - (2 ^ i + 1) by omega, Nat.testBit_two_pow_sub_succ hp, Nat.testBit_two_pow]
theorem il_an_out (w i : Nat) (hi : i < 64) (hw : w < 18446744073709551616) (h : ¬ w / 2 ^ i % 2 = 1) : w &&& (18446744073709551615 - 2 ^ i) = w := by
  apply Nat.eq_of_testBit_eq
  intro j
  rw [Nat.testBit_and, il_not_bit i j hi]
  by_cases hj : j < 64
  · by_cases e : i = j
    · subst e
      have : w.testBit i = false := by rw [Nat.testBit_eq_decide_div_mod_eq]; exact decide_eq_false h
      simp [this]
    · simp [e, hj]
  · have : w.testBit j = false := Nat.testBit_lt_two_pow (Nat.lt_of_lt_of_le hw (show (2 : Nat) ^ 64 ≤ 2 ^ j from Nat.pow_le_pow_right (by omega) (by omega)))
    simp [this]
theorem il_an_in (w i : Nat) (hi : i < 64) (hw : w < 18446744073709551616) (h : w / 2 ^ i % 2 = 1) : w &&& (18446744073709551615 - 2 ^ i) = w - 2 ^ i := by
  have hz : w &&& (18446744073709551615 - 2 ^ i) ≤ w := Nat.and_le_left
  have h0 : ¬ (w &&& (18446744073709551615 - 2 ^ i)) / 2 ^ i % 2 = 1 := by
    have : (w &&& (18446744073709551615 - 2 ^ i)).testBit i = false := by rw [Nat.testBit_and, il_not_bit i i hi]; simp
    rw [Nat.testBit_eq_decide_div_mod_eq] at this
    exact of_decide_eq_false this
  have h1 := il_or_out _ i hi (Nat.lt_of_le_of_lt hz hw) h0
  have h2 : (w &&& (18446744073709551615 - 2 ^ i)) ||| 2 ^ i = w := by
    apply Nat.eq_of_testBit_eq
    intro j
    rw [Nat.testBit_or, Nat.testBit_and, il_not_bit i j hi, Nat.testBit_two_pow]
    by_cases e : i = j
    · subst e
      have : w.testBit i = true := by rw [Nat.testBit_eq_decide_div_mod_eq]; exact decide_eq_true h
      simp [this]
    · by_cases hj : j < 64
      · simp [e, hj]
      · have : w.testBit j = false := Nat.testBit_lt_two_pow (Nat.lt_of_lt_of_le hw (show (2 : Nat) ^ 64 ≤ 2 ^ j from Nat.pow_le_pow_right (by omega) (by omega)))
        simp [e, this]
  omega

/-- A processor's bit. -/
def bitOf (p : Int) : Int := if 0 ≤ p ∧ p < 64 then ((2 ^ p.toNat : Nat) : Int) else 0
/-- Has a word it? -/
def mskB (w p : Int) : Bool := decide (bitOf p ≠ 0) && decide (w / bitOf p % 2 = 1)
def mskIn (w p : Int) : Int := if mskB w p then w else w + bitOf p
def mskOut (w p : Int) : Int := if mskB w p then w - bitOf p else w
theorem bitOf_bd (p : Int) : 0 ≤ bitOf p ∧ bitOf p ≤ 9223372036854775808 := by
  unfold bitOf
  split
  · have h1 : 2 ^ p.toNat ≤ 2 ^ 63 := Nat.pow_le_pow_right (by omega) (by omega)
    generalize 2 ^ p.toNat = z at *
    omega
  · omega
theorem mskB_nat (w i : Nat) (hi : i < 64) : mskB w (i : Int) = decide (w / 2 ^ i % 2 = 1) := by
  have hp : 0 < 2 ^ i := Nat.two_pow_pos i
  have e : bitOf (i : Int) = ((2 ^ i : Nat) : Int) := by unfold bitOf; rw [if_pos (by omega)]; rfl
  unfold mskB
  rw [e]
  have h1 : decide (((2 ^ i : Nat) : Int) ≠ 0) = true := decide_eq_true (by omega)
  rw [h1, Bool.true_and]
  apply Bool.eq_iff_iff.2
  rw [decide_eq_true_iff, decide_eq_true_iff]
  rw [← Int.natCast_ediv]
  omega
theorem mskB_far {w p : Int} (h : ¬ (0 ≤ p ∧ p < 64)) : mskB w p = false := by
  unfold mskB bitOf
  rw [if_neg h]
  rfl
theorem or_bit (w p : Int) (hw : 0 ≤ w ∧ w ≤ 18446744073709551615) : bits .or .u64 w (bitOf p) = mskIn w p ∧ 0 ≤ mskIn w p ∧ mskIn w p ≤ 18446744073709551615 := by
  obtain ⟨W, rfl⟩ := Int.eq_ofNat_of_zero_le hw.1
  by_cases h : 0 ≤ p ∧ p < 64
  · obtain ⟨i, rfl⟩ := Int.eq_ofNat_of_zero_le h.1
    have hi : i < 64 := by omega
    have hp : 2 ^ i ≤ 2 ^ 63 := Nat.pow_le_pow_right (by omega) (by omega)
    have hlt : W ||| 2 ^ i < 2 ^ 64 := Nat.or_lt_two_pow (by omega) (by omega)
    have e : bitOf (i : Int) = ((2 ^ i : Nat) : Int) := by unfold bitOf; rw [if_pos h]; rfl
    unfold mskIn
    rw [mskB_nat W i hi, e, u64_or_nat W (2 ^ i) (by omega) (by omega)]
    by_cases hb : W / 2 ^ i % 2 = 1
    · rw [decide_eq_true hb, if_pos rfl, il_or_in W i hb]
      exact ⟨rfl, hw⟩
    · rw [decide_eq_false hb, if_neg (by simp)]
      have h3 := il_or_out W i hi (by omega) hb
      rw [h3]
      rw [h3] at hlt
      clear e h3 hb hp
      generalize 2 ^ i = z at *
      omega
  · have e : bitOf p = ((0 : Nat) : Int) := by unfold bitOf; rw [if_neg h]; rfl
    unfold mskIn
    rw [mskB_far h, e, u64_or_nat W 0 (by omega) (by omega)]
    simp
    omega
theorem an_bit (w p : Int) (hw : 0 ≤ w ∧ w ≤ 18446744073709551615) : bits .andNot .u64 w (bitOf p) = mskOut w p ∧ 0 ≤ mskOut w p ∧ mskOut w p ≤ 18446744073709551615 := by
  obtain ⟨W, rfl⟩ := Int.eq_ofNat_of_zero_le hw.1
  by_cases h : 0 ≤ p ∧ p < 64
  · obtain ⟨i, rfl⟩ := Int.eq_ofNat_of_zero_le h.1
    have hi : i < 64 := by omega
    have hp : 2 ^ i ≤ 2 ^ 63 := Nat.pow_le_pow_right (by omega) (by omega)
    have e : bitOf (i : Int) = ((2 ^ i : Nat) : Int) := by unfold bitOf; rw [if_pos h]; rfl
    unfold mskOut
    rw [mskB_nat W i hi, e, u64_andNot_nat W (2 ^ i) (by omega) (by omega)]
    by_cases hb : W / 2 ^ i % 2 = 1
    · rw [decide_eq_true hb, if_pos rfl, il_an_in W i hi (by omega) hb]
      have hge : 2 ^ i ≤ W := by
        apply Decidable.byContradiction
        intro hlt
        rw [Nat.div_eq_of_lt (by omega)] at hb
        omega
      clear e hb hp
      generalize 2 ^ i = z at *
      omega
    · rw [decide_eq_false hb, if_neg (by simp), il_an_out W i hi (by omega) hb]
      exact ⟨rfl, hw⟩
  · have e : bitOf p = ((0 : Nat) : Int) := by unfold bitOf; rw [if_neg h]; rfl
    unfold mskOut
    rw [mskB_far h, e, u64_andNot_nat W 0 (by omega) (by omega)]
    have : W &&& (18446744073709551615 - 0) = W := by
      have := Nat.and_two_pow_sub_one_eq_mod W 64
      rw [show 18446744073709551615 - 0 = 2 ^ 64 - 1 by omega, this]
      omega
    rw [this]
    simp
    omega
theorem and_bit (w p : Int) (hw : 0 ≤ w ∧ w ≤ 18446744073709551615) : decide (bits .and .u64 w (bitOf p) ≠ 0) = mskB w p := by
  obtain ⟨W, rfl⟩ := Int.eq_ofNat_of_zero_le hw.1
  by_cases h : 0 ≤ p ∧ p < 64
  · obtain ⟨i, rfl⟩ := Int.eq_ofNat_of_zero_le h.1
    have hi : i < 64 := by omega
    have hp : 2 ^ i ≤ 2 ^ 63 := Nat.pow_le_pow_right (by omega) (by omega)
    have hp0 : 0 < 2 ^ i := Nat.two_pow_pos i
    have e : bitOf (i : Int) = ((2 ^ i : Nat) : Int) := by unfold bitOf; rw [if_pos h]; rfl
    rw [mskB_nat W i hi, e, u64_and_nat W (2 ^ i) (by omega) (by omega)]
    by_cases hb : W / 2 ^ i % 2 = 1
    · rw [decide_eq_true hb, Go.nat_bit, hb]
      exact decide_eq_true (by omega)
    · rw [decide_eq_false hb, il_and_bit W i hb]
      rfl
  · have e : bitOf p = ((0 : Nat) : Int) := by unfold bitOf; rw [if_neg h]; rfl
    rw [mskB_far h, e, u64_and_nat W 0 (by omega) (by omega)]
    simp

theorem il_word (w : World) (c : Nat) (i : Int) (h : 6 ≤ i ∧ i ≤ 19) : Calls Tryz.prog 84 #[.pointer (some ⟨c, 0, none⟩), .int .i64 i] w fun e w' => e = .returned (.int .i64 i) ∧ w = w' := by
  have d1 : decide (i < 6) = false := decide_eq_false (by omega)
  have d2 : decide (19 < i) = false := decide_eq_false (by omega)
  clear h
  go_enter Tryz.func84, Tryz.ntmps84
  go_wp2_with fail
  go_ret
  exact ⟨rfl, rfl⟩
theorem lthr_any (o : Option Addr) (P T G n f : Int) (w : World) (h : LayO w P T G o) (hp : 0 ≤ P ∧ P ≤ 64) (hT : 0 ≤ T ∧ T ≤ 65536) : Calls Tryz.prog 30 #[.pointer o, .int .i64 n, .int .i64 f] w fun e w' => e = .returned (.int .i64 (wd (20 + P * 264) T 3 n f)) ∧ Below w.heap.size w w' := by
  have hs := threads_any o P T G w h hp
  clear h
  go_enter Tryz.func30, Tryz.ntmps30
  go_wp2_with fail
  go_at_call 58; refine hs.mono ?_; rintro e w1 ⟨rfl, h1⟩
  clear hs
  go_wp2_with fail
  go_at_call 59; refine (word_any _ T 3 n f _ (by omega) (by omega) (by omega)).mono ?_; rintro e w2 ⟨rfl, h2⟩
  have hb := seq h1 h2
  go_wp2_with fail
  go_ret
  exact ⟨rfl, hb⟩
theorem rprcAt_all (P T G p f : Int) (w : World) (hP : P ≤ 64) (hf : 0 ≤ f ∧ f < 8) :
    Calls Tryz.prog 86 #[.agg #[.int .i64 P, .int .i64 T, .int .i64 G], .int .i64 p, .int .i64 f] w fun e w' => e = .returned (.int .i64 (wd 20 P 264 p f)) ∧ Below w.heap.size w w' := by
  by_cases h : 0 ≤ p ∧ p < P
  · exact rprcAt_any P T G p f w h hP hf
  · have hb : Below w.heap.size w (w.alloc (.cells #[.int .i64 P, .int .i64 T, .int .i64 G] 23)) := (Below.refl _ _).alloc (Nat.le_refl _) _
    have e : wd 20 P 264 p f = -1 := by unfold wd; rw [if_neg (fun hh => h ⟨hh.1, hh.2.1⟩)]
    rw [e]
    by_cases h0 : p < 0
    · clear h e
      go_enter Tryz.func86, Tryz.ntmps86
      go_wp2_with fail
      go_ret
      exact ⟨rfl, hb⟩
    · have d1 : decide (p < 0) = false := decide_eq_false h0
      have h1 : P ≤ p := by omega
      clear h e
      go_enter Tryz.func86, Tryz.ntmps86
      go_wp2_with fail
      go_ret
      exact ⟨rfl, hb⟩
theorem rthr_any (P T G t f : Int) (w : World) (hp : 0 ≤ P ∧ P ≤ 64) (ht : 0 ≤ t ∧ t ≤ 65536) (hf : 0 ≤ f ∧ f < 3) : Calls Tryz.prog 116 #[.agg #[.int .i64 P, .int .i64 T, .int .i64 G], .int .i64 t, .int .i64 f] w fun e w' => e = .returned (.int .i64 (20 + 264 * P + 3 * t + f)) ∧ Below w.heap.size w w' := by
  have hb : Below w.heap.size w (w.alloc (.cells #[.int .i64 P, .int .i64 T, .int .i64 G] 23)) := (Below.refl _ _).alloc (Nat.le_refl _) _
  go_enter Tryz.func116, Tryz.ntmps116
  go_wp2_with fail
  go_ret
  exact ⟨ret_int (by first | rfl | omega | (unfold wrap64; omega)), hb⟩
theorem rthrAt_all (P T G t f : Int) (w : World) (hp : 0 ≤ P ∧ P ≤ 64) (hT : T ≤ 65536) (hf : 0 ≤ f ∧ f < 3) :
    Calls Tryz.prog 103 #[.agg #[.int .i64 P, .int .i64 T, .int .i64 G], .int .i64 t, .int .i64 f] w fun e w' => e = .returned (.int .i64 (wd (20 + P * 264) T 3 t f)) ∧ Below w.heap.size w w' := by
  have hb : Below w.heap.size w (w.alloc (.cells #[.int .i64 P, .int .i64 T, .int .i64 G] 23)) := (Below.refl _ _).alloc (Nat.le_refl _) _
  by_cases hg : 0 ≤ t ∧ t < T
  · have e : 20 + 264 * P + 3 * t + f = wd (20 + P * 264) T 3 t f := by unfold wd; rw [if_pos ⟨hg.1, hg.2, by omega, by omega⟩]; omega
    have hT := rthr_any P T G t f (w.alloc (.cells #[.int .i64 P, .int .i64 T, .int .i64 G] 23)) hp (by omega) hf
    rw [e] at hT
    generalize wd (20 + P * 264) T 3 t f = nt at *
    clear e
    have hX : Hid (Blk (w.alloc (.cells #[.int .i64 P, .int .i64 T, .int .i64 G] 23)) w.heap.size #[.int .i64 P, .int .i64 T, .int .i64 G] 23) := Blk.new _ _ _
    have HB : Hid (Below w.heap.size w (w.alloc (.cells #[.int .i64 P, .int .i64 T, .int .i64 G] 23))) := hb
    have hsz := World.size_alloc w (.cells #[.int .i64 P, .int .i64 T, .int .i64 G] 23)
    have d1 : decide (t < 0) = false := decide_eq_false (by omega)
    have d2 : decide (T ≤ t) = false := decide_eq_false (by omega)
    clear hb
    go_enter Tryz.func103, Tryz.ntmps103
    go_wp2_with fail
    go_at_call 116; refine hT.mono ?_; rintro e w1 ⟨rfl, h1⟩
    have h2 := HB.out.trans (h1.mono HB.out.size)
    clear hT h1
    go_wp2_with fail
    go_ret
    exact ⟨rfl, h2⟩
  · have e : wd (20 + P * 264) T 3 t f = -1 := by unfold wd; rw [if_neg (fun h => hg ⟨h.1, h.2.1⟩)]
    rw [e]
    by_cases h0 : t < 0
    · clear hg e
      go_enter Tryz.func103, Tryz.ntmps103
      go_wp2_with fail
      go_ret
      exact ⟨rfl, hb⟩
    · have d1 : decide (t < 0) = false := decide_eq_false h0
      have h1 : T ≤ t := by omega
      clear hg e
      go_enter Tryz.func103, Tryz.ntmps103
      go_wp2_with fail
      go_ret
      exact ⟨rfl, hb⟩
/-- A processor or a thread as a word. -/
def ilw (p : Int) : Int := IntKind.u64.wrap (IntKind.u64.wrap p + 1)
theorem ilw_bd (g : Int) : 0 ≤ ilw g ∧ ilw g ≤ 18446744073709551615 := by
  unfold ilw
  generalize IntKind.u64.wrap g + 1 = z
  simp [IntKind.wrap, IntKind.bits, IntKind.signed]
  omega
theorem ilw_small (g : Int) (h : 0 ≤ g ∧ g ≤ 1000000) : ilw g = g + 1 := by
  unfold ilw
  simp [IntKind.wrap, IntKind.bits, IntKind.signed]
  omega
end Go.Proofs.YthjfbknmdligeaaGreat
