/- The walk of the law DiceNumbers. -/
import Derived.Test.YteibdjbipfimeaaD2
namespace Go.Proofs.Yteibdjbipfimeaa
open Go Go.RowKit
set_option linter.unusedVariables false
set_option linter.unusedSimpArgs false

theorem st_st (s k : Nat) : st (st s k) 1 = st s (k + 1) := by unfold st; omega
theorem num_st (s k : Nat) : num (st s k) 1 = num s (k + 1) := by unfold num; rw [st_st]

/-- A slice of n integers, seen in memory below block B. -/
def SeesI (w : World) (B : Nat) (A : Option Addr) (n : Nat) (f : Nat → Int) : Prop :=
  0 < n → ∃ b off : Nat, A = some ⟨b, off, none⟩ ∧ b < B ∧ ∀ i, i < n → w.cell? ⟨b, off + i, none⟩ = some (.int .i64 (f i))

/-- Two dice and the document's, all behind k numbers. -/
structure Nums (w0 wr : World) (a b r s k : Nat) : Prop where
  da : Dc wr a (st s k)
  db : Dc wr b (st s k)
  dr : Rd wr r s k
  lo : w0.heap.size ≤ a ∧ w0.heap.size ≤ b ∧ w0.heap.size ≤ r
  ab : a ≠ b ∧ a ≠ r ∧ b ≠ r
  bel : Below w0.heap.size w0 wr

theorem nums_step {w w3 w4 w5 : World} {a b r s T : Nat} (HX : Dc w3 a (st s T) ∧ Dc w3 b (st s T) ∧ Rd w3 r s (T + 1) ∧ Below w.heap.size w w3) (hlo : w.heap.size ≤ a ∧ w.heap.size ≤ b ∧ w.heap.size ≤ r) (hab : a ≠ b ∧ a ≠ r ∧ b ≠ r)
    (h4 : Dc w4 a (st (st s T) 1)) (k4 : But [a] w3 w4) (h5 : Dc w5 b (st (st s T) 1)) (k5 : But [b] w4 w5) : Nums w w5 a b r s (T + 1) := by
  rw [st_st] at h4 h5
  exact ⟨h4.but k5 (by simp; omega), h5, (HX.2.2.1.but k4 (by simp; omega)).but k5 (by simp; omega), hlo, hab,
    (HX.2.2.2.trans (k4.below (by simp; omega) HX.2.2.2.size)).trans (k5.below (by simp; omega) (Nat.le_trans HX.2.2.2.size k4.size))⟩
theorem numbers_many (s : Nat) (A : Option Addr) (n cap : Nat) (w : World) (hn : n ≤ 9223372036854775807) (h : 100 < n) :
    Calls Try.prog 3 #[.int .u64 (s : Int), .slice A n cap] w fun e w' => e = .returned (.bool true) ∧ Below w.heap.size w w' := by
  go_enter Try.func3, Try.ntmps3
  go_wp2_with fail
  go_at_call 6; refine (awake_any _).mono ?_; rintro e w1 ⟨rfl, hb1⟩
  go_wp2_with fail
  go_ret
  exact ⟨rfl, hb1⟩

theorem nums_start (w w1 w2 : World) (s : Nat) (hs : s < 18446744073709551616) (hD1 : Dc w1 w.heap.size s) (hb1 : Below w.heap.size w w1) (hz1 : w1.heap.size = w.heap.size + 1)
    (hD2 : Dc w2 w1.heap.size s) (hb2 : Below w1.heap.size w1 w2) (hz2 : w2.heap.size = w1.heap.size + 1) :
    Nums w (w2.alloc (.cells #[.int .u64 (s : Int), .int .i64 0] 28)) w.heap.size w1.heap.size w2.heap.size s 0 := by
  have hB := (Below.refl w2.heap.size w2).alloc (Nat.le_refl _) (.cells #[.int .u64 (s : Int), .int .i64 0] 28)
  refine ⟨?_, ?_, heap_alloc_new _ _, ⟨by omega, by omega, by omega⟩, ⟨by omega, by omega, by omega⟩, ?_⟩
  · rw [st_zero s hs]; exact (hD1.below hb2 (by omega)).below hB (by omega)
  · rw [st_zero s hs]; exact hD2.below hB (by omega)
  · exact (hb1.trans (hb2.mono (by omega))).trans (hB.mono (by omega))

set_option maxHeartbeats 2000000 in
set_option maxRecDepth 100000 in
theorem numbers_few (s : Nat) (hs : s < 18446744073709551616) (A : Option Addr) (n cap : Nat) (f : Nat → Int) (w : World) (hn : n ≤ 100) (hI : SeesI w w.heap.size A n f) (hf : ∀ i, i < n → f i ≤ 9223372036854775807) :
    Calls Try.prog 3 #[.int .u64 (s : Int), .slice A n cap] w fun e w' => e = .returned (.bool true) ∧ Below w.heap.size w w' := by
  have HI : Hid (SeesI w w.heap.size A n f) := hI
  have HF : Hid (∀ i, i < n → f i ≤ 9223372036854775807) := hf
  clear hI hf
  go_enter Try.func3, Try.ntmps3
  go_wp2_with fail
  go_at_call 7; refine (new_any _ s).mono ?_; rintro e w1 ⟨rfl, hD1, hb1, hz1⟩
  go_wp2_with fail
  go_at_call 7; refine (new_any _ s).mono ?_; rintro e w2 ⟨rfl, hD2, hb2, hz2⟩
  have hN := nums_start w w1 w2 s hs hD1 hb1 hz1 hD2 hb2 hz2
  have HS : Hid (s < 18446744073709551616) := hs
  clear hD1 hb1 hz1 hD2 hb2 hz2 hs
  go_wp2_with fail
  generalize hX : w2.alloc (.cells #[.int .u64 (s : Int), .int .i64 0] 28) = X at hN ⊢
  clear hX
  generalize ha : w.heap.size = a at hN ⊢
  generalize hb : w1.heap.size = b at hN ⊢
  generalize hr : w2.heap.size = r at hN ⊢
  clear ha hb hr
  go_loopw [8] (fun i wr => ∃ k T : Nat, k ≤ n ∧ T ≤ k ∧ i = .int .i64 k ∧ Nums w wr a b r s T) (fun i _ => n - (intOf i).toNat)
  case atStart => exact ⟨0, 0, Nat.zero_le _, Nat.le_refl _, rfl, hN⟩
  case round =>
    obtain ⟨k, T, hk, hT, rfl, hB⟩ := hrel
    clear hN
    have hab := hB.ab
    by_cases hlt : k < n
    · obtain ⟨bb, off, rfl, hbB, hcell⟩ := HI.out (by omega)
      have e0 : wr.cell? ⟨bb, off + k, none⟩ = some (.int .i64 (f k)) := (hB.bel.cell (p := ⟨bb, off + k, none⟩) hbB).trans (hcell k hlt)
      have hfk := HF.out k hlt
      have hlo := hB.lo
      have r1 := hB.dr.c1
      have hst := st_lt s T
      clear hcell
      by_cases hlow : f k < 1
      · generalize f k = x at e0 hfk hlow
        go_wp2_with fail
        go_at_call 8; refine (refBelow_low _ _ x hlow).mono ?_; rintro e w3 ⟨rfl, rfl⟩
        go_wp2_with fail
        go_quiet ((go_at_call 9; exact Calls.quiet_of_same ((below_low _ _ x hlow).mono (fun e w' ⟨h1, h2⟩ => ⟨h1, h2.symm⟩))))
        have hB2 : Nums w (wr.drewN nq) a b r s T := ⟨hB.da, hB.db, hB.dr, hB.lo, hB.ab, ⟨hB.bel.os, hB.bel.tape, hB.bel.output, hB.bel.size, hB.bel.block⟩⟩
        go_wp2_with fail
        go_roundw
        case rel => exact ⟨k + 1, T, by omega, by omega, by go_num, hB2⟩
        case measure => simp [intOf]; omega
      · obtain ⟨m, hm⟩ : ∃ m : Nat, f k = (m : Int) := ⟨(f k).toNat, by omega⟩
        have hm1 : 1 ≤ m := by omega
        have hm2 : m ≤ 9223372036854775807 := by omega
        rw [hm] at e0
        clear hm hlow hfk
        have HP : Hid (st s T < 18446744073709551616) := hst
        have HH : Hid (Nums w wr a b r s T) := hB
        clear hB hst
        go_wp2_with fail
        go_at_call 8; refine (refBelow_any _ r s T m HS.out (by omega) HH.out.dr hm1 hm2).mono ?_; rintro e w3 ⟨rfl, hR3, hB3⟩
        have HX : Hid (Dc w3.drew a (st s T) ∧ Dc w3.drew b (st s T) ∧ Rd w3.drew r s (T + 1) ∧ Below w.heap.size w w3.drew) :=
          ⟨HH.out.da.but hB3.drew (by simp; omega), HH.out.db.but hB3.drew (by simp; omega), hR3, HH.out.bel.trans (hB3.drew.below (by simp; omega) HH.out.bel.size)⟩
        have e3 : w3.cell? ⟨bb, off + k, none⟩ = some (.int .i64 (m : Int)) :=
          (World.cell?_of_block (a := ⟨bb, off + k, none⟩) (hB3.block bb (Nat.lt_of_lt_of_le hbB HH.out.bel.size) (by simp; omega))).trans e0
        have r3 : w3.cell? ⟨r, 1, none⟩ = some (.int .i64 ((T : Int) + 1)) := hR3.c1
        clear e0 r1 hR3 hB3
        have hgt : decide ((T : Int) < (T : Int) + 1) = true := by simp; omega
        have HN : Hid (∀ w : World, Calls Try.prog 11 #[.int .u64 (s : Int), .int .i64 ((T : Int) + 1)] w fun e w' => e = .returned (.int .u64 ((num s (T + 1) : Nat) : Int)) ∧ w = w') := by
          intro w; have e := number_any w s (T + 1) HS.out (by omega); rw [show ((T + 1 : Nat) : Int) = (T : Int) + 1 by omega] at e; exact e
        go_wp2_with fail
        (go_region_with (first | (go_at_call 9; refine (below_any _ a (st s T) m HP.out HX.out.1 hm1 hm2).mono ?_; rintro e w4 ⟨rfl, hD4, hB4⟩; rw [num_st]; have HD4 := HX.out.2.1.but hB4 (by simp; omega); have r4 : w4.cell? ⟨r, 1, none⟩ = some (.int .i64 ((T : Int) + 1)) := (HX.out.2.2.1.but hB4 (by simp; omega)).c1; have HB4 : Hid (But [a] w3.drew w4) := hB4; have HE4 : Hid (Dc w4 a (st (st s T) 1)) := hD4; clear hD4 hB4) | (go_at_call 10; refine (next_any _ b (st s T) HP.out HD4).mono ?_; rintro e w5 ⟨rfl, hD5, hB5⟩; rw [num_st]; have r5 : w5.cell? ⟨r, 1, none⟩ = some (.int .i64 ((T : Int) + 1)) := ((HX.out.2.2.1.but HB4.out (by simp; omega)).but hB5 (by simp; omega)).c1) | (go_at_call 11; refine (HN.out _).mono ?_; rintro e w6 ⟨rfl, rfl⟩)))
        all_goals
          have hE := nums_step HX.out hlo hab HE4.out HB4.out hD5 hB5
          clear r3 r4 r5 e3 HD4 HE4 HB4 hD5 hB5 HX HN HP HH
          go_wp2_with fail
          go_roundw
          case rel => exact ⟨k + 1, T + 1, by omega, by omega, by go_num, hE⟩
          case measure => simp [intOf]; omega
    · obtain rfl : k = n := by omega
      have hbb := hB.bel
      go_wp2_with fail
      go_at_call 6; refine (awake_any _).mono ?_; rintro e w7 ⟨rfl, hb7⟩
      go_wp2_with fail
      go_ret
      exact ⟨rfl, hbb.trans (hb7.mono hbb.size)⟩
end Go.Proofs.Yteibdjbipfimeaa
