/- The contracts of the cursor's methods, walked. -/
import Derived.Test.YtlpfleefbngdaaaDraw
namespace Go.Proofs.Ytlpfleefbngdaaa
open Go Go.RowKit
set_option linter.unusedVariables false
set_option linter.unusedSimpArgs false

theorem next_nil (w : World) : Calls Try.prog 12 #[.pointer none] w fun e w' => e = .returned (.int .u64 0) ∧ w = w' := by
  go_enter Try.func12, Try.ntmps12
  go_wp2_with fail
  go_ret
  exact ⟨rfl, rfl⟩

/-- What 'at' answers of a cursor's list. -/
theorem at_curs (w : World) (c : Nat) (f : Nat → Int) (n T : Nat) (A : Option Addr) (cap i : Nat) (hn : n ≤ 1000000)
    (h3 : 0 < n - T → ∃ b off : Nat, A = some ⟨b, off, none⟩ ∧ b < c ∧ ∀ i, i < n - T → w.cell? ⟨b, off + i, none⟩ = some (.int .u64 (f (T + i)))) :
    Calls Try.prog 18 #[.slice A (n - T) cap, .int .i64 i] w fun e w' => e = .returned (.int .u64 (wordAt f n (T + i))) ∧ w = w' := by
  by_cases hi : T + i < n
  · have h1 : 0 < n - T := by omega
    have h2 : i < n - T := by omega
    have h4 : n - T ≤ 9223372036854775807 := by omega
    have e : wordAt f n (T + i) = f (T + i) := by unfold wordAt; rw [if_pos hi]
    obtain ⟨b, off, rfl, _, hc⟩ := h3 h1
    rw [e]
    exact at_in b off (n - T) cap i (f (T + i)) w h4 h2 (hc i h2)
  · have e : wordAt f n (T + i) = 0 := by unfold wordAt; rw [if_neg hi]
    rw [e]
    exact at_out A (n - T) cap i w (by omega) (by omega)

theorem next_any (w : World) (B c : Nat) (f : Nat → Int) (n T : Nat) (h : Curs w B c f n T) (hT : T ≤ 900000) (hn : n ≤ 1000000) :
    Calls Try.prog 12 #[.pointer (some ⟨c, 0, none⟩)] w fun e w' => e = .returned (.int .u64 (wordAt f n T)) ∧ Curs w' B c f n (T + 1) ∧ But c w w' := by
  have hC : Hid (Curs w B c f n T) := h
  obtain ⟨A, cap, hh, h1, h2, h3⟩ := h
  have c0 : w.cell? ⟨c, 0, none⟩ = some (.slice A (n - T) cap) := by simp [World.cell?, hh]
  have hat : Hid (Calls Try.prog 18 #[.slice A (n - T) cap, .int .i64 (0 : Nat)] w fun e w' => e = .returned (.int .u64 (wordAt f n (T + 0))) ∧ w = w') :=
    at_curs w c f n T A cap 0 hn fun h => by obtain ⟨b, off, e, _, hb, hc⟩ := h3 h; exact ⟨b, off, e, hb, hc⟩
  clear h3 hh
  go_enter Try.func12, Try.ntmps12
  go_wp2_with fail
  go_at_call 18; refine hat.out.mono ?_; rintro e w1 ⟨rfl, rfl⟩
  go_wp2_with fail
  go_at_call 19; refine (pass_any w B c f n T 1 hC.out (by omega) (by omega) hn).mono ?_; rintro e w2 ⟨rfl, hC2, hb2⟩
  go_wp2_with fail
  go_ret
  exact ⟨rfl, hC2, hb2⟩

theorem below_low (p : Value) (N : Int) (w : World) (h : N < 1) : Calls Try.prog 13 #[p, .int .i64 N] w fun e w' => e = .returned (.int .i64 0) ∧ w = w' := by
  go_enter Try.func13, Try.ntmps13
  go_wp2_with fail
  go_ret
  exact ⟨rfl, rfl⟩

theorem wordAt_bd (f : Nat → Int) (n T : Nat) (hf : ∀ i, i < n → 0 ≤ f i ∧ f i ≤ 18446744073709551615) : 0 ≤ wordAt f n T ∧ wordAt f n T ≤ 18446744073709551615 := by
  unfold wordAt
  split
  · exact hf _ ‹_›
  · omega
theorem rem_bd (x N : Int) (h1 : 1 ≤ N) : 0 ≤ x % N ∧ x % N < N := ⟨Int.emod_nonneg _ (by omega), Int.emod_lt_of_pos _ (by omega)⟩

theorem below_any (w : World) (B c : Nat) (f : Nat → Int) (n T : Nat) (N : Int) (h : Curs w B c f n T) (hT : T ≤ 900000) (hn : n ≤ 1000000) (hf : ∀ i, i < n → 0 ≤ f i ∧ f i ≤ 18446744073709551615) (h1 : 1 ≤ N) (h2 : N ≤ 9223372036854775807) :
    Calls Try.prog 13 #[.pointer (some ⟨c, 0, none⟩), .int .i64 N] w fun e w' => e = .returned (.int .i64 (wordAt f n T % N)) ∧ Curs w' B c f n (T + 1) ∧ But c w w' := by
  have hw := wordAt_bd f n T hf
  have hr := rem_bd (wordAt f n T) N h1
  have hN : Hid (Calls Try.prog 12 #[.pointer (some ⟨c, 0, none⟩)] w fun e w' => e = .returned (.int .u64 (wordAt f n T)) ∧ Curs w' B c f n (T + 1) ∧ But c w w') := next_any w B c f n T h hT hn
  clear hf h
  generalize wordAt f n T = x at hw hr hN
  go_enter Try.func13, Try.ntmps13
  go_wp2_with fail
  go_at_call 12; refine hN.out.mono ?_; rintro e w1 ⟨rfl, hC, hb⟩
  go_wp2_with fail
  go_ret
  exact ⟨ret_int rfl, hC, hb⟩

theorem below_nil (N : Int) (w : World) (h2 : N ≤ 9223372036854775807) : Calls Try.prog 13 #[.pointer none, .int .i64 N] w fun e w' => e = .returned (.int .i64 0) ∧ w = w' := by
  by_cases h : N < 1
  · exact below_low _ N w h
  · have h1 : 1 ≤ N := by omega
    go_enter Try.func13, Try.ntmps13
    go_wp2_with fail
    go_at_call 12; refine (next_nil w).mono ?_; rintro e w1 ⟨rfl, rfl⟩
    go_wp2_with fail
    go_ret
    exact ⟨ret_int (by simp), rfl⟩

theorem peek_nil (i : Int) (w : World) : Calls Try.prog 14 #[.pointer none, .int .i64 i] w fun e w' => e = .returned (.int .u64 0) ∧ w = w' := by
  go_enter Try.func14, Try.ntmps14
  go_wp2_with fail
  go_ret
  exact ⟨rfl, rfl⟩

/-- What Peek tells. -/
def peekV (f : Nat → Int) (n T : Nat) (i : Int) : Int := if i < 0 then 0 else if (T : Int) + i < n then f (T + i.toNat) else 0
theorem peek_any (w : World) (B c : Nat) (f : Nat → Int) (n T : Nat) (i : Int) (h : Curs w B c f n T) (hn : n ≤ 1000000) :
    Calls Try.prog 14 #[.pointer (some ⟨c, 0, none⟩), .int .i64 i] w fun e w' => e = .returned (.int .u64 (peekV f n T i)) ∧ w = w' := by
  obtain ⟨A, cap, hh, h1, h2, h3⟩ := h
  have c0 : w.cell? ⟨c, 0, none⟩ = some (.slice A (n - T) cap) := by simp [World.cell?, hh]
  have hat : Hid (Calls Try.prog 18 #[.slice A (n - T) cap, .int .i64 i] w fun e w' => e = .returned (.int .u64 (peekV f n T i)) ∧ w = w') := by
    by_cases hi : i < 0
    · have e : peekV f n T i = 0 := by unfold peekV; rw [if_pos hi]
      rw [e]; exact at_out A (n - T) cap i w (by omega) (Or.inl hi)
    · obtain ⟨k, rfl⟩ : ∃ k : Nat, i = (k : Int) := ⟨i.toNat, by omega⟩
      have e : peekV f n T k = wordAt f n (T + k) := by
        unfold peekV wordAt
        rw [if_neg hi]
        by_cases hq : T + k < n
        · rw [if_pos hq, if_pos (by omega)]; simp
        · rw [if_neg hq, if_neg (by omega)]
      rw [e]
      exact at_curs w c f n T A cap k hn fun h => by obtain ⟨b, off, e, _, hb, hc⟩ := h3 h; exact ⟨b, off, e, hb, hc⟩
  clear h3 hh
  go_enter Try.func14, Try.ntmps14
  go_wp2_with fail
  go_at_call 18; refine hat.out.mono ?_; rintro e w1 ⟨rfl, rfl⟩
  go_wp2_with fail
  go_ret
  exact ⟨rfl, rfl⟩

theorem skip_nil (i : Int) (w : World) : Calls Try.prog 15 #[.pointer none, .int .i64 i] w fun e w' => e = .returned (.int .i64 1) ∧ w = w' := by
  go_enter Try.func15, Try.ntmps15
  go_wp2_with fail
  go_ret
  exact ⟨rfl, rfl⟩
theorem skip_out (w : World) (B c : Nat) (f : Nat → Int) (n T : Nat) (i : Int) (h : Curs w B c f n T) (hn : n ≤ 1000000) (hi : i < 0 ∨ ((n - T : Nat) : Int) < i) :
    Calls Try.prog 15 #[.pointer (some ⟨c, 0, none⟩), .int .i64 i] w fun e w' => e = .returned (.int .i64 5) ∧ w = w' := by
  obtain ⟨A, cap, hh, h1, h2, h3⟩ := h
  have c0 : w.cell? ⟨c, 0, none⟩ = some (.slice A (n - T) cap) := by simp [World.cell?, hh]
  clear h3 hh
  have hL : n - T ≤ 1000000 := by omega
  generalize n - T = L at *
  by_cases h0 : i < 0
  · go_enter Try.func15, Try.ntmps15
    go_wp2_with fail
    go_ret
    exact ⟨rfl, rfl⟩
  · have h5 : (L : Int) < i := by omega
    clear hi
    go_enter Try.func15, Try.ntmps15
    go_wp2_with fail
    go_ret
    exact ⟨rfl, rfl⟩
theorem skip_in (w : World) (B c : Nat) (f : Nat → Int) (n T k : Nat) (h : Curs w B c f n T) (hT : T ≤ 900000) (hn : n ≤ 1000000) (hk : k ≤ n - T) :
    Calls Try.prog 15 #[.pointer (some ⟨c, 0, none⟩), .int .i64 k] w fun e w' => e = .returned (.int .i64 0) ∧ Curs w' B c f n (T + k) ∧ But c w w' := by
  have hP : Hid (Calls Try.prog 19 #[.pointer (some ⟨c, 0, none⟩), .int .i64 k] w fun e w' => e = .returned (.tuple #[]) ∧ Curs w' B c f n (T + k) ∧ But c w w') := pass_any w B c f n T k h (by omega) (by omega) hn
  obtain ⟨A, cap, hh, h1, h2, h3⟩ := h
  have c0 : w.cell? ⟨c, 0, none⟩ = some (.slice A (n - T) cap) := by simp [World.cell?, hh]
  clear h3 hh
  have hL : n - T ≤ 1000000 := by omega
  generalize n - T = L at *
  go_enter Try.func15, Try.ntmps15
  go_wp2_with fail
  go_at_call 19; refine hP.out.mono ?_; rintro e w2 ⟨rfl, hC2, hb2⟩
  go_wp2_with fail
  go_ret
  exact ⟨rfl, hC2, hb2⟩

end Go.Proofs.Ytlpfleefbngdaaa
