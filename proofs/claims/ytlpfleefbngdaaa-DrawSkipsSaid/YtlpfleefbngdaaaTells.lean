/- The walk of the law DrawTells. -/
import Derived.Test.YtlpfleefbngdaaaDoes3
namespace Go.Proofs.Ytlpfleefbngdaaa
open Go Go.RowKit
set_option linter.unusedVariables false
set_option linter.unusedSimpArgs false

theorem does_any (w : World) (W Bc c r : Nat) (A : Option Addr) (f : Nat → Int) (n cap T : Nat) (hn : n ≤ 100) (hT : T ≤ 20000) (hf : ∀ i, i < n → 0 ≤ f i ∧ f i ≤ 18446744073709551615) (k N : Int) (hN2 : N ≤ 9223372036854775807) (h : Both w W Bc c r A f n cap T) :
    Calls Try.prog 8 #[.pointer (some ⟨c, 0, none⟩), .pointer (some ⟨r, 0, none⟩), .agg #[.int .i64 k, .int .i64 N]] w (Did w W Bc c r A f n cap T) := by
  by_cases h0 : k = 0
  · subst h0; exact does_next w W Bc c r A f n cap T hn hT N h
  by_cases h1 : k = 1
  · subst h1
    by_cases hN : N < 1
    · exact does_low w W Bc c r A f n cap T hn hT N hN h
    · exact does_below w W Bc c r A f n cap T hn hT hf N (by omega) hN2 h
  by_cases h2 : k = 2
  · subst h2
    by_cases hN : N < 0
    · exact does_skip_neg w W Bc c r A f n cap T hn hT N hN h
    · by_cases hL : ((n - T : Nat) : Int) < N
      · exact does_skip_far w W Bc c r A f n cap T hn hT N (by omega) hL h
      · obtain ⟨j, rfl⟩ : ∃ j : Nat, N = (j : Int) := ⟨N.toNat, by omega⟩
        exact does_skip_in w W Bc c r A f n cap T hn hT j (by omega) h
  · exact does_peek w W Bc c r A f n cap T hn hT k N (by simpa using h0) (by simpa using h1) (by simpa using h2) h

/-- A slice of n acts, seen in memory below block B. -/
def SeesE (w : World) (B : Nat) (A : Option Addr) (n : Nat) (f g : Nat → Int) : Prop :=
  0 < n → ∃ b off : Nat, A = some ⟨b, off, none⟩ ∧ b < B ∧ ∀ i, i < n → w.cell? ⟨b, off + i * 2, none⟩ = some (.int .i64 (f i)) ∧ w.cell? ⟨b, off + i * 2 + 1, none⟩ = some (.int .i64 (g i))
theorem SeesE.below {w w' : World} {B B' n : Nat} {A : Option Addr} {f g : Nat → Int} (h : SeesE w B A n f g) (hb : Below B' w w') (hB : B ≤ B') : SeesE w' B A n f g := fun hn => by
  obtain ⟨b, off, e, h1, h2⟩ := h hn
  exact ⟨b, off, e, h1, fun i hi => ⟨(hb.cell (p := ⟨b, off + i * 2, none⟩) (Nat.lt_of_lt_of_le h1 hB)).trans (h2 i hi).1, (hb.cell (p := ⟨b, off + i * 2 + 1, none⟩) (Nat.lt_of_lt_of_le h1 hB)).trans (h2 i hi).2⟩⟩

theorem drawTells_many (A E : Option Addr) (n cap m cp : Nat) (w : World) (hn : n ≤ 9223372036854775807) (hm : m ≤ 9223372036854775807) (h : 100 < n ∨ (n ≤ 100 ∧ 100 < m)) :
    Calls Try.prog 3 #[.slice A n cap, .slice E m cp] w fun e w' => e = .returned (.bool true) ∧ Below w.heap.size w w' := by
  rcases h with h | ⟨h1, h2⟩
  all_goals
    go_enter Try.func3, Try.ntmps3
    go_wp2_with fail
    go_at_call 6; refine (awake_any _).mono ?_; rintro e w1 ⟨rfl, hb1⟩
    go_wp2_with fail
    go_ret
    exact ⟨rfl, hb1⟩

theorem both_start (w w1 : World) (c : Nat) (A : Option Addr) (n cap : Nat) (f : Nat → Int) (hC : Curs w1 w.heap.size c f n 0) (hb : Below w.heap.size w w1) (hc : w.heap.size ≤ c) (hs : SeesU w w.heap.size A n f) :
    Both (w1.alloc (.cells #[.slice A n cap, .int .i64 0] 28)) w.heap.size w.heap.size c w1.heap.size A f n cap 0 :=
  have hB := box2 w1 (.slice A n cap) (.int .i64 0) 28
  ⟨hC.below hB hC.lt, heap_alloc_new w1 _, (hs.below hb (Nat.le_refl _)).below hB hb.size, Nat.le_refl _, hc, hC.lt⟩

set_option maxHeartbeats 2000000 in
set_option maxRecDepth 100000 in
theorem drawTells_few (A E : Option Addr) (n cap m cp : Nat) (f p q : Nat → Int) (w : World) (hn : n ≤ 100) (hm : m ≤ 100) (hnil : A = none → n = 0 ∧ cap = 0) (hs : SeesU w w.heap.size A n f)
    (hf : ∀ i, i < n → 0 ≤ f i ∧ f i ≤ 18446744073709551615) (hl : SeesE w w.heap.size E m p q) (hq : ∀ i, i < m → q i ≤ 9223372036854775807) :
    Calls Try.prog 3 #[.slice A n cap, .slice E m cp] w fun e w' => e = .returned (.bool true) ∧ Below w.heap.size w w' := by
  have HS : Hid (SeesU w w.heap.size A n f) := hs
  have HI : Hid (A = none → n = 0 ∧ cap = 0) := hnil
  have HF : Hid (∀ i, i < n → 0 ≤ f i ∧ f i ≤ 18446744073709551615) := hf
  have HL : Hid (SeesE w w.heap.size E m p q) := hl
  have HQ : Hid (∀ i, i < m → q i ≤ 9223372036854775807) := hq
  clear hs hnil hf hl hq
  go_enter Try.func3, Try.ntmps3
  go_wp2_with fail
  go_at_call 7; refine (new_any A n cap f _ (by omega) HI.out HS.out).mono ?_; rintro e w1 ⟨c, rfl, hC, hb1, hc⟩
  have hB0 := both_start w w1 c A n cap f hC hb1 hc HS.out
  have hbl := hb1.alloc hb1.size (.cells #[.slice A n cap, .int .i64 0] 28)
  clear hC hb1
  go_wp2_with fail
  generalize w1.heap.size = r at hB0 ⊢
  go_loopw [7] (fun i wr => ∃ k T : Nat, k ≤ m ∧ i = .int .i64 k ∧ T ≤ 100 * k ∧ Both wr w.heap.size w.heap.size c r A f n cap T ∧ Below w.heap.size w wr) (fun i _ => m - (intOf i).toNat)
  case atStart => exact ⟨0, 0, Nat.zero_le _, rfl, by omega, hB0, hbl⟩
  case round =>
    obtain ⟨k, T, hk, rfl, hT, hB, hbw⟩ := hrel
    clear hB0 hbl
    by_cases hlt : k < m
    · obtain ⟨b, off, rfl, hbB, hcell⟩ := HL.out (by omega)
      have e0 : wr.cell? ⟨b, off + k * 2, none⟩ = some (.int .i64 (p k)) := (hbw.cell (p := ⟨b, off + k * 2, none⟩) hbB).trans (hcell k hlt).1
      have e1 : wr.cell? ⟨b, off + k * 2 + 1, none⟩ = some (.int .i64 (q k)) := (hbw.cell (p := ⟨b, off + k * 2 + 1, none⟩) hbB).trans (hcell k hlt).2
      have hqk := HQ.out k hlt
      have HD : Hid (Calls Try.prog 8 #[.pointer (some ⟨c, 0, none⟩), .pointer (some ⟨r, 0, none⟩), .agg #[.int .i64 (p k), .int .i64 (q k)]] wr.drew (Did wr.drew w.heap.size w.heap.size c r A f n cap T)) :=
        does_any wr.drew w.heap.size w.heap.size c r A f n cap T hn (by omega) HF.out (p k) (q k) hqk ⟨hB.cur, hB.ref, hB.sees, hB.wb, hB.bc, hB.cr⟩
      have hbd : Below w.heap.size w wr.drew := hbw.drew
      clear hcell hB hbw hqk
      generalize p k = x at e0 HD
      generalize q k = y at e1 HD
      go_wp2_with fail
      go_region_with (first | (go_at_call 8; refine HD.out.mono ?_; rintro e w2 ⟨rfl, T', hT1, hT2, hB2, hbD⟩; have d0 := hB2.ref.c0; have d1 := hB2.ref.c1) | (go_at_call 9; refine (left_any _ _ c f n T' hB2.cur).mono ?_; rintro e w3 ⟨rfl, rfl⟩) | (go_at_call 10; refine (refLeft_any A n cap T' _ (by omega) (by omega)).mono ?_; rintro e w4 ⟨rfl, hbf⟩; have hB4 := hB2.below hbf; have d2 := hB4.ref.c1) | (go_at_call 11; refine (told_any _ _ c f n T' hB4.cur).mono ?_; rintro e w5 ⟨rfl, rfl⟩))
      all_goals
        have hE := (hbd.trans hbD).trans (hbf.mono hB2.wlt)
        clear d0 d1 d2 hbD hbf hB2 HD e0 e1
        go_wp2_with fail
        go_roundw
        case rel => exact ⟨k + 1, T', by omega, by go_num, by omega, hB4, hE⟩
        case measure => simp [intOf]; omega
    · obtain rfl : k = m := by omega
      go_wp2_with fail
      go_at_call 6; refine (awake_any _).mono ?_; rintro e w7 ⟨rfl, hb7⟩
      go_wp2_with fail
      go_ret
      exact ⟨rfl, hbw.trans (hb7.mono hbw.size)⟩

end Go.Proofs.Ytlpfleefbngdaaa
