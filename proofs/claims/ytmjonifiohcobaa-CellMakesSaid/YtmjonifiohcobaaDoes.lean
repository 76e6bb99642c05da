/- The walk of the law CellDoes. -/
import Derived.Test.YtmjonifiohcobaaAlike
namespace Go.Proofs.Ytmjonifiohcobaa
open Go Go.RowKit
set_option linter.unusedVariables false
set_option linter.unusedSimpArgs false

/-- A slice of n acts, seen in memory below block B. -/
def SeesA (w : World) (B : Nat) (E : Option Addr) (n : Nat) (k p i o v : Nat → Int) : Prop :=
  0 < n → ∃ b off : Nat, E = some ⟨b, off, none⟩ ∧ b < B ∧ ∀ j, j < n → w.cell? ⟨b, off + j * 5, none⟩ = some (.int .i64 (k j)) ∧ w.cell? ⟨b, off + j * 5 + 1, none⟩ = some (.int .i64 (p j)) ∧ w.cell? ⟨b, off + j * 5 + 2, none⟩ = some (.int .i64 (i j)) ∧ w.cell? ⟨b, off + j * 5 + 3, none⟩ = some (.int .u64 (o j)) ∧ w.cell? ⟨b, off + j * 5 + 4, none⟩ = some (.int .u64 (v j))

theorem cellDoes_many (A E : Option Addr) (n cap m cp : Nat) (w : World) (hn : n ≤ 9223372036854775807) (hm : m ≤ 9223372036854775807) (h : 100 < n ∨ (n ≤ 100 ∧ 100 < m)) :
    Calls Try.prog 3 #[.slice A n cap, .slice E m cp] w fun e w' => e = .returned (.bool true) ∧ Below w.heap.size w w' := by
  rcases h with h | ⟨h1, h2⟩
  all_goals
    go_enter Try.func3, Try.ntmps3
    go_wp2_with fail
    go_at_call 10; refine (awake_any _).mono ?_; rintro e w1 ⟨rfl, hb1⟩
    go_wp2_with fail
    go_ret
    exact ⟨rfl, hb1⟩

theorem two_start {w1 w2 : World} {A A' : Option Addr} {cap cap' c b c' b' n : Nat} {s : St} (hm : Is w1 68 A cap c b n s) (hbc : b ≤ c) (hr : Is w2 41 A' cap' c' b' n s) (hb : Below w1.heap.size w1 w2) (h1 : w1.heap.size ≤ b') (h2 : w1.heap.size ≤ c') : Two w2 A A' cap cap' c b c' b' n s := by
  have := hm.lt
  have := hm.bl
  exact ⟨hm.below hb, hr, by omega, by omega, by omega, by omega⟩
theorem low_fresh (f : Nat → Int) : Low (fresh f) 0 := ⟨⟨Int.le_refl _, Int.le_refl _⟩, Int.le_refl _, Int.le_refl _⟩
theorem Low.more {s : St} {m m' : Int} (h : Low s m) (hm : m ≤ m') : Low s m' := by
  obtain ⟨⟨h1, h2⟩, h3, h4⟩ := h
  exact ⟨⟨h1, by omega⟩, h3, by omega⟩

set_option maxHeartbeats 2000000 in
set_option maxRecDepth 100000 in
theorem cellDoes_few (A E : Option Addr) (n cap m cp : Nat) (f k p i o v : Nat → Int) (w : World) (hn : n ≤ 100) (hm : m ≤ 100) (hnil : A = none → n = 0 ∧ cap = 0) (hs : SeesU w w.heap.size A n f)
    (hf : ∀ i, i < n → 0 ≤ f i ∧ f i ≤ 18446744073709551615) (hl : SeesA w w.heap.size E m k p i o v) (hv : ∀ i, i < m → 0 ≤ v i ∧ v i ≤ 18446744073709551615) :
    Calls Try.prog 3 #[.slice A n cap, .slice E m cp] w fun e w' => e = .returned (.bool true) ∧ Below w.heap.size w w' := by
  have HS : Hid (SeesU w w.heap.size A n f) := hs
  have HI : Hid (A = none → n = 0 ∧ cap = 0) := hnil
  have HF : Hid (∀ i, i < n → 0 ≤ f i ∧ f i ≤ 18446744073709551615) := hf
  have HL : Hid (SeesA w w.heap.size E m k p i o v) := hl
  have HV : Hid (∀ i, i < m → 0 ≤ v i ∧ v i ≤ 18446744073709551615) := hv
  clear hs hnil hf hl hv
  go_enter Try.func3, Try.ntmps3
  go_wp2_with fail
  go_at_call 11; refine (of_any w A n cap f (by omega) HI.out HS.out HF.out).mono ?_; rintro e w1 ⟨A1, cap1, c, b, rfl, hI1, hb1, h1, h2, h3⟩
  have hS1 : Hid (SeesU w1 w1.heap.size A n f) := (HS.out.below hb1 (Nat.le_refl _)).more hb1.size
  go_wp2_with fail
  go_at_call 12; refine (refNew_any w1 A n cap f hn hS1.out HF.out).mono ?_; rintro e w2 ⟨A2, cap2, c2, b2, rfl, hI2, hb2, h4, h5⟩
  have hT0 := two_start hI1 h2 hI2 hb2 h4 h5
  have hB0 := hb1.trans (hb2.mono hb1.size)
  have hs1 := hb1.size
  have hge : Hid (∀ q ∈ [c, b, c2, b2], w.heap.size ≤ q) := by show ∀ q ∈ _, _; simp; omega
  clear hI1 hI2 hb1 hb2 hS1 h1 h2 h3 h4 h5 hs1
  go_wp2_with fail
  go_loopw [8] (fun x wr => ∃ (j : Nat) (s : St), j ≤ m ∧ x = .int .i64 j ∧ Low s j ∧ Two wr A1 A2 cap1 cap2 c b c2 b2 n s ∧ Below w.heap.size w wr) (fun x _ => m - (intOf x).toNat)
  case atStart => exact ⟨0, fresh f, Nat.zero_le _, rfl, low_fresh f, hT0, hB0⟩
  case round =>
    obtain ⟨j, s, hj, rfl, hlow, hT, hbw⟩ := hrel
    clear hT0 hB0
    by_cases hlt : j < m
    · obtain ⟨B, off, rfl, hbB, hcell⟩ := HL.out (by omega)
      obtain ⟨z0, z1, z2, z3, z4⟩ := hcell j hlt
      have e0 := (hbw.cell (p := ⟨B, off + j * 5, none⟩) hbB).trans z0
      have e1 := (hbw.cell (p := ⟨B, off + j * 5 + 1, none⟩) hbB).trans z1
      have e2 := (hbw.cell (p := ⟨B, off + j * 5 + 2, none⟩) hbB).trans z2
      have e3 := (hbw.cell (p := ⟨B, off + j * 5 + 3, none⟩) hbB).trans z3
      have e4 := (hbw.cell (p := ⟨B, off + j * 5 + 4, none⟩) hbB).trans z4
      have hvj := HV.out j hlt
      have HD : Hid (Calls Try.prog 13 #[.pointer (some ⟨c, 0, none⟩), .pointer (some ⟨c2, 0, none⟩), .agg #[.int .i64 (k j), .int .i64 (p j), .int .i64 (i j), .int .u64 (o j), .int .u64 (v j)]] wr.drew (Did wr.drew A1 A2 cap1 cap2 c b c2 b2 n (actS (k j) (p j) (i j) (o j) (v j) n s))) :=
        do_any wr.drew A1 A2 cap1 cap2 c b c2 b2 n s (k j) (p j) (i j) (o j) (v j) (by omega) (hlow.more (by omega)) hvj ⟨hT.m.below (Below.refl _ _).drew, hT.r.below (Below.refl _ _).drew, hT.ne⟩
      have hlow' := actS_low hlow (k j) (p j) (i j) (o j) (v j) n
      have hbd : Below w.heap.size w wr.drew := hbw.drew
      have hsz := hbw.size
      clear hcell hT hbw hvj z0 z1 z2 z3 z4 hlow
      generalize actS (k j) (p j) (i j) (o j) (v j) n s = s' at HD hlow'
      generalize k j = k' at e0 HD
      generalize p j = p' at e1 HD
      generalize i j = i' at e2 HD
      generalize o j = o' at e3 HD
      generalize v j = v' at e4 HD
      have hn' : n ≤ 1000000 := by omega
      go_wp2_with fail
      go_region_with (first | (go_at_call 13; refine HD.out.mono ?_; rintro e w2 ⟨rfl, hT2, hB2⟩; have d0 := hT2.r.cells.1) | (go_at_call 14; refine (alike_any _ A1 A2 cap1 cap2 c b c2 b2 n s' hn' hT2).mono ?_; rintro e w3 ⟨rfl, hb3⟩; have hT3 := hT2.below hb3; have d1 := hT3.r.cells.1) | (go_at_call 16; refine (words_any _ A1 cap1 c b n s' hT3.m hn').mono ?_; rintro e w4 ⟨A4, cap4, rfl, hs4, hb4⟩; have hT4 := hT3.below hb4; have d2 := hT4.r.cells.1) | (go_at_call 15; refine (same_any _ A4 A2 n cap4 cap2 s'.f hn' hs4 hT4.r.sees).mono ?_; rintro e w5 ⟨rfl, m5, rfl⟩))
      all_goals
        have hbA := hbd.trans (hB2.below hge.out hbd.size)
        have hbB := hbA.trans (hb3.mono hbA.size)
        have hbC := Below.drewN' (hbB.trans (hb4.mono hbB.size)) m5
        have hT5 := hT4.below (Below.drewN' (Below.refl _ _) m5)
        clear d0 d1 d2 hT2 hB2 hb3 hT3 hs4 hb4 hT4 HD e0 e1 e2 e3 e4 hbA hbB hbd
        go_wp2_with fail
        go_roundw
        case rel => exact ⟨j + 1, s', by omega, by go_num, hlow'.more (by omega), hT5, hbC⟩
        case measure => simp [intOf]; omega
    · obtain rfl : j = m := by omega
      have hT' : Hid (Two wr A1 A2 cap1 cap2 c b c2 b2 n s) := hT
      have hn' : n ≤ 1000000 := by omega
      clear hT
      go_wp2_with fail
      go_at_call 10; refine (awake_any _).mono ?_; rintro e w7 ⟨rfl, hb7⟩
      go_wp2_with fail
      go_at_call 17; refine (len_any _ A1 cap1 c b n s (hT'.out.m.below hb7)).mono ?_; rintro e w8 ⟨rfl, rfl⟩
      go_wp2_with fail
      go_ret
      exact ⟨rfl, hbw.trans (hb7.mono hbw.size)⟩
end Go.Proofs.Ytmjonifiohcobaa
