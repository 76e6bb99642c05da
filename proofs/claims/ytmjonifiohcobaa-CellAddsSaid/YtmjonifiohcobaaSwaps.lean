/- The walk of the law CellSwaps. -/
import Derived.Test.YtmjonifiohcobaaDoes
namespace Go.Proofs.Ytmjonifiohcobaa
open Go Go.RowKit
set_option linter.unusedVariables false
set_option linter.unusedSimpArgs false

theorem cellSwaps_none (A E : Option Addr) (n cap m cp : Nat) (at' : Int) (w : World) (hn : n ≤ 9223372036854775807) (hm : m ≤ 9223372036854775807) (h : 100 < n ∨ (n ≤ 100 ∧ 100 < m) ∨ (n ≤ 100 ∧ m ≤ 100 ∧ at' < 0) ∨ (n ≤ 100 ∧ m ≤ 100 ∧ 0 ≤ at' ∧ (n : Int) ≤ at')) :
    Calls Try.prog 5 #[.slice A n cap, .int .i64 at', .slice E m cp] w fun e w' => e = .returned (.bool true) ∧ Below w.heap.size w w' := by
  rcases h with h | ⟨h1, h2⟩ | ⟨h1, h2, h3⟩ | ⟨h1, h2, h3, h4⟩
  all_goals
    go_enter Try.func5, Try.ntmps5
    go_wp2_with fail
    go_at_call 10; refine (awake_any _).mono ?_; rintro e w1 ⟨rfl, hb1⟩
    go_wp2_with fail
    go_ret
    exact ⟨rfl, hb1⟩

/-- The word at i behind the j-th swap. -/
def swapV (f g : Nat → Int) (i j : Nat) : Int := if j = 0 then f i else g 0
theorem swap_ans0 {s : St} {n i : Nat} {old new : Int} (hi : i < n) (h : s.f i = old) : ans 3 i old new n s = 1 ∧ ∀ who, (stp 3 who i old new n s).f i = new := by
  have hr : (0 : Int) ≤ (i : Int) ∧ (i : Int) < n := ⟨by omega, by omega⟩
  refine ⟨by unfold ans; rw [if_pos hr]; simp [h], fun who => ?_⟩
  unfold stp
  rw [if_pos hr]
  simp [h, upd]
theorem swap_ans1 {s : St} {n i : Nat} {old new : Int} (hi : i < n) (h : ¬ s.f i = old) : ans 3 i old new n s = 0 ∧ ∀ who, (stp 3 who i old new n s).f i = s.f i := by
  have hr : (0 : Int) ≤ (i : Int) ∧ (i : Int) < n := ⟨by omega, by omega⟩
  refine ⟨by unfold ans; rw [if_pos hr]; simp [h], fun who => ?_⟩
  unfold stp
  rw [if_pos hr]
  simp [h]

set_option maxHeartbeats 2000000 in
set_option maxRecDepth 100000 in
theorem cellSwaps_few (A E : Option Addr) (n cap m cp i : Nat) (f g : Nat → Int) (w : World) (hn : n ≤ 100) (hm : m ≤ 100) (hi : i < n) (hnil : A = none → n = 0 ∧ cap = 0) (hs : SeesU w w.heap.size A n f)
    (hf : ∀ i, i < n → 0 ≤ f i ∧ f i ≤ 18446744073709551615) (hl : SeesU w w.heap.size E m g) (hg : ∀ i, i < m → 0 ≤ g i ∧ g i ≤ 18446744073709551615) :
    Calls Try.prog 5 #[.slice A n cap, .int .i64 i, .slice E m cp] w fun e w' => e = .returned (.bool true) ∧ Below w.heap.size w w' := by
  have HI : Hid (A = none → n = 0 ∧ cap = 0) := hnil
  have HF : Hid (∀ i, i < n → 0 ≤ f i ∧ f i ≤ 18446744073709551615) := hf
  have HL : Hid (SeesU w w.heap.size E m g) := hl
  have HG : Hid (∀ i, i < m → 0 ≤ g i ∧ g i ≤ 18446744073709551615) := hg
  have HS : Hid (SeesU w w.heap.size A n f) := hs
  obtain ⟨b0, off, rfl, hbB, hcell⟩ := hs (by omega)
  have hx := hcell i hi
  clear hnil hf hl hg hcell
  go_enter Try.func5, Try.ntmps5
  go_wp2_with fail
  go_at_call 11; refine (of_any w _ n cap f (by omega) HI.out HS.out HF.out).mono ?_; rintro e w1 ⟨A1, cap1, c, b, rfl, hI1, hb1, h1, h2, h3⟩
  have hge : Hid (∀ q ∈ [c, b], w.heap.size ≤ q) := by show ∀ q ∈ _, _; simp; omega
  clear h1 h2 h3
  go_wp2_with fail
  go_loopw [10, 9] (fun x y wr => ∃ (j : Nat) (s : St), j ≤ m ∧ x = .int .i64 j ∧ y = .int .i64 (if j = 0 then 0 else 1) ∧ Low s j ∧ s.f i = swapV f g i j ∧ (j = 0 ∨ ¬ g 0 = f i) ∧ Is wr 68 A1 cap1 c b n s ∧ Below w.heap.size w wr) (fun x _ _ => m - (intOf x).toNat)
  case atStart => exact ⟨0, fresh f, Nat.zero_le _, rfl, rfl, low_fresh f, rfl, Or.inl rfl, hI1, hb1⟩
  case round =>
    obtain ⟨j, s, hj, rfl, rfl, hlow, hsf, h0, hI, hbw⟩ := hrel
    clear hI1 hb1
    by_cases hlt : j < m
    · obtain ⟨b9, off9, rfl, hb9, hcell9⟩ := HL.out (by omega)
      have e0 : wr.cell? ⟨b0, off + i, none⟩ = some (.int .u64 (f i)) := (hbw.cell (p := ⟨b0, off + i, none⟩) hbB).trans hx
      have e1 : wr.cell? ⟨b9, off9 + j, none⟩ = some (.int .u64 (g j)) := (hbw.cell (p := ⟨b9, off9 + j, none⟩) hb9).trans (hcell9 j hlt)
      have hgj := HG.out j hlt
      have HI' : Hid (Is wr 68 A1 cap1 c b n s) := hI
      have hsz := hbw.size
      clear hcell9 hI
      by_cases heq : g j = f i
      · have hq : (g j == f i) = true := by simpa using heq
        clear heq h0 hsf hlow hgj
        generalize f i = fi at e0 hq
        generalize g j = gj at e1 hq
        generalize (if j = 0 then (0 : Int) else 1) = dd
        go_wp2_with fail
        go_quiet (fail)
        go_wp2_with fail
        go_at_call 10; refine (awake_any _).mono ?_; rintro e w7 ⟨rfl, hb7⟩
        go_wp2_with fail
        go_ret
        exact ⟨rfl, (Below.drewN' hbw nq).trans (hb7.mono hbw.size)⟩
      · have hq : (g j == f i) = false := by simpa using heq
        have HQ : Hid (∀ k : Nat, Calls Try.prog 22 #[.pointer (some ⟨c, 0, none⟩), .int .i64 j, .int .i64 i, .int .u64 (f i), .int .u64 (g j)] (wr.drewN k).drew fun e w' => e = .returned (.bool (decide (ans 3 i (f i) (g j) n s = 1))) ∧ Is w' 68 A1 cap1 c b n (stp 3 j i (f i) (g j) n s) ∧ But [c, b] (wr.drewN k).drew w') :=
          fun k => swap_any _ A1 cap1 c b n s j i (f i) (g j) ⟨HI'.out.main, HI'.out.bcap, HI'.out.wds, HI'.out.bd, HI'.out.bl⟩ (by omega) (hlow.more (by omega)) hgj
        have hlow' := stp_low hlow 3 j i (f i) (g j) n
        by_cases hz : j = 0
        · subst hz
          have hs0 : s.f i = f i := by rw [hsf]; rfl
          obtain ⟨ea, es⟩ := swap_ans0 (new := g 0) hi hs0
          have es' := es (0 : Nat)
          rw [ea] at HQ
          clear ea es hgj hsf hs0 h0
          have e1' : wr.cell? ⟨b9, off9, none⟩ = some (.int .u64 (g 0)) := e1
          generalize stp 3 (0 : Nat) i (f i) (g 0) n s = s' at HQ hlow' es'
          have HH : Hid (¬ g 0 = f i) := heq
          have HE : Hid (s'.f i = g 0) := es'
          clear es' heq
          generalize f i = fi at e0 hq HQ HH
          generalize g 0 = gj at e1 e1' hq HQ HH
          go_wp2_with fail
          go_quiet (fail)
          go_wp2_with fail
          go_region_with (first | (go_at_call 22; refine (HQ.out nq).mono ?_; rintro e w2 ⟨rfl, hI2, hB2⟩))
          all_goals
            have hbA := (Below.drewN' hbw nq).drew.trans (hB2.below hge.out hsz)
            clear hB2 HQ hbw
            go_wp2_with fail
            go_roundw
            case rel => exact ⟨1, s', by omega, rfl, rfl, hlow'.more (by omega), HE.out, Or.inr HH.out, hI2, hbA⟩
            case measure => simp [intOf]; omega
        · have h0' : ¬ g 0 = f i := by rcases h0 with h0 | h0; exact absurd h0 hz; exact h0
          have hs0 : ¬ s.f i = f i := by rw [hsf]; unfold swapV; rw [if_neg hz]; exact h0'
          obtain ⟨ea, es⟩ := swap_ans1 (new := g j) hi hs0
          have es' : (stp 3 (j : Nat) i (f i) (g j) n s).f i = g 0 := by rw [es]; rw [hsf]; unfold swapV; rw [if_neg hz]
          rw [ea] at HQ
          rw [if_neg hz]
          clear ea es hgj hsf hs0 h0
          generalize stp 3 (j : Nat) i (f i) (g j) n s = s' at HQ hlow' es'
          have HH : Hid (¬ g 0 = f i) := h0'
          have HE : Hid (s'.f i = g 0) := es'
          clear h0' es' heq
          generalize f i = fi at e0 hq HQ HH
          generalize g j = gj at e1 hq HQ
          go_wp2_with fail
          go_quiet (fail)
          go_wp2_with fail
          go_region_with (first | (go_at_call 22; refine (HQ.out nq).mono ?_; rintro e w2 ⟨rfl, hI2, hB2⟩))
          all_goals
            have hbA := (Below.drewN' hbw nq).drew.trans (hB2.below hge.out hsz)
            clear hB2 HQ hbw
            go_wp2_with fail
            go_roundw
            case rel => exact ⟨j + 1, s', by omega, by go_num, rfl, hlow'.more (by omega), HE.out, Or.inr HH.out, hI2, hbA⟩
            case measure => simp [intOf]; omega
    · obtain rfl : j = m := by omega
      have hP := peek_any wr A1 cap1 c b n s i hI (by omega)
      rw [show decide ((0 : Int) ≤ (i : Int) ∧ (i : Int) < n) = true by simp; omega, show peekT n s i = swapV f g i j by unfold peekT; rw [if_pos ⟨by omega, by omega⟩]; simpa using hsf] at hP
      have e0 : wr.cell? ⟨b0, off + i, none⟩ = some (.int .u64 (f i)) := (hbw.cell (p := ⟨b0, off + i, none⟩) hbB).trans hx
      clear hI hsf hlow
      by_cases hz : j = 0
      · subst hz
        rw [show swapV f g i 0 = f i from rfl] at hP
        go_wp2_with fail
        go_at_call 20; refine hP.mono ?_; clear hP; rintro e w3 ⟨rfl, rfl⟩
        go_wp2_with fail
        go_at_call 10; refine (awake_any _).mono ?_; rintro e w7 ⟨rfl, hb7⟩
        have e1 := (hb7.cell (p := ⟨b0, off + i, none⟩) (Nat.lt_of_lt_of_le hbB hbw.size)).trans e0
        go_wp2_with fail
        go_ret
        exact ⟨rfl, hbw.trans (hb7.mono hbw.size)⟩
      · obtain ⟨b9, off9, rfl, hb9, hcell9⟩ := HL.out (by omega)
        have e9 : wr.cell? ⟨b9, off9, none⟩ = some (.int .u64 (g 0)) := (hbw.cell (p := ⟨b9, off9, none⟩) hb9).trans (by simpa using hcell9 0 (by omega))
        have hjz : (j == 0) = false := by simpa using hz
        rw [show swapV f g i j = g 0 by unfold swapV; rw [if_neg hz]] at hP
        rw [if_neg hz]
        clear hcell9
        go_wp2_with fail
        go_at_call 20; refine hP.mono ?_; clear hP; rintro e w3 ⟨rfl, rfl⟩
        go_wp2_with fail
        go_at_call 10; refine (awake_any _).mono ?_; rintro e w7 ⟨rfl, hb7⟩
        have e1 := (hb7.cell (p := ⟨b9, off9, none⟩) (Nat.lt_of_lt_of_le hb9 hbw.size)).trans e9
        go_wp2_with fail
        go_ret
        exact ⟨rfl, hbw.trans (hb7.mono hbw.size)⟩
end Go.Proofs.Ytmjonifiohcobaa
