/- The walk of the law CellAdds: at most 100 numbers. -/
import Derived.Test.YtmjonifiohcobaaAdds
import Derived.Test.YtmjonifiohcobaaSwaps2
namespace Go.Proofs.Ytmjonifiohcobaa
open Go Go.RowKit
set_option linter.unusedVariables false
set_option linter.unusedSimpArgs false

theorem sees_one (w : World) (x : Int) : SeesU (w.alloc (.cells #[.int .u64 x] 32)) (w.alloc (.cells #[.int .u64 x] 32)).heap.size (some ⟨w.heap.size, 0, none⟩) 1 (fun _ => x) := fun _ =>
  ⟨w.heap.size, 0, rfl, by simp, fun i hi => by
    have h : i = 0 := by omega
    subst h
    have := heap_alloc_new w (.cells #[.int .u64 x] 32)
    simp only [World.cell?, Nat.add_zero, this]
    rfl⟩
theorem wrap_sum (a b : Int) : IntKind.u64.wrap (a % 18446744073709551616 + b) = (a + b) % 18446744073709551616 := by
  have h1 : IntKind.u64.wrap (a % 18446744073709551616 + b) = (a % 18446744073709551616 + b) % 18446744073709551616 := by
    simp [IntKind.wrap, IntKind.bits, IntKind.signed]
  rw [h1]
  omega
theorem want_val (x : Int) (h : 0 ≤ x) : (x % 18446744073709551616).tmod 4294967296 = x % 4294967296 := by
  rw [Int.tmod_eq_emod_of_nonneg (by omega)]
  omega

set_option maxHeartbeats 2000000 in
set_option maxRecDepth 100000 in
theorem cellAdds_few (first : Int) (A : Option Addr) (n cap t : Nat) (g : Nat → Int) (w : World) (hn : n ≤ 100) (ht : t ≤ 255) (hfb : 0 ≤ first ∧ first ≤ 18446744073709551615) (hs : SeesU w w.heap.size A n g)
    (hg : ∀ i, i < n → 0 ≤ g i ∧ g i ≤ 18446744073709551615) :
    Calls Try.prog 6 #[.int .u64 first, .slice A n cap, .int .u8 t] w fun e w' => e = .returned (.bool true) ∧ Below w.heap.size w w' := by
  have HS : Hid (SeesU w w.heap.size A n g) := hs
  have HG : Hid (∀ i, i < n → 0 ≤ g i ∧ g i ≤ 18446744073709551615) := hg
  have hone : Hid (∀ i, i < 1 → 0 ≤ first ∧ first ≤ 18446744073709551615) := fun _ _ => hfb
  clear hs hg
  go_enter Try.func6, Try.ntmps6
  go_wp2_with fail
  go_at_call 11; refine (of_any _ _ 1 1 (fun _ => first) (by omega) (fun h => by cases h) (sees_one w first) hone.out).mono ?_; rintro e w1 ⟨A1, cap1, c, b, rfl, hI1, hb1, h1, h2, h3⟩
  have hs1 := hb1.size
  have hB1 : Below w.heap.size w w1 := ((Below.refl _ _).alloc (Nat.le_refl _) _).trans (hb1.mono (by simp))
  go_wp2_with fail
  go_at_call 11; refine (of_any _ _ 1 1 (fun _ => first) (by omega) (fun h => by cases h) (sees_one w1 first) hone.out).mono ?_; rintro e w2 ⟨A2, cap2, c2, b2, rfl, hI2, hb2, h4, h5, h6⟩
  have hT1 : Hid (Is w2 68 A1 cap1 c b 1 (fresh fun _ => first)) := (hI1.below ((Below.refl _ _).alloc (Nat.le_refl _) (.cells #[.int .u64 first] 32))).below hb2
  have hT2 : Hid (Is w2 68 A2 cap2 c2 b2 1 (fresh fun _ => first)) := hI2
  have hB2 : Below w.heap.size w w2 := hB1.trans ((((Below.refl _ _).alloc (Nat.le_refl _) _).trans (hb2.mono (by simp))).mono hB1.size)
  have hne : Hid ((c ≠ c2 ∧ c ≠ b2 ∧ b ≠ c2 ∧ b ≠ b2) ∧ (∀ q ∈ [c, b], w.heap.size ≤ q) ∧ (∀ q ∈ [c2, b2], w.heap.size ≤ q)) := by
    have := hI1.lt
    have := hI1.bl
    simp at h1 h3 h4 h6 hs1
    refine ⟨⟨by omega, by omega, by omega, by omega⟩, ?_, ?_⟩
    · intro q hq; simp at hq; omega
    · intro q hq; simp at hq; omega
  clear hI1 hI2 hb1 hb2 h1 h2 h3 h4 h5 h6 hs1 hB1
  go_wp2_with fail
  go_loopw [12, 11] (fun x y wr => ∃ (k : Nat) (s s' : St), k ≤ n ∧ x = .int .i64 k ∧ y = .int .u64 ((first + total g k) % 18446744073709551616) ∧ Low s k ∧ Low s' k ∧ s.f 0 = addV first g k ∧ s'.f 0 = addV first (fun i => g ((i + t) % n)) k ∧ Is wr 68 A1 cap1 c b 1 s ∧ Is wr 68 A2 cap2 c2 b2 1 s' ∧ Below w.heap.size w wr) (fun x _ _ => n - (intOf x).toNat)
  case atStart => exact ⟨0, _, _, Nat.zero_le _, rfl, by show _ = Value.int .u64 ((first + 0) % 18446744073709551616); rw [show (first + 0) % 18446744073709551616 = first by omega], low_fresh _, low_fresh _, rfl, rfl, hT1.out, hT2.out, hB2⟩
  case round =>
    obtain ⟨k, s, s', hk, rfl, rfl, hlow, hlow', hsf, hsf', hI, hI', hbw⟩ := hrel
    clear hT1 hT2 hB2
    by_cases hlt : k < n
    · obtain ⟨b9, off9, rfl, hb9, hcell9⟩ := HS.out (by omega)
      have hr : (k + t) % n < n := Nat.mod_lt _ (by omega)
      have e0 : wr.cell? ⟨b9, off9 + k, none⟩ = some (.int .u64 (g k)) := (hbw.cell (p := ⟨b9, off9 + k, none⟩) hb9).trans (hcell9 k hlt)
      have e1 : wr.cell? ⟨b9, off9 + (k + t) % n, none⟩ = some (.int .u64 (g ((k + t) % n))) := (hbw.cell (p := ⟨b9, off9 + (k + t) % n, none⟩) hb9).trans (hcell9 _ hr)
      have hmod : ((k : Int) + (t : Int)).tmod (n : Int) = (((k + t) % n : Nat) : Int) := by
        rw [Int.tmod_eq_emod_of_nonneg (by omega)]; simp
      have hnz : ¬ n = 0 := by omega
      have hgk := HG.out k hlt
      have hgr := HG.out _ hr
      have hsz := hbw.size
      have hH1 := add_any wr A1 cap1 c b 1 s k 0 (g k) hI (by omega) (hlow.more (by omega)) hgk
      have es := add_step hsf k (g k)
      rw [addV_next] at es
      have es' : ∀ who : Int, (stp 4 who 0 0 (g ((k + t) % n)) 1 s').f 0 = addV first (fun i => g ((i + t) % n)) (k + 1) := fun who => by rw [add_step hsf' who, ← addV_next]
      have HI2 : Hid (Is wr 68 A2 cap2 c2 b2 1 s') := hI'
      clear hI hI'
      obtain ⟨⟨hn1, hn2, hn3, hn4⟩, hg1, hg2⟩ := hne.out
      go_wp2_with fail
      go_at_call 23; refine hH1.mono ?_; clear hH1; rintro e w3 ⟨rfl, hI3, hB3⟩
      have hIb : Is w3 68 A2 cap2 c2 b2 1 s' := HI2.out.but hB3 (by simp; omega) (by simp; omega)
      have hbw3 := hbw.trans (hB3.below hg1 hsz)
      have e0' := (hbw3.cell (p := ⟨b9, off9 + k, none⟩) hb9).trans (hcell9 k hlt)
      have e1' := (hbw3.cell (p := ⟨b9, off9 + (k + t) % n, none⟩) hb9).trans (hcell9 _ hr)
      have hsz3 := hbw3.size
      have hQ : ∀ who : Int, Calls Try.prog 23 #[.pointer (some ⟨c2, 0, none⟩), .int .i64 who, .int .i64 0, .int .u64 (g ((k + t) % n))] w3 fun e w' => e = .returned (.int .u64 (ans 4 0 0 (g ((k + t) % n)) 1 s')) ∧ Is w' 68 A2 cap2 c2 b2 1 (stp 4 who 0 0 (g ((k + t) % n)) 1 s') ∧ But [c2, b2] w3 w' :=
        fun who => add_any w3 A2 cap2 c2 b2 1 s' who 0 (g ((k + t) % n)) hIb (by omega) (hlow'.more (by omega)) hgr
      have hQl := fun who => stp_low hlow' 4 who 0 0 (g ((k + t) % n)) 1
      have hPl := stp_low hlow 4 k 0 0 (g k) 1
      have HQ : Hid (∀ who : Int, Calls Try.prog 23 #[.pointer (some ⟨c2, 0, none⟩), .int .i64 who, .int .i64 0, .int .u64 (g ((k + t) % n))] w3 fun e w' => e = .returned (.int .u64 (ans 4 0 0 (g ((k + t) % n)) 1 s')) ∧ Is w' 68 A2 cap2 c2 b2 1 (stp 4 who 0 0 (g ((k + t) % n)) 1 s') ∧ But [c2, b2] w3 w') := hQ
      have HQl : Hid _ := hQl
      have Hes' : Hid _ := es'
      have hW := wrap_sum (first + total g k) (g k)
      clear e0 e1 hB3 HI2 hQ hQl es' hIb hbw hlow hlow' hsf hsf'
      generalize (k + t) % n = r at *
      go_wp2_with fail
      go_at_call 23; refine (HQ.out _).mono ?_; clear HQ; rintro e w4 ⟨rfl, hI4, hB4⟩
      have hIa := hI3.but hB4 (by simp; omega) (by simp; omega)
      have hbw4 := hbw3.trans (hB4.below hg2 hsz3)
      have e0'' := (hbw4.cell (p := ⟨b9, off9 + k, none⟩) hb9).trans (hcell9 k hlt)
      clear e0' e1' hbw3 hI3 hB4 hcell9
      go_wp2_with fail
      go_roundw
      case rel => exact ⟨k + 1, _, _, by omega, by go_num, by show _ = Value.int .u64 ((first + (total g k + g k)) % 18446744073709551616); rw [← Int.add_assoc], hPl.more (by omega), (HQl.out _).more (by omega), es, Hes'.out _, hIa, hI4, hbw4⟩
      case measure => simp [intOf]; omega
    · obtain rfl : k = n := by omega
      have hP := peek_any wr A1 cap1 c b 1 s 0 hI (by omega)
      have hQ := peek_any wr A2 cap2 c2 b2 1 s' 0 hI' (by omega)
      rw [show peekT 1 s 0 = addV first g k by unfold peekT; rw [if_pos ⟨by decide, by decide⟩]; exact hsf] at hP
      rw [show peekT 1 s' 0 = addV first (fun i => g ((i + t) % k)) k by unfold peekT; rw [if_pos ⟨by decide, by decide⟩]; exact hsf'] at hQ
      clear hI hI' hsf hsf' hlow hlow'
      have htot := total_bd g k (fun i hi => HG.out i hi) k (Nat.le_refl _)
      by_cases hz : k = 0
      · subst hz
        rw [show addV first g 0 = first from rfl] at hP
        rw [show addV first (fun i => g ((i + t) % 0)) 0 = first from rfl] at hQ
        generalize (first + total g 0) % 18446744073709551616 = S
        go_wp2_with fail
        go_at_call 20; refine hP.mono ?_; clear hP; rintro e w5 ⟨rfl, rfl⟩
        go_wp2_with fail
        go_at_call 20; refine hQ.mono ?_; clear hQ; rintro e w6 ⟨rfl, rfl⟩
        go_wp2_with fail
        go_at_call 10; refine (awake_any _).mono ?_; rintro e w7 ⟨rfl, hb7⟩
        go_wp2_with fail
        go_ret
        exact ⟨rfl, hbw.trans (hb7.mono hbw.size)⟩
      · have hjz : (k == 0) = false := by simpa using hz
        have hv := want_val (first + total g k) (by omega)
        have hX : addV first g k = ((first + total g k) % 18446744073709551616).tmod 4294967296 := by unfold addV; rw [if_neg hz, hv]
        have hY : addV first (fun i => g ((i + t) % k)) k = ((first + total g k) % 18446744073709551616).tmod 4294967296 := by unfold addV; rw [if_neg hz, total_turn g k t (by omega), hv]
        rw [hX] at hP
        rw [hY] at hQ
        clear hX hY hv htot
        generalize (first + total g k) % 18446744073709551616 = S at hP hQ
        go_wp2_with fail
        go_at_call 20; refine hP.mono ?_; clear hP; rintro e w5 ⟨rfl, rfl⟩
        go_wp2_with fail
        go_at_call 20; refine hQ.mono ?_; clear hQ; rintro e w6 ⟨rfl, rfl⟩
        go_wp2_with fail
        go_at_call 10; refine (awake_any _).mono ?_; rintro e w7 ⟨rfl, hb7⟩
        go_wp2_with fail
        go_ret
        exact ⟨rfl, hbw.trans (hb7.mono hbw.size)⟩

theorem cellAdds_walk (first : Int) (A : Option Addr) (n cap t : Nat) (g : Nat → Int) (w : World) (hn : n ≤ 9223372036854775807) (ht : t ≤ 255) (hfb : 0 ≤ first ∧ first ≤ 18446744073709551615) (hs : SeesU w w.heap.size A n g)
    (hg : ∀ i, i < n → 0 ≤ g i ∧ g i ≤ 18446744073709551615) :
    Calls Try.prog 6 #[.int .u64 first, .slice A n cap, .int .u8 t] w fun e w' => e = .returned (.bool true) ∧ Below w.heap.size w w' := by
  by_cases h : 100 < n
  · exact cellAdds_many first A n cap t w hn h
  · exact cellAdds_few first A n cap t g w (by omega) ht hfb hs hg
end Go.Proofs.Ytmjonifiohcobaa
