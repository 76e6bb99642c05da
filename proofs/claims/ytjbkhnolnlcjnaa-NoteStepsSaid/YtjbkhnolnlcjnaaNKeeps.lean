/- The walk of the law NoteKeeps. -/
import Derived.Test.YtjbkhnolnlcjnaaNote3
namespace Go.Proofs.Ytjbkhnolnlcjnaa
open Go Go.RowKit
set_option linter.unusedVariables false
set_option maxRecDepth 100000
set_option linter.unusedSimpArgs false

theorem peek_load (who i j : Int) (n : Nat) (s : St) : peekT n (stp 1 who i 0 0 n s) j = peekT n s j := by
  unfold peekT stp
  by_cases h : 0 ≤ i ∧ i < n
  · rw [if_pos h]; simp
  · rw [if_neg h]
theorem peek_store (who i v : Int) (n : Nat) (s : St) (hi : 0 ≤ i ∧ i < n) : peekT n (stp 2 who i 0 v n s) i = v := by
  unfold peekT stp
  rw [if_pos hi, if_pos hi]
  simp [upd]
theorem note_in {T t : Int} {n : Nat} (P : Int) (hP : 0 ≤ P) (h : 0 ≤ t ∧ t < T) (hn : 20 + P * 264 + 3 * T ≤ n) : 0 ≤ noteAt P T t ∧ noteAt P T t < n := by
  unfold noteAt wd
  rw [if_pos ⟨h.1, h.2, by omega, by omega⟩]
  omega

theorem noteKeeps_bad (N t x0 x1 : Int) (w : World) (hx0 : 0 ≤ x0 ∧ x0 ≤ 255) (h : N < 1 ∨ 8 < N ∨ t < 0 ∨ N ≤ t ∨ 100 < x0) :
    Calls Try.prog 12 #[.int .i64 N, .int .i64 t, .agg #[.int .u8 x0, .int .u8 x1]] w fun e w' => e = .returned (.bool true) ∧ Below w.heap.size w w' := by
  have hA := note_awake (w.alloc (.cells #[.int .u8 x0, .int .u8 x1] 97))
  have hb : Below w.heap.size w (w.alloc (.cells #[.int .u8 x0, .int .u8 x1] 97)) := (Below.refl _ _).alloc (Nat.le_refl _) _
  by_cases h1 : N < 1
  · clear h
    go_enter Try.func12, Try.ntmps12
    go_wp2_with fail
    go_at_call 44; refine hA.mono ?_; rintro e w1 ⟨rfl, h2⟩
    have h3 := hb.trans (h2.mono (by simp))
    go_wp2_with fail
    go_ret
    exact ⟨rfl, h3⟩
  have d1 : decide (N < 1) = false := decide_eq_false h1
  by_cases h2 : 8 < N
  · clear h
    go_enter Try.func12, Try.ntmps12
    go_wp2_with fail
    go_at_call 44; refine hA.mono ?_; rintro e w1 ⟨rfl, h2⟩
    have h3 := hb.trans (h2.mono (by simp))
    go_wp2_with fail
    go_ret
    exact ⟨rfl, h3⟩
  have d2 : decide (8 < N) = false := decide_eq_false h2
  by_cases h3 : t < 0
  · clear h
    go_enter Try.func12, Try.ntmps12
    go_wp2_with fail
    go_at_call 44; refine hA.mono ?_; rintro e w1 ⟨rfl, h2⟩
    have h3 := hb.trans (h2.mono (by simp))
    go_wp2_with fail
    go_ret
    exact ⟨rfl, h3⟩
  have d3 : decide (t < 0) = false := decide_eq_false h3
  by_cases h4 : N ≤ t
  · clear h
    go_enter Try.func12, Try.ntmps12
    go_wp2_with fail
    go_at_call 44; refine hA.mono ?_; rintro e w1 ⟨rfl, h2⟩
    have h3 := hb.trans (h2.mono (by simp))
    go_wp2_with fail
    go_ret
    exact ⟨rfl, h3⟩
  have d4 : decide (N ≤ t) = false := decide_eq_false h4
  have h5 : 100 < x0 := by omega
  clear h
  go_enter Try.func12, Try.ntmps12
  go_wp2_with fail
  go_at_call 44; refine hA.mono ?_; rintro e w1 ⟨rfl, h2⟩
  have h3 := hb.trans (h2.mono (by simp))
  go_wp2_with fail
  go_ret
  exact ⟨rfl, h3⟩

set_option maxHeartbeats 1000000 in
theorem noteKeeps_ok (N t x0 x1 : Int) (w : World) (hN : 1 ≤ N ∧ N ≤ 8) (ht : 0 ≤ t ∧ t < N) (hx0 : 0 ≤ x0 ∧ x0 ≤ 100) (hx1 : 0 ≤ x1 ∧ x1 ≤ 255) :
    Calls Try.prog 12 #[.int .i64 N, .int .i64 t, .agg #[.int .u8 x0, .int .u8 x1]] w fun e w' => e = .returned (.bool true) ∧ Below w.heap.size w w' := by
  have hb : Below w.heap.size w (w.alloc (.cells #[.int .u8 x0, .int .u8 x1] 97)) := (Below.refl _ _).alloc (Nat.le_refl _) _
  have hX : Blk (w.alloc (.cells #[.int .u8 x0, .int .u8 x1] 97)) w.heap.size #[.int .u8 x0, .int .u8 x1] 97 := Blk.new _ _ _
  have hM : May 1 N 1 := ⟨by omega⟩
  obtain ⟨n, hn⟩ : ∃ n : Nat, (n : Int) = 20 + 264 * 1 + 3 * N + 2 * 1 := ⟨(286 + 3 * N).toNat, by omega⟩
  have hL := lay_some 1 N 1 none 0 0 n (fun _ => 0) (fun _ => 0) (w.alloc (.cells #[.int .u8 x0, .int .u8 x1] 97)) (by omega) ⟨hM, by omega, by omega, by omega⟩ hn (fun h => absurd h (by omega)) (fun i h => absurd h (by omega))
  have hnt : Hid (0 ≤ noteAt 1 N t ∧ noteAt 1 N t < n) := note_in 1 (by omega) ht (by omega)
  have hn0 : 0 < n := by omega
  have hn6 : n ≤ 1000000 := by omega
  have d1 : decide (N < 1) = false := decide_eq_false (by omega)
  have d2 : decide (8 < N) = false := decide_eq_false (by omega)
  have d3 : decide (t < 0) = false := decide_eq_false (by omega)
  have d4 : decide (N ≤ t) = false := decide_eq_false (by omega)
  have d5 : decide (100 < x0) = false := decide_eq_false (by omega)
  have hHM : Hid (May 1 N 1) := hM
  obtain ⟨x, hx⟩ : ∃ x : Nat, x0 = (x : Int) := ⟨x0.toNat, by omega⟩
  subst hx
  have HB : Hid (Below w.heap.size w (w.alloc (.cells #[.int .u8 (x : Int), .int .u8 x1] 97))) := hb
  have HX : Hid _ := hX
  have hs0 : (w.alloc (.cells #[.int .u8 (x : Int), .int .u8 x1] 97)).heap.size = w.heap.size + 1 := World.size_alloc _ _
  clear hn hb hX hM
  go_enter Try.func12, Try.ntmps12
  go_wp2_with fail
  generalize hW : w.alloc (.cells #[.int .u8 (x : Int), .int .u8 x1] 97) = W at *
  go_at_call 32; refine hL.mono ?_; rintro e w1 ⟨cl, A, A', cap, cap', c, b, c', b', rfl, hLd⟩
  have hNB := note_begin hn0 hLd hHM.out t
  rw [show putF (fun _ => 0) (fun _ => 0) n 0 = fun _ => 0 from rfl] at hNB
  clear hL hLd
  go_wp2_with fail
  go_at_call 46; refine hNB.mono ?_; rintro e w2 ⟨x2, q, rfl, hO⟩
  have hO2 : Hid (NoteOn W w2 cl 1 N 1 A A' cap cap' c b c' b' n (fresh (fun _ => 0)) (fresh (fun _ => 0)) x2 q x2 0 t false) := hO
  clear hNB hO
  have hX2 := (HX.out.but (But.of_below (l := []) hO2.out.below) (by simp))
  have y0 := hX2.cell 0 (v := .int .u8 (x : Int)) rfl
  clear hX2
  go_wp2_with fail
  have hpk : Hid (peekT n (fresh (fun _ => 0)) (noteAt 1 N t) = 0) := by show peekT n _ _ = 0; unfold peekT; split <;> rfl
  have hck : Hid ((stp 1 t (noteAt 1 N t) 0 0 n (fresh (fun _ => 0))).clock = 1) := by show St.clock _ = 1; unfold stp; split <;> rfl
  generalize hnA : noteAt 1 N t = nt at *
  have hO2' : Hid (∀ w' S q g ph asl, NoteOn W w' cl 1 N 1 A A' cap cap' c b c' b' n S (fresh (fun _ => 0)) x2 q g ph t asl → Low S 1000000 → Calls Try.prog 51 #[.pointer (some ⟨x2, 0, none⟩), .pointer (some ⟨c, 0, none⟩)] w' fun e w'' => ∃ q' g', e = .returned (.bool (decide (slpP nt n ph S = 2))) ∧ NoteOn W w'' cl 1 N 1 A A' cap cap' c b c' b' n (slpS t nt n ph asl S) (fresh (fun _ => 0)) x2 q' g' (slpP nt n ph S) t (slpA nt n ph S)) := by
    intro w' S q g ph asl hO hl
    have := hO.step hn6 hl
    rw [hnA] at this
    exact this.mono fun e w'' ⟨q', g', h1, h2, _⟩ => ⟨q', g', h1, h2⟩
  go_loopw [12] (fun i wr => ∃ (k q g : Nat) (S : St) (asl : Bool), k ≤ x ∧ i = .int .i64 k ∧ Hid (NoteOn W wr cl 1 N 1 A A' cap cap' c b c' b' n S (fresh (fun _ => 0)) x2 q g 0 t asl) ∧ Hid ((k = 0 ∧ S = fresh (fun _ => 0) ∧ asl = false) ∨ (0 < k ∧ S = stp 1 t nt 0 0 n (fresh (fun _ => 0)) ∧ asl = true))) (fun i _ => x - (intOf i).toNat)
  case atStart => exact ⟨0, q, x2, _, _, Nat.zero_le _, rfl, hO2, .inl ⟨rfl, rfl, rfl⟩⟩
  case round =>
    clear hO2 y0
    obtain ⟨k, q, g, S, asl, hk, rfl, HO, HS⟩ := hrel
    have hX2 := (HX.out.but (But.of_below (l := []) HO.out.below) (by simp))
    have y0 := hX2.cell 0 (v := .int .u8 (x : Int)) rfl
    have y1 := hX2.cell 1 (v := .int .u8 x1) rfl
    clear hX2
    have hpS : Hid (peekT n S nt = 0) := by
      rcases HS.out with ⟨-, rfl, -⟩ | ⟨-, rfl, -⟩
      · exact hpk
      · show peekT n _ _ = 0; rw [peek_load]; exact hpk.out
    have hlS : Low S 1000 := by
      rcases HS.out with ⟨-, rfl, -⟩ | ⟨-, rfl, -⟩
      · exact (low_fresh _).more (by omega)
      · exact (stp_low (low_fresh _) _ _ _ _ _ _).more (by omega)
    have HlS : Hid (Low S 1000) := hlS
    clear hlS
    by_cases hlt : k < x
    · have k0 := hO2'.out wr S q g 0 asl HO.out (HlS.out.more (by omega))
      have e2 : slpS t nt n 0 asl S = stp 1 t nt 0 0 n (fresh (fun _ => 0)) := by
        rcases HS.out with ⟨-, rfl, rfl⟩ | ⟨-, rfl, rfl⟩
        · simp [slpS]
        · unfold slpS; rw [if_pos rfl, if_pos ⟨hpS.out, rfl⟩]
      rw [show slpP nt n 0 S = 0 by simp [slpP, hpS.out], show slpA nt n 0 S = true by simp [slpA, hpS.out], e2] at k0
      clear e2
      have hlt' : (k : Int) < (x : Int) := by omega
      go_wp2_with fail
      go_at_call 51; refine k0.mono ?_; rintro e w3 ⟨q3, g3, rfl, hO⟩
      have HO3 : Hid _ := hO
      clear k0 hO HO HS
      go_wp2_with fail
      go_roundw
      case rel => exact ⟨k + 1, q3, g3, _, _, by omega, by go_num, HO3.out, .inr ⟨by omega, rfl, rfl⟩⟩
      case measure => simp [intOf]; omega
    · obtain rfl : k = x := by omega
      rcases HS.out with ⟨h1, hS1, rfl⟩ | ⟨h1, hS1, rfl⟩
      · have hke : (k : Int) = 0 := by omega
        have hS1' : Hid (S = fresh (fun _ => 0)) := hS1
        clear hS1
        have hCk := clock_any wr A cap c b n S HO.out.mem
        rw [show S.clock = 0 from by rw [hS1'.out]; rfl] at hCk
        have hAk := HO.out.ask hn6
        rw [show (false && decide (peekT n S (noteAt 1 N t) = 0)) = false by rw [hnA, hpS.out]; rfl] at hAk
        by_cases hodd : x1 % 2 = 1
        · have hm : x1.tmod 2 = 1 := by rw [Int.tmod_eq_emod_of_nonneg hx1.1]; exact hodd
          clear hodd
          go_wp2_with fail
          go_at_call 30; refine hCk.mono ?_; rintro e w3 ⟨rfl, rfl⟩
          clear hCk
          go_wp2_with fail
          go_at_call 49; refine hAk.mono ?_; rintro e w4 ⟨rfl, hO, hb4⟩
          have HO4 : Hid _ := hO
          have z1 := ((HX.out.but (But.of_below (l := []) HO4.out.below) (by simp))).cell 1 (v := .int .u8 x1) rfl
          clear hAk hO HO HS y0 y1
          go_wp2_with fail
          go_at_call 44; refine (note_awake _).mono ?_; rintro e w5 ⟨rfl, hb5⟩
          have HO5 : Hid _ := HO4.out.still hb5
          have hD := HO5.out.isdone
          rw [show decide ((0 : Nat) = 2) = false from rfl] at hD
          have HB5 : Hid (Below w.heap.size w w5) := HB.out.trans (HO5.out.below.mono (by rw [hs0]; omega))
          clear hb5 HO4 z1
          go_wp2_with fail
          go_at_call 48; refine hD.mono ?_; rintro e w6 ⟨rfl, rfl⟩
          clear hD
          go_wp2_with fail
          go_ret
          exact ⟨rfl, HB5.out⟩
        · have hm : x1.tmod 2 = 0 := by rw [Int.tmod_eq_emod_of_nonneg hx1.1]; omega
          clear hodd
          go_wp2_with fail
          go_at_call 30; refine hCk.mono ?_; rintro e w3 ⟨rfl, rfl⟩
          clear hCk
          go_wp2_with fail
          go_at_call 49; refine hAk.mono ?_; rintro e w4 ⟨rfl, hO, hb4⟩
          have HO4 : Hid _ := hO
          have z1 := ((HX.out.but (But.of_below (l := []) HO4.out.below) (by simp))).cell 1 (v := .int .u8 x1) rfl
          have hWk := HO4.out.waker 0
          clear hAk hO HO HS y0 y1
          go_wp2_with fail
          go_at_call 54; refine hWk.mono ?_; rintro e w5 ⟨y, qy, gy, rfl, hO, hk5, hy⟩
          have hWs := hO.wakes hn6 (HlS.out.more (by omega)) hk5 hy
          have hp2 : Hid (peekT n (stp 2 0 (noteAt 1 N t) 0 1 n S) nt = 1) := by rw [hnA]; exact peek_store _ _ _ _ _ hnt.out
          have hl2 : Hid (Low (stp 2 0 (noteAt 1 N t) 0 1 n S) 1001) := stp_low HlS.out _ _ _ _ _ _
          generalize stp 2 0 (noteAt 1 N t) 0 1 n S = S2 at *
          clear hWk hO hk5 hy HO4 z1
          go_wp2_with fail
          go_at_call 53; refine hWs.mono ?_; rintro e w6 ⟨rfl, hO⟩
          have k1 := hO2'.out _ _ _ _ _ _ hO (hl2.out.more (by omega))
          have hl3 : Hid (Low (slpS t nt n 0 false S2) 1002) := slpS_low hl2.out _ _ _ _ _
          rw [show slpP nt n 0 S2 = 1 by simp [slpP, hp2.out], show slpA nt n 0 S2 = false by simp [slpA, hp2.out], show decide ((1 : Nat) = 2) = false from rfl] at k1
          generalize slpS t nt n 0 false S2 = S3 at *
          clear hWs hO
          go_wp2_with fail
          go_at_call 51; refine k1.mono ?_; rintro e w7 ⟨q7, g7, rfl, hO⟩
          have k2 := hO2'.out _ _ _ _ _ _ hO (hl3.out.more (by omega))
          have hp4 : Hid (peekT n (slpS t nt n 1 false S3) nt = 0) := by show peekT _ _ _ = 0; simp only [slpS]; exact peek_store _ _ _ _ _ hnt.out
          rw [show slpP nt n 1 S3 = 2 by simp [slpP], show slpA nt n 1 S3 = false by simp [slpA], show decide ((2 : Nat) = 2) = true from rfl] at k2
          generalize slpS t nt n 1 false S3 = S4 at *
          clear k1 hO
          go_wp2_with fail
          go_at_call 51; refine k2.mono ?_; rintro e w8 ⟨q8, g8, rfl, hO⟩
          have HO8 : Hid _ := hO
          clear k2 hO
          go_wp2_with fail
          go_at_call 44; refine (note_awake _).mono ?_; rintro e w9 ⟨rfl, hb9⟩
          have hAw := (HO8.out.still hb9).awake hn6
          rw [show decide (peekT n S4 (noteAt 1 N t) ≠ 0) = false by rw [hnA, hp4.out]; rfl] at hAw
          clear hb9 HO8
          go_wp2_with fail
          go_at_call 50; refine hAw.mono ?_; rintro e wa ⟨rfl, hO, -⟩
          have HB5 : Hid (Below w.heap.size w wa) := HB.out.trans (hO.below.mono (by rw [hs0]; omega))
          clear hAw hO
          go_wp2_with fail
          go_ret
          exact ⟨rfl, HB5.out⟩
      · have hS1' : Hid (S = stp 1 t nt 0 0 n (fresh (fun _ => 0))) := hS1
        clear hS1
        by_cases hk1 : k = 1
        · have hke : (k : Int) = 1 := by omega
          have hCk := clock_any wr A cap c b n S HO.out.mem
          rw [show S.clock = 1 from by rw [hS1'.out]; exact hck.out] at hCk
          have hAk := HO.out.ask hn6
          rw [show (true && decide (peekT n S (noteAt 1 N t) = 0)) = true by rw [hnA, hpS.out]; rfl] at hAk
          by_cases hodd : x1 % 2 = 1
          · have hm : x1.tmod 2 = 1 := by rw [Int.tmod_eq_emod_of_nonneg hx1.1]; exact hodd
            clear hodd
            go_wp2_with fail
            go_at_call 30; refine hCk.mono ?_; rintro e w3 ⟨rfl, rfl⟩
            clear hCk
            go_wp2_with fail
            go_at_call 49; refine hAk.mono ?_; rintro e w4 ⟨rfl, hO, hb4⟩
            have HO4 : Hid _ := hO
            have z1 := ((HX.out.but (But.of_below (l := []) HO4.out.below) (by simp))).cell 1 (v := .int .u8 x1) rfl
            clear hAk hO HO HS y0 y1
            go_wp2_with fail
            go_at_call 44; refine (note_awake _).mono ?_; rintro e w5 ⟨rfl, hb5⟩
            have HO5 : Hid _ := HO4.out.still hb5
            have hD := HO5.out.isdone
            rw [show decide ((0 : Nat) = 2) = false from rfl] at hD
            have HB5 : Hid (Below w.heap.size w w5) := HB.out.trans (HO5.out.below.mono (by rw [hs0]; omega))
            clear hb5 HO4 z1
            go_wp2_with fail
            go_at_call 48; refine hD.mono ?_; rintro e w6 ⟨rfl, rfl⟩
            clear hD
            go_wp2_with fail
            go_ret
            exact ⟨rfl, HB5.out⟩
          · have hm : x1.tmod 2 = 0 := by rw [Int.tmod_eq_emod_of_nonneg hx1.1]; omega
            clear hodd
            go_wp2_with fail
            go_at_call 30; refine hCk.mono ?_; rintro e w3 ⟨rfl, rfl⟩
            clear hCk
            go_wp2_with fail
            go_at_call 49; refine hAk.mono ?_; rintro e w4 ⟨rfl, hO, hb4⟩
            have HO4 : Hid _ := hO
            have z1 := ((HX.out.but (But.of_below (l := []) HO4.out.below) (by simp))).cell 1 (v := .int .u8 x1) rfl
            have hWk := HO4.out.waker 0
            clear hAk hO HO HS y0 y1
            go_wp2_with fail
            go_at_call 54; refine hWk.mono ?_; rintro e w5 ⟨y, qy, gy, rfl, hO, hk5, hy⟩
            have hWs := hO.wakes hn6 (HlS.out.more (by omega)) hk5 hy
            have hp2 : Hid (peekT n (stp 2 0 (noteAt 1 N t) 0 1 n S) nt = 1) := by rw [hnA]; exact peek_store _ _ _ _ _ hnt.out
            have hl2 : Hid (Low (stp 2 0 (noteAt 1 N t) 0 1 n S) 1001) := stp_low HlS.out _ _ _ _ _ _
            generalize stp 2 0 (noteAt 1 N t) 0 1 n S = S2 at *
            clear hWk hO hk5 hy HO4 z1
            go_wp2_with fail
            go_at_call 53; refine hWs.mono ?_; rintro e w6 ⟨rfl, hO⟩
            have k1 := hO2'.out _ _ _ _ _ _ hO (hl2.out.more (by omega))
            have hl3 : Hid (Low (slpS t nt n 0 true S2) 1002) := slpS_low hl2.out _ _ _ _ _
            rw [show slpP nt n 0 S2 = 1 by simp [slpP, hp2.out], show slpA nt n 0 S2 = false by simp [slpA, hp2.out], show decide ((1 : Nat) = 2) = false from rfl] at k1
            generalize slpS t nt n 0 true S2 = S3 at *
            clear hWs hO
            go_wp2_with fail
            go_at_call 51; refine k1.mono ?_; rintro e w7 ⟨q7, g7, rfl, hO⟩
            have k2 := hO2'.out _ _ _ _ _ _ hO (hl3.out.more (by omega))
            have hp4 : Hid (peekT n (slpS t nt n 1 false S3) nt = 0) := by show peekT _ _ _ = 0; simp only [slpS]; exact peek_store _ _ _ _ _ hnt.out
            rw [show slpP nt n 1 S3 = 2 by simp [slpP], show slpA nt n 1 S3 = false by simp [slpA], show decide ((2 : Nat) = 2) = true from rfl] at k2
            generalize slpS t nt n 1 false S3 = S4 at *
            clear k1 hO
            go_wp2_with fail
            go_at_call 51; refine k2.mono ?_; rintro e w8 ⟨q8, g8, rfl, hO⟩
            have HO8 : Hid _ := hO
            clear k2 hO
            go_wp2_with fail
            go_at_call 44; refine (note_awake _).mono ?_; rintro e w9 ⟨rfl, hb9⟩
            have hAw := (HO8.out.still hb9).awake hn6
            rw [show decide (peekT n S4 (noteAt 1 N t) ≠ 0) = false by rw [hnA, hp4.out]; rfl] at hAw
            clear hb9 HO8
            go_wp2_with fail
            go_at_call 50; refine hAw.mono ?_; rintro e wa ⟨rfl, hO, -⟩
            have HB5 : Hid (Below w.heap.size w wa) := HB.out.trans (hO.below.mono (by rw [hs0]; omega))
            clear hAw hO
            go_wp2_with fail
            go_ret
            exact ⟨rfl, HB5.out⟩
        · have hke : (1 : Int) < (k : Int) := by omega
          have hCk := clock_any wr A cap c b n S HO.out.mem
          rw [show S.clock = 1 from by rw [hS1'.out]; exact hck.out] at hCk
          have hAk := HO.out.ask hn6
          rw [show (true && decide (peekT n S (noteAt 1 N t) = 0)) = true by rw [hnA, hpS.out]; rfl] at hAk
          by_cases hodd : x1 % 2 = 1
          · have hm : x1.tmod 2 = 1 := by rw [Int.tmod_eq_emod_of_nonneg hx1.1]; exact hodd
            clear hodd
            go_wp2_with fail
            go_at_call 30; refine hCk.mono ?_; rintro e w3 ⟨rfl, rfl⟩
            clear hCk
            go_wp2_with fail
            go_at_call 49; refine hAk.mono ?_; rintro e w4 ⟨rfl, hO, hb4⟩
            have HO4 : Hid _ := hO
            have z1 := ((HX.out.but (But.of_below (l := []) HO4.out.below) (by simp))).cell 1 (v := .int .u8 x1) rfl
            clear hAk hO HO HS y0 y1
            go_wp2_with fail
            go_at_call 44; refine (note_awake _).mono ?_; rintro e w5 ⟨rfl, hb5⟩
            have HO5 : Hid _ := HO4.out.still hb5
            have hD := HO5.out.isdone
            rw [show decide ((0 : Nat) = 2) = false from rfl] at hD
            have HB5 : Hid (Below w.heap.size w w5) := HB.out.trans (HO5.out.below.mono (by rw [hs0]; omega))
            clear hb5 HO4 z1
            go_wp2_with fail
            go_at_call 48; refine hD.mono ?_; rintro e w6 ⟨rfl, rfl⟩
            clear hD
            go_wp2_with fail
            go_ret
            exact ⟨rfl, HB5.out⟩
          · have hm : x1.tmod 2 = 0 := by rw [Int.tmod_eq_emod_of_nonneg hx1.1]; omega
            clear hodd
            go_wp2_with fail
            go_at_call 30; refine hCk.mono ?_; rintro e w3 ⟨rfl, rfl⟩
            clear hCk
            go_wp2_with fail
            go_at_call 49; refine hAk.mono ?_; rintro e w4 ⟨rfl, hO, hb4⟩
            have HO4 : Hid _ := hO
            have z1 := ((HX.out.but (But.of_below (l := []) HO4.out.below) (by simp))).cell 1 (v := .int .u8 x1) rfl
            have hWk := HO4.out.waker 0
            clear hAk hO HO HS y0 y1
            go_wp2_with fail
            go_at_call 54; refine hWk.mono ?_; rintro e w5 ⟨y, qy, gy, rfl, hO, hk5, hy⟩
            have hWs := hO.wakes hn6 (HlS.out.more (by omega)) hk5 hy
            have hp2 : Hid (peekT n (stp 2 0 (noteAt 1 N t) 0 1 n S) nt = 1) := by rw [hnA]; exact peek_store _ _ _ _ _ hnt.out
            have hl2 : Hid (Low (stp 2 0 (noteAt 1 N t) 0 1 n S) 1001) := stp_low HlS.out _ _ _ _ _ _
            generalize stp 2 0 (noteAt 1 N t) 0 1 n S = S2 at *
            clear hWk hO hk5 hy HO4 z1
            go_wp2_with fail
            go_at_call 53; refine hWs.mono ?_; rintro e w6 ⟨rfl, hO⟩
            have k1 := hO2'.out _ _ _ _ _ _ hO (hl2.out.more (by omega))
            have hl3 : Hid (Low (slpS t nt n 0 true S2) 1002) := slpS_low hl2.out _ _ _ _ _
            rw [show slpP nt n 0 S2 = 1 by simp [slpP, hp2.out], show slpA nt n 0 S2 = false by simp [slpA, hp2.out], show decide ((1 : Nat) = 2) = false from rfl] at k1
            generalize slpS t nt n 0 true S2 = S3 at *
            clear hWs hO
            go_wp2_with fail
            go_at_call 51; refine k1.mono ?_; rintro e w7 ⟨q7, g7, rfl, hO⟩
            have k2 := hO2'.out _ _ _ _ _ _ hO (hl3.out.more (by omega))
            have hp4 : Hid (peekT n (slpS t nt n 1 false S3) nt = 0) := by show peekT _ _ _ = 0; simp only [slpS]; exact peek_store _ _ _ _ _ hnt.out
            rw [show slpP nt n 1 S3 = 2 by simp [slpP], show slpA nt n 1 S3 = false by simp [slpA], show decide ((2 : Nat) = 2) = true from rfl] at k2
            generalize slpS t nt n 1 false S3 = S4 at *
            clear k1 hO
            go_wp2_with fail
            go_at_call 51; refine k2.mono ?_; rintro e w8 ⟨q8, g8, rfl, hO⟩
            have HO8 : Hid _ := hO
            clear k2 hO
            go_wp2_with fail
            go_at_call 44; refine (note_awake _).mono ?_; rintro e w9 ⟨rfl, hb9⟩
            have hAw := (HO8.out.still hb9).awake hn6
            rw [show decide (peekT n S4 (noteAt 1 N t) ≠ 0) = false by rw [hnA, hp4.out]; rfl] at hAw
            clear hb9 HO8
            go_wp2_with fail
            go_at_call 50; refine hAw.mono ?_; rintro e wa ⟨rfl, hO, -⟩
            have HB5 : Hid (Below w.heap.size w wa) := HB.out.trans (hO.below.mono (by rw [hs0]; omega))
            clear hAw hO
            go_wp2_with fail
            go_ret
            exact ⟨rfl, HB5.out⟩

theorem noteKeeps_walk (N t x0 x1 : Int) (w : World) (hx0 : 0 ≤ x0 ∧ x0 ≤ 255) (hx1 : 0 ≤ x1 ∧ x1 ≤ 255) :
    Calls Try.prog 12 #[.int .i64 N, .int .i64 t, .agg #[.int .u8 x0, .int .u8 x1]] w fun e w' => e = .returned (.bool true) ∧ Below w.heap.size w w' := by
  by_cases h : N < 1 ∨ 8 < N ∨ t < 0 ∨ N ≤ t ∨ 100 < x0
  · exact noteKeeps_bad N t x0 x1 w hx0 h
  · exact noteKeeps_ok N t x0 x1 w (by omega) (by omega) (by omega) hx1
end Go.Proofs.Ytjbkhnolnlcjnaa
