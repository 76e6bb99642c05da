/- The walk of the law LockSteps. -/
import Derived.Test.YtjbkhnolnlcjnaaPk
import Derived.Test.YtjbkhnolnlcjnaaAGot
import Derived.Test.YtjbkhnolnlcjnaaLock4
import Derived.Test.YtjbkhnolnlcjnaaNWakes
import Derived.Test.YtjbkhnolnlcjnaaOpen2
namespace Go.Proofs.Ytjbkhnolnlcjnaa
open Go Go.RowKit
set_option linter.unusedVariables false
set_option maxRecDepth 100000
set_option linter.unusedSimpArgs false


theorem lockSteps_bad (P T G x0 x1 : Int) (E F : Option Addr) (m cp mp cq : Nat) (a v : Nat → Int) (w : World) (hm : m ≤ 9223372036854775807) (hmp : mp ≤ 9223372036854775807) (hs : SeesP w w.heap.size E m a v) (hv : ∀ i, i < m → 0 ≤ v i ∧ v i ≤ 18446744073709551615) (h : (¬ FewC P T G ∨ 400 < m) ∨ 100 < mp ∨ x0 < 0 ∨ 1 < x0 ∨ x1 < 0 ∨ 300 < x1) :
    Calls Try.prog 6 #[.agg #[.int .i64 P, .int .i64 T, .int .i64 G, .slice E m cp], .agg #[.int .i64 x0, .int .i64 x1], .slice F mp cq] w fun e w' => e = .returned (.bool true) ∧ Below w.heap.size w w' := by
  have hsz : ((w.alloc (.cells #[.int .i64 P, .int .i64 T, .int .i64 G, .slice E m cp] 67)).alloc (.cells #[.int .i64 x0, .int .i64 x1] 68)).heap.size = w.heap.size + 1 + 1 := by simp
  have HB : Hid (Below w.heap.size w ((w.alloc (.cells #[.int .i64 P, .int .i64 T, .int .i64 G, .slice E m cp] 67)).alloc (.cells #[.int .i64 x0, .int .i64 x1] 68))) := ((Below.refl _ _).alloc (Nat.le_refl _) _).alloc (by simp) _
  have hX : Hid (Blk ((w.alloc (.cells #[.int .i64 P, .int .i64 T, .int .i64 G, .slice E m cp] 67)).alloc (.cells #[.int .i64 x0, .int .i64 x1] 68)) (w.heap.size + 1) #[.int .i64 x0, .int .i64 x1] 68) := by
    have := Blk.new (w.alloc (.cells #[.int .i64 P, .int .i64 T, .int .i64 G, .slice E m cp] 67)) #[.int .i64 x0, .int .i64 x1] 68
    rwa [World.size_alloc] at this
  by_cases hf : ¬ FewC P T G ∨ 400 < m
  · have hL := lay_none P T G E m cp ((w.alloc (.cells #[.int .i64 P, .int .i64 T, .int .i64 G, .slice E m cp] 67)).alloc (.cells #[.int .i64 x0, .int .i64 x1] 68)) hm hf
    clear h hf hs hv
    go_enter Try.func6, Try.ntmps6
    go_wp2_with fail
    generalize (w.alloc (.cells #[.int .i64 P, .int .i64 T, .int .i64 G, .slice E m cp] 67)).alloc (.cells #[.int .i64 x0, .int .i64 x1] 68) = W at *
    go_at_call 32; refine hL.mono ?_; rintro e w1 ⟨rfl, h1⟩
    have HB1 : Hid (Below w.heap.size w w1) := HB.out.trans (h1.mono (by omega))
    have hX1 := hX.out.but (But.of_below (l := []) h1) (by simp)
    have y0 := hX1.cell 0 (v := .int .i64 x0) rfl
    have y1 := hX1.cell 1 (v := .int .i64 x1) rfl
    clear hL h1 hX1
    go_wp2_with fail
    go_quiet (fail)
    go_wp2_with fail
    go_at_call 33; refine (lock_awake _).mono ?_; rintro e w2 ⟨rfl, h2⟩
    have h3 := seq (Below.drewN' HB1.out nq) h2
    go_wp2_with fail
    go_ret
    exact ⟨rfl, h3⟩
  · have hF : FewC P T G := Decidable.byContradiction fun h => hf (.inl h)
    have hm4 : m ≤ 400 := by omega
    have hM := hF.h.1.h
    obtain ⟨n, hn⟩ : ∃ n : Nat, (n : Int) = 20 + 264 * P + 3 * T + 2 * G := ⟨(20 + 264 * P + 3 * T + 2 * G).toNat, by omega⟩
    have hL := lay_some P T G E m cp n a v _ hm4 hF hn ((hs.up (.cells #[.int .i64 P, .int .i64 T, .int .i64 G, .slice E m cp] 67)).up (.cells #[.int .i64 x0, .int .i64 x1] 68)) hv
    have htt : 100 < mp ∨ x0 < 0 ∨ 1 < x0 ∨ x1 < 0 ∨ 300 < x1 := by rcases h with h | h; exact absurd h hf; exact h
    clear h hf hs hv hn hF hM
    by_cases q1 : 100 < mp
    · clear htt
      go_enter Try.func6, Try.ntmps6
      go_wp2_with fail
      generalize (w.alloc (.cells #[.int .i64 P, .int .i64 T, .int .i64 G, .slice E m cp] 67)).alloc (.cells #[.int .i64 x0, .int .i64 x1] 68) = W at *
      go_at_call 32; refine hL.mono ?_; rintro e w1 ⟨cl, A, A', cap, cap', c, b, c', b', rfl, hLd⟩
      have HB1 : Hid (Below w.heap.size w w1) := HB.out.trans (hLd.below.mono (by omega))
      have hX1 := hX.out.but (But.of_below (l := []) hLd.below) (by simp)
      have y0 := hX1.cell 0 (v := .int .i64 x0) rfl
      have y1 := hX1.cell 1 (v := .int .i64 x1) rfl
      clear hL hLd hX1
      go_wp2_with fail
      go_quiet (fail)
      go_wp2_with fail
      go_at_call 33; refine (lock_awake _).mono ?_; rintro e w2 ⟨rfl, h2⟩
      have h3 := seq (Below.drewN' HB1.out nq) h2
      go_wp2_with fail
      go_ret
      exact ⟨rfl, h3⟩
    have d1 : decide ((100 : Int) < (mp : Int)) = false := decide_eq_false (by omega)
    by_cases q2 : x0 < 0
    · clear htt
      go_enter Try.func6, Try.ntmps6
      go_wp2_with fail
      generalize (w.alloc (.cells #[.int .i64 P, .int .i64 T, .int .i64 G, .slice E m cp] 67)).alloc (.cells #[.int .i64 x0, .int .i64 x1] 68) = W at *
      go_at_call 32; refine hL.mono ?_; rintro e w1 ⟨cl, A, A', cap, cap', c, b, c', b', rfl, hLd⟩
      have HB1 : Hid (Below w.heap.size w w1) := HB.out.trans (hLd.below.mono (by omega))
      have hX1 := hX.out.but (But.of_below (l := []) hLd.below) (by simp)
      have y0 := hX1.cell 0 (v := .int .i64 x0) rfl
      have y1 := hX1.cell 1 (v := .int .i64 x1) rfl
      clear hL hLd hX1
      go_wp2_with fail
      go_quiet (fail)
      go_wp2_with fail
      go_at_call 33; refine (lock_awake _).mono ?_; rintro e w2 ⟨rfl, h2⟩
      have h3 := seq (Below.drewN' HB1.out nq) h2
      go_wp2_with fail
      go_ret
      exact ⟨rfl, h3⟩
    have d2 : decide (x0 < 0) = false := decide_eq_false q2
    by_cases q3 : 1 < x0
    · clear htt
      go_enter Try.func6, Try.ntmps6
      go_wp2_with fail
      generalize (w.alloc (.cells #[.int .i64 P, .int .i64 T, .int .i64 G, .slice E m cp] 67)).alloc (.cells #[.int .i64 x0, .int .i64 x1] 68) = W at *
      go_at_call 32; refine hL.mono ?_; rintro e w1 ⟨cl, A, A', cap, cap', c, b, c', b', rfl, hLd⟩
      have HB1 : Hid (Below w.heap.size w w1) := HB.out.trans (hLd.below.mono (by omega))
      have hX1 := hX.out.but (But.of_below (l := []) hLd.below) (by simp)
      have y0 := hX1.cell 0 (v := .int .i64 x0) rfl
      have y1 := hX1.cell 1 (v := .int .i64 x1) rfl
      clear hL hLd hX1
      go_wp2_with fail
      go_quiet (fail)
      go_wp2_with fail
      go_at_call 33; refine (lock_awake _).mono ?_; rintro e w2 ⟨rfl, h2⟩
      have h3 := seq (Below.drewN' HB1.out nq) h2
      go_wp2_with fail
      go_ret
      exact ⟨rfl, h3⟩
    have d3 : decide (1 < x0) = false := decide_eq_false q3
    by_cases q4 : x1 < 0
    · clear htt
      go_enter Try.func6, Try.ntmps6
      go_wp2_with fail
      generalize (w.alloc (.cells #[.int .i64 P, .int .i64 T, .int .i64 G, .slice E m cp] 67)).alloc (.cells #[.int .i64 x0, .int .i64 x1] 68) = W at *
      go_at_call 32; refine hL.mono ?_; rintro e w1 ⟨cl, A, A', cap, cap', c, b, c', b', rfl, hLd⟩
      have HB1 : Hid (Below w.heap.size w w1) := HB.out.trans (hLd.below.mono (by omega))
      have hX1 := hX.out.but (But.of_below (l := []) hLd.below) (by simp)
      have y0 := hX1.cell 0 (v := .int .i64 x0) rfl
      have y1 := hX1.cell 1 (v := .int .i64 x1) rfl
      clear hL hLd hX1
      go_wp2_with fail
      go_quiet (fail)
      go_wp2_with fail
      go_at_call 33; refine (lock_awake _).mono ?_; rintro e w2 ⟨rfl, h2⟩
      have h3 := seq (Below.drewN' HB1.out nq) h2
      go_wp2_with fail
      go_ret
      exact ⟨rfl, h3⟩
    have d4 : decide (x1 < 0) = false := decide_eq_false q4
    have q5 : 300 < x1 := by omega
    clear htt
    go_enter Try.func6, Try.ntmps6
    go_wp2_with fail
    generalize (w.alloc (.cells #[.int .i64 P, .int .i64 T, .int .i64 G, .slice E m cp] 67)).alloc (.cells #[.int .i64 x0, .int .i64 x1] 68) = W at *
    go_at_call 32; refine hL.mono ?_; rintro e w1 ⟨cl, A, A', cap, cap', c, b, c', b', rfl, hLd⟩
    have HB1 : Hid (Below w.heap.size w w1) := HB.out.trans (hLd.below.mono (by omega))
    have hX1 := hX.out.but (But.of_below (l := []) hLd.below) (by simp)
    have y0 := hX1.cell 0 (v := .int .i64 x0) rfl
    have y1 := hX1.cell 1 (v := .int .i64 x1) rfl
    clear hL hLd hX1
    go_wp2_with fail
    go_quiet (fail)
    go_wp2_with fail
    go_at_call 33; refine (lock_awake _).mono ?_; rintro e w2 ⟨rfl, h2⟩
    have h3 := seq (Below.drewN' HB1.out nq) h2
    go_wp2_with fail
    go_ret
    exact ⟨rfl, h3⟩

set_option maxHeartbeats 4000000 in
theorem lockSteps_ok (P T G x0 x1 : Int) (E F : Option Addr) (m cp mp cq : Nat) (a v : Nat → Int) (Pks : Nat → Pk) (w : World) (hm : m ≤ 400) (hF : FewC P T G) (hmp : mp ≤ 100) (hs : SeesP w w.heap.size E m a v) (hv : ∀ i, i < m → 0 ≤ v i ∧ v i ≤ 18446744073709551615) (hP : SeesC w w.heap.size F mp 6 (pkC Pks)) (hpv : ∀ j, j < mp → 0 ≤ (Pks j).v ∧ (Pks j).v ≤ 18446744073709551615) (hx0 : 0 ≤ x0 ∧ x0 ≤ 1) (hx1 : 0 ≤ x1 ∧ x1 ≤ 300) :
    Calls Try.prog 6 #[.agg #[.int .i64 P, .int .i64 T, .int .i64 G, .slice E m cp], .agg #[.int .i64 x0, .int .i64 x1], .slice F mp cq] w fun e w' => e = .returned (.bool true) ∧ Below w.heap.size w w' := by
  have hsz : ((w.alloc (.cells #[.int .i64 P, .int .i64 T, .int .i64 G, .slice E m cp] 67)).alloc (.cells #[.int .i64 x0, .int .i64 x1] 68)).heap.size = w.heap.size + 1 + 1 := by simp
  have HB : Hid (Below w.heap.size w ((w.alloc (.cells #[.int .i64 P, .int .i64 T, .int .i64 G, .slice E m cp] 67)).alloc (.cells #[.int .i64 x0, .int .i64 x1] 68))) := ((Below.refl _ _).alloc (Nat.le_refl _) _).alloc (by simp) _
  have hX : Hid (Blk ((w.alloc (.cells #[.int .i64 P, .int .i64 T, .int .i64 G, .slice E m cp] 67)).alloc (.cells #[.int .i64 x0, .int .i64 x1] 68)) (w.heap.size + 1) #[.int .i64 x0, .int .i64 x1] 68) := by
    have := Blk.new (w.alloc (.cells #[.int .i64 P, .int .i64 T, .int .i64 G, .slice E m cp] 67)) #[.int .i64 x0, .int .i64 x1] 68
    rwa [World.size_alloc] at this
  have hM := hF.h.1.h
  obtain ⟨n, hn⟩ : ∃ n : Nat, (n : Int) = 20 + 264 * P + 3 * T + 2 * G := ⟨(20 + 264 * P + 3 * T + 2 * G).toNat, by omega⟩
  have hn6 : n ≤ 1000000 := by have := hF.h; omega
  have hL := lay_some P T G E m cp n a v _ hm hF hn ((hs.up (.cells #[.int .i64 P, .int .i64 T, .int .i64 G, .slice E m cp] 67)).up (.cells #[.int .i64 x0, .int .i64 x1] 68)) hv
  have d1 : decide ((100 : Int) < (mp : Int)) = false := decide_eq_false (by omega)
  have d2 : decide (x0 < 0) = false := decide_eq_false (by omega)
  have d3 : decide (1 < x0) = false := decide_eq_false (by omega)
  have d4 : decide (x1 < 0) = false := decide_eq_false (by omega)
  have d5 : decide (300 < x1) = false := decide_eq_false (by omega)
  have HP : Hid (SeesC w w.heap.size F mp 6 (pkC Pks)) := hP
  have HPV : Hid (∀ j, j < mp → 0 ≤ (Pks j).v ∧ (Pks j).v ≤ 18446744073709551615) := hpv
  clear hs hv hn hF hM hP hpv
  go_enter Try.func6, Try.ntmps6
  go_wp2_with fail
  generalize (w.alloc (.cells #[.int .i64 P, .int .i64 T, .int .i64 G, .slice E m cp] 67)).alloc (.cells #[.int .i64 x0, .int .i64 x1] 68) = W at *
  go_at_call 32; refine hL.mono ?_; rintro e w1 ⟨cl, A, A', cap, cap', c, b, c', b', rfl, hLd⟩
  have HL : Hid (Laid W w1 P T G n (putF a v n m) cl A A' cap cap' c b c' b') := hLd
  have HB1 : Hid (Below w.heap.size w w1) := HB.out.trans (hLd.below.mono (by omega))
  have hX1 := hX.out.but (But.of_below (l := []) hLd.below) (by simp)
  have y0 := hX1.cell 0 (v := .int .i64 x0) rfl
  have y1 := hX1.cell 1 (v := .int .i64 x1) rfl
  clear hL hLd hX1
  go_wp2_with fail
  go_quiet (fail)
  have hT1 : Hid (Two (w1.drewN nq) A A' cap cap' c b c' b' n (fresh (putF a v n m))) := HL.out.two.below (Below.drewN' (Below.refl _ _) nq)
  have HB2 : Hid (Below w.heap.size w (w1.drewN nq)) := Below.drewN' HB1.out nq
  obtain ⟨u1, u2, u3, u4, u5⟩ := HL.out.up
  have hup : Hid (w.heap.size ≤ c ∧ w.heap.size ≤ b ∧ w.heap.size ≤ c' ∧ w.heap.size ≤ b') := ⟨by omega, by omega, by omega, by omega⟩
  generalize w1.drewN nq = w2 at *
  clear HL HB1 y0 y1 u1 u2 u3 u4 u5
  have hN := lock_new w2 cl x0 x1
  rw [show wd 0 2 3 x0 0 = 3 * x0 by rw [wd_lock x0 0 hx0 (by omega)]; omega, wd_lock x0 1 hx0 (by omega), wd_lock x0 2 hx0 (by omega)] at hN
  go_wp2_with fail
  go_at_call 34; refine hN.mono ?_; rintro e w3 ⟨x, q, rfl, hr1, hr2, hb3, hu1, hu2, hu3⟩
  have HO0 : Hid (PokeOn w w3 A A' cap cap' c b c' b' n (fresh (putF a v n m)) (fresh (putF a v n m)) none 0 0 (fun _ => 0) [x, q, x]) := poke_begin hT1.out hb3 HB2.out hup.out (by
    have e1 := hr1.lt; have e2 := hr2.lt
    intro k hk; simp at hk; rcases hk with rfl | rfl | rfl <;> constructor <;> omega)
  have HM0 : Hid (Acq w3 x x1 (3 * x0) (3 * x0 + 1) (3 * x0 + 2) q x 0 0) := .fresh q hr1 hr2 (by omega)
  clear hN hr1 hr2 hb3 hu1 hu2 hu3 hT1 HB2
  go_wp2_with fail
  go_loopw [14, 15] (fun gv i wr => ∃ (k : Nat) (s : St) (Ag : Option Addr) (capg m : Nat) (gf : Nat → Int) (q g ph : Nat) (t : Int), k ≤ mp ∧ i = .int .i64 k ∧ gv = .slice Ag m capg ∧ m ≤ k ∧ Hid (PokeOn w wr A A' cap cap' c b c' b' n s s Ag capg m gf [x, q, g]) ∧ Hid (Acq wr x x1 (3 * x0) (3 * x0 + 1) (3 * x0 + 2) q g ph t) ∧ Hid (Low s (k : Int)) ∧ Hid (AcqGot m gf ph t)) (fun _ i _ => mp - (intOf i).toNat)
  case atStart => exact ⟨0, _, none, 0, 0, _, q, x, 0, 0, Nat.zero_le _, rfl, rfl, by omega, HO0, HM0, (low_fresh _), ⟨.inl ⟨rfl, rfl, rfl⟩, fun h => absurd h (by omega)⟩⟩
  case round =>
    clear HO0 HM0
    obtain ⟨k, s, Ag, capg, mg, gf, q, g, ph, t, hk, rfl, rfl, hmg, HO, HM, HLW, HG⟩ := hrel
    by_cases hlt : k < mp
    · obtain ⟨fb, foff, rfl, hfb, hcell⟩ := HP.out (by omega)
      have hcw : Hid (∀ i u, (pkC Pks k)[i]? = some u → wr.cell? ⟨fb, foff + k * 6 + i, none⟩ = some u) := fun i u hu => (HO.out.below.cell (p := ⟨fb, foff + k * 6 + i, none⟩) hfb).trans (hcell k hlt i u hu)
      have pz := hcw.out 0 (.bool (Pks k).z) rfl
      have hk0 : (0 : Int) ≤ (k : Int) := Int.natCast_nonneg _
      have hk1 : (k : Int) < (mp : Int) := by omega
      clear hcell
      rw [Nat.add_zero] at pz
      cases hz : (Pks k).z
      · rw [hz] at pz
        have HRA : Hid (wr.rangeAt fb (foff + k * 6 + 1) [.int .i64 (Pks k).k, .int .i64 (Pks k).p, .int .i64 (Pks k).i, .int .u64 (Pks k).o, .int .u64 (Pks k).v]) := fun j u hu => by
          have := hcw.out (1 + j) u (by rw [show pkC Pks k = .bool (Pks k).z :: [.int .i64 (Pks k).k, .int .i64 (Pks k).p, .int .i64 (Pks k).i, .int .u64 (Pks k).o, .int .u64 (Pks k).v] from rfl, Nat.add_comm 1 j, List.getElem?_cons_succ]; exact hu)
          rw [← Nat.add_assoc] at this
          exact this
        clear hz hcw
        go_wp2_with (refine wpList_load_mid rfl 36 _ rfl fb (foff + k * 6 + 1) rfl [.int .i64 (Pks k).k, .int .i64 (Pks k).p, .int .i64 (Pks k).i, .int .u64 (Pks k).o, .int .u64 (Pks k).v] _ HRA.out Try.underlying36 rfl (by kernel_rfl) ?_)
        go_at_call 17; refine (HO.out.poke hn6 (HLW.out.more (by omega)) (Pks k).k (Pks k).p (Pks k).i (Pks k).o (Pks k).v (HPV.out k hlt)).mono ?_; rintro e w9 ⟨rfl, hO, hB⟩
        have HO9 : Hid _ := hO
        have HM9 : Hid (Acq w9 x x1 (3 * x0) (3 * x0 + 1) (3 * x0 + 2) q g ph t) := HM.out.but hB (by obtain ⟨h1, h2, h3, h4⟩ := (HO.out.far x (by simp)).1; simp [h1, h2, h3, h4]) (by obtain ⟨h1, h2, h3, h4⟩ := (HO.out.far q (by simp)).1; simp [h1, h2, h3, h4]) (by obtain ⟨h1, h2, h3, h4⟩ := (HO.out.far g (by simp)).1; simp [h1, h2, h3, h4])
        have HLW9 : Hid (Low (actS (Pks k).k (Pks k).p (Pks k).i (Pks k).o (Pks k).v n s) (((k + 1 : Nat)) : Int)) := (actS_low HLW.out _ _ _ _ _ _).more (by omega)
        clear hO hB HO HM HRA pz
        go_wp2_with fail
        go_roundw
        case rel => exact ⟨k + 1, _, Ag, capg, mg, gf, q, g, ph, t, by omega, by go_num, rfl, by omega, HO9, HM9, HLW9, HG⟩
        case measure => simp [intOf]; omega
      · rw [hz] at pz
        clear hz hcw
        have hR0 : Hid (RunOn (wr.alloc (.cells (runL (.slice Ag mg capg) rn0).toArray 43)) wr.heap.size Ag capg mg gf rn0) := run_starts HO.out.got (by omega)
        have hb0 : Hid (Below wr.heap.size wr (wr.alloc (.cells (runL (.slice Ag mg capg) rn0).toArray 43))) := (Below.refl _ _).alloc (Nat.le_refl _) _
        have hRR := racq_on _ _ Ag capg mg gf rn0 hR0.out x0 x1 hx0 hx1 HG.out.low
        rw [HG.out.run] at hRR
        have hph : ph = 0 ∨ ph = 1 ∨ ph = 2 ∨ ph = 3 := by rcases HG.out.h with h | h | h | h <;> omega
        rcases hph with rfl | rfl | rfl | rfl
        · rw [show acqRn x0 x1 mg 0 = (⟨0, true, 4, 3 * x0, 0, 1, false⟩ : Rn) from rfl] at hRR
          obtain ⟨rfl, rfl⟩ : mg = 0 ∧ t = 0 := by rcases HG.out.h with h | h | h | h <;> omega
          have hTn := fun w4 (hM4 : Acq w4 x x1 (3 * x0) (3 * x0 + 1) (3 * x0 + 2) q g 0 0) => (let ⟨nx, hx⟩ := hM4.cells; turn_any w4 x x1 (3 * x0 + 1) (3 * x0 + 2) 0 nx _ hx)
          rw [show decide (0 ≠ 0) = false from rfl] at hTn
          go_wp2_with fail
          go_at_call 35; refine hRR.mono ?_; rintro e w4 ⟨rfl, hR4, hB4⟩
          have hb4 : Below wr.heap.size wr w4 := hb0.out.trans (hB4.below (by simp) (by simp))
          have HO4 : Hid (PokeOn w w4 A A' cap cap' c b c' b' n s s Ag capg 0 gf [x, q, g]) := HO.out.still hb4
          have HM4 : Hid (Acq w4 x x1 (3 * x0) (3 * x0 + 1) (3 * x0 + 2) q g 0 0) := HM.out.but (But.of_below (l := []) hb4) (by simp) (by simp) (by simp)
          have hR4' : Hid (RunOn w4 wr.heap.size Ag capg 0 gf ⟨0, true, 4, 3 * x0, 0, 1, false⟩) := hR4
          have hT4 := hTn w4 HM4.out
          clear hRR hR4 hB4 hR0 hb0 hb4 HO HM hTn
          go_wp2_with fail
          go_at_call 36; refine hT4.mono ?_; rintro e w4b ⟨rfl, zz, hzz⟩
          have hbz : Below w4.heap.size w4 w4b := by rw [hzz]; exact Below.drewN' (Below.refl _ _) zz
          have HM4b : Hid (Acq w4b x x1 (3 * x0) (3 * x0 + 1) (3 * x0 + 2) q g 0 0) := HM4.out.but (But.of_below (l := []) hbz) (by simp) (by simp) (by simp)
          clear hzz
          have s2 := (hR4'.out.below hbz).blk.cell 2 (v := .bool true) rfl
          have HD : Hid (∀ z, Calls Try.prog 37 #[.pointer (some ⟨x, 0, none⟩)] (w4b.drewN z) fun e w' => e = .returned (.bool false) ∧ w' = w4b.drewN z) := fun z => by
            obtain ⟨nx, hx1, hx2⟩ := HM4b.out.next
            have := acq_done (w4b.drewN z) x nx hx1
            rw [hx2, show decide (0 = 3) = false from rfl] at this
            exact this.mono fun _ _ h => ⟨h.1, h.2.symm⟩
          clear hT4
          go_wp2_with fail
          go_quiet ((go_at_call 37; exact Calls.quiet_of_same (HD.out _)))
          have hbq : Below w4.heap.size w4 (w4b.drewN nq) := Below.drewN' hbz nq
          have HO5 : Hid (PokeOn w (w4b.drewN nq) A A' cap cap' c b c' b' n s s Ag capg 0 gf [x, q, g]) := HO4.out.still hbq
          have HM5 : Hid (Acq (w4b.drewN nq) x x1 (3 * x0) (3 * x0 + 1) (3 * x0 + 2) q g 0 0) := HM4.out.but (But.of_below (l := []) hbq) (by simp) (by simp) (by simp)
          have hRg : Hid ((w4b.drewN nq).rangeAt wr.heap.size 0 (runL (.slice Ag 0 capg) ⟨0, true, 4, 3 * x0, 0, 1, false⟩)) := (hR4'.out.below hbq).range
          generalize w4b.drewN nq = w5 at *
          clear HD HO4 HM4 HM4b hR4' s2 pz hbq hbz
          have hTu := turn_does w5 Ag capg 0 gf ⟨0, true, 4, 3 * x0, 0, 1, false⟩ A' cap' c' b' n s x1 rfl (fun h => by cases h) (show (1 : Int) ≤ 4 ∧ (4 : Int) ≤ 4 from by omega) ((fun h => absurd (show (4 : Int) = 1 from h) (by omega))) (show (0 : Int) ≤ 1 ∧ (1 : Int) ≤ 18446744073709551615 from by omega) hn6 (by omega) (HLW.out.more (by omega)) HO5.out.ref HO5.out.got (HO5.out.gfar.of (by intro k hk; simp at hk ⊢; omega))
          rw [show actS 4 x1 (3 * x0) 0 (1) n s = acqS x1 (3 * x0) (3 * x0 + 1) (3 * x0 + 2) n 0 s by simp [actS, acqS], show actA 4 (3 * x0) 0 (1) n s = ans 4 (3 * x0) 0 1 n s by simp [actA]] at hTu
          go_wp2_with (refine wpList_load_mid rfl 43 _ rfl wr.heap.size 0 rfl (runL (.slice Ag 0 capg) ⟨0, true, 4, 3 * x0, 0, 1, false⟩) _ hRg.out Try.underlying43 rfl (by kernel_rfl) ?_; clear hRg)
          go_at_call 22; refine hTu.mono ?_; rintro e w6 ⟨gb, cap2, rfl, hG6, hI6, hB6, hg6⟩
          have HO6 : Hid (PokeOn w w6 A A' cap cap' c b c' b' n s (acqS x1 (3 * x0) (3 * x0 + 1) (3 * x0 + 2) n 0 s) (some ⟨gb, 0, none⟩) cap2 (0 + 1) _ [x, q, g]) := HO5.out.turned hG6 hI6 hB6 hg6
          have HM6 : Hid (Acq w6 x x1 (3 * x0) (3 * x0 + 1) (3 * x0 + 2) q g 0 0) := HM5.out.but hB6 (HO5.out.apart (by simp)) (HO5.out.apart (by simp)) (HO5.out.apart (by simp))
          have HG6 : Hid _ := HG.out.snoc0 (n := n) (s := s) (tk := 3 * x0) (sv := 3 * x0 + 1)
          clear hTu hG6 hI6 hB6 hg6 HO5 HM5 HG
          have hSt := acq_on w6 A cap c b n s x q g 0 x1 (3 * x0) (3 * x0 + 1) (3 * x0 + 2) 0 HO6.out.mem hn6 (HLW.out.more (by omega)) (by omega) HM6.out ⟨(HO6.out.far x (by simp)).1.1, (HO6.out.far x (by simp)).1.2.1, (HO6.out.far q (by simp)).1.1, (HO6.out.far q (by simp)).1.2.1, (HO6.out.far g (by simp)).1.1, (HO6.out.far g (by simp)).1.2.1⟩
          rw [show decide (acqP (3 * x0) (3 * x0 + 1) n 0 0 s = 3) = false from rfl] at hSt
          go_wp2_with fail
          go_at_call 38; refine hSt.mono ?_; rintro e w7 ⟨q7, g7, rfl, hM7, hI7, hB7, hF7, hq7, hg7⟩
          have HM7 : Hid _ := hM7
          have hlt7 := hM7.lt
          have HO7 : Hid (PokeOn w w7 A A' cap cap' c b c' b' n _ _ (some ⟨gb, 0, none⟩) cap2 (0 + 1) _ [x, q7, g7]) := HO6.out.stepped hI7 hB7 (by intro k hk; simp at hk ⊢; omega) (by
            intro k hk
            simp only [List.mem_cons, List.not_mem_nil, or_false] at hk
            rcases hk with rfl | rfl | rfl
            · exact ⟨.inl (by simp), hlt7.1⟩
            · exact ⟨by rcases hq7 with e | e; exact .inl (by simp [e]); exact .inr e, hlt7.2.1⟩
            · exact ⟨by rcases hg7 with e | e; exact .inl (by simp [e]); exact .inr e, hlt7.2.2⟩)
          have HLW7 : Hid (Low (acqS x1 (3 * x0) (3 * x0 + 1) (3 * x0 + 2) n 0 s) ((k + 1 : Nat) : Int)) := (acqS_low HLW.out _ _ _ _ _ _).more (by omega)
          generalize acqS x1 (3 * x0) (3 * x0 + 1) (3 * x0 + 2) n 0 s = s' at *
          clear hSt hM7 hI7 hB7 hF7 hq7 hg7 hlt7 HO6 HM6
          have hAl := alike_any w7 A A' cap cap' c b c' b' n s' hn6 HO7.out.two
          go_wp2_with fail
          go_at_call 24; refine hAl.mono ?_; rintro e w8 ⟨rfl, hb8⟩
          have HO8 : Hid _ := HO7.out.still hb8
          have HM8 : Hid _ := HM7.out.but (But.of_below (l := []) hb8) (by simp) (by simp) (by simp)
          clear hAl hb8 HO7 HM7
          go_wp2_with fail
          go_roundw
          case rel => exact ⟨k + 1, s', some ⟨gb, 0, none⟩, cap2, 0 + 1, _, q7, g7, _, _, by omega, by go_num, rfl, by omega, HO8.out, HM8.out, HLW7, HG6.out⟩
          case measure => simp [intOf]; omega
        · rw [show acqRn x0 x1 mg 1 = (⟨mg, true, 1, 3 * x0 + 1, 0, 0, false⟩ : Rn) from rfl] at hRR
          rw [HG.out.turn (by omega)] at hRR
          have hmp0 : 0 < mg := by rcases HG.out.h with h | h | h | h <;> omega
          have hmd : decide ((0 : Int) < (mg : Int)) = true := decide_eq_true (by omega)
          have hmn : decide (0 < mg) = true := decide_eq_true hmp0
          have hTn := fun w4 (hM4 : Acq w4 x x1 (3 * x0) (3 * x0 + 1) (3 * x0 + 2) q g 1 t) => (let ⟨nx, hx⟩ := hM4.cells; turn_any w4 x x1 (3 * x0 + 1) (3 * x0 + 2) t nx _ hx)
          rw [show decide (1 ≠ 0) = true from rfl] at hTn
          go_wp2_with fail
          go_at_call 35; refine hRR.mono ?_; rintro e w4 ⟨rfl, hR4, hB4⟩
          have hb4 : Below wr.heap.size wr w4 := hb0.out.trans (hB4.below (by simp) (by simp))
          have HO4 : Hid (PokeOn w w4 A A' cap cap' c b c' b' n s s Ag capg mg gf [x, q, g]) := HO.out.still hb4
          have HM4 : Hid (Acq w4 x x1 (3 * x0) (3 * x0 + 1) (3 * x0 + 2) q g 1 t) := HM.out.but (But.of_below (l := []) hb4) (by simp) (by simp) (by simp)
          have hR4' : Hid (RunOn w4 wr.heap.size Ag capg mg gf ⟨mg, true, 1, 3 * x0 + 1, 0, 0, false⟩) := hR4
          have hT4 := hTn w4 HM4.out
          clear hRR hR4 hB4 hR0 hb0 hb4 HO HM hTn
          go_wp2_with fail
          go_at_call 36; refine hT4.mono ?_; rintro e w4b ⟨rfl, zz, hzz⟩
          have hbz : Below w4.heap.size w4 w4b := by rw [hzz]; exact Below.drewN' (Below.refl _ _) zz
          have HM4b : Hid (Acq w4b x x1 (3 * x0) (3 * x0 + 1) (3 * x0 + 2) q g 1 t) := HM4.out.but (But.of_below (l := []) hbz) (by simp) (by simp) (by simp)
          clear hzz
          have s2 := (hR4'.out.below hbz).blk.cell 2 (v := .bool true) rfl
          have HD : Hid (∀ z, Calls Try.prog 37 #[.pointer (some ⟨x, 0, none⟩)] (w4b.drewN z) fun e w' => e = .returned (.bool false) ∧ w' = w4b.drewN z) := fun z => by
            obtain ⟨nx, hx1, hx2⟩ := HM4b.out.next
            have := acq_done (w4b.drewN z) x nx hx1
            rw [hx2, show decide (1 = 3) = false from rfl] at this
            exact this.mono fun _ _ h => ⟨h.1, h.2.symm⟩
          clear hT4
          go_wp2_with fail
          go_quiet ((go_at_call 37; exact Calls.quiet_of_same (HD.out _)))
          have hbq : Below w4.heap.size w4 (w4b.drewN nq) := Below.drewN' hbz nq
          have HO5 : Hid (PokeOn w (w4b.drewN nq) A A' cap cap' c b c' b' n s s Ag capg mg gf [x, q, g]) := HO4.out.still hbq
          have HM5 : Hid (Acq (w4b.drewN nq) x x1 (3 * x0) (3 * x0 + 1) (3 * x0 + 2) q g 1 t) := HM4.out.but (But.of_below (l := []) hbq) (by simp) (by simp) (by simp)
          have hRg : Hid ((w4b.drewN nq).rangeAt wr.heap.size 0 (runL (.slice Ag mg capg) ⟨mg, true, 1, 3 * x0 + 1, 0, 0, false⟩)) := (hR4'.out.below hbq).range
          generalize w4b.drewN nq = w5 at *
          clear HD HO4 HM4 HM4b hR4' s2 pz hbq hbz
          have hTu := turn_does w5 Ag capg mg gf ⟨mg, true, 1, 3 * x0 + 1, 0, 0, false⟩ A' cap' c' b' n s x1 rfl (fun h => by cases h) (show (1 : Int) ≤ 1 ∧ (1 : Int) ≤ 4 from by omega) (fun _ => rfl) (show (0 : Int) ≤ 0 ∧ (0 : Int) ≤ 18446744073709551615 from by omega) hn6 (by omega) (HLW.out.more (by omega)) HO5.out.ref HO5.out.got (HO5.out.gfar.of (by intro k hk; simp at hk ⊢; omega))
          rw [show actS 1 x1 (3 * x0 + 1) 0 (0) n s = acqS x1 (3 * x0) (3 * x0 + 1) (3 * x0 + 2) n 1 s by simp [actS, acqS], show actA 1 (3 * x0 + 1) 0 (0) n s = ans 1 (3 * x0 + 1) 0 0 n s by simp [actA]] at hTu
          go_wp2_with (refine wpList_load_mid rfl 43 _ rfl wr.heap.size 0 rfl (runL (.slice Ag mg capg) ⟨mg, true, 1, 3 * x0 + 1, 0, 0, false⟩) _ hRg.out Try.underlying43 rfl (by kernel_rfl) ?_; clear hRg)
          go_at_call 22; refine hTu.mono ?_; rintro e w6 ⟨gb, cap2, rfl, hG6, hI6, hB6, hg6⟩
          have HO6 : Hid (PokeOn w w6 A A' cap cap' c b c' b' n s (acqS x1 (3 * x0) (3 * x0 + 1) (3 * x0 + 2) n 1 s) (some ⟨gb, 0, none⟩) cap2 (mg + 1) _ [x, q, g]) := HO5.out.turned hG6 hI6 hB6 hg6
          have HM6 : Hid (Acq w6 x x1 (3 * x0) (3 * x0 + 1) (3 * x0 + 2) q g 1 t) := HM5.out.but hB6 (HO5.out.apart (by simp)) (HO5.out.apart (by simp)) (HO5.out.apart (by simp))
          have HG6 : Hid _ := HG.out.snoc1 (n := n) (s := s) (tk := 3 * x0) (sv := 3 * x0 + 1)
          clear hTu hG6 hI6 hB6 hg6 HO5 HM5 HG
          have hSt := acq_on w6 A cap c b n s x q g 1 x1 (3 * x0) (3 * x0 + 1) (3 * x0 + 2) t HO6.out.mem hn6 (HLW.out.more (by omega)) (by omega) HM6.out ⟨(HO6.out.far x (by simp)).1.1, (HO6.out.far x (by simp)).1.2.1, (HO6.out.far q (by simp)).1.1, (HO6.out.far q (by simp)).1.2.1, (HO6.out.far g (by simp)).1.1, (HO6.out.far g (by simp)).1.2.1⟩
          rw [show decide (acqP (3 * x0) (3 * x0 + 1) n 1 t s = 3) = false by unfold acqP; rw [if_neg (by omega), if_pos rfl]; split <;> rfl] at hSt
          go_wp2_with fail
          go_at_call 38; refine hSt.mono ?_; rintro e w7 ⟨q7, g7, rfl, hM7, hI7, hB7, hF7, hq7, hg7⟩
          have HM7 : Hid _ := hM7
          have hlt7 := hM7.lt
          have HO7 : Hid (PokeOn w w7 A A' cap cap' c b c' b' n _ _ (some ⟨gb, 0, none⟩) cap2 (mg + 1) _ [x, q7, g7]) := HO6.out.stepped hI7 hB7 (by intro k hk; simp at hk ⊢; omega) (by
            intro k hk
            simp only [List.mem_cons, List.not_mem_nil, or_false] at hk
            rcases hk with rfl | rfl | rfl
            · exact ⟨.inl (by simp), hlt7.1⟩
            · exact ⟨by rcases hq7 with e | e; exact .inl (by simp [e]); exact .inr e, hlt7.2.1⟩
            · exact ⟨by rcases hg7 with e | e; exact .inl (by simp [e]); exact .inr e, hlt7.2.2⟩)
          have HLW7 : Hid (Low (acqS x1 (3 * x0) (3 * x0 + 1) (3 * x0 + 2) n 1 s) ((k + 1 : Nat) : Int)) := (acqS_low HLW.out _ _ _ _ _ _).more (by omega)
          generalize acqS x1 (3 * x0) (3 * x0 + 1) (3 * x0 + 2) n 1 s = s' at *
          clear hSt hM7 hI7 hB7 hF7 hq7 hg7 hlt7 HO6 HM6
          have hAl := alike_any w7 A A' cap cap' c b c' b' n s' hn6 HO7.out.two
          go_wp2_with fail
          go_at_call 24; refine hAl.mono ?_; rintro e w8 ⟨rfl, hb8⟩
          have HO8 : Hid _ := HO7.out.still hb8
          have HM8 : Hid _ := HM7.out.but (But.of_below (l := []) hb8) (by simp) (by simp) (by simp)
          clear hAl hb8 HO7 HM7
          go_wp2_with fail
          go_roundw
          case rel => exact ⟨k + 1, s', some ⟨gb, 0, none⟩, cap2, mg + 1, _, q7, g7, _, _, by omega, by go_num, rfl, by omega, HO8.out, HM8.out, HLW7, HG6.out⟩
          case measure => simp [intOf]; omega
        · rw [show acqRn x0 x1 mg 2 = (⟨mg, true, 2, 3 * x0 + 2, 0, x1 + 1, false⟩ : Rn) from rfl] at hRR
          rw [HG.out.turn (by omega)] at hRR
          have hmp0 : 0 < mg := by rcases HG.out.h with h | h | h | h <;> omega
          have hmd : decide ((0 : Int) < (mg : Int)) = true := decide_eq_true (by omega)
          have hmn : decide (0 < mg) = true := decide_eq_true hmp0
          have hTn := fun w4 (hM4 : Acq w4 x x1 (3 * x0) (3 * x0 + 1) (3 * x0 + 2) q g 2 t) => (let ⟨nx, hx⟩ := hM4.cells; turn_any w4 x x1 (3 * x0 + 1) (3 * x0 + 2) t nx _ hx)
          rw [show decide (2 ≠ 0) = true from rfl] at hTn
          go_wp2_with fail
          go_at_call 35; refine hRR.mono ?_; rintro e w4 ⟨rfl, hR4, hB4⟩
          have hb4 : Below wr.heap.size wr w4 := hb0.out.trans (hB4.below (by simp) (by simp))
          have HO4 : Hid (PokeOn w w4 A A' cap cap' c b c' b' n s s Ag capg mg gf [x, q, g]) := HO.out.still hb4
          have HM4 : Hid (Acq w4 x x1 (3 * x0) (3 * x0 + 1) (3 * x0 + 2) q g 2 t) := HM.out.but (But.of_below (l := []) hb4) (by simp) (by simp) (by simp)
          have hR4' : Hid (RunOn w4 wr.heap.size Ag capg mg gf ⟨mg, true, 2, 3 * x0 + 2, 0, x1 + 1, false⟩) := hR4
          have hT4 := hTn w4 HM4.out
          clear hRR hR4 hB4 hR0 hb0 hb4 HO HM hTn
          go_wp2_with fail
          go_at_call 36; refine hT4.mono ?_; rintro e w4b ⟨rfl, zz, hzz⟩
          have hbz : Below w4.heap.size w4 w4b := by rw [hzz]; exact Below.drewN' (Below.refl _ _) zz
          have HM4b : Hid (Acq w4b x x1 (3 * x0) (3 * x0 + 1) (3 * x0 + 2) q g 2 t) := HM4.out.but (But.of_below (l := []) hbz) (by simp) (by simp) (by simp)
          clear hzz
          have s2 := (hR4'.out.below hbz).blk.cell 2 (v := .bool true) rfl
          have HD : Hid (∀ z, Calls Try.prog 37 #[.pointer (some ⟨x, 0, none⟩)] (w4b.drewN z) fun e w' => e = .returned (.bool false) ∧ w' = w4b.drewN z) := fun z => by
            obtain ⟨nx, hx1, hx2⟩ := HM4b.out.next
            have := acq_done (w4b.drewN z) x nx hx1
            rw [hx2, show decide (2 = 3) = false from rfl] at this
            exact this.mono fun _ _ h => ⟨h.1, h.2.symm⟩
          clear hT4
          go_wp2_with fail
          go_quiet ((go_at_call 37; exact Calls.quiet_of_same (HD.out _)))
          have hbq : Below w4.heap.size w4 (w4b.drewN nq) := Below.drewN' hbz nq
          have HO5 : Hid (PokeOn w (w4b.drewN nq) A A' cap cap' c b c' b' n s s Ag capg mg gf [x, q, g]) := HO4.out.still hbq
          have HM5 : Hid (Acq (w4b.drewN nq) x x1 (3 * x0) (3 * x0 + 1) (3 * x0 + 2) q g 2 t) := HM4.out.but (But.of_below (l := []) hbq) (by simp) (by simp) (by simp)
          have hRg : Hid ((w4b.drewN nq).rangeAt wr.heap.size 0 (runL (.slice Ag mg capg) ⟨mg, true, 2, 3 * x0 + 2, 0, x1 + 1, false⟩)) := (hR4'.out.below hbq).range
          generalize w4b.drewN nq = w5 at *
          clear HD HO4 HM4 HM4b hR4' s2 pz hbq hbz
          have hTu := turn_does w5 Ag capg mg gf ⟨mg, true, 2, 3 * x0 + 2, 0, x1 + 1, false⟩ A' cap' c' b' n s x1 rfl (fun h => by cases h) (show (1 : Int) ≤ 2 ∧ (2 : Int) ≤ 4 from by omega) ((fun h => absurd (show (2 : Int) = 1 from h) (by omega))) (show (0 : Int) ≤ x1 + 1 ∧ (x1 + 1 : Int) ≤ 18446744073709551615 from by omega) hn6 (by omega) (HLW.out.more (by omega)) HO5.out.ref HO5.out.got (HO5.out.gfar.of (by intro k hk; simp at hk ⊢; omega))
          rw [show actS 2 x1 (3 * x0 + 2) 0 (x1 + 1) n s = acqS x1 (3 * x0) (3 * x0 + 1) (3 * x0 + 2) n 2 s by simp [actS, acqS], show actA 2 (3 * x0 + 2) 0 (x1 + 1) n s = 0 by simp [actA]] at hTu
          go_wp2_with (refine wpList_load_mid rfl 43 _ rfl wr.heap.size 0 rfl (runL (.slice Ag mg capg) ⟨mg, true, 2, 3 * x0 + 2, 0, x1 + 1, false⟩) _ hRg.out Try.underlying43 rfl (by kernel_rfl) ?_; clear hRg)
          go_at_call 22; refine hTu.mono ?_; rintro e w6 ⟨gb, cap2, rfl, hG6, hI6, hB6, hg6⟩
          have HO6 : Hid (PokeOn w w6 A A' cap cap' c b c' b' n s (acqS x1 (3 * x0) (3 * x0 + 1) (3 * x0 + 2) n 2 s) (some ⟨gb, 0, none⟩) cap2 (mg + 1) _ [x, q, g]) := HO5.out.turned hG6 hI6 hB6 hg6
          have HM6 : Hid (Acq w6 x x1 (3 * x0) (3 * x0 + 1) (3 * x0 + 2) q g 2 t) := HM5.out.but hB6 (HO5.out.apart (by simp)) (HO5.out.apart (by simp)) (HO5.out.apart (by simp))
          have HG6 : Hid _ := HG.out.snoc2 (n := n) (s := s) (tk := 3 * x0) (sv := 3 * x0 + 1)
          clear hTu hG6 hI6 hB6 hg6 HO5 HM5 HG
          have hSt := acq_on w6 A cap c b n s x q g 2 x1 (3 * x0) (3 * x0 + 1) (3 * x0 + 2) t HO6.out.mem hn6 (HLW.out.more (by omega)) (by omega) HM6.out ⟨(HO6.out.far x (by simp)).1.1, (HO6.out.far x (by simp)).1.2.1, (HO6.out.far q (by simp)).1.1, (HO6.out.far q (by simp)).1.2.1, (HO6.out.far g (by simp)).1.1, (HO6.out.far g (by simp)).1.2.1⟩
          rw [show decide (acqP (3 * x0) (3 * x0 + 1) n 2 t s = 3) = true from rfl] at hSt
          go_wp2_with fail
          go_at_call 38; refine hSt.mono ?_; rintro e w7 ⟨q7, g7, rfl, hM7, hI7, hB7, hF7, hq7, hg7⟩
          have HM7 : Hid _ := hM7
          have hlt7 := hM7.lt
          have HO7 : Hid (PokeOn w w7 A A' cap cap' c b c' b' n _ _ (some ⟨gb, 0, none⟩) cap2 (mg + 1) _ [x, q7, g7]) := HO6.out.stepped hI7 hB7 (by intro k hk; simp at hk ⊢; omega) (by
            intro k hk
            simp only [List.mem_cons, List.not_mem_nil, or_false] at hk
            rcases hk with rfl | rfl | rfl
            · exact ⟨.inl (by simp), hlt7.1⟩
            · exact ⟨by rcases hq7 with e | e; exact .inl (by simp [e]); exact .inr e, hlt7.2.1⟩
            · exact ⟨by rcases hg7 with e | e; exact .inl (by simp [e]); exact .inr e, hlt7.2.2⟩)
          have HLW7 : Hid (Low (acqS x1 (3 * x0) (3 * x0 + 1) (3 * x0 + 2) n 2 s) ((k + 1 : Nat) : Int)) := (acqS_low HLW.out _ _ _ _ _ _).more (by omega)
          generalize acqS x1 (3 * x0) (3 * x0 + 1) (3 * x0 + 2) n 2 s = s' at *
          clear hSt hM7 hI7 hB7 hF7 hq7 hg7 hlt7 HO6 HM6
          have hAl := alike_any w7 A A' cap cap' c b c' b' n s' hn6 HO7.out.two
          go_wp2_with fail
          go_at_call 24; refine hAl.mono ?_; rintro e w8 ⟨rfl, hb8⟩
          have HO8 : Hid _ := HO7.out.still hb8
          have HM8 : Hid _ := HM7.out.but (But.of_below (l := []) hb8) (by simp) (by simp) (by simp)
          clear hAl hb8 HO7 HM7
          go_wp2_with fail
          go_roundw
          case rel => exact ⟨k + 1, s', some ⟨gb, 0, none⟩, cap2, mg + 1, _, q7, g7, _, _, by omega, by go_num, rfl, by omega, HO8.out, HM8.out, HLW7, HG6.out⟩
          case measure => simp [intOf]; omega
        · rw [show acqRn x0 x1 mg 3 = (⟨mg, false, 0, 0, 0, 0, false⟩ : Rn) from rfl] at hRR
          rw [HG.out.turn (by omega)] at hRR
          have hmp0 : 0 < mg := by rcases HG.out.h with h | h | h | h <;> omega
          have hmd : decide ((0 : Int) < (mg : Int)) = true := decide_eq_true (by omega)
          have hmn : decide (0 < mg) = true := decide_eq_true hmp0
          have hTn := fun w4 (hM4 : Acq w4 x x1 (3 * x0) (3 * x0 + 1) (3 * x0 + 2) q g 3 t) => (let ⟨nx, hx⟩ := hM4.cells; turn_any w4 x x1 (3 * x0 + 1) (3 * x0 + 2) t nx _ hx)
          rw [show decide (3 ≠ 0) = true from rfl] at hTn
          go_wp2_with fail
          go_at_call 35; refine hRR.mono ?_; rintro e w4 ⟨rfl, hR4, hB4⟩
          have hb4 : Below wr.heap.size wr w4 := hb0.out.trans (hB4.below (by simp) (by simp))
          have HO4 : Hid (PokeOn w w4 A A' cap cap' c b c' b' n s s Ag capg mg gf [x, q, g]) := HO.out.still hb4
          have HM4 : Hid (Acq w4 x x1 (3 * x0) (3 * x0 + 1) (3 * x0 + 2) q g 3 t) := HM.out.but (But.of_below (l := []) hb4) (by simp) (by simp) (by simp)
          have hR4' : Hid (RunOn w4 wr.heap.size Ag capg mg gf ⟨mg, false, 0, 0, 0, 0, false⟩) := hR4
          have hT4 := hTn w4 HM4.out
          clear hRR hR4 hB4 hR0 hb0 hb4 HO HM hTn
          go_wp2_with fail
          go_at_call 36; refine hT4.mono ?_; rintro e w4b ⟨rfl, zz, hzz⟩
          have hbz : Below w4.heap.size w4 w4b := by rw [hzz]; exact Below.drewN' (Below.refl _ _) zz
          have HM4b : Hid (Acq w4b x x1 (3 * x0) (3 * x0 + 1) (3 * x0 + 2) q g 3 t) := HM4.out.but (But.of_below (l := []) hbz) (by simp) (by simp) (by simp)
          clear hzz
          have s2 := (hR4'.out.below hbz).blk.cell 2 (v := .bool false) rfl
          have HD : Hid (∀ z, Calls Try.prog 37 #[.pointer (some ⟨x, 0, none⟩)] (w4b.drewN z) fun e w' => e = .returned (.bool true) ∧ w' = w4b.drewN z) := fun z => by
            obtain ⟨nx, hx1, hx2⟩ := HM4b.out.next
            have := acq_done (w4b.drewN z) x nx hx1
            rw [hx2, show decide (3 = 3) = true from rfl] at this
            exact this.mono fun _ _ h => ⟨h.1, h.2.symm⟩
          clear hT4
          go_wp2_with fail
          go_quiet ((go_at_call 37; exact Calls.quiet_of_same (HD.out _)))
          have hbq : Below w4.heap.size w4 (w4b.drewN nq) := Below.drewN' hbz nq
          have HO5 : Hid (PokeOn w (w4b.drewN nq) A A' cap cap' c b c' b' n s s Ag capg mg gf [x, q, g]) := HO4.out.still hbq
          have HM5 : Hid (Acq (w4b.drewN nq) x x1 (3 * x0) (3 * x0 + 1) (3 * x0 + 2) q g 3 t) := HM4.out.but (But.of_below (l := []) hbq) (by simp) (by simp) (by simp)
          have hRg : Hid ((w4b.drewN nq).rangeAt wr.heap.size 0 (runL (.slice Ag mg capg) ⟨mg, false, 0, 0, 0, 0, false⟩)) := (hR4'.out.below hbq).range
          generalize w4b.drewN nq = w5 at *
          clear HD HO4 HM4 HM4b hR4' s2 pz hbq hbz
          have hTu := turn_go w5 Ag capg mg ⟨mg, false, 0, 0, 0, 0, false⟩ c' x1 rfl
          go_wp2_with (refine wpList_load_mid rfl 43 _ rfl wr.heap.size 0 rfl (runL (.slice Ag mg capg) ⟨mg, false, 0, 0, 0, 0, false⟩) _ hRg.out Try.underlying43 rfl (by kernel_rfl) ?_; clear hRg)
          go_at_call 22; refine hTu.mono ?_; rintro e w6 ⟨rfl, hb6⟩
          have HO6 : Hid (PokeOn w w6 A A' cap cap' c b c' b' n s (acqS x1 (3 * x0) (3 * x0 + 1) (3 * x0 + 2) n 3 s) Ag capg mg gf [x, q, g]) := HO5.out.still hb6
          have HM6 : Hid (Acq w6 x x1 (3 * x0) (3 * x0 + 1) (3 * x0 + 2) q g 3 t) := HM5.out.but (But.of_below (l := []) hb6) (by simp) (by simp) (by simp)
          clear hTu hb6 HO5 HM5
          have hSt := acq_on w6 A cap c b n s x q g 3 x1 (3 * x0) (3 * x0 + 1) (3 * x0 + 2) t HO6.out.mem hn6 (HLW.out.more (by omega)) (by omega) HM6.out ⟨(HO6.out.far x (by simp)).1.1, (HO6.out.far x (by simp)).1.2.1, (HO6.out.far q (by simp)).1.1, (HO6.out.far q (by simp)).1.2.1, (HO6.out.far g (by simp)).1.1, (HO6.out.far g (by simp)).1.2.1⟩
          rw [show decide (acqP (3 * x0) (3 * x0 + 1) n 3 t s = 3) = true from rfl] at hSt
          go_wp2_with fail
          go_at_call 38; refine hSt.mono ?_; rintro e w7 ⟨q7, g7, rfl, hM7, hI7, hB7, hF7, hq7, hg7⟩
          have HM7 : Hid _ := hM7
          have hlt7 := hM7.lt
          have HO7 : Hid (PokeOn w w7 A A' cap cap' c b c' b' n _ _ Ag capg mg _ [x, q7, g7]) := HO6.out.stepped hI7 hB7 (by intro k hk; simp at hk ⊢; omega) (by
            intro k hk
            simp only [List.mem_cons, List.not_mem_nil, or_false] at hk
            rcases hk with rfl | rfl | rfl
            · exact ⟨.inl (by simp), hlt7.1⟩
            · exact ⟨by rcases hq7 with e | e; exact .inl (by simp [e]); exact .inr e, hlt7.2.1⟩
            · exact ⟨by rcases hg7 with e | e; exact .inl (by simp [e]); exact .inr e, hlt7.2.2⟩)
          have HLW7 : Hid (Low (acqS x1 (3 * x0) (3 * x0 + 1) (3 * x0 + 2) n 3 s) ((k + 1 : Nat) : Int)) := (acqS_low HLW.out _ _ _ _ _ _).more (by omega)
          generalize acqS x1 (3 * x0) (3 * x0 + 1) (3 * x0 + 2) n 3 s = s' at *
          clear hSt hM7 hI7 hB7 hF7 hq7 hg7 hlt7 HO6 HM6
          have hAl := alike_any w7 A A' cap cap' c b c' b' n s' hn6 HO7.out.two
          go_wp2_with fail
          go_at_call 24; refine hAl.mono ?_; rintro e w8 ⟨rfl, hb8⟩
          have HO8 : Hid _ := HO7.out.still hb8
          have HM8 : Hid _ := HM7.out.but (But.of_below (l := []) hb8) (by simp) (by simp) (by simp)
          clear hAl hb8 HO7 HM7
          go_wp2_with fail
          go_roundw
          case rel => exact ⟨k + 1, s', Ag, capg, mg, _, q7, g7, _, _, by omega, by go_num, rfl, by omega, HO8.out, HM8.out, HLW7, HG.out⟩
          case measure => simp [intOf]; omega
    · obtain rfl : k = mp := by omega
      have HT := HO.out.two
      have HTS : Hid (∀ Y, Below wr.heap.size wr Y → Two Y A A' cap cap' c b c' b' n s) := fun Y hY => HT.below hY
      have hH : Hid (wr.drew.cell? ⟨c', 0, none⟩ = some (.slice A' n cap') ∧ Below wr.heap.size wr wr.drew) := ⟨HT.r.cells.1, (Below.refl _ _).drew⟩
      have KEEP : Hid (∀ X w' : World, (X.cell? ⟨c', 0, none⟩ = some (.slice A' n cap') ∧ Below wr.heap.size wr X) → Below X.heap.size X w' → (w'.cell? ⟨c', 0, none⟩ = some (.slice A' n cap') ∧ Below wr.heap.size wr w')) := fun X w' h k => ⟨(HTS.out _ (h.2.trans (k.mono h.2.size))).r.cells.1, h.2.trans (k.mono h.2.size)⟩
      have HB9 : Hid (Below w.heap.size w wr) := HO.out.below
      clear HT HO
      go_wp2_with fail
      go_region_held3 (fun w' => w'.cell? ⟨c', 0, none⟩ = some (.slice A' n cap') ∧ Below wr.heap.size wr w') (first | exact hH.out | assumption | exact KEEP.out _ _ ‹_› ‹_›) (first | (go_at_call 33; refine (lock_awake _).mono ?_; rintro e x1 ⟨rfl, g1⟩) | (go_at_call 27; refine (words_any _ A cap c b n s (HTS.out _ (by simp only [*])).m hn6).mono ?_; rintro e x5 ⟨A4, cap4, rfl, hs4, g5⟩) | (go_at_call 25; refine (sameB_any _ A4 A' n cap4 cap' s.f hn6 hs4 (HTS.out _ (by simp only [*])).r.sees).mono ?_; rintro e x6 ⟨rfl, g6⟩))
      all_goals
        rename_i hHeld
        have hbF := HB9.out.trans (hHeld.2.mono HB9.out.size)
        go_wp2_with fail
        go_ret
        exact ⟨rfl, hbF⟩

theorem lockSteps_walk (P T G x0 x1 : Int) (E F : Option Addr) (m cp mp cq : Nat) (a v : Nat → Int) (Pks : Nat → Pk) (w : World) (hm : m ≤ 9223372036854775807) (hmp : mp ≤ 9223372036854775807) (hs : SeesP w w.heap.size E m a v) (hv : ∀ i, i < m → 0 ≤ v i ∧ v i ≤ 18446744073709551615) (hP : SeesC w w.heap.size F mp 6 (pkC Pks)) (hpv : ∀ j, j < mp → 0 ≤ (Pks j).v ∧ (Pks j).v ≤ 18446744073709551615) :
    Calls Try.prog 6 #[.agg #[.int .i64 P, .int .i64 T, .int .i64 G, .slice E m cp], .agg #[.int .i64 x0, .int .i64 x1], .slice F mp cq] w fun e w' => e = .returned (.bool true) ∧ Below w.heap.size w w' := by
  by_cases h : (¬ FewC P T G ∨ 400 < m) ∨ 100 < mp ∨ x0 < 0 ∨ 1 < x0 ∨ x1 < 0 ∨ 300 < x1
  · exact lockSteps_bad P T G x0 x1 E F m cp mp cq a v w hm hmp hs hv h
  · exact lockSteps_ok P T G x0 x1 E F m cp mp cq a v Pks w (by omega) (Decidable.byContradiction fun hf => h (.inl (.inl hf))) (by omega) hs hv hP hpv (by omega) (by omega)
end Go.Proofs.Ytjbkhnolnlcjnaa
