/- Does a census fit? The walk. -/
import Derived.Test.YtammoflhfcpomaaF1
namespace Go.Proofs.Ytammoflhfcpomaa
open Go Go.RowKit
set_option linter.unusedVariables false
set_option linter.unusedSimpArgs false
set_option maxRecDepth 100000

set_option maxHeartbeats 4000000 in
theorem fits_any (w : World) (g h p gs : Nat) (T : Int) (B n cap : Nat) (A : Option Addr) (ev : Nat → Ev) (hp : p ≤ 64) (hg : gs ≤ 60) (hn : n ≤ 100) (hcap : n ≤ cap) (hA : A = none → cap = 0) (hcap2 : cap ≤ 9223372036854775807) (hs : SeesE w B A n ev)
    (hr : RowsAt w g gs (fun i f => ((cR ev n i f : Nat) : Int))) (hi : IntsAt w h p (fun q => ((cP ev n q : Nat) : Int))) :
    Calls Try.prog 8 #[.agg (cenCells (fun k => ((cK ev n k : Nat) : Int)) g gs h p (mostN ev n) (nowN ev n)), .agg #[.int .i64 (p : Int), .int .i64 T, .int .i64 (gs : Int)], .slice A n cap] w fun e w' => e = .returned (.bool true) ∧ Below w.heap.size w w' := by
  obtain ⟨K, HK⟩ : ∃ K : Nat → Int, Hid ((fun k => ((cK ev n k : Nat) : Int)) = K) := ⟨_, Lib.hid rfl⟩
  have HKk := Lib.hid (show ∀ k, ((cK ev n k : Nat) : Int) = K k from fun k => by rw [← HK.out])
  obtain ⟨M, HM⟩ : ∃ M, Hid (mostN ev n = M) := ⟨_, Lib.hid rfl⟩
  obtain ⟨N, HN⟩ : ∃ N, Hid (nowN ev n = N) := ⟨_, Lib.hid rfl⟩
  have HMB := Lib.hid (mostN_bd ev n)
  have HNB := Lib.hid (nowN_bd ev n)
  have HKB := Lib.hid (show ∀ k, 0 ≤ K k ∧ K k ≤ n from fun k => by have := cK_le ev n k; have := HKk.out k; omega)
  have HKS := Lib.hid (show sumK K 12 = n from by rw [← HK.out]; exact sum_cK ev n)
  have HS := Lib.hid hs
  have HR := Lib.hid (show ∀ wr, Below w.heap.size w wr → RowsAt wr g gs (fun i f => ((cR ev n i f : Nat) : Int)) from fun wr hb => hr.but (But.of_below (l := []) hb) (by simp))
  have HI := Lib.hid (show ∀ wr, Below w.heap.size w wr → IntsAt wr h p (fun q => ((cP ev n q : Nat) : Int)) from fun wr hb => hi.but (But.of_below (l := []) hb) (by simp))
  have HCP := Lib.hid (And.intro hcap (And.intro hA hcap2))
  have HF := Lib.hid (Fit.start w K g gs h p T M N)
  have HQ12 := Lib.hid (show ∀ wr, Below w.heap.size w wr → ∀ m, Calls Try.prog 12 #[.slice A n cap] (wr.drewN m) fun e w' => e = .returned (.int .i64 M) ∧ w' = wr.drewN m from fun wr hb m => by
    have := q12 (hs.bel hb) (by omega) hcap hA hcap2 m; rw [HM.out] at this; exact this)
  have HQ13 := Lib.hid (show ∀ wr, Below w.heap.size w wr → ∀ m, Calls Try.prog 13 #[.slice A n cap] (wr.drewN m) fun e w' => e = .returned (.int .i64 N) ∧ w' = wr.drewN m from fun wr hb m => by
    have := q13 (hs.bel hb) cap (by omega) m; rw [HN.out] at this; exact this)
  have HQ14 := Lib.hid (show ∀ wr, Below w.heap.size w wr → ∀ (k : Nat), k < 12 → ∀ m, Calls Try.prog 14 #[.slice A n cap, .int .i64 (k : Int)] (wr.drewN m) fun e w' => e = .returned (.int .i64 (K k)) ∧ w' = wr.drewN m from fun wr hb k hk m => by
    have := q14 (hs.bel hb) cap (by omega) k hk m; rw [HKk.out k] at this; exact this)
  have HQA := Lib.hid (show ∀ wr, Below w.heap.size w wr → ∀ (q : Nat) m, Calls Try.prog 15 #[.slice A n cap, .int .i64 1, .int .i64 (q : Int)] (wr.drewN m) fun e w' => e = .returned (.int .i64 ((cR ev n q 0 : Nat) : Int)) ∧ w' = wr.drewN m from fun wr hb q m => q15a (hs.bel hb) cap (by omega) q m)
  have HQB := Lib.hid (show ∀ wr, Below w.heap.size w wr → ∀ (q : Nat) m, Calls Try.prog 15 #[.slice A n cap, .int .i64 9, .int .i64 (q : Int)] (wr.drewN m) fun e w' => e = .returned (.int .i64 ((cR ev n q 1 : Nat) : Int)) ∧ w' = wr.drewN m from fun wr hb q m => q15b (hs.bel hb) cap (by omega) q m)
  have HQC := Lib.hid (show ∀ wr, Below w.heap.size w wr → ∀ (q : Nat) m, Calls Try.prog 15 #[.slice A n cap, .int .i64 2, .int .i64 (q : Int)] (wr.drewN m) fun e w' => e = .returned (.int .i64 ((cR ev n q 2 : Nat) : Int)) ∧ w' = wr.drewN m from fun wr hb q m => q15c (hs.bel hb) cap (by omega) q m)
  have HQP := Lib.hid (show ∀ wr, Below w.heap.size w wr → ∀ (q : Nat) m, Calls Try.prog 16 #[.slice A n cap, .int .i64 (q : Int)] (wr.drewN m) fun e w' => e = .returned (.int .i64 ((cP ev n q : Nat) : Int)) ∧ w' = wr.drewN m from fun wr hb q m => q16 (hs.bel hb) cap (by omega) q m)
  have HN14 := Lib.hid (show ∀ wr, Below w.heap.size w wr → ∀ (k : Nat), k < 12 → Calls Try.prog 14 #[.slice A n cap, .int .i64 (k : Int)] wr fun e w' => e = .returned (.int .i64 (K k)) ∧ wr = w' from fun wr hb k hk => by
    have := refKind_any wr B n cap k A ev k rfl hk (by omega) (hs.bel hb); rw [HKk.out k] at this; exact this)
  clear hs hr hi hcap hA hcap2
  rw [HK.out, HM.out, HN.out]
  unfold cenCells at HF ⊢
  go_enter Try.func8, Try.ntmps8
  go_wp2_with fail
  generalize ((w.alloc (.cells #[.int .i64 (K 0), .int .i64 (K 1), .int .i64 (K 2), .int .i64 (K 3), .int .i64 (K 4), .int .i64 (K 5), .int .i64 (K 6), .int .i64 (K 7), .int .i64 (K 8), .int .i64 (K 9), .int .i64 (K 10), .int .i64 (K 11), .slice (some ⟨g, 0, none⟩) gs gs, .slice (some ⟨h, 0, none⟩) p p, .int .i64 M, .int .i64 N] 30)).alloc (.cells #[.int .i64 (p : Int), .int .i64 T, .int .i64 (gs : Int)] 23)) = X at HF ⊢
  obtain ⟨x12, x13, x14, x15⟩ := HF.out.bx.s
  obtain ⟨c0, c1, c2⟩ := HF.out.c
  have A12 := Lib.hid (HQ12.out X HF.out.bel)
  have A13 := Lib.hid (HQ13.out X HF.out.bel)
  go_quiet (first | (go_at_call 12; exact Calls.quiet_of_same (A12.out _)) | (go_at_call 13; exact Calls.quiet_of_same (A13.out _)))
  have HF1 := Lib.hid (HF.out.step (drewN_bel X nq))
  generalize X.drewN nq = Y at HF1 ⊢
  clear x12 x13 x14 x15 c0 c1 c2 A12 A13 HF
  go_wp2_with fail
  go_loopw [7] (fun i wr => ∃ j : Nat, j ≤ 12 ∧ i = .int .i64 j ∧ Fit w wr K g gs h p T M N) (fun i _ => 12 - (intOf i).toNat)
  case atStart => exact ⟨0, by omega, rfl, HF1.out⟩
  case round =>
    obtain ⟨j, hj, rfl, hW⟩ := hrel
    have HW := Lib.hid hW
    clear hW HF1
    by_cases hlt : j < 12
    · have kj := HW.out.bx.k j hlt
      have A14 := Lib.hid (HQ14.out wr HW.out.bel j hlt)
      go_wp2_with fail
      go_quiet ((go_at_call 14; exact Calls.quiet_of_same (A14.out _)))
      have HW2 := Lib.hid (HW.out.step (drewN_bel wr nq))
      generalize wr.drewN nq = Y at HW2 ⊢
      clear kj A14 HW
      go_wp2_with fail
      go_roundw
      case rel => exact ⟨j + 1, by omega, by go_num, HW2.out⟩
      case measure => simp [intOf]; omega
    · obtain rfl : j = 12 := by omega
      obtain ⟨W0, hW0⟩ : ∃ v, v = wr := ⟨_, rfl⟩
      subst hW0
      go_wp2_with fail
      go_loopw [8] (fun i wr => ∃ j : Nat, j ≤ gs ∧ i = .int .i64 j ∧ Fit w wr K g gs h p T M N) (fun i _ => gs - (intOf i).toNat)
      case atStart => exact ⟨0, by omega, rfl, HW.out⟩
      case round =>
        obtain ⟨j, hj, rfl, hW⟩ := hrel
        have HV := Lib.hid hW
        clear hW HW
        by_cases hlt : j < gs
        · obtain ⟨r0, r1, r2⟩ := (HR.out wr HV.out.bel).c j hlt
          obtain ⟨c0, c1, c2⟩ := HV.out.c
          obtain ⟨x12, x13, x14, x15⟩ := HV.out.bx.s
          have hjj : (j : Int) < (gs : Int) := by omega
          go_wp2_with fail
          have HV1 := Lib.hid (HV.out.step ((Below.refl wr.heap.size wr).alloc (Nat.le_refl _) (.cells #[.int .i64 ((cR ev n j 0 : Nat) : Int), .int .i64 ((cR ev n j 1 : Nat) : Int), .int .i64 ((cR ev n j 2 : Nat) : Int)] 46)))
          have hb := heap_alloc_new wr (.cells #[.int .i64 ((cR ev n j 0 : Nat) : Int), .int .i64 ((cR ev n j 1 : Nat) : Int), .int .i64 ((cR ev n j 2 : Nat) : Int)] 46)
          generalize wr.alloc (.cells #[.int .i64 ((cR ev n j 0 : Nat) : Int), .int .i64 ((cR ev n j 1 : Nat) : Int), .int .i64 ((cR ev n j 2 : Nat) : Int)] 46) = V at HV1 hb ⊢
          have v0 : V.cell? ⟨wr.heap.size, 0, none⟩ = some (.int .i64 ((cR ev n j 0 : Nat) : Int)) := by simp only [World.cell?, hb]; rfl
          have v1 : V.cell? ⟨wr.heap.size, 1, none⟩ = some (.int .i64 ((cR ev n j 1 : Nat) : Int)) := by simp only [World.cell?, hb]; rfl
          have v2 : V.cell? ⟨wr.heap.size, 2, none⟩ = some (.int .i64 ((cR ev n j 2 : Nat) : Int)) := by simp only [World.cell?, hb]; rfl
          have AA := Lib.hid (HQA.out V HV1.out.bel j)
          have AB := Lib.hid (HQB.out V HV1.out.bel j)
          have AC := Lib.hid (HQC.out V HV1.out.bel j)
          clear hb HV r0 r1 r2 c0 c1 c2 x12 x13 x14 x15
          go_quiet (first | (go_at_call 15; with_reducible exact Calls.quiet_of_same (AA.out _)) | (go_at_call 15; with_reducible exact Calls.quiet_of_same (AB.out _)) | (go_at_call 15; with_reducible exact Calls.quiet_of_same (AC.out _)))
          have HV2 := Lib.hid (HV1.out.step (drewN_bel V nq))
          generalize V.drewN nq = Y at HV2 ⊢
          clear v0 v1 v2 AA AB AC HV1
          go_wp2_with fail
          go_roundw
          case rel => exact ⟨j + 1, by omega, by go_num, HV2.out⟩
          case measure => simp [intOf]; omega
        · obtain rfl : j = gs := by omega
          obtain ⟨W1, hW1⟩ : ∃ v, v = wr := ⟨_, rfl⟩
          subst hW1
          obtain ⟨c0, c1, c2⟩ := HV.out.c
          go_wp2_with fail
          clear c0 c1 c2
          go_loopw [10] (fun i wr => ∃ q : Nat, q ≤ p ∧ i = .int .i64 q ∧ Fit w wr K g j h p T M N) (fun i _ => p - (intOf i).toNat)
          case atStart => exact ⟨0, by omega, rfl, HV.out⟩
          case round =>
            obtain ⟨q, hq, rfl, hW⟩ := hrel
            have HU := Lib.hid hW
            clear hW HV
            obtain ⟨c0, c1, c2⟩ := HU.out.c
            by_cases hlt : q < p
            · have i0 := (HI.out wr HU.out.bel).c q hlt
              obtain ⟨x12, x13, x14, x15⟩ := HU.out.bx.s
              have hqq : (q : Int) < (p : Int) := by omega
              have AP := Lib.hid (HQP.out wr HU.out.bel q)
              go_wp2_with fail
              go_quiet ((go_at_call 16; exact Calls.quiet_of_same (AP.out _)))
              have HU2 := Lib.hid (HU.out.step (drewN_bel wr nq))
              generalize wr.drewN nq = Y at HU2 ⊢
              clear i0 c0 c1 c2 x12 x13 x14 x15 AP HU
              go_wp2_with fail
              go_roundw
              case rel => exact ⟨q + 1, by omega, by go_num, HU2.out⟩
              case measure => simp [intOf]; omega
            · obtain rfl : q = p := by omega
              have hKb : ∀ k, 0 ≤ K k ∧ K k ≤ 1000 := fun k => by have := HKB.out k; omega
              have TT := Lib.hid (fun W => total_any W K (some ⟨g, 0, none⟩) j j (some ⟨h, 0, none⟩) q q M N hKb)
              have LL := Lib.hid (fun W => live_any W K (some ⟨g, 0, none⟩) j j (some ⟨h, 0, none⟩) q q M N hKb)
              have h2b := hKb 2
              have h11b := hKb 11
              clear hKb
              have k0 := HU.out.bx.k 0 (by omega)
              have k1 := HU.out.bx.k 1 (by omega)
              have k2 := HU.out.bx.k 2 (by omega)
              have k3 := HU.out.bx.k 3 (by omega)
              have k4 := HU.out.bx.k 4 (by omega)
              have k5 := HU.out.bx.k 5 (by omega)
              have k6 := HU.out.bx.k 6 (by omega)
              have k7 := HU.out.bx.k 7 (by omega)
              have k8 := HU.out.bx.k 8 (by omega)
              have k9 := HU.out.bx.k 9 (by omega)
              have k10 := HU.out.bx.k 10 (by omega)
              have k11 := HU.out.bx.k 11 (by omega)
              obtain ⟨k12, k13, k14, k15⟩ := HU.out.bx.s
              go_wp2_with fail
              refine (TT.out _).mono ?_
              rintro e w1 ⟨rfl, hb1⟩
              rw [HKS.out]
              have HU1 := Lib.hid (HU.out.step hb1)
              clear hb1 HU TT k0 k1 k2 k3 k4 k5 k6 k7 k8 k9 k10 k11 k12 k13 k14 k15 c0 c1 c2
              have k0 := HU1.out.bx.k 0 (by omega)
              have k1 := HU1.out.bx.k 1 (by omega)
              have k2 := HU1.out.bx.k 2 (by omega)
              have k3 := HU1.out.bx.k 3 (by omega)
              have k4 := HU1.out.bx.k 4 (by omega)
              have k5 := HU1.out.bx.k 5 (by omega)
              have k6 := HU1.out.bx.k 6 (by omega)
              have k7 := HU1.out.bx.k 7 (by omega)
              have k8 := HU1.out.bx.k 8 (by omega)
              have k9 := HU1.out.bx.k 9 (by omega)
              have k10 := HU1.out.bx.k 10 (by omega)
              have k11 := HU1.out.bx.k 11 (by omega)
              obtain ⟨k12, k13, k14, k15⟩ := HU1.out.bx.s
              go_wp2_with fail
              refine (LL.out _).mono ?_
              rintro e w2 ⟨rfl, hb2⟩
              have HU2 := Lib.hid (HU1.out.step hb2)
              clear hb2 HU1 LL k0 k1 k2 k3 k4 k5 k6 k7 k8 k9 k10 k11 k12 k13 k14 k15
              have A2 := Lib.hid (HN14.out w2 HU2.out.bel 2 (by omega))
              have A11 := Lib.hid (HN14.out w2 HU2.out.bel 11 (by omega))
              go_wp2_with fail
              refine (show Calls Try.prog 14 #[.slice A n cap, .int .i64 2] w2 _ from A2.out).mono ?_
              rintro e w3 ⟨rfl, rfl⟩
              go_wp2_with fail
              refine (show Calls Try.prog 14 #[.slice A n cap, .int .i64 11] w2 _ from A11.out).mono ?_
              rintro e w3 ⟨rfl, rfl⟩
              go_wp2_with fail
              go_ret
              exact ⟨rfl, HU2.out.bel⟩
end Go.Proofs.Ytammoflhfcpomaa
