/- The law of all acts, walked. -/
import Derived.Test.YtideofojmgmboaaD8
namespace Go.Proofs.Ytideofojmgmboaa
open Go Go.RowKit
set_option linter.unusedVariables false
set_option linter.unusedSimpArgs false
set_option maxRecDepth 100000

set_option maxHeartbeats 16000000 in
theorem does_walk (b : Nat) (A : Option Addr) (n cp : Nat) (y : Nat → Int × Int × Int) (hl : n ≤ 200) (w : World) (hS : SeesA w b A n y) : Calls Try.prog 5 #[.slice A n cp] w fun e w' => e = .returned (.bool true) ∧ Below w.heap.size w w' := by
  have HS := Lib.hid (fun (X : World) (hb : Below w.heap.size w X) => hS.below hb)
  have HL := Lib.hid hl
  have HNew := Lib.hid (own_new w)
  have hl0 : ¬ (200 : Int) < (n : Int) := by omega
  clear hS hl
  go_enter Try.func5, Try.ntmps5
  go_wp2_with fail
  go_at_call 16; refine HNew.out.mono ?_; rintro e w0 ⟨rfl, hO⟩
  have HO : Hid (Lw w w0 w.heap.size 0 0 none [] [] []) := ⟨hO, Is.nil, rfl, Nat.le_refl _, 0, fun h => absurd h (Nat.lt_irrefl 0), fun h => absurd h (Nat.lt_irrefl 0)⟩
  clear hO HNew
  go_wp2_with fail
  generalize hak : w.heap.size = ak at HO ⊢
  have HAK := Lib.hid hak
  clear hak
  go_loopw [4, 5] (fun v i wr => ∃ (k m cw : Nat) (Aw : Option Addr) (E : List Nat) (L S : List It), v = .slice Aw m cw ∧ i = .int .i64 k ∧ k ≤ n ∧ Hid (m ≤ k) ∧ Hid (Lw w wr ak m cw Aw E L S)) (fun _ i _ => n - (intOf i).toNat)
  case atStart => exact ⟨0, 0, 0, none, [], [], [], rfl, rfl, by omega, Nat.le_refl _, HO.out⟩
  case round =>
    obtain ⟨k, m, cw, Aw, E, L, S, rfl, rfl, hk, hmk, hLw⟩ := hrel
    clear HO
    by_cases hkn : k < n
    · have hki : (k : Int) < (n : Int) := by omega
      have hcap : (k : Int) < 1000 := by have := HL.out; omega
      have HKN := Lib.hid hkn
      obtain ⟨off, rfl, hcs⟩ := HS.out wr hLw.out.own.bel (by omega)
      obtain ⟨q0, q1, q2⟩ := hcs k hkn
      have HCC : Hid (∀ X : World, Below w.heap.size w X → X.cell? ⟨b, off + k * 3 + 2, none⟩ = some (.int .i64 (y k).2.2)) := fun X hb => by
        obtain ⟨off', e, hc⟩ := HS.out X hb (by have := HKN.out; omega)
        cases e
        exact (hc k HKN.out).2.2
      clear hcs
      generalize y k = yk at *
      obtain ⟨kd, due, key⟩ := yk
      simp only at q0 q1 q2
      obtain ⟨bw, hbw, hbm⟩ := hLw.out.sees
      have HD := Lib.hid (does_any hLw.out.own.ag hLw.out.is (fun h0 hg => hg.2 (hbm h0)) hbw hLw.out.len (by have := hmk.out; have := HL.out; omega) hLw.out.cap kd due key)
      have HBM := Lib.hid hbm
      clear hbw hbm
      go_wp2_with fail
      go_at_call 19; refine HD.out.mono ?_; intro e w1 hD
      obtain ⟨m1, cw1, Aw1, E1, L1, S1, rfl, hm1, hL1⟩ := hLw.out.does HBM.out hD
      have HL1 := Lib.hid hL1
      have HM1 := Lib.hid hm1
      have HAll := Lib.hid (all_ag hL1.own.ag hL1.is (by have := hL1.is.perm.length_eq; have := hL1.len; have := hmk.out; have := HL.out; omega))
      rw [hL1.len] at HAll
      clear hD hL1 hm1 q0 q1 q2
      go_wp2_with fail
      go_at_call 14; refine HAll.out.mono ?_; rintro e w2 ⟨A3, cp3, g3, rfl, hg3, hs3, hb2⟩
      have HL2 := Lib.hid (HL1.out.below hb2)
      obtain ⟨b2, hb2s, hb2m⟩ := HL2.out.sees
      have HSame := Lib.hid (same_any w2 g3 b2 A3 Aw1 cp3 cw1 S1 m1 HL2.out.len (by have := HM1.out; have := hmk.out; have := HL.out; omega) hs3 hb2s)
      clear hg3 hs3 hb2 hb2s hb2m
      go_wp2_with fail
      go_at_call 18; refine HSame.out.mono ?_; rintro e w3 ⟨rfl, hb3⟩
      have HL3 := Lib.hid (HL2.out.below hb3)
      have HLen := Lib.hid (Len_ag HL3.out.own.ag)
      have hlen : L1.length = m1 := by rw [← HL3.out.len]; exact HL3.out.is.perm.length_eq
      rw [hlen] at HLen
      have hk3 := HCC.out w3 HL3.out.own.bel
      clear hb3 hlen
      go_wp2_with fail
      go_at_call 15; refine HLen.out.mono ?_; rintro e w4 ⟨rfl, rfl⟩
      obtain ⟨b4, hb4s, hb4m⟩ := HL3.out.sees
      have HRA := Lib.hid (refAt_any w4 b4 Aw1 cw1 S1 key m1 HL3.out.len hb4s (by have := HM1.out; have := hmk.out; have := HL.out; omega))
      have HPP := Lib.hid (pos_perm HL3.out.is.perm key)
      have HREL : Hid (m1 ≤ k + 1) := by have := HM1.out; have := hmk.out; show m1 ≤ k + 1; omega
      cases hp : pos S1 key with
      | none =>
        have hpl : pos L1 key = none := by
          have h1 := HPP.out
          rw [hp] at h1
          simpa using h1
        have HAt := Lib.hid (at_no HL3.out.own.ag key hpl)
        rw [posI_none hp] at HRA
        clear hp hpl hb4s hb4m
        go_wp2_with fail
        go_at_call 8; refine HAt.out.mono ?_; rintro e w5 ⟨rfl, rfl⟩
        go_wp2_with fail
        go_at_call 20; refine HRA.out.mono ?_; rintro e w6 ⟨rfl, rfl⟩
        go_wp2_with fail
        go_roundw
        case rel => first | exact ⟨k + 1, m1, cw1, Aw1, E1, L1, S1, rfl, by go_num, by omega, HREL, HL3⟩ | (repeat apply Exists.intro; exact ⟨⟨k + 1, m1, cw1, Aw1, E1, L1, S1, rfl, by go_num, by omega, HREL, HL3⟩, rfl⟩)
        case measure => simp [intOf]; omega
      | some j =>
        obtain ⟨hjS, hjk⟩ := pos_some hp
        have hpl : ∃ i, pos L1 key = some i := by
          have h1 := HPP.out
          rw [hp] at h1
          exact Option.isSome_iff_exists.1 h1
        obtain ⟨i, hpl⟩ := hpl
        obtain ⟨hiL, hik⟩ := pos_some hpl
        have HAt := Lib.hid (at_some HL3.out.own.ag key i hpl)
        rw [HL3.out.own.ag.kn.eq HL3.out.is.perm hiL hjS (by rw [hik, hjk])] at HAt
        rw [posI_some hp] at HRA
        have hjm : j < m1 := by rw [← HL3.out.len]; exact hjS
        obtain ⟨o4, rfl, hc4⟩ := hb4s (by omega)
        have z0 := (hc4 j hjS).1
        have hge : decide ((0 : Int) ≤ (j : Int)) = true := by simp
        have hlt : decide ((j : Int) < 0) = false := by simp
        have hjc : (j : Int) < 100000 := by have := HM1.out; have := hmk.out; have := HL.out; omega
        have hjm2 : (j : Int) < (m1 : Int) := by omega
        generalize at_ S1 j = z at *
        obtain ⟨d1, k1⟩ := z
        simp only at z0 HAt
        clear hp hpl hb4m hc4 hjS hjk hiL hik
        go_wp2_with fail
        go_at_call 8; refine HAt.out.mono ?_; rintro e w5 ⟨rfl, rfl⟩
        go_wp2_with fail
        go_at_call 20; refine HRA.out.mono ?_; rintro e w6 ⟨rfl, rfl⟩
        go_wp2_with fail
        go_roundw
        case rel => first | exact ⟨k + 1, m1, cw1, _, E1, L1, S1, rfl, by go_num, by omega, HREL, HL3⟩ | (repeat apply Exists.intro; exact ⟨⟨k + 1, m1, cw1, _, E1, L1, S1, rfl, by go_num, by omega, HREL, HL3⟩, rfl⟩)
        case measure => simp [intOf]; omega
    · obtain rfl : k = n := by omega
      have hki : ¬ (k : Int) < (k : Int) := by omega
      have HB := Lib.hid hLw.out.own.bel
      have HAw := Lib.hid (awake_any wr)
      go_wp2_with fail
      go_at_call 9; refine HAw.out.mono ?_; rintro e w2 ⟨rfl, hb⟩
      have HB2 := Lib.hid (HB.out.trans (hb.mono HB.out.size))
      clear hb
      go_wp2_with fail
      go_ret
      exact ⟨rfl, HB2.out⟩
end Go.Proofs.Ytideofojmgmboaa
