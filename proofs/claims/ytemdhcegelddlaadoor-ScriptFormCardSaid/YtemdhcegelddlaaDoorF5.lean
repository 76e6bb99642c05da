/- The document's Write. -/
import Derived.Test.YtemdhcegelddlaaDoorF4
import Derived.Test.YtemdhcegelddlaaDoorSD
import Derived.Handy
namespace Go.Proofs.YtemdhcegelddlaaDoor
open Go Go.RowKit
set_option linter.unusedVariables false
set_option linter.unusedSimpArgs false

/-- what is written of l, k of its entries: pre -/
def Rp (l : List En) (k : Nat) (pre : List UInt8) : Prop := ∃ f, (l.drop k).length ≤ f ∧ wrS l = pre ++ wrR (grp f (l.drop k)) ∧ pre.length ≤ 61 * k
theorem Rp.start (l : List En) : Rp l 0 [] := ⟨l.length, by simp, by simp [wrS], by simp⟩
theorem Rp.next {l : List En} {k : Nat} {pre : List UInt8} (h : Rp l k pre) {j : Nat} {e : En} (he : at_ (l.drop k) 0 = e) (h0 : 0 < (l.drop k).length) (h1 : ∀ t, t < j → at_ (l.drop k) t = e) (h2 : 1 ≤ j) (h3 : j ≤ (l.drop k).length) (h4 : j < (l.drop k).length → at_ (l.drop k) j ≠ e) (hok : e.ok) (hj : j ≤ 65536) :
    Rp l (k + j) (pre ++ (lnR e (j : Int) ++ [10])) := by
  subst he
  obtain ⟨f, hf, hg, hp⟩ := h
  cases f with
  | zero => omega
  | succ f =>
    refine ⟨f, ?_, ?_, ?_⟩
    · rw [← List.drop_drop]; simp only [List.length_drop] at *; omega
    · rw [hg, grp_cons f (l.drop k) j h0 h1 h2 h3 h4, List.drop_drop]
      simp [wrR]
    · have := lnR_len (at_ (l.drop k) 0) (j : Int) hok (by omega)
      simp only [List.length_append, List.length_singleton]
      omega
theorem Rp.done {l : List En} {pre : List UInt8} (h : Rp l l.length pre) : wrS l = pre := by
  obtain ⟨f, hf, hg, hp⟩ := h
  rw [hg, List.drop_length, grp_nil]
  simp [wrR]

set_option maxRecDepth 100000 in
set_option maxHeartbeats 8000000 in
theorem rwrite_any (w : World) (b : Nat) (A : Option Addr) (cp : Nat) (l : List En) (n : Nat) (hn : l.length = n) (hl : n ≤ 65536) (hs : Sees w b A l) (ho : oksS l) : Calls Tryd.prog 16 #[.slice A n cp] w fun e w' =>
    e = .returned (.string (bA (wrS l))) ∧ Below w.heap.size w w' := by
  have HN := Lib.hid hn
  have HL := Lib.hid hl
  have HO := Lib.hid ho
  have HS := Lib.hid (fun (X : World) (hb : Below w.heap.size w X) => hs.below hb)
  clear hs hn hl ho
  obtain ⟨ANS, hANS⟩ : ∃ X, bA (wrS l) = X := ⟨_, rfl⟩
  rw [hANS]
  have HANS := Lib.hid hANS
  clear hANS
  go_enter Tryd.func16, Tryd.ntmps16
  go_wp2_with fail
  go_loopg [3, 4] n (fun m s i wx => ∃ (k : Nat) (pre : List UInt8) (S : ByteArray), m + k = n ∧ i = .int .i64 (k : Int) ∧ s = .string S ∧ Hid (S = bA pre ∧ Rp l k pre ∧ Below w.heap.size w wx))
  case atStart => exact ⟨0, [], ⟨#[]⟩, by omega, rfl, rfl, rfl, Rp.start l, Below.refl _ _⟩
  case round =>
    obtain ⟨k, pre, S, hmk, rfl, rfl, HB⟩ := hrel
    have HMK := Lib.hid hmk
    by_cases hlt : k < n
    · have hki : (k : Int) < (n : Int) := by omega
      have hkb : (k : Int) < 100000 := by have := HL.out; omega
      have HRL : Hid ((l.drop k).length = n - k) := by show _ = _; rw [List.length_drop, HN.out]
      clear hmk
      go_wp2_with fail
      go_loopg [5] (n - k) (fun m jv wi => ∃ j : Nat, m + j = n - k + 1 ∧ 1 ≤ j ∧ j ≤ n - k ∧ jv = .int .i64 (j : Int) ∧ Hid (Below w.heap.size w wi) ∧ Hid (∀ t, t < j → at_ (l.drop k) t = at_ (l.drop k) 0))
      case atStart => exact ⟨1, by omega, by omega, by omega, rfl, HB.out.2.2, fun t ht => by rw [show t = 0 by omega]⟩
      case round =>
        obtain ⟨j, hmj, hj1, hj2, rfl, HI, HQ⟩ := hrel
        have HMJ := Lib.hid hmj
        clear hmj
        have hkj : IntKind.i64.wrap ((k : Int) + (j : Int)) = (k : Int) + (j : Int) := IntWalk.i64_in _ (by have := HL.out; omega)
        have hj3 : IntKind.i64.wrap ((j : Int) + 1) = (j : Int) + 1 := IntWalk.i64_in _ (by have := HL.out; omega)
        have HKL : Hid (k < l.length) := by show k < _; rw [HN.out]; exact hlt
        obtain ⟨off, rfl, hcs⟩ := HS.out wr HI.out (by have := HKL.out; omega)
        obtain ⟨y, hy⟩ : ∃ y, at_ l k = y := ⟨_, rfl⟩
        have hy0 : at_ (l.drop k) 0 = y := by rw [at_drop, Nat.add_zero]; exact hy
        have hyok : y.ok := by rw [← hy]; exact HO.out _ (at_mem HKL.out)
        have HY := Lib.hid hy0
        obtain ⟨d0, d1⟩ := hcs k HKL.out
        rw [hy] at d0 d1
        rw [hy0] at HQ
        have HYo := Lib.hid hyok
        clear hy hy0 hyok
        obtain ⟨y0, y1⟩ := y
        dsimp only at d0 d1
        by_cases hjl : k + j < n
        · have hjd : decide ((k : Int) + (j : Int) < (n : Int)) = true := by rw [decide_eq_true_iff]; omega
          have hji : (k : Int) + (j : Int) < (n : Int) := by omega
          obtain ⟨x, hx⟩ : ∃ x, at_ l (k + j) = x := ⟨_, rfl⟩
          obtain ⟨c0, c1⟩ := hcs (k + j) (by rw [HN.out]; exact hjl)
          rw [hx] at c0 c1
          have HX : Hid (at_ (l.drop k) j = x) := by show _ = _; rw [at_drop]; exact hx
          clear hx
          obtain ⟨x0, x1⟩ := x
          dsimp only at c0 c1
          by_cases e0 : x0 = y0
          · subst e0
            by_cases e1 : x1 = y1
            · subst e1
              have HQ2 : Hid (∀ t, t < j + 1 → at_ (l.drop k) t = at_ (l.drop k) 0) := fun t ht => by
                rw [HY.out]
                by_cases e : t = j
                · subst e; exact HX.out
                · exact HQ.out t (by omega)
              have HIq : Hid (∀ q, Below w.heap.size w (wr.drewN q)) := fun q => below_drewN HI.out q
              clear hcs
              go_wp2_with fail
              go_quiet (fail)
              go_wp2_with fail
              go_roundg (n - k - j)
              case measure => have := HMJ.out; omega
              case rel => exact ⟨j + 1, by omega, by omega, by omega, by go_num, HIq.out nq, HQ2⟩
            · have en : (x1 == y1) = false := by rw [beq_eq_false_iff_ne]; exact e1
              have ed : decide (x1 = y1) = false := decide_eq_false e1
              have HNE : Hid (j < (l.drop k).length → at_ (l.drop k) j ≠ ⟨x0, y1⟩) := fun _ h => by
                rw [HX.out] at h
                cases h
                exact e1 rfl

              have HNX := Lib.hid (HB.out.2.1.next HY.out (by have := HRL.out; omega) HQ.out hj1 (by have := HRL.out; omega) HNE.out HYo.out (by have := HL.out; omega))
              have HLn : Hid (∀ z, Calls Tryd.prog 40 #[.agg #[.int .i64 x0, .int .i64 y1], .int .i64 (j : Int)] z fun r w' => r = .returned (.string (bA (lnR ⟨x0, y1⟩ (j : Int) ++ [10]))) ∧ Below z.heap.size z w') := fun z => rline_any ⟨x0, y1⟩ (j : Int) HYo.out (by have := HL.out; omega) z
              have fa : ∀ z : World, (Op.stringOp .add S (bA (lnR ⟨x0, y1⟩ (j : Int) ++ [10]))).run Tryd.prog z = .ok (.string (bA (pre ++ (lnR ⟨x0, y1⟩ (j : Int) ++ [10])))) z := by
                rw [HB.out.1]
                refine add_run _ _ ?_
                obtain ⟨_, _, _, h1⟩ := HB.out.2.1
                have h2 := lnR_len ⟨x0, y1⟩ (j : Int) HYo.out (by have := HL.out; omega)
                have h3 := HL.out
                simp
                omega
              obtain ⟨L1, hL1⟩ : ∃ X, bA (lnR ⟨x0, y1⟩ (j : Int) ++ [10]) = X := ⟨_, rfl⟩
              rw [hL1] at fa HLn
              obtain ⟨S2, hS2⟩ : ∃ X, bA (pre ++ (lnR ⟨x0, y1⟩ (j : Int) ++ [10])) = X := ⟨_, rfl⟩
              rw [hS2] at fa
              have HS2 := Lib.hid hS2
              clear hL1 hS2 hcs
              have dq0 := fun q => (show (wr.drewN q).cell? ⟨b, off + k * 2, none⟩ = some (.int .i64 x0) from d0)
              have dq1 := fun q => (show (wr.drewN q).cell? ⟨b, off + k * 2 + 1, none⟩ = some (.int .i64 y1) from d1)
              have HIq : Hid (∀ q, Below w.heap.size w (wr.drewN q)) := fun q => below_drewN HI.out q
              go_wp2_with fail
              go_quiet (fail)
              go_wp2_with fail
              go_at_call 40
              refine (HLn.out _).mono ?_
              rintro e w2 ⟨rfl, hb2⟩
              have HE2 : Hid (Below w.heap.size w w2) := (HIq.out nq).trans (hb2.mono (HIq.out nq).size)
              clear d0 d1 dq0 dq1 hb2 HLn HIq
              go_wp2_with fail
              go_roundg (n - (k + j))
              case measure => have := HMK.out; omega
              case rel => exact ⟨k + j, pre ++ (lnR ⟨x0, y1⟩ (j : Int) ++ [10]), S2, by omega, by go_num, rfl, HS2.out.symm, HNX.out, HE2.out⟩
          · have en : (x0 == y0) = false := by rw [beq_eq_false_iff_ne]; exact e0
            have ed : decide (x0 = y0) = false := decide_eq_false e0
            have HNE : Hid (j < (l.drop k).length → at_ (l.drop k) j ≠ ⟨y0, y1⟩) := fun _ h => by
              rw [HX.out] at h
              cases h
              exact e0 rfl

            have HNX := Lib.hid (HB.out.2.1.next HY.out (by have := HRL.out; omega) HQ.out hj1 (by have := HRL.out; omega) HNE.out HYo.out (by have := HL.out; omega))
            have HLn : Hid (∀ z, Calls Tryd.prog 40 #[.agg #[.int .i64 y0, .int .i64 y1], .int .i64 (j : Int)] z fun r w' => r = .returned (.string (bA (lnR ⟨y0, y1⟩ (j : Int) ++ [10]))) ∧ Below z.heap.size z w') := fun z => rline_any ⟨y0, y1⟩ (j : Int) HYo.out (by have := HL.out; omega) z
            have fa : ∀ z : World, (Op.stringOp .add S (bA (lnR ⟨y0, y1⟩ (j : Int) ++ [10]))).run Tryd.prog z = .ok (.string (bA (pre ++ (lnR ⟨y0, y1⟩ (j : Int) ++ [10])))) z := by
              rw [HB.out.1]
              refine add_run _ _ ?_
              obtain ⟨_, _, _, h1⟩ := HB.out.2.1
              have h2 := lnR_len ⟨y0, y1⟩ (j : Int) HYo.out (by have := HL.out; omega)
              have h3 := HL.out
              simp
              omega
            obtain ⟨L1, hL1⟩ : ∃ X, bA (lnR ⟨y0, y1⟩ (j : Int) ++ [10]) = X := ⟨_, rfl⟩
            rw [hL1] at fa HLn
            obtain ⟨S2, hS2⟩ : ∃ X, bA (pre ++ (lnR ⟨y0, y1⟩ (j : Int) ++ [10])) = X := ⟨_, rfl⟩
            rw [hS2] at fa
            have HS2 := Lib.hid hS2
            clear hL1 hS2 hcs
            have dq0 := fun q => (show (wr.drewN q).cell? ⟨b, off + k * 2, none⟩ = some (.int .i64 y0) from d0)
            have dq1 := fun q => (show (wr.drewN q).cell? ⟨b, off + k * 2 + 1, none⟩ = some (.int .i64 y1) from d1)
            have HIq : Hid (∀ q, Below w.heap.size w (wr.drewN q)) := fun q => below_drewN HI.out q
            go_wp2_with fail
            go_quiet (fail)
            go_wp2_with fail
            go_at_call 40
            refine (HLn.out _).mono ?_
            rintro e w2 ⟨rfl, hb2⟩
            have HE2 : Hid (Below w.heap.size w w2) := (HIq.out nq).trans (hb2.mono (HIq.out nq).size)
            clear d0 d1 dq0 dq1 hb2 HLn HIq
            go_wp2_with fail
            go_roundg (n - (k + j))
            case measure => have := HMK.out; omega
            case rel => exact ⟨k + j, pre ++ (lnR ⟨y0, y1⟩ (j : Int) ++ [10]), S2, by omega, by go_num, rfl, HS2.out.symm, HNX.out, HE2.out⟩
        · have hjd : decide ((k : Int) + (j : Int) < (n : Int)) = false := by rw [decide_eq_false_iff_not]; omega
          have hji : ¬ (k : Int) + (j : Int) < (n : Int) := by omega
          have HNE : Hid (j < (l.drop k).length → at_ (l.drop k) j ≠ ⟨y0, y1⟩) := fun h => by have := HRL.out; omega

          have HNX := Lib.hid (HB.out.2.1.next HY.out (by have := HRL.out; omega) HQ.out hj1 (by have := HRL.out; omega) HNE.out HYo.out (by have := HL.out; omega))
          have HLn : Hid (∀ z, Calls Tryd.prog 40 #[.agg #[.int .i64 y0, .int .i64 y1], .int .i64 (j : Int)] z fun r w' => r = .returned (.string (bA (lnR ⟨y0, y1⟩ (j : Int) ++ [10]))) ∧ Below z.heap.size z w') := fun z => rline_any ⟨y0, y1⟩ (j : Int) HYo.out (by have := HL.out; omega) z
          have fa : ∀ z : World, (Op.stringOp .add S (bA (lnR ⟨y0, y1⟩ (j : Int) ++ [10]))).run Tryd.prog z = .ok (.string (bA (pre ++ (lnR ⟨y0, y1⟩ (j : Int) ++ [10])))) z := by
            rw [HB.out.1]
            refine add_run _ _ ?_
            obtain ⟨_, _, _, h1⟩ := HB.out.2.1
            have h2 := lnR_len ⟨y0, y1⟩ (j : Int) HYo.out (by have := HL.out; omega)
            have h3 := HL.out
            simp
            omega
          obtain ⟨L1, hL1⟩ : ∃ X, bA (lnR ⟨y0, y1⟩ (j : Int) ++ [10]) = X := ⟨_, rfl⟩
          rw [hL1] at fa HLn
          obtain ⟨S2, hS2⟩ : ∃ X, bA (pre ++ (lnR ⟨y0, y1⟩ (j : Int) ++ [10])) = X := ⟨_, rfl⟩
          rw [hS2] at fa
          have HS2 := Lib.hid hS2
          clear hL1 hS2 hcs
          have dq0 := fun q => (show (wr.drewN q).cell? ⟨b, off + k * 2, none⟩ = some (.int .i64 y0) from d0)
          have dq1 := fun q => (show (wr.drewN q).cell? ⟨b, off + k * 2 + 1, none⟩ = some (.int .i64 y1) from d1)
          have HIq : Hid (∀ q, Below w.heap.size w (wr.drewN q)) := fun q => below_drewN HI.out q
          go_wp2_with fail
          go_quiet (fail)
          go_wp2_with fail
          go_at_call 40
          refine (HLn.out _).mono ?_
          rintro e w2 ⟨rfl, hb2⟩
          have HE2 : Hid (Below w.heap.size w w2) := (HIq.out nq).trans (hb2.mono (HIq.out nq).size)
          clear d0 d1 dq0 dq1 hb2 HLn HIq
          go_wp2_with fail
          go_roundg (n - (k + j))
          case measure => have := HMK.out; omega
          case rel => exact ⟨k + j, pre ++ (lnR ⟨y0, y1⟩ (j : Int) ++ [10]), S2, by omega, by go_num, rfl, HS2.out.symm, HNX.out, HE2.out⟩
    · obtain rfl : k = n := by omega
      have hki : ¬ (k : Int) < (k : Int) := by omega
      have HF : Hid (S = ANS) := by
        have h := HB.out.2.1
        rw [← HN.out] at h
        show _ = _
        rw [HB.out.1, ← HANS.out, h.done]
      go_wp2_with fail
      go_ret
      rw [HF.out]
      exact ⟨rfl, HB.out.2.2⟩
end Go.Proofs.YtemdhcegelddlaaDoor
