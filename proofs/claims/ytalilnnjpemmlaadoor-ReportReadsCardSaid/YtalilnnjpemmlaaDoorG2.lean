/- The document's Write. -/
import Derived.Test.YtalilnnjpemmlaaDoorR4
import Derived.Test.YtalilnnjpemmlaaDoorG1
namespace Go.Proofs.YtalilnnjpemmlaaDoor
open Go Go.RowKit
set_option linter.unusedVariables false
set_option linter.unusedSimpArgs false

theorem rline_ok (e : Ev) (h : e.ok) (w : World) : Calls Tryd.prog 16 #[e.v] w fun r w' => r = .returned (.string (bA (ln e ++ [10]))) ∧ Below w.heap.size w w' := by
  obtain ⟨k, g, o, t, p⟩ := e
  obtain ⟨hk, hg, ho, ht, hp⟩ := h
  simp only at hk hg ho ht hp
  obtain ⟨k, rfl⟩ := Int.eq_ofNat_of_zero_le (show 0 ≤ k by omega)
  obtain ⟨g, rfl⟩ := Int.eq_ofNat_of_zero_le (show 0 ≤ g by omega)
  obtain ⟨t, rfl⟩ := Int.eq_ofNat_of_zero_le (show 0 ≤ t by omega)
  exact rline_any k g t o p (by omega) (by omega) (by omega) ho hp w

set_option maxRecDepth 100000 in
set_option maxHeartbeats 4000000 in
theorem rwrite_any (w : World) (b : Nat) (A : Option Addr) (cp : Nat) (l : List Ev) (n : Nat) (hn : l.length = n) (hl : n ≤ 65536) (hs : Sees w b A l) (ho : oks l) : Calls Tryd.prog 18 #[.slice A n cp] w fun e w' =>
    e = .returned (.string (bA (wr l))) ∧ Below w.heap.size w w' := by
  have HN := Lib.hid hn
  have HL := Lib.hid hl
  have HO := Lib.hid ho
  have HS := Lib.hid (fun (X : World) (hb : Below w.heap.size w X) => hs.below hb)
  clear hs hn hl ho
  obtain ⟨ANS, hANS⟩ : ∃ X, bA (wr l) = X := ⟨_, rfl⟩
  rw [hANS]
  have HANS := Lib.hid hANS
  clear hANS
  go_enter Tryd.func18, Tryd.ntmps18
  go_wp2_with fail
  go_loopw [4, 3] (fun i s wx => ∃ (k : Nat) (S : ByteArray), i = .int .i64 (k : Int) ∧ s = .string S ∧ k ≤ n ∧ Hid (S = bA (Go.Proofs.YtalilnnjpemmlaaDoor.wr (l.take k)) ∧ Below w.heap.size w wx)) (fun i _ _ => n - (intOf i).toNat)
  case atStart => exact ⟨0, ⟨#[]⟩, rfl, rfl, by omega, rfl, Below.refl _ _⟩
  case round =>
    obtain ⟨k, S, rfl, rfl, hk, HB⟩ := hrel
    by_cases hlt : k < n
    · have hki : (k : Int) < (n : Int) := by omega
      have hkb : (k : Int) < 100000 := by have := HL.out; omega
      have HKL : Hid (k < l.length) := by show k < _; rw [HN.out]; exact hlt
      obtain ⟨off, rfl, hcs⟩ := HS.out wr HB.out.2 (by have := HKL.out; omega)
      obtain ⟨⟨x0, x1, x2, x3, x4⟩, hx⟩ : ∃ x, at_ l k = x := ⟨_, rfl⟩
      have c0 := hcs k 0 HKL.out (by omega)
      have c1 := hcs k 1 HKL.out (by omega)
      have c2 := hcs k 2 HKL.out (by omega)
      have c3 := hcs k 3 HKL.out (by omega)
      have c4 := hcs k 4 HKL.out (by omega)
      rw [hx] at c0 c1 c2 c3 c4
      simp only [Ev.f, Nat.add_zero] at c0 c1 c2 c3 c4
      have hok : Ev.ok ⟨x0, x1, x2, x3, x4⟩ := by rw [← hx]; exact HO.out _ (at_mem HKL.out)
      have HWR : Hid (Go.Proofs.YtalilnnjpemmlaaDoor.wr (l.take (k + 1)) = Go.Proofs.YtalilnnjpemmlaaDoor.wr (l.take k) ++ (ln ⟨x0, x1, x2, x3, x4⟩ ++ [10])) := by show _ = _; rw [take_at HKL.out, wr_app, wr_one, hx]
      have HLn : Hid (∀ y, Calls Tryd.prog 16 #[.agg #[.int .i64 x0, .int .i64 x1, .int .i64 x2, .int .i64 x3, .int .i64 x4]] y fun r w' => r = .returned (.string (bA (ln ⟨x0, x1, x2, x3, x4⟩ ++ [10]))) ∧ Below y.heap.size y w') := fun y => rline_ok ⟨x0, x1, x2, x3, x4⟩ hok y
      have fa : ∀ y : World, (Op.stringOp .add S (bA (ln ⟨x0, x1, x2, x3, x4⟩ ++ [10]))).run Tryd.prog y = .ok (.string (bA (Go.Proofs.YtalilnnjpemmlaaDoor.wr (l.take (k + 1))))) y := by
        rw [HB.out.1, HWR.out]
        refine add_run _ _ ?_
        have h1 := wr_len (l.take k) (fun x hx => HO.out x (List.mem_of_mem_take hx))
        have h2 := ln_len _ hok
        have h3 := HL.out
        have h4 := HKL.out
        rw [List.length_take] at h1
        simp
        omega
      clear hx hcs hok HWR
      obtain ⟨L1, hL1⟩ : ∃ X, bA (ln ⟨x0, x1, x2, x3, x4⟩ ++ [10]) = X := ⟨_, rfl⟩
      rw [hL1] at fa HLn
      obtain ⟨S2, hS2⟩ : ∃ X, bA (Go.Proofs.YtalilnnjpemmlaaDoor.wr (l.take (k + 1))) = X := ⟨_, rfl⟩
      rw [hS2] at fa
      have HS2 := Lib.hid hS2
      clear hL1 hS2
      go_wp2_with fail
      go_at_call 16
      refine (HLn.out _).mono ?_
      rintro e w2 ⟨rfl, hb2⟩
      have HE2 : Hid (Below w.heap.size w w2) := HB.out.2.trans (hb2.mono HB.out.2.size)
      clear c0 c1 c2 c3 c4 hb2 HLn
      go_wp2_with fail
      go_roundw
      case rel => exact ⟨k + 1, S2, by go_num, rfl, by omega, HS2.out.symm, HE2.out⟩
      case measure => simp [intOf]; omega
    · obtain rfl : k = n := by omega
      have hki : ¬ (k : Int) < (k : Int) := by omega
      have HF : Hid (S = ANS) := by
        have h := HB.out.1
        rw [← HN.out, List.take_length, HANS.out] at h
        exact h
      go_wp2_with fail
      go_ret
      rw [HF.out]
      exact ⟨rfl, HB.out.2⟩
end Go.Proofs.YtalilnnjpemmlaaDoor
