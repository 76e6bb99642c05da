/- The contract of the reference's Strides. -/
import Derived.Test.YtmjonifiohcobaaOrd4
namespace Go.Proofs.Ytmjonifiohcobaa
open Go Go.RowKit
set_option linter.unusedVariables false
set_option linter.unusedSimpArgs false

/-- No number from 2 to i + 1 divides both. -/
def noD (n k : Nat) : Nat → Bool
  | 0 => true
  | i + 1 => noD n k i && !(k % (i + 2) == 0 && n % (i + 2) == 0)
theorem noD_all : (List.range 65).all (fun n => (List.range 65).all fun k => !(decide (k < n)) || (noD n (k + 1) k == isS n (k + 1))) = true := by decide +kernel
theorem noD_is {n k : Nat} (hn : n ≤ 64) (hk : k < n) : noD n (k + 1) k = isS n (k + 1) := by
  have h1 := List.all_eq_true.1 noD_all n (List.mem_range.2 (by omega))
  have h2 := List.all_eq_true.1 h1 k (List.mem_range.2 (by omega))
  simpa [hk] using h2

set_option maxHeartbeats 2000000 in
theorem refStrides_any (n : Nat) (w : World) (h1 : 1 ≤ n) (h2 : n ≤ 64) : Calls Try.prog 35 #[.int .i64 n] w fun e w' => ∃ v, e = .returned v ∧ Grows w w' v (sU n n) := by
  obtain ⟨i0, hi, hz0, hz1, hz2⟩ := info_parts info3
  go_enter Try.func35, Try.ntmps35
  go_wp2_with fail
  go_loopw [4, 3] (fun x y wr => ∃ k : Nat, k ≤ n ∧ x = .int .i64 ((k : Int) + 1) ∧ Grows w wr y (sU n k)) (fun x _ _ => n + 1 - (intOf x).toNat)
  case atStart => exact ⟨0, Nat.zero_le _, rfl, Grows.nil w⟩
  case round =>
    obtain ⟨k, hk, rfl, hG⟩ := hrel
    by_cases hlt : k < n
    · have hpr := noD_is h2 hlt
      obtain ⟨A, cap, rfl⟩ := hG.spelt
      have HG : Hid (Grows w wr (.slice A (sU n k).length cap) (sU n k)) := hG
      have hlen := sU_len n k
      clear hG
      go_wp2_with fail
      go_loopw [6, 5] (fun x y wx => ∃ i : Nat, i ≤ k ∧ x = .int .i64 ((i : Int) + 2) ∧ y = .bool (noD n (k + 1) i) ∧ wx = wr) (fun x _ _ => n + 2 - (intOf x).toNat)
      case atStart => exact ⟨0, Nat.zero_le _, rfl, rfl, rfl⟩
      case round =>
        obtain ⟨i, hik, rfl, rfl, rfl⟩ := hrel
        by_cases hlt2 : i < k
        · have hm1 := tmod_nat (k + 1) (i + 2)
          have hm2 := tmod_nat n (i + 2)
          rw [show ((k + 1 : Nat) : Int) = (k : Int) + 1 by omega, show ((i + 2 : Nat) : Int) = (i : Int) + 2 by omega] at hm1
          rw [show ((i + 2 : Nat) : Int) = (i : Int) + 2 by omega] at hm2
          have hd0 : ¬ (i : Int) + 2 = 0 := by omega
          have hstep : noD n (k + 1) (i + 1) = (noD n (k + 1) i && !((k + 1) % (i + 2) == 0 && n % (i + 2) == 0)) := rfl
          by_cases hA : (k + 1) % (i + 2) = 0
          · rw [hA] at hm1
            by_cases hB : n % (i + 2) = 0
            · rw [hB] at hm2
              have hN : Hid (noD n (k + 1) (i + 1) = false) := by show _ = _; rw [hstep, hA, hB]; simp
              clear hstep hA hB
              go_wp2_with fail
              go_roundw
              case rel => exact ⟨i + 1, by omega, by go_num, by rw [hN.out], trivial⟩
              case measure => simp [intOf]; omega
            · have hN : Hid (noD n (k + 1) (i + 1) = noD n (k + 1) i) := by show _ = _; rw [hstep]; simp [hB]
              have hq2 : (((n % (i + 2) : Nat) : Int) == 0) = false := by rw [beq_eq_false_iff_ne]; intro h; exact hB (Int.ofNat.inj h)
              generalize ((n % (i + 2) : Nat) : Int) = rr at hm2 hq2
              generalize noD n (k + 1) i = bb at hN ⊢
              clear hstep hA hB
              go_wp2_with fail
              go_roundw
              case rel => exact ⟨i + 1, by omega, by go_num, by rw [hN.out], trivial⟩
              case measure => simp [intOf]; omega
          · have hN : Hid (noD n (k + 1) (i + 1) = noD n (k + 1) i) := by show _ = _; rw [hstep]; simp [hA]
            have hq2 : ((((k + 1) % (i + 2) : Nat) : Int) == 0) = false := by rw [beq_eq_false_iff_ne]; intro h; exact hA (Int.ofNat.inj h)
            generalize (((k + 1) % (i + 2) : Nat) : Int) = rr at hm1 hq2
            generalize noD n (k + 1) i = bb at hN ⊢
            clear hstep hA
            go_wp2_with fail
            go_roundw
            case rel => exact ⟨i + 1, by omega, by go_num, by rw [hN.out], trivial⟩
            case measure => simp [intOf]; omega
        · obtain rfl : i = k := by omega
          rw [hpr]
          by_cases hs : isS n (i + 1) = true
          · have e2 : sU n (i + 1) = sU n i ++ [i + 1] := by rw [sU]; rw [if_pos hs]
            rw [hs]
            go_wp2_with (at_builtin; refine wpList_append_own _ rfl _ _ 55 rfl w.heap.size 3 i0 (.int .i64 0) 1 8 Try.underlying55 hi hz0 hz1 hz2 rfl (by decide) _ (sU n i).length (cellsN (sU n i)) rfl (HG.out.own.alloc _) ⟨wr.heap.size, 0, none⟩ 1 1 [.int .i64 ((i : Int) + 1)] rfl rfl (cells_of _ _) (by simp [Value.oneCell']) (by unfold maxLen; omega) (by omega) (by have := HG.out.below.size; simp at this ⊢; omega) ?_; intro v' w3 hown3 hgrow3 _)
            have hN : Grows w w3 v' (sU n i ++ [i + 1]) := HG.out.next (by simpa using hown3) hgrow3
            clear HG hown3 hgrow3
            rw [← e2] at hN
            obtain ⟨A3, cap3, rfl⟩ := hN.spelt
            go_wp2_with fail
            go_roundw
            case rel => exact ⟨i + 1, by omega, by go_num, hN⟩
            case measure => simp [intOf]; omega
          · have e2 : sU n (i + 1) = sU n i := by rw [sU]; rw [if_neg hs]
            have hs' : isS n (i + 1) = false := by simpa using hs
            have HN : Hid (Grows w wr (.slice A (sU n i).length cap) (sU n (i + 1))) := by rw [e2]; exact HG.out
            rw [hs']
            clear HG e2 hs hs' hpr
            go_wp2_with fail
            go_roundw
            case rel => exact ⟨i + 1, by omega, by go_num, HN.out⟩
            case measure => simp [intOf]; omega
    · obtain rfl : k = n := by omega
      obtain ⟨A, cap, rfl⟩ := hG.spelt
      go_wp2_with fail
      go_ret
      exact ⟨_, rfl, hG⟩
end Go.Proofs.Ytmjonifiohcobaa
