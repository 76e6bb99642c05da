/- The contracts of Strides, Start and Step, and of the reference's Strides. -/
import Derived.Test.YtmjonifiohcobaaOrd
namespace Go.Proofs.Ytmjonifiohcobaa
open Go Go.RowKit
set_option linter.unusedVariables false
set_option linter.unusedSimpArgs false

theorem info3 : (Try.prog.info? 3).map (fun i => (i.zero, i.size, i.bytes)) = some (some (.int .i64 0), 1, 8) := by kernel_rfl

theorem row_drewN {w : World} {B : Nat} {v : Value} {n : Nat} {xs : List Value} (h : w.ownsRow B 3 1 v n xs) (m : Nat) : (w.drewN m).ownsRow B 3 1 v n xs := h

theorem cells_of (w : World) (x : Int) : ∀ j u, ([.int .i64 x] : List Value)[j]? = some u → (w.alloc (.cells #[.int .i64 x] 3)).cell? ((⟨w.heap.size, 0, none⟩ : Addr).add j) = some u := by
  intro j u hj
  have h := heap_alloc_new w (.cells #[.int .i64 x] 3)
  match j, hj with
  | 0, hj =>
    have hc : (w.alloc (.cells #[.int .i64 x] 3)).cell? ⟨w.heap.size, 0, none⟩ = some (.int .i64 x) := by simp only [World.cell?, h]; rfl
    have e : (⟨w.heap.size, 0, none⟩ : Addr).add 0 = ⟨w.heap.size, 0, none⟩ := rfl
    rw [e, hc]
    exact hj
  | j + 1, hj => simp at hj

/-- What a growing row of numbers is, of the call's own make. -/
structure Grows (w wr : World) (v : Value) (l : List Nat) : Prop where
  own : wr.ownsRow w.heap.size 3 1 v l.length (cellsN l)
  below : Below w.heap.size w wr
theorem Grows.nil (w : World) : Grows w w (.slice none 0 0) [] := ⟨World.ownsRow_nil _ _ _ _, Below.refl _ _⟩
theorem Grows.drewN {w wr : World} {v : Value} {l : List Nat} (h : Grows w wr v l) (m : Nat) : Grows w (wr.drewN m) v l := ⟨h.own, ⟨h.below.os, h.below.tape, h.below.output, h.below.size, h.below.block⟩⟩
theorem Grows.spelt {w wr : World} {v : Value} {l : List Nat} (h : Grows w wr v l) : ∃ A cap, v = .slice A l.length cap := by
  rcases h.own.2 with ⟨e, h0⟩ | ⟨g, cp, cur, e, _⟩
  · exact ⟨none, 0, by rw [e, h0]⟩
  · exact ⟨_, _, e⟩
theorem Grows.next {w wr w1 : World} {v v' : Value} {l : List Nat} {s : Nat} {o : Obj} (h : Grows w wr v l) (hown : w1.ownsRow w.heap.size 3 1 v' (l.length + 1) (cellsN l ++ [.int .i64 (s : Int)])) (hgrow : (wr.alloc o).grownBy w1 v.ownBlock) : Grows w w1 v' (l ++ [s]) := by
  refine ⟨?_, (h.below.alloc h.below.size o).grown hgrow (by have := h.below.size; simp; omega) fun j ej => ?_⟩
  · have e : cellsN (l ++ [s]) = cellsN l ++ [.int .i64 (s : Int)] := by simp [cellsN]
    rw [e, List.length_append]
    exact hown
  · rcases h.own.2 with ⟨e, -⟩ | ⟨g, cp, cur, e, hg, -⟩
    · rw [e] at ej; simp [Value.ownBlock] at ej
    · rw [e] at ej; simp [Value.ownBlock] at ej; omega

theorem strides_no (n : Int) (w : World) (h : ¬ (1 ≤ n ∧ n ≤ 64)) : Calls Try.prog 31 #[.int .i64 n] w fun e w' => e = .returned (.slice none 0 0) ∧ w = w' := by
  have hm := may_any n w
  rw [show decide (1 ≤ n ∧ n ≤ 64) = false by simpa using h] at hm
  go_enter Try.func31, Try.ntmps31
  go_wp2_with (go_at_call 47; refine hm.mono ?_; rintro e w1 ⟨rfl, rfl⟩)
  go_ret
  exact ⟨rfl, rfl⟩

set_option maxHeartbeats 1000000 in
theorem strides_any (n : Nat) (w : World) (h1 : 1 ≤ n) (h2 : n ≤ 64) : Calls Try.prog 31 #[.int .i64 n] w fun e w' => ∃ v, e = .returned v ∧ Grows w w' v (sU n n) := by
  obtain ⟨i0, hi, hz0, hz1, hz2⟩ := info_parts info3
  have hm := may_any n w
  rw [show decide (1 ≤ (n : Int) ∧ (n : Int) ≤ 64) = true by simp; omega] at hm
  go_enter Try.func31, Try.ntmps31
  go_wp2_with fail
  go_at_call 47; refine hm.mono ?_; clear hm; rintro e w1 ⟨rfl, rfl⟩
  go_wp2_with fail
  go_loopw [4, 3] (fun x y wr => ∃ k : Nat, k ≤ n ∧ x = .int .i64 ((k : Int) + 1) ∧ Grows w wr y (sU n k)) (fun x _ _ => n + 1 - (intOf x).toNat)
  case atStart => exact ⟨0, Nat.zero_le _, rfl, Grows.nil w⟩
  case round =>
    obtain ⟨k, hk, rfl, hG⟩ := hrel
    by_cases hlt : k < n
    · have hD := divisor_any (k + 1) n (by omega) (by omega) wr
      rw [show ((k + 1 : Nat) : Int) = (k : Int) + 1 by omega] at hD
      obtain ⟨A, cap, rfl⟩ := hG.spelt
      have HG : Hid _ := hG
      have hlen := sU_len n k
      clear hG
      by_cases hs : Nat.gcd (k + 1) n = 1
      · rw [hs] at hD
        have e2 : sU n (k + 1) = sU n k ++ [k + 1] := by rw [sU]; rw [if_pos (by simpa [isS] using hs)]
        go_wp2_with fail
        go_at_call 48; refine hD.mono ?_; clear hD; rintro e w2 ⟨rfl, m, rfl⟩
        have hG2 : Hid (Grows w (wr.drewN m) (.slice A (sU n k).length cap) (sU n k)) := HG.out.drewN m
        go_wp2_with (at_builtin; refine wpList_append_own _ rfl _ _ 55 rfl w.heap.size 3 i0 (.int .i64 0) 1 8 Try.underlying55 hi hz0 hz1 hz2 rfl (by decide) _ (sU n k).length (cellsN (sU n k)) rfl (hG2.out.own.alloc _) ⟨(wr.drewN m).heap.size, 0, none⟩ 1 1 [.int .i64 ((k : Int) + 1)] rfl rfl (cells_of _ _) (by simp [Value.oneCell']) (by unfold maxLen; omega) (by omega) (by have := hG2.out.below.size; simp at this ⊢; omega) ?_; intro v' w3 hown3 hgrow3 _)
        have hN : Grows w w3 v' (sU n k ++ [k + 1]) := hG2.out.next (by simpa using hown3) hgrow3
        clear hG2 HG hown3 hgrow3
        rw [← e2] at hN
        obtain ⟨A3, cap3, rfl⟩ := hN.spelt
        go_wp2_with fail
        go_roundw
        case rel => exact ⟨k + 1, by omega, by go_num, hN⟩
        case measure => simp [intOf]; omega
      · have e2 : sU n (k + 1) = sU n k := by rw [sU]; rw [if_neg (by simpa [isS] using hs)]
        have hss : (((Nat.gcd (k + 1) n : Nat) : Int) == 1) = false := by simp; omega
        generalize ((Nat.gcd (k + 1) n : Nat) : Int) = gg at hD hss
        go_wp2_with fail
        go_at_call 48; refine hD.mono ?_; clear hD; rintro e w2 ⟨rfl, m, rfl⟩
        have hN : Grows w (wr.drewN m) (.slice A (sU n k).length cap) (sU n k) := HG.out.drewN m
        have HN : Hid (Grows w (wr.drewN m) (.slice A (sU n k).length cap) (sU n (k + 1))) := by rw [e2]; exact hN
        clear HG hN e2
        go_wp2_with fail
        go_roundw
        case rel => exact ⟨k + 1, by omega, by go_num, HN.out⟩
        case measure => simp [intOf]; omega
    · obtain rfl : k = n := by omega
      obtain ⟨A, cap, rfl⟩ := hG.spelt
      go_wp2_with fail
      go_ret
      exact ⟨_, rfl, hG⟩
end Go.Proofs.Ytmjonifiohcobaa
