/- Draws; rows that are the same; programs brought between 1 and 16. -/
import Derived.Test.YteibdjbipfimeaaM7
namespace Go.Proofs.Yteibdjbipfimeaa
open Go Go.RowKit
set_option linter.unusedVariables false
set_option linter.unusedSimpArgs false
set_option maxRecDepth 100000

/-- The next j numbers. -/
def drL (S : Nat) : Nat → List Nat
  | 0 => []
  | j + 1 => drL S j ++ [num S (j + 1)]
theorem drL_len (S : Nat) : ∀ j, (drL S j).length = j
  | 0 => rfl
  | j + 1 => by unfold drL; rw [List.length_append, drL_len S j]; rfl

set_option maxHeartbeats 1000000 in
theorem draws_any (w : World) (c S : Nat) (x : Int) (hx : x ≤ 300) (hs : S < 18446744073709551616) (h : Dc w c S) :
    Calls Try.prog 20 #[.pointer (some ⟨c, 0, none⟩), .int .i64 x] w (Prg w c (drL S x.toNat) fun X => Dc X c (st S x.toNat)) := by
  obtain ⟨i0, hi, hz0, hz1, hz2⟩ := info_parts info22
  have HS := Lib.hid hs
  have HST := Lib.hid (prg_start w c (fun X => Dc X c (st S 0)) (by show Dc w c (st S 0); rw [st_zero S hs]; exact h) h.lt)
  have m1 : ¬ 4096 < x := by omega
  clear h hs
  go_enter Try.func20, Try.ntmps20
  go_wp2_with fail
  go_loopw [5, 10] (fun v i wr => ∃ (j cp : Nat) (A : Option Addr), v = .slice A j cp ∧ i = .int .i64 j ∧ j ≤ x.toNat ∧ PrgOn w wr c (fun X => Dc X c (st S j)) A j cp (drL S j)) (fun _ i _ => x.toNat - (intOf i).toNat)
  case atStart => exact ⟨0, 0, none, rfl, rfl, by omega, HST.out⟩
  case round =>
    obtain ⟨j, cp, A, rfl, rfl, hj, hR⟩ := hrel
    have HR := Lib.hid hR
    clear HST hR
    by_cases hlt : (j : Int) < x
    · go_wp2_with fail
      go_at_call 10; refine (next_any _ c (st S j) (st_lt _ _) HR.out.q).mono ?_; rintro e w3 ⟨rfl, hD, hB⟩
      rw [num_st2]
      have HJ1 := Lib.hid (HR.out.call (Q' := fun X => Dc X c (st S (j + 1))) hB (by have e := hD; rw [st_st2] at e; exact e))
      have HX : Hid (drL S j ++ [num S (j + 1)] = drL S (j + 1)) := rfl
      clear hD hB
      generalize hxx : num S (j + 1) = v at HX ⊢
      clear hxx
      go_wp2_with (refine wpList_append_lies _ rfl (.tmp 12) (.tmp 15) 44 rfl w.heap.size 22 i0 _ 1 8 Try.underlying44 hi hz0 hz1 hz2 rfl (by omega) (.slice A j cp) j (wc (drL S j)) rfl (HJ1.out.own.alloc _) ⟨_, 0, none⟩ 1 1 [.int .u64 ((v : Nat) : Int)] rfl rfl (news1 _ _) (fun u hu => by simp at hu; subst hu; rfl) (by omega) (by unfold maxLen; omega) (by omega) (by have := HJ1.out.but.size; simp; omega) _ rfl ?_; intro g3 cap3 w4 hO2 hG2 _ _; have HJ2 := Lib.hid (((HJ1.out.alloc _ (HJ1.out.q.below ((Below.refl _ _).alloc (Nat.le_refl _) _) HJ1.out.q.lt)).app (Q' := fun X => Dc X c (st S (j + 1))) hO2 hG2 (fun hk => (hk c HJ1.out.lt).trans (HJ1.out.q.below ((Below.refl _ _).alloc (Nat.le_refl _) _) HJ1.out.q.lt))).to (Q' := fun X => Dc X c (st S (j + 1))) (fun h => h) HX.out); clear hO2 hG2)
      go_roundw
      case rel => exact ⟨j + 1, cap3, _, rfl, by go_num, by omega, HJ2.out⟩
      case measure => simp [intOf]; omega
    · obtain rfl : j = x.toNat := by omega
      go_wp2_with fail
      go_ret
      exact ⟨A, _, cp, rfl, HR.out⟩

theorem own_word {w : World} {B k cp : Nat} {A : Option Addr} {L : List Nat} (h : w.ownsRow B 22 1 (.slice A k cp) k (wc L)) (hl : L.length = k) (i : Nat) (hi : i < k) :
    ∃ (g x : Nat), A = some ⟨g, 0, none⟩ ∧ L[i]? = some x ∧ w.cell? ⟨g, i, none⟩ = some (.int .u64 (x : Int)) := by
  have hO := h
  rcases h.2 with ⟨h1, h2⟩ | ⟨g, cap, cur, h1, _⟩
  · omega
  · cases h1
    have hil : i < L.length := by omega
    refine ⟨g, L[i]'hil, rfl, by simp [hil], ?_⟩
    have := hO.cells (g := g) rfl i _ (show (wc L)[i]? = some (.int .u64 ((L[i]'hil : Nat) : Int)) by simp [wc, hil])
    have hadd : (⟨g, 0, none⟩ : Addr).add i = ⟨g, i, none⟩ := by unfold Addr.add; split <;> simp_all
    rw [hadd] at this; exact this

theorem same_row (w : World) (B1 B2 k c1 c2 : Nat) (A1 A2 : Option Addr) (L : List Nat) (hl : L.length = k) (hk : k ≤ 1000000) (h1 : w.ownsRow B1 22 1 (.slice A1 k c1) k (wc L)) (h2 : w.ownsRow B2 22 1 (.slice A2 k c2) k (wc L)) :
    Calls Try.prog 16 #[.slice A1 k c1, .slice A2 k c2] w fun e w' => e = .returned (.bool true) ∧ ∃ n, w' = w.drewN n := by
  have H1 := Lib.hid h1
  have H2 := Lib.hid h2
  have HL := Lib.hid hl
  clear h1 h2 hl
  go_enter Try.func16, Try.ntmps16
  go_wp2_with fail
  go_loopw [5] (fun i wr => ∃ j n : Nat, j ≤ k ∧ i = .int .i64 j ∧ wr = w.drewN n) (fun i _ => k - (intOf i).toNat)
  case atStart => exact ⟨0, 0, Nat.zero_le _, rfl, rfl⟩
  case round =>
    obtain ⟨j, n, hj, rfl, rfl⟩ := hrel
    by_cases hlt : j < k
    · obtain ⟨g1, x, rfl, hx, c1⟩ := own_word H1.out HL.out j hlt
      obtain ⟨g2, y, rfl, hy, c2⟩ := own_word H2.out HL.out j hlt
      obtain rfl : x = y := by rw [hx] at hy; exact Option.some.inj hy
      have d1 : (w.drewN n).cell? ⟨g1, j, none⟩ = some (.int .u64 (x : Int)) := c1
      have d2 : (w.drewN n).cell? ⟨g2, j, none⟩ = some (.int .u64 (x : Int)) := c2
      clear hx hy c1 c2
      generalize hX : w.drewN n = X at d1 d2 ⊢
      have HX := Lib.hid hX
      clear hX
      go_wp2_with fail
      go_quiet (fail)
      go_wp2_with fail
      go_roundw
      case rel => exact ⟨j + 1, n + nq, by omega, by go_num, by rw [← HX.out]; simp⟩
      case measure => simp [intOf]; omega
    · obtain rfl : j = k := by omega
      go_wp2_with fail
      go_ret
      exact ⟨rfl, n, rfl⟩

/-- A number brought between 1 and 16. -/
def cl (x : Int) : Nat := if x < 1 then 1 else if 16 < x then 16 else x.toNat
theorem programs_any (w : World) (c S : Nat) (x : Int) (hs : S < 18446744073709551616) (h : Dc w c S) :
    Calls Try.prog 17 #[.pointer (some ⟨c, 0, none⟩), .int .i64 x] w (Prg w c (pAcc S (cl x) (cl x)).1 fun X => Dc X c (st S (pAcc S (cl x) (cl x)).2)) := by
  unfold cl
  split
  · exact programs_lo w c S x ‹_› hs h
  · split
    · exact programs_hi w c S x ‹_› hs h
    · obtain ⟨n, rfl⟩ : ∃ n : Nat, x = (n : Int) := ⟨x.toNat, by omega⟩
      exact programs_in w c S n (by omega) (by omega) hs h
theorem refPrograms_any (w : World) (c s N : Nat) (x : Int) (hs : s < 18446744073709551616) (hN : N ≤ 10000) (h : Rd w c s N) :
    Calls Try.prog 18 #[.pointer (some ⟨c, 0, none⟩), .int .i64 x] w (Prg w c (pAcc (st s N) (cl x) (cl x)).1 fun X => Rd X c s (N + (pAcc (st s N) (cl x) (cl x)).2)) := by
  unfold cl
  split
  · exact refPrograms_lo w c s N x ‹_› hs hN h
  · split
    · exact refPrograms_hi w c s N x ‹_› hs hN h
    · obtain ⟨n, rfl⟩ : ∃ n : Nat, x = (n : Int) := ⟨x.toNat, by omega⟩
      exact refPrograms_in w c s N n (by omega) (by omega) hs hN h
theorem cl_bd (x : Int) : 1 ≤ cl x ∧ cl x ≤ 16 := by unfold cl; split <;> (try split) <;> omega
end Go.Proofs.Yteibdjbipfimeaa
