/- slices.Repeat of one entry, walked. -/
import Derived.Test.YteibdjbipfimeaaR1
import Derived.Laws.MakeOwn
namespace Go.Proofs.Yteibdjbipfimeaa
open Go Go.RowKit
set_option linter.unusedVariables false
set_option linter.unusedSimpArgs false
set_option maxRecDepth 100000

theorem info48 : ((Try.prog.info? 48).map fun i => (i.zero, i.size, i.bytes)) = some (some (.agg #[.int .i64 0, .int .i64 0]), 2, 16) := by kernel_rfl
theorem infosz48 : (Try.prog.info? 48).map (·.size) = some 2 := by kernel_rfl
theorem make48 (c : Nat) (hc : c ≤ 1000000) : ∃ L : List Value, L.length = 2 * c ∧ ∀ w : World, (Instr.makeSlice 40 (.int .i64 c) (.int .i64 c)).run Try.prog w = .ok (.slice (some ⟨w.heap.size, 0, none⟩) c c) (w.alloc (.cells L.toArray 48)) := by
  cases hq : Try.prog.info? 48 with
  | none => have := infosz48; rw [hq] at this; cases this
  | some i =>
    have h := info48
    rw [hq] at h
    simp only [Option.map_some, Option.some.injEq, Prod.mk.injEq] at h
    refine ⟨(madeCells #[.int .i64 0, .int .i64 0] (c * 2)).toList, by simp [size_madeCells]; omega, fun w => ?_⟩
    have := run_make (P := Try.prog) w 40 48 i _ Try.underlying40 hq h.1 .i64 .i64 c c (by omega) (Int.le_refl _) (by rw [h.2.2]; omega) (by omega)
    rw [h.2.1] at this
    simpa [Value.cells] using this

theorem repeat_copy {c : Nat} {L : List Value} (hL : L.length = 2 * c) (k x : Int) (n : Nat) (hn : n < c) (ht : L.take (2 * n) = flat (List.replicate n (k, x))) (m : Nat) (hm : m = min n (c - n)) :
    (splice L (2 * n) (flat (List.replicate m (k, x)))).length = 2 * c ∧ (splice L (2 * n) (flat (List.replicate m (k, x)))).take (2 * (n + m)) = flat (List.replicate (n + m) (k, x)) := by
  have e1 : (flat (List.replicate m (k, x))).length = 2 * m := by rw [flat_len]; simp
  refine ⟨by rw [length_splice _ _ _ (by omega)]; exact hL, ?_⟩
  unfold splice
  rw [ht, ← List.append_assoc, ← flat_app, List.replicate_append_replicate, List.take_append_of_le_length (by rw [flat_len]; simp), List.take_of_length_le (by rw [flat_len]; simp)]

theorem splice_first {c : Nat} {L : List Value} (hL : L.length = 2 * c) (h1 : 1 ≤ c) (k x : Int) :
    (splice L 0 (flat [(k, x)])).length = 2 * c ∧ (splice L 0 (flat [(k, x)])).take (2 * 1) = flat (List.replicate 1 (k, x)) := by
  refine ⟨by rw [length_splice _ _ _ (by rw [flat_len]; simp; omega)]; exact hL, ?_⟩
  unfold splice
  rw [List.take_zero, List.nil_append, List.take_append_of_le_length (by rw [flat_len]; simp)]
  rfl
/-- The first n of c entries lie at block z. -/
def Rep (w : World) (z c n : Nat) (k x : Int) (M : List Value) : Prop := w.heap[z]? = some (.cells M.toArray 48 (0, 0)) ∧ M.length = 2 * c ∧ M.take (2 * n) = flat (List.replicate n (k, x))
theorem rep_src {w : World} {z c n m : Nat} {k x : Int} {M : List Value} (h : Rep w z c n k x M) (hm : m = min n (c - n)) :
    ∀ j v, (flat (List.replicate m (k, x)))[j]? = some v → w.cell? ((⟨z, 0, none⟩ : Addr).add j) = some v := by
  intro j v hj
  have hadd : (⟨z, 0, none⟩ : Addr).add j = ⟨z, j, none⟩ := by unfold Addr.add; split <;> simp_all
  rw [hadd, cell_of_row w z j _ _ _ h.1]
  have e : flat (List.replicate m (k, x)) = (flat (List.replicate n (k, x))).take (2 * m) := by rw [flat_take, List.take_replicate]; congr 2; omega
  rw [e, ← h.2.2, List.take_take, List.getElem?_take] at hj
  split at hj
  · simpa using hj
  · cases hj
set_option maxHeartbeats 1000000 in
theorem repeat_one (b o cp : Nat) (k x : Int) (c : Nat) (h1 : 1 ≤ c) (h16 : c ≤ 16) (w : World) (e0 : w.cell? ⟨b, o, none⟩ = some (.int .i64 k)) (e1 : w.cell? ⟨b, o + 1, none⟩ = some (.int .i64 x)) :
    Calls Try.prog 26 #[.slice (some ⟨b, o, none⟩) 1 cp, .int .i64 (c : Int)] w fun e w' => ∃ g : Nat, e = .returned (.slice (some ⟨g, 0, none⟩) c c) ∧ w.heap.size ≤ g ∧ w'.heap[g]? = some (.cells (flat (List.replicate c (k, x))).toArray 48 (0, 0)) ∧ Below w.heap.size w w' := by
  obtain ⟨L, hL, hmk⟩ := make48 c (by omega)
  have HL : Hid (L.length = 2 * c) := hL
  have d1 : decide ((c : Int) < 0) = false := by simp
  have d2 : decide ((9223372036854775807 : Int) < (c : Int)) = false := by simp; omega
  have hlt := cell_lt e0
  have HS : Hid (∀ j v, (flat [(k, x)])[j]? = some v → (w.alloc (.cells L.toArray 48)).cell? ((⟨b, o, none⟩ : Addr).add j) = some v) := by
    intro j v hj
    have hB := (Below.refl w.heap.size w).alloc (Nat.le_refl _) (.cells L.toArray 48)
    match j, hj with
    | 0, hj => exact (hB.cell (p := ⟨b, o, none⟩) hlt).trans (e0.trans hj)
    | 1, hj => exact (hB.cell (p := ⟨b, o + 1, none⟩) hlt).trans (e1.trans hj)
    | n + 2, hj => cases hj
  have hB0 := (Below.refl w.heap.size w).alloc (Nat.le_refl _) (.cells L.toArray 48)
  have HB0 : Hid (Below w.heap.size w (w.alloc (.cells L.toArray 48))) := hB0
  clear hL hB0
  go_enter Try.func26, Try.ntmps26
  go_wp2_with fail
  go_at_call 28; refine (mul_one c h16 _).mono ?_; rintro e w1 ⟨rfl, rfl⟩
  go_wp2_with (refine wpList_copy_wide rfl (.tmp 31) (.tmp 32) 40 40 rfl 48 2 Try.underlying40 infosz48 w.heap.size 0 c c ⟨b, o, none⟩ 1 cp 1 rfl rfl L 48 (heap_alloc_new _ _) (flat [(k, x)]) (Nat.min_eq_left h1) rfl HS.out (by rw [HL.out, flat_len]; simp; omega) (flat_one _) w.heap.size w HB0.out (Nat.le_refl _) 1 rfl ?_)
  intro w2 hG hB2
  have h0 := splice_first HL.out h1 k x
  have HG0 : Hid (∃ M : List Value, w2.heap[w.heap.size]? = some (.cells M.toArray 48 (0, 0)) ∧ M.length = 2 * c ∧ M.take (2 * 1) = flat (List.replicate 1 (k, x))) := ⟨_, hG.out, h0⟩
  clear hG h0 HS HB0 hmk e0 e1 HL
  generalize hz : w.heap.size = z at hlt hB2 HG0 ⊢
  have HZ : Hid (w.heap.size = z) := hz
  clear hz
  go_wp2_with fail
  go_loopw [8] (fun i wr => ∃ (n : Nat) (M : List Value), 1 ≤ n ∧ n ≤ c ∧ i = .int .i64 n ∧ Rep wr z c n k x M ∧ Below z w wr) (fun i _ => c - (intOf i).toNat)
  case atStart => obtain ⟨M, h⟩ := HG0.out; exact ⟨1, M, Nat.le_refl _, h1, rfl, h, hB2⟩
  case round =>
    obtain ⟨n, M, hn1, hnc, rfl, hR, hB⟩ := hrel
    clear HG0 hB2
    by_cases hlt2 : n < c
    · have hmin : ∃ m, m = min n (c - n) := ⟨_, rfl⟩
      obtain ⟨m, hm⟩ := hmin
      have HC := repeat_copy hR.2.1 k x n hlt2 hR.2.2 m hm
      have HM : Hid (m = min n (c - n)) := hm
      have HR : Hid (Rep wr z c n k x M) := hR
      have HK : Hid (Nat.min n (c - n) = m) := hm.symm
      have HCH : Hid ((splice M (2 * n) (flat (List.replicate m (k, x)))).length = 2 * c ∧ (splice M (2 * n) (flat (List.replicate m (k, x)))).take (2 * (n + m)) = flat (List.replicate (n + m) (k, x))) := HC
      have hm1 : 1 ≤ m := by omega
      have hcn : ¬ (c = n) := by omega
      have hwr : IntKind.i64.wrap ((n : Int) + (m : Int)) = (n : Int) + (m : Int) := IntWalk.i64_in _ (by omega)
      have hm2 : n + m ≤ c := by omega
      clear hR hm HC
      go_wp2_with fail
      go_region_law (first | (refine step_copy_wide rfl (.tmp 41) (.tmp 44) 40 40 rfl 48 2 Try.underlying40 infosz48 z (n * 2) (c - n) (c - n) ⟨z, 0, none⟩ n c m (some ⟨z, n * 2, none⟩) (by go_simp) rfl (by go_simp) M 48 HR.out.1 (flat (List.replicate m (k, x))) HK.out (by rw [flat_len]; simp; omega) (rep_src HR.out HM.out) (by rw [flat_len, HR.out.2.1]; simp; omega) (flat_one _) z w hB.drew (Nat.le_refl _) ?_; intro w4 hg4 hb4))
      have HE : Rep w4 z c (n + m) k x (splice M (2 * n) (flat (List.replicate m (k, x)))) := ⟨by have := hg4.out; rw [Nat.mul_comm n 2] at this; exact this, HCH.out⟩
      clear hg4
      go_simp
      go_roundw
      case rel =>
        refine ⟨_, _, _, _, _, _, _, _, _, _, _, _, _, _, ?_, rfl⟩
        exact ⟨n + m, _, by omega, hm2, by go_num, HE, hb4⟩
      case measure => simp [intOf]; omega
    · obtain rfl : n = c := by omega
      go_wp2_with fail
      go_ret
      refine ⟨z, rfl, by have := HZ.out; omega, ?_, by have := HZ.out; subst this; exact hB⟩
      have e := hR.2.2
      rw [List.take_of_length_le (by rw [hR.2.1]; omega)] at e
      rw [← e]; exact hR.1
end Go.Proofs.Yteibdjbipfimeaa
