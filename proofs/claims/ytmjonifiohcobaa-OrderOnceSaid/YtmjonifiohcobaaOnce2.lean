/- The walk of the law OrderOnce. -/
import Derived.Test.YtmjonifiohcobaaOnce
import Derived.Test.YtmjonifiohcobaaMany2
namespace Go.Proofs.Ytmjonifiohcobaa
open Go Go.RowKit
set_option linter.unusedVariables false
set_option linter.unusedSimpArgs false

theorem orderOnce_none (n v : Int) (w : World) (h : ¬ (1 ≤ n ∧ n ≤ 64)) : Calls Try.prog 8 #[.int .i64 n, .int .u64 v] w fun e w' => e = .returned (.bool true) ∧ Below w.heap.size w w' := by
  have hm := known_any n w
  rw [show decide (1 ≤ n ∧ n ≤ 64) = false by simpa using h] at hm
  clear h
  go_enter Try.func8, Try.ntmps8
  go_wp2_with fail
  go_at_call 29; refine hm.mono ?_; clear hm; rintro e w1 ⟨rfl, rfl⟩
  go_wp2_with fail
  go_at_call 30; refine (awakeO_any _).mono ?_; rintro e w1 ⟨rfl, hb1⟩
  go_wp2_with fail
  go_ret
  exact ⟨rfl, hb1⟩

/-- Block g is a row of n counts. -/
def RowI (w : World) (g n : Nat) (f : Nat → Nat) : Prop := ∃ cur : Array Value, w.heap[g]? = some (.cells cur 3 (0, 0)) ∧ cur.size = n ∧ ∀ i, i < n → cur[i]? = some (.int .i64 ((f i : Nat) : Int))
theorem RowI.lt {w : World} {g n : Nat} {f : Nat → Nat} (h : RowI w g n f) : g < w.heap.size := by obtain ⟨cur, hh, _⟩ := h; exact block_lt hh
theorem RowI.frozen {w : World} {g n : Nat} {f : Nat → Nat} (h : RowI w g n f) (i : Nat) : w.frozen? ⟨g, i, none⟩ = false := by obtain ⟨cur, hh, _⟩ := h; simp [World.frozen?, hh]
theorem RowI.cell {w : World} {g n : Nat} {f : Nat → Nat} (h : RowI w g n f) {i : Nat} (hi : i < n) : w.cell? ⟨g, i, none⟩ = some (.int .i64 ((f i : Nat) : Int)) := by
  obtain ⟨cur, hh, hs, hc⟩ := h
  simp [World.cell?, hh, hc i hi]
theorem RowI.set {w : World} {g n : Nat} {f f' : Nat → Nat} (h : RowI w g n f) (x : Nat) (hx : x < n) (h1 : f' x = f x + 1) (h2 : ∀ y, y ≠ x → f' y = f y) : RowI (w.setCell ⟨g, x, none⟩ (.int .i64 (((f x : Nat) : Int) + 1))) g n f' := by
  obtain ⟨cur, hh, hs, hc⟩ := h
  refine ⟨_, heap_set hh x _, by simpa using hs, fun i hi => ?_⟩
  by_cases e : i = x
  · subst e
    simp [hs, hx, h1]
  · rw [Array.getElem?_setIfInBounds_ne (Ne.symm e), hc i hi, h2 i e]

set_option maxHeartbeats 2000000 in
set_option maxRecDepth 100000 in
theorem orderOnce_ok (n V : Nat) (w : World) (h1 : 1 ≤ n) (h64 : n ≤ 64) (hV : V ≤ 18446744073709551615) : Calls Try.prog 8 #[.int .i64 n, .int .u64 V] w fun e w' => e = .returned (.bool true) ∧ Below w.heap.size w w' := by
  obtain ⟨i0, hi, hz0, hz1, hz2⟩ := info_parts info3
  have hm := known_any n w
  rw [show decide (1 ≤ (n : Int) ∧ (n : Int) ≤ 64) = true by simp; omega] at hm
  have hO := order_any n V w hV
  rw [thrL_ok h1 h64] at hO
  have hl1 : (ordOf n V n).length = n := by unfold ordOf; exact ordL_len _ _ _ _
  have hst : V % n < n := Nat.mod_lt _ (by omega)
  have hat : ∀ i, i < n → (ordOf n V n).getD i 0 = ordK (V % n) (stepAt n V) n i := fun i hi => ordL_at _ _ _ _ _ hi
  have hlt : ∀ i, i < n → ordK (V % n) (stepAt n V) n i < n := fun i _ => ordK_lt hst i
  have honce := once hlt (fun i j hi hj he => ordK_inj hst (stepAt_le n V h1).2.2 hi hj he)
  generalize ordK (V % n) (stepAt n V) n = p at hat hlt honce
  generalize ordOf n V n = L at hO hl1 hat
  have HAT : Hid (∀ i, i < n → L.getD i 0 = p i) := hat
  have HLT : Hid (∀ i, i < n → p i < n) := hlt
  have HON : Hid (∀ x, x < n → cnt p x n = 1) := honce
  have HL : Hid (L.length = n) := hl1
  clear hat hlt honce hst hl1
  go_enter Try.func8, Try.ntmps8
  go_wp2_with fail
  go_at_call 29; refine hm.mono ?_; clear hm; rintro e w1 ⟨rfl, rfl⟩
  go_wp2_with fail
  go_at_call 27; refine hO.mono ?_; clear hO; rintro e w2 ⟨v, rfl, hG⟩
  obtain ⟨A, cap, rfl⟩ := hG.spelt
  have hb2 := hG.below
  have hs2 : Hid (SeesN w2 A L) := hG.sees
  rw [HL.out]
  clear hG
  go_wp2_with (at_make; refine wpList_make_full _ rfl _ _ 55 rfl w2.heap.size 3 i0 (.int .i64 0) 1 Try.underlying55 hi hz0 hz1 _ _ _ _ n rfl rfl rfl rfl ?b2 ?b3 (Nat.le_refl _) ?_)
  case b2 => rw [hz2]; omega
  case b3 => unfold maxLen; omega
  intro w3 hown3 hgrow3
  have hB3 : Below w2.heap.size w2 w3 := (Below.refl _ _).grown hgrow3 (Nat.le_refl _) (fun k h => by cases h)
  have hR3 : RowI w3 w2.heap.size n (fun x => cnt p x 0) := by
    rcases hown3.2 with ⟨h, _⟩ | ⟨g, cp, cur, hv, hg, hh, _, _, hcs, htk⟩
    · cases h
    · cases hv
      refine ⟨cur, hh, by omega, fun i hi => ?_⟩
      have hc := hown3.cellAt i (by omega)
      rw [show (madeCells #[Value.int .i64 0] n).toList[i]? = some (.int .i64 0) by
        simp [madeCells, hi, Nat.mod_one]] at hc
      simpa [World.cell?, hh, cnt] using hc
  clear hown3 hgrow3
  go_wp2_with fail
  go_loopw [7] (fun i wr => ∃ k : Nat, k ≤ n ∧ i = .int .i64 k ∧ RowI wr w2.heap.size n (fun x => cnt p x k) ∧ Below w2.heap.size w2 wr) (fun i _ => n - (intOf i).toNat)
  case atStart => exact ⟨0, Nat.zero_le _, rfl, hR3, hB3⟩
  case round =>
    obtain ⟨k, hk, rfl, hR, hB⟩ := hrel
    clear hR3 hB3
    by_cases hltk : k < n
    · obtain ⟨b, off, rfl, hbB, hcell⟩ := hs2.out (by rw [HL.out]; omega)
      have e0 : wr.cell? ⟨b, off + k, none⟩ = some (.int .i64 ((p k : Nat) : Int)) := by
        have := (hB.cell (p := ⟨b, off + k, none⟩) hbB).trans (hcell k (by rw [HL.out]; exact hltk))
        rwa [HAT.out k hltk] at this
      have hpk := HLT.out k hltk
      have hR' := hR.set (f' := fun x => cnt p x (k + 1)) (p k) hpk (by simp [cnt]) (fun y hy => by simp [cnt, Ne.symm hy])
      have hc := hR.cell hpk
      have hz := hR.frozen (p k)
      have hB' := hB.setCell (p := ⟨w2.heap.size, p k, none⟩) (Nat.le_refl _) (.int .i64 (((cnt p (p k) k : Nat) : Int) + 1))
      have hcl : cnt p (p k) k ≤ 64 := by
        have : ∀ j x, cnt p x j ≤ j := fun j x => by
          induction j with
          | zero => exact Nat.le_refl _
          | succ j ih => simp only [cnt]; split <;> omega
        exact Nat.le_trans (this k (p k)) (by omega)
      generalize cnt p (p k) k = c at hc hR' hB' hcl
      generalize p k = x at e0 hpk hc hz hR' hB'
      clear hcell hR hB
      go_wp2_with fail
      go_roundw
      case rel => exact ⟨k + 1, by omega, by go_num, hR', hB'⟩
      case measure => simp [intOf]; omega
    · obtain rfl : k = n := by omega
      have HR : Hid (RowI wr w2.heap.size k (fun x => cnt p x k)) := hR
      clear hR
      go_wp2_with fail
      go_loopw [8] (fun i wx => ∃ j : Nat, j ≤ k ∧ i = .int .i64 j ∧ wx = wr) (fun i _ => k - (intOf i).toNat)
      case atStart => exact ⟨0, Nat.zero_le _, rfl, rfl⟩
      case round =>
        obtain ⟨j, hj, rfl, rfl⟩ := hrel
        by_cases hlt2 : j < k
        · have hc := HR.out.cell hlt2
          rw [show cnt p j k = 1 from HON.out j hlt2] at hc
          go_wp2_with fail
          go_roundw
          case rel => exact ⟨j + 1, by omega, by go_num, trivial⟩
          case measure => simp [intOf]; omega
        · obtain rfl : j = k := by omega
          go_wp2_with fail
          go_at_call 30; refine (awakeO_any _).mono ?_; rintro e w7 ⟨rfl, hb7⟩
          go_wp2_with fail
          go_ret
          exact ⟨rfl, (hb2.trans (hB.mono hb2.size)).trans (hb7.mono (Nat.le_trans hb2.size hB.size))⟩

theorem orderOnce_walk (n v : Int) (w : World) (hv : 0 ≤ v ∧ v ≤ 18446744073709551615) : Calls Try.prog 8 #[.int .i64 n, .int .u64 v] w fun e w' => e = .returned (.bool true) ∧ Below w.heap.size w w' := by
  by_cases h : 1 ≤ n ∧ n ≤ 64
  · obtain ⟨m, rfl⟩ : ∃ m : Nat, n = (m : Int) := ⟨n.toNat, by omega⟩
    obtain ⟨V, rfl⟩ : ∃ m : Nat, v = (m : Int) := ⟨v.toNat, by omega⟩
    exact orderOnce_ok m V w (by omega) (by omega) (by omega)
  · exact orderOnce_none n v w h
end Go.Proofs.Ytmjonifiohcobaa
