/- The walk of the law DrawKeeps. -/
import Derived.Test.YtlpfleefbngdaaaAwake
import Derived.Deep.RegionHeld3
namespace Go.Proofs.Ytlpfleefbngdaaa
open Go Go.RowKit
set_option linter.unusedVariables false
set_option linter.unusedSimpArgs false

theorem drawKeeps_many (A : Option Addr) (n cap : Nat) (N : Int) (w : World) (hn : n ≤ 9223372036854775807) (h : 100 < n) :
    Calls Try.prog 4 #[.slice A n cap, .int .i64 N] w fun e w' => e = .returned (.bool true) ∧ Below w.heap.size w w' := by
  go_enter Try.func4, Try.ntmps4
  go_wp2_with fail
  go_at_call 6; refine (awake_any _).mono ?_; rintro e w1 ⟨rfl, hb1⟩
  go_wp2_with fail
  go_ret
  exact ⟨rfl, hb1⟩

/-- Block g is a row of n words, of which the first k are f's. -/
def Row (w : World) (g n k : Nat) (f : Nat → Int) : Prop := ∃ cur : Array Value, w.heap[g]? = some (.cells cur 35 (0, 0)) ∧ cur.size = n ∧ ∀ i, i < k → cur[i]? = some (.int .u64 (f i))
theorem Row.lt {w : World} {g n k : Nat} {f : Nat → Int} (h : Row w g n k f) : g < w.heap.size := by obtain ⟨cur, hh, _⟩ := h; exact block_lt hh
theorem Row.frozen {w : World} {g n k : Nat} {f : Nat → Int} (h : Row w g n k f) (i : Nat) : w.frozen? ⟨g, i, none⟩ = false := by obtain ⟨cur, hh, _⟩ := h; simp [World.frozen?, hh]
theorem Row.there {w : World} {g n k : Nat} {f : Nat → Int} (h : Row w g n k f) (i : Nat) (hi : i < n) : ∃ v, w.cell? ⟨g, i, none⟩ = some v := by
  obtain ⟨cur, hh, hs, _⟩ := h
  exact ⟨cur[i]'(by omega), by simp [World.cell?, hh, hs, hi]⟩
theorem Row.cell {w : World} {g n k : Nat} {f : Nat → Int} (h : Row w g n k f) (i : Nat) (hi : i < k) : w.cell? ⟨g, i, none⟩ = some (.int .u64 (f i)) := by
  obtain ⟨cur, hh, hs, hc⟩ := h
  simp [World.cell?, hh, hc i hi]
theorem Row.set {w : World} {g n k : Nat} {f : Nat → Int} (h : Row w g n k f) (hk : k < n) : Row (w.setCell ⟨g, k, none⟩ (.int .u64 (f k))) g n (k + 1) f := by
  obtain ⟨cur, hh, hs, hc⟩ := h
  refine ⟨_, heap_set hh k _, by simpa using hs, fun i hi => ?_⟩
  by_cases e : i = k
  · subst e; simp [hs, hk]
  · rw [Array.getElem?_setIfInBounds_ne (by omega)]; exact hc i (by omega)
theorem Row.wipe {w : World} {g n k : Nat} {f : Nat → Int} (h : Row w g n k f) (j : Nat) (u : Value) : Row (w.setCell ⟨g, j, none⟩ u) g n 0 f := by
  obtain ⟨cur, hh, hs, hc⟩ := h
  exact ⟨_, heap_set hh j _, by simpa using hs, fun i hi => absurd hi (Nat.not_lt_zero i)⟩
theorem Row.none_ {w : World} {g n k : Nat} {f : Nat → Int} (h : Row w g n k f) : Row w g n 0 f := by
  obtain ⟨cur, hh, hs, hc⟩ := h
  exact ⟨cur, hh, hs, fun i hi => absurd hi (Nat.not_lt_zero i)⟩
theorem Row.below {w w' : World} {g n k B : Nat} {f : Nat → Int} (h : Row w g n k f) (hb : Below B w w') (hg : g < B) : Row w' g n k f := by
  obtain ⟨cur, hh, hs, hc⟩ := h
  exact ⟨cur, (hb.block g hg).trans hh, hs, hc⟩

/-- A cell that came in, and all below, kept where only the cursor's block is turned. -/
theorem held_but {W : World} {a : Addr} {x : Value} {c : Nat} (ha : a.block < W.heap.size) (hc : W.heap.size ≤ c) (X w' : World)
    (hS : X.cell? a = some x ∧ Below W.heap.size W X) (h : But c X w') : w'.cell? a = some x ∧ Below W.heap.size W w' := by
  have hB := h.below hc hS.2.size
  exact ⟨(hB.cell ha).trans hS.1, hS.2.trans hB⟩

set_option maxHeartbeats 2000000 in
set_option maxRecDepth 100000 in
theorem drawKeeps_few (A : Option Addr) (n cap : Nat) (N : Int) (f : Nat → Int) (w : World) (hn : n ≤ 100) (hN : N ≤ 9223372036854775807) (hs : SeesU w w.heap.size A n f) :
    Calls Try.prog 4 #[.slice A n cap, .int .i64 N] w fun e w' => e = .returned (.bool true) ∧ Below w.heap.size w w' := by
  obtain ⟨i0, hi, hz0, hz1, hz2⟩ := info_parts info35
  have HS : Hid (SeesU w w.heap.size A n f) := hs
  clear hs
  go_enter Try.func4, Try.ntmps4
  go_wp2_with (at_make; refine wpList_make_full _ rfl _ _ 22 rfl w.heap.size 35 i0 (.int .u64 0) 1 Try.underlying22 hi hz0 hz1 _ _ _ _ n rfl rfl rfl rfl ?b2 ?b3 (Nat.le_refl _) ?_)
  case b2 => rw [hz2]; omega
  case b3 => unfold maxLen; omega
  intro w0 hown0 hgrow0
  have hB0 : Below w.heap.size w w0 := (Below.refl _ _).grown hgrow0 (Nat.le_refl _) (fun k h => by cases h)
  have hR0 : Row w0 w.heap.size n 0 f := by
    rcases hown0.2 with ⟨h, _⟩ | ⟨g, cp, cur, hv, hg, hh, _, _, hcs, _⟩
    · cases h
    · cases hv
      exact ⟨cur, hh, by omega, fun i hi => absurd hi (Nat.not_lt_zero i)⟩
  clear hown0 hgrow0
  go_wp2_with fail
  go_loopw [6] (fun i wr => ∃ k : Nat, k ≤ n ∧ i = .int .i64 k ∧ Row wr w.heap.size n k f ∧ Below w.heap.size w wr) (fun i _ => n - (intOf i).toNat)
  case atStart => exact ⟨0, Nat.zero_le _, rfl, hR0, hB0⟩
  case round =>
    obtain ⟨k, hk, rfl, hR, hB⟩ := hrel
    clear hR0 hB0
    by_cases hlt : k < n
    · obtain ⟨b, off, rfl, hbB, hcell⟩ := HS.out (by omega)
      have hc : wr.cell? ⟨b, off + k, none⟩ = some (.int .u64 (f k)) := (hB.cell (p := ⟨b, off + k, none⟩) hbB).trans (hcell k hlt)
      obtain ⟨v0, hv0⟩ := hR.there k hlt
      have hz := hR.frozen k
      have hR' := hR.set hlt
      have hB' := hB.setCell (p := ⟨w.heap.size, k, none⟩) (Nat.le_refl _) (.int .u64 (f k))
      clear hcell hR hB
      go_wp2_with fail
      go_roundw
      case rel => exact ⟨k + 1, by omega, by go_num, hR', hB'⟩
      case measure => simp [intOf]; omega
    · obtain rfl : k = n := by omega
      have hS1 : Hid (SeesU wr wr.heap.size (some ⟨w.heap.size, 0, none⟩) k f) := fun _ => ⟨w.heap.size, 0, rfl, hR.lt, fun i hi => by rw [Nat.zero_add]; exact hR.cell i hi⟩
      have hg := hR.lt
      go_wp2_with fail
      go_at_call 7; refine (new_any _ k k f _ (by omega) (fun h => by cases h) hS1.out).mono ?_; rintro e w2 ⟨c, rfl, hC, hb2, hcB⟩
      have hR2 := (hR.below hb2 hg).none_
      have hB2 := hB.trans (hb2.mono hB.size)
      clear hR hB hb2 hS1
      generalize wr.heap.size = Bc at hC hg hcB
      go_wp2_with fail
      go_loopw [8] (fun i wr => ∃ j : Nat, j ≤ k ∧ i = .int .i64 j ∧ Row wr w.heap.size k 0 f ∧ Curs wr Bc c f k 0 ∧ Below w.heap.size w wr) (fun i _ => k - (intOf i).toNat)
      case atStart => exact ⟨0, Nat.zero_le _, rfl, hR2, hC, hB2⟩
      case round =>
        obtain ⟨j, hj, rfl, hR3, hC3, hB3⟩ := hrel
        clear hR2 hC hB2
        by_cases hlt2 : j < k
        · obtain ⟨v0, hv0⟩ := hR3.there j hlt2
          have hz := hR3.frozen j
          have hR4 := hR3.wipe j (.int .u64 12345)
          have hC4 : Curs (wr.setCell ⟨w.heap.size, j, none⟩ (.int .u64 12345)) Bc c f k 0 := hC3.keep fun q hq _ => Below.heap_setCell _ _ _ _ (by show q ≠ w.heap.size; omega)
          have hB4 := hB3.setCell (p := ⟨w.heap.size, j, none⟩) (Nat.le_refl _) (.int .u64 12345)
          clear hR3 hC3 hB3
          go_wp2_with fail
          go_roundw
          case rel => exact ⟨j + 1, by omega, by go_num, hR4, hC4, hB4⟩
          case measure => simp [intOf]; omega
        · obtain rfl : j = k := by omega
          clear hR3
          go_wp2_with fail
          go_loopw [9] (fun i wr => ∃ q : Nat, q ≤ j ∧ i = .int .i64 q ∧ Curs wr Bc c f j q ∧ Below w.heap.size w wr) (fun i _ => j - (intOf i).toNat)
          case atStart => exact ⟨0, Nat.zero_le _, rfl, hC3, hB3⟩
          case round =>
            obtain ⟨q, hq, rfl, hC5, hB5⟩ := hrel
            clear hC3 hB3
            have hwc : w.heap.size ≤ c := by omega
            by_cases hlt3 : q < j
            · obtain ⟨b, off, rfl, hbB, hcell⟩ := HS.out (by omega)
              have e0 : wr.cell? ⟨b, off + q, none⟩ = some (.int .u64 (f q)) := (hB5.cell (p := ⟨b, off + q, none⟩) hbB).trans (hcell q hlt3)
              have HW : Hid (wordAt f j q = f q) := by show _ = _; unfold wordAt; rw [if_pos hlt3]
              have HC : Hid (Curs wr.drew Bc c f j q) := hC5
              have KEEP : Hid (∀ X w' : World, (X.cell? ⟨b, off + q, none⟩ = some (.int .u64 (f q)) ∧ Below w.heap.size w X) → But c X w' → (w'.cell? ⟨b, off + q, none⟩ = some (.int .u64 (f q)) ∧ Below w.heap.size w w')) := held_but (a := ⟨b, off + q, none⟩) hbB hwc
              have hH : wr.drew.cell? ⟨b, off + q, none⟩ = some (.int .u64 (f q)) ∧ Below w.heap.size w wr.drew := ⟨e0, hB5.drew⟩
              clear hcell hC5 hB5 e0
              go_wp2_with fail
              go_region_held3 (fun w' => w'.cell? ⟨b, off + q, none⟩ = some (.int .u64 (f q)) ∧ Below w.heap.size w w') (first | exact hH | assumption | exact KEEP.out _ _ ‹_› ‹_›) (first | (go_at_call 12; refine (next_any _ _ c f j q HC.out (by omega) (by omega)).mono ?_; rintro e w' ⟨rfl, hC6, hbt⟩; rw [HW.out]))
              all_goals
                rename_i hS
                have hE := hS.2
                clear hS hH
                go_wp2_with fail
                go_roundw
                case rel => exact ⟨q + 1, by omega, by go_num, hC6, hE⟩
                case measure => simp [intOf]; omega
            · obtain rfl : q = j := by omega
              have HW : Hid (wordAt f q q = 0) := by show _ = _; unfold wordAt; rw [if_neg (Nat.lt_irrefl _)]
              go_wp2_with fail
              go_at_call 6; refine (awake_any _).mono ?_; rintro e w7 ⟨rfl, hb7⟩
              have hC7 := hC5.below hb7 hC5.lt
              have hB7 := hB5.trans (hb7.mono hB5.size)
              clear hC5 hB5 hb7
              go_wp2_with fail
              go_at_call 12; refine (next_any _ _ c f q q hC7 (by omega) (by omega)).mono ?_; rintro e w8 ⟨rfl, hC8, hbt8⟩; rw [HW.out]
              have hB8 := hB7.trans (hbt8.below hwc hB7.size)
              clear hC7 hC8 hB7 hbt8
              go_wp2_with fail
              go_at_call 12; refine (next_nil _).mono ?_; rintro e w9 ⟨rfl, rfl⟩
              go_wp2_with fail
              go_at_call 13; refine (below_nil N _ hN).mono ?_; rintro e w9 ⟨rfl, rfl⟩
              go_wp2_with fail
              go_at_call 9; refine (left_nil _).mono ?_; rintro e w9 ⟨rfl, rfl⟩
              go_wp2_with fail
              go_at_call 11; refine (told_nil _).mono ?_; rintro e w9 ⟨rfl, rfl⟩
              go_wp2_with fail
              go_at_call 14; refine (peek_nil N _).mono ?_; rintro e w9 ⟨rfl, rfl⟩
              go_wp2_with fail
              go_at_call 15; refine (skip_nil N _).mono ?_; rintro e w9 ⟨rfl, rfl⟩
              go_wp2_with fail
              go_ret
              exact ⟨rfl, hB8⟩

end Go.Proofs.Ytlpfleefbngdaaa
