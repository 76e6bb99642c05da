/- The contract of the reference's New: a memory of words, which are copied one by one. -/
import Derived.Test.YthjfbknmdligeaaGreatRef2
import Derived.Deep.AppendLies
import Derived.Deep.RegionLaw
namespace Go.Proofs.YthjfbknmdligeaaGreat
open Go Go.RowKit
set_option linter.unusedVariables false
set_option maxRecDepth 100000
set_option linter.unusedSimpArgs false

/-- The reference's memory as it grows: k words are in it. -/
structure Grow (w wr : World) (f : Nat → Int) (A : Option Addr) (k cap : Nat) : Prop where
  blk : wr.heap[w.heap.size]? = some (.cells (memCells A k cap (fresh f)) 64 (0, 0))
  own : wr.ownsRow (w.heap.size + 1) 41 1 (.slice A k cap) k (wordCells f k)
  below : Below w.heap.size w wr

theorem grown_set (W : World) (b : Nat) (v : Value) : W.grownBy (W.setCell ⟨b, 0, none⟩ v) (some b) :=
  ⟨rfl, rfl, rfl, Nat.le_of_eq (size_set _ _ _).symm, fun k _ hk => heap_set_ne _ (fun e => hk (by rw [e])) _ _⟩
theorem wordCells_snoc (f : Nat → Int) (k : Nat) : wordCells f k ++ [.int .u64 (f k)] = wordCells f (k + 1) := by
  unfold wordCells
  rw [List.range_succ, List.map_append]
  rfl
theorem Grow.size {w wr : World} {f : Nat → Int} {A : Option Addr} {k cap : Nat} (h : Grow w wr f A k cap) : w.heap.size + 1 ≤ wr.heap.size := block_lt h.blk
theorem Grow.far {w wr : World} {f : Nat → Int} {A : Option Addr} {k cap : Nat} (h : Grow w wr f A k cap) {b : Nat} (hb : b ≤ w.heap.size) : (Value.slice A k cap).ownBlock ≠ some b := by
  rcases h.own.2 with ⟨e, -⟩ | ⟨g, cp, cur, e, hg, -⟩
  · rw [e]; simp [Value.ownBlock]
  · rw [e]; simp [Value.ownBlock]; omega
theorem Grow.next {w wr w1 : World} {f : Nat → Int} {A : Option Addr} {k cap g cap' : Nat} {o : Obj} (h : Grow w wr f A k cap) (hown : w1.ownsRow (w.heap.size + 1) 41 1 (.slice (some ⟨g, 0, none⟩) (k + 1) cap') (k + 1) (wordCells f k ++ [.int .u64 (f k)]))
    (hgrow : ((wr.alloc o).drew).grownBy w1 (Value.slice A k cap).ownBlock) : Grow w (w1.setCell ⟨w.heap.size, 0, none⟩ (.slice (some ⟨g, 0, none⟩) (k + 1) cap')) f (some ⟨g, 0, none⟩) (k + 1) cap' := by
  have hs := h.size
  have hb1 : w1.heap[w.heap.size]? = some (.cells (memCells A k cap (fresh f)) 64 (0, 0)) := by
    refine (hgrow.block _ (by simp; omega) (Ne.symm (h.far (Nat.le_refl _)))).trans ?_
    show (wr.alloc o).heap[_]? = _
    rw [heap_al _ (by omega)]
    exact h.blk
  refine ⟨heap_set hb1 0 _, ?_, ?_⟩
  · have h2 := hown
    rw [wordCells_snoc] at h2
    refine h2.kept (grown_set w1 w.heap.size _) (.inr ?_)
    rcases hown.2 with ⟨e, -⟩ | ⟨g', cp, cur, e, hg, -⟩
    · cases e
    · cases e; simp [Value.ownBlock]; omega
  · have hB1 : Below w.heap.size w w1 := ((h.below.alloc h.below.size o).drew).grown hgrow (by simp; omega) fun j ej => by
      rcases h.own.2 with ⟨e, -⟩ | ⟨g', cp, cur, e, hg, -⟩
      · rw [e] at ej; simp [Value.ownBlock] at ej
      · rw [e] at ej; simp [Value.ownBlock] at ej; omega
    exact hB1.setCell (p := ⟨w.heap.size, 0, none⟩) (Nat.le_refl _) _

theorem Grow.is {w wr : World} {f : Nat → Int} {A : Option Addr} {n cap : Nat} (h : Grow w wr f A n cap) (hf : ∀ i, i < n → 0 ≤ f i ∧ f i ≤ 18446744073709551615) : ∃ b, w.heap.size ≤ b ∧ Is wr 64 A cap w.heap.size b n (fresh f) := by
  have hs := h.size
  rcases h.own.2 with ⟨e, rfl⟩ | ⟨g, cp, cur, e, hg, hh, hnc, hcm, hcs, htk⟩
  · cases e
    exact ⟨w.heap.size, Nat.le_refl _, h.blk, ⟨Nat.le_refl _, Nat.zero_le _, fun _ => rfl⟩, fun h => absurd h (by simp), hf, by omega⟩
  · cases e
    refine ⟨g, by omega, h.blk, ⟨by omega, hcm, fun h => by cases h⟩, fun hpos => ⟨rfl, by omega, cur, hh, fun i hi => ?_⟩, hf, block_lt hh⟩
    have hc := h.own.cellAt i (by omega)
    rw [wordCells_at f n i hi] at hc
    show cur[i]? = some (.int .u64 (f i))
    simpa [World.cell?, hh] using hc

theorem refNew_any (w : World) (A : Option Addr) (n cap : Nat) (f : Nat → Int) (hn : n ≤ 100000) (hs : SeesU w w.heap.size A n f) (hf : ∀ i, i < n → 0 ≤ f i ∧ f i ≤ 18446744073709551615) :
    Calls Tryz.prog 36 #[.slice A n cap] w fun e w' => ∃ (A' : Option Addr) (cap' c b : Nat), e = .returned (.pointer (some ⟨c, 0, none⟩)) ∧ Is w' 64 A' cap' c b n (fresh f) ∧ Below w.heap.size w w' ∧ w.heap.size ≤ b ∧ w.heap.size ≤ c := by
  obtain ⟨i0, hi, hz0, hz1, hz2⟩ := info_parts info41
  have HS : Hid (SeesU w w.heap.size A n f) := hs
  have HF : Hid _ := hf
  have hG0 : Grow w (w.alloc (.cells (memCells none 0 0 (fresh f)) 64)) f none 0 0 := ⟨heap_alloc_new _ _, World.ownsRow_nil _ _ _ _, (Below.refl _ _).alloc (Nat.le_refl _) _⟩
  clear hs hf
  go_enter Tryz.func36, Tryz.ntmps36
  go_wp2_with fail
  go_loopw [4] (fun i wr => ∃ (k cp : Nat) (E : Option Addr), k ≤ n ∧ i = .int .i64 k ∧ Grow w wr f E k cp) (fun i _ => n - (intOf i).toNat)
  case atStart => exact ⟨0, 0, none, Nat.zero_le _, rfl, hG0⟩
  case round =>
    obtain ⟨k, cp, E, hk, rfl, hG⟩ := hrel
    clear hG0
    have HG : Hid (Grow w wr f E k cp) := hG
    by_cases hlt : k < n
    · obtain ⟨b, off, rfl, hbB, hcell⟩ := HS.out (by omega)
      have hbw := hG.below
      have hx : wr.cell? ⟨b, off + k, none⟩ = some (.int .u64 (f k)) := (hbw.cell (p := ⟨b, off + k, none⟩) hbB).trans (hcell k hlt)
      have hc : wr.cell? ⟨w.heap.size, 0, none⟩ = some (.slice E k cp) := by simp [World.cell?, hG.blk, memCells]
      have hz : wr.frozen? ⟨w.heap.size, 0, none⟩ = false := by simp [World.frozen?, hG.blk]
      have hsz := hG.size
      have far0 : (Value.slice E k cp).ownBlock ≠ some w.heap.size := hG.far (Nat.le_refl _)
      have farb : (Value.slice E k cp).ownBlock ≠ some b := hG.far (Nat.le_of_lt hbB)
      have hk0 : (0 : Int) ≤ (k : Int) := Int.natCast_nonneg _
      have hk1 : (k : Int) < (n : Int) := by omega
      have hA : (wr.alloc (.cells #[.int .u64 (f k)] 41)).drew.cell? ⟨w.heap.size, 0, none⟩ = some (.slice E k cp) ∧ (wr.alloc (.cells #[.int .u64 (f k)] 41)).drew.cell? ⟨b, off + k, none⟩ = some (.int .u64 (f k)) ∧ (wr.alloc (.cells #[.int .u64 (f k)] 41)).drew.frozen? ⟨w.heap.size, 0, none⟩ = false :=
        ⟨(World.cell?_alloc_lt wr (.cells #[.int .u64 (f k)] 41) ⟨w.heap.size, 0, none⟩ (by show w.heap.size < _; omega)).trans hc, (World.cell?_alloc_lt wr (.cells #[.int .u64 (f k)] 41) ⟨b, off + k, none⟩ (by show b < _; omega)).trans hx, (World.frozen?_alloc_past _ _ _ (by show w.heap.size < _; omega)).trans hz⟩
      have HA : Hid _ := hA
      obtain ⟨hA1, hA2, hA3⟩ := hA
      clear hcell hbw hG
      go_wp2_with fail
      go_region_law ((refine step_append_lies _ (by rfl) _ _ _ (by rfl) (w.heap.size + 1) 41 i0 _ 1 8 Tryz.underlying37 hi hz0 hz1 hz2 rfl (by omega) (.slice E k cp) k (wordCells f k) (by rfl) ((HG.out.own.alloc _).drew) ⟨wr.heap.size, 0, none⟩ 1 1 [.int .u64 (f k)] (by rfl) (by rfl) (World.news_of_block (cs := #[.int .u64 (f k)]) (t := 41) (fr := (0, 0)) (heap_alloc_new wr _)) (by simp [Value.oneCell']) (by omega) (by unfold maxLen; omega) (by omega) (by simp; omega) (wr.heap.size + 1) (by simp) ?_; intro gg cap1 w1 hown1 hgrow hat hlt1; have q0 : w1.cell? ⟨w.heap.size, 0, none⟩ = some (.slice E k cp) := (hgrow.cell_far ⟨w.heap.size, 0, none⟩ (by simp; omega) (Ne.symm far0)).trans HA.out.1; have q1 : w1.frozen? ⟨w.heap.size, 0, none⟩ = false := (hgrow.frozen_far ⟨w.heap.size, 0, none⟩ (by simp; omega) (Ne.symm far0)).trans HA.out.2.2))
      all_goals
        have hN := HG.out.next hown1 hgrow
        clear q0 q1 hown1 hgrow hat hlt1 hA1 hA2 hA3 HA
        go_wp2_with fail
        go_roundw
        case rel => exact ⟨k + 1, _, _, by omega, by go_num, hN⟩
        case measure => simp [intOf]; omega
    · obtain rfl : k = n := by omega
      go_wp2_with fail
      go_ret
      obtain ⟨b, hb, hI⟩ := HG.out.is HF.out
      exact ⟨E, cp, w.heap.size, b, rfl, hI, HG.out.below, hb, Nat.le_refl _⟩
end Go.Proofs.YthjfbknmdligeaaGreat
