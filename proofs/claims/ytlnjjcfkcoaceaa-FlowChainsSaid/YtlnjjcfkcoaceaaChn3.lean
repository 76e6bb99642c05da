/- Chains: New, which picks the accesses that there are. -/
import Derived.Test.YtlnjjcfkcoaceaaChn2
import Derived.Deep.RegionLaw
namespace Go.Proofs.Ytlnjjcfkcoaceaa
open Go Go.RowKit
set_option linter.unusedVariables false
set_option maxRecDepth 100000
set_option linter.unusedSimpArgs false

/-- The accesses of the first k that there are. -/
def okL (L : Nat → Acc) : Nat → List Acc
  | 0 => []
  | k + 1 => if 0 ≤ (L k).k ∧ (L k).k ≤ 4 then okL L k ++ [L k] else okL L k
theorem okL_len (L : Nat → Acc) : ∀ k, (okL L k).length ≤ k
  | 0 => Nat.le_refl _
  | k + 1 => by unfold okL; have := okL_len L k; split <;> simp <;> omega
def flat (F : List Acc) : List Value := F.flatMap accC
theorem flat_len (F : List Acc) : (flat F).length = F.length * 6 := by
  induction F with
  | nil => rfl
  | cons a F ih => unfold flat at *; rw [List.flatMap_cons, List.length_append, ih]; simp [accC, accL]; omega
theorem flat_snoc (F : List Acc) (a : Acc) : flat (F ++ [a]) = flat F ++ accC a := by unfold flat; simp
theorem accC_one (a : Acc) : ∀ u ∈ accC a, u.oneCell' = true := by
  intro u hu
  simp [accC, accL] at hu
  rcases hu with rfl | rfl | rfl | rfl | rfl | rfl <;> simp [Value.oneCell']
theorem info41 : (Try.prog.info? 41).map (fun i => (i.zero, i.size, i.bytes)) = some (some (.agg #[.int .i64 0, .int .i64 0, .int .i64 0, .int .u64 0, .int .u64 0, .bool false]), 6, 48) := by kernel_rfl

/-- A chain that is being made: F are the accesses that it has. -/
structure Mk (w wr : World) (x : Nat) (who : Int) (v : Value) (F : List Acc) : Prop where
  blk : Blk wr x (chCells who none v (.slice none 0 0) (.slice none 0 0)) 128
  own : wr.ownsRow (x + 1) 41 6 v F.length (flat F)
  below : Below w.heap.size w wr

theorem Mk.far {w wr : World} {x : Nat} {who : Int} {v : Value} {F : List Acc} (h : Mk w wr x who v F) : v.ownBlock ≠ some x := by
  rcases h.own.2 with ⟨rfl, _⟩ | ⟨g, cp, cur, rfl, hg, _⟩
  · simp [Value.ownBlock]
  · simp [Value.ownBlock]; omega
theorem Mk.al {w wr : World} {x : Nat} {who : Int} {v : Value} {F : List Acc} (h : Mk w wr x who v F) (o : Obj) : Mk w (wr.alloc o) x who v F := ⟨h.blk.al o, h.own.alloc _, h.below.alloc h.below.size o⟩
theorem Mk.drew {w wr : World} {x : Nat} {who : Int} {v : Value} {F : List Acc} (h : Mk w wr x who v F) : Mk w wr.drew x who v F := ⟨h.blk.drew, h.own.drew, h.below.drew⟩
theorem Mk.next {w wr w1 : World} {x : Nat} {who : Int} {v v' : Value} {F : List Acc} {a : Acc} (h : Mk w wr x who v F) (hx : w.heap.size ≤ x) (hown : w1.ownsRow (x + 1) 41 6 v' (F.length + 1) (flat F ++ accC a)) (hgrow : wr.grownBy w1 v.ownBlock) :
    Mk w (w1.setCell ⟨x, 2, none⟩ v') x who v' (F ++ [a]) := by
  have hb1 : Blk w1 x (chCells who none v (.slice none 0 0) (.slice none 0 0)) 128 := h.blk.keep (hgrow.block x h.blk.lt (Ne.symm h.far))
  have hrow : w1.ownsRow (x + 1) 41 6 v' (F ++ [a]).length (flat (F ++ [a])) := by rw [flat_snoc]; simpa using hown
  refine ⟨hb1.set 2 v', ?_, ?_⟩
  · refine hrow.kept (w' := w1.setCell ⟨x, 2, none⟩ v') (row := some x) ⟨rfl, rfl, rfl, Nat.le_of_eq (size_set _ _ _).symm, fun k _ hk => heap_set_ne _ (fun e => hk (by rw [e])) _ _⟩ (.inr ?_)
    rcases hown.2 with ⟨rfl, _⟩ | ⟨g, cp, cur, rfl, hg, _⟩
    · simp [Value.ownBlock]
    · simp [Value.ownBlock]; omega
  · have hB1 : Below w.heap.size w w1 := h.below.grown hgrow h.below.size fun j ej => by
      rcases h.own.2 with ⟨e, -⟩ | ⟨g', cp, cur, e, hg, -⟩
      · rw [e] at ej; simp [Value.ownBlock] at ej
      · rw [e] at ej; simp [Value.ownBlock] at ej; omega
    exact hB1.setCell (p := ⟨x, 2, none⟩) hx _

/-- An access of which no one asks. -/
def noAcc : Acc := ⟨9, 0, 0, 0, 0, false⟩
theorem flat_at : ∀ (F : List Acc) (j : Nat), j < F.length → ∀ i, i < 6 → (flat F)[j * 6 + i]? = (accC (F.getD j noAcc))[i]?
  | [], j, h, i, hi => absurd h (by simp)
  | a :: F, 0, h, i, hi => by
    unfold flat
    rw [List.flatMap_cons, List.getElem?_append_left (by simp [accC, accL]; omega)]
    simp
  | a :: F, j + 1, h, i, hi => by
    unfold flat
    rw [List.flatMap_cons, List.getElem?_append_right (by simp [accC, accL]; omega)]
    have e : (j + 1) * 6 + i - (accC a).length = j * 6 + i := by simp [accC, accL]; omega
    rw [e]
    have := flat_at F j (by simpa using h) i hi
    unfold flat at this
    rw [this]
    simp
theorem accC_len (a : Acc) : (accC a).length = 6 := rfl

/-- What New makes. -/
inductive Newed (w w' : World) (x : Nat) (who : Int) (F : List Acc) : Prop
  | none (A : Option Addr) (ca : Nat) : F = [] → Blk w' x (chCells who none (.slice A 0 ca) (.slice none 0 0) (.slice none 0 0)) 128 → Newed w w' x who F
  | some (q ba m : Nat) : F.length = m + 1 → w.heap.size < q → w.heap.size < ba → q ≠ x → q ≠ ba → Chn w' x who (some ⟨q, 0, none⟩) ba 1 m (fun j => F.getD j noAcc) none 0 0 (fun _ => 0) → Blk w' q (comAcc (F.getD 0 noAcc) x) 199 → Newed w w' x who F

theorem Mk.empty {w wr : World} {x : Nat} {who : Int} {v : Value} {F : List Acc} (h : Mk w wr x who v F) (hF : F.length = 0) : ∃ A ca, v = .slice A 0 ca := by
  rcases h.own.2 with ⟨rfl, _⟩ | ⟨g, cp, cur, rfl, _⟩
  · exact ⟨_, _, rfl⟩
  · exact ⟨_, _, by rw [hF]⟩
theorem Mk.full {w wr : World} {x : Nat} {who : Int} {v : Value} {F : List Acc} {m : Nat} (h : Mk w wr x who v F) (hF : F.length = m + 1) : ∃ ba, AccS v ba 0 (m + 1) ∧ SeesB wr ba 0 (m + 1) (fun j => F.getD j noAcc) ∧ x < ba ∧ ba < wr.heap.size := by
  have hown := h.own
  rw [hF] at hown
  rcases h.own.2 with ⟨_, h0⟩ | ⟨g, cp, cur, rfl, hg, hh, hn, hm, hs, ht⟩
  · omega
  · refine ⟨g, ⟨_, _, by rw [hF], fun _ => by simp, by omega, hm⟩, fun j hj i u hu => ?_, by omega, block_lt hh⟩
    have hi : i < 6 := by
      have := (List.getElem?_eq_some_iff.1 hu).1
      rwa [accC_len] at this
    rw [Nat.zero_add] at hu ⊢
    have := h.own.cellAt (j * 6 + i) (by rw [hF]; omega)
    rw [this, flat_at F j (by omega) i hi]
    exact hu

set_option maxHeartbeats 4000000 in
theorem chnew_any (w : World) (E : Option Addr) (n cp : Nat) (L : Nat → Acc) (who : Int) (hs : SeesC w w.heap.size E n 6 (fun j => accC (L j))) (hn : n ≤ 1000) :
    Calls Try.prog 14 #[.int .i64 who, .slice E n cp] w fun e w' => e = .returned (.pointer (some ⟨w.heap.size, 0, none⟩)) ∧ Newed w w' w.heap.size who (okL L n) ∧ Below w.heap.size w w' := by
  obtain ⟨i0, hi, hz0, hz1, hz2⟩ := info_parts info41
  have HS : Hid (SeesC w w.heap.size E n 6 (fun j => accC (L j))) := hs
  have hB := Blk.new w (chCells 0 none (.slice none 0 0) (.slice none 0 0) (.slice none 0 0)) 128
  have hF := fof_any _ w.heap.size _ 128 who hB (by simp [chCells])
  have hb0 : Below w.heap.size w (w.alloc (.cells (chCells 0 none (.slice none 0 0) (.slice none 0 0) (.slice none 0 0)) 128)) := (Below.refl _ _).alloc (Nat.le_refl _) _
  clear hs
  go_enter Try.func14, Try.ntmps14
  go_wp2_with fail
  go_at_call 70; refine hF.mono ?_; rintro e w2 ⟨⟨v0, rfl⟩, hw2⟩
  have hM0 : Hid (Mk w w2 w.heap.size who (.slice none 0 0) []) := ⟨by rw [hw2]; exact hB.set 0 _, World.ownsRow_nil _ _ _ _, by rw [hw2]; exact hb0.setCell (p := ⟨w.heap.size, 0, none⟩) (Nat.le_refl _) _⟩
  clear hF hw2 hB hb0
  go_wp2_with fail
  go_loopw [17] (fun i wr => ∃ (k : Nat) (v : Value), k ≤ n ∧ i = .int .i64 k ∧ Hid (Mk w wr w.heap.size who v (okL L k))) (fun i _ => n - (intOf i).toNat)
  case atStart => exact ⟨0, _, Nat.zero_le _, rfl, hM0⟩
  case round =>
    clear hM0
    obtain ⟨k, v, hk, rfl, HM⟩ := hrel
    by_cases hlt : k < n
    · obtain ⟨b, off, rfl, hbB, hcell⟩ := HS.out (by omega)
      have hrg : wr.rangeAt b (off + k * 6) (accC (L k)) := fun j u hu => (HM.out.below.cell (p := ⟨b, off + k * 6 + j, none⟩) hbB).trans (hcell k hlt j u hu)
      have HF : Hid (okL L (k + 1) = if 0 ≤ (L k).k ∧ (L k).k ≤ 4 then okL L k ++ [L k] else okL L k) := rfl
      have hlen := okL_len L k
      generalize hLk : L k = a at *
      have HLK : Hid (L k = a) := hLk
      obtain ⟨kk, p, i, o, vv, z⟩ := a
      have HR : Hid (wr.rangeAt b (off + k * 6) [.int .i64 kk, .int .i64 p, .int .i64 i, .int .u64 o, .int .u64 vv, .bool z]) := fun j u hu => hrg j u hu
      have hk0 : (0 : Int) ≤ (k : Int) := Int.natCast_nonneg _
      have hk1 : (k : Int) < (n : Int) := by omega
      clear hcell hrg hLk
      by_cases h0 : 0 ≤ kk
      · by_cases h4 : kk ≤ 4
        · have hd : decide (kk ≤ 4) = true := decide_eq_true h4
          have hd0 : decide (0 ≤ kk) = true := decide_eq_true h0
          have HF2 : Hid (okL L (k + 1) = okL L k ++ [⟨kk, p, i, o, vv, z⟩]) := by have := HF.out; rw [if_pos ⟨h0, h4⟩] at this; exact this
          have c2 := HM.out.blk.cell 2 (v := v) rfl
          have f2 := HM.out.blk.fro 2
          have hxl := HM.out.blk.lt
          clear HF
          go_wp2_with (refine wpList_load_mid rfl 41 _ rfl b (off + k * 6) rfl [.int .i64 kk, .int .i64 p, .int .i64 i, .int .u64 o, .int .u64 vv, .bool z] _ HR.out Try.underlying41 rfl (by kernel_rfl) ?_)
          have hM1 : Hid (Mk w (wr.alloc (.cells #[.int .i64 kk, .int .i64 p, .int .i64 i, .int .u64 o, .int .u64 vv, .bool z] 41)) w.heap.size who v (okL L k)) := HM.out.al _
          have hY : Hid (Blk (wr.alloc (.cells #[.int .i64 kk, .int .i64 p, .int .i64 i, .int .u64 o, .int .u64 vv, .bool z] 41)) wr.heap.size #[.int .i64 kk, .int .i64 p, .int .i64 i, .int .u64 o, .int .u64 vv, .bool z] 41) := Blk.new _ _ _
          have hsz1 : w.heap.size + 1 ≤ (wr.alloc (.cells #[.int .i64 kk, .int .i64 p, .int .i64 i, .int .u64 o, .int .u64 vv, .bool z] 41)).heap.size := by simp; omega
          generalize wr.alloc (.cells #[.int .i64 kk, .int .i64 p, .int .i64 i, .int .u64 o, .int .u64 vv, .bool z] 41) = W1 at *
          have y0 := hY.out.cell 0 (v := .int .i64 kk) rfl
          have y1 := hY.out.cell 1 (v := .int .i64 p) rfl
          have y2 := hY.out.cell 2 (v := .int .i64 i) rfl
          have y3 := hY.out.cell 3 (v := .int .u64 o) rfl
          have y4 := hY.out.cell 4 (v := .int .u64 vv) rfl
          have y5 := hY.out.cell 5 (v := .bool z) rfl
          have e2 := hM1.out.blk.cell 2 (v := v) rfl
          have g2 := hM1.out.blk.fro 2
          have hM2 : Hid (Mk w (W1.alloc (.cells #[.int .i64 kk, .int .i64 p, .int .i64 i, .int .u64 o, .int .u64 vv, .bool z] 41)).drew w.heap.size who v (okL L k)) := (hM1.out.al _).drew
          have a2 := hM2.out.blk.cell 2 (v := v) rfl
          have b2 := hM2.out.blk.fro 2
          clear c2 f2 HM
          go_region_law ((refine step_append_lies _ (by rfl) _ _ _ (by rfl) (w.heap.size + 1) 41 i0 _ 6 48 Try.underlying23 hi hz0 hz1 hz2 rfl (by omega) v (okL L k).length (flat (okL L k)) (by rfl) hM2.out.own ⟨W1.heap.size, 0, none⟩ 1 1 [.int .i64 kk, .int .i64 p, .int .i64 i, .int .u64 o, .int .u64 vv, .bool z] (by rfl) (by rfl) (World.news_of_block (cs := #[.int .i64 kk, .int .i64 p, .int .i64 i, .int .u64 o, .int .u64 vv, .bool z]) (t := 41) (fr := (0, 0)) (heap_alloc_new W1 _)) (by simp [Value.oneCell']) (by omega) (by unfold maxLen; omega) (by omega) (by simp; omega) (W1.heap.size + 1) (by simp) ?_; intro gg cap1 w1 hown1 hgrow hat hlt1; have q0 : w1.cell? ⟨w.heap.size, 2, none⟩ = some v := (hgrow.cell_far ⟨w.heap.size, 2, none⟩ hM2.out.blk.lt (Ne.symm hM2.out.far)).trans a2; have q1 : w1.frozen? ⟨w.heap.size, 2, none⟩ = false := (hgrow.frozen_far ⟨w.heap.size, 2, none⟩ hM2.out.blk.lt (Ne.symm hM2.out.far)).trans b2))
          all_goals
            have hN := hM2.out.next (a := ⟨kk, p, i, o, vv, z⟩) (Nat.le_refl _) hown1 hgrow
            clear q0 q1 hown1 hgrow hat hlt1 a2 b2 e2 g2 y0 y1 y2 y3 y4 y5
            go_wp2_with fail
            go_roundw
            case rel => exact ⟨k + 1, _, by omega, by go_num, by rw [HF2.out]; exact hN⟩
            case measure => simp [intOf]; omega
        · have hd : decide (kk ≤ 4) = false := decide_eq_false h4
          have HF2 : Hid (okL L (k + 1) = okL L k) := by have := HF.out; rw [if_neg (fun h => h4 h.2)] at this; exact this
          have hM1 : Hid (Mk w (wr.alloc (.cells #[.int .i64 kk, .int .i64 p, .int .i64 i, .int .u64 o, .int .u64 vv, .bool z] 41)) w.heap.size who v (okL L k)) := HM.out.al _
          clear HF
          go_wp2_with (refine wpList_load_mid rfl 41 _ rfl b (off + k * 6) rfl [.int .i64 kk, .int .i64 p, .int .i64 i, .int .u64 o, .int .u64 vv, .bool z] _ HR.out Try.underlying41 rfl (by kernel_rfl) ?_)
          go_roundw
          case rel => exact ⟨k + 1, _, by omega, by go_num, by rw [HF2.out]; exact hM1.out⟩
          case measure => simp [intOf]; omega
      · have hd : decide (0 ≤ kk) = false := decide_eq_false h0
        have HF2 : Hid (okL L (k + 1) = okL L k) := by have := HF.out; rw [if_neg (fun h => h0 h.1)] at this; exact this
        have hM1 : Hid (Mk w (wr.alloc (.cells #[.int .i64 kk, .int .i64 p, .int .i64 i, .int .u64 o, .int .u64 vv, .bool z] 41)) w.heap.size who v (okL L k)) := HM.out.al _
        clear HF
        go_wp2_with (refine wpList_load_mid rfl 41 _ rfl b (off + k * 6) rfl [.int .i64 kk, .int .i64 p, .int .i64 i, .int .u64 o, .int .u64 vv, .bool z] _ HR.out Try.underlying41 rfl (by kernel_rfl) ?_)
        go_roundw
        case rel => exact ⟨k + 1, _, by omega, by go_num, by rw [HF2.out]; exact hM1.out⟩
        case measure => simp [intOf]; omega
    · obtain rfl : k = n := by omega
      have hk1 : ¬ (k : Int) < (k : Int) := by omega
      by_cases hF0 : okL L k = []
      · obtain ⟨A, ca, rfl⟩ := HM.out.empty (by simp [hF0])
        have hGo := goOn_none wr w.heap.size who none A ca none 0 _ HM.out.blk
        have HF0 : Hid (okL L k = []) := hF0
        clear hF0
        go_wp2_with fail
        go_at_call 71; refine hGo.mono ?_; rintro e w5 ⟨⟨v, rfl⟩, rfl⟩
        clear hGo
        go_wp2_with fail
        go_ret
        exact ⟨rfl, .none A ca HF0.out HM.out.blk, HM.out.below⟩
      · obtain ⟨m, hm⟩ : ∃ m, (okL L k).length = m + 1 := by
          cases hq : okL L k with
          | nil => exact absurd hq hF0
          | cons a F => exact ⟨F.length, by simp⟩
        obtain ⟨ba, hAv, hS, hxb, hbl⟩ := HM.out.full hm
        have hl := okL_len L k
        have hGo := goOn_acc wr w.heap.size who none ba 0 m (fun j => (okL L k).getD j noAcc) v _ _ HM.out.blk hAv hS hbl (by omega) (by omega)
        have Hm : Hid ((okL L k).length = m + 1) := hm
        have HS2 : Hid (SeesB wr ba 0 (m + 1) (fun j => (okL L k).getD j noAcc)) := hS
        clear hF0 hm hS hl hAv
        go_wp2_with fail
        go_at_call 71; refine hGo.mono ?_; rintro e w5 ⟨⟨v5, rfl⟩, q, av', hq, hAv', hM5, hQ5, hB5⟩
        clear hGo
        go_wp2_with fail
        go_ret
        have hxl := HM.out.blk.lt
        have hB : Below w.heap.size w w5 := HM.out.below.trans (hB5.below (by simp) HM.out.below.size)
        exact ⟨rfl, .some q ba m Hm.out (by omega) (by omega) (by omega) (by omega) ⟨⟨av', none, 0, hAv', hM5⟩, HS2.out.tail.but hB5 (by simp; omega) hbl, ⟨World.ownsRow_nil _ _ _ _⟩, Nat.lt_of_lt_of_le hbl hB5.size, by omega, fun k e => by cases e⟩ hQ5, hB⟩
end Go.Proofs.Ytlnjjcfkcoaceaa
