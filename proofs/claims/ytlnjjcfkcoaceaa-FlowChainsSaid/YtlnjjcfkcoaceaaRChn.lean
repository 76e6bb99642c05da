/- The reference's Chain. -/
import Derived.Test.YtlnjjcfkcoaceaaChn6
import Derived.Test.YtlnjjcfkcoaceaaRun5
namespace Go.Proofs.Ytlnjjcfkcoaceaa
open Go Go.RowKit
set_option linter.unusedVariables false
set_option maxRecDepth 100000
set_option linter.unusedSimpArgs false

/-- One access of a chain, of what was answered. -/
def stA (m : Nat) (g : Nat → Int) (a : Acc) (r : Rn) : Int × Rn :=
  if a.k = 0 then waitGo m g a.i (m + 2) 0 true r
  else if a.k = 1 then (doV m g r, doS m r 1 a.i 0 0)
  else if a.k = 2 then (0, doS m r 2 a.i 0 a.v)
  else if a.k = 3 then (if doV m g r = 1 then 1 else 0, doS m r 3 a.i a.o a.v)
  else if a.k = 4 then (doV m g r, doS m r 4 a.i 0 a.v)
  else (0, r)
structure ChR where
  r : Rn
  c : Nat
  f : Nat → Int
def chNext (m : Nat) (g : Nat → Int) (a : Acc) (s : ChR) : ChR :=
  if s.r.stop = true then s
  else if (0 ≤ a.k ∧ a.k ≤ 4) ∧ (stA m g a s.r).2.stop = false then ⟨(stA m g a s.r).2, s.c + 1, gsnoc s.f s.c (stA m g a s.r).1⟩
  else ⟨(stA m g a s.r).2, s.c, s.f⟩
def chGo (m : Nat) (g : Nat → Int) (L : Nat → Acc) (r0 : Rn) : Nat → ChR
  | 0 => ⟨r0, 0, fun _ => 0⟩
  | k + 1 => chNext m g (L k) (chGo m g L r0 k)
theorem chGo_stop {m : Nat} {g : Nat → Int} {L : Nat → Acc} {r0 : Rn} {k : Nat} (h : (chGo m g L r0 k).r.stop = true) : ∀ j, chGo m g L r0 (k + j) = chGo m g L r0 k
  | 0 => rfl
  | j + 1 => by
    show chNext m g (L (k + j)) (chGo m g L r0 (k + j)) = _
    rw [chGo_stop h j, chNext, if_pos h]
theorem chGo_len (m : Nat) (g : Nat → Int) (L : Nat → Acc) (r0 : Rn) : ∀ k, (chGo m g L r0 k).c ≤ k
  | 0 => Nat.le_refl _
  | k + 1 => by
    show (chNext m g (L k) (chGo m g L r0 k)).c ≤ k + 1
    have := chGo_len m g L r0 k
    unfold chNext
    split
    · omega
    · split
      · show (chGo m g L r0 k).c + 1 ≤ k + 1; omega
      · show (chGo m g L r0 k).c ≤ k + 1; omega

theorem chNext_go {m : Nat} {g : Nat → Int} {a : Acc} {q : ChR} {v1 : Int} {q1 : Rn} (h : q.r.stop = false) (hs : stA m g a q.r = (v1, q1)) : chNext m g a q = if (0 ≤ a.k ∧ a.k ≤ 4) ∧ q1.stop = false then ⟨q1, q.c + 1, gsnoc q.f q.c v1⟩ else ⟨q1, q.c, q.f⟩ := by
  unfold chNext
  rw [if_neg (by simp [h]), hs]
theorem own_far {w : World} {B n : Nat} {v : Value} {xs : List Value} (h : w.ownsRow B 34 1 v n xs) {k : Nat} (hk : k < B) : v.ownBlock ≠ some k := by
  rcases h.2 with ⟨rfl, _⟩ | ⟨g, cp, cur, rfl, hg, _⟩
  · simp [Value.ownBlock]
  · simp [Value.ownBlock]; omega
theorem RunOn.keeps {w w' : World} {x : Nat} {A : Option Addr} {cap m : Nat} {g : Nat → Int} {r : Rn} {B : Nat} (h : RunOn w x A cap m g r) (hx : x < B) (hA : ∀ b, A = some ⟨b, 0, none⟩ → b < B) (hB : ∀ k, k < B → w'.heap[k]? = w.heap[k]?) : RunOn w' x A cap m g r :=
  ⟨h.blk.keep (hB x hx), h.got.keep (fun b e => hB b (hA b e)), h.far, h.le, h.used⟩
theorem own_but {w0 w w' : World} {x : Nat} {r : Option Nat} (h : But [x] w0 w) (hg : w.grownBy w' r) (hf : ∀ k, k < w0.heap.size → r ≠ some k) : But [x] w0 w' :=
  ⟨hg.os.trans h.os, hg.tape.trans h.tape, hg.output.trans h.output, Nat.le_trans h.size hg.size, fun k hk hc => (hg.block k (Nat.lt_of_lt_of_le hk h.size) (Ne.symm (hf k hk))).trans (h.block k hk hc)⟩

set_option maxHeartbeats 4000000 in
theorem rchain_on (w : World) (x : Nat) (A : Option Addr) (cap m : Nat) (g : Nat → Int) (r0 : Rn) (E : Option Addr) (n cp : Nat) (L : Nat → Acc) (h : RunOn w x A cap m g r0) (hs : SeesC w w.heap.size E n 6 (fun j => accC (L j))) (hn : n ≤ 1000) (hsx : 0 < n → ∀ b off, E = some ⟨b, off, none⟩ → b ≠ x) :
    Calls Try.prog 16 #[.pointer (some ⟨x, 0, none⟩), .slice E n cp] w fun e w' => ∃ v, e = .returned v ∧ RunOn w' x A cap m g (chGo m g L r0 n).r ∧ w'.ownsRow w.heap.size 34 1 v (chGo m g L r0 n).c (wordCells (chGo m g L r0 n).f (chGo m g L r0 n).c) ∧ But [x] w w' := by
  obtain ⟨i0, hi, hz0, hz1, hz2⟩ := info_parts info34
  have HS : Hid (SeesC w w.heap.size E n 6 (fun j => accC (L j))) := hs
  have HR0 : Hid (RunOn w x A cap m g r0) := h
  have hxw := h.blk.lt
  have HA0 : Hid (∀ b, A = some ⟨b, 0, none⟩ → b < w.heap.size) := fun b e => by
    rcases h.got.form with ⟨e0, _⟩ | ⟨gb, e0, hl⟩
    · rw [e0] at e; cases e
    · rw [e0] at e; cases e; exact hl
  clear h hs
  go_enter Try.func16, Try.ntmps16
  go_wp2_with fail
  go_loopw [5, 6] (fun v i wr => ∃ (k : Nat), k ≤ n ∧ i = .int .i64 k ∧ Hid (RunOn wr x A cap m g (chGo m g L r0 k).r) ∧ Hid (wr.ownsRow w.heap.size 34 1 v (chGo m g L r0 k).c (wordCells (chGo m g L r0 k).f (chGo m g L r0 k).c)) ∧ Hid (But [x] w wr)) (fun _ i _ => n - (intOf i).toNat)
  case atStart => exact ⟨0, Nat.zero_le _, rfl, HR0, World.ownsRow_nil _ _ _ _, But.refl _ _⟩
  case round =>
    clear HR0
    obtain ⟨k, hk, rfl, HR, HO, HB⟩ := hrel
    have c2 := HR.out.blk.cell 2 (v := .bool (chGo m g L r0 k).r.stop) rfl
    have HG : Hid (chGo m g L r0 (k + 1) = chNext m g (L k) (chGo m g L r0 k)) := rfl
    have hcl := chGo_len m g L r0 k
    by_cases hlt : k < n
    · cases hst : (chGo m g L r0 k).r.stop
      · rw [hst] at c2
        obtain ⟨b, off, rfl, hbB, hcell⟩ := HS.out (by omega)
        have hbx := hsx (by omega) b off rfl
        have hrg : wr.rangeAt b (off + k * 6) (accC (L k)) := fun j u hu => (World.cell?_of_block (a := ⟨b, off + k * 6 + j, none⟩) (HB.out.block b hbB (by simp [hbx]))).trans (hcell k hlt j u hu)
        have hk0 : (0 : Int) ≤ (k : Int) := Int.natCast_nonneg _
        have hk1 : (k : Int) < (n : Int) := by omega
        generalize hLk : L k = a at *
        obtain ⟨kk, p, i, o, vv, z⟩ := a
        have HRg : Hid (wr.rangeAt b (off + k * 6) [.int .i64 kk, .int .i64 p, .int .i64 i, .int .u64 o, .int .u64 vv, .bool z]) := fun j u hu => hrg j u hu
        have HLk : Hid (L k = ⟨kk, p, i, o, vv, z⟩) := hLk
        have Hst : Hid ((chGo m g L r0 k).r.stop = false) := hst
        clear hcell hrg hLk hst
        generalize chGo m g L r0 k = q at *
        have HYs : Hid (But [x] w (wr.alloc (.cells #[.int .i64 kk, .int .i64 p, .int .i64 i, .int .u64 o, .int .u64 vv, .bool z] 41)) ∧ Blk (wr.alloc (.cells #[.int .i64 kk, .int .i64 p, .int .i64 i, .int .u64 o, .int .u64 vv, .bool z] 41)) wr.heap.size #[.int .i64 kk, .int .i64 p, .int .i64 i, .int .u64 o, .int .u64 vv, .bool z] 41 ∧ RunOn (wr.alloc (.cells #[.int .i64 kk, .int .i64 p, .int .i64 i, .int .u64 o, .int .u64 vv, .bool z] 41)) x A cap m g q.r ∧ (wr.alloc (.cells #[.int .i64 kk, .int .i64 p, .int .i64 i, .int .u64 o, .int .u64 vv, .bool z] 41)).ownsRow w.heap.size 34 1 u5 q.c (wordCells q.f q.c)) :=
          ⟨HB.out.alloc _, Blk.new _ _ _, HR.out.keeps hxw HA0.out (fun k hk => heap_al _ (Nat.lt_of_lt_of_le hk HB.out.size) _), HO.out.alloc _⟩
        have hxy : wr.heap.size ≠ x := by have := HB.out.size; omega
        have HBs : w.heap.size ≤ wr.heap.size := HB.out.size
        clear HR HO HB
        rcases (by omega : kk = 0 ∨ kk = 1 ∨ kk = 2 ∨ kk = 3 ∨ kk = 4 ∨ ¬ (0 ≤ kk ∧ kk ≤ 4)) with rfl | rfl | rfl | rfl | rfl | hK
        · have HY : Hid (Blk (wr.alloc (.cells #[.int .i64 0, .int .i64 p, .int .i64 i, .int .u64 o, .int .u64 vv, .bool z] 41)) wr.heap.size #[.int .i64 0, .int .i64 p, .int .i64 i, .int .u64 o, .int .u64 vv, .bool z] 41) := HYs.out.2.1
          have HR1 := HYs.out.2.2.1
          have HO1 : Hid ((wr.alloc (.cells #[.int .i64 0, .int .i64 p, .int .i64 i, .int .u64 o, .int .u64 vv, .bool z] 41)).ownsRow w.heap.size 34 1 u5 q.c (wordCells q.f q.c)) := HYs.out.2.2.2
          have HB1 : Hid (But [x] w (wr.alloc (.cells #[.int .i64 0, .int .i64 p, .int .i64 i, .int .u64 o, .int .u64 vv, .bool z] 41))) := HYs.out.1
          have hAc := rwait_on _ x A cap m g q.r HR1 i
          have hG2 : chGo m g L r0 (k + 1) = _ := HG.out.trans (chNext_go (v1 := (waitGo m g i (m + 2) 0 true q.r).1) (q1 := (waitGo m g i (m + 2) 0 true q.r).2) Hst.out (by rfl))
          clear HYs HR1
          go_wp2_with (refine wpList_load_mid rfl 41 _ rfl b (off + k * 6) rfl [.int .i64 0, .int .i64 p, .int .i64 i, .int .u64 o, .int .u64 vv, .bool z] _ HRg.out Try.underlying41 rfl (by kernel_rfl) ?_)
          generalize wr.alloc (.cells #[.int .i64 0, .int .i64 p, .int .i64 i, .int .u64 o, .int .u64 vv, .bool z] 41) = W1 at *
          generalize (waitGo m g i (m + 2) 0 true q.r).1 = v1 at *
          generalize (waitGo m g i (m + 2) 0 true q.r).2 = q1 at *
          clear HRg c2 HG HLk Hst
          go_at_call 77; refine hAc.mono ?_; rintro e w3 ⟨rfl, hR3, hB3⟩
          have HR3 : Hid (RunOn w3 x A cap m g q1) := hR3
          have HB3 : Hid (But [x] W1 w3) := hB3
          have hY3 := HY.out.but hB3 (by simp [hxy])
          have HBw : Hid (But [x] w w3) := HB1.out.trans hB3
          have k2 := hR3.blk.cell 2 (v := .bool q1.stop) rfl
          have y0 := hY3.cell 0 (v := .int .i64 0) rfl
          have HY3 : Hid (Blk w3 wr.heap.size #[.int .i64 0, .int .i64 p, .int .i64 i, .int .u64 o, .int .u64 vv, .bool z] 41) := hY3
          have HO3 : Hid (w3.ownsRow w.heap.size 34 1 u5 q.c (wordCells q.f q.c)) := HO1.out.kept (row := some x) ⟨hB3.os, hB3.tape, hB3.output, hB3.size, fun j hj hne => hB3.block j hj (by simpa using fun e => hne (by rw [e]))⟩ (.inr (own_far HO1.out hxw))
          clear hAc hR3 hB3 HB1 HO1 HY hY3
          cases hs1 : q1.stop
          · rw [hs1] at k2
            have HG2 : Hid (chGo m g L r0 (k + 1) = ⟨q1, q.c + 1, gsnoc q.f q.c v1⟩) := hG2.trans (if_pos ⟨by simp, hs1⟩)
            have hsz3 := HBw.out.size
            clear hG2 hs1
            go_wp2_with (at_builtin; refine wpList_append_lies _ rfl _ _ 22 rfl w.heap.size 34 i0 (.int .u64 0) 1 8 Try.underlying22 hi hz0 hz1 hz2 rfl (by decide) u5 q.c (wordCells q.f q.c) rfl (HO3.out.alloc _) ⟨w3.heap.size, 0, none⟩ 1 1 [.int .u64 v1] rfl rfl (World.news_of_block (cs := #[.int .u64 v1]) (t := 34) (fr := (0, 0)) (heap_alloc_new w3 _)) (by simp [Value.oneCell']) (by omega) (by unfold maxLen; omega) (by omega) (by simp; omega) (w3.heap.size + 1) (by simp) ?_; intro gg cap1 w4 hown hgrow hat hlt4)
            rw [wordCells_gsnoc] at hown
            have hb4 : But [x] w w4 := own_but (HBw.out.alloc _) hgrow (fun j hj => own_far HO3.out hj)
            have hr4 : RunOn w4 x A cap m g q1 := HR3.out.keeps hxw HA0.out (fun j hj => (hgrow.block j (by simp; omega) (Ne.symm (own_far HO3.out hj))).trans (heap_al _ (by omega) _))
            clear hgrow hat y0 k2
            go_roundw
            case rel => exact ⟨k + 1, by omega, by go_num, by rw [HG2.out]; exact hr4, by rw [HG2.out]; exact hown, hb4⟩
            case measure => simp [intOf]; omega
          · rw [hs1] at k2
            have HG2 : Hid (chGo m g L r0 (k + 1) = ⟨q1, q.c, q.f⟩) := hG2.trans (if_neg (by simp [hs1]))
            clear hG2 hs1
            go_wp2_with fail
            go_roundw
            case rel => exact ⟨k + 1, by omega, by go_num, by rw [HG2.out]; exact HR3, by rw [HG2.out]; exact HO3, HBw⟩
            case measure => simp [intOf]; omega
        · have HY : Hid (Blk (wr.alloc (.cells #[.int .i64 1, .int .i64 p, .int .i64 i, .int .u64 o, .int .u64 vv, .bool z] 41)) wr.heap.size #[.int .i64 1, .int .i64 p, .int .i64 i, .int .u64 o, .int .u64 vv, .bool z] 41) := HYs.out.2.1
          have HR1 := HYs.out.2.2.1
          have HO1 : Hid ((wr.alloc (.cells #[.int .i64 1, .int .i64 p, .int .i64 i, .int .u64 o, .int .u64 vv, .bool z] 41)).ownsRow w.heap.size 34 1 u5 q.c (wordCells q.f q.c)) := HYs.out.2.2.2
          have HB1 : Hid (But [x] w (wr.alloc (.cells #[.int .i64 1, .int .i64 p, .int .i64 i, .int .u64 o, .int .u64 vv, .bool z] 41))) := HYs.out.1
          have hAc := rload_on _ x A cap m g q.r HR1 i
          have hG2 : chGo m g L r0 (k + 1) = _ := HG.out.trans (chNext_go (v1 := doV m g q.r) (q1 := doS m q.r 1 i 0 0) Hst.out (by rfl))
          clear HYs HR1
          go_wp2_with (refine wpList_load_mid rfl 41 _ rfl b (off + k * 6) rfl [.int .i64 1, .int .i64 p, .int .i64 i, .int .u64 o, .int .u64 vv, .bool z] _ HRg.out Try.underlying41 rfl (by kernel_rfl) ?_)
          generalize wr.alloc (.cells #[.int .i64 1, .int .i64 p, .int .i64 i, .int .u64 o, .int .u64 vv, .bool z] 41) = W1 at *
          generalize doV m g q.r = v1 at *
          generalize doS m q.r 1 i 0 0 = q1 at *
          clear HRg c2 HG HLk Hst
          go_at_call 78; refine hAc.mono ?_; rintro e w3 ⟨rfl, hR3, hB3⟩
          have HR3 : Hid (RunOn w3 x A cap m g q1) := hR3
          have HB3 : Hid (But [x] W1 w3) := hB3
          have hY3 := HY.out.but hB3 (by simp [hxy])
          have HBw : Hid (But [x] w w3) := HB1.out.trans hB3
          have k2 := hR3.blk.cell 2 (v := .bool q1.stop) rfl
          have y0 := hY3.cell 0 (v := .int .i64 1) rfl
          have HY3 : Hid (Blk w3 wr.heap.size #[.int .i64 1, .int .i64 p, .int .i64 i, .int .u64 o, .int .u64 vv, .bool z] 41) := hY3
          have HO3 : Hid (w3.ownsRow w.heap.size 34 1 u5 q.c (wordCells q.f q.c)) := HO1.out.kept (row := some x) ⟨hB3.os, hB3.tape, hB3.output, hB3.size, fun j hj hne => hB3.block j hj (by simpa using fun e => hne (by rw [e]))⟩ (.inr (own_far HO1.out hxw))
          clear hAc hR3 hB3 HB1 HO1 HY hY3
          cases hs1 : q1.stop
          · rw [hs1] at k2
            have HG2 : Hid (chGo m g L r0 (k + 1) = ⟨q1, q.c + 1, gsnoc q.f q.c v1⟩) := hG2.trans (if_pos ⟨by simp, hs1⟩)
            have hsz3 := HBw.out.size
            clear hG2 hs1
            go_wp2_with (at_builtin; refine wpList_append_lies _ rfl _ _ 22 rfl w.heap.size 34 i0 (.int .u64 0) 1 8 Try.underlying22 hi hz0 hz1 hz2 rfl (by decide) u5 q.c (wordCells q.f q.c) rfl (HO3.out.alloc _) ⟨w3.heap.size, 0, none⟩ 1 1 [.int .u64 v1] rfl rfl (World.news_of_block (cs := #[.int .u64 v1]) (t := 34) (fr := (0, 0)) (heap_alloc_new w3 _)) (by simp [Value.oneCell']) (by omega) (by unfold maxLen; omega) (by omega) (by simp; omega) (w3.heap.size + 1) (by simp) ?_; intro gg cap1 w4 hown hgrow hat hlt4)
            rw [wordCells_gsnoc] at hown
            have hb4 : But [x] w w4 := own_but (HBw.out.alloc _) hgrow (fun j hj => own_far HO3.out hj)
            have hr4 : RunOn w4 x A cap m g q1 := HR3.out.keeps hxw HA0.out (fun j hj => (hgrow.block j (by simp; omega) (Ne.symm (own_far HO3.out hj))).trans (heap_al _ (by omega) _))
            clear hgrow hat y0 k2
            go_roundw
            case rel => exact ⟨k + 1, by omega, by go_num, by rw [HG2.out]; exact hr4, by rw [HG2.out]; exact hown, hb4⟩
            case measure => simp [intOf]; omega
          · rw [hs1] at k2
            have HG2 : Hid (chGo m g L r0 (k + 1) = ⟨q1, q.c, q.f⟩) := hG2.trans (if_neg (by simp [hs1]))
            clear hG2 hs1
            go_wp2_with fail
            go_roundw
            case rel => exact ⟨k + 1, by omega, by go_num, by rw [HG2.out]; exact HR3, by rw [HG2.out]; exact HO3, HBw⟩
            case measure => simp [intOf]; omega
        · have HY : Hid (Blk (wr.alloc (.cells #[.int .i64 2, .int .i64 p, .int .i64 i, .int .u64 o, .int .u64 vv, .bool z] 41)) wr.heap.size #[.int .i64 2, .int .i64 p, .int .i64 i, .int .u64 o, .int .u64 vv, .bool z] 41) := HYs.out.2.1
          have HR1 := HYs.out.2.2.1
          have HO1 : Hid ((wr.alloc (.cells #[.int .i64 2, .int .i64 p, .int .i64 i, .int .u64 o, .int .u64 vv, .bool z] 41)).ownsRow w.heap.size 34 1 u5 q.c (wordCells q.f q.c)) := HYs.out.2.2.2
          have HB1 : Hid (But [x] w (wr.alloc (.cells #[.int .i64 2, .int .i64 p, .int .i64 i, .int .u64 o, .int .u64 vv, .bool z] 41))) := HYs.out.1
          have hAc := rstore_on _ x A cap m g q.r HR1 i vv
          have hG2 : chGo m g L r0 (k + 1) = _ := HG.out.trans (chNext_go (v1 := 0) (q1 := doS m q.r 2 i 0 vv) Hst.out (by rfl))
          clear HYs HR1
          go_wp2_with (refine wpList_load_mid rfl 41 _ rfl b (off + k * 6) rfl [.int .i64 2, .int .i64 p, .int .i64 i, .int .u64 o, .int .u64 vv, .bool z] _ HRg.out Try.underlying41 rfl (by kernel_rfl) ?_)
          generalize wr.alloc (.cells #[.int .i64 2, .int .i64 p, .int .i64 i, .int .u64 o, .int .u64 vv, .bool z] 41) = W1 at *
          generalize doS m q.r 2 i 0 vv = q1 at *
          clear HRg c2 HG HLk Hst
          go_at_call 79; refine hAc.mono ?_; rintro e w3 ⟨⟨v0, rfl⟩, hR3, hB3⟩
          have HR3 : Hid (RunOn w3 x A cap m g q1) := hR3
          have HB3 : Hid (But [x] W1 w3) := hB3
          have hY3 := HY.out.but hB3 (by simp [hxy])
          have HBw : Hid (But [x] w w3) := HB1.out.trans hB3
          have k2 := hR3.blk.cell 2 (v := .bool q1.stop) rfl
          have y0 := hY3.cell 0 (v := .int .i64 2) rfl
          have HY3 : Hid (Blk w3 wr.heap.size #[.int .i64 2, .int .i64 p, .int .i64 i, .int .u64 o, .int .u64 vv, .bool z] 41) := hY3
          have HO3 : Hid (w3.ownsRow w.heap.size 34 1 u5 q.c (wordCells q.f q.c)) := HO1.out.kept (row := some x) ⟨hB3.os, hB3.tape, hB3.output, hB3.size, fun j hj hne => hB3.block j hj (by simpa using fun e => hne (by rw [e]))⟩ (.inr (own_far HO1.out hxw))
          clear hAc hR3 hB3 HB1 HO1 HY hY3
          cases hs1 : q1.stop
          · rw [hs1] at k2
            have HG2 : Hid (chGo m g L r0 (k + 1) = ⟨q1, q.c + 1, gsnoc q.f q.c 0⟩) := hG2.trans (if_pos ⟨by simp, hs1⟩)
            have hsz3 := HBw.out.size
            clear hG2 hs1
            go_wp2_with (at_builtin; refine wpList_append_lies _ rfl _ _ 22 rfl w.heap.size 34 i0 (.int .u64 0) 1 8 Try.underlying22 hi hz0 hz1 hz2 rfl (by decide) u5 q.c (wordCells q.f q.c) rfl (HO3.out.alloc _) ⟨w3.heap.size, 0, none⟩ 1 1 [.int .u64 0] rfl rfl (World.news_of_block (cs := #[.int .u64 0]) (t := 34) (fr := (0, 0)) (heap_alloc_new w3 _)) (by simp [Value.oneCell']) (by omega) (by unfold maxLen; omega) (by omega) (by simp; omega) (w3.heap.size + 1) (by simp) ?_; intro gg cap1 w4 hown hgrow hat hlt4)
            rw [wordCells_gsnoc] at hown
            have hb4 : But [x] w w4 := own_but (HBw.out.alloc _) hgrow (fun j hj => own_far HO3.out hj)
            have hr4 : RunOn w4 x A cap m g q1 := HR3.out.keeps hxw HA0.out (fun j hj => (hgrow.block j (by simp; omega) (Ne.symm (own_far HO3.out hj))).trans (heap_al _ (by omega) _))
            clear hgrow hat y0 k2
            go_roundw
            case rel => exact ⟨k + 1, by omega, by go_num, by rw [HG2.out]; exact hr4, by rw [HG2.out]; exact hown, hb4⟩
            case measure => simp [intOf]; omega
          · rw [hs1] at k2
            have HG2 : Hid (chGo m g L r0 (k + 1) = ⟨q1, q.c, q.f⟩) := hG2.trans (if_neg (by simp [hs1]))
            clear hG2 hs1
            go_wp2_with fail
            go_roundw
            case rel => exact ⟨k + 1, by omega, by go_num, by rw [HG2.out]; exact HR3, by rw [HG2.out]; exact HO3, HBw⟩
            case measure => simp [intOf]; omega
        · by_cases hd : doV m g q.r = 1
          · have HY : Hid (Blk (wr.alloc (.cells #[.int .i64 3, .int .i64 p, .int .i64 i, .int .u64 o, .int .u64 vv, .bool z] 41)) wr.heap.size #[.int .i64 3, .int .i64 p, .int .i64 i, .int .u64 o, .int .u64 vv, .bool z] 41) := HYs.out.2.1
            have HR1 := HYs.out.2.2.1
            have HO1 : Hid ((wr.alloc (.cells #[.int .i64 3, .int .i64 p, .int .i64 i, .int .u64 o, .int .u64 vv, .bool z] 41)).ownsRow w.heap.size 34 1 u5 q.c (wordCells q.f q.c)) := HYs.out.2.2.2
            have HB1 : Hid (But [x] w (wr.alloc (.cells #[.int .i64 3, .int .i64 p, .int .i64 i, .int .u64 o, .int .u64 vv, .bool z] 41))) := HYs.out.1
            have hAc := rswap_on _ x A cap m g q.r HR1 i o vv
            have hG2 : chGo m g L r0 (k + 1) = _ := HG.out.trans (chNext_go (v1 := 1) (q1 := doS m q.r 3 i o vv) Hst.out (by show ((if doV m g q.r = 1 then (1 : Int) else 0), _) = _; rw [if_pos hd]))
            rw [decide_eq_true hd] at hAc
            clear HYs HR1 hd
            go_wp2_with (refine wpList_load_mid rfl 41 _ rfl b (off + k * 6) rfl [.int .i64 3, .int .i64 p, .int .i64 i, .int .u64 o, .int .u64 vv, .bool z] _ HRg.out Try.underlying41 rfl (by kernel_rfl) ?_)
            generalize wr.alloc (.cells #[.int .i64 3, .int .i64 p, .int .i64 i, .int .u64 o, .int .u64 vv, .bool z] 41) = W1 at *
            generalize doS m q.r 3 i o vv = q1 at *
            clear HRg c2 HG HLk Hst
            go_at_call 80; refine hAc.mono ?_; rintro e w3 ⟨rfl, hR3, hB3⟩
            have HR3 : Hid (RunOn w3 x A cap m g q1) := hR3
            have HB3 : Hid (But [x] W1 w3) := hB3
            have hY3 := HY.out.but hB3 (by simp [hxy])
            have HBw : Hid (But [x] w w3) := HB1.out.trans hB3
            have k2 := hR3.blk.cell 2 (v := .bool q1.stop) rfl
            have y0 := hY3.cell 0 (v := .int .i64 3) rfl
            have HY3 : Hid (Blk w3 wr.heap.size #[.int .i64 3, .int .i64 p, .int .i64 i, .int .u64 o, .int .u64 vv, .bool z] 41) := hY3
            have HO3 : Hid (w3.ownsRow w.heap.size 34 1 u5 q.c (wordCells q.f q.c)) := HO1.out.kept (row := some x) ⟨hB3.os, hB3.tape, hB3.output, hB3.size, fun j hj hne => hB3.block j hj (by simpa using fun e => hne (by rw [e]))⟩ (.inr (own_far HO1.out hxw))
            clear hAc hR3 hB3 HB1 HO1 HY hY3
            cases hs1 : q1.stop
            · rw [hs1] at k2
              have HG2 : Hid (chGo m g L r0 (k + 1) = ⟨q1, q.c + 1, gsnoc q.f q.c 1⟩) := hG2.trans (if_pos ⟨by simp, hs1⟩)
              have hsz3 := HBw.out.size
              clear hG2 hs1
              go_wp2_with (at_builtin; refine wpList_append_lies _ rfl _ _ 22 rfl w.heap.size 34 i0 (.int .u64 0) 1 8 Try.underlying22 hi hz0 hz1 hz2 rfl (by decide) u5 q.c (wordCells q.f q.c) rfl (HO3.out.alloc _) ⟨w3.heap.size, 0, none⟩ 1 1 [.int .u64 1] rfl rfl (World.news_of_block (cs := #[.int .u64 1]) (t := 34) (fr := (0, 0)) (heap_alloc_new w3 _)) (by simp [Value.oneCell']) (by omega) (by unfold maxLen; omega) (by omega) (by simp; omega) (w3.heap.size + 1) (by simp) ?_; intro gg cap1 w4 hown hgrow hat hlt4)
              rw [wordCells_gsnoc] at hown
              have hb4 : But [x] w w4 := own_but (HBw.out.alloc _) hgrow (fun j hj => own_far HO3.out hj)
              have hr4 : RunOn w4 x A cap m g q1 := HR3.out.keeps hxw HA0.out (fun j hj => (hgrow.block j (by simp; omega) (Ne.symm (own_far HO3.out hj))).trans (heap_al _ (by omega) _))
              clear hgrow hat y0 k2
              go_roundw
              case rel => exact ⟨k + 1, by omega, by go_num, by rw [HG2.out]; exact hr4, by rw [HG2.out]; exact hown, hb4⟩
              case measure => simp [intOf]; omega
            · rw [hs1] at k2
              have HG2 : Hid (chGo m g L r0 (k + 1) = ⟨q1, q.c, q.f⟩) := hG2.trans (if_neg (by simp [hs1]))
              clear hG2 hs1
              go_wp2_with fail
              go_roundw
              case rel => exact ⟨k + 1, by omega, by go_num, by rw [HG2.out]; exact HR3, by rw [HG2.out]; exact HO3, HBw⟩
              case measure => simp [intOf]; omega
          · have HY : Hid (Blk (wr.alloc (.cells #[.int .i64 3, .int .i64 p, .int .i64 i, .int .u64 o, .int .u64 vv, .bool z] 41)) wr.heap.size #[.int .i64 3, .int .i64 p, .int .i64 i, .int .u64 o, .int .u64 vv, .bool z] 41) := HYs.out.2.1
            have HR1 := HYs.out.2.2.1
            have HO1 : Hid ((wr.alloc (.cells #[.int .i64 3, .int .i64 p, .int .i64 i, .int .u64 o, .int .u64 vv, .bool z] 41)).ownsRow w.heap.size 34 1 u5 q.c (wordCells q.f q.c)) := HYs.out.2.2.2
            have HB1 : Hid (But [x] w (wr.alloc (.cells #[.int .i64 3, .int .i64 p, .int .i64 i, .int .u64 o, .int .u64 vv, .bool z] 41))) := HYs.out.1
            have hAc := rswap_on _ x A cap m g q.r HR1 i o vv
            have hG2 : chGo m g L r0 (k + 1) = _ := HG.out.trans (chNext_go (v1 := 0) (q1 := doS m q.r 3 i o vv) Hst.out (by show ((if doV m g q.r = 1 then (1 : Int) else 0), _) = _; rw [if_neg hd]))
            rw [decide_eq_false hd] at hAc
            clear HYs HR1 hd
            go_wp2_with (refine wpList_load_mid rfl 41 _ rfl b (off + k * 6) rfl [.int .i64 3, .int .i64 p, .int .i64 i, .int .u64 o, .int .u64 vv, .bool z] _ HRg.out Try.underlying41 rfl (by kernel_rfl) ?_)
            generalize wr.alloc (.cells #[.int .i64 3, .int .i64 p, .int .i64 i, .int .u64 o, .int .u64 vv, .bool z] 41) = W1 at *
            generalize doS m q.r 3 i o vv = q1 at *
            clear HRg c2 HG HLk Hst
            go_at_call 80; refine hAc.mono ?_; rintro e w3 ⟨rfl, hR3, hB3⟩
            have HR3 : Hid (RunOn w3 x A cap m g q1) := hR3
            have HB3 : Hid (But [x] W1 w3) := hB3
            have hY3 := HY.out.but hB3 (by simp [hxy])
            have HBw : Hid (But [x] w w3) := HB1.out.trans hB3
            have k2 := hR3.blk.cell 2 (v := .bool q1.stop) rfl
            have y0 := hY3.cell 0 (v := .int .i64 3) rfl
            have HY3 : Hid (Blk w3 wr.heap.size #[.int .i64 3, .int .i64 p, .int .i64 i, .int .u64 o, .int .u64 vv, .bool z] 41) := hY3
            have HO3 : Hid (w3.ownsRow w.heap.size 34 1 u5 q.c (wordCells q.f q.c)) := HO1.out.kept (row := some x) ⟨hB3.os, hB3.tape, hB3.output, hB3.size, fun j hj hne => hB3.block j hj (by simpa using fun e => hne (by rw [e]))⟩ (.inr (own_far HO1.out hxw))
            clear hAc hR3 hB3 HB1 HO1 HY hY3
            cases hs1 : q1.stop
            · rw [hs1] at k2
              have HG2 : Hid (chGo m g L r0 (k + 1) = ⟨q1, q.c + 1, gsnoc q.f q.c 0⟩) := hG2.trans (if_pos ⟨by simp, hs1⟩)
              have hsz3 := HBw.out.size
              clear hG2 hs1
              go_wp2_with (at_builtin; refine wpList_append_lies _ rfl _ _ 22 rfl w.heap.size 34 i0 (.int .u64 0) 1 8 Try.underlying22 hi hz0 hz1 hz2 rfl (by decide) u5 q.c (wordCells q.f q.c) rfl (HO3.out.alloc _) ⟨w3.heap.size, 0, none⟩ 1 1 [.int .u64 0] rfl rfl (World.news_of_block (cs := #[.int .u64 0]) (t := 34) (fr := (0, 0)) (heap_alloc_new w3 _)) (by simp [Value.oneCell']) (by omega) (by unfold maxLen; omega) (by omega) (by simp; omega) (w3.heap.size + 1) (by simp) ?_; intro gg cap1 w4 hown hgrow hat hlt4)
              rw [wordCells_gsnoc] at hown
              have hb4 : But [x] w w4 := own_but (HBw.out.alloc _) hgrow (fun j hj => own_far HO3.out hj)
              have hr4 : RunOn w4 x A cap m g q1 := HR3.out.keeps hxw HA0.out (fun j hj => (hgrow.block j (by simp; omega) (Ne.symm (own_far HO3.out hj))).trans (heap_al _ (by omega) _))
              clear hgrow hat y0 k2
              go_roundw
              case rel => exact ⟨k + 1, by omega, by go_num, by rw [HG2.out]; exact hr4, by rw [HG2.out]; exact hown, hb4⟩
              case measure => simp [intOf]; omega
            · rw [hs1] at k2
              have HG2 : Hid (chGo m g L r0 (k + 1) = ⟨q1, q.c, q.f⟩) := hG2.trans (if_neg (by simp [hs1]))
              clear hG2 hs1
              go_wp2_with fail
              go_roundw
              case rel => exact ⟨k + 1, by omega, by go_num, by rw [HG2.out]; exact HR3, by rw [HG2.out]; exact HO3, HBw⟩
              case measure => simp [intOf]; omega
        · have HY : Hid (Blk (wr.alloc (.cells #[.int .i64 4, .int .i64 p, .int .i64 i, .int .u64 o, .int .u64 vv, .bool z] 41)) wr.heap.size #[.int .i64 4, .int .i64 p, .int .i64 i, .int .u64 o, .int .u64 vv, .bool z] 41) := HYs.out.2.1
          have HR1 := HYs.out.2.2.1
          have HO1 : Hid ((wr.alloc (.cells #[.int .i64 4, .int .i64 p, .int .i64 i, .int .u64 o, .int .u64 vv, .bool z] 41)).ownsRow w.heap.size 34 1 u5 q.c (wordCells q.f q.c)) := HYs.out.2.2.2
          have HB1 : Hid (But [x] w (wr.alloc (.cells #[.int .i64 4, .int .i64 p, .int .i64 i, .int .u64 o, .int .u64 vv, .bool z] 41))) := HYs.out.1
          have hAc := radd_on _ x A cap m g q.r HR1 i vv
          have hG2 : chGo m g L r0 (k + 1) = _ := HG.out.trans (chNext_go (v1 := doV m g q.r) (q1 := doS m q.r 4 i 0 vv) Hst.out (by rfl))
          clear HYs HR1
          go_wp2_with (refine wpList_load_mid rfl 41 _ rfl b (off + k * 6) rfl [.int .i64 4, .int .i64 p, .int .i64 i, .int .u64 o, .int .u64 vv, .bool z] _ HRg.out Try.underlying41 rfl (by kernel_rfl) ?_)
          generalize wr.alloc (.cells #[.int .i64 4, .int .i64 p, .int .i64 i, .int .u64 o, .int .u64 vv, .bool z] 41) = W1 at *
          generalize doV m g q.r = v1 at *
          generalize doS m q.r 4 i 0 vv = q1 at *
          clear HRg c2 HG HLk Hst
          go_at_call 81; refine hAc.mono ?_; rintro e w3 ⟨rfl, hR3, hB3⟩
          have HR3 : Hid (RunOn w3 x A cap m g q1) := hR3
          have HB3 : Hid (But [x] W1 w3) := hB3
          have hY3 := HY.out.but hB3 (by simp [hxy])
          have HBw : Hid (But [x] w w3) := HB1.out.trans hB3
          have k2 := hR3.blk.cell 2 (v := .bool q1.stop) rfl
          have y0 := hY3.cell 0 (v := .int .i64 4) rfl
          have HY3 : Hid (Blk w3 wr.heap.size #[.int .i64 4, .int .i64 p, .int .i64 i, .int .u64 o, .int .u64 vv, .bool z] 41) := hY3
          have HO3 : Hid (w3.ownsRow w.heap.size 34 1 u5 q.c (wordCells q.f q.c)) := HO1.out.kept (row := some x) ⟨hB3.os, hB3.tape, hB3.output, hB3.size, fun j hj hne => hB3.block j hj (by simpa using fun e => hne (by rw [e]))⟩ (.inr (own_far HO1.out hxw))
          clear hAc hR3 hB3 HB1 HO1 HY hY3
          cases hs1 : q1.stop
          · rw [hs1] at k2
            have HG2 : Hid (chGo m g L r0 (k + 1) = ⟨q1, q.c + 1, gsnoc q.f q.c v1⟩) := hG2.trans (if_pos ⟨by simp, hs1⟩)
            have hsz3 := HBw.out.size
            clear hG2 hs1
            go_wp2_with (at_builtin; refine wpList_append_lies _ rfl _ _ 22 rfl w.heap.size 34 i0 (.int .u64 0) 1 8 Try.underlying22 hi hz0 hz1 hz2 rfl (by decide) u5 q.c (wordCells q.f q.c) rfl (HO3.out.alloc _) ⟨w3.heap.size, 0, none⟩ 1 1 [.int .u64 v1] rfl rfl (World.news_of_block (cs := #[.int .u64 v1]) (t := 34) (fr := (0, 0)) (heap_alloc_new w3 _)) (by simp [Value.oneCell']) (by omega) (by unfold maxLen; omega) (by omega) (by simp; omega) (w3.heap.size + 1) (by simp) ?_; intro gg cap1 w4 hown hgrow hat hlt4)
            rw [wordCells_gsnoc] at hown
            have hb4 : But [x] w w4 := own_but (HBw.out.alloc _) hgrow (fun j hj => own_far HO3.out hj)
            have hr4 : RunOn w4 x A cap m g q1 := HR3.out.keeps hxw HA0.out (fun j hj => (hgrow.block j (by simp; omega) (Ne.symm (own_far HO3.out hj))).trans (heap_al _ (by omega) _))
            clear hgrow hat y0 k2
            go_roundw
            case rel => exact ⟨k + 1, by omega, by go_num, by rw [HG2.out]; exact hr4, by rw [HG2.out]; exact hown, hb4⟩
            case measure => simp [intOf]; omega
          · rw [hs1] at k2
            have HG2 : Hid (chGo m g L r0 (k + 1) = ⟨q1, q.c, q.f⟩) := hG2.trans (if_neg (by simp [hs1]))
            clear hG2 hs1
            go_wp2_with fail
            go_roundw
            case rel => exact ⟨k + 1, by omega, by go_num, by rw [HG2.out]; exact HR3, by rw [HG2.out]; exact HO3, HBw⟩
            case measure => simp [intOf]; omega
        · have HR1 := HYs.out.2.2.1
          have HY := HYs.out.2.1
          have HO1 : Hid ((wr.alloc (.cells #[.int .i64 kk, .int .i64 p, .int .i64 i, .int .u64 o, .int .u64 vv, .bool z] 41)).ownsRow w.heap.size 34 1 u5 q.c (wordCells q.f q.c)) := HYs.out.2.2.2
          have HB1 : Hid (But [x] w (wr.alloc (.cells #[.int .i64 kk, .int .i64 p, .int .i64 i, .int .u64 o, .int .u64 vv, .bool z] 41))) := HYs.out.1
          have e0 : (kk == 0) = false := by simpa using (show kk ≠ 0 by omega)
          have e1 : (kk == 1) = false := by simpa using (show kk ≠ 1 by omega)
          have e2 : (kk == 2) = false := by simpa using (show kk ≠ 2 by omega)
          have e3 : (kk == 3) = false := by simpa using (show kk ≠ 3 by omega)
          have e4 : (kk == 4) = false := by simpa using (show kk ≠ 4 by omega)
          have hS : stA m g ⟨kk, p, i, o, vv, z⟩ q.r = (0, q.r) := by
            unfold stA
            rw [if_neg (show ¬ kk = 0 by omega), if_neg (show ¬ kk = 1 by omega), if_neg (show ¬ kk = 2 by omega), if_neg (show ¬ kk = 3 by omega), if_neg (show ¬ kk = 4 by omega)]
          have HG2 : Hid (chGo m g L r0 (k + 1) = ⟨q.r, q.c, q.f⟩) := HG.out.trans ((chNext_go Hst.out hS).trans (if_neg (fun h => hK h.1)))
          have HR2 : Hid (RunOn (wr.alloc (.cells #[.int .i64 kk, .int .i64 p, .int .i64 i, .int .u64 o, .int .u64 vv, .bool z] 41)) x A cap m g q.r) := HR1
          have k2 := HR1.blk.cell 2 (v := .bool q.r.stop) rfl
          rw [Hst.out] at k2
          have y0 := HY.cell 0 (v := .int .i64 kk) rfl
          clear HYs HG HLk HR1 HY hS
          by_cases h0 : 0 ≤ kk
          · have h4 : ¬ kk ≤ 4 := fun h => hK ⟨h0, h⟩
            have d0 : decide (0 ≤ kk) = true := decide_eq_true h0
            have d4 : decide (kk ≤ 4) = false := decide_eq_false h4
            clear hK
            go_wp2_with (refine wpList_load_mid rfl 41 _ rfl b (off + k * 6) rfl [.int .i64 kk, .int .i64 p, .int .i64 i, .int .u64 o, .int .u64 vv, .bool z] _ HRg.out Try.underlying41 rfl (by kernel_rfl) ?_)
            go_roundw
            case rel => exact ⟨k + 1, by omega, by go_num, by rw [HG2.out]; exact HR2, by rw [HG2.out]; exact HO1, HB1⟩
            case measure => simp [intOf]; omega
          · have d0 : decide (0 ≤ kk) = false := decide_eq_false h0
            clear hK
            go_wp2_with (refine wpList_load_mid rfl 41 _ rfl b (off + k * 6) rfl [.int .i64 kk, .int .i64 p, .int .i64 i, .int .u64 o, .int .u64 vv, .bool z] _ HRg.out Try.underlying41 rfl (by kernel_rfl) ?_)
            go_roundw
            case rel => exact ⟨k + 1, by omega, by go_num, by rw [HG2.out]; exact HR2, by rw [HG2.out]; exact HO1, HB1⟩
            case measure => simp [intOf]; omega
      · have hS := chGo_stop (m := m) (g := g) (L := L) (r0 := r0) (k := k) hst (n - k)
        rw [show k + (n - k) = n by omega] at hS
        have HS2 : Hid (chGo m g L r0 n = chGo m g L r0 k) := hS
        rw [hst] at c2
        have hk1 : (k : Int) < (n : Int) := by omega
        clear hst hS HG
        go_wp2_with fail
        go_ret
        rw [HS2.out]
        exact ⟨_, rfl, HR.out, HO.out, HB.out⟩
    · obtain rfl : k = n := by omega
      have hk1 : decide ((k : Int) < (k : Int)) = false := by simp
      clear c2 HG
      go_wp2_with fail
      go_ret
      exact ⟨_, rfl, HR.out, HO.out, HB.out⟩
end Go.Proofs.Ytlnjjcfkcoaceaa
