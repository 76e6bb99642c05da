/- An agenda that is the caller's, among blocks of the call's own. -/
import Derived.Test.YtideofojmgmboaaD1
namespace Go.Proofs.Ytideofojmgmboaa
open Go Go.RowKit
set_option linter.unusedVariables false
set_option linter.unusedSimpArgs false
set_option maxRecDepth 100000
variable {w : World} {a : Nat} {F : Nat → Prop} {E : List Nat} {K : List It}

/-- the caller's agenda; E: blocks of the call's own -/
structure Ow (F : Nat → Prop) (E : List Nat) (w X : World) (a : Nat) (L : List It) : Prop where
  kp : Kp F w X
  lt : ∀ e ∈ E, w.heap.size ≤ e ∧ e < X.heap.size
  ag : Ag X a (fun k => (F k ∨ w.heap.size ≤ k) ∧ k ∉ E) L
theorem Ow.start {L : List It} (h : Ag w a F L) : Ow F [] w w a L := ⟨Kp.refl _ _, by simp, h.wide (fun k hk => ⟨Or.inl hk, by simp⟩)⟩
theorem Ow.done {X : World} {L : List It} (h : Ow F E w X a L) : Kp F w X ∧ Ag X a (And0 F w.heap.size) L := ⟨h.kp, h.ag.wide fun k hk => hk.1⟩
theorem Ow.step {X Y : World} {K' : List It} (hX : Ow F E w X a K) (hk : Kp (fun k => (F k ∨ w.heap.size ≤ k) ∧ k ∉ E) X Y) (ha : Ag Y a (And0 (fun k => (F k ∨ w.heap.size ≤ k) ∧ k ∉ E) X.heap.size) K') : Ow F E w Y a K' ∧ ∀ e ∈ E, Y.heap[e]? = X.heap[e]? :=
  ⟨⟨hX.kp.trans hk (fun i h => h.1), fun e he => ⟨(hX.lt e he).1, Nat.lt_of_lt_of_le (hX.lt e he).2 hk.size⟩, ha.wide (fun k h => by
    rcases h with h | h
    · exact h
    · exact ⟨Or.inr (Nat.le_trans hX.kp.size h), fun hm => by have := (hX.lt k hm).2; omega⟩)⟩, fun e he => hk.block e (hX.lt e he).2 (fun h => h.2 he)⟩
theorem Ow.mine {X Y : World} (hX : Ow F E w X a K) (hb : Below X.heap.size X Y) (l : List Nat) (hl : ∀ e ∈ l, X.heap.size ≤ e ∧ e < Y.heap.size) : Ow F (l ++ E) w Y a K :=
  ⟨hX.kp.trans (Kp.of_below (F := fun _ => False) hb) (fun _ h => h.elim), fun e he => by
    rcases List.mem_append.1 he with h | h
    · exact ⟨Nat.le_trans hX.kp.size (hl e h).1, (hl e h).2⟩
    · exact ⟨(hX.lt e h).1, Nat.lt_of_lt_of_le (hX.lt e h).2 hb.size⟩,
    (hX.ag.tight.below hb).wide (fun k h => ⟨h.1.1, fun hm => by rcases List.mem_append.1 hm with h' | h'; have := (hl k h').1; omega; exact h.1.2 h'⟩)⟩
theorem Ow.below {X Y : World} (hX : Ow F E w X a K) (hb : Below X.heap.size X Y) : Ow F E w Y a K := hX.mine hb [] (by simp)
theorem Ow.box {X : World} (hX : Ow F E w X a K) (o : Obj) : Ow F (X.heap.size :: E) w (X.alloc o) a K := hX.mine ((Below.refl _ _).alloc (Nat.le_refl _) _) [X.heap.size] (by simp)
theorem Ow.turn {X Y : World} (hX : Ow F E w X a K) (ho : Y.os = X.os) (ht : Y.tape = X.tape) (hu : Y.output = X.output) (hs : X.heap.size ≤ Y.heap.size) (hk : ∀ k, k < X.heap.size → k ∉ E → Y.heap[k]? = X.heap[k]?)
    (l : List Nat) (hl : ∀ e ∈ l, (e ∈ E ∨ X.heap.size ≤ e) ∧ e < Y.heap.size) : Ow F (l ++ E) w Y a K := by
  have h1 := hX.ag.tight
  refine ⟨⟨ho.trans hX.kp.os, ht.trans hX.kp.tape, hu.trans hX.kp.output, Nat.le_trans hX.kp.size hs, fun i hi hf => (hk i (Nat.lt_of_lt_of_le hi hX.kp.size) (fun hm => by have := (hX.lt i hm).1; omega)).trans (hX.kp.block i hi hf)⟩, fun e he => ?_, ?_⟩
  · rcases List.mem_append.1 he with h | h
    · refine ⟨?_, (hl e h).2⟩
      rcases (hl e h).1 with h2 | h2
      · exact (hX.lt e h2).1
      · exact Nat.le_trans hX.kp.size h2
    · exact ⟨(hX.lt e h).1, Nat.lt_of_lt_of_le (hX.lt e h).2 hs⟩
  · have h2 : Ag Y a (fun k => ((F k ∨ w.heap.size ≤ k) ∧ k ∉ E) ∧ k < X.heap.size) K := by
      obtain ⟨g1, g2⟩ := h1
      refine ⟨g1, ?_⟩
      rcases g2 with ⟨g2, g3⟩ | ⟨lb, mb, cap, clk, g2, g3, g4⟩
      · exact Or.inl ⟨(hk a g1.2 g1.1.2).trans g2, g3⟩
      · exact Or.inr ⟨lb, mb, cap, clk, g2.kept (hk a g1.2 g1.1.2) (hk lb g3.2 g3.1.2) (hk mb g4.2 g4.1.2), g3, g4⟩
    refine h2.wide (fun k h => ⟨h.1.1, fun hm => ?_⟩)
    rcases List.mem_append.1 hm with h' | h'
    · rcases (hl k h').1 with h3 | h3
      · exact h.1.2 h3
      · have := h.2; omega
    · exact h.1.2 h'
theorem Ow.app {X Y : World} {T : TypeId} {A : Option Addr} {cp g cap j : Nat} {O : List It} {x0 x1 : Int} (hX : Ow F E w X a K) (hR : Row E w X T (.slice A j cp) O) (hj : O.length = j)
    (hO : Y.ownsRow w.heap.size T 2 (.slice (some ⟨g, 0, none⟩) (j + 1) cap) (j + 1) (flat O ++ [.int .i64 x0, .int .i64 x1])) (hG : (X.alloc (.cells #[.int .i64 x0, .int .i64 x1] T)).grownBy Y (Value.slice A j cp).ownBlock)
    (hg : (Value.slice A j cp).ownBlock = some g ∨ g = (X.alloc (.cells #[.int .i64 x0, .int .i64 x1] T)).heap.size) (hgl : g < Y.heap.size) :
    Ow F (g :: E) w Y a K ∧ Row (g :: E) w Y T (.slice (some ⟨g, 0, none⟩) (j + 1) cap) (O ++ [(x0, x1)]) ∧ ∀ k, k < X.heap.size → (∀ g, (Value.slice A j cp).ownBlock = some g → k ≠ g) → Y.heap[k]? = X.heap[k]? := by
  subst hj
  rw [size_al] at hg
  have hs := size_al X (.cells #[.int .i64 x0, .int .i64 x1] T)
  have hsz := hG.size
  have hk : ∀ k, k < X.heap.size → (∀ g, (Value.slice A O.length cp).ownBlock = some g → k ≠ g) → Y.heap[k]? = X.heap[k]? := fun k hk hne => (hG.block k (by omega) (fun e => hne k e.symm rfl)).trans (heap_al _ hk _)
  refine ⟨?_, ⟨?_, ?_⟩, hk⟩
  · have := hX.turn (Y := Y) hG.os hG.tape hG.output (by omega) (fun k h1 h2 => hk k h1 (fun g' e e2 => by subst e2; exact h2 (hR.mine k e))) [g] (by
      intro e he
      simp at he
      subst he
      refine ⟨?_, hgl⟩
      rcases hg with h | h
      · exact Or.inl (hR.mine e h)
      · exact Or.inr (by omega))
    exact this
  · rw [flat_app]
    simp only [flat, List.length_append, List.length_cons, List.length_nil]
    exact hO
  · intro g' h
    simp [Value.ownBlock] at h
    simp [h]
/-- how many are due -/
structure DueN (S : List It) (now : Int) (n : Nat) : Prop where
  le : n ≤ S.length
  due : ∀ j, j < n → (at_ S j).1 ≤ now
  not : n < S.length → ¬ (at_ S n).1 ≤ now
theorem DueN.eq {S : List It} {now : Int} {n m : Nat} (h : DueN S now n) (k : DueN S now m) : n = m := by
  rcases Nat.lt_trichotomy n m with l | l | l
  · exact absurd (k.due n l) (h.not (by have := k.le; omega))
  · exact l
  · exact absurd (h.due m l) (k.not (by have := h.le; omega))
/-- the item that Due looks at -/
structure Look (w : World) (xb : Nat) (S : List It) (k : Nat) (x0 x1 : Int) : Prop where
  box : w.heap[xb]? = some (.cells #[.int .i64 x0, .int .i64 x1] 23 (0, 0))
  is : k < S.length → at_ S k = (x0, x1)
theorem first_at {L S : List It} {k : Nat} (hk : k < S.length) (h : Is L (S.drop k)) : at_ L 0 = at_ S k ∧ 0 < L.length := by
  rw [drop_at hk] at h
  refine ⟨first_eq h.hp h.srt h.perm, ?_⟩
  rw [h.perm.length_eq]; simp
theorem Row.kept' {X Y : World} {T : TypeId} {v : Value} {O : List It} (h : Row E w X T v O) (hk : ∀ g, v.ownBlock = some g → Y.heap[g]? = X.heap[g]?) : Row E w Y T v O := by
  refine ⟨⟨h.own.1, ?_⟩, h.mine⟩
  rcases h.own.2 with h2 | ⟨g, cap, cur, rfl, h3, h4, h5⟩
  · exact Or.inl h2
  · exact Or.inr ⟨g, cap, cur, rfl, h3, (hk g rfl).trans h4, h5⟩
theorem first_any {X : World} {G : Nat → Prop} {L' S : List It} {k : Nat} (h : Ag X a G L') (hI : Is L' (S.drop k)) (hk : k ≤ S.length) : ∃ y0 y1, (k < S.length → at_ S k = (y0, y1)) ∧ ∃ bb : Bool, bb = decide (k < S.length) ∧
    Calls Try.prog 7 #[.pointer (some ⟨a, 0, none⟩)] X fun e w' => e = .returned (.tuple #[.agg #[.int .i64 y0, .int .i64 y1], .bool bb]) ∧ Below X.heap.size X w' := by
  by_cases hlt : k < S.length
  · obtain ⟨h1, h2⟩ := first_at hlt hI
    refine ⟨(at_ S k).1, (at_ S k).2, fun _ => rfl, true, by simp [hlt], ?_⟩
    have := first_ok h h2
    rwa [h1] at this
  · have e : L' = [] := by
      have h1 := hI.perm
      rw [show k = S.length by omega, List.drop_length] at h1
      exact h1.eq_nil
    subst e
    exact ⟨0, 0, fun h => absurd h hlt, false, by simp [hlt], first_none h⟩
/-- Due goes on -/
structure Du (F : Nat → Prop) (w wr : World) (a : Nat) (S : List It) (now : Int) (k cp xb : Nat) (A : Option Addr) (K' : List It) (E : List Nat) (x0 x1 : Int) : Prop where
  le : k ≤ S.length
  ow : Ow F E w wr a K'
  row : Row E w wr 23 (.slice A k cp) (S.take k)
  xm : xb ∈ E
  ne : ∀ g, (Value.slice A k cp).ownBlock = some g → g ≠ xb
  look : Look wr xb S k x0 x1
  is : Is K' (S.drop k)
  due : ∀ j, j < k → (at_ S j).1 ≤ now
/-- what Due answers -/
def DueGot (F : Nat → Prop) (w : World) (a : Nat) (S : List It) (now : Int) (e : Ending) (w' : World) : Prop :=
  ∃ (n : Nat) (A : Option Addr) (cp g : Nat) (K' : List It), e = .returned (.slice A n cp) ∧ DueN S now n ∧ Sees w' g A (S.take n) ∧ Kp F w w' ∧ Ag w' a (And0 F w.heap.size) K' ∧ Is K' (S.drop n)
set_option maxHeartbeats 8000000 in
theorem due_ag (h : Ag w a F K) {S : List It} (hI : Is K S) (hl : K.length ≤ 100000) (now : Int) :
    Calls Try.prog 13 #[.pointer (some ⟨a, 0, none⟩), .int .i64 now] w (DueGot F w a S now) := by
  obtain ⟨i0, hi, hz0, hz1, hz2⟩ := info_parts info23
  have hSl : S.length ≤ 100000 := by rw [← hI.perm.length_eq]; exact hl
  have HO0 := Lib.hid (Ow.start h)
  have hI0 : Is K (S.drop 0) := by rw [List.drop_zero]; exact hI
  obtain ⟨x0, x1, hx, bb, hbb, hFi⟩ := first_any h hI0 (Nat.zero_le _)
  have HI0 := Lib.hid hI0
  have HSL := Lib.hid hSl
  have HFi := Lib.hid hFi
  have HX := Lib.hid hx
  have HBB := Lib.hid hbb
  clear h hI hl hSl hFi hx hbb hI0
  go_enter Try.func13, Try.ntmps13
  go_wp2_with fail
  go_at_call 7; refine HFi.out.mono ?_; rintro e w1 ⟨rfl, hb⟩
  have HO1 := Lib.hid ((HO0.out.below hb).box (.cells #[.int .i64 x0, .int .i64 x1] 23))
  have HK1 : Hid (Look (w1.alloc (.cells #[.int .i64 x0, .int .i64 x1] 23)) w1.heap.size S 0 x0 x1) := ⟨heap_alloc_new _ _, HX.out⟩
  clear hb HFi HO0
  go_wp2_with fail
  generalize w1.alloc (.cells #[.int .i64 x0, .int .i64 x1] 23) = W1 at *
  generalize w1.heap.size = xb at *
  go_loopw [5, 6, 7] (fun v p q wr => ∃ (k cp xb : Nat) (A : Option Addr) (K' : List It) (E : List Nat) (x0 x1 : Int) (bb : Bool), v = .slice A k cp ∧ p = .pointer (some ⟨xb, 0, none⟩) ∧ q = .bool bb ∧ Hid (bb = decide (k < S.length)) ∧ Hid (Du F w wr a S now k cp xb A K' E x0 x1)) (fun v _ _ _ => S.length - (match v with | .slice _ n _ => n | _ => 0))
  case atStart => exact ⟨0, 0, xb, none, K, [xb], x0, x1, bb, rfl, rfl, rfl, HBB, Nat.zero_le _, HO1.out, Row.nil _ _, by simp, (fun g hg => by simp [Value.ownBlock] at hg), HK1.out, HI0.out, fun j hj => absurd hj (Nat.not_lt_zero j)⟩
  case round =>
    obtain ⟨k, cp, xb, A, K', E, x0, x1, bb, rfl, rfl, rfl, hbb, hD⟩ := hrel
    clear HO1 HK1 HI0 HX HBB
    by_cases hk : k < S.length
    · obtain rfl : bb = true := by rw [hbb.out]; simpa using hk
      have hb0 : wr.cell? ⟨xb, 0, none⟩ = some (.int .i64 x0) := by simp [cell_of hD.out.look.box]
      have hb1 : wr.cell? ⟨xb, 1, none⟩ = some (.int .i64 x1) := by simp [cell_of hD.out.look.box]
      have HKS := Lib.hid hk
      by_cases hd : x0 ≤ now
      · have hd1 : decide (x0 ≤ now) = true := by simpa using hd
        have hlen : (S.take k).length = k := by rw [List.length_take]; omega
        have HLEN := Lib.hid hlen
        have hKB : k ≤ 100000 := by have := HSL.out; omega
        have HOWN : Hid (wr.ownsRow w.heap.size 23 2 (.slice A k cp) k (flat (S.take k))) := by have q := hD.out.row.own; rw [hlen] at q; exact q
        have HWB := Lib.hid hD.out.ow.kp.size
        have HDU := Lib.hid hd
        have HT := Lib.hid (take_at hk)
        have HIs := hD.out.is
        rw [drop_at hk] at HIs
        obtain ⟨p1, p2⟩ := HIs.pop
        have hK2 : ∃ n', K'.length = n' + 1 := ⟨K'.length - 1, by have := HIs.perm.length_eq; simp at this; omega⟩
        obtain ⟨n', hn'⟩ := hK2
        have hKl : K'.length < 2305843009213693951 := by have h1 := HIs.perm.length_eq; rw [List.length_cons, List.length_drop] at h1; have := HSL.out; omega
        have HP := Lib.hid (fun (X : World) (G : Nat → Prop) (hX : Ag X a G K') => pop_ok hX n' hn' hKl)
        have HI2 := Lib.hid p2
        have HAT := Lib.hid (hD.out.look.is hk)
        rw [p1, HAT.out] at HP
        unfold itV at HP
        simp only at HP
        clear p1 p2 HIs hn' hKl hlen hk
        go_wp2_with (refine wpList_append_lies _ rfl (.tmp 25) (.tmp 27) 34 rfl w.heap.size 23 i0 _ 2 16 Try.underlying34 hi hz0 hz1 hz2 rfl (by omega) (.slice A k cp) k (flat (S.take k)) rfl (HOWN.out.alloc _) ⟨_, 0, none⟩ 1 1 [.int .i64 x0, .int .i64 x1] rfl rfl (news2' _ _ _ _) (flat_one [(x0, x1)]) (by omega) (by unfold maxLen; omega) (by omega) (by have := HWB.out; rw [size_al]; omega) _ rfl ?_; intro g3 cap3 w5 hO2 hG2 hor2 hlt2; have HU := Lib.hid (Ow.app hD.out.ow hD.out.row HLEN.out hO2 hG2 hor2 hlt2); have HOR := Lib.hid hor2; clear hO2 hG2 hor2 hlt2)
        have HXK : Hid (w5.heap[xb]? = some (.cells #[.int .i64 x0, .int .i64 x1] 23 (0, 0))) := (HU.out.2.2 xb (block_lt hD.out.look.box) (fun g hg => (hD.out.ne g hg).symm)).trans hD.out.look.box
        have HG3 : Hid (g3 ≠ xb) := by
          rcases HOR.out with h | h
          · exact hD.out.ne g3 h
          · have := block_lt hD.out.look.box
            rw [size_al] at h
            show g3 ≠ xb
            omega
        have HP5 := Lib.hid (HP.out w5 _ HU.out.1.ag)
        go_at_call 6; refine HP5.out.mono ?_; rintro e w6 ⟨rfl, hk6, ha6⟩
        obtain ⟨ho6, hke⟩ := HU.out.1.step hk6 ha6
        have HO6 := Lib.hid (ho6.box (.cells #[.int .i64 x0, .int .i64 x1] 23))
        have hX6 := (hke xb (List.mem_cons_of_mem _ hD.out.xm)).trans HXK.out
        have c0 : w6.cell? ⟨xb, 0, none⟩ = some (.int .i64 x0) := by simp [cell_of hX6]
        have c1 : w6.cell? ⟨xb, 1, none⟩ = some (.int .i64 x1) := by simp [cell_of hX6]
        have HR6 : Hid (Row (w6.heap.size :: g3 :: E) w (w6.alloc (.cells #[.int .i64 x0, .int .i64 x1] 23)) 23 (.slice (some ⟨g3, 0, none⟩) (k + 1) cap3) (S.take (k + 1))) := by
          have q := ((HU.out.2.1.kept hke).below (fun e he => (ho6.lt e he).2) ((Below.refl w6.heap.size w6).alloc (Nat.le_refl _) (.cells #[.int .i64 x0, .int .i64 x1] 23))).more (l := [w6.heap.size])
          show Row _ _ _ _ _ _
          rw [HT.out, HAT.out]; exact q
        have HG6 : Hid (g3 < w6.heap.size) := (ho6.lt g3 (by simp)).2
        have HN6 := Lib.hid (heap_alloc_new w6 (.cells #[.int .i64 x0, .int .i64 x1] 23))
        have HKL : Hid (k + 1 ≤ S.length) := HKS.out
        obtain ⟨y0, y1, hy, bb2, hbb2, hF2⟩ := first_any HO6.out.ag HI2.out HKL.out
        have HY := Lib.hid hy
        have HBB2 := Lib.hid hbb2
        have HF2 := Lib.hid hF2
        clear ho6 hke hX6 hk6 ha6 hy hbb2 hF2 HP5 HP hb0 hb1
        go_wp2_with fail
        generalize w6.alloc (.cells #[.int .i64 x0, .int .i64 x1] 23) = W6 at *
        generalize w6.heap.size = xb2 at *
        go_at_call 7; refine HF2.out.mono ?_; rintro e w8 ⟨rfl, hb8⟩
        have HO8 := Lib.hid (HO6.out.below hb8)
        have HR8 := Lib.hid (HR6.out.below (fun e he => (HO6.out.lt e he).2) hb8)
        have hN8 := (hb8.block xb2 (block_lt HN6.out)).trans HN6.out
        have HN8 := Lib.hid hN8
        have r0 := cell_of hN8 0
        have r1 := cell_of hN8 1
        have f0 := frozen_of hN8 0
        have f1 := frozen_of hN8 1
        simp only [List.getElem?_toArray, List.getElem?_cons_succ, List.getElem?_cons_zero] at r0 r1
        have HZ : Hid (Du F w ((w8.setCell ⟨xb2, 0, none⟩ (.int .i64 y0)).setCell ⟨xb2, 1, none⟩ (.int .i64 y1)) a S now (k + 1) cap3 xb2 (some ⟨g3, 0, none⟩) (hpop K').2 (xb2 :: g3 :: E) y0 y1) := by
          have kz : ∀ j, j ≠ xb2 → ((w8.setCell ⟨xb2, 0, none⟩ (.int .i64 y0)).setCell ⟨xb2, 1, none⟩ (.int .i64 y1)).heap[j]? = w8.heap[j]? := fun j hj => by rw [heap_set_ne _ hj, heap_set_ne _ hj]
          have sz : ((w8.setCell ⟨xb2, 0, none⟩ (.int .i64 y0)).setCell ⟨xb2, 1, none⟩ (.int .i64 y1)).heap.size = w8.heap.size := by rw [size_set, size_set]
          refine ⟨HKL.out, ?_, HR8.out.kept' (fun g hg => kz g ?_), by simp, fun g hg => ?_, ⟨?_, HY.out⟩, HI2.out, fun j hj => ?_⟩
          · exact HO8.out.turn (Y := (w8.setCell ⟨xb2, 0, none⟩ (.int .i64 y0)).setCell ⟨xb2, 1, none⟩ (.int .i64 y1)) (l := []) rfl rfl rfl (by rw [sz]; exact Nat.le_refl _) (fun j _ hj => kz j (fun e => hj (by rw [e]; simp))) (by simp)
          · simp [Value.ownBlock] at hg; have := HG6.out; omega
          · simp [Value.ownBlock] at hg; have := HG6.out; omega
          · rw [heap_set (heap_set hN8 0 _) 1 _]; rfl
          · rcases Nat.lt_succ_iff_lt_or_eq.1 hj with h | h
            · exact hD.out.due j h
            · subst h; rw [HAT.out]; exact HDU.out
        clear hb8 hN8
        go_wp2_with fail
        go_roundw
        case rel => first | exact ⟨k + 1, cap3, xb2, some ⟨g3, 0, none⟩, (hpop K').2, _, y0, y1, bb2, rfl, rfl, rfl, HBB2, HZ⟩ | (repeat apply Exists.intro; exact ⟨⟨k + 1, cap3, xb2, some ⟨g3, 0, none⟩, (hpop K').2, _, y0, y1, bb2, rfl, rfl, rfl, HBB2, HZ⟩, rfl⟩)
        case measure => have := HKL.out; simp; omega
      · have hd1 : decide (x0 ≤ now) = false := by simpa using hd
        have HAT := Lib.hid (hD.out.look.is hk)
        have HDU := Lib.hid hd
        clear hk
        go_wp2_with fail
        go_ret
        obtain ⟨g, hg⟩ := hD.out.row.sees
        exact ⟨k, A, cp, g, K', rfl, ⟨hD.out.le, hD.out.due, fun _ => by rw [HAT.out]; have := HDU.out; show ¬ x0 ≤ now; omega⟩, hg, hD.out.ow.done.1, hD.out.ow.done.2, hD.out.is⟩
    · obtain rfl : bb = false := by rw [hbb.out]; simpa using hk
      have HNK := Lib.hid hk
      clear hk
      go_wp2_with fail
      go_ret
      obtain ⟨g, hg⟩ := hD.out.row.sees
      exact ⟨k, A, cp, g, K', rfl, ⟨hD.out.le, hD.out.due, fun h => absurd h HNK.out⟩, hg, hD.out.ow.done.1, hD.out.ow.done.2, hD.out.is⟩
end Go.Proofs.Ytideofojmgmboaa
