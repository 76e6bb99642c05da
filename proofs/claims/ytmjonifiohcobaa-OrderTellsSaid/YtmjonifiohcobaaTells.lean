/- The walk of the law OrderTells. -/
import Derived.Test.YtmjonifiohcobaaMany2
import Derived.Deep.RegionWith
namespace Go.Proofs.Ytmjonifiohcobaa
open Go Go.RowKit Go.Shelf
set_option linter.unusedVariables false
set_option linter.unusedSimpArgs false
attribute [local go_sem] Oper.semAt_some

theorem eqIn_func (w : World) (d : Nat) (f : Fn) (a b : Array Value) : (Op.equalIn (d + 1) 58 (.func f a b) .nilFunc).run Try.prog w = .ok false w := by
  simp only [Op.equalIn, Sem.run_bind, run_underlying Try.underlying58, Result.andThen_ok]
  rfl
theorem eq58 (w : World) (f : Fn) (a b : Array Value) : (binOp .eql 58 (.func f a b) .nilFunc).run Try.prog w = .ok (.bool false) w := by
  have h := eqIn_func w 9999 f a b
  simp only [binOp]
  simp [Op.equal, Op.maxDepth, h]

/-- What stands behind a number that the law collected. -/
theorem collected2 {w W w1 : World} {v v' : Value} {k m : Nat} {xs ys : List Value} {tmp : Obj}
    (hv : Boxed W (w.heap.size + 2) 55 v) (hrow : W.ownsRow (w.heap.size + 3) 3 1 v k xs) (hB : Below w.heap.size w W) (hn : w.heap.size + 3 ≤ W.heap.size)
    (hown' : w1.ownsRow (w.heap.size + 3) 3 1 v' m ys) (hgrow : (W.alloc tmp).grownBy w1 v.ownBlock) :
    Boxed w1 (w.heap.size + 2) 55 v ∧ Boxed (w1.setCell ⟨w.heap.size + 2, 0, none⟩ v') (w.heap.size + 2) 55 v' ∧ (w1.setCell ⟨w.heap.size + 2, 0, none⟩ v').ownsRow (w.heap.size + 3) 3 1 v' m ys ∧ KeepsOthers W (w1.setCell ⟨w.heap.size + 2, 0, none⟩ v') ∧ Below w.heap.size W (w1.setCell ⟨w.heap.size + 2, 0, none⟩ v') ∧ (w1.setCell ⟨w.heap.size + 2, 0, none⟩ v').heap[w.heap.size]? = W.heap[w.heap.size]? := by
  have hfar : ∀ j, v.ownBlock = some j → w.heap.size + 3 ≤ j := fun j ej => by
    rcases hrow.2 with ⟨rfl, _⟩ | ⟨g, cap, cur, rfl, hb, _, _⟩
    · simp [Value.ownBlock] at ej
    · simp [Value.ownBlock] at ej; omega
  have hv1 : Boxed w1 (w.heap.size + 2) 55 v := (hv.alloc tmp).kept hgrow (hv.not_row (by decide) hrow)
  refine ⟨hv1, hv1.set v', hown'.kept (grownBy_setCell' w1 (w.heap.size + 2) v') (.inr (hv1.not_row (by decide) hown').symm), ?_, ?_, ?_⟩
  · refine ((KeepsOthers.alloc W tmp).trans (KeepsOthers.of_grownBy hgrow fun j o ej hj => ?_)).trans (KeepsOthers.setCell _ _ _)
    rcases (hrow.alloc tmp).2 with ⟨rfl, _⟩ | ⟨g, cap, cur, rfl, _, hgb, _⟩
    · simp [Value.ownBlock] at ej
    · obtain rfl : g = j := by simpa [Value.ownBlock] using ej
      rw [hgb] at hj; cases hj; rfl
  · exact (((Below.refl _ W).alloc hB.size tmp).grown hgrow (by have := hB.size; simp; omega) fun j ej => by have := hfar j ej; omega).setCell (p := ⟨w.heap.size + 2, 0, none⟩) (by show w.heap.size ≤ w.heap.size + 2; omega) v'
  · rw [heap_set_ne _ (by omega)]
    refine (hgrow.block _ (by simp; omega) (fun e => ?_)).trans (heap_al _ (by omega) _)
    have := hfar _ e.symm
    omega

set_option maxRecDepth 100000 in
set_option maxHeartbeats 4000000 in
theorem orderTells_in (n : Int) (W : Nat) (w : World) (hW : W ≤ 18446744073709551615) :
    CallsIn Fence.wide 5 Try.prog 7 #[.int .i64 n, .int .u64 W] w fun e W' => e = .returned (.bool true) ∧ Below w.heap.size w W' := by
  obtain ⟨i0, hi, hz0, hz1, hz2⟩ := info_parts info3
  have hO := (callsIn_wide (n := 4)).2 (order_any n W w hW)
  refine callsIn_of_wp_marks Try.func7 rfl trivial ?_ rfl
  simp only [Try.ntmps7, List.size_toArray, List.length_cons, List.length_nil, Nat.reduceAdd, Nat.reduceSub, Array.replicate_succ, Array.replicate_zero, List.push_toArray, List.append_toArray, List.nil_append, List.cons_append]
  gi_wp2_with (refine ⟨trivial, ?_⟩; gi_at_call 27; refine hO.mono ?_; rintro e w1 ⟨v1, rfl, hG⟩; obtain ⟨A1, cap1, rfl⟩ := hG.spelt)
  have hb1 := hG.below
  have hs1 : Hid (SeesN w1 A1 (thrL n W)) := hG.sees
  clear hG hO
  have hq58 := fun (w : World) => eq58 w (.func 46) #[] #[.pointer (some ⟨w1.heap.size, 0, none⟩), .pointer (some ⟨w1.heap.size + 1, 0, none⟩)]
  gi_wp2_with (refine ⟨trivial, ?_⟩; gi_at_call 28; refine (through_in Fence.wide _ trivial rfl n W _).mono ?_; rintro e w' ⟨rfl, rfl⟩)
  clear hq58
  have bN := Boxed.new w1 3 (.int .i64 n)
  have bW := Boxed.new (w1.alloc (.cells #[.int .i64 n] 3)) 32 (.int .u64 W)
  have bO := Boxed.new ((w1.alloc (.cells #[.int .i64 n] 3)).alloc (.cells #[.int .u64 W] 32)) 55 (.slice none 0 0)
  rw [World.size_alloc] at bW
  rw [World.size_alloc, World.size_alloc] at bO
  have hB0 : Below w1.heap.size w1 (((w1.alloc (.cells #[.int .i64 n] 3)).alloc (.cells #[.int .u64 W] 32)).alloc (.cells #[.slice none 0 0] 55)) := (((Below.refl _ w1).alloc (Nat.le_refl _) _).alloc (by simp) _).alloc (by simp; omega) _
  have bN' := (bN.alloc (.cells #[.int .u64 W] 32)).alloc (.cells #[.slice none 0 0] 55)
  have bW' := bW.alloc (.cells #[.slice none 0 0] 55)
  refine wpIn_rangeFunc_ownG rfl (by omega) (gf := 46) (lb := #[.pointer (some ⟨w1.heap.size, 0, none⟩), .pointer (some ⟨w1.heap.size + 1, 0, none⟩)]) rfl trivial (enters_of Try.func46 (by kernel_rfl) rfl)
    (thr_stops 4 W n (by omega) hW w1.heap.size (w1.heap.size + 1) _ (by simp; omega) (by simp) bN'.cell bW'.cell) (fun h k => k.trans h) (fun Y l o o' hl _ _ _ => World.putObj_heap_other (by simp at hl; omega)) (Below.refl _ _) (fun _ => rfl)
    (fun pre X => (∃ v, Boxed X (w1.heap.size + 2) 55 v ∧ X.ownsRow (w1.heap.size + 3) 3 1 v pre.length (cellsN pre) ∧ True) ∧ (Below w1.heap.size w1 X ∧ w1.heap.size + 3 ≤ X.heap.size))
    (fun _ _ _ => False)
    (OwnFrom.and (Own.from (holdsRow_own (w1.heap.size + 3) (w1.heap.size + 2) 55 3 1 (fun pre => pre.length) (fun pre => cellsN pre) (fun _ _ => True)) _) (OwnFrom.and (ownFrom_below (Nat.le_refl _) (by simp; omega)) (fun _ _ _ _ hs hg _ => Nat.le_trans hs hg.size)))
    (fun _ _ _ _ _ hs _ _ => hs)
    ⟨⟨_, bO, World.ownsRow_nil _ _ _ _, trivial⟩, hB0, by simp⟩
    (fun x => { tmps := #[(.int .i64 n), (.int .u64 W), undef, undef, (.bool false), (.slice A1 (thrL n W).length cap1), (.func (.func 46) #[] #[.pointer (some ⟨w1.heap.size, 0, none⟩), .pointer (some ⟨w1.heap.size + 1, 0, none⟩)]), (.pointer (some ⟨w1.heap.size + 1 + 1, 0, none⟩)), (.int .i64 ((x : Nat) : Int)), undef, undef, (.int .i64 n), (.int .u64 W), (.slice A1 (thrL n W).length cap1), (.int .i64 n), (.int .u64 W), (.func (.func 46) #[] #[.pointer (some ⟨w1.heap.size, 0, none⟩), .pointer (some ⟨w1.heap.size + 1, 0, none⟩)]), (.func (.func 46) #[] #[.pointer (some ⟨w1.heap.size, 0, none⟩), .pointer (some ⟨w1.heap.size + 1, 0, none⟩)]), (.bool false), (.func (.func 46) #[] #[.pointer (some ⟨w1.heap.size, 0, none⟩), .pointer (some ⟨w1.heap.size + 1, 0, none⟩)]), (.int .i64 ((x : Nat) : Int)), undef, undef, undef, undef, undef, undef, undef, undef, undef, undef, undef, undef, undef, undef, undef, undef, undef, undef, undef, undef, undef, undef, undef, undef, undef, undef, undef, undef, undef, undef, undef, undef, undef, undef, undef, undef, undef, undef, undef, undef, undef, undef, undef, undef, undef, undef, undef, undef, undef, undef, undef, undef, undef, undef, undef, undef, undef, undef, undef, undef, undef, undef, undef, undef, undef, undef, undef, undef, undef, undef, undef, undef, undef, undef, undef, undef, undef, undef, undef, undef, undef, undef, undef, undef, undef], defers := [] }) ?assign ?body ?done ?stop
  case assign =>
    intro l x X K hK
    gi_wp2
    exact hK
  case body =>
    rintro l pre x X ⟨⟨v, hv, hrow, -⟩, hB, hn3⟩ hlt
    have hc := hv.cell
    have hl64 := thrL_len n W
    have hbs := hB.size
    gi_wp2_with (gi_at_builtin; refine wpListIn_append_own _ rfl _ _ 55 rfl (w1.heap.size + 3) 3 i0 (.int .i64 0) 1 8 Try.underlying55 hi hz0 hz1 hz2 rfl (by decide) _ _ _ rfl (hrow.alloc _) ⟨X.heap.size, 0, none⟩ 1 1 [.int .i64 ((x : Nat) : Int)] rfl rfl (cell_one_new _ _ _) (by simp [Value.oneCell']) (by unfold maxLen; omega) (by omega) (by simp; omega) ?_; intro v' w3 hown' hgrow _; obtain ⟨g', cap', rfl⟩ := ownsRow_succ hown'; have hC := collected2 hv hrow hB hn3 hown' hgrow; have hc1 := hC.1.cell; have hf1 := hC.1.frozen)
    obtain ⟨-, hC2, hC3, hC4, hC5, hC6⟩ := hC
    exact ⟨hC4.from _, hC6, ⟨_, hC2, by simpa [cellsN] using hC3, trivial⟩, hB.trans hC5, Nat.le_trans hn3 hC4.size⟩
  case done =>
    rintro D ys X hD rfl ⟨⟨v, hv, hrow, -⟩, hB, hn3⟩ hK
    have hc := hv.cell
    have hGA : Grows w1 X v (thrL n W) := ⟨row_base hrow (by omega), hB⟩
    obtain ⟨A2, cap2, rfl⟩ := hGA.spelt
    have hs2 : Hid (SeesN X A2 (thrL n W)) := hGA.sees
    have hs1' : Hid (SeesN X A1 (thrL n W)) := hs1.out.below hB
    have hbX := hb1.trans (hB.mono hb1.size)
    have hlb := hv.lt
    have hDl : D < X.heap.size := by
      rcases Nat.lt_or_ge D X.heap.size with q | q
      · exact q
      · rw [Array.getElem?_eq_none q] at hK; cases hK
    clear hv hrow hB hn3 hs1 bN bW bO hB0 bN' bW' hGA
    by_cases hn : 1 ≤ n ∧ n ≤ 64
    · obtain ⟨m, rfl⟩ : ∃ m : Nat, n = (m : Int) := ⟨n.toNat, by omega⟩
      have h1 : 1 ≤ m := by omega
      have h64 : m ≤ 64 := by omega
      have hm := (callsIn_wide (n := 4)).2 (known_any m X)
      rw [show decide (1 ≤ (m : Int) ∧ (m : Int) ≤ 64) = true by simpa using hn] at hm
      have hl : (ordOf m W m).length = m := by unfold ordOf; exact ordL_len _ _ _ _
      rw [thrL_ok h1 h64] at hc hs1' hs2 ⊢
      rw [hl] at hc ⊢
      have hRO := (callsIn_wide (n := 4)).2 (refOrder_any m W X h1 h64 hW)
      have hRS := fun (Y : World) => (callsIn_wide (n := 4)).2 (refStrides_any m Y h1 h64)
      have HRS : Hid (∀ Y : World, CallsIn Fence.wide 4 Try.prog 35 #[.int .i64 m] Y fun e w' => ∃ v, e = .returned v ∧ Grows Y w' v (sU m m)) := hRS
      clear hRS hn
      gi_wp2_with (first | (refine ⟨trivial, ?_⟩; gi_at_call 29; refine hm.mono ?_; clear hm; rintro e y1 ⟨rfl, rfl⟩) | (refine ⟨trivial, ?_⟩; gi_at_call 34; refine hRO.mono ?_; clear hRO; rintro e y5 ⟨v5, rfl, hG5⟩; obtain ⟨A5, cap5, rfl⟩ := hG5.spelt) | (refine ⟨trivial, ?_⟩; gi_at_call 35; refine (HRS.out _).mono ?_; rintro e y6 ⟨v6, rfl, hG6⟩; obtain ⟨A6, cap6, rfl⟩ := hG6.spelt))
      have hlen := sU_len m m
      have hpos := len_pos m h1
      have hq := tdiv_nat W m
      have hle : W / m ≤ W := Nat.div_le_self _ _
      have hq2 := tmod_nat (W / m) (sU m m).length
      have hlt : W / m % (sU m m).length < (sU m m).length := Nat.mod_lt _ hpos
      have hn0 : ¬ m = 0 := by omega
      have hl0 : ¬ (sU m m).length = 0 := by omega
      have hstep : stepAt m W = (sU m m).getD (W / m % (sU m m).length) 0 := rfl
      have hst0 : (ordOf m W m).getD 0 0 = W % m := by unfold ordOf; rw [ordL_at _ _ _ _ 0 (by omega)]; rfl
      have hb56 : Below X.heap.size X y6 := hG5.below.trans (hG6.below.mono hG5.below.size)
      obtain ⟨g5, cp5, e5, hg5a, hg5b, hc5⟩ := hG5.cell (i := 0) (by rw [hl]; omega)
      obtain ⟨g6, cp6, e6, hg6a, hg6b, hc6⟩ := hG6.cell hlt
      have c5 : y6.cell? ⟨g5, 0, none⟩ = some (.int .i64 ((W % m : Nat) : Int)) := by
        have := (hG6.below.cell (p := ⟨g5, 0, none⟩) hg5b).trans (hc5 0 (by rw [hl]; omega))
        rwa [hst0] at this
      have c6 : y6.cell? ⟨g6, W / m % (sU m m).length, none⟩ = some (.int .i64 ((stepAt m W : Nat) : Int)) := by
        rw [hstep]; exact hc6 _ hlt
      have cb : y6.cell? ⟨w1.heap.size + 1 + 1, 0, none⟩ = some (.slice A2 m cap2) := (hb56.cell (p := ⟨w1.heap.size + 2, 0, none⟩) hlb).trans hc
      have se1 : SeesN y6 A1 (ordOf m W m) := hs1'.out.below hb56
      have se2 : SeesN y6 A2 (ordOf m W m) := hs2.out.below hb56
      have se5 : SeesN y6 A5 (ordOf m W m) := hG5.sees.below hG6.below
      have se6 : SeesN y6 A6 (sU m m) := hG6.sees
      have hK6 : y6.heap[D]? = some (.deferred (some [])) := (hb56.block D hDl).trans hK
      have hD6 : D < y6.heap.size := Nat.lt_of_lt_of_le hDl hb56.size
      have hlb6 : w1.heap.size + 1 + 1 < y6.heap.size := by have := hb56.size; omega
      have hg56 : g5 < y6.heap.size := Nat.lt_of_lt_of_le hg5b hG6.below.size
      have hbY : Below w.heap.size w y6 := hbX.trans (hb56.mono hbX.size)
      have hsY := hbY.size
      have hDw : w.heap.size ≤ D := by have := hb1.size; simp at hD; omega
      have hS := fun (Y : World) => start_ok m W Y h1 h64
      have hP := fun (Y : World) => step_ok m W Y h1 h64 hW
      have hT : ∀ Y : World, Calls Try.prog 31 #[.int .i64 m] Y fun e w' => ∃ A cap, e = .returned (.slice A (sU m m).length cap) ∧ SeesN w' A (sU m m) ∧ Below Y.heap.size Y w' := fun Y => (strides_any m Y h1 h64).mono fun e w' ⟨v, he, hG⟩ => by
        obtain ⟨A, cap, rfl⟩ := hG.spelt
        exact ⟨A, cap, he, hG.sees, hG.below⟩
      have hQ1 : ∀ (Y : World) (A B : Option Addr) (c d : Nat), SeesN Y A (ordOf m W m) → SeesN Y B (ordOf m W m) → Calls Try.prog 36 #[.slice A m c, .slice B m d] Y fun e w' => e = .returned (.bool true) ∧ Below Y.heap.size Y w' := fun Y A B c d hA hB => by
        have := sameN_any Y A B c d _ _ rfl (by rw [hl]; omega) hA hB
        rw [hl, show decide (ordOf m W m = ordOf m W m) = true by simp] at this
        exact this.mono fun e w' ⟨he, k, hk⟩ => ⟨he, by rw [hk]; exact below_drewN _ _⟩
      have hQ2 : ∀ (Y : World) (A B : Option Addr) (c d : Nat), SeesN Y A (sU m m) → SeesN Y B (sU m m) → Calls Try.prog 36 #[.slice A (sU m m).length c, .slice B (sU m m).length d] Y fun e w' => e = .returned (.bool true) ∧ Below Y.heap.size Y w' := fun Y A B c d hA hB => by
        have := sameN_any Y A B c d _ _ rfl (by omega) hA hB
        rw [show decide (sU m m = sU m m) = true by simp] at this
        exact this.mono fun e w' ⟨he, k, hk⟩ => ⟨he, by rw [hk]; exact below_drewN _ _⟩
      cases e5
      cases e6
      clear hG5 hG6 hc5 hc6 hs1' hs2 HRS hb56 hc hst0 hstep hK hDl hlb hg5a hg5b hg6a hl hb1 hbX hD
      generalize ordOf m W m = L at se1 se2 se5 hQ1
      generalize W % m = st at c5 hS
      generalize stepAt m W = step at c6 hP
      generalize W / m = d at hq hle hq2 hlt c6
      generalize sU m m = SS at *
      generalize SS.length = len at *
      generalize d % len = r at hq2 hlt c6
      have HS : Hid (∀ Y : World, Calls Try.prog 32 #[.int .i64 m, .int .u64 W] Y fun e w' => e = .returned (.int .i64 ((st : Nat) : Int)) ∧ Y = w') := hS
      have HP : Hid (∀ Y : World, Calls Try.prog 33 #[.int .i64 m, .int .u64 W] Y fun e w' => e = .returned (.int .i64 ((step : Nat) : Int)) ∧ Below Y.heap.size Y w') := hP
      have HT : Hid (∀ Y : World, Calls Try.prog 31 #[.int .i64 m] Y fun e w' => ∃ A cap, e = .returned (.slice A len cap) ∧ SeesN w' A SS ∧ Below Y.heap.size Y w') := hT
      have HQ1 : Hid (∀ (Y : World) (A B : Option Addr) (c d : Nat), SeesN Y A L → SeesN Y B L → Calls Try.prog 36 #[.slice A m c, .slice B m d] Y fun e w' => e = .returned (.bool true) ∧ Below Y.heap.size Y w') := hQ1
      have HQ2 : Hid (∀ (Y : World) (A B : Option Addr) (c d : Nat), SeesN Y A SS → SeesN Y B SS → Calls Try.prog 36 #[.slice A len c, .slice B len d] Y fun e w' => e = .returned (.bool true) ∧ Below Y.heap.size Y w') := hQ2
      have HE1 : Hid (∀ Y, Below y6.heap.size y6 Y → SeesN Y A1 L) := fun Y hY => se1.below hY
      have HE2 : Hid (∀ Y, Below y6.heap.size y6 Y → SeesN Y A2 L) := fun Y hY => se2.below hY
      have HE5 : Hid (∀ Y, Below y6.heap.size y6 Y → SeesN Y (some ⟨g5, 0, none⟩) L) := fun Y hY => se5.below hY
      have HE6 : Hid (∀ Y, Below y6.heap.size y6 Y → SeesN Y (some ⟨g6, 0, none⟩) SS) := fun Y hY => se6.below hY
      have hH : Hid (y6.drew.cell? ⟨w1.heap.size + 1 + 1, 0, none⟩ = some (.slice A2 m cap2) ∧ y6.drew.cell? ⟨g5, 0, none⟩ = some (.int .i64 ((st : Nat) : Int)) ∧ y6.drew.cell? ⟨g6, r, none⟩ = some (.int .i64 ((step : Nat) : Int)) ∧ Below y6.heap.size y6 y6.drew) := ⟨cb, c5, c6, (Below.refl _ _).drew⟩
      have KEEP : Hid (∀ Y w' : World, (Y.cell? ⟨w1.heap.size + 1 + 1, 0, none⟩ = some (.slice A2 m cap2) ∧ Y.cell? ⟨g5, 0, none⟩ = some (.int .i64 ((st : Nat) : Int)) ∧ Y.cell? ⟨g6, r, none⟩ = some (.int .i64 ((step : Nat) : Int)) ∧ Below y6.heap.size y6 Y) → Below Y.heap.size Y w' → (w'.cell? ⟨w1.heap.size + 1 + 1, 0, none⟩ = some (.slice A2 m cap2) ∧ w'.cell? ⟨g5, 0, none⟩ = some (.int .i64 ((st : Nat) : Int)) ∧ w'.cell? ⟨g6, r, none⟩ = some (.int .i64 ((step : Nat) : Int)) ∧ Below y6.heap.size y6 w')) := by
        show ∀ _ _, _
        rintro Y w' ⟨e1, e2, e3, hb⟩ hB
        have hs := hb.size
        exact ⟨(hB.cell (p := ⟨w1.heap.size + 1 + 1, 0, none⟩) (by show w1.heap.size + 1 + 1 < _; omega)).trans e1, (hB.cell (p := ⟨g5, 0, none⟩) (by show g5 < _; omega)).trans e2, (hB.cell (p := ⟨g6, r, none⟩) (by show g6 < _; omega)).trans e3, hb.trans (hB.mono hs)⟩
      clear hS hP hT hQ1 hQ2 se1 se2 se5 se6
      have hwd : IntKind.u64.wrap ((d : Nat) : Int) = ((d : Nat) : Int) := by simp [IntKind.wrap, IntKind.bits, IntKind.signed]; omega
      have hwr : IntKind.u64.wrap ((r : Nat) : Int) = ((r : Nat) : Int) := by simp [IntKind.wrap, IntKind.bits, IntKind.signed]; omega
      have hwm : IntKind.u64.wrap ((m : Nat) : Int) = ((m : Nat) : Int) := by simp [IntKind.wrap, IntKind.bits, IntKind.signed]; omega
      have hwl : IntKind.u64.wrap ((len : Nat) : Int) = ((len : Nat) : Int) := by simp [IntKind.wrap, IntKind.bits, IntKind.signed]; omega
      have hwri : IntKind.i64.wrap ((r : Nat) : Int) = ((r : Nat) : Int) := by rw [IntKind.wrap_i64]; omega
      have hmpN : 0 < m := by omega
      have hmi : ¬ (m : Int) = 0 := by omega
      have hm0 : ((m : Int) == 0) = false := by simpa using hn0
      have hli : ¬ (len : Int) = 0 := by omega
      have hl00 : ((len : Int) == 0) = false := by simpa using hl0
      have hr0 : (0 : Int) ≤ (r : Int) := Int.natCast_nonneg _
      have hr1 : (r : Int) < (len : Int) := by omega
      refine wpIn_wide.2 ?_
      go_region_held3 (fun w' => w'.cell? ⟨w1.heap.size + 1 + 1, 0, none⟩ = some (.slice A2 m cap2) ∧ w'.cell? ⟨g5, 0, none⟩ = some (.int .i64 ((st : Nat) : Int)) ∧ w'.cell? ⟨g6, r, none⟩ = some (.int .i64 ((step : Nat) : Int)) ∧ Below y6.heap.size y6 w') (first | exact hH | assumption | exact KEEP.out _ _ ‹_› ‹_›) (first | (go_at_call 30; refine (awakeO_any _).mono ?_; rintro e z1 ⟨rfl, hz1⟩) | (go_at_call_of 36 (Value.slice A1 m cap1); refine (HQ1.out _ A1 _ cap1 _ (HE1.out _ (by simp only [*])) (HE5.out _ (by simp only [*]))).mono ?_; rintro e z2 ⟨rfl, hz2⟩) | (go_at_call_of 36 (Value.slice A2 m cap2); refine (HQ1.out _ A2 _ cap2 _ (HE2.out _ (by simp only [*])) (HE5.out _ (by simp only [*]))).mono ?_; rintro e z3 ⟨rfl, hz3⟩) | (go_at_call 31; refine (HT.out _).mono ?_; rintro e z4 ⟨A7, cap7, rfl, hs7, hz4⟩) | (go_at_call 36; refine (HQ2.out _ A7 _ cap7 _ hs7 (HE6.out _ (by simp only [*]))).mono ?_; rintro e z5 ⟨rfl, hz5⟩) | (go_at_call 32; refine (HS.out _).mono ?_; rintro e z6 ⟨rfl, rfl⟩) | (go_at_call 33; refine (HP.out _).mono ?_; rintro e z7 ⟨rfl, hz7⟩))
      rename_i hSS
      have hbz := hSS.2.2.2
      have hKz := (hbz.block D hD6).trans hK6
      have hbf := hbY.trans (hbz.mono hbY.size)
      clear hSS hbz hH KEEP HS HP HT HQ1 HQ2 HE1 HE2 HE5 HE6 hz2 hz3 hz4 hz5 hz7 hs7 cb c5 c6
      gi_wp2
      refine ⟨by simp, .inl ⟨_, _, rfl, run_takeDeferred hKz, ?_⟩⟩
      exact ⟨_, results_tmp rfl _ _ _, rfl, hbf.trans (belowK_b (w := w) (Nat.le_refl _) z7 D _ _ hDw hKz rfl rfl)⟩
    · have hm := (callsIn_wide (n := 4)).2 (known_any n X)
      rw [show decide (1 ≤ n ∧ n ≤ 64) = false by simpa using hn] at hm
      have hL : thrL n W = [] := by unfold thrL; rw [if_neg hn]
      rw [hL] at hc ⊢
      simp only [List.length_nil] at hc ⊢
      have hT := fun (Y : World) => (callsIn_wide (n := 4)).2 (strides_no n Y hn)
      have hS := fun (Y : World) => (callsIn_wide (n := 4)).2 (start_no n W Y hn)
      have hP := fun (Y : World) => (callsIn_wide (n := 4)).2 (step_no n W Y hn)
      have HT : Hid (∀ Y : World, CallsIn Fence.wide 4 Try.prog 31 #[.int .i64 n] Y fun e w' => e = .returned (.slice none 0 0) ∧ Y = w') := hT
      have HS : Hid (∀ Y : World, CallsIn Fence.wide 4 Try.prog 32 #[.int .i64 n, .int .u64 W] Y fun e w' => e = .returned (.int .i64 0) ∧ Y = w') := hS
      have HP : Hid (∀ Y : World, CallsIn Fence.wide 4 Try.prog 33 #[.int .i64 n, .int .u64 W] Y fun e w' => e = .returned (.int .i64 0) ∧ Y = w') := hP
      clear hT hS hP hs2 hs1' hL
      gi_wp2_with (first | (refine ⟨trivial, ?_⟩; gi_at_call 29; refine hm.mono ?_; clear hm; rintro e y1 ⟨rfl, rfl⟩) | (refine ⟨trivial, ?_⟩; gi_at_call 30; refine ((callsIn_wide (n := 4)).2 (awakeO_any _)).mono ?_; rintro e y1 ⟨rfl, hy1⟩; have hc1 : y1.cell? ⟨w1.heap.size + 1 + 1, 0, none⟩ = some (.slice A2 0 cap2) := (hy1.cell (p := ⟨w1.heap.size + 2, 0, none⟩) hlb).trans hc; have hK1 := (hy1.block D hDl).trans hK; have hbY := hbX.trans (hy1.mono hbX.size)) | (refine ⟨trivial, ?_⟩; gi_at_call 31; refine (HT.out _).mono ?_; rintro e y2 ⟨rfl, rfl⟩) | (refine ⟨trivial, ?_⟩; gi_at_call 32; refine (HS.out _).mono ?_; rintro e y2 ⟨rfl, rfl⟩) | (refine ⟨trivial, ?_⟩; gi_at_call 33; refine (HP.out _).mono ?_; rintro e y2 ⟨rfl, rfl⟩))
      refine ⟨by simp, .inl ⟨_, _, rfl, run_takeDeferred hK1, ?_⟩⟩
      exact ⟨_, results_tmp rfl _ _ _, rfl, hbY.trans (belowK_b (w := w) (Nat.le_refl _) y1 D _ _ (by have := hb1.size; simp at hD; omega) hK1 rfl rfl)⟩
  case stop =>
    rintro D c pre X _ _ h _
    exact h.elim
end Go.Proofs.Ytmjonifiohcobaa
