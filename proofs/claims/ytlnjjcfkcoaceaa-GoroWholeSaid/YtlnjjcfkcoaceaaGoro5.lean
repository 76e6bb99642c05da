/- Arenas: the page's example, and the walk of GoroMakes. -/
import Derived.Test.YtlnjjcfkcoaceaaGoro4
namespace Go.Proofs.Ytlnjjcfkcoaceaa
open Go Go.RowKit
set_option linter.unusedVariables false
set_option maxRecDepth 100000
set_option linter.unusedSimpArgs false


def ex10 : Nat → Int
  | 0 => 9
  | _ => 3
theorem sees_two (w : World) : SeesU (w.alloc (.cells #[.int .u64 9, .int .u64 3] 34)) (w.alloc (.cells #[.int .u64 9, .int .u64 3] 34)).heap.size (some ⟨w.heap.size, 0, none⟩) 2 ex10 := fun _ => by
  have hh := Blk.new w #[.int .u64 9, .int .u64 3] 34
  refine ⟨w.heap.size, 0, rfl, hh.lt, fun i hi => ?_⟩
  rcases (by omega : i = 0 ∨ i = 1) with rfl | rfl
  · exact hh.cell 0 rfl
  · exact hh.cell 1 rfl
theorem ex10_segs : segs ex10 2 = [(0, 2)] := by decide
theorem ex10_bd : ∀ i, i < 2 → 0 ≤ ex10 i ∧ ex10 i ≤ 18446744073709551615 := fun i hi => by
  rcases (by omega : i = 0 ∨ i = 1) with rfl | rfl <;> decide

/-- What the code at c answers. -/
theorem at_code (w : World) (c gg : Nat) (f : Nat → Int) (L : List (Nat × Nat)) (hC : IsCode w c gg f L) (p i : Nat) (s l : Nat) (hx : L[p]? = some (s, l)) : ∀ Y, Below w.heap.size w Y → Calls Try.prog 102 #[.pointer (some ⟨c, 0, none⟩), .int .i64 p, .int .i64 i] Y fun e w' => e = .returned (.agg #[.int .i64 (if i < l then kd (f (s + i)) else 0), .int .i64 (if i < l then ag (f (s + i)) (L.length : Nat) else 0)]) ∧ Below Y.heap.size Y w' := fun Y hY => by
  by_cases hi : i < l
  · rw [if_pos hi, if_pos hi]
    exact at_ok c gg f L p i (s, l) Y (hC.below hY) hx hi
  · rw [if_neg hi, if_neg hi]
    exact at_far c gg f L p (s, l) i Y (hC.below hY) hx (.inr (by show (l : Int) ≤ i; omega))

set_option maxHeartbeats 1000000 in
theorem goro_awake (w : World) : Calls Try.prog 38 #[] w fun e w' => e = .returned (.bool true) ∧ Below w.heap.size w w' := by
  have heq := eq_instr
  have hfk := field_k
  have hb0 : Below w.heap.size w (w.alloc (.cells #[.int .u64 9, .int .u64 3] 34)) := (Below.refl _ _).alloc (Nat.le_refl _) _
  have hR := read_few _ 2 2 ex10 _ (by omega) (by omega) (by omega) (sees_two w) ex10_bd
  rw [ex10_segs] at hR
  go_enter Try.func38, Try.ntmps38
  go_wp2_with fail
  generalize w.alloc (.cells #[.int .u64 9, .int .u64 3] 34) = W at *
  go_at_call 39; refine hR.mono ?_; rintro e w1 ⟨c, gg, rfl, hC, h1⟩
  have hb1 : Below w.heap.size w w1 := hb0.trans (h1.mono hb0.size)
  have hclt := block_lt hC.main
  have hN := gnew_ok c 1 w1 (by omega) hclt
  have HAt : Hid (∀ i, ∀ Y, Below w1.heap.size w1 Y → _) := fun i => at_code w1 c gg ex10 _ hC 0 i 0 2 rfl
  have HC : Hid (IsCode w1 c gg ex10 [(0, 2)]) := hC
  clear hR hC h1 hb0 hclt
  go_wp2_with fail
  go_at_call 40; refine hN.mono ?_; rintro e w2 ⟨x, g, rfl, hA, hb2, hx2, hg2⟩
  have HB2 : Hid (Below w1.heap.size w1 w2) := hb2
  have HBe : Hid (∀ Y, Below w1.heap.size w1 Y → Below w.heap.size w Y) := fun Y hY => hb1.trans (hY.mono hb1.size)
  have HG : Hid (∀ X Y, Below w1.heap.size w1 X → But [g] X Y → Below w1.heap.size w1 Y) := fun X Y hX hY => hX.trans (hY.below (by simpa using hg2) hX.size)
  have hBg := gbegin_ok w2 x g c 1 _ hA gg ex10 _ (HC.out.below hb2) 0 (by omega) (by omega) 0 (by decide) (by decide)
  clear hN hA hb2 HC hx2 hg2
  go_wp2_with fail
  go_at_call 42; refine hBg.mono ?_; rintro e w3 ⟨rfl, hA3, hB3⟩
  have HB3 : Hid (Below w1.heap.size w1 w3) := HG.out _ _ HB2.out hB3
  have s1 := gstep_on w3 x g c 1 _ hA3 0 (by omega) (by omega) (by decide) 1 2 (fun Y hY => HAt.out 0 Y (HB3.out.trans (hY.mono HB3.out.size))) (fun _ => by omega) (by decide)
  rw [upP_at, upP_upP] at s1
  clear hBg hA3 hB3 HB2
  go_wp2_with fail
  go_at_call 44; refine s1.mono ?_; rintro e w4 ⟨rfl, hA4, hB4⟩
  have HB4 : Hid (Below w1.heap.size w1 w4) := HG.out _ _ HB3.out hB4
  have s2 := gstep_on w4 x g c 1 _ hA4 0 (by omega) (by omega) (by decide) 1 2 (fun Y hY => HAt.out 0 Y (HB4.out.trans (hY.mono HB4.out.size))) (fun _ => by omega) (by decide)
  rw [upP_at, upP_upP] at s2
  clear s1 hA4 hB4 HB3
  go_wp2_with fail
  go_at_call 44; refine s2.mono ?_; rintro e w5 ⟨rfl, hA5, hB5⟩
  have HB5 : Hid (Below w1.heap.size w1 w5) := HG.out _ _ HB4.out hB5
  have s3 := gstep_on w5 x g c 1 _ hA5 0 (by omega) (by omega) (by decide) 3 0 (fun Y hY => HAt.out 1 Y (HB5.out.trans (hY.mono HB5.out.size))) (fun h => by omega) (by decide)
  rw [upP_at, upP_upP] at s3
  clear s2 hA5 hB5 HB4
  go_wp2_with fail
  go_at_call 44; refine s3.mono ?_; rintro e w6 ⟨rfl, hA6, hB6⟩
  have HB6 : Hid (Below w1.heap.size w1 w6) := HG.out _ _ HB5.out hB6
  have HA6 : Hid (Ar w6 x g c 1 (upP (fun _ => pl0) 0 ⟨0, 2, 0, 1⟩)) := hA6
  clear s3 hA6 hB6 HB5
  have hbz : Below w6.heap.size w6 (((w6.alloc (.cells #[.int .i64 1, .int .i64 2] 90)).alloc (.cells #[.int .i64 1, .int .i64 2] 90)).alloc (.cells #[.int .i64 3, .int .i64 0] 90)) := (((Below.refl _ _).alloc (Nat.le_refl _) _).alloc (by simp) _).alloc (by simp; omega) _
  have z1 : Blk (((w6.alloc (.cells #[.int .i64 1, .int .i64 2] 90)).alloc (.cells #[.int .i64 1, .int .i64 2] 90)).alloc (.cells #[.int .i64 3, .int .i64 0] 90)) w6.heap.size #[.int .i64 1, .int .i64 2] 90 := ((Blk.new w6 #[.int .i64 1, .int .i64 2] 90).keep (heap_al _ (by simp) _)).keep (heap_al _ (by simp; omega) _)
  have z2 : Blk (((w6.alloc (.cells #[.int .i64 1, .int .i64 2] 90)).alloc (.cells #[.int .i64 1, .int .i64 2] 90)).alloc (.cells #[.int .i64 3, .int .i64 0] 90)) (w6.heap.size + 1) #[.int .i64 1, .int .i64 2] 90 := by
    have := (Blk.new (w6.alloc (.cells #[.int .i64 1, .int .i64 2] 90)) #[.int .i64 1, .int .i64 2] 90)
    rw [World.size_alloc] at this
    exact this.keep (heap_al _ (by simp) _)
  have z3 : Blk (((w6.alloc (.cells #[.int .i64 1, .int .i64 2] 90)).alloc (.cells #[.int .i64 1, .int .i64 2] 90)).alloc (.cells #[.int .i64 3, .int .i64 0] 90)) (w6.heap.size + 1 + 1) #[.int .i64 3, .int .i64 0] 90 := by
    have := (Blk.new ((w6.alloc (.cells #[.int .i64 1, .int .i64 2] 90)).alloc (.cells #[.int .i64 1, .int .i64 2] 90)) #[.int .i64 3, .int .i64 0] 90)
    rwa [World.size_alloc, World.size_alloc] at this
  have u0 := z1.cell 0 (v := .int .i64 1) rfl
  have u1 := z1.cell 1 (v := .int .i64 2) rfl
  have u2 := z2.cell 0 (v := .int .i64 1) rfl
  have u3 := z2.cell 1 (v := .int .i64 2) rfl
  have u4 := z3.cell 0 (v := .int .i64 3) rfl
  have u5 := z3.cell 1 (v := .int .i64 0) rfl
  have HB7 := HB6.out.trans (hbz.mono HB6.out.size)
  have nw := gnow_on _ x g c 1 _ (HA6.out.below hbz) 0 (by omega) (by omega) (by decide) 0 0 (fun Y hY => HAt.out 2 Y (HB7.trans (hY.mono HB7.size)))
  have HB8 : Hid (Below w1.heap.size w1 _) := HB7
  clear z1 z2 z3 hbz HB7 HA6
  go_wp2_with fail
  go_at_call 43; refine nw.mono ?_; rintro e w8 ⟨rfl, h8⟩
  have hfin := HBe.out _ (HB8.out.trans (h8.mono HB8.out.size))
  clear nw
  go_wp2_with fail
  go_ret
  exact ⟨rfl, hfin⟩

end Go.Proofs.Ytlnjjcfkcoaceaa
