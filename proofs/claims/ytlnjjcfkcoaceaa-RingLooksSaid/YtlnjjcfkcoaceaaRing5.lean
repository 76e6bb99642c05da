/- Looking at a ring: the document's own machine, and a turn and a step together. -/
import Derived.Test.YtlnjjcfkcoaceaaRing4
import Derived.Test.YtlnjjcfkcoaceaaPk
import Derived.Test.YtlnjjcfkcoaceaaRun4
namespace Go.Proofs.Ytlnjjcfkcoaceaa
open Go Go.RowKit
set_option linter.unusedVariables false
set_option maxRecDepth 100000
set_option linter.unusedSimpArgs false


theorem refproc_any (p f : Int) (w : World) (hp : 0 ≤ p ∧ p ≤ 64) (hf : 0 ≤ f ∧ f < 8) : Calls Try.prog 152 #[.int .i64 p, .int .i64 f] w fun e w' => e = .returned (.int .i64 (20 + 264 * p + f)) ∧ w = w' := by
  go_enter Try.func152, Try.ntmps152
  go_wp2_with fail
  go_ret
  exact ⟨ret_int (by first | rfl | omega | (unfold wrap64; omega)), rfl⟩
theorem refprocAt_any (P T G p f : Int) (w : World) (hp : 0 ≤ p ∧ p < P) (hP : P ≤ 64) (hf : 0 ≤ f ∧ f < 8) :
    Calls Try.prog 117 #[.agg #[.int .i64 P, .int .i64 T, .int .i64 G], .int .i64 p, .int .i64 f] w fun e w' => e = .returned (.int .i64 (wd 20 P 264 p f)) ∧ Below w.heap.size w w' := by
  have hb : Below w.heap.size w (w.alloc (.cells #[.int .i64 P, .int .i64 T, .int .i64 G] 66)) := (Below.refl _ _).alloc (Nat.le_refl _) _
  have hT := refproc_any p f (w.alloc (.cells #[.int .i64 P, .int .i64 T, .int .i64 G] 66)) (by omega) hf
  have e : 20 + 264 * p + f = wd 20 P 264 p f := by unfold wd; rw [if_pos ⟨hp.1, hp.2, by omega, by omega⟩]; omega
  rw [e] at hT
  generalize wd 20 P 264 p f = nt at *
  clear e
  have d1 : decide (p < 0) = false := decide_eq_false (by omega)
  have d2 : decide (P ≤ p) = false := decide_eq_false (by omega)
  go_enter Try.func117, Try.ntmps117
  go_wp2_with fail
  go_at_call 152; refine hT.mono ?_; rintro e w1 ⟨rfl, rfl⟩
  go_wp2_with fail
  go_ret
  exact ⟨rfl, hb⟩

/-- How far the document's routine is when m answers are there (m ≤ 4). -/
def lkRn (P p : Int) (m : Nat) : Rn := if m < 4 then ⟨m, true, 1, wd 20 P 264 p (lkF m), 0, 0, false⟩ else ⟨4, false, 0, 0, 0, 0, false⟩
def lkV (m : Nat) (g : Nat → Int) : Bool := if m < 4 then false else decide (g 3 = g 1 ∧ g 3 = g 0 ∧ g 2 = 0)

set_option maxHeartbeats 1000000 in
theorem rlook_on (w : World) (x : Nat) (A : Option Addr) (cap m : Nat) (g : Nat → Int) (h : RunOn w x A cap m g rn0) (P T G p : Int) (hp : 0 ≤ p ∧ p < P) (hP : P ≤ 64) (hm : m ≤ 4) :
    Calls Try.prog 64 #[.pointer (some ⟨x, 0, none⟩), .agg #[.int .i64 P, .int .i64 T, .int .i64 G], .int .i64 p] w fun e w' => e = .returned (.bool (lkV m g)) ∧ RunOn w' x A cap m g (lkRn P p m) ∧ But [x] w w' := by
  have hb : Below w.heap.size w (w.alloc (.cells #[.int .i64 P, .int .i64 T, .int .i64 G] 66)) := (Below.refl _ _).alloc (Nat.le_refl _) _
  have hX : Blk (w.alloc (.cells #[.int .i64 P, .int .i64 T, .int .i64 G] 66)) w.heap.size #[.int .i64 P, .int .i64 T, .int .i64 G] 66 := Blk.new _ _ _
  have H0 : Hid (RunOn (w.alloc (.cells #[.int .i64 P, .int .i64 T, .int .i64 G] 66)) x A cap m g rn0 ∧ But [x] w (w.alloc (.cells #[.int .i64 P, .int .i64 T, .int .i64 G] 66))) := ⟨h.below hb, But.of_below hb⟩
  have hxw := h.blk.lt
  have hP1 := fun w => refprocAt_any P T G p 1 w hp hP (by omega)
  have hP2 := fun w => refprocAt_any P T G p 2 w hp hP (by omega)
  have hP3 := fun w => refprocAt_any P T G p 3 w hp hP (by omega)
  have hfin : ∀ r, r = doS m (doS m (doS m (doS m rn0 1 (wd 20 P 264 p 1) 0 0) 1 (wd 20 P 264 p 2) 0 0) 1 (wd 20 P 264 p 3) 0 0) 1 (wd 20 P 264 p 2) 0 0 → r = lkRn P p m := by
    rintro r rfl
    rcases (by omega : m = 0 ∨ m = 1 ∨ m = 2 ∨ m = 3 ∨ m = 4) with rfl | rfl | rfl | rfl | rfl <;> rfl
  generalize lkRn P p m = RR at *
  generalize wd 20 P 264 p 1 = i1 at *
  generalize wd 20 P 264 p 2 = i2 at *
  generalize wd 20 P 264 p 3 = i3 at *
  clear h hb hp
  have hval : ∀ (hv tv nv av : Int) (z : Bool), hv = doV m g rn0 → tv = doV m g (doS m rn0 1 i1 0 0) → nv = doV m g (doS m (doS m rn0 1 i1 0 0) 1 i2 0 0) → av = doV m g (doS m (doS m (doS m rn0 1 i1 0 0) 1 i2 0 0) 1 i3 0 0) → z = (doS m (doS m (doS m (doS m rn0 1 i1 0 0) 1 i2 0 0) 1 i3 0 0) 1 i2 0 0).stop → (!z && decide (hv = tv) && decide (av = tv) && decide (nv = 0)) = lkV m g := by
    rintro hv tv nv av z rfl rfl rfl rfl rfl
    rcases (by omega : m = 0 ∨ m = 1 ∨ m = 2 ∨ m = 3 ∨ m = 4) with rfl | rfl | rfl | rfl | rfl
    · rfl
    · rfl
    · rfl
    · rfl
    · show (!false && decide (g 0 = g 1) && decide (g 3 = g 1) && decide (g 2 = 0)) = decide (g 3 = g 1 ∧ g 3 = g 0 ∧ g 2 = 0)
      rw [Bool.eq_iff_iff]
      simp
      constructor
      · rintro ⟨⟨a, b⟩, c⟩; exact ⟨b, by omega, c⟩
      · rintro ⟨a, b, c⟩; exact ⟨⟨by omega, a⟩, c⟩
  generalize lkV m g = zz at *
  have HFIN : Hid (∀ r : Rn, _ → _) := hfin
  have HVAL : Hid (∀ (hv tv nv av : Int) (z : Bool), _ → _) := hval
  clear hfin hval
  have hca : ∀ w', Blk w' w.heap.size #[.int .i64 P, .int .i64 T, .int .i64 G] 66 → w'.cell? ⟨w.heap.size, 0, none⟩ = some (.int .i64 P) ∧ w'.cell? ⟨w.heap.size, 1, none⟩ = some (.int .i64 T) ∧ w'.cell? ⟨w.heap.size, 2, none⟩ = some (.int .i64 G) := fun w' h => ⟨h.cell 0 rfl, h.cell 1 rfl, h.cell 2 rfl⟩
  have HX : Hid (Blk (w.alloc (.cells #[.int .i64 P, .int .i64 T, .int .i64 G] 66)) w.heap.size #[.int .i64 P, .int .i64 T, .int .i64 G] 66) := hX
  have hcs := hca _ hX
  obtain ⟨k0, k1, k2⟩ := hcs
  have HCA : Hid (∀ w', _ → _) := hca
  have hsz : w.heap.size < (w.alloc (.cells #[.int .i64 P, .int .i64 T, .int .i64 G] 66)).heap.size := hX.lt
  clear hX hca
  go_enter Try.func64, Try.ntmps64
  go_wp2_with fail
  generalize hW0 : w.alloc (.cells #[.int .i64 P, .int .i64 T, .int .i64 G] 66) = W at *
  clear hW0
  go_at_call 117; refine (hP1 W).mono ?_; rintro e y1 ⟨rfl, j1⟩
  have R1 : RunOn y1 x A cap m g rn0 := H0.out.1.below j1
  have B1 : Hid (But [x] w y1) := H0.out.2.trans (But.of_below j1)
  have X1 : Hid (Blk y1 w.heap.size #[.int .i64 P, .int .i64 T, .int .i64 G] 66) := HX.out.but (But.of_below (l := []) j1) (by simp)
  have hl1 := rload_on y1 x A cap m g rn0 R1 i1
  generalize hv : doV m g rn0 = hv0 at *
  generalize hr1 : doS m rn0 1 i1 0 0 = r1 at *
  have HV1 : Hid (doV m g rn0 = hv0 ∧ doS m rn0 1 i1 0 0 = r1) := ⟨hv, hr1⟩
  clear R1 j1 H0 HX k0 k1 k2 hv hr1
  go_wp2_with fail
  go_at_call 78; refine hl1.mono ?_; rintro e y2 ⟨rfl, hR2, hB2⟩
  have HR2 : Hid (RunOn y2 x A cap m g r1) := hR2
  have B2 : Hid (But [x] w y2) := B1.out.trans hB2
  have X2 : Hid (Blk y2 w.heap.size #[.int .i64 P, .int .i64 T, .int .i64 G] 66) := X1.out.but hB2 (by simp; omega)
  obtain ⟨k0, k1, k2⟩ := HCA.out _ X2.out
  clear hl1 hR2 hB2 X1 B1
  go_wp2_with fail
  go_at_call 117; refine (hP2 _).mono ?_; rintro e y3 ⟨rfl, j1⟩
  have R1 := HR2.out.below j1
  have C2 : Hid (But [x] w y3) := B2.out.trans (But.of_below j1)
  have Y2 : Hid (Blk y3 w.heap.size #[.int .i64 P, .int .i64 T, .int .i64 G] 66) := X2.out.but (But.of_below (l := []) j1) (by simp)
  have hl1 := rload_on y3 x A cap m g r1 R1 i2
  generalize hv : doV m g r1 = v2 at *
  generalize hr1 : doS m r1 1 i2 0 0 = r2 at *
  have HV2 : Hid (doV m g r1 = v2 ∧ doS m r1 1 i2 0 0 = r2) := ⟨hv, hr1⟩
  clear R1 j1 HR2 X2 B2 k0 k1 k2 hv hr1
  go_wp2_with fail
  go_at_call 78; refine hl1.mono ?_; rintro e y4 ⟨rfl, hR2, hB2⟩
  have HR3 : Hid (RunOn y4 x A cap m g r2) := hR2
  have B3 : Hid (But [x] w y4) := C2.out.trans hB2
  have X3 : Hid (Blk y4 w.heap.size #[.int .i64 P, .int .i64 T, .int .i64 G] 66) := Y2.out.but hB2 (by simp; omega)
  obtain ⟨k0, k1, k2⟩ := HCA.out _ X3.out
  clear hl1 hR2 hB2 Y2 C2
  go_wp2_with fail
  go_at_call 117; refine (hP3 _).mono ?_; rintro e y5 ⟨rfl, j1⟩
  have R1 := HR3.out.below j1
  have C3 : Hid (But [x] w y5) := B3.out.trans (But.of_below j1)
  have Y3 : Hid (Blk y5 w.heap.size #[.int .i64 P, .int .i64 T, .int .i64 G] 66) := X3.out.but (But.of_below (l := []) j1) (by simp)
  have hl1 := rload_on y5 x A cap m g r2 R1 i3
  generalize hv : doV m g r2 = v3 at *
  generalize hr1 : doS m r2 1 i3 0 0 = r3 at *
  have HV3 : Hid (doV m g r2 = v3 ∧ doS m r2 1 i3 0 0 = r3) := ⟨hv, hr1⟩
  clear R1 j1 HR3 X3 B3 k0 k1 k2 hv hr1
  go_wp2_with fail
  go_at_call 78; refine hl1.mono ?_; rintro e y6 ⟨rfl, hR2, hB2⟩
  have HR4 : Hid (RunOn y6 x A cap m g r3) := hR2
  have B4 : Hid (But [x] w y6) := C3.out.trans hB2
  have X4 : Hid (Blk y6 w.heap.size #[.int .i64 P, .int .i64 T, .int .i64 G] 66) := Y3.out.but hB2 (by simp; omega)
  obtain ⟨k0, k1, k2⟩ := HCA.out _ X4.out
  clear hl1 hR2 hB2 Y3 C3
  go_wp2_with fail
  go_at_call 117; refine (hP2 _).mono ?_; rintro e y7 ⟨rfl, j1⟩
  have R1 := HR4.out.below j1
  have C4 : Hid (But [x] w y7) := B4.out.trans (But.of_below j1)
  have Y4 : Hid (Blk y7 w.heap.size #[.int .i64 P, .int .i64 T, .int .i64 G] 66) := X4.out.but (But.of_below (l := []) j1) (by simp)
  have hl1 := rload_on y7 x A cap m g r3 R1 i2
  generalize hv : doV m g r3 = v4 at *
  generalize hr1 : doS m r3 1 i2 0 0 = r4 at *
  have HV4 : Hid (doV m g r3 = v4 ∧ doS m r3 1 i2 0 0 = r4) := ⟨hv, hr1⟩
  clear R1 j1 HR4 X4 B4 k0 k1 k2 hv hr1
  go_wp2_with fail
  go_at_call 78; refine hl1.mono ?_; rintro e y8 ⟨rfl, hR2, hB2⟩
  have HR5 : RunOn y8 x A cap m g r4 := hR2
  have B5 := C4.out.trans hB2
  have s2 := HR5.blk.cell 2 (v := .bool r4.stop) rfl
  have hz2 := HVAL.out hv0 v2 v3 v4 _ rfl rfl rfl rfl rfl
  have hf := HFIN.out r4 rfl
  have HE : Hid (RunOn y8 x A cap m g RR ∧ But [x] w y8) := ⟨by rw [← hf]; exact HR5, B5⟩
  have HZ : Hid (∀ z, z = (!r4.stop && decide (hv0 = v2) && decide (v4 = v2) && decide (v3 = 0)) → z = zz) := fun z h => by rw [h]; exact hz2
  clear hl1 hR2 hB2 hf hz2 HR5 B5 HFIN HVAL HV1 HV2 HV3 HV4 Y4 C4 hP1 hP2 hP3
  cases hst : r4.stop
  · rw [hst] at s2
    have HZ2 : Hid (∀ z, z = (decide (hv0 = v2) && decide (v4 = v2) && decide (v3 = 0)) → z = zz) := fun z h => HZ.out z (by rw [h, hst]; simp)
    clear HZ hst
    go_wp2_with fail
    all_goals
      go_ret
      refine ⟨?_, HE.out⟩
      refine congrArg (fun z => Ending.returned (Value.bool z)) ?_
      apply HZ2.out
      rw [Bool.eq_iff_iff]
      simp [*]
  · rw [hst] at s2
    obtain rfl : zz = false := (HZ.out false (by rw [hst]; simp)).symm
    clear HZ hst
    go_wp2_with fail
    go_ret
    exact ⟨rfl, HE.out⟩

end Go.Proofs.Ytlnjjcfkcoaceaa
