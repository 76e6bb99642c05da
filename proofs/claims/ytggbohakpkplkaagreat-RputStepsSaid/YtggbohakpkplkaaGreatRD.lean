/- The document's routine that puts into a ring: its words, and its states. -/
import Derived.Test.YtggbohakpkplkaaGreatRC
import Derived.Test.YtggbohakpkplkaaGreatLock2
import Derived.Test.YtggbohakpkplkaaGreatRA
import Derived.Test.YtggbohakpkplkaaGreatRun_qput
import Derived.Test.YtggbohakpkplkaaGreatRun_rel
import Derived.Test.YtggbohakpkplkaaGreatRun_acq
import Derived.Test.YtggbohakpkplkaaGreatInts
import Derived.Deep.RegionHeldLaw
import Derived.Deep.RegionLawGrows
import Derived.Maps.AppendAt
import Derived.OwnWalk
namespace Go.Proofs.YtggbohakpkplkaaGreat
open Go Go.RowKit
set_option linter.unusedVariables false
set_option maxRecDepth 100000
set_option linter.unusedSimpArgs false

section
variable (w : World) (x cl : Nat) (who p g nt hd tl : Int) (has : Bool) (gv : List Int) (ld : Int)
set_option maxHeartbeats 2000000 in
theorem rp_move (y : Nat) (nx : Option Addr) (a : Addr) (hB : Blk w x (rpCells who nx cl p g has nt hd tl (rpRest gv ld (some ⟨y, 0, none⟩))) 110) (hg : gv.length = 128) (hyx : y ≠ x) (hny : w.cell? ⟨y, 1, none⟩ = some (.pointer (some a))) :
    Calls Tryz.prog 192 #[.pointer (some ⟨x, 0, none⟩)] w fun e w' => (∃ v, e = .returned v) ∧ ∃ q b, CameBox w w' x (rpCells who nx cl p g has nt hd tl (rpRest gv ld (some ⟨y, 0, none⟩))) 110 (fun v => comCells 0 0 0 0 0 false (.iface 108 (.pointer (some ⟨y, 0, none⟩))) v false false) (.func (.func 202) #[.pointer (some ⟨x, 0, none⟩)] #[]) q b := by
  have c138 := hB.cell 138 (rp_c138 hg)
  have hf := frun_qput w.drew x y _ 110 (.func (.func 202) #[.pointer (some ⟨x, 0, none⟩)] #[]) a hB.drew rp_size (.some _ _ _) hyx hny
  have HU : Hid (But [x] w w.drew) := (But.refl [x] w).drew
  clear hB hny
  go_enter Tryz.func192, Tryz.ntmps192
  go_wp2_with fail
  go_region_with (first | (go_at_call 74; refine hf.mono ?_; rintro e w6 ⟨⟨v, rfl⟩, q, b, hC⟩))
  all_goals
    have HZ : Hid (CameBox w w6 x _ 110 _ _ q b) := hC.before HU.out
    clear hf hC c138 HU
    go_wp2_with fail
    go_end0
    exact ⟨⟨_, rfl⟩, q, b, HZ.out⟩
set_option maxHeartbeats 2000000 in
theorem rp_release (nx qu : Option Addr) (hB : Blk w x (rpCells who nx cl p g has nt hd tl (rpRest gv ld qu)) 110) (hg : gv.length = 128) :
    Calls Tryz.prog 202 #[.pointer (some ⟨x, 0, none⟩)] w fun e w' => (∃ v, e = .returned v) ∧ ∃ x2 q2 g2 q b, CameBox w w' x (rpCells who nx cl p g has nt hd tl (rpRest gv ld qu)) 110 (fun v => comCells 0 0 0 0 0 false (.iface 205 (.pointer (some ⟨x2, 0, none⟩))) v false false) .nilFunc q b ∧ RelM w' x2 q2 g2 who (wd 0 2 3 0 1) (wd 0 2 3 0 2) ∧ w.heap.size ≤ x2 ∧ q2 < q ∧ q2 < b ∧ g2 < q ∧ g2 < b := by
  have hlt := hB.lt
  have c2 := hB.cell 2 rp_c2
  have hO := who_any w.drew x who (hB.drew.cell 0 rp_c0)
  have hR := rel_new w.drew cl 0 who
  generalize wd 0 2 3 0 1 = sv at *
  generalize wd 0 2 3 0 2 = ow at *
  have HH : Hid (Blk w x (rpCells who nx cl p g has nt hd tl (rpRest gv ld qu)) 110) := hB
  clear hB hg
  go_enter Tryz.func202, Tryz.ntmps202
  go_wp2_with fail
  go_region_with (first | (go_at_call 152; refine hO.mono ?_; rintro e w3 ⟨rfl, rfl⟩) | (go_at_call 151; refine hR.mono ?_; rintro e w4 ⟨x2, q2, g2, rfl, k1, k2, k3, k4, k5, k6, k7, k8, k9⟩; have hB4 : But [x] w w4 := ((But.refl [x] w).drew).trans (But.of_below k4); have hf := frun_rel w4 x x2 _ 110 .nilFunc ⟨q2, 0, none⟩ (HH.out.but (But.of_below (l := []) (show Below w.heap.size w w4 from (Below.refl _ _).drew.trans k4)) (by simp)) rp_size .none (by have : w.heap.size ≤ x2 := k5; omega) (k1.cell 1 rfl)) | (go_at_call 74; refine hf.mono ?_; rintro e w5 ⟨⟨v, rfl⟩, q, b, hC⟩))
  all_goals
    have k5' : w.heap.size ≤ x2 := k5
    have hM : RelM w4 x2 q2 g2 who sv ow := ⟨k1, k2, k3, k7, k8, k9⟩
    have hM5 := hM.but hC.at'.but (by omega)
    have hq2 := hM.com.lt
    have hg2 := hM.box.lt
    have hC5 := hC.before hB4
    have f1 := hC.at'.fresh
    have f2 := hC.fresh
    clear hO hR c2 hf k1 k2 k3 k4 k5 k6 k7 k8 k9 hC hB4 hM HH
    go_wp2_with fail
    go_end0
    exact ⟨⟨_, rfl⟩, x2, q2, g2, q, b, hC5, hM5, k5', by omega, by omega, by omega, by omega⟩
end
end Go.Proofs.YtggbohakpkplkaaGreat

namespace Go.Proofs.YtggbohakpkplkaaGreat
open Go Go.RowKit Go.Maps
set_option linter.unusedVariables false
set_option maxRecDepth 100000
set_option linter.unusedSimpArgs false

/-- What take leaves: the queue's machine, and the lock's, which is run. -/
def RpTook (w : World) (x cl : Nat) (who p g nt hd tl : Int) (has : Bool) (gv : List Int) (ld : Int) (nx : Option Addr) (QP : World → Nat → List Nat → Prop) (e : Ending) (w' : World) : Prop := (∃ v, e = .returned v) ∧ ∃ (y : Nat) (L : List Nat) (x2 q2 q b : Nat), CameBox w w' x (rpCells who nx cl p g has nt hd tl (rpRest gv ld (some ⟨y, 0, none⟩))) 110 (fun v => comCells 0 0 0 0 0 false (.iface 207 (.pointer (some ⟨x2, 0, none⟩))) v false false) (.func (.func 192) #[.pointer (some ⟨x, 0, none⟩)] #[]) q b ∧ QP w' y L ∧ AcqM w' x2 q2 who (wd 0 2 3 0 0) (wd 0 2 3 0 1) (wd 0 2 3 0 2) ∧ (∀ k ∈ L, w.heap.size ≤ k ∧ k < x2) ∧ w.heap.size ≤ x2 ∧ q2 < q ∧ q2 < b ∧ w.heap.size ≤ y
set_option maxHeartbeats 4000000 in
theorem rp_take_yes (w : World) (x cl : Nat) (who p g P T G nt hd tl : Int) (has : Bool) (gv : List Int) (ld : Int) (qu nx : Option Addr) (QP : World → Nat → List Nat → Prop)
    (hB : Blk w x (rpCells who nx cl p g has nt hd tl (rpRest gv ld qu)) 110) (hg : gv.length = 128) (hl : Lay w cl P T G) (hxc : cl ≠ x)
    (hK : ∀ (a b : World) (y : Nat) (L : List Nat), QP a y L → But [x] a b → x ∉ L → QP b y L)
    (hN : ∀ (Y : World) (v : Value), Lay Y cl P T G → SeesL Y v (gv ++ [g]) → Calls Tryz.prog 191 #[.pointer (some ⟨cl, 0, none⟩), .int .i64 who, v] Y fun e w' => ∃ y L, e = .returned (.pointer (some ⟨y, 0, none⟩)) ∧ QP w' y L ∧ Below Y.heap.size Y w' ∧ (∀ k ∈ L, Y.heap.size ≤ k) ∧ (∀ k ∈ L, k < w'.heap.size) ∧ Y.heap.size ≤ y) :
    Calls Tryz.prog 177 #[.pointer (some ⟨x, 0, none⟩), .bool true] w fun e w' => RpTook w x cl who p g nt hd tl has gv ld nx QP e w' := by
  obtain ⟨i3, hi3, hz03, hz13, hz23⟩ := info_parts lists_info3
  have hlt := hB.lt
  have hO := who_any w x who (hB.cell 0 rp_c0)
  have c2 := hB.cell 2 rp_c2
  have c4 := hB.cell 4 rp_c4
  have HGV : Hid (∀ X, Blk X x (rpCells who nx cl p g has nt hd tl (rpRest gv ld qu)) 110 → ∀ j u, (gv.map (Value.int .i64))[j]? = some u → X.cell? ((⟨x, 9, none⟩ : Addr).add j) = some u) := fun X hX j u hu => by
    rw [List.getElem?_map] at hu
    by_cases hj : j < 128
    · rw [List.getElem?_eq_getElem (by omega)] at hu
      have h1 := hX.cell (9 + j) (rp_given hg j hj)
      rw [List.getD_eq_getElem?_getD, List.getElem?_eq_getElem (by omega)] at h1
      simp at hu
      rw [← hu]
      by_cases h0 : j = 0
      · subst h0; simpa [Addr.add] using h1
      · simpa [Addr.add, h0] using h1
    · rw [List.getElem?_eq_none (by omega)] at hu
      cases hu
  have HH : Hid (Blk w.drew x (rpCells who nx cl p g has nt hd tl (rpRest gv ld qu)) 110 ∧ Lay w.drew cl P T G) := ⟨hB.drew, hl.below ((Below.refl _ _).drew) hl.lt⟩
  have hA : Hid (Blk (w.drew.alloc (.cells #[.int .i64 g] 3)) x (rpCells who nx cl p g has nt hd tl (rpRest gv ld qu)) 110) := HH.out.1.al _
  clear hB hl
  go_enter Tryz.func177, Tryz.ntmps177
  go_wp2_with fail
  go_at_call 152; refine hO.mono ?_; rintro e w3 ⟨rfl, rfl⟩
  clear hO
  go_wp2_with fail
  have hH : Hid (w.drew.cell? ⟨x, 2, none⟩ = some (.pointer (some ⟨cl, 0, none⟩)) ∧ w.drew.cell? ⟨x, 4, none⟩ = some (.int .i64 g)) := ⟨HH.out.1.cell 2 rp_c2, HH.out.1.cell 4 rp_c4⟩
  have hHA : Hid ((w.drew.alloc (.cells #[.int .i64 g] 3)).cell? ⟨x, 2, none⟩ = some (.pointer (some ⟨cl, 0, none⟩)) ∧ (w.drew.alloc (.cells #[.int .i64 g] 3)).cell? ⟨x, 4, none⟩ = some (.int .i64 g)) := ⟨hA.out.cell 2 rp_c2, hA.out.cell 4 rp_c4⟩
  have HL1 : Hid (Lay (w.drew.alloc (.cells #[.int .i64 g] 3)) cl P T G) := HH.out.2.below ((Below.refl _ _).alloc (Nat.le_refl _) _) HH.out.2.lt
  have HNN : Hid (∀ (Y : World) (v : Value), Lay Y cl P T G → SeesL Y v (gv ++ [g]) → Calls Tryz.prog 191 #[.pointer (some ⟨cl, 0, none⟩), .int .i64 who, v] Y fun e w' => ∃ y L, e = .returned (.pointer (some ⟨y, 0, none⟩)) ∧ QP w' y L ∧ Below Y.heap.size Y w' ∧ (∀ k ∈ L, Y.heap.size ≤ k) ∧ (∀ k ∈ L, k < w'.heap.size) ∧ Y.heap.size ≤ y) := hN
  have HSN : Hid (∀ X : World, Blk X x (rpCells who nx cl p g has nt hd tl (rpRest gv ld qu)) 110 → X.cell? ⟨x, 2, none⟩ = some (.pointer (some ⟨cl, 0, none⟩)) ∧ X.cell? ⟨x, 4, none⟩ = some (.int .i64 g)) := fun X h => ⟨h.cell 2 rp_c2, h.cell 4 rp_c4⟩
  have HST : Hid (∀ (X : World) (u : Value), Blk X x (rpCells who nx cl p g has nt hd tl (rpRest gv ld qu)) 110 → (X.setCell ⟨x, 138, none⟩ u).cell? ⟨x, 2, none⟩ = some (.pointer (some ⟨cl, 0, none⟩)) ∧ (X.setCell ⟨x, 138, none⟩ u).cell? ⟨x, 4, none⟩ = some (.int .i64 g)) := fun X u h => by
    have h2 := h.set 138 u
    refine ⟨h2.cell 2 ?_, h2.cell 4 ?_⟩
    · rw [Array.getElem?_setIfInBounds_ne (by decide)]; exact rp_c2
    · rw [Array.getElem?_setIfInBounds_ne (by decide)]; exact rp_c4
  have HGR : Hid (∀ (w1 : World) (v' : Value), w1.ownsRow (w.drew.alloc (.cells #[.int .i64 g] 3)).heap.size 3 1 v' 129 (gv.map (Value.int .i64) ++ [.int .i64 g]) → (w.drew.alloc (.cells #[.int .i64 g] 3)).grownBy w1 none → Blk w1 x (rpCells who nx cl p g has nt hd tl (rpRest gv ld qu)) 110 ∧ Lay w1 cl P T G ∧ SeesL w1 v' (gv ++ [g]) ∧ But [x] w w1) := fun w1 v' hown hgrow => by
    have hb1 : Below (w.drew.alloc (.cells #[.int .i64 g] 3)).heap.size (w.drew.alloc (.cells #[.int .i64 g] 3)) w1 := (Below.refl _ _).grown hgrow (Nat.le_refl _) (fun k h => by cases h)
    refine ⟨hA.out.but (But.of_below (l := []) hb1) (by simp), HL1.out.below hb1 HL1.out.lt, IntsOn.sees (base := (w.drew.alloc (.cells #[.int .i64 g] 3)).heap.size) ⟨by rw [List.map_append, List.length_append, hg]; exact hown⟩, ((But.refl [x] w).drew.alloc _).trans (But.of_below hb1)⟩
  clear c2 c4 hN
  go_region_held_law (fun X => X.cell? ⟨x, 2, none⟩ = some (.pointer (some ⟨cl, 0, none⟩)) ∧ X.cell? ⟨x, 4, none⟩ = some (.int .i64 g)) (first | exact hH.out | exact hHA.out | exact HST.out _ _ ‹_› | assumption) (first | (refine step_append_grows rfl (.tmp 22) (.tmp 27) 49 rfl 3 i3 (.int .i64 0) 1 8 Tryz.underlying49 hi3 hz03 hz13 hz23 rfl (by decide) (some ⟨x, 9, none⟩) 128 128 (gv.map (Value.int .i64)) (by rfl) (fun h => by cases h) (by simp [hg]) (fun b e => by cases e; exact HGV.out _ hA.out) ⟨w.drew.heap.size, 0, none⟩ 1 1 [.int .i64 g] (by rfl) (by rfl) (cell_one_new _ _ _) (ints_oneCell .i64 [g]) (by omega) (by unfold maxLen; omega) (by omega) ?_; intro v' w1 hown hgrow; obtain ⟨hb1, hl1, hs1, hu1⟩ := HGR.out w1 v' hown hgrow; have q1 := HSN.out w1 hb1) | (go_at_call 191; refine (HNN.out _ _ hl1 hs1).mono ?_; rintro e w2 ⟨y, L, rfl, y1, y2, y3, y4, y5⟩; have hb2 := hb1.but (But.of_below (l := []) y2) (by simp); have q2 := HSN.out w2 hb2; have s138 := hb2.cell 138 (rp_c138 hg); have t138 := hb2.fro 138; have u138 := hb2.lt))
  all_goals
    have h5 : Blk (w2.setCell ⟨x, 138, none⟩ (.pointer (some ⟨y, 0, none⟩))) x (rpCells who nx cl p g has nt hd tl (rpRest gv ld (some ⟨y, 0, none⟩))) 110 := by
      have h4 := hb2.set 138 (.pointer (some ⟨y, 0, none⟩))
      rw [rp_s138 hg] at h4
      exact h4
    have hs1w : w.heap.size ≤ w1.heap.size := hu1.size
    have hxL : x ∉ L := fun hm => absurd (y3 x hm) (by omega)
    have hq5 : QP (w2.setCell ⟨x, 138, none⟩ (.pointer (some ⟨y, 0, none⟩))) y L := hK _ _ _ _ y1 ((But.refl [x] w2).set (g := x) (.inl (by simp)) 138 _) hxL
    have hB5 : But [x] w (w2.setCell ⟨x, 138, none⟩ (.pointer (some ⟨y, 0, none⟩))) := (hu1.trans (But.of_below y2)).set (g := x) (.inl (by simp)) 138 _
    have hL5 : Hid ((∀ k ∈ L, w.heap.size ≤ k ∧ k < (w2.setCell ⟨x, 138, none⟩ (.pointer (some ⟨y, 0, none⟩))).heap.size) ∧ w.heap.size ≤ y ∧ x ∉ L) := ⟨fun k hk => ⟨Nat.le_trans hs1w (y3 k hk), by rw [size_set]; exact y4 k hk⟩, Nat.le_trans hs1w y5, hxL⟩
    generalize w2.setCell ⟨x, 138, none⟩ (.pointer (some ⟨y, 0, none⟩)) = V at *
    have H5 : Hid (Blk V x (rpCells who nx cl p g has nt hd tl (rpRest gv ld (some ⟨y, 0, none⟩))) 110 ∧ QP V y L ∧ But [x] w V) := ⟨h5, hq5, hB5⟩
    have c2 := h5.cell 2 rp_c2
    have hszV := hB5.size
    clear h5 hq5 hB5 q1 q2 s138 t138 u138 hb1 hl1 hs1 hb2 y1 y2 y3 y4 y5 hown hgrow HGR HST HSN HNN HL1 hHA hH hA HH HGV hu1 hxL hs1w
    have hR := fun w => lock_new w cl 0 who
    have hR := hR V.drew
    go_wp2_with fail
    go_region_with (first | (go_at_call 155; refine hR.mono ?_; rintro e w4 ⟨x2, q2, rfl, k1, k2, k4, k5, k6, k7⟩; have hB4 : But [x] w w4 := H5.out.2.2.trans (((But.refl [x] V).drew).trans (But.of_below k4)); have hf := frun_acq w4 x x2 _ 110 (.func (.func 192) #[.pointer (some ⟨x, 0, none⟩)] #[]) ⟨q2, 0, none⟩ (H5.out.1.but (But.of_below (l := []) (show Below V.heap.size V w4 from (Below.refl _ _).drew.trans k4)) (by simp)) rp_size (.some _ _ _) (by have : V.heap.size ≤ x2 := k5; omega) (k1.cell 1 rfl)) | (go_at_call 74; refine hf.mono ?_; rintro e w5 ⟨⟨v, rfl⟩, q, b, hC⟩))
    all_goals
      have k5' : V.heap.size ≤ x2 := k5
      have hM : AcqM w4 x2 q2 who (wd 0 2 3 0 0) (wd 0 2 3 0 1) (wd 0 2 3 0 2) := ⟨k1, k2, k7⟩
      have hM5 := hM.but hC.at'.but (by omega)
      have hq2 := hM.com.lt
      have hC5 := hC.before hB4
      have f1 := hC.at'.fresh
      have f2 := hC.fresh
      have hq9 : QP w5 y L := hK _ _ _ _ H5.out.2.1 ((But.of_below (show Below V.heap.size V w4 from (Below.refl _ _).drew.trans k4)).trans hC.at'.but) hL5.out.2.2
      have HZ : Hid (RpTook w x cl who p g nt hd tl has gv ld nx QP (.returned v) w5) := ⟨⟨_, rfl⟩, y, L, x2, q2, q, b, hC5, hq9, hM5, fun k hk => ⟨(hL5.out.1 k hk).1, Nat.lt_of_lt_of_le (hL5.out.1 k hk).2 k5'⟩, Nat.le_trans hszV k5', by omega, by omega, hL5.out.2.1⟩
      clear hR hf k1 k2 k4 k5 k6 k7 hC hB4 hM H5 hq9 hC5 hM5 c2
      go_wp2_with fail
      go_end0
      exact ⟨⟨_, rfl⟩, HZ.out.2⟩
end Go.Proofs.YtggbohakpkplkaaGreat

namespace Go.Proofs.YtggbohakpkplkaaGreat
open Go Go.RowKit
set_option linter.unusedVariables false
set_option maxRecDepth 100000
set_option linter.unusedSimpArgs false

/-- What it has: the goroutine, whether it is in the hand, the words that were loaded, what is given, how many were loaded. -/
structure RpD where
  g : Int
  has : Bool
  nt : Int
  hd : Int
  tl : Int
  gv : List Int
  ld : Int
inductive RpT where
  | nx (d : RpD)
  | sn (d : RpD)
  | hd (d : RpD)
  | tl (d : RpD)
  | st (d : RpD)
  | ln (d : RpD)
  | gl (d : RpD) (k : Nat)
  | sh (d : RpD)
  | acq (d : RpD) (p : AcqT)
  | que (d : RpD) (q : QpT)
  | rel (d : RpD) (q : QpT) (p : RelT)
  | over (d : RpD)
def RpD.all (d : RpD) : List Int := d.gv ++ [d.g]
def RpD.take1 (d : RpD) (k : Nat) (v : Int) : RpD := { d with gv := d.gv.set k (gw v), ld := ((k + 1 : Nat) : Int) }
def rpPM (who P p : Int) (gl : Int → Int) : PM RpT where
  ax := fun
    | .nx _ => some (axLd (wd 20 P 264 p 3))
    | .sn d => some (axSw (wd 20 P 264 p 3) d.nt (rpw d.g))
    | .hd _ => some (axLd (wd 20 P 264 p 1))
    | .tl _ => some (axLd (wd 20 P 264 p 2))
    | .st d => some (axSt (wd 20 P 264 p (8 + d.tl % 256)) (rpw d.g))
    | .ln d => some (axSt (wd 20 P 264 p 2) ((d.tl + 1) % 4294967296))
    | .gl d k => some (axLd (wd 20 P 264 p (8 + IntKind.u64.wrap (d.hd + k) % 256)))
    | .sh d => some (axSw (wd 20 P 264 p 1) d.hd ((d.hd + 128) % 4294967296))
    | .acq _ q => (acqPM (wd 0 2 3 0 0) (wd 0 2 3 0 1) (wd 0 2 3 0 2) who).ax q
    | .que d q => (qpPM gl d.all).ax q
    | .rel _ _ q => (relPM (wd 0 2 3 0 1) (wd 0 2 3 0 2)).ax q
    | .over _ => none
  nx := fun
    | .nx d, v => .sn { d with nt := v }
    | .sn d, v => if v = 0 then .nx d else if d.nt = 0 then .over { d with has := false } else .hd { d with g := gw d.nt }
    | .hd d, v => .tl { d with hd := v }
    | .tl d, v => if (v - d.hd) % 4294967296 < 256 then .st { d with tl := v } else .gl { d with tl := v, ld := 0 } 0
    | .st d, _ => .ln d
    | .ln d, _ => .over { d with has := false }
    | .gl d k, v => if k + 1 < 128 then .gl (d.take1 k v) (k + 1) else .sh (d.take1 k v)
    | .sh d, v => if v = 0 then .hd d else .acq d .fresh
    | .acq d q, v => ((acqPM (wd 0 2 3 0 0) (wd 0 2 3 0 1) (wd 0 2 3 0 2) who).nx q v).goes (.acq d) (.que d (.ch 0))
    | .que d q, v => if ((qpPM gl d.all).ax ((qpPM gl d.all).nx q v)).isSome = true then .que d ((qpPM gl d.all).nx q v) else .rel d ((qpPM gl d.all).nx q v) .fresh
    | .rel d q r, v => .rel d q ((relPM (wd 0 2 3 0 1) (wd 0 2 3 0 2)).nx r v)
    | t, _ => t
def RpT.d : RpT → RpD
  | .nx d => d
  | .sn d => d
  | .hd d => d
  | .tl d => d
  | .st d => d
  | .ln d => d
  | .gl d _ => d
  | .sh d => d
  | .acq d _ => d
  | .que d _ => d
  | .rel d _ _ => d
  | .over d => d
def RpT.full : RpT → Bool
  | .acq _ _ => true
  | .que _ _ => true
  | .rel _ _ _ => true
  | _ => false
/-- What is in its hand. -/
def RpT.holds : RpT → List Int
  | .acq d _ => if d.has then d.all else []
  | .que d q => if d.has then (if q.lies then [] else d.all) else []
  | .rel d q _ => if d.has then (if q.lies then [] else d.all) else []
  | t => if t.d.has then [t.d.g] else []
def rpAt (who p : Int) (cl : Nat) (t : RpT) (es : List Nat) (nx : Option Addr) : Array Value := rpCells who nx cl p t.d.g t.d.has t.d.nt t.d.hd t.d.tl (rpRest t.d.gv t.d.ld (if t.full = true then some ⟨es.getD 0 0, 0, none⟩ else none))
def rU64 (v : Int) : Prop := 0 ≤ v ∧ v ≤ 18446744073709551615
structure RpD.Ok (d : RpD) : Prop where
  len : d.gv.length = 128
  nt : rU64 d.nt
  hd : rU64 d.hd
  tl : rU64 d.tl
def qpSub (who : Int) (gl : Int → Int) (cl : Nat) (P T G : Int) (l : List Int) : Sub := ⟨QpT, qpPM gl l, qpI who cl gl l, Rd.lay cl P T G, 108, 238⟩
def rpExt (who : Int) (gl : Int → Int) (cl : Nat) (t : RpT) (es : List Nat) (w : World) (Le : List Nat) : Prop := match t with
  | .acq d _ => d.gv.length = 128 ∧ qpI who cl gl d.all w (es.getD 0 0) (.ch 0) Le
  | .rel d q _ => d.gv.length = 128 ∧ qpI who cl gl d.all w (es.getD 0 0) q Le
  | _ => Le = []
def rpCp (who : Int) (gl : Int → Int) (P T G p : Int) (cl : Nat) : Cp RpT where
  T := 110
  cells := rpAt who p cl
  kind := fun
    | .nx _ => .acc (axLd (wd 20 P 264 p 3)) (.told 102)
    | .sn d => .acc (axSw (wd 20 P 264 p 3) d.nt (rpw d.g)) (.swap 137)
    | .hd _ => .acc (axLd (wd 20 P 264 p 1)) (.told 103)
    | .tl _ => .acc (axLd (wd 20 P 264 p 2)) (.told 138)
    | .st d => .acc (axSt (wd 20 P 264 p (8 + d.tl % 256)) (rpw d.g)) (.untold 157)
    | .ln d => .acc (axSt (wd 20 P 264 p 2) ((d.tl + 1) % 4294967296)) (.untold 176)
    | .gl d k => .acc (axLd (wd 20 P 264 p (8 + IntKind.u64.wrap (d.hd + k) % 256))) (.told 178)
    | .sh d => .acc (axSw (wd 20 P 264 p 1) d.hd ((d.hd + 128) % 4294967296)) (.swap 177)
    | .acq _ q => .run (acqSub (wd 0 2 3 0 0) (wd 0 2 3 0 1) (wd 0 2 3 0 2) who) q (.fn 192)
    | .que d q => .run (qpSub who gl cl P T G d.all) q (.fn 202)
    | .rel _ _ .over => .over
    | .rel _ _ q => .run (relSub (wd 0 2 3 0 1) (wd 0 2 3 0 2) who) q .nil
    | .over _ => .over
  ok := fun
    | .gl d k => d.Ok ∧ k < 128 ∧ d.ld = k
    | .sh d => d.Ok ∧ d.ld = 128
    | .acq d q => d.Ok ∧ q.Live
    | .que d q => d.Ok ∧ ((qpPM gl d.all).ax q).isSome = true
    | t => t.d.Ok
  ext := rpExt who gl cl
  tie := fun t es y => match t with
    | .que _ _ => es.getD 0 0 = y
    | _ => True
theorem ent_rp1 : Ent 102 := fun args w => by kernel_rfl
theorem ent_rp2 : Ent 137 := fun args w => by kernel_rfl
theorem ent_rp3 : Ent 103 := fun args w => by kernel_rfl
theorem ent_rp4 : Ent 138 := fun args w => by kernel_rfl
theorem ent_rp5 : Ent 157 := fun args w => by kernel_rfl
theorem ent_rp6 : Ent 176 := fun args w => by kernel_rfl
theorem ent_rp7 : Ent 178 := fun args w => by kernel_rfl
theorem ent_rp8 : Ent 177 := fun args w => by kernel_rfl
theorem ent_rp9 : Ent 192 := fun args w => by kernel_rfl
theorem ent_rp10 : Ent 202 := fun args w => by kernel_rfl
theorem rpw_bd (g : Int) : 0 ≤ rpw g ∧ rpw g ≤ 18446744073709551615 := by
  unfold rpw
  generalize IntKind.u64.wrap g + 1 = z
  simp [IntKind.wrap, IntKind.bits, IntKind.signed]
  omega
theorem rp_acq_live {tk sv ow who v : Int} (p : AcqT) (h : ((acqPM tk sv ow who).ax ((acqPM tk sv ow who).nx p v)).isSome = true) : ((acqPM tk sv ow who).nx p v).Live := by
  cases hp : (acqPM tk sv ow who).nx p v with
  | over t => rw [hp] at h; cases h
  | fresh => trivial
  | wait t => trivial
  | has t => trivial
theorem rp_acq_goes {σ : Type} {f : AcqT → σ} {e : σ} : ∀ (p : AcqT), p.Live → p.goes f e = f p
  | .fresh, _ => rfl
  | .wait _, _ => rfl
  | .has _, _ => rfl
theorem rp_acq_over {σ : Type} {f : AcqT → σ} {e : σ} {tk sv ow who : Int} : ∀ (p : AcqT), (acqPM tk sv ow who).ax p = none → p.goes f e = e
  | .fresh, h => by cases h
  | .wait _, h => by cases h
  | .has _, h => by cases h
  | .over _, _ => rfl
theorem rp_acq_some {tk sv ow who : Int} : ∀ (p : AcqT), p.Live → ((acqPM tk sv ow who).ax p).isSome = true
  | .fresh, _ => rfl
  | .wait _, _ => rfl
  | .has _, _ => rfl

section
variable {who P T G p : Int} {gl : Int → Int} {cl : Nat} {W w' : World} {x : Nat} {t : RpT} {a : Ax} {f : Fol} {es Le Le' : List Nat}
theorem rp_land_acc (h : Came W w' x (rpAt who p cl t es none) 110 a f) (hok : (rpCp who gl P T G p cl).ok t) (hk : (rpCp who gl P T G p cl).kind t = .acc a f) (hx : x < W.heap.size) (he : rpExt who gl cl t es w' Le') (hxe : x ∉ Le') (hle : ∀ k ∈ Le', k ∈ Le ∧ k < W.heap.size) : (rpCp who gl P T G p cl).Land W w' x t Le := by
  obtain ⟨q, Lc, c1, c2, c3, c4⟩ := h
  refine ⟨c3, x :: (Lc ++ Le'), ⟨hok, es, Le', he, hxe, ?_⟩, fun k hm => by simp at hm; rcases hm with rfl | hm | hm; exact .inl rfl; exact .inr (.inr (c4 k hm)); exact .inr (.inl (hle k hm).1)⟩
  rw [hk]
  refine ⟨q, Lc, ?_, c2, fun hm => absurd (c4 x hm) (by omega), (fun k hm h => by have := c4 k hm; have := (hle k h).2; omega), rfl⟩
  have e : (rpAt who p cl t es none).setIfInBounds 1 (.pointer (some ⟨q, 0, none⟩)) = rpAt who p cl t es (some ⟨q, 0, none⟩) := rp_s1 _
  rw [e] at c1
  exact c1
theorem rp_land_over (h : Blk w' x (rpAt who p cl t es none) 110) (hb : But [x] W w') (hok : (rpCp who gl P T G p cl).ok t) (hk : (rpCp who gl P T G p cl).kind t = .over) (he : rpExt who gl cl t es w' Le') (hxe : x ∉ Le') (hle : ∀ k ∈ Le', k ∈ Le) : (rpCp who gl P T G p cl).Land W w' x t Le := by
  refine ⟨hb, x :: Le', ⟨hok, es, Le', he, hxe, ?_⟩, fun k hm => by simp at hm; rcases hm with rfl | hm; exact .inl rfl; exact .inr (.inl (hle k hm))⟩
  rw [hk]
  exact ⟨h, rfl⟩
theorem rp_land_run {S : Sub} {y q b : Nat} {L : List Nat} {af : After} {pt : S.τ} (hC : CameBox W w' x (rpAt who p cl t es none) 110 (fun v => comCells 0 0 0 0 0 false (.iface S.D (.pointer (some ⟨y, 0, none⟩))) v false false) (af.fol.box x) q b) (hM : S.I w' y pt L) (hxL : x ∉ L) (hL : ∀ k ∈ L, k ∈ Le ∨ W.heap.size ≤ k) (hq : q ∉ L) (hg : b ∉ L) (hok : (rpCp who gl P T G p cl).ok t) (hk : (rpCp who gl P T G p cl).kind t = .run S pt af) (htie : (rpCp who gl P T G p cl).tie t es y) (hx : x < W.heap.size) (he : rpExt who gl cl t es w' Le') (hxe : x ∉ Le') (hd : ∀ k ∈ L, k ∉ Le') (hqe : q ∉ Le' ∧ b ∉ Le') (hle : ∀ k ∈ Le', k ∈ Le ∨ W.heap.size ≤ k) : (rpCp who gl P T G p cl).Land W w' x t Le := by
  refine ⟨hC.at'.but, ?_⟩
  have hfq := hC.at'.fresh
  have hfb := hC.fresh
  refine ⟨x :: q :: b :: (L ++ Le'), ⟨hok, es, Le', he, hxe, ?_⟩, fun k hm => ?_⟩
  · rw [hk]
    refine ⟨q, y, b, L, RunAt.of hC (fun nx => rp_s1 _), hM, htie, ?_, hq, hg, fun k hm => ?_, rfl⟩
    · simp only [List.mem_cons, not_or]
      exact ⟨by omega, by omega, hxL⟩
    · simp only [List.mem_cons] at hm
      rcases hm with rfl | rfl | hm
      · exact hqe.1
      · exact hqe.2
      · exact hd k hm
  · simp only [List.mem_cons, List.mem_append] at hm
    rcases hm with rfl | rfl | rfl | hm | hm
    · exact .inl rfl
    · exact .inr (.inr hfq)
    · exact .inr (.inr hfb)
    · rcases hL k hm with h | h
      · exact .inr (.inl h)
      · exact .inr (.inr h)
    · rcases hle k hm with h | h
      · exact .inr (.inl h)
      · exact .inr (.inr h)
end
end Go.Proofs.YtggbohakpkplkaaGreat

namespace Go.Proofs.YtggbohakpkplkaaGreat
open Go Go.RowKit
set_option linter.unusedVariables false
set_option maxRecDepth 100000
set_option linter.unusedSimpArgs false

theorem folC_swap {W : World} {x K : Nat} {v : Int} {M : World → Prop} (b : Bool) (hb : decide (v ≠ 0) = b) (h : Calls Tryz.prog K #[.pointer (some ⟨x, 0, none⟩), .bool b] W fun e w' => (∃ u, e = .returned u) ∧ M w') : FolC W x (.swap K) v M := by
  subst hb; exact h
theorem qp_keep1 {who P T G : Int} {cl : Nat} {l : List Int} (hp : 0 ≤ P ∧ P ≤ 64) (hT : 0 ≤ T ∧ T ≤ 65536) (hG : 0 ≤ G ∧ G ≤ 65536) (hn : l.length ≤ 1000000) {a b : World} {y x : Nat} {t : QpT} {L : List Nat} (h : qpI who cl (fun y => wd (20 + P * 264 + T * 3) G 2 y 1) l a y t L) (hb : But [x] a b) (hx : x ∉ L) : qpI who cl (fun y => wd (20 + P * 264 + T * 3) G 2 y 1) l b y t L :=
  (qp_good who P T G cl l hp hT hG hn).keep h hb (fun k hk hm => by simp at hm; exact hx (hm ▸ hk))
theorem RpD.all_len' {d : RpD} (h : d.gv.length = 128) : d.all.length = 129 := by
  unfold RpD.all
  rw [List.length_append, h]; rfl
theorem RpD.all_len {d : RpD} (h : d.Ok) : d.all.length = 129 := RpD.all_len' h.len
theorem RpD.take1_ok {d : RpD} (h : d.Ok) (k : Nat) (v : Int) : (d.take1 k v).Ok := ⟨by show (d.gv.set k _).length = 128; rw [List.length_set]; exact h.len, h.nt, h.hd, h.tl⟩
section
variable {who P T G p : Int} {cl : Nat}
theorem rp_on {gl : Int → Int} {v : Int} {t : RpT} {S : Sub} {q : S.τ} {af : After} (hok : (rpCp who gl P T G p cl).ok t) (hk : (rpCp who gl P T G p cl).kind t = .run S q af) (hs : (S.M.ax (S.M.nx q v)).isSome = true) :
    (rpCp who gl P T G p cl).ok ((rpPM who P p gl).nx t v) ∧ (rpCp who gl P T G p cl).kind ((rpPM who P p gl).nx t v) = .run S (S.M.nx q v) af ∧ (∀ es, (rpCp who gl P T G p cl).cells ((rpPM who P p gl).nx t v) es = (rpCp who gl P T G p cl).cells t es) ∧ (∀ es w Le, (rpCp who gl P T G p cl).ext t es w Le → (rpCp who gl P T G p cl).ext ((rpPM who P p gl).nx t v) es w Le) ∧ (∀ es y, (rpCp who gl P T G p cl).tie t es y → (rpCp who gl P T G p cl).tie ((rpPM who P p gl).nx t v) es y) := by
  cases t with
  | acq d q =>
    cases hk
    have hl := rp_acq_live q hs
    have e : (rpPM who P p gl).nx (.acq d q) v = .acq d ((acqPM (wd 0 2 3 0 0) (wd 0 2 3 0 1) (wd 0 2 3 0 2) who).nx q v) := rp_acq_goes _ hl
    rw [e]
    exact ⟨⟨hok.1, hl⟩, rfl, fun _ => rfl, fun _ _ _ h => h, fun _ _ h => h⟩
  | que d q =>
    cases hk
    have e : (rpPM who P p gl).nx (.que d q) v = .que d ((qpPM gl d.all).nx q v) := if_pos hs
    rw [e]
    exact ⟨⟨hok.1, hs⟩, rfl, fun _ => rfl, fun _ _ _ h => h, fun _ _ h => h⟩
  | rel d r q =>
    cases q with
    | over => cases hk
    | fresh => cases hk; exact ⟨hok, rfl, fun _ => rfl, fun _ _ _ h => h, fun _ _ h => h⟩
    | pass => cases hk; cases hs
  | _ => cases hk

set_option maxHeartbeats 4000000 in
theorem rp_laws (hw : 0 ≤ who ∧ who ≤ 1000000) (hp : 0 ≤ P ∧ P ≤ 64) (hT : 0 ≤ T ∧ T ≤ 65536) (hG : 0 ≤ G ∧ G ≤ 65536) :
    (rpCp who (fun y => wd (20 + P * 264 + T * 3) G 2 y 1) P T G p cl).Laws (rpPM who P p (fun y => wd (20 + P * 264 + T * 3) G 2 y 1)) (Rd.lay cl P T G) who where
  c0 := fun t es nx => rp_c0
  c1 := fun t es nx => rp_c1
  set := fun t es nx nx' => rp_s1 _
  k0 := fun t hok hk => by
    cases t with
    | rel d r q => cases q <;> first | rfl | cases hk
    | over d => rfl
    | _ => cases hk
  k1 := fun t a f hok hk => by
    cases t with
    | acq d q => cases hk
    | que d q => cases hk
    | rel d r q => cases q <;> cases hk
    | over d => cases hk
    | nx d => cases hk; exact ⟨rfl, axLd_ok _, ent_rp1⟩
    | sn d => cases hk; exact ⟨rfl, axSw_ok _ _ _ (rpw_bd _), ent_rp2⟩
    | hd d => cases hk; exact ⟨rfl, axLd_ok _, ent_rp3⟩
    | tl d => cases hk; exact ⟨rfl, axLd_ok _, ent_rp4⟩
    | st d => cases hk; exact ⟨rfl, axSt_ok _ _ (rpw_bd _), ent_rp5⟩
    | ln d => cases hk; exact ⟨rfl, axSt_ok _ _ (by omega), ent_rp6⟩
    | gl d k => cases hk; exact ⟨rfl, axLd_ok _, ent_rp7⟩
    | sh d => cases hk; exact ⟨rfl, axSw_ok _ _ _ (by omega), ent_rp8⟩
  k2 := fun t S q af hok hk => by
    cases t with
    | acq d q => cases hk; exact ⟨rfl, rp_acq_some _ hok.2, ent_rp9, fun a => (acq_laws _ _ _ who hw).axok _ a trivial⟩
    | que d q => cases hk; exact ⟨rfl, hok.2, ent_rp10, fun a ha => qp_axok (fun y => wd (20 + P * 264 + T * 3) G 2 y 1) d.all (by rw [RpD.all_len hok.1]; omega) q a ha⟩
    | rel d r q => cases q <;> cases hk <;> exact ⟨rfl, rfl, trivial, fun a => (rel_laws _ _ who).axok _ a trivial⟩
    | _ => cases hk
  sub := fun t S q af hok hk => by
    cases t with
    | acq d q => cases hk; exact acqSub_ok _ _ _ who hw _
    | que d q => cases hk; exact ⟨qp_steps who P T G cl _ hp hT hG (by rw [RpD.all_len hok.1]; omega) stepby_qput, qp_good who P T G cl _ hp hT hG (by rw [RpD.all_len hok.1]; omega), act_qput, fun w h => h, fun k h => h⟩
    | rel d r q => cases q <;> cases hk <;> exact relSub_ok _ _ who _
    | _ => cases hk
  on := fun t S q af v hok hk hv hs => rp_on hok hk hs
  ekeep := fun t es w w' ll Le he hb hk => by
    cases t with
    | acq d q => exact ⟨he.1, (qp_good who P T G cl _ hp hT hG (by rw [RpD.all_len' he.1]; omega)).keep he.2 hb hk⟩
    | rel d r q => exact ⟨he.1, (qp_good who P T G cl _ hp hT hG (by rw [RpD.all_len' he.1]; omega)).keep he.2 hb hk⟩
    | _ => exact he
  elt := fun t es w Le he k hk => by
    cases t with
    | acq d q => exact (qp_good who P T G cl _ hp hT hG (by rw [RpD.all_len' he.1]; omega)).lt he.2 k hk
    | rel d r q => exact (qp_good who P T G cl _ hp hT hG (by rw [RpD.all_len' he.1]; omega)).lt he.2 k hk
    | _ => rw [show Le = [] from he] at hk; cases hk
  fol := fun W x t a f v es Le hok hk hv hB he hxe hR hxR => by
    have hlt := hB.lt
    have hcx : cl ≠ x := fun e => hxR (by rw [e]; exact List.mem_singleton.2 rfl)
    cases t with
    | acq d q => cases hk
    | que d q => cases hk
    | rel d r q => cases q <;> cases hk
    | over d => cases hk
    | nx d =>
      cases hk
      obtain rfl : Le = [] := he
      refine (rp_replace W x cl who p d.g P T G d.nt d.hd d.tl d.has _ none hB hR hp v hcx).mono ?_
      rintro e w' ⟨hu, hC⟩
      exact ⟨hu, rp_land_acc (t := .sn { d with nt := v }) (es := es) (Le' := []) hC ⟨hok.len, hv, hok.hd, hok.tl⟩ rfl hlt rfl (by simp) (fun k hk => by cases hk)⟩
    | sn d =>
      cases hk
      obtain rfl : Le = [] := he
      by_cases h0 : v = 0
      · have e : (rpPM who P p (fun y => wd (20 + P * 264 + T * 3) G 2 y 1)).nx (.sn d) v = .nx d := if_pos h0
        rw [e]
        refine folC_swap false (decide_eq_false (fun h => h h0)) ((rp_replaced_no W x cl who p d.g P T G d.nt d.hd d.tl d.has _ none hB hR hp).mono ?_)
        rintro e w' ⟨hu, hC⟩
        exact ⟨hu, rp_land_acc (t := .nx d) (es := es) (Le' := []) hC hok rfl hlt rfl (by simp) (fun k hk => by cases hk)⟩
      · by_cases h1 : d.nt = 0
        · have e : (rpPM who P p (fun y => wd (20 + P * 264 + T * 3) G 2 y 1)).nx (.sn d) v = .over { d with has := false } := (if_neg h0).trans (if_pos h1)
          rw [e]
          refine folC_swap true (decide_eq_true h0) ((rp_replaced_none W x cl who p d.g d.nt d.hd d.tl d.has _ none hB h1).mono ?_)
          rintro e w' ⟨hu, hb, hbu⟩
          exact ⟨hu, rp_land_over (t := .over { d with has := false }) (es := es) (Le' := []) hb hbu ⟨hok.len, hok.nt, hok.hd, hok.tl⟩ rfl rfl (by simp) (fun k hk => by cases hk)⟩
        · have e : (rpPM who P p (fun y => wd (20 + P * 264 + T * 3) G 2 y 1)).nx (.sn d) v = .hd { d with g := gw d.nt } := (if_neg h0).trans (if_neg h1)
          rw [e]
          refine folC_swap true (decide_eq_true h0) ((rp_replaced_some W x cl who p d.g P T G d.nt d.hd d.tl d.has _ none hB hR hp h1 hcx).mono ?_)
          rintro e w' ⟨hu, hC⟩
          exact ⟨hu, rp_land_acc (t := .hd { d with g := gw d.nt }) (es := es) (Le' := []) hC ⟨hok.len, hok.nt, hok.hd, hok.tl⟩ rfl hlt rfl (by simp) (fun k hk => by cases hk)⟩
    | hd d =>
      cases hk
      obtain rfl : Le = [] := he
      refine (rp_lookTail W x cl who p d.g P T G d.nt d.hd d.tl d.has _ none hB hR hp v hcx).mono ?_
      rintro e w' ⟨hu, hC⟩
      exact ⟨hu, rp_land_acc (t := .tl { d with hd := v }) (es := es) (Le' := []) hC ⟨hok.len, hok.nt, hv, hok.tl⟩ rfl hlt rfl (by simp) (fun k hk => by cases hk)⟩
    | tl d =>
      cases hk
      obtain rfl : Le = [] := he
      by_cases h0 : (v - d.hd) % 4294967296 < 256
      · have e : (rpPM who P p (fun y => wd (20 + P * 264 + T * 3) G 2 y 1)).nx (.tl d) v = .st { d with tl := v } := if_pos h0
        rw [e]
        refine (rp_choose_room W x cl who p d.g P T G d.nt d.hd d.tl d.has d.gv d.ld none none hB hR hp v hcx hv hok.hd h0).mono ?_
        rintro e w' ⟨hu, hC⟩
        exact ⟨hu, rp_land_acc (t := .st { d with tl := v }) (es := es) (Le' := []) hC ⟨hok.len, hok.nt, hok.hd, hv⟩ rfl hlt rfl (by simp) (fun k hk => by cases hk)⟩
      · have e : (rpPM who P p (fun y => wd (20 + P * 264 + T * 3) G 2 y 1)).nx (.tl d) v = .gl { d with tl := v, ld := 0 } 0 := if_neg h0
        rw [e]
        refine (rp_choose_full W x cl who p d.g P T G d.nt d.hd d.tl d.has d.gv d.ld none none hB hR hp v hcx hok.len hv hok.hd h0).mono ?_
        rintro e w' ⟨hu, hC⟩
        exact ⟨hu, rp_land_acc (t := .gl { d with tl := v, ld := 0 } 0) (es := es) (Le' := []) hC ⟨⟨hok.len, hok.nt, hok.hd, hv⟩, by omega, rfl⟩ rfl hlt rfl (by simp) (fun k hk => by cases hk)⟩
    | st d =>
      cases hk
      obtain rfl : Le = [] := he
      refine (rp_lengthen W x cl who p d.g P T G d.nt d.hd d.tl d.has d.gv d.ld none none hB hR hp hok.tl).mono ?_
      rintro e w' ⟨hu, hC⟩
      exact ⟨hu, rp_land_acc (t := .ln d) (es := es) (Le' := []) hC hok rfl hlt rfl (by simp) (fun k hk => by cases hk)⟩
    | ln d =>
      cases hk
      obtain rfl : Le = [] := he
      refine (rp_leave W x cl who p d.g d.nt d.hd d.tl d.has _ none hB).mono ?_
      rintro e w' ⟨hu, hb, hbu⟩
      exact ⟨hu, rp_land_over (t := .over { d with has := false }) (es := es) (Le' := []) hb hbu ⟨hok.len, hok.nt, hok.hd, hok.tl⟩ rfl rfl (by simp) (fun k hk => by cases hk)⟩
    | gl d k =>
      cases hk
      obtain rfl : Le = [] := he
      obtain ⟨ho, hk1, hld⟩ := hok
      have hB' : Blk W x (rpCells who none cl p d.g d.has d.nt d.hd d.tl (rpRest d.gv k none)) 110 := by rw [← hld]; exact hB
      by_cases h0 : k + 1 < 128
      · have e : (rpPM who P p (fun y => wd (20 + P * 264 + T * 3) G 2 y 1)).nx (.gl d k) v = .gl (d.take1 k v) (k + 1) := if_pos h0
        rw [e]
        refine (rp_keep_on W x cl who p d.g P T G d.nt d.hd d.tl d.has d.gv k none none hB' hR hp hk1 ho.len hcx v h0).mono ?_
        rintro e w' ⟨hu, hC⟩
        exact ⟨hu, rp_land_acc (t := .gl (d.take1 k v) (k + 1)) (es := es) (Le' := []) hC ⟨RpD.take1_ok ho k v, h0, rfl⟩ rfl hlt rfl (by simp) (fun k hk => by cases hk)⟩
      · have e : (rpPM who P p (fun y => wd (20 + P * 264 + T * 3) G 2 y 1)).nx (.gl d k) v = .sh (d.take1 k v) := if_neg h0
        rw [e]
        refine (rp_keep_all W x cl who p d.g P T G d.nt d.hd d.tl d.has d.gv k none none hB' hR hp hk1 ho.len hcx v ho.hd (by omega)).mono ?_
        rintro e w' ⟨hu, hC⟩
        exact ⟨hu, rp_land_acc (t := .sh (d.take1 k v)) (es := es) (Le' := []) hC ⟨RpD.take1_ok ho k v, by show ((k + 1 : Nat) : Int) = 128; omega⟩ rfl hlt rfl (by simp) (fun k hk => by cases hk)⟩
    | sh d =>
      cases hk
      obtain rfl : Le = [] := he
      by_cases h0 : v = 0
      · have e : (rpPM who P p (fun y => wd (20 + P * 264 + T * 3) G 2 y 1)).nx (.sh d) v = .hd d := if_pos h0
        rw [e]
        refine folC_swap false (decide_eq_false (fun h => h h0)) ((rp_take_no W x cl who p d.g P T G d.nt d.hd d.tl d.has _ none hB hR hp).mono ?_)
        rintro e w' ⟨hu, hC⟩
        exact ⟨hu, rp_land_acc (t := .hd d) (es := es) (Le' := []) hC hok.1 rfl hlt rfl (by simp) (fun k hk => by cases hk)⟩
      · have e : (rpPM who P p (fun y => wd (20 + P * 264 + T * 3) G 2 y 1)).nx (.sh d) v = .acq d .fresh := if_neg h0
        rw [e]
        have hall := RpD.all_len hok.1
        refine folC_swap true (decide_eq_true h0) ((rp_take_yes W x cl who p d.g P T G d.nt d.hd d.tl d.has d.gv d.ld none none (fun w y L => qpI who cl (fun y => wd (20 + P * 264 + T * 3) G 2 y 1) d.all w y (.ch 0) L) hB hok.1.len hR hcx (fun a b y L h hb hx => qp_keep1 hp hT hG (by rw [hall]; omega) h hb hx) (fun Y v hY hs => ?_)).mono ?_)
        · refine (qp_new_some Y cl who P T G v d.all hs (by rw [hall]; omega) (by rw [hall]; omega) hY hp hT hG).mono ?_
          rintro e w' ⟨y, L, rfl, h1, h2, h3, h4⟩
          exact ⟨y, L, rfl, h1, h2, h3, (qp_good who P T G cl d.all hp hT hG (by rw [hall]; omega)).lt h1, h4⟩
        · rintro e w' ⟨hu, y, L, x2, q2, q, b, hC, hq, hM, f1, f2, f3, f4, f5⟩
          have o1 := hM.o1
          exact ⟨hu, rp_land_run (S := acqSub (wd 0 2 3 0 0) (wd 0 2 3 0 1) (wd 0 2 3 0 2) who) (t := .acq d .fresh) (es := [y]) (pt := AcqT.fresh) (af := .fn 192) (Le' := L) hC (acqSub_at hM) (by simp; omega) (fun k hk => .inr (by simp at hk; omega)) (by simp; omega) (by simp; omega) ⟨hok.1, trivial⟩ rfl trivial hlt ⟨hok.1.len, hq⟩ (fun hm => by have := f1 x hm; omega) (fun k hk hm => by have := f1 k hm; simp at hk; omega) ⟨fun hm => by have := f1 q hm; omega, fun hm => by have := f1 b hm; omega⟩ (fun k hk => .inr (f1 k hk).1)⟩
  aft := fun W x y t S q af v es Le Li hok hk hv hn hB hin hty he hxe hxi hd hR hxR => by
    have hlt := hB.lt
    cases t with
    | acq d q =>
      cases hk
      have e : (rpPM who P p (fun y => wd (20 + P * 264 + T * 3) G 2 y 1)).nx (.acq d q) v = .que d (.ch 0) := rp_acq_over _ hn
      rw [e]
      have hall := RpD.all_len hok.1
      have hgd := qp_good who P T G cl d.all hp hT hG (by rw [hall]; omega)
      have hq : qpI who cl (fun y => wd (20 + P * 264 + T * 3) G 2 y 1) d.all W (es.getD 0 0) (.ch 0) Le := he.2
      obtain ⟨nx, hc1, hnx⟩ := hgd.next hq
      cases nx with
      | none => cases hnx
      | some a =>
        refine (rp_move W x cl who p d.g d.nt d.hd d.tl d.has d.gv d.ld (es.getD 0 0) none a hB hok.1.len (fun h => hxe (h ▸ hgd.mem hq)) hc1).mono ?_
        rintro e w' ⟨hu, q1, b, hC⟩
        have hlq := hgd.lt hq
        have fq := hC.at'.fresh
        have fb := hC.fresh
        exact ⟨hu, rp_land_run (S := qpSub who (fun y => wd (20 + P * 264 + T * 3) G 2 y 1) cl P T G d.all) (t := .que d (.ch 0)) (es := es) (pt := QpT.ch 0) (af := .fn 202) (L := Le) (Le' := []) hC (qp_keep1 hp hT hG (by rw [hall]; omega) hq hC.at'.but hxe) hxe (fun k hk => .inl (List.mem_append_right _ hk)) (fun hm => by have := hlq q1 hm; omega) (fun hm => by have := hlq b hm; omega) ⟨hok.1, rfl⟩ rfl rfl hlt rfl (by simp) (by simp) (by simp) (fun k hk => by cases hk)⟩
    | que d q =>
      cases hk
      obtain rfl : Le = [] := he
      have hall := RpD.all_len hok.1
      have hgd := qp_good who P T G cl d.all hp hT hG (by rw [hall]; omega)
      have e : (rpPM who P p (fun y => wd (20 + P * 264 + T * 3) G 2 y 1)).nx (.que d q) v = .rel d ((qpPM (fun y => wd (20 + P * 264 + T * 3) G 2 y 1) d.all).nx q v) .fresh := if_neg (by rw [show (qpPM (fun y => wd (20 + P * 264 + T * 3) G 2 y 1) d.all).ax ((qpPM (fun y => wd (20 + P * 264 + T * 3) G 2 y 1) d.all).nx q v) = none from hn]; simp)
      rw [e]
      obtain rfl : es.getD 0 0 = y := hty
      have hlq := hgd.lt hin
      refine (rp_release W x cl who p d.g d.nt d.hd d.tl d.has d.gv d.ld none _ hB hok.1.len).mono ?_
      rintro e w' ⟨hu, x2, q2, g2, q1, b, hC, hM, f1, f2, f3, f4, f5⟩
      have o1 := hM.o1
      have o2 := hM.o2
      have fq := hC.at'.fresh
      have fb := hC.fresh
      exact ⟨hu, rp_land_run (S := relSub (wd 0 2 3 0 1) (wd 0 2 3 0 2) who) (t := .rel d ((qpPM (fun y => wd (20 + P * 264 + T * 3) G 2 y 1) d.all).nx q v) .fresh) (es := es) (pt := RelT.fresh) (af := .nil) (Le' := Li) hC (relSub_at hM) (by simp; omega) (fun k hk => .inr (by simp at hk; omega)) (by simp; omega) (by simp; omega) hok.1 rfl trivial hlt ⟨hok.1.len, qp_keep1 hp hT hG (by rw [hall]; omega) hin hC.at'.but hxi⟩ hxi (fun k hk hm => by have := hlq k hm; simp at hk; omega) ⟨fun hm => by have := hlq q1 hm; omega, fun hm => by have := hlq b hm; omega⟩ (fun k hk => .inl (List.mem_append_left _ hk))⟩
    | rel d r q =>
      cases q with
      | over => cases hk
      | fresh => cases hk; cases hn
      | pass =>
        cases hk
        exact rp_land_over (t := .rel d r .over) (es := es) (Le' := Le) hB (But.refl _ _) hok rfl he hxe (fun k hk => List.mem_append_right _ hk)
    | _ => cases hk
end
end Go.Proofs.YtggbohakpkplkaaGreat

namespace Go.Proofs.YtggbohakpkplkaaGreat
open Go Go.RowKit
set_option linter.unusedVariables false
set_option maxRecDepth 100000
set_option linter.unusedSimpArgs false

section
variable (w : World) (x cl : Nat) (who p g nt hd tl : Int) (gv : List Int) (ld : Int) (nx : Option Addr)
theorem rp_holds_no (qu : Option Addr) (hB : Blk w x (rpCells who nx cl p g false nt hd tl (rpRest gv ld qu)) 110) :
    Calls Tryz.prog 16 #[.pointer (some ⟨x, 0, none⟩)] w fun e w' => ∃ v, e = .returned v ∧ SeesL w' v [] ∧ Below w.heap.size w w' := by
  have c5 := hB.cell 5 rp_c5
  clear hB
  go_enter Tryz.func16, Tryz.ntmps16
  go_wp2_with fail
  go_ret
  exact ⟨_, rfl, ⟨none, 0, rfl, fun _ => ⟨rfl, rfl⟩, fun h => absurd h (by simp)⟩, Below.refl _ _⟩
theorem rp_holds_one (hB : Blk w x (rpCells who nx cl p g true nt hd tl (rpRest gv ld none)) 110) (hg : gv.length = 128) :
    Calls Tryz.prog 16 #[.pointer (some ⟨x, 0, none⟩)] w fun e w' => ∃ v, e = .returned v ∧ SeesL w' v [g] ∧ Below w.heap.size w w' := by
  have c5 := hB.cell 5 rp_c5
  have c4 := hB.cell 4 rp_c4
  have c138 := hB.cell 138 (rp_c138 hg)
  clear hB
  go_enter Tryz.func16, Tryz.ntmps16
  go_wp2_with fail
  go_ret
  have hb := (Below.refl w.heap.size w).alloc (Nat.le_refl _) (.cells #[.int .i64 g] 3)
  refine ⟨_, rfl, ⟨some ⟨w.heap.size, 0, none⟩, 1, rfl, (fun h => by cases h), fun _ => ⟨w.heap.size, 0, rfl, by rw [World.size_alloc]; omega, fun j hj => ?_⟩⟩, hb⟩
  have hB := Blk.new w #[.int .i64 g] 3
  simp at hj
  subst hj
  exact hB.cell 0 rfl
theorem rp_holds_many (y : Nat) (l : List Int) (hB : Blk w x (rpCells who nx cl p g true nt hd tl (rpRest gv ld (some ⟨y, 0, none⟩))) 110) (hg : gv.length = 128)
    (hH : Calls Tryz.prog 66 #[.pointer (some ⟨y, 0, none⟩)] w fun e w' => ∃ v, e = .returned v ∧ IntsOn w' w.heap.size v l ∧ Below w.heap.size w w') :
    Calls Tryz.prog 16 #[.pointer (some ⟨x, 0, none⟩)] w fun e w' => ∃ v, e = .returned v ∧ SeesL w' v l ∧ Below w.heap.size w w' := by
  have c5 := hB.cell 5 rp_c5
  have c138 := hB.cell 138 (rp_c138 hg)
  clear hB
  go_enter Tryz.func16, Tryz.ntmps16
  go_wp2_with fail
  go_at_call 66; refine hH.mono ?_; rintro e w1 ⟨v, rfl, h1, h2⟩
  clear hH c5 c138
  go_wp2_with fail
  go_ret
  exact ⟨_, rfl, h1.sees, h2⟩
end
theorem rp_blk {who P T G p : Int} {cl : Nat} {gl : Int → Int} {w : World} {x : Nat} {t : RpT} {es Le L : List Nat} (h : (rpCp who gl P T G p cl).Here w x t es Le L ((rpCp who gl P T G p cl).kind t)) : ∃ nx, Blk w x (rpAt who p cl t es nx) 110 := by
  cases hk : (rpCp who gl P T G p cl).kind t with
  | over => rw [hk] at h; exact ⟨none, h.1⟩
  | acc a f => rw [hk] at h; obtain ⟨q, Lc, h1, -⟩ := h; exact ⟨_, h1⟩
  | run S q af => rw [hk] at h; obtain ⟨q1, y, g, Li, h1, -⟩ := h; exact ⟨_, h1.hx⟩
theorem rp_holds_few (w : World) (x cl : Nat) (who p : Int) (d : RpD) (nx : Option Addr) (hB : Blk w x (rpCells who nx cl p d.g d.has d.nt d.hd d.tl (rpRest d.gv d.ld none)) 110) (hg : d.gv.length = 128) :
    Calls Tryz.prog 16 #[.pointer (some ⟨x, 0, none⟩)] w fun e w' => ∃ v, e = .returned v ∧ SeesL w' v (if d.has = true then [d.g] else []) ∧ Below w.heap.size w w' := by
  cases hh : d.has with
  | true => rw [hh] at hB; exact rp_holds_one w x cl who p d.g d.nt d.hd d.tl d.gv d.ld nx hB hg
  | false => rw [hh] at hB; exact rp_holds_no w x cl who p d.g d.nt d.hd d.tl d.gv d.ld nx _ hB
theorem rp_holds_queue (w : World) (x y cl : Nat) (who p : Int) (gl : Int → Int) (d : RpD) (q : QpT) (L : List Nat) (nx : Option Addr) (hB : Blk w x (rpCells who nx cl p d.g d.has d.nt d.hd d.tl (rpRest d.gv d.ld (some ⟨y, 0, none⟩))) 110) (hg : d.gv.length = 128) (hq : qpI who cl gl d.all w y q L) :
    Calls Tryz.prog 16 #[.pointer (some ⟨x, 0, none⟩)] w fun e w' => ∃ v, e = .returned v ∧ SeesL w' v (if d.has = true then (if q.lies = true then [] else d.all) else []) ∧ Below w.heap.size w w' := by
  have hn : d.all.length ≤ 1000000 := by have := RpD.all_len' hg; omega
  have hH := qp_holds hq hn
  cases hh : d.has with
  | true => rw [hh] at hB; exact rp_holds_many w x cl who p d.g d.nt d.hd d.tl d.gv d.ld nx y _ hB hg hH
  | false => rw [hh] at hB; exact rp_holds_no w x cl who p d.g d.nt d.hd d.tl d.gv d.ld nx _ hB
/-- What it holds. -/
theorem rp_holds {who P T G p : Int} {gl : Int → Int} {cl : Nat} {w : World} {x : Nat} {t : RpT} {L : List Nat} (h : (rpCp who gl P T G p cl).I w x t L) :
    Calls Tryz.prog 16 #[.pointer (some ⟨x, 0, none⟩)] w fun e w' => ∃ v, e = .returned v ∧ SeesL w' v t.holds ∧ Below w.heap.size w w' := by
  have hok := h.1
  obtain ⟨-, es, Le, he, hxe, hH⟩ := h
  obtain ⟨nx, hB⟩ := rp_blk hH
  cases t with
  | acq d q => exact rp_holds_queue w x (es.getD 0 0) cl who p gl d (.ch 0) Le nx hB hok.1.len he.2
  | que d q =>
    obtain ⟨q1, y, g, Li, h1, h2, h3, -⟩ := hH
    obtain rfl : es.getD 0 0 = y := h3
    exact rp_holds_queue w x (es.getD 0 0) cl who p gl d q Li nx hB hok.1.len h2
  | rel d q r => exact rp_holds_queue w x (es.getD 0 0) cl who p gl d q Le nx hB he.1 he.2
  | gl d k => exact rp_holds_few w x cl who p d nx hB hok.1.len
  | sh d => exact rp_holds_few w x cl who p d nx hB hok.1.len
  | nx d => exact rp_holds_few w x cl who p d nx hB hok.len
  | sn d => exact rp_holds_few w x cl who p d nx hB hok.len
  | hd d => exact rp_holds_few w x cl who p d nx hB hok.len
  | tl d => exact rp_holds_few w x cl who p d nx hB hok.len
  | st d => exact rp_holds_few w x cl who p d nx hB hok.len
  | ln d => exact rp_holds_few w x cl who p d nx hB hok.len
  | over d => exact rp_holds_few w x cl who p d nx hB hok.len
/-- How many it moved. -/
def RpT.moved (t : RpT) : Int := if t.full = true then 129 else 0
theorem rp_moves {who P T G p : Int} {gl : Int → Int} {cl : Nat} {w : World} {x : Nat} {t : RpT} {L : List Nat} (h : (rpCp who gl P T G p cl).I w x t L) :
    Calls Tryz.prog 14 #[.pointer (some ⟨x, 0, none⟩)] w fun e w' => e = .returned (.int .i64 t.moved) ∧ w = w' := by
  have hok := h.1
  obtain ⟨-, es, Le, he, hxe, hH⟩ := h
  obtain ⟨nx, hB⟩ := rp_blk hH
  have hl : t.d.gv.length = 128 := by
    cases t with
    | acq d q => exact hok.1.len
    | que d q => exact hok.1.len
    | gl d k => exact hok.1.len
    | sh d => exact hok.1.len
    | _ => exact hok.len
  have := rp_moved w x cl who p t.d.g t.d.nt t.d.hd t.d.tl t.d.has t.d.gv t.d.ld _ nx hB hl
  refine this.mono ?_
  rintro e w' ⟨rfl, rfl⟩
  refine ⟨?_, rfl⟩
  unfold RpT.moved
  cases t.full <;> rfl
/-- Its beginning. -/
def rpD0 (g : Int) : RpD := ⟨g, true, 0, 0, 0, List.replicate 128 0, 0⟩
def rpStart (g : Int) (nxt : Bool) : RpT := if nxt = true then .nx (rpD0 g) else .hd (rpD0 g)
theorem rpD0_ok (g : Int) : (rpD0 g).Ok := ⟨by simp [rpD0], by constructor <;> simp [rpD0], by constructor <;> simp [rpD0], by constructor <;> simp [rpD0]⟩
theorem rp_new_at (w : World) (cl : Nat) (who p g P T G : Int) (gl : Int → Int) (nxt : Bool) (hl : Lay w cl P T G) (hP : 0 ≤ P ∧ P ≤ 64) :
    Calls Tryz.prog 10 #[.pointer (some ⟨cl, 0, none⟩), .int .i64 who, .int .i64 p, .int .i64 g, .bool nxt] w fun e w' => ∃ x L, e = .returned (.pointer (some ⟨x, 0, none⟩)) ∧ (rpCp who gl P T G p cl).I w' x (rpStart g nxt) L ∧ Below w.heap.size w w' ∧ (∀ k ∈ L, w.heap.size ≤ k) ∧ w.heap.size ≤ x := by
  refine (rp_new_step w cl who p g P T G nxt hl hP).mono ?_
  rintro e w' ⟨x, q, Lc, rfl, h1, h2, h3, h4, h5, h6⟩
  cases nxt with
  | true =>
    refine ⟨x, x :: (Lc ++ []), rfl, ⟨rpD0_ok g, [], [], rfl, by simp, q, Lc, h1, h2, h3, (fun k _ h => by cases h), rfl⟩, h4, ?_, h6⟩
    intro k hk; simp at hk; rcases hk with rfl | hk
    · exact h6
    · exact h5 k hk
  | false =>
    refine ⟨x, x :: (Lc ++ []), rfl, ⟨rpD0_ok g, [], [], rfl, by simp, q, Lc, h1, h2, h3, (fun k _ h => by cases h), rfl⟩, h4, ?_, h6⟩
    intro k hk; simp at hk; rcases hk with rfl | hk
    · exact h6
    · exact h5 k hk
end Go.Proofs.YtggbohakpkplkaaGreat

namespace Go.Proofs.YtggbohakpkplkaaGreat
open Go Go.RowKit
set_option linter.unusedVariables false
set_option maxRecDepth 100000
set_option linter.unusedSimpArgs false

def rpQue (d : RpD) : QpT → RpT
  | .over => .rel d .over .fresh
  | .done0 => .rel d .done0 .fresh
  | q => .que d q
def rpAcq (d : RpD) (p : AcqT) : RpT := p.goes (.acq d) (.que d (.ch 0))
theorem rp_acqIn (who P p : Int) (gl : Int → Int) (d : RpD) : AcqIn (rpPM who P p gl) 0 who (rpAcq d) where
  f := rfl
  w := fun t => rfl
  h := fun t => rfl
  nf := fun v => rfl
  nw := fun t v => by
    show ((if v = t then AcqT.has t else AcqT.wait t)).goes (RpT.acq d) (.que d (.ch 0)) = _
    split <;> rfl
  nh := fun t v => rfl
theorem rp_relIn (who P p : Int) (gl : Int → Int) (d : RpD) (q : QpT) : RelIn (rpPM who P p gl) 0 (RpT.rel d q) where
  f := rfl
  p := rfl
  nf := fun v => rfl
  np := fun v => rfl
theorem rp_qpIn (who P p : Int) (gl : Int → Int) (d : RpD) : QpIn (rpPM who P p gl) gl d.all (rpQue d) where
  ch := fun _ => rfl
  ld := rfl
  pt := fun _ => rfl
  tr := rfl
  ct := rfl
  n1 := fun k v => by
    show (if ((qpPM gl d.all).ax (if k + 1 < d.all.length then QpT.ch (k + 1) else .ld)).isSome = true then RpT.que d (if k + 1 < d.all.length then QpT.ch (k + 1) else .ld) else .rel d (if k + 1 < d.all.length then QpT.ch (k + 1) else .ld) .fresh) = _
    split <;> (split <;> first | rfl | (rename_i h _; exact absurd rfl h) | (rename_i h; exact absurd rfl h))
  n2 := fun _ => rfl
  n3 := fun _ _ => rfl
  n4 := fun _ => rfl
  n5 := fun _ => rfl
/-- Where a slow put stopped, and what it holds there. -/
def RpQ (Q : RpT → Prop) (d : RpD) (held : List Int) (r : RpT) : Prop := (Q r ∧ held = d.all) ∨ (r.d = d ∧ r.full = true ∧ (d.has = true → held = r.holds))
def RpGot (M : PM RpT) (d : RpD) (w : World) (x : Nat) (A : Option Addr) (cap m : Nat) (g : Nat → Int) (s0 : RpT) (Q : RpT → Prop) (j : Nat) (e : Ending) (w' : World) : Prop := ∃ (v : Value) (held : List Int) (j' : Nat) (q : QpT), e = .returned (.agg #[v, .int .i64 129]) ∧ SeesL w' v held ∧ RunOn w' x A cap m g (M.rj s0 g m j') ∧ Syn M s0 g m j' (.rel d q .over) (RpQ Q d held) ∧ (j' ≤ m → held = if q.lies = true then [] else d.all) ∧ But [x] w w' ∧ j ≤ j'
theorem rpQ_acq {Q : RpT → Prop} {d : RpD} (p : AcqT) : RpQ Q d d.all (.acq d p) := .inr ⟨rfl, rfl, fun h => by show _ = if d.has = true then _ else _; rw [if_pos h]⟩
theorem rpQ_que {Q : RpT → Prop} {d : RpD} {held : List Int} (q : QpT) (h : held = if q.lies = true then [] else d.all) : RpQ Q d held (.que d q) := .inr ⟨rfl, rfl, fun h2 => by show _ = if d.has = true then _ else _; rw [if_pos h2]; exact h⟩
theorem rpQ_rel {Q : RpT → Prop} {d : RpD} {held : List Int} (q : QpT) (p : RelT) (h : held = if q.lies = true then [] else d.all) : RpQ Q d held (.rel d q p) := .inr ⟨rfl, rfl, fun h2 => by show _ = if d.has = true then _ else _; rw [if_pos h2]; exact h⟩
theorem rpQue_live {d : RpD} : ∀ {q : QpT}, q.live = true → rpQue d q = .que d q
  | .ch _, _ => rfl
  | .ld, _ => rfl
  | .pt _, _ => rfl
  | .tr, _ => rfl
  | .ct, _ => rfl
theorem rpQue_over {d : RpD} : ∀ {q : QpT}, q.live = false → rpQue d q = .rel d q .fresh
  | .over, _ => rfl
  | .done0, _ => rfl
theorem rpQ_qp {Q : RpT → Prop} {d : RpD} {held : List Int} {r : RpT} (h : QpQ (RpQ Q d d.all) (rpQue d) d.all held r) : RpQ Q d held r := by
  rcases h with ⟨h1, h2⟩ | ⟨p', h1, h2, h3⟩
  · rw [h2]; exact h1
  · rw [h2, rpQue_live h1]; exact rpQ_que p' h3
theorem qpQ_held {Q : RpT → Prop} {d : RpD} {held : List Int} {r : RpT} (h : QpQ (RpQ Q d d.all) (rpQue d) d.all held r) : held = d.all ∨ held = [] := by
  rcases h with ⟨h1, h2⟩ | ⟨p', h1, h2, h3⟩
  · exact .inl h2
  · rw [h3]; split <;> simp

theorem sees_far {w : World} {A : Option Addr} {cap n : Nat} {l : List Int} (h : SeesL w (.slice A n cap) l) (hl : 0 < l.length → l.length = 129) {k : Nat} {cs : Array Value} {T : TypeId} (hB : Blk w k cs T) (hc : cs.size ≤ 100) (h0 : 0 < l.length) : ∀ b off : Nat, A = some ⟨b, off, none⟩ → b ≠ k := by
  rintro b off rfl rfl
  obtain ⟨A', c', e', -, h2⟩ := h
  injection e' with ea eb ec
  subst ea
  obtain ⟨b', off', e3, -, h4⟩ := h2 h0
  cases e3
  have h6 := h4 128 (by have := hl h0; omega)
  simp only [World.cell?, hB.heap] at h6
  rw [Array.getElem?_eq_none (by omega)] at h6
  cases h6
theorem SeesL.but2 {w w' : World} {A : Option Addr} {n cap k : Nat} {l : List Int} (h : SeesL w (.slice A n cap) l) (hB : But [k] w w') (hx : 0 < l.length → ∀ b off : Nat, A = some ⟨b, off, none⟩ → b ≠ k) : SeesL w' (.slice A n cap) l := by
  by_cases h0 : 0 < l.length
  · exact h.but hB (hx h0)
  · obtain ⟨A', c', e', h1, h2⟩ := h
    exact ⟨A', c', e', h1, fun h => absurd h h0⟩
theorem SeesL.but1 {w w' : World} {A : Option Addr} {n cap k : Nat} {l : List Int} (h : SeesL w (.slice A n cap) l) (hB : But [k] w w') (hx : ∀ b off : Nat, A = some ⟨b, off, none⟩ → b ≠ k) : SeesL w' (.slice A n cap) l := h.but hB hx
theorem But.low {w w1 w2 : World} {x k : Nat} (h : But [x] w w1) (h2 : But [k] w1 w2) (hk : w.heap.size ≤ k) : But [x] w w2 :=
  ⟨h2.os.trans h.os, h2.tape.trans h.tape, h2.output.trans h.output, Nat.le_trans h.size h2.size, fun i hi hc => (h2.block i (Nat.lt_of_lt_of_le hi h.size) (by simp; omega)).trans (h.block i hi hc)⟩
set_option maxHeartbeats 4000000 in
theorem rpslow_on {who P T G p : Int} {d : RpD} (hd : d.gv.length = 128) (hp : 0 ≤ P ∧ P ≤ 64) (hT : 0 ≤ T ∧ T ≤ 65536) (hG : 0 ≤ G ∧ G ≤ 65536) (hw : 0 ≤ who ∧ who ≤ 300)
    {w : World} {x : Nat} {A B : Option Addr} {cap cp m : Nat} {g : Nat → Int} {s0 : RpT} {j : Nat} {Q : RpT → Prop} (hs : SeesL w (.slice B d.all.length cp) d.all) (hsx : ∀ b off : Nat, B = some ⟨b, off, none⟩ → b ≠ x) (hR : RunOn w x A cap m g ((rpPM who P p (fun y => wd (20 + P * 264 + T * 3) G 2 y 1)).rj s0 g m j)) (hS : Syn (rpPM who P p (fun y => wd (20 + P * 264 + T * 3) G 2 y 1)) s0 g m j (.acq d .fresh) Q) (hb : ∀ j, j < m → 0 ≤ g j ∧ g j ≤ 18446744073709551615) :
    Calls Tryz.prog 64 #[.pointer (some ⟨x, 0, none⟩), .agg #[.int .i64 P, .int .i64 T, .int .i64 G], .int .i64 who, .slice B d.all.length cp] w fun e w' => RpGot (rpPM who P p (fun y => wd (20 + P * 264 + T * 3) G 2 y 1)) d w x A cap m g s0 Q j e w' := by
  have hall := RpD.all_len' hd
  have hb2 : Below w.heap.size w ((w.alloc (.cells #[.int .i64 P, .int .i64 T, .int .i64 G] 23)).alloc (.cells #[.slice none 0 0, .int .i64 0] 51)) := ((Below.refl _ _).alloc (Nat.le_refl _) _).alloc (by rw [World.size_alloc]; omega) _
  have hB1 := Blk.new w #[.int .i64 P, .int .i64 T, .int .i64 G] 23
  have HX : Hid (Blk ((w.alloc (.cells #[.int .i64 P, .int .i64 T, .int .i64 G] 23)).alloc (.cells #[.slice none 0 0, .int .i64 0] 51)) w.heap.size #[.int .i64 P, .int .i64 T, .int .i64 G] 23) := hB1.but (l := []) (But.of_below ((Below.refl _ _).alloc (Nat.le_refl _) _)) (by simp)
  have HY : Hid (Blk ((w.alloc (.cells #[.int .i64 P, .int .i64 T, .int .i64 G] 23)).alloc (.cells #[.slice none 0 0, .int .i64 0] 51)) (w.heap.size + 1) #[.slice none 0 0, .int .i64 0] 51) := by
    have := Blk.new (w.alloc (.cells #[.int .i64 P, .int .i64 T, .int .i64 G] 23)) #[.slice none 0 0, .int .i64 0] 51
    rw [World.size_alloc] at this
    exact this
  have hxw := hR.blk.lt
  have HB0 : Hid (But [x] w ((w.alloc (.cells #[.int .i64 P, .int .i64 T, .int .i64 G] 23)).alloc (.cells #[.slice none 0 0, .int .i64 0] 51))) := But.of_below hb2
  have hA := syn_acquire (rp_acqIn who P p (fun y => wd (20 + P * 264 + T * 3) G 2 y 1) d) (by omega) hw (hR.below hb2) hS hb
  have HQI : Hid (QpIn (rpPM who P p (fun y => wd (20 + P * 264 + T * 3) G 2 y 1)) (fun y => wd (20 + P * 264 + T * 3) G 2 y 1) d.all (rpQue d)) := rp_qpIn _ _ _ _ _
  have HRI : Hid (∀ q, RelIn (rpPM who P p (fun y => wd (20 + P * 264 + T * 3) G 2 y 1)) 0 (RpT.rel d q)) := fun q => rp_relIn _ _ _ _ _ q
  have HSQ : Hid (∀ {M : PM RpT} {w : World} {j : Nat} {Q : RpT → Prop}, QpIn M (fun y => wd (20 + P * 264 + T * 3) G 2 y 1) d.all (rpQue d) → SeesL w (.slice B d.all.length cp) d.all → RunOn w x A cap m g (M.rj s0 g m j) → Syn M s0 g m j (rpQue d (qpStart d.all)) Q → Calls Tryz.prog 110 #[.pointer (some ⟨x, 0, none⟩), .agg #[.int .i64 P, .int .i64 T, .int .i64 G], .slice B d.all.length cp] w fun e w' => QpGot M (rpQue d) d.all w x A cap m g s0 Q j e w') := fun hE hs hR hS => syn_qput hE hp hT hG (by omega) hs (fun _ => hsx) hR hS hb
  have HBD : Hid (∀ j, j < m → 0 ≤ g j ∧ g j ≤ 18446744073709551615) := hb
  have HSE : Hid (SeesL ((w.alloc (.cells #[.int .i64 P, .int .i64 T, .int .i64 G] 23)).alloc (.cells #[.slice none 0 0, .int .i64 0] 51)) (.slice B d.all.length cp) d.all ∧ ∀ b off : Nat, B = some ⟨b, off, none⟩ → b ≠ x) := ⟨hs.below hb2, hsx⟩
  have HST0 : qpStart d.all = .ch 0 := if_neg (fun h => by rw [h] at hall; cases hall)
  generalize rpPM who P p (fun y => wd (20 + P * 264 + T * 3) G 2 y 1) = M at *
  generalize d.all.length = n at *
  subst hall
  have HGF : Hid (GotFar A [w.heap.size + 1]) := (fun b e hm => by
    simp at hm
    rcases hR.got.form with ⟨e0, _⟩ | ⟨gb, e0, hl⟩
    · rw [e0] at e; cases e
    · rw [e0] at e; cases e; omega)
  have HSF : Hid (∀ b off : Nat, B = some ⟨b, off, none⟩ → b ≠ w.heap.size + 1) := (fun b off e hm => by
    obtain ⟨A', cap', e', -, h2⟩ := hs
    injection e' with ea eb ec
    subst ea
    obtain ⟨b', off', e3, h3, -⟩ := h2 (by omega)
    rw [e3] at e; cases e; omega)
  clear hR hS hb hs hsx hp hT hG hb2 hB1
  go_enter Tryz.func64, Tryz.ntmps64
  go_wp2_with fail
  generalize (w.alloc (.cells #[.int .i64 P, .int .i64 T, .int .i64 G] 23)).alloc (.cells #[.slice none 0 0, .int .i64 0] 51) = W at *
  go_at_call 87; refine hA.mono ?_; rintro e y1 ⟨⟨u, rfl⟩, j1, tt, hR, hS, hB, hj1⟩
  have hX1 : Blk y1 w.heap.size #[.int .i64 P, .int .i64 T, .int .i64 G] 23 := HX.out.but hB (by simp; omega)
  have HY1 : Hid (Blk y1 (w.heap.size + 1) #[.slice none 0 0, .int .i64 0] 51) := HY.out.but hB (by simp; omega)
  have HB1 : Hid (But [x] w y1) := HB0.out.trans hB
  have HS1 : Hid (Syn M s0 g m j1 (.que d (.ch 0)) (RpQ Q d d.all)) := Syn.weak hS (fun r hr => by
    rcases hr with hr | ⟨p', hp', rfl⟩
    · exact .inl ⟨hr, rfl⟩
    · cases p' with
      | over t => exact absurd rfl (hp' t)
      | fresh => exact rpQ_acq _
      | wait t => exact rpQ_acq _
      | has t => exact rpQ_acq _)
  have HR1 : Hid (RunOn y1 x A cap m g (M.rj s0 g m j1)) := hR
  have HSE1 : Hid (SeesL y1 (.slice B 129 cp) d.all) := HSE.out.1.but hB HSE.out.2
  have sc := hR.blk.cell 2 (v := .bool (M.rj s0 g m j1).stop) rfl
  rw [rj_stop hS] at sc
  clear hA hR hS hB HX HY HB0
  have k0 := hX1.cell 0 (v := .int .i64 P) rfl
  have k1 := hX1.cell 1 (v := .int .i64 T) rfl
  have k2 := hX1.cell 2 (v := .int .i64 G) rfl
  clear hX1
  by_cases hst : m < j1
  · rw [decide_eq_true hst] at sc
    have HST : Hid (m < j1) := hst
    have hRl := syn_release (HRI.out .over) (by omega) HR1.out (HS1.out.as (t' := .rel d .over .fresh) (fun h => absurd hst (by omega))) HBD.out
    clear hst k0 k1 k2
    go_wp2_with fail
    go_at_call 79; refine hRl.mono ?_; rintro e y9 ⟨⟨u9, rfl⟩, j9, hR9, hS9, hB9, hj9⟩
    have hY9 := HY1.out.but hB9 (by simp; omega)
    have HF : Hid (SeesL y9 (.slice B 129 cp) d.all ∧ RunOn y9 x A cap m g (M.rj s0 g m j9) ∧ Syn M s0 g m j9 (.rel d .over .over) (RpQ Q d d.all) ∧ But [x] w y9 ∧ j ≤ j9 ∧ m < j9) := ⟨HSE1.out.but hB9 HSE.out.2, hR9, ⟨hS9.at', fun _ => HS1.out.past HST.out⟩, HB1.out.trans hB9, Nat.le_trans hj1 hj9, Nat.lt_of_lt_of_le HST.out hj9⟩
    have d0 := hY9.cell 0 (v := .slice none 0 0) rfl
    have d1 := hY9.cell 1 (v := .int .i64 0) rfl
    have e0 := hY9.fro 0
    have e1 := hY9.fro 1
    clear hRl hR9 hS9 hB9
    go_wp2_with fail
    have hU : But [w.heap.size + 1] y9 ((y9.setCell ⟨w.heap.size + 1, 0, none⟩ (.slice B 129 cp)).setCell ⟨w.heap.size + 1, 1, none⟩ (.int .i64 129)) := ((But.refl _ y9).set (g := w.heap.size + 1) (.inl (by simp)) 0 _).set (g := w.heap.size + 1) (.inl (by simp)) 1 _
    have hZ := (hY9.set 0 (.slice B 129 cp)).set 1 (.int .i64 129)
    have g0 := hZ.cell 0 (v := .slice B 129 cp) rfl
    have g1 := hZ.cell 1 (v := .int .i64 129) rfl
    have HU : Hid (But [w.heap.size + 1] y9 ((y9.setCell ⟨w.heap.size + 1, 0, none⟩ (.slice B 129 cp)).setCell ⟨w.heap.size + 1, 1, none⟩ (.int .i64 129))) := hU
    generalize (y9.setCell ⟨w.heap.size + 1, 0, none⟩ (.slice B 129 cp)).setCell ⟨w.heap.size + 1, 1, none⟩ (.int .i64 129) = z at *
    have hfr : z.heap[w.heap.size + 1]? = some (.cells #[.slice B 129 cp, .int .i64 129] 51 (0, 0)) := hZ.heap
    clear hU d0 d1 e0 e1 hY9
    refine bodyPost_ret (v := .agg #[.slice B 129 cp, .int .i64 129]) (results_cell_row rfl _ _ (w.heap.size + 1) 51 #[.slice B 129 cp, .int .i64 129] _ _ rfl hfr Tryz.underlying51 rfl (by kernel_rfl)) rfl ?_
    obtain ⟨f1, f2, f3, f4, f5, f6⟩ := HF.out
    exact ⟨.slice B 129 cp, d.all, j9, .over, rfl, f1.but1 HU.out HSF.out, f2.but HU.out (by simp; omega) HGF.out, f3, fun h => absurd h (by omega), But.low f4 HU.out (by omega), f5⟩
  · rw [decide_eq_false hst] at sc
    have HST : Hid (j1 ≤ m) := (by omega : j1 ≤ m)
    have hQ := HSQ.out HQI.out HSE1.out HR1.out (by rw [HST0]; exact HS1.out)
    clear hst
    go_wp2_with fail
    go_at_call 110; refine hQ.mono ?_; rintro e y5 ⟨v, held, j5, p5, rfl, q1, q2, q3, q4, q5, q6, q7⟩
    have hY5 := HY1.out.but q6 (by simp; omega)
    have hheld : held = d.all ∨ held = [] := by
      by_cases h5 : m < j5
      · exact qpQ_held (q3.past h5).1
      · rw [q5 (by omega)]; split <;> simp
    obtain ⟨B5, cp5, hv5⟩ : ∃ B5 cp5, v = .slice B5 held.length cp5 := by obtain ⟨A', c', e', -, -⟩ := q1; exact ⟨A', c', e'⟩
    subst hv5
    have hl129 : 0 < held.length → held.length = 129 := fun h0 => by
      rcases hheld with h | h
      · rw [h]; exact RpD.all_len' hd
      · rw [h] at h0; cases h0
    have HV5 : Hid ((0 < held.length → ∀ b off : Nat, B5 = some ⟨b, off, none⟩ → b ≠ w.heap.size + 1) ∧ (0 < held.length → ∀ b off : Nat, B5 = some ⟨b, off, none⟩ → b ≠ x)) := ⟨sees_far q1 hl129 hY5 (by simp), sees_far q1 hl129 q2.blk (by simp [runCells])⟩
    have hQQ : ∀ hm : m < j5, RpQ Q d held (M.run s0 g m) := fun hm => rpQ_qp (q3.past hm).1
    have hRl := syn_release (HRI.out p5) (by omega) q2 (q3.as (t' := .rel d p5 .fresh) (fun _ => rpQue_over q4)) HBD.out
    have HH5 : Hid (SeesL y5 (.slice B5 held.length cp5) held ∧ (∀ hm : m < j5, RpQ Q d held (M.run s0 g m)) ∧ (j5 ≤ m → held = if p5.lies = true then [] else d.all) ∧ But [x] w y5 ∧ j1 ≤ j5) := ⟨q1, hQQ, q5, HB1.out.trans q6, q7⟩
    clear hQ k0 k1 k2 sc q1 q2 q3 q5 q6 q7 hheld hQQ
    go_wp2_with fail
    go_at_call 79; refine hRl.mono ?_; rintro e y9 ⟨⟨u9, rfl⟩, j9, hR9, hS9, hB9, hj9⟩
    have hY9 := hY5.but hB9 (by simp; omega)
    have HF : Hid (SeesL y9 (.slice B5 held.length cp5) held ∧ RunOn y9 x A cap m g (M.rj s0 g m j9) ∧ Syn M s0 g m j9 (.rel d p5 .over) (RpQ Q d held) ∧ (j9 ≤ m → held = if p5.lies = true then [] else d.all) ∧ But [x] w y9 ∧ j ≤ j9) := by
      obtain ⟨q1, hQQ, q5, q6, q7⟩ := HH5.out
      refine ⟨q1.but2 hB9 HV5.out.2, hR9, ⟨hS9.at', fun hm => ⟨?_, (hS9.past hm).2⟩⟩, fun h => q5 (by omega), q6.trans hB9, by omega⟩
      by_cases h5 : m < j5
      · exact hQQ h5
      · have hh := q5 (by omega)
        rcases (hS9.past hm).1 with h | h | h
        · exact rpQ_qp h
        · rw [h]; exact rpQ_rel p5 _ hh
        · rw [h]; exact rpQ_rel p5 _ hh
    have d0 := hY9.cell 0 (v := .slice none 0 0) rfl
    have d1 := hY9.cell 1 (v := .int .i64 0) rfl
    have e0 := hY9.fro 0
    have e1 := hY9.fro 1
    generalize hnn : held.length = hn at *
    clear hRl hR9 hS9 hB9 HH5
    go_wp2_with fail
    have hU : But [w.heap.size + 1] y9 ((y9.setCell ⟨w.heap.size + 1, 0, none⟩ (.slice B5 hn cp5)).setCell ⟨w.heap.size + 1, 1, none⟩ (.int .i64 129)) := ((But.refl _ y9).set (g := w.heap.size + 1) (.inl (by simp)) 0 _).set (g := w.heap.size + 1) (.inl (by simp)) 1 _
    have hZ := (hY9.set 0 (.slice B5 hn cp5)).set 1 (.int .i64 129)
    have HU : Hid (But [w.heap.size + 1] y9 ((y9.setCell ⟨w.heap.size + 1, 0, none⟩ (.slice B5 hn cp5)).setCell ⟨w.heap.size + 1, 1, none⟩ (.int .i64 129))) := hU
    generalize (y9.setCell ⟨w.heap.size + 1, 0, none⟩ (.slice B5 hn cp5)).setCell ⟨w.heap.size + 1, 1, none⟩ (.int .i64 129) = z at *
    have hfr : z.heap[w.heap.size + 1]? = some (.cells #[.slice B5 hn cp5, .int .i64 129] 51 (0, 0)) := hZ.heap
    clear hU d0 d1 e0 e1 hY9
    refine bodyPost_ret (v := .agg #[.slice B5 hn cp5, .int .i64 129]) (results_cell_row rfl _ _ (w.heap.size + 1) 51 #[.slice B5 hn cp5, .int .i64 129] _ _ rfl hfr Tryz.underlying51 rfl (by kernel_rfl)) rfl ?_
    obtain ⟨f1, f2, f3, f4, f5, f6⟩ := HF.out
    exact ⟨.slice B5 hn cp5, held, j9, p5, rfl, f1.but2 HU.out (fun h0 => HV5.out.1 (by omega)), f2.but HU.out (by simp; omega) HGF.out, f3, f4, But.low f5 HU.out (by omega), f6⟩
end Go.Proofs.YtggbohakpkplkaaGreat

namespace Go.Proofs.YtggbohakpkplkaaGreat
open Go Go.RowKit
set_option linter.unusedVariables false
set_option maxRecDepth 100000
set_option linter.unusedSimpArgs false

/-- What was loaded is told back as it was. -/
theorem rpw_gw (v : Int) (hv : 0 ≤ v ∧ v ≤ 18446744073709551615) : rpw (gw v) = v := by
  rw [← gw_eq v hv]
  unfold rpw
  simp [IntKind.wrap, IntKind.bits, IntKind.signed, wrap64]
  repeat' split
  all_goals omega
theorem rp_steps {who P T G p : Int} {cl : Nat} (hw : 0 ≤ who ∧ who ≤ 1000000) (hp : 0 ≤ P ∧ P ≤ 64) (hT : 0 ≤ T ∧ T ≤ 65536) (hG : 0 ≤ G ∧ G ≤ 65536) :
    Steps (rpPM who P p (fun y => wd (20 + P * 264 + T * 3) G 2 y 1)) (rpCp who (fun y => wd (20 + P * 264 + T * 3) G 2 y 1) P T G p cl).I (Rd.lay cl P T G) 18 who :=
  Cp.steps (rp_laws hw hp hT hG) stepby_rput
theorem rp_good {who P T G p : Int} {cl : Nat} (hw : 0 ≤ who ∧ who ≤ 1000000) (hp : 0 ≤ P ∧ P ≤ 64) (hT : 0 ≤ T ∧ T ≤ 65536) (hG : 0 ≤ G ∧ G ≤ 65536) :
    (rpCp who (fun y => wd (20 + P * 264 + T * 3) G 2 y 1) P T G p cl).I.Good (rpPM who P p (fun y => wd (20 + P * 264 + T * 3) G 2 y 1)) :=
  Cp.good (rp_laws hw hp hT hG)
theorem rpQue_start (d : RpD) : rpQue d (qpStart d.all) = .que d (.ch 0) := by
  have e : qpStart d.all = .ch 0 := if_neg (by simp [RpD.all])
  rw [e]; rfl
end Go.Proofs.YtggbohakpkplkaaGreat
