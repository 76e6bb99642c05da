/- The machine that takes for a processor: contracts. -/
import Derived.Test.YthhlklfioipmgaaGreatRM4
import Derived.Test.YthhlklfioipmgaaGreatGq2
import Derived.Laws.Cover1
import Derived.Test.YthhlklfioipmgaaGreatRun_qpull
namespace Go.Proofs.YthhlklfioipmgaaGreat
open Go Go.RowKit
set_option linter.unusedVariables false
set_option maxRecDepth 100000
set_option linter.unusedSimpArgs false

def tkCells (who : Int) (nx : Option Addr) (cl : Nat) (p most left : Int) (f o : Option Addr) (tl : Int) : Array Value := #[.int .i64 who, .pointer nx, .pointer (some ⟨cl, 0, none⟩), .int .i64 p, .int .i64 most, .int .u64 left, .pointer f, .pointer o, .int .u64 tl]
theorem layproc2_any (o : Option Addr) (P T G n f : Int) (w : World) (h : LayO w P T G o) (hp : 0 ≤ P ∧ P ≤ 64) (hf : 0 ≤ f ∧ f < 8) : Calls Tryz.prog 137 #[.pointer o, .int .i64 n, .int .i64 f] w fun e w' => e = .returned (.int .i64 (wd 20 P 264 n f)) ∧ Below w.heap.size w w' := by
  have HL : Hid _ := h
  have d1 : decide (8 ≤ f) = false := decide_eq_false (by omega)
  clear h
  go_enter Tryz.func137, Tryz.ntmps137
  go_wp2_with fail
  go_at_call 139; refine (procs_any o P T G _ HL.out).mono ?_; rintro e w1 ⟨rfl, h1⟩
  go_wp2_with fail
  go_at_call 112; refine (word_any 20 P 264 n f _ (by omega) (by omega) (by omega)).mono ?_; rintro e w2 ⟨rfl, h2⟩
  have hb := seq h1 h2
  go_wp2_with fail
  go_ret
  exact ⟨rfl, hb⟩

theorem layring_any (o : Option Addr) (P T G n i : Int) (w : World) (h : LayO w P T G o) (hp : 0 ≤ P ∧ P ≤ 64) (hi : 0 ≤ i ∧ i ≤ 18446744073709551615) : Calls Tryz.prog 95 #[.pointer o, .int .i64 n, .int .u64 i] w fun e w' => e = .returned (.int .i64 (wd 20 P 264 n (8 + i % 256))) ∧ Below w.heap.size w w' := by
  have HL : Hid _ := h
  have e1 : i.tmod 256 = i % 256 := Int.tmod_eq_emod_of_nonneg (by omega)
  generalize hz : i % 256 = z at *
  have e2 : IntKind.i64.wrap z = z := by simp [IntKind.wrap, IntKind.bits, IntKind.signed]; omega
  have e3 : IntKind.i64.wrap (8 + z) = 8 + z := by simp [IntKind.wrap, IntKind.bits, IntKind.signed]; omega
  have hzb : 0 ≤ z ∧ z < 256 := by omega
  clear h hz hi
  go_enter Tryz.func95, Tryz.ntmps95
  go_wp2_with fail
  go_at_call 139; refine (procs_any o P T G _ HL.out).mono ?_; rintro e w1 ⟨rfl, h1⟩
  go_wp2_with fail
  go_at_call 112; refine (word_any 20 P 264 n (8 + z) _ (by omega) (by omega) (by omega)).mono ?_; rintro e w2 ⟨rfl, h2⟩
  have hb := seq h1 h2
  go_wp2_with fail
  go_ret
  exact ⟨rfl, hb⟩


/-- How many are taken of so many. -/
def shareOf (P most v : Int) : Int := if 0 < most then (if most < (if 128 < (if IntKind.u64.wrap (v / P + 1) < v then IntKind.u64.wrap (v / P + 1) else v) then 128 else (if IntKind.u64.wrap (v / P + 1) < v then IntKind.u64.wrap (v / P + 1) else v)) then most else (if 128 < (if IntKind.u64.wrap (v / P + 1) < v then IntKind.u64.wrap (v / P + 1) else v) then 128 else (if IntKind.u64.wrap (v / P + 1) < v then IntKind.u64.wrap (v / P + 1) else v))) else (if 128 < (if IntKind.u64.wrap (v / P + 1) < v then IntKind.u64.wrap (v / P + 1) else v) then 128 else (if IntKind.u64.wrap (v / P + 1) < v then IntKind.u64.wrap (v / P + 1) else v))
theorem take_share (w : World) (x cl : Nat) (who p most left tl P T G v : Int) (nx f o : Option Addr) (h : Blk w x (tkCells who nx cl p most left f o tl) 142) (hl : Lay w cl P T G) (hp : 1 ≤ P ∧ P ≤ 64) (hv : 0 ≤ v ∧ v ≤ 18446744073709551615) (hm : -9223372036854775808 ≤ most ∧ most ≤ 9223372036854775807) :
    Calls Tryz.prog 155 #[.pointer (some ⟨x, 0, none⟩), .int .u64 v] w fun e w' => e = .returned (.int .u64 (shareOf P most v)) ∧ Below w.heap.size w w' := by
  have c2 := h.cell 2 (v := .pointer (some ⟨cl, 0, none⟩)) rfl
  have c4 := h.cell 4 (v := .int .i64 most) rfl
  have hC := fun Y (hY : Below w.heap.size w Y) => config_any (some ⟨cl, 0, none⟩) P T G Y (.some cl (hl.below hY hl.lt))
  have HC : Hid _ := hC
  have e1 : IntKind.u64.wrap P = P := wrap_u64 (by omega)
  have e2 : (P == 0) = false := by simp; omega
  clear h hl hC
  go_enter Tryz.func155, Tryz.ntmps155
  go_wp2_with fail
  go_at_call 87; refine (HC.out w (Below.refl _ _)).mono ?_; rintro e w1 ⟨rfl, k1⟩
  have hf := field_c0
  clear HC c2
  have c4 : w1.cell? ⟨x, 4, none⟩ = some (.int .i64 most) := by
    rw [k1.cell (p := ⟨x, 4, none⟩) (cell_lt c4)]; exact c4
  go_wp2_with fail
  all_goals
    go_ret
    refine ⟨congrArg (fun z => Ending.returned (Value.int .u64 z)) ?_, k1⟩
    unfold shareOf
    (repeat' split) <;> first | rfl | omega

theorem take_more_end (w : World) (x cl : Nat) (who p most left tl : Int) (nx f o : Option Addr) (h : Blk w x (tkCells who nx cl p most left f o tl) 142) (hl : left ≤ 1) :
    Calls Tryz.prog 178 #[.pointer (some ⟨x, 0, none⟩)] w fun e w' => (∃ v, e = .returned v) ∧ Blk w' x (tkCells who nx cl p most left f none tl) 142 ∧ But [x] w w' := by
  have c7 := h.cell 7 (v := .pointer o) rfl
  have f7 := h.fro 7
  have hlt := h.lt
  have h' : Blk _ x (tkCells who nx cl p most left f none tl) 142 := h.set 7 (.pointer none)
  have hB : But [x] w (w.setCell ⟨x, 7, none⟩ (.pointer none)) := (But.refl _ w).set (g := x) (.inl (by simp)) 7 _
  have HF : Hid _ := And.intro h' hB
  have k5 := h'.cell 5 (v := .int .u64 left) rfl
  have hd : decide (left ≤ 1) = true := decide_eq_true hl
  clear h h' hB
  go_enter Tryz.func178, Tryz.ntmps178
  go_wp2_with fail
  refine bodyPost_ret (results_none rfl _ _ _) rfl ?_
  exact ⟨⟨_, rfl⟩, HF.out⟩
set_option maxHeartbeats 4000000 in
theorem take_more_on (w : World) (x cl : Nat) (who p most left tl P T G : Int) (nx f o : Option Addr) (hp : 0 ≤ P ∧ P ≤ 64) (hT : 0 ≤ T ∧ T ≤ 65536) (hG : 0 ≤ G ∧ G ≤ 65536) (h : Blk w x (tkCells who nx cl p most left f o tl) 142) (hl : 1 < left ∧ left ≤ 18446744073709551615) :
    Calls Tryz.prog 178 #[.pointer (some ⟨x, 0, none⟩)] w fun e w' => (∃ v, e = .returned v) ∧ ∃ y L q g, CameBox w w' x (tkCells who nx cl p most (left - 1) f (some ⟨y, 0, none⟩) tl) 142 (fun v => comCells 0 0 0 0 0 false (.iface 64 (.pointer (some ⟨y, 0, none⟩))) v false false) (.func (.func 195) #[.pointer (some ⟨x, 0, none⟩)] #[]) q g ∧ (plFl who cl).I (plPM (fun y => wd (20 + P * 264 + T * 3) G 2 y 1)) w' y .ld L ∧ (∀ k ∈ L, w.heap.size ≤ k) ∧ q ∉ L ∧ g ∉ L := by
  have HGD : Hid (((plFl who cl).I (plPM (fun y => wd (20 + P * 264 + T * 3) G 2 y 1))).Good (plPM (fun y => wd (20 + P * 264 + T * 3) G 2 y 1))) := Fl.good (pl_laws who P T G cl hp hT hG)
  generalize (fun y => wd (20 + P * 264 + T * 3) G 2 y 1) = gl at *
  clear hp hT hG
  have c7 := h.cell 7 (v := .pointer o) rfl
  have f7 := h.fro 7
  have hlt := h.lt
  have h' : Blk _ x (tkCells who nx cl p most left f none tl) 142 := h.set 7 (.pointer none)
  have hB : But [x] w (w.setCell ⟨x, 7, none⟩ (.pointer none)) := (But.refl _ w).set (g := x) (.inl (by simp)) 7 _
  generalize hV : w.setCell ⟨x, 7, none⟩ (.pointer none) = V at h' hB
  have k5 := h'.cell 5 (v := .int .u64 left) rfl
  have f5 := h'.fro 5
  have h2' : Blk _ x (tkCells who nx cl p most (left - 1) f none tl) 142 := h'.set 5 (.int .u64 (left - 1))
  have hB2 : But [x] w (V.setCell ⟨x, 5, none⟩ (.int .u64 (left - 1))) := hB.set (g := x) (.inl (by simp)) 5 _
  have e1 : IntKind.u64.wrap (left - 1) = left - 1 := wrap_u64 (by omega)
  have hd : decide (left ≤ 1) = false := decide_eq_false (by omega)
  have hltV := h'.lt
  generalize hV2 : V.setCell ⟨x, 5, none⟩ (.int .u64 (left - 1)) = V2 at h2' hB2
  have HF : Hid _ := And.intro h2' hB2
  clear h h' hB h2' hB2
  go_enter Tryz.func178, Tryz.ntmps178
  go_wp2_with fail
  clear hV hV2 c7 f7 k5 f5
  have hWho := who_any V2.drew x who (HF.out.1.drew.cell 0 rfl)
  have hN := pl_new V2.drew cl who gl
  have c2 := HF.out.1.cell 2 (v := .pointer (some ⟨cl, 0, none⟩)) rfl
  have HS : Hid (∀ w4, Below V2.drew.heap.size V2.drew w4 → w4.cell? ⟨x, 7, none⟩ = some (.pointer none) ∧ w4.frozen? ⟨x, 7, none⟩ = false ∧ x < w4.heap.size) := fun w4 k => by
    have h4 := HF.out.1.drew.but (But.of_below (l := []) k) (by simp)
    exact ⟨h4.cell 7 rfl, h4.fro 7, h4.lt⟩
  go_region_with (first | (go_at_call 156; refine hWho.mono ?_; rintro e w3 ⟨rfl, rfl⟩) | (go_at_call 25; refine hN.mono ?_; rintro e w4 ⟨y, L, rfl, i1, i2, i3, i4⟩; obtain ⟨d7, g7, l7⟩ := HS.out w4 i2))
  all_goals
    have h5 : Blk _ x (tkCells who nx cl p most (left - 1) f (some ⟨y, 0, none⟩) tl) 142 := (HF.out.1.drew.but (But.of_below (l := []) i2) (by simp)).set 7 (.pointer (some ⟨y, 0, none⟩))
    have hB5 : But [x] w (w4.setCell ⟨x, 7, none⟩ (.pointer (some ⟨y, 0, none⟩))) := (HF.out.2.drew.trans (But.of_below i2)).set (g := x) (.inl (by simp)) 7 _
    have hsz : w.heap.size ≤ V2.drew.heap.size := HF.out.2.drew.size
    have hxL : x ∉ L := fun hm => absurd (i3 x hm) (by omega)
    have hi5 : (plFl who cl).I (plPM gl) (w4.setCell ⟨x, 7, none⟩ (.pointer (some ⟨y, 0, none⟩))) y .ld L := HGD.out.keep i1 ((But.refl [x] w4).set (g := x) (.inl (by simp)) 7 _) (fun k hk => by simp; rintro rfl; exact hxL hk)
    have hyx : y ≠ x := by omega
    generalize w4.setCell ⟨x, 7, none⟩ (.pointer (some ⟨y, 0, none⟩)) = W5 at *
    obtain ⟨ny, n1, n2⟩ := HGD.out.next hi5
    obtain ⟨a, rfl⟩ : ∃ a, ny = some a := by cases ny with | none => cases n2 | some a => exact ⟨a, rfl⟩
    have hf := frun_qpull W5.drew x y _ 142 (.func (.func 195) #[.pointer (some ⟨x, 0, none⟩)] #[]) a h5.drew (by simp [tkCells]) (.some _ _ _) hyx n1
    have c7 := h5.cell 7 (v := .pointer (some ⟨y, 0, none⟩)) rfl
    have HE : Hid (But [x] w W5.drew ∧ (plFl who cl).I (plPM gl) W5.drew y .ld L ∧ (∀ k ∈ L, w.heap.size ≤ k) ∧ (∀ k ∈ L, k < W5.drew.heap.size) ∧ x ∉ L) := ⟨hB5.drew, HGD.out.below hi5 (Below.refl _ _).drew, fun k hk => Nat.le_trans hsz (i3 k hk), fun k hk => HGD.out.lt hi5 k hk, hxL⟩
    clear h5 hB5 hi5 n1 n2 i1 i2 i3 i4 d7 g7 l7 HS hN hWho c2 HF hxL hsz
    go_wp2_with fail
    go_region_with (first | (go_at_call 157; refine hf.mono ?_; rintro e w6 ⟨⟨v, rfl⟩, q, g, hC⟩))
    all_goals
      have HZ : Hid (CameBox w w6 x (tkCells who nx cl p most (left - 1) f (some ⟨y, 0, none⟩) tl) 142 (fun v => comCells 0 0 0 0 0 false (.iface 64 (.pointer (some ⟨y, 0, none⟩))) v false false) (.func (.func 195) #[.pointer (some ⟨x, 0, none⟩)] #[]) q g ∧ (plFl who cl).I (plPM gl) w6 y .ld L ∧ (∀ k ∈ L, w.heap.size ≤ k) ∧ q ∉ L ∧ g ∉ L) := by
        have q1 : W5.drew.heap.size ≤ q := hC.at'.fresh
        have g1 : W5.drew.heap.size ≤ g := hC.fresh
        exact ⟨hC.before HE.out.1, HGD.out.keep HE.out.2.1 hC.at'.but (fun k hk => by simp; rintro rfl; exact HE.out.2.2.2.2 hk), HE.out.2.2.1, fun hm => absurd (HE.out.2.2.2.1 q hm) (by omega), fun hm => absurd (HE.out.2.2.2.1 g hm) (by omega)⟩
      clear hf hC c7 HE
      go_wp2_with fail
      go_end0
      exact ⟨⟨_, rfl⟩, y, L, q, g, HZ.out⟩
theorem take_others_none (w : World) (x cl : Nat) (who p most left tl : Int) (nx f o : Option Addr) (h : Blk w x (tkCells who nx cl p most left f o tl) 142) (hg : ∀ Y, Below w.heap.size w Y → Calls Tryz.prog 28 #[.pointer f] Y fun e w' => e = .returned (.int .i64 (-1)) ∧ Y = w') : Calls Tryz.prog 158 #[.pointer (some ⟨x, 0, none⟩)] w fun e w' => (∃ v, e = .returned v) ∧ w = w' := by
  have c6 := h.cell 6 (v := .pointer f) rfl
  have H := hg w (Below.refl _ _)
  clear h hg
  go_enter Tryz.func158, Tryz.ntmps158
  go_wp2_with fail
  go_at_call 28; refine H.mono ?_; rintro e w1 ⟨rfl, rfl⟩
  clear H c6
  go_wp2_with fail
  go_end0
  exact ⟨⟨_, rfl⟩, rfl⟩
theorem take_others_some (w : World) (x cl : Nat) (who p most left tl g : Int) (nx f o : Option Addr) (h : Blk w x (tkCells who nx cl p most left f o tl) 142) (hg1 : g ≠ -1) (hg : ∀ Y, Below w.heap.size w Y → Calls Tryz.prog 28 #[.pointer f] Y fun e w' => e = .returned (.int .i64 g) ∧ Y = w') (R : World → Prop) (hm : Calls Tryz.prog 178 #[.pointer (some ⟨x, 0, none⟩)] w fun e w' => (∃ v, e = .returned v) ∧ R w') : Calls Tryz.prog 158 #[.pointer (some ⟨x, 0, none⟩)] w fun e w' => (∃ v, e = .returned v) ∧ R w' := by
  have c6 := h.cell 6 (v := .pointer f) rfl
  have H := hg w (Below.refl _ _)
  have hd : (g == -1) = false := by simpa using hg1
  clear h hg hg1
  go_enter Tryz.func158, Tryz.ntmps158
  go_wp2_with fail
  go_at_call 28; refine H.mono ?_; rintro e w1 ⟨rfl, rfl⟩
  clear H c6
  go_wp2_with fail
  go_at_call 178; refine hm.mono ?_; rintro e w2 ⟨⟨v, rfl⟩, hR⟩
  clear hm
  go_wp2_with fail
  go_end0
  exact ⟨⟨_, rfl⟩, hR⟩
end Go.Proofs.YthhlklfioipmgaaGreat
