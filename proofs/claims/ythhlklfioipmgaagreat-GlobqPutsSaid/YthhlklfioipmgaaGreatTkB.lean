/- The machine that takes for a processor: how it begins. -/
import Derived.Test.YthhlklfioipmgaaGreatTkA
namespace Go.Proofs.YthhlklfioipmgaaGreat
open Go Go.RowKit
set_option linter.unusedVariables false
set_option maxRecDepth 100000
set_option linter.unusedSimpArgs false

set_option maxHeartbeats 4000000 in
theorem take_begin (w : World) (x cl : Nat) (who p most left tl P T G v0 : Int) (nx f o : Option Addr) (hp : 1 ≤ P ∧ P ≤ 64) (hlay : Lay w cl P T G) (hv : 0 ≤ v0 ∧ v0 ≤ 18446744073709551615) (hm : -9223372036854775808 ≤ most ∧ most ≤ 9223372036854775807) (hT : 0 ≤ T ∧ T ≤ 65536) (hG : 0 ≤ G ∧ G ≤ 65536) (h : Blk w x (tkCells who nx cl p most left f o tl) 142) (hv0 : v0 ≠ 0) :
    Calls Tryz.prog 124 #[.pointer (some ⟨x, 0, none⟩), .int .u64 v0] w fun e w' => (∃ v, e = .returned v) ∧ ∃ y L q g, CameBox w w' x (tkCells who nx cl p most (shareOf P most v0) (some ⟨y, 0, none⟩) o tl) 142 (fun v => comCells 0 0 0 0 0 false (.iface 64 (.pointer (some ⟨y, 0, none⟩))) v false false) (.func (.func 158) #[.pointer (some ⟨x, 0, none⟩)] #[]) q g ∧ (plFl who cl).I (plPM (fun y => wd (20 + P * 264 + T * 3) G 2 y 1)) w' y .ld L ∧ (∀ k ∈ L, w.heap.size ≤ k) ∧ q ∉ L ∧ g ∉ L := by
  have HGD : Hid (((plFl who cl).I (plPM (fun y => wd (20 + P * 264 + T * 3) G 2 y 1))).Good (plPM (fun y => wd (20 + P * 264 + T * 3) G 2 y 1))) := Fl.good (pl_laws who P T G cl ⟨by omega, hp.2⟩ hT hG)
  generalize (fun y => wd (20 + P * 264 + T * 3) G 2 y 1) = gl at *
  clear hT hG
  have hSh := take_share w x cl who p most left tl P T G v0 nx f o h hlay hp hv hm
  have hlt := h.lt
  have hd : (v0 == 0) = false := by simpa using hv0
  have HH : Hid (∀ Y, Below w.heap.size w Y → Blk Y x (tkCells who nx cl p most left f o tl) 142) := fun Y k => h.but (But.of_below (l := []) k) (by simp)
  have HQ : Hid (∀ Y, Below w.heap.size w Y → Y.cell? ⟨x, 5, none⟩ = some (.int .u64 left) ∧ Y.frozen? ⟨x, 5, none⟩ = false ∧ x < Y.heap.size) := fun Y k => ⟨(HH.out Y k).cell 5 rfl, (HH.out Y k).fro 5, (HH.out Y k).lt⟩
  generalize shareOf P most v0 = n at *
  clear h hlay hv hm hv0
  go_enter Tryz.func124, Tryz.ntmps124
  go_wp2_with fail
  go_at_call 155; refine hSh.mono ?_; rintro e w1 ⟨rfl, k1⟩
  obtain ⟨d5, g5, l5⟩ := HQ.out w1 k1
  have h2' : Blk _ x (tkCells who nx cl p most n f o tl) 142 := (HH.out w1 k1).set 5 (.int .u64 n)
  have hB2 : But [x] w (w1.setCell ⟨x, 5, none⟩ (.int .u64 n)) := (But.of_below k1).set (g := x) (.inl (by simp)) 5 _
  generalize hV2 : w1.setCell ⟨x, 5, none⟩ (.int .u64 n) = V2 at h2' hB2
  have HF : Hid _ := And.intro h2' hB2
  clear h2' hB2 HH HQ hSh k1
  go_wp2_with fail
  clear hV2 d5 g5 l5
  have hWho := who_any V2.drew x who (HF.out.1.drew.cell 0 rfl)
  have hN := pl_new V2.drew cl who gl
  have c2 := HF.out.1.cell 2 (v := .pointer (some ⟨cl, 0, none⟩)) rfl
  have HS : Hid (∀ w4, Below V2.drew.heap.size V2.drew w4 → w4.cell? ⟨x, 6, none⟩ = some (.pointer f) ∧ w4.frozen? ⟨x, 6, none⟩ = false ∧ x < w4.heap.size) := fun w4 k => by
    have h4 := HF.out.1.drew.but (But.of_below (l := []) k) (by simp)
    exact ⟨h4.cell 6 rfl, h4.fro 6, h4.lt⟩
  go_region_with (first | (go_at_call 156; refine hWho.mono ?_; rintro e w3 ⟨rfl, rfl⟩) | (go_at_call 25; refine hN.mono ?_; rintro e w4 ⟨y, L, rfl, i1, i2, i3, i4⟩; obtain ⟨d7, g7, l7⟩ := HS.out w4 i2))
  all_goals
    have h5 : Blk _ x (tkCells who nx cl p most n (some ⟨y, 0, none⟩) o tl) 142 := (HF.out.1.drew.but (But.of_below (l := []) i2) (by simp)).set 6 (.pointer (some ⟨y, 0, none⟩))
    have hB5 : But [x] w (w4.setCell ⟨x, 6, none⟩ (.pointer (some ⟨y, 0, none⟩))) := (HF.out.2.drew.trans (But.of_below i2)).set (g := x) (.inl (by simp)) 6 _
    have hsz : w.heap.size ≤ V2.drew.heap.size := HF.out.2.drew.size
    have hxL : x ∉ L := fun hm => absurd (i3 x hm) (by omega)
    have hi5 : (plFl who cl).I (plPM gl) (w4.setCell ⟨x, 6, none⟩ (.pointer (some ⟨y, 0, none⟩))) y .ld L := HGD.out.keep i1 ((But.refl [x] w4).set (g := x) (.inl (by simp)) 6 _) (fun k hk => by simp; rintro rfl; exact hxL hk)
    have hyx : y ≠ x := by omega
    generalize w4.setCell ⟨x, 6, none⟩ (.pointer (some ⟨y, 0, none⟩)) = W5 at *
    obtain ⟨ny, n1, n2⟩ := HGD.out.next hi5
    obtain ⟨a, rfl⟩ : ∃ a, ny = some a := by cases ny with | none => cases n2 | some a => exact ⟨a, rfl⟩
    have hf := frun_qpull W5.drew x y _ 142 (.func (.func 158) #[.pointer (some ⟨x, 0, none⟩)] #[]) a h5.drew (by simp [tkCells]) (.some _ _ _) hyx n1
    have c7 := h5.cell 6 (v := .pointer (some ⟨y, 0, none⟩)) rfl
    have HE : Hid (But [x] w W5.drew ∧ (plFl who cl).I (plPM gl) W5.drew y .ld L ∧ (∀ k ∈ L, w.heap.size ≤ k) ∧ (∀ k ∈ L, k < W5.drew.heap.size) ∧ x ∉ L) := ⟨hB5.drew, HGD.out.below hi5 (Below.refl _ _).drew, fun k hk => Nat.le_trans hsz (i3 k hk), fun k hk => HGD.out.lt hi5 k hk, hxL⟩
    clear h5 hB5 hi5 n1 n2 i1 i2 i3 i4 d7 g7 l7 HS hN hWho c2 HF hxL hsz
    go_wp2_with fail
    go_region_with (first | (go_at_call 157; refine hf.mono ?_; rintro e w6 ⟨⟨v, rfl⟩, q, g, hC⟩))
    all_goals
      have HZ : Hid (CameBox w w6 x (tkCells who nx cl p most n (some ⟨y, 0, none⟩) o tl) 142 (fun v => comCells 0 0 0 0 0 false (.iface 64 (.pointer (some ⟨y, 0, none⟩))) v false false) (.func (.func 158) #[.pointer (some ⟨x, 0, none⟩)] #[]) q g ∧ (plFl who cl).I (plPM gl) w6 y .ld L ∧ (∀ k ∈ L, w.heap.size ≤ k) ∧ q ∉ L ∧ g ∉ L) := by
        have q1 : W5.drew.heap.size ≤ q := hC.at'.fresh
        have g1 : W5.drew.heap.size ≤ g := hC.fresh
        exact ⟨hC.before HE.out.1, HGD.out.keep HE.out.2.1 hC.at'.but (fun k hk => by simp; rintro rfl; exact HE.out.2.2.2.2 hk), HE.out.2.2.1, fun hm => absurd (HE.out.2.2.2.1 q hm) (by omega), fun hm => absurd (HE.out.2.2.2.1 g hm) (by omega)⟩
      clear hf hC c7 HE
      go_wp2_with fail
      go_end0
      exact ⟨⟨_, rfl⟩, y, L, q, g, HZ.out⟩
end Go.Proofs.YthhlklfioipmgaaGreat
