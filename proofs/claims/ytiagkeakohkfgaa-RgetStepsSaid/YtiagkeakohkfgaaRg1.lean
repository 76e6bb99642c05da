/- The machine that gets from a ring: what follows each access. -/
import Derived.Test.YtiagkeakohkfgaaRg0
import Derived.Test.YtiagkeakohkfgaaGg0
import Derived.Test.YtiagkeakohkfgaaRunD
namespace Go.Proofs.Ytiagkeakohkfgaa
open Go Go.RowKit
set_option linter.unusedVariables false
set_option maxRecDepth 100000
set_option linter.unusedSimpArgs false

def rgCells (who : Int) (nx : Option Addr) (cl : Nat) (p : Int) (fr : Bool) (h wv : Int) (z ih : Bool) : Array Value := #[.int .i64 who, .pointer nx, .pointer (some ⟨cl, 0, none⟩), .int .i64 p, .bool fr, .int .u64 h, .int .u64 wv, .bool z, .bool ih]
section
variable (w : World) (x cl : Nat) (who p P T G h wv : Int) (fr z ih : Bool) (nx : Option Addr) (hB : Blk w x (rgCells who nx cl p fr h wv z ih) 148) (hl : Lay w cl P T G) (hp : 0 ≤ P ∧ P ≤ 64)
include hB hl hp
theorem rg_proc (f : Int) (hf : 0 ≤ f ∧ f < 8) : Calls Try.prog 128 #[.pointer (some ⟨x, 0, none⟩), .int .i64 f] w fun e w' => e = .returned (.int .i64 (wd 20 P 264 p f)) ∧ Below w.heap.size w w' := by
  have c2 := hB.cell 2 (v := .pointer (some ⟨cl, 0, none⟩)) rfl
  have c3 := hB.cell 3 (v := .int .i64 p) rfl
  have hPr := lprc_any (some ⟨cl, 0, none⟩) P T G p f w.drew (.some cl (hl.below ((Below.refl _ _).drew) hl.lt)) hp hf
  have hD : Hid (Below w.heap.size w w.drew) := (Below.refl _ _).drew
  generalize wd 20 P 264 p f = at' at *
  clear hB hl hp hf
  go_enter Try.func128, Try.ntmps128
  go_wp2_with fail
  go_region_with (first | (go_at_call 106; refine hPr.mono ?_; rintro e w4 ⟨rfl, k⟩))
  all_goals
    have hF : Hid (Below w.heap.size w w4) := hD.out.trans (k.mono hD.out.size)
    clear hPr k c2 c3
    go_wp2_with fail
    go_ret
    exact ⟨rfl, hF.out⟩
theorem rg_lookNext : Calls Try.prog 90 #[.pointer (some ⟨x, 0, none⟩)] w fun e w' => (∃ v, e = .returned v) ∧ Came w w' x (rgCells who nx cl p fr h wv z ih) 148 (axLd (wd 20 P 264 p 3)) (.told 130) := by
  have hPr := rg_proc w.drew x cl who p P T G h wv fr z ih nx hB.drew (hl.below ((Below.refl _ _).drew) hl.lt) hp 3 (by omega)
  have HS : Hid (∀ w4, Below w.drew.heap.size w.drew w4 → Calls Try.prog 105 #[.pointer (some ⟨x, 0, none⟩), .int .i64 (wd 20 P 264 p 3), .func (.func 130) #[.pointer (some ⟨x, 0, none⟩)] #[]] w4 fun e w' => (∃ v, e = .returned v) ∧ Came w w' x (rgCells who nx cl p fr h wv z ih) 148 (axLd (wd 20 P 264 p 3)) (.told 130)) := by
    intro w4 k
    have h4 : Blk w4 x (rgCells who nx cl p fr h wv z ih) 148 := hB.drew.but (But.of_below (l := []) k) (by simp)
    refine (came_load w4 x _ 148 h4 (by simp [rgCells]) _ _).mono ?_
    rintro e w5 ⟨hv, hC⟩
    exact ⟨hv, hC.before ((But.refl [x] w).drew.trans (But.of_below k))⟩
  generalize wd 20 P 264 p 3 = at' at *
  clear hB hl hp
  go_enter Try.func90, Try.ntmps90
  go_wp2_with fail
  go_region_with (first | (go_at_call 128; refine hPr.mono ?_; rintro e w4 ⟨rfl, k⟩) | (go_at_call 105; refine (HS.out _ k).mono ?_; rintro e w5 ⟨⟨v, rfl⟩, hC⟩))
  all_goals
    clear hPr k HS
    go_wp2_with fail
    go_end0
    exact ⟨⟨_, rfl⟩, hC⟩
theorem rg_lookHead : Calls Try.prog 89 #[.pointer (some ⟨x, 0, none⟩)] w fun e w' => (∃ v, e = .returned v) ∧ Came w w' x (rgCells who nx cl p fr h wv z ih) 148 (axLd (wd 20 P 264 p 1)) (.told 129) := by
  have hPr := rg_proc w.drew x cl who p P T G h wv fr z ih nx hB.drew (hl.below ((Below.refl _ _).drew) hl.lt) hp 1 (by omega)
  have HS : Hid (∀ w4, Below w.drew.heap.size w.drew w4 → Calls Try.prog 105 #[.pointer (some ⟨x, 0, none⟩), .int .i64 (wd 20 P 264 p 1), .func (.func 129) #[.pointer (some ⟨x, 0, none⟩)] #[]] w4 fun e w' => (∃ v, e = .returned v) ∧ Came w w' x (rgCells who nx cl p fr h wv z ih) 148 (axLd (wd 20 P 264 p 1)) (.told 129)) := by
    intro w4 k
    have h4 : Blk w4 x (rgCells who nx cl p fr h wv z ih) 148 := hB.drew.but (But.of_below (l := []) k) (by simp)
    refine (came_load w4 x _ 148 h4 (by simp [rgCells]) _ _).mono ?_
    rintro e w5 ⟨hv, hC⟩
    exact ⟨hv, hC.before ((But.refl [x] w).drew.trans (But.of_below k))⟩
  generalize wd 20 P 264 p 1 = at' at *
  clear hB hl hp
  go_enter Try.func89, Try.ntmps89
  go_wp2_with fail
  go_region_with (first | (go_at_call 128; refine hPr.mono ?_; rintro e w4 ⟨rfl, k⟩) | (go_at_call 105; refine (HS.out _ k).mono ?_; rintro e w5 ⟨⟨v, rfl⟩, hC⟩))
  all_goals
    clear hPr k HS
    go_wp2_with fail
    go_end0
    exact ⟨⟨_, rfl⟩, hC⟩
theorem rg_lookTail (v : Int) (hxc : cl ≠ x) : Calls Try.prog 129 #[.pointer (some ⟨x, 0, none⟩), .int .u64 v] w fun e w' => (∃ v, e = .returned v) ∧ Came w w' x (rgCells who nx cl p fr v wv z ih) 148 (axLd (wd 20 P 264 p 2)) (.told 163) := by
  have c5 := hB.cell 5 (v := .int .u64 h) rfl
  have hlt := hB.lt
  have f5 := hB.fro 5
  have hB' : Blk _ x (rgCells who nx cl p fr v wv z ih) 148 := hB.set 5 (.int .u64 v)
  have hU : But [x] w (w.setCell ⟨x, 5, none⟩ (.int .u64 v)) := (But.refl _ w).set (g := x) (.inl (by simp)) 5 _
  have hl' : Lay (w.setCell ⟨x, 5, none⟩ (.int .u64 v)) cl P T G := (hU.block cl hl.lt (by simpa using hxc)).trans hl
  generalize hV : w.setCell ⟨x, 5, none⟩ (.int .u64 v) = V at hB' hU hl'
  have hPr := rg_proc V.drew x cl who p P T G v wv fr z ih nx hB'.drew (hl'.below ((Below.refl _ _).drew) hl'.lt) hp 2 (by omega)
  have HS : Hid (∀ w4, Below V.drew.heap.size V.drew w4 → Calls Try.prog 105 #[.pointer (some ⟨x, 0, none⟩), .int .i64 (wd 20 P 264 p 2), .func (.func 163) #[.pointer (some ⟨x, 0, none⟩)] #[]] w4 fun e w' => (∃ v, e = .returned v) ∧ Came w w' x (rgCells who nx cl p fr v wv z ih) 148 (axLd (wd 20 P 264 p 2)) (.told 163)) := by
    intro w4 k
    have h4 : Blk w4 x (rgCells who nx cl p fr v wv z ih) 148 := hB'.drew.but (But.of_below (l := []) k) (by simp)
    refine (came_load w4 x _ 148 h4 (by simp [rgCells]) _ _).mono ?_
    rintro e w5 ⟨hv, hC⟩
    exact ⟨hv, hC.before (hU.drew.trans (But.of_below k))⟩
  generalize wd 20 P 264 p 2 = at' at *
  clear hB hB' hU hl' hl hp hxc
  go_enter Try.func129, Try.ntmps129
  go_wp2_with fail
  try rw [hV]
  clear hV c5 f5
  go_region_with (first | (go_at_call 128; refine hPr.mono ?_; rintro e w4 ⟨rfl, k⟩) | (go_at_call 105; refine (HS.out _ k).mono ?_; rintro e w5 ⟨⟨v, rfl⟩, hC⟩))
  all_goals
    clear hPr k HS
    go_wp2_with fail
    go_end0
    exact ⟨⟨_, rfl⟩, hC⟩
omit hl hp in
theorem rg_pass_end (hf : fr = true) : Calls Try.prog 164 #[.pointer (some ⟨x, 0, none⟩)] w fun e w' => (∃ v, e = .returned v) ∧ w = w' := by
  subst hf
  have c4 := hB.cell 4 (v := .bool true) rfl
  clear hB
  go_enter Try.func164, Try.ntmps164
  go_wp2_with fail
  go_end0
  exact ⟨⟨_, rfl⟩, rfl⟩
theorem rg_pass_on (hf : fr = false) : Calls Try.prog 164 #[.pointer (some ⟨x, 0, none⟩)] w fun e w' => (∃ v, e = .returned v) ∧ Came w w' x (rgCells who nx cl p fr h wv z ih) 148 (axLd (wd 20 P 264 p 1)) (.told 129) := by
  subst hf
  have c4 := hB.cell 4 (v := .bool false) rfl
  have H := rg_lookHead w x cl who p P T G h wv false z ih nx hB hl hp
  clear hB hl hp
  go_enter Try.func164, Try.ntmps164
  go_wp2_with fail
  go_at_call 89; refine H.mono ?_; rintro e w1 ⟨⟨v, rfl⟩, hC⟩
  clear H c4
  go_wp2_with fail
  go_end0
  exact ⟨⟨_, rfl⟩, hC⟩
omit hl hp in
theorem rg_next_end (hf : fr = true) : Calls Try.prog 130 #[.pointer (some ⟨x, 0, none⟩), .int .u64 0] w fun e w' => (∃ v, e = .returned v) ∧ w = w' := by
  subst hf
  have H := rg_pass_end w x cl who p h wv true z ih nx hB rfl
  clear hB
  go_enter Try.func130, Try.ntmps130
  go_wp2_with fail
  go_at_call 164; refine H.mono ?_; rintro e w1 ⟨⟨v, rfl⟩, hC⟩
  clear H
  go_wp2_with fail
  refine bodyPost_ret (results_none rfl _ _ _) rfl ?_
  exact ⟨⟨_, rfl⟩, hC⟩
omit hl hp in
theorem rg_hn_end (hf : fr = true) : Calls Try.prog 166 #[.pointer (some ⟨x, 0, none⟩), .bool false] w fun e w' => (∃ v, e = .returned v) ∧ w = w' := by
  subst hf
  have H := rg_pass_end w x cl who p h wv true z ih nx hB rfl
  clear hB
  go_enter Try.func166, Try.ntmps166
  go_wp2_with fail
  go_at_call 164; refine H.mono ?_; rintro e w1 ⟨⟨v, rfl⟩, hC⟩
  clear H
  go_wp2_with fail
  refine bodyPost_ret (results_none rfl _ _ _) rfl ?_
  exact ⟨⟨_, rfl⟩, hC⟩
theorem rg_next_on (hf : fr = false) : Calls Try.prog 130 #[.pointer (some ⟨x, 0, none⟩), .int .u64 0] w fun e w' => (∃ v, e = .returned v) ∧ Came w w' x (rgCells who nx cl p fr h wv z ih) 148 (axLd (wd 20 P 264 p 1)) (.told 129) := by
  subst hf
  have H := rg_pass_on w x cl who p P T G h wv false z ih nx hB hl hp rfl
  clear hB hl hp
  go_enter Try.func130, Try.ntmps130
  go_wp2_with fail
  go_at_call 164; refine H.mono ?_; rintro e w1 ⟨⟨v, rfl⟩, hC⟩
  clear H
  go_wp2_with fail
  refine bodyPost_ret (results_none rfl _ _ _) rfl ?_
  exact ⟨⟨_, rfl⟩, hC⟩
theorem rg_hn_on (hf : fr = false) : Calls Try.prog 166 #[.pointer (some ⟨x, 0, none⟩), .bool false] w fun e w' => (∃ v, e = .returned v) ∧ Came w w' x (rgCells who nx cl p fr h wv z ih) 148 (axLd (wd 20 P 264 p 1)) (.told 129) := by
  subst hf
  have H := rg_pass_on w x cl who p P T G h wv false z ih nx hB hl hp rfl
  clear hB hl hp
  go_enter Try.func166, Try.ntmps166
  go_wp2_with fail
  go_at_call 164; refine H.mono ?_; rintro e w1 ⟨⟨v, rfl⟩, hC⟩
  clear H
  go_wp2_with fail
  refine bodyPost_ret (results_none rfl _ _ _) rfl ?_
  exact ⟨⟨_, rfl⟩, hC⟩
theorem rg_next_some (v : Int) (hv : v ≠ 0) (hxc : cl ≠ x) : Calls Try.prog 130 #[.pointer (some ⟨x, 0, none⟩), .int .u64 v] w fun e w' => (∃ v, e = .returned v) ∧ Came w w' x (rgCells who nx cl p fr h v z ih) 148 (axSw (wd 20 P 264 p 3) v 0) (.swap 166) := by
  have c6 := hB.cell 6 (v := .int .u64 wv) rfl
  have hd : (v == 0) = false := by simpa using hv
  have hlt := hB.lt
  have f6 := hB.fro 6
  have hB' : Blk _ x (rgCells who nx cl p fr h v z ih) 148 := hB.set 6 (.int .u64 v)
  have hU : But [x] w (w.setCell ⟨x, 6, none⟩ (.int .u64 v)) := (But.refl _ w).set (g := x) (.inl (by simp)) 6 _
  have hl' : Lay (w.setCell ⟨x, 6, none⟩ (.int .u64 v)) cl P T G := (hU.block cl hl.lt (by simpa using hxc)).trans hl
  generalize hV : w.setCell ⟨x, 6, none⟩ (.int .u64 v) = V at hB' hU hl'
  have hPr := rg_proc V.drew x cl who p P T G h v fr z ih nx hB'.drew (hl'.below ((Below.refl _ _).drew) hl'.lt) hp 3 (by omega)
  have HS : Hid (∀ w4, Below V.drew.heap.size V.drew w4 → Calls Try.prog 165 #[.pointer (some ⟨x, 0, none⟩), .int .i64 (wd 20 P 264 p 3), .int .u64 v, .int .u64 0, .func (.func 166) #[.pointer (some ⟨x, 0, none⟩)] #[]] w4 fun e w' => (∃ v, e = .returned v) ∧ Came w w' x (rgCells who nx cl p fr h v z ih) 148 (axSw (wd 20 P 264 p 3) v 0) (.swap 166)) := by
    intro w4 k
    have h4 : Blk w4 x (rgCells who nx cl p fr h v z ih) 148 := hB'.drew.but (But.of_below (l := []) k) (by simp)
    refine (came_swap w4 x _ 148 h4 (by simp [rgCells]) _ _ _ _).mono ?_
    rintro e w5 ⟨hv, hC⟩
    exact ⟨hv, hC.before (hU.drew.trans (But.of_below k))⟩
  generalize wd 20 P 264 p 3 = at' at *
  clear hB hB' hU hl' hl hp hxc hv
  go_enter Try.func130, Try.ntmps130
  go_wp2_with fail
  try rw [hV]
  clear hV c6 f6
  go_region_with (first | (go_at_call 128; refine hPr.mono ?_; rintro e w4 ⟨rfl, k⟩) | (go_at_call 165; refine (HS.out _ k).mono ?_; rintro e w5 ⟨⟨v, rfl⟩, hC⟩))
  all_goals
    clear hPr k HS
    go_wp2_with fail
    go_end0
    exact ⟨⟨_, rfl⟩, hC⟩
omit hl hp in
theorem rg_hn_yes : Calls Try.prog 166 #[.pointer (some ⟨x, 0, none⟩), .bool true] w fun e w' => (∃ v, e = .returned v) ∧ Blk w' x (rgCells who nx cl p fr h wv true (!fr)) 148 ∧ But [x] w w' := by
  have c4 := hB.cell 4 (v := .bool fr) rfl
  have c7 := hB.cell 7 (v := .bool z) rfl
  have c8 := hB.cell 8 (v := .bool ih) rfl
  have f7 := hB.fro 7
  have f8 := hB.fro 8
  have hlt := hB.lt
  have g1 : Blk _ x (rgCells who nx cl p fr h wv true (!fr)) 148 := (hB.set 7 (.bool true)).set 8 (.bool (!fr))
  have g2 := ((But.refl [x] w).set (g := x) (.inl (by simp)) 7 (.bool true)).set (g := x) (.inl (by simp)) 8 (.bool (!fr))
  have HF : Hid (Blk ((w.setCell ⟨x, 7, none⟩ (.bool true)).setCell ⟨x, 8, none⟩ (.bool (!fr))) x (rgCells who nx cl p fr h wv true (!fr)) 148 ∧ But [x] w ((w.setCell ⟨x, 7, none⟩ (.bool true)).setCell ⟨x, 8, none⟩ (.bool (!fr)))) := ⟨g1, g2⟩
  clear hB g1 g2
  cases fr
  · go_enter Try.func166, Try.ntmps166
    go_wp2_with fail
    go_end0
    exact ⟨⟨_, rfl⟩, HF.out⟩
  · go_enter Try.func166, Try.ntmps166
    go_wp2_with fail
    go_end0
    exact ⟨⟨_, rfl⟩, HF.out⟩
omit hl hp in
theorem rg_have_yes : Calls Try.prog 188 #[.pointer (some ⟨x, 0, none⟩), .bool true] w fun e w' => (∃ v, e = .returned v) ∧ Blk w' x (rgCells who nx cl p fr h wv true ih) 148 ∧ But [x] w w' := by
  have c7 := hB.cell 7 (v := .bool z) rfl
  have f7 := hB.fro 7
  have hlt := hB.lt
  have HF : Hid (Blk (w.setCell ⟨x, 7, none⟩ (.bool true)) x (rgCells who nx cl p fr h wv true ih) 148 ∧ But [x] w (w.setCell ⟨x, 7, none⟩ (.bool true))) := ⟨hB.set 7 (.bool true), (But.refl [x] w).set (g := x) (.inl (by simp)) 7 (.bool true)⟩
  clear hB
  go_enter Try.func188, Try.ntmps188
  go_wp2_with fail
  go_end0
  exact ⟨⟨_, rfl⟩, HF.out⟩
theorem rg_have_no (hxc : cl ≠ x) : Calls Try.prog 188 #[.pointer (some ⟨x, 0, none⟩), .bool false] w fun e w' => (∃ v, e = .returned v) ∧ Came w w' x (rgCells who nx cl p fr h wv false ih) 148 (axLd (wd 20 P 264 p 1)) (.told 129) := by
  have c7 := hB.cell 7 (v := .bool z) rfl
  have hlt := hB.lt
  have f7 := hB.fro 7
  have hB' : Blk _ x (rgCells who nx cl p fr h wv false ih) 148 := hB.set 7 (.bool false)
  have hU : But [x] w (w.setCell ⟨x, 7, none⟩ (.bool false)) := (But.refl _ w).set (g := x) (.inl (by simp)) 7 _
  have hl' : Lay (w.setCell ⟨x, 7, none⟩ (.bool false)) cl P T G := (hU.block cl hl.lt (by simpa using hxc)).trans hl
  generalize hV : w.setCell ⟨x, 7, none⟩ (.bool false) = V at hB' hU hl'
  have H := rg_lookHead V x cl who p P T G h wv fr false ih nx hB' hl' hp
  have HU : Hid (But [x] w V) := hU
  clear hB hB' hl' hl hp hxc hU
  go_enter Try.func188, Try.ntmps188
  go_wp2_with fail
  try rw [hV]
  clear hV c7 f7
  go_at_call 89; refine H.mono ?_; rintro e w1 ⟨⟨v, rfl⟩, hC⟩
  have hCb := hC.before HU.out
  clear H hC
  go_wp2_with fail
  go_end0
  exact ⟨⟨_, rfl⟩, hCb⟩
set_option maxHeartbeats 2000000 in
theorem rg_take (v : Int) (hxc : cl ≠ x) (hh : 0 ≤ h ∧ h ≤ 18446744073709551615) : Calls Try.prog 179 #[.pointer (some ⟨x, 0, none⟩), .int .u64 v] w fun e w' => (∃ v, e = .returned v) ∧ Came w w' x (rgCells who nx cl p fr h v z ih) 148 (axSw (wd 20 P 264 p 1) h ((h + 1) % 4294967296)) (.swap 188) := by
  have c6 := hB.cell 6 (v := .int .u64 wv) rfl
  have hlt := hB.lt
  have f6 := hB.fro 6
  have hB' : Blk _ x (rgCells who nx cl p fr h v z ih) 148 := hB.set 6 (.int .u64 v)
  have hU : But [x] w (w.setCell ⟨x, 6, none⟩ (.int .u64 v)) := (But.refl _ w).set (g := x) (.inl (by simp)) 6 _
  have hl' : Lay (w.setCell ⟨x, 6, none⟩ (.int .u64 v)) cl P T G := (hU.block cl hl.lt (by simpa using hxc)).trans hl
  generalize hV : w.setCell ⟨x, 6, none⟩ (.int .u64 v) = V at hB' hU hl'
  have c5 := hB'.cell 5 (v := .int .u64 h) rfl
  obtain ⟨a, ha⟩ : ∃ a, IntKind.u64.wrap (h + 1) = a := ⟨_, rfl⟩
  have ha0 : 0 ≤ a ∧ a ≤ 18446744073709551615 := by rw [← ha]; simp [IntKind.wrap, IntKind.bits, IntKind.signed] <;> omega
  have e1 : a.tmod 4294967296 = (h + 1) % 4294967296 := by
    rw [Int.tmod_eq_emod_of_nonneg ha0.1, ← ha]; simp [IntKind.wrap, IntKind.bits, IntKind.signed] <;> omega
  have e2 : IntKind.u64.wrap ((h + 1) % 4294967296) = (h + 1) % 4294967296 := wrap_u64 (by omega)
  have hPr := rg_proc V.drew x cl who p P T G h v fr z ih nx hB'.drew (hl'.below ((Below.refl _ _).drew) hl'.lt) hp 1 (by omega)
  generalize hh1 : (h + 1) % 4294967296 = h1 at *
  have HS : Hid (∀ w4, Below V.drew.heap.size V.drew w4 → Calls Try.prog 165 #[.pointer (some ⟨x, 0, none⟩), .int .i64 (wd 20 P 264 p 1), .int .u64 h, .int .u64 h1, .func (.func 188) #[.pointer (some ⟨x, 0, none⟩)] #[]] w4 fun e w' => (∃ v, e = .returned v) ∧ Came w w' x (rgCells who nx cl p fr h v z ih) 148 (axSw (wd 20 P 264 p 1) h h1) (.swap 188)) := by
    intro w4 k
    have h4 : Blk w4 x (rgCells who nx cl p fr h v z ih) 148 := hB'.drew.but (But.of_below (l := []) k) (by simp)
    refine (came_swap w4 x _ 148 h4 (by simp [rgCells]) _ _ _ _).mono ?_
    rintro e w5 ⟨hv, hC⟩
    exact ⟨hv, hC.before (hU.drew.trans (But.of_below k))⟩
  have hH : Hid (V.drew.cell? ⟨x, 5, none⟩ = some (.int .u64 h)) := c5
  have KB : Hid (∀ w4, Below V.drew.heap.size V.drew w4 → w4.cell? ⟨x, 5, none⟩ = some (.int .u64 h)) := fun w4 k => (hB'.drew.but (But.of_below (l := []) k) (by simp)).cell 5 rfl
  generalize wd 20 P 264 p 1 = at' at *
  have KC : Hid (∀ w5, Came w w5 x (rgCells who nx cl p fr h v z ih) 148 (axSw at' h h1) (.swap 188) → w5.cell? ⟨x, 5, none⟩ = some (.int .u64 h)) := fun w5 hC => by
    obtain ⟨q, Lc, g1, -⟩ := hC
    exact g1.cell 5 rfl
  clear hB hB' hU hl' hl hp hxc hh hh1 ha0
  go_enter Try.func179, Try.ntmps179
  go_wp2_with fail
  try rw [hV]
  clear hV c6 f6
  go_region_held3 (fun w' => w'.cell? ⟨x, 5, none⟩ = some (.int .u64 h)) (first | exact hH.out | exact KB.out _ ‹_› | exact KC.out _ ‹_›) (first | (go_at_call 128; refine hPr.mono ?_; rintro e w4 ⟨rfl, k⟩) | (go_at_call 165; refine (HS.out _ ‹_›).mono ?_; rintro e w5 ⟨⟨v, rfl⟩, hC⟩))
  all_goals
    clear hPr k HS hH KB KC c5
    go_wp2_with fail
    go_end0
    exact ⟨⟨_, rfl⟩, hC⟩
set_option maxHeartbeats 2000000 in
theorem rg_choose_some (t : Int) (ht : 0 ≤ t ∧ t ≤ 18446744073709551615) (hh : 0 ≤ h ∧ h ≤ 18446744073709551615) (hm : 0 < (t - h) % 4294967296) : Calls Try.prog 163 #[.pointer (some ⟨x, 0, none⟩), .int .u64 t] w fun e w' => (∃ v, e = .returned v) ∧ Came w w' x (rgCells who nx cl p fr h wv z ih) 148 (axLd (wd 20 P 264 p (8 + h % 256))) (.told 179) := by
  have c2 := hB.cell 2 (v := .pointer (some ⟨cl, 0, none⟩)) rfl
  have c3 := hB.cell 3 (v := .int .i64 p) rfl
  have c5 := hB.cell 5 (v := .int .u64 h) rfl
  have hM := mny_any h t w hh ht
  have hPr := lrng_any (some ⟨cl, 0, none⟩) P T G p h w.drew (.some cl (hl.below ((Below.refl _ _).drew) hl.lt)) hp hh
  have HS : Hid (∀ w4, Below w.drew.heap.size w.drew w4 → Calls Try.prog 105 #[.pointer (some ⟨x, 0, none⟩), .int .i64 (wd 20 P 264 p (8 + h % 256)), .func (.func 179) #[.pointer (some ⟨x, 0, none⟩)] #[]] w4 fun e w' => (∃ v, e = .returned v) ∧ Came w w' x (rgCells who nx cl p fr h wv z ih) 148 (axLd (wd 20 P 264 p (8 + h % 256))) (.told 179)) := by
    intro w4 k
    have h4 : Blk w4 x (rgCells who nx cl p fr h wv z ih) 148 := hB.drew.but (But.of_below (l := []) k) (by simp)
    refine (came_load w4 x _ 148 h4 (by simp [rgCells]) _ _).mono ?_
    rintro e w5 ⟨hv, hC⟩
    exact ⟨hv, hC.before ((But.refl [x] w).drew.trans (But.of_below k))⟩
  have hd : decide (0 < (t - h) % 4294967296) = true := decide_eq_true hm
  generalize wd 20 P 264 p (8 + h % 256) = at' at *
  generalize (t - h) % 4294967296 = mm at *
  have hH : Hid (w.drew.cell? ⟨x, 2, none⟩ = some (.pointer (some ⟨cl, 0, none⟩)) ∧ w.drew.cell? ⟨x, 3, none⟩ = some (.int .i64 p) ∧ w.drew.cell? ⟨x, 5, none⟩ = some (.int .u64 h)) := ⟨c2, c3, c5⟩
  have KB : Hid (∀ w4, Below w.drew.heap.size w.drew w4 → w4.cell? ⟨x, 2, none⟩ = some (.pointer (some ⟨cl, 0, none⟩)) ∧ w4.cell? ⟨x, 3, none⟩ = some (.int .i64 p) ∧ w4.cell? ⟨x, 5, none⟩ = some (.int .u64 h)) := fun w4 k => by
    have h4 : Blk w4 x (rgCells who nx cl p fr h wv z ih) 148 := hB.drew.but (But.of_below (l := []) k) (by simp)
    exact ⟨h4.cell 2 rfl, h4.cell 3 rfl, h4.cell 5 rfl⟩
  have KC : Hid (∀ w5, Came w w5 x (rgCells who nx cl p fr h wv z ih) 148 (axLd at') (.told 179) → w5.cell? ⟨x, 2, none⟩ = some (.pointer (some ⟨cl, 0, none⟩)) ∧ w5.cell? ⟨x, 3, none⟩ = some (.int .i64 p) ∧ w5.cell? ⟨x, 5, none⟩ = some (.int .u64 h)) := fun w5 hC => by
    obtain ⟨q, Lc, h1, -⟩ := hC
    exact ⟨h1.cell 2 rfl, h1.cell 3 rfl, h1.cell 5 rfl⟩
  clear hB hl hp hh ht hm
  go_enter Try.func163, Try.ntmps163
  go_wp2_with fail
  go_at_call 139; refine hM.mono ?_; rintro e w1 ⟨rfl, rfl⟩
  clear hM
  go_wp2_with fail
  go_region_held3 (fun w' => w'.cell? ⟨x, 2, none⟩ = some (.pointer (some ⟨cl, 0, none⟩)) ∧ w'.cell? ⟨x, 3, none⟩ = some (.int .i64 p) ∧ w'.cell? ⟨x, 5, none⟩ = some (.int .u64 h)) (first | exact hH.out | exact KB.out _ ‹_› | exact KC.out _ ‹_›) (first | (go_at_call 104; refine hPr.mono ?_; rintro e w4 ⟨rfl, k⟩) | (go_at_call 105; refine (HS.out _ ‹_›).mono ?_; rintro e w5 ⟨⟨v, rfl⟩, hC⟩))
  all_goals
    clear hPr k HS hH KB KC c2 c3 c5
    go_wp2_with fail
    go_end0
    exact ⟨⟨_, rfl⟩, hC⟩
omit hl hp in
theorem rg_choose_end (t : Int) (ht : 0 ≤ t ∧ t ≤ 18446744073709551615) (hh : 0 ≤ h ∧ h ≤ 18446744073709551615) (hm : ¬ 0 < (t - h) % 4294967296) (hf : fr = false) : Calls Try.prog 163 #[.pointer (some ⟨x, 0, none⟩), .int .u64 t] w fun e w' => (∃ v, e = .returned v) ∧ w = w' := by
  subst hf
  have c4 := hB.cell 4 (v := .bool false) rfl
  have c5 := hB.cell 5 (v := .int .u64 h) rfl
  have hM := mny_any h t w hh ht
  have hd : decide (0 < (t - h) % 4294967296) = false := decide_eq_false hm
  generalize (t - h) % 4294967296 = mm at *
  clear hB hh ht hm
  go_enter Try.func163, Try.ntmps163
  go_wp2_with fail
  go_at_call 139; refine hM.mono ?_; rintro e w1 ⟨rfl, rfl⟩
  clear hM
  go_wp2_with fail
  go_end0
  exact ⟨⟨_, rfl⟩, rfl⟩
theorem rg_choose_on (t : Int) (ht : 0 ≤ t ∧ t ≤ 18446744073709551615) (hh : 0 ≤ h ∧ h ≤ 18446744073709551615) (hm : ¬ 0 < (t - h) % 4294967296) (hf : fr = true) : Calls Try.prog 163 #[.pointer (some ⟨x, 0, none⟩), .int .u64 t] w fun e w' => (∃ v, e = .returned v) ∧ Came w w' x (rgCells who nx cl p fr h wv z ih) 148 (axLd (wd 20 P 264 p 3)) (.told 130) := by
  subst hf
  have c4 := hB.cell 4 (v := .bool true) rfl
  have c5 := hB.cell 5 (v := .int .u64 h) rfl
  have hM := mny_any h t w hh ht
  have H := rg_lookNext w x cl who p P T G h wv true z ih nx hB hl hp
  have hd : decide (0 < (t - h) % 4294967296) = false := decide_eq_false hm
  generalize (t - h) % 4294967296 = mm at *
  clear hB hl hp hh ht hm
  go_enter Try.func163, Try.ntmps163
  go_wp2_with fail
  go_at_call 139; refine hM.mono ?_; rintro e w1 ⟨rfl, rfl⟩
  clear hM
  go_wp2_with fail
  go_at_call 90; refine H.mono ?_; rintro e w1 ⟨⟨v, rfl⟩, hC⟩
  clear H c4 c5
  go_wp2_with fail
  go_end0
  exact ⟨⟨_, rfl⟩, hC⟩
end
end Go.Proofs.Ytiagkeakohkfgaa
