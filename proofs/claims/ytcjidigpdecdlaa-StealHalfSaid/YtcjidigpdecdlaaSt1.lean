/- The machine that steals: where it lies, and what follows each access. -/
import Derived.Test.YtcjidigpdecdlaaRg0
import Derived.Test.YtcjidigpdecdlaaGg0
import Derived.Test.YtcjidigpdecdlaaRunD
import Derived.BigRegion
namespace Go.Proofs.Ytcjidigpdecdlaa
open Go Go.RowKit
set_option linter.unusedVariables false
set_option maxRecDepth 100000
set_option linter.unusedSimpArgs false

structure StD where
  tr : Int
  ta : Int
  he : Int
  lo : List Int
  n : Int
  co : Int
  st : Bool
  ld : Int
def stRest (d : StD) : List Value := d.lo.map (Value.int .i64) ++ [.int .i64 d.n, .int .i64 d.co, .bool d.st, .int .i64 d.ld]
def stC (who : Int) (nx : Option Addr) (cl : Nat) (p fr : Int) (la : Bool) (d : StD) : Array Value := (.int .i64 who :: .pointer nx :: .pointer (some ⟨cl, 0, none⟩) :: .int .i64 p :: .int .i64 fr :: .bool la :: .int .i64 d.tr :: .int .u64 d.ta :: .int .u64 d.he :: stRest d).toArray
section
variable {who : Int} {nx : Option Addr} {cl : Nat} {p fr : Int} {la : Bool} {d : StD}
theorem st_size : 2 ≤ (stC who nx cl p fr la d).size := by simp [stC]
theorem st_c0 : (stC who nx cl p fr la d)[0]? = some (.int .i64 who) := by simp [stC]
theorem st_c1 : (stC who nx cl p fr la d)[1]? = some (.pointer nx) := by simp [stC]
theorem st_c2 : (stC who nx cl p fr la d)[2]? = some (.pointer (some ⟨cl, 0, none⟩)) := by simp [stC]
theorem st_c3 : (stC who nx cl p fr la d)[3]? = some (.int .i64 p) := by simp [stC]
theorem st_c4 : (stC who nx cl p fr la d)[4]? = some (.int .i64 fr) := by simp [stC]
theorem st_c5 : (stC who nx cl p fr la d)[5]? = some (.bool la) := by simp [stC]
theorem st_c6 : (stC who nx cl p fr la d)[6]? = some (.int .i64 d.tr) := by simp [stC]
theorem st_c7 : (stC who nx cl p fr la d)[7]? = some (.int .u64 d.ta) := by simp [stC]
theorem st_c8 : (stC who nx cl p fr la d)[8]? = some (.int .u64 d.he) := by simp [stC]
theorem st_s1 (nx' : Option Addr) : (stC who nx cl p fr la d).setIfInBounds 1 (.pointer nx') = stC who nx' cl p fr la d := by simp [stC]
theorem st_s6 (v : Int) : (stC who nx cl p fr la d).setIfInBounds 6 (.int .i64 v) = stC who nx cl p fr la { d with tr := v } := by simp [stC, stRest]
theorem st_s7 (v : Int) : (stC who nx cl p fr la d).setIfInBounds 7 (.int .u64 v) = stC who nx cl p fr la { d with ta := v } := by simp [stC, stRest]
theorem st_s8 (v : Int) : (stC who nx cl p fr la d).setIfInBounds 8 (.int .u64 v) = stC who nx cl p fr la { d with he := v } := by simp [stC, stRest]
variable (h : d.lo.length = 128)
include h
theorem st_c137 : (stC who nx cl p fr la d)[137]? = some (.int .i64 d.n) := by
  unfold stC
  rw [List.getElem?_toArray]
  show (stRest d)[128]? = _
  unfold stRest
  rw [List.getElem?_append_right (by simp [h])]
  simp [h]
theorem st_s137 (v : Int) : (stC who nx cl p fr la d).setIfInBounds 137 (.int .i64 v) = stC who nx cl p fr la { d with n := v } := by
  unfold stC
  rw [List.setIfInBounds_toArray]
  congr 1
  show _ :: _ :: _ :: _ :: _ :: _ :: _ :: _ :: _ :: (stRest d).set 128 _ = _
  unfold stRest
  rw [List.set_append_right _ _ (by simp [h])]
  simp [h]
theorem st_c138 : (stC who nx cl p fr la d)[138]? = some (.int .i64 d.co) := by
  unfold stC
  rw [List.getElem?_toArray]
  show (stRest d)[129]? = _
  unfold stRest
  rw [List.getElem?_append_right (by simp [h])]
  simp [h]
theorem st_s138 (v : Int) : (stC who nx cl p fr la d).setIfInBounds 138 (.int .i64 v) = stC who nx cl p fr la { d with co := v } := by
  unfold stC
  rw [List.setIfInBounds_toArray]
  congr 1
  show _ :: _ :: _ :: _ :: _ :: _ :: _ :: _ :: _ :: (stRest d).set 129 _ = _
  unfold stRest
  rw [List.set_append_right _ _ (by simp [h])]
  simp [h]
theorem st_c139 : (stC who nx cl p fr la d)[139]? = some (.bool d.st) := by
  unfold stC
  rw [List.getElem?_toArray]
  show (stRest d)[130]? = _
  unfold stRest
  rw [List.getElem?_append_right (by simp [h])]
  simp [h]
theorem st_s139 (v : Bool) : (stC who nx cl p fr la d).setIfInBounds 139 (.bool v) = stC who nx cl p fr la { d with st := v } := by
  unfold stC
  rw [List.setIfInBounds_toArray]
  congr 1
  show _ :: _ :: _ :: _ :: _ :: _ :: _ :: _ :: _ :: (stRest d).set 130 _ = _
  unfold stRest
  rw [List.set_append_right _ _ (by simp [h])]
  simp [h]
theorem st_c140 : (stC who nx cl p fr la d)[140]? = some (.int .i64 d.ld) := by
  unfold stC
  rw [List.getElem?_toArray]
  show (stRest d)[131]? = _
  unfold stRest
  rw [List.getElem?_append_right (by simp [h])]
  simp [h]
theorem st_s140 (v : Int) : (stC who nx cl p fr la d).setIfInBounds 140 (.int .i64 v) = stC who nx cl p fr la { d with ld := v } := by
  unfold stC
  rw [List.setIfInBounds_toArray]
  congr 1
  show _ :: _ :: _ :: _ :: _ :: _ :: _ :: _ :: _ :: (stRest d).set 131 _ = _
  unfold stRest
  rw [List.set_append_right _ _ (by simp [h])]
  simp [h]
theorem st_loot (k : Nat) (hk : k < 128) : (stC who nx cl p fr la d)[9 + k]? = some (.int .i64 (d.lo.getD k 0)) := by
  unfold stC
  rw [List.getElem?_toArray, Nat.add_comm]
  show (stRest d)[k]? = _
  unfold stRest
  rw [List.getElem?_append_left (by simp [h]; omega), List.getElem?_map, List.getElem?_eq_getElem (by omega), List.getD_eq_getElem?_getD, List.getElem?_eq_getElem (by omega)]
  rfl
theorem st_sloot (k : Nat) (hk : k < 128) (v : Int) : (stC who nx cl p fr la d).setIfInBounds (9 + k) (.int .i64 v) = stC who nx cl p fr la { d with lo := d.lo.set k v } := by
  unfold stC
  rw [List.setIfInBounds_toArray, Nat.add_comm 9 k]
  congr 1
  show _ :: _ :: _ :: _ :: _ :: _ :: _ :: _ :: _ :: (stRest d).set k _ = _
  unfold stRest
  rw [List.set_append_left _ _ (by simp [h]; omega), List.map_set]
end
section
variable (w : World) (x cl : Nat) (who p fr P T G : Int) (la : Bool) (d : StD) (nx : Option Addr) (hB : Blk w x (stC who nx cl p fr la d) 66) (hl : Lay w cl P T G) (hp : 0 ≤ P ∧ P ≤ 64)
include hB hl hp
theorem st_other (f : Int) (hf : 0 ≤ f ∧ f < 8) : Calls Try.prog 41 #[.pointer (some ⟨x, 0, none⟩), .int .i64 f] w fun e w' => e = .returned (.int .i64 (wd 20 P 264 fr f)) ∧ Below w.heap.size w w' := by
  have c2 := hB.cell 2 st_c2
  have c4 := hB.cell 4 st_c4
  have hPr := lprc_any (some ⟨cl, 0, none⟩) P T G fr f w.drew (.some cl (hl.below ((Below.refl _ _).drew) hl.lt)) hp hf
  have hD : Hid (Below w.heap.size w w.drew) := (Below.refl _ _).drew
  generalize wd 20 P 264 fr f = at' at *
  clear hB hl hp hf
  go_enter Try.func41, Try.ntmps41
  go_wp2_with fail
  go_region_with (first | (go_at_call 22; refine hPr.mono ?_; rintro e w4 ⟨rfl, k⟩))
  all_goals
    have hF : Hid (Below w.heap.size w w4) := hD.out.trans (k.mono hD.out.size)
    clear hPr k c2 c4
    go_wp2_with fail
    go_ret
    exact ⟨rfl, hF.out⟩
omit hl hp in
theorem st_try_end (ht : d.tr = 3) : Calls Try.prog 36 #[.pointer (some ⟨x, 0, none⟩)] w fun e w' => (∃ v, e = .returned v) ∧ w = w' := by
  have c6 := hB.cell 6 st_c6
  rw [ht] at c6
  clear hB
  go_enter Try.func36, Try.ntmps36
  go_wp2_with fail
  refine bodyPost_ret (results_none rfl _ _ _) rfl ?_
  exact ⟨⟨_, rfl⟩, rfl⟩
theorem st_try_on (ht : 0 ≤ d.tr ∧ d.tr < 3) (hxc : cl ≠ x) : Calls Try.prog 36 #[.pointer (some ⟨x, 0, none⟩)] w fun e w' => (∃ v, e = .returned v) ∧ Came w w' x (stC who nx cl p fr la { d with tr := d.tr + 1 }) 66 (axLd (wd 20 P 264 fr 1)) (.told 42) := by
  have c6 := hB.cell 6 st_c6
  have e1 : wrap64 (d.tr + 1) = d.tr + 1 := by unfold wrap64; omega
  have e2 : (d.tr == 3) = false := by rw [beq_eq_false_iff_ne]; omega
  have e3 : ¬ d.tr = 3 := by omega
  have hlt := hB.lt
  have f6 := hB.fro 6
  have hB' : Blk (w.setCell ⟨x, 6, none⟩ (.int .i64 (d.tr + 1))) x (stC who nx cl p fr la { d with tr := d.tr + 1 }) 66 := by
    have := hB.set 6 (.int .i64 (d.tr + 1))
    rw [st_s6] at this
    exact this
  have hU : But [x] w (w.setCell ⟨x, 6, none⟩ (.int .i64 (d.tr + 1))) := (But.refl _ w).set (g := x) (.inl (by simp)) 6 _
  have hl' : Lay (w.setCell ⟨x, 6, none⟩ (.int .i64 (d.tr + 1))) cl P T G := (hU.block cl hl.lt (by simpa using hxc)).trans hl
  generalize hV : w.setCell ⟨x, 6, none⟩ (.int .i64 (d.tr + 1)) = V at hB' hU hl'
  have hPr := st_other V.drew x cl who p fr P T G la { d with tr := d.tr + 1 } nx hB'.drew (hl'.below ((Below.refl _ _).drew) hl'.lt) hp 1 (by omega)
  have HS : Hid (∀ w4, Below V.drew.heap.size V.drew w4 → Calls Try.prog 21 #[.pointer (some ⟨x, 0, none⟩), .int .i64 (wd 20 P 264 fr 1), .func (.func 42) #[.pointer (some ⟨x, 0, none⟩)] #[]] w4 fun e w' => (∃ v, e = .returned v) ∧ Came w w' x (stC who nx cl p fr la { d with tr := d.tr + 1 }) 66 (axLd (wd 20 P 264 fr 1)) (.told 42)) := by
    intro w4 k
    have h4 : Blk w4 x (stC who nx cl p fr la { d with tr := d.tr + 1 }) 66 := hB'.drew.but (But.of_below (l := []) k) (by simp)
    refine (came_load w4 x _ 66 h4 st_size _ _).mono ?_
    rintro e w5 ⟨hv, hC⟩
    exact ⟨hv, hC.before (hU.drew.trans (But.of_below k))⟩
  generalize wd 20 P 264 fr 1 = at' at *
  clear hB hB' hU hl' hl hp hxc
  go_enter Try.func36, Try.ntmps36
  go_wp2_with fail
  try rw [hV]
  clear hV c6 f6
  go_region_with (first | (go_at_call 41; refine hPr.mono ?_; rintro e w4 ⟨rfl, k⟩) | (go_at_call 21; refine (HS.out _ k).mono ?_; rintro e w5 ⟨⟨v, rfl⟩, hC⟩))
  all_goals
    clear hPr k HS
    go_wp2_with fail
    go_end0
    exact ⟨⟨_, rfl⟩, hC⟩
theorem st_lookTail (v : Int) (hxc : cl ≠ x) : Calls Try.prog 42 #[.pointer (some ⟨x, 0, none⟩), .int .u64 v] w fun e w' => (∃ v, e = .returned v) ∧ Came w w' x (stC who nx cl p fr la { d with he := v }) 66 (axLd (wd 20 P 264 fr 2)) (.told 51) := by
  have c8 := hB.cell 8 st_c8
  have hlt := hB.lt
  have f8 := hB.fro 8
  have hB' : Blk (w.setCell ⟨x, 8, none⟩ (.int .u64 v)) x (stC who nx cl p fr la { d with he := v }) 66 := by
    have := hB.set 8 (.int .u64 v)
    rw [st_s8] at this
    exact this
  have hU : But [x] w (w.setCell ⟨x, 8, none⟩ (.int .u64 v)) := (But.refl _ w).set (g := x) (.inl (by simp)) 8 _
  have hl' : Lay (w.setCell ⟨x, 8, none⟩ (.int .u64 v)) cl P T G := (hU.block cl hl.lt (by simpa using hxc)).trans hl
  generalize hV : w.setCell ⟨x, 8, none⟩ (.int .u64 v) = V at hB' hU hl'
  have hPr := st_other V.drew x cl who p fr P T G la { d with he := v } nx hB'.drew (hl'.below ((Below.refl _ _).drew) hl'.lt) hp 2 (by omega)
  have HS : Hid (∀ w4, Below V.drew.heap.size V.drew w4 → Calls Try.prog 21 #[.pointer (some ⟨x, 0, none⟩), .int .i64 (wd 20 P 264 fr 2), .func (.func 51) #[.pointer (some ⟨x, 0, none⟩)] #[]] w4 fun e w' => (∃ v, e = .returned v) ∧ Came w w' x (stC who nx cl p fr la { d with he := v }) 66 (axLd (wd 20 P 264 fr 2)) (.told 51)) := by
    intro w4 k
    have h4 : Blk w4 x (stC who nx cl p fr la { d with he := v }) 66 := hB'.drew.but (But.of_below (l := []) k) (by simp)
    refine (came_load w4 x _ 66 h4 st_size _ _).mono ?_
    rintro e w5 ⟨hv, hC⟩
    exact ⟨hv, hC.before (hU.drew.trans (But.of_below k))⟩
  generalize wd 20 P 264 fr 2 = at' at *
  clear hB hB' hU hl' hl hp hxc
  go_enter Try.func42, Try.ntmps42
  go_wp2_with fail
  try rw [hV]
  clear hV c8 f8
  go_region_with (first | (go_at_call 41; refine hPr.mono ?_; rintro e w4 ⟨rfl, k⟩) | (go_at_call 21; refine (HS.out _ k).mono ?_; rintro e w5 ⟨⟨v, rfl⟩, hC⟩))
  all_goals
    clear hPr k HS
    go_wp2_with fail
    go_end0
    exact ⟨⟨_, rfl⟩, hC⟩
theorem st_begin (v : Int) (ht : 0 ≤ d.tr ∧ d.tr < 3) (hxc : cl ≠ x) : Calls Try.prog 23 #[.pointer (some ⟨x, 0, none⟩), .int .u64 v] w fun e w' => (∃ v, e = .returned v) ∧ Came w w' x (stC who nx cl p fr la { d with ta := v, tr := d.tr + 1 }) 66 (axLd (wd 20 P 264 fr 1)) (.told 42) := by
  have c7 := hB.cell 7 st_c7
  have hlt := hB.lt
  have f7 := hB.fro 7
  have hB' : Blk (w.setCell ⟨x, 7, none⟩ (.int .u64 v)) x (stC who nx cl p fr la { d with ta := v }) 66 := by
    have := hB.set 7 (.int .u64 v)
    rw [st_s7] at this
    exact this
  have hU : But [x] w (w.setCell ⟨x, 7, none⟩ (.int .u64 v)) := (But.refl _ w).set (g := x) (.inl (by simp)) 7 _
  have hl' : Lay (w.setCell ⟨x, 7, none⟩ (.int .u64 v)) cl P T G := (hU.block cl hl.lt (by simpa using hxc)).trans hl
  generalize hV : w.setCell ⟨x, 7, none⟩ (.int .u64 v) = V at hB' hU hl'
  have H := st_try_on V x cl who p fr P T G la { d with ta := v } nx hB' hl' hp ht hxc
  have HU : Hid (But [x] w V) := hU
  clear hB hB' hU hl' hl hp hxc ht
  go_enter Try.func23, Try.ntmps23
  go_wp2_with fail
  try rw [hV]
  go_at_call 36; refine H.mono ?_; rintro e w1 ⟨⟨v, rfl⟩, hC⟩
  have hCb := hC.before HU.out
  clear H hC hV c7 f7
  go_wp2_with fail
  go_end0
  exact ⟨⟨_, rfl⟩, hCb⟩
omit hl hp in
theorem st_have_no_end (ht : d.tr = 3) : Calls Try.prog 64 #[.pointer (some ⟨x, 0, none⟩), .bool false] w fun e w' => (∃ v, e = .returned v) ∧ w = w' := by
  have H := st_try_end w x cl who p fr la d nx hB ht
  clear hB
  go_enter Try.func64, Try.ntmps64
  go_wp2_with fail
  go_at_call 36; refine H.mono ?_; rintro e w1 ⟨⟨v, rfl⟩, hC⟩
  clear H
  go_wp2_with fail
  refine bodyPost_ret (results_none rfl _ _ _) rfl ?_
  exact ⟨⟨_, rfl⟩, hC⟩
theorem st_have_no_on (ht : 0 ≤ d.tr ∧ d.tr < 3) (hxc : cl ≠ x) : Calls Try.prog 64 #[.pointer (some ⟨x, 0, none⟩), .bool false] w fun e w' => (∃ v, e = .returned v) ∧ Came w w' x (stC who nx cl p fr la { d with tr := d.tr + 1 }) 66 (axLd (wd 20 P 264 fr 1)) (.told 42) := by
  have H := st_try_on w x cl who p fr P T G la d nx hB hl hp ht hxc
  clear hB hl hp
  go_enter Try.func64, Try.ntmps64
  go_wp2_with fail
  go_at_call 36; refine H.mono ?_; rintro e w1 ⟨⟨v, rfl⟩, hC⟩
  clear H
  go_wp2_with fail
  refine bodyPost_ret (results_none rfl _ _ _) rfl ?_
  exact ⟨⟨_, rfl⟩, hC⟩
omit hB hl hp in
theorem st_next_none : Calls Try.prog 59 #[.pointer (some ⟨x, 0, none⟩), .int .u64 0] w fun e w' => (∃ v, e = .returned v) ∧ w = w' := by
  go_enter Try.func59, Try.ntmps59
  go_wp2_with fail
  refine bodyPost_ret (results_none rfl _ _ _) rfl ?_
  exact ⟨⟨_, rfl⟩, rfl⟩
omit hl hp in
theorem st_leave (hg : d.lo.length = 128) (hn : 0 ≤ d.n ∧ d.n ≤ 1000) : Calls Try.prog 67 #[.pointer (some ⟨x, 0, none⟩)] w fun e w' => (∃ v, e = .returned v) ∧ Blk w' x (stC who nx cl p fr la { d with ld := d.n - 1 }) 66 ∧ But [x] w w' := by
  have c137 := hB.cell 137 (st_c137 hg)
  have c140 := hB.cell 140 (st_c140 hg)
  have f140 := hB.fro 140
  have hlt := hB.lt
  have e1 : wrap64 (d.n - 1) = d.n - 1 := by unfold wrap64; omega
  have HF : Hid (Blk (w.setCell ⟨x, 140, none⟩ (.int .i64 (d.n - 1))) x (stC who nx cl p fr la { d with ld := d.n - 1 }) 66 ∧ But [x] w (w.setCell ⟨x, 140, none⟩ (.int .i64 (d.n - 1)))) := ⟨by
    have := hB.set 140 (.int .i64 (d.n - 1))
    rw [st_s140 hg] at this
    exact this, (But.refl [x] w).set (g := x) (.inl (by simp)) 140 _⟩
  clear hB hn
  go_enter Try.func67, Try.ntmps67
  go_wp2_with fail
  go_end0
  exact ⟨⟨_, rfl⟩, HF.out⟩
end
end Go.Proofs.Ytcjidigpdecdlaa
