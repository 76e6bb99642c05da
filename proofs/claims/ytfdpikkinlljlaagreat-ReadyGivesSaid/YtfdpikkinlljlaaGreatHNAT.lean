/- Readying: as plain data, and in memory; its laws. -/
import Derived.Test.YtfdpikkinlljlaaGreatHNAQ
import Derived.Test.YtfdpikkinlljlaaGreatHNAO
namespace Go.Proofs.YtfdpikkinlljlaaGreat
open Go Go.RowKit
set_option linter.unusedVariables false
set_option maxRecDepth 100000
set_option linter.unusedSimpArgs false
set_option linter.unusedSectionVars false

def ryCells (who : Int) (nx : Option Addr) (cl : Nat) (p g : Int) (hv : Value) (sm : Option Addr) (nu : Int) (rd : Bool) : Array Value := #[.int .i64 who, .pointer nx, .pointer (some ⟨cl, 0, none⟩), .int .i64 p, .int .i64 g, hv, .pointer sm, .int .i64 nu, .bool rd]
theorem ry_mod {n v : Int} (hn : 0 ≤ n) (hv : 0 < v) : 0 ≤ n % v ∧ n % v ≤ n := by
  have h1 := Int.emod_nonneg n (by omega : v ≠ 0)
  have h2 := Int.mul_ediv_add_emod n v
  have h3 := Int.mul_nonneg (Int.le_of_lt hv) (Int.ediv_nonneg hn (Int.le_of_lt hv))
  exact ⟨h1, by omega⟩
theorem ry_left (w : World) (n v : Int) (hn : 0 ≤ n ∧ n ≤ 9223372036854775807) (hv : 0 < v ∧ v ≤ 18446744073709551615) :
    Calls Tryz.prog 122 #[.int .i64 n, .int .u64 v] w fun e w' => e = .returned (.int .u64 (n % v)) ∧ w = w' := by
  have hm := ry_mod hn.1 hv.1
  have hq : decide ((0 : Int) ≤ n) = true := decide_eq_true hn.1
  have hq0 : (0 : Int) ≤ n := hn.1
  have hv0 : v ≠ 0 := by omega
  have hvb : (v == 0) = false := by simpa using hv0
  have e1 : IntKind.u64.wrap n = n := wrap_u64 (by omega)
  have e3 : IntKind.u64.wrap (n % v) = n % v := wrap_u64 (by omega)
  have e2 : Int.tmod n v = n % v := Int.tmod_eq_emod_of_nonneg hn.1
  clear hn hv hm
  go_enter Tryz.func122, Tryz.ntmps122
  go_wp2_with fail
  go_ret
  exact ⟨rfl, rfl⟩
section
variable (w : World) (x cl : Nat) (who p g : Int) (hv : Value) (sm nx : Option Addr) (nu : Int) (rd : Bool) (h : Blk w x (ryCells who nx cl p g hv sm nu rd) 121)
include h
theorem ry_choose_no :
    Calls Tryz.prog 69 #[.pointer (some ⟨x, 0, none⟩), .int .u64 0] w fun e w' => (∃ v, e = .returned v) ∧ w = w' := by
  clear h
  go_enter Tryz.func69, Tryz.ntmps69
  go_wp2_with fail
  refine bodyPost_ret (results_none rfl _ _ _) rfl ?_
  exact ⟨⟨_, rfl⟩, rfl⟩
set_option maxHeartbeats 1000000 in
theorem ry_choose_yes (v : Int) (hv0 : 0 < v ∧ v ≤ 18446744073709551615) (hn : 0 ≤ nu ∧ nu ≤ 9223372036854775807) (hxc : cl ≠ x) (P T G : Int) (hl : Lay w cl P T G) (hp : 0 ≤ P ∧ P ≤ 64) (hT : 0 ≤ T ∧ T ≤ 65536) (hG : 0 ≤ G ∧ G ≤ 65536) :
    Calls Tryz.prog 69 #[.pointer (some ⟨x, 0, none⟩), .int .u64 v] w fun e w' => (∃ u, e = .returned u) ∧ Came w w' x (ryCells who nx cl p (nu % v) hv sm nu rd) 121 (axLd (wd (20 + P * 264 + T * 3) G 2 (nu % v) 0)) (.told 123) := by
  have c7 := h.cell 7 (v := .int .i64 nu) rfl
  have c4 := h.cell 4 (v := .int .i64 g) rfl
  have f4 := h.fro 4
  have hL := ry_left w nu v hn hv0
  have hm := ry_mod hn.1 hv0.1
  have hb : (v == 0) = false := by simp; omega
  have e1 : IntKind.i64.wrap (nu % v) = nu % v := by
    generalize nu % v = z at hm
    simp only [IntKind.wrap, IntKind.bits, IntKind.signed]
    simp
    omega
  generalize nu % v = z at hL e1 hm
  obtain ⟨V, hV⟩ : ∃ V, (w.setCell ⟨x, 4, none⟩ (.int .i64 z)) = V := ⟨_, rfl⟩
  have h' : Blk V x (ryCells who nx cl p z hv sm nu rd) 121 := by rw [← hV]; exact h.set 4 (.int .i64 z)
  have hB : But [x] w V := by rw [← hV]; exact (But.refl _ w).set (g := x) (.inl (by simp)) 4 _
  have hl' : Lay V cl P T G := (hB.block cl hl.lt (by simpa using hxc)).trans hl
  have hGw := ry_status V.drew x cl z _ 121 h'.drew rfl rfl P T G (hl'.below (Below.refl _ _).drew hl'.lt) hp hT hG
  have HS : Hid (∀ Y, Below V.drew.heap.size V.drew Y → Calls Tryz.prog 67 #[.pointer (some ⟨x, 0, none⟩), .int .i64 (wd (20 + P * 264 + T * 3) G 2 z 0), (.func (.func 123) #[.pointer (some ⟨x, 0, none⟩)] #[])] Y fun e w' => (∃ v, e = .returned v) ∧ Came w w' x (ryCells who nx cl p z hv sm nu rd) 121 (axLd (wd (20 + P * 264 + T * 3) G 2 z 0)) (.told 123)) := by
    intro Y hY
    refine (came_load Y x _ 121 (h'.drew.but (But.of_below (l := []) hY) (by simp)) (by simp [ryCells]) _ 123).mono ?_
    rintro e w5 ⟨hv, hC⟩
    exact ⟨hv, hC.before (hB.trans (((But.refl [x] V).drew).trans (But.of_below hY)))⟩
  generalize wd (20 + P * 264 + T * 3) G 2 z 0 = at' at *
  clear h h' hl hl' hp hT hG hxc hv0 hn hB hm
  go_enter Tryz.func69, Tryz.ntmps69
  go_wp2_with fail
  go_at_call 122; refine hL.mono ?_; rintro e w1 ⟨rfl, rfl⟩
  clear hL
  go_wp2_with fail
  try rw [hV]
  clear hV c7 c4 f4
  go_region_with (first | (go_at_call 89; refine hGw.mono ?_; rintro e x3 ⟨rfl, g3⟩) | (go_at_call 67; refine (HS.out _ g3).mono ?_; rintro e x4 ⟨⟨u, rfl⟩, hC⟩))
  all_goals
    clear hGw HS
    go_wp2_with fail
    go_end0
    exact ⟨⟨_, rfl⟩, hC⟩
theorem ry_judge_no (v : Int) (hv3 : v ≠ 3) :
    Calls Tryz.prog 123 #[.pointer (some ⟨x, 0, none⟩), .int .u64 v] w fun e w' => (∃ v, e = .returned v) ∧ w = w' := by
  have hd : (v == 3) = false := by simpa using hv3
  clear h hv3
  go_enter Tryz.func123, Tryz.ntmps123
  go_wp2_with fail
  go_end0
  exact ⟨⟨_, rfl⟩, rfl⟩
set_option maxHeartbeats 1000000 in
theorem ry_judge_yes (P T G : Int) (hl : Lay w cl P T G) (hp : 0 ≤ P ∧ P ≤ 64) (hT : 0 ≤ T ∧ T ≤ 65536) (hG : 0 ≤ G ∧ G ≤ 65536) :
    Calls Tryz.prog 123 #[.pointer (some ⟨x, 0, none⟩), .int .u64 3] w fun e w' => (∃ u, e = .returned u) ∧ Came w w' x (ryCells who nx cl p g hv sm nu rd) 121 (axSw (wd (20 + P * 264 + T * 3) G 2 g 0) 3 1) (.swap 165) := by
  have hGw := ry_status w.drew x cl g _ 121 h.drew rfl rfl P T G (hl.below (Below.refl _ _).drew hl.lt) hp hT hG
  have HS : Hid (∀ Y, Below w.drew.heap.size w.drew Y → Calls Tryz.prog 164 #[.pointer (some ⟨x, 0, none⟩), .int .i64 (wd (20 + P * 264 + T * 3) G 2 g 0), .int .u64 3, .int .u64 1, (.func (.func 165) #[.pointer (some ⟨x, 0, none⟩)] #[])] Y fun e w' => (∃ v, e = .returned v) ∧ Came w w' x (ryCells who nx cl p g hv sm nu rd) 121 (axSw (wd (20 + P * 264 + T * 3) G 2 g 0) 3 1) (.swap 165)) := by
    intro Y hY
    refine (came_swap Y x _ 121 (h.drew.but (But.of_below (l := []) hY) (by simp)) (by simp [ryCells]) _ 3 1 165).mono ?_
    rintro e w5 ⟨hv, hC⟩
    exact ⟨hv, hC.before (((But.refl [x] w).drew).trans (But.of_below hY))⟩
  generalize wd (20 + P * 264 + T * 3) G 2 g 0 = at' at *
  clear h hl hp hT hG
  go_enter Tryz.func123, Tryz.ntmps123
  go_wp2_with fail
  go_region_with (first | (go_at_call 89; refine hGw.mono ?_; rintro e x3 ⟨rfl, g3⟩) | (go_at_call 164; refine (HS.out _ g3).mono ?_; rintro e x4 ⟨⟨u, rfl⟩, hC⟩))
  all_goals
    clear hGw HS
    go_wp2_with fail
    go_end0
    exact ⟨⟨_, rfl⟩, hC⟩
theorem ry_ready_no :
    Calls Tryz.prog 165 #[.pointer (some ⟨x, 0, none⟩), .bool false] w fun e w' => (∃ v, e = .returned v) ∧ w = w' := by
  clear h
  go_enter Tryz.func165, Tryz.ntmps165
  go_wp2_with fail
  go_end0
  exact ⟨⟨_, rfl⟩, rfl⟩
theorem ry_ready_yes (P T G : Int) (hw : 0 ≤ who ∧ who ≤ 1000000) (hxc : cl ≠ x) (hl : Lay w cl P T G) (hp : 0 ≤ P ∧ P ≤ 64) (hT : 0 ≤ T ∧ T ≤ 65536) (hG : 0 ≤ G ∧ G ≤ 65536) :
    Calls Tryz.prog 165 #[.pointer (some ⟨x, 0, none⟩), .bool true] w fun e w' => (∃ u, e = .returned u) ∧ RyHeld (ryPSub who P T G p cl) (rpStart g true) w w' x (fun y => ryCells who nx cl p g (.func (.func 178) #[.pointer (some ⟨y, 0, none⟩)] #[]) sm nu true) 121 (.func (.func 179) #[.pointer (some ⟨x, 0, none⟩)] #[]) := by
  have c8 := h.cell 8 (v := .bool rd) rfl
  have f8 := h.fro 8
  obtain ⟨V, hV⟩ : ∃ V, (w.setCell ⟨x, 8, none⟩ (.bool true)) = V := ⟨_, rfl⟩
  have h' : Blk V x (ryCells who nx cl p g hv sm nu true) 121 := by rw [← hV]; exact h.set 8 (.bool true)
  have hB : But [x] w V := by rw [← hV]; exact (But.refl _ w).set (g := x) (.inl (by simp)) 8 _
  have hl' : Lay V cl P T G := (hB.block cl hl.lt (by simpa using hxc)).trans hl
  have H := ry_lay V x cl who p g _ 121 h' (by simp [ryCells]) rfl rfl rfl rfl true P T G hw hl' hp hT hG
  clear h h' hl hl' hp hT hG hxc hw
  go_enter Tryz.func165, Tryz.ntmps165
  go_wp2_with fail
  try rw [hV]
  clear hV c8 f8
  go_at_call 142; refine H.mono ?_; rintro e w1 ⟨⟨u, rfl⟩, hC⟩
  have hC2 := hC.before hB
  clear H hC hB
  go_wp2_with fail
  go_end0
  exact ⟨⟨_, rfl⟩, hC2⟩
theorem ry_G_no (hr : rd = false) : Calls Tryz.prog 15 #[.pointer (some ⟨x, 0, none⟩)] w fun e w' => e = .returned (.int .i64 (-1)) ∧ w = w' := by
  subst hr
  have c8 := h.cell 8 (v := .bool false) rfl
  clear h
  go_enter Tryz.func15, Tryz.ntmps15
  go_wp2_with fail
  go_ret
  exact ⟨rfl, rfl⟩
theorem ry_G_yes (hr : rd = true) : Calls Tryz.prog 15 #[.pointer (some ⟨x, 0, none⟩)] w fun e w' => e = .returned (.int .i64 g) ∧ w = w' := by
  subst hr
  have c8 := h.cell 8 (v := .bool true) rfl
  have c4 := h.cell 4 (v := .int .i64 g) rfl
  clear h
  go_enter Tryz.func15, Tryz.ntmps15
  go_wp2_with fail
  go_ret
  exact ⟨rfl, rfl⟩
end
section
variable (w : World) (x cl : Nat) (who p g : Int) (hv : Value) (sm nx : Option Addr) (nu : Int) (rd : Bool) (h : Blk w x (ryCells who nx cl p g hv sm nu rd) 121)
include h
theorem ry_Holds (l : List Int) (hH : Calls Tryz.prog 81 #[.pointer (some ⟨x, 0, none⟩)] w fun e w' => ∃ v, e = .returned v ∧ SeesL w' v l ∧ Below w.heap.size w w') : Calls Tryz.prog 17 #[.pointer (some ⟨x, 0, none⟩)] w fun e w' => ∃ v, e = .returned v ∧ SeesL w' v l ∧ Below w.heap.size w w' := by
  clear h
  go_enter Tryz.func17, Tryz.ntmps17
  go_wp2_with fail
  go_at_call 81; refine hH.mono ?_; rintro e w1 ⟨v, rfl, h1, h2⟩
  clear hH
  go_wp2_with fail
  go_ret
  exact ⟨_, rfl, h1, h2⟩
theorem ry_Hand (v : Int) (hP : Calls Tryz.prog 82 #[.pointer sm] w fun e w' => e = .returned (.int .i64 v) ∧ w = w') : Calls Tryz.prog 18 #[.pointer (some ⟨x, 0, none⟩)] w fun e w' => e = .returned (.int .i64 v) ∧ w = w' := by
  have c6 := h.cell 6 (v := .pointer sm) rfl
  clear h
  go_enter Tryz.func18, Tryz.ntmps18
  go_wp2_with fail
  go_at_call 82; refine hP.mono ?_; rintro e w1 ⟨rfl, rfl⟩
  clear hP
  go_wp2_with fail
  go_ret
  exact ⟨rfl, rfl⟩
theorem ry_Counts (v : Bool) (hP : Calls Tryz.prog 83 #[.pointer sm] w fun e w' => e = .returned (.bool v) ∧ w = w') : Calls Tryz.prog 19 #[.pointer (some ⟨x, 0, none⟩)] w fun e w' => e = .returned (.bool v) ∧ w = w' := by
  have c6 := h.cell 6 (v := .pointer sm) rfl
  clear h
  go_enter Tryz.func19, Tryz.ntmps19
  go_wp2_with fail
  go_at_call 83; refine hP.mono ?_; rintro e w1 ⟨rfl, rfl⟩
  clear hP
  go_wp2_with fail
  go_ret
  exact ⟨rfl, rfl⟩
end
theorem ry_Holds_nil (w : World) : Calls Tryz.prog 17 #[.pointer none] w fun e w' => e = .returned (.slice none 0 0) ∧ w = w' := by
  go_enter Tryz.func17, Tryz.ntmps17
  go_wp2_with fail
  go_ret
  exact ⟨rfl, rfl⟩
theorem ry_Hand_nil (w : World) : Calls Tryz.prog 18 #[.pointer none] w fun e w' => e = .returned (.int .i64 (-1)) ∧ w = w' := by
  go_enter Tryz.func18, Tryz.ntmps18
  go_wp2_with fail
  go_ret
  exact ⟨rfl, rfl⟩
theorem ry_Counts_nil (w : World) : Calls Tryz.prog 19 #[.pointer none] w fun e w' => e = .returned (.bool false) ∧ w = w' := by
  go_enter Tryz.func19, Tryz.ntmps19
  go_wp2_with fail
  go_ret
  exact ⟨rfl, rfl⟩
theorem ry_G_nil (w : World) : Calls Tryz.prog 15 #[.pointer none] w fun e w' => e = .returned (.int .i64 (-1)) ∧ w = w' := by
  go_enter Tryz.func15, Tryz.ntmps15
  go_wp2_with fail
  go_ret
  exact ⟨rfl, rfl⟩
end Go.Proofs.YtfdpikkinlljlaaGreat

namespace Go.Proofs.YtfdpikkinlljlaaGreat
open Go Go.RowKit
set_option linter.unusedVariables false
set_option maxRecDepth 100000
set_option linter.unusedSimpArgs false
set_option linter.unusedSectionVars false

/-- Readying, as plain data: q is what the machine that puts into the ring is in, u the one that wakes some thread. -/
inductive RyT where
  | ld
  | st (g : Int)
  | sw (g : Int)
  | no (g : Int)
  | put (g : Int) (q : RpT)
  | wk (g : Int) (q : RpT) (u : WwT)
  | over (g : Int) (q : RpT) (u : WwT)
def RyT.g : RyT → Int
  | .ld => 0
  | .st g => g
  | .sw g => g
  | .no g => g
  | .put g _ => g
  | .wk g _ _ => g
  | .over g _ _ => g
def RyT.q : RyT → Option RpT
  | .put _ q => some q
  | .wk _ q _ => some q
  | .over _ q _ => some q
  | _ => none
def RyT.u : RyT → Option WwT
  | .wk _ _ u => some u
  | .over _ _ u => some u
  | _ => none
/-- Which one was readied, what is in the hand, and what the machine that wakes tells. -/
def RyT.obs (s : RyT) : Int := if s.q.isSome = true then s.g else -1
def RyT.holds (s : RyT) : List Int := match s.q with
  | some q => q.holds
  | none => []
def RyT.hand (s : RyT) : Int := match s.u with
  | some u => u.holds
  | none => -1
def RyT.counts (s : RyT) : Bool := match s.u with
  | some u => u.counts
  | none => false
def ryPM (P T G t p nu : Int) : PM RyT where
  ax := fun
    | .ld => some (axLd 17)
    | .st g => some (axLd (wd (20 + P * 264 + T * 3) G 2 g 0))
    | .sw g => some (axSw (wd (20 + P * 264 + T * 3) G 2 g 0) 3 1)
    | .no _ => none
    | .put _ q => (rpPM t P p (fun y => wd (20 + P * 264 + T * 3) G 2 y 1)).ax q
    | .wk _ _ u => (wwPM P T t).ax u
    | .over _ _ _ => none
  nx := fun
    | .ld, v => if v = 0 then .no 0 else .st (nu % v)
    | .st g, v => if v = 3 then .sw g else .no g
    | .sw g, v => if v = 0 then .no g else .put g (rpStart g true)
    | .put g q, v => if ((rpPM t P p (fun y => wd (20 + P * 264 + T * 3) G 2 y 1)).ax ((rpPM t P p (fun y => wd (20 + P * 264 + T * 3) G 2 y 1)).nx q v)).isSome = true then .put g ((rpPM t P p (fun y => wd (20 + P * 264 + T * 3) G 2 y 1)).nx q v) else .wk g ((rpPM t P p (fun y => wd (20 + P * 264 + T * 3) G 2 y 1)).nx q v) .ld
    | .wk g q u, v => if ((wwPM P T t).ax ((wwPM P T t).nx u v)).isSome = true then .wk g q ((wwPM P T t).nx u v) else .over g q ((wwPM P T t).nx u v)
    | s, _ => s
def ryExt (P T G t p : Int) (cl : Nat) (s : RyT) (es : List Nat) (w : World) (Le : List Nat) : Prop := match s with
  | .wk _ q _ => (rpCp t (fun y => wd (20 + P * 264 + T * 3) G 2 y 1) P T G p cl).I w (es.getD 0 0) q Le
  | .over _ q u => ∃ L1 L2, Le = L1 ++ L2 ∧ (rpCp t (fun y => wd (20 + P * 264 + T * 3) G 2 y 1) P T G p cl).I w (es.getD 0 0) q L1 ∧ (wwCp t P T G cl).I w (es.getD 1 0) u L2
  | _ => Le = []
def ryHv (s : RyT) (es : List Nat) : Value := if s.q.isSome = true then .func (.func 178) #[.pointer (some ⟨es.getD 0 0, 0, none⟩)] #[] else .nilFunc
def ryAt (t p nu : Int) (cl : Nat) (s : RyT) (es : List Nat) (nx : Option Addr) : Array Value := ryCells t nx cl p s.g (ryHv s es) (if s.u.isSome = true then some ⟨es.getD 1 0, 0, none⟩ else none) nu s.q.isSome
def ryCp (P T G t p nu : Int) (cl : Nat) : Cp RyT where
  T := 121
  cells := ryAt t p nu cl
  kind := fun
    | .ld => .acc (axLd 17) (.told 69)
    | .st g => .acc (axLd (wd (20 + P * 264 + T * 3) G 2 g 0)) (.told 123)
    | .sw g => .acc (axSw (wd (20 + P * 264 + T * 3) G 2 g 0) 3 1) (.swap 165)
    | .no _ => .over
    | .put _ q => .run (ryPSub t P T G p cl) q (.fn 179)
    | .wk _ _ u => .run (ryWSub t P T G cl) u .nil
    | .over _ _ _ => .over
  ok := fun
    | .put _ q => ((rpPM t P p (fun y => wd (20 + P * 264 + T * 3) G 2 y 1)).ax q).isSome = true ∧ (rpCp t (fun y => wd (20 + P * 264 + T * 3) G 2 y 1) P T G p cl).ok q
    | .wk _ _ u => ((wwPM P T t).ax u).isSome = true ∧ (wwCp t P T G cl).ok u
    | _ => True
  ext := ryExt P T G t p cl
  tie := fun s es y => match s with
    | .put _ _ => es.getD 0 0 = y
    | .wk _ _ _ => es.getD 1 0 = y
    | _ => True
theorem ent_yr1 : Ent 69 := fun args w => by kernel_rfl
theorem ent_yr2 : Ent 123 := fun args w => by kernel_rfl
theorem ent_yr3 : Ent 165 := fun args w => by kernel_rfl
theorem ent_yr4 : Ent 179 := fun args w => by kernel_rfl
section
variable {P T G t p nu : Int} {cl : Nat}
theorem ry_on {s : RyT} {v : Int} {S : Sub} {q : S.τ} {af : After} (hp : 0 ≤ P ∧ P ≤ 64) (hT : 0 ≤ T ∧ T ≤ 65536) (hv : 0 ≤ v ∧ v ≤ 18446744073709551615) (hok : (ryCp P T G t p nu cl).ok s) (hk : (ryCp P T G t p nu cl).kind s = .run S q af) (hs : (S.M.ax (S.M.nx q v)).isSome = true) :
    (ryCp P T G t p nu cl).ok ((ryPM P T G t p nu).nx s v) ∧ (ryCp P T G t p nu cl).kind ((ryPM P T G t p nu).nx s v) = .run S (S.M.nx q v) af ∧ (∀ es, (ryCp P T G t p nu cl).cells ((ryPM P T G t p nu).nx s v) es = (ryCp P T G t p nu cl).cells s es) ∧ (∀ es w Le, (ryCp P T G t p nu cl).ext s es w Le → (ryCp P T G t p nu cl).ext ((ryPM P T G t p nu).nx s v) es w Le) ∧ (∀ es y, (ryCp P T G t p nu cl).tie s es y → (ryCp P T G t p nu cl).tie ((ryPM P T G t p nu).nx s v) es y) := by
  cases s with
  | put g q =>
    cases hk
    have e : (ryPM P T G t p nu).nx (.put g q) v = .put g ((rpPM t P p (fun y => wd (20 + P * 264 + T * 3) G 2 y 1)).nx q v) := if_pos hs
    rw [e]
    exact ⟨⟨hs, rp_ok_next hok.2 hv⟩, rfl, fun _ => rfl, fun _ _ _ h => h, fun _ _ h => h⟩
  | wk g q u =>
    cases hk
    have e : (ryPM P T G t p nu).nx (.wk g q u) v = .wk g q ((wwPM P T t).nx u v) := if_pos hs
    rw [e]
    obtain ⟨a, ha⟩ := Option.isSome_iff_exists.1 hok.1
    exact ⟨⟨hs, ww_ok_next hp hT hok.2 ha hv⟩, rfl, fun _ => rfl, fun _ _ _ h => h, fun _ _ h => h⟩
  | ld => cases hk
  | st g => cases hk
  | sw g => cases hk
  | no g => cases hk
  | over g q u => cases hk
set_option maxHeartbeats 4000000 in
theorem ry_laws (hw : 0 ≤ t ∧ t ≤ 1000000) (hp : 0 ≤ P ∧ P ≤ 64) (hT : 0 ≤ T ∧ T ≤ 65536) (hG : 0 ≤ G ∧ G ≤ 65536) (hn : 0 ≤ nu ∧ nu ≤ 9223372036854775807) :
    (ryCp P T G t p nu cl).Laws (ryPM P T G t p nu) (Rd.lay cl P T G) t where
  c0 := fun s es nx => rfl
  c1 := fun s es nx => rfl
  set := fun s es nx nx' => rfl
  k0 := fun s hok hk => by
    cases s <;> first | rfl | cases hk
  k1 := fun s a f hok hk => by
    cases s with
    | ld => cases hk; exact ⟨rfl, axLd_ok _, ent_yr1⟩
    | st g => cases hk; exact ⟨rfl, axLd_ok _, ent_yr2⟩
    | sw g => cases hk; exact ⟨rfl, axSw_ok _ _ _ (by omega), ent_yr3⟩
    | _ => cases hk
  k2 := fun s S q af hok hk => by
    cases s with
    | put g q => cases hk; exact ⟨rfl, hok.1, ent_yr4, Cp.okax (rp_laws hw hp hT hG) hok.2⟩
    | wk g q u => cases hk; exact ⟨rfl, hok.1, trivial, Cp.okax (ww_laws hw hp hT) hok.2⟩
    | _ => cases hk
  sub := fun s S q af hok hk => by
    cases s with
    | put g q => cases hk; exact ⟨rp_steps hw hp hT hG, rp_good hw hp hT hG, act_rput, fun w h => h, fun k h => h⟩
    | wk g q u => cases hk; exact ⟨Cp.steps (ww_laws hw hp hT) stepby_wwk, Cp.good (ww_laws hw hp hT), act_wwk, fun w h => h, fun k h => h⟩
    | _ => cases hk
  on := fun s S q af v hok hk hv hs => ry_on hp hT hv hok hk hs
  ns := fun s a f hk => by
    cases s <;> cases hk <;> rfl
  ekeep := fun s es w w' ll Le he hb hk => by
    cases s with
    | wk g q u => exact (rp_good hw hp hT hG).keep he hb hk
    | over g q u =>
      obtain ⟨L1, L2, e, h1, h2⟩ := he
      subst e
      exact ⟨L1, L2, rfl, (rp_good hw hp hT hG).keep h1 hb (fun k h => hk k (List.mem_append_left _ h)), (Cp.good (ww_laws hw hp hT)).keep h2 hb (fun k h => hk k (List.mem_append_right _ h))⟩
    | _ => exact he
  elt := fun s es w Le he k hk => by
    cases s with
    | wk g q u => exact (rp_good hw hp hT hG).lt he k hk
    | over g q u =>
      obtain ⟨L1, L2, e, h1, h2⟩ := he
      subst e
      rcases List.mem_append.1 hk with h | h
      · exact (rp_good hw hp hT hG).lt h1 k h
      · exact (Cp.good (ww_laws hw hp hT)).lt h2 k h
    | _ => rw [show Le = [] from he] at hk; cases hk
  fol := fun W x s a f v es Le hok hk hv hB he hxe hR hxR => by
    have hlt := hB.lt
    have hcx : cl ≠ x := fun e => hxR (by rw [e]; exact List.mem_singleton.2 rfl)
    cases s with
    | ld =>
      cases hk
      obtain rfl : Le = [] := he
      by_cases h0 : v = 0
      · subst h0
        have e : (ryPM P T G t p nu).nx .ld 0 = .no 0 := rfl
        rw [e]
        refine (ry_choose_no W x cl t p 0 _ _ _ _ _ hB).mono ?_
        rintro e w' ⟨hu, rfl⟩
        exact ⟨hu, Cp.lnd_over (C := (ryCp P T G t p nu cl)) (s := .no 0) (es := es) (Le' := []) hB (But.refl _ _) trivial rfl rfl (by simp) (fun k hk => by cases hk)⟩
      · have e : (ryPM P T G t p nu).nx .ld v = .st (nu % v) := if_neg h0
        rw [e]
        refine (ry_choose_yes W x cl t p 0 _ _ _ _ _ hB v (by omega) hn hcx P T G hR hp hT hG).mono ?_
        rintro e w' ⟨hu, hC⟩
        exact ⟨hu, Cp.lnd_acc (C := (ryCp P T G t p nu cl)) (s := .st (nu % v)) (es := es) (Le' := []) hC (fun _ => rfl) trivial rfl hlt rfl (by simp) (fun k hk => by cases hk)⟩
    | st g =>
      cases hk
      obtain rfl : Le = [] := he
      by_cases h0 : v = 3
      · subst h0
        have e : (ryPM P T G t p nu).nx (.st g) 3 = .sw g := rfl
        rw [e]
        refine (ry_judge_yes W x cl t p g _ _ _ _ _ hB P T G hR hp hT hG).mono ?_
        rintro e w' ⟨hu, hC⟩
        exact ⟨hu, Cp.lnd_acc (C := (ryCp P T G t p nu cl)) (s := .sw g) (es := es) (Le' := []) hC (fun _ => rfl) trivial rfl hlt rfl (by simp) (fun k hk => by cases hk)⟩
      · have e : (ryPM P T G t p nu).nx (.st g) v = .no g := if_neg h0
        rw [e]
        refine (ry_judge_no W x cl t p g _ _ _ _ _ hB v h0).mono ?_
        rintro e w' ⟨hu, rfl⟩
        exact ⟨hu, Cp.lnd_over (C := (ryCp P T G t p nu cl)) (s := .no g) (es := es) (Le' := []) hB (But.refl _ _) trivial rfl rfl (by simp) (fun k hk => by cases hk)⟩
    | sw g =>
      cases hk
      obtain rfl : Le = [] := he
      by_cases h0 : v = 0
      · have e : (ryPM P T G t p nu).nx (.sw g) v = .no g := if_pos h0
        rw [e]
        refine folC_sw false (decide_eq_false (fun h => h h0)) ((ry_ready_no W x cl t p g _ _ _ _ _ hB).mono ?_)
        rintro e w' ⟨hu, rfl⟩
        exact ⟨hu, Cp.lnd_over (C := (ryCp P T G t p nu cl)) (s := .no g) (es := es) (Le' := []) hB (But.refl _ _) trivial rfl rfl (by simp) (fun k hk => by cases hk)⟩
      · have e : (ryPM P T G t p nu).nx (.sw g) v = .put g (rpStart g true) := if_neg h0
        rw [e]
        refine folC_sw true (decide_eq_true h0) ((ry_ready_yes W x cl t p g _ _ _ _ _ hB P T G hw hcx hR hp hT hG).mono ?_)
        rintro e w' ⟨hu, y1, q1, b, L, hC, hI, hL, hq, hg⟩
        exact ⟨hu, Cp.lnd_run0 (C := (ryCp P T G t p nu cl)) (S := (ryPSub t P T G p cl)) (af := .fn 179) (pt := rpStart g true) (s := .put g (rpStart g true)) (es := [y1]) (Le' := []) hC (fun _ => rfl) hI hL hq hg ⟨rfl, rpD0_ok g⟩ rfl rfl hlt rfl (by simp) (fun k hk => by cases hk)⟩
    | _ => cases hk
  aft := fun W x y s S q af v es Le Li hok hk hv hn' hB hin hty he hxe hxi hdl hR hxR => by
    have hlt := hB.lt
    have hni : ∀ k ∈ Li, k ∉ [x] := fun k hk hm => by simp at hm; exact hxi (hm ▸ hk)
    have hne : ∀ k ∈ Le, k ∉ [x] := fun k hk hm => by simp at hm; exact hxe (hm ▸ hk)
    cases s with
    | put g q =>
      cases hk
      obtain rfl : Le = [] := he
      obtain rfl : es.getD 0 0 = y := hty
      have hin' : (rpCp t (fun y => wd (20 + P * 264 + T * 3) G 2 y 1) P T G p cl).I W (es.getD 0 0) ((rpPM t P p (fun y => wd (20 + P * 264 + T * 3) G 2 y 1)).nx q v) Li := hin
      have e : (ryPM P T G t p nu).nx (.put g q) v = .wk g ((rpPM t P p (fun y => wd (20 + P * 264 + T * 3) G 2 y 1)).nx q v) .ld := nx_off hn'
      rw [e]
      refine (ry_wakeSome W x cl t _ 121 hB (by simp [ryAt, ryCp, ryCells]) rfl rfl P T G hw hp hT).mono ?_
      rintro e w' ⟨hu, y1, q1, b, L, hC, hI, hL, hq, hg⟩
      exact ⟨hu, Cp.lnd_run0 (C := (ryCp P T G t p nu cl)) (S := (ryWSub t P T G cl)) (af := .nil) (pt := WwT.ld) (s := .wk g ((rpPM t P p (fun y => wd (20 + P * 264 + T * 3) G 2 y 1)).nx q v) .ld) (es := [es.getD 0 0, y1]) (Le' := Li) hC (fun _ => rfl) hI hL hq hg ⟨rfl, trivial⟩ rfl rfl hlt ((rp_good hw hp hT hG).keep hin' hC.at'.but hni) hxi (fun k hk => ⟨List.mem_append_left _ hk, (rp_good hw hp hT hG).lt hin' k hk⟩)⟩
    | wk g q u =>
      cases hk
      obtain rfl : es.getD 1 0 = y := hty
      have hin' : (wwCp t P T G cl).I W (es.getD 1 0) ((wwPM P T t).nx u v) Li := hin
      have e : (ryPM P T G t p nu).nx (.wk g q u) v = .over g q ((wwPM P T t).nx u v) := nx_off hn'
      rw [e]
      exact Cp.lnd_over (C := (ryCp P T G t p nu cl)) (s := .over g q ((wwPM P T t).nx u v)) (es := es) (Le' := Le ++ Li) hB (But.refl _ _) trivial rfl ⟨Le, Li, rfl, he, hin'⟩ (fun hm => (List.mem_append.1 hm).elim hxe hxi) (fun k hk => (List.mem_append.1 hk).elim (List.mem_append_right _) (List.mem_append_left _))
    | _ => cases hk
variable {w : World} {x : Nat} {s : RyT} {L : List Nat}
/-- Its block, and the machines that it has. -/
theorem ry_parts (h : (ryCp P T G t p nu cl).I w x s L) : ∃ es nx, Blk w x (ryAt t p nu cl s es nx) 121 ∧ (∀ q, s.q = some q → ∃ L1, (rpCp t (fun y => wd (20 + P * 264 + T * 3) G 2 y 1) P T G p cl).I w (es.getD 0 0) q L1) ∧ (∀ u, s.u = some u → ∃ L2, (wwCp t P T G cl).I w (es.getD 1 0) u L2) := by
  obtain ⟨-, es, Le, he, hxe, hH⟩ := h
  obtain ⟨nx, hB⟩ := Cp.blk' hH
  have hB' : Blk w x (ryAt t p nu cl s es nx) 121 := hB
  cases s with
  | put g q =>
    obtain ⟨q1, y, g1, Li, h1, h2, h3, -⟩ := hH
    obtain rfl : es.getD 0 0 = y := h3
    exact ⟨es, nx, hB', (fun c h => by cases h; exact ⟨Li, h2⟩), (fun c h => by cases h)⟩
  | wk g q u =>
    obtain ⟨q1, y, g1, Li, h1, h2, h3, -⟩ := hH
    obtain rfl : es.getD 1 0 = y := h3
    exact ⟨es, nx, hB', (fun c h => by cases h; exact ⟨Le, he⟩), (fun c h => by cases h; exact ⟨Li, h2⟩)⟩
  | over g q u =>
    obtain ⟨L1, L2, -, h1, h2⟩ := he
    exact ⟨es, nx, hB', (fun c h => by cases h; exact ⟨L1, h1⟩), (fun c h => by cases h; exact ⟨L2, h2⟩)⟩
  | _ => exact ⟨es, nx, hB', (fun c h => by cases h), (fun c h => by cases h)⟩
theorem ry_tells_G (h : (ryCp P T G t p nu cl).I w x s L) : Calls Tryz.prog 15 #[.pointer (some ⟨x, 0, none⟩)] w fun e w' => e = .returned (.int .i64 s.obs) ∧ w = w' := by
  obtain ⟨es, nx, hB, -⟩ := ry_parts h
  unfold RyT.obs
  unfold ryAt at hB
  cases hk : s.q.isSome with
  | true => rw [hk] at hB; exact ry_G_yes w x cl t p s.g _ _ nx nu true hB rfl
  | false => rw [hk] at hB; exact ry_G_no w x cl t p s.g _ _ nx nu false hB rfl
theorem ry_tells_H (h : (ryCp P T G t p nu cl).I w x s L) : Calls Tryz.prog 17 #[.pointer (some ⟨x, 0, none⟩)] w fun e w' => ∃ v, e = .returned v ∧ SeesL w' v s.holds ∧ Below w.heap.size w w' := by
  obtain ⟨es, nx, hB, h1, -⟩ := ry_parts h
  refine ry_Holds w x cl t p s.g _ _ nx nu _ hB _ ?_
  unfold RyT.holds
  unfold ryAt ryHv at hB
  cases hk : s.q with
  | none =>
    rw [hk] at hB
    refine (ry_held_nil w x _ _ hB rfl).mono ?_
    rintro e w' ⟨rfl, rfl⟩
    exact ⟨_, rfl, ⟨none, 0, rfl, fun _ => ⟨rfl, rfl⟩, fun h => absurd h (by simp)⟩, Below.refl _ _⟩
  | some q =>
    rw [hk] at hB
    obtain ⟨L1, h1⟩ := h1 q hk
    exact ry_held_rput w x _ _ hB (es.getD 0 0) q.holds rfl (rp_holds h1)
theorem ry_tells_P (h : (ryCp P T G t p nu cl).I w x s L) : Calls Tryz.prog 18 #[.pointer (some ⟨x, 0, none⟩)] w fun e w' => e = .returned (.int .i64 s.hand) ∧ w = w' := by
  obtain ⟨es, nx, hB, -, h2⟩ := ry_parts h
  unfold RyT.hand
  unfold ryAt at hB
  cases hk : s.u with
  | none => rw [hk] at hB; exact ry_Hand w x cl t p s.g _ none nx nu _ hB (-1) (ww_holds_nil w)
  | some u =>
    rw [hk] at hB
    obtain ⟨L2, h2⟩ := h2 u hk
    exact ry_Hand w x cl t p s.g _ (some ⟨es.getD 1 0, 0, none⟩) nx nu _ hB u.holds (ww_tells_P h2)
theorem ry_tells_C (h : (ryCp P T G t p nu cl).I w x s L) : Calls Tryz.prog 19 #[.pointer (some ⟨x, 0, none⟩)] w fun e w' => e = .returned (.bool s.counts) ∧ w = w' := by
  obtain ⟨es, nx, hB, -, h2⟩ := ry_parts h
  unfold RyT.counts
  unfold ryAt at hB
  cases hk : s.u with
  | none => rw [hk] at hB; exact ry_Counts w x cl t p s.g _ none nx nu _ hB false (ww_counts_nil w)
  | some u =>
    rw [hk] at hB
    obtain ⟨L2, h2⟩ := h2 u hk
    exact ry_Counts w x cl t p s.g _ (some ⟨es.getD 1 0, 0, none⟩) nx nu _ hB u.counts (ww_tells_C h2)
end
set_option maxHeartbeats 2000000 in
theorem ry_new (w : World) (cl : Nat) (t p nu P T G : Int) (hl : Lay w cl P T G) :
    Calls Tryz.prog 11 #[.pointer (some ⟨cl, 0, none⟩), .int .i64 t, .int .i64 p, .int .i64 nu] w fun e w' => ∃ x L, e = .returned (.pointer (some ⟨x, 0, none⟩)) ∧ (ryCp P T G t p nu cl).I w' x .ld L ∧ Below w.heap.size w w' ∧ (∀ k ∈ L, w.heap.size ≤ k) ∧ w.heap.size ≤ x := by
  have hB := Blk.new w #[.int .i64 0, .pointer none, .pointer none, .int .i64 0, .int .i64 0, .nilFunc, .pointer none, .int .i64 nu, .bool false] 121
  have hb : Below w.heap.size w (w.alloc (.cells #[.int .i64 0, .pointer none, .pointer none, .int .i64 0, .int .i64 0, .nilFunc, .pointer none, .int .i64 nu, .bool false] 121)) := (Below.refl _ _).alloc (Nat.le_refl _) _
  have hO := ry_of _ w.heap.size cl t p _ (ryCells t none cl p 0 .nilFunc none nu false) 121 hB (by simp) rfl
  have HH : Hid (Below w.heap.size w (w.alloc (.cells #[.int .i64 0, .pointer none, .pointer none, .int .i64 0, .int .i64 0, .nilFunc, .pointer none, .int .i64 nu, .bool false] 121))) := hb
  have hsz := World.size_alloc w (.cells #[.int .i64 0, .pointer none, .pointer none, .int .i64 0, .int .i64 0, .nilFunc, .pointer none, .int .i64 nu, .bool false] 121)
  clear hB hb hl
  go_enter Tryz.func11, Tryz.ntmps11
  go_wp2_with fail
  go_at_call 66; refine hO.mono ?_; rintro e w1 ⟨⟨v, rfl⟩, h1, h2, h3⟩
  have hb1 : Hid (Below w.heap.size w w1) := HH.out.trans (h2.below (by simp) (by rw [hsz]; omega))
  have hW := il_word w1.drew cl 17 (by omega)
  have HS := came_load w1.drew w.heap.size _ 121 h1.drew (by simp [ryCells]) 17 69
  have HCE : Hid (∀ w2, Came w1.drew w2 w.heap.size (ryCells t none cl p 0 .nilFunc none nu false) 121 (axLd 17) (.told 69) → ∃ L, (ryCp P T G t p nu cl).I w2 w.heap.size .ld L ∧ Below w.heap.size w w2 ∧ ∀ k ∈ L, w.heap.size ≤ k) := by
    rintro w2 ⟨q, Lc, c1, c2, c3, c4⟩
    have hsd : w1.drew.heap.size = w1.heap.size := rfl
    refine ⟨w.heap.size :: (Lc ++ []), ⟨trivial, [], [], rfl, by simp, q, Lc, c1, c2, fun hm => by have := c4 _ hm; have := hb1.out.size; have := h1.lt; omega, (fun k hm h => by cases h), rfl⟩, hb1.out.trans (((But.refl [w.heap.size] w1).drew.trans c3).below (by simp) hb1.out.size), fun k hk => ?_⟩
    have := hb1.out.size
    simp at hk
    rcases hk with rfl | hk
    · exact Nat.le_refl _
    · have := c4 k hk; omega
  clear hO h1 h2 h3 HH hsz
  go_wp2_with fail
  go_region_with (first | (go_at_call 68; refine hW.mono ?_; rintro e x3 ⟨rfl, rfl⟩) | (go_at_call 67; refine HS.mono ?_; rintro e x4 ⟨⟨u, rfl⟩, hC⟩))
  all_goals
    have hF : Hid _ := HCE.out _ hC
    clear hW HS HCE hC hb1
    go_wp2_with fail
    go_ret
    obtain ⟨L, f1, f2, f3⟩ := hF.out
    exact ⟨_, L, rfl, f1, f2, f3, Nat.le_refl _⟩
end Go.Proofs.YtfdpikkinlljlaaGreat
