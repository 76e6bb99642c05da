/- Starting a thread: what follows, one contract a function. -/
import Derived.Test.YthbgoakaijeemaaGreatBA
import Derived.Test.YthbgoakaijeemaaGreatBC
import Derived.Test.YthbgoakaijeemaaGreatIp2
import Derived.Test.YthbgoakaijeemaaGreatRun_nwk
import Derived.Test.YthbgoakaijeemaaGreatRun_img
import Derived.Test.YthbgoakaijeemaaGreatRun_ipp
import Derived.Test.YthbgoakaijeemaaGreatRun_rel
namespace Go.Proofs.YthbgoakaijeemaaGreat
open Go Go.RowKit
set_option linter.unusedVariables false
set_option maxRecDepth 100000
set_option linter.unusedSimpArgs false

/-- A machine that wakes a thread. -/
inductive NwT where
  | fresh
  | over
def nwPM (at' : Int) : PM NwT where
  ax := fun
    | .fresh => some (axSt at' 1)
    | .over => none
  nx := fun _ _ => .over
def nwCells (who : Int) (nx : Option Addr) (nt : Int) : Array Value := #[.int .i64 who, .pointer nx, .int .i64 nt]
def nwFl (who nt : Int) : Fl NwT where
  T := 226
  cells := fun _ nx => nwCells who nx nt
  fol := fun _ => .nil
  ok := fun _ => True
theorem nw_laws (who nt : Int) : (nwFl who nt).Laws (nwPM nt) Rd.nil who where
  c0 := fun t nx => rfl
  c1 := fun t nx => rfl
  set := fun t nx nx' => rfl
  axok := fun t a _ h => by
    cases t <;> cases h
    exact axSt_ok _ _ (by omega)
  ents := fun t a h => trivial
  ok := fun _ _ _ _ _ _ => trivial
  fol := fun W x t a v _ h hv hB _ _ => by
    cases t <;> cases h
    exact ⟨hB, But.refl _ _⟩
def nwSub (nt who : Int) : Sub := ⟨NwT, nwPM nt, (nwFl who nt).I (nwPM nt), Rd.nil, 219, 254⟩
theorem nwSub_ok (nt who : Int) (R : Rd) : Steps (nwPM nt) ((nwFl who nt).I (nwPM nt)) Rd.nil 254 who ∧ MI.Good ((nwFl who nt).I (nwPM nt)) (nwPM nt) ∧ ActRun 219 254 ∧ (∀ w, R.P w → Rd.nil.P w) ∧ (∀ k ∈ Rd.nil.B, k ∈ R.B) :=
  ⟨Fl.steps (nw_laws who nt) stepby_nwk, Fl.good (nw_laws who nt), act_nwk, fun _ _ => trivial, fun k hk => by cases hk⟩
theorem nw_of (w : World) (x cl : Nat) (who t P T G : Int) (h : Blk w x (nwCells 0 none 0) 226) (hl : Lay w cl P T G) (hp : 0 ≤ P ∧ P ≤ 64) (hT : 0 ≤ T ∧ T ≤ 65536) (hxc : cl ≠ x) :
    Calls Tryz.prog 147 #[.pointer (some ⟨x, 0, none⟩), .pointer (some ⟨cl, 0, none⟩), .int .i64 t, .int .i64 who] w fun e w' => (∃ v, e = .returned v) ∧ Blk w' x (nwCells who none (wd (20 + P * 264) T 3 t 0)) 226 ∧ But [x] w w' := by
  have hF := fof_any w x _ 226 who h (by simp [nwCells])
  have HH : Hid (Blk w x (nwCells 0 none 0) 226) := h
  have hlx := h.lt
  obtain ⟨W, hW⟩ : ∃ W, w.setCell ⟨x, 0, none⟩ (.int .i64 who) = W := ⟨_, rfl⟩
  have HB1 : Hid (But [x] w W) := by rw [← hW]; exact (But.refl _ w).set (g := x) (.inl (by simp)) 0 _
  have HX1 : Hid (Blk W x (nwCells who none 0) 226) := by rw [← hW]; exact h.set 0 (.int .i64 who)
  have hl1 : Lay W cl P T G := (HB1.out.block cl hl.lt (by simpa using hxc)).trans hl
  have hT1 := lthr_any _ P T G t 0 W (.some cl hl1) hp hT
  generalize wd (20 + P * 264) T 3 t 0 = nt at *
  clear h hl hl1 hp hT hxc
  go_enter Tryz.func147, Tryz.ntmps147
  go_wp2_with fail
  go_at_call 121; refine hF.mono ?_; rintro e w3 ⟨⟨v, rfl⟩, hw3⟩
  obtain rfl : w3 = W := hw3.trans hW
  clear hF hw3 hW
  go_wp2_with fail
  go_at_call 35; refine hT1.mono ?_; rintro e w4 ⟨rfl, hb4⟩
  have HX4 : Hid (Blk w4 x (nwCells who none 0) 226) := HX1.out.but (But.of_below (l := []) hb4) (by simp)
  have HB4 : Hid (But [x] w w4) := HB1.out.trans (But.of_below hb4)
  have c2 := HX4.out.cell 2 (v := .int .i64 0) rfl
  have f2 := HX4.out.fro 2
  have HX5 : Hid (Blk (w4.setCell ⟨x, 2, none⟩ (.int .i64 nt)) x (nwCells who none nt) 226) := HX4.out.set 2 _
  have HB5 : Hid (But [x] w (w4.setCell ⟨x, 2, none⟩ (.int .i64 nt))) := HB4.out.set (g := x) (.inl (by simp)) 2 _
  clear hT1 hb4 HX1 HB1 HX4 HB4 HH
  go_wp2_with fail
  go_end0
  exact ⟨⟨_, rfl⟩, HX5.out, HB5.out⟩
theorem nw_put (w : World) (x : Nat) (who nt u : Int) (nx : Option Addr) (h : Blk w x (nwCells who nx nt) 226) :
    Calls Tryz.prog 175 #[.pointer (some ⟨x, 0, none⟩), .int .u64 u] w fun e w' => (∃ v, e = .returned v) ∧ Came w w' x (nwCells who nx nt) 226 (axSt nt u) .nil := by
  have H := came_store_nil w.drew x _ 226 h.drew (by simp [nwCells]) nt u
  have c2 := h.cell 2 (v := .int .i64 nt) rfl
  clear h
  go_enter Tryz.func175, Tryz.ntmps175
  go_wp2_with fail
  go_region_with (first | (go_at_call 159; refine H.mono ?_; rintro e w1 ⟨⟨v, rfl⟩, hC⟩))
  all_goals
    have hC2 := hC.undrew
    clear H c2 hC
    go_wp2_with fail
    go_end0
    exact ⟨⟨_, rfl⟩, hC2⟩
theorem nw_new (w : World) (cl : Nat) (who t P T G : Int) (hl : Lay w cl P T G) (hp : 0 ≤ P ∧ P ≤ 64) (hT : 0 ≤ T ∧ T ≤ 65536) :
    Calls Tryz.prog 191 #[.pointer (some ⟨cl, 0, none⟩), .int .i64 t, .int .i64 who] w fun e w' => ∃ x L, e = .returned (.pointer (some ⟨x, 0, none⟩)) ∧ (nwSub (wd (20 + P * 264) T 3 t 0) who).I w' x NwT.fresh L ∧ Below w.heap.size w w' ∧ w.heap.size ≤ x ∧ (∀ k ∈ L, w.heap.size ≤ k) ∧ ∃ a, w'.cell? ⟨x, 1, none⟩ = some (.pointer (some a)) := by
  have hB := Blk.new w (nwCells 0 none 0) 226
  have hb : Below w.heap.size w (w.alloc (.cells (nwCells 0 none 0) 226)) := (Below.refl _ _).alloc (Nat.le_refl _) _
  have hO := nw_of _ w.heap.size cl who t P T G hB (hl.below hb hl.lt) hp hT (by have := hl.lt; omega)
  have HH : Hid (Below w.heap.size w (w.alloc (.cells (nwCells 0 none 0) 226))) := hb
  have hsz := World.size_alloc w (.cells (nwCells 0 none 0) 226)
  generalize wd (20 + P * 264) T 3 t 0 = nt at *
  clear hB hb hl hp hT
  unfold nwCells at hO HH hsz
  go_enter Tryz.func191, Tryz.ntmps191
  go_wp2_with fail
  go_at_call 147; refine hO.mono ?_; rintro e w1 ⟨⟨v, rfl⟩, h1, h2⟩
  have hb1 : Hid (Below w.heap.size w w1) := HH.out.trans (h2.below (by simp) (by rw [hsz]; omega))
  have hL := nw_put w1 w.heap.size who nt 1 none h1
  have h1lt := h1.lt
  clear hO h1 h2 HH hsz
  go_wp2_with fail
  go_at_call 175; refine hL.mono ?_; rintro e w2 ⟨⟨v2, rfl⟩, hC⟩
  obtain ⟨q, Lc, c1, c2, c3, c4⟩ := hC
  have hs1 := hb1.out.size
  have hw1 : w.heap.size < w1.heap.size := h1lt
  have hF : Hid ((nwSub nt who).I w2 w.heap.size NwT.fresh (w.heap.size :: Lc) ∧ Below w.heap.size w w2 ∧ (∀ k ∈ w.heap.size :: Lc, w.heap.size ≤ k) ∧ ∃ a, w2.cell? ⟨w.heap.size, 1, none⟩ = some (.pointer (some a))) := by
    refine ⟨⟨trivial, q, Lc, c1, c2, fun hm => by have := c4 _ hm; omega, rfl⟩, hb1.out.trans (c3.below (by simp) hs1), fun k hk => ?_, _, c1.cell 1 rfl⟩
    simp at hk
    rcases hk with rfl | hk
    · exact Nat.le_refl _
    · have := c4 k hk; omega
  clear hL c1 c2 c3 c4
  go_wp2_with fail
  go_ret
  exact ⟨w.heap.size, w.heap.size :: Lc, rfl, hF.out.1, hF.out.2.1, Nat.le_refl _, hF.out.2.2.1, hF.out.2.2.2⟩

/-- A machine was made, and runs. -/
def RunNew (S : Sub) (pt : S.τ) (W w' : World) (x : Nat) (cs : Array Value) (T : TypeId) (fv : Value) : Prop := ∃ y q b L, CameBox W w' x cs T (fun v => comCells 0 0 0 0 0 false (.iface S.D (.pointer (some ⟨y, 0, none⟩))) v false false) fv q b ∧ S.I w' y pt L ∧ (∀ k ∈ L, W.heap.size ≤ k) ∧ q ∉ L ∧ b ∉ L
theorem RunNew.mk {S : Sub} {pt : S.τ} {W w4 w5 : World} {x y q b : Nat} {L : List Nat} {cs : Array Value} {T : TypeId} {fv : Value} (hG : S.I.Good S.M) (hI : S.I w4 y pt L) (hL : ∀ k ∈ L, W.heap.size ≤ k) (hx : x < W.heap.size) (hB : But [x] W w4) (hC : CameBox w4 w5 x cs T (fun v => comCells 0 0 0 0 0 false (.iface S.D (.pointer (some ⟨y, 0, none⟩))) v false false) fv q b) : RunNew S pt W w5 x cs T fv := by
  have hlt := hG.lt hI
  refine ⟨y, q, b, L, hC.before hB, hG.keep hI hC.at'.but (fun k hk => ?_), hL, fun hm => ?_, fun hm => ?_⟩
  · have := hL k hk; simp; omega
  · have := hlt q hm; have := hC.at'.fresh; omega
  · have := hlt b hm; have := hC.fresh; omega

section
variable (w : World) (x cl : Nat) (who : Int) (cs : Array Value) (T : TypeId) (h : Blk w x cs T) (hs : 2 ≤ cs.size) (h0 : cs[0]? = some (.int .i64 who)) (h2 : cs[2]? = some (.pointer (some ⟨cl, 0, none⟩)))
include h hs h2
theorem wk_need (K : Nat) :
    Calls Tryz.prog 127 #[.pointer (some ⟨x, 0, none⟩), .func (.func K) #[.pointer (some ⟨x, 0, none⟩)] #[]] w fun e w' => (∃ v, e = .returned v) ∧ Came w w' x cs T (axSt 14 1) (.untold K) := by
  have H := came_store w.drew x cs T h.drew hs 14 1 K
  have c2 := h.cell 2 h2
  have hW := il_word w.drew cl 14 (by omega)
  clear h hs h2
  go_enter Tryz.func127, Tryz.ntmps127
  go_wp2_with fail
  go_region_with (first | (go_at_call 92; refine hW.mono ?_; rintro e w3 ⟨rfl, rfl⟩) | (go_at_call 159; refine H.mono ?_; rintro e w1 ⟨⟨v, rfl⟩, hC⟩))
  all_goals
    have hC2 := hC.undrew
    clear hW H c2 hC
    go_wp2_with fail
    go_end0
    exact ⟨⟨_, rfl⟩, hC2⟩
theorem wk_countOut (K : Nat) :
    Calls Tryz.prog 164 #[.pointer (some ⟨x, 0, none⟩), .func (.func K) #[.pointer (some ⟨x, 0, none⟩)] #[]] w fun e w' => (∃ v, e = .returned v) ∧ Came w w' x cs T (axAd 13 4294967295) (.told K) := by
  have H := came_add w.drew x cs T h.drew hs 13 4294967295 K
  have c2 := h.cell 2 h2
  have hW := il_word w.drew cl 13 (by omega)
  clear h hs h2
  go_enter Tryz.func164, Tryz.ntmps164
  go_wp2_with fail
  go_region_with (first | (go_at_call 92; refine hW.mono ?_; rintro e w3 ⟨rfl, rfl⟩) | (go_at_call 116; refine H.mono ?_; rintro e w1 ⟨⟨v, rfl⟩, hC⟩))
  all_goals
    have hC2 := hC.undrew
    clear hW H c2 hC
    go_wp2_with fail
    go_end0
    exact ⟨⟨_, rfl⟩, hC2⟩
include h0
set_option maxHeartbeats 4000000 in
theorem wk_release (fv : Value) (hf : Fv fv) :
    Calls Tryz.prog 129 #[.pointer (some ⟨x, 0, none⟩), fv] w fun e w' => (∃ v, e = .returned v) ∧ RunNew (relSub (wd 0 2 3 0 1) (wd 0 2 3 0 2) who) RelT.fresh w w' x cs T fv := by
  have hlt := h.lt
  have c2 := h.cell 2 h2
  have hO := who_any w.drew x who (h.drew.cell 0 h0)
  have hR := rel_fresh w.drew cl 0 who
  have HG : Hid ((relSub (wd 0 2 3 0 1) (wd 0 2 3 0 2) who).I.Good (relSub (wd 0 2 3 0 1) (wd 0 2 3 0 2) who).M) := Fl.good (rel_laws _ _ who)
  have HH : Hid (Blk w x cs T ∧ 2 ≤ cs.size ∧ Fv fv) := ⟨h, hs, hf⟩
  clear h hs h0 h2
  cases hf
  all_goals
    go_enter Tryz.func129, Tryz.ntmps129
    go_wp2_with fail
    go_region_with (first | (go_at_call 168; refine hO.mono ?_; rintro e w3 ⟨rfl, rfl⟩) | (go_at_call 167; refine hR.mono ?_; rintro e w4 ⟨y, L, rfl, k1, k4, k5, k6, a, k7⟩; have hB4 : But [x] w w4 := ((But.refl [x] w).drew).trans (But.of_below k4); have hf := frun_rel w4 x y cs T _ a (HH.out.1.but (But.of_below (l := []) (show Below w.heap.size w w4 from (Below.refl _ _).drew.trans k4)) (by simp)) HH.out.2.1 HH.out.2.2 (by have : w.heap.size ≤ y := k5; omega) k7) | (go_at_call 70; refine hf.mono ?_; rintro e w5 ⟨⟨v, rfl⟩, q, g, hC⟩))
    all_goals
      have k6' : ∀ k ∈ L, w.heap.size ≤ k := k6
      have hR5 := RunNew.mk (S := relSub (wd 0 2 3 0 1) (wd 0 2 3 0 2) who) (W := w) HG.out k1 k6' hlt hB4 hC
      clear hO hR c2 hf k1 k4 k5 k6 k6' k7 hC hB4 HH HG
      go_wp2_with fail
      go_end0
      exact ⟨⟨_, rfl⟩, hR5⟩
theorem wk_end :
    Calls Tryz.prog 189 #[.pointer (some ⟨x, 0, none⟩)] w fun e w' => (∃ v, e = .returned v) ∧ RunNew (relSub (wd 0 2 3 0 1) (wd 0 2 3 0 2) who) RelT.fresh w w' x cs T .nilFunc := by
  have H := wk_release w x cl who cs T h hs h0 h2 .nilFunc .none
  clear h hs h0 h2
  go_enter Tryz.func189, Tryz.ntmps189
  go_wp2_with fail
  go_at_call 129; refine H.mono ?_; rintro e w1 ⟨⟨v, rfl⟩, hC⟩
  clear H
  go_wp2_with fail
  go_end0
  exact ⟨⟨_, rfl⟩, hC⟩
end
theorem wk_of (w : World) (x c : Nat) (who : Int) (cs cs' : Array Value) (T : TypeId) (h : Blk w x cs T) (hs : 3 ≤ cs.size) (hcs : (cs.setIfInBounds 2 (.pointer (some ⟨c, 0, none⟩))).setIfInBounds 0 (.int .i64 who) = cs') :
    Calls Tryz.prog 68 #[.pointer (some ⟨x, 0, none⟩), .pointer (some ⟨c, 0, none⟩), .int .i64 who] w fun e w' => (∃ v, e = .returned v) ∧ Blk w' x cs' T ∧ But [x] w w' ∧ w'.heap.size = w.heap.size := by
  have f2 := h.fro 2
  have hh2 := h.set 2 (.pointer (some ⟨c, 0, none⟩))
  have hF := fof_any _ x _ T who hh2 (by simp; omega)
  have hB0 : But [x] w (w.setCell ⟨x, 2, none⟩ (.pointer (some ⟨c, 0, none⟩))) := (But.refl _ w).set (g := x) (.inl (by simp)) 2 _
  obtain ⟨u, hu⟩ : ∃ u, w.cell? ⟨x, 2, none⟩ = some u := ⟨_, h.cell 2 (Array.getElem?_eq_getElem hs)⟩
  have HH : Hid (Blk _ x _ T ∧ But [x] w _ ∧ (w.setCell ⟨x, 2, none⟩ (.pointer (some ⟨c, 0, none⟩))).heap.size = w.heap.size) := ⟨hh2, hB0, size_set _ _ _⟩
  clear h hh2 hB0 hs
  go_enter Tryz.func68, Tryz.ntmps68
  go_wp2_with fail
  generalize w.setCell ⟨x, 2, none⟩ (.pointer (some ⟨c, 0, none⟩)) = W at *
  go_at_call 121; refine hF.mono ?_; rintro e w3 ⟨⟨v, rfl⟩, hw3⟩
  have h3 : Blk w3 x cs' T := by rw [hw3, ← hcs]; exact HH.out.1.set 0 _
  have hB3 : But [x] w w3 := by rw [hw3]; exact HH.out.2.1.set (g := x) (.inl (by simp)) 0 _
  have hs3 : w3.heap.size = w.heap.size := by rw [hw3, size_set]; exact HH.out.2.2
  clear hF hw3 HH hcs hu f2
  go_wp2_with fail
  go_end0
  exact ⟨⟨_, rfl⟩, h3, hB3, hs3⟩
end Go.Proofs.YthbgoakaijeemaaGreat

namespace Go.Proofs.YthbgoakaijeemaaGreat
open Go Go.RowKit
set_option linter.unusedVariables false
set_option maxRecDepth 100000
set_option linter.unusedSimpArgs false

def wsCells (who : Int) (nx : Option Addr) (cl : Nat) (p : Int) (sp lf has : Bool) (th : Nat) (bk : Option Addr) : Array Value := #[.int .i64 who, .pointer nx, .pointer (some ⟨cl, 0, none⟩), .int .i64 p, .bool sp, .bool lf, .bool has, .pointer (some ⟨th, 0, none⟩), .pointer bk]
/-- What is given, as a word. -/
def wkWord (p : Int) (sp : Bool) : Int := if sp then IntKind.u64.wrap (ilw p + 4294967296) else ilw p
theorem wkWord_bd (p : Int) (sp : Bool) : 0 ≤ wkWord p sp ∧ wkWord p sp ≤ 18446744073709551615 := by
  cases sp with
  | false => exact ilw_bd p
  | true =>
    show 0 ≤ IntKind.u64.wrap (ilw p + 4294967296) ∧ IntKind.u64.wrap (ilw p + 4294967296) ≤ 18446744073709551615
    generalize ilw p + 4294967296 = z
    simp [IntKind.wrap, IntKind.bits, IntKind.signed]
    omega
theorem wk_word (w : World) (p : Int) (sp : Bool) : Calls Tryz.prog 31 #[.int .i64 p, .bool sp] w fun e w' => e = .returned (.int .u64 (wkWord p sp)) ∧ w = w' := by
  cases sp with
  | false =>
    go_enter Tryz.func31, Tryz.ntmps31
    go_wp2_with fail
    go_ret
    exact ⟨rfl, rfl⟩
  | true =>
    go_enter Tryz.func31, Tryz.ntmps31
    go_wp2_with fail
    go_ret
    exact ⟨rfl, rfl⟩
theorem RunNew.before {S : Sub} {pt : S.τ} {a W w' : World} {x : Nat} {cs : Array Value} {T : TypeId} {fv : Value} (h : RunNew S pt W w' x cs T fv) (hb : But [x] a W) : RunNew S pt a w' x cs T fv := by
  obtain ⟨y, q, b, L, h1, h2, h3, h4, h5⟩ := h
  exact ⟨y, q, b, L, h1.before hb, h2, fun k hk => Nat.le_trans hb.size (h3 k hk), h4, h5⟩
section
variable (w : World) (x cl th : Nat) (who p : Int) (sp lf has : Bool) (bk nx : Option Addr) (h : Blk w x (wsCells who nx cl p sp lf has th bk) 111)
include h
theorem ws_T (v : Int) (hT : Calls Tryz.prog 86 #[.pointer (some ⟨th, 0, none⟩)] w fun e w' => e = .returned (.int .i64 v) ∧ w = w') :
    Calls Tryz.prog 18 #[.pointer (some ⟨x, 0, none⟩)] w fun e w' => e = .returned (.int .i64 v) ∧ w = w' := by
  have c7 := h.cell 7 (v := .pointer (some ⟨th, 0, none⟩)) rfl
  clear h
  go_enter Tryz.func18, Tryz.ntmps18
  go_wp2_with fail
  go_at_call 86; refine hT.mono ?_; rintro e w1 ⟨rfl, rfl⟩
  clear hT
  go_wp2_with fail
  go_ret
  exact ⟨rfl, rfl⟩
theorem ws_choose_none (hT : Calls Tryz.prog 18 #[.pointer (some ⟨x, 0, none⟩)] w fun e w' => e = .returned (.int .i64 (-1)) ∧ w = w') :
    Calls Tryz.prog 71 #[.pointer (some ⟨x, 0, none⟩)] w fun e w' => (∃ v, e = .returned v) ∧ Came w w' x (wsCells who nx cl p sp lf has th bk) 111 (axSt 14 1) (.untold 128) := by
  have H := wk_need w x cl _ 111 h (by simp [wsCells]) rfl 128
  clear h
  go_enter Tryz.func71, Tryz.ntmps71
  go_wp2_with fail
  go_at_call 18; refine hT.mono ?_; rintro e w1 ⟨rfl, rfl⟩
  clear hT
  go_wp2_with fail
  go_at_call 127; refine H.mono ?_; rintro e w1 ⟨⟨u, rfl⟩, hC⟩
  clear H
  go_wp2_with fail
  refine bodyPost_ret (results_none rfl _ _ _) rfl ?_
  exact ⟨⟨_, rfl⟩, hC⟩
theorem ws_choose_some (v : Int) (hv : v ≠ -1) (hT : Calls Tryz.prog 18 #[.pointer (some ⟨x, 0, none⟩)] w fun e w' => e = .returned (.int .i64 v) ∧ w = w') :
    Calls Tryz.prog 71 #[.pointer (some ⟨x, 0, none⟩)] w fun e w' => (∃ v, e = .returned v) ∧ RunNew (relSub (wd 0 2 3 0 1) (wd 0 2 3 0 2) who) RelT.fresh w w' x (wsCells who nx cl p sp lf has th bk) 111 (.func (.func 130) #[.pointer (some ⟨x, 0, none⟩)] #[]) := by
  have H := wk_release w x cl who _ 111 h (by simp [wsCells]) rfl rfl (.func (.func 130) #[.pointer (some ⟨x, 0, none⟩)] #[]) (.some _ _ _)
  have hd : (v == -1) = false := by simpa using hv
  clear h hv
  go_enter Tryz.func71, Tryz.ntmps71
  go_wp2_with fail
  go_at_call 18; refine hT.mono ?_; rintro e w1 ⟨rfl, rfl⟩
  clear hT
  go_wp2_with fail
  go_at_call 129; refine H.mono ?_; rintro e w1 ⟨⟨u, rfl⟩, hC⟩
  clear H
  go_wp2_with fail
  go_end0
  exact ⟨⟨_, rfl⟩, hC⟩
theorem ws_give (v P T G : Int) (hT : ∀ Y, Below w.heap.size w Y → Calls Tryz.prog 18 #[.pointer (some ⟨x, 0, none⟩)] Y fun e w' => e = .returned (.int .i64 v) ∧ Y = w') (hl : Lay w cl P T G) (hp : 0 ≤ P ∧ P ≤ 64) (hTT : 0 ≤ T ∧ T ≤ 65536) :
    Calls Tryz.prog 130 #[.pointer (some ⟨x, 0, none⟩)] w fun e w' => (∃ v, e = .returned v) ∧ Came w w' x (wsCells who nx cl p sp lf has th bk) 111 (axSt (wd (20 + P * 264) T 3 v 1) (wkWord p sp)) (.untold 169) := by
  have hWd : Hid (∀ Y, Calls Tryz.prog 31 #[.int .i64 p, .bool sp] Y fun e w' => e = .returned (.int .u64 (wkWord p sp)) ∧ Y = w') := fun Y => wk_word Y p sp
  have hD : Hid (Below w.heap.size w w.drew) := (Below.refl _ _).drew
  have hTh := lthr_any _ P T G v 1 w.drew (.some cl (hl.below hD.out hl.lt)) hp hTT
  have hT1 := hT w.drew hD.out
  have HS : Hid (∀ Y, Below w.drew.heap.size w.drew Y → Calls Tryz.prog 159 #[.pointer (some ⟨x, 0, none⟩), .int .i64 (wd (20 + P * 264) T 3 v 1), .int .u64 (wkWord p sp), .func (.func 169) #[.pointer (some ⟨x, 0, none⟩)] #[]] Y fun e w' => (∃ v, e = .returned v) ∧ Came w w' x (wsCells who nx cl p sp lf has th bk) 111 (axSt (wd (20 + P * 264) T 3 v 1) (wkWord p sp)) (.untold 169)) := by
    intro Y hY
    refine (came_store Y x _ 111 (h.drew.but (But.of_below (l := []) hY) (by simp)) (by simp [wsCells]) _ (wkWord p sp) 169).mono ?_
    rintro e w5 ⟨hv, hC⟩
    exact ⟨hv, hC.before (((But.refl [x] w).drew).trans (But.of_below hY))⟩
  generalize wd (20 + P * 264) T 3 v 1 = at' at *
  generalize wkWord p sp = wv at *
  have hH : Hid (w.drew.cell? ⟨x, 2, none⟩ = some (.pointer (some ⟨cl, 0, none⟩)) ∧ w.drew.cell? ⟨x, 3, none⟩ = some (.int .i64 p) ∧ w.drew.cell? ⟨x, 4, none⟩ = some (.bool sp)) := ⟨h.drew.cell 2 (v := .pointer (some ⟨cl, 0, none⟩)) rfl, h.drew.cell 3 (v := .int .i64 p) rfl, h.drew.cell 4 (v := .bool sp) rfl⟩
  have KB : Hid (∀ w4, Below w.drew.heap.size w.drew w4 → w4.cell? ⟨x, 2, none⟩ = some (.pointer (some ⟨cl, 0, none⟩)) ∧ w4.cell? ⟨x, 3, none⟩ = some (.int .i64 p) ∧ w4.cell? ⟨x, 4, none⟩ = some (.bool sp)) := fun w4 k => by
    have h4 := h.drew.but (But.of_below (l := []) k) (by simp)
    exact ⟨h4.cell 2 rfl, h4.cell 3 rfl, h4.cell 4 rfl⟩
  have KC : Hid (∀ w5, Came w w5 x (wsCells who nx cl p sp lf has th bk) 111 (axSt at' wv) (.untold 169) → w5.cell? ⟨x, 2, none⟩ = some (.pointer (some ⟨cl, 0, none⟩)) ∧ w5.cell? ⟨x, 3, none⟩ = some (.int .i64 p) ∧ w5.cell? ⟨x, 4, none⟩ = some (.bool sp)) := fun w5 hC => by
    obtain ⟨q, Lc, h1, -⟩ := hC
    exact ⟨h1.cell 2 rfl, h1.cell 3 rfl, h1.cell 4 rfl⟩
  clear h hT hl hp hTT hD
  go_enter Tryz.func130, Tryz.ntmps130
  go_wp2_with fail
  go_region_held3 (fun w' => w'.cell? ⟨x, 2, none⟩ = some (.pointer (some ⟨cl, 0, none⟩)) ∧ w'.cell? ⟨x, 3, none⟩ = some (.int .i64 p) ∧ w'.cell? ⟨x, 4, none⟩ = some (.bool sp)) (first | exact hH.out | exact KB.out _ ‹_› | exact KC.out _ ‹_›) (first | (go_at_call 18; refine hT1.mono ?_; rintro e x1 ⟨rfl, rfl⟩) | (go_at_call 31; refine (hWd.out _).mono ?_; rintro e x2 ⟨rfl, rfl⟩) | (go_at_call 35; refine hTh.mono ?_; rintro e x3 ⟨rfl, g3⟩) | (go_at_call 159; refine (HS.out _ ‹_›).mono ?_; rintro e x4 ⟨⟨u, rfl⟩, hC⟩))
  all_goals
    clear hT1 hTh hWd HS hH KB KC
    go_wp2_with fail
    go_end0
    exact ⟨⟨_, rfl⟩, hC⟩
theorem ws_countBack_yes (hs : sp = true) :
    Calls Tryz.prog 128 #[.pointer (some ⟨x, 0, none⟩)] w fun e w' => (∃ v, e = .returned v) ∧ Came w w' x (wsCells who nx cl p sp lf has th bk) 111 (axAd 13 4294967295) (.told 165) := by
  have H := wk_countOut w x cl _ 111 h (by simp [wsCells]) rfl 165
  have c4 := h.cell 4 (v := .bool sp) rfl
  subst hs
  clear h
  go_enter Tryz.func128, Tryz.ntmps128
  go_wp2_with fail
  go_at_call 164; refine H.mono ?_; rintro e w1 ⟨⟨u, rfl⟩, hC⟩
  clear H c4
  go_wp2_with fail
  refine bodyPost_ret (results_none rfl _ _ _) rfl ?_
  exact ⟨⟨_, rfl⟩, hC⟩
theorem ws_countBack_no (M : World → Prop) (hs : sp = false) (H : Calls Tryz.prog 166 #[.pointer (some ⟨x, 0, none⟩)] w fun e w' => (∃ v, e = .returned v) ∧ M w') :
    Calls Tryz.prog 128 #[.pointer (some ⟨x, 0, none⟩)] w fun e w' => (∃ v, e = .returned v) ∧ M w' := by
  have c4 := h.cell 4 (v := .bool sp) rfl
  subst hs
  clear h
  go_enter Tryz.func128, Tryz.ntmps128
  go_wp2_with fail
  go_at_call 166; refine H.mono ?_; rintro e w1 ⟨⟨u, rfl⟩, hC⟩
  clear H c4
  go_wp2_with fail
  go_end0
  exact ⟨⟨_, rfl⟩, hC⟩
omit h in
theorem ws_counted (M : World → Prop) (u : Int) (H : Calls Tryz.prog 166 #[.pointer (some ⟨x, 0, none⟩)] w fun e w' => (∃ v, e = .returned v) ∧ M w') :
    Calls Tryz.prog 165 #[.pointer (some ⟨x, 0, none⟩), .int .u64 u] w fun e w' => (∃ v, e = .returned v) ∧ M w' := by
  go_enter Tryz.func165, Tryz.ntmps165
  go_wp2_with fail
  go_at_call 166; refine H.mono ?_; rintro e w1 ⟨⟨u, rfl⟩, hC⟩
  clear H
  go_wp2_with fail
  go_end0
  exact ⟨⟨_, rfl⟩, hC⟩
theorem ws_leave :
    Calls Tryz.prog 187 #[.pointer (some ⟨x, 0, none⟩)] w fun e w' => (∃ v, e = .returned v) ∧ RunNew (relSub (wd 0 2 3 0 1) (wd 0 2 3 0 2) who) RelT.fresh w w' x (wsCells who nx cl p sp lf false th bk) 111 .nilFunc := by
  have c6 := h.cell 6 (v := .bool has) rfl
  have f6 := h.fro 6
  have hlt := h.lt
  have h' : Blk (w.setCell ⟨x, 6, none⟩ (.bool false)) x (wsCells who nx cl p sp lf false th bk) 111 := h.set 6 (.bool false)
  have hB : But [x] w (w.setCell ⟨x, 6, none⟩ (.bool false)) := (But.refl _ w).set (g := x) (.inl (by simp)) 6 _
  have H := wk_end _ x cl who _ 111 h' (by simp [wsCells]) rfl rfl
  clear h h'
  go_enter Tryz.func187, Tryz.ntmps187
  go_wp2_with fail
  go_at_call 189; refine H.mono ?_; rintro e w1 ⟨⟨u, rfl⟩, hC⟩
  have hC2 := hC.before hB
  clear H hC hB c6 f6
  go_wp2_with fail
  go_end0
  exact ⟨⟨_, rfl⟩, hC2⟩
theorem ws_putBack_left (P T G : Int) (hl : Lay w cl P T G) (hp : 0 ≤ P ∧ P ≤ 64) (hf : lf = true) :
    Calls Tryz.prog 166 #[.pointer (some ⟨x, 0, none⟩)] w fun e w' => (∃ v, e = .returned v) ∧ Came w w' x (wsCells who nx cl p sp lf has th bk) 111 (axSt (wd 20 P 264 p 0) 2) (.untold 187) := by
  subst hf
  have c5 := h.cell 5 (v := .bool true) rfl
  have hD : Hid (Below w.heap.size w w.drew) := (Below.refl _ _).drew
  have hPr := lprc_any _ P T G p 0 w.drew (.some cl (hl.below hD.out hl.lt)) hp (by omega)
  have HS : Hid (∀ Y, Below w.drew.heap.size w.drew Y → Calls Tryz.prog 159 #[.pointer (some ⟨x, 0, none⟩), .int .i64 (wd 20 P 264 p 0), .int .u64 2, .func (.func 187) #[.pointer (some ⟨x, 0, none⟩)] #[]] Y fun e w' => (∃ v, e = .returned v) ∧ Came w w' x (wsCells who nx cl p sp true has th bk) 111 (axSt (wd 20 P 264 p 0) 2) (.untold 187)) := by
    intro Y hY
    refine (came_store Y x _ 111 (h.drew.but (But.of_below (l := []) hY) (by simp)) (by simp [wsCells]) _ 2 187).mono ?_
    rintro e w5 ⟨hv, hC⟩
    exact ⟨hv, hC.before (((But.refl [x] w).drew).trans (But.of_below hY))⟩
  generalize wd 20 P 264 p 0 = at' at *
  have hH : Hid (w.drew.cell? ⟨x, 2, none⟩ = some (.pointer (some ⟨cl, 0, none⟩)) ∧ w.drew.cell? ⟨x, 3, none⟩ = some (.int .i64 p)) := ⟨h.drew.cell 2 (v := .pointer (some ⟨cl, 0, none⟩)) rfl, h.drew.cell 3 (v := .int .i64 p) rfl⟩
  have KB : Hid (∀ w4, Below w.drew.heap.size w.drew w4 → w4.cell? ⟨x, 2, none⟩ = some (.pointer (some ⟨cl, 0, none⟩)) ∧ w4.cell? ⟨x, 3, none⟩ = some (.int .i64 p)) := fun w4 k => by
    have h4 := h.drew.but (But.of_below (l := []) k) (by simp)
    exact ⟨h4.cell 2 rfl, h4.cell 3 rfl⟩
  have KC : Hid (∀ w5, Came w w5 x (wsCells who nx cl p sp true has th bk) 111 (axSt at' 2) (.untold 187) → w5.cell? ⟨x, 2, none⟩ = some (.pointer (some ⟨cl, 0, none⟩)) ∧ w5.cell? ⟨x, 3, none⟩ = some (.int .i64 p)) := fun w5 hC => by
    obtain ⟨q, Lc, h1, -⟩ := hC
    exact ⟨h1.cell 2 rfl, h1.cell 3 rfl⟩
  clear h hl hp hD
  go_enter Tryz.func166, Tryz.ntmps166
  go_wp2_with fail
  clear c5
  go_region_held3 (fun w' => w'.cell? ⟨x, 2, none⟩ = some (.pointer (some ⟨cl, 0, none⟩)) ∧ w'.cell? ⟨x, 3, none⟩ = some (.int .i64 p)) (first | exact hH.out | exact KB.out _ ‹_› | exact KC.out _ ‹_›) (first | (go_at_call 62; refine hPr.mono ?_; rintro e x3 ⟨rfl, g3⟩) | (go_at_call 159; refine (HS.out _ ‹_›).mono ?_; rintro e x4 ⟨⟨u, rfl⟩, hC⟩))
  all_goals
    clear hPr HS hH KB KC
    go_wp2_with fail
    refine bodyPost_ret (results_none rfl _ _ _) rfl ?_
    exact ⟨⟨_, rfl⟩, hC⟩
end
end Go.Proofs.YthbgoakaijeemaaGreat
