/- A nap, in memory. -/
import Derived.Test.YthbgoakaijeemaaGreatR2
import Derived.Test.YthbgoakaijeemaaGreatIl0
import Derived.Test.YthbgoakaijeemaaGreatLkFl
namespace Go.Proofs.YthbgoakaijeemaaGreat
open Go Go.RowKit
set_option linter.unusedVariables false
set_option maxRecDepth 100000
set_option linter.unusedSimpArgs false

theorem rs_of (w : World) (x c : Nat) (who : Int) (cs cs' : Array Value) (T : TypeId) (h : Blk w x cs T) (hs : 3 ≤ cs.size) (hcs : (cs.setIfInBounds 2 (.pointer (some ⟨c, 0, none⟩))).setIfInBounds 0 (.int .i64 who) = cs') :
    Calls Tryz.prog 108 #[.pointer (some ⟨x, 0, none⟩), .pointer (some ⟨c, 0, none⟩), .int .i64 who] w fun e w' => (∃ v, e = .returned v) ∧ Blk w' x cs' T ∧ But [x] w w' ∧ w'.heap.size = w.heap.size := by
  have f2 := h.fro 2
  have hh2 := h.set 2 (.pointer (some ⟨c, 0, none⟩))
  have hF := fof_any _ x _ T who hh2 (by simp; omega)
  have hB0 : But [x] w (w.setCell ⟨x, 2, none⟩ (.pointer (some ⟨c, 0, none⟩))) := (But.refl _ w).set (g := x) (.inl (by simp)) 2 _
  obtain ⟨u, hu⟩ : ∃ u, w.cell? ⟨x, 2, none⟩ = some u := ⟨_, h.cell 2 (Array.getElem?_eq_getElem hs)⟩
  have HH : Hid (Blk _ x _ T ∧ But [x] w _ ∧ (w.setCell ⟨x, 2, none⟩ (.pointer (some ⟨c, 0, none⟩))).heap.size = w.heap.size) := ⟨hh2, hB0, size_set _ _ _⟩
  clear h hh2 hB0 hs
  go_enter Tryz.func108, Tryz.ntmps108
  go_wp2_with fail
  generalize w.setCell ⟨x, 2, none⟩ (.pointer (some ⟨c, 0, none⟩)) = W at *
  go_at_call 121; refine hF.mono ?_; rintro e w3 ⟨⟨v, rfl⟩, hw3⟩
  have h3 : Blk w3 x cs' T := by rw [hw3, ← hcs]; exact HH.out.1.set 0 _
  have hB3 : But [x] w w3 := by rw [hw3]; exact HH.out.2.1.set (g := x) (.inl (by simp)) 0 _
  have hs3 : w3.heap.size = w.heap.size := by rw [hw3, size_set]; exact HH.out.2.2
  clear hF hw3 HH hcs hu f2
  go_wp2_with fail
  go_end0
  exact ⟨⟨_, rfl⟩, h3, hB3, hs3⟩
section
variable (w : World) (x cl : Nat) (who : Int) (cs : Array Value) (T : TypeId) (h : Blk w x cs T) (hs : 2 ≤ cs.size) (h2 : cs[2]? = some (.pointer (some ⟨cl, 0, none⟩)))
include h hs h2
theorem rs_run (p P T' G : Int) (hl : Lay w cl P T' G) (hp : 0 ≤ P ∧ P ≤ 64) :
    Calls Tryz.prog 193 #[.pointer (some ⟨x, 0, none⟩), .int .i64 p] w fun e w' => (∃ v, e = .returned v) ∧ Came w w' x cs T (axSt (wd 20 P 264 p 0) 1) .nil := by
  have hD : Hid (Below w.heap.size w w.drew) := (Below.refl _ _).drew
  have hPr := lprc_any _ P T' G p 0 w.drew (.some cl (hl.below hD.out hl.lt)) hp (by omega)
  have HS : Hid (∀ Y, Below w.drew.heap.size w.drew Y → Calls Tryz.prog 159 #[.pointer (some ⟨x, 0, none⟩), .int .i64 (wd 20 P 264 p 0), .int .u64 1, .nilFunc] Y fun e w' => (∃ v, e = .returned v) ∧ Came w w' x cs T (axSt (wd 20 P 264 p 0) 1) .nil) := by
    intro Y hY
    refine (came_store_nil Y x cs T (h.drew.but (But.of_below (l := []) hY) (by simp)) hs _ 1).mono ?_
    rintro e w5 ⟨hv, hC⟩
    exact ⟨hv, hC.before (((But.refl [x] w).drew).trans (But.of_below hY))⟩
  generalize wd 20 P 264 p 0 = at' at *
  have hH : Hid (w.drew.cell? ⟨x, 2, none⟩ = some (.pointer (some ⟨cl, 0, none⟩))) := h.drew.cell 2 h2
  have KB : Hid (∀ w4, Below w.drew.heap.size w.drew w4 → w4.cell? ⟨x, 2, none⟩ = some (.pointer (some ⟨cl, 0, none⟩))) := fun w4 k => (h.drew.but (But.of_below (l := []) k) (by simp)).cell 2 h2
  have KC : Hid (∀ w5, Came w w5 x cs T (axSt at' 1) .nil → w5.cell? ⟨x, 2, none⟩ = some (.pointer (some ⟨cl, 0, none⟩))) := fun w5 hC => by
    obtain ⟨q, Lc, h1, -⟩ := hC
    exact h1.cell 2 (by rw [Array.getElem?_setIfInBounds, if_neg (by omega)]; exact h2)
  clear h hl hp hD hs h2
  go_enter Tryz.func193, Tryz.ntmps193
  go_wp2_with fail
  go_region_held3 (fun w' => w'.cell? ⟨x, 2, none⟩ = some (.pointer (some ⟨cl, 0, none⟩))) (first | exact hH.out | exact KB.out _ ‹_› | exact KC.out _ ‹_›) (first | (go_at_call 62; refine hPr.mono ?_; rintro e x3 ⟨rfl, g3⟩) | (go_at_call 159; refine (HS.out _ ‹_›).mono ?_; rintro e x4 ⟨⟨u, rfl⟩, hC⟩))
  all_goals
    clear hPr HS hH KB KC
    go_wp2_with fail
    go_end0
    exact ⟨⟨_, rfl⟩, hC⟩
end
/-- A thread that is counted in. -/
def spCells (who : Int) (nx : Option Addr) (cl : Nat) (ct : Bool) : Array Value := #[.int .i64 who, .pointer nx, .pointer (some ⟨cl, 0, none⟩), .bool ct]
inductive SpT where
  | ad
  | st
  | over
def SpT.counts : SpT → Bool
  | .ad => false
  | _ => true
def spPM : PM SpT where
  ax := fun
    | .ad => some (axAd 13 1)
    | .st => some (axSt 14 0)
    | .over => none
  nx := fun
    | .ad, _ => .st
    | _, _ => .over
theorem sp_count (w : World) (x cl : Nat) (who u : Int) (ct : Bool) (nx : Option Addr) (h : Blk w x (spCells who nx cl ct) 158) :
    Calls Tryz.prog 117 #[.pointer (some ⟨x, 0, none⟩), .int .u64 u] w fun e w' => (∃ v, e = .returned v) ∧ Came w w' x (spCells who nx cl true) 158 (axSt 14 0) .nil := by
  have c3 := h.cell 3 (v := .bool ct) rfl
  have f3 := h.fro 3
  have h' : Blk (w.setCell ⟨x, 3, none⟩ (.bool true)) x (spCells who nx cl true) 158 := h.set 3 (.bool true)
  have hB : But [x] w (w.setCell ⟨x, 3, none⟩ (.bool true)) := (But.refl _ w).set (g := x) (.inl (by simp)) 3 _
  generalize hV : (w.setCell ⟨x, 3, none⟩ (.bool true)) = V at h' hB
  have H := came_store_nil V.drew x _ 158 h'.drew (by simp [spCells]) 14 0
  have c2 := h'.cell 2 (v := .pointer (some ⟨cl, 0, none⟩)) rfl
  have hW := il_word V.drew cl 14 (by omega)
  clear h h'
  go_enter Tryz.func117, Tryz.ntmps117
  go_wp2_with fail
  try rw [hV]
  clear hV c3 f3
  go_region_with (first | (go_at_call 92; refine hW.mono ?_; rintro e w3 ⟨rfl, rfl⟩) | (go_at_call 159; refine H.mono ?_; rintro e w1 ⟨⟨v, rfl⟩, hC⟩))
  all_goals
    have hC2 := (hC.undrew).before hB
    clear hW H c2 hC hB
    go_wp2_with fail
    go_end0
    exact ⟨⟨_, rfl⟩, hC2⟩
theorem ent_sp1 : Ent 117 := fun args w => by kernel_rfl
def spFl (who : Int) (cl : Nat) : Fl SpT where
  T := 158
  cells := fun t nx => spCells who nx cl t.counts
  fol := fun
    | .ad => .told 117
    | _ => .nil
  ok := fun _ => True
theorem sp_laws (who : Int) (cl : Nat) (R : Rd) : (spFl who cl).Laws spPM R who where
  c0 := fun t nx => rfl
  c1 := fun t nx => rfl
  set := fun t nx nx' => rfl
  axok := fun t a _ h => by
    cases t with
    | ad => cases h; exact axAd_ok _ _ (by omega)
    | st => cases h; exact axSt_ok _ _ (by omega)
    | over => cases h
  ents := fun t a h => by
    cases t with
    | ad => exact ent_sp1
    | _ => exact trivial
  ok := fun _ _ _ _ _ _ => trivial
  fol := fun W x t a v _ h hv hB _ _ => by
    cases t with
    | ad => cases h; exact sp_count W x cl who v false none hB
    | st => cases h; exact ⟨hB, But.refl _ _⟩
    | over => cases h
set_option maxHeartbeats 2000000 in
theorem sp_new (w : World) (cl : Nat) (who : Int) :
    Calls Tryz.prog 60 #[.pointer (some ⟨cl, 0, none⟩), .int .i64 who] w fun e w' => ∃ x L, e = .returned (.pointer (some ⟨x, 0, none⟩)) ∧ (spFl who cl).I spPM w' x .ad L ∧ Below w.heap.size w w' ∧ (∀ k ∈ L, w.heap.size ≤ k) ∧ w.heap.size ≤ x := by
  have hB := Blk.new w #[.int .i64 0, .pointer none, .pointer none, .bool false] 158
  have hb : Below w.heap.size w (w.alloc (.cells #[.int .i64 0, .pointer none, .pointer none, .bool false] 158)) := (Below.refl _ _).alloc (Nat.le_refl _) _
  have hO := rs_of _ w.heap.size cl who _ (spCells who none cl false) 158 hB (by simp) rfl
  have HH : Hid (Below w.heap.size w (w.alloc (.cells #[.int .i64 0, .pointer none, .pointer none, .bool false] 158))) := hb
  have hsz := World.size_alloc w (.cells #[.int .i64 0, .pointer none, .pointer none, .bool false] 158)
  clear hB hb
  go_enter Tryz.func60, Tryz.ntmps60
  go_wp2_with fail
  go_at_call 108; refine hO.mono ?_; rintro e w1 ⟨⟨v, rfl⟩, h1, h2, h3⟩
  have hb1 : Hid (Below w.heap.size w w1) := HH.out.trans (h2.below (by simp) (by rw [hsz]; omega))
  have hlt := h1.lt
  have hW1 := il_word w1.drew cl 13 (by omega)
  have hL := came_add w1.drew w.heap.size _ 158 h1.drew (by simp [spCells]) 13 1 117
  have h3' : w1.heap.size = w.heap.size + 1 := by rw [h3, hsz]
  clear hO h2 HH h1 h3 hsz
  go_wp2_with fail
  go_region_with (first | (go_at_call 92; refine hW1.mono ?_; rintro e w2 ⟨rfl, rfl⟩) | (go_at_call 116; refine hL.mono ?_; rintro e w2 ⟨⟨v2, rfl⟩, hC⟩))
  all_goals
    obtain ⟨q, Lc, c1, c2, c3, c4⟩ := hC.undrew
    have hF : Hid ((spFl who cl).I spPM w2 w.heap.size .ad (w.heap.size :: Lc) ∧ Below w.heap.size w w2 ∧ ∀ k ∈ w.heap.size :: Lc, w.heap.size ≤ k) := by
      refine ⟨⟨trivial, q, Lc, c1, c2, fun hm => by have := c4 _ hm; omega, rfl⟩, hb1.out.trans (c3.below (by simp) hb1.out.size), fun k hk => ?_⟩
      simp at hk
      rcases hk with rfl | hk
      · exact Nat.le_refl _
      · have := c4 k hk; omega
    clear hL hW1 hC c1 c2 c3 c4 hb1
    go_wp2_with fail
    go_ret
    exact ⟨w.heap.size, w.heap.size :: Lc, rfl, hF.out.1, hF.out.2.1, hF.out.2.2, Nat.le_refl _⟩
theorem sp_counts_any (w : World) (x cl : Nat) (who : Int) (ct : Bool) (nx : Option Addr) (h : Blk w x (spCells who nx cl ct) 158) :
    Calls Tryz.prog 51 #[.pointer (some ⟨x, 0, none⟩)] w fun e w' => e = .returned (.bool ct) ∧ w = w' := by
  have c3 := h.cell 3 (v := .bool ct) rfl
  clear h
  go_enter Tryz.func51, Tryz.ntmps51
  go_wp2_with fail
  go_ret
  exact ⟨rfl, rfl⟩
theorem sp_counts_nil (w : World) : Calls Tryz.prog 51 #[.pointer none] w fun e w' => e = .returned (.bool false) ∧ w = w' := by
  go_enter Tryz.func51, Tryz.ntmps51
  go_wp2_with fail
  go_ret
  exact ⟨rfl, rfl⟩
theorem sp_tells {who : Int} {cl : Nat} {w : World} {x : Nat} {t : SpT} {L : List Nat} (h : (spFl who cl).I spPM w x t L) :
    Calls Tryz.prog 51 #[.pointer (some ⟨x, 0, none⟩)] w fun e w' => e = .returned (.bool t.counts) ∧ w = w' := by
  obtain ⟨nx, h1, -⟩ := Fl.blk h
  exact sp_counts_any w x cl who t.counts nx h1
end Go.Proofs.YthbgoakaijeemaaGreat

namespace Go.Proofs.YthbgoakaijeemaaGreat
open Go Go.RowKit
set_option linter.unusedVariables false
set_option maxRecDepth 100000
set_option linter.unusedSimpArgs false

def naCells (who : Int) (nx : Option Addr) (cl : Nat) (v : Int) (tk : Bool) : Array Value := #[.int .i64 who, .pointer nx, .pointer (some ⟨cl, 0, none⟩), .int .u64 v, .bool tk]
/-- The processor that a word gives. -/
def gvP (v : Int) : Int := v % 4294967296 - 1
section
variable (w : World) (x cl : Nat) (who v : Int) (tk : Bool) (nx : Option Addr) (h : Blk w x (naCells who nx cl v tk) 154)
include h
theorem na_P_no (ht : tk = false) : Calls Tryz.prog 46 #[.pointer (some ⟨x, 0, none⟩)] w fun e w' => e = .returned (.int .i64 (-1)) ∧ w = w' := by
  subst ht
  have c4 := h.cell 4 (v := .bool false) rfl
  clear h
  go_enter Tryz.func46, Tryz.ntmps46
  go_wp2_with fail
  go_ret
  exact ⟨rfl, rfl⟩
theorem na_P_yes (ht : tk = true) (hv : 0 ≤ v ∧ v ≤ 18446744073709551615) : Calls Tryz.prog 46 #[.pointer (some ⟨x, 0, none⟩)] w fun e w' => e = .returned (.int .i64 (gvP v)) ∧ w = w' := by
  subst ht
  have c4 := h.cell 4 (v := .bool true) rfl
  have c3 := h.cell 3 (v := .int .u64 v) rfl
  have hG := wk_given w v hv
  clear h hv
  go_enter Tryz.func46, Tryz.ntmps46
  go_wp2_with fail
  go_at_call 30; refine hG.mono ?_; rintro e w1 ⟨rfl, rfl⟩
  clear hG
  go_wp2_with fail
  go_ret
  exact ⟨rfl, rfl⟩
theorem na_S_no (ht : tk = false) : Calls Tryz.prog 47 #[.pointer (some ⟨x, 0, none⟩)] w fun e w' => e = .returned (.bool false) ∧ w = w' := by
  subst ht
  have c4 := h.cell 4 (v := .bool false) rfl
  clear h
  go_enter Tryz.func47, Tryz.ntmps47
  go_wp2_with fail
  go_ret
  exact ⟨rfl, rfl⟩
theorem na_S_yes (ht : tk = true) (hv : 0 ≤ v ∧ v ≤ 18446744073709551615) : Calls Tryz.prog 47 #[.pointer (some ⟨x, 0, none⟩)] w fun e w' => e = .returned (.bool (decide (4294967296 ≤ v))) ∧ w = w' := by
  subst ht
  have c4 := h.cell 4 (v := .bool true) rfl
  have c3 := h.cell 3 (v := .int .u64 v) rfl
  have hG := wk_given w v hv
  clear h hv
  go_enter Tryz.func47, Tryz.ntmps47
  go_wp2_with fail
  go_at_call 30; refine hG.mono ?_; rintro e w1 ⟨rfl, rfl⟩
  clear hG
  go_wp2_with fail
  go_ret
  exact ⟨rfl, rfl⟩
theorem na_word (P T G : Int) (hl : Lay w cl P T G) (hp : 0 ≤ P ∧ P ≤ 64) (hT : 0 ≤ T ∧ T ≤ 65536) :
    Calls Tryz.prog 150 #[.pointer (some ⟨x, 0, none⟩)] w fun e w' => e = .returned (.int .i64 (wd (20 + P * 264) T 3 who 1)) ∧ Below w.heap.size w w' := by
  have hD : Hid (Below w.heap.size w w.drew) := (Below.refl _ _).drew
  have hO := who_any w.drew x who (h.drew.cell 0 rfl)
  have hTh := lthr_any _ P T G who 1 w.drew (.some cl (hl.below hD.out hl.lt)) hp hT
  have hH : Hid (w.drew.cell? ⟨x, 2, none⟩ = some (.pointer (some ⟨cl, 0, none⟩))) := h.drew.cell 2 rfl
  have KB : Hid (∀ w4, Below w.drew.heap.size w.drew w4 → w4.cell? ⟨x, 2, none⟩ = some (.pointer (some ⟨cl, 0, none⟩))) := fun w4 k => (h.drew.but (But.of_below (l := []) k) (by simp)).cell 2 rfl
  generalize wd (20 + P * 264) T 3 who 1 = at' at *
  clear h hl hp hT
  go_enter Tryz.func150, Tryz.ntmps150
  go_wp2_with fail
  go_region_held3 (fun w' => w'.cell? ⟨x, 2, none⟩ = some (.pointer (some ⟨cl, 0, none⟩))) (first | exact hH.out | exact KB.out _ ‹_›) (first | (go_at_call 168; refine hO.mono ?_; rintro e w3 ⟨rfl, rfl⟩) | (go_at_call 35; refine hTh.mono ?_; rintro e x3 ⟨rfl, g3⟩))
  all_goals
    have hF : Below w.heap.size w x3 := hD.out.trans g3
    clear hTh hO hH KB g3 hD
    go_wp2_with fail
    go_ret
    exact ⟨rfl, hF⟩
theorem na_look (P T G : Int) (hl : Lay w cl P T G) (hp : 0 ≤ P ∧ P ≤ 64) (hT : 0 ≤ T ∧ T ≤ 65536) :
    Calls Tryz.prog 110 #[.pointer (some ⟨x, 0, none⟩)] w fun e w' => (∃ v, e = .returned v) ∧ Came w w' x (naCells who nx cl v tk) 154 (axLd (wd (20 + P * 264) T 3 who 1)) (.told 151) := by
  have hD : Hid (Below w.heap.size w w.drew) := (Below.refl _ _).drew
  have hW := na_word w.drew x cl who v tk nx h.drew P T G (hl.below hD.out hl.lt) hp hT
  have HS : Hid (∀ Y, Below w.drew.heap.size w.drew Y → Calls Tryz.prog 91 #[.pointer (some ⟨x, 0, none⟩), .int .i64 (wd (20 + P * 264) T 3 who 1), .func (.func 151) #[.pointer (some ⟨x, 0, none⟩)] #[]] Y fun e w' => (∃ v, e = .returned v) ∧ Came w w' x (naCells who nx cl v tk) 154 (axLd (wd (20 + P * 264) T 3 who 1)) (.told 151)) := by
    intro Y hY
    refine (came_load Y x _ 154 (h.drew.but (But.of_below (l := []) hY) (by simp)) (by simp [naCells]) _ 151).mono ?_
    rintro e w5 ⟨hv, hC⟩
    exact ⟨hv, hC.before (((But.refl [x] w).drew).trans (But.of_below hY))⟩
  generalize wd (20 + P * 264) T 3 who 1 = at' at *
  clear h hl hp hT
  go_enter Tryz.func110, Tryz.ntmps110
  go_wp2_with fail
  go_region_with (first | (go_at_call 150; refine hW.mono ?_; rintro e x3 ⟨rfl, g3⟩) | (go_at_call 91; refine (HS.out _ g3).mono ?_; rintro e x4 ⟨⟨u, rfl⟩, hC⟩))
  all_goals
    clear hW HS g3 hD
    go_wp2_with fail
    go_end0
    exact ⟨⟨_, rfl⟩, hC⟩
theorem na_take (P T G u : Int) (hl : Lay w cl P T G) (hp : 0 ≤ P ∧ P ≤ 64) (hT : 0 ≤ T ∧ T ≤ 65536) (hxc : cl ≠ x) :
    Calls Tryz.prog 151 #[.pointer (some ⟨x, 0, none⟩), .int .u64 u] w fun e w' => (∃ v, e = .returned v) ∧ Came w w' x (naCells who nx cl u tk) 154 (axSt (wd (20 + P * 264) T 3 who 1) 0) (.untold 176) := by
  have c3 := h.cell 3 (v := .int .u64 v) rfl
  have f3 := h.fro 3
  have h' : Blk (w.setCell ⟨x, 3, none⟩ (.int .u64 u)) x (naCells who nx cl u tk) 154 := h.set 3 (.int .u64 u)
  have hB : But [x] w (w.setCell ⟨x, 3, none⟩ (.int .u64 u)) := (But.refl _ w).set (g := x) (.inl (by simp)) 3 _
  have hl' : Lay (w.setCell ⟨x, 3, none⟩ (.int .u64 u)) cl P T G := (hB.block cl hl.lt (by simpa using hxc)).trans hl
  generalize hV : (w.setCell ⟨x, 3, none⟩ (.int .u64 u)) = V at h' hB hl'
  have hD : Hid (Below V.heap.size V V.drew) := (Below.refl _ _).drew
  have hW := na_word V.drew x cl who u tk nx h'.drew P T G (hl'.below hD.out hl'.lt) hp hT
  have HS : Hid (∀ Y, Below V.drew.heap.size V.drew Y → Calls Tryz.prog 159 #[.pointer (some ⟨x, 0, none⟩), .int .i64 (wd (20 + P * 264) T 3 who 1), .int .u64 0, .func (.func 176) #[.pointer (some ⟨x, 0, none⟩)] #[]] Y fun e w' => (∃ v, e = .returned v) ∧ Came w w' x (naCells who nx cl u tk) 154 (axSt (wd (20 + P * 264) T 3 who 1) 0) (.untold 176)) := by
    intro Y hY
    refine (came_store Y x _ 154 (h'.drew.but (But.of_below (l := []) hY) (by simp)) (by simp [naCells]) _ 0 176).mono ?_
    rintro e w5 ⟨hv, hC⟩
    exact ⟨hv, (hC.before (((But.refl [x] V).drew).trans (But.of_below hY))).before hB⟩
  generalize wd (20 + P * 264) T 3 who 1 = at' at *
  clear h h' hl hl' hp hT hB hxc
  go_enter Tryz.func151, Tryz.ntmps151
  go_wp2_with fail
  try rw [hV]
  clear hV c3 f3
  go_region_with (first | (go_at_call 150; refine hW.mono ?_; rintro e x3 ⟨rfl, g3⟩) | (go_at_call 159; refine (HS.out _ g3).mono ?_; rintro e x4 ⟨⟨u, rfl⟩, hC⟩))
  all_goals
    clear hW HS g3 hD
    go_wp2_with fail
    go_end0
    exact ⟨⟨_, rfl⟩, hC⟩
theorem na_have (P T G : Int) (hl : Lay w cl P T G) (hp : 0 ≤ P ∧ P ≤ 64) (hxc : cl ≠ x) (hv : 0 ≤ v ∧ v ≤ 18446744073709551615) :
    Calls Tryz.prog 176 #[.pointer (some ⟨x, 0, none⟩)] w fun e w' => (∃ v, e = .returned v) ∧ Came w w' x (naCells who nx cl v true) 154 (axSt (wd 20 P 264 (gvP v) 0) 1) .nil := by
  have c4 := h.cell 4 (v := .bool tk) rfl
  have f4 := h.fro 4
  have h' : Blk (w.setCell ⟨x, 4, none⟩ (.bool true)) x (naCells who nx cl v true) 154 := h.set 4 (.bool true)
  have hB : But [x] w (w.setCell ⟨x, 4, none⟩ (.bool true)) := (But.refl _ w).set (g := x) (.inl (by simp)) 4 _
  have hl' : Lay (w.setCell ⟨x, 4, none⟩ (.bool true)) cl P T G := (hB.block cl hl.lt (by simpa using hxc)).trans hl
  generalize hV : (w.setCell ⟨x, 4, none⟩ (.bool true)) = V at h' hB hl'
  have hD : Below V.heap.size V V.drew := (Below.refl _ _).drew
  have hP := na_P_yes V.drew x cl who v true nx h'.drew rfl hv
  have hR := rs_run V.drew x cl _ 154 h'.drew (by simp [naCells]) rfl (gvP v) P T G (hl'.below hD hl'.lt) hp
  generalize gvP v = pp at *
  clear h h' hl hl' hp hxc hv hD
  go_enter Tryz.func176, Tryz.ntmps176
  go_wp2_with fail
  try rw [hV]
  clear hV c4 f4
  go_region_with (first | (go_at_call 46; refine hP.mono ?_; rintro e w1 ⟨rfl, rfl⟩) | (go_at_call 193; refine hR.mono ?_; rintro e w1 ⟨⟨u, rfl⟩, hC⟩))
  all_goals
    have hC2 := (hC.undrew).before hB
    clear hR hP hC hB
    go_wp2_with fail
    go_end0
    exact ⟨⟨_, rfl⟩, hC2⟩
end
theorem na_P_nil (w : World) : Calls Tryz.prog 46 #[.pointer none] w fun e w' => e = .returned (.int .i64 (-1)) ∧ w = w' := by
  go_enter Tryz.func46, Tryz.ntmps46
  go_wp2_with fail
  go_ret
  exact ⟨rfl, rfl⟩
theorem na_S_nil (w : World) : Calls Tryz.prog 47 #[.pointer none] w fun e w' => e = .returned (.bool false) ∧ w = w' := by
  go_enter Tryz.func47, Tryz.ntmps47
  go_wp2_with fail
  go_ret
  exact ⟨rfl, rfl⟩
def nsSub (nt who : Int) : Sub := ⟨NsT, nsPM nt, nsI who nt, Rd.nil, 155, 248⟩
set_option maxHeartbeats 2000000 in
theorem na_new (w : World) (cl : Nat) (t P T G : Int) (hl : Lay w cl P T G) (hp : 0 ≤ P ∧ P ≤ 64) (hTT : 0 ≤ T ∧ T ≤ 65536) :
    Calls Tryz.prog 41 #[.pointer (some ⟨cl, 0, none⟩), .int .i64 t] w fun e w' => ∃ x V, e = .returned (.pointer (some ⟨x, 0, none⟩)) ∧ RunNew (nsSub (wd (20 + P * 264) T 3 t 0) t) NsT.s1 V w' x (naCells t none cl 0 false) 154 (.func (.func 110) #[.pointer (some ⟨x, 0, none⟩)] #[]) ∧ Below w.heap.size w w' ∧ w.heap.size ≤ x ∧ w.heap.size ≤ V.heap.size ∧ x < V.heap.size := by
  have hB := Blk.new w #[.int .i64 0, .pointer none, .pointer none, .int .u64 0, .bool false] 154
  have hb : Below w.heap.size w (w.alloc (.cells #[.int .i64 0, .pointer none, .pointer none, .int .u64 0, .bool false] 154)) := (Below.refl _ _).alloc (Nat.le_refl _) _
  have hO := rs_of _ w.heap.size cl t _ (naCells t none cl 0 false) 154 hB (by simp) rfl
  have HH : Hid (Below w.heap.size w (w.alloc (.cells #[.int .i64 0, .pointer none, .pointer none, .int .u64 0, .bool false] 154))) := hb
  have hsz := World.size_alloc w (.cells #[.int .i64 0, .pointer none, .pointer none, .int .u64 0, .bool false] 154)
  have HNN : Hid (∀ Y, Below w.heap.size w Y → _) := fun Y (hY : Below w.heap.size w Y) => ns_new Y cl t P T G (hl.below hY hl.lt) hp hTT
  have HG : Hid ((nsSub (wd (20 + P * 264) T 3 t 0) t).I.Good (nsSub (wd (20 + P * 264) T 3 t 0) t).M) := ns_good _ _
  generalize wd (20 + P * 264) T 3 t 0 = nt at *
  clear hB hb hl hp hTT
  go_enter Tryz.func41, Tryz.ntmps41
  go_wp2_with fail
  go_at_call 108; refine hO.mono ?_; rintro e w1 ⟨⟨v, rfl⟩, h1, h2, h3⟩
  have hb1 : Hid (Below w.heap.size w w1) := HH.out.trans (h2.below (by simp) (by rw [hsz]; omega))
  have hlt := h1.lt
  have HX : Hid (Blk w1 w.heap.size (naCells t none cl 0 false) 154) := h1
  have hd1 : Below w1.heap.size w1 w1.drew := (Below.refl _ _).drew
  have hN2 := HNN.out w1.drew (hb1.out.trans (hd1.mono hb1.out.size))
  clear hO h1 h2 h3 HH hsz hd1
  go_wp2_with fail
  go_region_with (first | (go_at_call 109; refine hN2.mono ?_; rintro e w4 ⟨y, L, rfl, k1, k4, k5, k6, a, k7⟩; have hB4 : But [w.heap.size] w1 w4 := ((But.refl [w.heap.size] w1).drew).trans (But.of_below k4); have hf := frun_nsl w4 w.heap.size y _ 154 (.func (.func 110) #[.pointer (some ⟨w.heap.size, 0, none⟩)] #[]) a (HX.out.but (But.of_below (l := []) (show Below w1.heap.size w1 w4 from (Below.refl _ _).drew.trans k4)) (by simp)) (by simp [naCells]) (.some _ _ _) (by have : w1.heap.size ≤ y := k5; omega) k7) | (go_at_call 70; refine hf.mono ?_; rintro e w5 ⟨⟨v, rfl⟩, q, g, hC⟩))
  all_goals
    have k6' : ∀ k ∈ L, w1.heap.size ≤ k := k6
    have k1' : (nsSub nt t).I w4 y NsT.s1 L := k1
    have hR5 := RunNew.mk (S := nsSub nt t) (W := w1) HG.out k1' k6' hlt hB4 hC
    have hF : Hid (RunNew (nsSub nt t) NsT.s1 w1 w5 w.heap.size (naCells t none cl 0 false) 154 (.func (.func 110) #[.pointer (some ⟨w.heap.size, 0, none⟩)] #[]) ∧ Below w.heap.size w w5) := ⟨hR5, hb1.out.trans (hR5.but.below (by simp) hb1.out.size)⟩
    have hle := hb1.out.size
    clear hN2 hf k1 k1' k4 k5 k6 k6' k7 hC hB4 HX HG hR5 HNN
    go_wp2_with fail
    go_ret
    exact ⟨w.heap.size, w1, rfl, hF.out.1, hF.out.2, Nat.le_refl _, hle, hlt⟩
end Go.Proofs.YthbgoakaijeemaaGreat

namespace Go.Proofs.YthbgoakaijeemaaGreat
open Go Go.RowKit
set_option linter.unusedVariables false
set_option maxRecDepth 100000
set_option linter.unusedSimpArgs false

/-- A nap, as plain data: v is what was given. -/
inductive NaT where
  | slp (q : NsT)
  | ld
  | cl (v : Int)
  | st (v : Int)
  | over (v : Int)
def NaT.v : NaT → Int
  | .cl v => v
  | .st v => v
  | .over v => v
  | _ => 0
def NaT.tk : NaT → Bool
  | .st _ => true
  | .over _ => true
  | _ => false
/-- The processor in its hand, and whether it spins. -/
def NaT.p (t : NaT) : Int := if t.tk then gvP t.v else -1
def NaT.spins (t : NaT) : Bool := t.tk && decide (4294967296 ≤ t.v)
def naPM (P T t : Int) : PM NaT where
  ax := fun
    | .slp q => (nsPM (wd (20 + P * 264) T 3 t 0)).ax q
    | .ld => some (axLd (wd (20 + P * 264) T 3 t 1))
    | .cl _ => some (axSt (wd (20 + P * 264) T 3 t 1) 0)
    | .st v => some (axSt (wd 20 P 264 (gvP v) 0) 1)
    | .over _ => none
  nx := fun
    | .slp q, v => if ((nsPM (wd (20 + P * 264) T 3 t 0)).ax ((nsPM (wd (20 + P * 264) T 3 t 0)).nx q v)).isSome = true then .slp ((nsPM (wd (20 + P * 264) T 3 t 0)).nx q v) else .ld
    | .ld, v => .cl v
    | .cl v, _ => .st v
    | .st v, _ => .over v
    | .over v, _ => .over v
def naCp (P T G t : Int) (cl : Nat) : Cp NaT where
  T := 154
  cells := fun s _ nx => naCells t nx cl s.v s.tk
  kind := fun
    | .slp q => .run (nsSub (wd (20 + P * 264) T 3 t 0) t) q (.fn 110)
    | .ld => .acc (axLd (wd (20 + P * 264) T 3 t 1)) (.told 151)
    | .cl _ => .acc (axSt (wd (20 + P * 264) T 3 t 1) 0) (.untold 176)
    | .st v => .acc (axSt (wd 20 P 264 (gvP v) 0) 1) .nil
    | .over _ => .over
  ok := fun s => (0 ≤ s.v ∧ s.v ≤ 18446744073709551615) ∧ match s with
    | .slp q => ((nsPM (wd (20 + P * 264) T 3 t 0)).ax q).isSome = true
    | _ => True
  ext := fun _ _ _ Le => Le = []
  tie := fun _ _ _ => True
theorem ent_na1 : Ent 110 := fun args w => by kernel_rfl
theorem ent_na2 : Ent 151 := fun args w => by kernel_rfl
theorem ent_na3 : Ent 176 := fun args w => by kernel_rfl
section
variable {P T G t : Int} {cl : Nat} {W w' : World} {x : Nat} {s : NaT} {a : Ax} {f : Fol}
theorem na_land (h : Came W w' x (naCells t none cl s.v s.tk) 154 a f) (hok : (naCp P T G t cl).ok s) (hk : (naCp P T G t cl).kind s = .acc a f) (hx : x < W.heap.size) : (naCp P T G t cl).Land W w' x s [] := by
  obtain ⟨q, Lc, c1, c2, c3, c4⟩ := h
  refine ⟨c3, x :: (Lc ++ []), ⟨hok, [], [], rfl, by simp, ?_⟩, fun k hm => by simp at hm; rcases hm with rfl | hm; exact .inl rfl; exact .inr (.inr (c4 k hm))⟩
  rw [hk]
  exact ⟨q, Lc, c1, c2, fun hm => absurd (c4 x hm) (by omega), (fun k hm h => by cases h), rfl⟩
theorem na_laws (hp : 0 ≤ P ∧ P ≤ 64) (hT : 0 ≤ T ∧ T ≤ 65536) : (naCp P T G t cl).Laws (naPM P T t) (Rd.lay cl P T G) t where
  c0 := fun s es nx => rfl
  c1 := fun s es nx => rfl
  set := fun s es nx nx' => rfl
  k0 := fun s hok hk => by cases s <;> first | rfl | cases hk
  k1 := fun s a f hok hk => by
    cases s with
    | ld => cases hk; exact ⟨rfl, axLd_ok _, ent_na2⟩
    | cl v => cases hk; exact ⟨rfl, axSt_ok _ _ (by omega), ent_na3⟩
    | st v => cases hk; exact ⟨rfl, axSt_ok _ _ (by omega), trivial⟩
    | _ => cases hk
  k2 := fun s S q af hok hk => by
    cases s with
    | slp q => cases hk; exact ⟨rfl, hok.2, ent_na1, fun a ha => ns_axok _ _ a ha⟩
    | _ => cases hk
  sub := fun s S q af hok hk => by
    cases s with
    | slp q => cases hk; exact ⟨ns_steps t _ stepby_nsl, ns_good t _, act_nsl, fun _ _ => trivial, fun k hk => by cases hk⟩
    | _ => cases hk
  on := fun s S q af v hok hk hv hs => by
    cases s with
    | slp q =>
      cases hk
      have e : (naPM P T t).nx (.slp q) v = .slp ((nsPM (wd (20 + P * 264) T 3 t 0)).nx q v) := if_pos hs
      rw [e]
      exact ⟨⟨⟨by show (0 : Int) ≤ 0; omega, by show (0 : Int) ≤ 18446744073709551615; omega⟩, hs⟩, rfl, fun _ => rfl, fun _ _ _ h => h, fun _ _ h => h⟩
    | _ => cases hk
  ekeep := fun s es w w' l Le he _ _ => he
  elt := fun s es w Le he k hk => by rw [show Le = [] from he] at hk; cases hk
  fol := fun W x s a f v es Le hok hk hv hB he hxe hR hxR => by
    have hcx : cl ≠ x := fun e => hxR (by rw [e]; exact List.mem_singleton.2 rfl)
    have hlt := hB.lt
    obtain rfl : Le = [] := he
    cases s with
    | slp q => cases hk
    | ld =>
      cases hk
      refine (na_take W x cl t 0 false none hB P T G v hR hp hT hcx).mono ?_
      rintro e w' ⟨hu, hC⟩
      exact ⟨hu, na_land (s := .cl v) hC ⟨hv, trivial⟩ rfl hlt⟩
    | cl u =>
      cases hk
      refine (na_have W x cl t u false none hB P T G hR hp hcx hok.1).mono ?_
      rintro e w' ⟨hu, hC⟩
      exact ⟨hu, na_land (s := .st u) hC ⟨hok.1, trivial⟩ rfl hlt⟩
    | st u =>
      cases hk
      exact Cp.land_over (es := []) (Le := []) (But.refl _ _) ⟨hok.1, trivial⟩ rfl hB rfl (by simp) (fun k hk => hk)
    | over u => cases hk
  aft := fun W x y s S q af v es Le Li hok hk hv hn hB hin hty he hxe hxi hd hR hxR => by
    have hlt := hB.lt
    obtain rfl : Le = [] := he
    cases s with
    | slp q =>
      cases hk
      have e : (naPM P T t).nx (.slp q) v = .ld := if_neg (by rw [show (nsPM (wd (20 + P * 264) T 3 t 0)).ax ((nsPM (wd (20 + P * 264) T 3 t 0)).nx q v) = none from hn]; simp)
      rw [e]
      refine (na_look W x cl t 0 false none hB P T G hR hp hT).mono ?_
      rintro e w' ⟨hu, hC⟩
      obtain ⟨h1, L', h2, h3⟩ := na_land (P := P) (T := T) (G := G) (s := .ld) hC ⟨⟨by decide, by decide⟩, trivial⟩ rfl hlt
      exact ⟨hu, h1, L', h2, fun k hk => (h3 k hk).imp id (fun h => h.imp (fun h => by cases h) id)⟩
    | _ => cases hk
theorem na_blk {w : World} {L : List Nat} (h : (naCp P T G t cl).I w x s L) : ∃ nx, Blk w x (naCells t nx cl s.v s.tk) 154 := by
  obtain ⟨-, es, Le, he, hxe, hH⟩ := h
  cases hk : (naCp P T G t cl).kind s with
  | over => rw [hk] at hH; exact ⟨none, hH.1⟩
  | acc a f => rw [hk] at hH; obtain ⟨q, Lc, h1, -⟩ := hH; exact ⟨_, h1⟩
  | run S q af => rw [hk] at hH; obtain ⟨q1, y, g, Li, h1, -⟩ := hH; exact ⟨_, h1.hx⟩
theorem na_tells_P {w : World} {L : List Nat} (h : (naCp P T G t cl).I w x s L) :
    Calls Tryz.prog 46 #[.pointer (some ⟨x, 0, none⟩)] w fun e w' => e = .returned (.int .i64 s.p) ∧ w = w' := by
  obtain ⟨nx, hB⟩ := na_blk h
  have hok := h.1.1
  unfold NaT.p
  cases hz : s.tk with
  | false => exact na_P_no w x cl t s.v s.tk nx hB hz
  | true => exact na_P_yes w x cl t s.v s.tk nx hB hz hok
theorem na_tells_S {w : World} {L : List Nat} (h : (naCp P T G t cl).I w x s L) :
    Calls Tryz.prog 47 #[.pointer (some ⟨x, 0, none⟩)] w fun e w' => e = .returned (.bool s.spins) ∧ w = w' := by
  obtain ⟨nx, hB⟩ := na_blk h
  have hok := h.1.1
  unfold NaT.spins
  cases hz : s.tk with
  | false => exact na_S_no w x cl t s.v s.tk nx hB hz
  | true => exact na_S_yes w x cl t s.v s.tk nx hB hz hok
theorem na_aslp (hp : 0 ≤ P ∧ P ≤ 64) (hT : 0 ≤ T ∧ T ≤ 65536) : Aslp (naPM P T t) (naCp P T G t cl).I 48 :=
  Cp.aslp (na_laws hp hT) (fun s S q af hok hk => by
    cases s with
    | slp q => cases hk; exact ⟨.inl ⟨_, slp_nsl, ns_aslp t _⟩, ns_good t _⟩
    | _ => cases hk) (fun w x mv z M h => asleepby_rnap w x mv z M h)
end
theorem na_new_at (w : World) (cl : Nat) (t P T G : Int) (hl : Lay w cl P T G) (hp : 0 ≤ P ∧ P ≤ 64) (hTT : 0 ≤ T ∧ T ≤ 65536) :
    Calls Tryz.prog 41 #[.pointer (some ⟨cl, 0, none⟩), .int .i64 t] w fun e w' => ∃ x L, e = .returned (.pointer (some ⟨x, 0, none⟩)) ∧ (naCp P T G t cl).I w' x (.slp .s1) L ∧ Below w.heap.size w w' ∧ (∀ k ∈ L, w.heap.size ≤ k) ∧ w.heap.size ≤ x := by
  refine (na_new w cl t P T G hl hp hTT).mono ?_
  rintro e w' ⟨x, V, rfl, ⟨y, q, b, L, hC, hI, hL, hq, hb⟩, hBl, hx, hV, hxV⟩
  have hfq := hC.at'.fresh
  have hfb := hC.fresh
  refine ⟨x, x :: q :: b :: (L ++ []), rfl, ⟨⟨⟨by decide, by decide⟩, rfl⟩, [], [], rfl, by simp, q, y, b, L, RunAt.of hC (fun nx => rfl), hI, trivial, ?_, hq, hb, (fun k _ h => by cases h), rfl⟩, hBl, fun k hk => ?_, hx⟩
  · simp only [List.mem_cons, not_or]
    exact ⟨by omega, by omega, fun hm => by have := hL x hm; omega⟩
  · simp at hk
    rcases hk with rfl | rfl | rfl | hk
    · exact hx
    · omega
    · omega
    · have := hL k hk; omega
end Go.Proofs.YthbgoakaijeemaaGreat
