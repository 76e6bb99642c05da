/- Starting a thread: what follows, one contract a function. -/
import Derived.Test.YthjfbknmdligeaaGreatFl
import Derived.Test.YthjfbknmdligeaaGreatRg0
import Derived.Test.YthjfbknmdligeaaGreatFlRun
import Derived.Test.YthjfbknmdligeaaGreatRun_acq
import Derived.Test.YthjfbknmdligeaaGreatRun_rel
import Derived.Test.YthjfbknmdligeaaGreatLock2
import Derived.Test.YthjfbknmdligeaaGreatIp1
import Derived.Test.YthjfbknmdligeaaGreatIm2
import Derived.Test.YthjfbknmdligeaaGreatRun_nwk
import Derived.Test.YthjfbknmdligeaaGreatRun_img
import Derived.Test.YthjfbknmdligeaaGreatRun_ipp
namespace Go.Proofs.YthjfbknmdligeaaGreat
open Go Go.RowKit
set_option linter.unusedVariables false
set_option maxRecDepth 100000
set_option linter.unusedSimpArgs false
set_option linter.unusedSectionVars false

theorem mo_word (w : World) (c : Nat) (i : Int) (h : 6 ≤ i ∧ i ≤ 19) : Calls Tryz.prog 84 #[.pointer (some ⟨c, 0, none⟩), .int .i64 i] w fun e w' => e = .returned (.int .i64 i) ∧ w = w' := by
  have d1 : decide (i < 6) = false := decide_eq_false (by omega)
  have d2 : decide (19 < i) = false := decide_eq_false (by omega)
  clear h
  go_enter Tryz.func84, Tryz.ntmps84
  go_wp2_with fail
  go_ret
  exact ⟨rfl, rfl⟩
/-- A monitor's rows: n words, one behind the other. -/
def RwAt (w : World) (r n : Nat) (f : Nat → Int) : Prop := ∃ cs : Array Value, w.heap[r]? = some (.cells cs 66 (0, 0)) ∧ cs.size = n ∧ ∀ i, i < n → cs[i]? = some (.int .u64 (f i))
theorem RwAt.lt {w : World} {r n : Nat} {f : Nat → Int} (h : RwAt w r n f) : r < w.heap.size := by obtain ⟨cs, h1, _⟩ := h; exact block_lt h1
theorem RwAt.cell {w : World} {r n : Nat} {f : Nat → Int} (h : RwAt w r n f) {i : Nat} (hi : i < n) : w.cell? ⟨r, i, none⟩ = some (.int .u64 (f i)) := by
  obtain ⟨cs, h1, _, h3⟩ := h
  simp [World.cell?, h1, h3 i hi]
theorem RwAt.fro {w : World} {r n : Nat} {f : Nat → Int} (h : RwAt w r n f) (i : Nat) : w.frozen? ⟨r, i, none⟩ = false := by
  obtain ⟨cs, h1, _⟩ := h
  simp [World.frozen?, h1]
theorem RwAt.keep {w w' : World} {r n : Nat} {f : Nat → Int} (h : RwAt w r n f) (e : w'.heap[r]? = w.heap[r]?) : RwAt w' r n f := by
  obtain ⟨cs, h1, h2⟩ := h
  exact ⟨cs, e.trans h1, h2⟩
theorem RwAt.but {w w' : World} {r n : Nat} {f : Nat → Int} {l : List Nat} (h : RwAt w r n f) (hb : But l w w') (hr : r ∉ l) : RwAt w' r n f := h.keep (hb.block r h.lt hr)
theorem RwAt.set {w : World} {r n : Nat} {f : Nat → Int} (h : RwAt w r n f) {i : Nat} (hi : i < n) (v : Int) : RwAt (w.setCell ⟨r, i, none⟩ (.int .u64 v)) r n (upd f i v) := by
  obtain ⟨cs, h1, h2, h3⟩ := h
  refine ⟨_, heap_set h1 i _, by simpa using h2, fun j hj => ?_⟩
  by_cases e : j = i
  · subst e; simp [h2, hj, upd]
  · rw [Array.getElem?_setIfInBounds_ne (by omega), h3 j hj]; simp [upd, e]
theorem RwAt.drew {w : World} {r n : Nat} {f : Nat → Int} (h : RwAt w r n f) : RwAt w.drew r n f := h
/-- What a monitor holds: rows, passes, whether a pass is under way, the time, the processor, its Status, whether it is late, the look, what was loaded, the machine that hands over. -/
structure MoD where
  f : Nat → Int
  ps : Int
  un : Bool
  nw : Int
  p : Nat
  st : Int
  lt : Bool
  lk : Option Addr
  sp : Int
  im : Int
  th : Int
  ov : Option Addr
def moCells (who : Int) (nx : Option Addr) (cl r P : Nat) (d : MoD) : Array Value := #[.int .i64 who, .pointer nx, .pointer (some ⟨cl, 0, none⟩), .slice (some ⟨r, 0, none⟩) P P, .int .i64 d.ps, .bool d.un, .int .u64 d.nw, .int .i64 d.p, .int .u64 d.st, .bool d.lt, .pointer d.lk, .int .u64 d.sp, .int .u64 d.im, .int .u64 d.th, .pointer d.ov]
/-- Where it is, if an access of its own comes. -/
inductive MoP where
  | nw
  | st
  | tu
  | pr
  | ca
  | sp
  | ip
  | im
  | th
  | ip2
  | sw
  | ad
def moAx (P : Nat) (p : Nat) : MoP → Ax
  | .nw => axLd 18
  | .st => axLd (wd 20 P 264 p 0)
  | .tu => axLd (wd 20 P 264 p 4)
  | .pr => axSt (wd 20 P 264 p 6) 1
  | .ca => axLd (wd 20 P 264 p 5)
  | .sp => axLd 13
  | .ip => axLd 10
  | .im => axLd 12
  | .th => axLd 15
  | .ip2 => axLd 10
  | .sw => axSw (wd 20 P 264 p 0) 2 0
  | .ad => axAd (wd 20 P 264 p 5) 1
def moFol : MoP → Fol
  | .nw => .told 63
  | .st => .told 94
  | .tu => .told 101
  | .pr => .untold 115
  | .ca => .told 117
  | .sp => .told 127
  | .ip => .told 131
  | .im => .told 138
  | .th => .told 142
  | .ip2 => .told 144
  | .sw => .swap 149
  | .ad => .told 153
/-- An access of its own comes, in the phase s.1, and it holds s.2. -/
def MoLand (who : Int) (cl r P : Nat) (W w' : World) (x : Nat) (s : MoP × MoD) : Prop := ∃ V, But [x, r] W V ∧ RwAt V r (4 * P) s.2.f ∧ Came V w' x (moCells who none cl r P s.2) 98 (moAx P s.2.p s.1) (moFol s.1)
theorem MoLand.before {who : Int} {cl r P : Nat} {a W w' : World} {x : Nat} {s : MoP × MoD} (h : MoLand who cl r P W w' x s) (hb : But [x, r] a W) : MoLand who cl r P a w' x s := by
  obtain ⟨V, h1, h2⟩ := h
  exact ⟨V, hb.trans h1, h2⟩
theorem MoLand.of {who : Int} {cl r P : Nat} {w w' : World} {x : Nat} {s : MoP × MoD} (hr : RwAt w r (4 * P) s.2.f) (h : Came w w' x (moCells who none cl r P s.2) 98 (moAx P s.2.p s.1) (moFol s.1)) : MoLand who cl r P w w' x s := ⟨w, But.refl _ _, hr, h⟩
/-- Where it goes on with the processor p, or begins anew. -/
def moVisit (P : Nat) (d : MoD) (p : Nat) : MoP × MoD := if P ≤ p then (.nw, { d with ps := wrap64 (d.ps + 1), un := false }) else (.st, { d with p := p })
def moSeeStatus (P : Nat) (d : MoD) : MoP × MoD := if d.st = 2 then (.ca, d) else moVisit P d (d.p + 1)
def moFirst (P : Nat) (d : MoD) (v : Int) : MoP × MoD := moVisit P { d with nw := v, un := true } 0
def moJudge (P : Nat) (d : MoD) (v : Int) : MoP × MoD := if v = 1 ∨ v = 2 then (.tu, { d with st := v }) else moVisit P d (d.p + 1)
def moTurns (P : Nat) (d : MoD) (v : Int) : MoP × MoD := if v ≠ d.f (d.p * 4) then moSeeStatus P { d with lt := false, f := upd (upd d.f (d.p * 4) v) (d.p * 4 + 1) d.nw } else if 10 ≤ (d.nw - d.f (d.p * 4 + 1)) % 4294967296 then (.pr, { d with lt := false }) else moSeeStatus P { d with lt := false }
def moLate (P : Nat) (d : MoD) : MoP × MoD := moSeeStatus P { d with lt := true }
section
variable (w : World) (x cl r P : Nat) (T G who : Int) (d : MoD) (h : Blk w x (moCells who none cl r P d) 98)
include h
theorem mo_load (i : Int) (hi : 6 ≤ i ∧ i ≤ 19) (K : Nat) :
    Calls Tryz.prog 62 #[.pointer (some ⟨x, 0, none⟩), .int .i64 i, .func (.func K) #[.pointer (some ⟨x, 0, none⟩)] #[]] w fun e w' => (∃ v, e = .returned v) ∧ Came w w' x (moCells who none cl r P d) 98 (axLd i) (.told K) := by
  have H := came_load w.drew x _ 98 h.drew (by simp [moCells]) i K
  have c2 := h.cell 2 (v := .pointer (some ⟨cl, 0, none⟩)) rfl
  have hW := mo_word w.drew cl i hi
  clear h hi
  go_enter Tryz.func62, Tryz.ntmps62
  go_wp2_with fail
  go_region_with (first | (go_at_call 84; refine hW.mono ?_; rintro e w3 ⟨rfl, rfl⟩) | (go_at_call 83; refine H.mono ?_; rintro e w1 ⟨⟨v, rfl⟩, hC⟩))
  all_goals
    have hC2 := hC.undrew
    clear hW H c2 hC
    go_wp2_with fail
    go_end0
    exact ⟨⟨_, rfl⟩, hC2⟩
theorem mo_proc (hl : Lay w cl P T G) (hp : (P : Int) ≤ 64) (f : Int) (hf : 0 ≤ f ∧ f < 8) :
    Calls Tryz.prog 99 #[.pointer (some ⟨x, 0, none⟩), .int .i64 f] w fun e w' => e = .returned (.int .i64 (wd 20 P 264 d.p f)) ∧ Below w.heap.size w w' := by
  have c2 := h.cell 2 (v := .pointer (some ⟨cl, 0, none⟩)) rfl
  have c7 := h.cell 7 (v := .int .i64 d.p) rfl
  have hW := lprc_any _ P T G d.p f w.drew (.some cl (hl.below ((Below.refl _ _).drew) hl.lt)) ⟨by omega, hp⟩ hf
  clear h hl hp hf
  go_enter Tryz.func99, Tryz.ntmps99
  go_wp2_with fail
  go_region_with (first | (go_at_call 111; refine hW.mono ?_; rintro e w1 ⟨rfl, h1⟩))
  all_goals
    have h1' := (Below.refl _ w).drew.trans h1
    clear hW h1 c2 c7
    go_wp2_with fail
    go_ret
    exact ⟨rfl, h1'⟩
theorem mo_loadProc (hl : Lay w cl P T G) (hp : (P : Int) ≤ 64) (f : Int) (hf : 0 ≤ f ∧ f < 8) (K : Nat) :
    Calls Tryz.prog 93 #[.pointer (some ⟨x, 0, none⟩), .int .i64 f, .func (.func K) #[.pointer (some ⟨x, 0, none⟩)] #[]] w fun e w' => (∃ v, e = .returned v) ∧ Came w w' x (moCells who none cl r P d) 98 (axLd (wd 20 P 264 d.p f)) (.told K) := by
  have H := mo_proc w.drew x cl r P T G who d h.drew hl hp f hf
  have HH : Hid (Blk w x (moCells who none cl r P d) 98) := h
  generalize wd 20 P 264 d.p f = i at *
  clear h hl hp hf
  go_enter Tryz.func93, Tryz.ntmps93
  go_wp2_with fail
  go_region_with (first | (go_at_call 99; refine H.mono ?_; rintro e w1 ⟨rfl, h1⟩; have H2 := came_load w1 x _ 98 (HH.out.but (But.of_below (l := []) (show Below w.heap.size w w1 from (Below.refl _ _).drew.trans h1)) (by simp)) (by simp [moCells]) i K) | (go_at_call 83; refine H2.mono ?_; rintro e w3 ⟨⟨v, rfl⟩, hC⟩))
  all_goals
    have hB1 : But [x] w w1 := But.of_below ((Below.refl _ _).drew.trans h1)
    have hC2 := hC.before hB1
    clear H H2 hC h1
    go_wp2_with fail
    go_end0
    exact ⟨⟨_, rfl⟩, hC2⟩
theorem mo_begin :
    Calls Tryz.prog 39 #[.pointer (some ⟨x, 0, none⟩)] w fun e w' => (∃ v, e = .returned v) ∧ Came w w' x (moCells who none cl r P d) 98 (axLd 18) (.told 63) := by
  have H := mo_load w x cl r P who d h 18 (by omega) 63
  clear h
  go_enter Tryz.func39, Tryz.ntmps39
  go_wp2_with fail
  go_at_call 62; refine H.mono ?_; rintro e w1 ⟨⟨u, rfl⟩, hC⟩
  clear H
  go_wp2_with fail
  go_end0
  exact ⟨⟨_, rfl⟩, hC⟩
end
section
variable (w : World) (x cl r P : Nat) (T G who : Int) (d : MoD) (h : Blk w x (moCells who none cl r P d) 98) (hr : RwAt w r (4 * P) d.f) (hl : Lay w cl P T G) (hcx : cl ≠ x) (hcr : cl ≠ r) (hxr : x ≠ r) (hp : (P : Int) ≤ 64)
include h hr hl hcx hcr hxr hp
theorem mo_visit (p : Nat) (hpp : p ≤ 64) :
    Calls Tryz.prog 85 #[.pointer (some ⟨x, 0, none⟩), .int .i64 p] w fun e w' => (∃ v, e = .returned v) ∧ MoLand who cl r P w w' x (moVisit P d p) := by
  by_cases hq : P ≤ p
  · have e : moVisit P d p = (.nw, { d with ps := wrap64 (d.ps + 1), un := false }) := if_pos hq
    rw [e]
    have c3 := h.cell 3 (v := .slice (some ⟨r, 0, none⟩) P P) rfl
    have c4 := h.cell 4 (v := .int .i64 d.ps) rfl
    have f4 := h.fro 4
    have f5 := h.fro 5
    have c5 := h.cell 5 (v := .bool d.un) rfl
    have d1 : decide ((P : Int) ≤ (p : Int)) = true := decide_eq_true (by omega)
    obtain ⟨V, hV⟩ : ∃ V, ((w.setCell ⟨x, 4, none⟩ (.int .i64 (wrap64 (d.ps + 1)))).setCell ⟨x, 5, none⟩ (.bool false)) = V := ⟨_, rfl⟩
    have h' : Blk V x (moCells who none cl r P { d with ps := wrap64 (d.ps + 1), un := false }) 98 := by rw [← hV]; exact (h.set 4 (.int .i64 (wrap64 (d.ps + 1)))).set 5 (.bool false)
    have hB : But [x, r] w V := by rw [← hV]; exact ((But.refl _ w).set (g := x) (.inl (by simp)) 4 _).set (g := x) (.inl (by simp)) 5 _
    have hr' : RwAt V r (4 * P) d.f := by rw [← hV]; exact hr.but (((But.refl [x] w).set (g := x) (.inl (by simp)) 4 _).set (g := x) (.inl (by simp)) 5 _) (by simpa using hxr.symm)
    have H := mo_begin V x cl r P who _ h'
    have HV : Hid _ := hV
    have HF : Hid (But [x, r] w V ∧ RwAt V r (4 * P) d.f) := ⟨hB, hr'⟩
    clear h hr hl hV h' hB hr' hcx hcr hxr hp hpp e d1
    go_enter Tryz.func85, Tryz.ntmps85
    go_wp2_with fail
    rw [HV.out]
    clear HV
    go_at_call 39; refine H.mono ?_; rintro e w1 ⟨⟨u, rfl⟩, hC⟩
    clear H
    go_wp2_with fail
    refine bodyPost_ret (results_none rfl _ _ _) rfl ?_
    exact ⟨⟨_, rfl⟩, V, HF.out.1, HF.out.2, hC⟩
  · have e : moVisit P d p = (.st, { d with p := p }) := if_neg hq
    rw [e]
    have c3 := h.cell 3 (v := .slice (some ⟨r, 0, none⟩) P P) rfl
    have c7 := h.cell 7 (v := .int .i64 d.p) rfl
    have f7 := h.fro 7
    have d1 : decide ((P : Int) ≤ (p : Int)) = false := decide_eq_false (by omega)
    obtain ⟨V, hV⟩ : ∃ V, (w.setCell ⟨x, 7, none⟩ (.int .i64 p)) = V := ⟨_, rfl⟩
    have h' : Blk V x (moCells who none cl r P { d with p := p }) 98 := by rw [← hV]; exact h.set 7 (.int .i64 p)
    have hB1 : But [x] w V := by rw [← hV]; exact (But.refl _ w).set (g := x) (.inl (by simp)) 7 _
    have hB : But [x, r] w V := hB1.more (by intro k _ hk; simp at hk ⊢; exact .inl hk)
    have hr' : RwAt V r (4 * P) d.f := hr.but hB1 (by simpa using hxr.symm)
    have hl' : Lay V cl P T G := (hB1.block cl hl.lt (by simpa using hcx)).trans hl
    have H := mo_loadProc V x cl r P T G who _ h' hl' hp 0 (by omega) 94
    have HV : Hid _ := hV
    have HF : Hid (But [x, r] w V ∧ RwAt V r (4 * P) d.f) := ⟨hB, hr'⟩
    clear h hr hl hV h' hB hB1 hr' hl' hcx hcr hxr hp hpp e d1
    go_enter Tryz.func85, Tryz.ntmps85
    go_wp2_with fail
    rw [HV.out]
    clear HV
    go_at_call 93; refine H.mono ?_; rintro e w1 ⟨⟨u, rfl⟩, hC⟩
    clear H
    go_wp2_with fail
    go_end0
    exact ⟨⟨_, rfl⟩, V, HF.out.1, HF.out.2, hC⟩
theorem mo_next (hd : d.p < 64) :
    Calls Tryz.prog 100 #[.pointer (some ⟨x, 0, none⟩)] w fun e w' => (∃ v, e = .returned v) ∧ MoLand who cl r P w w' x (moVisit P d (d.p + 1)) := by
  have c7 := h.cell 7 (v := .int .i64 d.p) rfl
  have H := mo_visit w x cl r P T G who d h hr hl hcx hcr hxr hp (d.p + 1) (by omega)
  have e1 : wrap64 ((d.p : Int) + 1) = (d.p : Int) + 1 := by unfold wrap64; omega
  rw [show ((d.p + 1 : Nat) : Int) = (d.p : Int) + 1 from rfl] at H
  clear h hr hl hcx hcr hxr hp
  go_enter Tryz.func100, Tryz.ntmps100
  go_wp2_with fail
  go_at_call 85; refine H.mono ?_; rintro e w1 ⟨⟨u, rfl⟩, hC⟩
  clear H
  go_wp2_with fail
  go_end0
  exact ⟨⟨_, rfl⟩, hC⟩
end
end Go.Proofs.YthjfbknmdligeaaGreat

namespace Go.Proofs.YthjfbknmdligeaaGreat
open Go Go.RowKit
set_option linter.unusedVariables false
set_option maxRecDepth 100000
set_option linter.unusedSimpArgs false
set_option linter.unusedSectionVars false

section
variable (w : World) (x cl r P : Nat) (T G who : Int) (d : MoD) (h : Blk w x (moCells who none cl r P d) 98) (hr : RwAt w r (4 * P) d.f) (hl : Lay w cl P T G) (hcx : cl ≠ x) (hcr : cl ≠ r) (hxr : x ≠ r) (hp : (P : Int) ≤ 64)
include h hr hl hcx hcr hxr hp
theorem mo_first (v : Int) :
    Calls Tryz.prog 63 #[.pointer (some ⟨x, 0, none⟩), .int .u64 v] w fun e w' => (∃ v, e = .returned v) ∧ MoLand who cl r P w w' x (moFirst P d v) := by
  have c6 := h.cell 6 (v := .int .u64 d.nw) rfl
  have f6 := h.fro 6
  have c5 := h.cell 5 (v := .bool d.un) rfl
  have f5 := h.fro 5
  obtain ⟨V, hV⟩ : ∃ V, ((w.setCell ⟨x, 6, none⟩ (.int .u64 v)).setCell ⟨x, 5, none⟩ (.bool true)) = V := ⟨_, rfl⟩
  have h' : Blk V x (moCells who none cl r P { d with nw := v, un := true }) 98 := by rw [← hV]; exact ((h.set 6 (.int .u64 v)).set 5 (.bool true))
  have hB1 : But [x] w V := by rw [← hV]; exact (((But.refl [x] w).set (g := x) (.inl (by simp)) 6 _).set (g := x) (.inl (by simp)) 5 _)
  have hB : But [x, r] w V := hB1.more (by intro k _ hk; simp at hk ⊢; exact .inl hk)
  have hr' : RwAt V r (4 * P) d.f := hr.but hB1 (by simpa using hxr.symm)
  have hl' : Lay V cl P T G := (hB1.block cl hl.lt (by simpa using hcx)).trans hl
  have H := mo_visit V x cl r P T G who _ h' hr' hl' hcx hcr hxr hp 0 (by omega)
  have HV : Hid _ := hV
  have HF : Hid (But [x, r] w V) := hB
  clear h hr hl hV h' hB hB1 hr' hl' hcx hcr hxr hp
  go_enter Tryz.func63, Tryz.ntmps63
  go_wp2_with fail
  rw [HV.out]
  clear HV
  go_at_call 85; refine H.mono ?_; rintro e w1 ⟨⟨u, rfl⟩, hC⟩
  clear H
  go_wp2_with fail
  go_end0
  exact ⟨⟨_, rfl⟩, hC.before HF.out⟩
theorem mo_seeStatus (hd : d.p < 64) :
    Calls Tryz.prog 112 #[.pointer (some ⟨x, 0, none⟩)] w fun e w' => (∃ v, e = .returned v) ∧ MoLand who cl r P w w' x (moSeeStatus P d) := by
  by_cases hs : d.st = 2
  · have e : moSeeStatus P d = (.ca, d) := if_pos hs
    rw [e]
    have c8 := h.cell 8 (v := .int .u64 d.st) rfl
    rw [hs] at c8
    have H := mo_loadProc w x cl r P T G who _ h hl hp 5 (by omega) 117
    have HR : Hid (RwAt w r (4 * P) d.f) := hr
    clear h hr hl hcx hcr hxr hp hd e hs
    go_enter Tryz.func112, Tryz.ntmps112
    go_wp2_with fail
    go_at_call 93; refine H.mono ?_; rintro e w1 ⟨⟨u, rfl⟩, hC⟩
    clear H
    go_wp2_with fail
    go_end0
    exact ⟨⟨_, rfl⟩, MoLand.of (s := (.ca, d)) HR.out hC⟩
  · have e : moSeeStatus P d = moVisit P d (d.p + 1) := if_neg hs
    rw [e]
    have c8 := h.cell 8 (v := .int .u64 d.st) rfl
    have d1 : (d.st != 2) = true := by simpa using hs
    have H := mo_next w x cl r P T G who d h hr hl hcx hcr hxr hp hd
    clear h hr hl hcx hcr hxr hp hd e hs
    go_enter Tryz.func112, Tryz.ntmps112
    go_wp2_with fail
    go_at_call 100; refine H.mono ?_; rintro e w1 ⟨⟨u, rfl⟩, hC⟩
    clear H
    go_wp2_with fail
    refine bodyPost_ret (results_none rfl _ _ _) rfl ?_
    exact ⟨⟨_, rfl⟩, hC⟩
theorem mo_judge (v : Int) (hd : d.p < 64) :
    Calls Tryz.prog 94 #[.pointer (some ⟨x, 0, none⟩), .int .u64 v] w fun e w' => (∃ v, e = .returned v) ∧ MoLand who cl r P w w' x (moJudge P d v) := by
  by_cases hv : v = 1
  · subst hv
    rw [show moJudge P d 1 = (.tu, { d with st := 1 }) from rfl]
    have f8 := h.fro 8
    have c8 := h.cell 8 (v := .int .u64 d.st) rfl
    obtain ⟨V, hV⟩ : ∃ V, (w.setCell ⟨x, 8, none⟩ (.int .u64 1)) = V := ⟨_, rfl⟩
    have h' : Blk V x (moCells who none cl r P { d with st := 1 }) 98 := by rw [← hV]; exact h.set 8 (.int .u64 1)
    have hB1 : But [x] w V := by rw [← hV]; exact (But.refl [x] w).set (g := x) (.inl (by simp)) 8 _
    have hB : But [x, r] w V := hB1.more (by intro k _ hk; simp at hk ⊢; exact .inl hk)
    have hr' : RwAt V r (4 * P) d.f := hr.but hB1 (by simpa using hxr.symm)
    have hl' : Lay V cl P T G := (hB1.block cl hl.lt (by simpa using hcx)).trans hl
    have H := mo_loadProc V x cl r P T G who _ h' hl' hp 4 (by omega) 101
    have HV : Hid _ := hV
    have HF : Hid (But [x, r] w V ∧ RwAt V r (4 * P) d.f) := ⟨hB, hr'⟩
    clear h hr hl hV h' hB hB1 hr' hl' hcx hcr hxr hp hd
    go_enter Tryz.func94, Tryz.ntmps94
    go_wp2_with fail
    rw [HV.out]
    clear HV
    go_at_call 93; refine H.mono ?_; rintro e w1 ⟨⟨u, rfl⟩, hC⟩
    clear H
    go_wp2_with fail
    go_end0
    exact ⟨⟨_, rfl⟩, V, HF.out.1, HF.out.2, hC⟩
  by_cases hv2 : v = 2
  · subst hv2
    rw [show moJudge P d 2 = (.tu, { d with st := 2 }) from rfl]
    clear hv
    have f8 := h.fro 8
    have c8 := h.cell 8 (v := .int .u64 d.st) rfl
    obtain ⟨V, hV⟩ : ∃ V, (w.setCell ⟨x, 8, none⟩ (.int .u64 2)) = V := ⟨_, rfl⟩
    have h' : Blk V x (moCells who none cl r P { d with st := 2 }) 98 := by rw [← hV]; exact h.set 8 (.int .u64 2)
    have hB1 : But [x] w V := by rw [← hV]; exact (But.refl [x] w).set (g := x) (.inl (by simp)) 8 _
    have hB : But [x, r] w V := hB1.more (by intro k _ hk; simp at hk ⊢; exact .inl hk)
    have hr' : RwAt V r (4 * P) d.f := hr.but hB1 (by simpa using hxr.symm)
    have hl' : Lay V cl P T G := (hB1.block cl hl.lt (by simpa using hcx)).trans hl
    have H := mo_loadProc V x cl r P T G who _ h' hl' hp 4 (by omega) 101
    have HV : Hid _ := hV
    have HF : Hid (But [x, r] w V ∧ RwAt V r (4 * P) d.f) := ⟨hB, hr'⟩
    clear h hr hl hV h' hB hB1 hr' hl' hcx hcr hxr hp hd
    go_enter Tryz.func94, Tryz.ntmps94
    go_wp2_with fail
    rw [HV.out]
    clear HV
    go_at_call 93; refine H.mono ?_; rintro e w1 ⟨⟨u, rfl⟩, hC⟩
    clear H
    go_wp2_with fail
    go_end0
    exact ⟨⟨_, rfl⟩, V, HF.out.1, HF.out.2, hC⟩
  have e : moJudge P d v = moVisit P d (d.p + 1) := if_neg (fun h => h.elim hv hv2)
  rw [e]
  have d1 : (v != 1) = true := by simpa using hv
  have d2 : (v != 2) = true := by simpa using hv2
  have H := mo_next w x cl r P T G who d h hr hl hcx hcr hxr hp hd
  clear h hr hl hcx hcr hxr hp hd e hv hv2
  go_enter Tryz.func94, Tryz.ntmps94
  go_wp2_with fail
  go_at_call 100; refine H.mono ?_; rintro e w1 ⟨⟨u, rfl⟩, hC⟩
  clear H
  go_wp2_with fail
  refine bodyPost_ret (results_none rfl _ _ _) rfl ?_
  exact ⟨⟨_, rfl⟩, hC⟩
theorem mo_beLate (hd : d.p < 64) :
    Calls Tryz.prog 115 #[.pointer (some ⟨x, 0, none⟩)] w fun e w' => (∃ v, e = .returned v) ∧ MoLand who cl r P w w' x (moLate P d) := by
  have c9 := h.cell 9 (v := .bool d.lt) rfl
  have f9 := h.fro 9
  obtain ⟨V, hV⟩ : ∃ V, (w.setCell ⟨x, 9, none⟩ (.bool true)) = V := ⟨_, rfl⟩
  have h' : Blk V x (moCells who none cl r P { d with lt := true }) 98 := by rw [← hV]; exact (h.set 9 (.bool true))
  have hB1 : But [x] w V := by rw [← hV]; exact ((But.refl [x] w).set (g := x) (.inl (by simp)) 9 _)
  have hB : But [x, r] w V := hB1.more (by intro k _ hk; simp at hk ⊢; exact .inl hk)
  have hr' : RwAt V r (4 * P) d.f := hr.but hB1 (by simpa using hxr.symm)
  have hl' : Lay V cl P T G := (hB1.block cl hl.lt (by simpa using hcx)).trans hl
  have H := mo_seeStatus V x cl r P T G who _ h' hr' hl' hcx hcr hxr hp hd
  have HV : Hid _ := hV
  have HF : Hid (But [x, r] w V) := hB
  clear h hr hl hV h' hB hB1 hr' hl' hcx hcr hxr hp hd
  go_enter Tryz.func115, Tryz.ntmps115
  go_wp2_with fail
  rw [HV.out]
  clear HV
  go_at_call 112; refine H.mono ?_; rintro e w1 ⟨⟨u, rfl⟩, hC⟩
  clear H
  go_wp2_with fail
  go_end0
  exact ⟨⟨_, rfl⟩, hC.before HF.out⟩
set_option maxHeartbeats 4000000 in
theorem mo_seeTurns (v : Int) (hv : 0 ≤ v ∧ v ≤ 18446744073709551615) (hd : d.p < P) (hf : ∀ i, 0 ≤ d.f i ∧ d.f i ≤ 18446744073709551615) (hn : 0 ≤ d.nw ∧ d.nw ≤ 18446744073709551615) :
    Calls Tryz.prog 101 #[.pointer (some ⟨x, 0, none⟩), .int .u64 v] w fun e w' => (∃ v, e = .returned v) ∧ MoLand who cl r P w w' x (moTurns P d v) := by
  have c3 := h.cell 3 (v := .slice (some ⟨r, 0, none⟩) P P) rfl
  have c7 := h.cell 7 (v := .int .i64 d.p) rfl
  have hpp : d.p < 64 := by omega
  have i1 : (d.p : Int) < (P : Int) := by omega
  have i0 : (0 : Int) ≤ (d.p : Int) := by omega
  have hne : r ≠ x := fun e => hxr e.symm
  have HH : Hid (Blk w x (moCells who none cl r P d) 98 ∧ RwAt w r (4 * P) d.f ∧ Lay w cl P T G) := ⟨h, hr, hl⟩
  have HK : Hid (cl ≠ x ∧ cl ≠ r ∧ x ≠ r ∧ (P : Int) ≤ 64 ∧ d.p < P ∧ d.p < 64) := ⟨hcx, hcr, hxr, hp, hd, hpp⟩
  have hM := fun W => mny_any (d.f (d.p * 4 + 1)) d.nw W (hf _) hn
  clear h hr hl hcx hcr hxr hp hf hn hpp
  by_cases ht : v = d.f (d.p * 4)
  · have d1 : (v != d.f (d.p * 4)) = false := by simpa using ht
    have e0 : moTurns P d v = if 10 ≤ (d.nw - d.f (d.p * 4 + 1)) % 4294967296 then (.pr, { d with lt := false }) else moSeeStatus P { d with lt := false } := if_neg (fun h => h ht)
    rw [e0]
    clear ht e0
    generalize (d.nw - d.f (d.p * 4 + 1)) % 4294967296 = mm at *
    by_cases hm : 10 ≤ mm
    · rw [if_pos hm]
      have d2 : decide (10 ≤ mm) = true := decide_eq_true hm
      clear hm
      go_enter Tryz.func101, Tryz.ntmps101
      go_wp2_with fail
      go_quiet (fail)
      have HW : Hid (Blk (w.drewN nq) x (moCells who none cl r P d) 98 ∧ RwAt (w.drewN nq) r (4 * P) d.f ∧ Lay (w.drewN nq) cl P T G ∧ But [x] w (w.drewN nq)) := ⟨HH.out.1.drewN _, HH.out.2.1, HH.out.2.2, (But.refl _ _).drewN _⟩
      clear HH c3 c7
      generalize w.drewN nq = w0 at *
      have c9 := HW.out.1.cell 9 (v := .bool d.lt) rfl
      have f9 := HW.out.1.fro 9
      have r0 := HW.out.2.1.cell (i := d.p * 4) (by omega)
      obtain ⟨V, hV⟩ : ∃ V, (w0.setCell ⟨x, 9, none⟩ (.bool false)) = V := ⟨_, rfl⟩
      have hB1 : But [x] w0 V := by rw [← hV]; exact (But.refl _ _).set (g := x) (.inl (by simp)) 9 _
      have h' : Blk V x (moCells who none cl r P { d with lt := false }) 98 := by rw [← hV]; exact HW.out.1.set 9 (.bool false)
      have hr' : RwAt V r (4 * P) d.f := HW.out.2.1.but hB1 (by simpa using hne)
      have hl' : Lay V cl P T G := (hB1.block cl HW.out.2.2.1.lt (by simpa using HK.out.1)).trans HW.out.2.2.1
      have HV : Hid _ := hV
      have HF : Hid (Blk V x (moCells who none cl r P { d with lt := false }) 98 ∧ RwAt V r (4 * P) d.f ∧ Lay V cl P T G ∧ But [x, r] w V) := ⟨h', hr', hl', (HW.out.2.2.2.trans hB1).more (by intro k _ hk; simp at hk ⊢; exact .inl hk)⟩
      have r1 := hr'.cell (i := d.p * 4 + 1) (by omega)
      have c6 := h'.cell 6 (v := .int .u64 d.nw) rfl
      clear hV hB1 h' hr' hl' HW
      go_wp2_with fail
      rw [HV.out]
      clear HV c9 f9 r0
      go_region_with (first | (go_at_call 113; refine (hM _).mono ?_; rintro e w5 ⟨rfl, rfl⟩))
      all_goals
        have HX : Hid (Blk V.drew x (moCells who none cl r P { d with lt := false }) 98 ∧ RwAt V.drew r (4 * P) d.f ∧ Lay V.drew cl P T G ∧ But [x, r] w V.drew) := ⟨HF.out.1.drew, HF.out.2.1, HF.out.2.2.1, HF.out.2.2.2.drew⟩
        clear HF c6 r1 hM
        generalize V.drew = w2 at *
        have H := mo_proc w2.drew x cl r P T G who _ HX.out.1.drew HX.out.2.2.1 HK.out.2.2.2.1 6 (by omega)
        have H2 := fun W h i => came_store W x _ 98 (h : Blk W x (moCells who none cl r P { d with lt := false }) 98) (by simp [moCells]) i 1 115
        have ei : wd 20 P 264 d.p 6 = wd 20 P 264 ({ d with lt := false } : MoD).p 6 := rfl
        go_wp2_with fail
        go_region_with (first | (go_at_call 99; refine H.mono ?_; rintro e w3 ⟨rfl, h3⟩; have H3 := H2 w3 (HX.out.1.drew.but (But.of_below (l := []) h3) (by simp)) (wd 20 P 264 d.p 6)) | (go_at_call 114; refine H3.mono ?_; rintro e w4 ⟨⟨v, rfl⟩, hC⟩))
        all_goals
          have hB1 : But [x] w2 w3 := But.of_below ((Below.refl _ _).drew.trans h3)
          have hC2 := hC.before hB1
          clear H H2 H3 hC h3
          go_wp2_with fail
          go_end0
          exact ⟨⟨_, rfl⟩, w2, HX.out.2.2.2, HX.out.2.1, hC2⟩
    · rw [if_neg hm]
      have d2 : decide (10 ≤ mm) = false := decide_eq_false hm
      clear hm
      go_enter Tryz.func101, Tryz.ntmps101
      go_wp2_with fail
      go_quiet (fail)
      have HW : Hid (Blk (w.drewN nq) x (moCells who none cl r P d) 98 ∧ RwAt (w.drewN nq) r (4 * P) d.f ∧ Lay (w.drewN nq) cl P T G ∧ But [x] w (w.drewN nq)) := ⟨HH.out.1.drewN _, HH.out.2.1, HH.out.2.2, (But.refl _ _).drewN _⟩
      clear HH c3 c7
      generalize w.drewN nq = w0 at *
      have c9 := HW.out.1.cell 9 (v := .bool d.lt) rfl
      have f9 := HW.out.1.fro 9
      have r0 := HW.out.2.1.cell (i := d.p * 4) (by omega)
      obtain ⟨V, hV⟩ : ∃ V, (w0.setCell ⟨x, 9, none⟩ (.bool false)) = V := ⟨_, rfl⟩
      have hB1 : But [x] w0 V := by rw [← hV]; exact (But.refl _ _).set (g := x) (.inl (by simp)) 9 _
      have h' : Blk V x (moCells who none cl r P { d with lt := false }) 98 := by rw [← hV]; exact HW.out.1.set 9 (.bool false)
      have hr' : RwAt V r (4 * P) d.f := HW.out.2.1.but hB1 (by simpa using hne)
      have hl' : Lay V cl P T G := (hB1.block cl HW.out.2.2.1.lt (by simpa using HK.out.1)).trans HW.out.2.2.1
      have HV : Hid _ := hV
      have HF : Hid (Blk V x (moCells who none cl r P { d with lt := false }) 98 ∧ RwAt V r (4 * P) d.f ∧ Lay V cl P T G ∧ But [x, r] w V) := ⟨h', hr', hl', (HW.out.2.2.2.trans hB1).more (by intro k _ hk; simp at hk ⊢; exact .inl hk)⟩
      have r1 := hr'.cell (i := d.p * 4 + 1) (by omega)
      have c6 := h'.cell 6 (v := .int .u64 d.nw) rfl
      clear hV hB1 h' hr' hl' HW
      go_wp2_with fail
      rw [HV.out]
      clear HV c9 f9 r0
      go_region_with (first | (go_at_call 113; refine (hM _).mono ?_; rintro e w5 ⟨rfl, rfl⟩))
      all_goals
        have HX : Hid (Blk V.drew x (moCells who none cl r P { d with lt := false }) 98 ∧ RwAt V.drew r (4 * P) d.f ∧ Lay V.drew cl P T G ∧ But [x, r] w V.drew) := ⟨HF.out.1.drew, HF.out.2.1, HF.out.2.2.1, HF.out.2.2.2.drew⟩
        clear HF c6 r1 hM
        generalize V.drew = w2 at *
        have H := mo_seeStatus w2 x cl r P T G who _ HX.out.1 HX.out.2.1 HX.out.2.2.1 HK.out.1 HK.out.2.1 HK.out.2.2.1 HK.out.2.2.2.1 HK.out.2.2.2.2.2
        go_wp2_with fail
        go_at_call 112; refine H.mono ?_; rintro e w1 ⟨⟨u, rfl⟩, hC⟩
        clear H
        go_wp2_with fail
        go_end0
        exact ⟨⟨_, rfl⟩, hC.before HX.out.2.2.2⟩
  · have e : moTurns P d v = moSeeStatus P { d with lt := false, f := upd (upd d.f (d.p * 4) v) (d.p * 4 + 1) d.nw } := if_pos ht
    rw [e]
    have d1 : (v != d.f (d.p * 4)) = true := by simpa using ht
    clear ht e hM
    go_enter Tryz.func101, Tryz.ntmps101
    go_wp2_with fail
    go_quiet (fail)
    have HW : Hid (Blk (w.drewN nq) x (moCells who none cl r P d) 98 ∧ RwAt (w.drewN nq) r (4 * P) d.f ∧ Lay (w.drewN nq) cl P T G ∧ But [x] w (w.drewN nq)) := ⟨HH.out.1.drewN _, HH.out.2.1, HH.out.2.2, (But.refl _ _).drewN _⟩
    clear HH c3 c7
    generalize w.drewN nq = w0 at *
    have c6 := HW.out.1.cell 6 (v := .int .u64 d.nw) rfl
    have c9 := HW.out.1.cell 9 (v := .bool d.lt) rfl
    have f9 := HW.out.1.fro 9
    have r0 := HW.out.2.1.cell (i := d.p * 4) (by omega)
    have r1 := HW.out.2.1.cell (i := d.p * 4 + 1) (by omega)
    have q0 := HW.out.2.1.fro (d.p * 4)
    have q1 := HW.out.2.1.fro (d.p * 4 + 1)
    obtain ⟨V, hV⟩ : ∃ V, (((w0.setCell ⟨x, 9, none⟩ (.bool false)).setCell ⟨r, d.p * 4, none⟩ (.int .u64 v)).setCell ⟨r, d.p * 4 + 1, none⟩ (.int .u64 d.nw)) = V := ⟨_, rfl⟩
    have hB1 : But [x, r] w0 V := by rw [← hV]; exact (((But.refl _ _).set (g := x) (.inl (by simp)) 9 _).set (g := r) (.inl (by simp)) _ _).set (g := r) (.inl (by simp)) _ _
    have h' : Blk V x (moCells who none cl r P { d with lt := false, f := upd (upd d.f (d.p * 4) v) (d.p * 4 + 1) d.nw }) 98 := by rw [← hV]; exact ((HW.out.1.set 9 (.bool false)).setne hne.symm _ _).setne hne.symm _ _
    have hr' : RwAt V r (4 * P) (upd (upd d.f (d.p * 4) v) (d.p * 4 + 1) d.nw) := by rw [← hV]; exact ((HW.out.2.1.but ((But.refl [x] w0).set (g := x) (.inl (by simp)) 9 _) (by simpa using hne)).set (by omega) _).set (by omega) _
    have hl' : Lay V cl P T G := (hB1.block cl HW.out.2.2.1.lt (by simp; exact ⟨HK.out.1, HK.out.2.1⟩)).trans HW.out.2.2.1
    have H := mo_seeStatus V x cl r P T G who _ h' hr' hl' HK.out.1 HK.out.2.1 HK.out.2.2.1 HK.out.2.2.2.1 HK.out.2.2.2.2.2
    have HV : Hid _ := hV
    have HF : Hid (But [x, r] w V) := (HW.out.2.2.2.more (by intro k _ hk; simp at hk ⊢; exact .inl hk)).trans hB1
    clear hV hB1 h' hr' hl' HW
    go_wp2_with fail
    rw [HV.out]
    clear HV c6 c9 f9 r0 r1 q0 q1
    go_at_call 112; refine H.mono ?_; rintro e w1 ⟨⟨u, rfl⟩, hC⟩
    clear H
    go_wp2_with fail
    go_end0
    exact ⟨⟨_, rfl⟩, hC.before HF.out⟩
end
end Go.Proofs.YthjfbknmdligeaaGreat

namespace Go.Proofs.YthjfbknmdligeaaGreat
open Go Go.RowKit
set_option linter.unusedVariables false
set_option maxRecDepth 100000
set_option linter.unusedSimpArgs false

/-- A machine that is run by another. -/
structure Sub where
  τ : Type
  M : PM τ
  I : MI τ
  R : Rd
  D : TypeId
  F : Nat
/-- What comes. -/
inductive Kind where
  | over
  | acc (a : Ax) (f : Fol)
  | run (S : Sub) (p : S.τ) (af : After)
/-- A machine in memory that may run others: es are addresses that it holds, ext says of further blocks of its own. -/
structure Cp (σ : Type) where
  T : TypeId
  cells : σ → List Nat → Option Addr → Array Value
  kind : σ → Kind
  ok : σ → Prop
  ext : σ → List Nat → World → List Nat → Prop
  tie : σ → List Nat → Nat → Prop
def Cp.Here {σ : Type} (C : Cp σ) (w : World) (x : Nat) (t : σ) (es Le L : List Nat) : Kind → Prop
  | .over => Blk w x (C.cells t es none) C.T ∧ L = x :: Le
  | .acc a f => ∃ q Lc, Blk w x (C.cells t es (some ⟨q, 0, none⟩)) C.T ∧ Com w x q a f Lc ∧ x ∉ Lc ∧ (∀ k ∈ Lc, k ∉ Le) ∧ L = x :: (Lc ++ Le)
  | .run S p af => ∃ q y g Li, RunAt w x q y g (C.cells t es) C.T S.D (af.fol.box x) ∧ S.I w y p Li ∧ C.tie t es y ∧ x ∉ q :: g :: Li ∧ q ∉ Li ∧ g ∉ Li ∧ (∀ k ∈ q :: g :: Li, k ∉ Le) ∧ L = x :: q :: g :: (Li ++ Le)
def Cp.I {σ : Type} (C : Cp σ) : MI σ := fun w x t L => C.ok t ∧ ∃ es Le, C.ext t es w Le ∧ x ∉ Le ∧ C.Here w x t es Le L (C.kind t)
/-- What follows has made the next thing come. -/
def Cp.Land {σ : Type} (C : Cp σ) (W w' : World) (x : Nat) (t : σ) (Le : List Nat) : Prop := But [x] W w' ∧ ∃ L', C.I w' x t L' ∧ ∀ k ∈ L', k = x ∨ k ∈ Le ∨ W.heap.size ≤ k

structure Cp.Laws {σ : Type} (C : Cp σ) (M : PM σ) (R : Rd) (who : Int) : Prop where
  c0 : ∀ t es nx, (C.cells t es nx)[0]? = some (.int .i64 who)
  c1 : ∀ t es nx, (C.cells t es nx)[1]? = some (.pointer nx)
  set : ∀ t es nx nx', (C.cells t es nx).setIfInBounds 1 (.pointer nx') = C.cells t es nx'
  k0 : ∀ t, C.ok t → C.kind t = .over → M.ax t = none
  k1 : ∀ t a f, C.ok t → C.kind t = .acc a f → M.ax t = some a ∧ a.Ok ∧ f.Ents
  k2 : ∀ t S p af, C.ok t → C.kind t = .run S p af → M.ax t = S.M.ax p ∧ (S.M.ax p).isSome = true ∧ af.fol.Ents ∧ (∀ a, S.M.ax p = some a → a.Ok)
  sub : ∀ t S p af, C.ok t → C.kind t = .run S p af → Steps S.M S.I S.R S.F who ∧ S.I.Good S.M ∧ ActRun S.D S.F ∧ (∀ w, R.P w → S.R.P w) ∧ (∀ k ∈ S.R.B, k ∈ R.B)
  on : ∀ t S p af v, C.ok t → C.kind t = .run S p af → 0 ≤ v ∧ v ≤ 18446744073709551615 → (S.M.ax (S.M.nx p v)).isSome = true → C.ok (M.nx t v) ∧ C.kind (M.nx t v) = .run S (S.M.nx p v) af ∧ (∀ es, C.cells (M.nx t v) es = C.cells t es) ∧ (∀ es w Le, C.ext t es w Le → C.ext (M.nx t v) es w Le) ∧ (∀ es y, C.tie t es y → C.tie (M.nx t v) es y)
  ekeep : ∀ t es w w' l Le, C.ext t es w Le → But l w w' → (∀ k ∈ Le, k ∉ l) → C.ext t es w' Le
  elt : ∀ t es w Le, C.ext t es w Le → ∀ k ∈ Le, k < w.heap.size
  ns : ∀ t a f, C.kind t = .acc a f → a.sl = false := by intro t a f h; cases t <;> first | (cases h; rfl) | cases h | (rename_i r; cases r <;> first | (cases h; rfl) | cases h)
  fol : ∀ W x t a f v es Le, C.ok t → C.kind t = .acc a f → 0 ≤ v ∧ v ≤ 18446744073709551615 → Blk W x (C.cells t es none) C.T → C.ext t es W Le → x ∉ Le → R.P W → x ∉ R.B → FolC W x f v (fun w' => C.Land W w' x (M.nx t v) Le)
  aft : ∀ W x y t S p af v es Le Li, C.ok t → C.kind t = .run S p af → 0 ≤ v ∧ v ≤ 18446744073709551615 → S.M.ax (S.M.nx p v) = none → Blk W x (C.cells t es none) C.T → S.I W y (S.M.nx p v) Li → C.tie t es y → C.ext t es W Le → x ∉ Le → x ∉ Li → (∀ k ∈ Li, k ∉ Le) → R.P W → x ∉ R.B → FolC W x af.fol 0 (fun w' => C.Land W w' x (M.nx t v) (Li ++ Le))

section
variable {σ : Type} {C : Cp σ} {M : PM σ} {R : Rd} {who : Int}
/-- The machine's own block, whatever comes. -/
theorem Cp.blk {w : World} {x : Nat} {t : σ} {L : List Nat} (hL : C.Laws M R who) (h : C.I w x t L) : ∃ es Le nx, Blk w x (C.cells t es nx) C.T ∧ C.ext t es w Le ∧ (∀ k ∈ Le, k ∈ L) ∧ nx.isNone = (M.ax t).isNone := by
  obtain ⟨hok, es, Le, he, hxe, h⟩ := h
  cases hk : C.kind t with
  | over =>
    rw [hk] at h
    obtain ⟨h1, rfl⟩ := h
    exact ⟨es, Le, none, h1, he, fun k hk => by simp [hk], by rw [hL.k0 t hok hk]; rfl⟩
  | acc a f =>
    rw [hk] at h
    obtain ⟨q, Lc, h1, h2, h3, h4, rfl⟩ := h
    exact ⟨es, Le, _, h1, he, fun k hk => by simp [hk], by rw [(hL.k1 t a f hok hk).1]; rfl⟩
  | run S p af =>
    rw [hk] at h
    obtain ⟨q, y, g, Li, h1, h2, _, h3, h4, h5, h6, rfl⟩ := h
    obtain ⟨k1, k2, _, _⟩ := hL.k2 t S p af hok hk
    refine ⟨es, Le, _, h1.hx, he, fun k hk => by simp [hk], ?_⟩
    rw [k1]
    cases hs : S.M.ax p
    · rw [hs] at k2; cases k2
    · rfl
theorem Cp.mem {w : World} {x : Nat} {t : σ} {L : List Nat} (h : C.I w x t L) : x ∈ L := by
  obtain ⟨hok, es, Le, he, hxe, h⟩ := h
  cases hk : C.kind t with
  | over => rw [hk] at h; obtain ⟨h1, rfl⟩ := h; simp
  | acc a f => rw [hk] at h; obtain ⟨q, Lc, h1, h2, h3, h4, rfl⟩ := h; simp
  | run S p af => rw [hk] at h; obtain ⟨q, y, g, Li, h1, h2, _, h3, h4, h5, h6, rfl⟩ := h; simp
theorem Cp.good (hL : C.Laws M R who) : C.I.Good M := by
  refine ⟨?_, ?_, fun h => Cp.mem h, ?_⟩
  · intro w w' x t L l h hb hk
    obtain ⟨hok, es, Le, he, hxe, h⟩ := h
    refine ⟨hok, es, Le, ?_, hxe, ?_⟩
    · refine hL.ekeep t es w w' l Le he hb (fun k hm => hk k ?_)
      cases hkd : C.kind t with
      | over => rw [hkd] at h; obtain ⟨h1, rfl⟩ := h; simp [hm]
      | acc a f => rw [hkd] at h; obtain ⟨q, Lc, h1, h2, h3, h4, rfl⟩ := h; simp [hm]
      | run S p af => rw [hkd] at h; obtain ⟨q, y, g, Li, h1, h2, _, h3, h4, h5, h6, rfl⟩ := h; simp [hm]
    · cases hkd : C.kind t with
      | over => rw [hkd] at h; obtain ⟨h1, rfl⟩ := h; exact ⟨h1.but hb (hk x (by simp)), rfl⟩
      | acc a f =>
        rw [hkd] at h
        obtain ⟨q, Lc, h1, h2, h3, h4, rfl⟩ := h
        exact ⟨q, Lc, h1.but hb (hk x (by simp)), h2.but hb (fun k hm => hk k (by simp [hm])), h3, h4, rfl⟩
      | run S p af =>
        have hG := (hL.sub t S p af hok hkd).2.1
        rw [hkd] at h
        obtain ⟨q, y, g, Li, h1, h2, h2', h3, h4, h5, h6, rfl⟩ := h
        exact ⟨q, y, g, Li, h1.but hb (hk x (by simp)) (hk q (by simp)) (hk g (by simp)), hG.keep h2 hb (fun k hm => hk k (by simp [hm])), h2', h3, h4, h5, h6, rfl⟩
  · intro w x t L h k hk
    obtain ⟨hok, es, Le, he, hxe, h⟩ := h
    have hle := hL.elt t es w Le he
    cases hkd : C.kind t with
    | over =>
      rw [hkd] at h
      obtain ⟨h1, rfl⟩ := h
      simp at hk
      rcases hk with rfl | hk
      · exact h1.lt
      · exact hle k hk
    | acc a f =>
      rw [hkd] at h
      obtain ⟨q, Lc, h1, h2, h3, h4, rfl⟩ := h
      simp at hk
      rcases hk with rfl | hk | hk
      · exact h1.lt
      · exact h2.lt k hk
      · exact hle k hk
    | run S p af =>
      have hG := (hL.sub t S p af hok hkd).2.1
      rw [hkd] at h
      obtain ⟨q, y, g, Li, h1, h2, _, h3, h4, h5, h6, rfl⟩ := h
      simp at hk
      rcases hk with rfl | rfl | rfl | hk | hk
      · exact h1.hx.lt
      · exact h1.hq.lt
      · exact h1.hg.lt
      · exact hG.lt h2 k hk
      · exact hle k hk
  · intro w x t L h
    obtain ⟨es, Le, nx, h1, _, _, h2⟩ := Cp.blk hL h
    exact ⟨nx, h1.cell 1 (hL.c1 _ _ _), h2⟩
theorem Cp.axok (hL : C.Laws M R who) {w : World} {x : Nat} {t : σ} {L : List Nat} (h : C.I w x t L) : ∀ a, M.ax t = some a → a.Ok := by
  intro a ha
  have hok := h.1
  cases hk : C.kind t with
  | over => rw [hL.k0 t hok hk] at ha; cases ha
  | acc a' f =>
    obtain ⟨h1, h2, _⟩ := hL.k1 t a' f hok hk
    rw [h1] at ha
    cases ha
    exact h2
  | run S p af =>
    obtain ⟨h1, _, _, h4⟩ := hL.k2 t S p af hok hk
    exact h4 a (h1.symm.trans ha)
/-- Ways to land. -/
theorem Cp.land_over {W w' : World} {x : Nat} {t : σ} {es Le Le' : List Nat} (hb : But [x] W w') (hok : C.ok t) (hk : C.kind t = .over) (h : Blk w' x (C.cells t es none) C.T) (he : C.ext t es w' Le) (hxe : x ∉ Le) (hle : ∀ k ∈ Le, k ∈ Le') : C.Land W w' x t Le' :=
  ⟨hb, x :: Le, ⟨hok, es, Le, he, hxe, by rw [hk]; exact ⟨h, rfl⟩⟩, fun k hm => by simp at hm; rcases hm with rfl | hm; exact .inl rfl; exact .inr (.inl (hle k hm))⟩
theorem Cp.land_acc (hL : C.Laws M R who) {W w' : World} {x : Nat} {t : σ} {es Le Le' : List Nat} {a : Ax} {f : Fol} (h : Came W w' x (C.cells t es none) C.T a f) (hok : C.ok t) (hk : C.kind t = .acc a f) (he : C.ext t es W Le) (hx : x < W.heap.size) (hxe : x ∉ Le) (hle : ∀ k ∈ Le, k ∈ Le') : C.Land W w' x t Le' := by
  obtain ⟨q, Lc, h1, h2, h3, h4⟩ := h
  rw [hL.set] at h1
  have hlt := hL.elt t es W Le he
  refine ⟨h3, x :: (Lc ++ Le), ⟨hok, es, Le, hL.ekeep t es W w' _ Le he h3 (fun k hm => by simp; rintro rfl; exact hxe hm), hxe, ?_⟩, fun k hm => ?_⟩
  · rw [hk]
    exact ⟨q, Lc, h1, h2, fun hm => absurd (h4 x hm) (by omega), fun k hm hm2 => absurd (h4 k hm) (by have := hlt k hm2; omega), rfl⟩
  · simp at hm
    rcases hm with rfl | hm | hm
    · exact .inl rfl
    · exact .inr (.inr (h4 k hm))
    · exact .inr (.inl (hle k hm))
theorem Cp.land_run (hL : C.Laws M R who) {W w' : World} {x : Nat} {t : σ} {es Le Le' Li : List Nat} {S : Sub} {p : S.τ} {af : After} {y q g : Nat} {cs0 : Array Value} (hin : S.I w' y p Li) (hLi : ∀ k ∈ Li, W.heap.size ≤ k) (hqi : q ∉ Li) (hgi : g ∉ Li)
    (h : CameBox W w' x cs0 C.T (fun v => comCells 0 0 0 0 0 false (.iface S.D (.pointer (some ⟨y, 0, none⟩))) v false false) (af.fol.box x) q g) (hcs : ∀ nx, cs0.setIfInBounds 1 (.pointer nx) = C.cells t es nx)
    (hok : C.ok t) (hk : C.kind t = .run S p af) (hty : C.tie t es y) (he : C.ext t es W Le) (hx : x < W.heap.size) (hxe : x ∉ Le) (hle : ∀ k ∈ Le, k ∈ Le') : C.Land W w' x t Le' := by
  have hb := h.at'.but
  have hlt := hL.elt t es W Le he
  have hxi : x ∉ Li := fun hm => absurd (hLi x hm) (by omega)
  have hq : W.heap.size ≤ q := h.at'.fresh
  have hg : W.heap.size ≤ g := h.fresh
  refine ⟨hb, x :: q :: g :: (Li ++ Le), ⟨hok, es, Le, hL.ekeep t es W w' _ Le he hb (fun k hm => by simp; rintro rfl; exact hxe hm), hxe, ?_⟩, fun k hm => ?_⟩
  · rw [hk]
    refine ⟨q, y, g, Li, RunAt.of h hcs, hin, hty, ?_, hqi, hgi, ?_, rfl⟩
    · simp only [List.mem_cons, not_or]
      exact ⟨by omega, by omega, hxi⟩
    · intro k hm hm2
      have := hlt k hm2
      simp only [List.mem_cons] at hm
      rcases hm with rfl | rfl | hm
      · omega
      · omega
      · have := hLi k hm; omega
  · simp at hm
    rcases hm with rfl | rfl | rfl | hm | hm
    · exact .inl rfl
    · exact .inr (.inr (by omega))
    · exact .inr (.inr (by omega))
    · exact .inr (.inr (hLi k hm))
    · exact .inr (.inl (hle k hm))

theorem Cp.steps (hL : C.Laws M R who) {K : Nat} (hK : StepBy K) : Steps M C.I R K who := by
  intro w A cp cm b n s x t L h hR hI hn hl hf hcb
  have hI0 := h
  obtain ⟨hok, es, Le, he, hxe, h⟩ := h
  cases hkd : C.kind t with
  | over =>
    have hax := hL.k0 t hok hkd
    have eT : M.goT n t s = t := by unfold PM.goT; rw [hax]
    have eS : M.goS who n t s = s := by unfold PM.goS; rw [hax]
    rw [eT, eS, hax]
    rw [hkd] at h
    obtain ⟨h1, rfl⟩ := h
    refine (hK w x _ (fun z w' => z = true ∧ w = w') ((step_none w x cm (h1.cell 1 (hL.c1 _ _ _))).mono ?_)).mono ?_
    · rintro e w' ⟨rfl, rfl⟩; exact ⟨true, rfl, rfl, rfl⟩
    · rintro e w' ⟨z, rfl, rfl, rfl⟩
      exact ⟨rfl, _, hI0, hI, But.refl _ _, fun k hk => .inl hk⟩
  | acc a f =>
    obtain ⟨hax, haok, hent⟩ := hL.k1 t a f hok hkd
    have eT : M.goT n t s = M.nx t (actA a.k a.i a.old a.new n s) := PM.goT_some hax (PM.asl_no (hL.ns t a f hkd))
    have eS : M.goS who n t s = actS a.k who a.i a.old a.new n s := PM.goS_some hax (PM.asl_no (hL.ns t a f hkd))
    rw [eT, eS]
    have hv := actA_bd hI a.k a.i a.old a.new
    rw [hkd] at h
    obtain ⟨q, Lc, h1, h2, h3, h4, rfl⟩ := h
    have hx := hf x (by simp)
    refine hK.to (R := fun nx w' => nx.isNone = (M.ax (M.nx t (actA a.k a.i a.old a.new n s))).isNone ∧ ∃ L', C.I w' x (M.nx t (actA a.k a.i a.old a.new n s)) L' ∧ Is w' 114 A cp cm b n (actS a.k who a.i a.old a.new n s) ∧ But (cm :: b :: x :: (Lc ++ Le)) w w' ∧ ∀ k ∈ L', k ∈ x :: (Lc ++ Le) ∨ w.heap.size ≤ k) ?_ (fun nx w' h => h)
    refine acc_step w A cp cm b n s hI hn hl x q _ C.T who a f Lc h1 (hL.c0 _ _ _) (hL.c1 _ _ _) h2 haok hent ⟨hx.1, hx.2.1⟩ h3 (fun k hk => ⟨(hf k (by simp [hk])).1, (hf k (by simp [hk])).2.1⟩) _ ?_
    intro W hW hIW hB
    rw [hL.set] at hW
    have hRW : R.P W := R.keep w W _ hR hB (fun k hk => by
      simp only [List.mem_cons, List.not_mem_nil, or_false, not_or]
      exact ⟨fun e => hcb.1 (e ▸ hk), fun e => hcb.2 (e ▸ hk), fun e => hx.2.2 (e ▸ hk)⟩)
    have heW : C.ext t es W Le := hL.ekeep t es w W _ Le he hB (fun k hm => by
      have := hf k (by simp [hm])
      simp only [List.mem_cons, List.not_mem_nil, or_false, not_or]
      exact ⟨this.1, this.2.1, fun e => hxe (e ▸ hm)⟩)
    refine (hL.fol W x t a f _ es Le hok hkd hv hW heW hxe hRW hx.2.2).mono ?_
    rintro w' ⟨g3, L', g1, g2⟩
    obtain ⟨nx, e1, e2⟩ := (Cp.good hL).next g1
    refine ⟨nx, e1, e2, L', g1, hIW.but g3 (by simpa using hx.1.symm) (by simpa using hx.2.1.symm), ?_, fun k hk => ?_⟩
    · exact (hB.more (by intro k _ hk; simp at hk ⊢; omega)).trans (g3.more (by intro k _ hk; simp at hk ⊢; omega))
    · rcases g2 k hk with rfl | g2 | g2
      · exact .inl (by simp)
      · exact .inl (by simp [g2])
      · exact .inr (Nat.le_trans hB.size g2)
  | run S p af =>
    obtain ⟨hax, hsome, hent, _⟩ := hL.k2 t S p af hok hkd
    obtain ⟨hS, hG, hD, hRS, hRB⟩ := hL.sub t S p af hok hkd
    rw [hkd] at h
    obtain ⟨q, y, g, Li, h1, h2, hty, h3, h4, h5, h6, rfl⟩ := h
    obtain ⟨a, ha⟩ : ∃ a, S.M.ax p = some a := Option.isSome_iff_exists.1 hsome
    have hax' : M.ax t = some a := hax.trans ha
    have hv := actA_bd hI a.k a.i a.old a.new
    have eS : S.M.goS who n p s = M.goS who n t s := by
      by_cases hz : PM.asl n a s = true
      · rw [PM.goS_asl ha hz, PM.goS_asl hax' hz]
      · rw [PM.goS_some ha (by simpa using hz), PM.goS_some hax' (by simpa using hz)]
    have hgo : (S.M.ax (S.M.goT n p s)).isSome = true → C.ok (M.goT n t s) ∧ C.kind (M.goT n t s) = .run S (S.M.goT n p s) af ∧ (∀ es, C.cells (M.goT n t s) es = C.cells t es) ∧ (∀ es w Le, C.ext t es w Le → C.ext (M.goT n t s) es w Le) ∧ (∀ es y, C.tie t es y → C.tie (M.goT n t s) es y) := by
      by_cases hz : PM.asl n a s = true
      · rw [PM.goT_asl ha hz, PM.goT_asl hax' hz]
        exact fun _ => ⟨hok, hkd, fun _ => rfl, fun _ _ _ h => h, fun _ _ h => h⟩
      · rw [PM.goT_some ha (by simpa using hz), PM.goT_some hax' (by simpa using hz)]
        exact fun hs => hL.on t S p af _ hok hkd hv hs
    have hov : S.M.ax (S.M.goT n p s) = none → M.goT n t s = M.nx t (actA a.k a.i a.old a.new n s) ∧ S.M.goT n p s = S.M.nx p (actA a.k a.i a.old a.new n s) := by
      by_cases hz : PM.asl n a s = true
      · rw [PM.goT_asl ha hz, PM.goT_asl hax' hz]
        exact fun h => by rw [ha] at h; cases h
      · rw [PM.goT_some ha (by simpa using hz), PM.goT_some hax' (by simpa using hz)]
        exact fun _ => ⟨rfl, rfl⟩
    have hx := hf x (by simp)
    have hxi : x ∉ Li := fun hm => h3 (by simp [hm])
    refine hK.to (R := fun nx w' => nx.isNone = (M.ax (M.goT n t s)).isNone ∧ ∃ L', C.I w' x (M.goT n t s) L' ∧ Is w' 114 A cp cm b n (M.goS who n t s) ∧ But (cm :: b :: x :: q :: g :: (Li ++ Le)) w w' ∧ ∀ k ∈ L', k ∈ x :: q :: g :: (Li ++ Le) ∨ w.heap.size ≤ k) ?_ (fun nx w' h => h)
    refine run_step hS hG hD w A cm cp b n s hI hn hl x q y g (C.cells t es) C.T af p Li h1 (hL.c0 t es) (hL.c1 t es) (hL.set t es) hent h2 (hRS w hR) h3 h4 h5 (fun k hk => ?_) ⟨fun hm => hcb.1 (hRB _ hm), fun hm => hcb.2 (hRB _ hm)⟩ _ ?_ ?_
    · have hk' : k ∈ x :: q :: g :: (Li ++ Le) := by simp at hk ⊢; rcases hk with h | h | h | h <;> simp [h]
      exact ⟨(hf k hk').1, (hf k hk').2.1, fun hm => (hf k hk').2.2 (hRB _ hm)⟩
    · -- it goes on
      rw [eS]
      intro hs w' Li' hA' hin' hI' hB hLi'
      obtain ⟨o1, o2, o3, o4, o5⟩ := hgo hs
      have hlt := hL.elt t es w Le he
      have hLe : ∀ k ∈ Le, k ∉ cm :: b :: q :: Li := fun k hm => by
        have := hf k (by simp [hm])
        simp only [List.mem_cons, not_or]
        exact ⟨this.1, this.2.1, fun e => h6 q (by simp) (e ▸ hm), fun hi => h6 k (by simp [hi]) hm⟩
      have hin3 : ∀ k, k ∈ Li' → k ∈ Li ∨ w.heap.size ≤ k := hLi'
      have hxlt := h1.hx.lt
      have hqlt := h1.hq.lt
      have hglt := h1.hg.lt
      have hI2 : C.I w' x (M.goT n t s) (x :: q :: g :: (Li' ++ Le)) := by
        refine ⟨o1, es, Le, o4 es w' Le (hL.ekeep t es w w' _ Le he hB hLe), hxe, ?_⟩
        rw [o2]
        refine ⟨q, y, g, Li', by rw [o3]; exact hA', hin', o5 es y hty, ?_, ?_, ?_, ?_, rfl⟩
        · simp only [List.mem_cons, not_or] at h3 ⊢
          exact ⟨h3.1, h3.2.1, fun hm => by rcases hin3 x hm with h | h; exact hxi h; omega⟩
        · intro hm; rcases hin3 q hm with h | h; exact h4 h; omega
        · intro hm; rcases hin3 g hm with h | h; exact h5 h; omega
        · intro k hm hm2
          simp only [List.mem_cons] at hm
          rcases hm with rfl | rfl | hm
          · exact h6 k (by simp) hm2
          · exact h6 k (by simp) hm2
          · rcases hin3 k hm with h | h
            · exact h6 k (by simp [h]) hm2
            · have := hlt k hm2; omega
      obtain ⟨nx, e1, e2⟩ := (Cp.good hL).next hI2
      have e3 : nx = some ⟨q, 0, none⟩ := by
        have := hA'.hx.cell 1 (hL.c1 t es _)
        rw [e1] at this
        simpa using this
      subst e3
      refine ⟨e2, _, hI2, hI', hB.more (by intro k _ hk; simp at hk ⊢; rcases hk with h | h | h | h <;> simp [h]), fun k hk => ?_⟩
      simp at hk ⊢
      rcases hk with h | h | h | h | h
      · simp [h]
      · simp [h]
      · simp [h]
      · rcases hin3 k h with h | h
        · simp [h]
        · exact .inr h
      · simp [h]
    · -- it is over
      rw [eS]
      intro hs W Li' hW hin' hI' hB hLi'
      obtain ⟨e0, e9⟩ := hov hs
      rw [e0]
      rw [e9] at hs hin'
      have hRW : R.P W := R.keep w W _ hR hB (fun k hk => by
        simp only [List.mem_cons, not_or]
        refine ⟨fun e => hcb.1 (e ▸ hk), fun e => hcb.2 (e ▸ hk), fun e => hx.2.2 (e ▸ hk), fun e => (hf q (by simp)).2.2 (e ▸ hk), fun hm => (hf k (by simp [hm])).2.2 hk⟩)
      have hlt := hL.elt t es w Le he
      have hxlt := h1.hx.lt
      have heW : C.ext t es W Le := hL.ekeep t es w W _ Le he hB (fun k hm => by
        have := hf k (by simp [hm])
        simp only [List.mem_cons, not_or]
        exact ⟨this.1, this.2.1, fun e => hxe (e ▸ hm), fun e => h6 q (by simp) (e ▸ hm), fun hi => h6 k (by simp [hi]) hm⟩)
      have hxi' : x ∉ Li' := fun hm => by rcases hLi' x hm with h | h; exact hxi h; omega
      have hdl : ∀ k ∈ Li', k ∉ Le := fun k hm hm2 => by
        rcases hLi' k hm with h | h
        · exact h6 k (by simp [h]) hm2
        · have := hlt k hm2; omega
      refine (hL.aft W x y t S p af _ es Le Li' hok hkd hv hs hW hin' hty heW hxe hxi' hdl hRW hx.2.2).mono ?_
      rintro w' ⟨g3, L', g1, g2⟩
      obtain ⟨nx, e1, e2⟩ := (Cp.good hL).next g1
      refine ⟨nx, e1, e2, L', g1, hI'.but g3 (by simpa using hx.1.symm) (by simpa using hx.2.1.symm), ?_, fun k hk => ?_⟩
      · exact (hB.more (by intro k _ hk; simp at hk ⊢; rcases hk with h | h | h | h | h <;> simp [h])).trans (g3.more (by intro k _ hk; simp at hk ⊢; simp [hk]))
      · rcases g2 k hk with rfl | g2 | g2
        · exact .inl (by simp)
        · rcases List.mem_append.1 g2 with g2 | g2
          · rcases hLi' k g2 with h | h
            · exact .inl (by simp [h])
            · exact .inr h
          · exact .inl (by simp [g2])
        · exact .inr (Nat.le_trans hB.size g2)
end
end Go.Proofs.YthjfbknmdligeaaGreat

namespace Go.Proofs.YthjfbknmdligeaaGreat
open Go Go.RowKit
set_option linter.unusedVariables false
set_option maxRecDepth 100000
set_option linter.unusedSimpArgs false

/-- A machine that acquires a lock. -/
inductive AcqT where
  | fresh
  | wait (t : Int)
  | has (t : Int)
  | over (t : Int)
def acqPM (tk sv ow who : Int) : PM AcqT where
  ax := fun
    | .fresh => some (axAd tk 1)
    | .wait _ => some (axLd sv)
    | .has _ => some (axSt ow (who + 1))
    | .over _ => none
  nx := fun
    | .fresh, v => .wait (turnOf v)
    | .wait t, v => if v = t then .has t else .wait t
    | .has t, _ => .over t
    | .over t, _ => .over t
def AcqT.turn : AcqT → Int
  | .fresh => 0
  | .wait t => t
  | .has t => t
  | .over t => t
def AcqT.known : AcqT → Bool
  | .fresh => false
  | _ => true
def acqFl (who sv ow : Int) : Fl AcqT where
  T := 188
  cells := fun t nx => acqCells who nx sv ow t.turn t.known
  fol := fun
    | .fresh => .told 137
    | .wait _ => .told 143
    | .has _ => .nil
    | .over _ => .nil
  ok := fun _ => True
theorem ent_draw : Ent 137 := fun args w => by kernel_rfl
theorem ent_serve : Ent 143 := fun args w => by kernel_rfl
theorem ent_pass : Ent 150 := fun args w => by kernel_rfl
theorem acq_laws (tk sv ow who : Int) (hw : 0 ≤ who ∧ who ≤ 1000000) : (acqFl who sv ow).Laws (acqPM tk sv ow who) Rd.nil who where
  c0 := fun t nx => rfl
  c1 := fun t nx => rfl
  set := fun t nx nx' => rfl
  axok := fun t a _ h => by
    cases t <;> cases h
    · exact axAd_ok _ _ (by omega)
    · exact axLd_ok _
    · exact axSt_ok _ _ (by omega)
  ents := fun t a h => by
    cases t <;> cases h
    · exact ent_draw
    · exact ent_serve
    · exact trivial
  ok := fun _ _ _ _ _ _ => trivial
  fol := fun W x t a v _ h hv hB _ _ => by
    cases t <;> cases h
    · refine (draw_any W x who sv ow 0 v none false hB hv).mono ?_
      rintro e w' ⟨hu, q, hC⟩
      exact ⟨hu, Came.of_at hC⟩
    · rename_i t _
      by_cases he : v = t
      · subst he
        have : (acqPM tk sv ow who).nx (.wait v) v = .has v := if_pos rfl
        rw [this]
        refine (serve_has W x who sv ow v none true hB hw).mono ?_
        rintro e w' ⟨hu, q, g, hC⟩
        exact ⟨hu, Came.of_box hC (fun _ h => by cases h) rfl rfl rfl⟩
      · have : (acqPM tk sv ow who).nx (.wait t) v = .wait t := if_neg he
        rw [this]
        refine (serve_not W x who sv ow t v none true hB he).mono ?_
        rintro e w' ⟨hu, q, hC⟩
        exact ⟨hu, Came.of_at hC⟩
    · exact ⟨hB, But.refl _ _⟩

/-- A machine that releases a lock. -/
inductive RelT where
  | fresh
  | pass
  | over
def relPM (sv ow : Int) : PM RelT where
  ax := fun
    | .fresh => some (axSt ow 0)
    | .pass => some (axAd sv 1)
    | .over => none
  nx := fun
    | .fresh, _ => .pass
    | .pass, _ => .over
    | .over, _ => .over
def relFl (who sv : Int) : Fl RelT where
  T := 196
  cells := fun t nx => relCells who nx sv
  fol := fun
    | .fresh => .untold 150
    | .pass => .nil
    | .over => .nil
  ok := fun _ => True
theorem rel_laws (sv ow who : Int) : (relFl who sv).Laws (relPM sv ow) Rd.nil who where
  c0 := fun t nx => rfl
  c1 := fun t nx => rfl
  set := fun t nx nx' => rfl
  axok := fun t a _ h => by
    cases t <;> cases h
    · exact axSt_ok _ _ (by omega)
    · exact axAd_ok _ _ (by omega)
  ents := fun t a h => by
    cases t <;> cases h
    · exact ent_pass
    · exact trivial
  ok := fun _ _ _ _ _ _ => trivial
  fol := fun W x t a v _ h hv hB _ _ => by
    cases t <;> cases h
    · refine (pass_any W x who sv none hB).mono ?_
      rintro e w' ⟨hu, q, g, hC⟩
      exact ⟨hu, Came.of_box hC (fun _ h => by cases h) rfl rfl rfl⟩
    · exact ⟨hB, But.refl _ _⟩

theorem lock_fresh (w : World) (c : Nat) (lk who : Int) :
    Calls Tryz.prog 129 #[.pointer (some ⟨c, 0, none⟩), .int .i64 lk, .int .i64 who] w fun e w' => ∃ x L, e = .returned (.pointer (some ⟨x, 0, none⟩)) ∧ ((acqFl who (wd 0 2 3 lk 1) (wd 0 2 3 lk 2)).I (acqPM (wd 0 2 3 lk 0) (wd 0 2 3 lk 1) (wd 0 2 3 lk 2) who)) w' x .fresh L ∧ Below w.heap.size w w' ∧ w.heap.size ≤ x ∧ (∀ k ∈ L, w.heap.size ≤ k) ∧ ∃ a, w'.cell? ⟨x, 1, none⟩ = some (.pointer (some a)) := by
  refine (lock_new w c lk who).mono ?_
  rintro e w' ⟨x, q, rfl, h1, h2, h3, h4, h5, h6⟩
  exact ⟨x, [x, q], rfl, ⟨trivial, q, [q], h1, .told _ h2, by simp; omega, rfl⟩, h3, h4, by intro k hk; simp at hk; omega, _, h1.cell 1 rfl⟩
theorem rel_fresh (w : World) (c : Nat) (lk who : Int) :
    Calls Tryz.prog 147 #[.pointer (some ⟨c, 0, none⟩), .int .i64 lk, .int .i64 who] w fun e w' => ∃ x L, e = .returned (.pointer (some ⟨x, 0, none⟩)) ∧ ((relFl who (wd 0 2 3 lk 1)).I (relPM (wd 0 2 3 lk 1) (wd 0 2 3 lk 2))) w' x .fresh L ∧ Below w.heap.size w w' ∧ w.heap.size ≤ x ∧ (∀ k ∈ L, w.heap.size ≤ k) ∧ ∃ a, w'.cell? ⟨x, 1, none⟩ = some (.pointer (some a)) := by
  refine (rel_new w c lk who).mono ?_
  rintro e w' ⟨x, q, g, rfl, h1, h2, h3, h4, h5, h6, h7, h8, h9⟩
  exact ⟨x, [x, q, g], rfl, ⟨trivial, q, [q, g], h1, .box _ g (fun _ h => by cases h) h2 h3 h9, by simp; omega, rfl⟩, h4, h5, by intro k hk; simp at hk; omega, _, h1.cell 1 rfl⟩

/-- How many rounds a routine may take. -/
def left' (m x : Nat) (w : World) : Nat := match w.cell? ⟨x, 1, none⟩, w.cell? ⟨x, 2, none⟩ with
  | some (.int _ u), some (.bool st) => (m - u.toNat) + (if st = true then 0 else 1)
  | _, _ => 0
theorem RunOn.left {w : World} {x : Nat} {A : Option Addr} {cap m : Nat} {g : Nat → Int} {r : Rn} (h : RunOn w x A cap m g r) : left' m x w = (m - r.used) + (if r.stop = true then 0 else 1) := by
  unfold left'
  rw [h.blk.cell 1 (v := .int .i64 r.used) rfl, h.blk.cell 2 (v := .bool r.stop) rfl]
  simp
/-- A routine that keeps step: how many rounds it may take. -/
theorem rj_left {w : World} {x : Nat} {A : Option Addr} {cap m : Nat} {g : Nat → Int} {σ : Type} {M : PM σ} {s0 t : σ} {j : Nat} {Q : σ → Prop} (h : RunOn w x A cap m g (M.rj s0 g m j)) (hS : Syn M s0 g m j t Q) : left' m x w = m + 1 - j := by
  rw [h.left]
  rw [rj_stop hS]
  by_cases hj : j ≤ m
  · have : (M.rj s0 g m j).used = j := by unfold PM.rj; rw [if_pos hj]
    rw [this]
    simp [show ¬ m < j by omega]
    omega
  · have : (M.rj s0 g m j).used = m := by unfold PM.rj; rw [if_neg hj]; unfold PM.rn; cases M.ax (M.run s0 g m) <;> rfl
    rw [this]
    simp [show m < j by omega]
    omega

/-- A part of a machine that acquires a lock. -/
structure AcqIn {σ : Type} (M : PM σ) (lk who : Int) (emb : AcqT → σ) : Prop where
  f : M.ax (emb .fresh) = some (axAd (3 * lk) 1)
  w : ∀ t, M.ax (emb (.wait t)) = some (axLd (3 * lk + 1))
  h : ∀ t, M.ax (emb (.has t)) = some (axSt (3 * lk + 2) (who + 1))
  nf : ∀ v, M.nx (emb .fresh) v = emb (.wait (turnOf v))
  nw : ∀ t v, M.nx (emb (.wait t)) v = if v = t then emb (.has t) else emb (.wait t)
  nh : ∀ t v, M.nx (emb (.has t)) v = emb (.over t)

set_option maxHeartbeats 2000000 in
theorem syn_acquire {σ : Type} {M : PM σ} {lk who : Int} {emb : AcqT → σ} (hE : AcqIn M lk who emb) (hlk : 0 ≤ lk ∧ lk ≤ 1) (hwho : 0 ≤ who ∧ who ≤ 300)
    {w : World} {x : Nat} {A : Option Addr} {cap m : Nat} {g : Nat → Int} {s0 : σ} {j : Nat} {Q : σ → Prop} (hR : RunOn w x A cap m g (M.rj s0 g m j)) (hS : Syn M s0 g m j (emb .fresh) Q) (hb : ∀ j, j < m → 0 ≤ g j ∧ g j ≤ 18446744073709551615) :
    Calls Tryz.prog 71 #[.pointer (some ⟨x, 0, none⟩), .int .i64 lk, .int .i64 who] w fun e w' => (∃ u, e = .returned u) ∧ ∃ j' t, RunOn w' x A cap m g (M.rj s0 g m j') ∧ Syn M s0 g m j' (emb (.over t)) (fun r => Q r ∨ ∃ p, (∀ t, p ≠ .over t) ∧ r = emb p) ∧ But [x] w w' ∧ j ≤ j' := by
  have hA := syn_add hR hS hb (3 * lk) 1 (fun _ => hE.f)
  have w1' : IntKind.u64.wrap who = who := wrap_u64 (by omega)
  have w2' : IntKind.u64.wrap (who + 1) = who + 1 := wrap_u64 (by omega)
  have HE : Hid (AcqIn M lk who emb) := hE
  have HBD : Hid (∀ j, j < m → 0 ≤ g j ∧ g j ≤ 18446744073709551615) := hb
  have HT : Hid (∀ a : Int, 0 ≤ a ∧ a ≤ 18446744073709551615 → (IntKind.u64.wrap (a + 4294967295)).tmod 4294967296 = turnOf a) := fun a ha => by
    have e1 : IntKind.u64.wrap (a + 4294967295) = (a + 4294967295) % 18446744073709551616 := by simp [IntKind.wrap, IntKind.bits, IntKind.signed]
    rw [e1, Int.tmod_eq_emod_of_nonneg (by omega)]
    unfold turnOf
    omega
  clear hR hS hE hb
  go_enter Tryz.func71, Tryz.ntmps71
  go_wp2_with fail
  go_at_call 74; refine hA.mono ?_; rintro e w2 ⟨a, rfl, hK⟩
  have HR2 : Hid (RunOn w2 x A cap m g (M.rj s0 g m (j + 1))) := hK.run
  have HS2 : Hid (Syn M s0 g m (j + 1) (emb (.wait (turnOf a))) (fun r => Q r ∨ ∃ p, (∀ t, p ≠ .over t) ∧ r = emb p)) := by
    have := hK.syn
    rw [HE.out.nf] at this
    exact this.weak (fun r hr => by rcases hr with rfl | hr; exact .inr ⟨_, (fun t h => by cases h), rfl⟩; exact .inl hr)
  have HB2 : Hid (But [x] w w2) := hK.but
  have ht := HT.out a hK.bd
  generalize hz : IntKind.u64.wrap (a + 4294967295) = z at *
  have hzb : 0 ≤ z := by
    have e1 : IntKind.u64.wrap (a + 4294967295) = (a + 4294967295) % 18446744073709551616 := by simp [IntKind.wrap, IntKind.bits, IntKind.signed]
    rw [← hz, e1]; omega
  have hzc : z.tmod 4294967296 = turnOf a := ht
  generalize turnOf a = t at *
  clear hA hK ht HT
  go_wp2_with fail
  go_loopw [18] (fun _ wr => ∃ (k : Nat), Hid (RunOn wr x A cap m g (M.rj s0 g m k)) ∧ Hid (Syn M s0 g m k (emb (.wait t)) (fun r => Q r ∨ ∃ p, (∀ t, p ≠ .over t) ∧ r = emb p)) ∧ Hid (But [x] w wr) ∧ Hid (j ≤ k)) (fun _ wr => left' m x wr)
  case atStart => exact ⟨j + 1, HR2, HS2, HB2, (Nat.le_succ j : j ≤ j + 1)⟩
  case round =>
    clear HR2 HS2 HB2
    obtain ⟨k, HR, HS, HB, HJ⟩ := hrel
    have c2 := HR.out.blk.cell 2 (v := .bool (M.rj s0 g m k).stop) rfl
    rw [rj_stop HS.out] at c2
    by_cases hk : m < k
    · rw [decide_eq_true hk] at c2
      have HX : Hid (m < k) := hk
      clear hk
      go_wp2_with fail
      go_ret
      exact ⟨⟨_, rfl⟩, k, t, HR.out, HS.out.as (fun h => absurd HX.out (by omega)), HB.out, HJ.out⟩
    · rw [decide_eq_false hk] at c2
      have HX : Hid (k ≤ m) := (by omega : k ≤ m)
      have hL := syn_load HR.out HS.out HBD.out (3 * lk + 1) (fun _ => HE.out.w t)
      have HLF : Hid (left' m x wr = m + 1 - k) := rj_left HR.out HS.out
      clear hk
      go_wp2_with fail
      go_at_call 44; refine hL.mono ?_; rintro e w3 ⟨v, rfl, hK⟩
      have HR3 : Hid (RunOn w3 x A cap m g (M.rj s0 g m (k + 1))) := hK.run
      have HS3 : Hid (Syn M s0 g m (k + 1) (if v = t then emb (.has t) else emb (.wait t)) (fun r => Q r ∨ ∃ p, (∀ t, p ≠ .over t) ∧ r = emb p)) := by
        have := hK.syn
        rw [HE.out.nw] at this
        exact this.weak (fun r hr => by rcases hr with rfl | hr; exact .inr ⟨_, (fun t h => by cases h), rfl⟩; exact hr)
      have HB3 : Hid (But [x] w w3) := HB.out.trans hK.but
      have k2 := HR3.out.blk.cell 2 (v := .bool (M.rj s0 g m (k + 1)).stop) rfl
      rw [rj_stop HS3.out] at k2
      clear hL hK c2 HR HS HB
      by_cases hv : v = t
      · subst hv
        have HS4 : Hid (Syn M s0 g m (k + 1) (emb (.has v)) (fun r => Q r ∨ ∃ p, (∀ t, p ≠ .over t) ∧ r = emb p)) := by have := HS3.out; rw [if_pos rfl] at this; exact this
        by_cases hm : m < k + 1
        · rw [decide_eq_true hm] at k2
          have HX2 : Hid (m < k + 1) := hm
          clear hm HS3
          go_wp2_with fail
          go_roundw
          case rel => exact ⟨k + 1, HR3, HS4.out.as (fun h => absurd HX2.out (by omega)), HB3, (Nat.le_succ_of_le HJ.out : j ≤ k + 1)⟩
          case measure => have hx := HX.out; rw [rj_left HR3.out HS4.out, HLF.out]; omega
        · rw [decide_eq_false hm] at k2
          have hSt := syn_store HR3.out HS4.out HBD.out (3 * lk + 2) (who + 1) (fun _ => HE.out.h v)
          clear hm HS3
          go_wp2_with fail
          go_at_call 69; refine hSt.mono ?_; rintro e w4 ⟨⟨u, rfl⟩, v4, hK⟩
          have HF : Hid (RunOn w4 x A cap m g (M.rj s0 g m (k + 1 + 1)) ∧ Syn M s0 g m (k + 1 + 1) (emb (.over v)) (fun r => Q r ∨ ∃ p, (∀ t, p ≠ .over t) ∧ r = emb p) ∧ But [x] w w4) := by
            refine ⟨hK.run, ?_, HB3.out.trans hK.but⟩
            have := hK.syn
            rw [HE.out.nh] at this
            exact this.weak (fun r hr => by rcases hr with rfl | hr; exact .inr ⟨_, (fun t h => by cases h), rfl⟩; exact hr)
          clear hSt hK k2
          go_wp2_with fail
          go_ret
          exact ⟨⟨_, rfl⟩, k + 1 + 1, v, HF.out.1, HF.out.2.1, HF.out.2.2, by have := HJ.out; omega⟩
      · have hd : decide (v = t) = false := decide_eq_false hv
        have HS4 : Hid (Syn M s0 g m (k + 1) (emb (.wait t)) (fun r => Q r ∨ ∃ p, (∀ t, p ≠ .over t) ∧ r = emb p)) := by have := HS3.out; rw [if_neg hv] at this; exact this
        generalize decide (m < k + 1) = zz at k2
        clear HS3
        go_wp2_with fail
        go_roundw
        case rel => exact ⟨k + 1, HR3, HS4, HB3, (Nat.le_succ_of_le HJ.out : j ≤ k + 1)⟩
        case measure => have hx := HX.out; rw [rj_left HR3.out HS4.out, HLF.out]; omega

/-- A part of a machine that releases a lock. -/
structure RelIn {σ : Type} (M : PM σ) (lk : Int) (emb : RelT → σ) : Prop where
  f : M.ax (emb .fresh) = some (axSt (3 * lk + 2) 0)
  p : M.ax (emb .pass) = some (axAd (3 * lk + 1) 1)
  nf : ∀ v, M.nx (emb .fresh) v = emb .pass
  np : ∀ v, M.nx (emb .pass) v = emb .over
theorem syn_release {σ : Type} {M : PM σ} {lk : Int} {emb : RelT → σ} (hE : RelIn M lk emb) (hlk : 0 ≤ lk ∧ lk ≤ 1)
    {w : World} {x : Nat} {A : Option Addr} {cap m : Nat} {g : Nat → Int} {s0 : σ} {j : Nat} {Q : σ → Prop} (hR : RunOn w x A cap m g (M.rj s0 g m j)) (hS : Syn M s0 g m j (emb .fresh) Q) (hb : ∀ j, j < m → 0 ≤ g j ∧ g j ≤ 18446744073709551615) :
    Calls Tryz.prog 72 #[.pointer (some ⟨x, 0, none⟩), .int .i64 lk] w fun e w' => (∃ u, e = .returned u) ∧ ∃ j', RunOn w' x A cap m g (M.rj s0 g m j') ∧ Syn M s0 g m j' (emb .over) (fun r => Q r ∨ r = emb .fresh ∨ r = emb .pass) ∧ But [x] w w' ∧ j ≤ j' := by
  have hA := syn_store hR hS hb (3 * lk + 2) 0 (fun _ => hE.f)
  have HE : Hid (RelIn M lk emb) := hE
  have HBD : Hid (∀ j, j < m → 0 ≤ g j ∧ g j ≤ 18446744073709551615) := hb
  clear hR hS hE hb
  go_enter Tryz.func72, Tryz.ntmps72
  go_wp2_with fail
  go_at_call 69; refine hA.mono ?_; rintro e w2 ⟨⟨u, rfl⟩, v2, hK⟩
  have hS2 := hK.syn
  rw [HE.out.nf] at hS2
  have hA2 := syn_add hK.run hS2 HBD.out (3 * lk + 1) 1 (fun _ => HE.out.p)
  have HB2 : Hid (But [x] w w2) := hK.but
  clear hA hK hS2
  go_wp2_with fail
  go_at_call 74; refine hA2.mono ?_; rintro e w3 ⟨v3, rfl, hK⟩
  have HF : Hid (RunOn w3 x A cap m g (M.rj s0 g m (j + 1 + 1)) ∧ Syn M s0 g m (j + 1 + 1) (emb .over) (fun r => Q r ∨ r = emb .fresh ∨ r = emb .pass) ∧ But [x] w w3) := by
    refine ⟨hK.run, ?_, HB2.out.trans hK.but⟩
    have := hK.syn
    rw [HE.out.np] at this
    exact this.weak (fun r hr => by rcases hr with rfl | rfl | hr; exact .inr (.inr rfl); exact .inr (.inl rfl); exact .inl hr)
  clear hA2 hK
  go_wp2_with fail
  go_end0
  exact ⟨⟨_, rfl⟩, j + 1 + 1, HF.out.1, HF.out.2.1, HF.out.2.2, by omega⟩
end Go.Proofs.YthjfbknmdligeaaGreat

namespace Go.Proofs.YthjfbknmdligeaaGreat
open Go Go.RowKit
set_option linter.unusedVariables false
set_option maxRecDepth 100000
set_option linter.unusedSimpArgs false


theorem glob_word (w : World) (c : Nat) : Calls Tryz.prog 84 #[.pointer (some ⟨c, 0, none⟩), .int .i64 16] w fun e w' => e = .returned (.int .i64 16) ∧ w = w' := by
  go_enter Tryz.func84, Tryz.ntmps84
  go_wp2_with fail
  go_ret
  exact ⟨rfl, rfl⟩

end Go.Proofs.YthjfbknmdligeaaGreat

namespace Go.Proofs.YthjfbknmdligeaaGreat
open Go Go.RowKit
set_option linter.unusedVariables false
set_option maxRecDepth 100000
set_option linter.unusedSimpArgs false


/-- A release that is to be run. -/
structure RelM (w : World) (x q g : Nat) (who sv ow : Int) : Prop where
  m : Blk w x (relCells who (some ⟨q, 0, none⟩) sv) 196
  com : Blk w q (comCells 2 0 ow 0 0 false .nilIface (.func (.func 110) #[] #[.pointer (some ⟨g, 0, none⟩)]) false false) 148
  box : Blk w g #[.func (.func 150) #[.pointer (some ⟨x, 0, none⟩)] #[]] 1
  o1 : x < q
  o2 : x < g
  ne : g ≠ q
/-- An acquire that is to be run. -/
structure AcqM (w : World) (x q : Nat) (who tk sv ow : Int) : Prop where
  m : Blk w x (acqCells who (some ⟨q, 0, none⟩) sv ow 0 false) 188
  com : Blk w q (comCells 4 0 tk 0 1 false .nilIface (.func (.func 137) #[.pointer (some ⟨x, 0, none⟩)] #[]) false false) 148
  o1 : x < q
theorem RelM.but {w w' : World} {x q g c : Nat} {who sv ow : Int} (h : RelM w x q g who sv ow) (hb : But [c] w w') (h1 : c < x) : RelM w' x q g who sv ow :=
  ⟨h.m.but hb (by simp; omega), h.com.but hb (by have := h.o1; simp; omega), h.box.but hb (by have := h.o2; simp; omega), h.o1, h.o2, h.ne⟩
theorem AcqM.but {w w' : World} {x q c : Nat} {who tk sv ow : Int} (h : AcqM w x q who tk sv ow) (hb : But [c] w w') (h1 : c < x) : AcqM w' x q who tk sv ow :=
  ⟨h.m.but hb (by simp; omega), h.com.but hb (by have := h.o1; simp; omega), h.o1⟩
theorem CameBox.before {a w w' : World} {c q g : Nat} {cs : Array Value} {com : Value → Array Value} {fv : Value} {T : TypeId} (h : CameBox w w' c cs T com fv q g) (hb : But [c] a w) : CameBox a w' c cs T com fv q g :=
  ⟨⟨Nat.le_trans hb.size h.at'.fresh, h.at'.own, h.at'.com, hb.trans h.at'.but⟩, Nat.le_trans hb.size h.fresh, h.box, h.ne⟩

end Go.Proofs.YthjfbknmdligeaaGreat

namespace Go.Proofs.YthjfbknmdligeaaGreat
open Go Go.RowKit
set_option linter.unusedVariables false
set_option maxRecDepth 100000
set_option linter.unusedSimpArgs false


def putCells (who : Int) (nx : Option Addr) (c : Nat) (g : Int) : Array Value := #[.int .i64 who, .pointer nx, .pointer (some ⟨c, 0, none⟩), .int .i64 g]

end Go.Proofs.YthjfbknmdligeaaGreat

namespace Go.Proofs.YthjfbknmdligeaaGreat
open Go Go.RowKit
set_option linter.unusedVariables false
set_option maxRecDepth 100000
set_option linter.unusedSimpArgs false


def getCells (who : Int) (nx : Option Addr) (c : Nat) (g : Int) (got : Bool) : Array Value := #[.int .i64 who, .pointer nx, .pointer (some ⟨c, 0, none⟩), .int .i64 g, .bool got]

theorem glob_word17 (w : World) (c : Nat) : Calls Tryz.prog 84 #[.pointer (some ⟨c, 0, none⟩), .int .i64 17] w fun e w' => e = .returned (.int .i64 17) ∧ w = w' := by
  go_enter Tryz.func84, Tryz.ntmps84
  go_wp2_with fail
  go_ret
  exact ⟨rfl, rfl⟩

end Go.Proofs.YthjfbknmdligeaaGreat

namespace Go.Proofs.YthjfbknmdligeaaGreat
open Go Go.RowKit
set_option linter.unusedVariables false
set_option maxRecDepth 100000
set_option linter.unusedSimpArgs false


end Go.Proofs.YthjfbknmdligeaaGreat

namespace Go.Proofs.YthjfbknmdligeaaGreat
open Go Go.RowKit
set_option linter.unusedVariables false
set_option maxRecDepth 100000
set_option linter.unusedSimpArgs false


end Go.Proofs.YthjfbknmdligeaaGreat

namespace Go.Proofs.YthjfbknmdligeaaGreat
open Go Go.RowKit
set_option linter.unusedVariables false
set_option maxRecDepth 100000
set_option linter.unusedSimpArgs false


end Go.Proofs.YthjfbknmdligeaaGreat

namespace Go.Proofs.YthjfbknmdligeaaGreat
open Go Go.RowKit
set_option linter.unusedVariables false
set_option maxRecDepth 100000
set_option linter.unusedSimpArgs false

def acqSub (tk sv ow who : Int) : Sub := ⟨AcqT, acqPM tk sv ow who, (acqFl who sv ow).I (acqPM tk sv ow who), Rd.nil, 185, 244⟩
def relSub (sv ow who : Int) : Sub := ⟨RelT, relPM sv ow, (relFl who sv).I (relPM sv ow), Rd.nil, 191, 246⟩
theorem acqSub_ok (tk sv ow who : Int) (hw : 0 ≤ who ∧ who ≤ 1000000) (R : Rd) : Steps (acqPM tk sv ow who) ((acqFl who sv ow).I (acqPM tk sv ow who)) Rd.nil 244 who ∧ MI.Good ((acqFl who sv ow).I (acqPM tk sv ow who)) (acqPM tk sv ow who) ∧ ActRun 185 244 ∧ (∀ w, R.P w → Rd.nil.P w) ∧ (∀ k ∈ Rd.nil.B, k ∈ R.B) :=
  ⟨Fl.steps (acq_laws _ _ _ who hw) stepby_acq, Fl.good (acq_laws _ _ _ who hw), act_acq, fun _ _ => trivial, fun k hk => by cases hk⟩
theorem relSub_ok (sv ow who : Int) (R : Rd) : Steps (relPM sv ow) ((relFl who sv).I (relPM sv ow)) Rd.nil 246 who ∧ MI.Good ((relFl who sv).I (relPM sv ow)) (relPM sv ow) ∧ ActRun 191 246 ∧ (∀ w, R.P w → Rd.nil.P w) ∧ (∀ k ∈ Rd.nil.B, k ∈ R.B) :=
  ⟨Fl.steps (rel_laws _ _ who) stepby_rel, Fl.good (rel_laws _ _ who), act_rel, fun _ _ => trivial, fun k hk => by cases hk⟩
theorem acqSub_at {w : World} {y q : Nat} {tk sv ow who : Int} (h : AcqM w y q who tk sv ow) : ((acqFl who sv ow).I (acqPM tk sv ow who)) w y AcqT.fresh [y, q] :=
  ⟨trivial, q, [q], h.m, .told _ h.com, by have := h.o1; simp; omega, rfl⟩
theorem relSub_at {w : World} {y q g : Nat} {sv ow who : Int} (h : RelM w y q g who sv ow) : ((relFl who sv).I (relPM sv ow)) w y RelT.fresh [y, q, g] :=
  ⟨trivial, q, [q, g], h.m, .box _ g (fun _ h => by cases h) h.com h.box h.ne, by have := h.o1; have := h.o2; simp; omega, rfl⟩

/-- Getting a lock, and what is so behind it. -/
def AcqT.goes {σ : Type} (f : AcqT → σ) (e : σ) : AcqT → σ
  | .over _ => e
  | p => f p

/-- The machine that gives a goroutine back; gl is the place of its GLink. -/
inductive GpT where
  | acq (p : AcqT)
  | ld
  | ln (f : Int)
  | st
  | rel (p : RelT)
def gpPM (who g gl : Int) : PM GpT where
  ax := fun
    | .acq p => (acqPM 3 4 5 who).ax p
    | .ld => some (axLd 16)
    | .ln f => some (axSt gl f)
    | .st => some (axSt 16 (g + 1))
    | .rel p => (relPM 4 5).ax p
  nx := fun
    | .acq p, v => ((acqPM 3 4 5 who).nx p v).goes .acq .ld
    | .ld, v => .ln v
    | .ln _, _ => .st
    | .st, _ => .rel .fresh
    | .rel p, v => .rel ((relPM 4 5).nx p v)
def AcqT.Live : AcqT → Prop
  | .over _ => False
  | _ => True
theorem acq_nx_live {who v : Int} (p : AcqT) (h : ((acqPM 3 4 5 who).ax ((acqPM 3 4 5 who).nx p v)).isSome = true) : ((acqPM 3 4 5 who).nx p v).Live := by
  cases hp : (acqPM 3 4 5 who).nx p v with
  | over t => rw [hp] at h; cases h
  | fresh => trivial
  | wait t => trivial
  | has t => trivial
theorem acq_then_live {σ : Type} {f : AcqT → σ} {e : σ} : ∀ (p : AcqT), p.Live → p.goes f e = f p
  | .fresh, _ => rfl
  | .wait _, _ => rfl
  | .has _, _ => rfl
theorem acq_then_over {σ : Type} {f : AcqT → σ} {e : σ} {who : Int} : ∀ (p : AcqT), (acqPM 3 4 5 who).ax p = none → p.goes f e = e
  | .fresh, h => by cases h
  | .wait _, h => by cases h
  | .has _, h => by cases h
  | .over _, _ => rfl
theorem acq_live_some {who : Int} : ∀ (p : AcqT), p.Live → ((acqPM 3 4 5 who).ax p).isSome = true
  | .fresh, _ => rfl
  | .wait _, _ => rfl
  | .has _, _ => rfl
end Go.Proofs.YthjfbknmdligeaaGreat

namespace Go.Proofs.YthjfbknmdligeaaGreat
open Go Go.RowKit
set_option linter.unusedVariables false
set_option maxRecDepth 100000
set_option linter.unusedSimpArgs false

/-- A machine was made, and runs. -/
def RunNew (S : Sub) (pt : S.τ) (W w' : World) (x : Nat) (cs : Array Value) (T : TypeId) (fv : Value) : Prop := ∃ y q b L, CameBox W w' x cs T (fun v => comCells 0 0 0 0 0 false (.iface S.D (.pointer (some ⟨y, 0, none⟩))) v false false) fv q b ∧ S.I w' y pt L ∧ (∀ k ∈ L, W.heap.size ≤ k) ∧ q ∉ L ∧ b ∉ L
theorem RunNew.mk {S : Sub} {pt : S.τ} {W w4 w5 : World} {x y q b : Nat} {L : List Nat} {cs : Array Value} {T : TypeId} {fv : Value} (hG : S.I.Good S.M) (hI : S.I w4 y pt L) (hL : ∀ k ∈ L, W.heap.size ≤ k) (hx : x < W.heap.size) (hB : But [x] W w4) (hC : CameBox w4 w5 x cs T (fun v => comCells 0 0 0 0 0 false (.iface S.D (.pointer (some ⟨y, 0, none⟩))) v false false) fv q b) : RunNew S pt W w5 x cs T fv := by
  have hlt := hG.lt hI
  refine ⟨y, q, b, L, hC.before hB, hG.keep hI hC.at'.but (fun k hk => ?_), hL, fun hm => ?_, fun hm => ?_⟩
  · have := hL k hk; simp; omega
  · have := hlt q hm; have := hC.at'.fresh; omega
  · have := hlt b hm; have := hC.fresh; omega

theorem RunNew.before {S : Sub} {pt : S.τ} {a W w' : World} {x : Nat} {cs : Array Value} {T : TypeId} {fv : Value} (h : RunNew S pt W w' x cs T fv) (hb : But [x] a W) : RunNew S pt a w' x cs T fv := by
  obtain ⟨y, q, b, L, h1, h2, h3, h4, h5⟩ := h
  exact ⟨y, q, b, L, h1.before hb, h2, fun k hk => Nat.le_trans hb.size (h3 k hk), h4, h5⟩
theorem ws_notmem {l : List Nat} {x k : Nat} (h : x ∉ l) (hk : k ∈ l) : k ∉ [x] := fun hm => h ((List.mem_singleton.1 hm) ▸ hk)
theorem RunNew.but {S : Sub} {pt : S.τ} {W w' : World} {x : Nat} {cs : Array Value} {T : TypeId} {fv : Value} (h : RunNew S pt W w' x cs T fv) : But [x] W w' := by
  obtain ⟨y, q, b, L, h1, -⟩ := h
  exact h1.at'.but
theorem Came.but {W w' : World} {x : Nat} {cs : Array Value} {T : TypeId} {a : Ax} {f : Fol} (h : Came W w' x cs T a f) : But [x] W w' := by
  obtain ⟨_, _, _, _, h, _⟩ := h
  exact h
end Go.Proofs.YthjfbknmdligeaaGreat

namespace Go.Proofs.YthjfbknmdligeaaGreat
open Go Go.RowKit
set_option linter.unusedVariables false
set_option maxRecDepth 100000
set_option linter.unusedSimpArgs false

section
variable {σ : Type} {C : Cp σ} {W w' : World} {x : Nat} {s : σ} {es Le Le' : List Nat}
theorem Cp.lnd_acc {a : Ax} {f : Fol} (h : Came W w' x (C.cells s es none) C.T a f) (hset : ∀ nx, (C.cells s es none).setIfInBounds 1 (.pointer nx) = C.cells s es nx) (hok : C.ok s) (hk : C.kind s = .acc a f) (hx : x < W.heap.size) (he : C.ext s es w' Le') (hxe : x ∉ Le') (hle : ∀ k ∈ Le', k ∈ Le ∧ k < W.heap.size) : C.Land W w' x s Le := by
  obtain ⟨q, Lc, c1, c2, c3, c4⟩ := h
  rw [hset] at c1
  refine ⟨c3, x :: (Lc ++ Le'), ⟨hok, es, Le', he, hxe, ?_⟩, fun k hm => by simp at hm; rcases hm with rfl | hm | hm; exact .inl rfl; exact .inr (.inr (c4 k hm)); exact .inr (.inl (hle k hm).1)⟩
  rw [hk]
  exact ⟨q, Lc, c1, c2, fun hm => absurd (c4 x hm) (by omega), (fun k hm h => by have := c4 k hm; have := (hle k h).2; omega), rfl⟩
theorem Cp.lnd_over (h : Blk w' x (C.cells s es none) C.T) (hb : But [x] W w') (hok : C.ok s) (hk : C.kind s = .over) (he : C.ext s es w' Le') (hxe : x ∉ Le') (hle : ∀ k ∈ Le', k ∈ Le) : C.Land W w' x s Le := by
  refine ⟨hb, x :: Le', ⟨hok, es, Le', he, hxe, ?_⟩, fun k hm => by simp at hm; rcases hm with rfl | hm; exact .inl rfl; exact .inr (.inl (hle k hm))⟩
  rw [hk]
  exact ⟨h, rfl⟩
theorem Cp.lnd_run1 {S : Sub} {af : After} {pt : S.τ} {y q b : Nat} {L : List Nat} (hC : CameBox W w' x (C.cells s es none) C.T (fun v => comCells 0 0 0 0 0 false (.iface S.D (.pointer (some ⟨y, 0, none⟩))) v false false) (af.fol.box x) q b) (hset : ∀ nx, (C.cells s es none).setIfInBounds 1 (.pointer nx) = C.cells s es nx) (hM : S.I w' y pt L) (hL : ∀ k ∈ L, W.heap.size ≤ k) (hq : q ∉ L) (hg : b ∉ L) (hok : C.ok s) (hk : C.kind s = .run S pt af) (htie : C.tie s es y) (hx : x < W.heap.size) (he : C.ext s es w' Le') (hxe : x ∉ Le') (hle : ∀ k ∈ Le', k ∈ Le ∨ W.heap.size ≤ k) (hd : ∀ k ∈ q :: b :: L, k ∉ Le') : C.Land W w' x s Le := by
  have hfq := hC.at'.fresh
  have hfb := hC.fresh
  refine ⟨hC.at'.but, x :: q :: b :: (L ++ Le'), ⟨hok, es, Le', he, hxe, ?_⟩, fun k hm => ?_⟩
  · rw [hk]
    refine ⟨q, y, b, L, RunAt.of hC hset, hM, htie, ?_, hq, hg, hd, rfl⟩
    simp only [List.mem_cons, not_or]
    exact ⟨by omega, by omega, fun hm => by have := hL x hm; omega⟩
  · simp only [List.mem_cons, List.mem_append] at hm
    rcases hm with rfl | rfl | rfl | hm | hm
    · exact .inl rfl
    · exact .inr (.inr hfq)
    · exact .inr (.inr hfb)
    · exact .inr (.inr (hL k hm))
    · rcases hle k hm with h | h
      · exact .inr (.inl h)
      · exact .inr (.inr h)
theorem Cp.lnd_run0 {S : Sub} {af : After} {pt : S.τ} {y q b : Nat} {L : List Nat} (hC : CameBox W w' x (C.cells s es none) C.T (fun v => comCells 0 0 0 0 0 false (.iface S.D (.pointer (some ⟨y, 0, none⟩))) v false false) (af.fol.box x) q b) (hset : ∀ nx, (C.cells s es none).setIfInBounds 1 (.pointer nx) = C.cells s es nx) (hM : S.I w' y pt L) (hL : ∀ k ∈ L, W.heap.size ≤ k) (hq : q ∉ L) (hg : b ∉ L) (hok : C.ok s) (hk : C.kind s = .run S pt af) (htie : C.tie s es y) (hx : x < W.heap.size) (he : C.ext s es w' Le') (hxe : x ∉ Le') (hle : ∀ k ∈ Le', k ∈ Le ∧ k < W.heap.size) : C.Land W w' x s Le := by
  have hfq := hC.at'.fresh
  have hfb := hC.fresh
  refine Cp.lnd_run1 hC hset hM hL hq hg hok hk htie hx he hxe (fun k hm => .inl (hle k hm).1) (fun k hm hk' => ?_)
  simp only [List.mem_cons] at hm
  have h1 := (hle k hk').2
  rcases hm with rfl | rfl | hm
  · omega
  · omega
  · have := hL k hm; omega
theorem Cp.lnd_run {S : Sub} {af : After} {pt : S.τ} (hR : RunNew S pt W w' x (C.cells s es none) C.T (af.fol.box x)) (hset : ∀ nx, (C.cells s es none).setIfInBounds 1 (.pointer nx) = C.cells s es nx) (hok : C.ok s) (hk : C.kind s = .run S pt af) (htie : ∀ y, C.tie s es y) (hx : x < W.heap.size) (he : C.ext s es w' Le') (hxe : x ∉ Le') (hle : ∀ k ∈ Le', k ∈ Le ∧ k < W.heap.size) : C.Land W w' x s Le := by
  obtain ⟨y, q, b, L, hC, hM, hL, hq, hg⟩ := hR
  exact Cp.lnd_run0 hC hset hM hL hq hg hok hk (htie y) hx he hxe hle
theorem Cp.blk' {w : World} {L : List Nat} (h : C.Here w x s es Le L (C.kind s)) : ∃ nx, Blk w x (C.cells s es nx) C.T := by
  cases hk : C.kind s with
  | over => rw [hk] at h; exact ⟨none, h.1⟩
  | acc a f => rw [hk] at h; obtain ⟨q, Lc, h1, -⟩ := h; exact ⟨_, h1⟩
  | run S q af => rw [hk] at h; obtain ⟨q1, y, g, Li, h1, -⟩ := h; exact ⟨_, h1.hx⟩
end
theorem folC_sw {W : World} {x K : Nat} {v : Int} {M : World → Prop} (b : Bool) (hb : decide (v ≠ 0) = b) (h : Calls Tryz.prog K #[.pointer (some ⟨x, 0, none⟩), .bool b] W fun e w' => (∃ u, e = .returned u) ∧ M w') : FolC W x (.swap K) v M := by
  subst hb; exact h
/-- A machine within it: its ax where it goes on, and what is so where it is over. -/
theorem nx_on {α : Type} {o : Option Ax} {a b : α} (h : o.isSome = true) : (if o.isSome = true then a else b) = a := if_pos h
theorem nx_off {α : Type} {o : Option Ax} {a b : α} (h : o = none) : (if o.isSome = true then a else b) = b := if_neg (by rw [h]; simp)
end Go.Proofs.YthjfbknmdligeaaGreat

namespace Go.Proofs.YthjfbknmdligeaaGreat
open Go Go.RowKit
set_option linter.unusedVariables false
set_option maxRecDepth 100000
set_option linter.unusedSimpArgs false

def igCells (who : Int) (nx : Option Addr) (cl : Nat) (p : Int) (n : Int) (z : Bool) : Array Value := #[.int .i64 who, .pointer nx, .pointer (some ⟨cl, 0, none⟩), .int .i64 p, .int .u64 n, .bool z]
inductive IgT where
  | ld
  | lk (y : Int)
  | ms (y l : Int)
  | um (y l w : Int)
  | un (y l : Int)
  | ct (y l : Int)
  | none'
  | over (y l : Int)
def igPM (P : Int) : PM IgT where
  ax := fun
    | .ld => some (axLd 9)
    | .lk y => some (axLd (wd 20 P 264 y 7))
    | .ms _ _ => some (axLd 19)
    | .um y _ w => some (axSt 19 (mskOut w y))
    | .un _ l => some (axSt 9 l)
    | .ct _ _ => some (axAd 10 4294967295)
    | .none' => none
    | .over _ _ => none
  nx := fun
    | .ld, v => if v = 0 then .none' else .lk (gw v)
    | .lk y, v => .ms y v
    | .ms y l, v => .um y l v
    | .um y l _, _ => .un y l
    | .un y l, _ => .ct y l
    | .ct y l, _ => .over y l
    | t, _ => t
def IgT.p : IgT → Int
  | .lk y => y
  | .ms y _ => y
  | .um y _ _ => y
  | .un y _ => y
  | .ct y _ => y
  | .over y _ => y
  | _ => 0
def IgT.l : IgT → Int
  | .ms _ l => l
  | .um _ l _ => l
  | .un _ l => l
  | .ct _ l => l
  | .over _ l => l
  | _ => 0
def IgT.z : IgT → Bool
  | .ct _ _ => true
  | .over _ _ => true
  | _ => false
/-- Which one was got. -/
def IgT.obs (t : IgT) : Int := if t.z then t.p else -1
end Go.Proofs.YthjfbknmdligeaaGreat

namespace Go.Proofs.YthjfbknmdligeaaGreat
open Go Go.RowKit
set_option linter.unusedVariables false
set_option maxRecDepth 100000
set_option linter.unusedSimpArgs false

/-- A machine that wakes a thread. -/
inductive NwT where
  | fresh
  | over
def nwPM (at' : Int) : PM NwT where
  ax := fun
    | .fresh => some (axSt at' 1)
    | .over => none
  nx := fun _ _ => .over
def nwCells (who : Int) (nx : Option Addr) (nt : Int) : Array Value := #[.int .i64 who, .pointer nx, .int .i64 nt]
def nwFl (who nt : Int) : Fl NwT where
  T := 215
  cells := fun _ nx => nwCells who nx nt
  fol := fun _ => .nil
  ok := fun _ => True
theorem nw_laws (who nt : Int) : (nwFl who nt).Laws (nwPM nt) Rd.nil who where
  c0 := fun t nx => rfl
  c1 := fun t nx => rfl
  set := fun t nx nx' => rfl
  axok := fun t a _ h => by
    cases t <;> cases h
    exact axSt_ok _ _ (by omega)
  ents := fun t a h => trivial
  ok := fun _ _ _ _ _ _ => trivial
  fol := fun W x t a v _ h hv hB _ _ => by
    cases t <;> cases h
    exact ⟨hB, But.refl _ _⟩
def nwSub (nt who : Int) : Sub := ⟨NwT, nwPM nt, (nwFl who nt).I (nwPM nt), Rd.nil, 210, 248⟩
theorem nwSub_ok (nt who : Int) (R : Rd) : Steps (nwPM nt) ((nwFl who nt).I (nwPM nt)) Rd.nil 248 who ∧ MI.Good ((nwFl who nt).I (nwPM nt)) (nwPM nt) ∧ ActRun 210 248 ∧ (∀ w, R.P w → Rd.nil.P w) ∧ (∀ k ∈ Rd.nil.B, k ∈ R.B) :=
  ⟨Fl.steps (nw_laws who nt) stepby_nwk, Fl.good (nw_laws who nt), act_nwk, fun _ _ => trivial, fun k hk => by cases hk⟩
theorem nw_of (w : World) (x cl : Nat) (who t P T G : Int) (h : Blk w x (nwCells 0 none 0) 215) (hl : Lay w cl P T G) (hp : 0 ≤ P ∧ P ≤ 64) (hT : 0 ≤ T ∧ T ≤ 65536) (hxc : cl ≠ x) :
    Calls Tryz.prog 204 #[.pointer (some ⟨x, 0, none⟩), .pointer (some ⟨cl, 0, none⟩), .int .i64 t, .int .i64 who] w fun e w' => (∃ v, e = .returned v) ∧ Blk w' x (nwCells who none (wd (20 + P * 264) T 3 t 0)) 215 ∧ But [x] w w' := by
  have hF := fof_any w x _ 215 who h (by simp [nwCells])
  have HH : Hid (Blk w x (nwCells 0 none 0) 215) := h
  have hlx := h.lt
  obtain ⟨W, hW⟩ : ∃ W, w.setCell ⟨x, 0, none⟩ (.int .i64 who) = W := ⟨_, rfl⟩
  have HB1 : Hid (But [x] w W) := by rw [← hW]; exact (But.refl _ w).set (g := x) (.inl (by simp)) 0 _
  have HX1 : Hid (Blk W x (nwCells who none 0) 215) := by rw [← hW]; exact h.set 0 (.int .i64 who)
  have hl1 : Lay W cl P T G := (HB1.out.block cl hl.lt (by simpa using hxc)).trans hl
  have hT1 := lthr_any _ P T G t 0 W (.some cl hl1) hp hT
  generalize wd (20 + P * 264) T 3 t 0 = nt at *
  clear h hl hl1 hp hT hxc
  go_enter Tryz.func204, Tryz.ntmps204
  go_wp2_with fail
  go_at_call 38; refine hF.mono ?_; rintro e w3 ⟨⟨v, rfl⟩, hw3⟩
  obtain rfl : w3 = W := hw3.trans hW
  clear hF hw3 hW
  go_wp2_with fail
  go_at_call 30; refine hT1.mono ?_; rintro e w4 ⟨rfl, hb4⟩
  have HX4 : Hid (Blk w4 x (nwCells who none 0) 215) := HX1.out.but (But.of_below (l := []) hb4) (by simp)
  have HB4 : Hid (But [x] w w4) := HB1.out.trans (But.of_below hb4)
  have c2 := HX4.out.cell 2 (v := .int .i64 0) rfl
  have f2 := HX4.out.fro 2
  have HX5 : Hid (Blk (w4.setCell ⟨x, 2, none⟩ (.int .i64 nt)) x (nwCells who none nt) 215) := HX4.out.set 2 _
  have HB5 : Hid (But [x] w (w4.setCell ⟨x, 2, none⟩ (.int .i64 nt))) := HB4.out.set (g := x) (.inl (by simp)) 2 _
  clear hT1 hb4 HX1 HB1 HX4 HB4 HH
  go_wp2_with fail
  go_end0
  exact ⟨⟨_, rfl⟩, HX5.out, HB5.out⟩
theorem nw_put (w : World) (x : Nat) (who nt u : Int) (nx : Option Addr) (h : Blk w x (nwCells who nx nt) 215) :
    Calls Tryz.prog 205 #[.pointer (some ⟨x, 0, none⟩), .int .u64 u] w fun e w' => (∃ v, e = .returned v) ∧ Came w w' x (nwCells who nx nt) 215 (axSt nt u) .nil := by
  have H := came_store_nil w.drew x _ 215 h.drew (by simp [nwCells]) nt u
  have c2 := h.cell 2 (v := .int .i64 nt) rfl
  clear h
  go_enter Tryz.func205, Tryz.ntmps205
  go_wp2_with fail
  go_region_with (first | (go_at_call 114; refine H.mono ?_; rintro e w1 ⟨⟨v, rfl⟩, hC⟩))
  all_goals
    have hC2 := hC.undrew
    clear H c2 hC
    go_wp2_with fail
    go_end0
    exact ⟨⟨_, rfl⟩, hC2⟩
theorem nw_new (w : World) (cl : Nat) (who t P T G : Int) (hl : Lay w cl P T G) (hp : 0 ≤ P ∧ P ≤ 64) (hT : 0 ≤ T ∧ T ≤ 65536) :
    Calls Tryz.prog 197 #[.pointer (some ⟨cl, 0, none⟩), .int .i64 t, .int .i64 who] w fun e w' => ∃ x L, e = .returned (.pointer (some ⟨x, 0, none⟩)) ∧ (nwSub (wd (20 + P * 264) T 3 t 0) who).I w' x NwT.fresh L ∧ Below w.heap.size w w' ∧ w.heap.size ≤ x ∧ (∀ k ∈ L, w.heap.size ≤ k) ∧ ∃ a, w'.cell? ⟨x, 1, none⟩ = some (.pointer (some a)) := by
  have hB := Blk.new w (nwCells 0 none 0) 215
  have hb : Below w.heap.size w (w.alloc (.cells (nwCells 0 none 0) 215)) := (Below.refl _ _).alloc (Nat.le_refl _) _
  have hO := nw_of _ w.heap.size cl who t P T G hB (hl.below hb hl.lt) hp hT (by have := hl.lt; omega)
  have HH : Hid (Below w.heap.size w (w.alloc (.cells (nwCells 0 none 0) 215))) := hb
  have hsz := World.size_alloc w (.cells (nwCells 0 none 0) 215)
  generalize wd (20 + P * 264) T 3 t 0 = nt at *
  clear hB hb hl hp hT
  unfold nwCells at hO HH hsz
  go_enter Tryz.func197, Tryz.ntmps197
  go_wp2_with fail
  go_at_call 204; refine hO.mono ?_; rintro e w1 ⟨⟨v, rfl⟩, h1, h2⟩
  have hb1 : Hid (Below w.heap.size w w1) := HH.out.trans (h2.below (by simp) (by rw [hsz]; omega))
  have hL := nw_put w1 w.heap.size who nt 1 none h1
  have h1lt := h1.lt
  clear hO h1 h2 HH hsz
  go_wp2_with fail
  go_at_call 205; refine hL.mono ?_; rintro e w2 ⟨⟨v2, rfl⟩, hC⟩
  obtain ⟨q, Lc, c1, c2, c3, c4⟩ := hC
  have hs1 := hb1.out.size
  have hw1 : w.heap.size < w1.heap.size := h1lt
  have hF : Hid ((nwSub nt who).I w2 w.heap.size NwT.fresh (w.heap.size :: Lc) ∧ Below w.heap.size w w2 ∧ (∀ k ∈ w.heap.size :: Lc, w.heap.size ≤ k) ∧ ∃ a, w2.cell? ⟨w.heap.size, 1, none⟩ = some (.pointer (some a))) := by
    refine ⟨⟨trivial, q, Lc, c1, c2, fun hm => by have := c4 _ hm; omega, rfl⟩, hb1.out.trans (c3.below (by simp) hs1), fun k hk => ?_, _, c1.cell 1 rfl⟩
    simp at hk
    rcases hk with rfl | hk
    · exact Nat.le_refl _
    · have := c4 k hk; omega
  clear hL c1 c2 c3 c4
  go_wp2_with fail
  go_ret
  exact ⟨w.heap.size, w.heap.size :: Lc, rfl, hF.out.1, hF.out.2.1, Nat.le_refl _, hF.out.2.2.1, hF.out.2.2.2⟩

section
variable (w : World) (x cl : Nat) (who : Int) (cs : Array Value) (T : TypeId) (h : Blk w x cs T) (hs : 2 ≤ cs.size) (h0 : cs[0]? = some (.int .i64 who)) (h2 : cs[2]? = some (.pointer (some ⟨cl, 0, none⟩)))
include h hs h2
theorem wk_need (K : Nat) :
    Calls Tryz.prog 173 #[.pointer (some ⟨x, 0, none⟩), .func (.func K) #[.pointer (some ⟨x, 0, none⟩)] #[]] w fun e w' => (∃ v, e = .returned v) ∧ Came w w' x cs T (axSt 14 1) (.untold K) := by
  have H := came_store w.drew x cs T h.drew hs 14 1 K
  have c2 := h.cell 2 h2
  have hW := il_word w.drew cl 14 (by omega)
  clear h hs h2
  go_enter Tryz.func173, Tryz.ntmps173
  go_wp2_with fail
  go_region_with (first | (go_at_call 84; refine hW.mono ?_; rintro e w3 ⟨rfl, rfl⟩) | (go_at_call 114; refine H.mono ?_; rintro e w1 ⟨⟨v, rfl⟩, hC⟩))
  all_goals
    have hC2 := hC.undrew
    clear hW H c2 hC
    go_wp2_with fail
    go_end0
    exact ⟨⟨_, rfl⟩, hC2⟩
theorem wk_countOut (K : Nat) :
    Calls Tryz.prog 184 #[.pointer (some ⟨x, 0, none⟩), .func (.func K) #[.pointer (some ⟨x, 0, none⟩)] #[]] w fun e w' => (∃ v, e = .returned v) ∧ Came w w' x cs T (axAd 13 4294967295) (.told K) := by
  have H := came_add w.drew x cs T h.drew hs 13 4294967295 K
  have c2 := h.cell 2 h2
  have hW := il_word w.drew cl 13 (by omega)
  clear h hs h2
  go_enter Tryz.func184, Tryz.ntmps184
  go_wp2_with fail
  go_region_with (first | (go_at_call 84; refine hW.mono ?_; rintro e w3 ⟨rfl, rfl⟩) | (go_at_call 135; refine H.mono ?_; rintro e w1 ⟨⟨v, rfl⟩, hC⟩))
  all_goals
    have hC2 := hC.undrew
    clear hW H c2 hC
    go_wp2_with fail
    go_end0
    exact ⟨⟨_, rfl⟩, hC2⟩
include h0
set_option maxHeartbeats 4000000 in
theorem wk_release (fv : Value) (hf : Fv fv) :
    Calls Tryz.prog 175 #[.pointer (some ⟨x, 0, none⟩), fv] w fun e w' => (∃ v, e = .returned v) ∧ RunNew (relSub (wd 0 2 3 0 1) (wd 0 2 3 0 2) who) RelT.fresh w w' x cs T fv := by
  have hlt := h.lt
  have c2 := h.cell 2 h2
  have hO := who_any w.drew x who (h.drew.cell 0 h0)
  have hR := rel_fresh w.drew cl 0 who
  have HG : Hid ((relSub (wd 0 2 3 0 1) (wd 0 2 3 0 2) who).I.Good (relSub (wd 0 2 3 0 1) (wd 0 2 3 0 2) who).M) := Fl.good (rel_laws _ _ who)
  have HH : Hid (Blk w x cs T ∧ 2 ≤ cs.size ∧ Fv fv) := ⟨h, hs, hf⟩
  clear h hs h0 h2
  cases hf
  all_goals
    go_enter Tryz.func175, Tryz.ntmps175
    go_wp2_with fail
    go_region_with (first | (go_at_call 119; refine hO.mono ?_; rintro e w3 ⟨rfl, rfl⟩) | (go_at_call 147; refine hR.mono ?_; rintro e w4 ⟨y, L, rfl, k1, k4, k5, k6, a, k7⟩; have hB4 : But [x] w w4 := ((But.refl [x] w).drew).trans (But.of_below k4); have hf := frun_rel w4 x y cs T _ a (HH.out.1.but (But.of_below (l := []) (show Below w.heap.size w w4 from (Below.refl _ _).drew.trans k4)) (by simp)) HH.out.2.1 HH.out.2.2 (by have : w.heap.size ≤ y := k5; omega) k7) | (go_at_call 120; refine hf.mono ?_; rintro e w5 ⟨⟨v, rfl⟩, q, g, hC⟩))
    all_goals
      have k6' : ∀ k ∈ L, w.heap.size ≤ k := k6
      have hR5 := RunNew.mk (S := relSub (wd 0 2 3 0 1) (wd 0 2 3 0 2) who) (W := w) HG.out k1 k6' hlt hB4 hC
      clear hO hR c2 hf k1 k4 k5 k6 k6' k7 hC hB4 HH HG
      go_wp2_with fail
      go_end0
      exact ⟨⟨_, rfl⟩, hR5⟩
theorem wk_end :
    Calls Tryz.prog 196 #[.pointer (some ⟨x, 0, none⟩)] w fun e w' => (∃ v, e = .returned v) ∧ RunNew (relSub (wd 0 2 3 0 1) (wd 0 2 3 0 2) who) RelT.fresh w w' x cs T .nilFunc := by
  have H := wk_release w x cl who cs T h hs h0 h2 .nilFunc .none
  clear h hs h0 h2
  go_enter Tryz.func196, Tryz.ntmps196
  go_wp2_with fail
  go_at_call 175; refine H.mono ?_; rintro e w1 ⟨⟨v, rfl⟩, hC⟩
  clear H
  go_wp2_with fail
  go_end0
  exact ⟨⟨_, rfl⟩, hC⟩
end
theorem wk_of (w : World) (x c : Nat) (who : Int) (cs cs' : Array Value) (T : TypeId) (h : Blk w x cs T) (hs : 3 ≤ cs.size) (hcs : (cs.setIfInBounds 2 (.pointer (some ⟨c, 0, none⟩))).setIfInBounds 0 (.int .i64 who) = cs') :
    Calls Tryz.prog 164 #[.pointer (some ⟨x, 0, none⟩), .pointer (some ⟨c, 0, none⟩), .int .i64 who] w fun e w' => (∃ v, e = .returned v) ∧ Blk w' x cs' T ∧ But [x] w w' ∧ w'.heap.size = w.heap.size := by
  have f2 := h.fro 2
  have hh2 := h.set 2 (.pointer (some ⟨c, 0, none⟩))
  have hF := fof_any _ x _ T who hh2 (by simp; omega)
  have hB0 : But [x] w (w.setCell ⟨x, 2, none⟩ (.pointer (some ⟨c, 0, none⟩))) := (But.refl _ w).set (g := x) (.inl (by simp)) 2 _
  obtain ⟨u, hu⟩ : ∃ u, w.cell? ⟨x, 2, none⟩ = some u := ⟨_, h.cell 2 (Array.getElem?_eq_getElem hs)⟩
  have HH : Hid (Blk _ x _ T ∧ But [x] w _ ∧ (w.setCell ⟨x, 2, none⟩ (.pointer (some ⟨c, 0, none⟩))).heap.size = w.heap.size) := ⟨hh2, hB0, size_set _ _ _⟩
  clear h hh2 hB0 hs
  go_enter Tryz.func164, Tryz.ntmps164
  go_wp2_with fail
  generalize w.setCell ⟨x, 2, none⟩ (.pointer (some ⟨c, 0, none⟩)) = W at *
  go_at_call 38; refine hF.mono ?_; rintro e w3 ⟨⟨v, rfl⟩, hw3⟩
  have h3 : Blk w3 x cs' T := by rw [hw3, ← hcs]; exact HH.out.1.set 0 _
  have hB3 : But [x] w w3 := by rw [hw3]; exact HH.out.2.1.set (g := x) (.inl (by simp)) 0 _
  have hs3 : w3.heap.size = w.heap.size := by rw [hw3, size_set]; exact HH.out.2.2
  clear hF hw3 HH hcs hu f2
  go_wp2_with fail
  go_end0
  exact ⟨⟨_, rfl⟩, h3, hB3, hs3⟩
end Go.Proofs.YthjfbknmdligeaaGreat

namespace Go.Proofs.YthjfbknmdligeaaGreat
open Go Go.RowKit
set_option linter.unusedVariables false
set_option maxRecDepth 100000
set_option linter.unusedSimpArgs false

def wsCells (who : Int) (nx : Option Addr) (cl : Nat) (p : Int) (sp lf has : Bool) (th : Nat) (bk : Option Addr) : Array Value := #[.int .i64 who, .pointer nx, .pointer (some ⟨cl, 0, none⟩), .int .i64 p, .bool sp, .bool lf, .bool has, .pointer (some ⟨th, 0, none⟩), .pointer bk]
/-- What is given, as a word. -/
def wkWord (p : Int) (sp : Bool) : Int := if sp then IntKind.u64.wrap (ilw p + 4294967296) else ilw p
theorem wkWord_bd (p : Int) (sp : Bool) : 0 ≤ wkWord p sp ∧ wkWord p sp ≤ 18446744073709551615 := by
  cases sp with
  | false => exact ilw_bd p
  | true =>
    show 0 ≤ IntKind.u64.wrap (ilw p + 4294967296) ∧ IntKind.u64.wrap (ilw p + 4294967296) ≤ 18446744073709551615
    generalize ilw p + 4294967296 = z
    simp [IntKind.wrap, IntKind.bits, IntKind.signed]
    omega
theorem wk_word (w : World) (p : Int) (sp : Bool) : Calls Tryz.prog 187 #[.int .i64 p, .bool sp] w fun e w' => e = .returned (.int .u64 (wkWord p sp)) ∧ w = w' := by
  cases sp with
  | false =>
    go_enter Tryz.func187, Tryz.ntmps187
    go_wp2_with fail
    go_ret
    exact ⟨rfl, rfl⟩
  | true =>
    go_enter Tryz.func187, Tryz.ntmps187
    go_wp2_with fail
    go_ret
    exact ⟨rfl, rfl⟩
section
variable (w : World) (x cl th : Nat) (who p : Int) (sp lf has : Bool) (bk nx : Option Addr) (h : Blk w x (wsCells who nx cl p sp lf has th bk) 156)
include h
theorem ws_T (v : Int) (hT : Calls Tryz.prog 183 #[.pointer (some ⟨th, 0, none⟩)] w fun e w' => e = .returned (.int .i64 v) ∧ w = w') :
    Calls Tryz.prog 172 #[.pointer (some ⟨x, 0, none⟩)] w fun e w' => e = .returned (.int .i64 v) ∧ w = w' := by
  have c7 := h.cell 7 (v := .pointer (some ⟨th, 0, none⟩)) rfl
  clear h
  go_enter Tryz.func172, Tryz.ntmps172
  go_wp2_with fail
  go_at_call 183; refine hT.mono ?_; rintro e w1 ⟨rfl, rfl⟩
  clear hT
  go_wp2_with fail
  go_ret
  exact ⟨rfl, rfl⟩
theorem ws_choose_none (hT : Calls Tryz.prog 172 #[.pointer (some ⟨x, 0, none⟩)] w fun e w' => e = .returned (.int .i64 (-1)) ∧ w = w') :
    Calls Tryz.prog 166 #[.pointer (some ⟨x, 0, none⟩)] w fun e w' => (∃ v, e = .returned v) ∧ Came w w' x (wsCells who nx cl p sp lf has th bk) 156 (axSt 14 1) (.untold 174) := by
  have H := wk_need w x cl _ 156 h (by simp [wsCells]) rfl 174
  clear h
  go_enter Tryz.func166, Tryz.ntmps166
  go_wp2_with fail
  go_at_call 172; refine hT.mono ?_; rintro e w1 ⟨rfl, rfl⟩
  clear hT
  go_wp2_with fail
  go_at_call 173; refine H.mono ?_; rintro e w1 ⟨⟨u, rfl⟩, hC⟩
  clear H
  go_wp2_with fail
  refine bodyPost_ret (results_none rfl _ _ _) rfl ?_
  exact ⟨⟨_, rfl⟩, hC⟩
theorem ws_choose_some (v : Int) (hv : v ≠ -1) (hT : Calls Tryz.prog 172 #[.pointer (some ⟨x, 0, none⟩)] w fun e w' => e = .returned (.int .i64 v) ∧ w = w') :
    Calls Tryz.prog 166 #[.pointer (some ⟨x, 0, none⟩)] w fun e w' => (∃ v, e = .returned v) ∧ RunNew (relSub (wd 0 2 3 0 1) (wd 0 2 3 0 2) who) RelT.fresh w w' x (wsCells who nx cl p sp lf has th bk) 156 (.func (.func 176) #[.pointer (some ⟨x, 0, none⟩)] #[]) := by
  have H := wk_release w x cl who _ 156 h (by simp [wsCells]) rfl rfl (.func (.func 176) #[.pointer (some ⟨x, 0, none⟩)] #[]) (.some _ _ _)
  have hd : (v == -1) = false := by simpa using hv
  clear h hv
  go_enter Tryz.func166, Tryz.ntmps166
  go_wp2_with fail
  go_at_call 172; refine hT.mono ?_; rintro e w1 ⟨rfl, rfl⟩
  clear hT
  go_wp2_with fail
  go_at_call 175; refine H.mono ?_; rintro e w1 ⟨⟨u, rfl⟩, hC⟩
  clear H
  go_wp2_with fail
  go_end0
  exact ⟨⟨_, rfl⟩, hC⟩
theorem ws_give (v P T G : Int) (hT : ∀ Y, Below w.heap.size w Y → Calls Tryz.prog 172 #[.pointer (some ⟨x, 0, none⟩)] Y fun e w' => e = .returned (.int .i64 v) ∧ Y = w') (hl : Lay w cl P T G) (hp : 0 ≤ P ∧ P ≤ 64) (hTT : 0 ≤ T ∧ T ≤ 65536) :
    Calls Tryz.prog 176 #[.pointer (some ⟨x, 0, none⟩)] w fun e w' => (∃ v, e = .returned v) ∧ Came w w' x (wsCells who nx cl p sp lf has th bk) 156 (axSt (wd (20 + P * 264) T 3 v 1) (wkWord p sp)) (.untold 188) := by
  have hWd : Hid (∀ Y, Calls Tryz.prog 187 #[.int .i64 p, .bool sp] Y fun e w' => e = .returned (.int .u64 (wkWord p sp)) ∧ Y = w') := fun Y => wk_word Y p sp
  have hD : Hid (Below w.heap.size w w.drew) := (Below.refl _ _).drew
  have hTh := lthr_any _ P T G v 1 w.drew (.some cl (hl.below hD.out hl.lt)) hp hTT
  have hT1 := hT w.drew hD.out
  have HS : Hid (∀ Y, Below w.drew.heap.size w.drew Y → Calls Tryz.prog 114 #[.pointer (some ⟨x, 0, none⟩), .int .i64 (wd (20 + P * 264) T 3 v 1), .int .u64 (wkWord p sp), .func (.func 188) #[.pointer (some ⟨x, 0, none⟩)] #[]] Y fun e w' => (∃ v, e = .returned v) ∧ Came w w' x (wsCells who nx cl p sp lf has th bk) 156 (axSt (wd (20 + P * 264) T 3 v 1) (wkWord p sp)) (.untold 188)) := by
    intro Y hY
    refine (came_store Y x _ 156 (h.drew.but (But.of_below (l := []) hY) (by simp)) (by simp [wsCells]) _ (wkWord p sp) 188).mono ?_
    rintro e w5 ⟨hv, hC⟩
    exact ⟨hv, hC.before (((But.refl [x] w).drew).trans (But.of_below hY))⟩
  generalize wd (20 + P * 264) T 3 v 1 = at' at *
  generalize wkWord p sp = wv at *
  have hH : Hid (w.drew.cell? ⟨x, 2, none⟩ = some (.pointer (some ⟨cl, 0, none⟩)) ∧ w.drew.cell? ⟨x, 3, none⟩ = some (.int .i64 p) ∧ w.drew.cell? ⟨x, 4, none⟩ = some (.bool sp)) := ⟨h.drew.cell 2 (v := .pointer (some ⟨cl, 0, none⟩)) rfl, h.drew.cell 3 (v := .int .i64 p) rfl, h.drew.cell 4 (v := .bool sp) rfl⟩
  have KB : Hid (∀ w4, Below w.drew.heap.size w.drew w4 → w4.cell? ⟨x, 2, none⟩ = some (.pointer (some ⟨cl, 0, none⟩)) ∧ w4.cell? ⟨x, 3, none⟩ = some (.int .i64 p) ∧ w4.cell? ⟨x, 4, none⟩ = some (.bool sp)) := fun w4 k => by
    have h4 := h.drew.but (But.of_below (l := []) k) (by simp)
    exact ⟨h4.cell 2 rfl, h4.cell 3 rfl, h4.cell 4 rfl⟩
  have KC : Hid (∀ w5, Came w w5 x (wsCells who nx cl p sp lf has th bk) 156 (axSt at' wv) (.untold 188) → w5.cell? ⟨x, 2, none⟩ = some (.pointer (some ⟨cl, 0, none⟩)) ∧ w5.cell? ⟨x, 3, none⟩ = some (.int .i64 p) ∧ w5.cell? ⟨x, 4, none⟩ = some (.bool sp)) := fun w5 hC => by
    obtain ⟨q, Lc, h1, -⟩ := hC
    exact ⟨h1.cell 2 rfl, h1.cell 3 rfl, h1.cell 4 rfl⟩
  clear h hT hl hp hTT hD
  go_enter Tryz.func176, Tryz.ntmps176
  go_wp2_with fail
  go_region_held3 (fun w' => w'.cell? ⟨x, 2, none⟩ = some (.pointer (some ⟨cl, 0, none⟩)) ∧ w'.cell? ⟨x, 3, none⟩ = some (.int .i64 p) ∧ w'.cell? ⟨x, 4, none⟩ = some (.bool sp)) (first | exact hH.out | exact KB.out _ ‹_› | exact KC.out _ ‹_›) (first | (go_at_call 172; refine hT1.mono ?_; rintro e x1 ⟨rfl, rfl⟩) | (go_at_call 187; refine (hWd.out _).mono ?_; rintro e x2 ⟨rfl, rfl⟩) | (go_at_call 30; refine hTh.mono ?_; rintro e x3 ⟨rfl, g3⟩) | (go_at_call 114; refine (HS.out _ ‹_›).mono ?_; rintro e x4 ⟨⟨u, rfl⟩, hC⟩))
  all_goals
    clear hT1 hTh hWd HS hH KB KC
    go_wp2_with fail
    go_end0
    exact ⟨⟨_, rfl⟩, hC⟩
theorem ws_countBack_yes (hs : sp = true) :
    Calls Tryz.prog 174 #[.pointer (some ⟨x, 0, none⟩)] w fun e w' => (∃ v, e = .returned v) ∧ Came w w' x (wsCells who nx cl p sp lf has th bk) 156 (axAd 13 4294967295) (.told 185) := by
  have H := wk_countOut w x cl _ 156 h (by simp [wsCells]) rfl 185
  have c4 := h.cell 4 (v := .bool sp) rfl
  subst hs
  clear h
  go_enter Tryz.func174, Tryz.ntmps174
  go_wp2_with fail
  go_at_call 184; refine H.mono ?_; rintro e w1 ⟨⟨u, rfl⟩, hC⟩
  clear H c4
  go_wp2_with fail
  refine bodyPost_ret (results_none rfl _ _ _) rfl ?_
  exact ⟨⟨_, rfl⟩, hC⟩
theorem ws_countBack_no (M : World → Prop) (hs : sp = false) (H : Calls Tryz.prog 186 #[.pointer (some ⟨x, 0, none⟩)] w fun e w' => (∃ v, e = .returned v) ∧ M w') :
    Calls Tryz.prog 174 #[.pointer (some ⟨x, 0, none⟩)] w fun e w' => (∃ v, e = .returned v) ∧ M w' := by
  have c4 := h.cell 4 (v := .bool sp) rfl
  subst hs
  clear h
  go_enter Tryz.func174, Tryz.ntmps174
  go_wp2_with fail
  go_at_call 186; refine H.mono ?_; rintro e w1 ⟨⟨u, rfl⟩, hC⟩
  clear H c4
  go_wp2_with fail
  go_end0
  exact ⟨⟨_, rfl⟩, hC⟩
omit h in
theorem ws_counted (M : World → Prop) (u : Int) (H : Calls Tryz.prog 186 #[.pointer (some ⟨x, 0, none⟩)] w fun e w' => (∃ v, e = .returned v) ∧ M w') :
    Calls Tryz.prog 185 #[.pointer (some ⟨x, 0, none⟩), .int .u64 u] w fun e w' => (∃ v, e = .returned v) ∧ M w' := by
  go_enter Tryz.func185, Tryz.ntmps185
  go_wp2_with fail
  go_at_call 186; refine H.mono ?_; rintro e w1 ⟨⟨u, rfl⟩, hC⟩
  clear H
  go_wp2_with fail
  go_end0
  exact ⟨⟨_, rfl⟩, hC⟩
theorem ws_leave :
    Calls Tryz.prog 194 #[.pointer (some ⟨x, 0, none⟩)] w fun e w' => (∃ v, e = .returned v) ∧ RunNew (relSub (wd 0 2 3 0 1) (wd 0 2 3 0 2) who) RelT.fresh w w' x (wsCells who nx cl p sp lf false th bk) 156 .nilFunc := by
  have c6 := h.cell 6 (v := .bool has) rfl
  have f6 := h.fro 6
  have hlt := h.lt
  have h' : Blk (w.setCell ⟨x, 6, none⟩ (.bool false)) x (wsCells who nx cl p sp lf false th bk) 156 := h.set 6 (.bool false)
  have hB : But [x] w (w.setCell ⟨x, 6, none⟩ (.bool false)) := (But.refl _ w).set (g := x) (.inl (by simp)) 6 _
  have H := wk_end _ x cl who _ 156 h' (by simp [wsCells]) rfl rfl
  clear h h'
  go_enter Tryz.func194, Tryz.ntmps194
  go_wp2_with fail
  go_at_call 196; refine H.mono ?_; rintro e w1 ⟨⟨u, rfl⟩, hC⟩
  have hC2 := hC.before hB
  clear H hC hB c6 f6
  go_wp2_with fail
  go_end0
  exact ⟨⟨_, rfl⟩, hC2⟩
theorem ws_putBack_left (P T G : Int) (hl : Lay w cl P T G) (hp : 0 ≤ P ∧ P ≤ 64) (hf : lf = true) :
    Calls Tryz.prog 186 #[.pointer (some ⟨x, 0, none⟩)] w fun e w' => (∃ v, e = .returned v) ∧ Came w w' x (wsCells who nx cl p sp lf has th bk) 156 (axSt (wd 20 P 264 p 0) 2) (.untold 194) := by
  subst hf
  have c5 := h.cell 5 (v := .bool true) rfl
  have hD : Hid (Below w.heap.size w w.drew) := (Below.refl _ _).drew
  have hPr := lprc_any _ P T G p 0 w.drew (.some cl (hl.below hD.out hl.lt)) hp (by omega)
  have HS : Hid (∀ Y, Below w.drew.heap.size w.drew Y → Calls Tryz.prog 114 #[.pointer (some ⟨x, 0, none⟩), .int .i64 (wd 20 P 264 p 0), .int .u64 2, .func (.func 194) #[.pointer (some ⟨x, 0, none⟩)] #[]] Y fun e w' => (∃ v, e = .returned v) ∧ Came w w' x (wsCells who nx cl p sp true has th bk) 156 (axSt (wd 20 P 264 p 0) 2) (.untold 194)) := by
    intro Y hY
    refine (came_store Y x _ 156 (h.drew.but (But.of_below (l := []) hY) (by simp)) (by simp [wsCells]) _ 2 194).mono ?_
    rintro e w5 ⟨hv, hC⟩
    exact ⟨hv, hC.before (((But.refl [x] w).drew).trans (But.of_below hY))⟩
  generalize wd 20 P 264 p 0 = at' at *
  have hH : Hid (w.drew.cell? ⟨x, 2, none⟩ = some (.pointer (some ⟨cl, 0, none⟩)) ∧ w.drew.cell? ⟨x, 3, none⟩ = some (.int .i64 p)) := ⟨h.drew.cell 2 (v := .pointer (some ⟨cl, 0, none⟩)) rfl, h.drew.cell 3 (v := .int .i64 p) rfl⟩
  have KB : Hid (∀ w4, Below w.drew.heap.size w.drew w4 → w4.cell? ⟨x, 2, none⟩ = some (.pointer (some ⟨cl, 0, none⟩)) ∧ w4.cell? ⟨x, 3, none⟩ = some (.int .i64 p)) := fun w4 k => by
    have h4 := h.drew.but (But.of_below (l := []) k) (by simp)
    exact ⟨h4.cell 2 rfl, h4.cell 3 rfl⟩
  have KC : Hid (∀ w5, Came w w5 x (wsCells who nx cl p sp true has th bk) 156 (axSt at' 2) (.untold 194) → w5.cell? ⟨x, 2, none⟩ = some (.pointer (some ⟨cl, 0, none⟩)) ∧ w5.cell? ⟨x, 3, none⟩ = some (.int .i64 p)) := fun w5 hC => by
    obtain ⟨q, Lc, h1, -⟩ := hC
    exact ⟨h1.cell 2 rfl, h1.cell 3 rfl⟩
  clear h hl hp hD
  go_enter Tryz.func186, Tryz.ntmps186
  go_wp2_with fail
  clear c5
  go_region_held3 (fun w' => w'.cell? ⟨x, 2, none⟩ = some (.pointer (some ⟨cl, 0, none⟩)) ∧ w'.cell? ⟨x, 3, none⟩ = some (.int .i64 p)) (first | exact hH.out | exact KB.out _ ‹_› | exact KC.out _ ‹_›) (first | (go_at_call 111; refine hPr.mono ?_; rintro e x3 ⟨rfl, g3⟩) | (go_at_call 114; refine (HS.out _ ‹_›).mono ?_; rintro e x4 ⟨⟨u, rfl⟩, hC⟩))
  all_goals
    clear hPr HS hH KB KC
    go_wp2_with fail
    refine bodyPost_ret (results_none rfl _ _ _) rfl ?_
    exact ⟨⟨_, rfl⟩, hC⟩
end
end Go.Proofs.YthjfbknmdligeaaGreat
