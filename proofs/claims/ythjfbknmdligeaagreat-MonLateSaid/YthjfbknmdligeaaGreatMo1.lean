/- The monitor: what it is in memory, and what its functions do that look at processors. -/
import Derived.Test.YthjfbknmdligeaaGreatFl
import Derived.Test.YthjfbknmdligeaaGreatRg0
namespace Go.Proofs.YthjfbknmdligeaaGreat
open Go Go.RowKit
set_option linter.unusedVariables false
set_option maxRecDepth 100000
set_option linter.unusedSimpArgs false
set_option linter.unusedSectionVars false

theorem mo_word (w : World) (c : Nat) (i : Int) (h : 6 ≤ i ∧ i ≤ 19) : Calls Tryz.prog 84 #[.pointer (some ⟨c, 0, none⟩), .int .i64 i] w fun e w' => e = .returned (.int .i64 i) ∧ w = w' := by
  have d1 : decide (i < 6) = false := decide_eq_false (by omega)
  have d2 : decide (19 < i) = false := decide_eq_false (by omega)
  clear h
  go_enter Tryz.func84, Tryz.ntmps84
  go_wp2_with fail
  go_ret
  exact ⟨rfl, rfl⟩
/-- A monitor's rows: n words, one behind the other. -/
def RwAt (w : World) (r n : Nat) (f : Nat → Int) : Prop := ∃ cs : Array Value, w.heap[r]? = some (.cells cs 66 (0, 0)) ∧ cs.size = n ∧ ∀ i, i < n → cs[i]? = some (.int .u64 (f i))
theorem RwAt.lt {w : World} {r n : Nat} {f : Nat → Int} (h : RwAt w r n f) : r < w.heap.size := by obtain ⟨cs, h1, _⟩ := h; exact block_lt h1
theorem RwAt.cell {w : World} {r n : Nat} {f : Nat → Int} (h : RwAt w r n f) {i : Nat} (hi : i < n) : w.cell? ⟨r, i, none⟩ = some (.int .u64 (f i)) := by
  obtain ⟨cs, h1, _, h3⟩ := h
  simp [World.cell?, h1, h3 i hi]
theorem RwAt.fro {w : World} {r n : Nat} {f : Nat → Int} (h : RwAt w r n f) (i : Nat) : w.frozen? ⟨r, i, none⟩ = false := by
  obtain ⟨cs, h1, _⟩ := h
  simp [World.frozen?, h1]
theorem RwAt.keep {w w' : World} {r n : Nat} {f : Nat → Int} (h : RwAt w r n f) (e : w'.heap[r]? = w.heap[r]?) : RwAt w' r n f := by
  obtain ⟨cs, h1, h2⟩ := h
  exact ⟨cs, e.trans h1, h2⟩
theorem RwAt.but {w w' : World} {r n : Nat} {f : Nat → Int} {l : List Nat} (h : RwAt w r n f) (hb : But l w w') (hr : r ∉ l) : RwAt w' r n f := h.keep (hb.block r h.lt hr)
theorem RwAt.set {w : World} {r n : Nat} {f : Nat → Int} (h : RwAt w r n f) {i : Nat} (hi : i < n) (v : Int) : RwAt (w.setCell ⟨r, i, none⟩ (.int .u64 v)) r n (upd f i v) := by
  obtain ⟨cs, h1, h2, h3⟩ := h
  refine ⟨_, heap_set h1 i _, by simpa using h2, fun j hj => ?_⟩
  by_cases e : j = i
  · subst e; simp [h2, hj, upd]
  · rw [Array.getElem?_setIfInBounds_ne (by omega), h3 j hj]; simp [upd, e]
theorem RwAt.drew {w : World} {r n : Nat} {f : Nat → Int} (h : RwAt w r n f) : RwAt w.drew r n f := h
/-- What a monitor holds: rows, passes, whether a pass is under way, the time, the processor, its Status, whether it is late, the look, what was loaded, the machine that hands over. -/
structure MoD where
  f : Nat → Int
  ps : Int
  un : Bool
  nw : Int
  p : Nat
  st : Int
  lt : Bool
  lk : Option Addr
  sp : Int
  im : Int
  th : Int
  ov : Option Addr
def moCells (who : Int) (nx : Option Addr) (cl r P : Nat) (d : MoD) : Array Value := #[.int .i64 who, .pointer nx, .pointer (some ⟨cl, 0, none⟩), .slice (some ⟨r, 0, none⟩) P P, .int .i64 d.ps, .bool d.un, .int .u64 d.nw, .int .i64 d.p, .int .u64 d.st, .bool d.lt, .pointer d.lk, .int .u64 d.sp, .int .u64 d.im, .int .u64 d.th, .pointer d.ov]
/-- Where it is, if an access of its own comes. -/
inductive MoP where
  | nw
  | st
  | tu
  | pr
  | ca
  | sp
  | ip
  | im
  | th
  | ip2
  | sw
  | ad
def moAx (P : Nat) (p : Nat) : MoP → Ax
  | .nw => axLd 18
  | .st => axLd (wd 20 P 264 p 0)
  | .tu => axLd (wd 20 P 264 p 4)
  | .pr => axSt (wd 20 P 264 p 6) 1
  | .ca => axLd (wd 20 P 264 p 5)
  | .sp => axLd 13
  | .ip => axLd 10
  | .im => axLd 12
  | .th => axLd 15
  | .ip2 => axLd 10
  | .sw => axSw (wd 20 P 264 p 0) 2 0
  | .ad => axAd (wd 20 P 264 p 5) 1
def moFol : MoP → Fol
  | .nw => .told 63
  | .st => .told 94
  | .tu => .told 101
  | .pr => .untold 115
  | .ca => .told 117
  | .sp => .told 127
  | .ip => .told 131
  | .im => .told 138
  | .th => .told 142
  | .ip2 => .told 144
  | .sw => .swap 149
  | .ad => .told 153
/-- An access of its own comes, in the phase s.1, and it holds s.2. -/
def MoLand (who : Int) (cl r P : Nat) (W w' : World) (x : Nat) (s : MoP × MoD) : Prop := ∃ V, But [x, r] W V ∧ RwAt V r (4 * P) s.2.f ∧ Came V w' x (moCells who none cl r P s.2) 98 (moAx P s.2.p s.1) (moFol s.1)
theorem MoLand.before {who : Int} {cl r P : Nat} {a W w' : World} {x : Nat} {s : MoP × MoD} (h : MoLand who cl r P W w' x s) (hb : But [x, r] a W) : MoLand who cl r P a w' x s := by
  obtain ⟨V, h1, h2⟩ := h
  exact ⟨V, hb.trans h1, h2⟩
theorem MoLand.of {who : Int} {cl r P : Nat} {w w' : World} {x : Nat} {s : MoP × MoD} (hr : RwAt w r (4 * P) s.2.f) (h : Came w w' x (moCells who none cl r P s.2) 98 (moAx P s.2.p s.1) (moFol s.1)) : MoLand who cl r P w w' x s := ⟨w, But.refl _ _, hr, h⟩
/-- Where it goes on with the processor p, or begins anew. -/
def moVisit (P : Nat) (d : MoD) (p : Nat) : MoP × MoD := if P ≤ p then (.nw, { d with ps := wrap64 (d.ps + 1), un := false }) else (.st, { d with p := p })
def moSeeStatus (P : Nat) (d : MoD) : MoP × MoD := if d.st = 2 then (.ca, d) else moVisit P d (d.p + 1)
def moFirst (P : Nat) (d : MoD) (v : Int) : MoP × MoD := moVisit P { d with nw := v, un := true } 0
def moJudge (P : Nat) (d : MoD) (v : Int) : MoP × MoD := if v = 1 ∨ v = 2 then (.tu, { d with st := v }) else moVisit P d (d.p + 1)
def moTurns (P : Nat) (d : MoD) (v : Int) : MoP × MoD := if v ≠ d.f (d.p * 4) then moSeeStatus P { d with lt := false, f := upd (upd d.f (d.p * 4) v) (d.p * 4 + 1) d.nw } else if 10 ≤ (d.nw - d.f (d.p * 4 + 1)) % 4294967296 then (.pr, { d with lt := false }) else moSeeStatus P { d with lt := false }
def moLate (P : Nat) (d : MoD) : MoP × MoD := moSeeStatus P { d with lt := true }
section
variable (w : World) (x cl r P : Nat) (T G who : Int) (d : MoD) (h : Blk w x (moCells who none cl r P d) 98)
include h
theorem mo_load (i : Int) (hi : 6 ≤ i ∧ i ≤ 19) (K : Nat) :
    Calls Tryz.prog 62 #[.pointer (some ⟨x, 0, none⟩), .int .i64 i, .func (.func K) #[.pointer (some ⟨x, 0, none⟩)] #[]] w fun e w' => (∃ v, e = .returned v) ∧ Came w w' x (moCells who none cl r P d) 98 (axLd i) (.told K) := by
  have H := came_load w.drew x _ 98 h.drew (by simp [moCells]) i K
  have c2 := h.cell 2 (v := .pointer (some ⟨cl, 0, none⟩)) rfl
  have hW := mo_word w.drew cl i hi
  clear h hi
  go_enter Tryz.func62, Tryz.ntmps62
  go_wp2_with fail
  go_region_with (first | (go_at_call 84; refine hW.mono ?_; rintro e w3 ⟨rfl, rfl⟩) | (go_at_call 83; refine H.mono ?_; rintro e w1 ⟨⟨v, rfl⟩, hC⟩))
  all_goals
    have hC2 := hC.undrew
    clear hW H c2 hC
    go_wp2_with fail
    go_end0
    exact ⟨⟨_, rfl⟩, hC2⟩
theorem mo_proc (hl : Lay w cl P T G) (hp : (P : Int) ≤ 64) (f : Int) (hf : 0 ≤ f ∧ f < 8) :
    Calls Tryz.prog 99 #[.pointer (some ⟨x, 0, none⟩), .int .i64 f] w fun e w' => e = .returned (.int .i64 (wd 20 P 264 d.p f)) ∧ Below w.heap.size w w' := by
  have c2 := h.cell 2 (v := .pointer (some ⟨cl, 0, none⟩)) rfl
  have c7 := h.cell 7 (v := .int .i64 d.p) rfl
  have hW := lprc_any _ P T G d.p f w.drew (.some cl (hl.below ((Below.refl _ _).drew) hl.lt)) ⟨by omega, hp⟩ hf
  clear h hl hp hf
  go_enter Tryz.func99, Tryz.ntmps99
  go_wp2_with fail
  go_region_with (first | (go_at_call 111; refine hW.mono ?_; rintro e w1 ⟨rfl, h1⟩))
  all_goals
    have h1' := (Below.refl _ w).drew.trans h1
    clear hW h1 c2 c7
    go_wp2_with fail
    go_ret
    exact ⟨rfl, h1'⟩
theorem mo_loadProc (hl : Lay w cl P T G) (hp : (P : Int) ≤ 64) (f : Int) (hf : 0 ≤ f ∧ f < 8) (K : Nat) :
    Calls Tryz.prog 93 #[.pointer (some ⟨x, 0, none⟩), .int .i64 f, .func (.func K) #[.pointer (some ⟨x, 0, none⟩)] #[]] w fun e w' => (∃ v, e = .returned v) ∧ Came w w' x (moCells who none cl r P d) 98 (axLd (wd 20 P 264 d.p f)) (.told K) := by
  have H := mo_proc w.drew x cl r P T G who d h.drew hl hp f hf
  have HH : Hid (Blk w x (moCells who none cl r P d) 98) := h
  generalize wd 20 P 264 d.p f = i at *
  clear h hl hp hf
  go_enter Tryz.func93, Tryz.ntmps93
  go_wp2_with fail
  go_region_with (first | (go_at_call 99; refine H.mono ?_; rintro e w1 ⟨rfl, h1⟩; have H2 := came_load w1 x _ 98 (HH.out.but (But.of_below (l := []) (show Below w.heap.size w w1 from (Below.refl _ _).drew.trans h1)) (by simp)) (by simp [moCells]) i K) | (go_at_call 83; refine H2.mono ?_; rintro e w3 ⟨⟨v, rfl⟩, hC⟩))
  all_goals
    have hB1 : But [x] w w1 := But.of_below ((Below.refl _ _).drew.trans h1)
    have hC2 := hC.before hB1
    clear H H2 hC h1
    go_wp2_with fail
    go_end0
    exact ⟨⟨_, rfl⟩, hC2⟩
theorem mo_begin :
    Calls Tryz.prog 39 #[.pointer (some ⟨x, 0, none⟩)] w fun e w' => (∃ v, e = .returned v) ∧ Came w w' x (moCells who none cl r P d) 98 (axLd 18) (.told 63) := by
  have H := mo_load w x cl r P who d h 18 (by omega) 63
  clear h
  go_enter Tryz.func39, Tryz.ntmps39
  go_wp2_with fail
  go_at_call 62; refine H.mono ?_; rintro e w1 ⟨⟨u, rfl⟩, hC⟩
  clear H
  go_wp2_with fail
  go_end0
  exact ⟨⟨_, rfl⟩, hC⟩
end
section
variable (w : World) (x cl r P : Nat) (T G who : Int) (d : MoD) (h : Blk w x (moCells who none cl r P d) 98) (hr : RwAt w r (4 * P) d.f) (hl : Lay w cl P T G) (hcx : cl ≠ x) (hcr : cl ≠ r) (hxr : x ≠ r) (hp : (P : Int) ≤ 64)
include h hr hl hcx hcr hxr hp
theorem mo_visit (p : Nat) (hpp : p ≤ 64) :
    Calls Tryz.prog 85 #[.pointer (some ⟨x, 0, none⟩), .int .i64 p] w fun e w' => (∃ v, e = .returned v) ∧ MoLand who cl r P w w' x (moVisit P d p) := by
  by_cases hq : P ≤ p
  · have e : moVisit P d p = (.nw, { d with ps := wrap64 (d.ps + 1), un := false }) := if_pos hq
    rw [e]
    have c3 := h.cell 3 (v := .slice (some ⟨r, 0, none⟩) P P) rfl
    have c4 := h.cell 4 (v := .int .i64 d.ps) rfl
    have f4 := h.fro 4
    have f5 := h.fro 5
    have c5 := h.cell 5 (v := .bool d.un) rfl
    have d1 : decide ((P : Int) ≤ (p : Int)) = true := decide_eq_true (by omega)
    obtain ⟨V, hV⟩ : ∃ V, ((w.setCell ⟨x, 4, none⟩ (.int .i64 (wrap64 (d.ps + 1)))).setCell ⟨x, 5, none⟩ (.bool false)) = V := ⟨_, rfl⟩
    have h' : Blk V x (moCells who none cl r P { d with ps := wrap64 (d.ps + 1), un := false }) 98 := by rw [← hV]; exact (h.set 4 (.int .i64 (wrap64 (d.ps + 1)))).set 5 (.bool false)
    have hB : But [x, r] w V := by rw [← hV]; exact ((But.refl _ w).set (g := x) (.inl (by simp)) 4 _).set (g := x) (.inl (by simp)) 5 _
    have hr' : RwAt V r (4 * P) d.f := by rw [← hV]; exact hr.but (((But.refl [x] w).set (g := x) (.inl (by simp)) 4 _).set (g := x) (.inl (by simp)) 5 _) (by simpa using hxr.symm)
    have H := mo_begin V x cl r P who _ h'
    have HV : Hid _ := hV
    have HF : Hid (But [x, r] w V ∧ RwAt V r (4 * P) d.f) := ⟨hB, hr'⟩
    clear h hr hl hV h' hB hr' hcx hcr hxr hp hpp e d1
    go_enter Tryz.func85, Tryz.ntmps85
    go_wp2_with fail
    rw [HV.out]
    clear HV
    go_at_call 39; refine H.mono ?_; rintro e w1 ⟨⟨u, rfl⟩, hC⟩
    clear H
    go_wp2_with fail
    refine bodyPost_ret (results_none rfl _ _ _) rfl ?_
    exact ⟨⟨_, rfl⟩, V, HF.out.1, HF.out.2, hC⟩
  · have e : moVisit P d p = (.st, { d with p := p }) := if_neg hq
    rw [e]
    have c3 := h.cell 3 (v := .slice (some ⟨r, 0, none⟩) P P) rfl
    have c7 := h.cell 7 (v := .int .i64 d.p) rfl
    have f7 := h.fro 7
    have d1 : decide ((P : Int) ≤ (p : Int)) = false := decide_eq_false (by omega)
    obtain ⟨V, hV⟩ : ∃ V, (w.setCell ⟨x, 7, none⟩ (.int .i64 p)) = V := ⟨_, rfl⟩
    have h' : Blk V x (moCells who none cl r P { d with p := p }) 98 := by rw [← hV]; exact h.set 7 (.int .i64 p)
    have hB1 : But [x] w V := by rw [← hV]; exact (But.refl _ w).set (g := x) (.inl (by simp)) 7 _
    have hB : But [x, r] w V := hB1.more (by intro k _ hk; simp at hk ⊢; exact .inl hk)
    have hr' : RwAt V r (4 * P) d.f := hr.but hB1 (by simpa using hxr.symm)
    have hl' : Lay V cl P T G := (hB1.block cl hl.lt (by simpa using hcx)).trans hl
    have H := mo_loadProc V x cl r P T G who _ h' hl' hp 0 (by omega) 94
    have HV : Hid _ := hV
    have HF : Hid (But [x, r] w V ∧ RwAt V r (4 * P) d.f) := ⟨hB, hr'⟩
    clear h hr hl hV h' hB hB1 hr' hl' hcx hcr hxr hp hpp e d1
    go_enter Tryz.func85, Tryz.ntmps85
    go_wp2_with fail
    rw [HV.out]
    clear HV
    go_at_call 93; refine H.mono ?_; rintro e w1 ⟨⟨u, rfl⟩, hC⟩
    clear H
    go_wp2_with fail
    go_end0
    exact ⟨⟨_, rfl⟩, V, HF.out.1, HF.out.2, hC⟩
theorem mo_next (hd : d.p < 64) :
    Calls Tryz.prog 100 #[.pointer (some ⟨x, 0, none⟩)] w fun e w' => (∃ v, e = .returned v) ∧ MoLand who cl r P w w' x (moVisit P d (d.p + 1)) := by
  have c7 := h.cell 7 (v := .int .i64 d.p) rfl
  have H := mo_visit w x cl r P T G who d h hr hl hcx hcr hxr hp (d.p + 1) (by omega)
  have e1 : wrap64 ((d.p : Int) + 1) = (d.p : Int) + 1 := by unfold wrap64; omega
  rw [show ((d.p + 1 : Nat) : Int) = (d.p : Int) + 1 from rfl] at H
  clear h hr hl hcx hcr hxr hp
  go_enter Tryz.func100, Tryz.ntmps100
  go_wp2_with fail
  go_at_call 85; refine H.mono ?_; rintro e w1 ⟨⟨u, rfl⟩, hC⟩
  clear H
  go_wp2_with fail
  go_end0
  exact ⟨⟨_, rfl⟩, hC⟩
end
end Go.Proofs.YthjfbknmdligeaaGreat
