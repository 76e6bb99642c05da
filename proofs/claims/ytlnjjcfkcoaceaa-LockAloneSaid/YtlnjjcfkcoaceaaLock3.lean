/- The steps of the machines of locks. -/
import Derived.Test.YtlnjjcfkcoaceaaLock1
namespace Go.Proofs.Ytlnjjcfkcoaceaa
open Go Go.RowKit
set_option linter.unusedVariables false
set_option maxRecDepth 100000
set_option linter.unusedSimpArgs false

/-- A machine that acquires a lock: what comes next lies at block q, what follows in block g. -/
inductive Acq (w : World) (x : Nat) (who tk sv ow : Int) : Nat → Nat → Nat → Int → Prop
  | fresh (q : Nat) : Blk w x (acqCells who (some ⟨q, 0, none⟩) sv ow 0 false) 147 → Blk w q (comCells 4 0 tk 0 1 false .nilIface (.func (.func 93) #[.pointer (some ⟨x, 0, none⟩)] #[]) false false) 199 → q ≠ x → Acq w x who tk sv ow q x 0 0
  | wait (q : Nat) (t : Int) : Blk w x (acqCells who (some ⟨q, 0, none⟩) sv ow t true) 147 → Blk w q (comCells 1 0 sv 0 0 false .nilIface (.func (.func 159) #[.pointer (some ⟨x, 0, none⟩)] #[]) false false) 199 → q ≠ x → Acq w x who tk sv ow q x 1 t
  | has (q g : Nat) (t : Int) : Blk w x (acqCells who (some ⟨q, 0, none⟩) sv ow t true) 147 → Blk w q (comCells 2 0 ow 0 (who + 1) false .nilIface (.func (.func 160) #[] #[.pointer (some ⟨g, 0, none⟩)]) false false) 199 → Blk w g #[.nilFunc] 1 → q ≠ x → g ≠ x → Acq w x who tk sv ow q g 2 t
  | over (t : Int) : Blk w x (acqCells who none sv ow t true) 147 → Acq w x who tk sv ow x x 3 t
theorem Acq.but {w w' : World} {x q g ph : Nat} {who tk sv ow t : Int} {l : List Nat} (h : Acq w x who tk sv ow q g ph t) (hb : But l w w') (hx : x ∉ l) (hq : q ∉ l) (hg : g ∉ l) : Acq w' x who tk sv ow q g ph t := by
  cases h with
  | fresh _ a b c => exact .fresh _ (a.but hb hx) (b.but hb hq) c
  | wait _ _ a b c => exact .wait _ _ (a.but hb hx) (b.but hb hq) c
  | has _ _ _ a b c d e => exact .has _ _ _ (a.but hb hx) (b.but hb hq) (c.but hb hg) d e
  | over _ a => exact .over _ (a.but hb hx)
theorem Acq.lt {w : World} {x q g ph : Nat} {who tk sv ow t : Int} (h : Acq w x who tk sv ow q g ph t) : x < w.heap.size ∧ q < w.heap.size ∧ g < w.heap.size := by
  cases h with
  | fresh _ a b c => exact ⟨a.lt, b.lt, a.lt⟩
  | wait _ _ a b c => exact ⟨a.lt, b.lt, a.lt⟩
  | has _ _ _ a b c d e => exact ⟨a.lt, b.lt, c.lt⟩
  | over _ a => exact ⟨a.lt, a.lt, a.lt⟩
/-- Which phase is the last one, and what comes next. -/
theorem Acq.next {w : World} {x q g ph : Nat} {who tk sv ow t : Int} (h : Acq w x who tk sv ow q g ph t) : ∃ nx, w.cell? ⟨x, 1, none⟩ = some (.pointer nx) ∧ nx.isNone = decide (ph = 3) := by
  cases h with
  | fresh _ a b c => exact ⟨_, a.cell 1 rfl, rfl⟩
  | wait _ _ a b c => exact ⟨_, a.cell 1 rfl, rfl⟩
  | has _ _ _ a b c d e => exact ⟨_, a.cell 1 rfl, rfl⟩
  | over _ a => exact ⟨_, a.cell 1 rfl, rfl⟩
theorem Acq.cells {w : World} {x q g ph : Nat} {who tk sv ow t : Int} (h : Acq w x who tk sv ow q g ph t) : ∃ nx, Blk w x (acqCells who nx sv ow t (decide (ph ≠ 0))) 147 := by
  cases h with
  | fresh _ a b c => exact ⟨_, a⟩
  | wait _ _ a b c => exact ⟨_, a⟩
  | has _ _ _ a b c d e => exact ⟨_, a⟩
  | over _ a => exact ⟨_, a⟩

/-- A machine that releases a lock. -/
inductive Rel (w : World) (x : Nat) (who sv ow : Int) : Nat → Nat → Nat → Prop
  | fresh (q g : Nat) : Blk w x (relCells who (some ⟨q, 0, none⟩) sv) 144 → Blk w q (comCells 2 0 ow 0 0 false .nilIface (.func (.func 160) #[] #[.pointer (some ⟨g, 0, none⟩)]) false false) 199 → Blk w g #[.func (.func 96) #[.pointer (some ⟨x, 0, none⟩)] #[]] 1 → q ≠ x → g ≠ x → Rel w x who sv ow q g 0
  | pass (q g : Nat) : Blk w x (relCells who (some ⟨q, 0, none⟩) sv) 144 → Blk w q (comCells 4 0 sv 0 1 false .nilIface (.func (.func 160) #[] #[.pointer (some ⟨g, 0, none⟩)]) false false) 199 → Blk w g #[.nilFunc] 1 → q ≠ x → g ≠ x → Rel w x who sv ow q g 1
  | over : Blk w x (relCells who none sv) 144 → Rel w x who sv ow x x 2
theorem Rel.but {w w' : World} {x q g ph : Nat} {who sv ow : Int} {l : List Nat} (h : Rel w x who sv ow q g ph) (hb : But l w w') (hx : x ∉ l) (hq : q ∉ l) (hg : g ∉ l) : Rel w' x who sv ow q g ph := by
  cases h with
  | fresh _ _ a b c d e => exact .fresh _ _ (a.but hb hx) (b.but hb hq) (c.but hb hg) d e
  | pass _ _ a b c d e => exact .pass _ _ (a.but hb hx) (b.but hb hq) (c.but hb hg) d e
  | over a => exact .over (a.but hb hx)
theorem Rel.lt {w : World} {x q g ph : Nat} {who sv ow : Int} (h : Rel w x who sv ow q g ph) : x < w.heap.size ∧ q < w.heap.size ∧ g < w.heap.size := by
  cases h with
  | fresh _ _ a b c d e => exact ⟨a.lt, b.lt, c.lt⟩
  | pass _ _ a b c d e => exact ⟨a.lt, b.lt, c.lt⟩
  | over a => exact ⟨a.lt, a.lt, a.lt⟩
theorem Rel.next {w : World} {x q g ph : Nat} {who sv ow : Int} (h : Rel w x who sv ow q g ph) : ∃ nx, w.cell? ⟨x, 1, none⟩ = some (.pointer nx) ∧ nx.isNone = decide (ph = 2) := by
  cases h with
  | fresh _ _ a b c d e => exact ⟨_, a.cell 1 rfl, rfl⟩
  | pass _ _ a b c d e => exact ⟨_, a.cell 1 rfl, rfl⟩
  | over a => exact ⟨_, a.cell 1 rfl, rfl⟩
def relS (who sv ow : Int) (n ph : Nat) (s : St) : St := if ph = 0 then stp 2 who ow 0 0 n s else if ph = 1 then stp 4 who sv 0 1 n s else s
def relP (ph : Nat) : Nat := if ph = 0 then 1 else 2

def acqS (who tk sv ow : Int) (n ph : Nat) (s : St) : St := if ph = 0 then stp 4 who tk 0 1 n s else if ph = 1 then stp 1 who sv 0 0 n s else if ph = 2 then stp 2 who ow 0 (who + 1) n s else s
def acqP (tk sv : Int) (n ph : Nat) (t : Int) (s : St) : Nat := if ph = 0 then 1 else if ph = 1 then (if ans 1 sv 0 0 n s = t then 2 else 1) else 3
def acqT (tk : Int) (n ph : Nat) (t : Int) (s : St) : Int := if ph = 0 then turnOf (ans 4 tk 0 1 n s) else t

theorem ans_add_bd (i new : Int) (n : Nat) (s : St) : 0 ≤ ans 4 i 0 new n s ∧ ans 4 i 0 new n s ≤ 4294967295 := by
  unfold ans
  split
  · simp only [show ((4 : Int) = 1) = False by simp, show ((4 : Int) = 3) = False by simp, if_true, if_false]; omega
  · omega

/-- How a step of a machine leaves memory and heap. -/
structure Went (w w' : World) (A : Option Addr) (cp cm b n : Nat) (s' : St) (x : Nat) : Prop where
  mem : Is w' 122 A cp cm b n s'
  but : But [cm, b, x] w w'
theorem Went.of {w W w' : World} {A : Option Addr} {cp cm b n : Nat} {s' : St} {x : Nat} {u : Value} (hI : Is W 122 A cp cm b n s') (hB : But [cm, b] w W) (hB2 : But [x] (W.setCell ⟨x, 1, none⟩ u) w') (h1 : x ≠ cm) (h2 : x ≠ b) : Went w w' A cp cm b n s' x := by
  have hk : Is (W.setCell ⟨x, 1, none⟩ u) 122 A cp cm b n s' := hI.keep (by rw [size_set]; exact Nat.le_refl _) (heap_set_ne _ (Ne.symm h1) _ _) (fun _ => heap_set_ne _ (Ne.symm h2) _ _)
  exact ⟨hk.but hB2 (by simpa using Ne.symm h1) (by simpa using Ne.symm h2), ((hB.more (l' := [cm, b, x]) (by intro k _ hk; simp at hk ⊢; omega)).set (g := x) (.inl (by simp)) _ _).trans (hB2.more (by intro k _ hk; simp at hk ⊢; omega))⟩
theorem Went.still {w W : World} {A : Option Addr} {cp cm b n : Nat} {s' : St} {x : Nat} {u : Value} (hI : Is W 122 A cp cm b n s') (hB : But [cm, b] w W) (h1 : x ≠ cm) (h2 : x ≠ b) : Went w (W.setCell ⟨x, 1, none⟩ u) A cp cm b n s' x :=
  Went.of hI hB (But.refl _ _) h1 h2

section
variable (w : World) (A : Option Addr) (cp cm b n : Nat) (s : St) (hI : Is w 122 A cp cm b n s) (hn : n ≤ 1000000) (hl : Low s 1000000)
include hI hn hl

/-- A step of a machine at which an access is to come, and a function is to follow. -/
theorem step_acc (x q K : Nat) (cs first cap : Array Value) (T : TypeId) (k who ao i old new : Int) (d asl asked : Bool) (Post : Option Addr → World → Prop) (hx : Blk w x cs T) (h0 : cs[0]? = some (.int .i64 who)) (h1 : cs[1]? = some (.pointer (some ⟨q, 0, none⟩)))
    (hq : Blk w q (comCells k ao i old new d .nilIface (.func (.func K) first cap) asl asked) 199) (hne : q ≠ x) (hk : 1 ≤ k ∧ k ≤ 4) (hnb : 0 ≤ new ∧ new ≤ 18446744073709551615) (hxc : x ≠ cm) (hxb : x ≠ b) (hqc : q ≠ cm) (hqb : q ≠ b)
    (hent : ∀ w, (callFunc K (first.push (.int .u64 (actA k i old new n s)) ++ cap)).run Try.prog w = .ok (.enter K (first.push (.int .u64 (actA k i old new n s)) ++ cap)) w)
    (hthen : ∀ W, Is W 122 A cp cm b n (actS k who i old new n s) → But [cm, b] w W → Blk W x cs T → Calls Try.prog K (first.push (.int .u64 (actA k i old new n s)) ++ cap) (W.setCell ⟨x, 1, none⟩ (.pointer none)) fun e w' => (∃ v, e = .returned v) ∧ ∃ nx, w'.cell? ⟨x, 1, none⟩ = some (.pointer nx) ∧ Post nx w') :
    Calls Try.prog 84 #[.pointer (some ⟨x, 0, none⟩), .pointer (some ⟨cm, 0, none⟩)] w fun e w' => ∃ z, e = .returned (.bool z) ∧ ∃ nx, z = nx.isNone ∧ Post nx w' := by
  have hA := act_any w A cp cm b n s q k who ao i old new d _ asl asked hk hI hn hl hnb hq
  refine (step_over w x q cm K cs first cap T who (actA k i old new n s) (comCells k ao i old new d .nilIface (.func (.func K) first cap) asl asked) (fun W => Is W 122 A cp cm b n (actS k who i old new n s) ∧ But [cm, b] w W) Post hx h0 h1 hne hA hent rfl ?_).mono ?_
  · rintro W ⟨hM, hB⟩
    have hx1 := hx.but hB (by simp [hxc, hxb])
    exact ⟨hx1, hq.but hB (by simp [hqc, hqb]), hthen W hM hB hx1⟩
  · rintro e w' ⟨nx, rfl, hP⟩
    exact ⟨_, rfl, nx, rfl, hP⟩

/-- A step of a machine at which an access is to come, and nothing is to follow. -/
theorem step_last (x q g : Nat) (cs : Array Value) (T : TypeId) (k who ao i old new : Int) (d asl asked : Bool) (hx : Blk w x cs T) (h0 : cs[0]? = some (.int .i64 who)) (h1 : cs[1]? = some (.pointer (some ⟨q, 0, none⟩)))
    (hq : Blk w q (comCells k ao i old new d .nilIface (.func (.func 160) #[] #[.pointer (some ⟨g, 0, none⟩)]) asl asked) 199) (hg : Blk w g #[.nilFunc] 1) (hne : q ≠ x) (hge : g ≠ x) (hk : 1 ≤ k ∧ k ≤ 4) (hnb : 0 ≤ new ∧ new ≤ 18446744073709551615) (hxc : x ≠ cm) (hxb : x ≠ b) (hqc : q ≠ cm) (hqb : q ≠ b) (hgc : g ≠ cm) (hgb : g ≠ b) :
    Calls Try.prog 84 #[.pointer (some ⟨x, 0, none⟩), .pointer (some ⟨cm, 0, none⟩)] w fun e w' => ∃ z, e = .returned (.bool z) ∧ z = true ∧ Blk w' x (cs.setIfInBounds 1 (.pointer none)) T ∧ Went w w' A cp cm b n (actS k who i old new n s) x := by
  have hs : 1 < cs.size := by
    rcases Nat.lt_or_ge 1 cs.size with h | h
    · exact h
    · rw [Array.getElem?_eq_none h] at h1; cases h1
  refine (step_acc w A cp cm b n s hI hn hl x q 160 cs #[] #[.pointer (some ⟨g, 0, none⟩)] T k who ao i old new d asl asked (fun nx w' => nx = none ∧ Blk w' x (cs.setIfInBounds 1 (.pointer none)) T ∧ Went w w' A cp cm b n (actS k who i old new n s) x) hx h0 h1 hq hne hk hnb hxc hxb hqc hqb (fun w => ent160 _ w) ?_).mono ?_
  · intro W hM hB hx1
    refine (run_untold_nil _ g _ ((hg.but hB (by simp [hgc, hgb])).setne hge 1 _)).mono ?_
    rintro e w' ⟨hv, rfl⟩
    have hx2 := hx1.set 1 (.pointer none)
    exact ⟨hv, none, hx2.cell 1 (by simp [hs]), rfl, hx2, Went.still hM hB hxc hxb⟩
  · rintro e w' ⟨z, rfl, nx, rfl, rfl, h3, h4⟩
    exact ⟨true, rfl, rfl, h3, h4⟩

theorem acq_goes (x q g ph : Nat) (who tk sv ow t : Int) (hw : 0 ≤ who ∧ who ≤ 1000000) (h : Acq w x who tk sv ow q g ph t) (hxc : x ≠ cm) (hxb : x ≠ b) (hqc : q ≠ cm) (hqb : q ≠ b) (hgc : g ≠ cm) (hgb : g ≠ b) :
    Calls Try.prog 34 #[.pointer (some ⟨x, 0, none⟩), .pointer (some ⟨cm, 0, none⟩)] w fun e w' => ∃ q' g', e = .returned (.bool (decide (acqP tk sv n ph t s = 3))) ∧ Acq w' x who tk sv ow q' g' (acqP tk sv n ph t s) (acqT tk n ph t s) ∧ Went w w' A cp cm b n (acqS who tk sv ow n ph s) x ∧ (q' = x ∨ w.heap.size ≤ q') ∧ (g' = x ∨ w.heap.size ≤ g') := by
  cases h with
  | fresh _ hx hq hne =>
    have hbd := ans_add_bd tk 1 n s
    refine (acq_step _ x _ _ (step_acc w A cp cm b n s hI hn hl x q 93 _ #[.pointer (some ⟨x, 0, none⟩)] #[] 147 4 who 0 tk 0 1 false false false (fun nx w' => ∃ q', nx = some ⟨q', 0, none⟩ ∧ Acq w' x who tk sv ow q' x 1 (turnOf (ans 4 tk 0 1 n s)) ∧ Went w w' A cp cm b n (stp 4 who tk 0 1 n s) x ∧ w.heap.size ≤ q') hx rfl rfl hq hne (by omega) (by omega) hxc hxb hqc hqb (fun w => ent93 _ w) ?_)).mono ?_
    · intro W hM hB hx1
      refine (draw_any _ x who sv ow 0 (ans 4 tk 0 1 n s) none false (hx1.set 1 (.pointer none)) hbd).mono ?_
      rintro e w' ⟨hv, q', hC⟩
      have hf := hC.fresh
      rw [size_set] at hf
      have hlt := hx1.lt
      exact ⟨hv, _, hC.own.cell 1 rfl, q', rfl, .wait q' _ hC.own hC.com (by omega), Went.of hM hB hC.but hxc hxb, Nat.le_trans hB.size hf⟩
    · rintro e w' ⟨z, rfl, nx, rfl, q', rfl, h1, h2, h3⟩
      exact ⟨q', x, rfl, h1, h2, .inr h3, .inl rfl⟩
  | wait _ _ hx hq hne =>
    by_cases ht : ans 1 sv 0 0 n s = t
    · have eP : acqP tk sv n 1 t s = 2 := by simp [acqP, ht]
      rw [eP]
      refine (acq_step _ x _ _ (step_acc w A cp cm b n s hI hn hl x q 159 _ #[.pointer (some ⟨x, 0, none⟩)] #[] 147 1 who 0 sv 0 0 false false false (fun nx w' => ∃ q' g', nx = some ⟨q', 0, none⟩ ∧ Acq w' x who tk sv ow q' g' 2 t ∧ Went w w' A cp cm b n (stp 1 who sv 0 0 n s) x ∧ w.heap.size ≤ q' ∧ w.heap.size ≤ g') hx rfl rfl hq hne (by omega) (by omega) hxc hxb hqc hqb (fun w => ent159 _ w) ?_)).mono ?_
      · intro W hM hB hx1
        refine Calls.mono (show Calls Try.prog 159 #[.pointer (some ⟨x, 0, none⟩), .int .u64 (ans 1 sv 0 0 n s)] _ _ by rw [ht]; exact serve_has _ x who sv ow t none true (hx1.set 1 (.pointer none)) hw) ?_
        rintro e w' ⟨hv, q', g', hC⟩
        have hf := hC.at'.fresh
        have hg := hC.fresh
        rw [size_set] at hf hg
        have hlt := hx1.lt
        exact ⟨hv, _, hC.at'.own.cell 1 rfl, q', g', rfl, .has q' g' _ hC.at'.own hC.at'.com hC.box (by omega) (by omega), Went.of hM hB hC.at'.but hxc hxb, Nat.le_trans hB.size hf, Nat.le_trans hB.size hg⟩
      · rintro e w' ⟨z, rfl, nx, rfl, q', g', rfl, h1, h2, h3, h4⟩
        exact ⟨q', g', rfl, h1, h2, .inr h3, .inr h4⟩
    · have eP : acqP tk sv n 1 t s = 1 := by simp [acqP, ht]
      rw [eP]
      refine (acq_step _ x _ _ (step_acc w A cp cm b n s hI hn hl x q 159 _ #[.pointer (some ⟨x, 0, none⟩)] #[] 147 1 who 0 sv 0 0 false false false (fun nx w' => ∃ q', nx = some ⟨q', 0, none⟩ ∧ Acq w' x who tk sv ow q' x 1 t ∧ Went w w' A cp cm b n (stp 1 who sv 0 0 n s) x ∧ w.heap.size ≤ q') hx rfl rfl hq hne (by omega) (by omega) hxc hxb hqc hqb (fun w => ent159 _ w) ?_)).mono ?_
      · intro W hM hB hx1
        refine (serve_not _ x who sv ow t (ans 1 sv 0 0 n s) none true (hx1.set 1 (.pointer none)) ht).mono ?_
        rintro e w' ⟨hv, q', hC⟩
        have hf := hC.fresh
        rw [size_set] at hf
        have hlt := hx1.lt
        exact ⟨hv, _, hC.own.cell 1 rfl, q', rfl, .wait q' _ hC.own hC.com (by omega), Went.of hM hB hC.but hxc hxb, Nat.le_trans hB.size hf⟩
      · rintro e w' ⟨z, rfl, nx, rfl, q', rfl, h1, h2, h3⟩
        exact ⟨q', x, rfl, h1, h2, .inr h3, .inl rfl⟩
  | has _ _ _ hx hq hg hne hge =>
    refine (acq_step _ x _ _ (step_last w A cp cm b n s hI hn hl x q g _ 147 2 who 0 ow 0 (who + 1) false false false hx rfl rfl hq hg hne hge (by omega) (by omega) hxc hxb hqc hqb hgc hgb)).mono ?_
    rintro e w' ⟨z, rfl, rfl, h1, h2⟩
    exact ⟨x, x, rfl, .over _ h1, h2, .inl rfl, .inl rfl⟩
  | over _ hx =>
    refine (acq_step _ x _ (fun z w' => z = true ∧ w = w') ((step_none w x cm (hx.cell 1 rfl)).mono ?_)).mono ?_
    · rintro e w' ⟨rfl, rfl⟩; exact ⟨true, rfl, rfl, rfl⟩
    · rintro e w' ⟨z, rfl, rfl, rfl⟩
      exact ⟨x, x, rfl, .over _ hx, ⟨hI, But.refl _ _⟩, .inl rfl, .inl rfl⟩

theorem rel_goes (x q g ph : Nat) (who sv ow : Int) (h : Rel w x who sv ow q g ph) (hxc : x ≠ cm) (hxb : x ≠ b) (hqc : q ≠ cm) (hqb : q ≠ b) (hgc : g ≠ cm) (hgb : g ≠ b) :
    Calls Try.prog 33 #[.pointer (some ⟨x, 0, none⟩), .pointer (some ⟨cm, 0, none⟩)] w fun e w' => ∃ q' g', e = .returned (.bool (decide (relP ph = 2))) ∧ Rel w' x who sv ow q' g' (relP ph) ∧ Went w w' A cp cm b n (relS who sv ow n ph s) x ∧ (q' = x ∨ w.heap.size ≤ q') ∧ (g' = x ∨ w.heap.size ≤ g') := by
  cases h with
  | fresh _ _ hx hq hg hne hge =>
    refine (rel_step _ x _ _ (step_acc w A cp cm b n s hI hn hl x q 160 _ #[] #[.pointer (some ⟨g, 0, none⟩)] 144 2 who 0 ow 0 0 false false false (fun nx w' => ∃ q' g', nx = some ⟨q', 0, none⟩ ∧ Rel w' x who sv ow q' g' 1 ∧ Went w w' A cp cm b n (stp 2 who ow 0 0 n s) x ∧ w.heap.size ≤ q' ∧ w.heap.size ≤ g') hx rfl rfl hq hne (by omega) (by omega) hxc hxb hqc hqb (fun w => ent160 _ w) ?_)).mono ?_
    · intro W hM hB hx1
      refine (run_untold _ g 96 _ #[.pointer (some ⟨x, 0, none⟩)] #[] (fun w' => ∃ nx, w'.cell? ⟨x, 1, none⟩ = some (.pointer nx) ∧ ∃ q' g', nx = some ⟨q', 0, none⟩ ∧ Rel w' x who sv ow q' g' 1 ∧ Went w w' A cp cm b n (stp 2 who ow 0 0 n s) x ∧ w.heap.size ≤ q' ∧ w.heap.size ≤ g') ((hg.but hB (by simp [hgc, hgb])).setne hge 1 _) (fun w => ent96 _ w) ?_)
      refine (pass_any _ x who sv none (hx1.set 1 (.pointer none))).mono ?_
      rintro e w' ⟨hv, q', g', hC⟩
      have hf := hC.at'.fresh
      have hg := hC.fresh
      rw [size_set] at hf hg
      have hlt := hx1.lt
      exact ⟨hv, _, hC.at'.own.cell 1 rfl, q', g', rfl, .pass q' g' hC.at'.own hC.at'.com hC.box (by omega) (by omega), Went.of hM hB hC.at'.but hxc hxb, Nat.le_trans hB.size hf, Nat.le_trans hB.size hg⟩
    · rintro e w' ⟨z, rfl, nx, rfl, q', g', rfl, h1, h2, h3, h4⟩
      exact ⟨q', g', rfl, h1, h2, .inr h3, .inr h4⟩
  | pass _ _ hx hq hg hne hge =>
    refine (rel_step _ x _ _ (step_last w A cp cm b n s hI hn hl x q g _ 144 4 who 0 sv 0 1 false false false hx rfl rfl hq hg hne hge (by omega) (by omega) hxc hxb hqc hqb hgc hgb)).mono ?_
    rintro e w' ⟨z, rfl, rfl, h1, h2⟩
    exact ⟨x, x, rfl, .over h1, h2, .inl rfl, .inl rfl⟩
  | over hx =>
    refine (rel_step _ x _ (fun z w' => z = true ∧ w = w') ((step_none w x cm (hx.cell 1 rfl)).mono ?_)).mono ?_
    · rintro e w' ⟨rfl, rfl⟩; exact ⟨true, rfl, rfl, rfl⟩
    · rintro e w' ⟨z, rfl, rfl, rfl⟩
      exact ⟨x, x, rfl, .over hx, ⟨hI, But.refl _ _⟩, .inl rfl, .inl rfl⟩
end
end Go.Proofs.Ytlnjjcfkcoaceaa
