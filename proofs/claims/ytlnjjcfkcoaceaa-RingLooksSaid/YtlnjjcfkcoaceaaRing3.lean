/- Looking at a ring: the steps of the machine. -/
import Derived.Test.YtlnjjcfkcoaceaaRing2
import Derived.Test.YtlnjjcfkcoaceaaLock4
namespace Go.Proofs.Ytlnjjcfkcoaceaa
open Go Go.RowKit
set_option linter.unusedVariables false
set_option maxRecDepth 100000
set_option linter.unusedSimpArgs false


theorem look_step (w : World) (x : Nat) (mv : Value) (M : Bool → World → Prop) (h : Calls Try.prog 84 #[.pointer (some ⟨x, 0, none⟩), mv] w fun e w' => ∃ z, e = .returned (.bool z) ∧ M z w') :
    Calls Try.prog 67 #[.pointer (some ⟨x, 0, none⟩), mv] w fun e w' => ∃ z, e = .returned (.bool z) ∧ M z w' := by
  go_enter Try.func67, Try.ntmps67
  go_wp2_with fail
  go_at_call 84; refine h.mono ?_; rintro e w1 ⟨z, rfl, h1⟩
  go_wp2_with fail
  go_ret
  exact ⟨z, rfl, h1⟩
theorem look_step_nil (w : World) (mv : Value) : Calls Try.prog 67 #[.pointer none, mv] w fun e w' => e = .returned (.bool true) ∧ w = w' := by
  go_enter Try.func67, Try.ntmps67
  go_wp2_with fail
  go_ret
  exact ⟨rfl, rfl⟩
theorem look_done (w : World) (x : Nat) (nx : Option Addr) (hc : w.cell? ⟨x, 1, none⟩ = some (.pointer nx)) :
    Calls Try.prog 65 #[.pointer (some ⟨x, 0, none⟩)] w fun e w' => e = .returned (.bool nx.isNone) ∧ w = w' := by
  have h := fdone_any w x nx hc
  go_enter Try.func65, Try.ntmps65
  go_wp2_with fail
  go_at_call 82; refine h.mono ?_; rintro e w1 ⟨rfl, rfl⟩
  go_wp2_with fail
  go_ret
  exact ⟨rfl, rfl⟩
theorem look_done_nil (w : World) : Calls Try.prog 65 #[.pointer none] w fun e w' => e = .returned (.bool true) ∧ w = w' := by
  go_enter Try.func65, Try.ntmps65
  go_wp2_with fail
  go_ret
  exact ⟨rfl, rfl⟩
theorem look_empty (w : World) (x : Nat) (em : Bool) (hc : w.cell? ⟨x, 7, none⟩ = some (.bool em)) :
    Calls Try.prog 66 #[.pointer (some ⟨x, 0, none⟩)] w fun e w' => e = .returned (.bool em) ∧ w = w' := by
  go_enter Try.func66, Try.ntmps66
  go_wp2_with fail
  go_ret
  exact ⟨rfl, rfl⟩
theorem look_empty_nil (w : World) : Calls Try.prog 66 #[.pointer none] w fun e w' => e = .returned (.bool false) ∧ w = w' := by
  go_enter Try.func66, Try.ntmps66
  go_wp2_with fail
  go_ret
  exact ⟨rfl, rfl⟩

theorem ent116 (args : Array Value) (w : World) : (callFunc 116 args).run Try.prog w = .ok (.enter 116 args) w := by kernel_rfl
theorem ent151 (args : Array Value) (w : World) : (callFunc 151 args).run Try.prog w = .ok (.enter 151 args) w := by kernel_rfl
theorem ent168 (args : Array Value) (w : World) : (callFunc 168 args).run Try.prog w = .ok (.enter 168 args) w := by kernel_rfl
theorem ent173 (args : Array Value) (w : World) : (callFunc 173 args).run Try.prog w = .ok (.enter 173 args) w := by kernel_rfl

/-- A machine that looks at a ring: what comes next lies at block q. -/
inductive Lk (w : World) (x cl : Nat) (P who p : Int) : Nat → Nat → Int → Int → Int → Bool → Prop
  | s0 (q : Nat) : Blk w x (lookCells who (some ⟨q, 0, none⟩) cl p 0 0 0 false) 184 → Blk w q (comCells 1 0 (wd 20 P 264 p 1) 0 0 false .nilIface (.func (.func 116) #[.pointer (some ⟨x, 0, none⟩)] #[]) false false) 199 → q ≠ x → Lk w x cl P who p q 0 0 0 0 false
  | s1 (q : Nat) (hd : Int) : Blk w x (lookCells who (some ⟨q, 0, none⟩) cl p hd 0 0 false) 184 → Blk w q (comCells 1 0 (wd 20 P 264 p 2) 0 0 false .nilIface (.func (.func 151) #[.pointer (some ⟨x, 0, none⟩)] #[]) false false) 199 → q ≠ x → Lk w x cl P who p q 1 hd 0 0 false
  | s2 (q : Nat) (hd tl : Int) : Blk w x (lookCells who (some ⟨q, 0, none⟩) cl p hd tl 0 false) 184 → Blk w q (comCells 1 0 (wd 20 P 264 p 3) 0 0 false .nilIface (.func (.func 168) #[.pointer (some ⟨x, 0, none⟩)] #[]) false false) 199 → q ≠ x → Lk w x cl P who p q 2 hd tl 0 false
  | s3 (q : Nat) (hd tl nt : Int) : Blk w x (lookCells who (some ⟨q, 0, none⟩) cl p hd tl nt false) 184 → Blk w q (comCells 1 0 (wd 20 P 264 p 2) 0 0 false .nilIface (.func (.func 173) #[.pointer (some ⟨x, 0, none⟩)] #[]) false false) 199 → q ≠ x → Lk w x cl P who p q 3 hd tl nt false
  | over (hd tl nt : Int) (em : Bool) : Blk w x (lookCells who none cl p hd tl nt em) 184 → Lk w x cl P who p x 4 hd tl nt em

section
variable {w w' : World} {x cl q ph : Nat} {P who p hd tl nt : Int} {em : Bool} {l : List Nat}
theorem Lk.but (h : Lk w x cl P who p q ph hd tl nt em) (hb : But l w w') (hx : x ∉ l) (hq : q ∉ l) : Lk w' x cl P who p q ph hd tl nt em := by
  cases h with
  | s0 _ a b c => exact .s0 _ (a.but hb hx) (b.but hb hq) c
  | s1 _ _ a b c => exact .s1 _ _ (a.but hb hx) (b.but hb hq) c
  | s2 _ _ _ a b c => exact .s2 _ _ _ (a.but hb hx) (b.but hb hq) c
  | s3 _ _ _ _ a b c => exact .s3 _ _ _ _ (a.but hb hx) (b.but hb hq) c
  | over _ _ _ _ a => exact .over _ _ _ _ (a.but hb hx)
theorem Lk.below (h : Lk w x cl P who p q ph hd tl nt em) (hb : Below w.heap.size w w') : Lk w' x cl P who p q ph hd tl nt em := h.but (But.of_below (l := []) hb) (by simp) (by simp)
theorem Lk.main (h : Lk w x cl P who p q ph hd tl nt em) : ∃ nx, Blk w x (lookCells who nx cl p hd tl nt em) 184 ∧ nx.isNone = decide (ph = 4) := by
  cases h with
  | s0 _ a b c => exact ⟨_, a, rfl⟩
  | s1 _ _ a b c => exact ⟨_, a, rfl⟩
  | s2 _ _ _ a b c => exact ⟨_, a, rfl⟩
  | s3 _ _ _ _ a b c => exact ⟨_, a, rfl⟩
  | over _ _ _ _ a => exact ⟨_, a, rfl⟩
theorem Lk.lt (h : Lk w x cl P who p q ph hd tl nt em) : x < w.heap.size ∧ q < w.heap.size := by
  cases h with
  | s0 _ a b c => exact ⟨a.lt, b.lt⟩
  | s1 _ _ a b c => exact ⟨a.lt, b.lt⟩
  | s2 _ _ _ a b c => exact ⟨a.lt, b.lt⟩
  | s3 _ _ _ _ a b c => exact ⟨a.lt, b.lt⟩
  | over _ _ _ _ a => exact ⟨a.lt, a.lt⟩
end
def lkF (ph : Nat) : Int := if ph = 0 then 1 else if ph = 2 then 3 else 2
def lkS (P who p : Int) (n ph : Nat) (s : St) : St := if ph < 4 then stp 1 who (wd 20 P 264 p (lkF ph)) 0 0 n s else s
def lkA (P p : Int) (n ph : Nat) (s : St) : Int := ans 1 (wd 20 P 264 p (lkF ph)) 0 0 n s
theorem lkS_low {s : St} {m : Int} (h : Low s m) (P who p : Int) (n ph : Nat) : Low (lkS P who p n ph s) (m + 1) := by
  unfold lkS
  split
  · exact stp_low h _ _ _ _ _ _
  · exact h.more (by omega)

section
variable (w : World) (A : Option Addr) (cp cm b n : Nat) (s : St) (hI : Is w 122 A cp cm b n s) (hn : n ≤ 1000000) (hl : Low s 1000000)
include hI hn hl

theorem lk_on (x cl q ph : Nat) (P T G who p hd tl nt : Int) (em : Bool) (h : Lk w x cl P who p q ph hd tl nt em) (hL : Lay w cl P T G) (hp : 0 ≤ P ∧ P ≤ 64) (hxc : x ≠ cm) (hxb : x ≠ b) (hqc : q ≠ cm) (hqb : q ≠ b) (hcx : cl ≠ x) (hcc : cl ≠ cm) (hcb : cl ≠ b) :
    Calls Try.prog 67 #[.pointer (some ⟨x, 0, none⟩), .pointer (some ⟨cm, 0, none⟩)] w fun e w' => (∃ z, e = .returned (.bool z)) ∧ ∃ q', Lk w' x cl P who p q' (if ph < 4 then ph + 1 else 4) (if ph = 0 then lkA P p n ph s else hd) (if ph = 1 then lkA P p n ph s else tl) (if ph = 2 then lkA P p n ph s else nt) (if ph = 3 then decide (lkA P p n ph s = tl ∧ lkA P p n ph s = hd ∧ nt = 0) else em) ∧ Is w' 122 A cp cm b n (lkS P who p n ph s) ∧ But [cm, b, x] w w' ∧ (q' = x ∨ w.heap.size ≤ q') := by
  have hLW : ∀ W u, But [cm, b] w W → Lay (W.setCell ⟨x, 1, none⟩ u) cl P T G := fun W u hB => (heap_set_ne W hcx 1 u).trans ((hB.block cl hL.lt (by simp [hcc, hcb])).trans hL)
  cases h with
  | s0 _ ha hb hne =>
    refine (look_step _ x _ _ (step_acc w A cp cm b n s hI hn hl x q 116 _ #[.pointer (some ⟨x, 0, none⟩)] #[] 184 1 who 0 (wd 20 P 264 p 1) 0 0 false false false (fun nx w' => ∃ q', nx = some ⟨q', 0, none⟩ ∧ Lk w' x cl P who p q' 1 (ans 1 (wd 20 P 264 p 1) 0 0 n s) 0 0 false ∧ Went w w' A cp cm b n (stp 1 who (wd 20 P 264 p 1) 0 0 n s) x ∧ w.heap.size ≤ q') ha rfl rfl hb hne (by omega) (by omega) hxc hxb hqc hqb (fun w => ent116 _ w) ?_)).mono ?_
    · intro W hM hB hx1
      refine (seeHead_any _ x cl P T G who p 0 0 0 (ans 1 (wd 20 P 264 p 1) 0 0 n s) none false (hx1.set 1 (.pointer none)) (hLW W _ hB) hcx hp).mono ?_
      rintro e w' ⟨hv, q', hC⟩
      have hf := hC.fresh
      rw [size_set] at hf
      have hlt := hx1.lt
      exact ⟨hv, _, hC.own.cell 1 rfl, q', rfl, .s1 q' _ hC.own hC.com (by omega), Went.of hM hB hC.but hxc hxb, Nat.le_trans hB.size hf⟩
    · rintro e w' ⟨z, rfl, nx, rfl, q', rfl, h1, h2, h3⟩
      exact ⟨⟨_, rfl⟩, q', h1, h2.mem, h2.but, .inr h3⟩
  | s1 _ _ ha hb hne =>
    refine (look_step _ x _ _ (step_acc w A cp cm b n s hI hn hl x q 151 _ #[.pointer (some ⟨x, 0, none⟩)] #[] 184 1 who 0 (wd 20 P 264 p 2) 0 0 false false false (fun nx w' => ∃ q', nx = some ⟨q', 0, none⟩ ∧ Lk w' x cl P who p q' 2 hd (ans 1 (wd 20 P 264 p 2) 0 0 n s) 0 false ∧ Went w w' A cp cm b n (stp 1 who (wd 20 P 264 p 2) 0 0 n s) x ∧ w.heap.size ≤ q') ha rfl rfl hb hne (by omega) (by omega) hxc hxb hqc hqb (fun w => ent151 _ w) ?_)).mono ?_
    · intro W hM hB hx1
      refine (seeTail_any _ x cl P T G who p hd 0 0 (ans 1 (wd 20 P 264 p 2) 0 0 n s) none false (hx1.set 1 (.pointer none)) (hLW W _ hB) hcx hp).mono ?_
      rintro e w' ⟨hv, q', hC⟩
      have hf := hC.fresh
      rw [size_set] at hf
      have hlt := hx1.lt
      exact ⟨hv, _, hC.own.cell 1 rfl, q', rfl, .s2 q' _ _ hC.own hC.com (by omega), Went.of hM hB hC.but hxc hxb, Nat.le_trans hB.size hf⟩
    · rintro e w' ⟨z, rfl, nx, rfl, q', rfl, h1, h2, h3⟩
      exact ⟨⟨_, rfl⟩, q', h1, h2.mem, h2.but, .inr h3⟩
  | s2 _ _ _ ha hb hne =>
    refine (look_step _ x _ _ (step_acc w A cp cm b n s hI hn hl x q 168 _ #[.pointer (some ⟨x, 0, none⟩)] #[] 184 1 who 0 (wd 20 P 264 p 3) 0 0 false false false (fun nx w' => ∃ q', nx = some ⟨q', 0, none⟩ ∧ Lk w' x cl P who p q' 3 hd tl (ans 1 (wd 20 P 264 p 3) 0 0 n s) false ∧ Went w w' A cp cm b n (stp 1 who (wd 20 P 264 p 3) 0 0 n s) x ∧ w.heap.size ≤ q') ha rfl rfl hb hne (by omega) (by omega) hxc hxb hqc hqb (fun w => ent168 _ w) ?_)).mono ?_
    · intro W hM hB hx1
      refine (seeNext_any _ x cl P T G who p hd tl 0 (ans 1 (wd 20 P 264 p 3) 0 0 n s) none false (hx1.set 1 (.pointer none)) (hLW W _ hB) hcx hp).mono ?_
      rintro e w' ⟨hv, q', hC⟩
      have hf := hC.fresh
      rw [size_set] at hf
      have hlt := hx1.lt
      exact ⟨hv, _, hC.own.cell 1 rfl, q', rfl, .s3 q' _ _ _ hC.own hC.com (by omega), Went.of hM hB hC.but hxc hxb, Nat.le_trans hB.size hf⟩
    · rintro e w' ⟨z, rfl, nx, rfl, q', rfl, h1, h2, h3⟩
      exact ⟨⟨_, rfl⟩, q', h1, h2.mem, h2.but, .inr h3⟩
  | s3 _ _ _ _ ha hb hne =>
    refine (look_step _ x _ _ (step_acc w A cp cm b n s hI hn hl x q 173 _ #[.pointer (some ⟨x, 0, none⟩)] #[] 184 1 who 0 (wd 20 P 264 p 2) 0 0 false false false (fun nx w' => nx = none ∧ Lk w' x cl P who p x 4 hd tl nt (decide (ans 1 (wd 20 P 264 p 2) 0 0 n s = tl ∧ ans 1 (wd 20 P 264 p 2) 0 0 n s = hd ∧ nt = 0)) ∧ Went w w' A cp cm b n (stp 1 who (wd 20 P 264 p 2) 0 0 n s) x) ha rfl rfl hb hne (by omega) (by omega) hxc hxb hqc hqb (fun w => ent173 _ w) ?_)).mono ?_
    · intro W hM hB hx1
      refine (judge_any _ x cl who p hd tl nt (ans 1 (wd 20 P 264 p 2) 0 0 n s) none false (hx1.set 1 (.pointer none))).mono ?_
      rintro e w' ⟨hv, h1, h2⟩
      exact ⟨hv, _, h1.cell 1 rfl, rfl, .over _ _ _ _ h1, Went.of hM hB h2 hxc hxb⟩
    · rintro e w' ⟨z, rfl, nx, rfl, rfl, h1, h2⟩
      exact ⟨⟨_, rfl⟩, x, h1, h2.mem, h2.but, .inl rfl⟩
  | over _ _ _ _ ha =>
    refine (look_step w x _ (fun z w' => z = true ∧ w = w') ((step_none w x cm (ha.cell 1 rfl)).mono ?_)).mono ?_
    · rintro e w' ⟨rfl, rfl⟩; exact ⟨true, rfl, rfl, rfl⟩
    · rintro e w' ⟨z, rfl, rfl, rfl⟩
      exact ⟨⟨_, rfl⟩, x, .over _ _ _ _ ha, hI, But.refl _ _, .inl rfl⟩
end

end Go.Proofs.Ytlnjjcfkcoaceaa
