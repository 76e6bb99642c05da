/- Machines in memory: a flow, what comes, what follows. -/
import Derived.Test.YthjfbknmdligeaaGreatPm
import Derived.Test.YthjfbknmdligeaaGreatFlow2
import Derived.Test.YthjfbknmdligeaaGreatFlow6
import Derived.Test.YthjfbknmdligeaaGreatLay
namespace Go.Proofs.YthjfbknmdligeaaGreat
open Go Go.RowKit
set_option linter.unusedVariables false
set_option maxRecDepth 100000
set_option linter.unusedSimpArgs false

/-- What is only read. -/
structure Rd where
  B : List Nat
  P : World → Prop
  keep : ∀ (w w' : World) (l : List Nat), P w → But l w w' → (∀ k ∈ B, k ∉ l) → P w'
def Rd.nil : Rd := ⟨[], fun _ => True, fun _ _ _ _ _ _ => trivial⟩
def Rd.and (a b : Rd) : Rd := ⟨a.B ++ b.B, fun w => a.P w ∧ b.P w, fun w w' l h hb hk => ⟨a.keep w w' l h.1 hb (fun k hm => hk k (List.mem_append_left _ hm)), b.keep w w' l h.2 hb (fun k hm => hk k (List.mem_append_right _ hm))⟩⟩
def Rd.lay (cl : Nat) (P T G : Int) : Rd := ⟨[cl], fun w => Lay w cl P T G, fun w w' l h hb hk => (hb.block cl h.lt (hk cl (by simp))).trans h⟩
theorem Rd.below (R : Rd) {w w' : World} (h : R.P w) (hb : Below w.heap.size w w') : R.P w' := R.keep w w' [] h (But.of_below hb) (fun k _ => by simp)

/-- What follows: a function that is told the answer, one that is not, none, one that is told whether a swap was done. -/
inductive Fol where
  | told (K : Nat)
  | untold (K : Nat)
  | nil
  | swap (K : Nat)
def Fol.thn (f : Fol) (x g : Nat) : Value := match f with
  | .told K => .func (.func K) #[.pointer (some ⟨x, 0, none⟩)] #[]
  | .untold _ => .func (.func 110) #[] #[.pointer (some ⟨g, 0, none⟩)]
  | .nil => .func (.func 110) #[] #[.pointer (some ⟨g, 0, none⟩)]
  | .swap _ => .func (.func 151) #[] #[.pointer (some ⟨g, 0, none⟩)]
def Fol.box (f : Fol) (x : Nat) : Value := match f with
  | .told _ => .nilFunc
  | .nil => .nilFunc
  | .untold K => .func (.func K) #[.pointer (some ⟨x, 0, none⟩)] #[]
  | .swap K => .func (.func K) #[.pointer (some ⟨x, 0, none⟩)] #[]
def Fol.boxT (f : Fol) : TypeId := match f with
  | .swap _ => 194
  | _ => 1
def axCells (a : Ax) (v : Value) : Array Value := comCells a.k 0 a.i a.old a.new false .nilIface v false false

/-- An access comes. -/
inductive Com (w : World) (x q : Nat) (a : Ax) : Fol → List Nat → Prop
  | told (K : Nat) : Blk w q (axCells a (Fol.thn (.told K) x 0)) 148 → Com w x q a (.told K) [q]
  | box (f : Fol) (g : Nat) : (∀ K, f ≠ .told K) → Blk w q (axCells a (f.thn x g)) 148 → Blk w g #[f.box x] f.boxT → g ≠ q → Com w x q a f [q, g]
theorem Com.but {w w' : World} {x q : Nat} {a : Ax} {f : Fol} {l0 l : List Nat} (h : Com w x q a f l0) (hb : But l w w') (hk : ∀ k ∈ l0, k ∉ l) : Com w' x q a f l0 := by
  cases h with
  | told K h => exact .told K (h.but hb (hk _ (by simp)))
  | box f g h1 h2 h3 h4 => exact .box f g h1 (h2.but hb (hk _ (by simp))) (h3.but hb (hk _ (by simp))) h4
theorem Com.lt {w : World} {x q : Nat} {a : Ax} {f : Fol} {l0 : List Nat} (h : Com w x q a f l0) : ∀ k ∈ l0, k < w.heap.size := by
  cases h with
  | told K h => intro k hk; simp at hk; subst hk; exact h.lt
  | box f g h1 h2 h3 h4 => intro k hk; simp at hk; rcases hk with rfl | rfl; exact h2.lt; exact h3.lt
theorem Com.mem {w : World} {x q : Nat} {a : Ax} {f : Fol} {l0 : List Nat} (h : Com w x q a f l0) : q ∈ l0 := by
  cases h <;> simp

def Ent (K : Nat) : Prop := ∀ (args : Array Value) (w : World), (callFunc K args).run Tryz.prog w = .ok (.enter K args) w
def Fol.Ents : Fol → Prop
  | .told K => Ent K
  | .untold K => Ent K
  | .nil => True
  | .swap K => Ent K
/-- What follows is done. -/
def FolC (w : World) (x : Nat) (f : Fol) (v : Int) (M : World → Prop) : Prop := match f with
  | .told K => Calls Tryz.prog K #[.pointer (some ⟨x, 0, none⟩), .int .u64 v] w fun e w' => (∃ u, e = .returned u) ∧ M w'
  | .untold K => Calls Tryz.prog K #[.pointer (some ⟨x, 0, none⟩)] w fun e w' => (∃ u, e = .returned u) ∧ M w'
  | .nil => M w
  | .swap K => Calls Tryz.prog K #[.pointer (some ⟨x, 0, none⟩), .bool (decide (v ≠ 0))] w fun e w' => (∃ u, e = .returned u) ∧ M w'
theorem FolC.mono {w : World} {x : Nat} {f : Fol} {v : Int} {M M' : World → Prop} (h : FolC w x f v M) (hm : ∀ w', M w' → M' w') : FolC w x f v M' := by
  cases f with
  | told K => exact Calls.mono h (fun e w' ⟨a, b⟩ => ⟨a, hm _ b⟩)
  | untold K => exact Calls.mono h (fun e w' ⟨a, b⟩ => ⟨a, hm _ b⟩)
  | nil => exact hm _ h
  | swap K => exact Calls.mono h (fun e w' ⟨a, b⟩ => ⟨a, hm _ b⟩)

theorem neqbEqIn (w : World) (fuel : Nat) (f : Fn) (a b : Array Value) : (Op.equalIn (fuel + 1) 194 (.func f a b) .nilFunc).run Tryz.prog w = .ok false w := by
  simp only [Op.equalIn, Sem.run_bind, run_underlying Tryz.underlying194, Result.andThen_ok]
  rfl
theorem neqb (w : World) (f : Fn) (a b : Array Value) : (binOp .neq 194 (.func f a b) .nilFunc).run Tryz.prog w = .ok (.bool true) w := by
  have h := neqbEqIn w 9999 f a b
  simp only [binOp]
  simp [Op.equal, Op.maxDepth, h]
theorem run_swap (w : World) (g K : Nat) (v : Int) (first : Array Value) (M : World → Prop) (h : Blk w g #[.func (.func K) first #[]] 194)
    (hent : Ent K) (hk : Calls Tryz.prog K (first.push (.bool (decide (v ≠ 0)))) w fun e w' => (∃ u, e = .returned u) ∧ M w') :
    Calls Tryz.prog 151 #[.int .u64 v, .pointer (some ⟨g, 0, none⟩)] w fun e w' => (∃ u, e = .returned u) ∧ M w' := by
  have c0 := h.cell 0 (v := .func (.func K) first #[]) rfl
  have hq := neqb
  have e0 : decide (v ≠ 0) = (v != 0) := by by_cases h : v = 0 <;> simp [h]
  have hent' : ∀ w, (callFunc K (first.push (.bool (v != 0)))).run Tryz.prog w = .ok (.enter K (first.push (.bool (v != 0)))) w := fun w => hent _ w
  have hk' : Calls Tryz.prog K (first.push (.bool (v != 0))) w fun e w' => (∃ u, e = .returned u) ∧ M w' := by rw [← e0]; exact hk
  clear h hk e0
  go_enter Tryz.func151, Tryz.ntmps151
  go_wp2_with fail
  refine hk'.mono ?_
  rintro e w1 ⟨⟨u, rfl⟩, h1⟩
  go_wp2_with fail
  go_end0
  exact ⟨⟨_, rfl⟩, h1⟩

/-- Something came at a flow. -/
def Came (w w' : World) (x : Nat) (cs : Array Value) (T : TypeId) (a : Ax) (f : Fol) : Prop :=
  ∃ q Lc, Blk w' x (cs.setIfInBounds 1 (.pointer (some ⟨q, 0, none⟩))) T ∧ Com w' x q a f Lc ∧ But [x] w w' ∧ ∀ k ∈ Lc, w.heap.size ≤ k
theorem Came.of_at {w w' : World} {c q K : Nat} {cs : Array Value} {T : TypeId} {a : Ax} (h : CameAt w w' c cs T (axCells a (.func (.func K) #[.pointer (some ⟨c, 0, none⟩)] #[])) q) : Came w w' c cs T a (.told K) :=
  ⟨q, [q], h.own, .told K h.com, h.but, by intro k hk; simp at hk; subst hk; exact h.fresh⟩
theorem Came.of_box {w w' : World} {c q g : Nat} {cs : Array Value} {T : TypeId} {a : Ax} {fv : Value} {f : Fol} (h : CameBox w w' c cs T (axCells a) fv q g) (hf : ∀ K, f ≠ .told K) (h1 : f.thn c g = .func (.func 110) #[] #[.pointer (some ⟨g, 0, none⟩)]) (h2 : f.box c = fv) (h3 : f.boxT = 1) : Came w w' c cs T a f :=
  ⟨q, [q, g], h.at'.own, .box f g hf (by rw [h1]; exact h.at'.com) (by rw [h2, h3]; exact h.box) h.ne, h.at'.but, by intro k hk; simp at hk; rcases hk with rfl | rfl; exact h.at'.fresh; exact h.fresh⟩
theorem Came.before {a w w' : World} {c : Nat} {cs : Array Value} {T : TypeId} {ax : Ax} {f : Fol} (h : Came w w' c cs T ax f) (hb : But [c] a w) : Came a w' c cs T ax f := by
  obtain ⟨q, Lc, h1, h2, h3, h4⟩ := h
  exact ⟨q, Lc, h1, h2, hb.trans h3, fun k hk => Nat.le_trans hb.size (h4 k hk)⟩
theorem Came.undrew {w w' : World} {c : Nat} {cs : Array Value} {T : TypeId} {ax : Ax} {f : Fol} (h : Came w.drew w' c cs T ax f) : Came w w' c cs T ax f := h.before ((But.refl _ w).drew)
theorem Came.recast {w w' : World} {c : Nat} {cs cs' : Array Value} {T : TypeId} {ax : Ax} {f : Fol} (h : Came w w' c cs T ax f) (e : cs = cs') : Came w w' c cs' T ax f := e ▸ h

section
variable (w : World) (c : Nat) (cs : Array Value) (T : TypeId) (h : Blk w c cs T) (hs : 2 ≤ cs.size)
include h hs
theorem came_load (i : Int) (K : Nat) :
    Calls Tryz.prog 83 #[.pointer (some ⟨c, 0, none⟩), .int .i64 i, .func (.func K) #[.pointer (some ⟨c, 0, none⟩)] #[]] w fun e w' => (∃ v, e = .returned v) ∧ Came w w' c cs T (axLd i) (.told K) :=
  (load_come w c cs T i h hs K _ _).mono fun e w' ⟨hv, q, hC⟩ => ⟨hv, Came.of_at hC⟩
theorem came_store (i new : Int) (K : Nat) :
    Calls Tryz.prog 114 #[.pointer (some ⟨c, 0, none⟩), .int .i64 i, .int .u64 new, .func (.func K) #[.pointer (some ⟨c, 0, none⟩)] #[]] w fun e w' => (∃ v, e = .returned v) ∧ Came w w' c cs T (axSt i new) (.untold K) :=
  (store_come w c cs T i new h hs _ (.some _ _ _)).mono fun e w' ⟨hv, q, g, hC⟩ => ⟨hv, Came.of_box hC (fun _ h => by cases h) rfl rfl rfl⟩
theorem came_store_nil (i new : Int) :
    Calls Tryz.prog 114 #[.pointer (some ⟨c, 0, none⟩), .int .i64 i, .int .u64 new, .nilFunc] w fun e w' => (∃ v, e = .returned v) ∧ Came w w' c cs T (axSt i new) .nil :=
  (store_come w c cs T i new h hs _ .none).mono fun e w' ⟨hv, q, g, hC⟩ => ⟨hv, Came.of_box hC (fun _ h => by cases h) rfl rfl rfl⟩
theorem came_add (i new : Int) (K : Nat) :
    Calls Tryz.prog 135 #[.pointer (some ⟨c, 0, none⟩), .int .i64 i, .int .u64 new, .func (.func K) #[.pointer (some ⟨c, 0, none⟩)] #[]] w fun e w' => (∃ v, e = .returned v) ∧ Came w w' c cs T (axAd i new) (.told K) :=
  (add_come w c cs T i new h hs K _ _).mono fun e w' ⟨hv, q, hC⟩ => ⟨hv, Came.of_at hC⟩
theorem came_add_nil (i new : Int) :
    Calls Tryz.prog 135 #[.pointer (some ⟨c, 0, none⟩), .int .i64 i, .int .u64 new, .nilFunc] w fun e w' => (∃ v, e = .returned v) ∧ Came w w' c cs T (axAd i new) .nil :=
  (add_come_nil w c cs T i new h hs).mono fun e w' ⟨hv, q, g, hC⟩ => ⟨hv, Came.of_box hC (fun _ h => by cases h) rfl rfl rfl⟩
theorem came_swap (i old new : Int) (K : Nat) :
    Calls Tryz.prog 148 #[.pointer (some ⟨c, 0, none⟩), .int .i64 i, .int .u64 old, .int .u64 new, .func (.func K) #[.pointer (some ⟨c, 0, none⟩)] #[]] w fun e w' => (∃ v, e = .returned v) ∧ Came w w' c cs T (axSw i old new) (.swap K) := by
  have hB := Blk.new w #[.func (.func K) #[.pointer (some ⟨c, 0, none⟩)] #[]] 194
  have H := come_any (w.alloc (.cells #[.func (.func K) #[.pointer (some ⟨c, 0, none⟩)] #[]] 194)) c cs T 3 0 i old new false 151 #[] #[.pointer (some ⟨w.heap.size, 0, none⟩)] (h.al _) hs
  have hlt := h.lt
  clear h
  go_enter Tryz.func148, Tryz.ntmps148
  go_wp2_with fail
  go_at_call 92; refine H.mono ?_; rintro e w1 ⟨⟨v, rfl⟩, q, h1, h2, h3, h4⟩
  have hg := hB.but h4 (by simp; omega)
  rw [World.size_alloc] at h1
  have hb4 : But [c] w w1 := ((But.refl _ _).alloc _).trans h4
  clear H hB h4
  go_wp2_with fail
  go_end0
  refine ⟨⟨_, rfl⟩, q, [q, w.heap.size], h2, .box (.swap K) w.heap.size (fun _ h => by cases h) h3 hg (by omega), hb4, ?_⟩
  intro k hk
  simp at hk
  omega
end

section
variable (w : World) (A : Option Addr) (cp cm b n : Nat) (s : St) (hI : Is w 114 A cp cm b n s) (hn : n ≤ 1000000) (hl : Low s 1000000)
include hI hn hl
/-- A step of a flow at which an access comes. -/
theorem acc_step (x q : Nat) (cs : Array Value) (T : TypeId) (who : Int) (a : Ax) (f : Fol) (Lc : List Nat) (hx : Blk w x cs T) (h0 : cs[0]? = some (.int .i64 who)) (h1 : cs[1]? = some (.pointer (some ⟨q, 0, none⟩)))
    (hc : Com w x q a f Lc) (ha : a.Ok) (he : f.Ents) (hxc : x ≠ cm ∧ x ≠ b) (hxl : x ∉ Lc) (hLc : ∀ k ∈ Lc, k ≠ cm ∧ k ≠ b) (R : Option Addr → World → Prop)
    (hK : ∀ W, Blk W x (cs.setIfInBounds 1 (.pointer none)) T → Is W 114 A cp cm b n (actS a.k who a.i a.old a.new n s) → But [cm, b, x] w W → FolC W x f (actA a.k a.i a.old a.new n s) (fun w' => ∃ nx, w'.cell? ⟨x, 1, none⟩ = some (.pointer nx) ∧ R nx w')) :
    Calls Tryz.prog 52 #[.pointer (some ⟨x, 0, none⟩), .pointer (some ⟨cm, 0, none⟩)] w fun e w' => ∃ nx, e = .returned (.bool nx.isNone) ∧ R nx w' := by
  have hq' : q ≠ cm ∧ q ≠ b ∧ q ≠ x := ⟨(hLc q hc.mem).1, (hLc q hc.mem).2, fun e => hxl (e ▸ hc.mem)⟩
  have hB2 : ∀ W, But [cm, b] w W → But [cm, b, x] w (W.setCell ⟨x, 1, none⟩ (.pointer none)) := fun W hB => (hB.more (by intro k _ hk; simp at hk ⊢; omega)).set (g := x) (.inl (by simp)) 1 _
  have hI2 : ∀ W, Is W 114 A cp cm b n (actS a.k who a.i a.old a.new n s) → Is (W.setCell ⟨x, 1, none⟩ (.pointer none)) 114 A cp cm b n (actS a.k who a.i a.old a.new n s) := fun W h => h.but ((But.refl [x] W).set (g := x) (.inl (by simp)) 1 _) (by simpa using hxc.1.symm) (by simpa using hxc.2.symm)
  cases hc with
  | told K hq =>
    refine step_over w x q cm K cs #[.pointer (some ⟨x, 0, none⟩)] #[] T who _ (axCells a ((Fol.told K).thn x 0)) _ R hx h0 h1 hq'.2.2 (act_any w A cp cm b n s q a.k who 0 a.i a.old a.new false _ false false ha.k hI hn hl ha.new hq) (fun w => he _ w) rfl ?_
    rintro W ⟨hM, hB⟩
    have hx1 := hx.but hB (by simp [hxc])
    exact ⟨hx1, hq.but hB (by simp [hq'.1, hq'.2.1]), hK _ (hx1.set 1 _) (hI2 W hM) (hB2 W hB)⟩
  | box f g hf hq hg hne =>
    have hg' : g ≠ cm ∧ g ≠ b ∧ g ≠ x := ⟨(hLc g (by simp)).1, (hLc g (by simp)).2, fun e => hxl (by simp [e])⟩
    cases f with
    | told K => exact absurd rfl (hf K)
    | untold K =>
      refine step_over w x q cm 110 cs #[] #[.pointer (some ⟨g, 0, none⟩)] T who _ (axCells a ((Fol.untold K).thn x g)) _ R hx h0 h1 hq'.2.2 (act_any w A cp cm b n s q a.k who 0 a.i a.old a.new false _ false false ha.k hI hn hl ha.new hq) (fun w => ent110 _ w) rfl ?_
      rintro W ⟨hM, hB⟩
      have hx1 := hx.but hB (by simp [hxc])
      refine ⟨hx1, hq.but hB (by simp [hq'.1, hq'.2.1]), ?_⟩
      exact run_untold _ g K _ #[.pointer (some ⟨x, 0, none⟩)] #[] _ ((hg.but hB (by simp [hg'.1, hg'.2.1])).setne hg'.2.2 1 _) (fun w => he _ w) (hK _ (hx1.set 1 _) (hI2 W hM) (hB2 W hB))
    | nil =>
      refine step_over w x q cm 110 cs #[] #[.pointer (some ⟨g, 0, none⟩)] T who _ (axCells a (Fol.nil.thn x g)) _ R hx h0 h1 hq'.2.2 (act_any w A cp cm b n s q a.k who 0 a.i a.old a.new false _ false false ha.k hI hn hl ha.new hq) (fun w => ent110 _ w) rfl ?_
      rintro W ⟨hM, hB⟩
      have hx1 := hx.but hB (by simp [hxc])
      refine ⟨hx1, hq.but hB (by simp [hq'.1, hq'.2.1]), ?_⟩
      refine (run_untold_nil _ g _ ((hg.but hB (by simp [hg'.1, hg'.2.1])).setne hg'.2.2 1 _)).mono ?_
      rintro e w' ⟨hv, rfl⟩
      exact ⟨hv, hK _ (hx1.set 1 _) (hI2 W hM) (hB2 W hB)⟩
    | swap K =>
      refine step_over w x q cm 151 cs #[] #[.pointer (some ⟨g, 0, none⟩)] T who _ (axCells a ((Fol.swap K).thn x g)) _ R hx h0 h1 hq'.2.2 (act_any w A cp cm b n s q a.k who 0 a.i a.old a.new false _ false false ha.k hI hn hl ha.new hq) (fun w => (by kernel_rfl : (callFunc 151 _).run Tryz.prog w = .ok (.enter 151 _) w)) rfl ?_
      rintro W ⟨hM, hB⟩
      have hx1 := hx.but hB (by simp [hxc])
      refine ⟨hx1, hq.but hB (by simp [hq'.1, hq'.2.1]), ?_⟩
      exact run_swap _ g K _ #[.pointer (some ⟨x, 0, none⟩)] _ ((hg.but hB (by simp [hg'.1, hg'.2.1])).setne hg'.2.2 1 _) he (hK _ (hx1.set 1 _) (hI2 W hM) (hB2 W hB))
end

/-- How a machine lies in memory: at x, in state t, all its blocks in L. -/
def MI (σ : Type) : Type := World → Nat → σ → List Nat → Prop
structure MI.Good {σ : Type} (I : MI σ) (M : PM σ) : Prop where
  keep : ∀ {w w' : World} {x : Nat} {t : σ} {L l : List Nat}, I w x t L → But l w w' → (∀ k ∈ L, k ∉ l) → I w' x t L
  lt : ∀ {w : World} {x : Nat} {t : σ} {L : List Nat}, I w x t L → ∀ k ∈ L, k < w.heap.size
  mem : ∀ {w : World} {x : Nat} {t : σ} {L : List Nat}, I w x t L → x ∈ L
  next : ∀ {w : World} {x : Nat} {t : σ} {L : List Nat}, I w x t L → ∃ nx, w.cell? ⟨x, 1, none⟩ = some (.pointer nx) ∧ nx.isNone = (M.ax t).isNone
theorem MI.Good.below {σ : Type} {I : MI σ} {M : PM σ} (h : I.Good M) {w w' : World} {x : Nat} {t : σ} {L : List Nat} (hi : I w x t L) (hb : Below w.heap.size w w') : I w' x t L := h.keep hi (But.of_below (l := []) hb) (fun k _ => by simp)
/-- A step of a machine. -/
def Steps {σ : Type} (M : PM σ) (I : MI σ) (R : Rd) (F : Nat) (who : Int) : Prop :=
  ∀ (w : World) (A : Option Addr) (cp cm b n : Nat) (s : St) (x : Nat) (t : σ) (L : List Nat), I w x t L → R.P w → Is w 114 A cp cm b n s → n ≤ 1000000 → Low s 1000000 → (∀ k ∈ L, k ≠ cm ∧ k ≠ b ∧ k ∉ R.B) → (cm ∉ R.B ∧ b ∉ R.B) →
    Calls Tryz.prog F #[.pointer (some ⟨x, 0, none⟩), .pointer (some ⟨cm, 0, none⟩)] w fun e w' => e = .returned (.bool (M.ax (M.goT n t s)).isNone) ∧ ∃ L', I w' x (M.goT n t s) L' ∧ Is w' 114 A cp cm b n (M.goS who n t s) ∧ But (cm :: b :: L) w w' ∧ ∀ k ∈ L', k ∈ L ∨ w.heap.size ≤ k
/-- A machine's own Step asks its flow. -/
def StepBy (F : Nat) : Prop := ∀ (w : World) (x : Nat) (mv : Value) (M : Bool → World → Prop), (Calls Tryz.prog 52 #[.pointer (some ⟨x, 0, none⟩), mv] w fun e w' => ∃ z, e = .returned (.bool z) ∧ M z w') → Calls Tryz.prog F #[.pointer (some ⟨x, 0, none⟩), mv] w fun e w' => ∃ z, e = .returned (.bool z) ∧ M z w'
theorem StepBy.to {F : Nat} (hF : StepBy F) {w : World} {x : Nat} {mv : Value} {z : Bool} {R : Option Addr → World → Prop} {M : World → Prop} (h : Calls Tryz.prog 52 #[.pointer (some ⟨x, 0, none⟩), mv] w fun e w' => ∃ nx, e = .returned (.bool nx.isNone) ∧ R nx w') (hR : ∀ nx w', R nx w' → nx.isNone = z ∧ M w') :
    Calls Tryz.prog F #[.pointer (some ⟨x, 0, none⟩), mv] w fun e w' => e = .returned (.bool z) ∧ M w' := by
  refine (hF w x mv (fun y w' => y = z ∧ M w') (h.mono ?_)).mono ?_
  · rintro e w' ⟨nx, rfl, hr⟩
    exact ⟨_, rfl, hR nx w' hr⟩
  · rintro e w' ⟨y, rfl, rfl, hm⟩
    exact ⟨rfl, hm⟩

/-- A machine of accesses in memory. -/
structure Fl (σ : Type) where
  T : TypeId
  cells : σ → Option Addr → Array Value
  fol : σ → Fol
  ok : σ → Prop
/-- What follows has made the next access come, or none. -/
def Fl.Landed {σ : Type} (F : Fl σ) (M : PM σ) (W w' : World) (x : Nat) (t : σ) : Prop := match M.ax t with
  | none => Blk w' x (F.cells t none) F.T ∧ But [x] W w'
  | some a => Came W w' x (F.cells t none) F.T a (F.fol t)
structure Fl.Laws {σ : Type} (F : Fl σ) (M : PM σ) (R : Rd) (who : Int) : Prop where
  c0 : ∀ t nx, (F.cells t nx)[0]? = some (.int .i64 who)
  c1 : ∀ t nx, (F.cells t nx)[1]? = some (.pointer nx)
  set : ∀ t nx nx', (F.cells t nx).setIfInBounds 1 (.pointer nx') = F.cells t nx'
  axok : ∀ t a, F.ok t → M.ax t = some a → a.Ok
  ents : ∀ t a, M.ax t = some a → (F.fol t).Ents
  ok : ∀ t a v, F.ok t → M.ax t = some a → 0 ≤ v ∧ v ≤ 18446744073709551615 → F.ok (M.nx t v)
  fol : ∀ W x t a v, F.ok t → M.ax t = some a → 0 ≤ v ∧ v ≤ 18446744073709551615 → Blk W x (F.cells t none) F.T → R.P W → x ∉ R.B → FolC W x (F.fol t) v (fun w' => F.Landed M W w' x (M.nx t v))
  ns : ∀ t a, M.ax t = some a → a.sl = false := by intro t a h; cases t <;> first | (cases h; rfl) | cases h
def Fl.I {σ : Type} (F : Fl σ) (M : PM σ) : MI σ := fun w x t L => F.ok t ∧ match M.ax t with
  | none => Blk w x (F.cells t none) F.T ∧ L = [x]
  | some a => ∃ q Lc, Blk w x (F.cells t (some ⟨q, 0, none⟩)) F.T ∧ Com w x q a (F.fol t) Lc ∧ x ∉ Lc ∧ L = x :: Lc
section
variable {σ : Type} {F : Fl σ} {M : PM σ} {R : Rd} {who : Int}
theorem Fl.at_none {w : World} {x : Nat} {t : σ} {L : List Nat} (hn : M.ax t = none) : F.I M w x t L ↔ F.ok t ∧ Blk w x (F.cells t none) F.T ∧ L = [x] := by unfold Fl.I; rw [hn]
theorem Fl.at_some {w : World} {x : Nat} {t : σ} {L : List Nat} {a : Ax} (hn : M.ax t = some a) : F.I M w x t L ↔ F.ok t ∧ ∃ q Lc, Blk w x (F.cells t (some ⟨q, 0, none⟩)) F.T ∧ Com w x q a (F.fol t) Lc ∧ x ∉ Lc ∧ L = x :: Lc := by unfold Fl.I; rw [hn]
theorem Fl.blk {w : World} {x : Nat} {t : σ} {L : List Nat} (h : F.I M w x t L) : ∃ nx, Blk w x (F.cells t nx) F.T ∧ nx.isNone = (M.ax t).isNone := by
  cases hn : M.ax t with
  | none => rw [Fl.at_none hn] at h; exact ⟨none, h.2.1, rfl⟩
  | some a => rw [Fl.at_some hn] at h; obtain ⟨_, q, Lc, h1, _⟩ := h; exact ⟨_, h1, rfl⟩
theorem Fl.good (hL : F.Laws M R who) : (F.I M).Good M := by
  refine ⟨?_, ?_, ?_, ?_⟩
  · intro w w' x t L l h hb hk
    cases hn : M.ax t with
    | none =>
      rw [Fl.at_none hn] at h ⊢
      obtain ⟨h0, h1, rfl⟩ := h
      exact ⟨h0, h1.but hb (hk x (by simp)), rfl⟩
    | some a =>
      rw [Fl.at_some hn] at h ⊢
      obtain ⟨h0, q, Lc, h1, h2, h3, rfl⟩ := h
      exact ⟨h0, q, Lc, h1.but hb (hk x (by simp)), h2.but hb (fun k hm => hk k (by simp [hm])), h3, rfl⟩
  · intro w x t L h k hk
    cases hn : M.ax t with
    | none =>
      rw [Fl.at_none hn] at h
      obtain ⟨h0, h1, rfl⟩ := h
      simp at hk; subst hk; exact h1.lt
    | some a =>
      rw [Fl.at_some hn] at h
      obtain ⟨h0, q, Lc, h1, h2, h3, rfl⟩ := h
      simp at hk
      rcases hk with rfl | hk
      · exact h1.lt
      · exact h2.lt k hk
  · intro w x t L h
    cases hn : M.ax t with
    | none => rw [Fl.at_none hn] at h; obtain ⟨h0, h1, rfl⟩ := h; simp
    | some a => rw [Fl.at_some hn] at h; obtain ⟨h0, q, Lc, h1, h2, h3, rfl⟩ := h; simp
  · intro w x t L h
    obtain ⟨nx, h1, h2⟩ := Fl.blk h
    exact ⟨nx, h1.cell 1 (hL.c1 _ _), h2⟩
/-- What has landed is the machine at its next state. -/
theorem Fl.land (hL : F.Laws M R who) {W w' : World} {x : Nat} {t : σ} (h : F.Landed M W w' x t) (hok : F.ok t) (hx : x < W.heap.size) : (∃ nx, w'.cell? ⟨x, 1, none⟩ = some (.pointer nx) ∧ nx.isNone = (M.ax t).isNone) ∧ (∃ L', F.I M w' x t L' ∧ ∀ k ∈ L', k = x ∨ W.heap.size ≤ k) ∧ But [x] W w' := by
  unfold Fl.Landed at h
  cases hn : M.ax t with
  | none =>
    rw [hn] at h
    obtain ⟨h1, h2⟩ := h
    exact ⟨⟨none, h1.cell 1 (hL.c1 _ _), rfl⟩, ⟨[x], (Fl.at_none hn).2 ⟨hok, h1, rfl⟩, by intro k hk; simp at hk; exact .inl hk⟩, h2⟩
  | some a =>
    rw [hn] at h
    obtain ⟨q, Lc, h1, h2, h3, h4⟩ := h
    rw [hL.set] at h1
    have hxl : x ∉ Lc := fun hm => absurd (h4 x hm) (by omega)
    exact ⟨⟨_, h1.cell 1 (hL.c1 _ _), rfl⟩, ⟨x :: Lc, (Fl.at_some hn).2 ⟨hok, q, Lc, h1, h2, hxl, rfl⟩, by intro k hk; simp at hk; rcases hk with rfl | hk; exact .inl rfl; exact .inr (h4 k hk)⟩, h3⟩
theorem Fl.steps (hL : F.Laws M R who) {K : Nat} (hK : StepBy K) : Steps M (F.I M) R K who := by
  intro w A cp cm b n s x t L h hR hI hn hl hf hcb
  cases hax : M.ax t with
  | none =>
    have eT : M.goT n t s = t := by unfold PM.goT; rw [hax]
    have eS : M.goS who n t s = s := by unfold PM.goS; rw [hax]
    rw [eT, eS, hax]
    have h' := h
    rw [Fl.at_none hax] at h'
    obtain ⟨h0, h1, rfl⟩ := h'
    refine (hK w x _ (fun z w' => z = true ∧ w = w') ((step_none w x cm (h1.cell 1 (hL.c1 _ _))).mono ?_)).mono ?_
    · rintro e w' ⟨rfl, rfl⟩; exact ⟨true, rfl, rfl, rfl⟩
    · rintro e w' ⟨z, rfl, rfl, rfl⟩
      exact ⟨rfl, [x], h, hI, But.refl _ _, fun k hk => .inl hk⟩
  | some a =>
    have eT : M.goT n t s = M.nx t (actA a.k a.i a.old a.new n s) := PM.goT_some hax (PM.asl_no (hL.ns t a hax))
    have eS : M.goS who n t s = actS a.k who a.i a.old a.new n s := PM.goS_some hax (PM.asl_no (hL.ns t a hax))
    rw [eT, eS]
    have hv := actA_bd hI a.k a.i a.old a.new
    rw [Fl.at_some hax] at h
    obtain ⟨h0, q, Lc, h1, h2, h3, rfl⟩ := h
    have hx := hf x (by simp)
    have hlt := h1.lt
    refine hK.to (R := fun nx w' => nx.isNone = (M.ax (M.nx t (actA a.k a.i a.old a.new n s))).isNone ∧ ∃ L', F.I M w' x (M.nx t (actA a.k a.i a.old a.new n s)) L' ∧ Is w' 114 A cp cm b n (actS a.k who a.i a.old a.new n s) ∧ But (cm :: b :: x :: Lc) w w' ∧ ∀ k ∈ L', k ∈ x :: Lc ∨ w.heap.size ≤ k) ?_ (fun nx w' h => h)
    refine acc_step w A cp cm b n s hI hn hl x q _ F.T who a (F.fol t) Lc h1 (hL.c0 _ _) (hL.c1 _ _) h2 (hL.axok t a h0 hax) (hL.ents t a hax) ⟨hx.1, hx.2.1⟩ h3 (fun k hk => ⟨(hf k (by simp [hk])).1, (hf k (by simp [hk])).2.1⟩) _ ?_
    intro W hW hIW hB
    rw [hL.set] at hW
    have hRW : R.P W := R.keep w W _ hR hB (fun k hk => by
      simp only [List.mem_cons, List.not_mem_nil, or_false, not_or]
      exact ⟨fun e => hcb.1 (e ▸ hk), fun e => hcb.2 (e ▸ hk), fun e => hx.2.2 (e ▸ hk)⟩)
    refine (hL.fol W x t a _ h0 hax hv hW hRW hx.2.2).mono ?_
    intro w' hl'
    obtain ⟨⟨nx, e1, e2⟩, ⟨L', g1, g2⟩, g3⟩ := Fl.land hL hl' (hL.ok t a _ h0 hax hv) hW.lt
    refine ⟨nx, e1, e2, L', g1, hIW.but g3 (by simpa using hx.1.symm) (by simpa using hx.2.1.symm), ?_, fun k hk => ?_⟩
    · exact (hB.more (by intro k _ hk; simp at hk ⊢; omega)).trans (g3.more (by intro k _ hk; simp at hk ⊢; omega))
    · rcases g2 k hk with rfl | g2
      · exact .inl (by simp)
      · exact .inr (Nat.le_trans hB.size g2)
end
end Go.Proofs.YthjfbknmdligeaaGreat
