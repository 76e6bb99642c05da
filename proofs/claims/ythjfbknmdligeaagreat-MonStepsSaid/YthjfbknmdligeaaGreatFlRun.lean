/- Machines in memory that run others. -/
import Derived.Test.YthjfbknmdligeaaGreatFl
namespace Go.Proofs.YthjfbknmdligeaaGreat
open Go Go.RowKit
set_option linter.unusedVariables false
set_option maxRecDepth 100000
set_option linter.unusedSimpArgs false

/-- A machine that is run comes. -/
def runCellsD (D : TypeId) (y g : Nat) (asked : Bool) : Array Value := comCells 0 0 0 0 0 false (.iface D (.pointer (some ⟨y, 0, none⟩))) (.func (.func 110) #[] #[.pointer (some ⟨g, 0, none⟩)]) false asked
/-- Acting at a machine that is run is a step of it. -/
def ActRun (D : TypeId) (F : Nat) : Prop := ∀ (w : World) (q cm y g : Nat) (who : Int) (z : Bool) (Mw : World → Prop), Blk w q (runCellsD D y g false) 148 →
    (∀ W, But [q] w W → Blk W q (runCellsD D y g true) 148 → Calls Tryz.prog F #[.pointer (some ⟨y, 0, none⟩), .pointer (some ⟨cm, 0, none⟩)] W fun e w' => e = .returned (.bool z) ∧ Blk w' q (runCellsD D y g true) 148 ∧ Mw w') →
    Calls Tryz.prog 79 #[.pointer (some ⟨q, 0, none⟩), .int .i64 who, .pointer (some ⟨cm, 0, none⟩)] w fun e w' => e = .returned (.tuple #[.int .u64 0, .bool z]) ∧ ∃ w1, Mw w1 ∧ Blk w1 q (runCellsD D y g true) 148 ∧ w' = w1.setCell ⟨q, 9, none⟩ (.bool false)
/-- What a flow is asked to run comes. -/
def RunCome (D : TypeId) : Prop := ∀ (w : World) (c y : Nat) (cs : Array Value) (T : TypeId) (fv : Value) (nx : Addr), Blk w c cs T → 2 ≤ cs.size → Fv fv → y ≠ c → w.cell? ⟨y, 1, none⟩ = some (.pointer (some nx)) →
    Calls Tryz.prog 120 #[.pointer (some ⟨c, 0, none⟩), .iface D (.pointer (some ⟨y, 0, none⟩)), fv] w fun e w' => (∃ v, e = .returned v) ∧ ∃ q g, CameBox w w' c cs T (fun v => comCells 0 0 0 0 0 false (.iface D (.pointer (some ⟨y, 0, none⟩))) v false false) fv q g

/-- A machine at x runs one at y. -/
structure RunAt (w : World) (x q y g : Nat) (cs : Option Addr → Array Value) (T D : TypeId) (fv : Value) : Prop where
  hx : Blk w x (cs (some ⟨q, 0, none⟩)) T
  hq : Blk w q (runCellsD D y g false) 148
  hg : Blk w g #[fv] 1
  qg : q ≠ g
theorem RunAt.but {w w' : World} {x q y g : Nat} {cs : Option Addr → Array Value} {T D : TypeId} {fv : Value} {l : List Nat} (h : RunAt w x q y g cs T D fv) (hb : But l w w') (h1 : x ∉ l) (h2 : q ∉ l) (h3 : g ∉ l) : RunAt w' x q y g cs T D fv :=
  ⟨h.hx.but hb h1, h.hq.but hb h2, h.hg.but hb h3, h.qg⟩
theorem RunAt.of {w w' : World} {c y q g : Nat} {cs0 : Array Value} {cs : Option Addr → Array Value} {T D : TypeId} {fv : Value} (h : CameBox w w' c cs0 T (fun v => comCells 0 0 0 0 0 false (.iface D (.pointer (some ⟨y, 0, none⟩))) v false false) fv q g) (hs : ∀ nx, cs0.setIfInBounds 1 (.pointer nx) = cs nx) : RunAt w' c q y g cs T D fv :=
  ⟨by have := h.at'.own; rw [hs] at this; exact this, h.at'.com, h.box, h.ne.symm⟩

/-- What follows a machine that was run. -/
inductive After where
  | fn (K : Nat)
  | nil
def After.fol : After → Fol
  | .fn K => .untold K
  | .nil => .nil

section
variable {σ : Type} {M : PM σ} {I : MI σ} {R : Rd} {F : Nat} {D : TypeId} {who : Int}
theorem run_step (hS : Steps M I R F who) (hG : I.Good M) (hD : ActRun D F) (w : World) (A : Option Addr) (cm cp b n : Nat) (s : St) (hI : Is w 114 A cp cm b n s) (hn : n ≤ 1000000) (hl : Low s 1000000)
    (x q y g : Nat) (cs : Option Addr → Array Value) (T : TypeId) (af : After) (t : σ) (Li : List Nat)
    (hA : RunAt w x q y g cs T D (af.fol.box x)) (h0 : ∀ nx, (cs nx)[0]? = some (.int .i64 who)) (h1 : ∀ nx, (cs nx)[1]? = some (.pointer nx)) (hset : ∀ nx nx', (cs nx).setIfInBounds 1 (.pointer nx') = cs nx') (he : af.fol.Ents) (hin : I w y t Li) (hR : R.P w)
    (hxl : x ∉ q :: g :: Li) (hql : q ∉ Li) (hgl : g ∉ Li) (hf : ∀ k ∈ x :: q :: g :: Li, k ≠ cm ∧ k ≠ b ∧ k ∉ R.B) (hcb : cm ∉ R.B ∧ b ∉ R.B) (Rr : Option Addr → World → Prop)
    (hon : (M.ax (M.goT n t s)).isSome = true → ∀ w' Li', RunAt w' x q y g cs T D (af.fol.box x) → I w' y (M.goT n t s) Li' → Is w' 114 A cp cm b n (M.goS who n t s) → But (cm :: b :: q :: Li) w w' → (∀ k ∈ Li', k ∈ Li ∨ w.heap.size ≤ k) → Rr (some ⟨q, 0, none⟩) w')
    (hover : M.ax (M.goT n t s) = none → ∀ W Li', Blk W x (cs none) T → I W y (M.goT n t s) Li' → Is W 114 A cp cm b n (M.goS who n t s) → But (cm :: b :: x :: q :: Li) w W → (∀ k ∈ Li', k ∈ Li ∨ w.heap.size ≤ k) → FolC W x af.fol 0 (fun w' => ∃ nx, w'.cell? ⟨x, 1, none⟩ = some (.pointer nx) ∧ Rr nx w')) :
    Calls Tryz.prog 52 #[.pointer (some ⟨x, 0, none⟩), .pointer (some ⟨cm, 0, none⟩)] w fun e w' => ∃ nx, e = .returned (.bool nx.isNone) ∧ Rr nx w' := by
  have hx := hf x (by simp)
  have hq := hf q (by simp)
  have hg := hf g (by simp)
  have hxq : x ≠ q := fun e => hxl (by simp [e])
  have hxg : x ≠ g := fun e => hxl (by simp [e])
  have hxi : x ∉ Li := fun e => hxl (by simp [e])
  have hqlt := hA.hq.lt
  have hxlt := hA.hx.lt
  have hglt := hA.hg.lt
  -- the inner machine's step, while what comes is asked
  have hinner : ∀ W, But [q] w W → Blk W q (runCellsD D y g true) 148 → Calls Tryz.prog F #[.pointer (some ⟨y, 0, none⟩), .pointer (some ⟨cm, 0, none⟩)] W fun e w' => e = .returned (.bool (M.ax (M.goT n t s)).isNone) ∧ Blk w' q (runCellsD D y g true) 148 ∧ (Blk w' x (cs (some ⟨q, 0, none⟩)) T ∧ Blk w' g #[af.fol.box x] 1 ∧ ∃ Li', I w' y (M.goT n t s) Li' ∧ Is w' 114 A cp cm b n (M.goS who n t s) ∧ But (cm :: b :: q :: Li) w w' ∧ ∀ k ∈ Li', k ∈ Li ∨ w.heap.size ≤ k) := by
    intro W hB hqW
    refine (hS W A cp cm b n s y t Li (hG.keep hin hB (fun k hk => by simp; rintro rfl; exact hql hk)) (R.keep w W _ hR hB (fun k hk => by simp; rintro rfl; exact hq.2.2 hk)) (hI.but hB (by simpa using hq.1.symm) (by simpa using hq.2.1.symm)) hn hl (fun k hk => hf k (by simp [hk])) hcb).mono ?_
    rintro e w' ⟨rfl, L', a1, a2, a3, a4⟩
    have hn3 : ∀ k, k ≠ cm → k ≠ b → k ∉ Li → k ∉ cm :: b :: Li := fun k e1 e2 e3 => by simp [e1, e2, e3]
    refine ⟨rfl, hqW.but a3 (hn3 q hq.1 hq.2.1 hql), (hA.hx.but hB (by simpa using hxq)).but a3 (hn3 x hx.1 hx.2.1 hxi), (hA.hg.but hB (by simpa using hA.qg.symm)).but a3 (hn3 g hg.1 hg.2.1 hgl), L', a1, a2, ?_, fun k hk => ?_⟩
    · exact (hB.more (by intro k _ h; simp at h; simp [h])).trans (a3.more (by intro k _ h; simp only [List.mem_cons] at h ⊢; rcases h with h | h | h; exact .inl h; exact .inr (.inl h); exact .inr (.inr (.inr h))))
    · rcases a4 k hk with h | h
      · exact .inl h
      · exact .inr (Nat.le_trans hB.size h)
  have hcase := hD w q cm y g who _ _ hA.hq hinner
  cases hax : M.ax (M.goT n t s) with
  | some a =>
    rw [hax] at hcase
    refine (step_on w x q cm _ T who 0 _ hA.hx (h0 _) (h1 _) hcase ?_).mono ?_
    · rintro W ⟨w1, ⟨k1, -⟩, k2, rfl⟩
      exact k1.setne hxq 9 _
    · rintro e w' ⟨rfl, w1, ⟨k1, k2, Li', a1, a2, a3, a4⟩, k3, rfl⟩
      have hB1 : But [q] w1 (w1.setCell ⟨q, 9, none⟩ (.bool false)) := (But.refl _ w1).set (g := q) (.inl (by simp)) 9 _
      have hqL' : ∀ k ∈ Li', k ∉ [q] := fun k hk => by
        simp
        rintro rfl
        rcases a4 _ hk with h | h
        · exact hql h
        · omega
      refine ⟨some ⟨q, 0, none⟩, rfl, hon (by rw [hax]; rfl) _ Li' ⟨k1.setne hxq 9 _, k3.set 9 (.bool false), k2.setne hA.qg.symm 9 _, hA.qg⟩ (hG.keep a1 hB1 hqL') (a2.but hB1 (by simpa using hq.1.symm) (by simpa using hq.2.1.symm)) (a3.trans (hB1.more (by intro k _ h; simp at h; simp [h]))) a4⟩
  | none =>
    rw [hax] at hcase
    have hmk : ∀ W, (∃ w1, (Blk w1 x (cs (some ⟨q, 0, none⟩)) T ∧ Blk w1 g #[af.fol.box x] 1 ∧ ∃ Li', I w1 y (M.goT n t s) Li' ∧ Is w1 114 A cp cm b n (M.goS who n t s) ∧ But (cm :: b :: q :: Li) w w1 ∧ ∀ k ∈ Li', k ∈ Li ∨ w.heap.size ≤ k) ∧ Blk w1 q (runCellsD D y g true) 148 ∧ W = w1.setCell ⟨q, 9, none⟩ (.bool false)) →
        Blk W x (cs (some ⟨q, 0, none⟩)) T ∧ Blk W q (runCellsD D y g false) 148 ∧ Blk (W.setCell ⟨x, 1, none⟩ (.pointer none)) g #[af.fol.box x] 1 ∧ FolC (W.setCell ⟨x, 1, none⟩ (.pointer none)) x af.fol 0 (fun w' => ∃ nx, w'.cell? ⟨x, 1, none⟩ = some (.pointer nx) ∧ Rr nx w') := by
      rintro W ⟨w1, ⟨k1, k2, Li', a1, a2, a3, a4⟩, k3, rfl⟩
      have hB1 : But [q] w1 (w1.setCell ⟨q, 9, none⟩ (.bool false)) := (But.refl _ w1).set (g := q) (.inl (by simp)) 9 _
      have j1 := k1.setne hxq 9 (.bool false)
      have hB2 : But [x] (w1.setCell ⟨q, 9, none⟩ (.bool false)) ((w1.setCell ⟨q, 9, none⟩ (.bool false)).setCell ⟨x, 1, none⟩ (.pointer none)) := (But.refl _ _).set (g := x) (.inl (by simp)) 1 _
      have hqL' : ∀ k ∈ Li', k ∉ [q] := fun k hk => by
        simp
        rintro rfl
        rcases a4 _ hk with h | h
        · exact hql h
        · omega
      have hxL' : ∀ k ∈ Li', k ∉ [x] := fun k hk => by
        simp
        rintro rfl
        rcases a4 _ hk with h | h
        · exact hxi h
        · omega
      refine ⟨j1, k3.set 9 (.bool false), (k2.setne hA.qg.symm 9 _).setne hxg.symm 1 _, ?_⟩
      have jx := j1.set 1 (.pointer none)
      rw [hset] at jx
      refine hover hax _ Li' jx (hG.keep (hG.keep a1 hB1 hqL') hB2 hxL') ((a2.but hB1 (by simpa using hq.1.symm) (by simpa using hq.2.1.symm)).but hB2 (by simpa using hx.1.symm) (by simpa using hx.2.1.symm)) ?_ a4
      exact ((a3.more (by intro k _ h; simp at h ⊢; rcases h with h | h | h | h <;> simp [h])).trans (hB1.more (by intro k _ h; simp at h; simp [h]))).trans (hB2.more (by intro k _ h; simp at h; simp [h]))
    refine step_over w x q cm 110 _ #[] #[.pointer (some ⟨g, 0, none⟩)] T who 0 (runCellsD D y g false) _ Rr hA.hx (h0 _) (h1 _) hxq.symm hcase (ent110 _) rfl ?_
    intro W hW
    obtain ⟨i1, i2, i3, i4⟩ := hmk W hW
    refine ⟨i1, i2, ?_⟩
    cases af with
    | fn K => exact run_untold _ g K _ #[.pointer (some ⟨x, 0, none⟩)] #[] _ i3 (fun w => he _ w) i4
    | nil =>
      refine (run_untold_nil _ g _ i3).mono ?_
      rintro e w' ⟨hv, rfl⟩
      exact ⟨hv, i4⟩
end
end Go.Proofs.YthjfbknmdligeaaGreat
