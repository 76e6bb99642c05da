/- Machines in memory that run others: how they lie, and their steps. -/
import Derived.Test.YtfdpikkinlljlaaGreatFlRun
namespace Go.Proofs.YtfdpikkinlljlaaGreat
open Go Go.RowKit
set_option linter.unusedVariables false
set_option maxRecDepth 100000
set_option linter.unusedSimpArgs false

/-- A machine that is run by another. -/
structure Sub where
  τ : Type
  M : PM τ
  I : MI τ
  R : Rd
  D : TypeId
  F : Nat
/-- What comes. -/
inductive Kind where
  | over
  | acc (a : Ax) (f : Fol)
  | run (S : Sub) (p : S.τ) (af : After)
/-- A machine in memory that may run others: es are addresses that it holds, ext says of further blocks of its own. -/
structure Cp (σ : Type) where
  T : TypeId
  cells : σ → List Nat → Option Addr → Array Value
  kind : σ → Kind
  ok : σ → Prop
  ext : σ → List Nat → World → List Nat → Prop
  tie : σ → List Nat → Nat → Prop
def Cp.Here {σ : Type} (C : Cp σ) (w : World) (x : Nat) (t : σ) (es Le L : List Nat) : Kind → Prop
  | .over => Blk w x (C.cells t es none) C.T ∧ L = x :: Le
  | .acc a f => ∃ q Lc, Blk w x (C.cells t es (some ⟨q, 0, none⟩)) C.T ∧ Com w x q a f Lc ∧ x ∉ Lc ∧ (∀ k ∈ Lc, k ∉ Le) ∧ L = x :: (Lc ++ Le)
  | .run S p af => ∃ q y g Li, RunAt w x q y g (C.cells t es) C.T S.D (af.fol.box x) ∧ S.I w y p Li ∧ C.tie t es y ∧ x ∉ q :: g :: Li ∧ q ∉ Li ∧ g ∉ Li ∧ (∀ k ∈ q :: g :: Li, k ∉ Le) ∧ L = x :: q :: g :: (Li ++ Le)
def Cp.I {σ : Type} (C : Cp σ) : MI σ := fun w x t L => C.ok t ∧ ∃ es Le, C.ext t es w Le ∧ x ∉ Le ∧ C.Here w x t es Le L (C.kind t)
/-- What follows has made the next thing come. -/
def Cp.Land {σ : Type} (C : Cp σ) (W w' : World) (x : Nat) (t : σ) (Le : List Nat) : Prop := But [x] W w' ∧ ∃ L', C.I w' x t L' ∧ ∀ k ∈ L', k = x ∨ k ∈ Le ∨ W.heap.size ≤ k

structure Cp.Laws {σ : Type} (C : Cp σ) (M : PM σ) (R : Rd) (who : Int) : Prop where
  c0 : ∀ t es nx, (C.cells t es nx)[0]? = some (.int .i64 who)
  c1 : ∀ t es nx, (C.cells t es nx)[1]? = some (.pointer nx)
  set : ∀ t es nx nx', (C.cells t es nx).setIfInBounds 1 (.pointer nx') = C.cells t es nx'
  k0 : ∀ t, C.ok t → C.kind t = .over → M.ax t = none
  k1 : ∀ t a f, C.ok t → C.kind t = .acc a f → M.ax t = some a ∧ a.Ok ∧ f.Ents
  k2 : ∀ t S p af, C.ok t → C.kind t = .run S p af → M.ax t = S.M.ax p ∧ (S.M.ax p).isSome = true ∧ af.fol.Ents ∧ (∀ a, S.M.ax p = some a → a.Ok)
  sub : ∀ t S p af, C.ok t → C.kind t = .run S p af → Steps S.M S.I S.R S.F who ∧ S.I.Good S.M ∧ ActRun S.D S.F ∧ (∀ w, R.P w → S.R.P w) ∧ (∀ k ∈ S.R.B, k ∈ R.B)
  on : ∀ t S p af v, C.ok t → C.kind t = .run S p af → 0 ≤ v ∧ v ≤ 18446744073709551615 → (S.M.ax (S.M.nx p v)).isSome = true → C.ok (M.nx t v) ∧ C.kind (M.nx t v) = .run S (S.M.nx p v) af ∧ (∀ es, C.cells (M.nx t v) es = C.cells t es) ∧ (∀ es w Le, C.ext t es w Le → C.ext (M.nx t v) es w Le) ∧ (∀ es y, C.tie t es y → C.tie (M.nx t v) es y)
  ekeep : ∀ t es w w' l Le, C.ext t es w Le → But l w w' → (∀ k ∈ Le, k ∉ l) → C.ext t es w' Le
  elt : ∀ t es w Le, C.ext t es w Le → ∀ k ∈ Le, k < w.heap.size
  ns : ∀ t a f, C.kind t = .acc a f → a.sl = false := by intro t a f h; cases t <;> first | (cases h; rfl) | cases h | (rename_i r; cases r <;> first | (cases h; rfl) | cases h)
  fol : ∀ W x t a f v es Le, C.ok t → C.kind t = .acc a f → 0 ≤ v ∧ v ≤ 18446744073709551615 → Blk W x (C.cells t es none) C.T → C.ext t es W Le → x ∉ Le → R.P W → x ∉ R.B → FolC W x f v (fun w' => C.Land W w' x (M.nx t v) Le)
  aft : ∀ W x y t S p af v es Le Li, C.ok t → C.kind t = .run S p af → 0 ≤ v ∧ v ≤ 18446744073709551615 → S.M.ax (S.M.nx p v) = none → Blk W x (C.cells t es none) C.T → S.I W y (S.M.nx p v) Li → C.tie t es y → C.ext t es W Le → x ∉ Le → x ∉ Li → (∀ k ∈ Li, k ∉ Le) → R.P W → x ∉ R.B → FolC W x af.fol 0 (fun w' => C.Land W w' x (M.nx t v) (Li ++ Le))

section
variable {σ : Type} {C : Cp σ} {M : PM σ} {R : Rd} {who : Int}
/-- The machine's own block, whatever comes. -/
theorem Cp.blk {w : World} {x : Nat} {t : σ} {L : List Nat} (hL : C.Laws M R who) (h : C.I w x t L) : ∃ es Le nx, Blk w x (C.cells t es nx) C.T ∧ C.ext t es w Le ∧ (∀ k ∈ Le, k ∈ L) ∧ nx.isNone = (M.ax t).isNone := by
  obtain ⟨hok, es, Le, he, hxe, h⟩ := h
  cases hk : C.kind t with
  | over =>
    rw [hk] at h
    obtain ⟨h1, rfl⟩ := h
    exact ⟨es, Le, none, h1, he, fun k hk => by simp [hk], by rw [hL.k0 t hok hk]; rfl⟩
  | acc a f =>
    rw [hk] at h
    obtain ⟨q, Lc, h1, h2, h3, h4, rfl⟩ := h
    exact ⟨es, Le, _, h1, he, fun k hk => by simp [hk], by rw [(hL.k1 t a f hok hk).1]; rfl⟩
  | run S p af =>
    rw [hk] at h
    obtain ⟨q, y, g, Li, h1, h2, _, h3, h4, h5, h6, rfl⟩ := h
    obtain ⟨k1, k2, _, _⟩ := hL.k2 t S p af hok hk
    refine ⟨es, Le, _, h1.hx, he, fun k hk => by simp [hk], ?_⟩
    rw [k1]
    cases hs : S.M.ax p
    · rw [hs] at k2; cases k2
    · rfl
theorem Cp.mem {w : World} {x : Nat} {t : σ} {L : List Nat} (h : C.I w x t L) : x ∈ L := by
  obtain ⟨hok, es, Le, he, hxe, h⟩ := h
  cases hk : C.kind t with
  | over => rw [hk] at h; obtain ⟨h1, rfl⟩ := h; simp
  | acc a f => rw [hk] at h; obtain ⟨q, Lc, h1, h2, h3, h4, rfl⟩ := h; simp
  | run S p af => rw [hk] at h; obtain ⟨q, y, g, Li, h1, h2, _, h3, h4, h5, h6, rfl⟩ := h; simp
theorem Cp.good (hL : C.Laws M R who) : C.I.Good M := by
  refine ⟨?_, ?_, fun h => Cp.mem h, ?_⟩
  · intro w w' x t L l h hb hk
    obtain ⟨hok, es, Le, he, hxe, h⟩ := h
    refine ⟨hok, es, Le, ?_, hxe, ?_⟩
    · refine hL.ekeep t es w w' l Le he hb (fun k hm => hk k ?_)
      cases hkd : C.kind t with
      | over => rw [hkd] at h; obtain ⟨h1, rfl⟩ := h; simp [hm]
      | acc a f => rw [hkd] at h; obtain ⟨q, Lc, h1, h2, h3, h4, rfl⟩ := h; simp [hm]
      | run S p af => rw [hkd] at h; obtain ⟨q, y, g, Li, h1, h2, _, h3, h4, h5, h6, rfl⟩ := h; simp [hm]
    · cases hkd : C.kind t with
      | over => rw [hkd] at h; obtain ⟨h1, rfl⟩ := h; exact ⟨h1.but hb (hk x (by simp)), rfl⟩
      | acc a f =>
        rw [hkd] at h
        obtain ⟨q, Lc, h1, h2, h3, h4, rfl⟩ := h
        exact ⟨q, Lc, h1.but hb (hk x (by simp)), h2.but hb (fun k hm => hk k (by simp [hm])), h3, h4, rfl⟩
      | run S p af =>
        have hG := (hL.sub t S p af hok hkd).2.1
        rw [hkd] at h
        obtain ⟨q, y, g, Li, h1, h2, h2', h3, h4, h5, h6, rfl⟩ := h
        exact ⟨q, y, g, Li, h1.but hb (hk x (by simp)) (hk q (by simp)) (hk g (by simp)), hG.keep h2 hb (fun k hm => hk k (by simp [hm])), h2', h3, h4, h5, h6, rfl⟩
  · intro w x t L h k hk
    obtain ⟨hok, es, Le, he, hxe, h⟩ := h
    have hle := hL.elt t es w Le he
    cases hkd : C.kind t with
    | over =>
      rw [hkd] at h
      obtain ⟨h1, rfl⟩ := h
      simp at hk
      rcases hk with rfl | hk
      · exact h1.lt
      · exact hle k hk
    | acc a f =>
      rw [hkd] at h
      obtain ⟨q, Lc, h1, h2, h3, h4, rfl⟩ := h
      simp at hk
      rcases hk with rfl | hk | hk
      · exact h1.lt
      · exact h2.lt k hk
      · exact hle k hk
    | run S p af =>
      have hG := (hL.sub t S p af hok hkd).2.1
      rw [hkd] at h
      obtain ⟨q, y, g, Li, h1, h2, _, h3, h4, h5, h6, rfl⟩ := h
      simp at hk
      rcases hk with rfl | rfl | rfl | hk | hk
      · exact h1.hx.lt
      · exact h1.hq.lt
      · exact h1.hg.lt
      · exact hG.lt h2 k hk
      · exact hle k hk
  · intro w x t L h
    obtain ⟨es, Le, nx, h1, _, _, h2⟩ := Cp.blk hL h
    exact ⟨nx, h1.cell 1 (hL.c1 _ _ _), h2⟩
theorem Cp.axok (hL : C.Laws M R who) {w : World} {x : Nat} {t : σ} {L : List Nat} (h : C.I w x t L) : ∀ a, M.ax t = some a → a.Ok := by
  intro a ha
  have hok := h.1
  cases hk : C.kind t with
  | over => rw [hL.k0 t hok hk] at ha; cases ha
  | acc a' f =>
    obtain ⟨h1, h2, _⟩ := hL.k1 t a' f hok hk
    rw [h1] at ha
    cases ha
    exact h2
  | run S p af =>
    obtain ⟨h1, _, _, h4⟩ := hL.k2 t S p af hok hk
    exact h4 a (h1.symm.trans ha)
/-- Ways to land. -/
theorem Cp.land_over {W w' : World} {x : Nat} {t : σ} {es Le Le' : List Nat} (hb : But [x] W w') (hok : C.ok t) (hk : C.kind t = .over) (h : Blk w' x (C.cells t es none) C.T) (he : C.ext t es w' Le) (hxe : x ∉ Le) (hle : ∀ k ∈ Le, k ∈ Le') : C.Land W w' x t Le' :=
  ⟨hb, x :: Le, ⟨hok, es, Le, he, hxe, by rw [hk]; exact ⟨h, rfl⟩⟩, fun k hm => by simp at hm; rcases hm with rfl | hm; exact .inl rfl; exact .inr (.inl (hle k hm))⟩
theorem Cp.land_acc (hL : C.Laws M R who) {W w' : World} {x : Nat} {t : σ} {es Le Le' : List Nat} {a : Ax} {f : Fol} (h : Came W w' x (C.cells t es none) C.T a f) (hok : C.ok t) (hk : C.kind t = .acc a f) (he : C.ext t es W Le) (hx : x < W.heap.size) (hxe : x ∉ Le) (hle : ∀ k ∈ Le, k ∈ Le') : C.Land W w' x t Le' := by
  obtain ⟨q, Lc, h1, h2, h3, h4⟩ := h
  rw [hL.set] at h1
  have hlt := hL.elt t es W Le he
  refine ⟨h3, x :: (Lc ++ Le), ⟨hok, es, Le, hL.ekeep t es W w' _ Le he h3 (fun k hm => by simp; rintro rfl; exact hxe hm), hxe, ?_⟩, fun k hm => ?_⟩
  · rw [hk]
    exact ⟨q, Lc, h1, h2, fun hm => absurd (h4 x hm) (by omega), fun k hm hm2 => absurd (h4 k hm) (by have := hlt k hm2; omega), rfl⟩
  · simp at hm
    rcases hm with rfl | hm | hm
    · exact .inl rfl
    · exact .inr (.inr (h4 k hm))
    · exact .inr (.inl (hle k hm))
theorem Cp.land_run (hL : C.Laws M R who) {W w' : World} {x : Nat} {t : σ} {es Le Le' Li : List Nat} {S : Sub} {p : S.τ} {af : After} {y q g : Nat} {cs0 : Array Value} (hin : S.I w' y p Li) (hLi : ∀ k ∈ Li, W.heap.size ≤ k) (hqi : q ∉ Li) (hgi : g ∉ Li)
    (h : CameBox W w' x cs0 C.T (fun v => comCells 0 0 0 0 0 false (.iface S.D (.pointer (some ⟨y, 0, none⟩))) v false false) (af.fol.box x) q g) (hcs : ∀ nx, cs0.setIfInBounds 1 (.pointer nx) = C.cells t es nx)
    (hok : C.ok t) (hk : C.kind t = .run S p af) (hty : C.tie t es y) (he : C.ext t es W Le) (hx : x < W.heap.size) (hxe : x ∉ Le) (hle : ∀ k ∈ Le, k ∈ Le') : C.Land W w' x t Le' := by
  have hb := h.at'.but
  have hlt := hL.elt t es W Le he
  have hxi : x ∉ Li := fun hm => absurd (hLi x hm) (by omega)
  have hq : W.heap.size ≤ q := h.at'.fresh
  have hg : W.heap.size ≤ g := h.fresh
  refine ⟨hb, x :: q :: g :: (Li ++ Le), ⟨hok, es, Le, hL.ekeep t es W w' _ Le he hb (fun k hm => by simp; rintro rfl; exact hxe hm), hxe, ?_⟩, fun k hm => ?_⟩
  · rw [hk]
    refine ⟨q, y, g, Li, RunAt.of h hcs, hin, hty, ?_, hqi, hgi, ?_, rfl⟩
    · simp only [List.mem_cons, not_or]
      exact ⟨by omega, by omega, hxi⟩
    · intro k hm hm2
      have := hlt k hm2
      simp only [List.mem_cons] at hm
      rcases hm with rfl | rfl | hm
      · omega
      · omega
      · have := hLi k hm; omega
  · simp at hm
    rcases hm with rfl | rfl | rfl | hm | hm
    · exact .inl rfl
    · exact .inr (.inr (by omega))
    · exact .inr (.inr (by omega))
    · exact .inr (.inr (hLi k hm))
    · exact .inr (.inl (hle k hm))

theorem Cp.steps (hL : C.Laws M R who) {K : Nat} (hK : StepBy K) : Steps M C.I R K who := by
  intro w A cp cm b n s x t L h hR hI hn hl hf hcb
  have hI0 := h
  obtain ⟨hok, es, Le, he, hxe, h⟩ := h
  cases hkd : C.kind t with
  | over =>
    have hax := hL.k0 t hok hkd
    have eT : M.goT n t s = t := by unfold PM.goT; rw [hax]
    have eS : M.goS who n t s = s := by unfold PM.goS; rw [hax]
    rw [eT, eS, hax]
    rw [hkd] at h
    obtain ⟨h1, rfl⟩ := h
    refine (hK w x _ (fun z w' => z = true ∧ w = w') ((step_none w x cm (h1.cell 1 (hL.c1 _ _ _))).mono ?_)).mono ?_
    · rintro e w' ⟨rfl, rfl⟩; exact ⟨true, rfl, rfl, rfl⟩
    · rintro e w' ⟨z, rfl, rfl, rfl⟩
      exact ⟨rfl, _, hI0, hI, But.refl _ _, fun k hk => .inl hk⟩
  | acc a f =>
    obtain ⟨hax, haok, hent⟩ := hL.k1 t a f hok hkd
    have eT : M.goT n t s = M.nx t (actA a.k a.i a.old a.new n s) := PM.goT_some hax (PM.asl_no (hL.ns t a f hkd))
    have eS : M.goS who n t s = actS a.k who a.i a.old a.new n s := PM.goS_some hax (PM.asl_no (hL.ns t a f hkd))
    rw [eT, eS]
    have hv := actA_bd hI a.k a.i a.old a.new
    rw [hkd] at h
    obtain ⟨q, Lc, h1, h2, h3, h4, rfl⟩ := h
    have hx := hf x (by simp)
    refine hK.to (R := fun nx w' => nx.isNone = (M.ax (M.nx t (actA a.k a.i a.old a.new n s))).isNone ∧ ∃ L', C.I w' x (M.nx t (actA a.k a.i a.old a.new n s)) L' ∧ Is w' 141 A cp cm b n (actS a.k who a.i a.old a.new n s) ∧ But (cm :: b :: x :: (Lc ++ Le)) w w' ∧ ∀ k ∈ L', k ∈ x :: (Lc ++ Le) ∨ w.heap.size ≤ k) ?_ (fun nx w' h => h)
    refine acc_step w A cp cm b n s hI hn hl x q _ C.T who a f Lc h1 (hL.c0 _ _ _) (hL.c1 _ _ _) h2 haok hent ⟨hx.1, hx.2.1⟩ h3 (fun k hk => ⟨(hf k (by simp [hk])).1, (hf k (by simp [hk])).2.1⟩) _ ?_
    intro W hW hIW hB
    rw [hL.set] at hW
    have hRW : R.P W := R.keep w W _ hR hB (fun k hk => by
      simp only [List.mem_cons, List.not_mem_nil, or_false, not_or]
      exact ⟨fun e => hcb.1 (e ▸ hk), fun e => hcb.2 (e ▸ hk), fun e => hx.2.2 (e ▸ hk)⟩)
    have heW : C.ext t es W Le := hL.ekeep t es w W _ Le he hB (fun k hm => by
      have := hf k (by simp [hm])
      simp only [List.mem_cons, List.not_mem_nil, or_false, not_or]
      exact ⟨this.1, this.2.1, fun e => hxe (e ▸ hm)⟩)
    refine (hL.fol W x t a f _ es Le hok hkd hv hW heW hxe hRW hx.2.2).mono ?_
    rintro w' ⟨g3, L', g1, g2⟩
    obtain ⟨nx, e1, e2⟩ := (Cp.good hL).next g1
    refine ⟨nx, e1, e2, L', g1, hIW.but g3 (by simpa using hx.1.symm) (by simpa using hx.2.1.symm), ?_, fun k hk => ?_⟩
    · exact (hB.more (by intro k _ hk; simp at hk ⊢; omega)).trans (g3.more (by intro k _ hk; simp at hk ⊢; omega))
    · rcases g2 k hk with rfl | g2 | g2
      · exact .inl (by simp)
      · exact .inl (by simp [g2])
      · exact .inr (Nat.le_trans hB.size g2)
  | run S p af =>
    obtain ⟨hax, hsome, hent, _⟩ := hL.k2 t S p af hok hkd
    obtain ⟨hS, hG, hD, hRS, hRB⟩ := hL.sub t S p af hok hkd
    rw [hkd] at h
    obtain ⟨q, y, g, Li, h1, h2, hty, h3, h4, h5, h6, rfl⟩ := h
    obtain ⟨a, ha⟩ : ∃ a, S.M.ax p = some a := Option.isSome_iff_exists.1 hsome
    have hax' : M.ax t = some a := hax.trans ha
    have hv := actA_bd hI a.k a.i a.old a.new
    have eS : S.M.goS who n p s = M.goS who n t s := by
      by_cases hz : PM.asl n a s = true
      · rw [PM.goS_asl ha hz, PM.goS_asl hax' hz]
      · rw [PM.goS_some ha (by simpa using hz), PM.goS_some hax' (by simpa using hz)]
    have hgo : (S.M.ax (S.M.goT n p s)).isSome = true → C.ok (M.goT n t s) ∧ C.kind (M.goT n t s) = .run S (S.M.goT n p s) af ∧ (∀ es, C.cells (M.goT n t s) es = C.cells t es) ∧ (∀ es w Le, C.ext t es w Le → C.ext (M.goT n t s) es w Le) ∧ (∀ es y, C.tie t es y → C.tie (M.goT n t s) es y) := by
      by_cases hz : PM.asl n a s = true
      · rw [PM.goT_asl ha hz, PM.goT_asl hax' hz]
        exact fun _ => ⟨hok, hkd, fun _ => rfl, fun _ _ _ h => h, fun _ _ h => h⟩
      · rw [PM.goT_some ha (by simpa using hz), PM.goT_some hax' (by simpa using hz)]
        exact fun hs => hL.on t S p af _ hok hkd hv hs
    have hov : S.M.ax (S.M.goT n p s) = none → M.goT n t s = M.nx t (actA a.k a.i a.old a.new n s) ∧ S.M.goT n p s = S.M.nx p (actA a.k a.i a.old a.new n s) := by
      by_cases hz : PM.asl n a s = true
      · rw [PM.goT_asl ha hz, PM.goT_asl hax' hz]
        exact fun h => by rw [ha] at h; cases h
      · rw [PM.goT_some ha (by simpa using hz), PM.goT_some hax' (by simpa using hz)]
        exact fun _ => ⟨rfl, rfl⟩
    have hx := hf x (by simp)
    have hxi : x ∉ Li := fun hm => h3 (by simp [hm])
    refine hK.to (R := fun nx w' => nx.isNone = (M.ax (M.goT n t s)).isNone ∧ ∃ L', C.I w' x (M.goT n t s) L' ∧ Is w' 141 A cp cm b n (M.goS who n t s) ∧ But (cm :: b :: x :: q :: g :: (Li ++ Le)) w w' ∧ ∀ k ∈ L', k ∈ x :: q :: g :: (Li ++ Le) ∨ w.heap.size ≤ k) ?_ (fun nx w' h => h)
    refine run_step hS hG hD w A cm cp b n s hI hn hl x q y g (C.cells t es) C.T af p Li h1 (hL.c0 t es) (hL.c1 t es) (hL.set t es) hent h2 (hRS w hR) h3 h4 h5 (fun k hk => ?_) ⟨fun hm => hcb.1 (hRB _ hm), fun hm => hcb.2 (hRB _ hm)⟩ _ ?_ ?_
    · have hk' : k ∈ x :: q :: g :: (Li ++ Le) := by simp at hk ⊢; rcases hk with h | h | h | h <;> simp [h]
      exact ⟨(hf k hk').1, (hf k hk').2.1, fun hm => (hf k hk').2.2 (hRB _ hm)⟩
    · -- it goes on
      rw [eS]
      intro hs w' Li' hA' hin' hI' hB hLi'
      obtain ⟨o1, o2, o3, o4, o5⟩ := hgo hs
      have hlt := hL.elt t es w Le he
      have hLe : ∀ k ∈ Le, k ∉ cm :: b :: q :: Li := fun k hm => by
        have := hf k (by simp [hm])
        simp only [List.mem_cons, not_or]
        exact ⟨this.1, this.2.1, fun e => h6 q (by simp) (e ▸ hm), fun hi => h6 k (by simp [hi]) hm⟩
      have hin3 : ∀ k, k ∈ Li' → k ∈ Li ∨ w.heap.size ≤ k := hLi'
      have hxlt := h1.hx.lt
      have hqlt := h1.hq.lt
      have hglt := h1.hg.lt
      have hI2 : C.I w' x (M.goT n t s) (x :: q :: g :: (Li' ++ Le)) := by
        refine ⟨o1, es, Le, o4 es w' Le (hL.ekeep t es w w' _ Le he hB hLe), hxe, ?_⟩
        rw [o2]
        refine ⟨q, y, g, Li', by rw [o3]; exact hA', hin', o5 es y hty, ?_, ?_, ?_, ?_, rfl⟩
        · simp only [List.mem_cons, not_or] at h3 ⊢
          exact ⟨h3.1, h3.2.1, fun hm => by rcases hin3 x hm with h | h; exact hxi h; omega⟩
        · intro hm; rcases hin3 q hm with h | h; exact h4 h; omega
        · intro hm; rcases hin3 g hm with h | h; exact h5 h; omega
        · intro k hm hm2
          simp only [List.mem_cons] at hm
          rcases hm with rfl | rfl | hm
          · exact h6 k (by simp) hm2
          · exact h6 k (by simp) hm2
          · rcases hin3 k hm with h | h
            · exact h6 k (by simp [h]) hm2
            · have := hlt k hm2; omega
      obtain ⟨nx, e1, e2⟩ := (Cp.good hL).next hI2
      have e3 : nx = some ⟨q, 0, none⟩ := by
        have := hA'.hx.cell 1 (hL.c1 t es _)
        rw [e1] at this
        simpa using this
      subst e3
      refine ⟨e2, _, hI2, hI', hB.more (by intro k _ hk; simp at hk ⊢; rcases hk with h | h | h | h <;> simp [h]), fun k hk => ?_⟩
      simp at hk ⊢
      rcases hk with h | h | h | h | h
      · simp [h]
      · simp [h]
      · simp [h]
      · rcases hin3 k h with h | h
        · simp [h]
        · exact .inr h
      · simp [h]
    · -- it is over
      rw [eS]
      intro hs W Li' hW hin' hI' hB hLi'
      obtain ⟨e0, e9⟩ := hov hs
      rw [e0]
      rw [e9] at hs hin'
      have hRW : R.P W := R.keep w W _ hR hB (fun k hk => by
        simp only [List.mem_cons, not_or]
        refine ⟨fun e => hcb.1 (e ▸ hk), fun e => hcb.2 (e ▸ hk), fun e => hx.2.2 (e ▸ hk), fun e => (hf q (by simp)).2.2 (e ▸ hk), fun hm => (hf k (by simp [hm])).2.2 hk⟩)
      have hlt := hL.elt t es w Le he
      have hxlt := h1.hx.lt
      have heW : C.ext t es W Le := hL.ekeep t es w W _ Le he hB (fun k hm => by
        have := hf k (by simp [hm])
        simp only [List.mem_cons, not_or]
        exact ⟨this.1, this.2.1, fun e => hxe (e ▸ hm), fun e => h6 q (by simp) (e ▸ hm), fun hi => h6 k (by simp [hi]) hm⟩)
      have hxi' : x ∉ Li' := fun hm => by rcases hLi' x hm with h | h; exact hxi h; omega
      have hdl : ∀ k ∈ Li', k ∉ Le := fun k hm hm2 => by
        rcases hLi' k hm with h | h
        · exact h6 k (by simp [h]) hm2
        · have := hlt k hm2; omega
      refine (hL.aft W x y t S p af _ es Le Li' hok hkd hv hs hW hin' hty heW hxe hxi' hdl hRW hx.2.2).mono ?_
      rintro w' ⟨g3, L', g1, g2⟩
      obtain ⟨nx, e1, e2⟩ := (Cp.good hL).next g1
      refine ⟨nx, e1, e2, L', g1, hI'.but g3 (by simpa using hx.1.symm) (by simpa using hx.2.1.symm), ?_, fun k hk => ?_⟩
      · exact (hB.more (by intro k _ hk; simp at hk ⊢; rcases hk with h | h | h | h | h <;> simp [h])).trans (g3.more (by intro k _ hk; simp at hk ⊢; simp [hk]))
      · rcases g2 k hk with rfl | g2 | g2
        · exact .inl (by simp)
        · rcases List.mem_append.1 g2 with g2 | g2
          · rcases hLi' k g2 with h | h
            · exact .inl (by simp [h])
            · exact .inr h
          · exact .inl (by simp [g2])
        · exact .inr (Nat.le_trans hB.size g2)
end
end Go.Proofs.YtfdpikkinlljlaaGreat
