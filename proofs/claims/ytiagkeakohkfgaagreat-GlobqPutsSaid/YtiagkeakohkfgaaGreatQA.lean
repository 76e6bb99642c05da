/- globq.New, and what a put holds. -/
import Derived.Test.YtiagkeakohkfgaaGreatLkFl
import Derived.Test.YtiagkeakohkfgaaGreatLock2
import Derived.Test.YtiagkeakohkfgaaGreatFlRun
import Derived.Test.YtiagkeakohkfgaaGreatPoke
import Derived.Test.YtiagkeakohkfgaaGreatLaw
import Derived.Test.YtiagkeakohkfgaaGreatLock1
import Derived.Maps.OwnSet
import Derived.Maps.AppendAt
import Derived.OwnWalk
import Derived.ChangeShapes
import Derived.Test.YtiagkeakohkfgaaGreatRunD
import Derived.Stop.Asserts
namespace Go.Proofs.YtiagkeakohkfgaaGreat
open Go Go.RowKit
set_option linter.unusedVariables false
set_option maxRecDepth 100000
set_option linter.unusedSimpArgs false


theorem glob_word (w : World) (c : Nat) : Calls Tryz.prog 80 #[.pointer (some ⟨c, 0, none⟩), .int .i64 16] w fun e w' => e = .returned (.int .i64 16) ∧ w = w' := by
  go_enter Tryz.func80, Tryz.ntmps80
  go_wp2_with fail
  go_ret
  exact ⟨rfl, rfl⟩

theorem gs_any (o : Option Addr) (P T G : Int) (w : World) (h : LayO w P T G o) (hp : 0 ≤ P ∧ P ≤ 64) (hT : 0 ≤ T ∧ T ≤ 65536) : Calls Tryz.prog 123 #[.pointer o] w fun e w' => e = .returned (.agg #[.int .i64 (20 + P * 264 + T * 3), .int .i64 G, .int .i64 2]) ∧ Below w.heap.size w w' := by
  have hfc := field_c2
  have hb : Below w.heap.size w (w.alloc (.cells #[.int .i64 0, .int .i64 0, .int .i64 0] 179)) := (Below.refl _ _).alloc (Nat.le_refl _) _
  have HL : Hid _ := h.below hb
  clear h
  go_enter Tryz.func123, Tryz.ntmps123
  go_wp2_with fail
  go_at_call 152; refine (threads_any o P T G _ HL.out hp).mono ?_; rintro e w1 ⟨rfl, h1⟩
  go_wp2_with fail
  go_at_call 153; refine (end_any (20 + P * 264) T 3 _ (by omega) (by omega) (by omega) (by omega)).mono ?_; rintro e w2 ⟨rfl, h2⟩
  have hb2 : Below (w.heap.size + 1) (w.alloc (.cells #[.int .i64 0, .int .i64 0, .int .i64 0] 179)) w2 := by
    have h1' : Below (w.heap.size + 1) (w.alloc (.cells #[.int .i64 0, .int .i64 0, .int .i64 0] 179)) w1 := by simpa using h1
    exact h1'.trans (h2.mono (by have := h1.size; simpa using this))
  have HL2 : Hid _ := HL.out.below (by simpa using hb2)
  go_wp2_with fail
  go_at_call 81; refine (config_any o P T G _ HL2.out).mono ?_; rintro e w3 ⟨rfl, h3⟩
  have hb3 := hb2.trans (h3.mono (by have := hb2.size; simpa using this))
  have hR : Res w3 w.heap.size := Res.of hb3
  obtain ⟨⟨r0, r1, r2⟩, f0, f1, f2⟩ := hR.cells
  have hbb : Below w.heap.size w w3 := hb.trans (hb3.mono (by simp))
  have hlt := block_lt hR.heap
  obtain ⟨W, hW, HR, hB⟩ := hR.stored hbb (Nat.le_refl _) (.int .i64 (20 + P * 264 + T * 3)) (.int .i64 G) (.int .i64 2)
  clear HL HL2 hb h1 hR hb2 h2 hb3 h3 hbb
  go_wp2_with fail
  clear hW r0 r1 r2 f0 f1 f2
  exact bodyPost_ret (v := .agg #[.int .i64 (20 + P * 264 + T * 3), .int .i64 G, .int .i64 2]) (results_cell_row rfl _ _ w.heap.size 179 #[.int .i64 (20 + P * 264 + T * 3), .int .i64 G, .int .i64 2] (0, 0) _ rfl HR.out Tryz.underlying179 rfl (by kernel_rfl)) rfl ⟨rfl, hB⟩

theorem g_word (c : Nat) (P T G g f : Int) (w : World) (h : Lay w c P T G) (hp : 0 ≤ P ∧ P ≤ 64) (hT : 0 ≤ T ∧ T ≤ 65536) (hG : G ≤ 65536) : Calls Tryz.prog 83 #[.pointer (some ⟨c, 0, none⟩), .int .i64 g, .int .i64 f] w fun e w' => e = .returned (.int .i64 (wd (20 + P * 264 + T * 3) G 2 g f)) ∧ Below w.heap.size w w' := by
  have hs := gs_any _ P T G w (.some c h) hp hT
  clear h
  go_enter Tryz.func83, Tryz.ntmps83
  go_wp2_with fail
  go_at_call 123; refine hs.mono ?_; rintro e w1 ⟨rfl, h1⟩
  clear hs
  go_wp2_with fail
  go_at_call 124; refine (word_any _ G 2 g f _ (by omega) (by omega) (by omega)).mono ?_; rintro e w2 ⟨rfl, h2⟩
  have hb := seq h1 h2
  go_wp2_with fail
  go_ret
  exact ⟨rfl, hb⟩

end Go.Proofs.YtiagkeakohkfgaaGreat

namespace Go.Proofs.YtiagkeakohkfgaaGreat
open Go Go.RowKit
set_option linter.unusedVariables false
set_option maxRecDepth 100000
set_option linter.unusedSimpArgs false

/-- A machine that is run by another. -/
structure Sub where
  τ : Type
  M : PM τ
  I : MI τ
  R : Rd
  D : TypeId
  F : Nat
/-- What comes. -/
inductive Kind where
  | over
  | acc (a : Ax) (f : Fol)
  | run (S : Sub) (p : S.τ) (af : After)
/-- A machine in memory that may run others: es are addresses that it holds, ext says of further blocks of its own. -/
structure Cp (σ : Type) where
  T : TypeId
  cells : σ → List Nat → Option Addr → Array Value
  kind : σ → Kind
  ok : σ → Prop
  ext : σ → List Nat → World → List Nat → Prop
  tie : σ → List Nat → Nat → Prop
def Cp.Here {σ : Type} (C : Cp σ) (w : World) (x : Nat) (t : σ) (es Le L : List Nat) : Kind → Prop
  | .over => Blk w x (C.cells t es none) C.T ∧ L = x :: Le
  | .acc a f => ∃ q Lc, Blk w x (C.cells t es (some ⟨q, 0, none⟩)) C.T ∧ Com w x q a f Lc ∧ x ∉ Lc ∧ (∀ k ∈ Lc, k ∉ Le) ∧ L = x :: (Lc ++ Le)
  | .run S p af => ∃ q y g Li, RunAt w x q y g (C.cells t es) C.T S.D (af.fol.box x) ∧ S.I w y p Li ∧ C.tie t es y ∧ x ∉ q :: g :: Li ∧ q ∉ Li ∧ g ∉ Li ∧ (∀ k ∈ q :: g :: Li, k ∉ Le) ∧ L = x :: q :: g :: (Li ++ Le)
def Cp.I {σ : Type} (C : Cp σ) : MI σ := fun w x t L => C.ok t ∧ ∃ es Le, C.ext t es w Le ∧ x ∉ Le ∧ C.Here w x t es Le L (C.kind t)
/-- What follows has made the next thing come. -/
def Cp.Land {σ : Type} (C : Cp σ) (W w' : World) (x : Nat) (t : σ) (Le : List Nat) : Prop := But [x] W w' ∧ ∃ L', C.I w' x t L' ∧ ∀ k ∈ L', k = x ∨ k ∈ Le ∨ W.heap.size ≤ k

structure Cp.Laws {σ : Type} (C : Cp σ) (M : PM σ) (R : Rd) (who : Int) : Prop where
  c0 : ∀ t es nx, (C.cells t es nx)[0]? = some (.int .i64 who)
  c1 : ∀ t es nx, (C.cells t es nx)[1]? = some (.pointer nx)
  set : ∀ t es nx nx', (C.cells t es nx).setIfInBounds 1 (.pointer nx') = C.cells t es nx'
  k0 : ∀ t, C.ok t → C.kind t = .over → M.ax t = none
  k1 : ∀ t a f, C.ok t → C.kind t = .acc a f → M.ax t = some a ∧ a.Ok ∧ f.Ents
  k2 : ∀ t S p af, C.ok t → C.kind t = .run S p af → M.ax t = S.M.ax p ∧ (S.M.ax p).isSome = true ∧ af.fol.Ents ∧ (∀ a, S.M.ax p = some a → a.Ok)
  sub : ∀ t S p af, C.ok t → C.kind t = .run S p af → Steps S.M S.I S.R S.F who ∧ S.I.Good S.M ∧ ActRun S.D S.F ∧ (∀ w, R.P w → S.R.P w) ∧ (∀ k ∈ S.R.B, k ∈ R.B)
  on : ∀ t S p af v, C.ok t → C.kind t = .run S p af → 0 ≤ v ∧ v ≤ 18446744073709551615 → (S.M.ax (S.M.nx p v)).isSome = true → C.ok (M.nx t v) ∧ C.kind (M.nx t v) = .run S (S.M.nx p v) af ∧ (∀ es, C.cells (M.nx t v) es = C.cells t es) ∧ (∀ es w Le, C.ext t es w Le → C.ext (M.nx t v) es w Le) ∧ (∀ es y, C.tie t es y → C.tie (M.nx t v) es y)
  ekeep : ∀ t es w w' l Le, C.ext t es w Le → But l w w' → (∀ k ∈ Le, k ∉ l) → C.ext t es w' Le
  elt : ∀ t es w Le, C.ext t es w Le → ∀ k ∈ Le, k < w.heap.size
  fol : ∀ W x t a f v es Le, C.ok t → C.kind t = .acc a f → 0 ≤ v ∧ v ≤ 18446744073709551615 → Blk W x (C.cells t es none) C.T → C.ext t es W Le → x ∉ Le → R.P W → x ∉ R.B → FolC W x f v (fun w' => C.Land W w' x (M.nx t v) Le)
  aft : ∀ W x y t S p af v es Le Li, C.ok t → C.kind t = .run S p af → 0 ≤ v ∧ v ≤ 18446744073709551615 → S.M.ax (S.M.nx p v) = none → Blk W x (C.cells t es none) C.T → S.I W y (S.M.nx p v) Li → C.tie t es y → C.ext t es W Le → x ∉ Le → x ∉ Li → (∀ k ∈ Li, k ∉ Le) → R.P W → x ∉ R.B → FolC W x af.fol 0 (fun w' => C.Land W w' x (M.nx t v) (Li ++ Le))

section
variable {σ : Type} {C : Cp σ} {M : PM σ} {R : Rd} {who : Int}
/-- The machine's own block, whatever comes. -/
theorem Cp.blk {w : World} {x : Nat} {t : σ} {L : List Nat} (hL : C.Laws M R who) (h : C.I w x t L) : ∃ es Le nx, Blk w x (C.cells t es nx) C.T ∧ C.ext t es w Le ∧ (∀ k ∈ Le, k ∈ L) ∧ nx.isNone = (M.ax t).isNone := by
  obtain ⟨hok, es, Le, he, hxe, h⟩ := h
  cases hk : C.kind t with
  | over =>
    rw [hk] at h
    obtain ⟨h1, rfl⟩ := h
    exact ⟨es, Le, none, h1, he, fun k hk => by simp [hk], by rw [hL.k0 t hok hk]; rfl⟩
  | acc a f =>
    rw [hk] at h
    obtain ⟨q, Lc, h1, h2, h3, h4, rfl⟩ := h
    exact ⟨es, Le, _, h1, he, fun k hk => by simp [hk], by rw [(hL.k1 t a f hok hk).1]; rfl⟩
  | run S p af =>
    rw [hk] at h
    obtain ⟨q, y, g, Li, h1, h2, _, h3, h4, h5, h6, rfl⟩ := h
    obtain ⟨k1, k2, _, _⟩ := hL.k2 t S p af hok hk
    refine ⟨es, Le, _, h1.hx, he, fun k hk => by simp [hk], ?_⟩
    rw [k1]
    cases hs : S.M.ax p
    · rw [hs] at k2; cases k2
    · rfl
theorem Cp.mem {w : World} {x : Nat} {t : σ} {L : List Nat} (h : C.I w x t L) : x ∈ L := by
  obtain ⟨hok, es, Le, he, hxe, h⟩ := h
  cases hk : C.kind t with
  | over => rw [hk] at h; obtain ⟨h1, rfl⟩ := h; simp
  | acc a f => rw [hk] at h; obtain ⟨q, Lc, h1, h2, h3, h4, rfl⟩ := h; simp
  | run S p af => rw [hk] at h; obtain ⟨q, y, g, Li, h1, h2, _, h3, h4, h5, h6, rfl⟩ := h; simp
theorem Cp.good (hL : C.Laws M R who) : C.I.Good M := by
  refine ⟨?_, ?_, fun h => Cp.mem h, ?_⟩
  · intro w w' x t L l h hb hk
    obtain ⟨hok, es, Le, he, hxe, h⟩ := h
    refine ⟨hok, es, Le, ?_, hxe, ?_⟩
    · refine hL.ekeep t es w w' l Le he hb (fun k hm => hk k ?_)
      cases hkd : C.kind t with
      | over => rw [hkd] at h; obtain ⟨h1, rfl⟩ := h; simp [hm]
      | acc a f => rw [hkd] at h; obtain ⟨q, Lc, h1, h2, h3, h4, rfl⟩ := h; simp [hm]
      | run S p af => rw [hkd] at h; obtain ⟨q, y, g, Li, h1, h2, _, h3, h4, h5, h6, rfl⟩ := h; simp [hm]
    · cases hkd : C.kind t with
      | over => rw [hkd] at h; obtain ⟨h1, rfl⟩ := h; exact ⟨h1.but hb (hk x (by simp)), rfl⟩
      | acc a f =>
        rw [hkd] at h
        obtain ⟨q, Lc, h1, h2, h3, h4, rfl⟩ := h
        exact ⟨q, Lc, h1.but hb (hk x (by simp)), h2.but hb (fun k hm => hk k (by simp [hm])), h3, h4, rfl⟩
      | run S p af =>
        have hG := (hL.sub t S p af hok hkd).2.1
        rw [hkd] at h
        obtain ⟨q, y, g, Li, h1, h2, h2', h3, h4, h5, h6, rfl⟩ := h
        exact ⟨q, y, g, Li, h1.but hb (hk x (by simp)) (hk q (by simp)) (hk g (by simp)), hG.keep h2 hb (fun k hm => hk k (by simp [hm])), h2', h3, h4, h5, h6, rfl⟩
  · intro w x t L h k hk
    obtain ⟨hok, es, Le, he, hxe, h⟩ := h
    have hle := hL.elt t es w Le he
    cases hkd : C.kind t with
    | over =>
      rw [hkd] at h
      obtain ⟨h1, rfl⟩ := h
      simp at hk
      rcases hk with rfl | hk
      · exact h1.lt
      · exact hle k hk
    | acc a f =>
      rw [hkd] at h
      obtain ⟨q, Lc, h1, h2, h3, h4, rfl⟩ := h
      simp at hk
      rcases hk with rfl | hk | hk
      · exact h1.lt
      · exact h2.lt k hk
      · exact hle k hk
    | run S p af =>
      have hG := (hL.sub t S p af hok hkd).2.1
      rw [hkd] at h
      obtain ⟨q, y, g, Li, h1, h2, _, h3, h4, h5, h6, rfl⟩ := h
      simp at hk
      rcases hk with rfl | rfl | rfl | hk | hk
      · exact h1.hx.lt
      · exact h1.hq.lt
      · exact h1.hg.lt
      · exact hG.lt h2 k hk
      · exact hle k hk
  · intro w x t L h
    obtain ⟨es, Le, nx, h1, _, _, h2⟩ := Cp.blk hL h
    exact ⟨nx, h1.cell 1 (hL.c1 _ _ _), h2⟩
theorem Cp.axok (hL : C.Laws M R who) {w : World} {x : Nat} {t : σ} {L : List Nat} (h : C.I w x t L) : ∀ a, M.ax t = some a → a.Ok := by
  intro a ha
  have hok := h.1
  cases hk : C.kind t with
  | over => rw [hL.k0 t hok hk] at ha; cases ha
  | acc a' f =>
    obtain ⟨h1, h2, _⟩ := hL.k1 t a' f hok hk
    rw [h1] at ha
    cases ha
    exact h2
  | run S p af =>
    obtain ⟨h1, _, _, h4⟩ := hL.k2 t S p af hok hk
    exact h4 a (h1.symm.trans ha)
/-- Ways to land. -/
theorem Cp.land_over {W w' : World} {x : Nat} {t : σ} {es Le Le' : List Nat} (hb : But [x] W w') (hok : C.ok t) (hk : C.kind t = .over) (h : Blk w' x (C.cells t es none) C.T) (he : C.ext t es w' Le) (hxe : x ∉ Le) (hle : ∀ k ∈ Le, k ∈ Le') : C.Land W w' x t Le' :=
  ⟨hb, x :: Le, ⟨hok, es, Le, he, hxe, by rw [hk]; exact ⟨h, rfl⟩⟩, fun k hm => by simp at hm; rcases hm with rfl | hm; exact .inl rfl; exact .inr (.inl (hle k hm))⟩
theorem Cp.land_acc (hL : C.Laws M R who) {W w' : World} {x : Nat} {t : σ} {es Le Le' : List Nat} {a : Ax} {f : Fol} (h : Came W w' x (C.cells t es none) C.T a f) (hok : C.ok t) (hk : C.kind t = .acc a f) (he : C.ext t es W Le) (hx : x < W.heap.size) (hxe : x ∉ Le) (hle : ∀ k ∈ Le, k ∈ Le') : C.Land W w' x t Le' := by
  obtain ⟨q, Lc, h1, h2, h3, h4⟩ := h
  rw [hL.set] at h1
  have hlt := hL.elt t es W Le he
  refine ⟨h3, x :: (Lc ++ Le), ⟨hok, es, Le, hL.ekeep t es W w' _ Le he h3 (fun k hm => by simp; rintro rfl; exact hxe hm), hxe, ?_⟩, fun k hm => ?_⟩
  · rw [hk]
    exact ⟨q, Lc, h1, h2, fun hm => absurd (h4 x hm) (by omega), fun k hm hm2 => absurd (h4 k hm) (by have := hlt k hm2; omega), rfl⟩
  · simp at hm
    rcases hm with rfl | hm | hm
    · exact .inl rfl
    · exact .inr (.inr (h4 k hm))
    · exact .inr (.inl (hle k hm))
theorem Cp.land_run (hL : C.Laws M R who) {W w' : World} {x : Nat} {t : σ} {es Le Le' Li : List Nat} {S : Sub} {p : S.τ} {af : After} {y q g : Nat} {cs0 : Array Value} (hin : S.I w' y p Li) (hLi : ∀ k ∈ Li, W.heap.size ≤ k) (hqi : q ∉ Li) (hgi : g ∉ Li)
    (h : CameBox W w' x cs0 C.T (fun v => comCells 0 0 0 0 0 false (.iface S.D (.pointer (some ⟨y, 0, none⟩))) v false false) (af.fol.box x) q g) (hcs : ∀ nx, cs0.setIfInBounds 1 (.pointer nx) = C.cells t es nx)
    (hok : C.ok t) (hk : C.kind t = .run S p af) (hty : C.tie t es y) (he : C.ext t es W Le) (hx : x < W.heap.size) (hxe : x ∉ Le) (hle : ∀ k ∈ Le, k ∈ Le') : C.Land W w' x t Le' := by
  have hb := h.at'.but
  have hlt := hL.elt t es W Le he
  have hxi : x ∉ Li := fun hm => absurd (hLi x hm) (by omega)
  have hq : W.heap.size ≤ q := h.at'.fresh
  have hg : W.heap.size ≤ g := h.fresh
  refine ⟨hb, x :: q :: g :: (Li ++ Le), ⟨hok, es, Le, hL.ekeep t es W w' _ Le he hb (fun k hm => by simp; rintro rfl; exact hxe hm), hxe, ?_⟩, fun k hm => ?_⟩
  · rw [hk]
    refine ⟨q, y, g, Li, RunAt.of h hcs, hin, hty, ?_, hqi, hgi, ?_, rfl⟩
    · simp only [List.mem_cons, not_or]
      exact ⟨by omega, by omega, hxi⟩
    · intro k hm hm2
      have := hlt k hm2
      simp only [List.mem_cons] at hm
      rcases hm with rfl | rfl | hm
      · omega
      · omega
      · have := hLi k hm; omega
  · simp at hm
    rcases hm with rfl | rfl | rfl | hm | hm
    · exact .inl rfl
    · exact .inr (.inr (by omega))
    · exact .inr (.inr (by omega))
    · exact .inr (.inr (hLi k hm))
    · exact .inr (.inl (hle k hm))

theorem Cp.steps (hL : C.Laws M R who) {K : Nat} (hK : StepBy K) : Steps M C.I R K who := by
  intro w A cp cm b n s x t L h hR hI hn hl hf hcb
  have hI0 := h
  obtain ⟨hok, es, Le, he, hxe, h⟩ := h
  cases hkd : C.kind t with
  | over =>
    have hax := hL.k0 t hok hkd
    have eT : M.goT n t s = t := by unfold PM.goT; rw [hax]
    have eS : M.goS who n t s = s := by unfold PM.goS; rw [hax]
    rw [eT, eS, hax]
    rw [hkd] at h
    obtain ⟨h1, rfl⟩ := h
    refine (hK w x _ (fun z w' => z = true ∧ w = w') ((step_none w x cm (h1.cell 1 (hL.c1 _ _ _))).mono ?_)).mono ?_
    · rintro e w' ⟨rfl, rfl⟩; exact ⟨true, rfl, rfl, rfl⟩
    · rintro e w' ⟨z, rfl, rfl, rfl⟩
      exact ⟨rfl, _, hI0, hI, But.refl _ _, fun k hk => .inl hk⟩
  | acc a f =>
    obtain ⟨hax, haok, hent⟩ := hL.k1 t a f hok hkd
    have eT : M.goT n t s = M.nx t (actA a.k a.i a.old a.new n s) := by unfold PM.goT; rw [hax]; rfl
    have eS : M.goS who n t s = actS a.k who a.i a.old a.new n s := by unfold PM.goS; rw [hax]
    rw [eT, eS]
    have hv := actA_bd hI a.k a.i a.old a.new
    rw [hkd] at h
    obtain ⟨q, Lc, h1, h2, h3, h4, rfl⟩ := h
    have hx := hf x (by simp)
    refine hK.to (R := fun nx w' => nx.isNone = (M.ax (M.nx t (actA a.k a.i a.old a.new n s))).isNone ∧ ∃ L', C.I w' x (M.nx t (actA a.k a.i a.old a.new n s)) L' ∧ Is w' 135 A cp cm b n (actS a.k who a.i a.old a.new n s) ∧ But (cm :: b :: x :: (Lc ++ Le)) w w' ∧ ∀ k ∈ L', k ∈ x :: (Lc ++ Le) ∨ w.heap.size ≤ k) ?_ (fun nx w' h => h)
    refine acc_step w A cp cm b n s hI hn hl x q _ C.T who a f Lc h1 (hL.c0 _ _ _) (hL.c1 _ _ _) h2 haok hent ⟨hx.1, hx.2.1⟩ h3 (fun k hk => ⟨(hf k (by simp [hk])).1, (hf k (by simp [hk])).2.1⟩) _ ?_
    intro W hW hIW hB
    rw [hL.set] at hW
    have hRW : R.P W := R.keep w W _ hR hB (fun k hk => by
      simp only [List.mem_cons, List.not_mem_nil, or_false, not_or]
      exact ⟨fun e => hcb.1 (e ▸ hk), fun e => hcb.2 (e ▸ hk), fun e => hx.2.2 (e ▸ hk)⟩)
    have heW : C.ext t es W Le := hL.ekeep t es w W _ Le he hB (fun k hm => by
      have := hf k (by simp [hm])
      simp only [List.mem_cons, List.not_mem_nil, or_false, not_or]
      exact ⟨this.1, this.2.1, fun e => hxe (e ▸ hm)⟩)
    refine (hL.fol W x t a f _ es Le hok hkd hv hW heW hxe hRW hx.2.2).mono ?_
    rintro w' ⟨g3, L', g1, g2⟩
    obtain ⟨nx, e1, e2⟩ := (Cp.good hL).next g1
    refine ⟨nx, e1, e2, L', g1, hIW.but g3 (by simpa using hx.1.symm) (by simpa using hx.2.1.symm), ?_, fun k hk => ?_⟩
    · exact (hB.more (by intro k _ hk; simp at hk ⊢; omega)).trans (g3.more (by intro k _ hk; simp at hk ⊢; omega))
    · rcases g2 k hk with rfl | g2 | g2
      · exact .inl (by simp)
      · exact .inl (by simp [g2])
      · exact .inr (Nat.le_trans hB.size g2)
  | run S p af =>
    obtain ⟨hax, hsome, hent, _⟩ := hL.k2 t S p af hok hkd
    obtain ⟨hS, hG, hD, hRS, hRB⟩ := hL.sub t S p af hok hkd
    rw [hkd] at h
    obtain ⟨q, y, g, Li, h1, h2, hty, h3, h4, h5, h6, rfl⟩ := h
    obtain ⟨a, ha⟩ : ∃ a, S.M.ax p = some a := Option.isSome_iff_exists.1 hsome
    have hax' : M.ax t = some a := hax.trans ha
    have eT : M.goT n t s = M.nx t (actA a.k a.i a.old a.new n s) := by unfold PM.goT; rw [hax']; rfl
    have eS : M.goS who n t s = actS a.k who a.i a.old a.new n s := by unfold PM.goS; rw [hax']
    have eTi : S.M.goT n p s = S.M.nx p (actA a.k a.i a.old a.new n s) := by unfold PM.goT; rw [ha]; rfl
    have eSi : S.M.goS who n p s = actS a.k who a.i a.old a.new n s := by unfold PM.goS; rw [ha]
    rw [eT, eS]
    have hv := actA_bd hI a.k a.i a.old a.new
    have hx := hf x (by simp)
    have hxi : x ∉ Li := fun hm => h3 (by simp [hm])
    refine hK.to (R := fun nx w' => nx.isNone = (M.ax (M.nx t (actA a.k a.i a.old a.new n s))).isNone ∧ ∃ L', C.I w' x (M.nx t (actA a.k a.i a.old a.new n s)) L' ∧ Is w' 135 A cp cm b n (actS a.k who a.i a.old a.new n s) ∧ But (cm :: b :: x :: q :: g :: (Li ++ Le)) w w' ∧ ∀ k ∈ L', k ∈ x :: q :: g :: (Li ++ Le) ∨ w.heap.size ≤ k) ?_ (fun nx w' h => h)
    refine run_step hS hG hD w A cm cp b n s hI hn hl x q y g (C.cells t es) C.T af p Li h1 (hL.c0 t es) (hL.c1 t es) (hL.set t es) hent h2 (hRS w hR) h3 h4 h5 (fun k hk => ?_) ⟨fun hm => hcb.1 (hRB _ hm), fun hm => hcb.2 (hRB _ hm)⟩ _ ?_ ?_
    · have hk' : k ∈ x :: q :: g :: (Li ++ Le) := by simp at hk ⊢; rcases hk with h | h | h | h <;> simp [h]
      exact ⟨(hf k hk').1, (hf k hk').2.1, fun hm => (hf k hk').2.2 (hRB _ hm)⟩
    · -- it goes on
      rw [eTi, eSi]
      intro hs w' Li' hA' hin' hI' hB hLi'
      obtain ⟨o1, o2, o3, o4, o5⟩ := hL.on t S p af _ hok hkd hv hs
      have hlt := hL.elt t es w Le he
      have hLe : ∀ k ∈ Le, k ∉ cm :: b :: q :: Li := fun k hm => by
        have := hf k (by simp [hm])
        simp only [List.mem_cons, not_or]
        exact ⟨this.1, this.2.1, fun e => h6 q (by simp) (e ▸ hm), fun hi => h6 k (by simp [hi]) hm⟩
      have hin3 : ∀ k, k ∈ Li' → k ∈ Li ∨ w.heap.size ≤ k := hLi'
      have hxlt := h1.hx.lt
      have hqlt := h1.hq.lt
      have hglt := h1.hg.lt
      have hI2 : C.I w' x (M.nx t (actA a.k a.i a.old a.new n s)) (x :: q :: g :: (Li' ++ Le)) := by
        refine ⟨o1, es, Le, o4 es w' Le (hL.ekeep t es w w' _ Le he hB hLe), hxe, ?_⟩
        rw [o2]
        refine ⟨q, y, g, Li', by rw [o3]; exact hA', hin', o5 es y hty, ?_, ?_, ?_, ?_, rfl⟩
        · simp only [List.mem_cons, not_or] at h3 ⊢
          exact ⟨h3.1, h3.2.1, fun hm => by rcases hin3 x hm with h | h; exact hxi h; omega⟩
        · intro hm; rcases hin3 q hm with h | h; exact h4 h; omega
        · intro hm; rcases hin3 g hm with h | h; exact h5 h; omega
        · intro k hm hm2
          simp only [List.mem_cons] at hm
          rcases hm with rfl | rfl | hm
          · exact h6 k (by simp) hm2
          · exact h6 k (by simp) hm2
          · rcases hin3 k hm with h | h
            · exact h6 k (by simp [h]) hm2
            · have := hlt k hm2; omega
      obtain ⟨nx, e1, e2⟩ := (Cp.good hL).next hI2
      have e3 : nx = some ⟨q, 0, none⟩ := by
        have := hA'.hx.cell 1 (hL.c1 t es _)
        rw [e1] at this
        simpa using this
      subst e3
      refine ⟨e2, _, hI2, hI', hB.more (by intro k _ hk; simp at hk ⊢; rcases hk with h | h | h | h <;> simp [h]), fun k hk => ?_⟩
      simp at hk ⊢
      rcases hk with h | h | h | h | h
      · simp [h]
      · simp [h]
      · simp [h]
      · rcases hin3 k h with h | h
        · simp [h]
        · exact .inr h
      · simp [h]
    · -- it is over
      rw [eTi, eSi]
      intro hs W Li' hW hin' hI' hB hLi'
      have hRW : R.P W := R.keep w W _ hR hB (fun k hk => by
        simp only [List.mem_cons, not_or]
        refine ⟨fun e => hcb.1 (e ▸ hk), fun e => hcb.2 (e ▸ hk), fun e => hx.2.2 (e ▸ hk), fun e => (hf q (by simp)).2.2 (e ▸ hk), fun hm => (hf k (by simp [hm])).2.2 hk⟩)
      have hlt := hL.elt t es w Le he
      have hxlt := h1.hx.lt
      have heW : C.ext t es W Le := hL.ekeep t es w W _ Le he hB (fun k hm => by
        have := hf k (by simp [hm])
        simp only [List.mem_cons, not_or]
        exact ⟨this.1, this.2.1, fun e => hxe (e ▸ hm), fun e => h6 q (by simp) (e ▸ hm), fun hi => h6 k (by simp [hi]) hm⟩)
      have hxi' : x ∉ Li' := fun hm => by rcases hLi' x hm with h | h; exact hxi h; omega
      have hdl : ∀ k ∈ Li', k ∉ Le := fun k hm hm2 => by
        rcases hLi' k hm with h | h
        · exact h6 k (by simp [h]) hm2
        · have := hlt k hm2; omega
      refine (hL.aft W x y t S p af _ es Le Li' hok hkd hv hs hW hin' hty heW hxe hxi' hdl hRW hx.2.2).mono ?_
      rintro w' ⟨g3, L', g1, g2⟩
      obtain ⟨nx, e1, e2⟩ := (Cp.good hL).next g1
      refine ⟨nx, e1, e2, L', g1, hI'.but g3 (by simpa using hx.1.symm) (by simpa using hx.2.1.symm), ?_, fun k hk => ?_⟩
      · exact (hB.more (by intro k _ hk; simp at hk ⊢; rcases hk with h | h | h | h | h <;> simp [h])).trans (g3.more (by intro k _ hk; simp at hk ⊢; simp [hk]))
      · rcases g2 k hk with rfl | g2 | g2
        · exact .inl (by simp)
        · rcases List.mem_append.1 g2 with g2 | g2
          · rcases hLi' k g2 with h | h
            · exact .inl (by simp [h])
            · exact .inr h
          · exact .inl (by simp [g2])
        · exact .inr (Nat.le_trans hB.size g2)
end
end Go.Proofs.YtiagkeakohkfgaaGreat

namespace Go.Proofs.YtiagkeakohkfgaaGreat
open Go Go.RowKit
set_option linter.unusedVariables false
set_option maxRecDepth 100000
set_option linter.unusedSimpArgs false

theorem glob_word_6 (w : World) (c : Nat) : Calls Tryz.prog 80 #[.pointer (some ⟨c, 0, none⟩), .int .i64 6] w fun e w' => e = .returned (.int .i64 6) ∧ w = w' := by
  go_enter Tryz.func80, Tryz.ntmps80
  go_wp2_with fail
  go_ret
  exact ⟨rfl, rfl⟩
theorem glob_word_7 (w : World) (c : Nat) : Calls Tryz.prog 80 #[.pointer (some ⟨c, 0, none⟩), .int .i64 7] w fun e w' => e = .returned (.int .i64 7) ∧ w = w' := by
  go_enter Tryz.func80, Tryz.ntmps80
  go_wp2_with fail
  go_ret
  exact ⟨rfl, rfl⟩
theorem glob_word_8 (w : World) (c : Nat) : Calls Tryz.prog 80 #[.pointer (some ⟨c, 0, none⟩), .int .i64 8] w fun e w' => e = .returned (.int .i64 8) ∧ w = w' := by
  go_enter Tryz.func80, Tryz.ntmps80
  go_wp2_with fail
  go_ret
  exact ⟨rfl, rfl⟩
theorem q_load6 (w : World) (x c K : Nat) (cs : Array Value) (T : TypeId) (h : Blk w x cs T) (hs : 2 ≤ cs.size) (h2 : cs[2]? = some (.pointer (some ⟨c, 0, none⟩))) :
    Calls Tryz.prog 85 #[.pointer (some ⟨x, 0, none⟩), .int .i64 6, .func (.func K) #[.pointer (some ⟨x, 0, none⟩)] #[]] w fun e w' => (∃ v, e = .returned v) ∧ Came w w' x cs T (axLd 6) (.told K) := by
  have H := came_load w.drew x cs T h.drew hs 6 K
  have c2 := h.cell 2 h2
  have hW := glob_word_6 w.drew c
  clear h hs h2
  go_enter Tryz.func85, Tryz.ntmps85
  go_wp2_with fail
  go_region_with (first | (go_at_call 80; refine hW.mono ?_; rintro e w3 ⟨rfl, rfl⟩) | (go_at_call 125; refine H.mono ?_; rintro e w1 ⟨⟨v, rfl⟩, hC⟩))
  all_goals
    have hC2 := hC.undrew
    clear hW H c2 hC
    go_wp2_with fail
    go_end0
    exact ⟨⟨_, rfl⟩, hC2⟩
theorem q_load8 (w : World) (x c K : Nat) (cs : Array Value) (T : TypeId) (h : Blk w x cs T) (hs : 2 ≤ cs.size) (h2 : cs[2]? = some (.pointer (some ⟨c, 0, none⟩))) :
    Calls Tryz.prog 85 #[.pointer (some ⟨x, 0, none⟩), .int .i64 8, .func (.func K) #[.pointer (some ⟨x, 0, none⟩)] #[]] w fun e w' => (∃ v, e = .returned v) ∧ Came w w' x cs T (axLd 8) (.told K) := by
  have H := came_load w.drew x cs T h.drew hs 8 K
  have c2 := h.cell 2 h2
  have hW := glob_word_8 w.drew c
  clear h hs h2
  go_enter Tryz.func85, Tryz.ntmps85
  go_wp2_with fail
  go_region_with (first | (go_at_call 80; refine hW.mono ?_; rintro e w3 ⟨rfl, rfl⟩) | (go_at_call 125; refine H.mono ?_; rintro e w1 ⟨⟨v, rfl⟩, hC⟩))
  all_goals
    have hC2 := hC.undrew
    clear hW H c2 hC
    go_wp2_with fail
    go_end0
    exact ⟨⟨_, rfl⟩, hC2⟩
theorem q_load7 (w : World) (x c K : Nat) (cs : Array Value) (T : TypeId) (h : Blk w x cs T) (hs : 2 ≤ cs.size) (h2 : cs[2]? = some (.pointer (some ⟨c, 0, none⟩))) :
    Calls Tryz.prog 85 #[.pointer (some ⟨x, 0, none⟩), .int .i64 7, .func (.func K) #[.pointer (some ⟨x, 0, none⟩)] #[]] w fun e w' => (∃ v, e = .returned v) ∧ Came w w' x cs T (axLd 7) (.told K) := by
  have H := came_load w.drew x cs T h.drew hs 7 K
  have c2 := h.cell 2 h2
  have hW := glob_word_7 w.drew c
  clear h hs h2
  go_enter Tryz.func85, Tryz.ntmps85
  go_wp2_with fail
  go_region_with (first | (go_at_call 80; refine hW.mono ?_; rintro e w3 ⟨rfl, rfl⟩) | (go_at_call 125; refine H.mono ?_; rintro e w1 ⟨⟨v, rfl⟩, hC⟩))
  all_goals
    have hC2 := hC.undrew
    clear hW H c2 hC
    go_wp2_with fail
    go_end0
    exact ⟨⟨_, rfl⟩, hC2⟩
theorem q_store6 (w : World) (x c K : Nat) (cs : Array Value) (T : TypeId) (u : Int) (h : Blk w x cs T) (hs : 2 ≤ cs.size) (h2 : cs[2]? = some (.pointer (some ⟨c, 0, none⟩))) :
    Calls Tryz.prog 154 #[.pointer (some ⟨x, 0, none⟩), .int .i64 6, .int .u64 u, .func (.func K) #[.pointer (some ⟨x, 0, none⟩)] #[]] w fun e w' => (∃ v, e = .returned v) ∧ Came w w' x cs T (axSt 6 u) (.untold K) := by
  have H := came_store w.drew x cs T h.drew hs 6 u K
  have c2 := h.cell 2 h2
  have hW := glob_word_6 w.drew c
  clear h hs h2
  go_enter Tryz.func154, Tryz.ntmps154
  go_wp2_with fail
  go_region_with (first | (go_at_call 80; refine hW.mono ?_; rintro e w3 ⟨rfl, rfl⟩) | (go_at_call 113; refine H.mono ?_; rintro e w1 ⟨⟨v, rfl⟩, hC⟩))
  all_goals
    have hC2 := hC.undrew
    clear hW H c2 hC
    go_wp2_with fail
    go_end0
    exact ⟨⟨_, rfl⟩, hC2⟩
theorem q_store7 (w : World) (x c K : Nat) (cs : Array Value) (T : TypeId) (u : Int) (h : Blk w x cs T) (hs : 2 ≤ cs.size) (h2 : cs[2]? = some (.pointer (some ⟨c, 0, none⟩))) :
    Calls Tryz.prog 154 #[.pointer (some ⟨x, 0, none⟩), .int .i64 7, .int .u64 u, .func (.func K) #[.pointer (some ⟨x, 0, none⟩)] #[]] w fun e w' => (∃ v, e = .returned v) ∧ Came w w' x cs T (axSt 7 u) (.untold K) := by
  have H := came_store w.drew x cs T h.drew hs 7 u K
  have c2 := h.cell 2 h2
  have hW := glob_word_7 w.drew c
  clear h hs h2
  go_enter Tryz.func154, Tryz.ntmps154
  go_wp2_with fail
  go_region_with (first | (go_at_call 80; refine hW.mono ?_; rintro e w3 ⟨rfl, rfl⟩) | (go_at_call 113; refine H.mono ?_; rintro e w1 ⟨⟨v, rfl⟩, hC⟩))
  all_goals
    have hC2 := hC.undrew
    clear hW H c2 hC
    go_wp2_with fail
    go_end0
    exact ⟨⟨_, rfl⟩, hC2⟩
theorem q_count (w : World) (x c : Nat) (cs : Array Value) (T : TypeId) (u : Int) (h : Blk w x cs T) (hs : 2 ≤ cs.size) (h2 : cs[2]? = some (.pointer (some ⟨c, 0, none⟩))) :
    Calls Tryz.prog 177 #[.pointer (some ⟨x, 0, none⟩), .int .u64 u] w fun e w' => (∃ v, e = .returned v) ∧ Came w w' x cs T (axAd 8 u) .nil := by
  have H := came_add_nil w.drew x cs T h.drew hs 8 u
  have c2 := h.cell 2 h2
  have hW := glob_word_8 w.drew c
  clear h hs h2
  go_enter Tryz.func177, Tryz.ntmps177
  go_wp2_with fail
  go_region_with (first | (go_at_call 80; refine hW.mono ?_; rintro e w3 ⟨rfl, rfl⟩) | (go_at_call 186; refine H.mono ?_; rintro e w1 ⟨⟨v, rfl⟩, hC⟩))
  all_goals
    have hC2 := hC.undrew
    clear hW H c2 hC
    go_wp2_with fail
    go_end0
    exact ⟨⟨_, rfl⟩, hC2⟩
theorem q_link (w : World) (x c : Nat) (cs : Array Value) (T : TypeId) (P T' G g : Int) (h : Blk w x cs T) (h2 : cs[2]? = some (.pointer (some ⟨c, 0, none⟩))) (hl : Lay w c P T' G) (hp : 0 ≤ P ∧ P ≤ 64) (hT : 0 ≤ T' ∧ T' ≤ 65536) (hG : G ≤ 65536) :
    Calls Tryz.prog 114 #[.pointer (some ⟨x, 0, none⟩), .int .i64 g] w fun e w' => e = .returned (.int .i64 (wd (20 + P * 264 + T' * 3) G 2 g 1)) ∧ Below w.heap.size w w' := by
  have c2 := h.cell 2 h2
  have hW := g_word c P T' G g 1 w hl hp hT hG
  clear h h2 hl hp hT hG
  go_enter Tryz.func114, Tryz.ntmps114
  go_wp2_with fail
  go_at_call 83; refine hW.mono ?_; rintro e w1 ⟨rfl, h1⟩
  go_wp2_with fail
  go_ret
  exact ⟨rfl, h1⟩
theorem q_of (w : World) (x c : Nat) (who : Int) (cs cs' : Array Value) (T : TypeId) (h : Blk w x cs T) (hs : 3 ≤ cs.size) (hcs : (cs.setIfInBounds 2 (.pointer (some ⟨c, 0, none⟩))).setIfInBounds 0 (.int .i64 who) = cs') :
    Calls Tryz.prog 63 #[.pointer (some ⟨x, 0, none⟩), .pointer (some ⟨c, 0, none⟩), .int .i64 who] w fun e w' => (∃ v, e = .returned v) ∧ Blk w' x cs' T ∧ But [x] w w' ∧ w'.heap.size = w.heap.size := by
  have f2 := h.fro 2
  have hh2 := h.set 2 (.pointer (some ⟨c, 0, none⟩))
  have hF := fof_any _ x _ T who hh2 (by simp; omega)
  have hB0 : But [x] w (w.setCell ⟨x, 2, none⟩ (.pointer (some ⟨c, 0, none⟩))) := (But.refl _ w).set (g := x) (.inl (by simp)) 2 _
  obtain ⟨u, hu⟩ : ∃ u, w.cell? ⟨x, 2, none⟩ = some u := ⟨_, h.cell 2 (Array.getElem?_eq_getElem hs)⟩
  have HH : Hid (Blk _ x _ T ∧ But [x] w _ ∧ (w.setCell ⟨x, 2, none⟩ (.pointer (some ⟨c, 0, none⟩))).heap.size = w.heap.size) := ⟨hh2, hB0, size_set _ _ _⟩
  clear h hh2 hB0 hs
  go_enter Tryz.func63, Tryz.ntmps63
  go_wp2_with fail
  generalize w.setCell ⟨x, 2, none⟩ (.pointer (some ⟨c, 0, none⟩)) = W at *
  go_at_call 88; refine hF.mono ?_; rintro e w3 ⟨⟨v, rfl⟩, hw3⟩
  have h3 : Blk w3 x cs' T := by rw [hw3, ← hcs]; exact HH.out.1.set 0 _
  have hB3 : But [x] w w3 := by rw [hw3]; exact HH.out.2.1.set (g := x) (.inl (by simp)) 0 _
  have hs3 : w3.heap.size = w.heap.size := by rw [hw3, size_set]; exact HH.out.2.2
  clear hF hw3 HH hcs hu f2
  go_wp2_with fail
  go_end0
  exact ⟨⟨_, rfl⟩, h3, hB3, hs3⟩
theorem q_word (w : World) (g : Int) (hg : 0 ≤ g ∧ g ≤ 1000000) : Calls Tryz.prog 112 #[.int .i64 g] w fun e w' => e = .returned (.int .u64 (g + 1)) ∧ w = w' := by
  have w1 : IntKind.u64.wrap g = g := wrap_u64 (by omega)
  have w2 : IntKind.u64.wrap (g + 1) = g + 1 := wrap_u64 (by omega)
  go_enter Tryz.func112, Tryz.ntmps112
  go_wp2_with fail
  go_ret
  exact ⟨rfl, rfl⟩
end Go.Proofs.YtiagkeakohkfgaaGreat

namespace Go.Proofs.YtiagkeakohkfgaaGreat
open Go Go.RowKit
set_option linter.unusedVariables false
set_option maxRecDepth 100000
set_option linter.unusedSimpArgs false


/-- A release that is to be run. -/
structure RelM (w : World) (x q g : Nat) (who sv ow : Int) : Prop where
  m : Blk w x (relCells who (some ⟨q, 0, none⟩) sv) 209
  com : Blk w q (comCells 2 0 ow 0 0 false .nilIface (.func (.func 167) #[] #[.pointer (some ⟨g, 0, none⟩)]) false false) 174
  box : Blk w g #[.func (.func 203) #[.pointer (some ⟨x, 0, none⟩)] #[]] 1
  o1 : x < q
  o2 : x < g
  ne : g ≠ q
/-- An acquire that is to be run. -/
structure AcqM (w : World) (x q : Nat) (who tk sv ow : Int) : Prop where
  m : Blk w x (acqCells who (some ⟨q, 0, none⟩) sv ow 0 false) 205
  com : Blk w q (comCells 4 0 tk 0 1 false .nilIface (.func (.func 194) #[.pointer (some ⟨x, 0, none⟩)] #[]) false false) 174
  o1 : x < q
theorem RelM.but {w w' : World} {x q g c : Nat} {who sv ow : Int} (h : RelM w x q g who sv ow) (hb : But [c] w w') (h1 : c < x) : RelM w' x q g who sv ow :=
  ⟨h.m.but hb (by simp; omega), h.com.but hb (by have := h.o1; simp; omega), h.box.but hb (by have := h.o2; simp; omega), h.o1, h.o2, h.ne⟩
theorem AcqM.but {w w' : World} {x q c : Nat} {who tk sv ow : Int} (h : AcqM w x q who tk sv ow) (hb : But [c] w w') (h1 : c < x) : AcqM w' x q who tk sv ow :=
  ⟨h.m.but hb (by simp; omega), h.com.but hb (by have := h.o1; simp; omega), h.o1⟩
theorem CameBox.before {a w w' : World} {c q g : Nat} {cs : Array Value} {com : Value → Array Value} {fv : Value} {T : TypeId} (h : CameBox w w' c cs T com fv q g) (hb : But [c] a w) : CameBox a w' c cs T com fv q g :=
  ⟨⟨Nat.le_trans hb.size h.at'.fresh, h.at'.own, h.at'.com, hb.trans h.at'.but⟩, Nat.le_trans hb.size h.fresh, h.box, h.ne⟩

end Go.Proofs.YtiagkeakohkfgaaGreat

namespace Go.Proofs.YtiagkeakohkfgaaGreat
open Go Go.RowKit
set_option linter.unusedVariables false
set_option maxRecDepth 100000
set_option linter.unusedSimpArgs false


def putCells (who : Int) (nx : Option Addr) (c : Nat) (g : Int) : Array Value := #[.int .i64 who, .pointer nx, .pointer (some ⟨c, 0, none⟩), .int .i64 g]

end Go.Proofs.YtiagkeakohkfgaaGreat

namespace Go.Proofs.YtiagkeakohkfgaaGreat
open Go Go.RowKit
set_option linter.unusedVariables false
set_option maxRecDepth 100000
set_option linter.unusedSimpArgs false


def getCells (who : Int) (nx : Option Addr) (c : Nat) (g : Int) (got : Bool) : Array Value := #[.int .i64 who, .pointer nx, .pointer (some ⟨c, 0, none⟩), .int .i64 g, .bool got]

theorem glob_word17 (w : World) (c : Nat) : Calls Tryz.prog 80 #[.pointer (some ⟨c, 0, none⟩), .int .i64 17] w fun e w' => e = .returned (.int .i64 17) ∧ w = w' := by
  go_enter Tryz.func80, Tryz.ntmps80
  go_wp2_with fail
  go_ret
  exact ⟨rfl, rfl⟩

end Go.Proofs.YtiagkeakohkfgaaGreat

namespace Go.Proofs.YtiagkeakohkfgaaGreat
open Go Go.RowKit
set_option linter.unusedVariables false
set_option maxRecDepth 100000
set_option linter.unusedSimpArgs false


end Go.Proofs.YtiagkeakohkfgaaGreat

namespace Go.Proofs.YtiagkeakohkfgaaGreat
open Go Go.RowKit
set_option linter.unusedVariables false
set_option maxRecDepth 100000
set_option linter.unusedSimpArgs false


end Go.Proofs.YtiagkeakohkfgaaGreat

namespace Go.Proofs.YtiagkeakohkfgaaGreat
open Go Go.RowKit
set_option linter.unusedVariables false
set_option maxRecDepth 100000
set_option linter.unusedSimpArgs false


end Go.Proofs.YtiagkeakohkfgaaGreat

namespace Go.Proofs.YtiagkeakohkfgaaGreat
open Go Go.RowKit
set_option linter.unusedVariables false
set_option maxRecDepth 100000
set_option linter.unusedSimpArgs false

def acqSub (tk sv ow who : Int) : Sub := ⟨AcqT, acqPM tk sv ow who, (acqFl who sv ow).I (acqPM tk sv ow who), Rd.nil, 202, 223⟩
def relSub (sv ow who : Int) : Sub := ⟨RelT, relPM sv ow, (relFl who sv).I (relPM sv ow), Rd.nil, 206, 225⟩
theorem acqSub_ok (tk sv ow who : Int) (hw : 0 ≤ who ∧ who ≤ 1000000) (R : Rd) : Steps (acqPM tk sv ow who) ((acqFl who sv ow).I (acqPM tk sv ow who)) Rd.nil 223 who ∧ MI.Good ((acqFl who sv ow).I (acqPM tk sv ow who)) (acqPM tk sv ow who) ∧ ActRun 202 223 ∧ (∀ w, R.P w → Rd.nil.P w) ∧ (∀ k ∈ Rd.nil.B, k ∈ R.B) :=
  ⟨Fl.steps (acq_laws _ _ _ who hw) stepby_acq, Fl.good (acq_laws _ _ _ who hw), act_acq, fun _ _ => trivial, fun k hk => by cases hk⟩
theorem relSub_ok (sv ow who : Int) (R : Rd) : Steps (relPM sv ow) ((relFl who sv).I (relPM sv ow)) Rd.nil 225 who ∧ MI.Good ((relFl who sv).I (relPM sv ow)) (relPM sv ow) ∧ ActRun 206 225 ∧ (∀ w, R.P w → Rd.nil.P w) ∧ (∀ k ∈ Rd.nil.B, k ∈ R.B) :=
  ⟨Fl.steps (rel_laws _ _ who) stepby_rel, Fl.good (rel_laws _ _ who), act_rel, fun _ _ => trivial, fun k hk => by cases hk⟩
theorem acqSub_at {w : World} {y q : Nat} {tk sv ow who : Int} (h : AcqM w y q who tk sv ow) : ((acqFl who sv ow).I (acqPM tk sv ow who)) w y AcqT.fresh [y, q] :=
  ⟨trivial, q, [q], h.m, .told _ h.com, by have := h.o1; simp; omega, rfl⟩
theorem relSub_at {w : World} {y q g : Nat} {sv ow who : Int} (h : RelM w y q g who sv ow) : ((relFl who sv).I (relPM sv ow)) w y RelT.fresh [y, q, g] :=
  ⟨trivial, q, [q, g], h.m, .box _ g (fun _ h => by cases h) h.com h.box h.ne, by have := h.o1; have := h.o2; simp; omega, rfl⟩

/-- Getting a lock, and what is so behind it. -/
def AcqT.goes {σ : Type} (f : AcqT → σ) (e : σ) : AcqT → σ
  | .over _ => e
  | p => f p

/-- The machine that gives a goroutine back; gl is the place of its GLink. -/
inductive GpT where
  | acq (p : AcqT)
  | ld
  | ln (f : Int)
  | st
  | rel (p : RelT)
def gpPM (who g gl : Int) : PM GpT where
  ax := fun
    | .acq p => (acqPM 3 4 5 who).ax p
    | .ld => some (axLd 16)
    | .ln f => some (axSt gl f)
    | .st => some (axSt 16 (g + 1))
    | .rel p => (relPM 4 5).ax p
  nx := fun
    | .acq p, v => ((acqPM 3 4 5 who).nx p v).goes .acq .ld
    | .ld, v => .ln v
    | .ln _, _ => .st
    | .st, _ => .rel .fresh
    | .rel p, v => .rel ((relPM 4 5).nx p v)
def AcqT.Live : AcqT → Prop
  | .over _ => False
  | _ => True
theorem acq_nx_live {who v : Int} (p : AcqT) (h : ((acqPM 3 4 5 who).ax ((acqPM 3 4 5 who).nx p v)).isSome = true) : ((acqPM 3 4 5 who).nx p v).Live := by
  cases hp : (acqPM 3 4 5 who).nx p v with
  | over t => rw [hp] at h; cases h
  | fresh => trivial
  | wait t => trivial
  | has t => trivial
theorem acq_then_live {σ : Type} {f : AcqT → σ} {e : σ} : ∀ (p : AcqT), p.Live → p.goes f e = f p
  | .fresh, _ => rfl
  | .wait _, _ => rfl
  | .has _, _ => rfl
theorem acq_then_over {σ : Type} {f : AcqT → σ} {e : σ} {who : Int} : ∀ (p : AcqT), (acqPM 3 4 5 who).ax p = none → p.goes f e = e
  | .fresh, h => by cases h
  | .wait _, h => by cases h
  | .has _, h => by cases h
  | .over _, _ => rfl
theorem acq_live_some {who : Int} : ∀ (p : AcqT), p.Live → ((acqPM 3 4 5 who).ax p).isSome = true
  | .fresh, _ => rfl
  | .wait _, _ => rfl
  | .has _, _ => rfl
end Go.Proofs.YtiagkeakohkfgaaGreat

namespace Go.Proofs.YtiagkeakohkfgaaGreat
open Go Go.RowKit
set_option linter.unusedVariables false
set_option maxRecDepth 100000
set_option linter.unusedSimpArgs false

end Go.Proofs.YtiagkeakohkfgaaGreat

namespace Go.Proofs.YtiagkeakohkfgaaGreat
open Go Go.RowKit

/-- The goroutine that a word names. -/
def gw (v : Int) : Int := IntKind.i64.wrap (IntKind.u64.wrap (v - 1))
end Go.Proofs.YtiagkeakohkfgaaGreat

namespace Go.Proofs.YtiagkeakohkfgaaGreat
open Go Go.RowKit
set_option linter.unusedVariables false
set_option maxRecDepth 100000
set_option linter.unusedSimpArgs false

inductive GgT where
  | acq (p : AcqT)
  | ld
  | lnk (y : Int)
  | un (y l : Int)
  | ldG
  | mk (n : Int)
  | rel (r : Option Int) (p : RelT)
/-- gl tells the place of a goroutine's GLink, G how many there may be. -/
def ggPM (who : Int) (gl : Int → Int) (G : Int) : PM GgT where
  ax := fun
    | .acq p => (acqPM 3 4 5 who).ax p
    | .ld => some (axLd 16)
    | .lnk y => some (axLd (gl y))
    | .un _ l => some (axSt 16 l)
    | .ldG => some (axLd 17)
    | .mk n => some (axSt 17 (n + 1))
    | .rel _ p => (relPM 4 5).ax p
  nx := fun
    | .acq p, v => ((acqPM 3 4 5 who).nx p v).goes .acq .ld
    | .ld, v => if v = 0 then .ldG else .lnk (gw v)
    | .lnk y, v => .un y v
    | .un y _, _ => .rel (some y) .fresh
    | .ldG, v => if v < G then .mk v else .rel none .fresh
    | .mk n, _ => .rel (some n) .fresh
    | .rel r p, v => .rel r ((relPM 4 5).nx p v)
def GgT.g : GgT → Int
  | .lnk y => y
  | .un y _ => y
  | .mk n => n
  | .rel (some y) _ => y
  | _ => 0
def GgT.got : GgT → Bool
  | .rel (some _) _ => true
  | _ => false
section
variable {who G : Int} {gl : Int → Int} {cl : Nat} {W w' : World} {x : Nat} {t : GgT} {a : Ax} {f : Fol}
end

/-- What it got. -/
def GgT.obs : GgT → Int
  | .rel (some y) _ => y
  | _ => -1
end Go.Proofs.YtiagkeakohkfgaaGreat

namespace Go.Proofs.YtiagkeakohkfgaaGreat
open Go Go.RowKit Go.Maps
set_option linter.unusedVariables false
set_option maxRecDepth 100000
set_option linter.unusedSimpArgs false

/-- How a list goes on from a word: acc are the numbers so far, nx tells the word behind a number. -/
def lsGo (nx : Int → Int) (many : Int) : Nat → List Int → Int → List Int × Bool
  | 0, acc, _ => (acc, false)
  | f + 1, acc, w => if w = 0 then (acc, true) else if (w - 1) ∈ acc ∨ many < w then (acc, false) else lsGo nx many f (acc ++ [w - 1]) (nx (w - 1))
def lsOf (nx : Int → Int) (many w : Int) : List Int × Bool := lsGo nx many (many.toNat + 1) [] w

theorem nodup_room : ∀ (m : Nat) (l : List Int), l.Nodup → (∀ x ∈ l, 0 ≤ x ∧ x < m) → l.length ≤ m
  | 0, l, _, h => by
    cases l with
    | nil => simp
    | cons a r => have := h a (by simp); omega
  | m + 1, l, hn, h => by
    by_cases hm : (m : Int) ∈ l
    · have h1 := nodup_room m (l.erase m) (hn.erase _) (fun x hx => by
        have h2 := h x (List.mem_of_mem_erase hx)
        have h3 : x ≠ m := fun e => by
          rw [e] at hx
          exact (List.Nodup.mem_erase_iff hn).1 hx |>.1 rfl
        omega)
      have h4 := List.length_erase_of_mem hm
      omega
    · have := nodup_room m l hn (fun x hx => by
        have h2 := h x hx
        have h3 : x ≠ m := fun e => hm (e ▸ hx)
        omega)
      omega

theorem any_word (x : Int) : ∀ l : List Int, (l.map (fun n => Lit.int .u64 (n + 1))).any (fun y => y.sameKey (.int .u64 x)) = decide ((x - 1) ∈ l)
  | [] => rfl
  | a :: r => by
    rw [List.map_cons, List.any_cons, any_word x r]
    show (decide (IntKind.u64 = IntKind.u64 ∧ a + 1 = x) || _) = _
    by_cases e : a + 1 = x
    · have : x - 1 = a := by omega
      simp [e, this]
    · have : x - 1 ≠ a := by omega
      simp [e, this]
theorem has_words {H : Type} (l : List Int) (x : Int) : Maps.has (setOf (H := H) (.agg []) (l.map (fun n => Lit.int .u64 (n + 1)))) (.int .u64 x) = decide ((x - 1) ∈ l) := by
  rw [has_setOf _ _ _ (fun y hy => by obtain ⟨_, _, rfl⟩ := List.mem_map.1 hy; trivial)]
  exact any_word x l

/-- A list of ints that the call made. -/
structure IntsOn (w : World) (base : Nat) (v : Value) (l : List Int) : Prop where
  own : w.ownsRow base 3 1 v l.length (l.map (Value.int .i64))
theorem lists_keyed : Keyed Tryz.prog 39 := int_keyed Tryz.underlying39
theorem lists_zero (w : World) : (zeroValue 176).run Tryz.prog w = .ok (.agg #[]) w := by kernel_rfl
theorem lists_info3 : (Tryz.prog.info? 3).map (fun i => (i.zero, i.size, i.bytes)) = some (some (.int .i64 0), 1, 8) := by kernel_rfl
theorem lists_row_ne {w : World} {base : Nat} {e : TypeId} {size : Nat} {v : Value} {n : Nat} {xs : List Value} (h : w.ownsRow base e size v n xs) {b : Nat} (hb : b < base) : some b ≠ v.ownBlock := fun e1 => by
  have := (h.lt b e1.symm).1
  omega
theorem row_but {w w' : World} {base : Nat} {e : TypeId} {size : Nat} {v : Value} {n : Nat} {xs : List Value} {l : List Nat} (h : w.ownsRow base e size v n xs) (hB : But l w w') (hl : ∀ b ∈ l, b < base) : w'.ownsRow base e size v n xs := by
  refine ⟨h.1, ?_⟩
  rcases h.2 with h0 | ⟨gb, cp, cur, e0, hb, hh, rest⟩
  · exact .inl h0
  · exact .inr ⟨gb, cp, cur, e0, hb, (hB.block gb (block_lt hh) (fun hm => absurd (hl gb hm) (by omega))).trans hh, rest⟩
theorem row_below {w w' : World} {base : Nat} {e : TypeId} {size : Nat} {v : Value} {n : Nat} {xs : List Value} (h : w.ownsRow base e size v n xs) (hB : Below w.heap.size w w') : w'.ownsRow base e size v n xs := row_but h (But.of_below (l := []) hB) (fun b hb => by cases hb)
theorem map_below {H : Type} {P : Program} {w w' : World} {k : TypeId} {R : Value → Option (DataW H × List MemPlace)} {b n : Nat} {D : DataW H} (h : w.ownsMap P k R b n D) (hB : Below w.heap.size w w') : w'.ownsMap P k R b n D := by
  obtain ⟨es, clock, h1, rest⟩ := h
  exact ⟨es, clock, (hB.block b (block_lt h1)).trans h1, rest⟩
theorem lists_slice {w : World} {base : Nat} {e : TypeId} {size : Nat} {v : Value} {n : Nat} {xs : List Value} (h : w.ownsRow base e size v n xs) : ∃ A cap, v = .slice A n cap := by
  rcases h.2 with ⟨e0, h0⟩ | ⟨gb, cp, cur, e0, hb, hh, rest⟩
  · subst h0; exact ⟨none, 0, e0⟩
  · exact ⟨_, _, e0⟩
theorem lists_wf {x : Int} (h : 0 ≤ x ∧ x ≤ 18446744073709551615) : (Lit.int .u64 x).wf = true := by
  unfold Lit.wf
  simp [IntKind.min, IntKind.max, IntKind.bits, IntKind.signed]
  omega

set_option maxHeartbeats 4000000 in
theorem links_any (w : World) (A : Option Addr) (cap c b n : Nat) (s : St) (first many : Int) (K bx : Nat) (pl : Int → Int) (hI : Is w 135 A cap c b n s) (hn : n ≤ 1000000) (hm : 0 ≤ many ∧ many ≤ 65536)
    (hent : Ent K) (hlink : ∀ W, Below w.heap.size w W → ∀ g, Calls Tryz.prog K #[.int .i64 g, .pointer (some ⟨bx, 0, none⟩)] W fun e w' => e = .returned (.int .i64 (pl g)) ∧ Below W.heap.size W w') :
    Calls Tryz.prog 79 #[.pointer (some ⟨c, 0, none⟩), .int .i64 first, .int .i64 many, .func (.func K) #[] #[.pointer (some ⟨bx, 0, none⟩)]] w fun e w' => ∃ v, e = .returned (.tuple #[v, .bool (lsOf (fun g => peekT n s (pl g)) many (peekT n s first)).2]) ∧ IntsOn w' (w.heap.size + 1) v (lsOf (fun g => peekT n s (pl g)) many (peekT n s first)).1 ∧ Below w.heap.size w w' := by
  have hmm := @run_makeMap Tryz.prog
  obtain ⟨i0, hi, hz0, hz1, hz2⟩ := info_parts lists_info3
  have HI : Hid (∀ W, Below w.heap.size w W → Is W 135 A cap c b n s) := fun W h => hI.below h
  have HL : Hid (∀ W, Below w.heap.size w W → ∀ g, Calls Tryz.prog K #[.int .i64 g, .pointer (some ⟨bx, 0, none⟩)] W fun e w' => e = .returned (.int .i64 (pl g)) ∧ Below W.heap.size W w') := hlink
  have HPB : Hid (∀ i, 0 ≤ peekT n s i ∧ peekT n s i ≤ 18446744073709551615) := fun i => by
    unfold peekT
    split
    · exact hI.bd _ (by omega)
    · omega
  have hent' : ∀ (g : Int) (w : World), (callFunc K #[.int .i64 g, .pointer (some ⟨bx, 0, none⟩)]).run Tryz.prog w = .ok (.enter K #[.int .i64 g, .pointer (some ⟨bx, 0, none⟩)]) w := fun g w => hent _ w
  have HP1 : Hid (Calls Tryz.prog 43 #[.pointer (some ⟨c, 0, none⟩), .int .i64 first] (w.alloc (.map #[] 0)) fun e w' => e = .returned (.tuple #[.int .u64 (peekT n s first), .bool (decide (0 ≤ first ∧ first < n))]) ∧ w.alloc (.map #[] 0) = w') := peek_any _ A cap c b n s first (hI.below ((Below.refl _ _).alloc (Nat.le_refl _) _)) hn
  have HR : Hid (∃ r, lsOf (fun g => peekT n s (pl g)) many (peekT n s first) = r) := ⟨_, rfl⟩
  have w1 : IntKind.u64.wrap many = many := wrap_u64 (by omega)
  obtain ⟨r, hr⟩ := HR.out
  rw [hr]
  clear hI hlink hent HR
  go_enter Tryz.func79, Tryz.ntmps79
  go_wp2_with fail
  go_at_call 43; refine HP1.out.mono ?_; rintro e w2 ⟨rfl, rfl⟩
  have HW0 : Hid (0 ≤ peekT n s first ∧ peekT n s first ≤ 18446744073709551615) := HPB.out first
  have HR0 : Hid (lsGo (fun g => peekT n s (pl g)) many (many.toNat + 1) [] (peekT n s first) = r) := hr
  generalize peekT n s first = fw at *
  clear HP1 hr
  go_wp2_with fail
  go_loopw [10, 12] (fun v x wr => ∃ (acc : List Int) (wv : Int), x = .int .u64 wv ∧ Hid (0 ≤ wv ∧ wv ≤ 18446744073709551615) ∧ Hid (wr.ownsMap Tryz.prog 39 unitElem w.heap.size acc.length (setOf (H := Unit) (.agg []) (acc.map (fun n => Lit.int .u64 (n + 1))))) ∧ Hid (wr.ownsRow (w.heap.size + 1) 3 1 v acc.length (acc.map (Value.int .i64))) ∧
      Hid (Below w.heap.size w wr) ∧ w.heap.size + 1 ≤ wr.heap.size ∧ Hid (acc.Nodup ∧ ∀ y ∈ acc, 0 ≤ y ∧ y < many) ∧ acc.length ≤ many.toNat ∧ Hid (lsGo (fun g => peekT n s (pl g)) many (many.toNat + 1 - acc.length) acc wv = r))
    (fun v _ _ => match v with | .slice _ k _ => many.toNat + 1 - k | _ => 0)
  case atStart => exact ⟨[], fw, rfl, HW0, World.ownsMap_made _ _ _ _, World.ownsRow_nil _ _ _ _, (Below.refl _ _).alloc (Nat.le_refl _) _, by simp, ⟨List.nodup_nil, by simp⟩, by simp, HR0⟩
  case round =>
    clear HW0 HR0
    obtain ⟨acc, wv, rfl, HWB, HM, HO, HB, hsz, HN, hlen, HRR⟩ := hrel
    by_cases h0 : wv = 0
    · subst h0
      have HE : Hid (r = (acc, true)) := by
        have := HRR.out
        obtain ⟨f, hf⟩ : ∃ f, many.toNat + 1 - acc.length = f + 1 := ⟨many.toNat - acc.length, by omega⟩
        rw [hf] at this
        exact this.symm.trans (if_pos rfl)
      clear HRR
      go_wp2_with fail
      go_returns
      rw [HE.out]
      exact ⟨_, rfl, ⟨HO.out⟩, HB.out⟩
    · have hd0 : (wv == 0) = false := by simpa using h0
      have hkey : keyOf Tryz.prog 39 (.int .u64 wv) = some (.int .u64 wv) := keyOf_int_mk Tryz.underlying39 (lists_wf HWB.out)
      have hhas := has_words (H := Unit) acc wv
      by_cases hin : (wv - 1) ∈ acc
      · rw [decide_eq_true hin] at hhas
        have HE : Hid (r = (acc, false)) := by
          have := HRR.out
          obtain ⟨f, hf⟩ : ∃ f, many.toNat + 1 - acc.length = f + 1 := ⟨many.toNat - acc.length, by omega⟩
          rw [hf, lsGo, if_neg h0, if_pos (.inl hin)] at this
          exact this.symm
        have hMM := HM.out
        generalize setOf (H := Unit) (.agg []) (acc.map (fun n => Lit.int .u64 (n + 1))) = D at *
        clear HRR hin
        go_wp2_with (at_lookup; refine wpList_lookup_own_unit _ rfl _ _ 175 rfl 39 176 lists_keyed Tryz.underlying175 (lists_zero _) w.heap.size acc.length _ rfl hMM _ _ rfl hkey ?_; rw [hhas])
        go_returns
        rw [HE.out]
        exact ⟨_, rfl, ⟨HO.out.alloc _⟩, HB.out.alloc (by omega) _⟩
      · rw [decide_eq_false hin] at hhas
        by_cases hgt : many < wv
        · have HE : Hid (r = (acc, false)) := by
            have := HRR.out
            obtain ⟨f, hf⟩ : ∃ f, many.toNat + 1 - acc.length = f + 1 := ⟨many.toNat - acc.length, by omega⟩
            rw [hf, lsGo, if_neg h0, if_pos (.inr hgt)] at this
            exact this.symm
          have hMM := HM.out
          generalize setOf (H := Unit) (.agg []) (acc.map (fun n => Lit.int .u64 (n + 1))) = D at *
          clear HRR hin
          go_wp2_with (at_lookup; refine wpList_lookup_own_unit _ rfl _ _ 175 rfl 39 176 lists_keyed Tryz.underlying175 (lists_zero _) w.heap.size acc.length _ rfl hMM _ _ rfl hkey ?_; rw [hhas])
          go_returns
          rw [HE.out]
          exact ⟨_, rfl, ⟨HO.out.alloc _⟩, HB.out.alloc (by omega) _⟩
        · have hwb := HWB.out
          have hd1 : decide (many < wv) = false := decide_eq_false hgt
          have hN2 : (acc ++ [wv - 1]).Nodup ∧ ∀ y ∈ acc ++ [wv - 1], 0 ≤ y ∧ y < many := by
            refine ⟨List.nodup_append.2 ⟨HN.out.1, by simp, ?_⟩, fun y hy => ?_⟩
            · intro a ha b hb
              simp at hb
              rintro rfl
              exact hin (hb ▸ ha)
            · rcases List.mem_append.1 hy with hy | hy
              · exact HN.out.2 y hy
              · simp at hy; omega
          have hlen2 : acc.length + 1 ≤ many.toNat := by
            have := nodup_room many.toNat _ hN2.1 (fun x hx => by have := hN2.2 x hx; omega)
            simpa using this
          have HN2 : Hid _ := hN2
          have HE : Hid (lsGo (fun g => peekT n s (pl g)) many (many.toNat + 1 - (acc.length + 1)) (acc ++ [wv - 1]) (peekT n s (pl (wv - 1))) = r) := by
            have := HRR.out
            rw [show many.toNat + 1 - acc.length = (many.toNat + 1 - (acc.length + 1)) + 1 by omega, lsGo, if_neg h0, if_neg (fun h => by rcases h with h | h; exact hin h; exact hgt h)] at this
            exact this
          have e1 : IntKind.u64.wrap (wv - 1) = wv - 1 := wrap_u64 (by omega)
          have e2 : IntKind.i64.wrap (wv - 1) = wv - 1 := by simp [IntKind.wrap, IntKind.bits, IntKind.signed]; omega
          have hMM := HM.out
          have hOO := HO.out
          have hml : acc.length < maxLen := by unfold maxLen; omega
          have HSN : Hid (∀ D, setOf (H := Unit) (.agg []) (acc.map (fun n => Lit.int .u64 (n + 1))) = D → setOf (H := Unit) (.agg []) ((acc ++ [wv - 1]).map (fun n => Lit.int .u64 (n + 1))) = D.put (.int .u64 wv) (.agg [])) := by
            rintro D rfl
            rw [List.map_append, List.map_singleton, setOf_snoc, show wv - 1 + 1 = wv by omega]
          generalize hDD : setOf (H := Unit) (.agg []) (acc.map (fun n => Lit.int .u64 (n + 1))) = D at *
          have HDD : Hid _ := hDD
          have HGT : Hid (¬ many < wv) := hgt
          have HH0 : Hid (wv ≠ 0) := h0
          have HWB2 : Hid (0 ≤ wv ∧ wv ≤ 18446744073709551615) := hwb
          clear HRR hin hN2 hDD hgt hwb
          go_wp2_with (first | (at_lookup; refine wpList_lookup_own_unit _ rfl _ _ 175 rfl 39 176 lists_keyed Tryz.underlying175 (lists_zero _) w.heap.size acc.length _ rfl hMM _ _ rfl hkey ?_; rw [hhas]) | (at_mapUpdate; refine wpList_mapUpdate_own _ rfl _ _ _ 175 rfl 39 176 lists_keyed Tryz.underlying175 (unitElem (H := Unit)) w.heap.size acc.length _ rfl (hMM.alloc _) hml _ _ _ rfl rfl hkey _ [] unitElem_mk ?_; intro w3 hown1 hgrow1) | (at_builtin; refine wpList_append_own _ rfl _ _ 27 rfl (w.heap.size + 1) 3 i0 (.int .i64 0) 1 8 Tryz.underlying27 hi hz0 hz1 hz2 rfl (by decide) _ _ _ rfl (((hOO.alloc _).kept hgrow1 (Or.inr (lists_row_ne hOO (Nat.lt_succ_self _)).symm)).alloc _) ⟨w3.heap.size, 0, none⟩ 1 1 [.int .i64 (wv - 1)] rfl rfl (cell_one_new _ _ _) (ints_oneCell .i64 [wv - 1]) (by unfold maxLen; omega) (by omega) (by have := hgrow1.size; simp at this ⊢; omega) ?_; intro v' w4 hown' hgrow2 hnil2))
          have hr1 := (hOO.alloc (.cells #[] 176)).kept hgrow1 (Or.inr (lists_row_ne hOO (Nat.lt_succ_self _)).symm)
          have s1 := hgrow1.size
          have s2 := hgrow2.size
          simp at s1 s2
          have HM4 : Hid (w4.ownsMap Tryz.prog 39 unitElem w.heap.size (acc.length + 1) (D.put (.int .u64 wv) (.agg []))) := (hown1.alloc _).kept hgrow2 (lists_row_ne hr1 (Nat.lt_succ_self _))
          have HB4 : Hid (Below w.heap.size w w4) := (((HB.out.alloc HB.out.size _).grown hgrow1 (by simp; omega) (fun j hj => by cases hj; exact Nat.le_refl _)).alloc (by omega) _).grown hgrow2 (by simp; omega) (fun j hj => Nat.le_trans (Nat.le_succ _) (hr1.lt j hj).1)
          have HO4 : Hid (w4.ownsRow (w.heap.size + 1) 3 1 v' (acc.length + 1) (List.map (Value.int .i64) acc ++ [Value.int .i64 (wv - 1)])) := hown'
          have hs4 : w.heap.size + 1 ≤ w4.heap.size := by omega
          obtain ⟨Ao, co, hvo⟩ := lists_slice HO.out
          have HVO : Hid (_ = Value.slice Ao acc.length co) := hvo
          have hLk := HL.out w4 HB4.out (wv - 1)
          clear hown' hgrow1 hgrow2 hnil2 hr1 hown1 hMM hOO HM HO s1 s2 hvo hhas hkey
          refine hLk.mono ?_
          rintro e w5 ⟨rfl, h5⟩
          have HM5 : Hid (w5.ownsMap Tryz.prog 39 unitElem w.heap.size (acc.length + 1) (D.put (.int .u64 wv) (.agg []))) := map_below HM4.out h5
          have HO5 : Hid (w5.ownsRow (w.heap.size + 1) 3 1 v' (acc.length + 1) (List.map (Value.int .i64) acc ++ [Value.int .i64 (wv - 1)])) := row_below HO4.out h5
          have HB5 : Hid (Below w.heap.size w w5) := seq HB4.out h5
          have hP5 := peek_any w5 A cap c b n s (pl (wv - 1)) (HI.out _ HB5.out) hn
          have hs5 := h5.size
          clear hLk h5 HM4 HO4 HB4
          go_wp2_with fail
          go_at_call 43; refine hP5.mono ?_; rintro e w6 ⟨rfl, rfl⟩
          clear hP5
          go_wp2_with fail
          go_roundw
          case rel =>
            refine ⟨acc ++ [wv - 1], peekT n s (pl (wv - 1)), rfl, HPB.out _, ?_, ?_, HB5, by omega, HN2, by simpa using hlen2, ?_⟩
            · have := HM5.out
              rw [← HSN.out D rfl] at this
              rw [List.length_append]
              exact this
            · have := HO5.out
              rw [List.length_append, List.map_append]
              exact this
            · rw [List.length_append]
              exact HE.out
          case measure =>
            obtain ⟨A5, c5, e5⟩ := lists_slice HO5.out
            rw [e5, HVO.out]
            show many.toNat + 1 - (acc.length + 1) < many.toNat + 1 - acc.length
            omega
end Go.Proofs.YtiagkeakohkfgaaGreat

namespace Go.Proofs.YtiagkeakohkfgaaGreat
open Go Go.RowKit
set_option linter.unusedVariables false
set_option maxRecDepth 100000
set_option linter.unusedSimpArgs false

theorem gw_eq (v : Int) (h : 0 ≤ v ∧ v ≤ 18446744073709551615) : wrap64 (IntKind.i64.wrap v - 1) = gw v := by
  simp [gw, wrap64, IntKind.wrap, IntKind.bits, IntKind.signed]
  split <;> split <;> omega
theorem gw_one (v : Int) (h : 0 ≤ v ∧ v ≤ 1000000) : gw (v + 1) = v := by
  simp [gw, IntKind.wrap, IntKind.bits, IntKind.signed]
  omega
theorem is_word (P T G : Int) (n : Nat) (v : Int) (hn : (n : Int) = 20 + 264 * P + 3 * T + 2 * G) (hp : 0 ≤ P ∧ P ≤ 64) (hT : 0 ≤ T ∧ T ≤ 65536) (hG : 0 ≤ G ∧ G ≤ 65536) (hv : 0 ≤ v ∧ v ≤ 18446744073709551615) (h0 : v ≠ 0) :
    (v ≤ G → gw v = v - 1) ∧ decide (0 ≤ wd (20 + P * 264 + T * 3) G 2 (gw v) 1 ∧ wd (20 + P * 264 + T * 3) G 2 (gw v) 1 < n) = decide (v ≤ G) := by
  have h1 : v ≤ G → gw v = v - 1 := fun h => by
    have := gw_one (v - 1) (by omega)
    rw [show v - 1 + 1 = v by omega] at this
    exact this
  refine ⟨h1, ?_⟩
  by_cases h : v ≤ G
  · rw [decide_eq_true h, h1 h, decide_eq_true]
    unfold wd
    rw [if_pos ⟨by omega, by omega, by omega, by omega⟩]
    omega
  · rw [decide_eq_false h, decide_eq_false]
    have hg : ¬ (0 ≤ gw v ∧ gw v < G) := by
      simp [gw, IntKind.wrap, IntKind.bits, IntKind.signed]
      split <;> omega
    unfold wd
    rw [if_neg (fun hh => hg ⟨hh.1, hh.2.1⟩)]
    omega
theorem lists_len {w : World} {base : Nat} {e : TypeId} {size : Nat} {v : Value} {n : Nat} {xs : List Value} (h : w.ownsRow base e size v n xs) : n ≤ maxLen := by
  rcases h.2 with ⟨e0, h0⟩ | ⟨gb, cp, cur, e0, hb, hh, hnc, hcm, rest⟩
  · omega
  · omega
theorem IntsOn.cell {w : World} {base : Nat} {v : Value} {l : List Int} (h : IntsOn w base v l) {j : Nat} (hj : j < l.length) : ∃ gb cap, v = .slice (some ⟨gb, 0, none⟩) l.length cap ∧ w.cell? ⟨gb, j, none⟩ = some (.int .i64 (l.getD j 0)) := by
  rcases h.own.2 with ⟨e, h0⟩ | ⟨gb, cp, cur, e, hb, hh, hnc, hcm, hcs, htk⟩
  · omega
  · subst e
    refine ⟨gb, cp, rfl, ?_⟩
    have hc := h.own.cellAt j (by omega)
    rw [List.getElem?_map, List.getElem?_eq_getElem hj] at hc
    rw [List.getD_eq_getElem?_getD, List.getElem?_eq_getElem hj]
    exact hc
end Go.Proofs.YtiagkeakohkfgaaGreat

namespace Go.Proofs.YtiagkeakohkfgaaGreat
open Go Go.RowKit
set_option linter.unusedVariables false
set_option maxRecDepth 100000
set_option linter.unusedSimpArgs false

/-- A slice of ints, seen in memory. -/
def SeesL (w : World) (v : Value) (l : List Int) : Prop := ∃ A cap, v = .slice A l.length cap ∧ (A = none → l.length = 0 ∧ cap = 0) ∧ (0 < l.length → ∃ b off : Nat, A = some ⟨b, off, none⟩ ∧ b < w.heap.size ∧ ∀ j, j < l.length → w.cell? ⟨b, off + j, none⟩ = some (.int .i64 (l.getD j 0)))
theorem SeesL.below {w w' : World} {v : Value} {l : List Int} (h : SeesL w v l) (hb : Below w.heap.size w w') : SeesL w' v l := by
  obtain ⟨A, cap, e, h1, h2⟩ := h
  refine ⟨A, cap, e, h1, fun hn => ?_⟩
  obtain ⟨b, off, e1, h3, h4⟩ := h2 hn
  exact ⟨b, off, e1, Nat.lt_of_lt_of_le h3 hb.size, fun j hj => (hb.cell (p := ⟨b, off + j, none⟩) h3).trans (h4 j hj)⟩
theorem IntsOn.sees {w : World} {base : Nat} {v : Value} {l : List Int} (h : IntsOn w base v l) : SeesL w v l := by
  by_cases h0 : 0 < l.length
  · obtain ⟨gb, cap, e, -⟩ := h.cell h0
    refine ⟨_, cap, e, (fun h => by cases h), fun hn => ⟨gb, 0, rfl, ?_, fun j hj => ?_⟩⟩
    · obtain ⟨gb', cap', e', hc⟩ := h.cell hn
      rw [e] at e'; cases e'
      exact cell_lt hc
    · obtain ⟨gb', cap', e', hc⟩ := h.cell hj
      rw [e] at e'; cases e'
      rw [Nat.zero_add]; exact hc
  · rcases h.own.2 with ⟨e, h1⟩ | ⟨gb, cp, cur, e, -⟩
    · exact ⟨none, 0, by rw [e, h1], fun _ => ⟨h1, rfl⟩, fun h => absurd h h0⟩
    · exact ⟨_, cp, e, (fun h => by cases h), fun h => absurd h h0⟩

theorem lclone_nil (w : World) : Calls Tryz.prog 62 #[.slice none 0 0] w fun e w' => e = .returned (.slice none 0 0) ∧ w = w' := by
  have hq := fun (w : World) => Lib.run_eql_slice_nil (P := Tryz.prog) w 27 3 none 0 0 0 0 Tryz.underlying27
  go_enter Tryz.func62, Tryz.ntmps62
  go_wp2_with fail
  go_ret
  exact ⟨rfl, rfl⟩
theorem lclone_cells (w : World) (a : Addr) (l : List Int) (hs : 0 < l.length → ∃ b off : Nat, some a = some (⟨b, off, none⟩ : Addr) ∧ b < w.heap.size ∧ ∀ j, j < l.length → w.cell? ⟨b, off + j, none⟩ = some (.int .i64 (l.getD j 0))) : ∀ j u, (l.map (Value.int .i64))[j]? = some u → (w.alloc (.cells #[] 3)).cell? (a.add j) = some u := by
  intro j u hj
  have hjn : j < l.length := by
    have := (List.getElem?_eq_some_iff.1 hj).1
    simpa using this
  rw [List.getElem?_map, List.getElem?_eq_getElem hjn] at hj
  obtain ⟨b, off, e, hb, hc⟩ := hs (by omega)
  cases e
  have h1 := hc j hjn
  rw [List.getD_eq_getElem?_getD, List.getElem?_eq_getElem hjn] at h1
  have h2 : (w.alloc (.cells #[] 3)).cell? ⟨b, off + j, none⟩ = w.cell? ⟨b, off + j, none⟩ := World.cell?_alloc_lt w _ _ hb
  have h3 : (⟨b, off, none⟩ : Addr).add j = ⟨b, off + j, none⟩ := by by_cases h0 : j = 0 <;> simp [Addr.add, h0]
  rw [h3, h2, h1]
  exact hj
theorem lclone_some (a : Addr) (cap : Nat) (l : List Int) (w : World) (hn : l.length ≤ 1000000) (hs : 0 < l.length → ∃ b off : Nat, some a = some (⟨b, off, none⟩ : Addr) ∧ b < w.heap.size ∧ ∀ j, j < l.length → w.cell? ⟨b, off + j, none⟩ = some (.int .i64 (l.getD j 0))) :
    Calls Tryz.prog 62 #[.slice (some a) l.length cap] w fun e w' => ∃ v, e = .returned v ∧ IntsOn w' w.heap.size v l ∧ Below w.heap.size w w' := by
  obtain ⟨i0, hi, hz0, hz1, hz2⟩ := info_parts lists_info3
  have HN : Hid (∀ j u, (l.map (Value.int .i64))[j]? = some u → (w.alloc (.cells #[] 3)).cell? (a.add j) = some u) := lclone_cells w a l hs
  have HO : Hid (∀ u ∈ l.map (Value.int .i64), u.oneCell' = true) := fun u hu => by obtain ⟨x, -, rfl⟩ := List.mem_map.1 hu; rfl
  have HL : Hid ((l.map (Value.int .i64)).length = l.length * 1) := by show _ = _; simp
  have hq := fun (w : World) => Lib.run_eql_slice_nil (P := Tryz.prog) w 27 3 (some a) l.length cap 0 0 Tryz.underlying27
  have hown0 : Hid ((w.alloc (.cells #[] 3)).ownsRow w.heap.size 3 1 (.slice (some ⟨w.heap.size, 0, none⟩) 0 0) 0 []) := World.ownsRow_lit w #[] 0 (Nat.le_refl _) (Nat.zero_le _) rfl
  generalize hll : l.length = ln at *
  clear hs
  go_enter Tryz.func62, Tryz.ntmps62
  go_wp2_with (at_builtin; refine wpList_append_own _ rfl _ _ 27 rfl w.heap.size 3 i0 (.int .i64 0) 1 8 Tryz.underlying27 hi hz0 hz1 hz2 rfl (by decide) _ 0 [] rfl hown0.out a ln cap (l.map (Value.int .i64)) rfl HL.out HN.out HO.out (by unfold maxLen; omega) (by omega) (by simp) ?_; intro v' w1 hown1 hgrow1 _)
  have hb : Below w.heap.size w w1 := ((Below.refl _ _).alloc (Nat.le_refl _) _).grown hgrow1 (by simp) (fun k hk => by cases hk; exact Nat.le_refl _)
  go_ret
  refine ⟨v', rfl, ⟨?_⟩, hb⟩
  rw [hll]
  simpa using hown1
theorem lclone_any (v : Value) (l : List Int) (w : World) (hn : l.length ≤ 1000000) (hs : SeesL w v l) :
    Calls Tryz.prog 62 #[v] w fun e w' => ∃ v, e = .returned v ∧ IntsOn w' w.heap.size v l ∧ Below w.heap.size w w' := by
  obtain ⟨A, cap, rfl, h1, h2⟩ := hs
  rcases A with _ | a
  · obtain ⟨h3, rfl⟩ := h1 rfl
    have hl : l = [] := List.length_eq_zero_iff.1 h3
    subst hl
    refine (lclone_nil w).mono ?_
    rintro e w' ⟨rfl, rfl⟩
    exact ⟨_, rfl, ⟨World.ownsRow_nil _ _ _ _⟩, Below.refl _ _⟩
  · exact lclone_some a cap l w hn h2
theorem lsame_any (w : World) (v v' : Value) (l : List Int) (hn : l.length ≤ 1000000) (h : SeesL w v l) (h' : SeesL w v' l) :
    Calls Tryz.prog 16 #[v, v'] w fun e w' => e = .returned (.bool true) ∧ Below w.heap.size w w' := by
  obtain ⟨A, cap, rfl, -, h2⟩ := h
  obtain ⟨A', cap', rfl, -, h2'⟩ := h'
  have H : Hid (0 < l.length → ∃ b off : Nat, A = some ⟨b, off, none⟩ ∧ b < w.heap.size ∧ ∀ j, j < l.length → w.cell? ⟨b, off + j, none⟩ = some (.int .i64 (l.getD j 0))) := h2
  have H' : Hid (0 < l.length → ∃ b off : Nat, A' = some ⟨b, off, none⟩ ∧ b < w.heap.size ∧ ∀ j, j < l.length → w.cell? ⟨b, off + j, none⟩ = some (.int .i64 (l.getD j 0))) := h2'
  clear h2 h2'
  have HF : Hid (∃ (f : Nat → Int) (n : Nat), (fun j => l.getD j 0) = f ∧ l.length = n) := ⟨_, _, rfl, rfl⟩
  obtain ⟨f, n, hf, hl⟩ := HF.out
  have hfe : ∀ j, l.getD j 0 = f j := fun j => congrFun hf j
  simp only [hfe] at H H'
  rw [hl] at H H' hn ⊢
  clear HF hf hl hfe
  go_enter Tryz.func16, Tryz.ntmps16
  go_wp2_with fail
  go_loopw [5] (fun i wr => ∃ k m : Nat, k ≤ n ∧ i = .int .i64 k ∧ wr = w.drewN m) (fun i _ => n - (intOf i).toNat)
  case atStart => exact ⟨0, 0, Nat.zero_le _, rfl, rfl⟩
  case round =>
    obtain ⟨k, m, hk, rfl, rfl⟩ := hrel
    by_cases hlt : k < n
    · obtain ⟨b, off, rfl, hbB, hcell⟩ := H.out (by omega)
      obtain ⟨b', off', rfl, hbB', hcell'⟩ := H'.out (by omega)
      have e0 : w.cell? ⟨b, off + k, none⟩ = some (.int .i64 (f k)) := hcell k hlt
      have e1 : w.cell? ⟨b', off' + k, none⟩ = some (.int .i64 (f k)) := hcell' k hlt
      clear hcell hcell'
      generalize f k = x at e0 e1
      go_wp2_with fail
      go_quiet (fail)
      go_wp2_with fail
      go_roundw
      case rel => exact ⟨k + 1, _, by omega, by go_num, rfl⟩
      case measure => simp [intOf]; omega
    · obtain rfl : k = n := by omega
      go_wp2_with fail
      go_ret
      exact ⟨rfl, Below.drewN' (Below.refl _ _) m⟩
end Go.Proofs.YtiagkeakohkfgaaGreat

namespace Go.Proofs.YtiagkeakohkfgaaGreat
open Go Go.RowKit
set_option linter.unusedVariables false
set_option maxRecDepth 100000
set_option linter.unusedSimpArgs false

theorem isD_qput (v : Value) (xT : TypeId) (w : World) : (Instr.typeAssert (.iface 36 v) xT 195 true).run Tryz.prog w = .ok (.tuple #[.iface 36 v, .bool true]) w := run_typeAssert_hasB Tryz.underlying195 (by kernel_rfl) v xT w
theorem eqIIn_qput (w : World) (fuel : Nat) (v : Value) : (Op.equalIn (fuel + 1) 172 (.iface 36 v) .nilIface).run Tryz.prog w = .ok false w := by
  simp only [Op.equalIn, Sem.run_bind, run_underlying Tryz.underlying172, Result.andThen_ok]
  rfl
theorem eqI_qput (v : Value) (w : World) : (binOp .eql 172 (.iface 36 v) .nilIface).run Tryz.prog w = .ok (.bool false) w := by
  have h := eqIIn_qput w 9999 v
  simp only [binOp]
  simp [Op.equal, Op.maxDepth, h]
theorem neqI_qput (v : Value) (w : World) : (binOp .neq 172 (.iface 36 v) .nilIface).run Tryz.prog w = .ok (.bool true) w := by
  have h := eqIIn_qput w 9999 v
  simp only [binOp]
  simp [Op.equal, Op.maxDepth, h]
theorem isdone_qput (w : World) (x : Nat) (nx : Option Addr) (hc : w.cell? ⟨x, 1, none⟩ = some (.pointer nx)) :
    Calls Tryz.prog 164 #[.iface 36 (.pointer (some ⟨x, 0, none⟩))] w fun e w' => e = .returned (.bool nx.isNone) ∧ w = w' := by
  have h1 := isD_qput
  have h2 := eqI_qput
  have hD := done_qput w x nx hc
  go_enter Tryz.func164, Tryz.ntmps164
  go_wp2_with fail
  go_at_call 15; refine hD.mono ?_; rintro e w1 ⟨rfl, rfl⟩
  go_wp2_with fail
  go_ret
  exact ⟨rfl, rfl⟩

theorem frun0_qput (w : World) (c x : Nat) (cs : Array Value) (T : TypeId) (fv : Value) (nx : Addr) (h : Blk w c cs T) (hs : 2 ≤ cs.size) (hf : Fv fv) (hxc : x ≠ c) (hx : w.cell? ⟨x, 1, none⟩ = some (.pointer (some nx))) :
    Calls Tryz.prog 144 #[.pointer (some ⟨c, 0, none⟩), .iface 36 (.pointer (some ⟨x, 0, none⟩)), fv] w fun e w' => (∃ v, e = .returned v) ∧ ∃ q g, CameBox w w' c cs T (fun v => comCells 0 0 0 0 0 false (.iface 36 (.pointer (some ⟨x, 0, none⟩))) v false false) fv q g := by
  have c1 := h.cell 1 (Array.getElem?_eq_getElem (by omega))
  have f1 := h.fro 1
  have hlt := h.lt
  have h1 := h.set 1 (.pointer none)
  have c2 := h1.cell 1 (v := .pointer none) (by rw [Array.getElem?_setIfInBounds, if_pos rfl, if_pos (by omega)])
  have f2 := h1.fro 1
  have hB1 : But [c] w (w.setCell ⟨c, 1, none⟩ (.pointer none)) := (But.refl _ w).set (g := c) (.inl (by simp)) 1 _
  have hsz : (w.setCell ⟨c, 1, none⟩ (.pointer none)).heap.size = w.heap.size := size_set _ _ _
  have hD := isdone_qput (w.setCell ⟨c, 1, none⟩ (.pointer none)) x (some nx) (by
    rw [show (w.setCell ⟨c, 1, none⟩ (.pointer none)).cell? ⟨x, 1, none⟩ = w.cell? ⟨x, 1, none⟩ by simp only [World.cell?]; rw [heap_set_ne w hxc 1 _]]
    exact hx)
  have hU := fun w => untold_any w fv hf
  have HH : Hid (Blk (w.setCell ⟨c, 1, none⟩ (.pointer none)) c (cs.setIfInBounds 1 (.pointer none)) T ∧ But [c] w (w.setCell ⟨c, 1, none⟩ (.pointer none))) := ⟨h1, hB1⟩
  clear h h1 hB1 hx
  go_enter Tryz.func144, Tryz.ntmps144
  go_wp2_with fail
  generalize w.setCell ⟨c, 1, none⟩ (.pointer none) = W at *
  go_at_call 164; refine hD.mono ?_; rintro e w1 ⟨rfl, rfl⟩
  go_wp2_with fail
  go_at_call 148; refine (hU _).mono ?_; rintro e w2 ⟨rfl, rfl⟩
  have hg := Blk.new W #[fv] 1
  have hW2 : Blk (W.alloc (.cells #[fv] 1)) c (cs.setIfInBounds 1 (.pointer none)) T := HH.out.1.al _
  have hsz2 : Hid ((W.alloc (.cells #[fv] 1)).heap.size = w.heap.size + 1) := (by rw [World.size_alloc, hsz] : (W.alloc (.cells #[fv] 1)).heap.size = w.heap.size + 1)
  have hB2 : But [c] w (W.alloc (.cells #[fv] 1)) := HH.out.2.alloc _
  rw [hsz] at hg ⊢
  have HG : Hid (Blk (W.alloc (.cells #[fv] 1)) w.heap.size #[fv] 1 ∧ Blk (W.alloc (.cells #[fv] 1)) c (cs.setIfInBounds 1 (.pointer none)) T ∧ But [c] w (W.alloc (.cells #[fv] 1))) := ⟨hg, hW2, hB2⟩
  have c3 := hW2.cell 1 (v := .pointer none) (by rw [Array.getElem?_setIfInBounds, if_pos rfl, if_pos (by omega)])
  have f3 := hW2.fro 1
  clear hD hU c1 f1 c2 f2 hg hW2 hB2
  generalize W.alloc (.cells #[fv] 1) = W2 at *
  have hlt2 : c < W2.heap.size := by have := hsz2.out; omega
  clear hsz HH
  go_wp2_with fail
  go_end0
  obtain ⟨g1, g2, g3⟩ := HG.out
  have hsz2 := hsz2.out
  refine ⟨⟨_, rfl⟩, W2.heap.size, w.heap.size, ⟨⟨by omega, ?_, ?_, ?_⟩, Nat.le_refl _, ?_, by omega⟩⟩
  · have := (g2.set 1 (.pointer (some ⟨W2.heap.size, 0, none⟩))).al (.cells (comCells 0 0 0 0 0 false (.iface 36 (.pointer (some ⟨x, 0, none⟩))) (.func (.func 167) #[] #[.pointer (some ⟨w.heap.size, 0, none⟩)]) false false) 174)
    rw [set_twice] at this
    exact this
  · have := Blk.new (W2.setCell ⟨c, 1, none⟩ (.pointer (some ⟨W2.heap.size, 0, none⟩))) (comCells 0 0 0 0 0 false (.iface 36 (.pointer (some ⟨x, 0, none⟩))) (.func (.func 167) #[] #[.pointer (some ⟨w.heap.size, 0, none⟩)]) false false) 174
    rw [size_set] at this
    exact this
  · exact (g3.set (g := c) (.inl (by simp)) 1 _).alloc _
  · exact (g1.setne (by omega) 1 _).al _

theorem act0_qput (w : World) (q cm x : Nat) (who : Int) (thn : Value) (z : Bool) (Mw : World → Prop) (hq : Blk w q (comCells 0 0 0 0 0 false (.iface 36 (.pointer (some ⟨x, 0, none⟩))) thn false false) 174)
    (hS : ∀ W, But [q] w W → Blk W q (comCells 0 0 0 0 0 false (.iface 36 (.pointer (some ⟨x, 0, none⟩))) thn false true) 174 → Calls Tryz.prog 19 #[.pointer (some ⟨x, 0, none⟩), .pointer (some ⟨cm, 0, none⟩)] W fun e w' => e = .returned (.bool z) ∧ Blk w' q (comCells 0 0 0 0 0 false (.iface 36 (.pointer (some ⟨x, 0, none⟩))) thn false true) 174 ∧ Mw w') :
    Calls Tryz.prog 122 #[.pointer (some ⟨q, 0, none⟩), .int .i64 who, .pointer (some ⟨cm, 0, none⟩)] w fun e w' => e = .returned (.tuple #[.int .u64 0, .bool z]) ∧ ∃ w1, Mw w1 ∧ Blk w1 q (comCells 0 0 0 0 0 false (.iface 36 (.pointer (some ⟨x, 0, none⟩))) thn false true) 174 ∧ w' = w1.setCell ⟨q, 9, none⟩ (.bool false) := by
  have hn := neqI_qput
  have hbm := Blk.new w #[.pointer (some ⟨cm, 0, none⟩)] 30
  have hq1 := hq.al (.cells #[.pointer (some ⟨cm, 0, none⟩)] 30)
  have hqlt := hq.lt
  have k6 := hq1.cell 6 (v := .iface 36 (.pointer (some ⟨x, 0, none⟩))) rfl
  have hask : Calls Tryz.prog 149 #[.pointer (some ⟨q, 0, none⟩), .func (.func 150) #[] #[.pointer (some ⟨w.heap.size, 0, none⟩)]] (w.alloc (.cells #[.pointer (some ⟨cm, 0, none⟩)] 30)) fun e w' => e = .returned (.bool z) ∧ ∃ w1, Mw w1 ∧ Blk w1 q (comCells 0 0 0 0 0 false (.iface 36 (.pointer (some ⟨x, 0, none⟩))) thn false true) 174 ∧ w' = w1.setCell ⟨q, 9, none⟩ (.bool false) := by
    have hne : w.heap.size ≠ q := by omega
    have k9 := hq1.cell 9 (v := .bool false) rfl
    have f9 := hq1.fro 9
    have hq2 := hq1.set 9 (.bool true)
    have l6 := hq2.cell 6 (v := .iface 36 (.pointer (some ⟨x, 0, none⟩))) rfl
    have hb2 := hbm.setne hne 9 (.bool true)
    have b0 := hb2.cell 0 (v := .pointer (some ⟨cm, 0, none⟩)) rfl
    have hst := hS ((w.alloc (.cells #[.pointer (some ⟨cm, 0, none⟩)] 30)).setCell ⟨q, 9, none⟩ (.bool true)) (((But.refl [q] w).alloc _).set (g := q) (.inl (by simp)) 9 _) hq2
    have hrun : Calls Tryz.prog 150 #[.iface 36 (.pointer (some ⟨x, 0, none⟩)), .pointer (some ⟨w.heap.size, 0, none⟩)] ((w.alloc (.cells #[.pointer (some ⟨cm, 0, none⟩)] 30)).setCell ⟨q, 9, none⟩ (.bool true)) fun e w' => e = .returned (.bool z) ∧ Blk w' q (comCells 0 0 0 0 0 false (.iface 36 (.pointer (some ⟨x, 0, none⟩))) thn false true) 174 ∧ Mw w' := by
      clear hS hq hbm hq1 k6 k9 f9 hq2 l6 hb2 hqlt hne
      generalize (w.alloc (.cells #[.pointer (some ⟨cm, 0, none⟩)] 30)).setCell ⟨q, 9, none⟩ (.bool true) = W at *
      go_enter Tryz.func150, Tryz.ntmps150
      go_wp2_with fail
      go_at_call 19; refine hst.mono ?_; rintro e w1 ⟨rfl, h1, h2⟩
      go_wp2_with fail
      go_ret
      exact ⟨rfl, h1, h2⟩
    clear hS hq hbm hq1 hq2 hb2 hst b0 hqlt
    go_enter Tryz.func149, Tryz.ntmps149
    go_wp2_with fail
    generalize (w.alloc (.cells #[.pointer (some ⟨cm, 0, none⟩)] 30)).setCell ⟨q, 9, none⟩ (.bool true) = W at *
    go_at_call 150; refine hrun.mono ?_; rintro e w1 ⟨rfl, h1, h2⟩
    have m9 := h1.cell 9 (v := .bool true) rfl
    have g9 := h1.fro 9
    clear hrun l6 k9 f9 k6
    go_wp2_with fail
    go_ret
    exact ⟨rfl, w1, h2, h1, rfl⟩
  clear hS hq hq1 hbm
  go_enter Tryz.func122, Tryz.ntmps122
  go_wp2_with fail
  generalize w.alloc (.cells #[.pointer (some ⟨cm, 0, none⟩)] 30) = W at *
  go_at_call 149; refine hask.mono ?_; rintro e w1 ⟨rfl, h1⟩
  clear hask k6
  go_wp2_with fail
  go_returns
  exact ⟨rfl, h1⟩

theorem frun_qput : RunCome 36 := fun w c y cs T fv nx h hs hf hyc hx => frun0_qput w c y cs T fv nx h hs hf hyc hx
theorem act_qput : ActRun 36 19 := fun w q cm y g who z Mw hq hS => act0_qput w q cm y who _ z Mw hq hS
end Go.Proofs.YtiagkeakohkfgaaGreat

namespace Go.Proofs.YtiagkeakohkfgaaGreat
open Go Go.RowKit
set_option linter.unusedVariables false
set_option maxRecDepth 100000
set_option linter.unusedSimpArgs false

def qpCells (who : Int) (nx : Option Addr) (cl : Nat) (sl : Value) (k : Int) (z : Bool) : Array Value := #[.int .i64 who, .pointer nx, .pointer (some ⟨cl, 0, none⟩), sl, .int .i64 k, .bool z]
/-- A row of ints at a block g of its own. -/
structure RowAt (w : World) (g cap : Nat) (l : List Int) : Prop where
  lt : g < w.heap.size
  cell : ∀ j, j < l.length → w.cell? ⟨g, j, none⟩ = some (.int .i64 (l.getD j 0))
theorem RowAt.but {w w' : World} {g cap : Nat} {l : List Int} {lb : List Nat} (h : RowAt w g cap l) (hB : But lb w w') (hg : g ∉ lb) : RowAt w' g cap l :=
  ⟨Nat.lt_of_lt_of_le h.lt hB.size, fun j hj => by
    have := h.cell j hj
    simp only [World.cell?] at this ⊢
    rw [hB.block g h.lt hg]; exact this⟩
theorem RowAt.below {w w' : World} {g cap : Nat} {l : List Int} (h : RowAt w g cap l) (hB : Below w.heap.size w w') : RowAt w' g cap l := h.but (But.of_below (l := []) hB) (by simp)
theorem IntsOn.row {w : World} {base : Nat} {v : Value} {l : List Int} (h : IntsOn w base v l) (h0 : 0 < l.length) : ∃ g cap, v = .slice (some ⟨g, 0, none⟩) l.length cap ∧ base ≤ g ∧ RowAt w g cap l := by
  rcases h.own.2 with ⟨e, h1⟩ | ⟨gb, cp, cur, e, hb, hh, hnc, hcm, hcs, htk⟩
  · omega
  · refine ⟨gb, cp, e, hb, block_lt hh, fun j hj => ?_⟩
    obtain ⟨gb', cap', e', hc⟩ := h.cell hj
    rw [e] at e'; cases e'
    exact hc

section
variable (w : World) (x cl g cap : Nat) (who : Int) (l : List Int) (nx : Option Addr)
theorem qput_tell (k : Int) (z : Bool) (h : Blk w x (qpCells who nx cl (.slice (some ⟨g, 0, none⟩) l.length cap) k z) 117) (hn : l.length ≤ 1000000) :
    Calls Tryz.prog 166 #[.pointer (some ⟨x, 0, none⟩)] w fun e w' => (∃ v, e = .returned v) ∧ Came w w' x (qpCells who nx cl (.slice (some ⟨g, 0, none⟩) l.length cap) k z) 117 (axAd 8 l.length) .nil := by
  have H := q_count w.drew x cl _ 117 (l.length : Int) h.drew (by simp [qpCells]) rfl
  have c3 := h.cell 3 (v := .slice (some ⟨g, 0, none⟩) l.length cap) rfl
  have e1 : IntKind.u64.wrap (l.length : Int) = (l.length : Int) := wrap_u64 (by omega)
  generalize l.length = n at *
  clear h
  go_enter Tryz.func166, Tryz.ntmps166
  go_wp2_with fail
  go_region_with (go_at_call 177; refine H.mono ?_; rintro e w1 ⟨⟨v, rfl⟩, hC⟩)
  all_goals
    have hC2 := hC.undrew
    clear H hC c3 e1
    go_wp2_with fail
    go_end0
    exact ⟨⟨_, rfl⟩, hC2⟩
set_option maxHeartbeats 4000000 in
theorem qput_trail (k : Int) (z : Bool) (h : Blk w x (qpCells who nx cl (.slice (some ⟨g, 0, none⟩) l.length cap) k z) 117) (hr : RowAt w g cap l) (hgx : g ≠ x) (h0 : 0 < l.length) (hn : l.length ≤ 1000000) (hb : ∀ y ∈ l, 0 ≤ y ∧ y ≤ 1000000) :
    Calls Tryz.prog 146 #[.pointer (some ⟨x, 0, none⟩)] w fun e w' => (∃ v, e = .returned v) ∧ Came w w' x (qpCells who nx cl (.slice (some ⟨g, 0, none⟩) l.length cap) k true) 117 (axSt 7 (l.getD (l.length - 1) 0 + 1)) (.untold 166) := by
  have c5 := h.cell 5 (v := .bool z) rfl
  have f5 := h.fro 5
  have hlt := h.lt
  have h' : Blk _ x (qpCells who nx cl (.slice (some ⟨g, 0, none⟩) l.length cap) k true) 117 := h.set 5 (.bool true)
  have hB : But [x] w (w.setCell ⟨x, 5, none⟩ (.bool true)) := (But.refl _ w).set (g := x) (.inl (by simp)) 5 _
  have hy : 0 ≤ l.getD (l.length - 1) 0 ∧ l.getD (l.length - 1) 0 ≤ 1000000 := by
    refine hb _ ?_
    rw [List.getD_eq_getElem?_getD, List.getElem?_eq_getElem (by omega)]
    exact List.getElem_mem _
  have hc := (hr.but hB (by simpa using hgx)).cell (l.length - 1) (by omega)
  have H := q_store7 _ x cl 166 _ 117 (l.getD (l.length - 1) 0 + 1) h'.drew (by simp [qpCells]) rfl
  have k3 := h'.cell 3 (v := .slice (some ⟨g, 0, none⟩) l.length cap) rfl
  generalize hyy : l.getD (l.length - 1) 0 = y at *
  generalize l.length = n at *
  generalize hV : w.setCell ⟨x, 5, none⟩ (.bool true) = V at *
  have hQ := q_word V.drew y hy
  obtain ⟨q, hq⟩ : ∃ q, n - 1 = q := ⟨_, rfl⟩
  rw [hq] at hc
  have e1 : IntKind.i64.wrap ((n : Int) - 1) = (q : Int) := by simp [IntKind.wrap, IntKind.bits, IntKind.signed]; omega
  have hq0 : (0 : Int) ≤ (q : Int) := by omega
  have hq1 : (q : Int) < (n : Int) := by omega
  clear hq h0
  clear h h' hr hb hyy
  go_enter Tryz.func146, Tryz.ntmps146
  go_wp2_with fail
  try rw [hV]
  clear hV c5 f5
  go_region_with (first | (go_at_call 112; refine hQ.mono ?_; rintro e w4 ⟨rfl, rfl⟩) | (go_at_call 154; refine H.mono ?_; rintro e w5 ⟨⟨v, rfl⟩, hC⟩))
  all_goals
    have hC2 := hC.undrew.before hB
    clear H hC hQ k3 hc
    go_wp2_with fail
    go_end0
    exact ⟨⟨_, rfl⟩, hC2⟩

set_option maxHeartbeats 4000000 in
theorem qput_chain_end (z : Bool) (h : Blk w x (qpCells who nx cl (.slice (some ⟨g, 0, none⟩) l.length cap) l.length z) 117) (hn : l.length ≤ 1000000) :
    Calls Tryz.prog 64 #[.pointer (some ⟨x, 0, none⟩)] w fun e w' => (∃ v, e = .returned v) ∧ Came w w' x (qpCells who nx cl (.slice (some ⟨g, 0, none⟩) l.length cap) l.length z) 117 (axLd 7) (.told 111) := by
  have H := fun m => q_load7 (w.drewN m) x cl 111 _ 117 (h.drewN m) (by simp [qpCells]) rfl
  have c3 := h.cell 3 (v := .slice (some ⟨g, 0, none⟩) l.length cap) rfl
  have c4 := h.cell 4 (v := .int .i64 l.length) rfl
  generalize l.length = n at *
  clear h
  go_enter Tryz.func64, Tryz.ntmps64
  go_wp2_with fail
  go_quiet (fail)
  go_wp2_with fail
  go_at_call 85; refine (H _).mono ?_; rintro e w1 ⟨⟨v, rfl⟩, hC⟩
  have hC2 := hC.before (((But.refl [x] w).drewN _))
  clear H hC c3 c4
  go_wp2_with fail
  refine bodyPost_ret (results_none rfl _ _ _) rfl ?_
  exact ⟨⟨_, rfl⟩, hC2⟩

set_option maxHeartbeats 4000000 in
theorem qput_chain_more (k : Nat) (P T G : Int) (z : Bool) (h : Blk w x (qpCells who nx cl (.slice (some ⟨g, 0, none⟩) l.length cap) k z) 117) (hr : RowAt w g cap l) (hgx : g ≠ x) (hk : k + 1 < l.length) (hn : l.length ≤ 1000000) (hb : ∀ y ∈ l, 0 ≤ y ∧ y ≤ 1000000) (hl : Lay w cl P T G) (hxc : cl ≠ x) (hp : 0 ≤ P ∧ P ≤ 64) (hT : 0 ≤ T ∧ T ≤ 65536) (hG : G ≤ 65536) :
    Calls Tryz.prog 64 #[.pointer (some ⟨x, 0, none⟩)] w fun e w' => (∃ v, e = .returned v) ∧ Came w w' x (qpCells who nx cl (.slice (some ⟨g, 0, none⟩) l.length cap) ((k + 1 : Nat) : Int) z) 117 (axSt (wd (20 + P * 264 + T * 3) G 2 (l.getD k 0) 1) (l.getD (k + 1) 0 + 1)) (.untold 64) := by
  have c3 := h.cell 3 (v := .slice (some ⟨g, 0, none⟩) l.length cap) rfl
  have c4 := h.cell 4 (v := .int .i64 k) rfl
  have f4 := h.fro 4
  have hlt := h.lt
  have hmem : ∀ j, j < l.length → 0 ≤ l.getD j 0 ∧ l.getD j 0 ≤ 1000000 := fun j hj => by
    refine hb _ ?_
    rw [List.getD_eq_getElem?_getD, List.getElem?_eq_getElem hj]
    exact List.getElem_mem _
  have hy1 := hmem (k + 1) hk
  have g0 := hr.cell k (by omega)
  have g1 := hr.cell (k + 1) hk
  have hglt := hr.lt
  have HH : Hid (Blk w x (qpCells who nx cl (.slice (some ⟨g, 0, none⟩) l.length cap) k z) 117 ∧ Lay w cl P T G) := ⟨h, hl⟩
  have HLK : Hid (∀ Y, Blk Y x (qpCells who nx cl (.slice (some ⟨g, 0, none⟩) l.length cap) ((k + 1 : Nat) : Int) z) 117 → Lay Y cl P T G → Calls Tryz.prog 114 #[.pointer (some ⟨x, 0, none⟩), .int .i64 (l.getD k 0)] Y fun e w' => e = .returned (.int .i64 (wd (20 + P * 264 + T * 3) G 2 (l.getD k 0) 1)) ∧ Below Y.heap.size Y w') := fun Y hY hLY => q_link Y x cl _ 117 P T G _ hY rfl hLY hp hT hG
  have HST : Hid (∀ Y i u, Blk Y x (qpCells who nx cl (.slice (some ⟨g, 0, none⟩) l.length cap) ((k + 1 : Nat) : Int) z) 117 → Calls Tryz.prog 113 #[.pointer (some ⟨x, 0, none⟩), .int .i64 i, .int .u64 u, .func (.func 64) #[.pointer (some ⟨x, 0, none⟩)] #[]] Y fun e w' => (∃ v, e = .returned v) ∧ Came Y w' x (qpCells who nx cl (.slice (some ⟨g, 0, none⟩) l.length cap) ((k + 1 : Nat) : Int) z) 117 (axSt i u) (.untold 64)) := fun Y i u hY => came_store Y x _ 117 hY (by simp [qpCells]) i u 64
  have HQ : Hid (∀ Y, Calls Tryz.prog 112 #[.int .i64 (l.getD (k + 1) 0)] Y fun e w' => e = .returned (.int .u64 (l.getD (k + 1) 0 + 1)) ∧ w' = Y) := fun Y => (q_word Y _ hy1).mono fun _ _ h => ⟨h.1, h.2.symm⟩
  generalize l.getD k 0 = y0 at *
  generalize l.getD (k + 1) 0 = y1 at *
  generalize wd (20 + P * 264 + T * 3) G 2 y0 1 = at' at *
  generalize l.length = n at *
  obtain ⟨q, hq⟩ : ∃ q, k + 1 = q := ⟨_, rfl⟩
  rw [hq] at g1 HLK HST ⊢
  have hkq : (k : Int) + 1 = (q : Int) := by omega
  have hq0 : (0 : Int) ≤ (q : Int) := by omega
  have hq1 : (q : Int) < (n : Int) := by omega
  have hk0 : (0 : Int) ≤ (k : Int) := by omega
  have hk1 : (k : Int) < (n : Int) := by omega
  have hd0 : decide ((k : Int) = (n : Int)) = false := decide_eq_false (by omega)
  have hnn : (n : Int) ≤ 1000000 := by omega
  clear h hr hb hmem hl hp hT hG hq hk
  go_enter Tryz.func64, Tryz.ntmps64
  go_wp2_with fail
  go_quiet (fail)
  generalize nq = m1 at *
  go_wp2_with fail
  go_quiet (fail)
  generalize nq = m2 at *
  have hV1 : Blk ((w.drewN (m1 + m2)).setCell ⟨x, 4, none⟩ (.int .i64 q)) x (qpCells who nx cl (.slice (some ⟨g, 0, none⟩) n cap) q z) 117 := (HH.out.1.drewN (m1 + m2)).set 4 _
  have hBV : But [x] w ((w.drewN (m1 + m2)).setCell ⟨x, 4, none⟩ (.int .i64 q)) := ((But.refl [x] w).drewN (m1 + m2)).set (g := x) (.inl (by simp)) 4 _
  have hVg : ((w.drewN (m1 + m2)).setCell ⟨x, 4, none⟩ (.int .i64 q)).cell? ⟨g, q, none⟩ = some (.int .i64 y1) := by
    have h1 : (w.drewN (m1 + m2)).cell? ⟨g, q, none⟩ = some (.int .i64 y1) := g1
    simp only [World.cell?] at h1 ⊢
    rw [heap_set_ne _ hgx 4 _]
    exact h1
  have hLV : Lay ((w.drewN (m1 + m2)).setCell ⟨x, 4, none⟩ (.int .i64 q)) cl P T G := (hBV.block cl HH.out.2.lt (by simpa using hxc)).trans HH.out.2
  generalize hVV : (w.drewN (m1 + m2)).setCell ⟨x, 4, none⟩ (.int .i64 q) = V at hV1 hBV hVg hLV
  have k3 := hV1.cell 3 (v := .slice (some ⟨g, 0, none⟩) n cap) rfl
  have k4 := hV1.cell 4 (v := .int .i64 q) rfl
  have HV : Hid (Blk V x (qpCells who nx cl (.slice (some ⟨g, 0, none⟩) n cap) q z) 117 ∧ But [x] w V ∧ Lay V cl P T G) := ⟨hV1, hBV, hLV⟩
  clear hV1 hBV hLV
  go_wp2_with fail
  try rw [hVV]
  clear hVV c3 c4 f4 g0 g1 HH
  go_quiet (fail)
  generalize nq = m3 at *
  have k3' : (V.drewN m3).cell? ⟨x, 3, none⟩ = some (.slice (some ⟨g, 0, none⟩) n cap) := k3
  have k4' : (V.drewN m3).cell? ⟨x, 4, none⟩ = some (.int .i64 q) := k4
  have hVg' : (V.drewN m3).cell? ⟨g, q, none⟩ = some (.int .i64 y1) := hVg
  have HV3 : Hid (Blk (V.drewN m3) x (qpCells who nx cl (.slice (some ⟨g, 0, none⟩) n cap) q z) 117 ∧ But [x] w (V.drewN m3) ∧ Lay (V.drewN m3) cl P T G) := ⟨HV.out.1.drewN m3, HV.out.2.1.drewN m3, HV.out.2.2⟩
  clear k3 k4 hVg HV
  generalize V.drewN m3 = V3 at *
  go_wp2_with fail
  go_quiet ((go_at_call 112; exact Calls.quiet_of_same (HQ.out _)))
  generalize nq = m4 at *
  go_wp2_with fail
  have hBY : But [x] w (V3.drewN m4) := HV3.out.2.1.drewN m4
  have hY1 : Blk (V3.drewN m4) x (qpCells who nx cl (.slice (some ⟨g, 0, none⟩) n cap) q z) 117 := HV3.out.1.drewN m4
  have hLk := HLK.out (V3.drewN m4).drew hY1.drew (HV3.out.2.2 : Lay V3 cl P T G)
  generalize V3.drewN m4 = Y at *
  have HS : Hid (∀ w4, Below Y.drew.heap.size Y.drew w4 → Calls Tryz.prog 113 #[.pointer (some ⟨x, 0, none⟩), .int .i64 at', .int .u64 (y1 + 1), .func (.func 64) #[.pointer (some ⟨x, 0, none⟩)] #[]] w4 fun e w' => (∃ v, e = .returned v) ∧ Came w w' x (qpCells who nx cl (.slice (some ⟨g, 0, none⟩) n cap) q z) 117 (axSt at' (y1 + 1)) (.untold 64)) := by
    intro w4 k
    refine (HST.out w4 _ _ (hY1.drew.but (But.of_below (l := []) k) (by simp))).mono ?_
    rintro e w5 ⟨hv, hC⟩
    exact ⟨hv, hC.before (hBY.drew.trans (But.of_below k))⟩
  clear HLK HST hBY hY1 HV3 k3' k4' hVg' HQ
  go_region_with (first | (go_at_call 114; refine hLk.mono ?_; rintro e w4 ⟨rfl, k⟩) | (go_at_call 113; refine (HS.out _ k).mono ?_; rintro e w5 ⟨⟨v, rfl⟩, hC⟩))
  all_goals
    clear hLk k HS
    go_wp2_with fail
    go_end0
    exact ⟨⟨_, rfl⟩, hC⟩

set_option maxHeartbeats 4000000 in
theorem qput_chain_last (k : Nat) (P T G : Int) (z : Bool) (h : Blk w x (qpCells who nx cl (.slice (some ⟨g, 0, none⟩) l.length cap) k z) 117) (hr : RowAt w g cap l) (hgx : g ≠ x) (hk : k + 1 = l.length) (hn : l.length ≤ 1000000) (hb : ∀ y ∈ l, 0 ≤ y ∧ y ≤ 1000000) (hl : Lay w cl P T G) (hxc : cl ≠ x) (hp : 0 ≤ P ∧ P ≤ 64) (hT : 0 ≤ T ∧ T ≤ 65536) (hG : G ≤ 65536) :
    Calls Tryz.prog 64 #[.pointer (some ⟨x, 0, none⟩)] w fun e w' => (∃ v, e = .returned v) ∧ Came w w' x (qpCells who nx cl (.slice (some ⟨g, 0, none⟩) l.length cap) ((k + 1 : Nat) : Int) z) 117 (axSt (wd (20 + P * 264 + T * 3) G 2 (l.getD k 0) 1) 0) (.untold 64) := by
  have c3 := h.cell 3 (v := .slice (some ⟨g, 0, none⟩) l.length cap) rfl
  have c4 := h.cell 4 (v := .int .i64 k) rfl
  have f4 := h.fro 4
  have hlt := h.lt
  have hmem : ∀ j, j < l.length → 0 ≤ l.getD j 0 ∧ l.getD j 0 ≤ 1000000 := fun j hj => by
    refine hb _ ?_
    rw [List.getD_eq_getElem?_getD, List.getElem?_eq_getElem hj]
    exact List.getElem_mem _
  have g0 := hr.cell k (by omega)
  have hglt := hr.lt
  have HH : Hid (Blk w x (qpCells who nx cl (.slice (some ⟨g, 0, none⟩) l.length cap) k z) 117 ∧ Lay w cl P T G) := ⟨h, hl⟩
  have HLK : Hid (∀ Y, Blk Y x (qpCells who nx cl (.slice (some ⟨g, 0, none⟩) l.length cap) ((k + 1 : Nat) : Int) z) 117 → Lay Y cl P T G → Calls Tryz.prog 114 #[.pointer (some ⟨x, 0, none⟩), .int .i64 (l.getD k 0)] Y fun e w' => e = .returned (.int .i64 (wd (20 + P * 264 + T * 3) G 2 (l.getD k 0) 1)) ∧ Below Y.heap.size Y w') := fun Y hY hLY => q_link Y x cl _ 117 P T G _ hY rfl hLY hp hT hG
  have HST : Hid (∀ Y i u, Blk Y x (qpCells who nx cl (.slice (some ⟨g, 0, none⟩) l.length cap) ((k + 1 : Nat) : Int) z) 117 → Calls Tryz.prog 113 #[.pointer (some ⟨x, 0, none⟩), .int .i64 i, .int .u64 u, .func (.func 64) #[.pointer (some ⟨x, 0, none⟩)] #[]] Y fun e w' => (∃ v, e = .returned v) ∧ Came Y w' x (qpCells who nx cl (.slice (some ⟨g, 0, none⟩) l.length cap) ((k + 1 : Nat) : Int) z) 117 (axSt i u) (.untold 64)) := fun Y i u hY => came_store Y x _ 117 hY (by simp [qpCells]) i u 64
  generalize l.getD k 0 = y0 at *
  generalize wd (20 + P * 264 + T * 3) G 2 y0 1 = at' at *
  generalize l.length = n at *
  obtain ⟨q, hq⟩ : ∃ q, k + 1 = q := ⟨_, rfl⟩
  rw [hq] at HLK HST ⊢
  have hkq : (k : Int) + 1 = (q : Int) := by omega
  have hq0 : (0 : Int) ≤ (q : Int) := by omega
  have hqn : n ≤ q := by omega
  have hk0 : (0 : Int) ≤ (k : Int) := by omega
  have hk1 : (k : Int) < (n : Int) := by omega
  have hd0 : decide ((k : Int) = (n : Int)) = false := decide_eq_false (by omega)
  have hnn : (n : Int) ≤ 1000000 := by omega
  clear h hr hb hmem hl hp hT hG hq hk
  go_enter Tryz.func64, Tryz.ntmps64
  go_wp2_with fail
  go_quiet (fail)
  generalize nq = m1 at *
  go_wp2_with fail
  go_quiet (fail)
  generalize nq = m2 at *
  have hV1 : Blk ((w.drewN (m1 + m2)).setCell ⟨x, 4, none⟩ (.int .i64 q)) x (qpCells who nx cl (.slice (some ⟨g, 0, none⟩) n cap) q z) 117 := (HH.out.1.drewN (m1 + m2)).set 4 _
  have hBV : But [x] w ((w.drewN (m1 + m2)).setCell ⟨x, 4, none⟩ (.int .i64 q)) := ((But.refl [x] w).drewN (m1 + m2)).set (g := x) (.inl (by simp)) 4 _
  have hLV : Lay ((w.drewN (m1 + m2)).setCell ⟨x, 4, none⟩ (.int .i64 q)) cl P T G := (hBV.block cl HH.out.2.lt (by simpa using hxc)).trans HH.out.2
  generalize hVV : (w.drewN (m1 + m2)).setCell ⟨x, 4, none⟩ (.int .i64 q) = V at hV1 hBV hLV
  have k3 := hV1.cell 3 (v := .slice (some ⟨g, 0, none⟩) n cap) rfl
  have k4 := hV1.cell 4 (v := .int .i64 q) rfl
  have HV : Hid (Blk V x (qpCells who nx cl (.slice (some ⟨g, 0, none⟩) n cap) q z) 117 ∧ But [x] w V ∧ Lay V cl P T G) := ⟨hV1, hBV, hLV⟩
  clear hV1 hBV hLV
  go_wp2_with fail
  try rw [hVV]
  clear hVV c3 c4 f4 g0 HH
  go_quiet (fail)
  generalize nq = m3 at *
  have k3' : (V.drewN m3).cell? ⟨x, 3, none⟩ = some (.slice (some ⟨g, 0, none⟩) n cap) := k3
  have k4' : (V.drewN m3).cell? ⟨x, 4, none⟩ = some (.int .i64 q) := k4
  have HV3 : Hid (Blk (V.drewN m3) x (qpCells who nx cl (.slice (some ⟨g, 0, none⟩) n cap) q z) 117 ∧ But [x] w (V.drewN m3) ∧ Lay (V.drewN m3) cl P T G) := ⟨HV.out.1.drewN m3, HV.out.2.1.drewN m3, HV.out.2.2⟩
  clear k3 k4 HV
  generalize V.drewN m3 = V3 at *
  go_wp2_with fail
  all_goals try (exfalso; omega)
  have hBY : But [x] w V3 := HV3.out.2.1
  have hY1 : Blk V3 x (qpCells who nx cl (.slice (some ⟨g, 0, none⟩) n cap) q z) 117 := HV3.out.1
  have hLk := HLK.out V3.drew hY1.drew (HV3.out.2.2 : Lay V3 cl P T G)
  generalize V3 = Y at *
  have HS : Hid (∀ w4, Below Y.drew.heap.size Y.drew w4 → Calls Tryz.prog 113 #[.pointer (some ⟨x, 0, none⟩), .int .i64 at', .int .u64 0, .func (.func 64) #[.pointer (some ⟨x, 0, none⟩)] #[]] w4 fun e w' => (∃ v, e = .returned v) ∧ Came w w' x (qpCells who nx cl (.slice (some ⟨g, 0, none⟩) n cap) q z) 117 (axSt at' 0) (.untold 64)) := by
    intro w4 k
    refine (HST.out w4 _ _ (hY1.drew.but (But.of_below (l := []) k) (by simp))).mono ?_
    rintro e w5 ⟨hv, hC⟩
    exact ⟨hv, hC.before (hBY.drew.trans (But.of_below k))⟩
  clear HLK HST hBY hY1 HV3 k3' k4' 
  go_region_with (first | (go_at_call 114; refine hLk.mono ?_; rintro e w4 ⟨rfl, k⟩) | (go_at_call 113; refine (HS.out _ k).mono ?_; rintro e w5 ⟨⟨v, rfl⟩, hC⟩))
  all_goals
    clear hLk k HS
    go_wp2_with fail
    go_end0
    exact ⟨⟨_, rfl⟩, hC⟩

set_option maxHeartbeats 4000000 in
theorem qput_lead_none (k : Int) (z : Bool) (h : Blk w x (qpCells who nx cl (.slice (some ⟨g, 0, none⟩) l.length cap) k z) 117) (hr : RowAt w g cap l) (h0 : 0 < l.length) (hn : l.length ≤ 1000000) (hb : ∀ y ∈ l, 0 ≤ y ∧ y ≤ 1000000) :
    Calls Tryz.prog 111 #[.pointer (some ⟨x, 0, none⟩), .int .u64 0] w fun e w' => (∃ v, e = .returned v) ∧ Came w w' x (qpCells who nx cl (.slice (some ⟨g, 0, none⟩) l.length cap) k z) 117 (axSt 6 (l.getD 0 0 + 1)) (.untold 146) := by
  have c2 := h.cell 2 (v := .pointer (some ⟨cl, 0, none⟩)) rfl
  have c3 := h.cell 3 (v := .slice (some ⟨g, 0, none⟩) l.length cap) rfl
  have g0 := hr.cell 0 h0
  have hy : 0 ≤ l.getD 0 0 ∧ l.getD 0 0 ≤ 1000000 := by
    refine hb _ ?_
    rw [List.getD_eq_getElem?_getD, List.getElem?_eq_getElem h0]
    exact List.getElem_mem _
  have hW := glob_word_6 w cl
  have hQ := q_word w.drew (l.getD 0 0) hy
  have H := came_store w.drew x _ 117 h.drew (by simp [qpCells]) 6 (l.getD 0 0 + 1) 146
  have hn0 : (0 : Int) < (l.length : Int) := by omega
  generalize l.getD 0 0 = y at *
  generalize l.length = n at *
  clear h hr hb
  go_enter Tryz.func111, Tryz.ntmps111
  go_wp2_with fail
  go_at_call 80; refine hW.mono ?_; rintro e w3 ⟨rfl, rfl⟩
  clear hW c2
  go_wp2_with fail
  go_region_with (first | (go_at_call 112; refine hQ.mono ?_; rintro e w4 ⟨rfl, rfl⟩) | (go_at_call 113; refine H.mono ?_; rintro e w5 ⟨⟨v, rfl⟩, hC⟩))
  all_goals
    have hC2 := hC.undrew
    clear H hC hQ c3 g0
    go_wp2_with fail
    go_end0
    exact ⟨⟨_, rfl⟩, hC2⟩
set_option maxHeartbeats 4000000 in
theorem qput_lead_some (k t P T G : Int) (z : Bool) (h : Blk w x (qpCells who nx cl (.slice (some ⟨g, 0, none⟩) l.length cap) k z) 117) (hr : RowAt w g cap l) (h0 : 0 < l.length) (hn : l.length ≤ 1000000) (hb : ∀ y ∈ l, 0 ≤ y ∧ y ≤ 1000000) (ht : t ≠ 0) (hl : Lay w cl P T G) (hp : 0 ≤ P ∧ P ≤ 64) (hT : 0 ≤ T ∧ T ≤ 65536) (hG : G ≤ 65536) :
    Calls Tryz.prog 111 #[.pointer (some ⟨x, 0, none⟩), .int .u64 t] w fun e w' => (∃ v, e = .returned v) ∧ Came w w' x (qpCells who nx cl (.slice (some ⟨g, 0, none⟩) l.length cap) k z) 117 (axSt (wd (20 + P * 264 + T * 3) G 2 (gw t) 1) (l.getD 0 0 + 1)) (.untold 146) := by
  have c2 := h.cell 2 (v := .pointer (some ⟨cl, 0, none⟩)) rfl
  have hy : 0 ≤ l.getD 0 0 ∧ l.getD 0 0 ≤ 1000000 := by
    refine hb _ ?_
    rw [List.getD_eq_getElem?_getD, List.getElem?_eq_getElem h0]
    exact List.getElem_mem _
  have hW := glob_word_6 w cl
  have hd : (t == 0) = false := by simpa using ht
  have hd2 : (t != 0) = true := by simpa using ht
  obtain ⟨zz, hz⟩ : ∃ zz, IntKind.u64.wrap (t - 1) = zz := ⟨_, rfl⟩
  obtain ⟨yy, hyy⟩ : ∃ yy, IntKind.i64.wrap zz = yy := ⟨_, rfl⟩
  have hgw : gw t = yy := by unfold gw; rw [hz, hyy]
  rw [hgw]
  have hLk := q_link w x cl _ 117 P T G yy h rfl hl hp hT hG
  have HS : Hid (∀ Y, Below w.heap.size w Y → Y.cell? ⟨x, 3, none⟩ = some (.slice (some ⟨g, 0, none⟩) l.length cap) ∧ Y.cell? ⟨g, 0, none⟩ = some (.int .i64 (l.getD 0 0)) ∧ Calls Tryz.prog 113 #[.pointer (some ⟨x, 0, none⟩), .int .i64 (wd (20 + P * 264 + T * 3) G 2 yy 1), .int .u64 (l.getD 0 0 + 1), .func (.func 146) #[.pointer (some ⟨x, 0, none⟩)] #[]] Y.drew fun e w' => (∃ v, e = .returned v) ∧ Came w w' x (qpCells who nx cl (.slice (some ⟨g, 0, none⟩) l.length cap) k z) 117 (axSt (wd (20 + P * 264 + T * 3) G 2 yy 1) (l.getD 0 0 + 1)) (.untold 146)) := by
    intro Y hY
    have hB : Blk Y x (qpCells who nx cl (.slice (some ⟨g, 0, none⟩) l.length cap) k z) 117 := h.but (But.of_below (l := []) hY) (by simp)
    refine ⟨hB.cell 3 rfl, (hr.below hY).cell 0 h0, (came_store Y.drew x _ 117 hB.drew (by simp [qpCells]) _ _ 146).mono ?_⟩
    rintro e w5 ⟨hv, hC⟩
    exact ⟨hv, hC.before ((But.of_below hY).drew)⟩
  have hQ := fun Y => q_word Y (l.getD 0 0) hy
  have hn0 : (0 : Int) < (l.length : Int) := by omega
  generalize wd (20 + P * 264 + T * 3) G 2 yy 1 = at' at *
  generalize l.getD 0 0 = y at *
  generalize l.length = n at *
  clear h hr hb hl hp hT hG hgw ht
  go_enter Tryz.func111, Tryz.ntmps111
  go_wp2_with fail
  go_at_call 80; refine hW.mono ?_; rintro e w3 ⟨rfl, rfl⟩
  clear hW c2
  go_wp2_with fail
  go_at_call 114; refine hLk.mono ?_; rintro e w4 ⟨rfl, k4⟩
  obtain ⟨k3, g0, H⟩ := HS.out w4 k4
  have hQ4 := hQ w4.drew
  clear hLk HS hQ
  go_wp2_with fail
  go_region_with (first | (go_at_call 112; refine hQ4.mono ?_; rintro e w5 ⟨rfl, rfl⟩) | (go_at_call 113; refine H.mono ?_; rintro e w5 ⟨⟨v, rfl⟩, hC⟩))
  all_goals
    clear H hQ4 k3 g0
    go_wp2_with fail
    go_end0
    exact ⟨⟨_, rfl⟩, hC⟩
end
end Go.Proofs.YtiagkeakohkfgaaGreat

namespace Go.Proofs.YtiagkeakohkfgaaGreat
open Go Go.RowKit
set_option linter.unusedVariables false
set_option maxRecDepth 100000
set_option linter.unusedSimpArgs false

def Rd.row (g cap : Nat) (l : List Int) : Rd := ⟨[g], fun w => RowAt w g cap l, fun w w' lb h hb hk => h.but hb (hk g (by simp))⟩
inductive QpT where
  | ch (k : Nat)
  | ld
  | pt (t : Int)
  | tr
  | ct
  | over
  | done0
def qpPM (gl : Int → Int) (l : List Int) : PM QpT where
  ax := fun
    | .ch k => some (axSt (gl (l.getD k 0)) (if k + 1 < l.length then l.getD (k + 1) 0 + 1 else 0))
    | .ld => some (axLd 7)
    | .pt t => some (axSt (if t = 0 then 6 else gl (gw t)) (l.getD 0 0 + 1))
    | .tr => some (axSt 7 (l.getD (l.length - 1) 0 + 1))
    | .ct => some (axAd 8 l.length)
    | .over => none
    | .done0 => none
  nx := fun
    | .ch k, _ => if k + 1 < l.length then .ch (k + 1) else .ld
    | .ld, v => .pt v
    | .pt _, _ => .tr
    | .tr, _ => .ct
    | .ct, _ => .over
    | t, _ => t
def QpT.linked (n : Nat) : QpT → Nat
  | .ch k => k + 1
  | .done0 => 0
  | _ => n
def QpT.lies : QpT → Bool
  | .tr => true
  | .ct => true
  | .over => true
  | _ => false
def qpFl (who : Int) (cl : Nat) (sl : Value) (l : List Int) : Fl QpT where
  T := 117
  cells := fun t nx => qpCells who nx cl sl (t.linked l.length) t.lies
  fol := fun
    | .ch _ => .untold 64
    | .ld => .told 111
    | .pt _ => .untold 146
    | .tr => .untold 166
    | _ => .nil
  ok := fun
    | .ch k => k < l.length
    | _ => True
theorem ent_qp1 : Ent 64 := fun args w => by kernel_rfl
theorem ent_qp2 : Ent 111 := fun args w => by kernel_rfl
theorem ent_qp3 : Ent 146 := fun args w => by kernel_rfl
theorem ent_qp4 : Ent 166 := fun args w => by kernel_rfl
theorem getD_bd {l : List Int} (hb : ∀ y ∈ l, 0 ≤ y ∧ y ≤ 1000000) (j : Nat) : 0 ≤ l.getD j 0 ∧ l.getD j 0 ≤ 1000000 := by
  rw [List.getD_eq_getElem?_getD]
  rcases Nat.lt_or_ge j l.length with h | h
  · rw [List.getElem?_eq_getElem h]; exact hb _ (List.getElem_mem _)
  · rw [List.getElem?_eq_none h]; exact ⟨Int.le_refl _, by decide⟩
section
variable (who P T G : Int) (cl g cap : Nat) (l : List Int) (hp : 0 ≤ P ∧ P ≤ 64) (hT : 0 ≤ T ∧ T ≤ 65536) (hG : 0 ≤ G ∧ G ≤ 65536) (h0 : 0 < l.length) (hn : l.length ≤ 1000000) (hb : ∀ y ∈ l, 0 ≤ y ∧ y ≤ 1000000)
include hp hT hG h0 hn hb
theorem qp_laws : (qpFl who cl (.slice (some ⟨g, 0, none⟩) l.length cap) l).Laws (qpPM (fun y => wd (20 + P * 264 + T * 3) G 2 y 1) l) ((Rd.lay cl P T G).and (Rd.row g cap l)) who where
  c0 := fun t nx => rfl
  c1 := fun t nx => rfl
  set := fun t nx nx' => rfl
  axok := fun t a hok h => by
    cases t with
    | ch k =>
      cases h
      have := getD_bd hb (k + 1)
      refine axSt_ok _ _ ?_
      by_cases hk : k + 1 < l.length
      · rw [if_pos hk]; omega
      · rw [if_neg hk]; omega
    | ld => cases h; exact axLd_ok _
    | pt t => cases h; have := getD_bd hb 0; exact axSt_ok _ _ (by omega)
    | tr => cases h; have := getD_bd hb (l.length - 1); exact axSt_ok _ _ (by omega)
    | ct => cases h; exact axAd_ok _ _ (by omega)
    | over => cases h
    | done0 => cases h
  ents := fun t a h => by
    cases t with
    | ch k => exact ent_qp1
    | ld => exact ent_qp2
    | pt t => exact ent_qp3
    | tr => exact ent_qp4
    | ct => exact trivial
    | over => exact trivial
    | done0 => exact trivial
  ok := fun t a v hok h hv => by
    cases t with
    | ch k => by_cases hk : k + 1 < l.length <;> simp [qpPM, qpFl, hk]
    | ld => exact trivial
    | pt t => exact trivial
    | tr => exact trivial
    | ct => exact trivial
    | over => exact trivial
    | done0 => exact trivial
  fol := fun W x t a v hok h hv hB hR hxR => by
    obtain ⟨hR1, hR2⟩ := hR
    have hcx : cl ≠ x := fun e => hxR (by rw [← e]; exact List.mem_append_left _ (List.mem_singleton.2 rfl))
    have hgx : g ≠ x := fun e => hxR (by rw [← e]; exact List.mem_append_right _ (List.mem_singleton.2 rfl))
    cases t with
    | ch k =>
      cases h
      by_cases hk : k + 1 < l.length
      · have e : (qpPM (fun y => wd (20 + P * 264 + T * 3) G 2 y 1) l).nx (.ch k) v = .ch (k + 1) := if_pos hk
        rw [e]
        by_cases hk2 : k + 1 + 1 < l.length
        · have H := qput_chain_more W x cl g cap who l none (k + 1) P T G false hB hR2 hgx hk2 hn hb hR1 hcx hp hT hG.2
          have e2 : (qpPM (fun y => wd (20 + P * 264 + T * 3) G 2 y 1) l).ax (.ch (k + 1)) = some (axSt (wd (20 + P * 264 + T * 3) G 2 (l.getD (k + 1) 0) 1) (l.getD (k + 1 + 1) 0 + 1)) := by
            show some (axSt _ (if k + 1 + 1 < l.length then _ else _)) = _
            rw [if_pos hk2]
          refine H.mono ?_
          rintro e' w' ⟨hu, hC⟩
          refine ⟨hu, ?_⟩
          unfold Fl.Landed
          rw [e2]
          exact hC
        · have H := qput_chain_last W x cl g cap who l none (k + 1) P T G false hB hR2 hgx (by omega) hn hb hR1 hcx hp hT hG.2
          have e2 : (qpPM (fun y => wd (20 + P * 264 + T * 3) G 2 y 1) l).ax (.ch (k + 1)) = some (axSt (wd (20 + P * 264 + T * 3) G 2 (l.getD (k + 1) 0) 1) 0) := by
            show some (axSt _ (if k + 1 + 1 < l.length then _ else _)) = _
            rw [if_neg hk2]
          refine H.mono ?_
          rintro e' w' ⟨hu, hC⟩
          refine ⟨hu, ?_⟩
          unfold Fl.Landed
          rw [e2]
          exact hC
      · have e : (qpPM (fun y => wd (20 + P * 264 + T * 3) G 2 y 1) l).nx (.ch k) v = .ld := if_neg hk
        have hkn : k + 1 = l.length := by have : k < l.length := hok; omega
        rw [e]
        have hB' : Blk W x (qpCells who none cl (.slice (some ⟨g, 0, none⟩) l.length cap) l.length false) 117 := by
          have hB1 : Blk W x (qpCells who none cl (.slice (some ⟨g, 0, none⟩) l.length cap) ((k + 1 : Nat) : Int) false) 117 := hB
          rw [hkn] at hB1
          exact hB1
        exact qput_chain_end W x cl g cap who l none false hB' hn
    | ld =>
      cases h
      by_cases hv0 : v = 0
      · subst hv0
        exact qput_lead_none W x cl g cap who l none l.length false hB hR2 h0 hn hb
      · have H := qput_lead_some W x cl g cap who l none l.length v P T G false hB hR2 h0 hn hb hv0 hR1 hp hT hG.2
        have e2 : (qpPM (fun y => wd (20 + P * 264 + T * 3) G 2 y 1) l).ax (.pt v) = some (axSt (wd (20 + P * 264 + T * 3) G 2 (gw v) 1) (l.getD 0 0 + 1)) := by
          show some (axSt (if v = 0 then _ else _) _) = _
          rw [if_neg hv0]
        refine H.mono ?_
        rintro e' w' ⟨hu, hC⟩
        refine ⟨hu, ?_⟩
        show Fl.Landed _ _ _ _ _ (QpT.pt v)
        unfold Fl.Landed
        rw [e2]
        exact hC
    | pt t => cases h; exact qput_trail W x cl g cap who l none l.length false hB hR2 hgx h0 hn hb
    | tr => cases h; exact qput_tell W x cl g cap who l none l.length true hB hn
    | ct => cases h; exact ⟨hB, But.refl _ _⟩
    | over => cases h
    | done0 => cases h
end

/-- How a machine that puts goroutines behind lies in memory: its row is its own. -/
def qpI (who : Int) (cl : Nat) (gl : Int → Int) (l : List Int) : MI QpT := fun w x t L =>
  (0 < l.length ∧ ∃ g cap L', L = g :: L' ∧ g ∉ L' ∧ RowAt w g cap l ∧ (qpFl who cl (.slice (some ⟨g, 0, none⟩) l.length cap) l).I (qpPM gl l) w x t L') ∨
  (l = [] ∧ t = .done0 ∧ ∃ A cap, (A = none → cap = 0) ∧ (qpFl who cl (.slice A 0 cap) []).I (qpPM gl []) w x .done0 L)
theorem qp_good (who P T G : Int) (cl : Nat) (l : List Int) (hp : 0 ≤ P ∧ P ≤ 64) (hT : 0 ≤ T ∧ T ≤ 65536) (hG : 0 ≤ G ∧ G ≤ 65536) (hn : l.length ≤ 1000000) (hb : ∀ y ∈ l, 0 ≤ y ∧ y ≤ 1000000) : (qpI who cl (fun y => wd (20 + P * 264 + T * 3) G 2 y 1) l).Good (qpPM (fun y => wd (20 + P * 264 + T * 3) G 2 y 1) l) where
  keep := by
    rintro w w' x t L lb (⟨h0, g, cap, L', rfl, hg, hr, h⟩ | ⟨rfl, rfl, A, cap, ha, h⟩) hbt hk
    · exact .inl ⟨h0, g, cap, L', rfl, hg, hr.but hbt (hk g (by simp)), (Fl.good (qp_laws who P T G cl g cap l hp hT hG h0 hn hb)).keep h hbt (fun k hm => hk k (by simp [hm]))⟩
    · rw [Fl.at_none rfl] at h
      obtain ⟨h1, h2, rfl⟩ := h
      refine .inr ⟨rfl, rfl, A, cap, ha, ?_⟩
      rw [Fl.at_none rfl]
      exact ⟨h1, h2.but hbt (hk x (by simp)), rfl⟩
  lt := by
    rintro w x t L (⟨h0, g, cap, L', rfl, hg, hr, h⟩ | ⟨rfl, rfl, A, cap, ha, h⟩) k hk
    · simp at hk
      rcases hk with rfl | hk
      · exact hr.lt
      · exact (Fl.good (qp_laws who P T G cl g cap l hp hT hG h0 hn hb)).lt h k hk
    · rw [Fl.at_none rfl] at h
      obtain ⟨h1, h2, rfl⟩ := h
      simp at hk; subst hk; exact h2.lt
  mem := by
    rintro w x t L (⟨h0, g, cap, L', rfl, hg, hr, h⟩ | ⟨rfl, rfl, A, cap, ha, h⟩)
    · exact List.mem_cons_of_mem _ ((Fl.good (qp_laws who P T G cl g cap l hp hT hG h0 hn hb)).mem h)
    · rw [Fl.at_none rfl] at h
      obtain ⟨h1, h2, rfl⟩ := h
      simp
  next := by
    rintro w x t L (⟨h0, g, cap, L', rfl, hg, hr, h⟩ | ⟨rfl, rfl, A, cap, ha, h⟩)
    · exact (Fl.good (qp_laws who P T G cl g cap l hp hT hG h0 hn hb)).next h
    · rw [Fl.at_none rfl] at h
      obtain ⟨h1, h2, rfl⟩ := h
      exact ⟨none, h2.cell 1 rfl, rfl⟩
theorem qp_steps (who P T G : Int) (cl : Nat) (l : List Int) (hp : 0 ≤ P ∧ P ≤ 64) (hT : 0 ≤ T ∧ T ≤ 65536) (hG : 0 ≤ G ∧ G ≤ 65536) (hn : l.length ≤ 1000000) (hb : ∀ y ∈ l, 0 ≤ y ∧ y ≤ 1000000) {K : Nat} (hK : StepBy K) : Steps (qpPM (fun y => wd (20 + P * 264 + T * 3) G 2 y 1) l) (qpI who cl (fun y => wd (20 + P * 264 + T * 3) G 2 y 1) l) (Rd.lay cl P T G) K who := by
  rintro w A cp cm b n s x t L (⟨h0, g, cap, L', rfl, hg, hr, h⟩ | ⟨rfl, rfl, A1, cap, ha, h⟩) hR hI hn1 hl hf hcb
  · have hgf := hf g (by simp)
    have hgd := Fl.good (qp_laws who P T G cl g cap l hp hT hG h0 hn hb)
    refine (Fl.steps (qp_laws who P T G cl g cap l hp hT hG h0 hn hb) hK w A cp cm b n s x t L' h ⟨hR, hr⟩ hI hn1 hl (fun k hk => ⟨(hf k (by simp [hk])).1, (hf k (by simp [hk])).2.1, fun hm => ?_⟩) ⟨fun hm => ?_, fun hm => ?_⟩).mono ?_
    · rcases List.mem_append.1 hm with hm | hm
      · exact (hf k (by simp [hk])).2.2 hm
      · exact hg ((List.mem_singleton.1 hm) ▸ hk)
    · rcases List.mem_append.1 hm with hm | hm
      · exact hcb.1 hm
      · exact hgf.1 (List.mem_singleton.1 hm).symm
    · rcases List.mem_append.1 hm with hm | hm
      · exact hcb.2 hm
      · exact hgf.2.1 (List.mem_singleton.1 hm).symm
    · rintro e w' ⟨rfl, L2, h1, h2, h3, h4⟩
      refine ⟨rfl, g :: L2, .inl ⟨h0, g, cap, L2, rfl, fun hm => ?_, hr.but h3 ?_, h1⟩, h2, h3.more (by intro k _ hk; simp at hk ⊢; rcases hk with h | h | h <;> simp [h]), fun k hk => ?_⟩
      · rcases h4 g hm with h5 | h5
        · exact hg h5
        · have := hr.lt; omega
      · simp only [List.mem_cons, not_or]
        exact ⟨hgf.1, hgf.2.1, hg⟩
      · simp at hk
        rcases hk with rfl | hk
        · exact .inl (by simp)
        · rcases h4 k hk with h5 | h5
          · exact .inl (by simp [h5])
          · exact .inr h5
  · have hI0 := h
    rw [Fl.at_none rfl] at h
    obtain ⟨h1, h2, rfl⟩ := h
    refine (hK w x _ (fun z w' => z = true ∧ w = w') ((step_none w x cm (h2.cell 1 rfl)).mono ?_)).mono ?_
    · rintro e w' ⟨rfl, rfl⟩; exact ⟨true, rfl, rfl, rfl⟩
    · rintro e w' ⟨z, rfl, rfl, rfl⟩
      exact ⟨rfl, [x], .inr ⟨rfl, rfl, A1, cap, ha, hI0⟩, hI, But.refl _ _, fun k hk => .inl hk⟩
end Go.Proofs.YtiagkeakohkfgaaGreat

namespace Go.Proofs.YtiagkeakohkfgaaGreat
open Go Go.RowKit
set_option linter.unusedVariables false
set_option maxRecDepth 100000
set_option linter.unusedSimpArgs false

theorem RowAt.sees {w : World} {g cap : Nat} {l : List Int} (h : RowAt w g cap l) : SeesL w (.slice (some ⟨g, 0, none⟩) l.length cap) l :=
  ⟨_, cap, rfl, (fun h => by cases h), fun _ => ⟨g, 0, rfl, h.lt, fun j hj => by rw [Nat.zero_add]; exact h.cell j hj⟩⟩
theorem qput_holds (w : World) (x cl : Nat) (who k : Int) (nx : Option Addr) (sl : Value) (l : List Int) (z : Bool) (h : Blk w x (qpCells who nx cl sl k z) 117) (hs : SeesL w sl l) (hn : l.length ≤ 1000000) :
    Calls Tryz.prog 17 #[.pointer (some ⟨x, 0, none⟩)] w fun e w' => ∃ v, e = .returned v ∧ IntsOn w' w.heap.size v (if z then [] else l) ∧ Below w.heap.size w w' := by
  have c3 := h.cell 3 (v := sl) rfl
  have c5 := h.cell 5 (v := .bool z) rfl
  have HC := lclone_any sl l w hn hs
  clear h hs
  cases z with
  | true =>
    clear HC c3
    go_enter Tryz.func17, Tryz.ntmps17
    go_wp2_with fail
    go_ret
    exact ⟨_, rfl, ⟨World.ownsRow_nil _ _ _ _⟩, Below.refl _ _⟩
  | false =>
    go_enter Tryz.func17, Tryz.ntmps17
    go_wp2_with fail
    go_at_call 62; refine HC.mono ?_; rintro e w1 ⟨v, rfl, h1, h2⟩
    clear HC c3 c5
    go_wp2_with fail
    go_ret
    exact ⟨_, rfl, h1, h2⟩
theorem qput_holds_nil (w : World) : Calls Tryz.prog 17 #[.pointer none] w fun e w' => e = .returned (.slice none 0 0) ∧ w = w' := by
  go_enter Tryz.func17, Tryz.ntmps17
  go_wp2_with fail
  go_ret
  exact ⟨rfl, rfl⟩
theorem qp_holds {who : Int} {cl : Nat} {gl : Int → Int} {l : List Int} {w : World} {x : Nat} {t : QpT} {L : List Nat} (h : qpI who cl gl l w x t L) (hn : l.length ≤ 1000000) :
    Calls Tryz.prog 17 #[.pointer (some ⟨x, 0, none⟩)] w fun e w' => ∃ v, e = .returned v ∧ IntsOn w' w.heap.size v (if t.lies then [] else l) ∧ Below w.heap.size w w' := by
  rcases h with ⟨h0, g, cap, L', rfl, hg, hr, h⟩ | ⟨rfl, rfl, A, cap, ha, h⟩
  · obtain ⟨nx, h1, -⟩ := Fl.blk h
    exact qput_holds w x cl who _ nx _ l t.lies h1 hr.sees hn
  · obtain ⟨nx, h1, -⟩ := Fl.blk h
    exact qput_holds w x cl who _ nx (.slice A 0 cap) [] false h1 ⟨A, cap, rfl, fun e => ⟨rfl, ha e⟩, fun e => absurd e (by simp)⟩ hn
def qpStart (l : List Int) : QpT := if l = [] then .done0 else .ch 0
theorem qp_new_nil (w : World) (cl : Nat) (who : Int) (gl : Int → Int) (sl : Value) (hs : SeesL w sl []) :
    Calls Tryz.prog 12 #[.pointer (some ⟨cl, 0, none⟩), .int .i64 who, sl] w fun e w' => ∃ x L, e = .returned (.pointer (some ⟨x, 0, none⟩)) ∧ qpI who cl gl [] w' x .done0 L ∧ Below w.heap.size w w' ∧ (∀ k ∈ L, w.heap.size ≤ k) ∧ w.heap.size ≤ x := by
  have HC := lclone_any sl [] w (by simp) hs
  obtain ⟨A0, cap0, rfl, -, -⟩ := hs
  go_enter Tryz.func12, Tryz.ntmps12
  go_wp2_with fail
  go_at_call 62; refine HC.mono ?_; rintro e w1 ⟨v, rfl, h1, hb1⟩
  obtain ⟨A, cap, rfl, ha, -⟩ := h1.sees
  have hB := Blk.new w1 #[.int .i64 0, .pointer none, .pointer none, .slice A 0 cap, .int .i64 0, .bool false] 117
  have hO := q_of _ w1.heap.size cl who _ (qpCells who none cl (.slice A 0 cap) 0 false) 117 hB (by simp) rfl
  have HH : Hid (Below w.heap.size w (w1.alloc (.cells #[.int .i64 0, .pointer none, .pointer none, .slice A 0 cap, .int .i64 0, .bool false] 117)) ∧ w.heap.size ≤ w1.heap.size) := ⟨seq hb1 ((Below.refl _ _).alloc (Nat.le_refl _) _), hb1.size⟩
  clear HC h1 hb1 hB
  go_wp2_with fail
  go_at_call 63; refine hO.mono ?_; rintro e w2 ⟨⟨v, rfl⟩, k1, k2, k3⟩
  have HF : Hid (qpI who cl gl [] w2 w1.heap.size .done0 [w1.heap.size] ∧ Below w.heap.size w w2) := by
    refine ⟨.inr ⟨rfl, rfl, A, cap, fun e => (ha e).2, (Fl.at_none rfl).2 ⟨trivial, k1, rfl⟩⟩, ?_⟩
    exact HH.out.1.trans (k2.below (by intro k hk; simp at hk; subst hk; first | exact HH.out.2 | exact HH.out.2.2.2.1) (by have := HH.out.2; rw [World.size_alloc]; omega))
  have hsz := HH.out.2
  clear hO HH k1 k2 k3
  go_wp2_with fail
  go_ret
  exact ⟨_, _, rfl, HF.out.1, HF.out.2, fun k hk => by simp at hk; subst hk; exact hsz, hsz⟩
theorem qp_new_some (w : World) (cl : Nat) (who P T G : Int) (sl : Value) (l : List Int) (hs : SeesL w sl l) (h0 : 0 < l.length) (hn : l.length ≤ 1000000) (hb : ∀ y ∈ l, 0 ≤ y ∧ y ≤ 1000000) (hl : Lay w cl P T G) (hp : 0 ≤ P ∧ P ≤ 64) (hT : 0 ≤ T ∧ T ≤ 65536) (hG : 0 ≤ G ∧ G ≤ 65536) :
    Calls Tryz.prog 12 #[.pointer (some ⟨cl, 0, none⟩), .int .i64 who, sl] w fun e w' => ∃ x L, e = .returned (.pointer (some ⟨x, 0, none⟩)) ∧ qpI who cl (fun y => wd (20 + P * 264 + T * 3) G 2 y 1) l w' x (.ch 0) L ∧ Below w.heap.size w w' ∧ (∀ k ∈ L, w.heap.size ≤ k) ∧ w.heap.size ≤ x := by
  have HC := lclone_any sl l w hn hs
  obtain ⟨A0, cap0, rfl, -, -⟩ := hs
  have hd : (0 : Int) < (l.length : Int) := by omega
  have HCH : Hid (∀ (Y : World) (x g cap : Nat), Blk Y x (qpCells who none cl (.slice (some ⟨g, 0, none⟩) l.length cap) 0 false) 117 → RowAt Y g cap l → g ≠ x → Lay Y cl P T G → cl ≠ x → Calls Tryz.prog 64 #[.pointer (some ⟨x, 0, none⟩)] Y fun e w' => (∃ v, e = .returned v) ∧ (qpFl who cl (.slice (some ⟨g, 0, none⟩) l.length cap) l).Landed (qpPM (fun y => wd (20 + P * 264 + T * 3) G 2 y 1) l) Y w' x (.ch 0)) := by
    intro Y x g cap hB hr hgx hl hcx
    by_cases hk2 : 0 + 1 < l.length
    · have H := qput_chain_more Y x cl g cap who l none 0 P T G false hB hr hgx hk2 hn hb hl hcx hp hT hG.2
      have e2 : (qpPM (fun y => wd (20 + P * 264 + T * 3) G 2 y 1) l).ax (.ch 0) = some (axSt (wd (20 + P * 264 + T * 3) G 2 (l.getD 0 0) 1) (l.getD (0 + 1) 0 + 1)) := by
        show some (axSt _ (if 0 + 1 < l.length then _ else _)) = _
        rw [if_pos hk2]
      refine H.mono ?_
      rintro e' w' ⟨hu, hC⟩
      refine ⟨hu, ?_⟩
      unfold Fl.Landed
      rw [e2]
      exact hC
    · have H := qput_chain_last Y x cl g cap who l none 0 P T G false hB hr hgx (by omega) hn hb hl hcx hp hT hG.2
      have e2 : (qpPM (fun y => wd (20 + P * 264 + T * 3) G 2 y 1) l).ax (.ch 0) = some (axSt (wd (20 + P * 264 + T * 3) G 2 (l.getD 0 0) 1) 0) := by
        show some (axSt _ (if 0 + 1 < l.length then _ else _)) = _
        rw [if_neg hk2]
      refine H.mono ?_
      rintro e' w' ⟨hu, hC⟩
      refine ⟨hu, ?_⟩
      unfold Fl.Landed
      rw [e2]
      exact hC
  have HLW : Hid (qpFl who cl .nilIface l = qpFl who cl .nilIface l ∧ 0 < l.length ∧ Lay w cl P T G) := ⟨rfl, h0, hl⟩
  have HLL : Hid (∀ g cap, (qpFl who cl (.slice (some ⟨g, 0, none⟩) l.length cap) l).Laws (qpPM (fun y => wd (20 + P * 264 + T * 3) G 2 y 1) l) ((Rd.lay cl P T G).and (Rd.row g cap l)) who) := fun g cap => qp_laws who P T G cl g cap l hp hT hG h0 hn hb
  generalize (fun y => wd (20 + P * 264 + T * 3) G 2 y 1) = gl at *
  generalize hnn : l.length = n at *
  clear hp hT hG hb hl
  go_enter Tryz.func12, Tryz.ntmps12
  go_wp2_with fail
  go_at_call 62; refine HC.mono ?_; rintro e w1 ⟨v, rfl, h1, hb1⟩
  obtain ⟨g, cap, rfl, hg0, hr⟩ := h1.row (by omega)
  rw [hnn]
  have hB := Blk.new w1 #[.int .i64 0, .pointer none, .pointer none, .slice (some ⟨g, 0, none⟩) n cap, .int .i64 0, .bool false] 117
  have hO := q_of _ w1.heap.size cl who _ (qpCells who none cl (.slice (some ⟨g, 0, none⟩) n cap) 0 false) 117 hB (by simp) rfl
  have HH : Hid (Below w.heap.size w w1 ∧ RowAt w1 g cap l ∧ Below w.heap.size w (w1.alloc (.cells #[.int .i64 0, .pointer none, .pointer none, .slice (some ⟨g, 0, none⟩) n cap, .int .i64 0, .bool false] 117)) ∧ w.heap.size ≤ w1.heap.size ∧ w.heap.size ≤ g) := ⟨hb1, hr, seq hb1 ((Below.refl _ _).alloc (Nat.le_refl _) _), hb1.size, hg0⟩
  clear HC h1 hb1 hB hr
  go_wp2_with fail
  go_at_call 63; refine hO.mono ?_; rintro e w2 ⟨⟨v, rfl⟩, k1, k2, k3⟩
  have hb2 : Below w.heap.size w w2 := HH.out.2.2.1.trans (k2.below (by intro k hk; simp at hk; subst hk; first | exact HH.out.2 | exact HH.out.2.2.2.1) (by have := HH.out.2.2.2.1; rw [World.size_alloc]; omega))
  have hgl := HH.out.2.1.lt
  have hr2 : RowAt w2 g cap l := (HH.out.2.1.below ((Below.refl _ _).alloc (Nat.le_refl _) _)).but k2 (by simp; omega)
  have hll := HLW.out.2.2.lt
  have hsz := HH.out.2.2.2.1
  have hCh := HCH.out w2 w1.heap.size g cap k1 hr2 (by omega) (HLW.out.2.2.below hb2 hll) (by omega)
  have HF2 : Hid (Below w.heap.size w w2 ∧ RowAt w2 g cap l ∧ w1.heap.size < w2.heap.size ∧ g < w1.heap.size ∧ w.heap.size ≤ g) := ⟨hb2, hr2, k1.lt, hgl, HH.out.2.2.2.2⟩
  clear hO HH k1 k2 k3 hr2 hb2 HCH
  go_wp2_with fail
  go_at_call 64; refine hCh.mono ?_; rintro e w3 ⟨⟨v2, rfl⟩, hC⟩
  have HF : Hid (∃ L, qpI who cl gl l w3 w1.heap.size (.ch 0) L ∧ Below w.heap.size w w3 ∧ ∀ k ∈ L, w.heap.size ≤ k) := by
    obtain ⟨-, ⟨L', i1, i2⟩, i3⟩ := Fl.land (HLL.out g cap) hC (by show 0 < l.length; rw [hnn]; exact HLW.out.2.1) HF2.out.2.2.1
    refine ⟨g :: L', .inl ⟨by rw [hnn]; exact HLW.out.2.1, g, cap, L', rfl, fun hm => ?_, HF2.out.2.1.but i3 (by have := HF2.out.2.2.2.1; simp; omega), by rw [hnn]; exact i1⟩, HF2.out.1.trans (i3.below (by simp; omega) HF2.out.1.size), fun k hk => ?_⟩
    · have := HF2.out.2.2.2.1
      rcases i2 g hm with h | h
      · omega
      · have := HF2.out.2.2.1; omega
    · have h3 := HF2.out.1.size
      simp at hk
      rcases hk with rfl | hk
      · exact HF2.out.2.2.2.2
      · rcases i2 k hk with rfl | h
        · exact hsz
        · omega
  clear hCh hC HF2
  go_wp2_with fail
  go_ret
  obtain ⟨L, f1, f2, f3⟩ := HF.out
  exact ⟨_, L, rfl, f1, f2, f3, hsz⟩
end Go.Proofs.YtiagkeakohkfgaaGreat
