/- Waking some thread: its laws, its beginning, and what it tells. -/
import Derived.Test.YtfdpikkinlljlaaGreatHMAL
namespace Go.Proofs.YtfdpikkinlljlaaGreat
open Go Go.RowKit
set_option linter.unusedVariables false
set_option maxRecDepth 100000
set_option linter.unusedSimpArgs false

/-- A machine that may run others does accesses that may be, at each state. -/
theorem Cp.okax {σ : Type} {C : Cp σ} {M : PM σ} {R : Rd} {who : Int} (hL : C.Laws M R who) {t : σ} (hok : C.ok t) : ∀ a, M.ax t = some a → a.Ok := by
  intro a ha
  cases hk : C.kind t with
  | over => rw [hL.k0 t hok hk] at ha; cases ha
  | acc a' f =>
    obtain ⟨h1, h2, _⟩ := hL.k1 t a' f hok hk
    rw [h1] at ha
    cases ha
    exact h2
  | run S p af =>
    obtain ⟨h1, _, _, h4⟩ := hL.k2 t S p af hok hk
    exact h4 a (h1.symm.trans ha)
theorem ws_ok_next {who P T G p : Int} {sp lf : Bool} {cl : Nat} (hp : 0 ≤ P ∧ P ≤ 64) (hT : 0 ≤ T ∧ T ≤ 65536) {t : WsT} {a : Ax} {v : Int} (hok : (wsCp who P T G p sp lf cl).ok t) (ha : (wsPM P T p sp lf).ax t = some a) (hv : 0 ≤ v ∧ v ≤ 18446744073709551615) : (wsCp who P T G p sp lf cl).ok ((wsPM P T p sp lf).nx t v) := by
  have hput : ∀ q, (wsCp who P T G p sp lf cl).ok (wsPut lf q) := fun q => by unfold wsPut; cases lf <;> first | exact trivial | exact ⟨rfl, trivial⟩
  cases t with
  | get q =>
    have h2 := (jg_laws who P T G cl hp hT).ok q a v hok.2 ha hv
    show (wsCp who P T G p sp lf cl).ok (if ((jgPM P T).ax ((jgPM P T).nx q v)).isSome = true then .get ((jgPM P T).nx q v) else if ((jgPM P T).nx q v).obs = -1 then .need ((jgPM P T).nx q v) else .rel1 ((jgPM P T).nx q v) .fresh)
    split
    · rename_i h1; exact ⟨h1, h2⟩
    · split
      · exact trivial
      · rename_i h1; exact ⟨h1, rfl⟩
  | rel1 q r =>
    show (wsCp who P T G p sp lf cl).ok (if ((relPM (wd 0 2 3 0 1) (wd 0 2 3 0 2)).ax ((relPM (wd 0 2 3 0 1) (wd 0 2 3 0 2)).nx r v)).isSome = true then .rel1 q ((relPM (wd 0 2 3 0 1) (wd 0 2 3 0 2)).nx r v) else .give q)
    split
    · rename_i h1; exact ⟨hok.1, h1⟩
    · exact trivial
  | give q => exact trivial
  | note q n => exact trivial
  | need q =>
    show (wsCp who P T G p sp lf cl).ok (if sp = true then .cnt q else wsPut lf q)
    split
    · exact trivial
    · exact hput q
  | cnt q => exact hput q
  | lft q => exact trivial
  | back q b =>
    have h2 := (ip_laws who P T G p cl hp hT).ok b a v hok.2 ha hv
    show (wsCp who P T G p sp lf cl).ok (if ((ipPM P p).ax ((ipPM P p).nx b v)).isSome = true then .back q ((ipPM P p).nx b v) else .rel2 q (some ((ipPM P p).nx b v)) .fresh)
    split
    · rename_i h1; exact ⟨h1, h2⟩
    · exact trivial
  | rel2 q b r => exact trivial

/-- Waking some thread, as plain data: q is what the processor's machine is in. -/
inductive WwT where
  | ld
  | sw
  | no
  | acq (a : AcqT)
  | get (q : IgT)
  | need (q : IgT)
  | cnt (q : IgT)
  | rel (q : IgT) (r : RelT)
  | run (q : IgT) (t : WsT)
def WwT.counts : WwT → Bool
  | .acq _ => true
  | .get _ => true
  | .need _ => true
  | .cnt _ => true
  | _ => false
/-- The processor in its hand. -/
def WwT.holds : WwT → Int
  | .get q => q.obs
  | .need q => q.obs
  | .cnt q => q.obs
  | .rel q _ => q.obs
  | .run q t => t.holds q.obs
  | _ => -1
def wwPM (P T who : Int) : PM WwT where
  ax := fun
    | .ld => some (axLd 13)
    | .sw => some (axSw 13 0 1)
    | .no => none
    | .acq a => (acqPM (wd 0 2 3 0 0) (wd 0 2 3 0 1) (wd 0 2 3 0 2) who).ax a
    | .get q => (igPM P).ax q
    | .need _ => some (axSt 14 1)
    | .cnt _ => some (axAd 13 4294967295)
    | .rel _ r => (relPM (wd 0 2 3 0 1) (wd 0 2 3 0 2)).ax r
    | .run q t => (wsPM P T q.obs true false).ax t
  nx := fun
    | .ld, v => if v = 0 then .sw else .no
    | .sw, v => if v = 0 then .no else .acq .fresh
    | .no, _ => .no
    | .acq a, v => if ((acqPM (wd 0 2 3 0 0) (wd 0 2 3 0 1) (wd 0 2 3 0 2) who).ax ((acqPM (wd 0 2 3 0 0) (wd 0 2 3 0 1) (wd 0 2 3 0 2) who).nx a v)).isSome = true then .acq ((acqPM (wd 0 2 3 0 0) (wd 0 2 3 0 1) (wd 0 2 3 0 2) who).nx a v) else .get .ld
    | .get q, v => if ((igPM P).ax ((igPM P).nx q v)).isSome = true then .get ((igPM P).nx q v) else if ((igPM P).nx q v).obs = -1 then .need ((igPM P).nx q v) else .run ((igPM P).nx q v) (.get .ld)
    | .need q, _ => .cnt q
    | .cnt q, _ => .rel q .fresh
    | .rel q r, v => .rel q ((relPM (wd 0 2 3 0 1) (wd 0 2 3 0 2)).nx r v)
    | .run q t, v => .run q ((wsPM P T q.obs true false).nx t v)
def igSub (who P T G : Int) (cl : Nat) : Sub := ⟨IgT, igPM P, (igFl who cl).I (igPM P), Rd.lay cl P T G, 198, 344⟩
def wsSub (who P T G p : Int) (cl : Nat) : Sub := ⟨WsT, wsPM P T p true false, (wsCp who P T G p true false cl).I, Rd.lay cl P T G, 153, 339⟩
/-- What it has beside its own block: the processor's machine, and the one that starts a thread. -/
def wwExt (who P T G : Int) (cl : Nat) (t : WwT) (es : List Nat) (w : World) (Le : List Nat) : Prop := match t with
  | .need q => (igFl who cl).I (igPM P) w (es.getD 0 0) q Le
  | .cnt q => (igFl who cl).I (igPM P) w (es.getD 0 0) q Le
  | .rel q _ => (igFl who cl).I (igPM P) w (es.getD 0 0) q Le
  | .run q t => if ((wsPM P T q.obs true false).ax t).isSome = true then (igFl who cl).I (igPM P) w (es.getD 0 0) q Le else ∃ L1 L2, Le = L1 ++ L2 ∧ (igFl who cl).I (igPM P) w (es.getD 0 0) q L1 ∧ (wsCp who P T G q.obs true false cl).I w (es.getD 1 0) t L2
  | _ => Le = []
def WwT.hasP : WwT → Bool
  | .get _ => true
  | .need _ => true
  | .cnt _ => true
  | .rel _ _ => true
  | .run _ _ => true
  | _ => false
def WwT.hasS : WwT → Bool
  | .run _ _ => true
  | _ => false
def wwAt (who : Int) (cl : Nat) (t : WwT) (es : List Nat) (nx : Option Addr) : Array Value := wwCells who nx cl t.counts (if t.hasP = true then some ⟨es.getD 0 0, 0, none⟩ else none) (if t.hasS = true then some ⟨es.getD 1 0, 0, none⟩ else none)
def wwCp (who P T G : Int) (cl : Nat) : Cp WwT where
  T := 200
  cells := wwAt who cl
  kind := fun
    | .ld => .acc (axLd 13) (.told 218)
    | .sw => .acc (axSw 13 0 1) (.swap 233)
    | .no => .over
    | .acq a => .run (acqSub (wd 0 2 3 0 0) (wd 0 2 3 0 1) (wd 0 2 3 0 2) who) a (.fn 251)
    | .get q => .run (igSub who P T G cl) q (.fn 269)
    | .need _ => .acc (axSt 14 1) (.untold 284)
    | .cnt _ => .acc (axAd 13 4294967295) (.told 295)
    | .rel _ .over => .over
    | .rel _ r => .run (relSub (wd 0 2 3 0 1) (wd 0 2 3 0 2) who) r .nil
    | .run q t => if ((wsPM P T q.obs true false).ax t).isSome = true then .run (wsSub who P T G q.obs cl) t .nil else .over
  ok := fun
    | .acq a => ((acqPM (wd 0 2 3 0 0) (wd 0 2 3 0 1) (wd 0 2 3 0 2) who).ax a).isSome = true
    | .get q => ((igPM P).ax q).isSome = true ∧ (igFl who cl).ok q
    | .run q t => (wsCp who P T G q.obs true false cl).ok t
    | _ => True
  ext := wwExt who P T G cl
  tie := fun t es y => match t with
    | .get _ => es.getD 0 0 = y
    | .run _ _ => es.getD 1 0 = y
    | _ => True
theorem ent_ww1 : Ent 218 := fun args w => by kernel_rfl
theorem ent_ww2 : Ent 233 := fun args w => by kernel_rfl
theorem ent_ww3 : Ent 251 := fun args w => by kernel_rfl
theorem ent_ww4 : Ent 269 := fun args w => by kernel_rfl
theorem ent_ww5 : Ent 284 := fun args w => by kernel_rfl
theorem ent_ww6 : Ent 295 := fun args w => by kernel_rfl
section
variable {who P T G : Int} {cl : Nat} {W w' : World} {x : Nat} {t : WwT} {a : Ax} {f : Fol} {es Le Le' : List Nat}
theorem ww_land_acc (h : Came W w' x (wwAt who cl t es none) 200 a f) (hok : (wwCp who P T G cl).ok t) (hk : (wwCp who P T G cl).kind t = .acc a f) (hx : x < W.heap.size) (he : wwExt who P T G cl t es w' Le') (hxe : x ∉ Le') (hle : ∀ k ∈ Le', k ∈ Le ∧ k < W.heap.size) : (wwCp who P T G cl).Land W w' x t Le := by
  obtain ⟨q, Lc, c1, c2, c3, c4⟩ := h
  refine ⟨c3, x :: (Lc ++ Le'), ⟨hok, es, Le', he, hxe, ?_⟩, fun k hm => by simp at hm; rcases hm with rfl | hm | hm; exact .inl rfl; exact .inr (.inr (c4 k hm)); exact .inr (.inl (hle k hm).1)⟩
  rw [hk]
  exact ⟨q, Lc, c1, c2, fun hm => absurd (c4 x hm) (by omega), (fun k hm h => by have := c4 k hm; have := (hle k h).2; omega), rfl⟩
theorem ww_land_over (h : Blk w' x (wwAt who cl t es none) 200) (hb : But [x] W w') (hok : (wwCp who P T G cl).ok t) (hk : (wwCp who P T G cl).kind t = .over) (he : wwExt who P T G cl t es w' Le') (hxe : x ∉ Le') (hle : ∀ k ∈ Le', k ∈ Le) : (wwCp who P T G cl).Land W w' x t Le := by
  refine ⟨hb, x :: Le', ⟨hok, es, Le', he, hxe, ?_⟩, fun k hm => by simp at hm; rcases hm with rfl | hm; exact .inl rfl; exact .inr (.inl (hle k hm))⟩
  rw [hk]
  exact ⟨h, rfl⟩
theorem ww_land_run0 {S : Sub} {af : After} {pt : S.τ} {y q b : Nat} {L : List Nat} (hC : CameBox W w' x (wwAt who cl t es none) 200 (fun v => comCells 0 0 0 0 0 false (.iface S.D (.pointer (some ⟨y, 0, none⟩))) v false false) (af.fol.box x) q b) (hM : S.I w' y pt L) (hL : ∀ k ∈ L, W.heap.size ≤ k) (hq : q ∉ L) (hg : b ∉ L) (hok : (wwCp who P T G cl).ok t) (hk : (wwCp who P T G cl).kind t = .run S pt af) (htie : (wwCp who P T G cl).tie t es y) (hx : x < W.heap.size) (he : wwExt who P T G cl t es w' Le') (hxe : x ∉ Le') (hle : ∀ k ∈ Le', k ∈ Le ∧ k < W.heap.size) : (wwCp who P T G cl).Land W w' x t Le := by
  have hfq := hC.at'.fresh
  have hfb := hC.fresh
  refine ⟨hC.at'.but, x :: q :: b :: (L ++ Le'), ⟨hok, es, Le', he, hxe, ?_⟩, fun k hm => ?_⟩
  · rw [hk]
    refine ⟨q, y, b, L, RunAt.of hC (fun nx => rfl), hM, htie, ?_, hq, hg, fun k hm => ?_, rfl⟩
    · simp only [List.mem_cons, not_or]
      exact ⟨by omega, by omega, fun hm => by have := hL x hm; omega⟩
    · simp only [List.mem_cons] at hm
      intro hk'
      have h1 := (hle k hk').2
      rcases hm with rfl | rfl | hm
      · omega
      · omega
      · have := hL k hm; omega
  · simp only [List.mem_cons, List.mem_append] at hm
    rcases hm with rfl | rfl | rfl | hm | hm
    · exact .inl rfl
    · exact .inr (.inr hfq)
    · exact .inr (.inr hfb)
    · exact .inr (.inr (hL k hm))
    · exact .inr (.inl (hle k hm).1)
theorem ww_land_run {S : Sub} {af : After} {pt : S.τ} (hR : RunNew S pt W w' x (wwAt who cl t es none) 200 (af.fol.box x)) (hok : (wwCp who P T G cl).ok t) (hk : (wwCp who P T G cl).kind t = .run S pt af) (htie : ∀ y, (wwCp who P T G cl).tie t es y) (hx : x < W.heap.size) (he : wwExt who P T G cl t es w' Le') (hxe : x ∉ Le') (hle : ∀ k ∈ Le', k ∈ Le ∧ k < W.heap.size) : (wwCp who P T G cl).Land W w' x t Le := by
  obtain ⟨y, q, b, L, hC, hM, hL, hq, hg⟩ := hR
  exact ww_land_run0 hC hM hL hq hg hok hk (htie y) hx he hxe hle
theorem ww_kind_run {q : IgT} {s : WsT} {S : Sub} {p : S.τ} {af : After} (hk : (wwCp who P T G cl).kind (.run q s) = .run S p af) : ((wsPM P T q.obs true false).ax s).isSome = true := by
  by_cases h : ((wsPM P T q.obs true false).ax s).isSome = true
  · exact h
  · have e : (wwCp who P T G cl).kind (.run q s) = .over := if_neg h
    rw [e] at hk; cases hk
theorem ww_kind_at {q : IgT} {s : WsT} (h : ((wsPM P T q.obs true false).ax s).isSome = true) : (wwCp who P T G cl).kind (.run q s) = .run (wsSub who P T G q.obs cl) s .nil := if_pos h
theorem ww_on {v : Int} {S : Sub} {q : S.τ} {af : After} (hw : 0 ≤ who ∧ who ≤ 1000000) (hp : 0 ≤ P ∧ P ≤ 64) (hT : 0 ≤ T ∧ T ≤ 65536) (hv : 0 ≤ v ∧ v ≤ 18446744073709551615) (hok : (wwCp who P T G cl).ok t) (hk : (wwCp who P T G cl).kind t = .run S q af) (hs : (S.M.ax (S.M.nx q v)).isSome = true) :
    (wwCp who P T G cl).ok ((wwPM P T who).nx t v) ∧ (wwCp who P T G cl).kind ((wwPM P T who).nx t v) = .run S (S.M.nx q v) af ∧ (∀ es, (wwCp who P T G cl).cells ((wwPM P T who).nx t v) es = (wwCp who P T G cl).cells t es) ∧ (∀ es w Le, (wwCp who P T G cl).ext t es w Le → (wwCp who P T G cl).ext ((wwPM P T who).nx t v) es w Le) ∧ (∀ es y, (wwCp who P T G cl).tie t es y → (wwCp who P T G cl).tie ((wwPM P T who).nx t v) es y) := by
  cases t with
  | acq a =>
    cases hk
    have e : (wwPM P T who).nx (.acq a) v = .acq ((acqPM (wd 0 2 3 0 0) (wd 0 2 3 0 1) (wd 0 2 3 0 2) who).nx a v) := if_pos hs
    rw [e]
    exact ⟨hs, rfl, fun _ => rfl, fun _ _ _ h => h, fun _ _ h => h⟩
  | get q =>
    cases hk
    have e : (wwPM P T who).nx (.get q) v = .get ((igPM P).nx q v) := if_pos hs
    rw [e]
    obtain ⟨h1, h2⟩ := hok
    obtain ⟨a, ha⟩ := Option.isSome_iff_exists.1 h1
    exact ⟨⟨hs, (ig_laws who P T G cl hp hT).ok q a v h2 ha hv⟩, rfl, fun _ => rfl, fun _ _ _ h => h, fun _ _ h => h⟩
  | rel q r =>
    cases r with
    | over => cases hk
    | fresh =>
      cases hk
      exact ⟨trivial, rfl, fun _ => rfl, fun _ _ _ h => h, fun _ _ h => h⟩
    | pass => cases hk; cases hs
  | run q s =>
    have h1 := ww_kind_run hk
    rw [ww_kind_at h1] at hk
    cases hk
    obtain ⟨a, ha⟩ := Option.isSome_iff_exists.1 h1
    have hs' : ((wsPM P T q.obs true false).ax ((wsPM P T q.obs true false).nx s v)).isSome = true := hs
    refine ⟨ws_ok_next (G := G) hp hT hok ha hv, ww_kind_at hs', fun _ => rfl, fun es w Le h => ?_, fun _ _ h => h⟩
    have h' : (if ((wsPM P T q.obs true false).ax s).isSome = true then (igFl who cl).I (igPM P) w (es.getD 0 0) q Le else ∃ L1 L2, Le = L1 ++ L2 ∧ (igFl who cl).I (igPM P) w (es.getD 0 0) q L1 ∧ (wsCp who P T G q.obs true false cl).I w (es.getD 1 0) s L2) := h
    rw [if_pos h1] at h'
    show (if ((wsPM P T q.obs true false).ax ((wsPM P T q.obs true false).nx s v)).isSome = true then (igFl who cl).I (igPM P) w (es.getD 0 0) q Le else ∃ L1 L2, Le = L1 ++ L2 ∧ (igFl who cl).I (igPM P) w (es.getD 0 0) q L1 ∧ (wsCp who P T G q.obs true false cl).I w (es.getD 1 0) ((wsPM P T q.obs true false).nx s v) L2)
    rw [if_pos hs']
    exact h'
  | ld => cases hk
  | sw => cases hk
  | no => cases hk
  | need q => cases hk
  | cnt q => cases hk
end
end Go.Proofs.YtfdpikkinlljlaaGreat

namespace Go.Proofs.YtfdpikkinlljlaaGreat
open Go Go.RowKit
set_option linter.unusedVariables false
set_option maxRecDepth 100000
set_option linter.unusedSimpArgs false

section
variable {who P T G : Int} {cl : Nat}
set_option maxHeartbeats 4000000 in
theorem ww_laws (hw : 0 ≤ who ∧ who ≤ 1000000) (hp : 0 ≤ P ∧ P ≤ 64) (hT : 0 ≤ T ∧ T ≤ 65536) :
    (wwCp who P T G cl).Laws (wwPM P T who) (Rd.lay cl P T G) who where
  c0 := fun t es nx => rfl
  c1 := fun t es nx => rfl
  set := fun t es nx nx' => rfl
  k0 := fun t hok hk => by
    cases t with
    | no => rfl
    | rel q r => cases r <;> first | rfl | cases hk
    | run q s =>
      by_cases h : ((wsPM P T q.obs true false).ax s).isSome = true
      · rw [ww_kind_at h] at hk; cases hk
      · show (wsPM P T q.obs true false).ax s = none
        cases hx : (wsPM P T q.obs true false).ax s with
        | none => rfl
        | some a => rw [hx] at h; exact absurd rfl h
    | _ => cases hk
  k1 := fun t a f hok hk => by
    cases t with
    | ld => cases hk; exact ⟨rfl, axLd_ok _, ent_ww1⟩
    | sw => cases hk; exact ⟨rfl, axSw_ok _ _ _ (by omega), ent_ww2⟩
    | need q => cases hk; exact ⟨rfl, axSt_ok _ _ (by omega), ent_ww5⟩
    | cnt q => cases hk; exact ⟨rfl, axAd_ok _ _ (by omega), ent_ww6⟩
    | rel q r => cases r <;> cases hk
    | run q s =>
      by_cases h : ((wsPM P T q.obs true false).ax s).isSome = true
      · rw [ww_kind_at h] at hk; cases hk
      · have e : (wwCp who P T G cl).kind (.run q s) = .over := if_neg h
        rw [e] at hk; cases hk
    | _ => cases hk
  k2 := fun t S q af hok hk => by
    cases t with
    | acq a => cases hk; exact ⟨rfl, hok, ent_ww3, fun b => (acq_laws _ _ _ who hw).axok _ b trivial⟩
    | get q => cases hk; exact ⟨rfl, hok.1, ent_ww4, fun a ha => (ig_laws who P T G cl hp hT).axok _ a hok.2 ha⟩
    | rel q r => cases r <;> cases hk <;> exact ⟨rfl, rfl, trivial, fun a => (rel_laws _ _ who).axok _ a trivial⟩
    | run q s =>
      have h1 := ww_kind_run hk
      rw [ww_kind_at h1] at hk
      cases hk
      exact ⟨rfl, h1, trivial, fun a ha => Cp.okax (ws_laws (G := G) (cl := cl) hw hp hT) hok a ha⟩
    | _ => cases hk
  sub := fun t S q af hok hk => by
    cases t with
    | acq a => cases hk; exact acqSub_ok _ _ _ who hw _
    | get q => cases hk; exact ⟨Fl.steps (ig_laws who P T G cl hp hT) stepby_ipg, Fl.good (ig_laws who P T G cl hp hT), act_ipg, fun w h => h, fun k h => h⟩
    | rel q r => cases r <;> cases hk <;> exact relSub_ok _ _ who _
    | run q s =>
      have h1 := ww_kind_run hk
      rw [ww_kind_at h1] at hk
      cases hk
      exact ⟨Cp.steps (ws_laws hw hp hT) stepby_wst, Cp.good (ws_laws hw hp hT), act_wst, fun w h => h, fun k h => h⟩
    | _ => cases hk
  ns := fun t a f hk => by
    cases t with
    | run q s =>
      have hk' : (if ((wsPM P T q.obs true false).ax s).isSome = true then Kind.run (wsSub who P T G q.obs cl) s .nil else .over) = Kind.acc a f := hk
      split at hk' <;> cases hk'
    | rel q r => cases r <;> cases hk
    | _ => first | (cases hk; rfl) | cases hk
  on := fun t S q af v hok hk hv hs => ww_on hw hp hT hv hok hk hs
  ekeep := fun t es w w' ll Le he hb hk => by
    have hgd : ((igFl who cl).I (igPM P)).Good (igPM P) := Fl.good (ig_laws who P T G cl hp hT)
    cases t with
    | need q => exact hgd.keep he hb hk
    | cnt q => exact hgd.keep he hb hk
    | rel q r => exact hgd.keep he hb hk
    | run q s =>
      have he' : (if ((wsPM P T q.obs true false).ax s).isSome = true then (igFl who cl).I (igPM P) w (es.getD 0 0) q Le else ∃ L1 L2, Le = L1 ++ L2 ∧ (igFl who cl).I (igPM P) w (es.getD 0 0) q L1 ∧ (wsCp who P T G q.obs true false cl).I w (es.getD 1 0) s L2) := he
      show (if ((wsPM P T q.obs true false).ax s).isSome = true then (igFl who cl).I (igPM P) w' (es.getD 0 0) q Le else ∃ L1 L2, Le = L1 ++ L2 ∧ (igFl who cl).I (igPM P) w' (es.getD 0 0) q L1 ∧ (wsCp who P T G q.obs true false cl).I w' (es.getD 1 0) s L2)
      split at he'
      · rename_i h; rw [if_pos h]; exact hgd.keep he' hb hk
      · rename_i h; rw [if_neg h]
        obtain ⟨L1, L2, rfl, h1, h2⟩ := he'
        exact ⟨L1, L2, rfl, hgd.keep h1 hb (fun k h => hk k (List.mem_append_left _ h)), (Cp.good (ws_laws hw hp hT)).keep h2 hb (fun k h => hk k (List.mem_append_right _ h))⟩
    | _ => exact he
  elt := fun t es w Le he k hk => by
    have hgd : ((igFl who cl).I (igPM P)).Good (igPM P) := Fl.good (ig_laws who P T G cl hp hT)
    cases t with
    | need q => exact hgd.lt he k hk
    | cnt q => exact hgd.lt he k hk
    | rel q r => exact hgd.lt he k hk
    | run q s =>
      have he' : (if ((wsPM P T q.obs true false).ax s).isSome = true then (igFl who cl).I (igPM P) w (es.getD 0 0) q Le else ∃ L1 L2, Le = L1 ++ L2 ∧ (igFl who cl).I (igPM P) w (es.getD 0 0) q L1 ∧ (wsCp who P T G q.obs true false cl).I w (es.getD 1 0) s L2) := he
      split at he'
      · exact hgd.lt he' k hk
      · obtain ⟨L1, L2, rfl, h1, h2⟩ := he'
        rcases List.mem_append.1 hk with h | h
        · exact hgd.lt h1 k h
        · exact (Cp.good (ws_laws hw hp hT)).lt h2 k h
    | ld => rw [show Le = [] from he] at hk; cases hk
    | sw => rw [show Le = [] from he] at hk; cases hk
    | no => rw [show Le = [] from he] at hk; cases hk
    | acq a => rw [show Le = [] from he] at hk; cases hk
    | get q => rw [show Le = [] from he] at hk; cases hk
  fol := fun W x t a f v es Le hok hk hv hB he hxe hR hxR => by
    have hgd : ((igFl who cl).I (igPM P)).Good (igPM P) := Fl.good (ig_laws who P T G cl hp hT)
    have hlt := hB.lt
    have hnm : ∀ k ∈ Le, k ∉ [x] := fun k hk => ws_notmem hxe hk
    cases t with
    | ld =>
      cases hk
      obtain rfl : Le = [] := he
      by_cases h0 : v = 0
      · subst h0
        refine (ww_look_yes W x cl who false none none none hB).mono ?_
        rintro e w' ⟨hu, hC⟩
        exact ⟨hu, ww_land_acc (t := .sw) (es := es) (Le' := []) hC trivial rfl hlt rfl hxe (fun k hk => by cases hk)⟩
      · have e : (wwPM P T who).nx .ld v = .no := if_neg h0
        rw [e]
        refine (ww_look_no W x v h0).mono ?_
        rintro e w' ⟨hu, rfl⟩
        exact ⟨hu, ww_land_over (t := .no) (es := es) (Le' := []) hB (But.refl _ _) trivial rfl rfl hxe (fun k hk => hk)⟩
    | sw =>
      cases hk
      obtain rfl : Le = [] := he
      by_cases h0 : v = 0
      · subst h0
        refine (ww_acquire_no W x).mono ?_
        rintro e w' ⟨hu, rfl⟩
        exact ⟨hu, ww_land_over (t := .no) (es := es) (Le' := []) hB (But.refl _ _) trivial rfl rfl hxe (fun k hk => hk)⟩
      · have e : (wwPM P T who).nx .sw v = .acq .fresh := if_neg h0
        rw [e]
        show Calls Tryz.prog _ #[_, .bool (decide (v ≠ 0))] _ _
        rw [decide_eq_true h0]
        refine (ww_acquire_yes W x cl who false none none none hB).mono ?_
        rintro e w' ⟨hu, hC⟩
        exact ⟨hu, ww_land_run (S := (acqSub (wd 0 2 3 0 0) (wd 0 2 3 0 1) (wd 0 2 3 0 2) who)) (af := .fn 251) (pt := AcqT.fresh) (t := .acq .fresh) (es := es) (Le' := []) (hC hw) rfl rfl (fun _ => trivial) hlt rfl hxe (fun k hk => by cases hk)⟩
    | need q =>
      cases hk
      have he' : (igFl who cl).I (igPM P) W (es.getD 0 0) q Le := he
      refine (ww_giveUp W x cl who true (some ⟨es.getD 0 0, 0, none⟩) none none hB).mono ?_
      rintro e w' ⟨hu, hC⟩
      exact ⟨hu, ww_land_acc (t := .cnt q) (es := es) (Le' := Le) hC trivial rfl hlt (hgd.keep he' hC.but hnm) hxe (fun k hk => ⟨hk, hgd.lt he' k hk⟩)⟩
    | cnt q =>
      cases hk
      have he' : (igFl who cl).I (igPM P) W (es.getD 0 0) q Le := he
      refine (ww_counted W x cl who true (some ⟨es.getD 0 0, 0, none⟩) none none hB v).mono ?_
      rintro e w' ⟨hu, hC⟩
      exact ⟨hu, ww_land_run (S := (relSub (wd 0 2 3 0 1) (wd 0 2 3 0 2) who)) (af := .nil) (pt := RelT.fresh) (t := .rel q .fresh) (es := es) (Le' := Le) hC trivial rfl (fun _ => trivial) hlt (hgd.keep he' hC.but hnm) hxe (fun k hk => ⟨hk, hgd.lt he' k hk⟩)⟩
    | rel q r => cases r <;> cases hk
    | run q s =>
      by_cases h : ((wsPM P T q.obs true false).ax s).isSome = true
      · rw [ww_kind_at h] at hk; cases hk
      · have e : (wwCp who P T G cl).kind (.run q s) = .over := if_neg h
        rw [e] at hk; cases hk
    | no => cases hk
    | acq a => cases hk
    | get q => cases hk
  aft := fun W x y t S q af v es Le Li hok hk hv hn hB hin hty he hxe hxi hd hR hxR => by
    have hgd : ((igFl who cl).I (igPM P)).Good (igPM P) := Fl.good (ig_laws who P T G cl hp hT)
    have hlt := hB.lt
    have hnm : ∀ k ∈ Le, k ∉ [x] := fun k hk => ws_notmem hxe hk
    have hni : ∀ k ∈ Li, k ∉ [x] := fun k hk => ws_notmem hxi hk
    cases t with
    | acq a =>
      cases hk
      obtain rfl : Le = [] := he
      have e : (wwPM P T who).nx (.acq a) v = .get .ld := if_neg (by rw [show (acqPM (wd 0 2 3 0 0) (wd 0 2 3 0 1) (wd 0 2 3 0 2) who).ax ((acqPM (wd 0 2 3 0 0) (wd 0 2 3 0 1) (wd 0 2 3 0 2) who).nx a v) = none from hn]; simp)
      rw [e]
      refine (ww_get W x cl who true none none none hB P T G hp hT).mono ?_
      rintro e w' ⟨hu, y1, q1, b, L, hC, hI, hL, hq, hg⟩
      exact ⟨hu, ww_land_run0 (S := igSub who P T G cl) (af := .fn 269) (pt := IgT.ld) (t := .get .ld) (es := [y1]) (Le' := []) hC hI hL hq hg ⟨rfl, by decide, trivial⟩ rfl rfl hlt rfl (by simp) (fun k hk => by cases hk)⟩
    | get q =>
      cases hk
      obtain rfl : Le = [] := he
      obtain rfl : es.getD 0 0 = y := hty
      have hin' : (igFl who cl).I (igPM P) W (es.getD 0 0) ((igPM P).nx q v) Li := hin
      have hn' : ¬ ((igPM P).ax ((igPM P).nx q v)).isSome = true := by rw [show (igPM P).ax ((igPM P).nx q v) = none from hn]; simp
      by_cases h0 : ((igPM P).nx q v).obs = -1
      · have e : (wwPM P T who).nx (.get q) v = .need ((igPM P).nx q v) := (if_neg hn').trans (if_pos h0)
        rw [e]
        have hT1 := ig_got hin'
        rw [h0] at hT1
        refine (ww_begin_none W x cl who true _ none none hB (es.getD 0 0) rfl hT1).mono ?_
        rintro e w' ⟨hu, hC⟩
        exact ⟨hu, ww_land_acc (t := .need ((igPM P).nx q v)) (es := es) (Le' := Li) hC trivial rfl hlt (hgd.keep hin' hC.but hni) hxi (fun k hk => ⟨List.mem_append_left _ hk, hgd.lt hin' k hk⟩)⟩
      · have e : (wwPM P T who).nx (.get q) v = .run ((igPM P).nx q v) (.get .ld) := (if_neg hn').trans (if_neg h0)
        rw [e]
        refine (ww_begin_some W x cl who true _ none none hB (es.getD 0 0) ((igPM P).nx q v).obs P T G rfl h0 (fun Y hY => ig_got (hgd.keep hin' hY hni)) hw hp hT).mono ?_
        rintro e w' ⟨hu, y1, q1, b, L, hC, hI, hL, hq, hg⟩
        exact ⟨hu, ww_land_run0 (S := wsSub who P T G ((igPM P).nx q v).obs cl) (af := .nil) (pt := WsT.get .ld) (t := .run ((igPM P).nx q v) (.get .ld)) (es := [es.getD 0 0, y1]) (Le' := Li) hC hI hL hq hg ⟨rfl, trivial⟩ rfl rfl hlt (hgd.keep hin' hC.at'.but hni) hxi (fun k hk => ⟨List.mem_append_left _ hk, hgd.lt hin' k hk⟩)⟩
    | rel q r =>
      cases r with
      | over => cases hk
      | fresh => cases hk; cases hn
      | pass =>
        cases hk
        exact ww_land_over (t := .rel q .over) (es := es) (Le' := Le) hB (But.refl _ _) trivial rfl he hxe (fun k hk => List.mem_append_right _ hk)
    | run q s =>
      have h1 := ww_kind_run hk
      rw [ww_kind_at h1] at hk
      cases hk
      obtain rfl : es.getD 1 0 = y := hty
      have hn1 : (wsPM P T q.obs true false).ax ((wsPM P T q.obs true false).nx s v) = none := hn
      have hn' : ¬ ((wsPM P T q.obs true false).ax ((wsPM P T q.obs true false).nx s v)).isSome = true := by rw [hn1]; simp
      have he' : (if ((wsPM P T q.obs true false).ax s).isSome = true then (igFl who cl).I (igPM P) W (es.getD 0 0) q Le else ∃ L1 L2, Le = L1 ++ L2 ∧ (igFl who cl).I (igPM P) W (es.getD 0 0) q L1 ∧ (wsCp who P T G q.obs true false cl).I W (es.getD 1 0) s L2) := he
      rw [if_pos h1] at he'
      obtain ⟨a, ha⟩ := Option.isSome_iff_exists.1 h1
      have hin' : (wsCp who P T G q.obs true false cl).I W (es.getD 1 0) ((wsPM P T q.obs true false).nx s v) Li := hin
      refine ww_land_over (t := .run q ((wsPM P T q.obs true false).nx s v)) (es := es) (Le' := Le ++ Li) hB (But.refl _ _) (ws_ok_next (G := G) hp hT hok ha hv) (if_neg hn') ?_ (fun hm => (List.mem_append.1 hm).elim hxe hxi) (fun k hk => (List.mem_append.1 hk).elim (fun h => List.mem_append_right _ h) (fun h => List.mem_append_left _ h))
      show (if ((wsPM P T q.obs true false).ax ((wsPM P T q.obs true false).nx s v)).isSome = true then (igFl who cl).I (igPM P) W (es.getD 0 0) q (Le ++ Li) else ∃ L1 L2, Le ++ Li = L1 ++ L2 ∧ (igFl who cl).I (igPM P) W (es.getD 0 0) q L1 ∧ (wsCp who P T G q.obs true false cl).I W (es.getD 1 0) ((wsPM P T q.obs true false).nx s v) L2)
      rw [if_neg hn']
      exact ⟨Le, Li, rfl, he', hin'⟩
    | ld => cases hk
    | sw => cases hk
    | no => cases hk
    | need q => cases hk
    | cnt q => cases hk

variable {w : World} {x : Nat} {t : WwT} {L : List Nat}
theorem ww_blk {es Le : List Nat} (h : (wwCp who P T G cl).Here w x t es Le L ((wwCp who P T G cl).kind t)) : ∃ nx, Blk w x (wwAt who cl t es nx) 200 := by
  cases hk : (wwCp who P T G cl).kind t with
  | over => rw [hk] at h; exact ⟨none, h.1⟩
  | acc a f => rw [hk] at h; obtain ⟨q, Lc, h1, -⟩ := h; exact ⟨_, h1⟩
  | run S q af => rw [hk] at h; obtain ⟨q1, y, g, Li, h1, -⟩ := h; exact ⟨_, h1.hx⟩
/-- The processor in its hand. -/
theorem ww_tells_P (h : (wwCp who P T G cl).I w x t L) :
    Calls Tryz.prog 82 #[.pointer (some ⟨x, 0, none⟩)] w fun e w' => e = .returned (.int .i64 t.holds) ∧ w = w' := by
  obtain ⟨-, es, Le, he, hxe, hH⟩ := h
  obtain ⟨nx, hB⟩ := ww_blk hH
  cases t with
  | ld => exact ww_holds_proc w x cl who false none none nx hB (-1) rfl (iget_p_nil w)
  | sw => exact ww_holds_proc w x cl who false none none nx hB (-1) rfl (iget_p_nil w)
  | no => exact ww_holds_proc w x cl who false none none nx hB (-1) rfl (iget_p_nil w)
  | acq a => exact ww_holds_proc w x cl who true none none nx hB (-1) rfl (iget_p_nil w)
  | get q =>
    obtain ⟨q1, y, g, Li, h1, h2, h3, -⟩ := hH
    obtain rfl : es.getD 0 0 = y := h3
    exact ww_holds_proc w x cl who true (some ⟨es.getD 0 0, 0, none⟩) none nx hB _ rfl (ig_got h2)
  | need q => exact ww_holds_proc w x cl who true (some ⟨es.getD 0 0, 0, none⟩) none nx hB _ rfl (ig_got he)
  | cnt q => exact ww_holds_proc w x cl who true (some ⟨es.getD 0 0, 0, none⟩) none nx hB _ rfl (ig_got he)
  | rel q r => exact ww_holds_proc w x cl who false (some ⟨es.getD 0 0, 0, none⟩) none nx hB _ rfl (ig_got he)
  | run q s =>
    have hS : ∃ L2, (wsCp who P T G q.obs true false cl).I w (es.getD 1 0) s L2 := by
      by_cases h : ((wsPM P T q.obs true false).ax s).isSome = true
      · rw [ww_kind_at h] at hH
        obtain ⟨q1, y, g, Li, h1, h2, h3, -⟩ := hH
        obtain rfl : es.getD 1 0 = y := h3
        exact ⟨Li, h2⟩
      · have he' : (if ((wsPM P T q.obs true false).ax s).isSome = true then (igFl who cl).I (igPM P) w (es.getD 0 0) q Le else ∃ L1 L2, Le = L1 ++ L2 ∧ (igFl who cl).I (igPM P) w (es.getD 0 0) q L1 ∧ (wsCp who P T G q.obs true false cl).I w (es.getD 1 0) s L2) := he
        rw [if_neg h] at he'
        obtain ⟨L1, L2, -, -, h2⟩ := he'
        exact ⟨L2, h2⟩
    obtain ⟨L2, hS⟩ := hS
    exact ww_holds_start w x cl who false (some ⟨es.getD 0 0, 0, none⟩) (some ⟨es.getD 1 0, 0, none⟩) nx hB (es.getD 1 0) _ rfl (ws_tells_P hS)
/-- Whether it counts by itself. -/
theorem ww_tells_C (h : (wwCp who P T G cl).I w x t L) :
    Calls Tryz.prog 83 #[.pointer (some ⟨x, 0, none⟩)] w fun e w' => e = .returned (.bool t.counts) ∧ w = w' := by
  obtain ⟨-, es, Le, he, hxe, hH⟩ := h
  obtain ⟨nx, hB⟩ := ww_blk hH
  exact ww_counts w x cl who t.counts _ _ nx hB
end
theorem ww_new_at (w : World) (cl : Nat) (who P T G : Int) :
    Calls Tryz.prog 198 #[.pointer (some ⟨cl, 0, none⟩), .int .i64 who] w fun e w' => ∃ x L, e = .returned (.pointer (some ⟨x, 0, none⟩)) ∧ (wwCp who P T G cl).I w' x .ld L ∧ Below w.heap.size w w' ∧ (∀ k ∈ L, w.heap.size ≤ k) ∧ w.heap.size ≤ x := by
  refine (ww_new w cl who).mono ?_
  rintro e w' ⟨x, q, L, rfl, hB, hC, hxL, hL, hBl, hx⟩
  refine ⟨x, x :: (L ++ []), rfl, ⟨trivial, [], [], rfl, by simp, q, L, hB, hC, hxL, (fun k _ h => by cases h), rfl⟩, hBl, fun k hk => ?_, hx⟩
  simp at hk
  rcases hk with rfl | hk
  · exact hx
  · exact hL k hk
end Go.Proofs.YtfdpikkinlljlaaGreat
