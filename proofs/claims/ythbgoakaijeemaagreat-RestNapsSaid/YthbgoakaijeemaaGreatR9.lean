/- The document's count, nap and rest, by themselves. -/
import Derived.Test.YthbgoakaijeemaaGreatR8
import Derived.Test.YthbgoakaijeemaaGreatR5
import Derived.Test.YthbgoakaijeemaaGreatRB
namespace Go.Proofs.YthbgoakaijeemaaGreat
open Go Go.RowKit
set_option linter.unusedVariables false
set_option maxRecDepth 100000
set_option linter.unusedSimpArgs false

/-- The same, without a hand yet. -/
structure RzAt {σ : Type} (w y : World) (x : Nat) (A : Option Addr) (cap m : Nat) (g : Nat → Int) (M : PM σ) (s0 : σ) (j0 j : Nat) (t : σ) (Q : σ → Prop) (cf : Array Value) (HTy : TypeId) (z : Array Value) : Prop where
  run : RunOn y x A cap m g (M.rj s0 g m j)
  syn : Syn M s0 g m j t Q
  but : But [x] w y
  cfg : Blk y w.heap.size cf 23
  res : Blk y (w.heap.size + 1) z HTy
  x : x < w.heap.size
  far : GotFar A [w.heap.size + 1]
  le : j0 ≤ j
section
variable {σ : Type} {w y : World} {x : Nat} {A : Option Addr} {cap m : Nat} {g : Nat → Int} {M : PM σ} {s0 : σ} {j0 j : Nat} {t : σ} {Q : σ → Prop} {cf : Array Value} {HTy : TypeId} {z : Array Value} (h : RzAt w y x A cap m g M s0 j0 j t Q cf HTy z)
include h
theorem RzAt.go {y2 : World} {j2 : Nat} {t2 : σ} {Q2 : σ → Prop} (hR : RunOn y2 x A cap m g (M.rj s0 g m j2)) (hS : Syn M s0 g m j2 t2 Q2) (hB : But [x] y y2) (hj : j ≤ j2) : RzAt w y2 x A cap m g M s0 j0 j2 t2 Q2 cf HTy z := by
  have hx := h.x
  exact ⟨hR, hS, h.but.trans hB, h.cfg.but hB (by simp; omega), h.res.but hB (by simp; omega), hx, h.far, Nat.le_trans h.le hj⟩
theorem RzAt.low {Y : World} (hY : Below y.heap.size y Y) : RzAt w Y x A cap m g M s0 j0 j t Q cf HTy z :=
  ⟨h.run.below hY, h.syn, h.but.trans (But.of_below hY), h.cfg.but (But.of_below (l := []) hY) (by simp), h.res.but (But.of_below (l := []) hY) (by simp), h.x, h.far, h.le⟩
theorem RzAt.as {t2 : σ} {Q2 : σ → Prop} (hS : Syn M s0 g m j t2 Q2) : RzAt w y x A cap m g M s0 j0 j t2 Q2 cf HTy z :=
  ⟨h.run, hS, h.but, h.cfg, h.res, h.x, h.far, h.le⟩
/-- An access: what is so behind it. -/
theorem RzAt.step {y2 : World} {v : Int} (hK : Kept' y y2 x A cap m g M s0 j t Q v) : RzAt w y2 x A cap m g M s0 j0 (j + 1) (M.nx t v) (fun r => r = t ∨ Q r) cf HTy z :=
  h.go hK.run hK.syn hK.but (Nat.le_succ _)
theorem RzAt.stop : y.cell? ⟨x, 2, none⟩ = some (.bool (decide (m < j))) := by
  have := h.run.blk.cell 2 (v := .bool (M.rj s0 g m j).stop) rfl
  rw [rj_stop h.syn] at this
  exact this
/-- The result is laid. -/
theorem RzAt.ret {a b c : Value} {z0 z1 z2 : Value} (hz : z = #[z0, z1, z2]) : RunOn (((y.setCell ⟨w.heap.size + 1, 0, none⟩ a).setCell ⟨w.heap.size + 1, 1, none⟩ b).setCell ⟨w.heap.size + 1, 2, none⟩ c) x A cap m g (M.rj s0 g m j) ∧ But [x] w (((y.setCell ⟨w.heap.size + 1, 0, none⟩ a).setCell ⟨w.heap.size + 1, 1, none⟩ b).setCell ⟨w.heap.size + 1, 2, none⟩ c) ∧ (((y.setCell ⟨w.heap.size + 1, 0, none⟩ a).setCell ⟨w.heap.size + 1, 1, none⟩ b).setCell ⟨w.heap.size + 1, 2, none⟩ c).heap[w.heap.size + 1]? = some (.cells #[a, b, c] HTy (0, 0)) := by
  subst hz
  have hx := h.x
  have hU : But [w.heap.size + 1] y (((y.setCell ⟨w.heap.size + 1, 0, none⟩ a).setCell ⟨w.heap.size + 1, 1, none⟩ b).setCell ⟨w.heap.size + 1, 2, none⟩ c) := (((But.refl _ y).set (g := w.heap.size + 1) (.inl (by simp)) 0 _).set (g := w.heap.size + 1) (.inl (by simp)) 1 _).set (g := w.heap.size + 1) (.inl (by simp)) 2 _
  have hZ := ((h.res.set 0 a).set 1 b).set 2 c
  exact ⟨h.run.but hU (by simp; omega) h.far, But.lowk h.but hU (by omega), hZ.heap⟩
theorem RzAt.hand (oc : Array Value) (hR : Below y.heap.size y (y.alloc (.cells oc HTy))) : HdAt w (y.alloc (.cells oc HTy)) x A cap m g M s0 j0 j t Q cf HTy z y.heap.size oc := by
  have h1 := h.res.lt
  have hx := h.x
  refine ⟨h.run.below hR, h.syn, h.but.trans (But.of_below hR), h.cfg.but (But.of_below (l := []) hR) (by simp), h.res.but (But.of_below (l := []) hR) (by simp), Blk.new _ _ _, h1, hx, fun b e hm => ?_, h.le⟩
  simp at hm
  rcases h.run.got.form with ⟨e0, _⟩ | ⟨gb, e0, hl⟩
  · rw [e0] at e; cases e
  · have := h.far b e
    rw [e0] at e
    cases e
    rcases hm with hm | hm
    · exact this (by simp [hm])
    · omega
end
section
variable {σ : Type} {M : PM σ} {P T t : Int} {emb : ReT → σ}
def reA (emb : ReT → σ) : AcqT → σ
  | .over _ => emb .ld
  | a => emb (.acq a)
theorem re_acqIn (hE : PmIn M (rePM P T t) emb) : AcqIn M 0 t (reA emb) := by
  refine ⟨hE.ax (.acq .fresh) _ rfl, fun u => hE.ax (.acq (.wait u)) _ rfl, fun u => hE.ax (.acq (.has u)) _ rfl, fun v => hE.nx (.acq .fresh) _ v rfl, ?_, fun u v => hE.nx (.acq (.has u)) _ v rfl⟩
  intro u v
  refine (hE.nx (.acq (.wait u)) _ v rfl).trans ?_
  by_cases h : v = u
  · subst h
    have e : (acqPM (wd 0 2 3 0 0) (wd 0 2 3 0 1) (wd 0 2 3 0 2) t).nx (.wait v) v = .has v := if_pos rfl
    show emb (if ((acqPM (wd 0 2 3 0 0) (wd 0 2 3 0 1) (wd 0 2 3 0 2) t).ax ((acqPM (wd 0 2 3 0 0) (wd 0 2 3 0 1) (wd 0 2 3 0 2) t).nx (.wait v) v)).isSome = true then .acq ((acqPM (wd 0 2 3 0 0) (wd 0 2 3 0 1) (wd 0 2 3 0 2) t).nx (.wait v) v) else .ld) = _
    rw [e, if_pos rfl]
    rfl
  · have e : (acqPM (wd 0 2 3 0 0) (wd 0 2 3 0 1) (wd 0 2 3 0 2) t).nx (.wait u) v = .wait u := if_neg h
    show emb (if ((acqPM (wd 0 2 3 0 0) (wd 0 2 3 0 1) (wd 0 2 3 0 2) t).ax ((acqPM (wd 0 2 3 0 0) (wd 0 2 3 0 1) (wd 0 2 3 0 2) t).nx (.wait u) v)).isSome = true then .acq ((acqPM (wd 0 2 3 0 0) (wd 0 2 3 0 1) (wd 0 2 3 0 2) t).nx (.wait u) v) else .ld) = _
    rw [e, if_neg h]
    rfl
theorem re_ig_live {q : IgT} : ((igPM P).ax q).isSome = q.live := by cases q <;> rfl
def reG (emb : ReT → σ) (q : IgT) : σ := if q.live = true then emb (.get q) else if q.obs = -1 then emb (.lie (some q) .h0) else emb (.spn q .ad)
theorem re_igIn (hE : PmIn M (rePM P T t) emb) : IgIn M P (reG emb) := by
  have key : ∀ q a v, (igPM P).ax q = some a → M.nx (reG emb q) v = reG emb ((igPM P).nx q v) := fun q a v h => by
    have hl : q.live = true := by rw [← re_ig_live (P := P), h]; rfl
    have e1 : reG emb q = emb (.get q) := if_pos hl
    rw [e1, hE.nx (.get q) a v h]
    show emb (if ((igPM P).ax ((igPM P).nx q v)).isSome = true then .get ((igPM P).nx q v) else if ((igPM P).nx q v).obs = -1 then .lie (some ((igPM P).nx q v)) .h0 else .spn ((igPM P).nx q v) .ad) = reG emb ((igPM P).nx q v)
    unfold reG
    rw [re_ig_live]
    split
    · rfl
    · split <;> rfl
  exact ⟨hE.ax (.get .ld) _ rfl, fun y => hE.ax (.get (.lk y)) _ rfl, fun y l => hE.ax (.get (.ms y l)) _ rfl, fun y l w => hE.ax (.get (.um y l w)) _ rfl, fun y l => hE.ax (.get (.un y l)) _ rfl, fun y l => hE.ax (.get (.ct y l)) _ rfl,
    fun v => (key .ld _ v rfl).trans (by show reG emb (if v = 0 then .none' else .lk (gw v)) = _; split <;> rfl), fun y v => key (.lk y) _ v rfl, fun y l v => key (.ms y l) _ v rfl, fun y l w v => key (.um y l w) _ v rfl, fun y l v => key (.un y l) _ v rfl, fun y l v => key (.ct y l) _ v rfl⟩
def reSp (emb : ReT → σ) (q : IgT) : SpT → σ
  | .over => emb (.rel1 q .fresh)
  | s => emb (.spn q s)
theorem re_spIn (hE : PmIn M (rePM P T t) emb) (q : IgT) : PmIn M spPM (reSp emb q) := by
  refine ⟨fun s a h => ?_, fun s a v h => ?_⟩
  · cases s with
    | over => cases h
    | ad => exact hE.ax (.spn q .ad) a h
    | st => exact hE.ax (.spn q .st) a h
  · cases s with
    | over => cases h
    | ad => exact hE.nx (.spn q .ad) a v h
    | st => exact hE.nx (.spn q .st) a v h
def reR1 (emb : ReT → σ) (q : IgT) : RelT → σ
  | .over => emb (.run q)
  | r => emb (.rel1 q r)
theorem re_relIn1 (hE : PmIn M (rePM P T t) emb) (q : IgT) : RelIn M 0 (reR1 emb q) :=
  ⟨hE.ax (.rel1 q .fresh) _ rfl, hE.ax (.rel1 q .pass) _ rfl, fun v => hE.nx (.rel1 q .fresh) _ v rfl, fun v => hE.nx (.rel1 q .pass) _ v rfl⟩
def reIm (emb : ReT → σ) (q : Option IgT) : ImT → σ
  | .over => emb (.rel2 q .fresh)
  | m => emb (.lie q m)
theorem re_imIn (hE : PmIn M (rePM P T t) emb) (q : Option IgT) : PmIn M (imPM P T t) (reIm emb q) := by
  refine ⟨fun s a h => ?_, fun s a v h => ?_⟩
  · cases s with
    | over => cases h
    | h0 => exact hE.ax (.lie q .h0) a h
    | ln u => exact hE.ax (.lie q (.ln u)) a h
    | st => exact hE.ax (.lie q .st) a h
    | ct => exact hE.ax (.lie q .ct) a h
  · cases s with
    | over => cases h
    | h0 => exact hE.nx (.lie q .h0) a v h
    | ln u => exact hE.nx (.lie q (.ln u)) a v h
    | st => exact hE.nx (.lie q .st) a v h
    | ct => exact hE.nx (.lie q .ct) a v h
def reR2 (emb : ReT → σ) (q : Option IgT) : RelT → σ
  | .over => emb (.nap q (.slp .s1))
  | r => emb (.rel2 q r)
theorem re_relIn2 (hE : PmIn M (rePM P T t) emb) (q : Option IgT) : RelIn M 0 (reR2 emb q) :=
  ⟨hE.ax (.rel2 q .fresh) _ rfl, hE.ax (.rel2 q .pass) _ rfl, fun v => hE.nx (.rel2 q .fresh) _ v rfl, fun v => hE.nx (.rel2 q .pass) _ v rfl⟩
def reN (emb : ReT → σ) (q : Option IgT) (n : NaT) : σ := emb (.nap q n)
theorem re_naIn (hE : PmIn M (rePM P T t) emb) (q : Option IgT) : PmIn M (naPM P T t) (reN emb q) := ⟨fun n a h => hE.ax (.nap q n) a h, fun n a v h => hE.nx (.nap q n) a v h⟩
end
/-- Where it stopped, and what it answered. -/
def ReQ {σ : Type} (Q : σ → Prop) (emb : ReT → σ) (P T t : Int) (p' : Int) (c' : Bool) (q : σ) : Prop := (Q q ∧ p' = -1 ∧ c' = false) ∨ ∃ s a, (rePM P T t).ax s = some a ∧ q = emb s ∧ p' = s.p ∧ c' = s.spins
def ReGot {σ : Type} (M : PM σ) (emb : ReT → σ) (P T t : Int) (w : World) (x : Nat) (A : Option Addr) (cap m : Nat) (g : Nat → Int) (s0 : σ) (Q : σ → Prop) (j : Nat) (e : Ending) (w' : World) : Prop :=
  ∃ p' c' b' j' s, e = .returned (.agg #[.int .i64 p', .bool c', .bool b']) ∧ RunOn w' x A cap m g (M.rj s0 g m j') ∧ Syn M s0 g m j' (emb s) (ReQ Q emb P T t p' c') ∧ (rePM P T t).ax s = none ∧ (j' ≤ m → p' = s.p ∧ c' = s.spins) ∧ But [x] w w' ∧ j ≤ j'
set_option maxHeartbeats 8000000 in
theorem syn_rest {σ : Type} {M : PM σ} {P T G t : Int} {emb : ReT → σ} (hE : PmIn M (rePM P T t) emb) (hp : 0 ≤ P ∧ P ≤ 64) (hT : 0 ≤ T ∧ T ≤ 65536) (hw : 0 ≤ t ∧ t ≤ 300)
    {w : World} {x : Nat} {A : Option Addr} {cap m : Nat} {g : Nat → Int} {s0 : σ} {j : Nat} {Q : σ → Prop} (hR : RunOn w x A cap m g (M.rj s0 g m j)) (hS : Syn M s0 g m j (emb (.acq .fresh)) Q) (hb : ∀ j, j < m → 0 ≤ g j ∧ g j ≤ 18446744073709551615) :
    Calls Tryz.prog 59 #[.pointer (some ⟨x, 0, none⟩), .agg #[.int .i64 P, .int .i64 T, .int .i64 G] , .int .i64 t] w fun e w' => ReGot M emb P T t w x A cap m g s0 Q j e w' := by
  have hxw := hR.blk.lt
  have HH : Hid (RzAt w ((w.alloc (.cells #[.int .i64 P, .int .i64 T, .int .i64 G] 23)).alloc (.cells #[.int .i64 0, .bool false, .bool false] 84)) x A cap m g M s0 j j (reA emb .fresh) (Q) #[.int .i64 P, .int .i64 T, .int .i64 G] 84 #[.int .i64 0, .bool false, .bool false] ) := by
    have b1 : Below w.heap.size w (w.alloc (.cells #[.int .i64 P, .int .i64 T, .int .i64 G] 23)) := (Below.refl _ _).alloc (Nat.le_refl _) _
    have b2 : Below w.heap.size w ((w.alloc (.cells #[.int .i64 P, .int .i64 T, .int .i64 G] 23)).alloc (.cells #[.int .i64 0, .bool false, .bool false] 84)) := b1.alloc (by rw [World.size_alloc]; omega) _
    have c1 := Blk.new w #[.int .i64 P, .int .i64 T, .int .i64 G] 23
    have c2 := Blk.new (w.alloc (.cells #[.int .i64 P, .int .i64 T, .int .i64 G] 23)) #[.int .i64 0, .bool false, .bool false] 84
    rw [World.size_alloc] at c2
    refine ⟨hR.below b2, hS, But.of_below b2, c1.al _, c2, hxw, fun b e hm => ?_, Nat.le_refl _⟩
    simp at hm
    rcases hR.got.form with ⟨e0, _⟩ | ⟨gb, e0, hl⟩
    · rw [e0] at e; cases e
    · rw [e0] at e; cases e; omega
  have HE : Hid (PmIn M (rePM P T t) emb) := hE
  have HBD : Hid (∀ j, j < m → 0 ≤ g j ∧ g j ≤ 18446744073709551615) := hb
  have HP : Hid ((0 ≤ P ∧ P ≤ 64) ∧ (0 ≤ T ∧ T ≤ 65536) ∧ (0 ≤ t ∧ t ≤ 300)) := ⟨hp, hT, hw⟩
  have hAc := syn_acquire (re_acqIn hE) (by omega) hw HH.out.run HH.out.syn hb
  clear hR hS hb hp hT hw hE
  go_enter Tryz.func59, Tryz.ntmps59
  go_wp2_with fail
  generalize ((w.alloc (.cells #[.int .i64 P, .int .i64 T, .int .i64 G] 23)).alloc (.cells #[.int .i64 0, .bool false, .bool false] 84)) = W at *
  go_at_call 96; refine hAc.mono ?_; rintro e y1 ⟨⟨u, rfl⟩, j1, tt, hR1, hS1, hB1, hj1⟩
  have HH1 : Hid (RzAt w y1 x A cap m g M s0 j j1 (emb .ld) (ReQ Q emb P T t (-1) false) #[.int .i64 P, .int .i64 T, .int .i64 G] 84 #[.int .i64 0, .bool false, .bool false] ) := HH.out.go hR1 (hS1.weak (fun q' h => by
    rcases h with h | ⟨p', hp', h⟩
    · exact .inl ⟨h, rfl, rfl⟩
    · have hb : reA emb p' = emb (.acq p') := by cases p' <;> first | rfl | exact absurd rfl (hp' _)
      obtain ⟨a, ha⟩ : ∃ a, (rePM P T t).ax (.acq p') = some a := by cases p' <;> first | exact ⟨_, rfl⟩ | exact absurd rfl (hp' _)
      exact .inr ⟨.acq p', a, ha, h.trans hb, rfl, rfl⟩)) hB1 hj1
  have hL := syn_load HH1.out.run HH1.out.syn HBD.out 14 (fun _ => HE.out.ax .ld _ rfl)
  clear hAc hR1 hS1 hB1 hj1 HH
  go_wp2_with fail
  go_at_call 94; refine hL.mono ?_; rintro e y2 ⟨v, rfl, hK⟩
  have HH2 : Hid (RzAt w y2 x A cap m g M s0 j (j1 + 1) (emb (if v = 0 then .lie none .h0 else .get .ld)) (ReQ Q emb P T t (-1) false) #[.int .i64 P, .int .i64 T, .int .i64 G] 84 #[.int .i64 0, .bool false, .bool false] ) := by
    have h := HH1.out.step hK
    rw [HE.out.nx .ld _ _ rfl] at h
    exact h.as (h.syn.weak (fun q' h => h.elim (fun h => .inr ⟨.ld, _, rfl, h, rfl, rfl⟩) id))
  clear hL hK HH1
  have sc := HH2.out.stop
  by_cases hst : m < j1 + 1
  · rw [decide_eq_true hst] at sc
    have HST : Hid (m < j1 + 1) := hst
    have HH : Hid (RzAt w y2 x A cap m g M s0 j (j1 + 1) (emb (if v = 0 then .lie none .h0 else .get .ld)) (ReQ Q emb P T t (-1) false) #[.int .i64 P, .int .i64 T, .int .i64 G] 84 #[.int .i64 0, .bool false, .bool false] ) := HH2.out
    clear hst HH2
    have r0 := HH.out.res.cell 0 (v := .int .i64 0) rfl
    have r1 := HH.out.res.cell 1 (v := .bool false) rfl
    have r2 := HH.out.res.cell 2 (v := .bool false) rfl
    have f0 := HH.out.res.fro 0
    have f1 := HH.out.res.fro 1
    have f2 := HH.out.res.fro 2
    have HN : Hid _ := HH.out.ret (a := .int .i64 (-1)) (b := .bool false) (c := .bool false) rfl
    go_wp2_with fail
    generalize ((y2.setCell ⟨w.heap.size + 1, 0, none⟩ (.int .i64 (-1))).setCell ⟨w.heap.size + 1, 1, none⟩ (.bool false)).setCell ⟨w.heap.size + 1, 2, none⟩ (.bool false) = yz at *
    have hfr := HN.out.2.2
    refine bodyPost_ret (v := .agg #[.int .i64 (-1), .bool false, .bool false]) (results_cell_row rfl _ _ (w.heap.size + 1) 84 #[.int .i64 (-1), .bool false, .bool false] _ _ rfl hfr Tryz.underlying84 rfl (by kernel_rfl)) rfl ?_
    exact ⟨-1, false, false, j1 + 1, .done1 .none', rfl, HN.out.1, ⟨fun h => absurd h (by have := HST.out; omega), HH.out.syn.past⟩, rfl, fun h => absurd h (by have := HST.out; omega), HN.out.2.1, HH.out.le⟩
  · rw [decide_eq_false hst] at sc
    have HST : Hid (j1 + 1 ≤ m) := (by omega : j1 + 1 ≤ m)
    have k0 := HH2.out.cfg.cell 0 (v := .int .i64 P) rfl
    have k1 := HH2.out.cfg.cell 1 (v := .int .i64 T) rfl
    have k2 := HH2.out.cfg.cell 2 (v := .int .i64 G) rfl
    by_cases hv : v = 0
    · subst hv
      have HQ0 : Hid (igO none = -1) := rfl
      have HH3 : Hid (RzAt w y2 x A cap m g M s0 j (j1 + 1) (reIm emb none .h0) (fun _ => False) #[.int .i64 P, .int .i64 T, .int .i64 G] 84 #[.int .i64 0, .bool false, .bool false] ) := HH2.out.as ⟨HH2.out.syn.at', fun h => absurd h (by omega)⟩
      clear hst HH2
      have hIm := syn_imput (G := G) (re_imIn HE.out none) HP.out.1 HP.out.2.1 HH3.out.run HH3.out.syn HBD.out
      go_wp2_with fail
      go_at_call 115; refine hIm.mono ?_; rintro e z1 ⟨⟨u1, rfl⟩, i1, hR1, hS1, hB1, hi1⟩
      have HZ1 : Hid (RzAt w z1 x A cap m g M s0 j i1 (reIm emb none .over) (ReQ Q emb P T t (-1) false) #[.int .i64 P, .int .i64 T, .int .i64 G] 84 #[.int .i64 0, .bool false, .bool false] ) := HH3.out.go hR1 (hS1.weak (fun q' h => by
        rcases h with h | ⟨s, a, h1, h2⟩
        · exact h.elim
        · have hb : reIm emb none s = emb (.lie none s) := by cases s <;> first | rfl | cases h1
          exact .inr ⟨.lie none s, a, h1, h2.trans hb, HQ0.out.symm, rfl⟩)) hB1 hi1
      have hRl := syn_release (re_relIn2 HE.out none) (by omega) HZ1.out.run HZ1.out.syn HBD.out
      clear hIm hR1 hS1 hB1 hi1 HH3 k0 k1 k2 sc HST
      go_wp2_with fail
      go_at_call 81; refine hRl.mono ?_; rintro e z2 ⟨⟨u2, rfl⟩, i2, hR2, hS2, hB2, hi2⟩
      have HZ2 : Hid (RzAt w z2 x A cap m g M s0 j i2 (reR2 emb none .over) (ReQ Q emb P T t (-1) false) #[.int .i64 P, .int .i64 T, .int .i64 G] 84 #[.int .i64 0, .bool false, .bool false] ) := HZ1.out.go hR2 (hS2.weak (fun q' h => by
        rcases h with h | h | h
        · exact h
        · exact .inr ⟨.rel2 none .fresh, _, rfl, h, HQ0.out.symm, rfl⟩
        · exact .inr ⟨.rel2 none .pass, _, rfl, h, HQ0.out.symm, rfl⟩)) hB2 hi2
      clear hRl hR2 hS2 hB2 hi2 HZ1
      have sc := HZ2.out.stop
      by_cases hst : m < i2
      · rw [decide_eq_true hst] at sc
        have HST : Hid (m < i2) := hst
        have HH : Hid (RzAt w z2 x A cap m g M s0 j i2 (reR2 emb none .over) (ReQ Q emb P T t (-1) false) #[.int .i64 P, .int .i64 T, .int .i64 G] 84 #[.int .i64 0, .bool false, .bool false] ) := HZ2.out
        clear hst HZ2
        have r0 := HH.out.res.cell 0 (v := .int .i64 0) rfl
        have r1 := HH.out.res.cell 1 (v := .bool false) rfl
        have r2 := HH.out.res.cell 2 (v := .bool false) rfl
        have f0 := HH.out.res.fro 0
        have f1 := HH.out.res.fro 1
        have f2 := HH.out.res.fro 2
        have HN : Hid _ := HH.out.ret (a := .int .i64 (-1)) (b := .bool false) (c := .bool false) rfl
        go_wp2_with fail
        generalize ((z2.setCell ⟨w.heap.size + 1, 0, none⟩ (.int .i64 (-1))).setCell ⟨w.heap.size + 1, 1, none⟩ (.bool false)).setCell ⟨w.heap.size + 1, 2, none⟩ (.bool false) = yz at *
        have hfr := HN.out.2.2
        refine bodyPost_ret (v := .agg #[.int .i64 (-1), .bool false, .bool false]) (results_cell_row rfl _ _ (w.heap.size + 1) 84 #[.int .i64 (-1), .bool false, .bool false] _ _ rfl hfr Tryz.underlying84 rfl (by kernel_rfl)) rfl ?_
        exact ⟨-1, false, false, i2, .done1 .none', rfl, HN.out.1, ⟨fun h => absurd h (by have := HST.out; omega), HH.out.syn.past⟩, rfl, fun h => absurd h (by have := HST.out; omega), HN.out.2.1, HH.out.le⟩
      · rw [decide_eq_false hst] at sc
        have HST : Hid (i2 ≤ m) := (by omega : i2 ≤ m)
        have HZ3 : Hid (RzAt w z2 x A cap m g M s0 j i2 (reN emb none (.slp .s1)) (fun _ => False) #[.int .i64 P, .int .i64 T, .int .i64 G] 84 #[.int .i64 0, .bool false, .bool false] ) := HZ2.out.as ⟨HZ2.out.syn.at', fun h => absurd h (by omega)⟩
        have hNp := syn_nap (G := G) (re_naIn HE.out none) HP.out.1 HP.out.2.1 HZ3.out.run HZ3.out.syn HBD.out
        have k0 := HZ3.out.cfg.cell 0 (v := .int .i64 P) rfl
        have k1 := HZ3.out.cfg.cell 1 (v := .int .i64 T) rfl
        have k2 := HZ3.out.cfg.cell 2 (v := .int .i64 G) rfl
        clear hst HZ2
        go_wp2_with fail
        go_at_call 42; refine hNp.mono ?_; rintro e z3 ⟨p', c', i3, sf, rfl, q1, q2, q3, q4, q5, q6⟩
        have HF : Hid ((naPM P T t).ax sf = none ∧ (i3 ≤ m → p' = sf.p ∧ c' = sf.spins)) := ⟨q3, q4⟩
        have HH : Hid (RzAt w z3 x A cap m g M s0 j i3 (reN emb none sf) (ReQ Q emb P T t p' c') #[.int .i64 P, .int .i64 T, .int .i64 G] 84 #[.int .i64 0, .bool false, .bool false] ) := HZ3.out.go q1 (q2.weak (fun q' h => by
          rcases h with ⟨h, -⟩ | ⟨s, a, h1, h2, h3, h4⟩
          · exact h.elim
          · exact .inr ⟨.nap none s, a, h1, h2, h3, h4.trans (Bool.or_false _).symm⟩)) q5 q6
        clear hNp q1 q2 q3 q4 q5 q6 HZ3 k0 k1 k2
        have r0 := HH.out.res.cell 0 (v := .int .i64 0) rfl
        have r1 := HH.out.res.cell 1 (v := .bool false) rfl
        have r2 := HH.out.res.cell 2 (v := .bool false) rfl
        have f0 := HH.out.res.fro 0
        have f1 := HH.out.res.fro 1
        have f2 := HH.out.res.fro 2
        have HN : Hid _ := HH.out.ret (a := .int .i64 p') (b := .bool c') (c := .bool true) rfl
        go_wp2_with fail
        generalize ((z3.setCell ⟨w.heap.size + 1, 0, none⟩ (.int .i64 p')).setCell ⟨w.heap.size + 1, 1, none⟩ (.bool c')).setCell ⟨w.heap.size + 1, 2, none⟩ (.bool true) = yz at *
        have hfr := HN.out.2.2
        refine bodyPost_ret (v := .agg #[.int .i64 p', .bool c', .bool true]) (results_cell_row rfl _ _ (w.heap.size + 1) 84 #[.int .i64 p', .bool c', .bool true] _ _ rfl hfr Tryz.underlying84 rfl (by kernel_rfl)) rfl ?_
        exact ⟨p', c', true, i3, .nap none sf, rfl, HN.out.1, HH.out.syn, HF.out.1, fun h => ⟨(HF.out.2 h).1, (HF.out.2 h).2.trans (Bool.or_false _).symm⟩, HN.out.2.1, HH.out.le⟩
    · have hd : (v != 0) = true := by simpa using hv
      have HH3 : Hid (RzAt w y2 x A cap m g M s0 j (j1 + 1) (reG emb .ld) (fun _ => False) #[.int .i64 P, .int .i64 T, .int .i64 G] 84 #[.int .i64 0, .bool false, .bool false] ) := HH2.out.as ⟨fun h => (HH2.out.syn.at' h).trans (by rw [if_neg hv]; rfl), fun h => absurd h (by omega)⟩
      have hG := syn_iget (T := T) (G := G) (re_igIn HE.out) HP.out.1 HH3.out.run HH3.out.syn HBD.out
      clear hst HH2 hv
      go_wp2_with fail
      go_at_call 97; refine hG.mono ?_; rintro e y3 ⟨r, j3, q, rfl, hR3, hS3, hq, hr, hB3, hj3⟩
      have HQ : Hid (IgT.live q = false ∧ (j3 ≤ m → r = q.obs)) := ⟨hq, hr⟩
      have HH4 : Hid (RzAt w y3 x A cap m g M s0 j j3 (reG emb q) (IgQ (fun _ => False) (reG emb) r) #[.int .i64 P, .int .i64 T, .int .i64 G] 84 #[.int .i64 0, .bool false, .bool false] ) := HH3.out.go hR3 hS3 hB3 hj3
      clear hG hR3 hS3 hq hr hB3 hj3 HH3 k0 k1 k2 HST sc hd
      have sc := HH4.out.stop
      by_cases hst : m < j3
      · rw [decide_eq_true hst] at sc
        have HST : Hid (m < j3) := hst
        have HH : Hid (RzAt w y3 x A cap m g M s0 j j3 (reG emb q) (ReQ Q emb P T t r false) #[.int .i64 P, .int .i64 T, .int .i64 G] 84 #[.int .i64 0, .bool false, .bool false] ) := HH4.out.as ⟨fun h => absurd h (by omega), fun h => ⟨by
          rcases (HH4.out.syn.past h).1 with ⟨h1, -⟩ | ⟨p', hl, h1, h2⟩
          · exact h1.elim
          · obtain ⟨a, ha⟩ := Option.isSome_iff_exists.1 ((re_ig_live (P := P) (q := p')).trans hl)
            exact .inr ⟨.get p', a, ha, h1.trans (if_pos hl), h2, rfl⟩, (HH4.out.syn.past h).2⟩⟩
        clear hst HH4
        have r0 := HH.out.res.cell 0 (v := .int .i64 0) rfl
        have r1 := HH.out.res.cell 1 (v := .bool false) rfl
        have r2 := HH.out.res.cell 2 (v := .bool false) rfl
        have f0 := HH.out.res.fro 0
        have f1 := HH.out.res.fro 1
        have f2 := HH.out.res.fro 2
        have HN : Hid _ := HH.out.ret (a := .int .i64 r) (b := .bool false) (c := .bool false) rfl
        go_wp2_with fail
        generalize ((y3.setCell ⟨w.heap.size + 1, 0, none⟩ (.int .i64 r)).setCell ⟨w.heap.size + 1, 1, none⟩ (.bool false)).setCell ⟨w.heap.size + 1, 2, none⟩ (.bool false) = yz at *
        have hfr := HN.out.2.2
        refine bodyPost_ret (v := .agg #[.int .i64 r, .bool false, .bool false]) (results_cell_row rfl _ _ (w.heap.size + 1) 84 #[.int .i64 r, .bool false, .bool false] _ _ rfl hfr Tryz.underlying84 rfl (by kernel_rfl)) rfl ?_
        exact ⟨r, false, false, j3, .done1 .none', rfl, HN.out.1, ⟨fun h => absurd h (by have := HST.out; omega), HH.out.syn.past⟩, rfl, fun h => absurd h (by have := HST.out; omega), HN.out.2.1, HH.out.le⟩
      · rw [decide_eq_false hst] at sc
        have HST : Hid (j3 ≤ m) := (by omega : j3 ≤ m)
        have HRQ : Hid (r = q.obs) := HQ.out.2 HST.out
        by_cases hr1 : r = -1
        · have hd1 : (r != -1) = false := by simpa using hr1
          have HQ0 : Hid (igO (some q) = -1) := HRQ.out.symm.trans hr1
          have k0 := HH4.out.cfg.cell 0 (v := .int .i64 P) rfl
          have k1 := HH4.out.cfg.cell 1 (v := .int .i64 T) rfl
          have k2 := HH4.out.cfg.cell 2 (v := .int .i64 G) rfl
          have HH3 : Hid (RzAt w y3 x A cap m g M s0 j j3 (reIm emb (some q) .h0) (fun _ => False) #[.int .i64 P, .int .i64 T, .int .i64 G] 84 #[.int .i64 0, .bool false, .bool false] ) := HH4.out.as ⟨fun h => (HH4.out.syn.at' h).trans ((if_neg (by rw [HQ.out.1]; decide)).trans (if_pos (HRQ.out.symm.trans hr1))), fun h => absurd h (by omega)⟩
          clear hst HH4 hr1
          have hIm := syn_imput (G := G) (re_imIn HE.out (some q)) HP.out.1 HP.out.2.1 HH3.out.run HH3.out.syn HBD.out
          go_wp2_with fail
          go_at_call 115; refine hIm.mono ?_; rintro e z1 ⟨⟨u1, rfl⟩, i1, hR1, hS1, hB1, hi1⟩
          have HZ1 : Hid (RzAt w z1 x A cap m g M s0 j i1 (reIm emb (some q) .over) (ReQ Q emb P T t (-1) false) #[.int .i64 P, .int .i64 T, .int .i64 G] 84 #[.int .i64 0, .bool false, .bool false] ) := HH3.out.go hR1 (hS1.weak (fun q' h => by
            rcases h with h | ⟨s, a, h1, h2⟩
            · exact h.elim
            · have hb : reIm emb (some q) s = emb (.lie (some q) s) := by cases s <;> first | rfl | cases h1
              exact .inr ⟨.lie (some q) s, a, h1, h2.trans hb, HQ0.out.symm, rfl⟩)) hB1 hi1
          have hRl := syn_release (re_relIn2 HE.out (some q)) (by omega) HZ1.out.run HZ1.out.syn HBD.out
          clear hIm hR1 hS1 hB1 hi1 HH3 k0 k1 k2 sc HST
          go_wp2_with fail
          go_at_call 81; refine hRl.mono ?_; rintro e z2 ⟨⟨u2, rfl⟩, i2, hR2, hS2, hB2, hi2⟩
          have HZ2 : Hid (RzAt w z2 x A cap m g M s0 j i2 (reR2 emb (some q) .over) (ReQ Q emb P T t (-1) false) #[.int .i64 P, .int .i64 T, .int .i64 G] 84 #[.int .i64 0, .bool false, .bool false] ) := HZ1.out.go hR2 (hS2.weak (fun q' h => by
            rcases h with h | h | h
            · exact h
            · exact .inr ⟨.rel2 (some q) .fresh, _, rfl, h, HQ0.out.symm, rfl⟩
            · exact .inr ⟨.rel2 (some q) .pass, _, rfl, h, HQ0.out.symm, rfl⟩)) hB2 hi2
          clear hRl hR2 hS2 hB2 hi2 HZ1
          have sc := HZ2.out.stop
          by_cases hst : m < i2
          · rw [decide_eq_true hst] at sc
            have HST : Hid (m < i2) := hst
            have HH : Hid (RzAt w z2 x A cap m g M s0 j i2 (reR2 emb (some q) .over) (ReQ Q emb P T t (-1) false) #[.int .i64 P, .int .i64 T, .int .i64 G] 84 #[.int .i64 0, .bool false, .bool false] ) := HZ2.out
            clear hst HZ2
            have r0 := HH.out.res.cell 0 (v := .int .i64 0) rfl
            have r1 := HH.out.res.cell 1 (v := .bool false) rfl
            have r2 := HH.out.res.cell 2 (v := .bool false) rfl
            have f0 := HH.out.res.fro 0
            have f1 := HH.out.res.fro 1
            have f2 := HH.out.res.fro 2
            have HN : Hid _ := HH.out.ret (a := .int .i64 (-1)) (b := .bool false) (c := .bool false) rfl
            go_wp2_with fail
            generalize ((z2.setCell ⟨w.heap.size + 1, 0, none⟩ (.int .i64 (-1))).setCell ⟨w.heap.size + 1, 1, none⟩ (.bool false)).setCell ⟨w.heap.size + 1, 2, none⟩ (.bool false) = yz at *
            have hfr := HN.out.2.2
            refine bodyPost_ret (v := .agg #[.int .i64 (-1), .bool false, .bool false]) (results_cell_row rfl _ _ (w.heap.size + 1) 84 #[.int .i64 (-1), .bool false, .bool false] _ _ rfl hfr Tryz.underlying84 rfl (by kernel_rfl)) rfl ?_
            exact ⟨-1, false, false, i2, .done1 .none', rfl, HN.out.1, ⟨fun h => absurd h (by have := HST.out; omega), HH.out.syn.past⟩, rfl, fun h => absurd h (by have := HST.out; omega), HN.out.2.1, HH.out.le⟩
          · rw [decide_eq_false hst] at sc
            have HST : Hid (i2 ≤ m) := (by omega : i2 ≤ m)
            have HZ3 : Hid (RzAt w z2 x A cap m g M s0 j i2 (reN emb (some q) (.slp .s1)) (fun _ => False) #[.int .i64 P, .int .i64 T, .int .i64 G] 84 #[.int .i64 0, .bool false, .bool false] ) := HZ2.out.as ⟨HZ2.out.syn.at', fun h => absurd h (by omega)⟩
            have hNp := syn_nap (G := G) (re_naIn HE.out (some q)) HP.out.1 HP.out.2.1 HZ3.out.run HZ3.out.syn HBD.out
            have k0 := HZ3.out.cfg.cell 0 (v := .int .i64 P) rfl
            have k1 := HZ3.out.cfg.cell 1 (v := .int .i64 T) rfl
            have k2 := HZ3.out.cfg.cell 2 (v := .int .i64 G) rfl
            clear hst HZ2
            go_wp2_with fail
            go_at_call 42; refine hNp.mono ?_; rintro e z3 ⟨p', c', i3, sf, rfl, q1, q2, q3, q4, q5, q6⟩
            have HF : Hid ((naPM P T t).ax sf = none ∧ (i3 ≤ m → p' = sf.p ∧ c' = sf.spins)) := ⟨q3, q4⟩
            have HH : Hid (RzAt w z3 x A cap m g M s0 j i3 (reN emb (some q) sf) (ReQ Q emb P T t p' c') #[.int .i64 P, .int .i64 T, .int .i64 G] 84 #[.int .i64 0, .bool false, .bool false] ) := HZ3.out.go q1 (q2.weak (fun q' h => by
              rcases h with ⟨h, -⟩ | ⟨s, a, h1, h2, h3, h4⟩
              · exact h.elim
              · exact .inr ⟨.nap (some q) s, a, h1, h2, h3, h4.trans (Bool.or_false _).symm⟩)) q5 q6
            clear hNp q1 q2 q3 q4 q5 q6 HZ3 k0 k1 k2
            have r0 := HH.out.res.cell 0 (v := .int .i64 0) rfl
            have r1 := HH.out.res.cell 1 (v := .bool false) rfl
            have r2 := HH.out.res.cell 2 (v := .bool false) rfl
            have f0 := HH.out.res.fro 0
            have f1 := HH.out.res.fro 1
            have f2 := HH.out.res.fro 2
            have HN : Hid _ := HH.out.ret (a := .int .i64 p') (b := .bool c') (c := .bool true) rfl
            go_wp2_with fail
            generalize ((z3.setCell ⟨w.heap.size + 1, 0, none⟩ (.int .i64 p')).setCell ⟨w.heap.size + 1, 1, none⟩ (.bool c')).setCell ⟨w.heap.size + 1, 2, none⟩ (.bool true) = yz at *
            have hfr := HN.out.2.2
            refine bodyPost_ret (v := .agg #[.int .i64 p', .bool c', .bool true]) (results_cell_row rfl _ _ (w.heap.size + 1) 84 #[.int .i64 p', .bool c', .bool true] _ _ rfl hfr Tryz.underlying84 rfl (by kernel_rfl)) rfl ?_
            exact ⟨p', c', true, i3, .nap (some q) sf, rfl, HN.out.1, HH.out.syn, HF.out.1, fun h => ⟨(HF.out.2 h).1, (HF.out.2 h).2.trans (Bool.or_false _).symm⟩, HN.out.2.1, HH.out.le⟩
        · have hd1 : (r != -1) = true := by simpa using hr1
          have HH5 : Hid (HdAt w (y3.alloc (.cells #[.int .i64 r, .bool false, .bool false] 84)) x A cap m g M s0 j j3 (reSp emb q .ad) (fun _ => False) #[.int .i64 P, .int .i64 T, .int .i64 G] 84 #[.int .i64 0, .bool false, .bool false] y3.heap.size #[.int .i64 r, .bool false, .bool false]) := (HH4.out.hand #[.int .i64 r, .bool false, .bool false] ((Below.refl _ _).alloc (Nat.le_refl _) _)).as ⟨fun h => (HH4.out.syn.at' h).trans ((if_neg (by rw [HQ.out.1]; decide)).trans (if_neg (fun e => hr1 (HRQ.out.trans e)))), fun h => absurd h (by omega)⟩
          have hSp := syn_spin (re_spIn HE.out q) HH5.out.run HH5.out.syn HBD.out
          have hy3 : w.heap.size + 1 < y3.heap.size := HH4.out.res.lt
          clear hst HH4 hr1
          go_wp2_with fail
          generalize hY : y3.alloc (.cells #[.int .i64 r, .bool false, .bool false] 84) = Y3 at *
          clear hY
          generalize y3.heap.size = o at *
          go_at_call 61; refine hSp.mono ?_; rintro e y4 ⟨c, j4, rfl, hR4, hS4, hc, hB4, hj4⟩
          have HH6 : Hid (HdAt w y4 x A cap m g M s0 j j4 (reSp emb q .over) (SpQ (fun _ => False) (reSp emb q) c) #[.int .i64 P, .int .i64 T, .int .i64 G] 84 #[.int .i64 0, .bool false, .bool false] o #[.int .i64 r, .bool false, .bool false]) := HH5.out.go hR4 hS4 hB4 hj4
          have HC : Hid (j4 ≤ m → c = true) := hc
          have HH7 : Hid (HdAt w (y4.setCell ⟨o, 1, none⟩ (.bool c)) x A cap m g M s0 j j4 (reR1 emb q .fresh) (SpQ (fun _ => False) (reSp emb q) c) #[.int .i64 P, .int .i64 T, .int .i64 G] 84 #[.int .i64 0, .bool false, .bool false] o #[.int .i64 r, .bool c, .bool false]) := HH6.out.set 1 (.bool c)
          have hRl := syn_release (re_relIn1 HE.out q) (by omega) HH7.out.run HH7.out.syn HBD.out
          have oo1 := HH6.out.out.cell 1 (v := .bool false) rfl
          have ff1 := HH6.out.out.fro 1
          clear hSp hR4 hS4 hc hB4 hj4 HH5 HST sc
          go_wp2_with fail
          clear oo1 ff1
          generalize y4.setCell ⟨o, 1, none⟩ (.bool c) = V4 at *
          go_at_call 81; refine hRl.mono ?_; rintro e y5 ⟨⟨u5, rfl⟩, j5, hR5, hS5, hB5, hj5⟩
          have HH8 : Hid (HdAt w y5 x A cap m g M s0 j j5 (emb (.run q)) (ReQ Q emb P T t r c) #[.int .i64 P, .int .i64 T, .int .i64 G] 84 #[.int .i64 0, .bool false, .bool false] o #[.int .i64 r, .bool c, .bool false]) := HH7.out.go hR5 ⟨hS5.at', fun h => ⟨by
            by_cases h4 : m < j4
            · rcases (HH6.out.syn.past h4).1 with ⟨h1, -⟩ | ⟨s, a, h1, h2, h3⟩
              · exact h1.elim
              · have hb : reSp emb q s = emb (.spn q s) := by cases s <;> first | rfl | cases h1
                exact .inr ⟨.spn q s, a, h1, h2.trans hb, HRQ.out, h3⟩
            · have hc4 := HC.out (by omega)
              rcases (hS5.past h).1 with h1 | h1 | h1
              · rcases h1 with ⟨h1, -⟩ | ⟨s, a, h1, h2, h3⟩
                · exact h1.elim
                · have hb : reSp emb q s = emb (.spn q s) := by cases s <;> first | rfl | cases h1
                  exact .inr ⟨.spn q s, a, h1, h2.trans hb, HRQ.out, h3⟩
              · exact .inr ⟨.rel1 q .fresh, _, rfl, h1, HRQ.out, hc4⟩
              · exact .inr ⟨.rel1 q .pass, _, rfl, h1, HRQ.out, hc4⟩, (hS5.past h).2⟩⟩ hB5 hj5
          have HC5 : Hid (j5 ≤ m → c = true) := fun h => HC.out (Nat.le_trans hj5 h)
          clear hRl hR5 hS5 hB5 hj5 HH6 HH7 HC
          have k0 := HH8.out.cfg.cell 0 (v := .int .i64 P) rfl
          have k1 := HH8.out.cfg.cell 1 (v := .int .i64 T) rfl
          have k2 := HH8.out.cfg.cell 2 (v := .int .i64 G) rfl
          have hPl := rprcAt_all P T G r 0 y5 HP.out.1.2 (by omega)
          have HAX : Hid (M.ax (emb (.run q)) = some (axSt (wd 20 P 264 r 0) 1)) := by rw [HRQ.out]; exact HE.out.ax (.run q) _ rfl
          go_wp2_with fail
          go_at_call 79; refine hPl.mono ?_; rintro e y6 ⟨rfl, h5⟩
          have HH9 : Hid (HdAt w y6 x A cap m g M s0 j j5 (emb (.run q)) (ReQ Q emb P T t r c) #[.int .i64 P, .int .i64 T, .int .i64 G] 84 #[.int .i64 0, .bool false, .bool false] o #[.int .i64 r, .bool c, .bool false]) := HH8.out.low h5
          have hSt := syn_store HH9.out.run HH9.out.syn HBD.out (wd 20 P 264 r 0) 1 (fun _ => HAX.out)
          clear hPl h5 k0 k1 k2 HH8
          go_wp2_with fail
          go_at_call 77; refine hSt.mono ?_; rintro e y7 ⟨⟨u7, rfl⟩, v7, hK⟩
          have HH : Hid (HdAt w y7 x A cap m g M s0 j (j5 + 1) (emb (.done1 q)) (ReQ Q emb P T t r c) #[.int .i64 P, .int .i64 T, .int .i64 G] 84 #[.int .i64 0, .bool false, .bool false] o #[.int .i64 r, .bool c, .bool false]) := by
            have h := HH9.out.step hK
            rw [HE.out.nx (.run q) _ _ rfl] at h
            refine h.as ⟨h.syn.at', fun hm => ⟨?_, (h.syn.past hm).2⟩⟩
            rcases (h.syn.past hm).1 with h1 | h1
            · by_cases h5 : m < j5
              · exact (HH9.out.syn.past h5).1
              · exact .inr ⟨.run q, _, rfl, h1, HRQ.out, HC5.out (by omega)⟩
            · exact h1
          clear hSt hK HH9 HAX
          have o0 := HH.out.out.cell 0 (v := .int .i64 r) rfl
          have o1 := HH.out.out.cell 1 (v := .bool c) rfl
          have o2 := HH.out.out.cell 2 (v := .bool false) rfl
          have r0 := HH.out.res.cell 0 (v := .int .i64 0) rfl
          have r1 := HH.out.res.cell 1 (v := .bool false) rfl
          have r2 := HH.out.res.cell 2 (v := .bool false) rfl
          have f0 := HH.out.res.fro 0
          have f1 := HH.out.res.fro 1
          have f2 := HH.out.res.fro 2
          have HN : Hid _ := HH.out.ret (a := .int .i64 r) (b := .bool c) (c := .bool false) rfl
          go_wp2_with fail
          generalize ((y7.setCell ⟨w.heap.size + 1, 0, none⟩ (.int .i64 r)).setCell ⟨w.heap.size + 1, 1, none⟩ (.bool c)).setCell ⟨w.heap.size + 1, 2, none⟩ (.bool false) = yz at *
          have hfr := HN.out.2.2
          refine bodyPost_ret (v := .agg #[.int .i64 r, .bool c, .bool false]) (results_cell_row rfl _ _ (w.heap.size + 1) 84 #[.int .i64 r, .bool c, .bool false] _ _ rfl hfr Tryz.underlying84 rfl (by kernel_rfl)) rfl ?_
          exact ⟨r, c, false, j5 + 1, .done1 q, rfl, HN.out.1, HH.out.syn, rfl, fun h => ⟨HRQ.out, HC5.out (by omega)⟩, HN.out.2.1, HH.out.le⟩
end Go.Proofs.YthbgoakaijeemaaGreat

namespace Go.Proofs.YthbgoakaijeemaaGreat
open Go Go.RowKit
set_option linter.unusedVariables false
set_option maxRecDepth 100000
set_option linter.unusedSimpArgs false

theorem rspin_on (w : World) (x : Nat) (A : Option Addr) (cap m : Nat) (gf : Nat → Int) (t : SpT) (h : RunOn w x A cap m gf rn0) (hh : Hist spPM .ad gf m t) :
    Calls Tryz.prog 61 #[.pointer (some ⟨x, 0, none⟩)] w fun e w' => e = .returned (.bool t.counts) ∧ RunOn w' x A cap m gf (spPM.rn t m) ∧ But [x] w w' := by
  rw [← rj_start (M := spPM) (s0 := SpT.ad) (g := gf) (m := m)] at h
  refine (syn_spin (pm_in spPM) h (Syn.start _ _ _ _) hh.bd).mono ?_
  rintro e w' ⟨c, j', rfl, h1, h2, h3, h4, -⟩
  have hr : c = t.counts := by
    rcases h2.fin hh (fun _ => rfl) with ⟨e1, e2⟩ | ⟨-, (⟨hf, -⟩ | ⟨s', a, -, e1, e2⟩)⟩
    · rw [e1]; exact h3 (by omega)
    · exact hf.elim
    · rw [e1]; exact e2
  refine ⟨by rw [hr], ?_, h4⟩
  rw [← rj_end h2 hh (fun _ => rfl)]
  exact h1
theorem rnap_on (w : World) (x : Nat) (A : Option Addr) (cap m : Nat) (gf : Nat → Int) (P T G t : Int) (s : NaT) (h : RunOn w x A cap m gf rn0) (hh : Hist (naPM P T t) (.slp .s1) gf m s) (hp : 0 ≤ P ∧ P ≤ 64) (hT : 0 ≤ T ∧ T ≤ 65536) :
    Calls Tryz.prog 42 #[.pointer (some ⟨x, 0, none⟩), .agg #[.int .i64 P, .int .i64 T, .int .i64 G], .int .i64 t] w fun e w' => ∃ b : Bool, e = .returned (.agg #[.int .i64 s.p, .bool s.spins, .bool b]) ∧ RunOn w' x A cap m gf ((naPM P T t).rn s m) ∧ But [x] w w' := by
  rw [← rj_start (M := naPM P T t) (s0 := NaT.slp .s1) (g := gf) (m := m)] at h
  refine (syn_nap (G := G) (pm_in _) hp hT h (Syn.start _ _ _ _) hh.bd).mono ?_
  rintro e w' ⟨p', c', j', sf, rfl, h1, h2, h3, h4, h5, -⟩
  have hr : p' = s.p ∧ c' = s.spins := by
    rcases h2.fin hh (fun _ => h3) with ⟨e1, e2⟩ | ⟨-, (⟨hf, -⟩ | ⟨s', a, -, e1, e2, e3⟩)⟩
    · rw [e1]; exact h4 (by omega)
    · exact hf.elim
    · rw [e1]; exact ⟨e2, e3⟩
  refine ⟨true, by rw [hr.1, hr.2], ?_, h5⟩
  rw [← rj_end h2 hh (fun _ => h3)]
  exact h1
theorem rrest_on (w : World) (x : Nat) (A : Option Addr) (cap m : Nat) (gf : Nat → Int) (P T G t : Int) (s : ReT) (h : RunOn w x A cap m gf rn0) (hh : Hist (rePM P T t) (.acq .fresh) gf m s) (hp : 0 ≤ P ∧ P ≤ 64) (hT : 0 ≤ T ∧ T ≤ 65536) (hw : 0 ≤ t ∧ t ≤ 300) :
    Calls Tryz.prog 59 #[.pointer (some ⟨x, 0, none⟩), .agg #[.int .i64 P, .int .i64 T, .int .i64 G], .int .i64 t] w fun e w' => ∃ b : Bool, e = .returned (.agg #[.int .i64 s.p, .bool s.spins, .bool b]) ∧ RunOn w' x A cap m gf ((rePM P T t).rn s m) ∧ But [x] w w' := by
  rw [← rj_start (M := rePM P T t) (s0 := ReT.acq .fresh) (g := gf) (m := m)] at h
  refine (syn_rest (G := G) (pm_in _) hp hT hw h (Syn.start _ _ _ _) hh.bd).mono ?_
  rintro e w' ⟨p', c', b', j', sf, rfl, h1, h2, h3, h4, h5, -⟩
  have hr : p' = s.p ∧ c' = s.spins := by
    rcases h2.fin hh (fun _ => h3) with ⟨e1, e2⟩ | ⟨-, (⟨hf, -⟩ | ⟨s', a, -, e1, e2, e3⟩)⟩
    · rw [e1]; exact h4 (by omega)
    · exact hf.elim
    · rw [e1]; exact ⟨e2, e3⟩
  refine ⟨b', by rw [hr.1, hr.2], ?_, h5⟩
  rw [← rj_end h2 hh (fun _ => h3)]
  exact h1
end Go.Proofs.YthbgoakaijeemaaGreat
