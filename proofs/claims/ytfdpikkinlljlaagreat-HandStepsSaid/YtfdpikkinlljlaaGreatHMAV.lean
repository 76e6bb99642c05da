/- The document handing a processor over, within any machine. -/
import Derived.Test.YtfdpikkinlljlaaGreatHMAA
import Derived.Test.YtfdpikkinlljlaaGreatHMAS
import Derived.Test.YtfdpikkinlljlaaGreatHMAC
import Derived.Test.YtfdpikkinlljlaaGreatHMAH
namespace Go.Proofs.YtfdpikkinlljlaaGreat
open Go Go.RowKit
set_option linter.unusedVariables false
set_option maxRecDepth 100000
set_option linter.unusedSimpArgs false

theorem HdAt.ret2 {σ : Type} {w y : World} {x : Nat} {A : Option Addr} {cap m : Nat} {g : Nat → Int} {M : PM σ} {s0 : σ} {j0 j : Nat} {t : σ} {Q : σ → Prop} {cf : Array Value} {HTy : TypeId} {z : Array Value} {o : Nat} {oc : Array Value} (h : HdAt w y x A cap m g M s0 j0 j t Q cf HTy z o oc) (a b : Value) {z0 z1 : Value} (hz : z = #[z0, z1]) : RunOn ((y.setCell ⟨w.heap.size + 1, 0, none⟩ a).setCell ⟨w.heap.size + 1, 1, none⟩ b) x A cap m g (M.rj s0 g m j) ∧ But [x] w ((y.setCell ⟨w.heap.size + 1, 0, none⟩ a).setCell ⟨w.heap.size + 1, 1, none⟩ b) ∧ ((y.setCell ⟨w.heap.size + 1, 0, none⟩ a).setCell ⟨w.heap.size + 1, 1, none⟩ b).heap[w.heap.size + 1]? = some (.cells #[a, b] HTy (0, 0)) := by
  subst hz
  have hx := h.x
  have hU : But [w.heap.size + 1] y ((y.setCell ⟨w.heap.size + 1, 0, none⟩ a).setCell ⟨w.heap.size + 1, 1, none⟩ b) := ((But.refl _ y).set (g := w.heap.size + 1) (.inl (by simp)) 0 _).set (g := w.heap.size + 1) (.inl (by simp)) 1 _
  have hZ := (h.res.set 0 a).set 1 b
  exact ⟨h.run.but hU (by simp; omega) (h.far.of (by intro k hk; simp at hk ⊢; omega)), But.lowk h.but hU (by omega), hZ.heap⟩
theorem Syn.resetv {σ : Type} {M : PM σ} {s0 : σ} {g : Nat → Int} {m j : Nat} {t : σ} {Q : σ → Prop} (h : Syn M s0 g m j t Q) (hj : j ≤ m) (Q2 : σ → Prop) : Syn M s0 g m j t Q2 := ⟨h.at', fun hm => absurd hm (by omega)⟩
section
variable {σ : Type} {M : PM σ} {P T G who p : Int} {emb : HvT → σ}
def hvL (P p : Int) (emb : HvT → σ) (l : LoT) : σ := if ((loPM P p).ax l).isSome = true then emb (.lk l) else if l.e = true then emb .gs else emb (.acqP .fresh)
theorem hv_loIn (hE : PmIn M (hvPM P T who p) emb) : PmIn M (loPM P p) (hvL P p emb) where
  ax := fun q a h => by
    have e : hvL P p emb q = emb (.lk q) := if_pos (by rw [h]; rfl)
    rw [e]
    exact hE.ax (.lk q) a h
  nx := fun q a v h => by
    have e : hvL P p emb q = emb (.lk q) := if_pos (by rw [h]; rfl)
    rw [e, hE.nx (.lk q) a v h]
    show emb (if ((loPM P p).ax ((loPM P p).nx q v)).isSome = true then .lk ((loPM P p).nx q v) else if ((loPM P p).nx q v).e = true then .gs else .acqP .fresh) = _
    unfold hvL
    split
    · rfl
    · split <;> rfl
def hvAP (emb : HvT → σ) : AcqT → σ
  | .over _ => emb (.runP (.get .ld))
  | a => emb (.acqP a)
theorem hv_acqPIn (hE : PmIn M (hvPM P T who p) emb) : AcqIn M 0 who (hvAP emb) := by
  refine ⟨hE.ax (.acqP .fresh) _ rfl, fun u => hE.ax (.acqP (.wait u)) _ rfl, fun u => hE.ax (.acqP (.has u)) _ rfl, fun v => hE.nx (.acqP .fresh) _ v rfl, ?_, fun u v => hE.nx (.acqP (.has u)) _ v rfl⟩
  intro u v
  refine (hE.nx (.acqP (.wait u)) _ v rfl).trans ?_
  by_cases h : v = u
  · subst h
    have e : (acqPM (wd 0 2 3 0 0) (wd 0 2 3 0 1) (wd 0 2 3 0 2) who).nx (.wait v) v = .has v := if_pos rfl
    show emb (if ((acqPM (wd 0 2 3 0 0) (wd 0 2 3 0 1) (wd 0 2 3 0 2) who).ax ((acqPM (wd 0 2 3 0 0) (wd 0 2 3 0 1) (wd 0 2 3 0 2) who).nx (.wait v) v)).isSome = true then .acqP ((acqPM (wd 0 2 3 0 0) (wd 0 2 3 0 1) (wd 0 2 3 0 2) who).nx (.wait v) v) else .runP (.get .ld)) = _
    rw [e, if_pos rfl]
    rfl
  · have e : (acqPM (wd 0 2 3 0 0) (wd 0 2 3 0 1) (wd 0 2 3 0 2) who).nx (.wait u) v = .wait u := if_neg h
    show emb (if ((acqPM (wd 0 2 3 0 0) (wd 0 2 3 0 1) (wd 0 2 3 0 2) who).ax ((acqPM (wd 0 2 3 0 0) (wd 0 2 3 0 1) (wd 0 2 3 0 2) who).nx (.wait u) v)).isSome = true then .acqP ((acqPM (wd 0 2 3 0 0) (wd 0 2 3 0 1) (wd 0 2 3 0 2) who).nx (.wait u) v) else .runP (.get .ld)) = _
    rw [e, if_neg h]
    rfl
def hvAS (emb : HvT → σ) : AcqT → σ
  | .over _ => emb (.runS (.get .ld))
  | a => emb (.acqS a)
theorem hv_acqSIn (hE : PmIn M (hvPM P T who p) emb) : AcqIn M 0 who (hvAS emb) := by
  refine ⟨hE.ax (.acqS .fresh) _ rfl, fun u => hE.ax (.acqS (.wait u)) _ rfl, fun u => hE.ax (.acqS (.has u)) _ rfl, fun v => hE.nx (.acqS .fresh) _ v rfl, ?_, fun u v => hE.nx (.acqS (.has u)) _ v rfl⟩
  intro u v
  refine (hE.nx (.acqS (.wait u)) _ v rfl).trans ?_
  by_cases h : v = u
  · subst h
    have e : (acqPM (wd 0 2 3 0 0) (wd 0 2 3 0 1) (wd 0 2 3 0 2) who).nx (.wait v) v = .has v := if_pos rfl
    show emb (if ((acqPM (wd 0 2 3 0 0) (wd 0 2 3 0 1) (wd 0 2 3 0 2) who).ax ((acqPM (wd 0 2 3 0 0) (wd 0 2 3 0 1) (wd 0 2 3 0 2) who).nx (.wait v) v)).isSome = true then .acqS ((acqPM (wd 0 2 3 0 0) (wd 0 2 3 0 1) (wd 0 2 3 0 2) who).nx (.wait v) v) else .runS (.get .ld)) = _
    rw [e, if_pos rfl]
    rfl
  · have e : (acqPM (wd 0 2 3 0 0) (wd 0 2 3 0 1) (wd 0 2 3 0 2) who).nx (.wait u) v = .wait u := if_neg h
    show emb (if ((acqPM (wd 0 2 3 0 0) (wd 0 2 3 0 1) (wd 0 2 3 0 2) who).ax ((acqPM (wd 0 2 3 0 0) (wd 0 2 3 0 1) (wd 0 2 3 0 2) who).nx (.wait u) v)).isSome = true then .acqS ((acqPM (wd 0 2 3 0 0) (wd 0 2 3 0 1) (wd 0 2 3 0 2) who).nx (.wait u) v) else .runS (.get .ld)) = _
    rw [e, if_neg h]
    rfl
def hvAL (emb : HvT → σ) : AcqT → σ
  | .over _ => emb (.gs2)
  | a => emb (.acqL a)
theorem hv_acqLIn (hE : PmIn M (hvPM P T who p) emb) : AcqIn M 0 who (hvAL emb) := by
  refine ⟨hE.ax (.acqL .fresh) _ rfl, fun u => hE.ax (.acqL (.wait u)) _ rfl, fun u => hE.ax (.acqL (.has u)) _ rfl, fun v => hE.nx (.acqL .fresh) _ v rfl, ?_, fun u v => hE.nx (.acqL (.has u)) _ v rfl⟩
  intro u v
  refine (hE.nx (.acqL (.wait u)) _ v rfl).trans ?_
  by_cases h : v = u
  · subst h
    have e : (acqPM (wd 0 2 3 0 0) (wd 0 2 3 0 1) (wd 0 2 3 0 2) who).nx (.wait v) v = .has v := if_pos rfl
    show emb (if ((acqPM (wd 0 2 3 0 0) (wd 0 2 3 0 1) (wd 0 2 3 0 2) who).ax ((acqPM (wd 0 2 3 0 0) (wd 0 2 3 0 1) (wd 0 2 3 0 2) who).nx (.wait v) v)).isSome = true then .acqL ((acqPM (wd 0 2 3 0 0) (wd 0 2 3 0 1) (wd 0 2 3 0 2) who).nx (.wait v) v) else .gs2) = _
    rw [e, if_pos rfl]
    rfl
  · have e : (acqPM (wd 0 2 3 0 0) (wd 0 2 3 0 1) (wd 0 2 3 0 2) who).nx (.wait u) v = .wait u := if_neg h
    show emb (if ((acqPM (wd 0 2 3 0 0) (wd 0 2 3 0 1) (wd 0 2 3 0 2) who).ax ((acqPM (wd 0 2 3 0 0) (wd 0 2 3 0 1) (wd 0 2 3 0 2) who).nx (.wait u) v)).isSome = true then .acqL ((acqPM (wd 0 2 3 0 0) (wd 0 2 3 0 1) (wd 0 2 3 0 2) who).nx (.wait u) v) else .gs2) = _
    rw [e, if_neg h]
    rfl
def hvSP (P T p : Int) (emb : HvT → σ) (s : WsT) : σ := if ((wsPM P T p false true).ax s).isSome = true then emb (.runP s) else emb (.ovP s)
theorem hv_wsPIn (hE : PmIn M (hvPM P T who p) emb) : WsIn M P T p false true (hvSP P T p emb) where
  ax := fun q a h => by
    have e : hvSP P T p emb q = emb (.runP q) := if_pos (by rw [h]; rfl)
    rw [e]
    exact hE.ax (.runP q) a h
  nx := fun q a v h => by
    have e : hvSP P T p emb q = emb (.runP q) := if_pos (by rw [h]; rfl)
    rw [e, hE.nx (.runP q) a v h]
    show emb (if ((wsPM P T p false true).ax ((wsPM P T p false true).nx q v)).isSome = true then .runP ((wsPM P T p false true).nx q v) else .ovP ((wsPM P T p false true).nx q v)) = _
    unfold hvSP
    split <;> rfl
def hvSS (P T p : Int) (emb : HvT → σ) (s : WsT) : σ := if ((wsPM P T p true true).ax s).isSome = true then emb (.runS s) else emb (.ovS s)
theorem hv_wsSIn (hE : PmIn M (hvPM P T who p) emb) : WsIn M P T p true true (hvSS P T p emb) where
  ax := fun q a h => by
    have e : hvSS P T p emb q = emb (.runS q) := if_pos (by rw [h]; rfl)
    rw [e]
    exact hE.ax (.runS q) a h
  nx := fun q a v h => by
    have e : hvSS P T p emb q = emb (.runS q) := if_pos (by rw [h]; rfl)
    rw [e, hE.nx (.runS q) a v h]
    show emb (if ((wsPM P T p true true).ax ((wsPM P T p true true).nx q v)).isSome = true then .runS ((wsPM P T p true true).nx q v) else .ovS ((wsPM P T p true true).nx q v)) = _
    unfold hvSS
    split <;> rfl
def hvI (emb : HvT → σ) : IpT → σ
  | .over => emb (.rel .over .fresh)
  | q => emb (.put q)
theorem hv_ipIn (hE : PmIn M (hvPM P T who p) emb) : IpIn M P p (hvI emb) :=
  ⟨hE.ax (.put .m0) _ rfl, fun w => hE.ax (.put (.ms w)) _ rfl, hE.ax (.put .h0) _ rfl, fun h => hE.ax (.put (.ln h)) _ rfl, hE.ax (.put .st) _ rfl, hE.ax (.put .ct) _ rfl, fun v => hE.nx (.put .m0) _ v rfl, fun w v => hE.nx (.put (.ms w)) _ v rfl, fun v => hE.nx (.put .h0) _ v rfl, fun h v => hE.nx (.put (.ln h)) _ v rfl, fun v => hE.nx (.put .st) _ v rfl, fun v => hE.nx (.put .ct) _ v rfl⟩
def hvR (emb : HvT → σ) : RelT → σ
  | .over => emb (.ovR .over)
  | r => emb (.rel .over r)
theorem hv_relIn (hE : PmIn M (hvPM P T who p) emb) : RelIn M 0 (hvR emb) :=
  ⟨hE.ax (.rel .over .fresh) _ rfl, hE.ax (.rel .over .pass) _ rfl, fun v => (hE.nx (.rel .over .fresh) _ v rfl).trans rfl, fun v => (hE.nx (.rel .over .pass) _ v rfl).trans rfl⟩
end
/-- Where it stopped, and what it answered. -/
def HvQ {σ : Type} (Q : σ → Prop) (emb : HvT → σ) (P T who p : Int) (hd : Int) (c : Bool) (q : σ) : Prop := (Q q ∧ hd = p ∧ c = false) ∨ ∃ s a, (hvPM P T who p).ax s = some a ∧ q = emb s ∧ hd = s.holds p ∧ c = s.counts
def HvGot {σ : Type} (M : PM σ) (emb : HvT → σ) (P T who p : Int) (w : World) (x : Nat) (A : Option Addr) (cap m : Nat) (gf : Nat → Int) (s0 : σ) (Q : σ → Prop) (j : Nat) (e : Ending) (w' : World) : Prop :=
  ∃ hd c j' s, e = .returned (.agg #[.int .i64 hd, .bool c]) ∧ RunOn w' x A cap m gf (M.rj s0 gf m j') ∧ Syn M s0 gf m j' (emb s) (HvQ Q emb P T who p hd c) ∧ (hvPM P T who p).ax s = none ∧ (j' ≤ m → hd = s.holds p ∧ c = s.counts) ∧ But [x] w w' ∧ j ≤ j'
theorem hv_field (w : World) (a b c : Value) : (Instr.field 51 (.agg #[a, b, c]) 0).run Tryz.prog w = .ok a w := by
  simp only [Instr.field]
  rfl
set_option maxHeartbeats 4000000 in
theorem syn_hvsP {σ : Type} {M : PM σ} {P T G who p : Int} {emb : HvT → σ} (hE : PmIn M (hvPM P T who p) emb) (hp : 0 ≤ P ∧ P ≤ 64) (hT : 0 ≤ T ∧ T ≤ 65536)
    {w : World} {x : Nat} {A : Option Addr} {cap m : Nat} {gf : Nat → Int} {s0 : σ} {j : Nat} {Q : σ → Prop} (hR : RunOn w x A cap m gf (M.rj s0 gf m j)) (hS : Syn M s0 gf m j (emb (.runP (.get .ld))) Q) (hj : j ≤ m) (hb : ∀ j, j < m → 0 ≤ gf j ∧ gf j ≤ 18446744073709551615) :
    Calls Tryz.prog 101 #[.pointer (some ⟨x, 0, none⟩), .agg #[.int .i64 P, .int .i64 T, .int .i64 G], .int .i64 p, .bool false] w fun e w' => ∃ hd j' s, e = .returned (.agg #[.int .i64 hd, .bool false]) ∧ RunOn w' x A cap m gf (M.rj s0 gf m j') ∧ Syn M s0 gf m j' (emb (.ovP s)) (fun q => ∃ s' a, (wsPM P T p false true).ax s' = some a ∧ q = emb (.runP s') ∧ hd = s'.holds p) ∧ (j' ≤ m → hd = s.holds p) ∧ But [x] w w' ∧ j ≤ j' := by
  have hb2 : Below w.heap.size w ((w.alloc (.cells #[.int .i64 P, .int .i64 T, .int .i64 G] 23)).alloc (.cells #[.int .i64 0, .bool false] 74)) := ((Below.refl _ _).alloc (Nat.le_refl _) _).alloc (by rw [World.size_alloc]; omega) _
  have HX : Hid (Blk ((w.alloc (.cells #[.int .i64 P, .int .i64 T, .int .i64 G] 23)).alloc (.cells #[.int .i64 0, .bool false] 74)) w.heap.size #[.int .i64 P, .int .i64 T, .int .i64 G] 23) := (Blk.new w #[.int .i64 P, .int .i64 T, .int .i64 G] 23).al _
  have HY : Hid (Blk ((w.alloc (.cells #[.int .i64 P, .int .i64 T, .int .i64 G] 23)).alloc (.cells #[.int .i64 0, .bool false] 74)) (w.heap.size + 1) #[.int .i64 0, .bool false] 74) := by
    have := Blk.new (w.alloc (.cells #[.int .i64 P, .int .i64 T, .int .i64 G] 23)) #[.int .i64 0, .bool false] 74
    rw [World.size_alloc] at this
    exact this
  have hxw := hR.blk.lt
  have HGA : Hid (GotFar A [w.heap.size + 1]) := fun b e hm => by
    simp at hm
    rcases hR.got.form with ⟨e0, _⟩ | ⟨gb, e0, hl⟩
    · rw [e0] at e; cases e
    · rw [e0] at e; cases e; omega
  have HB : Hid (But [x] w ((w.alloc (.cells #[.int .i64 P, .int .i64 T, .int .i64 G] 23)).alloc (.cells #[.int .i64 0, .bool false] 74))) := But.of_below hb2
  have hW := syn_wstart (G := G) (hv_wsPIn hE) hp hT (hR.below hb2) (hS.resetv hj (fun _ => False) : Syn M s0 gf m j (hvSP P T p emb (.get .ld)) (fun _ => False)) hb
  have k0 := HX.out.cell 0 (v := .int .i64 P) rfl
  have k1 := HX.out.cell 1 (v := .int .i64 T) rfl
  have k2 := HX.out.cell 2 (v := .int .i64 G) rfl
  clear hb2 hR hS hb hp hT hE
  have hfd := hv_field
  go_enter Tryz.func101, Tryz.ntmps101
  go_wp2_with fail
  generalize ((w.alloc (.cells #[.int .i64 P, .int .i64 T, .int .i64 G] 23)).alloc (.cells #[.int .i64 0, .bool false] 74)) = W at *
  go_at_call 136; refine hW.mono ?_; rintro e y1 ⟨p', t', j', s, rfl, h1, h2, h3, h4, h5, h6⟩
  have HY1 : Hid (Blk y1 (w.heap.size + 1) #[.int .i64 0, .bool false] 74) := HY.out.but h5 (by simp; omega)
  have hU : But [w.heap.size + 1] y1 ((y1.setCell ⟨w.heap.size + 1, 0, none⟩ (.int .i64 p')).setCell ⟨w.heap.size + 1, 1, none⟩ (.bool false)) := ((But.refl _ y1).set (g := w.heap.size + 1) (.inl (by simp)) 0 _).set (g := w.heap.size + 1) (.inl (by simp)) 1 _
  have hZ := (HY1.out.set 0 (.int .i64 p')).set 1 (.bool false)
  have HF : Hid (RunOn ((y1.setCell ⟨w.heap.size + 1, 0, none⟩ (.int .i64 p')).setCell ⟨w.heap.size + 1, 1, none⟩ (.bool false)) x A cap m gf (M.rj s0 gf m j') ∧ But [x] w ((y1.setCell ⟨w.heap.size + 1, 0, none⟩ (.int .i64 p')).setCell ⟨w.heap.size + 1, 1, none⟩ (.bool false)) ∧ ((y1.setCell ⟨w.heap.size + 1, 0, none⟩ (.int .i64 p')).setCell ⟨w.heap.size + 1, 1, none⟩ (.bool false)).heap[w.heap.size + 1]? = some (.cells #[.int .i64 p', .bool false] 74 (0, 0))) := ⟨h1.but hU (by simp; omega) HGA.out, But.lowk (HB.out.trans h5) hU (by omega), hZ.heap⟩
  have HS : Hid (Syn M s0 gf m j' (emb (.ovP s)) (fun q => ∃ s' a, (wsPM P T p false true).ax s' = some a ∧ q = emb (.runP s') ∧ p' = s'.holds p) ∧ (j' ≤ m → p' = s.holds p) ∧ j ≤ j') := ⟨(h2.as (fun _ => if_neg (by rw [h3]; simp))).weak (fun q h => by
    rcases h with ⟨hf, -⟩ | ⟨s', a, e1, e2, e3, -⟩
    · exact hf.elim
    · exact ⟨s', a, e1, e2.trans (if_pos (by rw [e1]; rfl)), e3⟩), fun h => (h4 h).1, h6⟩
  have c0 := HY1.out.cell 0 (v := .int .i64 0) rfl
  have c1 := HY1.out.cell 1 (v := .bool false) rfl
  have f0 := HY1.out.fro 0
  have f1 := HY1.out.fro 1
  clear hW h1 h2 h3 h4 h5 h6 hU hZ k0 k1 k2 HX HY HB HGA
  go_wp2_with fail
  generalize ((y1.setCell ⟨w.heap.size + 1, 0, none⟩ (.int .i64 p')).setCell ⟨w.heap.size + 1, 1, none⟩ (.bool false)) = y2 at *
  refine bodyPost_ret (v := .agg #[.int .i64 p', .bool false]) (results_cell_row rfl _ _ (w.heap.size + 1) 74 #[.int .i64 p', .bool false] _ _ rfl HF.out.2.2 Tryz.underlying74 rfl (by kernel_rfl)) rfl ?_
  exact ⟨p', j', s, rfl, HF.out.1, HS.out.1, HS.out.2.1, HF.out.2.1, HS.out.2.2⟩
set_option maxHeartbeats 4000000 in
theorem syn_hvsS {σ : Type} {M : PM σ} {P T G who p : Int} {emb : HvT → σ} (hE : PmIn M (hvPM P T who p) emb) (hp : 0 ≤ P ∧ P ≤ 64) (hT : 0 ≤ T ∧ T ≤ 65536)
    {w : World} {x : Nat} {A : Option Addr} {cap m : Nat} {gf : Nat → Int} {s0 : σ} {j : Nat} {Q : σ → Prop} (hR : RunOn w x A cap m gf (M.rj s0 gf m j)) (hS : Syn M s0 gf m j (emb (.runS (.get .ld))) Q) (hj : j ≤ m) (hb : ∀ j, j < m → 0 ≤ gf j ∧ gf j ≤ 18446744073709551615) :
    Calls Tryz.prog 101 #[.pointer (some ⟨x, 0, none⟩), .agg #[.int .i64 P, .int .i64 T, .int .i64 G], .int .i64 p, .bool true] w fun e w' => ∃ hd j' s, e = .returned (.agg #[.int .i64 hd, .bool false]) ∧ RunOn w' x A cap m gf (M.rj s0 gf m j') ∧ Syn M s0 gf m j' (emb (.ovS s)) (fun q => ∃ s' a, (wsPM P T p true true).ax s' = some a ∧ q = emb (.runS s') ∧ hd = s'.holds p) ∧ (j' ≤ m → hd = s.holds p) ∧ But [x] w w' ∧ j ≤ j' := by
  have hb2 : Below w.heap.size w ((w.alloc (.cells #[.int .i64 P, .int .i64 T, .int .i64 G] 23)).alloc (.cells #[.int .i64 0, .bool false] 74)) := ((Below.refl _ _).alloc (Nat.le_refl _) _).alloc (by rw [World.size_alloc]; omega) _
  have HX : Hid (Blk ((w.alloc (.cells #[.int .i64 P, .int .i64 T, .int .i64 G] 23)).alloc (.cells #[.int .i64 0, .bool false] 74)) w.heap.size #[.int .i64 P, .int .i64 T, .int .i64 G] 23) := (Blk.new w #[.int .i64 P, .int .i64 T, .int .i64 G] 23).al _
  have HY : Hid (Blk ((w.alloc (.cells #[.int .i64 P, .int .i64 T, .int .i64 G] 23)).alloc (.cells #[.int .i64 0, .bool false] 74)) (w.heap.size + 1) #[.int .i64 0, .bool false] 74) := by
    have := Blk.new (w.alloc (.cells #[.int .i64 P, .int .i64 T, .int .i64 G] 23)) #[.int .i64 0, .bool false] 74
    rw [World.size_alloc] at this
    exact this
  have hxw := hR.blk.lt
  have HGA : Hid (GotFar A [w.heap.size + 1]) := fun b e hm => by
    simp at hm
    rcases hR.got.form with ⟨e0, _⟩ | ⟨gb, e0, hl⟩
    · rw [e0] at e; cases e
    · rw [e0] at e; cases e; omega
  have HB : Hid (But [x] w ((w.alloc (.cells #[.int .i64 P, .int .i64 T, .int .i64 G] 23)).alloc (.cells #[.int .i64 0, .bool false] 74))) := But.of_below hb2
  have hW := syn_wstart (G := G) (hv_wsSIn hE) hp hT (hR.below hb2) (hS.resetv hj (fun _ => False) : Syn M s0 gf m j (hvSS P T p emb (.get .ld)) (fun _ => False)) hb
  have k0 := HX.out.cell 0 (v := .int .i64 P) rfl
  have k1 := HX.out.cell 1 (v := .int .i64 T) rfl
  have k2 := HX.out.cell 2 (v := .int .i64 G) rfl
  clear hb2 hR hS hb hp hT hE
  have hfd := hv_field
  go_enter Tryz.func101, Tryz.ntmps101
  go_wp2_with fail
  generalize ((w.alloc (.cells #[.int .i64 P, .int .i64 T, .int .i64 G] 23)).alloc (.cells #[.int .i64 0, .bool false] 74)) = W at *
  go_at_call 136; refine hW.mono ?_; rintro e y1 ⟨p', t', j', s, rfl, h1, h2, h3, h4, h5, h6⟩
  have HY1 : Hid (Blk y1 (w.heap.size + 1) #[.int .i64 0, .bool false] 74) := HY.out.but h5 (by simp; omega)
  have hU : But [w.heap.size + 1] y1 ((y1.setCell ⟨w.heap.size + 1, 0, none⟩ (.int .i64 p')).setCell ⟨w.heap.size + 1, 1, none⟩ (.bool false)) := ((But.refl _ y1).set (g := w.heap.size + 1) (.inl (by simp)) 0 _).set (g := w.heap.size + 1) (.inl (by simp)) 1 _
  have hZ := (HY1.out.set 0 (.int .i64 p')).set 1 (.bool false)
  have HF : Hid (RunOn ((y1.setCell ⟨w.heap.size + 1, 0, none⟩ (.int .i64 p')).setCell ⟨w.heap.size + 1, 1, none⟩ (.bool false)) x A cap m gf (M.rj s0 gf m j') ∧ But [x] w ((y1.setCell ⟨w.heap.size + 1, 0, none⟩ (.int .i64 p')).setCell ⟨w.heap.size + 1, 1, none⟩ (.bool false)) ∧ ((y1.setCell ⟨w.heap.size + 1, 0, none⟩ (.int .i64 p')).setCell ⟨w.heap.size + 1, 1, none⟩ (.bool false)).heap[w.heap.size + 1]? = some (.cells #[.int .i64 p', .bool false] 74 (0, 0))) := ⟨h1.but hU (by simp; omega) HGA.out, But.lowk (HB.out.trans h5) hU (by omega), hZ.heap⟩
  have HS : Hid (Syn M s0 gf m j' (emb (.ovS s)) (fun q => ∃ s' a, (wsPM P T p true true).ax s' = some a ∧ q = emb (.runS s') ∧ p' = s'.holds p) ∧ (j' ≤ m → p' = s.holds p) ∧ j ≤ j') := ⟨(h2.as (fun _ => if_neg (by rw [h3]; simp))).weak (fun q h => by
    rcases h with ⟨hf, -⟩ | ⟨s', a, e1, e2, e3, -⟩
    · exact hf.elim
    · exact ⟨s', a, e1, e2.trans (if_pos (by rw [e1]; rfl)), e3⟩), fun h => (h4 h).1, h6⟩
  have c0 := HY1.out.cell 0 (v := .int .i64 0) rfl
  have c1 := HY1.out.cell 1 (v := .bool false) rfl
  have f0 := HY1.out.fro 0
  have f1 := HY1.out.fro 1
  clear hW h1 h2 h3 h4 h5 h6 hU hZ k0 k1 k2 HX HY HB HGA
  go_wp2_with fail
  generalize ((y1.setCell ⟨w.heap.size + 1, 0, none⟩ (.int .i64 p')).setCell ⟨w.heap.size + 1, 1, none⟩ (.bool false)) = y2 at *
  refine bodyPost_ret (v := .agg #[.int .i64 p', .bool false]) (results_cell_row rfl _ _ (w.heap.size + 1) 74 #[.int .i64 p', .bool false] _ _ rfl HF.out.2.2 Tryz.underlying74 rfl (by kernel_rfl)) rfl ?_
  exact ⟨p', j', s, rfl, HF.out.1, HS.out.1, HS.out.2.1, HF.out.2.1, HS.out.2.2⟩
set_option maxHeartbeats 8000000 in
theorem syn_hvlocked {σ : Type} {M : PM σ} {P T G who p : Int} {emb : HvT → σ} (hE : PmIn M (hvPM P T who p) emb) (hp : 0 ≤ P ∧ P ≤ 64) (hT : 0 ≤ T ∧ T ≤ 65536) (hw : 0 ≤ who ∧ who ≤ 300)
    {w : World} {x : Nat} {A : Option Addr} {cap m : Nat} {gf : Nat → Int} {s0 : σ} {j : Nat} {Q : σ → Prop} (hR : RunOn w x A cap m gf (M.rj s0 gf m j)) (hS : Syn M s0 gf m j (hvAL emb .fresh) Q) (hb : ∀ j, j < m → 0 ≤ gf j ∧ gf j ≤ 18446744073709551615) (hsw : SwOk M s0 gf m) :
    Calls Tryz.prog 102 #[.pointer (some ⟨x, 0, none⟩), .agg #[.int .i64 P, .int .i64 T, .int .i64 G], .int .i64 who, .int .i64 p] w fun e w' => HvGot M emb P T who p w x A cap m gf s0 Q j e w' := by
  have hxw := hR.blk.lt
  have HH : Hid (HdAt w (((w.alloc (.cells #[.int .i64 P, .int .i64 T, .int .i64 G] 23)).alloc (.cells #[.int .i64 0, .bool false] 74)).alloc (.cells #[.int .i64 p, .bool false] 74)) x A cap m gf M s0 j j (hvAL emb .fresh) Q #[.int .i64 P, .int .i64 T, .int .i64 G] 74 #[.int .i64 0, .bool false] (w.heap.size + 1 + 1) #[.int .i64 p, .bool false]) := by
    have b1 : Below w.heap.size w (w.alloc (.cells #[.int .i64 P, .int .i64 T, .int .i64 G] 23)) := (Below.refl _ _).alloc (Nat.le_refl _) _
    have b2 : Below w.heap.size w ((w.alloc (.cells #[.int .i64 P, .int .i64 T, .int .i64 G] 23)).alloc (.cells #[.int .i64 0, .bool false] 74)) := b1.alloc (by rw [World.size_alloc]; omega) _
    have b3 : Below w.heap.size w (((w.alloc (.cells #[.int .i64 P, .int .i64 T, .int .i64 G] 23)).alloc (.cells #[.int .i64 0, .bool false] 74)).alloc (.cells #[.int .i64 p, .bool false] 74)) := b2.alloc (by rw [World.size_alloc, World.size_alloc]; omega) _
    have c1 := Blk.new w #[.int .i64 P, .int .i64 T, .int .i64 G] 23
    have c2 := Blk.new (w.alloc (.cells #[.int .i64 P, .int .i64 T, .int .i64 G] 23)) #[.int .i64 0, .bool false] 74
    have c3 := Blk.new ((w.alloc (.cells #[.int .i64 P, .int .i64 T, .int .i64 G] 23)).alloc (.cells #[.int .i64 0, .bool false] 74)) #[.int .i64 p, .bool false] 74
    rw [World.size_alloc] at c2
    rw [World.size_alloc, World.size_alloc] at c3
    refine ⟨hR.below b3, hS, But.of_below b3, (c1.al _).al _, c2.al _, c3, by omega, hxw, fun b e hm => ?_, Nat.le_refl _⟩
    simp at hm
    rcases hR.got.form with ⟨e0, _⟩ | ⟨gb, e0, hl⟩
    · rw [e0] at e; cases e
    · rw [e0] at e; cases e; omega
  have HE : Hid (PmIn M (hvPM P T who p) emb) := hE
  have HBD : Hid (∀ j, j < m → 0 ≤ gf j ∧ gf j ≤ 18446744073709551615) := hb
  have HSW : Hid (SwOk M s0 gf m) := hsw
  have HP : Hid ((0 ≤ P ∧ P ≤ 64) ∧ (0 ≤ T ∧ T ≤ 65536) ∧ (0 ≤ who ∧ who ≤ 300)) := ⟨hp, hT, hw⟩
  have HH0 : Hid (HdAt w (((w.alloc (.cells #[.int .i64 P, .int .i64 T, .int .i64 G] 23)).alloc (.cells #[.int .i64 0, .bool false] 74)).alloc (.cells #[.int .i64 p, .bool false] 74)) x A cap m gf M s0 j j (hvAL emb .fresh) (HvQ Q emb P T who p p false) #[.int .i64 P, .int .i64 T, .int .i64 G] 74 #[.int .i64 0, .bool false] (w.heap.size + 1 + 1) #[.int .i64 p, .bool false]) := HH.out.as (HH.out.syn.weak (fun q h => .inl ⟨h, rfl, rfl⟩))
  clear hR hS hb hp hT hw hE hsw HH
  generalize hWW : (((w.alloc (.cells #[.int .i64 P, .int .i64 T, .int .i64 G] 23)).alloc (.cells #[.int .i64 0, .bool false] 74)).alloc (.cells #[.int .i64 p, .bool false] 74)) = W at *
  have HWW : Hid (_ = W) := hWW; clear hWW
  go_enter Tryz.func102, Tryz.ntmps102
  go_wp2_with fail
  try rw [HWW.out]
  clear HWW
  try go_wp2_with fail
  have hAc := syn_acquire (hv_acqLIn HE.out) (by omega) HP.out.2.2 HH0.out.run HH0.out.syn HBD.out
  try go_wp2_with fail
  go_at_call 93; refine hAc.mono ?_; rintro e y1 ⟨⟨uc, rfl⟩, j1, tc, hR1, hS1, hB1, hj1⟩
  have HL1 : Hid (HdAt w y1 x A cap m gf M s0 j j1 (emb .gs2) (HvQ Q emb P T who p p false) #[.int .i64 P, .int .i64 T, .int .i64 G] 74 #[.int .i64 0, .bool false] (w.heap.size + 1 + 1) #[.int .i64 p, .bool false]) := HH0.out.go hR1 (hS1.weak (fun q' h => by
    rcases h with h | ⟨p', hp', h⟩
    · exact h
    · have hb : hvAL emb p' = emb (.acqL p') := by cases p' <;> first | rfl | exact absurd rfl (hp' _)
      obtain ⟨a, ha⟩ : ∃ a, (hvPM P T who p).ax (.acqL p') = some a := by cases p' <;> first | exact ⟨_, rfl⟩ | exact absurd rfl (hp' _)
      exact .inr ⟨.acqL p', a, ha, h.trans hb, rfl, rfl⟩)) hB1 hj1
  clear hAc hR1 hS1 hB1 hj1 HH0
  have hA := syn_load HL1.out.run HL1.out.syn HBD.out 8 (fun _ => HE.out.ax .gs2 _ rfl)
  try go_wp2_with fail
  go_at_call 75; refine hA.mono ?_; rintro e y2 ⟨v, rfl, hK⟩
  have HZ : Hid (m ≤ j1 → v = 0) := hK.zero
  have HL2 : Hid (HdAt w y2 x A cap m gf M s0 j (j1 + 1) (emb (if v = 0 then .ne else .runP (.get .ld))) (HvQ Q emb P T who p p false) #[.int .i64 P, .int .i64 T, .int .i64 G] 74 #[.int .i64 0, .bool false] (w.heap.size + 1 + 1) #[.int .i64 p, .bool false]) := by
    have h := HL1.out.step hK
    rw [HE.out.nx .gs2 _ _ rfl] at h
    exact h.as (h.syn.weak (fun q h => h.elim (fun h => .inr ⟨.gs2, _, rfl, h, rfl, rfl⟩) (fun h => h)))
  clear hA hK HL1
  have sc := HL2.out.stop
  by_cases hst : m < j1 + 1
  · rw [decide_eq_true hst] at sc
    have HST : Hid (m < j1 + 1) := hst
    clear hst
    have r0 := HL2.out.res.cell 0 (v := .int .i64 0) rfl
    have r1 := HL2.out.res.cell 1 (v := .bool false) rfl
    have f0 := HL2.out.res.fro 0
    have f1 := HL2.out.res.fro 1
    have o0 := HL2.out.out.cell 0 (v := .int .i64 p) rfl
    have o1 := HL2.out.out.cell 1 (v := .bool false) rfl
    have HN : Hid _ := HL2.out.ret2 (.int .i64 p) (.bool false) rfl
    go_wp2_with fail
    generalize ((y2.setCell ⟨w.heap.size + 1, 0, none⟩ (.int .i64 p)).setCell ⟨w.heap.size + 1, 1, none⟩ (.bool false)) = yz at *
    refine bodyPost_ret (v := .agg #[.int .i64 p, .bool false]) (results_cell_row rfl _ _ (w.heap.size + 1) 74 #[.int .i64 p, .bool false] _ _ rfl HN.out.2.2 Tryz.underlying74 rfl (by kernel_rfl)) rfl ?_
    exact ⟨p, false, j1 + 1, .ovR .over, rfl, HN.out.1, ⟨fun h => absurd h (by have := HST.out; omega), HL2.out.syn.past⟩, rfl, (fun h => absurd h (by have := HST.out; omega)), HN.out.2.1, HL2.out.le⟩
  · rw [decide_eq_false hst] at sc
    have HST : Hid (j1 + 1 ≤ m) := (by omega : j1 + 1 ≤ m)
    clear hst
    by_cases hv : v = 0
    · subst hv
      have HL3 : Hid (HdAt w y2 x A cap m gf M s0 j (j1 + 1) (emb .ne) (HvQ Q emb P T who p p false) #[.int .i64 P, .int .i64 T, .int .i64 G] 74 #[.int .i64 0, .bool false] (w.heap.size + 1 + 1) #[.int .i64 p, .bool false]) := HL2.out
      clear HL2 HZ HST
      have hA := syn_load HL3.out.run HL3.out.syn HBD.out 14 (fun _ => HE.out.ax .ne _ rfl)
      try go_wp2_with fail
      go_at_call 75; refine hA.mono ?_; rintro e y3 ⟨v2, rfl, hK⟩
      have HZ2 : Hid (m ≤ j1 + 1 → v2 = 0) := hK.zero
      have HL4 : Hid (HdAt w y3 x A cap m gf M s0 j (j1 + 1 + 1) (emb (if v2 = 0 then .put .m0 else .ad)) (HvQ Q emb P T who p p false) #[.int .i64 P, .int .i64 T, .int .i64 G] 74 #[.int .i64 0, .bool false] (w.heap.size + 1 + 1) #[.int .i64 p, .bool false]) := by
        have h := HL3.out.step hK
        rw [HE.out.nx .ne _ _ rfl] at h
        exact h.as (h.syn.weak (fun q h => h.elim (fun h => .inr ⟨.ne, _, rfl, h, rfl, rfl⟩) (fun h => h)))
      clear hA hK HL3
      have sc := HL4.out.stop
      by_cases hst : m < j1 + 1 + 1
      · rw [decide_eq_true hst] at sc
        have HST : Hid (m < j1 + 1 + 1) := hst
        clear hst
        have r0 := HL4.out.res.cell 0 (v := .int .i64 0) rfl
        have r1 := HL4.out.res.cell 1 (v := .bool false) rfl
        have f0 := HL4.out.res.fro 0
        have f1 := HL4.out.res.fro 1
        have o0 := HL4.out.out.cell 0 (v := .int .i64 p) rfl
        have o1 := HL4.out.out.cell 1 (v := .bool false) rfl
        have HN : Hid _ := HL4.out.ret2 (.int .i64 p) (.bool false) rfl
        go_wp2_with fail
        generalize ((y3.setCell ⟨w.heap.size + 1, 0, none⟩ (.int .i64 p)).setCell ⟨w.heap.size + 1, 1, none⟩ (.bool false)) = yz at *
        refine bodyPost_ret (v := .agg #[.int .i64 p, .bool false]) (results_cell_row rfl _ _ (w.heap.size + 1) 74 #[.int .i64 p, .bool false] _ _ rfl HN.out.2.2 Tryz.underlying74 rfl (by kernel_rfl)) rfl ?_
        exact ⟨p, false, j1 + 1 + 1, .ovR .over, rfl, HN.out.1, ⟨fun h => absurd h (by have := HST.out; omega), HL4.out.syn.past⟩, rfl, (fun h => absurd h (by have := HST.out; omega)), HN.out.2.1, HL4.out.le⟩
      · rw [decide_eq_false hst] at sc
        have HST : Hid (j1 + 1 + 1 ≤ m) := (by omega : j1 + 1 + 1 ≤ m)
        clear hst
        by_cases hv2 : v2 = 0
        · subst hv2
          have HL5 : Hid (HdAt w y3 x A cap m gf M s0 j (j1 + 1 + 1) (hvI emb .m0) (HvQ Q emb P T who p p false) #[.int .i64 P, .int .i64 T, .int .i64 G] 74 #[.int .i64 0, .bool false] (w.heap.size + 1 + 1) #[.int .i64 p, .bool false]) := HL4.out
          have hIp := syn_iput (T := T) (G := G) (hv_ipIn HE.out) HP.out.1 HL5.out.run HL5.out.syn HBD.out
          have k0 := HL5.out.cfg.cell 0 (v := .int .i64 P) rfl
          have k1 := HL5.out.cfg.cell 1 (v := .int .i64 T) rfl
          have k2 := HL5.out.cfg.cell 2 (v := .int .i64 G) rfl
          clear HL4 HZ2 HST
          go_wp2_with fail
          go_at_call 156; refine hIp.mono ?_; rintro e y4 ⟨r, j4, rfl, hR4, hS4, hr4, hB4, hj4⟩
          have HY : Hid (HdAt w y4 x A cap m gf M s0 j j4 (hvR emb .fresh) (HvQ Q emb P T who p r false) #[.int .i64 P, .int .i64 T, .int .i64 G] 74 #[.int .i64 0, .bool false] (w.heap.size + 1 + 1) #[.int .i64 p, .bool false]) := HL5.out.go hR4 (hS4.weak (fun q h => by
            rcases h with ⟨h, e1⟩ | ⟨p', h1, h2, h3⟩
            · rw [e1]; exact h
            · have hb : hvI emb p' = emb (.put p') := by cases p' <;> first | rfl | exact absurd rfl h1
              obtain ⟨a, ha⟩ : ∃ a, (hvPM P T who p).ax (.put p') = some a := by cases p' <;> first | exact ⟨_, rfl⟩ | exact absurd rfl h1
              exact .inr ⟨.put p', a, ha, h2.trans hb, h3, rfl⟩)) hB4 hj4
          have HRV : Hid (j4 ≤ m → r = -1) := hr4
          have HL6 : Hid (HdAt w (y4.setCell ⟨w.heap.size + 1 + 1, 0, none⟩ (.int .i64 r)) x A cap m gf M s0 j j4 (hvR emb .fresh) (HvQ Q emb P T who p r false) #[.int .i64 P, .int .i64 T, .int .i64 G] 74 #[.int .i64 0, .bool false] (w.heap.size + 1 + 1) #[.int .i64 r, .bool false]) := HY.out.set 0 (.int .i64 r)
          have q0 := HY.out.out.cell 0 (v := .int .i64 p) rfl
          have g0 := HY.out.out.fro 0
          clear hIp hR4 hS4 hr4 hB4 hj4 HL5 HY k0 k1 k2
          go_wp2_with fail
          clear q0 g0
          generalize (y4.setCell ⟨w.heap.size + 1 + 1, 0, none⟩ (.int .i64 r)) = y5 at *
          have hRl := syn_release (hv_relIn HE.out) (by omega) HL6.out.run HL6.out.syn HBD.out
          try go_wp2_with fail
          go_at_call 95; refine hRl.mono ?_; rintro e y6 ⟨⟨uk, rfl⟩, j6, hR5, hS5, hB5, hj5⟩
          have HL7 : Hid (HdAt w y6 x A cap m gf M s0 j j6 (emb (.ovR .over)) (HvQ Q emb P T who p r false) #[.int .i64 P, .int .i64 T, .int .i64 G] 74 #[.int .i64 0, .bool false] (w.heap.size + 1 + 1) #[.int .i64 r, .bool false]) := HL6.out.go hR5 ⟨hS5.at', fun h => ⟨by
            by_cases h4 : m < j4
            · exact (HL6.out.syn.past h4).1
            · have hh := HRV.out (by omega)
              rcases (hS5.past h).1 with h1 | h1 | h1
              · exact h1
              · exact .inr ⟨.rel .over .fresh, _, rfl, h1, hh, rfl⟩
              · exact .inr ⟨.rel .over .pass, _, rfl, h1, hh, rfl⟩, (hS5.past h).2⟩⟩ hB5 hj5
          have HJ : Hid (j4 ≤ j6) := hj5
          clear hRl hR5 hS5 hB5 hj5 HL6
          have r0 := HL7.out.res.cell 0 (v := .int .i64 0) rfl
          have r1 := HL7.out.res.cell 1 (v := .bool false) rfl
          have f0 := HL7.out.res.fro 0
          have f1 := HL7.out.res.fro 1
          have o0 := HL7.out.out.cell 0 (v := .int .i64 r) rfl
          have o1 := HL7.out.out.cell 1 (v := .bool false) rfl
          have HN : Hid _ := HL7.out.ret2 (.int .i64 r) (.bool false) rfl
          go_wp2_with fail
          generalize ((y6.setCell ⟨w.heap.size + 1, 0, none⟩ (.int .i64 r)).setCell ⟨w.heap.size + 1, 1, none⟩ (.bool false)) = yz at *
          refine bodyPost_ret (v := .agg #[.int .i64 r, .bool false]) (results_cell_row rfl _ _ (w.heap.size + 1) 74 #[.int .i64 r, .bool false] _ _ rfl HN.out.2.2 Tryz.underlying74 rfl (by kernel_rfl)) rfl ?_
          exact ⟨r, false, j6, .ovR .over, rfl, HN.out.1, HL7.out.syn, rfl, (fun h => ⟨HRV.out (Nat.le_trans HJ.out h), rfl⟩), HN.out.2.1, HL7.out.le⟩
        · have hd : (v2 != 0) = true := by simpa using hv2
          have HL5 : Hid (HdAt w y3 x A cap m gf M s0 j (j1 + 1 + 1) (emb .ad) (HvQ Q emb P T who p p false) #[.int .i64 P, .int .i64 T, .int .i64 G] 74 #[.int .i64 0, .bool false] (w.heap.size + 1 + 1) #[.int .i64 p, .bool false]) := HL4.out.as ⟨fun h => (HL4.out.syn.at' h).trans (by rw [if_neg hv2]), fun h => absurd h (by have := HST.out; omega)⟩
          have hA := syn_add HL5.out.run HL5.out.syn HBD.out 13 1 (fun _ => HE.out.ax .ad _ rfl)
          clear HL4 HZ2 hv2 HST
          go_wp2_with fail
          go_at_call 137; refine hA.mono ?_; rintro e y4 ⟨v3, rfl, hK⟩
          have HL6 : Hid (HdAt w y4 x A cap m gf M s0 j (j1 + 1 + 1 + 1) (emb .nd2) (HvQ Q emb P T who p p false) #[.int .i64 P, .int .i64 T, .int .i64 G] 74 #[.int .i64 0, .bool false] (w.heap.size + 1 + 1) #[.int .i64 p, .bool false]) := by
            have h := HL5.out.step hK
            rw [HE.out.nx .ad _ _ rfl] at h
            exact h.as (h.syn.weak (fun q h => h.elim (fun h => .inr ⟨.ad, _, rfl, h, rfl, rfl⟩) (fun h => h)))
          clear hA hK HL5
          have q1 := HL6.out.out.cell 1 (v := .bool false) rfl
          have g1 := HL6.out.out.fro 1
          have hne : w.heap.size + 1 + 1 ≠ x := by have := HL6.out.x; omega
          have sc := HL6.out.stop
          by_cases hst : m < j1 + 1 + 1 + 1
          · rw [decide_eq_true hst] at sc
            have HST : Hid (m < j1 + 1 + 1 + 1) := hst
            clear hst
            have HL7 : Hid (HdAt w (y4.setCell ⟨w.heap.size + 1 + 1, 1, none⟩ (.bool false)) x A cap m gf M s0 j (j1 + 1 + 1 + 1) (emb .nd2) (HvQ Q emb P T who p p false) #[.int .i64 P, .int .i64 T, .int .i64 G] 74 #[.int .i64 0, .bool false] (w.heap.size + 1 + 1) #[.int .i64 p, .bool false]) := HL6.out.set 1 (.bool false)
            clear HL6 hne
            go_wp2_with fail
            clear q1 g1 sc
            generalize (y4.setCell ⟨w.heap.size + 1 + 1, 1, none⟩ (.bool false)) = y5 at *
            have hA := syn_store HL7.out.run HL7.out.syn HBD.out 14 0 (fun _ => HE.out.ax .nd2 _ rfl)
            try go_wp2_with fail
            go_at_call 92; refine hA.mono ?_; rintro e y6 ⟨⟨u6, rfl⟩, v6, hK⟩
            have HST6 : Hid (m < j1 + 1 + 1 + 1 + 1) := (by have := HST.out; omega : m < j1 + 1 + 1 + 1 + 1)
            have HL8 : Hid (HdAt w y6 x A cap m gf M s0 j (j1 + 1 + 1 + 1 + 1) (emb (.ovR .over)) (HvQ Q emb P T who p p false) #[.int .i64 P, .int .i64 T, .int .i64 G] 74 #[.int .i64 0, .bool false] (w.heap.size + 1 + 1) #[.int .i64 p, .bool false]) := (HL7.out.go hK.run ⟨fun h => absurd h (by have := HST6.out; omega), fun h => ⟨(HL7.out.syn.past HST.out).1, (hK.syn.past h).2⟩⟩ hK.but (Nat.le_succ _))
            clear hA hK HL7
            have sc := HL8.out.stop
            rw [decide_eq_true HST6.out] at sc
            have r0 := HL8.out.res.cell 0 (v := .int .i64 0) rfl
            have r1 := HL8.out.res.cell 1 (v := .bool false) rfl
            have f0 := HL8.out.res.fro 0
            have f1 := HL8.out.res.fro 1
            have o0 := HL8.out.out.cell 0 (v := .int .i64 p) rfl
            have o1 := HL8.out.out.cell 1 (v := .bool false) rfl
            have HN : Hid _ := HL8.out.ret2 (.int .i64 p) (.bool false) rfl
            go_wp2_with fail
            generalize ((y6.setCell ⟨w.heap.size + 1, 0, none⟩ (.int .i64 p)).setCell ⟨w.heap.size + 1, 1, none⟩ (.bool false)) = yz at *
            refine bodyPost_ret (v := .agg #[.int .i64 p, .bool false]) (results_cell_row rfl _ _ (w.heap.size + 1) 74 #[.int .i64 p, .bool false] _ _ rfl HN.out.2.2 Tryz.underlying74 rfl (by kernel_rfl)) rfl ?_
            exact ⟨p, false, j1 + 1 + 1 + 1 + 1, .ovR .over, rfl, HN.out.1, ⟨fun h => absurd h (by have := HST6.out; omega), HL8.out.syn.past⟩, rfl, (fun h => absurd h (by have := HST6.out; omega)), HN.out.2.1, HL8.out.le⟩
          · rw [decide_eq_false hst] at sc
            have HST : Hid (j1 + 1 + 1 + 1 ≤ m) := (by omega : j1 + 1 + 1 + 1 ≤ m)
            clear hst
            have HL7 : Hid (HdAt w (y4.setCell ⟨w.heap.size + 1 + 1, 1, none⟩ (.bool true)) x A cap m gf M s0 j (j1 + 1 + 1 + 1) (emb .nd2) (fun _ => False) #[.int .i64 P, .int .i64 T, .int .i64 G] 74 #[.int .i64 0, .bool false] (w.heap.size + 1 + 1) #[.int .i64 p, .bool true]) := (HL6.out.set 1 (.bool true)).as (HL6.out.syn.resetv HST.out _)
            clear HL6 hne HST
            go_wp2_with fail
            clear q1 g1 sc
            generalize (y4.setCell ⟨w.heap.size + 1 + 1, 1, none⟩ (.bool true)) = y5 at *
            have hA := syn_store HL7.out.run HL7.out.syn HBD.out 14 0 (fun _ => HE.out.ax .nd2 _ rfl)
            try go_wp2_with fail
            go_at_call 92; refine hA.mono ?_; rintro e y6 ⟨⟨u6, rfl⟩, v6, hK⟩
            have HL8 : Hid (HdAt w y6 x A cap m gf M s0 j (j1 + 1 + 1 + 1 + 1) (emb (.runS (.get .ld))) (HvQ Q emb P T who p p true) #[.int .i64 P, .int .i64 T, .int .i64 G] 74 #[.int .i64 0, .bool false] (w.heap.size + 1 + 1) #[.int .i64 p, .bool true]) := by
              have h := HL7.out.step hK
              rw [HE.out.nx .nd2 _ _ rfl] at h
              exact h.as (h.syn.weak (fun q h => h.elim (fun h => .inr ⟨.nd2, _, rfl, h, rfl, rfl⟩) (fun h => h.elim)))
            clear hA hK HL7
            have sc := HL8.out.stop
            by_cases hst : m < j1 + 1 + 1 + 1 + 1
            · rw [decide_eq_true hst] at sc
              have HST : Hid (m < j1 + 1 + 1 + 1 + 1) := hst
              clear hst
              have r0 := HL8.out.res.cell 0 (v := .int .i64 0) rfl
              have r1 := HL8.out.res.cell 1 (v := .bool false) rfl
              have f0 := HL8.out.res.fro 0
              have f1 := HL8.out.res.fro 1
              have o0 := HL8.out.out.cell 0 (v := .int .i64 p) rfl
              have o1 := HL8.out.out.cell 1 (v := .bool true) rfl
              have HN : Hid _ := HL8.out.ret2 (.int .i64 p) (.bool true) rfl
              go_wp2_with fail
              generalize ((y6.setCell ⟨w.heap.size + 1, 0, none⟩ (.int .i64 p)).setCell ⟨w.heap.size + 1, 1, none⟩ (.bool true)) = yz at *
              refine bodyPost_ret (v := .agg #[.int .i64 p, .bool true]) (results_cell_row rfl _ _ (w.heap.size + 1) 74 #[.int .i64 p, .bool true] _ _ rfl HN.out.2.2 Tryz.underlying74 rfl (by kernel_rfl)) rfl ?_
              exact ⟨p, true, j1 + 1 + 1 + 1 + 1, .ovR .over, rfl, HN.out.1, ⟨fun h => absurd h (by have := HST.out; omega), HL8.out.syn.past⟩, rfl, (fun h => absurd h (by have := HST.out; omega)), HN.out.2.1, HL8.out.le⟩
            · rw [decide_eq_false hst] at sc
              have HST : Hid (j1 + 1 + 1 + 1 + 1 ≤ m) := (by omega : j1 + 1 + 1 + 1 + 1 ≤ m)
              clear hst
              have HN8 : Hid (HdAt w y6 x A cap m gf M s0 j (j1 + 1 + 1 + 1 + 1) (emb (.runS (.get .ld))) (fun _ => False) #[.int .i64 P, .int .i64 T, .int .i64 G] 74 #[.int .i64 0, .bool false] (w.heap.size + 1 + 1) #[.int .i64 p, .bool true]) := HL8.out.as (HL8.out.syn.resetv HST.out _)
              clear HL8
              have hSt := syn_hvsS (G := G) HE.out HP.out.1 HP.out.2.1 HN8.out.run HN8.out.syn HST.out HBD.out
              have k0 := HN8.out.cfg.cell 0 (v := .int .i64 P) rfl
              have k1 := HN8.out.cfg.cell 1 (v := .int .i64 T) rfl
              have k2 := HN8.out.cfg.cell 2 (v := .int .i64 G) rfl
              try go_wp2_with fail
              go_at_call 101; refine hSt.mono ?_; rintro e yw ⟨hd, jw, sw, rfl, u1, u2, u3, u4, u5⟩
              have HX : Hid (HdAt w yw x A cap m gf M s0 j jw (emb (.ovS sw)) (HvQ Q emb P T who p hd false) #[.int .i64 P, .int .i64 T, .int .i64 G] 74 #[.int .i64 0, .bool false] (w.heap.size + 1 + 1) #[.int .i64 p, .bool true]) := HN8.out.go u1 (u2.weak (fun q h => by
                  obtain ⟨s', a, e1, e2, e3⟩ := h
                  exact .inr ⟨.runS s', a, e1, e2, e3, rfl⟩)) u4 u5
              have HU : Hid (jw ≤ m → hd = sw.holds p) := u3
              clear hSt u1 u2 u3 u4 u5 k0 k1 k2 HN8
              have r0 := HX.out.res.cell 0 (v := .int .i64 0) rfl
              have r1 := HX.out.res.cell 1 (v := .bool false) rfl
              have f0 := HX.out.res.fro 0
              have f1 := HX.out.res.fro 1
              have HN : Hid _ := HX.out.ret2 (.int .i64 hd) (.bool false) rfl
              go_wp2_with fail
              generalize ((yw.setCell ⟨w.heap.size + 1, 0, none⟩ (.int .i64 hd)).setCell ⟨w.heap.size + 1, 1, none⟩ (.bool false)) = yz at *
              refine bodyPost_ret (v := .agg #[.int .i64 hd, .bool false]) (results_cell_row rfl _ _ (w.heap.size + 1) 74 #[.int .i64 hd, .bool false] _ _ rfl HN.out.2.2 Tryz.underlying74 rfl (by kernel_rfl)) rfl ?_
              exact ⟨hd, false, jw, .ovS sw, rfl, HN.out.1, HX.out.syn, rfl, fun h => ⟨HU.out h, rfl⟩, HN.out.2.1, HX.out.le⟩
    · have hd : (v != 0) = true := by simpa using hv
      have HM5 : Hid (HdAt w y2 x A cap m gf M s0 j (j1 + 1) (emb (.runP (.get .ld))) (fun _ => False) #[.int .i64 P, .int .i64 T, .int .i64 G] 74 #[.int .i64 0, .bool false] (w.heap.size + 1 + 1) #[.int .i64 p, .bool false]) := HL2.out.as ⟨fun h => (HL2.out.syn.at' h).trans (by rw [if_neg hv]), fun h => absurd h (by have := HST.out; omega)⟩
      clear HL2 HZ hv
      have hSt := syn_hvsP (G := G) HE.out HP.out.1 HP.out.2.1 HM5.out.run HM5.out.syn HST.out HBD.out
      have k0 := HM5.out.cfg.cell 0 (v := .int .i64 P) rfl
      have k1 := HM5.out.cfg.cell 1 (v := .int .i64 T) rfl
      have k2 := HM5.out.cfg.cell 2 (v := .int .i64 G) rfl
      try go_wp2_with fail
      go_at_call 101; refine hSt.mono ?_; rintro e yw ⟨hd, jw, sw, rfl, u1, u2, u3, u4, u5⟩
      have HX : Hid (HdAt w yw x A cap m gf M s0 j jw (emb (.ovP sw)) (HvQ Q emb P T who p hd false) #[.int .i64 P, .int .i64 T, .int .i64 G] 74 #[.int .i64 0, .bool false] (w.heap.size + 1 + 1) #[.int .i64 p, .bool false]) := HM5.out.go u1 (u2.weak (fun q h => by
          obtain ⟨s', a, e1, e2, e3⟩ := h
          exact .inr ⟨.runP s', a, e1, e2, e3, rfl⟩)) u4 u5
      have HU : Hid (jw ≤ m → hd = sw.holds p) := u3
      clear hSt u1 u2 u3 u4 u5 k0 k1 k2 HM5
      have r0 := HX.out.res.cell 0 (v := .int .i64 0) rfl
      have r1 := HX.out.res.cell 1 (v := .bool false) rfl
      have f0 := HX.out.res.fro 0
      have f1 := HX.out.res.fro 1
      have HN : Hid _ := HX.out.ret2 (.int .i64 hd) (.bool false) rfl
      go_wp2_with fail
      generalize ((yw.setCell ⟨w.heap.size + 1, 0, none⟩ (.int .i64 hd)).setCell ⟨w.heap.size + 1, 1, none⟩ (.bool false)) = yz at *
      refine bodyPost_ret (v := .agg #[.int .i64 hd, .bool false]) (results_cell_row rfl _ _ (w.heap.size + 1) 74 #[.int .i64 hd, .bool false] _ _ rfl HN.out.2.2 Tryz.underlying74 rfl (by kernel_rfl)) rfl ?_
      exact ⟨hd, false, jw, .ovP sw, rfl, HN.out.1, HX.out.syn, rfl, fun h => ⟨HU.out h, rfl⟩, HN.out.2.1, HX.out.le⟩
set_option maxHeartbeats 8000000 in
theorem syn_over {σ : Type} {M : PM σ} {P T G who p : Int} {emb : HvT → σ} (hE : PmIn M (hvPM P T who p) emb) (hp : 0 ≤ P ∧ P ≤ 64) (hT : 0 ≤ T ∧ T ≤ 65536) (hw : 0 ≤ who ∧ who ≤ 300)
    {w : World} {x : Nat} {A : Option Addr} {cap m : Nat} {gf : Nat → Int} {s0 : σ} {j : Nat} {Q : σ → Prop} (hR : RunOn w x A cap m gf (M.rj s0 gf m j)) (hS : Syn M s0 gf m j (hvL P p emb .hd) Q) (hb : ∀ j, j < m → 0 ≤ gf j ∧ gf j ≤ 18446744073709551615) (hsw : SwOk M s0 gf m) :
    Calls Tryz.prog 35 #[.pointer (some ⟨x, 0, none⟩), .agg #[.int .i64 P, .int .i64 T, .int .i64 G], .int .i64 who, .int .i64 p] w fun e w' => HvGot M emb P T who p w x A cap m gf s0 Q j e w' := by
  have hxw := hR.blk.lt
  have HH : Hid (HdAt w (((w.alloc (.cells #[.int .i64 P, .int .i64 T, .int .i64 G] 23)).alloc (.cells #[.int .i64 0, .bool false] 74)).alloc (.cells #[.int .i64 p, .bool false] 74)) x A cap m gf M s0 j j (hvL P p emb .hd) Q #[.int .i64 P, .int .i64 T, .int .i64 G] 74 #[.int .i64 0, .bool false] (w.heap.size + 1 + 1) #[.int .i64 p, .bool false]) := by
    have b1 : Below w.heap.size w (w.alloc (.cells #[.int .i64 P, .int .i64 T, .int .i64 G] 23)) := (Below.refl _ _).alloc (Nat.le_refl _) _
    have b2 : Below w.heap.size w ((w.alloc (.cells #[.int .i64 P, .int .i64 T, .int .i64 G] 23)).alloc (.cells #[.int .i64 0, .bool false] 74)) := b1.alloc (by rw [World.size_alloc]; omega) _
    have b3 : Below w.heap.size w (((w.alloc (.cells #[.int .i64 P, .int .i64 T, .int .i64 G] 23)).alloc (.cells #[.int .i64 0, .bool false] 74)).alloc (.cells #[.int .i64 p, .bool false] 74)) := b2.alloc (by rw [World.size_alloc, World.size_alloc]; omega) _
    have c1 := Blk.new w #[.int .i64 P, .int .i64 T, .int .i64 G] 23
    have c2 := Blk.new (w.alloc (.cells #[.int .i64 P, .int .i64 T, .int .i64 G] 23)) #[.int .i64 0, .bool false] 74
    have c3 := Blk.new ((w.alloc (.cells #[.int .i64 P, .int .i64 T, .int .i64 G] 23)).alloc (.cells #[.int .i64 0, .bool false] 74)) #[.int .i64 p, .bool false] 74
    rw [World.size_alloc] at c2
    rw [World.size_alloc, World.size_alloc] at c3
    refine ⟨hR.below b3, hS, But.of_below b3, (c1.al _).al _, c2.al _, c3, by omega, hxw, fun b e hm => ?_, Nat.le_refl _⟩
    simp at hm
    rcases hR.got.form with ⟨e0, _⟩ | ⟨gb, e0, hl⟩
    · rw [e0] at e; cases e
    · rw [e0] at e; cases e; omega
  have HE : Hid (PmIn M (hvPM P T who p) emb) := hE
  have HBD : Hid (∀ j, j < m → 0 ≤ gf j ∧ gf j ≤ 18446744073709551615) := hb
  have HSW : Hid (SwOk M s0 gf m) := hsw
  have HP : Hid ((0 ≤ P ∧ P ≤ 64) ∧ (0 ≤ T ∧ T ≤ 65536) ∧ (0 ≤ who ∧ who ≤ 300)) := ⟨hp, hT, hw⟩
  have HH0 : Hid (HdAt w (((w.alloc (.cells #[.int .i64 P, .int .i64 T, .int .i64 G] 23)).alloc (.cells #[.int .i64 0, .bool false] 74)).alloc (.cells #[.int .i64 p, .bool false] 74)) x A cap m gf M s0 j j (hvL P p emb .hd) (HvQ Q emb P T who p p false) #[.int .i64 P, .int .i64 T, .int .i64 G] 74 #[.int .i64 0, .bool false] (w.heap.size + 1 + 1) #[.int .i64 p, .bool false]) := HH.out.as (HH.out.syn.weak (fun q h => .inl ⟨h, rfl, rfl⟩))
  clear hR hS hb hp hT hw hE hsw HH
  generalize hWW : (((w.alloc (.cells #[.int .i64 P, .int .i64 T, .int .i64 G] 23)).alloc (.cells #[.int .i64 0, .bool false] 74)).alloc (.cells #[.int .i64 p, .bool false] 74)) = W at *
  have HWW : Hid (_ = W) := hWW; clear hWW
  go_enter Tryz.func35, Tryz.ntmps35
  go_wp2_with fail
  try rw [HWW.out]
  clear HWW
  try go_wp2_with fail
  have hLk := syn_look (T := T) (G := G) (hv_loIn HE.out) HP.out.1 HH0.out.run HH0.out.syn HBD.out
  have k0 := HH0.out.cfg.cell 0 (v := .int .i64 P) rfl
  have k1 := HH0.out.cfg.cell 1 (v := .int .i64 T) rfl
  have k2 := HH0.out.cfg.cell 2 (v := .int .i64 G) rfl
  try go_wp2_with fail
  go_at_call 100; refine hLk.mono ?_; rintro e y1 ⟨em, j1, l1, rfl, hR1, hS1, hl1, he1, hx1, hB1, hj1⟩
  have HV1 : Hid (HdAt w y1 x A cap m gf M s0 j j1 (hvL P p emb l1) (HvQ Q emb P T who p p false) #[.int .i64 P, .int .i64 T, .int .i64 G] 74 #[.int .i64 0, .bool false] (w.heap.size + 1 + 1) #[.int .i64 p, .bool false]) := HH0.out.go hR1 (hS1.weak (fun q h => by
    rcases h with h | ⟨t, a, h1, h2⟩
    · exact h
    · exact .inr ⟨.lk t, a, h1, h2.trans (if_pos (by rw [h1]; rfl)), rfl, rfl⟩)) hB1 hj1
  have HLE : Hid ((loPM P p).ax l1 = none ∧ (j1 ≤ m → em = l1.e)) := ⟨hl1, he1⟩
  clear hLk hR1 hS1 hl1 he1 hx1 hB1 hj1 HH0 k0 k1 k2
  have sc := HV1.out.stop
  by_cases hst : m < j1
  · rw [decide_eq_true hst] at sc
    have HST : Hid (m < j1) := hst
    clear hst
    have r0 := HV1.out.res.cell 0 (v := .int .i64 0) rfl
    have r1 := HV1.out.res.cell 1 (v := .bool false) rfl
    have f0 := HV1.out.res.fro 0
    have f1 := HV1.out.res.fro 1
    have o0 := HV1.out.out.cell 0 (v := .int .i64 p) rfl
    have o1 := HV1.out.out.cell 1 (v := .bool false) rfl
    have HN : Hid _ := HV1.out.ret2 (.int .i64 p) (.bool false) rfl
    go_wp2_with fail
    generalize ((y1.setCell ⟨w.heap.size + 1, 0, none⟩ (.int .i64 p)).setCell ⟨w.heap.size + 1, 1, none⟩ (.bool false)) = yz at *
    refine bodyPost_ret (v := .agg #[.int .i64 p, .bool false]) (results_cell_row rfl _ _ (w.heap.size + 1) 74 #[.int .i64 p, .bool false] _ _ rfl HN.out.2.2 Tryz.underlying74 rfl (by kernel_rfl)) rfl ?_
    exact ⟨p, false, j1, .ovR .over, rfl, HN.out.1, ⟨fun h => absurd h (by have := HST.out; omega), HV1.out.syn.past⟩, rfl, (fun h => absurd h (by have := HST.out; omega)), HN.out.2.1, HV1.out.le⟩
  · rw [decide_eq_false hst] at sc
    have HST : Hid (j1 ≤ m) := (by omega : j1 ≤ m)
    clear hst
    cases em
    · have HV2 : Hid (HdAt w y1 x A cap m gf M s0 j j1 (hvAP emb .fresh) (HvQ Q emb P T who p p false) #[.int .i64 P, .int .i64 T, .int .i64 G] 74 #[.int .i64 0, .bool false] (w.heap.size + 1 + 1) #[.int .i64 p, .bool false]) := HV1.out.as ⟨fun h => (HV1.out.syn.at' h).trans ((if_neg (by rw [HLE.out.1]; simp)).trans (if_neg (by rw [← HLE.out.2 h]; simp))), HV1.out.syn.past⟩
      have sc := HV2.out.stop
      rw [decide_eq_false (by have := HST.out; omega)] at sc
      clear HV1 HLE HST
      go_wp2_with fail
      clear sc
      have hAc := syn_acquire (hv_acqPIn HE.out) (by omega) HP.out.2.2 HV2.out.run HV2.out.syn HBD.out
      try go_wp2_with fail
      go_at_call 93; refine hAc.mono ?_; rintro e ya ⟨⟨uc, rfl⟩, ja, tc, hR1, hS1, hB1, hj1⟩
      have HV5b : Hid (HdAt w ya x A cap m gf M s0 j ja (emb (.runP (.get .ld))) (HvQ Q emb P T who p p false) #[.int .i64 P, .int .i64 T, .int .i64 G] 74 #[.int .i64 0, .bool false] (w.heap.size + 1 + 1) #[.int .i64 p, .bool false]) := HV2.out.go hR1 (hS1.weak (fun q' h => by
        rcases h with h | ⟨p', hp', h⟩
        · exact h
        · have hb : hvAP emb p' = emb (.acqP p') := by cases p' <;> first | rfl | exact absurd rfl (hp' _)
          obtain ⟨a, ha⟩ : ∃ a, (hvPM P T who p).ax (.acqP p') = some a := by cases p' <;> first | exact ⟨_, rfl⟩ | exact absurd rfl (hp' _)
          exact .inr ⟨.acqP p', a, ha, h.trans hb, rfl, rfl⟩)) hB1 hj1
      clear hAc hR1 hS1 hB1 hj1 HV2
      have sc := HV5b.out.stop
      by_cases hst : m < ja
      · rw [decide_eq_true hst] at sc
        have HST : Hid (m < ja) := hst
        clear hst
        have r0 := HV5b.out.res.cell 0 (v := .int .i64 0) rfl
        have r1 := HV5b.out.res.cell 1 (v := .bool false) rfl
        have f0 := HV5b.out.res.fro 0
        have f1 := HV5b.out.res.fro 1
        have o0 := HV5b.out.out.cell 0 (v := .int .i64 p) rfl
        have o1 := HV5b.out.out.cell 1 (v := .bool false) rfl
        have HN : Hid _ := HV5b.out.ret2 (.int .i64 p) (.bool false) rfl
        go_wp2_with fail
        generalize ((ya.setCell ⟨w.heap.size + 1, 0, none⟩ (.int .i64 p)).setCell ⟨w.heap.size + 1, 1, none⟩ (.bool false)) = yz at *
        refine bodyPost_ret (v := .agg #[.int .i64 p, .bool false]) (results_cell_row rfl _ _ (w.heap.size + 1) 74 #[.int .i64 p, .bool false] _ _ rfl HN.out.2.2 Tryz.underlying74 rfl (by kernel_rfl)) rfl ?_
        exact ⟨p, false, ja, .ovR .over, rfl, HN.out.1, ⟨fun h => absurd h (by have := HST.out; omega), HV5b.out.syn.past⟩, rfl, (fun h => absurd h (by have := HST.out; omega)), HN.out.2.1, HV5b.out.le⟩
      · rw [decide_eq_false hst] at sc
        have HST : Hid (ja ≤ m) := (by omega : ja ≤ m)
        clear hst
        have HV5 : Hid (HdAt w ya x A cap m gf M s0 j ja (emb (.runP (.get .ld))) (fun _ => False) #[.int .i64 P, .int .i64 T, .int .i64 G] 74 #[.int .i64 0, .bool false] (w.heap.size + 1 + 1) #[.int .i64 p, .bool false]) := HV5b.out.as (HV5b.out.syn.resetv HST.out _)
        clear HV5b
        have hSt := syn_hvsP (G := G) HE.out HP.out.1 HP.out.2.1 HV5.out.run HV5.out.syn HST.out HBD.out
        have k0 := HV5.out.cfg.cell 0 (v := .int .i64 P) rfl
        have k1 := HV5.out.cfg.cell 1 (v := .int .i64 T) rfl
        have k2 := HV5.out.cfg.cell 2 (v := .int .i64 G) rfl
        try go_wp2_with fail
        go_at_call 101; refine hSt.mono ?_; rintro e yw ⟨hd, jw, sw, rfl, u1, u2, u3, u4, u5⟩
        have HX : Hid (HdAt w yw x A cap m gf M s0 j jw (emb (.ovP sw)) (HvQ Q emb P T who p hd false) #[.int .i64 P, .int .i64 T, .int .i64 G] 74 #[.int .i64 0, .bool false] (w.heap.size + 1 + 1) #[.int .i64 p, .bool false]) := HV5.out.go u1 (u2.weak (fun q h => by
            obtain ⟨s', a, e1, e2, e3⟩ := h
            exact .inr ⟨.runP s', a, e1, e2, e3, rfl⟩)) u4 u5
        have HU : Hid (jw ≤ m → hd = sw.holds p) := u3
        clear hSt u1 u2 u3 u4 u5 k0 k1 k2 HV5
        have r0 := HX.out.res.cell 0 (v := .int .i64 0) rfl
        have r1 := HX.out.res.cell 1 (v := .bool false) rfl
        have f0 := HX.out.res.fro 0
        have f1 := HX.out.res.fro 1
        have HN : Hid _ := HX.out.ret2 (.int .i64 hd) (.bool false) rfl
        go_wp2_with fail
        generalize ((yw.setCell ⟨w.heap.size + 1, 0, none⟩ (.int .i64 hd)).setCell ⟨w.heap.size + 1, 1, none⟩ (.bool false)) = yz at *
        refine bodyPost_ret (v := .agg #[.int .i64 hd, .bool false]) (results_cell_row rfl _ _ (w.heap.size + 1) 74 #[.int .i64 hd, .bool false] _ _ rfl HN.out.2.2 Tryz.underlying74 rfl (by kernel_rfl)) rfl ?_
        exact ⟨hd, false, jw, .ovP sw, rfl, HN.out.1, HX.out.syn, rfl, fun h => ⟨HU.out h, rfl⟩, HN.out.2.1, HX.out.le⟩
    · have HV2 : Hid (HdAt w y1 x A cap m gf M s0 j j1 (emb .gs) (HvQ Q emb P T who p p false) #[.int .i64 P, .int .i64 T, .int .i64 G] 74 #[.int .i64 0, .bool false] (w.heap.size + 1 + 1) #[.int .i64 p, .bool false]) := HV1.out.as ⟨fun h => (HV1.out.syn.at' h).trans ((if_neg (by rw [HLE.out.1]; simp)).trans (if_pos (HLE.out.2 h).symm)), HV1.out.syn.past⟩
      clear HV1 HLE HST
      have hA := syn_load HV2.out.run HV2.out.syn HBD.out 8 (fun _ => HE.out.ax .gs _ rfl)
      try go_wp2_with fail
      go_at_call 75; refine hA.mono ?_; rintro e y2 ⟨v, rfl, hK⟩
      have HZ : Hid (m ≤ j1 → v = 0) := hK.zero
      have HV3 : Hid (HdAt w y2 x A cap m gf M s0 j (j1 + 1) (emb (if v = 0 then .sp else .acqP .fresh)) (HvQ Q emb P T who p p false) #[.int .i64 P, .int .i64 T, .int .i64 G] 74 #[.int .i64 0, .bool false] (w.heap.size + 1 + 1) #[.int .i64 p, .bool false]) := by
        have h := HV2.out.step hK
        rw [HE.out.nx .gs _ _ rfl] at h
        exact h.as (h.syn.weak (fun q h => h.elim (fun h => .inr ⟨.gs, _, rfl, h, rfl, rfl⟩) (fun h => h)))
      clear hA hK HV2
      have sc := HV3.out.stop
      by_cases hst : m < j1 + 1
      · rw [decide_eq_true hst] at sc
        have HST : Hid (m < j1 + 1) := hst
        clear hst
        by_cases hv : v = 0
        · subst hv
          clear HZ
          have r0 := HV3.out.res.cell 0 (v := .int .i64 0) rfl
          have r1 := HV3.out.res.cell 1 (v := .bool false) rfl
          have f0 := HV3.out.res.fro 0
          have f1 := HV3.out.res.fro 1
          have o0 := HV3.out.out.cell 0 (v := .int .i64 p) rfl
          have o1 := HV3.out.out.cell 1 (v := .bool false) rfl
          have HN : Hid _ := HV3.out.ret2 (.int .i64 p) (.bool false) rfl
          go_wp2_with fail
          generalize ((y2.setCell ⟨w.heap.size + 1, 0, none⟩ (.int .i64 p)).setCell ⟨w.heap.size + 1, 1, none⟩ (.bool false)) = yz at *
          refine bodyPost_ret (v := .agg #[.int .i64 p, .bool false]) (results_cell_row rfl _ _ (w.heap.size + 1) 74 #[.int .i64 p, .bool false] _ _ rfl HN.out.2.2 Tryz.underlying74 rfl (by kernel_rfl)) rfl ?_
          exact ⟨p, false, j1 + 1, .ovR .over, rfl, HN.out.1, ⟨fun h => absurd h (by have := HST.out; omega), HV3.out.syn.past⟩, rfl, (fun h => absurd h (by have := HST.out; omega)), HN.out.2.1, HV3.out.le⟩
        · exact absurd (HZ.out (by have := HST.out; omega)) hv
      · rw [decide_eq_false hst] at sc
        have HST : Hid (j1 + 1 ≤ m) := (by omega : j1 + 1 ≤ m)
        clear hst
        by_cases hv : v = 0
        · subst hv
          have HV4 : Hid (HdAt w y2 x A cap m gf M s0 j (j1 + 1) (emb .sp) (HvQ Q emb P T who p p false) #[.int .i64 P, .int .i64 T, .int .i64 G] 74 #[.int .i64 0, .bool false] (w.heap.size + 1 + 1) #[.int .i64 p, .bool false]) := HV3.out
          clear HV3 HZ HST
          have hA := syn_load HV4.out.run HV4.out.syn HBD.out 13 (fun _ => HE.out.ax .sp _ rfl)
          try go_wp2_with fail
          go_at_call 75; refine hA.mono ?_; rintro e y3 ⟨v2, rfl, hK⟩
          have HZ2 : Hid (m ≤ j1 + 1 → v2 = 0) := hK.zero
          have HV5 : Hid (HdAt w y3 x A cap m gf M s0 j (j1 + 1 + 1) (emb (if v2 = 0 then .ip else .acqL .fresh)) (HvQ Q emb P T who p p false) #[.int .i64 P, .int .i64 T, .int .i64 G] 74 #[.int .i64 0, .bool false] (w.heap.size + 1 + 1) #[.int .i64 p, .bool false]) := by
            have h := HV4.out.step hK
            rw [HE.out.nx .sp _ _ rfl] at h
            exact h.as (h.syn.weak (fun q h => h.elim (fun h => .inr ⟨.sp, _, rfl, h, rfl, rfl⟩) (fun h => h)))
          clear hA hK HV4
          by_cases hv2 : v2 = 0
          · subst hv2
            have HV6 : Hid (HdAt w y3 x A cap m gf M s0 j (j1 + 1 + 1) (emb .ip) (HvQ Q emb P T who p p false) #[.int .i64 P, .int .i64 T, .int .i64 G] 74 #[.int .i64 0, .bool false] (w.heap.size + 1 + 1) #[.int .i64 p, .bool false]) := HV5.out
            clear HV5 HZ2
            have hA := syn_load HV6.out.run HV6.out.syn HBD.out 10 (fun _ => HE.out.ax .ip _ rfl)
            try go_wp2_with fail
            go_at_call 75; refine hA.mono ?_; rintro e y4 ⟨v3, rfl, hK⟩
            have HZ3 : Hid (m ≤ j1 + 1 + 1 → v3 = 0) := hK.zero
            have HV7 : Hid (HdAt w y4 x A cap m gf M s0 j (j1 + 1 + 1 + 1) (emb (if v3 = 0 then .sw else .acqL .fresh)) (HvQ Q emb P T who p p false) #[.int .i64 P, .int .i64 T, .int .i64 G] 74 #[.int .i64 0, .bool false] (w.heap.size + 1 + 1) #[.int .i64 p, .bool false]) := by
              have h := HV6.out.step hK
              rw [HE.out.nx .ip _ _ rfl] at h
              exact h.as (h.syn.weak (fun q h => h.elim (fun h => .inr ⟨.ip, _, rfl, h, rfl, rfl⟩) (fun h => h)))
            clear hA hK HV6
            by_cases hv3 : v3 = 0
            · subst hv3
              have HV8 : Hid (HdAt w y4 x A cap m gf M s0 j (j1 + 1 + 1 + 1) (emb .sw) (HvQ Q emb P T who p p false) #[.int .i64 P, .int .i64 T, .int .i64 G] 74 #[.int .i64 0, .bool false] (w.heap.size + 1 + 1) #[.int .i64 p, .bool false]) := HV7.out
              clear HV7 HZ3
              have hA := syn_swap HV8.out.run HV8.out.syn HBD.out 13 0 1 (fun _ => HE.out.ax .sw _ rfl)
              try go_wp2_with fail
              go_at_call 77; refine hA.mono ?_; rintro e y5 ⟨v4, rfl, hK⟩
              have HZ4 : Hid (m ≤ j1 + 1 + 1 + 1 → v4 = 0) := hK.zero
              have hv4 : v4 = 0 ∨ v4 = 1 := by
                by_cases hjm : j1 + 1 + 1 + 1 ≤ m
                · exact HSW.out.one HV8.out.syn (by exact HE.out.ax .sw _ rfl) rfl hK.val hK.zero hK.bd.1
                · exact .inl (hK.zero (by omega))
              have HV9 : Hid (HdAt w y5 x A cap m gf M s0 j (j1 + 1 + 1 + 1 + 1) (emb (if v4 = 0 then .acqL .fresh else .nd)) (HvQ Q emb P T who p p false) #[.int .i64 P, .int .i64 T, .int .i64 G] 74 #[.int .i64 0, .bool false] (w.heap.size + 1 + 1) #[.int .i64 p, .bool false]) := by
                have h := HV8.out.step hK
                rw [HE.out.nx .sw _ _ rfl] at h
                exact h.as (h.syn.weak (fun q h => h.elim (fun h => .inr ⟨.sw, _, rfl, h, rfl, rfl⟩) (fun h => h)))
              clear hA hK HV8
              rcases hv4 with rfl | rfl
              · have hz : decide ((0 : Int) = 1) = false := by decide
                have HVA : Hid (HdAt w y5 x A cap m gf M s0 j (j1 + 1 + 1 + 1 + 1) (hvAL emb .fresh) (HvQ Q emb P T who p p false) #[.int .i64 P, .int .i64 T, .int .i64 G] 74 #[.int .i64 0, .bool false] (w.heap.size + 1 + 1) #[.int .i64 p, .bool false]) := HV9.out
                clear HV9 HZ4
                have sc := HVA.out.stop
                by_cases hst : m < j1 + 1 + 1 + 1 + 1
                · rw [decide_eq_true hst] at sc
                  have HST : Hid (m < j1 + 1 + 1 + 1 + 1) := hst
                  clear hst
                  have r0 := HVA.out.res.cell 0 (v := .int .i64 0) rfl
                  have r1 := HVA.out.res.cell 1 (v := .bool false) rfl
                  have f0 := HVA.out.res.fro 0
                  have f1 := HVA.out.res.fro 1
                  have o0 := HVA.out.out.cell 0 (v := .int .i64 p) rfl
                  have o1 := HVA.out.out.cell 1 (v := .bool false) rfl
                  have HN : Hid _ := HVA.out.ret2 (.int .i64 p) (.bool false) rfl
                  go_wp2_with fail
                  generalize ((y5.setCell ⟨w.heap.size + 1, 0, none⟩ (.int .i64 p)).setCell ⟨w.heap.size + 1, 1, none⟩ (.bool false)) = yz at *
                  refine bodyPost_ret (v := .agg #[.int .i64 p, .bool false]) (results_cell_row rfl _ _ (w.heap.size + 1) 74 #[.int .i64 p, .bool false] _ _ rfl HN.out.2.2 Tryz.underlying74 rfl (by kernel_rfl)) rfl ?_
                  exact ⟨p, false, j1 + 1 + 1 + 1 + 1, .ovR .over, rfl, HN.out.1, ⟨fun h => absurd h (by have := HST.out; omega), HVA.out.syn.past⟩, rfl, (fun h => absurd h (by have := HST.out; omega)), HN.out.2.1, HVA.out.le⟩
                · rw [decide_eq_false hst] at sc
                  have HST : Hid (j1 + 1 + 1 + 1 + 1 ≤ m) := (by omega : j1 + 1 + 1 + 1 + 1 ≤ m)
                  clear hst
                  have hLo := syn_hvlocked (G := G) HE.out HP.out.1 HP.out.2.1 HP.out.2.2 HVA.out.run HVA.out.syn HBD.out HSW.out
                  have k0 := HVA.out.cfg.cell 0 (v := .int .i64 P) rfl
                  have k1 := HVA.out.cfg.cell 1 (v := .int .i64 T) rfl
                  have k2 := HVA.out.cfg.cell 2 (v := .int .i64 G) rfl
                  try go_wp2_with fail
                  try clear sc
                  go_at_call 102; refine hLo.mono ?_; rintro e yw ⟨hd, hc, jw, sx, rfl, u1, u2, u3, u4, u5, u6⟩
                  have HX : Hid (HdAt w yw x A cap m gf M s0 j jw (emb sx) (HvQ Q emb P T who p hd hc) #[.int .i64 P, .int .i64 T, .int .i64 G] 74 #[.int .i64 0, .bool false] (w.heap.size + 1 + 1) #[.int .i64 p, .bool false]) := HVA.out.go u1 (u2.weak (fun q h => by
                      rcases h with ⟨h, e1, e2⟩ | h
                      · rw [e1, e2]; exact h
                      · exact .inr h)) u5 u6
                  have HU : Hid ((hvPM P T who p).ax sx = none ∧ (jw ≤ m → hd = sx.holds p ∧ hc = sx.counts)) := ⟨u3, u4⟩
                  clear hLo u1 u2 u3 u4 u5 u6 k0 k1 k2 HVA
                  have r0 := HX.out.res.cell 0 (v := .int .i64 0) rfl
                  have r1 := HX.out.res.cell 1 (v := .bool false) rfl
                  have f0 := HX.out.res.fro 0
                  have f1 := HX.out.res.fro 1
                  have HN : Hid _ := HX.out.ret2 (.int .i64 hd) (.bool hc) rfl
                  go_wp2_with fail
                  generalize ((yw.setCell ⟨w.heap.size + 1, 0, none⟩ (.int .i64 hd)).setCell ⟨w.heap.size + 1, 1, none⟩ (.bool hc)) = yz at *
                  refine bodyPost_ret (v := .agg #[.int .i64 hd, .bool hc]) (results_cell_row rfl _ _ (w.heap.size + 1) 74 #[.int .i64 hd, .bool hc] _ _ rfl HN.out.2.2 Tryz.underlying74 rfl (by kernel_rfl)) rfl ?_
                  exact ⟨hd, hc, jw, sx, rfl, HN.out.1, HX.out.syn, HU.out.1, HU.out.2, HN.out.2.1, HX.out.le⟩
              · have hz : decide ((1 : Int) = 1) = true := by decide
                have HST : Hid (j1 + 1 + 1 + 1 + 1 ≤ m) := by
                  rcases Nat.lt_or_ge (j1 + 1 + 1 + 1) m with h | h
                  · exact h
                  · exact absurd (HZ4.out h) (by decide)
                have q1 := HV9.out.out.cell 1 (v := .bool false) rfl
                have g1 := HV9.out.out.fro 1
                have HVA : Hid (HdAt w (y5.setCell ⟨w.heap.size + 1 + 1, 1, none⟩ (.bool true)) x A cap m gf M s0 j (j1 + 1 + 1 + 1 + 1) (emb .nd) (fun _ => False) #[.int .i64 P, .int .i64 T, .int .i64 G] 74 #[.int .i64 0, .bool false] (w.heap.size + 1 + 1) #[.int .i64 p, .bool true]) := (HV9.out.set 1 (.bool true)).as ⟨fun h => HV9.out.syn.at' h, fun h => absurd h (by have := HST.out; omega)⟩
                clear HV9 HZ4 HST
                go_wp2_with fail
                clear q1 g1
                generalize (y5.setCell ⟨w.heap.size + 1 + 1, 1, none⟩ (.bool true)) = y6 at *
                have hA := syn_store HVA.out.run HVA.out.syn HBD.out 14 0 (fun _ => HE.out.ax .nd _ rfl)
                try go_wp2_with fail
                go_at_call 92; refine hA.mono ?_; rintro e y7 ⟨⟨u7, rfl⟩, v7, hK⟩
                have HVB : Hid (HdAt w y7 x A cap m gf M s0 j (j1 + 1 + 1 + 1 + 1 + 1) (hvAS emb .fresh) (HvQ Q emb P T who p p true) #[.int .i64 P, .int .i64 T, .int .i64 G] 74 #[.int .i64 0, .bool false] (w.heap.size + 1 + 1) #[.int .i64 p, .bool true]) := by
                  have h := HVA.out.step hK
                  rw [HE.out.nx .nd _ _ rfl] at h
                  exact h.as (h.syn.weak (fun q h => h.elim (fun h => .inr ⟨.nd, _, rfl, h, rfl, rfl⟩) (fun h => h.elim)))
                clear hA hK HVA
                have hAc := syn_acquire (hv_acqSIn HE.out) (by omega) HP.out.2.2 HVB.out.run HVB.out.syn HBD.out
                try go_wp2_with fail
                go_at_call 93; refine hAc.mono ?_; rintro e y8 ⟨⟨uc, rfl⟩, j8, tc, hR1, hS1, hB1, hj1⟩
                have HVC : Hid (HdAt w y8 x A cap m gf M s0 j j8 (emb (.runS (.get .ld))) (HvQ Q emb P T who p p true) #[.int .i64 P, .int .i64 T, .int .i64 G] 74 #[.int .i64 0, .bool false] (w.heap.size + 1 + 1) #[.int .i64 p, .bool true]) := HVB.out.go hR1 (hS1.weak (fun q' h => by
                  rcases h with h | ⟨p', hp', h⟩
                  · exact h
                  · have hb : hvAS emb p' = emb (.acqS p') := by cases p' <;> first | rfl | exact absurd rfl (hp' _)
                    obtain ⟨a, ha⟩ : ∃ a, (hvPM P T who p).ax (.acqS p') = some a := by cases p' <;> first | exact ⟨_, rfl⟩ | exact absurd rfl (hp' _)
                    exact .inr ⟨.acqS p', a, ha, h.trans hb, rfl, rfl⟩)) hB1 hj1
                clear hAc hR1 hS1 hB1 hj1 HVB
                have sc := HVC.out.stop
                by_cases hst : m < j8
                · rw [decide_eq_true hst] at sc
                  have HST : Hid (m < j8) := hst
                  clear hst
                  have r0 := HVC.out.res.cell 0 (v := .int .i64 0) rfl
                  have r1 := HVC.out.res.cell 1 (v := .bool false) rfl
                  have f0 := HVC.out.res.fro 0
                  have f1 := HVC.out.res.fro 1
                  have o0 := HVC.out.out.cell 0 (v := .int .i64 p) rfl
                  have o1 := HVC.out.out.cell 1 (v := .bool true) rfl
                  have HN : Hid _ := HVC.out.ret2 (.int .i64 p) (.bool true) rfl
                  go_wp2_with fail
                  generalize ((y8.setCell ⟨w.heap.size + 1, 0, none⟩ (.int .i64 p)).setCell ⟨w.heap.size + 1, 1, none⟩ (.bool true)) = yz at *
                  refine bodyPost_ret (v := .agg #[.int .i64 p, .bool true]) (results_cell_row rfl _ _ (w.heap.size + 1) 74 #[.int .i64 p, .bool true] _ _ rfl HN.out.2.2 Tryz.underlying74 rfl (by kernel_rfl)) rfl ?_
                  exact ⟨p, true, j8, .ovR .over, rfl, HN.out.1, ⟨fun h => absurd h (by have := HST.out; omega), HVC.out.syn.past⟩, rfl, (fun h => absurd h (by have := HST.out; omega)), HN.out.2.1, HVC.out.le⟩
                · rw [decide_eq_false hst] at sc
                  have HST : Hid (j8 ≤ m) := (by omega : j8 ≤ m)
                  clear hst
                  have HS9 : Hid (HdAt w y8 x A cap m gf M s0 j j8 (emb (.runS (.get .ld))) (fun _ => False) #[.int .i64 P, .int .i64 T, .int .i64 G] 74 #[.int .i64 0, .bool false] (w.heap.size + 1 + 1) #[.int .i64 p, .bool true]) := HVC.out.as (HVC.out.syn.resetv HST.out _)
                  clear HVC
                  have hSt := syn_hvsS (G := G) HE.out HP.out.1 HP.out.2.1 HS9.out.run HS9.out.syn HST.out HBD.out
                  have k0 := HS9.out.cfg.cell 0 (v := .int .i64 P) rfl
                  have k1 := HS9.out.cfg.cell 1 (v := .int .i64 T) rfl
                  have k2 := HS9.out.cfg.cell 2 (v := .int .i64 G) rfl
                  try go_wp2_with fail
                  go_at_call 101; refine hSt.mono ?_; rintro e yw ⟨hd, jw, sw, rfl, u1, u2, u3, u4, u5⟩
                  have HX : Hid (HdAt w yw x A cap m gf M s0 j jw (emb (.ovS sw)) (HvQ Q emb P T who p hd false) #[.int .i64 P, .int .i64 T, .int .i64 G] 74 #[.int .i64 0, .bool false] (w.heap.size + 1 + 1) #[.int .i64 p, .bool true]) := HS9.out.go u1 (u2.weak (fun q h => by
                      obtain ⟨s', a, e1, e2, e3⟩ := h
                      exact .inr ⟨.runS s', a, e1, e2, e3, rfl⟩)) u4 u5
                  have HU : Hid (jw ≤ m → hd = sw.holds p) := u3
                  clear hSt u1 u2 u3 u4 u5 k0 k1 k2 HS9
                  have r0 := HX.out.res.cell 0 (v := .int .i64 0) rfl
                  have r1 := HX.out.res.cell 1 (v := .bool false) rfl
                  have f0 := HX.out.res.fro 0
                  have f1 := HX.out.res.fro 1
                  have HN : Hid _ := HX.out.ret2 (.int .i64 hd) (.bool false) rfl
                  go_wp2_with fail
                  generalize ((yw.setCell ⟨w.heap.size + 1, 0, none⟩ (.int .i64 hd)).setCell ⟨w.heap.size + 1, 1, none⟩ (.bool false)) = yz at *
                  refine bodyPost_ret (v := .agg #[.int .i64 hd, .bool false]) (results_cell_row rfl _ _ (w.heap.size + 1) 74 #[.int .i64 hd, .bool false] _ _ rfl HN.out.2.2 Tryz.underlying74 rfl (by kernel_rfl)) rfl ?_
                  exact ⟨hd, false, jw, .ovS sw, rfl, HN.out.1, HX.out.syn, rfl, fun h => ⟨HU.out h, rfl⟩, HN.out.2.1, HX.out.le⟩
            · have hd3 : (v3 == 0) = false := by simpa using hv3
              have HV8 : Hid (HdAt w y4 x A cap m gf M s0 j (j1 + 1 + 1 + 1) (hvAL emb .fresh) (HvQ Q emb P T who p p false) #[.int .i64 P, .int .i64 T, .int .i64 G] 74 #[.int .i64 0, .bool false] (w.heap.size + 1 + 1) #[.int .i64 p, .bool false]) := HV7.out.as ⟨fun h => (HV7.out.syn.at' h).trans (by rw [if_neg hv3]; rfl), HV7.out.syn.past⟩
              have HST : Hid (j1 + 1 + 1 + 1 ≤ m) := by
                rcases Nat.lt_or_ge (j1 + 1 + 1) m with h | h
                · exact h
                · exact absurd (HZ3.out h) hv3
              have sc := HV8.out.stop
              rw [decide_eq_false (by have := HST.out; omega)] at sc
              clear HV7 HZ3 hv3
              have hLo := syn_hvlocked (G := G) HE.out HP.out.1 HP.out.2.1 HP.out.2.2 HV8.out.run HV8.out.syn HBD.out HSW.out
              have k0 := HV8.out.cfg.cell 0 (v := .int .i64 P) rfl
              have k1 := HV8.out.cfg.cell 1 (v := .int .i64 T) rfl
              have k2 := HV8.out.cfg.cell 2 (v := .int .i64 G) rfl
              try go_wp2_with fail
              try clear sc
              go_at_call 102; refine hLo.mono ?_; rintro e yw ⟨hd, hc, jw, sx, rfl, u1, u2, u3, u4, u5, u6⟩
              have HX : Hid (HdAt w yw x A cap m gf M s0 j jw (emb sx) (HvQ Q emb P T who p hd hc) #[.int .i64 P, .int .i64 T, .int .i64 G] 74 #[.int .i64 0, .bool false] (w.heap.size + 1 + 1) #[.int .i64 p, .bool false]) := HV8.out.go u1 (u2.weak (fun q h => by
                  rcases h with ⟨h, e1, e2⟩ | h
                  · rw [e1, e2]; exact h
                  · exact .inr h)) u5 u6
              have HU : Hid ((hvPM P T who p).ax sx = none ∧ (jw ≤ m → hd = sx.holds p ∧ hc = sx.counts)) := ⟨u3, u4⟩
              clear hLo u1 u2 u3 u4 u5 u6 k0 k1 k2 HV8
              have r0 := HX.out.res.cell 0 (v := .int .i64 0) rfl
              have r1 := HX.out.res.cell 1 (v := .bool false) rfl
              have f0 := HX.out.res.fro 0
              have f1 := HX.out.res.fro 1
              have HN : Hid _ := HX.out.ret2 (.int .i64 hd) (.bool hc) rfl
              go_wp2_with fail
              generalize ((yw.setCell ⟨w.heap.size + 1, 0, none⟩ (.int .i64 hd)).setCell ⟨w.heap.size + 1, 1, none⟩ (.bool hc)) = yz at *
              refine bodyPost_ret (v := .agg #[.int .i64 hd, .bool hc]) (results_cell_row rfl _ _ (w.heap.size + 1) 74 #[.int .i64 hd, .bool hc] _ _ rfl HN.out.2.2 Tryz.underlying74 rfl (by kernel_rfl)) rfl ?_
              exact ⟨hd, hc, jw, sx, rfl, HN.out.1, HX.out.syn, HU.out.1, HU.out.2, HN.out.2.1, HX.out.le⟩
          · have hd2 : (v2 == 0) = false := by simpa using hv2
            have HV6 : Hid (HdAt w y3 x A cap m gf M s0 j (j1 + 1 + 1) (hvAL emb .fresh) (HvQ Q emb P T who p p false) #[.int .i64 P, .int .i64 T, .int .i64 G] 74 #[.int .i64 0, .bool false] (w.heap.size + 1 + 1) #[.int .i64 p, .bool false]) := HV5.out.as ⟨fun h => (HV5.out.syn.at' h).trans (by rw [if_neg hv2]; rfl), HV5.out.syn.past⟩
            have HST : Hid (j1 + 1 + 1 ≤ m) := by
              rcases Nat.lt_or_ge (j1 + 1) m with h | h
              · exact h
              · exact absurd (HZ2.out h) hv2
            have sc := HV6.out.stop
            rw [decide_eq_false (by have := HST.out; omega)] at sc
            clear HV5 HZ2 hv2
            have hLo := syn_hvlocked (G := G) HE.out HP.out.1 HP.out.2.1 HP.out.2.2 HV6.out.run HV6.out.syn HBD.out HSW.out
            have k0 := HV6.out.cfg.cell 0 (v := .int .i64 P) rfl
            have k1 := HV6.out.cfg.cell 1 (v := .int .i64 T) rfl
            have k2 := HV6.out.cfg.cell 2 (v := .int .i64 G) rfl
            try go_wp2_with fail
            try clear sc
            go_at_call 102; refine hLo.mono ?_; rintro e yw ⟨hd, hc, jw, sx, rfl, u1, u2, u3, u4, u5, u6⟩
            have HX : Hid (HdAt w yw x A cap m gf M s0 j jw (emb sx) (HvQ Q emb P T who p hd hc) #[.int .i64 P, .int .i64 T, .int .i64 G] 74 #[.int .i64 0, .bool false] (w.heap.size + 1 + 1) #[.int .i64 p, .bool false]) := HV6.out.go u1 (u2.weak (fun q h => by
                rcases h with ⟨h, e1, e2⟩ | h
                · rw [e1, e2]; exact h
                · exact .inr h)) u5 u6
            have HU : Hid ((hvPM P T who p).ax sx = none ∧ (jw ≤ m → hd = sx.holds p ∧ hc = sx.counts)) := ⟨u3, u4⟩
            clear hLo u1 u2 u3 u4 u5 u6 k0 k1 k2 HV6
            have r0 := HX.out.res.cell 0 (v := .int .i64 0) rfl
            have r1 := HX.out.res.cell 1 (v := .bool false) rfl
            have f0 := HX.out.res.fro 0
            have f1 := HX.out.res.fro 1
            have HN : Hid _ := HX.out.ret2 (.int .i64 hd) (.bool hc) rfl
            go_wp2_with fail
            generalize ((yw.setCell ⟨w.heap.size + 1, 0, none⟩ (.int .i64 hd)).setCell ⟨w.heap.size + 1, 1, none⟩ (.bool hc)) = yz at *
            refine bodyPost_ret (v := .agg #[.int .i64 hd, .bool hc]) (results_cell_row rfl _ _ (w.heap.size + 1) 74 #[.int .i64 hd, .bool hc] _ _ rfl HN.out.2.2 Tryz.underlying74 rfl (by kernel_rfl)) rfl ?_
            exact ⟨hd, hc, jw, sx, rfl, HN.out.1, HX.out.syn, HU.out.1, HU.out.2, HN.out.2.1, HX.out.le⟩
        · have hd : (v != 0) = true := by simpa using hv
          have HV4 : Hid (HdAt w y2 x A cap m gf M s0 j (j1 + 1) (hvAP emb .fresh) (HvQ Q emb P T who p p false) #[.int .i64 P, .int .i64 T, .int .i64 G] 74 #[.int .i64 0, .bool false] (w.heap.size + 1 + 1) #[.int .i64 p, .bool false]) := HV3.out.as ⟨fun h => (HV3.out.syn.at' h).trans (by rw [if_neg hv]; rfl), HV3.out.syn.past⟩
          clear HV3 HZ hv HST
          go_wp2_with fail
          clear sc
          have hAc := syn_acquire (hv_acqPIn HE.out) (by omega) HP.out.2.2 HV4.out.run HV4.out.syn HBD.out
          try go_wp2_with fail
          go_at_call 93; refine hAc.mono ?_; rintro e ya ⟨⟨uc, rfl⟩, ja, tc, hR1, hS1, hB1, hj1⟩
          have HW5b : Hid (HdAt w ya x A cap m gf M s0 j ja (emb (.runP (.get .ld))) (HvQ Q emb P T who p p false) #[.int .i64 P, .int .i64 T, .int .i64 G] 74 #[.int .i64 0, .bool false] (w.heap.size + 1 + 1) #[.int .i64 p, .bool false]) := HV4.out.go hR1 (hS1.weak (fun q' h => by
            rcases h with h | ⟨p', hp', h⟩
            · exact h
            · have hb : hvAP emb p' = emb (.acqP p') := by cases p' <;> first | rfl | exact absurd rfl (hp' _)
              obtain ⟨a, ha⟩ : ∃ a, (hvPM P T who p).ax (.acqP p') = some a := by cases p' <;> first | exact ⟨_, rfl⟩ | exact absurd rfl (hp' _)
              exact .inr ⟨.acqP p', a, ha, h.trans hb, rfl, rfl⟩)) hB1 hj1
          clear hAc hR1 hS1 hB1 hj1 HV4
          have sc := HW5b.out.stop
          by_cases hst : m < ja
          · rw [decide_eq_true hst] at sc
            have HST : Hid (m < ja) := hst
            clear hst
            have r0 := HW5b.out.res.cell 0 (v := .int .i64 0) rfl
            have r1 := HW5b.out.res.cell 1 (v := .bool false) rfl
            have f0 := HW5b.out.res.fro 0
            have f1 := HW5b.out.res.fro 1
            have o0 := HW5b.out.out.cell 0 (v := .int .i64 p) rfl
            have o1 := HW5b.out.out.cell 1 (v := .bool false) rfl
            have HN : Hid _ := HW5b.out.ret2 (.int .i64 p) (.bool false) rfl
            go_wp2_with fail
            generalize ((ya.setCell ⟨w.heap.size + 1, 0, none⟩ (.int .i64 p)).setCell ⟨w.heap.size + 1, 1, none⟩ (.bool false)) = yz at *
            refine bodyPost_ret (v := .agg #[.int .i64 p, .bool false]) (results_cell_row rfl _ _ (w.heap.size + 1) 74 #[.int .i64 p, .bool false] _ _ rfl HN.out.2.2 Tryz.underlying74 rfl (by kernel_rfl)) rfl ?_
            exact ⟨p, false, ja, .ovR .over, rfl, HN.out.1, ⟨fun h => absurd h (by have := HST.out; omega), HW5b.out.syn.past⟩, rfl, (fun h => absurd h (by have := HST.out; omega)), HN.out.2.1, HW5b.out.le⟩
          · rw [decide_eq_false hst] at sc
            have HST : Hid (ja ≤ m) := (by omega : ja ≤ m)
            clear hst
            have HW5 : Hid (HdAt w ya x A cap m gf M s0 j ja (emb (.runP (.get .ld))) (fun _ => False) #[.int .i64 P, .int .i64 T, .int .i64 G] 74 #[.int .i64 0, .bool false] (w.heap.size + 1 + 1) #[.int .i64 p, .bool false]) := HW5b.out.as (HW5b.out.syn.resetv HST.out _)
            clear HW5b
            have hSt := syn_hvsP (G := G) HE.out HP.out.1 HP.out.2.1 HW5.out.run HW5.out.syn HST.out HBD.out
            have k0 := HW5.out.cfg.cell 0 (v := .int .i64 P) rfl
            have k1 := HW5.out.cfg.cell 1 (v := .int .i64 T) rfl
            have k2 := HW5.out.cfg.cell 2 (v := .int .i64 G) rfl
            try go_wp2_with fail
            go_at_call 101; refine hSt.mono ?_; rintro e yw ⟨hd, jw, sw, rfl, u1, u2, u3, u4, u5⟩
            have HX : Hid (HdAt w yw x A cap m gf M s0 j jw (emb (.ovP sw)) (HvQ Q emb P T who p hd false) #[.int .i64 P, .int .i64 T, .int .i64 G] 74 #[.int .i64 0, .bool false] (w.heap.size + 1 + 1) #[.int .i64 p, .bool false]) := HW5.out.go u1 (u2.weak (fun q h => by
                obtain ⟨s', a, e1, e2, e3⟩ := h
                exact .inr ⟨.runP s', a, e1, e2, e3, rfl⟩)) u4 u5
            have HU : Hid (jw ≤ m → hd = sw.holds p) := u3
            clear hSt u1 u2 u3 u4 u5 k0 k1 k2 HW5
            have r0 := HX.out.res.cell 0 (v := .int .i64 0) rfl
            have r1 := HX.out.res.cell 1 (v := .bool false) rfl
            have f0 := HX.out.res.fro 0
            have f1 := HX.out.res.fro 1
            have HN : Hid _ := HX.out.ret2 (.int .i64 hd) (.bool false) rfl
            go_wp2_with fail
            generalize ((yw.setCell ⟨w.heap.size + 1, 0, none⟩ (.int .i64 hd)).setCell ⟨w.heap.size + 1, 1, none⟩ (.bool false)) = yz at *
            refine bodyPost_ret (v := .agg #[.int .i64 hd, .bool false]) (results_cell_row rfl _ _ (w.heap.size + 1) 74 #[.int .i64 hd, .bool false] _ _ rfl HN.out.2.2 Tryz.underlying74 rfl (by kernel_rfl)) rfl ?_
            exact ⟨hd, false, jw, .ovP sw, rfl, HN.out.1, HX.out.syn, rfl, fun h => ⟨HU.out h, rfl⟩, HN.out.2.1, HX.out.le⟩
theorem rover_on (w : World) (x : Nat) (A : Option Addr) (cap m : Nat) (gf : Nat → Int) (P T G who p : Int) (s : HvT) (h : RunOn w x A cap m gf rn0) (hh : Hist (hvPM P T who p) (.lk .hd) gf m s) (hp : 0 ≤ P ∧ P ≤ 64) (hT : 0 ≤ T ∧ T ≤ 65536) (hw : 0 ≤ who ∧ who ≤ 300) :
    Calls Tryz.prog 35 #[.pointer (some ⟨x, 0, none⟩), .agg #[.int .i64 P, .int .i64 T, .int .i64 G], .int .i64 who, .int .i64 p] w fun e w' => e = .returned (.agg #[.int .i64 (s.holds p), .bool s.counts]) ∧ RunOn w' x A cap m gf ((hvPM P T who p).rn s m) ∧ But [x] w w' := by
  rw [← rj_start (M := (hvPM P T who p)) (s0 := HvT.lk .hd) (g := gf) (m := m)] at h
  refine (syn_over (pm_in _) hp hT hw h (Syn.start _ _ _ _) hh.bd hh.sw).mono ?_
  rintro e w' ⟨hd, c, j', sf, rfl, h1, h2, h3, h4, h5, -⟩
  have hr : hd = s.holds p ∧ c = s.counts := by
    rcases h2.fin hh (fun _ => h3) with ⟨e1, e2⟩ | ⟨-, (⟨hf, -⟩ | ⟨s', a, -, e1, e2⟩)⟩
    · rw [e1]; exact h4 (by omega)
    · exact hf.elim
    · rw [e1]; exact e2
  refine ⟨by rw [hr.1, hr.2], ?_, h5⟩
  rw [← rj_end h2 hh (fun _ => h3)]
  exact h1
end Go.Proofs.YtfdpikkinlljlaaGreat
