/- ReadyGives: each step of giving way, over any memory, whatever others do between: its access, what is in its hand; for every ground, thread, processor, goroutine and way, and all pokes; no condition. -/
import Derived.Test.YtfdpikkinlljlaaGreatHMAA
import Derived.Test.YtfdpikkinlljlaaGreatHNAC
import Derived.Test.YtfdpikkinlljlaaGreatHNAW
import Derived.Test.YtfdpikkinlljlaaGreatHNAM
import Derived.Test.YtfdpikkinlljlaaGreatHNAR
import Derived.Test.YtfdpikkinlljlaaGreatHNAJ
import Derived.Test.YtfdpikkinlljlaaGreatHNAD
import Derived.ProofKit
import Derived.OpenShut
import Derived.Lib.SmallJoins
namespace Go.Proofs.YtfdpikkinlljlaaGreat
open Go Go.RowKit
set_option linter.unusedVariables false
set_option maxRecDepth 100000
set_option linter.unusedSimpArgs false

section
variable {σ : Type} {M : PM σ} {P T G t p g hw : Int} {emb : GvT → σ}
def gvP (P T G t p : Int) (emb : GvT → σ) (q : RpT) : σ := if ((rpPM t P p (fun y => wd (20 + P * 264 + T * 3) G 2 y 1)).ax q).isSome = true then emb (.put q) else emb (.wkP q .ld)
theorem gv_rpIn (hE : PmIn M (gvPM P T G t p g hw) emb) : PmIn M (rpPM t P p (fun y => wd (20 + P * 264 + T * 3) G 2 y 1)) (gvP P T G t p emb) where
  ax := fun q a h => by
    have e : gvP P T G t p emb q = emb (.put q) := if_pos (by rw [h]; rfl)
    rw [e]
    exact hE.ax (.put q) a h
  nx := fun q a v h => by
    have e : gvP P T G t p emb q = emb (.put q) := if_pos (by rw [h]; rfl)
    rw [e, hE.nx (.put q) a v h]
    show emb (if ((rpPM t P p (fun y => wd (20 + P * 264 + T * 3) G 2 y 1)).ax ((rpPM t P p (fun y => wd (20 + P * 264 + T * 3) G 2 y 1)).nx q v)).isSome = true then .put ((rpPM t P p (fun y => wd (20 + P * 264 + T * 3) G 2 y 1)).nx q v) else .wkP ((rpPM t P p (fun y => wd (20 + P * 264 + T * 3) G 2 y 1)).nx q v) .ld) = _
    unfold gvP
    split <;> rfl
def gvpW (P T t : Int) (emb : GvT → σ) (q : RpT) (u : WwT) : σ := if ((wwPM P T t).ax u).isSome = true then emb (.wkP q u) else emb (.ovP q u)
theorem gvp_wwIn (hE : PmIn M (gvPM P T G t p g hw) emb) (q : RpT) : WwIn M P T t (gvpW P T t emb q) where
  ax := fun u a h => by
    have e : gvpW P T t emb q u = emb (.wkP q u) := if_pos (by rw [h]; rfl)
    rw [e]
    exact hE.ax (.wkP q u) a h
  nx := fun u a v h => by
    have e : gvpW P T t emb q u = emb (.wkP q u) := if_pos (by rw [h]; rfl)
    rw [e, hE.nx (.wkP q u) a v h]
    show emb (if ((wwPM P T t).ax ((wwPM P T t).nx u v)).isSome = true then .wkP q ((wwPM P T t).nx u v) else .ovP q ((wwPM P T t).nx u v)) = _
    unfold gvpW
    split <;> rfl
def gvqW (P T t : Int) (emb : GvT → σ) (q : QpT) (u : WwT) : σ := if ((wwPM P T t).ax u).isSome = true then emb (.wkQ q u) else emb (.ovQ q u)
theorem gvq_wwIn (hE : PmIn M (gvPM P T G t p g hw) emb) (q : QpT) : WwIn M P T t (gvqW P T t emb q) where
  ax := fun u a h => by
    have e : gvqW P T t emb q u = emb (.wkQ q u) := if_pos (by rw [h]; rfl)
    rw [e]
    exact hE.ax (.wkQ q u) a h
  nx := fun u a v h => by
    have e : gvqW P T t emb q u = emb (.wkQ q u) := if_pos (by rw [h]; rfl)
    rw [e, hE.nx (.wkQ q u) a v h]
    show emb (if ((wwPM P T t).ax ((wwPM P T t).nx u v)).isSome = true then .wkQ q ((wwPM P T t).nx u v) else .ovQ q ((wwPM P T t).nx u v)) = _
    unfold gvqW
    split <;> rfl
def gvA (emb : GvT → σ) : AcqT → σ
  | .over _ => emb (.que (.ch 0))
  | a => emb (.acq a)
theorem gv_acqIn (hE : PmIn M (gvPM P T G t p g hw) emb) : AcqIn M 0 t (gvA emb) := by
  refine ⟨hE.ax (.acq .fresh) _ rfl, fun u => hE.ax (.acq (.wait u)) _ rfl, fun u => hE.ax (.acq (.has u)) _ rfl, fun v => hE.nx (.acq .fresh) _ v rfl, ?_, fun u v => hE.nx (.acq (.has u)) _ v rfl⟩
  intro u v
  refine (hE.nx (.acq (.wait u)) _ v rfl).trans ?_
  by_cases h : v = u
  · subst h
    have e : (acqPM (wd 0 2 3 0 0) (wd 0 2 3 0 1) (wd 0 2 3 0 2) t).nx (.wait v) v = .has v := if_pos rfl
    show emb (if ((acqPM (wd 0 2 3 0 0) (wd 0 2 3 0 1) (wd 0 2 3 0 2) t).ax ((acqPM (wd 0 2 3 0 0) (wd 0 2 3 0 1) (wd 0 2 3 0 2) t).nx (.wait v) v)).isSome = true then .acq ((acqPM (wd 0 2 3 0 0) (wd 0 2 3 0 1) (wd 0 2 3 0 2) t).nx (.wait v) v) else .que (.ch 0)) = _
    rw [e, if_pos rfl]
    rfl
  · have e : (acqPM (wd 0 2 3 0 0) (wd 0 2 3 0 1) (wd 0 2 3 0 2) t).nx (.wait u) v = .wait u := if_neg h
    show emb (if ((acqPM (wd 0 2 3 0 0) (wd 0 2 3 0 1) (wd 0 2 3 0 2) t).ax ((acqPM (wd 0 2 3 0 0) (wd 0 2 3 0 1) (wd 0 2 3 0 2) t).nx (.wait u) v)).isSome = true then .acq ((acqPM (wd 0 2 3 0 0) (wd 0 2 3 0 1) (wd 0 2 3 0 2) t).nx (.wait u) v) else .que (.ch 0)) = _
    rw [e, if_neg h]
    rfl
def gvU (emb : GvT → σ) : QpT → σ
  | .over => emb (.rel .over .fresh)
  | .done0 => emb (.rel .done0 .fresh)
  | u => emb (.que u)
theorem gv_qpIn (hE : PmIn M (gvPM P T G t p g hw) emb) : QpIn M (fun y => wd (20 + P * 264 + T * 3) G 2 y 1) [g] (gvU emb) where
  ch := fun k => hE.ax (.que (.ch k)) _ rfl
  ld := hE.ax (.que .ld) _ rfl
  pt := fun u => hE.ax (.que (.pt u)) _ rfl
  tr := hE.ax (.que .tr) _ rfl
  ct := hE.ax (.que .ct) _ rfl
  n1 := fun k v => by
    refine (hE.nx (.que (.ch k)) _ v rfl).trans ?_
    show emb (if ((qpPM (fun y => wd (20 + P * 264 + T * 3) G 2 y 1) [g]).ax (if k + 1 < [g].length then QpT.ch (k + 1) else .ld)).isSome = true then .que (if k + 1 < [g].length then QpT.ch (k + 1) else .ld) else .rel (if k + 1 < [g].length then QpT.ch (k + 1) else .ld) .fresh) = _
    split <;> (split <;> first | rfl | (rename_i h _; exact absurd rfl h) | (rename_i h; exact absurd rfl h))
  n2 := fun v => hE.nx (.que .ld) _ v rfl
  n3 := fun u v => hE.nx (.que (.pt u)) _ v rfl
  n4 := fun v => hE.nx (.que .tr) _ v rfl
  n5 := fun v => hE.nx (.que .ct) _ v rfl
def gvR (emb : GvT → σ) (u : QpT) : RelT → σ
  | .over => emb (.wkQ u .ld)
  | r => emb (.rel u r)
theorem gv_relIn (hE : PmIn M (gvPM P T G t p g hw) emb) (u : QpT) : RelIn M 0 (gvR emb u) := by
  refine ⟨hE.ax (.rel u .fresh) _ rfl, hE.ax (.rel u .pass) _ rfl, fun v => ?_, fun v => ?_⟩
  · exact (hE.nx (.rel u .fresh) _ v rfl).trans rfl
  · exact (hE.nx (.rel u .pass) _ v rfl).trans rfl
end
/-- Where it stopped, and what it answered. -/
def GvQ {σ : Type} (Q : σ → Prop) (emb : GvT → σ) (P T G t p g hw : Int) (gv : Bool) (l : List Int) (hd : Int) (c : Bool) (q : σ) : Prop := (Q q ∧ gv = false ∧ l = [] ∧ hd = -1 ∧ c = false) ∨ ∃ s a, (gvPM P T G t p g hw).ax s = some a ∧ q = emb s ∧ gv = s.gave ∧ l = s.holds g ∧ hd = s.hand ∧ c = s.counts
def GvGot {σ : Type} (M : PM σ) (emb : GvT → σ) (P T G t p g hw : Int) (w : World) (x : Nat) (A : Option Addr) (cap m : Nat) (gf : Nat → Int) (s0 : σ) (Q : σ → Prop) (j : Nat) (e : Ending) (w' : World) : Prop :=
  ∃ gv hd tt c v l j' s, e = .returned (.agg #[.int .i64 (-1), .bool gv, v, .int .i64 hd, .int .i64 tt, .bool c]) ∧ SeesL w' v l ∧ RunOn w' x A cap m gf (M.rj s0 gf m j') ∧ Syn M s0 gf m j' (emb s) (GvQ Q emb P T G t p g hw gv l hd c) ∧ (gvPM P T G t p g hw).ax s = none ∧ (j' ≤ m → gv = s.gave ∧ l = s.holds g ∧ hd = s.hand ∧ c = s.counts) ∧ But [x] w w' ∧ j ≤ j'
theorem gz_field (w : World) (a b : Value) : (Instr.field 135 (.agg #[a, b]) 0).run Tryz.prog w = .ok a w := by
  simp only [Instr.field]
  rfl
set_option maxHeartbeats 16000000 in
theorem syn_give {σ : Type} {M : PM σ} {P T G t p g hw : Int} {emb : GvT → σ} (hE : PmIn M (gvPM P T G t p g hw) emb) (hp : 0 ≤ P ∧ P ≤ 64) (hpp : 0 ≤ p ∧ p < P) (hT : 0 ≤ T ∧ T ≤ 65536) (hG : 0 ≤ G ∧ G ≤ 65536) (hw' : 0 ≤ t ∧ t ≤ 300) (hn : 0 ≤ g ∧ g ≤ 9223372036854775807)
    {w : World} {x : Nat} {A : Option Addr} {cap m : Nat} {gf : Nat → Int} {s0 : σ} {j : Nat} {Q : σ → Prop} (hR : RunOn w x A cap m gf (M.rj s0 gf m j)) (hS : Syn M s0 gf m j (emb .st) Q) (hb : ∀ j, j < m → 0 ≤ gf j ∧ gf j ≤ 18446744073709551615) (hsw : ∀ j, j < m → ∀ a, M.ax (M.run s0 gf j) = some a → a.k = 3 → gf j ≤ 1) :
    Calls Tryz.prog 26 #[.pointer (some ⟨x, 0, none⟩), .agg #[.int .i64 P, .int .i64 T, .int .i64 G], .int .i64 t, .int .i64 p, .int .i64 g, .int .i64 hw] w fun e w' => GvGot M emb P T G t p g hw w x A cap m gf s0 Q j e w' := by
  have hxw := hR.blk.lt
  have HH : Hid (HdAt w (((w.alloc (.cells #[.int .i64 P, .int .i64 T, .int .i64 G] 23)).alloc (.cells #[.int .i64 0, .bool false, .slice none 0 0, .int .i64 0, .int .i64 0, .bool false] 53)).alloc (.cells #[.int .i64 (-1), .bool false, .slice none 0 0, .int .i64 (-1), .int .i64 (-1), .bool false] 53)) x A cap m gf M s0 j j (emb .st) Q #[.int .i64 P, .int .i64 T, .int .i64 G] 53 #[.int .i64 0, .bool false, .slice none 0 0, .int .i64 0, .int .i64 0, .bool false] (w.heap.size + 1 + 1) #[.int .i64 (-1), .bool false, .slice none 0 0, .int .i64 (-1), .int .i64 (-1), .bool false]) := by
    have b1 : Below w.heap.size w (w.alloc (.cells #[.int .i64 P, .int .i64 T, .int .i64 G] 23)) := (Below.refl _ _).alloc (Nat.le_refl _) _
    have b2 : Below w.heap.size w ((w.alloc (.cells #[.int .i64 P, .int .i64 T, .int .i64 G] 23)).alloc (.cells #[.int .i64 0, .bool false, .slice none 0 0, .int .i64 0, .int .i64 0, .bool false] 53)) := b1.alloc (by rw [World.size_alloc]; omega) _
    have b3 : Below w.heap.size w (((w.alloc (.cells #[.int .i64 P, .int .i64 T, .int .i64 G] 23)).alloc (.cells #[.int .i64 0, .bool false, .slice none 0 0, .int .i64 0, .int .i64 0, .bool false] 53)).alloc (.cells #[.int .i64 (-1), .bool false, .slice none 0 0, .int .i64 (-1), .int .i64 (-1), .bool false] 53)) := b2.alloc (by rw [World.size_alloc, World.size_alloc]; omega) _
    have c1 := Blk.new w #[.int .i64 P, .int .i64 T, .int .i64 G] 23
    have c2 := Blk.new (w.alloc (.cells #[.int .i64 P, .int .i64 T, .int .i64 G] 23)) #[.int .i64 0, .bool false, .slice none 0 0, .int .i64 0, .int .i64 0, .bool false] 53
    have c3 := Blk.new ((w.alloc (.cells #[.int .i64 P, .int .i64 T, .int .i64 G] 23)).alloc (.cells #[.int .i64 0, .bool false, .slice none 0 0, .int .i64 0, .int .i64 0, .bool false] 53)) #[.int .i64 (-1), .bool false, .slice none 0 0, .int .i64 (-1), .int .i64 (-1), .bool false] 53
    rw [World.size_alloc] at c2
    rw [World.size_alloc, World.size_alloc] at c3
    refine ⟨hR.below b3, hS, But.of_below b3, (c1.al _).al _, c2.al _, c3, by omega, hxw, fun b e hm => ?_, Nat.le_refl _⟩
    simp at hm
    rcases hR.got.form with ⟨e0, _⟩ | ⟨gb, e0, hl⟩
    · rw [e0] at e; cases e
    · rw [e0] at e; cases e; omega
  have HE : Hid (PmIn M (gvPM P T G t p g hw) emb) := hE
  have HBD : Hid (∀ j, j < m → 0 ≤ gf j ∧ gf j ≤ 18446744073709551615) := hb
  have HSW : Hid (SwOk M s0 gf m) := hsw
  have HP : Hid ((0 ≤ P ∧ P ≤ 64) ∧ (0 ≤ p ∧ p < P) ∧ (0 ≤ T ∧ T ≤ 65536) ∧ (0 ≤ G ∧ G ≤ 65536) ∧ (0 ≤ t ∧ t ≤ 300) ∧ (0 ≤ g ∧ g ≤ 9223372036854775807)) := ⟨hp, hpp, hT, hG, hw', hn⟩
  have HAX : Hid (M.ax (emb .st) = some (axSt (wd (20 + P * 264 + T * 3) G 2 g 0) (gvWhat hw))) := hE.ax .st _ rfl
  have HH0 : Hid (HdAt w (((w.alloc (.cells #[.int .i64 P, .int .i64 T, .int .i64 G] 23)).alloc (.cells #[.int .i64 0, .bool false, .slice none 0 0, .int .i64 0, .int .i64 0, .bool false] 53)).alloc (.cells #[.int .i64 (-1), .bool false, .slice none 0 0, .int .i64 (-1), .int .i64 (-1), .bool false] 53)) x A cap m gf M s0 j j (emb .st) Q #[.int .i64 P, .int .i64 T, .int .i64 G] 53 #[.int .i64 0, .bool false, .slice none 0 0, .int .i64 0, .int .i64 0, .bool false] (w.heap.size + 1 + 1) #[.int .i64 (-1), .bool false, .slice none 0 0, .int .i64 (-1), .int .i64 (-1), .bool false]) := HH.out
  have hGA := refgAt_any P T G g 0 (((w.alloc (.cells #[.int .i64 P, .int .i64 T, .int .i64 G] 23)).alloc (.cells #[.int .i64 0, .bool false, .slice none 0 0, .int .i64 0, .int .i64 0, .bool false] 53)).alloc (.cells #[.int .i64 (-1), .bool false, .slice none 0 0, .int .i64 (-1), .int .i64 (-1), .bool false] 53)) hp hT hG.2 (by omega)
  have k0 := HH.out.cfg.cell 0 (v := .int .i64 P) rfl
  have k1 := HH.out.cfg.cell 1 (v := .int .i64 T) rfl
  have k2 := HH.out.cfg.cell 2 (v := .int .i64 G) rfl
  clear hR hS hb hp hpp hT hG hw' hn hE hsw HH
  generalize wd (20 + P * 264 + T * 3) G 2 g 0 = at0 at *
  generalize hWW : (((w.alloc (.cells #[.int .i64 P, .int .i64 T, .int .i64 G] 23)).alloc (.cells #[.int .i64 0, .bool false, .slice none 0 0, .int .i64 0, .int .i64 0, .bool false] 53)).alloc (.cells #[.int .i64 (-1), .bool false, .slice none 0 0, .int .i64 (-1), .int .i64 (-1), .bool false] 53)) = W at *
  have HWW : Hid (_ = W) := hWW; clear hWW
  go_enter Tryz.func26, Tryz.ntmps26
  go_wp2_with fail
  try rw [HWW.out]
  clear HWW
  try go_wp2_with fail
  go_at_call 76; refine hGA.mono ?_; rintro e y1 ⟨rfl, h1⟩
  have HH1 : Hid (HdAt w y1 x A cap m gf M s0 j j (emb .st) Q #[.int .i64 P, .int .i64 T, .int .i64 G] 53 #[.int .i64 0, .bool false, .slice none 0 0, .int .i64 0, .int .i64 0, .bool false] (w.heap.size + 1 + 1) #[.int .i64 (-1), .bool false, .slice none 0 0, .int .i64 (-1), .int .i64 (-1), .bool false]) := HH0.out.low h1
  clear hGA h1 k0 k1 k2 HH0
  by_cases h0 : hw = 0
  · subst h0
    have hd0 : ((0 : Int) != 0) = false := by decide
    have hA := syn_store HH1.out.run HH1.out.syn HBD.out at0 1 (fun _ => HAX.out.trans (by rw [show gvWhat 0 = 1 from if_pos (.inl rfl)]))
    go_wp2_with fail
    go_at_call 92; refine hA.mono ?_; rintro e y2 ⟨⟨u2, rfl⟩, v2, hK⟩
    have HH2 : Hid (HdAt w y2 x A cap m gf M s0 j (j + 1) (gvP P T G t p emb (rpStart g false)) (GvQ Q emb P T G t p g 0 false [] (-1) false) #[.int .i64 P, .int .i64 T, .int .i64 G] 53 #[.int .i64 0, .bool false, .slice none 0 0, .int .i64 0, .int .i64 0, .bool false] (w.heap.size + 1 + 1) #[.int .i64 (-1), .bool false, .slice none 0 0, .int .i64 (-1), .int .i64 (-1), .bool false]) := by
      have h := HH1.out.step hK
      rw [HE.out.nx .st _ _ rfl] at h
      exact h.as ((h.syn.weak (fun q h => h.elim (fun h => .inr ⟨.st, _, rfl, h, rfl, rfl, rfl, rfl⟩) (fun h => .inl ⟨h, rfl, rfl, rfl, rfl⟩))).as (fun _ => by show emb (if (0 : Int) = 0 then .put (rpStart g false) else if (0 : Int) = 1 then .acq .fresh else .park) = _; rw [if_pos rfl]; exact (if_pos rfl).symm))
    clear hA hK HH1
    have sc := HH2.out.stop
    by_cases hst : m < j + 1
    · rw [decide_eq_true hst] at sc
      have HST : Hid (m < j + 1) := hst
      clear hst
      have HN : Hid _ := HH2.out.ret6 (a := .int .i64 (-1)) (b := .bool false) (c := .slice none 0 0) (d := .int .i64 (-1)) (e := .int .i64 (-1)) (f := .bool false) rfl rfl
      generalize hYZ : y2.setCells (w.heap.size + 1) 0 (sixL (.int .i64 (-1)) (.bool false) (.slice none 0 0) (.int .i64 (-1)) (.int .i64 (-1)) (.bool false)).toArray.toList = yz at HN
      go_wp2_with (first | (refine wpList_load_mid rfl 53 _ rfl (w.heap.size + 1 + 1) 0 rfl (sixL (.int .i64 (-1)) (.bool false) (.slice none 0 0) (.int .i64 (-1)) (.int .i64 (-1)) (.bool false)) _ HN.out.1 Tryz.underlying53 rfl (by kernel_rfl) ?_) | (refine wpList_store_mid rfl 53 _ _ rfl (w.heap.size + 1) 0 (sixL (.int .i64 (-1)) (.bool false) (.slice none 0 0) (.int .i64 (-1)) (.int .i64 (-1)) (.bool false)).toArray rfl rfl HN.out.2.1 (by kernel_rfl) (by simp [sixL, Value.oneCell']) ?_; rw [hYZ]))
      refine bodyPost_ret (v := .agg (sixL (.int .i64 (-1)) (.bool false) (.slice none 0 0) (.int .i64 (-1)) (.int .i64 (-1)) (.bool false)).toArray) (results_cell_row rfl _ _ (w.heap.size + 1) 53 (sixL (.int .i64 (-1)) (.bool false) (.slice none 0 0) (.int .i64 (-1)) (.int .i64 (-1)) (.bool false)).toArray _ _ rfl HN.out.2.2.2.2.1 Tryz.underlying53 rfl (by kernel_rfl)) rfl ?_
      exact ⟨false, (-1), (-1), false, .slice none 0 0, [], j + 1, .park, rfl, (Hof.nil _ []).sees, HN.out.2.2.1, ⟨fun h => absurd h (by have := HST.out; omega), HH2.out.syn.past⟩, rfl, (fun h => absurd h (by have := HST.out; omega)), HN.out.2.2.2.1, HH2.out.le⟩
    · rw [decide_eq_false hst] at sc
      have HST : Hid (j + 1 ≤ m) := (by omega : j + 1 ≤ m)
      clear hst
      have q1 := HH2.out.out.cell 1 (v := .bool false) rfl
      have g1 := HH2.out.out.fro 1
      have HH3 : Hid (HdAt w (y2.setCell ⟨w.heap.size + 1 + 1, 1, none⟩ (.bool true)) x A cap m gf M s0 j (j + 1) (gvP P T G t p emb (rpStart g false)) (fun _ => False) #[.int .i64 P, .int .i64 T, .int .i64 G] 53 #[.int .i64 0, .bool false, .slice none 0 0, .int .i64 0, .int .i64 0, .bool false] (w.heap.size + 1 + 1) #[.int .i64 (-1), .bool true, .slice none 0 0, .int .i64 (-1), .int .i64 (-1), .bool false]) := (HH2.out.set 1 (.bool true)).as (HH2.out.syn.reset6 HST.out _)
      have k0 := HH2.out.cfg.cell 0 (v := .int .i64 P) rfl
      have k1 := HH2.out.cfg.cell 1 (v := .int .i64 T) rfl
      have k2 := HH2.out.cfg.cell 2 (v := .int .i64 G) rfl
      clear HH2
      go_wp2_with fail
      clear q1 g1 k0 k1 k2 sc
      generalize (y2.setCell ⟨w.heap.size + 1 + 1, 1, none⟩ (.bool true)) = y5 at *
      have hPt := syn_rput (gv_rpIn HE.out) HP.out.2.1 HP.out.1.2 HP.out.2.2.1 HP.out.2.2.2.1 HP.out.2.2.2.2.1 HP.out.2.2.2.2.2 HH3.out.run HH3.out.syn HST.out HBD.out HSW.out
      have k0 := HH3.out.cfg.cell 0 (v := .int .i64 P) rfl
      have k1 := HH3.out.cfg.cell 1 (v := .int .i64 T) rfl
      have k2 := HH3.out.cfg.cell 2 (v := .int .i64 G) rfl
      have q2 := HH3.out.out.cell 2 (v := .slice none 0 0) rfl
      have g2 := HH3.out.out.fro 2
      have hfd := gz_field
      try go_wp2_with fail
      go_at_call 78; refine hPt.mono ?_; rintro e y6 ⟨vv, l, k, j6, t6, rfl, s1, s2, s3, s4, s5, s6, s7, s8⟩
      have HMa : Hid (Hof y6 vv l [x, w.heap.size + 1, w.heap.size + 1 + 1]) := Hof.of s1 s8 (fun k hk => by have h8 := HH3.out.x; have h9 := HH3.out.out.lt; simp at hk; omega)
      obtain ⟨B0, c0, rfl, -⟩ : ∃ B0 c0, vv = .slice B0 l.length c0 ∧ True := by obtain ⟨A1, c1, e1, -⟩ := s1; exact ⟨A1, c1, e1, trivial⟩
      have HU6 : Hid ((rpPM t P p (fun y => wd (20 + P * 264 + T * 3) G 2 y 1)).ax t6 = none ∧ (j6 ≤ m → t6.holds = l ∧ t6.moved = k)) := ⟨s4, s5⟩
      have HY6 : Hid (HdAt w y6 x A cap m gf M s0 j j6 (gvP P T G t p emb t6) (RpIs (rpPM t P p (fun y => wd (20 + P * 264 + T * 3) G 2 y 1)) (gvP P T G t p emb) (fun r => r.holds = l ∧ r.moved = k)) #[.int .i64 P, .int .i64 T, .int .i64 G] 53 #[.int .i64 0, .bool false, .slice none 0 0, .int .i64 0, .int .i64 0, .bool false] (w.heap.size + 1 + 1) #[.int .i64 (-1), .bool true, .slice none 0 0, .int .i64 (-1), .int .i64 (-1), .bool false]) := HH3.out.go s2 s3 s6 s7
      have HM : Hid (Hof (y6.setCell ⟨w.heap.size + 1 + 1, 2, none⟩ (.slice B0 l.length c0)) (.slice B0 l.length c0) l [x, w.heap.size + 1, w.heap.size + 1 + 1]) := HMa.out.but (k := w.heap.size + 1 + 1) ((But.refl _ _).set (g := w.heap.size + 1 + 1) (.inl (by simp)) 2 _) (by simp)
      have HH8 : Hid (HdAt w (y6.setCell ⟨w.heap.size + 1 + 1, 2, none⟩ (.slice B0 l.length c0)) x A cap m gf M s0 j j6 (gvP P T G t p emb t6) (RpIs (rpPM t P p (fun y => wd (20 + P * 264 + T * 3) G 2 y 1)) (gvP P T G t p emb) (fun r => r.holds = l ∧ r.moved = k)) #[.int .i64 P, .int .i64 T, .int .i64 G] 53 #[.int .i64 0, .bool false, .slice none 0 0, .int .i64 0, .int .i64 0, .bool false] (w.heap.size + 1 + 1) #[.int .i64 (-1), .bool true, .slice B0 l.length c0, .int .i64 (-1), .int .i64 (-1), .bool false]) := HY6.out.set 2 (.slice B0 l.length c0)
      have q2 := HY6.out.out.cell 2 (v := .slice none 0 0) rfl
      have g2 := HY6.out.out.fro 2
      have hne : w.heap.size + 1 + 1 ≠ x := by have := HH3.out.x; omega
      have sc0 := HY6.out.stop
      clear hPt s1 s2 s3 s4 s5 s6 s7 s8 HMa HH3 HST
      by_cases hst : m < j6
      · have HST : Hid (m < j6) := hst
        rw [decide_eq_true hst] at sc0
        clear hst HY6
        have HH9 : Hid (HdAt w (y6.setCell ⟨w.heap.size + 1 + 1, 2, none⟩ (.slice B0 l.length c0)) x A cap m gf M s0 j j6 (gvP P T G t p emb t6) (GvQ Q emb P T G t p g 0 true l (-1) false) #[.int .i64 P, .int .i64 T, .int .i64 G] 53 #[.int .i64 0, .bool false, .slice none 0 0, .int .i64 0, .int .i64 0, .bool false] (w.heap.size + 1 + 1) #[.int .i64 (-1), .bool true, .slice B0 l.length c0, .int .i64 (-1), .int .i64 (-1), .bool false]) := HH8.out.as ⟨fun h => absurd h (by have := HST.out; omega), fun h => ⟨by
          obtain ⟨r', a, h1, h2, h3⟩ := (HH8.out.syn.past h).1
          exact .inr ⟨.put r', a, h1, h2.trans (if_pos (by rw [h1]; rfl)), rfl, h3.1.symm, rfl, rfl⟩, (HH8.out.syn.past h).2⟩⟩
        clear HH8
        have HN : Hid _ := HH9.out.ret6 (a := .int .i64 (-1)) (b := .bool true) (c := .slice B0 l.length c0) (d := .int .i64 (-1)) (e := .int .i64 (-1)) (f := .bool false) rfl rfl
        generalize hYZ : (y6.setCell ⟨w.heap.size + 1 + 1, 2, none⟩ (.slice B0 l.length c0)).setCells (w.heap.size + 1) 0 (sixL (.int .i64 (-1)) (.bool true) (.slice B0 l.length c0) (.int .i64 (-1)) (.int .i64 (-1)) (.bool false)).toArray.toList = yz at HN
        go_wp2_with (first | (refine wpList_load_mid rfl 53 _ rfl (w.heap.size + 1 + 1) 0 rfl (sixL (.int .i64 (-1)) (.bool true) (.slice B0 l.length c0) (.int .i64 (-1)) (.int .i64 (-1)) (.bool false)) _ HN.out.1 Tryz.underlying53 rfl (by kernel_rfl) ?_) | (refine wpList_store_mid rfl 53 _ _ rfl (w.heap.size + 1) 0 (sixL (.int .i64 (-1)) (.bool true) (.slice B0 l.length c0) (.int .i64 (-1)) (.int .i64 (-1)) (.bool false)).toArray rfl rfl HN.out.2.1 (by kernel_rfl) (by simp [sixL, Value.oneCell']) ?_; rw [hYZ]))
        refine bodyPost_ret (v := .agg (sixL (.int .i64 (-1)) (.bool true) (.slice B0 l.length c0) (.int .i64 (-1)) (.int .i64 (-1)) (.bool false)).toArray) (results_cell_row rfl _ _ (w.heap.size + 1) 53 (sixL (.int .i64 (-1)) (.bool true) (.slice B0 l.length c0) (.int .i64 (-1)) (.int .i64 (-1)) (.bool false)).toArray _ _ rfl HN.out.2.2.2.2.1 Tryz.underlying53 rfl (by kernel_rfl)) rfl ?_
        exact ⟨true, (-1), (-1), false, .slice B0 l.length c0, l, j6, .park, rfl, (HM.out.but HN.out.2.2.2.2.2 (by simp)).sees, HN.out.2.2.1, ⟨fun h => absurd h (by have := HST.out; omega), HH9.out.syn.past⟩, rfl, (fun h => absurd h (by have := HST.out; omega)), HN.out.2.2.2.1, HH9.out.le⟩
      · have HST : Hid (j6 ≤ m) := by exact (by omega : j6 ≤ m)
        rw [decide_eq_false hst] at sc0
        have k0 := HY6.out.cfg.cell 0 (v := .int .i64 P) rfl
        have k1 := HY6.out.cfg.cell 1 (v := .int .i64 T) rfl
        have k2 := HY6.out.cfg.cell 2 (v := .int .i64 G) rfl
        have t3 := HY6.out.out.cell 3 (v := .int .i64 (-1)) rfl
        clear hst HY6
        have HLE : Hid (l = t6.holds) := (HU6.out.2 HST.out).1.symm
        have HH9 : Hid (HdAt w (y6.setCell ⟨w.heap.size + 1 + 1, 2, none⟩ (.slice B0 l.length c0)) x A cap m gf M s0 j j6 (gvpW P T t emb t6 .ld) (fun _ => False) #[.int .i64 P, .int .i64 T, .int .i64 G] 53 #[.int .i64 0, .bool false, .slice none 0 0, .int .i64 0, .int .i64 0, .bool false] (w.heap.size + 1 + 1) #[.int .i64 (-1), .bool true, .slice B0 l.length c0, .int .i64 (-1), .int .i64 (-1), .bool false]) := HH8.out.as ⟨fun h => (HH8.out.syn.at' h).trans (if_neg (by rw [HU6.out.1]; simp)), fun h => absurd h (by have := HST.out; omega)⟩
        go_wp2_with fail
        generalize (y6.setCell ⟨w.heap.size + 1 + 1, 2, none⟩ (.slice B0 l.length c0)) = y7 at *
        clear q2 g2 sc0 HH8 k0 k1 k2 t3
        have hWk := syn_wwake (G := G) (gvp_wwIn HE.out t6) HP.out.1 HP.out.2.2.1 HP.out.2.2.2.2.1 HH9.out.run HH9.out.syn HBD.out HSW.out
        have k0 := HH9.out.cfg.cell 0 (v := .int .i64 P) rfl
        have k1 := HH9.out.cfg.cell 1 (v := .int .i64 T) rfl
        have k2 := HH9.out.cfg.cell 2 (v := .int .i64 G) rfl
        have t3 := HH9.out.out.cell 3 (v := .int .i64 (-1)) rfl
        try go_wp2_with fail
        go_at_call 79; refine hWk.mono ?_; rintro e yw ⟨wp, wt, wc, jw, wu, rfl, u1, u2, u3, u4, u5, u6⟩
        have HX : Hid (HdAt w yw x A cap m gf M s0 j jw (gvpW P T t emb t6 wu) (WwQ (fun _ => False) (gvpW P T t emb t6) P T t wp wc) #[.int .i64 P, .int .i64 T, .int .i64 G] 53 #[.int .i64 0, .bool false, .slice none 0 0, .int .i64 0, .int .i64 0, .bool false] (w.heap.size + 1 + 1) #[.int .i64 (-1), .bool true, .slice B0 l.length c0, .int .i64 (-1), .int .i64 (-1), .bool false]) := (HH9.out.go u1 u2 u5 u6)
        have HMx : Hid (Hof yw (.slice B0 l.length c0) l [x, w.heap.size + 1, w.heap.size + 1 + 1]) := HM.out.but u5 (by simp)
        have HU : Hid ((wwPM P T t).ax wu = none ∧ (jw ≤ m → wp = wu.holds ∧ wc = wu.counts)) := ⟨u3, u4⟩
        have HS3 := HX.out.set3 (.int .i64 wp) (.int .i64 wt) (.bool wc) rfl
        have HT3 : Hid (yw.there (w.heap.size + 1 + 1) 3 (threeL (.int .i64 wp) (.int .i64 wt) (.bool wc)).toArray.size) := HS3.1
        have HMy : Hid (Hof (yw.setCells (w.heap.size + 1 + 1) 3 (threeL (.int .i64 wp) (.int .i64 wt) (.bool wc)).toArray.toList) (.slice B0 l.length c0) l [x, w.heap.size + 1, w.heap.size + 1 + 1]) := HMx.out.but HS3.2.2 (by simp)
        have HX2 : Hid (HdAt w (yw.setCells (w.heap.size + 1 + 1) 3 (threeL (.int .i64 wp) (.int .i64 wt) (.bool wc)).toArray.toList) x A cap m gf M s0 j jw (gvpW P T t emb t6 wu) (WwQ (fun _ => False) (gvpW P T t emb t6) P T t wp wc) #[.int .i64 P, .int .i64 T, .int .i64 G] 53 #[.int .i64 0, .bool false, .slice none 0 0, .int .i64 0, .int .i64 0, .bool false] (w.heap.size + 1 + 1) #[.int .i64 (-1), .bool true, .slice B0 l.length c0, .int .i64 wp, .int .i64 wt, .bool wc]) := HS3.2.1
        generalize hYT : yw.setCells (w.heap.size + 1 + 1) 3 (threeL (.int .i64 wp) (.int .i64 wt) (.bool wc)).toArray.toList = yt at HX2 HMy
        clear hWk u1 u2 u3 u4 u5 u6 HS3 HX HMx k0 k1 k2 t3 HH9 HM
        have HN : Hid _ := HX2.out.ret6 (a := .int .i64 (-1)) (b := .bool true) (c := .slice B0 l.length c0) (d := .int .i64 wp) (e := .int .i64 wt) (f := .bool wc) rfl rfl
        generalize hYZ : yt.setCells (w.heap.size + 1) 0 (sixL (.int .i64 (-1)) (.bool true) (.slice B0 l.length c0) (.int .i64 wp) (.int .i64 wt) (.bool wc)).toArray.toList = yz at HN
        go_wp2_with (first | (refine wpList_store_mid rfl 51 _ _ rfl (w.heap.size + 1 + 1) 3 (threeL (.int .i64 wp) (.int .i64 wt) (.bool wc)).toArray rfl rfl HT3.out (by kernel_rfl) (by simp [threeL, Value.oneCell']) ?_; rw [hYT]) | (refine wpList_load_mid rfl 53 _ rfl (w.heap.size + 1 + 1) 0 rfl (sixL (.int .i64 (-1)) (.bool true) (.slice B0 l.length c0) (.int .i64 wp) (.int .i64 wt) (.bool wc)) _ HN.out.1 Tryz.underlying53 rfl (by kernel_rfl) ?_) | (refine wpList_store_mid rfl 53 _ _ rfl (w.heap.size + 1) 0 (sixL (.int .i64 (-1)) (.bool true) (.slice B0 l.length c0) (.int .i64 wp) (.int .i64 wt) (.bool wc)).toArray rfl rfl HN.out.2.1 (by kernel_rfl) (by simp [sixL, Value.oneCell']) ?_; rw [hYZ]))
        refine bodyPost_ret (v := .agg (sixL (.int .i64 (-1)) (.bool true) (.slice B0 l.length c0) (.int .i64 wp) (.int .i64 wt) (.bool wc)).toArray) (results_cell_row rfl _ _ (w.heap.size + 1) 53 (sixL (.int .i64 (-1)) (.bool true) (.slice B0 l.length c0) (.int .i64 wp) (.int .i64 wt) (.bool wc)).toArray _ _ rfl HN.out.2.2.2.2.1 Tryz.underlying53 rfl (by kernel_rfl)) rfl ?_
        exact ⟨true, wp, wt, wc, .slice B0 l.length c0, l, jw, .ovP t6 wu, rfl, (HMy.out.but HN.out.2.2.2.2.2 (by simp)).sees, HN.out.2.2.1, ⟨fun h => (HX2.out.syn.at' h).trans (if_neg (by rw [HU.out.1]; simp)), fun h => ⟨by
            rcases (HX2.out.syn.past h).1 with ⟨h1, -⟩ | ⟨s', a, h1, h2, h3, h4⟩
            · exact h1.elim
            · exact .inr ⟨.wkP t6 s', a, h1, h2.trans (if_pos (by rw [h1]; rfl)), rfl, HLE.out, h3, h4⟩, (HX2.out.syn.past h).2⟩⟩, rfl, (fun h => ⟨rfl, HLE.out, (HU.out.2 h).1, (HU.out.2 h).2⟩), HN.out.2.2.2.1, HX2.out.le⟩
  · by_cases h1 : hw = 1
    · subst h1
      have hd0 : ((1 : Int) != 0) = true := by decide
      have hd1 : ((1 : Int) != 1) = false := by decide
      have hd2 : ((1 : Int) == 0) = false := by decide
      have hA := syn_store HH1.out.run HH1.out.syn HBD.out at0 1 (fun _ => HAX.out.trans (by rw [show gvWhat 1 = 1 from if_pos (.inr rfl)]))
      go_wp2_with fail
      go_at_call 92; refine hA.mono ?_; rintro e y2 ⟨⟨u2, rfl⟩, v2, hK⟩
      have HH2 : Hid (HdAt w y2 x A cap m gf M s0 j (j + 1) (gvA emb .fresh) (GvQ Q emb P T G t p g 1 false [] (-1) false) #[.int .i64 P, .int .i64 T, .int .i64 G] 53 #[.int .i64 0, .bool false, .slice none 0 0, .int .i64 0, .int .i64 0, .bool false] (w.heap.size + 1 + 1) #[.int .i64 (-1), .bool false, .slice none 0 0, .int .i64 (-1), .int .i64 (-1), .bool false]) := by
        have h := HH1.out.step hK
        rw [HE.out.nx .st _ _ rfl] at h
        exact h.as ((h.syn.weak (fun q h => h.elim (fun h => .inr ⟨.st, _, rfl, h, rfl, rfl, rfl, rfl⟩) (fun h => .inl ⟨h, rfl, rfl, rfl, rfl⟩))).as (fun _ => by show emb (if (1 : Int) = 0 then .put (rpStart g false) else if (1 : Int) = 1 then .acq .fresh else .park) = _; rw [if_neg (by decide), if_pos rfl]; rfl))
      clear hA hK HH1
      have sc := HH2.out.stop
      by_cases hst : m < j + 1
      · rw [decide_eq_true hst] at sc
        have HST : Hid (m < j + 1) := hst
        clear hst
        have HN : Hid _ := HH2.out.ret6 (a := .int .i64 (-1)) (b := .bool false) (c := .slice none 0 0) (d := .int .i64 (-1)) (e := .int .i64 (-1)) (f := .bool false) rfl rfl
        generalize hYZ : y2.setCells (w.heap.size + 1) 0 (sixL (.int .i64 (-1)) (.bool false) (.slice none 0 0) (.int .i64 (-1)) (.int .i64 (-1)) (.bool false)).toArray.toList = yz at HN
        go_wp2_with (first | (refine wpList_load_mid rfl 53 _ rfl (w.heap.size + 1 + 1) 0 rfl (sixL (.int .i64 (-1)) (.bool false) (.slice none 0 0) (.int .i64 (-1)) (.int .i64 (-1)) (.bool false)) _ HN.out.1 Tryz.underlying53 rfl (by kernel_rfl) ?_) | (refine wpList_store_mid rfl 53 _ _ rfl (w.heap.size + 1) 0 (sixL (.int .i64 (-1)) (.bool false) (.slice none 0 0) (.int .i64 (-1)) (.int .i64 (-1)) (.bool false)).toArray rfl rfl HN.out.2.1 (by kernel_rfl) (by simp [sixL, Value.oneCell']) ?_; rw [hYZ]))
        refine bodyPost_ret (v := .agg (sixL (.int .i64 (-1)) (.bool false) (.slice none 0 0) (.int .i64 (-1)) (.int .i64 (-1)) (.bool false)).toArray) (results_cell_row rfl _ _ (w.heap.size + 1) 53 (sixL (.int .i64 (-1)) (.bool false) (.slice none 0 0) (.int .i64 (-1)) (.int .i64 (-1)) (.bool false)).toArray _ _ rfl HN.out.2.2.2.2.1 Tryz.underlying53 rfl (by kernel_rfl)) rfl ?_
        exact ⟨false, (-1), (-1), false, .slice none 0 0, [], j + 1, .park, rfl, (Hof.nil _ []).sees, HN.out.2.2.1, ⟨fun h => absurd h (by have := HST.out; omega), HH2.out.syn.past⟩, rfl, (fun h => absurd h (by have := HST.out; omega)), HN.out.2.2.2.1, HH2.out.le⟩
      · rw [decide_eq_false hst] at sc
        have HST : Hid (j + 1 ≤ m) := (by omega : j + 1 ≤ m)
        clear hst
        have q1 := HH2.out.out.cell 1 (v := .bool false) rfl
        have g1 := HH2.out.out.fro 1
        have HH3 : Hid (HdAt w (y2.setCell ⟨w.heap.size + 1 + 1, 1, none⟩ (.bool true)) x A cap m gf M s0 j (j + 1) (gvA emb .fresh) (fun _ => False) #[.int .i64 P, .int .i64 T, .int .i64 G] 53 #[.int .i64 0, .bool false, .slice none 0 0, .int .i64 0, .int .i64 0, .bool false] (w.heap.size + 1 + 1) #[.int .i64 (-1), .bool true, .slice none 0 0, .int .i64 (-1), .int .i64 (-1), .bool false]) := (HH2.out.set 1 (.bool true)).as (HH2.out.syn.reset6 HST.out _)
        clear HH2
        go_wp2_with fail
        clear q1 g1 sc
        generalize (y2.setCell ⟨w.heap.size + 1 + 1, 1, none⟩ (.bool true)) = y3 at *
        have hAc := syn_acquire (gv_acqIn HE.out) (by omega) HP.out.2.2.2.2.1 HH3.out.run HH3.out.syn HBD.out
        try go_wp2_with fail
        go_at_call 93; refine hAc.mono ?_; rintro e y4 ⟨⟨uc, rfl⟩, j4, tc, hR1, hS1, hB1, hj1⟩
        have HH4 : Hid (HdAt w y4 x A cap m gf M s0 j j4 (gvU emb (.ch 0)) (GvQ Q emb P T G t p g 1 true [g] (-1) false) #[.int .i64 P, .int .i64 T, .int .i64 G] 53 #[.int .i64 0, .bool false, .slice none 0 0, .int .i64 0, .int .i64 0, .bool false] (w.heap.size + 1 + 1) #[.int .i64 (-1), .bool true, .slice none 0 0, .int .i64 (-1), .int .i64 (-1), .bool false]) := HH3.out.go hR1 (hS1.weak (fun q' h => by
          rcases h with h | ⟨p', hp', h⟩
          · exact h.elim
          · have hb : gvA emb p' = emb (.acq p') := by cases p' <;> first | rfl | exact absurd rfl (hp' _)
            obtain ⟨a, ha⟩ : ∃ a, (gvPM P T G t p g 1).ax (.acq p') = some a := by cases p' <;> first | exact ⟨_, rfl⟩ | exact absurd rfl (hp' _)
            exact .inr ⟨.acq p', a, ha, h.trans hb, rfl, rfl, rfl, rfl⟩)) hB1 hj1
        have q2 := HH4.out.out.cell 2 (v := .slice none 0 0) rfl
        have g2 := HH4.out.out.fro 2
        have hol : w.heap.size + 1 + 1 < y4.heap.size := HH4.out.out.lt
        have hne : w.heap.size + 1 + 1 ≠ x := by have := HH4.out.x; omega
        have HH5 : Hid (HdAt w ((y4.setCell ⟨w.heap.size + 1 + 1, 2, none⟩ (.slice (some ⟨y4.heap.size, 0, none⟩) 1 1)).alloc (.cells #[.int .i64 g] 3)) x A cap m gf M s0 j j4 (gvU emb (.ch 0)) (GvQ Q emb P T G t p g 1 true [g] (-1) false) #[.int .i64 P, .int .i64 T, .int .i64 G] 53 #[.int .i64 0, .bool false, .slice none 0 0, .int .i64 0, .int .i64 0, .bool false] (w.heap.size + 1 + 1) #[.int .i64 (-1), .bool true, .slice (some ⟨y4.heap.size, 0, none⟩) 1 1, .int .i64 (-1), .int .i64 (-1), .bool false]) := (HH4.out.set 2 (.slice (some ⟨y4.heap.size, 0, none⟩) 1 1)).low ((Below.refl _ _).alloc (Nat.le_refl _) _)
        have HL5 : Hid (Hof ((y4.setCell ⟨w.heap.size + 1 + 1, 2, none⟩ (.slice (some ⟨y4.heap.size, 0, none⟩) 1 1)).alloc (.cells #[.int .i64 g] 3)) (.slice (some ⟨y4.heap.size, 0, none⟩) 1 1) [g] [x, w.heap.size + 1, w.heap.size + 1 + 1]) := by
          have h1 := Hof.one (y4.setCell ⟨w.heap.size + 1 + 1, 2, none⟩ (.slice (some ⟨y4.heap.size, 0, none⟩) 1 1)) g [x, w.heap.size + 1, w.heap.size + 1 + 1] (fun k hk => by have h8 := HH4.out.x; have h9 := HH4.out.out.lt; simp at hk; rw [size_set]; omega)
          rw [size_set] at h1
          exact h1
        clear hAc hR1 hS1 hB1 hj1 HH3 HST
        have sc := HH5.out.stop
        by_cases hst : m < j4
        · rw [decide_eq_true hst] at sc
          have HST : Hid (m < j4) := hst
          clear hst HH4
          go_wp2_with fail
          clear q2 g2 sc hol
          generalize (some ⟨y4.heap.size, 0, none⟩ : Option Addr) = sA at *
          generalize ((y4.setCell ⟨w.heap.size + 1 + 1, 2, none⟩ (.slice sA 1 1)).alloc (.cells #[.int .i64 g] 3)) = y5 at *
          have hRl := syn_release (gv_relIn HE.out .ld) (by omega) HH5.out.run (⟨fun h => absurd h (by have := HST.out; omega), HH5.out.syn.past⟩ : Syn M s0 gf m j4 (gvR emb .ld .fresh) (GvQ Q emb P T G t p g 1 true [g] (-1) false)) HBD.out
          try go_wp2_with fail
          go_at_call 95; refine hRl.mono ?_; rintro e y6 ⟨⟨uk, rfl⟩, j6, hR5, hS5, hB5, hj5⟩
          have HST6 : Hid (m < j6) := (by have := HST.out; omega : m < j6)
          have HH6 : Hid (HdAt w y6 x A cap m gf M s0 j j6 (emb .park) (GvQ Q emb P T G t p g 1 true [g] (-1) false) #[.int .i64 P, .int .i64 T, .int .i64 G] 53 #[.int .i64 0, .bool false, .slice none 0 0, .int .i64 0, .int .i64 0, .bool false] (w.heap.size + 1 + 1) #[.int .i64 (-1), .bool true, .slice sA 1 1, .int .i64 (-1), .int .i64 (-1), .bool false]) := HH5.out.go hR5 ⟨fun h => absurd h (by have := HST6.out; omega), fun h => ⟨(HH5.out.syn.past HST.out).1, (hS5.past h).2⟩⟩ hB5 hj5
          have HM : Hid (Hof y6 (.slice sA 1 1) [g] [x, w.heap.size + 1, w.heap.size + 1 + 1]) := HL5.out.but hB5 (by simp)
          have sc := HH6.out.stop
          rw [decide_eq_true HST6.out] at sc
          clear hRl hR5 hS5 hB5 hj5 HH5 HL5
          have HN : Hid _ := HH6.out.ret6 (a := .int .i64 (-1)) (b := .bool true) (c := .slice sA 1 1) (d := .int .i64 (-1)) (e := .int .i64 (-1)) (f := .bool false) rfl rfl
          generalize hYZ : y6.setCells (w.heap.size + 1) 0 (sixL (.int .i64 (-1)) (.bool true) (.slice sA 1 1) (.int .i64 (-1)) (.int .i64 (-1)) (.bool false)).toArray.toList = yz at HN
          go_wp2_with (first | (refine wpList_load_mid rfl 53 _ rfl (w.heap.size + 1 + 1) 0 rfl (sixL (.int .i64 (-1)) (.bool true) (.slice sA 1 1) (.int .i64 (-1)) (.int .i64 (-1)) (.bool false)) _ HN.out.1 Tryz.underlying53 rfl (by kernel_rfl) ?_) | (refine wpList_store_mid rfl 53 _ _ rfl (w.heap.size + 1) 0 (sixL (.int .i64 (-1)) (.bool true) (.slice sA 1 1) (.int .i64 (-1)) (.int .i64 (-1)) (.bool false)).toArray rfl rfl HN.out.2.1 (by kernel_rfl) (by simp [sixL, Value.oneCell']) ?_; rw [hYZ]))
          refine bodyPost_ret (v := .agg (sixL (.int .i64 (-1)) (.bool true) (.slice sA 1 1) (.int .i64 (-1)) (.int .i64 (-1)) (.bool false)).toArray) (results_cell_row rfl _ _ (w.heap.size + 1) 53 (sixL (.int .i64 (-1)) (.bool true) (.slice sA 1 1) (.int .i64 (-1)) (.int .i64 (-1)) (.bool false)).toArray _ _ rfl HN.out.2.2.2.2.1 Tryz.underlying53 rfl (by kernel_rfl)) rfl ?_
          exact ⟨true, (-1), (-1), false, .slice sA 1 1, [g], j6, .park, rfl, (HM.out.but HN.out.2.2.2.2.2 (by simp)).sees, HN.out.2.2.1, ⟨fun h => absurd h (by have := HST6.out; omega), HH6.out.syn.past⟩, rfl, (fun h => absurd h (by have := HST6.out; omega)), HN.out.2.2.2.1, HH6.out.le⟩
        · rw [decide_eq_false hst] at sc
          have HST : Hid (j4 ≤ m) := (by omega : j4 ≤ m)
          have k0 := HH4.out.cfg.cell 0 (v := .int .i64 P) rfl
          have k1 := HH4.out.cfg.cell 1 (v := .int .i64 T) rfl
          have k2 := HH4.out.cfg.cell 2 (v := .int .i64 G) rfl
          have hcl := HH4.out.cfg.lt
          clear hst HH4
          go_wp2_with fail
          clear q2 g2 sc hol hcl k0 k1 k2
          have hs5 : ((y4.setCell ⟨w.heap.size + 1 + 1, 2, none⟩ (.slice (some ⟨y4.heap.size, 0, none⟩) 1 1)).alloc (.cells #[.int .i64 g] 3)).heap.size = y4.heap.size + 1 := by rw [World.size_alloc, size_set]
          try rw [← hs5]
          clear hs5
          generalize (some ⟨y4.heap.size, 0, none⟩ : Option Addr) = sA at *
          generalize ((y4.setCell ⟨w.heap.size + 1 + 1, 2, none⟩ (.slice sA 1 1)).alloc (.cells #[.int .i64 g] 3)) = y5 at *
          try go_wp2_with fail
          have HH6 : Hid (HdAt w (y5.alloc (.cells #[.int .i64 g] 3)) x A cap m gf M s0 j j4 (gvU emb (qpStart [g])) (fun _ => False) #[.int .i64 P, .int .i64 T, .int .i64 G] 53 #[.int .i64 0, .bool false, .slice none 0 0, .int .i64 0, .int .i64 0, .bool false] (w.heap.size + 1 + 1) #[.int .i64 (-1), .bool true, .slice sA 1 1, .int .i64 (-1), .int .i64 (-1), .bool false]) := (HH5.out.as (HH5.out.syn.reset6 HST.out _)).low ((Below.refl _ _).alloc (Nat.le_refl _) _)
          have HG1 : Hid (Hof (y5.alloc (.cells #[.int .i64 g] 3)) (.slice (some ⟨y5.heap.size, 0, none⟩) 1 1) [g] [x, w.heap.size + 1, w.heap.size + 1 + 1]) := Hof.one y5 g [x, w.heap.size + 1, w.heap.size + 1 + 1] (fun k hk => by have h8 := HH5.out.x; have h9 := HH5.out.out.lt; simp at hk; omega)
          have HFR : Hid (y5.heap.size ∉ [x, w.heap.size + 1, w.heap.size + 1 + 1]) := (by
            have h8 := HH5.out.x
            have h9 := HH5.out.out.lt
            intro hm
            simp at hm
            omega : y5.heap.size ∉ [x, w.heap.size + 1, w.heap.size + 1 + 1])
          have hQ := syn_qputB (gv_qpIn HE.out) HP.out.1 HP.out.2.2.1 HP.out.2.2.2.1 (by simp) (B := some ⟨y5.heap.size, 0, none⟩) (cp := 1) HG1.out.sees (fun _ b off e => by cases e; have h8 := HH5.out.x; have h9 := HH5.out.out.lt; omega) HH6.out.run HH6.out.syn HBD.out
          have k0 := HH6.out.cfg.cell 0 (v := .int .i64 P) rfl
          have k1 := HH6.out.cfg.cell 1 (v := .int .i64 T) rfl
          have k2 := HH6.out.cfg.cell 2 (v := .int .i64 G) rfl
          have q2 := HH6.out.out.cell 2 (v := .slice sA 1 1) rfl
          have g2 := HH6.out.out.fro 2
          simp only [List.length_cons, List.length_nil, Nat.zero_add] at hQ
          clear HH5 HL5
          have hQ5 : y5.heap.size = y5.heap.size := rfl
          generalize hYG : y5.alloc (.cells #[.int .i64 g] 3) = yg at *
          generalize y5.heap.size = n5 at *
          clear hYG
          try go_wp2_with fail
          go_at_call 94; refine hQ.mono ?_; rintro e yh ⟨v, held, jh, u, rfl, a1, a2, a3, a4, a5, a6, a7, a8⟩
          obtain ⟨A1, c1, rfl, -⟩ : ∃ A1 c1, v = .slice A1 held.length c1 ∧ True := by obtain ⟨A1, c1, e1, -⟩ := a1; exact ⟨A1, c1, e1, trivial⟩
          have HHo : Hid (Hof yh (.slice A1 held.length c1) held [x, w.heap.size + 1, w.heap.size + 1 + 1]) := ⟨A1, c1, rfl, a1, fun h b off e => by have h2 := a8 _ _ _ rfl h; rw [e] at h2; cases h2; exact HFR.out⟩
          have HU : Hid (QpT.live u = false ∧ (jh ≤ m → held = if u.lies = true then [] else [g])) := ⟨a4, a5⟩
          have oo2 := (HH6.out.go a2 a3 a6 a7).out.cell 2 (v := .slice sA 1 1) rfl
          have ff2 := (HH6.out.go a2 a3 a6 a7).out.fro 2
          have HH7 : Hid (HdAt w (yh.setCell ⟨w.heap.size + 1 + 1, 2, none⟩ (.slice A1 held.length c1)) x A cap m gf M s0 j jh (gvU emb u) (QpQ (fun _ => False) (gvU emb) [g] held) #[.int .i64 P, .int .i64 T, .int .i64 G] 53 #[.int .i64 0, .bool false, .slice none 0 0, .int .i64 0, .int .i64 0, .bool false] (w.heap.size + 1 + 1) #[.int .i64 (-1), .bool true, .slice A1 held.length c1, .int .i64 (-1), .int .i64 (-1), .bool false]) := (HH6.out.go a2 a3 a6 a7).set 2 (.slice A1 held.length c1)
          have HHp : Hid (Hof (yh.setCell ⟨w.heap.size + 1 + 1, 2, none⟩ (.slice A1 held.length c1)) (.slice A1 held.length c1) held [x, w.heap.size + 1, w.heap.size + 1 + 1]) := HHo.out.but (k := w.heap.size + 1 + 1) ((But.refl _ _).set (g := w.heap.size + 1 + 1) (.inl (by simp)) 2 _) (by simp)
          clear hQ a1 a2 a3 a4 a5 a6 a7 a8 HH6 HG1 k0 k1 k2 q2 g2 HHo HFR
          go_wp2_with fail
          clear oo2 ff2
          generalize yh.setCell ⟨w.heap.size + 1 + 1, 2, none⟩ (.slice A1 held.length c1) = yi at *
          have HH8 : Hid (HdAt w yi x A cap m gf M s0 j jh (gvR emb u .fresh) (GvQ Q emb P T G t p g 1 true held (-1) false) #[.int .i64 P, .int .i64 T, .int .i64 G] 53 #[.int .i64 0, .bool false, .slice none 0 0, .int .i64 0, .int .i64 0, .bool false] (w.heap.size + 1 + 1) #[.int .i64 (-1), .bool true, .slice A1 held.length c1, .int .i64 (-1), .int .i64 (-1), .bool false]) := HH7.out.as ⟨fun h => (HH7.out.syn.at' h).trans (by cases u <;> first | rfl | cases HU.out.1), fun h => ⟨by
            rcases (HH7.out.syn.past h).1 with ⟨h1, -⟩ | ⟨p', hl, h1, h2⟩
            · exact h1.elim
            · have hb : gvU emb p' = emb (.que p') := by cases p' <;> first | rfl | cases hl
              obtain ⟨a, ha⟩ : ∃ a, (gvPM P T G t p g 1).ax (.que p') = some a := by cases p' <;> first | exact ⟨_, rfl⟩ | cases hl
              exact .inr ⟨.que p', a, ha, h1.trans hb, rfl, h2.trans (by rfl), rfl, rfl⟩, (HH7.out.syn.past h).2⟩⟩
          have hRl := syn_release (gv_relIn HE.out u) (by omega) HH8.out.run HH8.out.syn HBD.out
          clear HH7
          try go_wp2_with fail
          go_at_call 95; refine hRl.mono ?_; rintro e yk ⟨⟨uk, rfl⟩, jk, hR5, hS5, hB5, hj5⟩
          have HH9 : Hid (HdAt w yk x A cap m gf M s0 j jk (gvR emb u .over) (GvQ Q emb P T G t p g 1 true held (-1) false) #[.int .i64 P, .int .i64 T, .int .i64 G] 53 #[.int .i64 0, .bool false, .slice none 0 0, .int .i64 0, .int .i64 0, .bool false] (w.heap.size + 1 + 1) #[.int .i64 (-1), .bool true, .slice A1 held.length c1, .int .i64 (-1), .int .i64 (-1), .bool false]) := HH8.out.go hR5 ⟨hS5.at', fun h => ⟨by
            by_cases h4 : m < jh
            · exact (HH8.out.syn.past h4).1
            · have hh := HU.out.2 (by omega)
              rcases (hS5.past h).1 with h1 | h1 | h1
              · exact h1
              · exact .inr ⟨.rel u .fresh, _, rfl, h1, rfl, hh, rfl, rfl⟩
              · exact .inr ⟨.rel u .pass, _, rfl, h1, rfl, hh, rfl, rfl⟩, (hS5.past h).2⟩⟩ hB5 hj5
          have HM : Hid (Hof yk (.slice A1 held.length c1) held [x, w.heap.size + 1, w.heap.size + 1 + 1]) := HHp.out.but hB5 (by simp)
          have HJ : Hid (jh ≤ jk) := hj5
          clear hRl hR5 hS5 hB5 hj5 HH8 HHp HST
          have sc := HH9.out.stop
          by_cases hst : m < jk
          · rw [decide_eq_true hst] at sc
            have HST : Hid (m < jk) := hst
            clear hst
            have HN : Hid _ := HH9.out.ret6 (a := .int .i64 (-1)) (b := .bool true) (c := .slice A1 held.length c1) (d := .int .i64 (-1)) (e := .int .i64 (-1)) (f := .bool false) rfl rfl
            generalize hYZ : yk.setCells (w.heap.size + 1) 0 (sixL (.int .i64 (-1)) (.bool true) (.slice A1 held.length c1) (.int .i64 (-1)) (.int .i64 (-1)) (.bool false)).toArray.toList = yz at HN
            go_wp2_with (first | (refine wpList_load_mid rfl 53 _ rfl (w.heap.size + 1 + 1) 0 rfl (sixL (.int .i64 (-1)) (.bool true) (.slice A1 held.length c1) (.int .i64 (-1)) (.int .i64 (-1)) (.bool false)) _ HN.out.1 Tryz.underlying53 rfl (by kernel_rfl) ?_) | (refine wpList_store_mid rfl 53 _ _ rfl (w.heap.size + 1) 0 (sixL (.int .i64 (-1)) (.bool true) (.slice A1 held.length c1) (.int .i64 (-1)) (.int .i64 (-1)) (.bool false)).toArray rfl rfl HN.out.2.1 (by kernel_rfl) (by simp [sixL, Value.oneCell']) ?_; rw [hYZ]))
            refine bodyPost_ret (v := .agg (sixL (.int .i64 (-1)) (.bool true) (.slice A1 held.length c1) (.int .i64 (-1)) (.int .i64 (-1)) (.bool false)).toArray) (results_cell_row rfl _ _ (w.heap.size + 1) 53 (sixL (.int .i64 (-1)) (.bool true) (.slice A1 held.length c1) (.int .i64 (-1)) (.int .i64 (-1)) (.bool false)).toArray _ _ rfl HN.out.2.2.2.2.1 Tryz.underlying53 rfl (by kernel_rfl)) rfl ?_
            exact ⟨true, (-1), (-1), false, .slice A1 held.length c1, held, jk, .park, rfl, (HM.out.but HN.out.2.2.2.2.2 (by simp)).sees, HN.out.2.2.1, ⟨fun h => absurd h (by have := HST.out; omega), HH9.out.syn.past⟩, rfl, (fun h => absurd h (by have := HST.out; omega)), HN.out.2.2.2.1, HH9.out.le⟩
          · rw [decide_eq_false hst] at sc
            have HST : Hid (jk ≤ m) := (by omega : jk ≤ m)
            clear hst
            have HLE : Hid (held = if u.lies = true then [] else [g]) := HU.out.2 (Nat.le_trans HJ.out HST.out)
            have HHA : Hid (HdAt w yk x A cap m gf M s0 j jk (gvqW P T t emb u .ld) (fun _ => False) #[.int .i64 P, .int .i64 T, .int .i64 G] 53 #[.int .i64 0, .bool false, .slice none 0 0, .int .i64 0, .int .i64 0, .bool false] (w.heap.size + 1 + 1) #[.int .i64 (-1), .bool true, .slice A1 held.length c1, .int .i64 (-1), .int .i64 (-1), .bool false]) := HH9.out.as ⟨fun h => (HH9.out.syn.at' h).trans rfl, fun h => absurd h (by have := HST.out; omega)⟩
            clear HH9
            have hWk := syn_wwake (G := G) (gvq_wwIn HE.out u) HP.out.1 HP.out.2.2.1 HP.out.2.2.2.2.1 HHA.out.run HHA.out.syn HBD.out HSW.out
            have k0 := HHA.out.cfg.cell 0 (v := .int .i64 P) rfl
            have k1 := HHA.out.cfg.cell 1 (v := .int .i64 T) rfl
            have k2 := HHA.out.cfg.cell 2 (v := .int .i64 G) rfl
            have t3 := HHA.out.out.cell 3 (v := .int .i64 (-1)) rfl
            try go_wp2_with fail
            go_at_call 79; refine hWk.mono ?_; rintro e yw ⟨wp, wt, wc, jw, wu, rfl, u1, u2, u3, u4, u5, u6⟩
            have HX : Hid (HdAt w yw x A cap m gf M s0 j jw (gvqW P T t emb u wu) (WwQ (fun _ => False) (gvqW P T t emb u) P T t wp wc) #[.int .i64 P, .int .i64 T, .int .i64 G] 53 #[.int .i64 0, .bool false, .slice none 0 0, .int .i64 0, .int .i64 0, .bool false] (w.heap.size + 1 + 1) #[.int .i64 (-1), .bool true, .slice A1 held.length c1, .int .i64 (-1), .int .i64 (-1), .bool false]) := (HHA.out.go u1 u2 u5 u6)
            have HMx : Hid (Hof yw (.slice A1 held.length c1) held [x, w.heap.size + 1, w.heap.size + 1 + 1]) := HM.out.but u5 (by simp)
            have HU : Hid ((wwPM P T t).ax wu = none ∧ (jw ≤ m → wp = wu.holds ∧ wc = wu.counts)) := ⟨u3, u4⟩
            have HS3 := HX.out.set3 (.int .i64 wp) (.int .i64 wt) (.bool wc) rfl
            have HT3 : Hid (yw.there (w.heap.size + 1 + 1) 3 (threeL (.int .i64 wp) (.int .i64 wt) (.bool wc)).toArray.size) := HS3.1
            have HMy : Hid (Hof (yw.setCells (w.heap.size + 1 + 1) 3 (threeL (.int .i64 wp) (.int .i64 wt) (.bool wc)).toArray.toList) (.slice A1 held.length c1) held [x, w.heap.size + 1, w.heap.size + 1 + 1]) := HMx.out.but HS3.2.2 (by simp)
            have HX2 : Hid (HdAt w (yw.setCells (w.heap.size + 1 + 1) 3 (threeL (.int .i64 wp) (.int .i64 wt) (.bool wc)).toArray.toList) x A cap m gf M s0 j jw (gvqW P T t emb u wu) (WwQ (fun _ => False) (gvqW P T t emb u) P T t wp wc) #[.int .i64 P, .int .i64 T, .int .i64 G] 53 #[.int .i64 0, .bool false, .slice none 0 0, .int .i64 0, .int .i64 0, .bool false] (w.heap.size + 1 + 1) #[.int .i64 (-1), .bool true, .slice A1 held.length c1, .int .i64 wp, .int .i64 wt, .bool wc]) := HS3.2.1
            generalize hYT : yw.setCells (w.heap.size + 1 + 1) 3 (threeL (.int .i64 wp) (.int .i64 wt) (.bool wc)).toArray.toList = yt at HX2 HMy
            clear hWk u1 u2 u3 u4 u5 u6 HS3 HX HMx k0 k1 k2 t3 HHA HM
            have HN : Hid _ := HX2.out.ret6 (a := .int .i64 (-1)) (b := .bool true) (c := .slice A1 held.length c1) (d := .int .i64 wp) (e := .int .i64 wt) (f := .bool wc) rfl rfl
            generalize hYZ : yt.setCells (w.heap.size + 1) 0 (sixL (.int .i64 (-1)) (.bool true) (.slice A1 held.length c1) (.int .i64 wp) (.int .i64 wt) (.bool wc)).toArray.toList = yz at HN
            go_wp2_with (first | (refine wpList_store_mid rfl 51 _ _ rfl (w.heap.size + 1 + 1) 3 (threeL (.int .i64 wp) (.int .i64 wt) (.bool wc)).toArray rfl rfl HT3.out (by kernel_rfl) (by simp [threeL, Value.oneCell']) ?_; rw [hYT]) | (refine wpList_load_mid rfl 53 _ rfl (w.heap.size + 1 + 1) 0 rfl (sixL (.int .i64 (-1)) (.bool true) (.slice A1 held.length c1) (.int .i64 wp) (.int .i64 wt) (.bool wc)) _ HN.out.1 Tryz.underlying53 rfl (by kernel_rfl) ?_) | (refine wpList_store_mid rfl 53 _ _ rfl (w.heap.size + 1) 0 (sixL (.int .i64 (-1)) (.bool true) (.slice A1 held.length c1) (.int .i64 wp) (.int .i64 wt) (.bool wc)).toArray rfl rfl HN.out.2.1 (by kernel_rfl) (by simp [sixL, Value.oneCell']) ?_; rw [hYZ]))
            refine bodyPost_ret (v := .agg (sixL (.int .i64 (-1)) (.bool true) (.slice A1 held.length c1) (.int .i64 wp) (.int .i64 wt) (.bool wc)).toArray) (results_cell_row rfl _ _ (w.heap.size + 1) 53 (sixL (.int .i64 (-1)) (.bool true) (.slice A1 held.length c1) (.int .i64 wp) (.int .i64 wt) (.bool wc)).toArray _ _ rfl HN.out.2.2.2.2.1 Tryz.underlying53 rfl (by kernel_rfl)) rfl ?_
            exact ⟨true, wp, wt, wc, .slice A1 held.length c1, held, jw, .ovQ u wu, rfl, (HMy.out.but HN.out.2.2.2.2.2 (by simp)).sees, HN.out.2.2.1, ⟨fun h => (HX2.out.syn.at' h).trans (if_neg (by rw [HU.out.1]; simp)), fun h => ⟨by
                rcases (HX2.out.syn.past h).1 with ⟨h1, -⟩ | ⟨s', a, h1, h2, h3, h4⟩
                · exact h1.elim
                · exact .inr ⟨.wkQ u s', a, h1, h2.trans (if_pos (by rw [h1]; rfl)), rfl, HLE.out, h3, h4⟩, (HX2.out.syn.past h).2⟩⟩, rfl, (fun h => ⟨rfl, HLE.out, (HU.out.2 h).1, (HU.out.2 h).2⟩), HN.out.2.2.2.1, HX2.out.le⟩
    · have hpk : hw ≠ 0 ∧ hw ≠ 1 := ⟨h0, h1⟩
      clear h0 h1
      have hd0 : (hw != 0) = true := by simpa using hpk.1
      have hd1 : (hw != 1) = true := by simpa using hpk.2
      have hA := syn_store HH1.out.run HH1.out.syn HBD.out at0 3 (fun _ => HAX.out.trans (by rw [show gvWhat hw = 3 from if_neg (fun h => h.elim hpk.1 hpk.2)]))
      go_wp2_with fail
      go_at_call 92; refine hA.mono ?_; rintro e y2 ⟨⟨u2, rfl⟩, v2, hK⟩
      have HH2 : Hid (HdAt w y2 x A cap m gf M s0 j (j + 1) (emb .park) (GvQ Q emb P T G t p g hw false [] (-1) false) #[.int .i64 P, .int .i64 T, .int .i64 G] 53 #[.int .i64 0, .bool false, .slice none 0 0, .int .i64 0, .int .i64 0, .bool false] (w.heap.size + 1 + 1) #[.int .i64 (-1), .bool false, .slice none 0 0, .int .i64 (-1), .int .i64 (-1), .bool false]) := by
        have h := HH1.out.step hK
        rw [HE.out.nx .st _ _ rfl] at h
        exact h.as ((h.syn.weak (fun q h => h.elim (fun h => .inr ⟨.st, _, rfl, h, rfl, rfl, rfl, rfl⟩) (fun h => .inl ⟨h, rfl, rfl, rfl, rfl⟩))).as (fun _ => by show emb (if hw = 0 then .put (rpStart g false) else if hw = 1 then .acq .fresh else .park) = _; rw [if_neg hpk.1, if_neg hpk.2]))
      clear hA hK HH1
      have q1 := HH2.out.out.cell 1 (v := .bool false) rfl
      have g1 := HH2.out.out.fro 1
      clear hpk hd0 hd1
      have sc := HH2.out.stop
      by_cases hst : m < j + 1
      · rw [decide_eq_true hst] at sc
        have HST : Hid (m < j + 1) := hst
        clear hst
        have HH3 : Hid (HdAt w (y2.setCell ⟨w.heap.size + 1 + 1, 1, none⟩ (.bool false)) x A cap m gf M s0 j (j + 1) (emb .park) (GvQ Q emb P T G t p g hw false [] (-1) false) #[.int .i64 P, .int .i64 T, .int .i64 G] 53 #[.int .i64 0, .bool false, .slice none 0 0, .int .i64 0, .int .i64 0, .bool false] (w.heap.size + 1 + 1) #[.int .i64 (-1), .bool false, .slice none 0 0, .int .i64 (-1), .int .i64 (-1), .bool false]) := (HH2.out.set 1 (.bool false))
        clear HH2
        have HN : Hid _ := HH3.out.ret6 (a := .int .i64 (-1)) (b := .bool false) (c := .slice none 0 0) (d := .int .i64 (-1)) (e := .int .i64 (-1)) (f := .bool false) rfl rfl
        generalize hYZ : (y2.setCell ⟨w.heap.size + 1 + 1, 1, none⟩ (.bool false)).setCells (w.heap.size + 1) 0 (sixL (.int .i64 (-1)) (.bool false) (.slice none 0 0) (.int .i64 (-1)) (.int .i64 (-1)) (.bool false)).toArray.toList = yz at HN
        go_wp2_with (first | (refine wpList_load_mid rfl 53 _ rfl (w.heap.size + 1 + 1) 0 rfl (sixL (.int .i64 (-1)) (.bool false) (.slice none 0 0) (.int .i64 (-1)) (.int .i64 (-1)) (.bool false)) _ HN.out.1 Tryz.underlying53 rfl (by kernel_rfl) ?_) | (refine wpList_store_mid rfl 53 _ _ rfl (w.heap.size + 1) 0 (sixL (.int .i64 (-1)) (.bool false) (.slice none 0 0) (.int .i64 (-1)) (.int .i64 (-1)) (.bool false)).toArray rfl rfl HN.out.2.1 (by kernel_rfl) (by simp [sixL, Value.oneCell']) ?_; rw [hYZ]))
        refine bodyPost_ret (v := .agg (sixL (.int .i64 (-1)) (.bool false) (.slice none 0 0) (.int .i64 (-1)) (.int .i64 (-1)) (.bool false)).toArray) (results_cell_row rfl _ _ (w.heap.size + 1) 53 (sixL (.int .i64 (-1)) (.bool false) (.slice none 0 0) (.int .i64 (-1)) (.int .i64 (-1)) (.bool false)).toArray _ _ rfl HN.out.2.2.2.2.1 Tryz.underlying53 rfl (by kernel_rfl)) rfl ?_
        exact ⟨false, (-1), (-1), false, .slice none 0 0, [], j + 1, .park, rfl, (Hof.nil _ []).sees, HN.out.2.2.1, HH3.out.syn, rfl, (fun h => absurd h (by have := HST.out; omega)), HN.out.2.2.2.1, HH3.out.le⟩
      · rw [decide_eq_false hst] at sc
        have HST : Hid (j + 1 ≤ m) := (by omega : j + 1 ≤ m)
        clear hst
        have HH3 : Hid (HdAt w (y2.setCell ⟨w.heap.size + 1 + 1, 1, none⟩ (.bool true)) x A cap m gf M s0 j (j + 1) (emb .park) (GvQ Q emb P T G t p g hw true [] (-1) false) #[.int .i64 P, .int .i64 T, .int .i64 G] 53 #[.int .i64 0, .bool false, .slice none 0 0, .int .i64 0, .int .i64 0, .bool false] (w.heap.size + 1 + 1) #[.int .i64 (-1), .bool true, .slice none 0 0, .int .i64 (-1), .int .i64 (-1), .bool false]) := (HH2.out.set 1 (.bool true)).as (HH2.out.syn.reset6 HST.out _)
        clear HH2
        have HN : Hid _ := HH3.out.ret6 (a := .int .i64 (-1)) (b := .bool true) (c := .slice none 0 0) (d := .int .i64 (-1)) (e := .int .i64 (-1)) (f := .bool false) rfl rfl
        generalize hYZ : (y2.setCell ⟨w.heap.size + 1 + 1, 1, none⟩ (.bool true)).setCells (w.heap.size + 1) 0 (sixL (.int .i64 (-1)) (.bool true) (.slice none 0 0) (.int .i64 (-1)) (.int .i64 (-1)) (.bool false)).toArray.toList = yz at HN
        go_wp2_with (first | (refine wpList_load_mid rfl 53 _ rfl (w.heap.size + 1 + 1) 0 rfl (sixL (.int .i64 (-1)) (.bool true) (.slice none 0 0) (.int .i64 (-1)) (.int .i64 (-1)) (.bool false)) _ HN.out.1 Tryz.underlying53 rfl (by kernel_rfl) ?_) | (refine wpList_store_mid rfl 53 _ _ rfl (w.heap.size + 1) 0 (sixL (.int .i64 (-1)) (.bool true) (.slice none 0 0) (.int .i64 (-1)) (.int .i64 (-1)) (.bool false)).toArray rfl rfl HN.out.2.1 (by kernel_rfl) (by simp [sixL, Value.oneCell']) ?_; rw [hYZ]))
        refine bodyPost_ret (v := .agg (sixL (.int .i64 (-1)) (.bool true) (.slice none 0 0) (.int .i64 (-1)) (.int .i64 (-1)) (.bool false)).toArray) (results_cell_row rfl _ _ (w.heap.size + 1) 53 (sixL (.int .i64 (-1)) (.bool true) (.slice none 0 0) (.int .i64 (-1)) (.int .i64 (-1)) (.bool false)).toArray _ _ rfl HN.out.2.2.2.2.1 Tryz.underlying53 rfl (by kernel_rfl)) rfl ?_
        exact ⟨true, (-1), (-1), false, .slice none 0 0, [], j + 1, .park, rfl, (Hof.nil _ []).sees, HN.out.2.2.1, HH3.out.syn, rfl, (fun _ => ⟨rfl, rfl, rfl, rfl⟩), HN.out.2.2.2.1, HH3.out.le⟩
theorem rgive_on (w : World) (x : Nat) (A : Option Addr) (cap m : Nat) (gf : Nat → Int) (P T G t p g hw : Int) (s : GvT) (h : RunOn w x A cap m gf rn0) (hh : Hist (gvPM P T G t p g hw) .st gf m s) (hp : 0 ≤ P ∧ P ≤ 64) (hpp : 0 ≤ p ∧ p < P) (hT : 0 ≤ T ∧ T ≤ 65536) (hG : 0 ≤ G ∧ G ≤ 65536) (hw' : 0 ≤ t ∧ t ≤ 300) (hn : 0 ≤ g ∧ g ≤ 9223372036854775807) :
    Calls Tryz.prog 26 #[.pointer (some ⟨x, 0, none⟩), .agg #[.int .i64 P, .int .i64 T, .int .i64 G], .int .i64 t, .int .i64 p, .int .i64 g, .int .i64 hw] w fun e w' => ∃ v tt, e = .returned (.agg #[.int .i64 (-1), .bool s.gave, v, .int .i64 s.hand, .int .i64 tt, .bool s.counts]) ∧ SeesL w' v (s.holds g) ∧ RunOn w' x A cap m gf ((gvPM P T G t p g hw).rn s m) ∧ But [x] w w' := by
  rw [← rj_start (M := (gvPM P T G t p g hw)) (s0 := GvT.st) (g := gf) (m := m)] at h
  refine (syn_give (pm_in _) hp hpp hT hG hw' hn h (Syn.start _ _ _ _) hh.bd hh.sw).mono ?_
  rintro e w' ⟨gv, hd, tt, c, v, l, j', sf, rfl, h0, h1, h2, h3, h4, h5, -⟩
  have hr : gv = s.gave ∧ l = s.holds g ∧ hd = s.hand ∧ c = s.counts := by
    rcases h2.fin hh (fun _ => h3) with ⟨e1, e2⟩ | ⟨-, (⟨hf, -⟩ | ⟨s', a, -, e1, e2⟩)⟩
    · rw [e1]; exact h4 (by omega)
    · exact hf.elim
    · rw [e1]; exact e2
  obtain ⟨rfl, rfl, rfl, rfl⟩ := hr
  refine ⟨v, tt, rfl, h0, ?_, h5⟩
  rw [← rj_end h2 hh (fun _ => h3)]
  exact h1
end Go.Proofs.YtfdpikkinlljlaaGreat

namespace Go.Proofs.YtfdpikkinlljlaaGreat
open Go Go.RowKit
set_option linter.unusedVariables false
set_option maxRecDepth 100000
set_option linter.unusedSimpArgs false

theorem rp_few {who P T G p : Int} {gl : Int → Int} {cl : Nat} {q : RpT} (h : (rpCp who gl P T G p cl).ok q) : q.holds.length ≤ 1000000 := by
  have hl : q.d.gv.length = 128 := by cases q <;> first | exact h.1.len | exact RpD.Ok.len h
  have ha : q.d.all.length ≤ 1000000 := by have := RpD.all_len' hl; omega
  unfold RpT.holds
  cases q <;> simp only <;> (repeat' split) <;> first | exact ha | simp

theorem gv_few {P T G t p g hw : Int} {cl : Nat} {w : World} {x : Nat} {s : GvT} {L : List Nat} (h : (gvCp P T G t p g hw cl).I w x s L) : (s.holds g).length ≤ 1000000 := by
  have hp : ∀ q, s.q = some q → q.holds.length ≤ 1000000 := fun q hq => by
    obtain ⟨es, nx, hB, h1, -⟩ := gv_parts h
    obtain ⟨L1, h1⟩ := h1 q hq
    exact rp_few h1.1
  unfold GvT.holds
  cases hq : s.q with
  | some q => exact hp q hq
  | none =>
    cases s.u with
    | none => simp
    | some u => show List.length (if u.lies = true then [] else [g]) ≤ _; split <;> simp

theorem readyGives_bad (P T G : Int) (x0 x1 x2 x3 : Int) (hx9 : x2 ≤ 9223372036854775807) (E F : Option Addr) (m cp mp cq : Nat) (a v : Nat → Int) (w : World) (hAw : ∀ w, Calls Tryz.prog 10 #[] w fun e w' => e = .returned (.bool true) ∧ Below w.heap.size w w') (hm : m ≤ 9223372036854775807) (hmp : mp ≤ 9223372036854775807) (hs : SeesP w w.heap.size E m a v) (hv : ∀ i, i < m → 0 ≤ v i ∧ v i ≤ 18446744073709551615) (h : (¬ FewC P T G ∨ 400 < m) ∨ 300 < mp ∨ x0 < 0 ∨ T ≤ x0 ∨ x1 < 0 ∨ P ≤ x1 ∨ x2 < 0 ∨ G ≤ x2) :
    Calls Tryz.prog 4 #[.agg #[.int .i64 P, .int .i64 T, .int .i64 G, .slice E m cp], .agg #[.int .i64 x0, .int .i64 x1, .int .i64 x2, .int .i64 x3], .slice F mp cq] w fun e w' => e = .returned (.bool true) ∧ Below w.heap.size w w' := by
  have hsz : ((w.alloc (.cells #[.int .i64 P, .int .i64 T, .int .i64 G, .slice E m cp] 26)).alloc (.cells #[.int .i64 x0, .int .i64 x1, .int .i64 x2, .int .i64 x3] 28)).heap.size = w.heap.size + 1 + 1 := by simp
  have HB : Hid (Below w.heap.size w ((w.alloc (.cells #[.int .i64 P, .int .i64 T, .int .i64 G, .slice E m cp] 26)).alloc (.cells #[.int .i64 x0, .int .i64 x1, .int .i64 x2, .int .i64 x3] 28))) := ((Below.refl _ _).alloc (Nat.le_refl _) _).alloc (by simp) _
  have hX0 : Hid (Blk ((w.alloc (.cells #[.int .i64 P, .int .i64 T, .int .i64 G, .slice E m cp] 26)).alloc (.cells #[.int .i64 x0, .int .i64 x1, .int .i64 x2, .int .i64 x3] 28)) w.heap.size #[.int .i64 P, .int .i64 T, .int .i64 G, .slice E m cp] 26) := (Blk.new w #[.int .i64 P, .int .i64 T, .int .i64 G, .slice E m cp] 26).al _
  have hX1 : Hid (Blk ((w.alloc (.cells #[.int .i64 P, .int .i64 T, .int .i64 G, .slice E m cp] 26)).alloc (.cells #[.int .i64 x0, .int .i64 x1, .int .i64 x2, .int .i64 x3] 28)) (w.heap.size + 1) #[.int .i64 x0, .int .i64 x1, .int .i64 x2, .int .i64 x3] 28) := by
    have := Blk.new (w.alloc (.cells #[.int .i64 P, .int .i64 T, .int .i64 G, .slice E m cp] 26)) #[.int .i64 x0, .int .i64 x1, .int .i64 x2, .int .i64 x3] 28
    rw [show (w.alloc (.cells #[.int .i64 P, .int .i64 T, .int .i64 G, .slice E m cp] 26)).heap.size = w.heap.size + 1 by simp] at this
    exact this
  have HAW : Hid (∀ w, Calls Tryz.prog 10 #[] w fun e w' => e = .returned (.bool true) ∧ Below w.heap.size w w') := hAw
  clear hAw
  by_cases hf : ¬ FewC P T G ∨ 400 < m
  · have hL := lay_none P T G E m cp ((w.alloc (.cells #[.int .i64 P, .int .i64 T, .int .i64 G, .slice E m cp] 26)).alloc (.cells #[.int .i64 x0, .int .i64 x1, .int .i64 x2, .int .i64 x3] 28)) hm hf
    clear h hf hs hv
    go_enter Tryz.func4, Tryz.ntmps4
    go_wp2_with fail
    generalize ((w.alloc (.cells #[.int .i64 P, .int .i64 T, .int .i64 G, .slice E m cp] 26)).alloc (.cells #[.int .i64 x0, .int .i64 x1, .int .i64 x2, .int .i64 x3] 28)) = W at *
    go_at_call 9; refine hL.mono ?_; rintro e w1 ⟨rfl, hLd⟩
    have hbl : Below W.heap.size W w1 := hLd
    have HB1 : Hid (Below w.heap.size w w1) := HB.out.trans (hbl.mono (by omega))
    have hY0 := hX0.out.but (But.of_below (l := []) hbl) (by simp)
    have hY1 := hX1.out.but (But.of_below (l := []) hbl) (by simp)
    have zP := hY0.cell 0 (v := .int .i64 P) rfl
    have zT := hY0.cell 1 (v := .int .i64 T) rfl
    have zG := hY0.cell 2 (v := .int .i64 G) rfl
    have u0 := hY1.cell 0 (v := .int .i64 x0) rfl
    have u1 := hY1.cell 1 (v := .int .i64 x1) rfl
    have u2 := hY1.cell 2 (v := .int .i64 x2) rfl
    have u3 := hY1.cell 3 (v := .int .i64 x3) rfl
    clear hL hbl hLd hY0 hY1
    go_wp2_with fail
    go_at_call 10; refine (HAW.out _).mono ?_; rintro e w2 ⟨rfl, h2⟩
    have h3 := seq HB1.out h2
    go_wp2_with fail
    go_ret
    exact ⟨rfl, h3⟩
  · have hF : FewC P T G := Decidable.byContradiction fun h => hf (.inl h)
    have hm4 : m ≤ 400 := by omega
    have hM := hF.h.1.h
    obtain ⟨n, hn⟩ : ∃ n : Nat, (n : Int) = 20 + 264 * P + 3 * T + 2 * G := ⟨(20 + 264 * P + 3 * T + 2 * G).toNat, by omega⟩
    have hL := lay_some P T G E m cp n a v _ hm4 hF hn ((hs.up (.cells #[.int .i64 P, .int .i64 T, .int .i64 G, .slice E m cp] 26)).up (.cells #[.int .i64 x0, .int .i64 x1, .int .i64 x2, .int .i64 x3] 28)) hv
    have htt : 300 < mp ∨ x0 < 0 ∨ T ≤ x0 ∨ x1 < 0 ∨ P ≤ x1 ∨ x2 < 0 ∨ G ≤ x2 := by rcases h with h | h; exact absurd h hf; exact h
    clear h hf hs hv hn hF hM
    by_cases q1 : 300 < mp
    · clear htt
      have e1 : decide ((300 : Int) < (mp : Int)) = true := decide_eq_true (by omega)
      go_enter Tryz.func4, Tryz.ntmps4
      go_wp2_with fail
      generalize ((w.alloc (.cells #[.int .i64 P, .int .i64 T, .int .i64 G, .slice E m cp] 26)).alloc (.cells #[.int .i64 x0, .int .i64 x1, .int .i64 x2, .int .i64 x3] 28)) = W at *
      go_at_call 9; refine hL.mono ?_; rintro e w1 ⟨cl, A, A', cap, cap', c, b, c', b', rfl, hLd⟩
      have hbl : Below W.heap.size W w1 := hLd.below
      have HB1 : Hid (Below w.heap.size w w1) := HB.out.trans (hbl.mono (by omega))
      have hY0 := hX0.out.but (But.of_below (l := []) hbl) (by simp)
      have hY1 := hX1.out.but (But.of_below (l := []) hbl) (by simp)
      have zP := hY0.cell 0 (v := .int .i64 P) rfl
      have zT := hY0.cell 1 (v := .int .i64 T) rfl
      have zG := hY0.cell 2 (v := .int .i64 G) rfl
      have u0 := hY1.cell 0 (v := .int .i64 x0) rfl
      have u1 := hY1.cell 1 (v := .int .i64 x1) rfl
      have u2 := hY1.cell 2 (v := .int .i64 x2) rfl
      have u3 := hY1.cell 3 (v := .int .i64 x3) rfl
      clear hL hbl hLd hY0 hY1
      go_wp2_with fail
      go_at_call 10; refine (HAW.out _).mono ?_; rintro e w2 ⟨rfl, h2⟩
      have h3 := seq HB1.out h2
      go_wp2_with fail
      go_ret
      exact ⟨rfl, h3⟩
    have d1 : decide ((300 : Int) < (mp : Int)) = false := decide_eq_false (by omega)
    by_cases q2 : x0 < 0
    · clear htt
      go_enter Tryz.func4, Tryz.ntmps4
      go_wp2_with fail
      generalize ((w.alloc (.cells #[.int .i64 P, .int .i64 T, .int .i64 G, .slice E m cp] 26)).alloc (.cells #[.int .i64 x0, .int .i64 x1, .int .i64 x2, .int .i64 x3] 28)) = W at *
      go_at_call 9; refine hL.mono ?_; rintro e w1 ⟨cl, A, A', cap, cap', c, b, c', b', rfl, hLd⟩
      have hbl : Below W.heap.size W w1 := hLd.below
      have HB1 : Hid (Below w.heap.size w w1) := HB.out.trans (hbl.mono (by omega))
      have hY0 := hX0.out.but (But.of_below (l := []) hbl) (by simp)
      have hY1 := hX1.out.but (But.of_below (l := []) hbl) (by simp)
      have zP := hY0.cell 0 (v := .int .i64 P) rfl
      have zT := hY0.cell 1 (v := .int .i64 T) rfl
      have zG := hY0.cell 2 (v := .int .i64 G) rfl
      have u0 := hY1.cell 0 (v := .int .i64 x0) rfl
      have u1 := hY1.cell 1 (v := .int .i64 x1) rfl
      have u2 := hY1.cell 2 (v := .int .i64 x2) rfl
      have u3 := hY1.cell 3 (v := .int .i64 x3) rfl
      clear hL hbl hLd hY0 hY1
      go_wp2_with fail
      go_at_call 10; refine (HAW.out _).mono ?_; rintro e w2 ⟨rfl, h2⟩
      have h3 := seq HB1.out h2
      go_wp2_with fail
      go_ret
      exact ⟨rfl, h3⟩
    have d2 : decide (x0 < 0) = false := decide_eq_false (by omega)
    by_cases q3 : T ≤ x0
    · clear htt
      go_enter Tryz.func4, Tryz.ntmps4
      go_wp2_with fail
      generalize ((w.alloc (.cells #[.int .i64 P, .int .i64 T, .int .i64 G, .slice E m cp] 26)).alloc (.cells #[.int .i64 x0, .int .i64 x1, .int .i64 x2, .int .i64 x3] 28)) = W at *
      go_at_call 9; refine hL.mono ?_; rintro e w1 ⟨cl, A, A', cap, cap', c, b, c', b', rfl, hLd⟩
      have hbl : Below W.heap.size W w1 := hLd.below
      have HB1 : Hid (Below w.heap.size w w1) := HB.out.trans (hbl.mono (by omega))
      have hY0 := hX0.out.but (But.of_below (l := []) hbl) (by simp)
      have hY1 := hX1.out.but (But.of_below (l := []) hbl) (by simp)
      have zP := hY0.cell 0 (v := .int .i64 P) rfl
      have zT := hY0.cell 1 (v := .int .i64 T) rfl
      have zG := hY0.cell 2 (v := .int .i64 G) rfl
      have u0 := hY1.cell 0 (v := .int .i64 x0) rfl
      have u1 := hY1.cell 1 (v := .int .i64 x1) rfl
      have u2 := hY1.cell 2 (v := .int .i64 x2) rfl
      have u3 := hY1.cell 3 (v := .int .i64 x3) rfl
      clear hL hbl hLd hY0 hY1
      go_wp2_with fail
      go_at_call 10; refine (HAW.out _).mono ?_; rintro e w2 ⟨rfl, h2⟩
      have h3 := seq HB1.out h2
      go_wp2_with fail
      go_ret
      exact ⟨rfl, h3⟩
    have d3 : decide (T ≤ x0) = false := decide_eq_false (by omega)
    by_cases q4 : x1 < 0
    · clear htt
      go_enter Tryz.func4, Tryz.ntmps4
      go_wp2_with fail
      generalize ((w.alloc (.cells #[.int .i64 P, .int .i64 T, .int .i64 G, .slice E m cp] 26)).alloc (.cells #[.int .i64 x0, .int .i64 x1, .int .i64 x2, .int .i64 x3] 28)) = W at *
      go_at_call 9; refine hL.mono ?_; rintro e w1 ⟨cl, A, A', cap, cap', c, b, c', b', rfl, hLd⟩
      have hbl : Below W.heap.size W w1 := hLd.below
      have HB1 : Hid (Below w.heap.size w w1) := HB.out.trans (hbl.mono (by omega))
      have hY0 := hX0.out.but (But.of_below (l := []) hbl) (by simp)
      have hY1 := hX1.out.but (But.of_below (l := []) hbl) (by simp)
      have zP := hY0.cell 0 (v := .int .i64 P) rfl
      have zT := hY0.cell 1 (v := .int .i64 T) rfl
      have zG := hY0.cell 2 (v := .int .i64 G) rfl
      have u0 := hY1.cell 0 (v := .int .i64 x0) rfl
      have u1 := hY1.cell 1 (v := .int .i64 x1) rfl
      have u2 := hY1.cell 2 (v := .int .i64 x2) rfl
      have u3 := hY1.cell 3 (v := .int .i64 x3) rfl
      clear hL hbl hLd hY0 hY1
      go_wp2_with fail
      go_at_call 10; refine (HAW.out _).mono ?_; rintro e w2 ⟨rfl, h2⟩
      have h3 := seq HB1.out h2
      go_wp2_with fail
      go_ret
      exact ⟨rfl, h3⟩
    have d4 : decide (x1 < 0) = false := decide_eq_false (by omega)
    by_cases q5 : P ≤ x1
    · clear htt
      go_enter Tryz.func4, Tryz.ntmps4
      go_wp2_with fail
      generalize ((w.alloc (.cells #[.int .i64 P, .int .i64 T, .int .i64 G, .slice E m cp] 26)).alloc (.cells #[.int .i64 x0, .int .i64 x1, .int .i64 x2, .int .i64 x3] 28)) = W at *
      go_at_call 9; refine hL.mono ?_; rintro e w1 ⟨cl, A, A', cap, cap', c, b, c', b', rfl, hLd⟩
      have hbl : Below W.heap.size W w1 := hLd.below
      have HB1 : Hid (Below w.heap.size w w1) := HB.out.trans (hbl.mono (by omega))
      have hY0 := hX0.out.but (But.of_below (l := []) hbl) (by simp)
      have hY1 := hX1.out.but (But.of_below (l := []) hbl) (by simp)
      have zP := hY0.cell 0 (v := .int .i64 P) rfl
      have zT := hY0.cell 1 (v := .int .i64 T) rfl
      have zG := hY0.cell 2 (v := .int .i64 G) rfl
      have u0 := hY1.cell 0 (v := .int .i64 x0) rfl
      have u1 := hY1.cell 1 (v := .int .i64 x1) rfl
      have u2 := hY1.cell 2 (v := .int .i64 x2) rfl
      have u3 := hY1.cell 3 (v := .int .i64 x3) rfl
      clear hL hbl hLd hY0 hY1
      go_wp2_with fail
      go_at_call 10; refine (HAW.out _).mono ?_; rintro e w2 ⟨rfl, h2⟩
      have h3 := seq HB1.out h2
      go_wp2_with fail
      go_ret
      exact ⟨rfl, h3⟩
    have d5 : decide (P ≤ x1) = false := decide_eq_false (by omega)
    by_cases q6 : x2 < 0
    · clear htt
      go_enter Tryz.func4, Tryz.ntmps4
      go_wp2_with fail
      generalize ((w.alloc (.cells #[.int .i64 P, .int .i64 T, .int .i64 G, .slice E m cp] 26)).alloc (.cells #[.int .i64 x0, .int .i64 x1, .int .i64 x2, .int .i64 x3] 28)) = W at *
      go_at_call 9; refine hL.mono ?_; rintro e w1 ⟨cl, A, A', cap, cap', c, b, c', b', rfl, hLd⟩
      have hbl : Below W.heap.size W w1 := hLd.below
      have HB1 : Hid (Below w.heap.size w w1) := HB.out.trans (hbl.mono (by omega))
      have hY0 := hX0.out.but (But.of_below (l := []) hbl) (by simp)
      have hY1 := hX1.out.but (But.of_below (l := []) hbl) (by simp)
      have zP := hY0.cell 0 (v := .int .i64 P) rfl
      have zT := hY0.cell 1 (v := .int .i64 T) rfl
      have zG := hY0.cell 2 (v := .int .i64 G) rfl
      have u0 := hY1.cell 0 (v := .int .i64 x0) rfl
      have u1 := hY1.cell 1 (v := .int .i64 x1) rfl
      have u2 := hY1.cell 2 (v := .int .i64 x2) rfl
      have u3 := hY1.cell 3 (v := .int .i64 x3) rfl
      clear hL hbl hLd hY0 hY1
      go_wp2_with fail
      go_at_call 10; refine (HAW.out _).mono ?_; rintro e w2 ⟨rfl, h2⟩
      have h3 := seq HB1.out h2
      go_wp2_with fail
      go_ret
      exact ⟨rfl, h3⟩
    have d6 : decide (x2 < 0) = false := decide_eq_false (by omega)
    have q7 : G ≤ x2 := by omega
    clear htt
    go_enter Tryz.func4, Tryz.ntmps4
    go_wp2_with fail
    generalize ((w.alloc (.cells #[.int .i64 P, .int .i64 T, .int .i64 G, .slice E m cp] 26)).alloc (.cells #[.int .i64 x0, .int .i64 x1, .int .i64 x2, .int .i64 x3] 28)) = W at *
    go_at_call 9; refine hL.mono ?_; rintro e w1 ⟨cl, A, A', cap, cap', c, b, c', b', rfl, hLd⟩
    have hbl : Below W.heap.size W w1 := hLd.below
    have HB1 : Hid (Below w.heap.size w w1) := HB.out.trans (hbl.mono (by omega))
    have hY0 := hX0.out.but (But.of_below (l := []) hbl) (by simp)
    have hY1 := hX1.out.but (But.of_below (l := []) hbl) (by simp)
    have zP := hY0.cell 0 (v := .int .i64 P) rfl
    have zT := hY0.cell 1 (v := .int .i64 T) rfl
    have zG := hY0.cell 2 (v := .int .i64 G) rfl
    have u0 := hY1.cell 0 (v := .int .i64 x0) rfl
    have u1 := hY1.cell 1 (v := .int .i64 x1) rfl
    have u2 := hY1.cell 2 (v := .int .i64 x2) rfl
    have u3 := hY1.cell 3 (v := .int .i64 x3) rfl
    clear hL hbl hLd hY0 hY1
    go_wp2_with fail
    go_at_call 10; refine (HAW.out _).mono ?_; rintro e w2 ⟨rfl, h2⟩
    have h3 := seq HB1.out h2
    go_wp2_with fail
    go_ret
    exact ⟨rfl, h3⟩

set_option maxHeartbeats 4000000 in
theorem readyGives_ok (P T G : Int) (x0 x1 x2 x3 : Int) (hx9 : x2 ≤ 9223372036854775807) (E F : Option Addr) (m cp mp cq : Nat) (a v : Nat → Int) (Pks : Nat → Pk) (w : World) (hAw : ∀ w, Calls Tryz.prog 10 #[] w fun e w' => e = .returned (.bool true) ∧ Below w.heap.size w w') (hm : m ≤ 400) (hF : FewC P T G) (hmp : mp ≤ 300) (hs : SeesP w w.heap.size E m a v) (hv : ∀ i, i < m → 0 ≤ v i ∧ v i ≤ 18446744073709551615) (hP : SeesC w w.heap.size F mp 6 (pkC Pks)) (hpv : ∀ j, j < mp → 0 ≤ (Pks j).v ∧ (Pks j).v ≤ 18446744073709551615) (hx0 : 0 ≤ x0 ∧ x0 < T) (hx1 : 0 ≤ x1 ∧ x1 < P) (hx2 : 0 ≤ x2 ∧ x2 < G) :
    Calls Tryz.prog 4 #[.agg #[.int .i64 P, .int .i64 T, .int .i64 G, .slice E m cp], .agg #[.int .i64 x0, .int .i64 x1, .int .i64 x2, .int .i64 x3], .slice F mp cq] w fun e w' => e = .returned (.bool true) ∧ Below w.heap.size w w' := by
  have hsz : ((w.alloc (.cells #[.int .i64 P, .int .i64 T, .int .i64 G, .slice E m cp] 26)).alloc (.cells #[.int .i64 x0, .int .i64 x1, .int .i64 x2, .int .i64 x3] 28)).heap.size = w.heap.size + 1 + 1 := by simp
  have HB : Hid (Below w.heap.size w ((w.alloc (.cells #[.int .i64 P, .int .i64 T, .int .i64 G, .slice E m cp] 26)).alloc (.cells #[.int .i64 x0, .int .i64 x1, .int .i64 x2, .int .i64 x3] 28))) := ((Below.refl _ _).alloc (Nat.le_refl _) _).alloc (by simp) _
  have hX0 : Hid (Blk ((w.alloc (.cells #[.int .i64 P, .int .i64 T, .int .i64 G, .slice E m cp] 26)).alloc (.cells #[.int .i64 x0, .int .i64 x1, .int .i64 x2, .int .i64 x3] 28)) w.heap.size #[.int .i64 P, .int .i64 T, .int .i64 G, .slice E m cp] 26) := (Blk.new w #[.int .i64 P, .int .i64 T, .int .i64 G, .slice E m cp] 26).al _
  have hX1 : Hid (Blk ((w.alloc (.cells #[.int .i64 P, .int .i64 T, .int .i64 G, .slice E m cp] 26)).alloc (.cells #[.int .i64 x0, .int .i64 x1, .int .i64 x2, .int .i64 x3] 28)) (w.heap.size + 1) #[.int .i64 x0, .int .i64 x1, .int .i64 x2, .int .i64 x3] 28) := by
    have := Blk.new (w.alloc (.cells #[.int .i64 P, .int .i64 T, .int .i64 G, .slice E m cp] 26)) #[.int .i64 x0, .int .i64 x1, .int .i64 x2, .int .i64 x3] 28
    rw [show (w.alloc (.cells #[.int .i64 P, .int .i64 T, .int .i64 G, .slice E m cp] 26)).heap.size = w.heap.size + 1 by simp] at this
    exact this
  have HAW : Hid (∀ w, Calls Tryz.prog 10 #[] w fun e w' => e = .returned (.bool true) ∧ Below w.heap.size w w') := hAw
  have hM := hF.h.1.h
  have hFF := hF.h
  have hP64 : 0 ≤ P ∧ P ≤ 64 := by omega
  obtain ⟨n, hn⟩ : ∃ n : Nat, (n : Int) = 20 + 264 * P + 3 * T + 2 * G := ⟨(20 + 264 * P + 3 * T + 2 * G).toNat, by omega⟩
  have hn0 : 0 < n := by omega
  have hn6 : n ≤ 1000000 := by omega
  have hL := lay_some P T G E m cp n a v _ hm hF hn ((hs.up (.cells #[.int .i64 P, .int .i64 T, .int .i64 G, .slice E m cp] 26)).up (.cells #[.int .i64 x0, .int .i64 x1, .int .i64 x2, .int .i64 x3] 28)) hv
  have d1 : decide ((300 : Int) < (mp : Int)) = false := decide_eq_false (by omega)
  have d2 : decide (x0 < 0) = false := decide_eq_false (by omega)
  have d3 : decide (T ≤ x0) = false := decide_eq_false (by omega)
  have d4 : decide (x1 < 0) = false := decide_eq_false (by omega)
  have d5 : decide (P ≤ x1) = false := decide_eq_false (by omega)
  have d6 : decide (x2 < 0) = false := decide_eq_false (by omega)
  have d7 : decide (G ≤ x2) = false := decide_eq_false (by omega)
  have HP : Hid (SeesC w w.heap.size F mp 6 (pkC Pks)) := hP
  have HPV : Hid (∀ j, j < mp → 0 ≤ (Pks j).v ∧ (Pks j).v ≤ 18446744073709551615) := hpv
  have hTT : 0 ≤ T ∧ T ≤ 65536 := by omega
  have hGG : 0 ≤ G ∧ G ≤ 65536 := by omega
  have hw3 : 0 ≤ x0 ∧ x0 ≤ 300 := by omega
  have hw6 : 0 ≤ x0 ∧ x0 ≤ 1000000 := by omega
  have hg9 : 0 ≤ x2 ∧ x2 ≤ 9223372036854775807 := by omega
  have HLAW : Hid (∀ cl, (gvCp P T G x0 x1 x2 x3 cl).Laws (gvPM P T G x0 x1 x2 x3) (Rd.lay cl P T G) x0) := fun cl => gv_laws hw6 hP64 hTT hGG
  have HREF : Hid (∀ (w : World) (x : Nat) (A : Option Addr) (cap m : Nat) (gf : Nat → Int) (t : GvT), RunOn w x A cap m gf rn0 → Hist (gvPM P T G x0 x1 x2 x3) GvT.st gf m t → Calls Tryz.prog 26 #[.pointer (some ⟨x, 0, none⟩), .agg #[.int .i64 P, .int .i64 T, .int .i64 G], .int .i64 x0, .int .i64 x1, .int .i64 x2, .int .i64 x3] w fun e w' => ∃ v tt, e = .returned (.agg #[.int .i64 (-1), .bool t.gave, v, .int .i64 t.hand, .int .i64 tt, .bool t.counts]) ∧ RI.SeesL w' v (t.holds x2) ∧ RunOn w' x A cap m gf ((gvPM P T G x0 x1 x2 x3).rn t m) ∧ But [x] w w') := fun w x A cap m gf t h hh => rgive_on w x A cap m gf P T G x0 x1 x2 x3 t h hh hP64 hx1 hTT hGG hw3 hg9
  have HGOT : Hid (∀ cl (w : World) (x : Nat) (t : GvT) (L : List Nat), ((gvCp P T G x0 x1 x2 x3 cl).I) w x t L → (Calls Tryz.prog 28 #[.pointer (some ⟨x, 0, none⟩)] w fun e w' => e = .returned (.bool t.gave) ∧ w = w') ∧ (Calls Tryz.prog 29 #[.pointer (some ⟨x, 0, none⟩)] w fun e w' => ∃ v, e = .returned v ∧ RI.SeesL w' v (t.holds x2) ∧ Below w.heap.size w w') ∧ (Calls Tryz.prog 30 #[.pointer (some ⟨x, 0, none⟩)] w fun e w' => e = .returned (.int .i64 t.hand) ∧ w = w') ∧ (Calls Tryz.prog 31 #[.pointer (some ⟨x, 0, none⟩)] w fun e w' => e = .returned (.bool t.counts) ∧ w = w') ∧ (t.holds x2).length ≤ 1000000) := fun cl w x t L h => ⟨gv_tells_G h, gv_tells_H h, gv_tells_P h, gv_tells_C h, gv_few h⟩
  have HNEW : Hid (∀ cl (w : World), Lay w cl P T G → Calls Tryz.prog 25 #[.pointer (some ⟨cl, 0, none⟩), .int .i64 x0, .int .i64 x1, .int .i64 x2, .int .i64 x3] w fun e w' => ∃ x L, e = .returned (.pointer (some ⟨x, 0, none⟩)) ∧ ((gvCp P T G x0 x1 x2 x3 cl).I) w' x GvT.st L ∧ Below w.heap.size w w' ∧ (∀ k ∈ L, w.heap.size ≤ k)) := fun cl w h => (gv_new w cl x0 x1 x2 x3 P T G h hP64 hTT hGG).mono fun e w' ⟨x, L, h1, h2, h3, h4, _⟩ => ⟨x, L, h1, h2, h3, h4⟩
  clear hx0 hx1 hx2 hTT hGG hw3 hw6 hg9
  clear hAw hs hv hn hF hM hFF hP hpv
  go_enter Tryz.func4, Tryz.ntmps4
  go_wp2_with fail
  generalize ((w.alloc (.cells #[.int .i64 P, .int .i64 T, .int .i64 G, .slice E m cp] 26)).alloc (.cells #[.int .i64 x0, .int .i64 x1, .int .i64 x2, .int .i64 x3] 28)) = W at *
  go_at_call 9; refine hL.mono ?_; rintro e w1 ⟨cl, A, A', cap, cap', c, b, c', b', rfl, hLd⟩
  have HL : Hid (Laid W w1 P T G n (putF a v n m) cl A A' cap cap' c b c' b') := hLd
  have hbl := hLd.below
  have HB1 : Hid (Below w.heap.size w w1) := HB.out.trans (hbl.mono (by omega))
  have hY0 := hX0.out.but (But.of_below (l := []) hbl) (by simp)
  have hY1 := hX1.out.but (But.of_below (l := []) hbl) (by simp)
  have zP := hY0.cell 0 (v := .int .i64 P) rfl
  have zT := hY0.cell 1 (v := .int .i64 T) rfl
  have zG := hY0.cell 2 (v := .int .i64 G) rfl
  have u0 := hY1.cell 0 (v := .int .i64 x0) rfl
  have u1 := hY1.cell 1 (v := .int .i64 x1) rfl
  have u2 := hY1.cell 2 (v := .int .i64 x2) rfl
  have u3 := hY1.cell 3 (v := .int .i64 x3) rfl
  have HXb : Hid (∀ k, Blk (w1.drewN k) w.heap.size #[.int .i64 P, .int .i64 T, .int .i64 G, .slice E m cp] 26) := fun k => hY0.drewN k
  have HXw : Hid (Blk w1 w.heap.size #[.int .i64 P, .int .i64 T, .int .i64 G, .slice E m cp] 26) := hY0
  have HXV : Hid (Blk w1 (w.heap.size + 1) #[.int .i64 x0, .int .i64 x1, .int .i64 x2, .int .i64 x3] 28) := hY1
  clear hL hLd hbl hY0 hY1
  go_wp2_with fail
  have hT1 : Hid (Two w1 A A' cap cap' c b c' b' n (fresh (putF a v n m))) := HL.out.two
  have HB2 : Hid (Below w.heap.size w w1) := HB1.out
  have HLy2 : Hid (Lay w1 cl P T G) := HL.out.lay
  have HX2 : Hid (Blk w1 w.heap.size #[.int .i64 P, .int .i64 T, .int .i64 G, .slice E m cp] 26) := HXw.out
  have HXW : Hid (Blk w1 (w.heap.size + 1) #[.int .i64 x0, .int .i64 x1, .int .i64 x2, .int .i64 x3] 28) := HXV.out
  obtain ⟨u1, u2, u3, u4, u5⟩ := HL.out.up
  have hup : Hid (w.heap.size ≤ c ∧ w.heap.size ≤ b ∧ w.heap.size ≤ c' ∧ w.heap.size ≤ b') := ⟨by omega, by omega, by omega, by omega⟩
  have hbx : Hid (w.heap.size ≠ c ∧ w.heap.size ≠ b ∧ w.heap.size ≠ c' ∧ w.heap.size ≠ b' ∧ w.heap.size ≠ cl) := ⟨by omega, by omega, by omega, by omega, by omega⟩
  have hclup : Hid (w.heap.size ≤ cl) := (by omega : w.heap.size ≤ cl)
  have hbx1 : Hid (w.heap.size + 1 ≠ c ∧ w.heap.size + 1 ≠ b ∧ w.heap.size + 1 ≠ c' ∧ w.heap.size + 1 ≠ b') := ⟨by omega, by omega, by omega, by omega⟩
  generalize hw2 : w1 = w2 at *
  have z0 := HX2.out.cell 0 (v := .int .i64 P) rfl
  have z1 := HX2.out.cell 1 (v := .int .i64 T) rfl
  have z2 := HX2.out.cell 2 (v := .int .i64 G) rfl
  clear HL HB1 HXb HXw u1 u2 u3 u4 u5 hw2 HXV
  have ww0 := HXW.out.cell 0 (v := .int .i64 x0) rfl
  have ww1 := HXW.out.cell 1 (v := .int .i64 x1) rfl
  have ww2 := HXW.out.cell 2 (v := .int .i64 x2) rfl
  have ww3 := HXW.out.cell 3 (v := .int .i64 x3) rfl
  clear hX0 hX1 HB hsz zP zT zG u0 u1 u2 u3
  have hne : Hid (cl ≠ c ∧ cl ≠ b) := lay_ne HLy2.out (by decide) hT1.out.m hn0
  have hne2 : Hid (cl ≠ c' ∧ cl ≠ b') := lay_ne HLy2.out (by decide) hT1.out.r hn0
  have HLW : Hid (((gvCp P T G x0 x1 x2 x3 cl).I).Good (gvPM P T G x0 x1 x2 x3) ∧ Steps (gvPM P T G x0 x1 x2 x3) ((gvCp P T G x0 x1 x2 x3 cl).I) (Rd.lay cl P T G) 32 x0) := ⟨Cp.good (HLAW.out cl), Cp.steps (HLAW.out cl) stepby_give⟩
  have HGD : Hid (((gvCp P T G x0 x1 x2 x3 cl).I).Good (gvPM P T G x0 x1 x2 x3)) := HLW.out.1
  have hN := HNEW.out cl w2 HLy2.out
  go_wp2_with fail
  go_at_call 25; refine hN.mono ?_; rintro e w3 ⟨x, L0, rfl, hi0, hb3, hu1⟩
  have HO0 : Hid (LawOn ((gvCp P T G x0 x1 x2 x3 cl).I) (((Rd.lay cl P T G).and (Rd.blk (w.heap.size + 1) #[.int .i64 x0, .int .i64 x1, .int .i64 x2, .int .i64 x3] 28)).and (Rd.blk w.heap.size #[.int .i64 P, .int .i64 T, .int .i64 G, .slice E m cp] 26)) w w3 A A' cap cap' c b c' b' n (fresh (putF a v n m)) (fresh (putF a v n m)) none 0 0 (fun _ => 0) x GvT.st L0 [cl, w.heap.size + 1, w.heap.size]) := LawOn.begin hT1.out hb3 HB2.out hup.out hi0 HGD.out hu1 ⟨⟨HLy2.out.below hb3 HLy2.out.lt, HXW.out.but (But.of_below (l := []) hb3) (by simp)⟩, HX2.out.but (But.of_below (l := []) hb3) (by simp)⟩ (fun k hk => hk) (by
    obtain ⟨n1, n2⟩ := hne.out; obtain ⟨n3, n4⟩ := hne2.out; obtain ⟨n5, n6, n7, n8, n9⟩ := hbx.out; obtain ⟨m5, m6, m7, m8⟩ := hbx1.out
    intro k hk
    simp only [List.mem_cons, List.not_mem_nil, or_false] at hk
    rcases hk with rfl | rfl | rfl
    · exact ⟨⟨n1, n2, n3, n4⟩, HLy2.out.lt, hclup.out⟩
    · exact ⟨⟨m5, m6, m7, m8⟩, HXW.out.lt, Nat.le_succ _⟩
    · exact ⟨⟨n5, n6, n7, n8⟩, HX2.out.lt, Nat.le_refl _⟩)
  clear hN hi0 hb3 hu1 hT1 HB2 HX2 HLy2 z0 z1 z2 hup hbx hbx1 hclup hne hne2 HXW ww0 ww1 ww2 ww3
  go_wp2_with fail
  go_loopw [12, 13] (fun gv i wr => ∃ (k : Nat) (s : St) (Ag : Option Addr) (capg mg : Nat) (gf : Nat → Int) (t : GvT) (L : List Nat), k ≤ mp ∧ i = .int .i64 k ∧ gv = .slice Ag mg capg ∧ mg ≤ k ∧ Hid (LawOn ((gvCp P T G x0 x1 x2 x3 cl).I) (((Rd.lay cl P T G).and (Rd.blk (w.heap.size + 1) #[.int .i64 x0, .int .i64 x1, .int .i64 x2, .int .i64 x3] 28)).and (Rd.blk w.heap.size #[.int .i64 P, .int .i64 T, .int .i64 G, .slice E m cp] 26)) w wr A A' cap cap' c b c' b' n s s Ag capg mg gf x t L [cl, w.heap.size + 1, w.heap.size]) ∧ Hid (Low s (k : Int)) ∧ Hid (Hist (gvPM P T G x0 x1 x2 x3) GvT.st gf mg t)) (fun _ i _ => mp - (intOf i).toNat)
  case atStart => exact ⟨0, _, none, 0, 0, _, GvT.st, L0, Nat.zero_le _, rfl, rfl, Nat.le_refl _, HO0, low_fresh _, Hist.start _ _ _⟩
  case round =>
    clear HO0
    obtain ⟨k, s, Ag, capg, mg, gf, t, L, hk, rfl, rfl, hmg, HO, HLo, HH⟩ := hrel
    by_cases hlt : k < mp
    · obtain ⟨fb, foff, rfl, hfb, hcell⟩ := HP.out (by omega)
      have hcw : Hid (∀ i u, (pkC Pks k)[i]? = some u → wr.cell? ⟨fb, foff + k * 6 + i, none⟩ = some u) := fun i u hu => (HO.out.poke.below.cell (p := ⟨fb, foff + k * 6 + i, none⟩) hfb).trans (hcell k hlt i u hu)
      have pz := hcw.out 0 (.bool (Pks k).z) rfl
      have hk0 : (0 : Int) ≤ (k : Int) := Int.natCast_nonneg _
      have hk1 : (k : Int) < (mp : Int) := by omega
      clear hcell
      rw [Nat.add_zero] at pz
      cases hz : (Pks k).z
      · rw [hz] at pz
        have HRA : Hid (wr.rangeAt fb (foff + k * 6 + 1) [.int .i64 (Pks k).k, .int .i64 (Pks k).p, .int .i64 (Pks k).i, .int .u64 (Pks k).o, .int .u64 (Pks k).v]) := fun j u hu => by
          have := hcw.out (1 + j) u (by rw [show pkC Pks k = .bool (Pks k).z :: [.int .i64 (Pks k).k, .int .i64 (Pks k).p, .int .i64 (Pks k).i, .int .u64 (Pks k).o, .int .u64 (Pks k).v] from rfl, Nat.add_comm 1 j, List.getElem?_cons_succ]; exact hu)
          rw [← Nat.add_assoc] at this
          exact this
        clear hz hcw
        go_wp2_with (refine wpList_load_mid rfl 41 _ rfl fb (foff + k * 6 + 1) rfl [.int .i64 (Pks k).k, .int .i64 (Pks k).p, .int .i64 (Pks k).i, .int .u64 (Pks k).o, .int .u64 (Pks k).v] _ HRA.out Tryz.underlying41 rfl (by kernel_rfl) ?_)
        go_at_call 12; refine (HO.out.pokes HGD.out hn6 (HLo.out.more (by omega)) (Pks k).k (Pks k).p (Pks k).i (Pks k).o (Pks k).v (HPV.out k hlt)).mono ?_; rintro e w9 ⟨rfl, hO⟩
        have HO9 : Hid _ := hO
        have HLo9 : Hid (Low (actS (Pks k).k (Pks k).p (Pks k).i (Pks k).o (Pks k).v n s) (((k + 1 : Nat)) : Int)) := (actS_low HLo.out _ _ _ _ _ _).more (by omega)
        clear hO HO HRA pz
        go_wp2_with fail
        go_roundw
        case rel => exact ⟨k + 1, _, Ag, capg, mg, gf, t, L, by omega, by go_num, rfl, by omega, HO9, HLo9, HH⟩
        case measure => simp [intOf]; omega
      · rw [hz] at pz
        clear hz hcw
        have hR0 : Hid (RunOn (wr.alloc (.cells (runL (.slice Ag mg capg) rn0).toArray 48)) wr.heap.size Ag capg mg gf rn0) := run_starts HO.out.poke.got (by omega)
        have hb0 : Hid (Below wr.heap.size wr (wr.alloc (.cells (runL (.slice Ag mg capg) rn0).toArray 48))) := (Below.refl _ _).alloc (Nat.le_refl _) _
        have hRR := HREF.out _ _ Ag capg mg gf t hR0.out HH.out
        have y0 := HO.out.rd.2.cell 0 (v := .int .i64 P) rfl
        have y1 := HO.out.rd.2.cell 1 (v := .int .i64 T) rfl
        have y2 := HO.out.rd.2.cell 2 (v := .int .i64 G) rfl
        have q0 := HO.out.rd.1.2.cell 0 (v := .int .i64 x0) rfl
        have q1 := HO.out.rd.1.2.cell 1 (v := .int .i64 x1) rfl
        have q2 := HO.out.rd.1.2.cell 2 (v := .int .i64 x2) rfl
        have q3 := HO.out.rd.1.2.cell 3 (v := .int .i64 x3) rfl
        have hbl0 : w.heap.size < wr.heap.size := HO.out.rd.2.lt
        have hbl : w.heap.size + 1 < wr.heap.size := HO.out.rd.1.2.lt
        go_wp2_with fail
        go_at_call 26; refine hRR.mono ?_; rintro e w40 ⟨vh, tt, rfl, hVH, hR40, hB40⟩
        have hs40 : wr.heap.size < w40.heap.size := hR40.blk.lt
        have hb40 : Below wr.heap.size wr w40 := hb0.out.trans (hB40.below (by simp) (by simp))
        have HVH : Hid (RI.SeesL w40 vh (t.holds x2)) := hVH
        obtain ⟨Ah, ch, rfl, -, -⟩ := hVH
        have HO40 : Hid (LawOn ((gvCp P T G x0 x1 x2 x3 cl).I) (((Rd.lay cl P T G).and (Rd.blk (w.heap.size + 1) #[.int .i64 x0, .int .i64 x1, .int .i64 x2, .int .i64 x3] 28)).and (Rd.blk w.heap.size #[.int .i64 P, .int .i64 T, .int .i64 G, .slice E m cp] 26)) w w40 A A' cap cap' c b c' b' n s s Ag capg mg gf x t L [cl, w.heap.size + 1, w.heap.size]) := HO.out.still HGD.out hb40
        have HR40 : Hid (RunOn w40 wr.heap.size Ag capg mg gf ((gvPM P T G x0 x1 x2 x3).rn t mg)) := hR40
        have hbw : Below w40.heap.size w40 (w40.alloc (.cells #[.int .i64 (-1), .bool t.gave, .slice Ah (t.holds x2).length ch, .int .i64 t.hand, .int .i64 tt, .bool t.counts] 53)) := (Below.refl _ _).alloc (Nat.le_refl _) _
        have HAL : Hid (Blk (w40.alloc (.cells #[.int .i64 (-1), .bool t.gave, .slice Ah (t.holds x2).length ch, .int .i64 t.hand, .int .i64 tt, .bool t.counts] 53)) w40.heap.size #[.int .i64 (-1), .bool t.gave, .slice Ah (t.holds x2).length ch, .int .i64 t.hand, .int .i64 tt, .bool t.counts] 53) := Blk.new _ _ _
        have HO4 : Hid (LawOn ((gvCp P T G x0 x1 x2 x3 cl).I) (((Rd.lay cl P T G).and (Rd.blk (w.heap.size + 1) #[.int .i64 x0, .int .i64 x1, .int .i64 x2, .int .i64 x3] 28)).and (Rd.blk w.heap.size #[.int .i64 P, .int .i64 T, .int .i64 G, .slice E m cp] 26)) w (w40.alloc (.cells #[.int .i64 (-1), .bool t.gave, .slice Ah (t.holds x2).length ch, .int .i64 t.hand, .int .i64 tt, .bool t.counts] 53)) A A' cap cap' c b c' b' n s s Ag capg mg gf x t L [cl, w.heap.size + 1, w.heap.size]) := HO40.out.still HGD.out hbw
        have HR4 : Hid (RunOn (w40.alloc (.cells #[.int .i64 (-1), .bool t.gave, .slice Ah (t.holds x2).length ch, .int .i64 t.hand, .int .i64 tt, .bool t.counts] 53)) wr.heap.size Ag capg mg gf ((gvPM P T G x0 x1 x2 x3).rn t mg)) := HR40.out.below hbw
        have HVH4 : Hid (RI.SeesL (w40.alloc (.cells #[.int .i64 (-1), .bool t.gave, .slice Ah (t.holds x2).length ch, .int .i64 t.hand, .int .i64 tt, .bool t.counts] 53)) (.slice Ah (t.holds x2).length ch) (t.holds x2)) := HVH.out.below hbw
        have hs4 : Hid (wr.heap.size < (w40.alloc (.cells #[.int .i64 (-1), .bool t.gave, .slice Ah (t.holds x2).length ch, .int .i64 t.hand, .int .i64 tt, .bool t.counts] 53)).heap.size ∧ w40.heap.size < (w40.alloc (.cells #[.int .i64 (-1), .bool t.gave, .slice Ah (t.holds x2).length ch, .int .i64 t.hand, .int .i64 tt, .bool t.counts] 53)).heap.size) := ⟨Nat.lt_of_lt_of_le hs40 hbw.size, HAL.out.lt⟩
        have HOK : Hid (∀ a, (gvPM P T G x0 x1 x2 x3).ax t = some a → a.Ok) := fun a ha => Cp.axok (HLAW.out cl) HO40.out.mach a ha
        clear hRR hR40 hB40 hR0 hb0 hb40 HO pz y0 y1 y2 q0 q1 q2 q3 hbl0 hbl hbw HO40 HR40 hs40
        go_wp2_with fail
        generalize (w40.alloc (.cells #[.int .i64 (-1), .bool t.gave, .slice Ah (t.holds x2).length ch, .int .i64 t.hand, .int .i64 tt, .bool t.counts] 53)) = w4 at *
        generalize w40.heap.size = g4 at *
        have HD0 : Hid (∀ Y, Below w4.heap.size w4 Y → Calls Tryz.prog 27 #[.pointer (some ⟨x, 0, none⟩)] Y fun e w' => e = .returned (.bool ((gvPM P T G x0 x1 x2 x3).ax t).isNone) ∧ Y = w') := fun Y hY => by
          obtain ⟨nx, hx1, hx2⟩ := HGD.out.next (HGD.out.below HO4.out.mach hY)
          rw [← hx2]
          exact done_give Y x nx hx1
        have HGv : Hid (∀ Y, Below w4.heap.size w4 Y → Calls Tryz.prog 28 #[.pointer (some ⟨x, 0, none⟩)] Y fun e w' => e = .returned (.bool t.gave) ∧ Y = w') := fun Y hY => (HGOT.out cl Y x t L (HGD.out.below HO4.out.mach hY)).1
        have HPv : Hid (∀ Y, Below w4.heap.size w4 Y → Calls Tryz.prog 30 #[.pointer (some ⟨x, 0, none⟩)] Y fun e w' => e = .returned (.int .i64 t.hand) ∧ Y = w') := fun Y hY => (HGOT.out cl Y x t L (HGD.out.below HO4.out.mach hY)).2.2.1
        have HCv : Hid (∀ Y, Below w4.heap.size w4 Y → Calls Tryz.prog 31 #[.pointer (some ⟨x, 0, none⟩)] Y fun e w' => e = .returned (.bool t.counts) ∧ Y = w') := fun Y hY => (HGOT.out cl Y x t L (HGD.out.below HO4.out.mach hY)).2.2.2.1
        have HHv : Hid (∀ Y, Below w4.heap.size w4 Y → Calls Tryz.prog 29 #[.pointer (some ⟨x, 0, none⟩)] Y fun e w' => ∃ v, e = .returned v ∧ RI.SeesL w' v (t.holds x2) ∧ Below Y.heap.size Y w') := fun Y hY => (HGOT.out cl Y x t L (HGD.out.below HO4.out.mach hY)).2.1
        have HHL : Hid ((t.holds x2).length ≤ 1000000) := (HGOT.out cl w4 x t L HO4.out.mach).2.2.2.2
        have HVY : Hid (∀ Y, Below w4.heap.size w4 Y → RI.SeesL Y (.slice Ah (t.holds x2).length ch) (t.holds x2)) := fun Y hY => HVH4.out.below hY
        have s2 := HR4.out.blk.cell 2 (v := .bool ((gvPM P T G x0 x1 x2 x3).rn t mg).stop) rfl
        rw [PM.rn_stop] at s2
        have k1 := HAL.out.cell 1 (v := .bool t.gave) rfl
        have k2 := HAL.out.cell 2 (v := .slice Ah (t.holds x2).length ch) rfl
        have k3 := HAL.out.cell 3 (v := .int .i64 t.hand) rfl
        have k5 := HAL.out.cell 5 (v := .bool t.counts) rfl
        clear HAL
        clear HVH4 HVH
        generalize (t.holds x2) = lh at *
        generalize t.gave = tg at *
        generalize t.hand = tp at *
        generalize t.counts = tc at *
        cases hst : ((gvPM P T G x0 x1 x2 x3).ax t).isSome
        · rw [hst] at s2
          have hin : ((gvPM P T G x0 x1 x2 x3).ax t).isNone = true := by cases h : (gvPM P T G x0 x1 x2 x3).ax t <;> rw [h] at hst <;> first | rfl | cases hst
          have HD : Hid (∀ Y, Below w4.heap.size w4 Y → Calls Tryz.prog 27 #[.pointer (some ⟨x, 0, none⟩)] Y fun e w' => e = .returned (.bool true) ∧ Y = w') := by rw [← hin]; exact HD0
          have hH : Hid (w4.drew.cell? ⟨wr.heap.size, 2, none⟩ = some (.bool false) ∧ w4.drew.cell? ⟨g4, 1, none⟩ = some (.bool tg) ∧ w4.drew.cell? ⟨g4, 2, none⟩ = some (.slice Ah lh.length ch) ∧ w4.drew.cell? ⟨g4, 3, none⟩ = some (.int .i64 tp) ∧ w4.drew.cell? ⟨g4, 5, none⟩ = some (.bool tc) ∧ Below w4.heap.size w4 w4.drew) := ⟨s2, k1, k2, k3, k5, (Below.refl _ _).drew⟩
          have KEEP : Hid (∀ X w' : World, (X.cell? ⟨wr.heap.size, 2, none⟩ = some (.bool false) ∧ X.cell? ⟨g4, 1, none⟩ = some (.bool tg) ∧ X.cell? ⟨g4, 2, none⟩ = some (.slice Ah lh.length ch) ∧ X.cell? ⟨g4, 3, none⟩ = some (.int .i64 tp) ∧ X.cell? ⟨g4, 5, none⟩ = some (.bool tc) ∧ Below w4.heap.size w4 X) → Below X.heap.size X w' → (w'.cell? ⟨wr.heap.size, 2, none⟩ = some (.bool false) ∧ w'.cell? ⟨g4, 1, none⟩ = some (.bool tg) ∧ w'.cell? ⟨g4, 2, none⟩ = some (.slice Ah lh.length ch) ∧ w'.cell? ⟨g4, 3, none⟩ = some (.int .i64 tp) ∧ w'.cell? ⟨g4, 5, none⟩ = some (.bool tc) ∧ Below w4.heap.size w4 w')) := fun X w' h k => ⟨(k.cell (p := ⟨wr.heap.size, 2, none⟩) (Nat.lt_of_lt_of_le hs4.out.1 h.2.2.2.2.2.size)).trans h.1, (k.cell (p := ⟨g4, 1, none⟩) (Nat.lt_of_lt_of_le hs4.out.2 h.2.2.2.2.2.size)).trans h.2.1, (k.cell (p := ⟨g4, 2, none⟩) (Nat.lt_of_lt_of_le hs4.out.2 h.2.2.2.2.2.size)).trans h.2.2.1, (k.cell (p := ⟨g4, 3, none⟩) (Nat.lt_of_lt_of_le hs4.out.2 h.2.2.2.2.2.size)).trans h.2.2.2.1, (k.cell (p := ⟨g4, 5, none⟩) (Nat.lt_of_lt_of_le hs4.out.2 h.2.2.2.2.2.size)).trans h.2.2.2.2.1, h.2.2.2.2.2.trans (k.mono h.2.2.2.2.2.size)⟩
          clear hin hst k1 k2 k3 k5 HD0
          go_region_held3 (fun w' => w'.cell? ⟨wr.heap.size, 2, none⟩ = some (.bool false) ∧ w'.cell? ⟨g4, 1, none⟩ = some (.bool tg) ∧ w'.cell? ⟨g4, 2, none⟩ = some (.slice Ah lh.length ch) ∧ w'.cell? ⟨g4, 3, none⟩ = some (.int .i64 tp) ∧ w'.cell? ⟨g4, 5, none⟩ = some (.bool tc) ∧ Below w4.heap.size w4 w') (first | exact hH.out | assumption | exact KEEP.out _ _ ‹_› ‹_›) (first | (go_at_call 27; refine (HD.out _ (by simp only [*])).mono ?_; rintro e x1 ⟨rfl, rfl⟩) | (go_at_call 28; refine (HGv.out _ (by simp only [*])).mono ?_; rintro e x2 ⟨rfl, rfl⟩) | (go_at_call 30; refine (HPv.out _ (by simp only [*])).mono ?_; rintro e x2 ⟨rfl, rfl⟩) | (go_at_call 31; refine (HCv.out _ (by simp only [*])).mono ?_; rintro e x2 ⟨rfl, rfl⟩) | (go_at_call 29; refine (HHv.out _ (by simp only [*])).mono ?_; rintro e wx3 ⟨v2, rfl, hv3, g2⟩) | (go_at_call 16; refine (RI.lsame_any _ _ _ lh HHL.out hv3 (HVY.out _ (by simp only [*]))).mono ?_; rintro e x4 ⟨rfl, g3⟩))
          all_goals
            rename_i hHeld
            have HO5 : Hid _ := HO4.out.still HGD.out hHeld.2.2.2.2.2
            have HRg : Hid _ := (HR4.out.below hHeld.2.2.2.2.2).range
            have hTu := HO5.out.turn HGD.out HOK.out hn6 (HLo.out.more (by omega)) (by omega) x0
            have zw := HO5.out.rd.1.2.cell 0 (v := .int .i64 x0) rfl
            rw [show runCells (.slice Ag mg capg) ((gvPM P T G x0 x1 x2 x3).rn t mg) = (runL (.slice Ag mg capg) ((gvPM P T G x0 x1 x2 x3).rn t mg)).toArray from rfl] at hTu
            generalize (gvPM P T G x0 x1 x2 x3).rn t mg = RN at *
            simp only [runL] at hTu
            clear HD HGv HPv HCv HHv HVY HHL KEEP hH HO4 HR4 s2 hHeld
            go_wp2_with (refine wpList_load_mid rfl 48 _ rfl wr.heap.size 0 rfl (runL (.slice Ag mg capg) RN) _ HRg.out Tryz.underlying48 rfl (by kernel_rfl) ?_; clear HRg)
            go_at_call 20; refine hTu.mono ?_; rintro e w6 ⟨Ag', capg', rfl, hO6⟩
            have HO6 : Hid _ := hO6
            have hSt := HO6.out.step HGD.out HLW.out.2 (fun Y (h : (((Rd.lay cl P T G).and (Rd.blk (w.heap.size + 1) #[.int .i64 x0, .int .i64 x1, .int .i64 x2, .int .i64 x3] 28)).and (Rd.blk w.heap.size #[.int .i64 P, .int .i64 T, .int .i64 G, .slice E m cp] 26)).P Y) => h.1.1) (fun k hk => List.mem_append_left _ (List.mem_append_left _ hk)) hn6 (HLo.out.more (by omega))
            have HHn : Hid _ := HH.out.next n s (fun k i old new => actA_bd HO6.out.poke.mem k i old new)
            have HLo7 : Hid (Low ((gvPM P T G x0 x1 x2 x3).goS x0 n t s) ((k + 1 : Nat) : Int)) := PM.goS_low HLo.out
            have hml : (gvPM P T G x0 x1 x2 x3).goM n t s mg ≤ k + 1 := by unfold PM.goM; split <;> (try split) <;> omega
            clear hTu hO6 HO5 zw
            go_wp2_with fail
            go_at_call 32; refine hSt.mono ?_; rintro e w7 ⟨⟨zz, rfl⟩, L7, hO7⟩
            have HO7 : Hid _ := hO7
            clear hSt hO7 HO6 HH HLo
            generalize (gvPM P T G x0 x1 x2 x3).goS x0 n t s = s' at *
            generalize (gvPM P T G x0 x1 x2 x3).goG n t s gf mg = g' at *
            generalize (gvPM P T G x0 x1 x2 x3).goM n t s mg = m' at *
            generalize (gvPM P T G x0 x1 x2 x3).goT n t s = t' at *
            have hAl := alike_any w7 A A' cap cap' c b c' b' n s' hn6 HO7.out.poke.two
            go_wp2_with fail
            go_at_call 22; refine hAl.mono ?_; rintro e w8 ⟨rfl, hb8⟩
            have HO8 : Hid _ := HO7.out.still HGD.out hb8
            clear hAl hb8 HO7
            go_wp2_with fail
            go_roundw
            case rel => exact ⟨k + 1, s', Ag', capg', m', g', t', L7, by omega, by go_num, rfl, hml, HO8.out, HLo7, HHn.out⟩
            case measure => simp [intOf]; omega
        · rw [hst] at s2
          have hin : ((gvPM P T G x0 x1 x2 x3).ax t).isNone = false := by cases h : (gvPM P T G x0 x1 x2 x3).ax t <;> rw [h] at hst <;> first | rfl | cases hst
          have HD : Hid (∀ Y, Below w4.heap.size w4 Y → Calls Tryz.prog 27 #[.pointer (some ⟨x, 0, none⟩)] Y fun e w' => e = .returned (.bool false) ∧ Y = w') := by rw [← hin]; exact HD0
          have hH : Hid (w4.drew.cell? ⟨wr.heap.size, 2, none⟩ = some (.bool true) ∧ w4.drew.cell? ⟨g4, 1, none⟩ = some (.bool tg) ∧ w4.drew.cell? ⟨g4, 2, none⟩ = some (.slice Ah lh.length ch) ∧ w4.drew.cell? ⟨g4, 3, none⟩ = some (.int .i64 tp) ∧ w4.drew.cell? ⟨g4, 5, none⟩ = some (.bool tc) ∧ Below w4.heap.size w4 w4.drew) := ⟨s2, k1, k2, k3, k5, (Below.refl _ _).drew⟩
          have KEEP : Hid (∀ X w' : World, (X.cell? ⟨wr.heap.size, 2, none⟩ = some (.bool true) ∧ X.cell? ⟨g4, 1, none⟩ = some (.bool tg) ∧ X.cell? ⟨g4, 2, none⟩ = some (.slice Ah lh.length ch) ∧ X.cell? ⟨g4, 3, none⟩ = some (.int .i64 tp) ∧ X.cell? ⟨g4, 5, none⟩ = some (.bool tc) ∧ Below w4.heap.size w4 X) → Below X.heap.size X w' → (w'.cell? ⟨wr.heap.size, 2, none⟩ = some (.bool true) ∧ w'.cell? ⟨g4, 1, none⟩ = some (.bool tg) ∧ w'.cell? ⟨g4, 2, none⟩ = some (.slice Ah lh.length ch) ∧ w'.cell? ⟨g4, 3, none⟩ = some (.int .i64 tp) ∧ w'.cell? ⟨g4, 5, none⟩ = some (.bool tc) ∧ Below w4.heap.size w4 w')) := fun X w' h k => ⟨(k.cell (p := ⟨wr.heap.size, 2, none⟩) (Nat.lt_of_lt_of_le hs4.out.1 h.2.2.2.2.2.size)).trans h.1, (k.cell (p := ⟨g4, 1, none⟩) (Nat.lt_of_lt_of_le hs4.out.2 h.2.2.2.2.2.size)).trans h.2.1, (k.cell (p := ⟨g4, 2, none⟩) (Nat.lt_of_lt_of_le hs4.out.2 h.2.2.2.2.2.size)).trans h.2.2.1, (k.cell (p := ⟨g4, 3, none⟩) (Nat.lt_of_lt_of_le hs4.out.2 h.2.2.2.2.2.size)).trans h.2.2.2.1, (k.cell (p := ⟨g4, 5, none⟩) (Nat.lt_of_lt_of_le hs4.out.2 h.2.2.2.2.2.size)).trans h.2.2.2.2.1, h.2.2.2.2.2.trans (k.mono h.2.2.2.2.2.size)⟩
          clear hin hst k1 k2 k3 k5 HD0
          go_region_held3 (fun w' => w'.cell? ⟨wr.heap.size, 2, none⟩ = some (.bool true) ∧ w'.cell? ⟨g4, 1, none⟩ = some (.bool tg) ∧ w'.cell? ⟨g4, 2, none⟩ = some (.slice Ah lh.length ch) ∧ w'.cell? ⟨g4, 3, none⟩ = some (.int .i64 tp) ∧ w'.cell? ⟨g4, 5, none⟩ = some (.bool tc) ∧ Below w4.heap.size w4 w') (first | exact hH.out | assumption | exact KEEP.out _ _ ‹_› ‹_›) (first | (go_at_call 27; refine (HD.out _ (by simp only [*])).mono ?_; rintro e x1 ⟨rfl, rfl⟩) | (go_at_call 28; refine (HGv.out _ (by simp only [*])).mono ?_; rintro e x2 ⟨rfl, rfl⟩) | (go_at_call 30; refine (HPv.out _ (by simp only [*])).mono ?_; rintro e x2 ⟨rfl, rfl⟩) | (go_at_call 31; refine (HCv.out _ (by simp only [*])).mono ?_; rintro e x2 ⟨rfl, rfl⟩) | (go_at_call 29; refine (HHv.out _ (by simp only [*])).mono ?_; rintro e wx3 ⟨v2, rfl, hv3, g2⟩) | (go_at_call 16; refine (RI.lsame_any _ _ _ lh HHL.out hv3 (HVY.out _ (by simp only [*]))).mono ?_; rintro e x4 ⟨rfl, g3⟩))
          all_goals
            rename_i hHeld
            have HO5 : Hid _ := HO4.out.still HGD.out hHeld.2.2.2.2.2
            have HRg : Hid _ := (HR4.out.below hHeld.2.2.2.2.2).range
            have hTu := HO5.out.turn HGD.out HOK.out hn6 (HLo.out.more (by omega)) (by omega) x0
            have zw := HO5.out.rd.1.2.cell 0 (v := .int .i64 x0) rfl
            rw [show runCells (.slice Ag mg capg) ((gvPM P T G x0 x1 x2 x3).rn t mg) = (runL (.slice Ag mg capg) ((gvPM P T G x0 x1 x2 x3).rn t mg)).toArray from rfl] at hTu
            generalize (gvPM P T G x0 x1 x2 x3).rn t mg = RN at *
            simp only [runL] at hTu
            clear HD HGv HPv HCv HHv HVY HHL KEEP hH HO4 HR4 s2 hHeld
            go_wp2_with (refine wpList_load_mid rfl 48 _ rfl wr.heap.size 0 rfl (runL (.slice Ag mg capg) RN) _ HRg.out Tryz.underlying48 rfl (by kernel_rfl) ?_; clear HRg)
            go_at_call 20; refine hTu.mono ?_; rintro e w6 ⟨Ag', capg', rfl, hO6⟩
            have HO6 : Hid _ := hO6
            have hSt := HO6.out.step HGD.out HLW.out.2 (fun Y (h : (((Rd.lay cl P T G).and (Rd.blk (w.heap.size + 1) #[.int .i64 x0, .int .i64 x1, .int .i64 x2, .int .i64 x3] 28)).and (Rd.blk w.heap.size #[.int .i64 P, .int .i64 T, .int .i64 G, .slice E m cp] 26)).P Y) => h.1.1) (fun k hk => List.mem_append_left _ (List.mem_append_left _ hk)) hn6 (HLo.out.more (by omega))
            have HHn : Hid _ := HH.out.next n s (fun k i old new => actA_bd HO6.out.poke.mem k i old new)
            have HLo7 : Hid (Low ((gvPM P T G x0 x1 x2 x3).goS x0 n t s) ((k + 1 : Nat) : Int)) := PM.goS_low HLo.out
            have hml : (gvPM P T G x0 x1 x2 x3).goM n t s mg ≤ k + 1 := by unfold PM.goM; split <;> (try split) <;> omega
            clear hTu hO6 HO5 zw
            go_wp2_with fail
            go_at_call 32; refine hSt.mono ?_; rintro e w7 ⟨⟨zz, rfl⟩, L7, hO7⟩
            have HO7 : Hid _ := hO7
            clear hSt hO7 HO6 HH HLo
            generalize (gvPM P T G x0 x1 x2 x3).goS x0 n t s = s' at *
            generalize (gvPM P T G x0 x1 x2 x3).goG n t s gf mg = g' at *
            generalize (gvPM P T G x0 x1 x2 x3).goM n t s mg = m' at *
            generalize (gvPM P T G x0 x1 x2 x3).goT n t s = t' at *
            have hAl := alike_any w7 A A' cap cap' c b c' b' n s' hn6 HO7.out.poke.two
            go_wp2_with fail
            go_at_call 22; refine hAl.mono ?_; rintro e w8 ⟨rfl, hb8⟩
            have HO8 : Hid _ := HO7.out.still HGD.out hb8
            clear hAl hb8 HO7
            go_wp2_with fail
            go_roundw
            case rel => exact ⟨k + 1, s', Ag', capg', m', g', t', L7, by omega, by go_num, rfl, hml, HO8.out, HLo7, HHn.out⟩
            case measure => simp [intOf]; omega
    · obtain rfl : k = mp := by omega
      have hgd : decide ((k : Int) < (k : Int)) = false := by simp
      have HT := HO.out.poke.two
      have HTS : Hid (∀ Y, Below wr.heap.size wr Y → Two Y A A' cap cap' c b c' b' n s) := fun Y hY => HT.below hY
      have hH : Hid (wr.drew.cell? ⟨c', 0, none⟩ = some (.slice A' n cap') ∧ Below wr.heap.size wr wr.drew) := ⟨HT.r.cells.1, (Below.refl _ _).drew⟩
      have KEEP : Hid (∀ X w' : World, (X.cell? ⟨c', 0, none⟩ = some (.slice A' n cap') ∧ Below wr.heap.size wr X) → Below X.heap.size X w' → (w'.cell? ⟨c', 0, none⟩ = some (.slice A' n cap') ∧ Below wr.heap.size wr w')) := fun X w' h k => ⟨(HTS.out _ (h.2.trans (k.mono h.2.size))).r.cells.1, h.2.trans (k.mono h.2.size)⟩
      have HB9 : Hid (Below w.heap.size w wr) := HO.out.poke.below
      clear HT HO HLo HH
      go_wp2_with fail
      go_region_held3 (fun w' => w'.cell? ⟨c', 0, none⟩ = some (.slice A' n cap') ∧ Below wr.heap.size wr w') (first | exact hH.out | assumption | exact KEEP.out _ _ ‹_› ‹_›) (first | (go_at_call 10; refine (HAW.out _).mono ?_; rintro e x1 ⟨rfl, g1⟩) | (go_at_call 24; refine (words_any _ A cap c b n s (HTS.out _ (by simp only [*])).m hn6).mono ?_; rintro e x5 ⟨A4, cap4, rfl, hs4, g5⟩) | (go_at_call 23; refine (sameB_any _ A4 A' n cap4 cap' s.f hn6 hs4 (HTS.out _ (by simp only [*])).r.sees).mono ?_; rintro e x6 ⟨rfl, g6⟩) | (go_at_call 27; refine (done_nil_give _).mono ?_; rintro e x7 ⟨rfl, rfl⟩) | (go_at_call 32; refine (step_nil_give _ _).mono ?_; rintro e x7 ⟨rfl, rfl⟩) | (go_at_call 28; refine (gv_Gave_nil _).mono ?_; rintro e x7 ⟨rfl, rfl⟩) | (go_at_call 29; refine (gv_Holds_nil _).mono ?_; rintro e x7 ⟨rfl, rfl⟩) | (go_at_call 30; refine (gv_Hand_nil _).mono ?_; rintro e x7 ⟨rfl, rfl⟩) | (go_at_call 31; refine (gv_Counts_nil _).mono ?_; rintro e x7 ⟨rfl, rfl⟩))
      all_goals
        rename_i hHeld
        have hbF := HB9.out.trans (hHeld.2.mono HB9.out.size)
        go_wp2_with fail
        go_ret
        exact ⟨rfl, hbF⟩

theorem readyGives_walk (P T G : Int) (x0 x1 x2 x3 : Int) (hx9 : x2 ≤ 9223372036854775807) (E F : Option Addr) (m cp mp cq : Nat) (a v : Nat → Int) (Pks : Nat → Pk) (w : World) (hAw : ∀ w, Calls Tryz.prog 10 #[] w fun e w' => e = .returned (.bool true) ∧ Below w.heap.size w w') (hm : m ≤ 9223372036854775807) (hmp : mp ≤ 9223372036854775807) (hs : SeesP w w.heap.size E m a v) (hv : ∀ i, i < m → 0 ≤ v i ∧ v i ≤ 18446744073709551615) (hP : SeesC w w.heap.size F mp 6 (pkC Pks)) (hpv : ∀ j, j < mp → 0 ≤ (Pks j).v ∧ (Pks j).v ≤ 18446744073709551615) :
    Calls Tryz.prog 4 #[.agg #[.int .i64 P, .int .i64 T, .int .i64 G, .slice E m cp], .agg #[.int .i64 x0, .int .i64 x1, .int .i64 x2, .int .i64 x3], .slice F mp cq] w fun e w' => e = .returned (.bool true) ∧ Below w.heap.size w w' := by
  by_cases h : (¬ FewC P T G ∨ 400 < m) ∨ 300 < mp ∨ x0 < 0 ∨ T ≤ x0 ∨ x1 < 0 ∨ P ≤ x1 ∨ x2 < 0 ∨ G ≤ x2
  · exact readyGives_bad P T G x0 x1 x2 x3 hx9 E F m cp mp cq a v w hAw hm hmp hs hv h
  · exact readyGives_ok P T G x0 x1 x2 x3 hx9 E F m cp mp cq a v Pks w hAw (by omega) (Decidable.byContradiction fun hf => h (.inl (.inl hf))) (by omega) hs hv hP hpv (by omega) (by omega) (by omega)
end Go.Proofs.YtfdpikkinlljlaaGreat

namespace Go.Proofs.YtfdpikkinlljlaaGreat
open Go Go.ChangeShapes Go.WideShapes Go.ChangeAt Go.RowKit Go.Joins
set_option linter.unusedVariables false
set_option linter.unusedSimpArgs false

theorem own_readyGives : ownKnob Tryz.prog.godebug = none := by kernel_rfl
theorem laidOut_readyGives : laidOutB Tryz.prog = true := by kernel_rfl

set_option maxRecDepth 100000 in
theorem lifted_readyGives (os : Os) (started : os.Started) (H : Type) (enc : TypeId × Value → H) :
    ReturnsInHanded {} Tryz.checked os 4 .any (Rows.readyGivesSpec.pre6 enc Tryz.prog Tryz.f4 Rows.readyGivesRow.domain false) (Rows.readyGivesSpec.post enc Tryz.prog Tryz.f4 false true false false) := by
  refine returnsInHanded_of_change (C := Tryz.checked) own_readyGives started (by kernel_rfl) Tryz.func4
    (ChangeSpec.witness6 (enc := enc) (C := Tryz.checked) false ⟨#[], #[.agg #[.int .i64 0, .int .i64 0, .int .i64 0, .slice none 0 0], .agg #[.int .i64 0, .int .i64 0, .int .i64 0, .int .i64 0], .slice none 0 0], []⟩ 8 (by kernel_rfl) (by kernel_rfl) (by kernel_rfl) (by kernel_rfl)) ?_
  intro W base args ds gs before hval0 hW hcnd _
  have hval : ∀ (j : Nat) t v, Tryz.f4.params[j]? = some t → args[j]? = some v → Value.okWide Tryz.prog W .any base t v := hval0
  have hW' := hW
  obtain ⟨p, q, hA0, hV, rfl, hfz, hnd⟩ := hW
  have hA : DataW.TrodAll enc Tryz.prog W 0 (fun _ => true) true Tryz.f4.params.toList args.toList ds p := hA0
  rw [Tryz.params4] at hA hval
  obtain ⟨v0, vs0, d0, ds0, p0, q0, hargs, rfl, rfl, h0, r0⟩ := trodAll_cons hA
  obtain ⟨v1, vs1, d1, ds1, p1, q1, rfl, rfl, rfl, h1, r1⟩ := trodAll_cons r0
  obtain ⟨v2, vs2, d2, ds2, p2, q2, rfl, rfl, rfl, h2, r2⟩ := trodAll_cons r1
  obtain ⟨rfl, rfl, rfl⟩ := trodAll_nil r2
  obtain rfl : args = #[v0, v1, v2] := by cases args; simp_all
  obtain ⟨P, T, G, E, m, cp, a, x, rfl, hm, hs, hx⟩ := open_ground (hval 0 26 v0 rfl rfl) h0
  unfold maxLen at hm
  obtain ⟨x0, x1, x2, x3, rfl, cx2⟩ := open_int4 Tryz.underlying28 (by kernel_rfl) (by kernel_rfl) Tryz.underlying3 Tryz.underlying3 Tryz.underlying3 Tryz.underlying3 (hval 1 28 v1 rfl rfl) h1
  obtain ⟨F, mp, cq, Pks, rfl, hmp, hP, hpv⟩ := open_pokes (hval 2 29 v2 rfl rfl) h2
  unfold maxLen at hmp
  clear hA0 hval0
  refine (readyGives_walk P T G x0 x1 x2 x3 cx2.2 E F m cp mp cq a x Pks W ready_awake (by omega) (by omega) hs hx hP hpv).mono fun e W' ⟨he, hb⟩ => ?_
  subst he
  exact ⟨_, rfl, law_post laidOut_readyGives rfl Tryz.underlying4 (by kernel_rfl) rfl rfl rfl rfl hW' hb⟩

theorem readyGives_jlaid : laidOutB Tryz.pinned.checked.prog = true := by kernel_rfl
theorem readyGives_jmaps : mapsRowed Tryz.pinned.checked.prog = true := by kernel_rfl
theorem readyGives_jinp : (Rows.readyGivesRow.inPlace == Tryz.pinned.checked.prog.inPlace 4) = true := by kernel_rfl
theorem readyGives_junf : (Rows.readyGivesRow.unfollowed == Tryz.pinned.checked.prog.unfollowed 4) = true := by kernel_rfl
theorem readyGives_jrec : (Rows.readyGivesRow.recurses == Tryz.pinned.checked.prog.recurses 4) = true := by kernel_rfl
theorem readyGives_jnam : (Rows.readyGivesRow.named == Tryz.pinned.checked.prog.varsNamed 4) = true := by kernel_rfl
theorem readyGives_closed : joinedFacts Tryz.pinned.checked.prog 4 Tryz.f4 Rows.readyGivesSpec Rows.readyGivesRow = true := by
  unfold joinedFacts
  rw [readyGives_jlaid, readyGives_jmaps, readyGives_jinp, readyGives_junf, readyGives_jrec, readyGives_jnam]
  kernel_rfl
theorem readyGives_holds : Rows.ReadyGivesSaid :=
  OpenClaim.holds_of_wide 4 Tryz.f4 rfl rfl rfl rfl rfl rfl rfl ⟨rfl, rfl, rfl, rfl, rfl⟩ rfl rfl rfl rfl rfl (by kernel_rfl) Tryz.func4 readyGives_closed
    (of_decide_eq_true (by kernel_rfl)) (by unfold Func.isWrapper; first | (rw [if_pos (by decide +kernel)]; kernel_rfl) | (rw [if_neg (by decide +kernel)]; exact ⟨rfl, rfl⟩))
    (fun os started H enc _ => lifted_readyGives os started H enc)
#print axioms readyGives_holds
end Go.Proofs.YtfdpikkinlljlaaGreat
