/- A struct of two ints and two bools, as it comes in. -/
import Derived.Test.YthbgoakaijeemaaGreatQD
import Derived.Test.YthbgoakaijeemaaGreatQC
import Derived.Test.YthbgoakaijeemaaGreatBB
import Derived.Test.YthbgoakaijeemaaGreatQA
import Derived.ProofKit
import Derived.Carry
import Derived.WalkKit
import Derived.OpenShut
namespace Go.Proofs.YthbgoakaijeemaaGreat
open Go Go.RowKit
set_option linter.unusedVariables false
set_option maxRecDepth 100000
set_option linter.unusedSimpArgs false

/-- A machine that wakes some thread within it. -/
structure WwIn {σ : Type} (M : PM σ) (P T who : Int) (emb : WwT → σ) : Prop where
  ax : ∀ t a, (wwPM P T who).ax t = some a → M.ax (emb t) = some a
  nx : ∀ t a v, (wwPM P T who).ax t = some a → M.nx (emb t) v = emb ((wwPM P T who).nx t v)
theorem ww_in (P T who : Int) : WwIn (wwPM P T who) P T who (fun t => t) := ⟨fun _ _ h => h, fun _ _ _ _ => rfl⟩
/-- Where it stopped, and what it answered. -/
def WwQ {σ : Type} (Q : σ → Prop) (emb : WwT → σ) (P T who : Int) (p' : Int) (c' : Bool) (q : σ) : Prop := (Q q ∧ p' = -1 ∧ c' = false) ∨ ∃ s a, (wwPM P T who).ax s = some a ∧ q = emb s ∧ p' = s.holds ∧ c' = s.counts
section
variable {σ : Type} {M : PM σ} {P T who : Int} {emb : WwT → σ}
def wwA (emb : WwT → σ) : AcqT → σ
  | .over _ => emb (.get .ld)
  | a => emb (.acq a)
theorem ww_acqIn (hE : WwIn M P T who emb) : AcqIn M 0 who (wwA emb) := by
  refine ⟨hE.ax (.acq .fresh) _ rfl, fun t => hE.ax (.acq (.wait t)) _ rfl, fun t => hE.ax (.acq (.has t)) _ rfl, fun v => hE.nx (.acq .fresh) _ v rfl, ?_, fun t v => hE.nx (.acq (.has t)) _ v rfl⟩
  intro t v
  refine (hE.nx (.acq (.wait t)) _ v rfl).trans ?_
  by_cases h : v = t
  · subst h
    have e : (acqPM (wd 0 2 3 0 0) (wd 0 2 3 0 1) (wd 0 2 3 0 2) who).nx (.wait v) v = .has v := if_pos rfl
    show emb (if ((acqPM (wd 0 2 3 0 0) (wd 0 2 3 0 1) (wd 0 2 3 0 2) who).ax ((acqPM (wd 0 2 3 0 0) (wd 0 2 3 0 1) (wd 0 2 3 0 2) who).nx (.wait v) v)).isSome = true then .acq ((acqPM (wd 0 2 3 0 0) (wd 0 2 3 0 1) (wd 0 2 3 0 2) who).nx (.wait v) v) else .get .ld) = _
    rw [e, if_pos rfl]
    rfl
  · have e : (acqPM (wd 0 2 3 0 0) (wd 0 2 3 0 1) (wd 0 2 3 0 2) who).nx (.wait t) v = .wait t := if_neg h
    show emb (if ((acqPM (wd 0 2 3 0 0) (wd 0 2 3 0 1) (wd 0 2 3 0 2) who).ax ((acqPM (wd 0 2 3 0 0) (wd 0 2 3 0 1) (wd 0 2 3 0 2) who).nx (.wait t) v)).isSome = true then .acq ((acqPM (wd 0 2 3 0 0) (wd 0 2 3 0 1) (wd 0 2 3 0 2) who).nx (.wait t) v) else .get .ld) = _
    rw [e, if_neg h]
    rfl
theorem ig_live_ax {q : IgT} : ((igPM P).ax q).isSome = q.live := by cases q <;> rfl
def wwG (emb : WwT → σ) (q : IgT) : σ := if q.live = true then emb (.get q) else if q.obs = -1 then emb (.need q) else emb (.run q (.get .ld))
theorem ww_igIn (hE : WwIn M P T who emb) : IgIn M P (wwG emb) := by
  have key : ∀ q a v, (igPM P).ax q = some a → M.nx (wwG emb q) v = wwG emb ((igPM P).nx q v) := fun q a v h => by
    have hl : q.live = true := by rw [← ig_live_ax (P := P), h]; rfl
    have e1 : wwG emb q = emb (.get q) := if_pos hl
    rw [e1, hE.nx (.get q) a v h]
    show emb (if ((igPM P).ax ((igPM P).nx q v)).isSome = true then .get ((igPM P).nx q v) else if ((igPM P).nx q v).obs = -1 then .need ((igPM P).nx q v) else .run ((igPM P).nx q v) (.get .ld)) = wwG emb ((igPM P).nx q v)
    unfold wwG
    rw [ig_live_ax]
    split
    · rfl
    · split <;> rfl
  exact ⟨hE.ax (.get .ld) _ rfl, fun y => hE.ax (.get (.lk y)) _ rfl, fun y l => hE.ax (.get (.ms y l)) _ rfl, fun y l w => hE.ax (.get (.um y l w)) _ rfl, fun y l => hE.ax (.get (.un y l)) _ rfl, fun y l => hE.ax (.get (.ct y l)) _ rfl,
    fun v => (key .ld _ v rfl).trans (by show wwG emb (if v = 0 then .none' else .lk (gw v)) = _; split <;> rfl), fun y v => key (.lk y) _ v rfl, fun y l v => key (.ms y l) _ v rfl, fun y l w v => key (.um y l w) _ v rfl, fun y l v => key (.un y l) _ v rfl, fun y l v => key (.ct y l) _ v rfl⟩
def wwS (emb : WwT → σ) (q : IgT) (t : WsT) : σ := emb (.run q t)
theorem ww_wsIn (hE : WwIn M P T who emb) (q : IgT) : WsIn M P T q.obs true false (wwS emb q) := ⟨fun t a h => hE.ax (.run q t) a h, fun t a v h => hE.nx (.run q t) a v h⟩
def wwR (emb : WwT → σ) (q : IgT) (r : RelT) : σ := emb (.rel q r)
theorem ww_relIn (hE : WwIn M P T who emb) (q : IgT) : RelIn M 0 (wwR emb q) :=
  ⟨hE.ax (.rel q .fresh) _ rfl, hE.ax (.rel q .pass) _ rfl, fun v => hE.nx (.rel q .fresh) _ v rfl, fun v => hE.nx (.rel q .pass) _ v rfl⟩
end
/-- What the document's Wake answers. -/
def WwGot {σ : Type} (M : PM σ) (emb : WwT → σ) (P T who : Int) (w : World) (x : Nat) (A : Option Addr) (cap m : Nat) (g : Nat → Int) (s0 : σ) (Q : σ → Prop) (j : Nat) (e : Ending) (w' : World) : Prop :=
  ∃ p' t' c' j' s, e = .returned (.agg #[.int .i64 p', .int .i64 t', .bool c']) ∧ RunOn w' x A cap m g (M.rj s0 g m j') ∧ Syn M s0 g m j' (emb s) (WwQ Q emb P T who p' c') ∧ (wwPM P T who).ax s = none ∧ (j' ≤ m → p' = s.holds ∧ c' = s.counts) ∧ But [x] w w' ∧ j ≤ j'
set_option maxHeartbeats 8000000 in
theorem syn_wwake {σ : Type} {M : PM σ} {P T G who : Int} {emb : WwT → σ} (hE : WwIn M P T who emb) (hp : 0 ≤ P ∧ P ≤ 64) (hT : 0 ≤ T ∧ T ≤ 65536) (hw : 0 ≤ who ∧ who ≤ 300)
    {w : World} {x : Nat} {A : Option Addr} {cap m : Nat} {g : Nat → Int} {s0 : σ} {j : Nat} {Q : σ → Prop} (hR : RunOn w x A cap m g (M.rj s0 g m j)) (hS : Syn M s0 g m j (emb .ld) Q) (hb : ∀ j, j < m → 0 ≤ g j ∧ g j ≤ 18446744073709551615) (hsw : ∀ j, j < m → ∀ a, M.ax (M.run s0 g j) = some a → a.k = 3 → g j ≤ 1) :
    Calls Tryz.prog 25 #[.pointer (some ⟨x, 0, none⟩), .agg #[.int .i64 P, .int .i64 T, .int .i64 G] , .int .i64 who] w fun e w' => WwGot M emb P T who w x A cap m g s0 Q j e w' := by
  have hxw := hR.blk.lt
  have HH : Hid (HdAt w (((w.alloc (.cells #[.int .i64 P, .int .i64 T, .int .i64 G] 23)).alloc (.cells #[.int .i64 0, .int .i64 0, .bool false] 50)).alloc (.cells #[.int .i64 (-1), .int .i64 (-1), .bool false] 50)) x A cap m g M s0 j j (emb .ld) (Q) #[.int .i64 P, .int .i64 T, .int .i64 G] 50 #[.int .i64 0, .int .i64 0, .bool false] (w.heap.size + 1 + 1) #[.int .i64 (-1), .int .i64 (-1), .bool false]) := by
    have b1 : Below w.heap.size w (w.alloc (.cells #[.int .i64 P, .int .i64 T, .int .i64 G] 23)) := (Below.refl _ _).alloc (Nat.le_refl _) _
    have b2 : Below w.heap.size w ((w.alloc (.cells #[.int .i64 P, .int .i64 T, .int .i64 G] 23)).alloc (.cells #[.int .i64 0, .int .i64 0, .bool false] 50)) := b1.alloc (by rw [World.size_alloc]; omega) _
    have b3 : Below w.heap.size w (((w.alloc (.cells #[.int .i64 P, .int .i64 T, .int .i64 G] 23)).alloc (.cells #[.int .i64 0, .int .i64 0, .bool false] 50)).alloc (.cells #[.int .i64 (-1), .int .i64 (-1), .bool false] 50)) := b2.alloc (by rw [World.size_alloc, World.size_alloc]; omega) _
    have c1 := Blk.new w #[.int .i64 P, .int .i64 T, .int .i64 G] 23
    have c2 := Blk.new (w.alloc (.cells #[.int .i64 P, .int .i64 T, .int .i64 G] 23)) #[.int .i64 0, .int .i64 0, .bool false] 50
    have c3 := Blk.new ((w.alloc (.cells #[.int .i64 P, .int .i64 T, .int .i64 G] 23)).alloc (.cells #[.int .i64 0, .int .i64 0, .bool false] 50)) #[.int .i64 (-1), .int .i64 (-1), .bool false] 50
    rw [World.size_alloc] at c2
    rw [World.size_alloc, World.size_alloc] at c3
    refine ⟨hR.below b3, hS, But.of_below b3, (c1.al _).al _, c2.al _, c3, by omega, hxw, fun b e hm => ?_, Nat.le_refl _⟩
    simp at hm
    rcases hR.got.form with ⟨e0, _⟩ | ⟨gb, e0, hl⟩
    · rw [e0] at e; cases e
    · rw [e0] at e; cases e; omega
  have HE : Hid (WwIn M P T who emb) := hE
  have HBD : Hid (∀ j, j < m → 0 ≤ g j ∧ g j ≤ 18446744073709551615) := hb
  have HSW : Hid (∀ j, j < m → ∀ a, M.ax (M.run s0 g j) = some a → a.k = 3 → g j ≤ 1) := hsw
  have HP : Hid ((0 ≤ P ∧ P ≤ 64) ∧ (0 ≤ T ∧ T ≤ 65536) ∧ (0 ≤ who ∧ who ≤ 300)) := ⟨hp, hT, hw⟩
  have hL := syn_load HH.out.run HH.out.syn hb 13 (fun _ => hE.ax .ld _ rfl)
  clear hR hS hb hp hT hw hE hsw
  go_enter Tryz.func25, Tryz.ntmps25
  go_wp2_with fail
  generalize (((w.alloc (.cells #[.int .i64 P, .int .i64 T, .int .i64 G] 23)).alloc (.cells #[.int .i64 0, .int .i64 0, .bool false] 50)).alloc (.cells #[.int .i64 (-1), .int .i64 (-1), .bool false] 50)) = W at *
  generalize w.heap.size + 1 + 1 = o at *
  go_at_call 94; refine hL.mono ?_; rintro e y1 ⟨v, rfl, hK⟩
  have HH1 : Hid (HdAt w y1 x A cap m g M s0 j (j + 1) (emb (if v = 0 then .sw else .no)) (fun q => Q q ∨ q = emb .ld) #[.int .i64 P, .int .i64 T, .int .i64 G] 50 #[.int .i64 0, .int .i64 0, .bool false] o #[.int .i64 (-1), .int .i64 (-1), .bool false]) := by
    have h := HH.out.step hK
    rw [HE.out.nx .ld _ _ rfl] at h
    exact h.as (h.syn.weak (fun q h => h.symm))
  have HK : Hid (m ≤ j → v = 0) := hK.zero
  clear hL hK HH
  by_cases hv : v = 0
  · subst hv
    have sc := HH1.out.stop
    by_cases hst : m < j + 1
    · rw [decide_eq_true hst] at sc
      have HST : Hid (m < j + 1) := hst
      have HH : Hid (HdAt w y1 x A cap m g M s0 j (j + 1) (emb .no) (WwQ Q emb P T who (-1) false) #[.int .i64 P, .int .i64 T, .int .i64 G] 50 #[.int .i64 0, .int .i64 0, .bool false] o #[.int .i64 (-1), .int .i64 (-1), .bool false]) := HH1.out.as ⟨fun h => absurd h (by omega), fun h => ⟨by
        rcases (HH1.out.syn.past h).1 with h1 | h1
        · exact .inl ⟨h1, rfl, rfl⟩
        · exact .inr ⟨.ld, _, rfl, h1, rfl, rfl⟩, (HH1.out.syn.past h).2⟩⟩
      clear hst HH1 HK
      have o0 := HH.out.out.cell 0 (v := .int .i64 (-1)) rfl
      have o1 := HH.out.out.cell 1 (v := .int .i64 (-1)) rfl
      have o2 := HH.out.out.cell 2 (v := .bool false) rfl
      have r0 := HH.out.res.cell 0 (v := .int .i64 0) rfl
      have r1 := HH.out.res.cell 1 (v := .int .i64 0) rfl
      have r2 := HH.out.res.cell 2 (v := .bool false) rfl
      have f0 := HH.out.res.fro 0
      have f1 := HH.out.res.fro 1
      have f2 := HH.out.res.fro 2
      have HN : Hid _ := HH.out.ret (a := .int .i64 (-1)) (b := .int .i64 (-1)) (c := .bool false) rfl
      go_wp2_with fail
      generalize ((y1.setCell ⟨w.heap.size + 1, 0, none⟩ (.int .i64 (-1))).setCell ⟨w.heap.size + 1, 1, none⟩ (.int .i64 (-1))).setCell ⟨w.heap.size + 1, 2, none⟩ (.bool false) = yz at *
      have hfr := HN.out.2.2
      refine bodyPost_ret (v := .agg #[.int .i64 (-1), .int .i64 (-1), .bool false]) (results_cell_row rfl _ _ (w.heap.size + 1) 50 #[.int .i64 (-1), .int .i64 (-1), .bool false] _ _ rfl hfr Tryz.underlying50 rfl (by kernel_rfl)) rfl ?_
      exact ⟨-1, -1, false, j + 1, .no, rfl, HN.out.1, HH.out.syn, rfl, fun _ => ⟨rfl, rfl⟩, HN.out.2.1, HH.out.le⟩
    · rw [decide_eq_false hst] at sc
      have HST : Hid (j + 1 ≤ m) := (by omega : j + 1 ≤ m)
      have HH2 : Hid (HdAt w y1 x A cap m g M s0 j (j + 1) (emb .sw) (fun _ => False) #[.int .i64 P, .int .i64 T, .int .i64 G] 50 #[.int .i64 0, .int .i64 0, .bool false] o #[.int .i64 (-1), .int .i64 (-1), .bool false]) := HH1.out.as ⟨HH1.out.syn.at', fun h => absurd h (by omega)⟩
      have hA := syn_swap HH2.out.run HH2.out.syn HBD.out 13 0 1 (fun _ => HE.out.ax .sw _ rfl)
      have HAX : Hid (M.ax (emb .sw) = some (axSw 13 0 1)) := HE.out.ax .sw _ rfl
      clear hst HH1 HK
      go_wp2_with fail
      go_at_call 95; refine hA.mono ?_; rintro e y2 ⟨v2, rfl, hK⟩
      have HONE : Hid (j + 1 < m → v2 ≤ 1) := fun h => by
        rw [hK.val h]
        exact HSW.out (j + 1) h _ (by rw [HH2.out.syn.at' (by omega)]; exact HAX.out) rfl
      have HZ : Hid (m ≤ j + 1 → v2 = 0) := hK.zero
      have HV : Hid (0 ≤ v2) := hK.bd.1
      have HH3 : Hid (HdAt w y2 x A cap m g M s0 j (j + 1 + 1) (emb (if v2 = 0 then .no else .acq .fresh)) (fun q => q = emb .sw) #[.int .i64 P, .int .i64 T, .int .i64 G] 50 #[.int .i64 0, .int .i64 0, .bool false] o #[.int .i64 (-1), .int .i64 (-1), .bool false]) := by
        have h := HH2.out.step hK
        rw [HE.out.nx .sw _ _ rfl] at h
        exact h.as (h.syn.weak (fun q h => h.elim id (fun h => h.elim)))
      clear hA hK HH2 HAX
      by_cases h1 : v2 = 1
      · have hd : decide (v2 = 1) = true := decide_eq_true h1
        have HH4 : Hid (HdAt w (y2.setCell ⟨o, 2, none⟩ (.bool true)) x A cap m g M s0 j (j + 1 + 1) (wwA emb .fresh) (fun _ => False) #[.int .i64 P, .int .i64 T, .int .i64 G] 50 #[.int .i64 0, .int .i64 0, .bool false] o #[.int .i64 (-1), .int .i64 (-1), .bool true]) := (HH3.out.as (t2 := emb (.acq .fresh)) ⟨fun h => (HH3.out.syn.at' h).trans (by rw [if_neg (by omega)]), fun h => absurd (HZ.out (by omega)) (by omega)⟩).set 2 (.bool true)
        have hAc := syn_acquire (ww_acqIn HE.out) (by omega) HP.out.2.2 HH4.out.run HH4.out.syn HBD.out
        have o2 := HH3.out.out.cell 2 (v := .bool false) rfl
        have f2 := HH3.out.out.fro 2
        subst h1
        clear HH3 HONE HZ HV sc HST
        go_wp2_with fail
        clear o2 f2
        generalize y2.setCell ⟨o, 2, none⟩ (.bool true) = V at *
        go_at_call 96; refine hAc.mono ?_; rintro e y3 ⟨⟨u, rfl⟩, j3, tt, hR3, hS3, hB3, hj3⟩
        have HH5 : Hid (HdAt w y3 x A cap m g M s0 j j3 (emb (.get .ld)) (WwQ Q emb P T who (-1) true) #[.int .i64 P, .int .i64 T, .int .i64 G] 50 #[.int .i64 0, .int .i64 0, .bool false] o #[.int .i64 (-1), .int .i64 (-1), .bool true]) := HH4.out.go hR3 (hS3.weak (fun q' h => by
          rcases h with h | ⟨p', hp', h⟩
          · exact h.elim
          · have hb : wwA emb p' = emb (.acq p') := by cases p' <;> first | rfl | exact absurd rfl (hp' _)
            obtain ⟨a, ha⟩ : ∃ a, (wwPM P T who).ax (.acq p') = some a := by cases p' <;> first | exact ⟨_, rfl⟩ | exact absurd rfl (hp' _)
            exact .inr ⟨.acq p', a, ha, h.trans hb, rfl, rfl⟩)) hB3 hj3
        clear hAc hR3 hS3 hB3 hj3 HH4
        have sc := HH5.out.stop
        by_cases hst : m < j3
        · rw [decide_eq_true hst] at sc
          have HST : Hid (m < j3) := hst
          have HH : Hid (HdAt w y3 x A cap m g M s0 j j3 (emb (.get .ld)) (WwQ Q emb P T who (-1) true) #[.int .i64 P, .int .i64 T, .int .i64 G] 50 #[.int .i64 0, .int .i64 0, .bool false] o #[.int .i64 (-1), .int .i64 (-1), .bool true]) := HH5.out
          clear hst HH5
          have o0 := HH.out.out.cell 0 (v := .int .i64 (-1)) rfl
          have o1 := HH.out.out.cell 1 (v := .int .i64 (-1)) rfl
          have o2 := HH.out.out.cell 2 (v := .bool true) rfl
          have r0 := HH.out.res.cell 0 (v := .int .i64 0) rfl
          have r1 := HH.out.res.cell 1 (v := .int .i64 0) rfl
          have r2 := HH.out.res.cell 2 (v := .bool false) rfl
          have f0 := HH.out.res.fro 0
          have f1 := HH.out.res.fro 1
          have f2 := HH.out.res.fro 2
          have HN : Hid _ := HH.out.ret (a := .int .i64 (-1)) (b := .int .i64 (-1)) (c := .bool true) rfl
          go_wp2_with fail
          generalize ((y3.setCell ⟨w.heap.size + 1, 0, none⟩ (.int .i64 (-1))).setCell ⟨w.heap.size + 1, 1, none⟩ (.int .i64 (-1))).setCell ⟨w.heap.size + 1, 2, none⟩ (.bool true) = yz at *
          have hfr := HN.out.2.2
          refine bodyPost_ret (v := .agg #[.int .i64 (-1), .int .i64 (-1), .bool true]) (results_cell_row rfl _ _ (w.heap.size + 1) 50 #[.int .i64 (-1), .int .i64 (-1), .bool true] _ _ rfl hfr Tryz.underlying50 rfl (by kernel_rfl)) rfl ?_
          exact ⟨-1, -1, true, j3, .no, rfl, HN.out.1, ⟨fun h => absurd h (by have := HST.out; omega), HH.out.syn.past⟩, rfl, fun h => absurd h (by have := HST.out; omega), HN.out.2.1, HH.out.le⟩
        · rw [decide_eq_false hst] at sc
          have HST : Hid (j3 ≤ m) := (by omega : j3 ≤ m)
          have HH6 : Hid (HdAt w y3 x A cap m g M s0 j j3 (wwG emb .ld) (fun _ => False) #[.int .i64 P, .int .i64 T, .int .i64 G] 50 #[.int .i64 0, .int .i64 0, .bool false] o #[.int .i64 (-1), .int .i64 (-1), .bool true]) := HH5.out.as ⟨HH5.out.syn.at', fun h => absurd h (by omega)⟩
          have hG := syn_iget (T := T) (G := G) (ww_igIn HE.out) HP.out.1 HH6.out.run HH6.out.syn HBD.out
          have k0 := HH6.out.cfg.cell 0 (v := .int .i64 P) rfl
          have k1 := HH6.out.cfg.cell 1 (v := .int .i64 T) rfl
          have k2 := HH6.out.cfg.cell 2 (v := .int .i64 G) rfl
          clear hst HH5
          go_wp2_with fail
          go_at_call 97; refine hG.mono ?_; rintro e y4 ⟨r, j4, q, rfl, hR4, hS4, hq, hr, hB4, hj4⟩
          have HQ : Hid (IgT.live q = false ∧ (j4 ≤ m → r = q.obs)) := ⟨hq, hr⟩
          have HH7 : Hid (HdAt w y4 x A cap m g M s0 j j4 (wwG emb q) (IgQ (fun _ => False) (wwG emb) r) #[.int .i64 P, .int .i64 T, .int .i64 G] 50 #[.int .i64 0, .int .i64 0, .bool false] o #[.int .i64 (-1), .int .i64 (-1), .bool true]) := HH6.out.go hR4 hS4 hB4 hj4
          have HH8 : Hid (HdAt w (y4.setCell ⟨o, 0, none⟩ (.int .i64 r)) x A cap m g M s0 j j4 (wwG emb q) (IgQ (fun _ => False) (wwG emb) r) #[.int .i64 P, .int .i64 T, .int .i64 G] 50 #[.int .i64 0, .int .i64 0, .bool false] o #[.int .i64 r, .int .i64 (-1), .bool true]) := HH7.out.set 0 (.int .i64 r)
          have oo0 := HH7.out.out.cell 0 (v := .int .i64 (-1)) rfl
          have ff0 := HH7.out.out.fro 0
          have sc7 := HH8.out.stop
          have hne : o ≠ x := by have := HH7.out.x; have := HH7.out.lo; omega
          have hne1 : o ≠ w.heap.size + 1 := by have := HH7.out.lo; omega
          have hne2 : o ≠ w.heap.size := by have := HH7.out.lo; omega
          clear hG hR4 hS4 hq hr hB4 hj4 HH6 k0 k1 k2 HST sc
          by_cases hst : m < j4
          · rw [decide_eq_true hst] at sc7
            have HST : Hid (m < j4) := hst
            have HH : Hid (HdAt w (y4.setCell ⟨o, 0, none⟩ (.int .i64 r)) x A cap m g M s0 j j4 (emb (.get .ld)) (WwQ Q emb P T who r true) #[.int .i64 P, .int .i64 T, .int .i64 G] 50 #[.int .i64 0, .int .i64 0, .bool false] o #[.int .i64 r, .int .i64 (-1), .bool true]) := HH8.out.as ⟨fun h => absurd h (by omega), fun h => ⟨by
              rcases (HH8.out.syn.past h).1 with ⟨h1, -⟩ | ⟨p', hl, h1, h2⟩
              · exact h1.elim
              · obtain ⟨a, ha⟩ := Option.isSome_iff_exists.1 ((ig_live_ax (P := P) (q := p')).trans hl)
                exact .inr ⟨.get p', a, ha, h1.trans (if_pos hl), h2, rfl⟩, (HH8.out.syn.past h).2⟩⟩
            have g0 := HH7.out.res.fro 0
            have g1 := HH7.out.res.fro 1
            have g2 := HH7.out.res.fro 2
            have s0' := HH7.out.res.cell 0 (v := .int .i64 0) rfl
            have s1' := HH7.out.res.cell 1 (v := .int .i64 0) rfl
            have s2' := HH7.out.res.cell 2 (v := .bool false) rfl
            have t1' := HH7.out.out.cell 1 (v := .int .i64 (-1)) rfl
            have t2' := HH7.out.out.cell 2 (v := .bool true) rfl
            clear hst HH7 HH8
            have o0 := HH.out.out.cell 0 (v := .int .i64 r) rfl
            have o1 := HH.out.out.cell 1 (v := .int .i64 (-1)) rfl
            have o2 := HH.out.out.cell 2 (v := .bool true) rfl
            have r0 := HH.out.res.cell 0 (v := .int .i64 0) rfl
            have r1 := HH.out.res.cell 1 (v := .int .i64 0) rfl
            have r2 := HH.out.res.cell 2 (v := .bool false) rfl
            have f0 := HH.out.res.fro 0
            have f1 := HH.out.res.fro 1
            have f2 := HH.out.res.fro 2
            have HN : Hid _ := HH.out.ret (a := .int .i64 r) (b := .int .i64 (-1)) (c := .bool true) rfl
            go_wp2_with fail
            generalize (((y4.setCell ⟨o, 0, none⟩ (.int .i64 r)).setCell ⟨w.heap.size + 1, 0, none⟩ (.int .i64 r)).setCell ⟨w.heap.size + 1, 1, none⟩ (.int .i64 (-1))).setCell ⟨w.heap.size + 1, 2, none⟩ (.bool true) = yz at *
            have hfr := HN.out.2.2
            refine bodyPost_ret (v := .agg #[.int .i64 r, .int .i64 (-1), .bool true]) (results_cell_row rfl _ _ (w.heap.size + 1) 50 #[.int .i64 r, .int .i64 (-1), .bool true] _ _ rfl hfr Tryz.underlying50 rfl (by kernel_rfl)) rfl ?_
            exact ⟨r, -1, true, j4, .no, rfl, HN.out.1, ⟨fun h => absurd h (by have := HST.out; omega), HH.out.syn.past⟩, rfl, fun h => absurd h (by have := HST.out; omega), HN.out.2.1, HH.out.le⟩
          · rw [decide_eq_false hst] at sc7
            have HST : Hid (j4 ≤ m) := (by omega : j4 ≤ m)
            have HRQ : Hid (r = q.obs) := HQ.out.2 HST.out
            have k0 := HH8.out.cfg.cell 0 (v := .int .i64 P) rfl
            have k1 := HH8.out.cfg.cell 1 (v := .int .i64 T) rfl
            have k2 := HH8.out.cfg.cell 2 (v := .int .i64 G) rfl
            have p0 := HH8.out.out.cell 0 (v := .int .i64 r) rfl
            by_cases hr1 : r = -1
            · have hd1 : (r == -1) = true := by simpa using hr1
              have HR1 : Hid (r = -1) := hr1
              have HH9 : Hid (HdAt w (y4.setCell ⟨o, 0, none⟩ (.int .i64 r)) x A cap m g M s0 j j4 (emb (.need q)) (fun _ => False) #[.int .i64 P, .int .i64 T, .int .i64 G] 50 #[.int .i64 0, .int .i64 0, .bool false] o #[.int .i64 r, .int .i64 (-1), .bool true]) := HH8.out.as ⟨fun h => (HH8.out.syn.at' h).trans ((if_neg (by rw [HQ.out.1]; decide)).trans (if_pos (HRQ.out.symm.trans hr1))), fun h => absurd h (by omega)⟩
              have hA := syn_store HH9.out.run HH9.out.syn HBD.out 14 1 (fun _ => HE.out.ax (.need q) _ rfl)
              clear hst HH8 HH7 hr1
              go_wp2_with fail
              clear oo0 ff0 sc7 k0 k1 k2 p0
              generalize y4.setCell ⟨o, 0, none⟩ (.int .i64 r) = V8 at *
              go_at_call 77; refine hA.mono ?_; rintro e y5 ⟨⟨u5, rfl⟩, v5, hK⟩
              have HH10 : Hid (HdAt w y5 x A cap m g M s0 j (j4 + 1) (emb (.cnt q)) (fun q' => q' = emb (.need q)) #[.int .i64 P, .int .i64 T, .int .i64 G] 50 #[.int .i64 0, .int .i64 0, .bool false] o #[.int .i64 r, .int .i64 (-1), .bool true]) := by
                have h := HH9.out.step hK
                rw [HE.out.nx (.need q) _ _ rfl] at h
                exact h.as (h.syn.weak (fun q' h' => h'.elim id (fun h => h.elim)))
              have hA2 := syn_add HH10.out.run HH10.out.syn HBD.out 13 4294967295 (fun _ => HE.out.ax (.cnt q) _ rfl)
              clear hA hK HH9 HST
              go_wp2_with fail
              go_at_call 78; refine hA2.mono ?_; rintro e y6 ⟨v6, rfl, hK⟩
              have HH11 : Hid (HdAt w y6 x A cap m g M s0 j (j4 + 1 + 1) (emb (.rel q .fresh)) (WwQ Q emb P T who r true) #[.int .i64 P, .int .i64 T, .int .i64 G] 50 #[.int .i64 0, .int .i64 0, .bool false] o #[.int .i64 r, .int .i64 (-1), .bool true]) := by
                have h := HH10.out.step hK
                rw [HE.out.nx (.cnt q) _ _ rfl] at h
                exact h.as (h.syn.weak (fun q' h' => by
                  rcases h' with h' | h'
                  · exact .inr ⟨.cnt q, _, rfl, h', HRQ.out, rfl⟩
                  · exact .inr ⟨.need q, _, rfl, h', HRQ.out, rfl⟩))
              clear hA2 hK HH10
              have sc := HH11.out.stop
              have oo2 := HH11.out.out.cell 2 (v := .bool true) rfl
              have ff2 := HH11.out.out.fro 2
              by_cases hst : m < j4 + 1 + 1
              · rw [decide_eq_true hst] at sc
                have HST : Hid (m < j4 + 1 + 1) := hst
                have HH12 : Hid (HdAt w (y6.setCell ⟨o, 2, none⟩ (.bool true)) x A cap m g M s0 j (j4 + 1 + 1) (wwR emb q .fresh) (WwQ Q emb P T who r true) #[.int .i64 P, .int .i64 T, .int .i64 G] 50 #[.int .i64 0, .int .i64 0, .bool false] o #[.int .i64 r, .int .i64 (-1), .bool true]) := HH11.out.set 2 (.bool true)
                have hRl := syn_release (ww_relIn HE.out q) (by omega) HH12.out.run HH12.out.syn HBD.out
                clear hst
                go_wp2_with fail
                clear oo2 ff2 sc
                generalize y6.setCell ⟨o, 2, none⟩ (.bool true) = V9 at *
                go_at_call 81; refine hRl.mono ?_; rintro e y9 ⟨⟨u9, rfl⟩, j9, hR9, hS9, hB9, hj9⟩
                have HH : Hid (HdAt w y9 x A cap m g M s0 j j9 (emb (.rel q .over)) (WwQ Q emb P T who r true) #[.int .i64 P, .int .i64 T, .int .i64 G] 50 #[.int .i64 0, .int .i64 0, .bool false] o #[.int .i64 r, .int .i64 (-1), .bool true]) := HH12.out.go hR9 ⟨hS9.at', fun h => HH11.out.syn.past HST.out⟩ hB9 hj9
                have HST9 : Hid (m < j9) := Nat.lt_of_lt_of_le HST.out hj9
                clear hRl hR9 hS9 hB9 hj9 HH11 HH12 HST
                have o0 := HH.out.out.cell 0 (v := .int .i64 r) rfl
                have o1 := HH.out.out.cell 1 (v := .int .i64 (-1)) rfl
                have o2 := HH.out.out.cell 2 (v := .bool true) rfl
                have r0 := HH.out.res.cell 0 (v := .int .i64 0) rfl
                have r1 := HH.out.res.cell 1 (v := .int .i64 0) rfl
                have r2 := HH.out.res.cell 2 (v := .bool false) rfl
                have f0 := HH.out.res.fro 0
                have f1 := HH.out.res.fro 1
                have f2 := HH.out.res.fro 2
                have HN : Hid _ := HH.out.ret (a := .int .i64 r) (b := .int .i64 (-1)) (c := .bool true) rfl
                go_wp2_with fail
                generalize ((y9.setCell ⟨w.heap.size + 1, 0, none⟩ (.int .i64 r)).setCell ⟨w.heap.size + 1, 1, none⟩ (.int .i64 (-1))).setCell ⟨w.heap.size + 1, 2, none⟩ (.bool true) = yz at *
                have hfr := HN.out.2.2
                refine bodyPost_ret (v := .agg #[.int .i64 r, .int .i64 (-1), .bool true]) (results_cell_row rfl _ _ (w.heap.size + 1) 50 #[.int .i64 r, .int .i64 (-1), .bool true] _ _ rfl hfr Tryz.underlying50 rfl (by kernel_rfl)) rfl ?_
                exact ⟨r, -1, true, j9, .rel q .over, rfl, HN.out.1, HH.out.syn, rfl, fun h => absurd h (by have := HST9.out; omega), HN.out.2.1, HH.out.le⟩
              · rw [decide_eq_false hst] at sc
                have HST : Hid (j4 + 1 + 1 ≤ m) := (by omega : j4 + 1 + 1 ≤ m)
                have HH12 : Hid (HdAt w (y6.setCell ⟨o, 2, none⟩ (.bool false)) x A cap m g M s0 j (j4 + 1 + 1) (wwR emb q .fresh) (fun _ => False) #[.int .i64 P, .int .i64 T, .int .i64 G] 50 #[.int .i64 0, .int .i64 0, .bool false] o #[.int .i64 r, .int .i64 (-1), .bool false]) := (HH11.out.as (Q2 := fun _ => False) ⟨HH11.out.syn.at', fun h => absurd h (by omega)⟩).set 2 (.bool false)
                have hRl := syn_release (ww_relIn HE.out q) (by omega) HH12.out.run HH12.out.syn HBD.out
                clear hst
                go_wp2_with fail
                clear oo2 ff2 sc
                generalize y6.setCell ⟨o, 2, none⟩ (.bool false) = V9 at *
                go_at_call 81; refine hRl.mono ?_; rintro e y9 ⟨⟨u9, rfl⟩, j9, hR9, hS9, hB9, hj9⟩
                have HH : Hid (HdAt w y9 x A cap m g M s0 j j9 (emb (.rel q .over)) (WwQ Q emb P T who r false) #[.int .i64 P, .int .i64 T, .int .i64 G] 50 #[.int .i64 0, .int .i64 0, .bool false] o #[.int .i64 r, .int .i64 (-1), .bool false]) := HH12.out.go hR9 (hS9.weak (fun q' h => by
                  rcases h with h | h | h
                  · exact h.elim
                  · exact .inr ⟨.rel q .fresh, _, rfl, h, HRQ.out, rfl⟩
                  · exact .inr ⟨.rel q .pass, _, rfl, h, HRQ.out, rfl⟩)) hB9 hj9
                clear hRl hR9 hS9 hB9 hj9 HH11 HH12 HST
                have o0 := HH.out.out.cell 0 (v := .int .i64 r) rfl
                have o1 := HH.out.out.cell 1 (v := .int .i64 (-1)) rfl
                have o2 := HH.out.out.cell 2 (v := .bool false) rfl
                have r0 := HH.out.res.cell 0 (v := .int .i64 0) rfl
                have r1 := HH.out.res.cell 1 (v := .int .i64 0) rfl
                have r2 := HH.out.res.cell 2 (v := .bool false) rfl
                have f0 := HH.out.res.fro 0
                have f1 := HH.out.res.fro 1
                have f2 := HH.out.res.fro 2
                have HN : Hid _ := HH.out.ret (a := .int .i64 r) (b := .int .i64 (-1)) (c := .bool false) rfl
                go_wp2_with fail
                generalize ((y9.setCell ⟨w.heap.size + 1, 0, none⟩ (.int .i64 r)).setCell ⟨w.heap.size + 1, 1, none⟩ (.int .i64 (-1))).setCell ⟨w.heap.size + 1, 2, none⟩ (.bool false) = yz at *
                have hfr := HN.out.2.2
                refine bodyPost_ret (v := .agg #[.int .i64 r, .int .i64 (-1), .bool false]) (results_cell_row rfl _ _ (w.heap.size + 1) 50 #[.int .i64 r, .int .i64 (-1), .bool false] _ _ rfl hfr Tryz.underlying50 rfl (by kernel_rfl)) rfl ?_
                exact ⟨r, -1, false, j9, .rel q .over, rfl, HN.out.1, HH.out.syn, rfl, fun _ => ⟨HRQ.out, rfl⟩, HN.out.2.1, HH.out.le⟩
            · have hd1 : (r == -1) = false := by simpa using hr1
              have HH9 : Hid (HdAt w (y4.setCell ⟨o, 0, none⟩ (.int .i64 r)) x A cap m g M s0 j j4 (wwS emb q (.get .ld)) (fun _ => False) #[.int .i64 P, .int .i64 T, .int .i64 G] 50 #[.int .i64 0, .int .i64 0, .bool false] o #[.int .i64 r, .int .i64 (-1), .bool true]) := HH8.out.as ⟨fun h => (HH8.out.syn.at' h).trans ((if_neg (by rw [HQ.out.1]; decide)).trans (if_neg (fun e => hr1 (HRQ.out.trans e)))), fun h => absurd h (by omega)⟩
              have HWI : Hid (WsIn M P T r true false (wwS emb q)) := by rw [HRQ.out]; exact ww_wsIn HE.out q
              have hSt := syn_wstart (G := G) HWI.out HP.out.1 HP.out.2.1 HH9.out.run HH9.out.syn HBD.out
              clear hst HH8 HH7 hr1
              go_wp2_with fail
              clear oo0 ff0 sc7 k0 k1 k2 p0
              generalize y4.setCell ⟨o, 0, none⟩ (.int .i64 r) = V8 at *
              go_at_call 15; refine hSt.mono ?_; rintro e y5 ⟨p', t', j5, sf, rfl, q1, q2, q3, q4, q5, q6⟩
              have HF : Hid ((wsPM P T q.obs true false).ax sf = none ∧ (j5 ≤ m → p' = sf.holds q.obs)) := ⟨by rw [← HRQ.out]; exact q3, fun h => by rw [← HRQ.out]; exact (q4 h).1⟩
              have HH : Hid (HdAt w y5 x A cap m g M s0 j j5 (wwS emb q sf) (WwQ Q emb P T who p' false) #[.int .i64 P, .int .i64 T, .int .i64 G] 50 #[.int .i64 0, .int .i64 0, .bool false] o #[.int .i64 r, .int .i64 (-1), .bool true]) := HH9.out.go q1 (q2.weak (fun q' h => by
                rcases h with ⟨h, -⟩ | ⟨sg, a, h1, h2, h3, -⟩
                · exact h.elim
                · rw [HRQ.out] at h1 h3
                  exact .inr ⟨.run q sg, a, h1, h2, h3, rfl⟩)) q5 q6
              clear hSt q1 q2 q3 q4 q5 q6 HH9 HWI HST
              have r0 := HH.out.res.cell 0 (v := .int .i64 0) rfl
              have r1 := HH.out.res.cell 1 (v := .int .i64 0) rfl
              have r2 := HH.out.res.cell 2 (v := .bool false) rfl
              have f0 := HH.out.res.fro 0
              have f1 := HH.out.res.fro 1
              have f2 := HH.out.res.fro 2
              have HN : Hid _ := HH.out.ret (a := .int .i64 p') (b := .int .i64 t') (c := .bool false) rfl
              go_wp2_with fail
              generalize ((y5.setCell ⟨w.heap.size + 1, 0, none⟩ (.int .i64 p')).setCell ⟨w.heap.size + 1, 1, none⟩ (.int .i64 t')).setCell ⟨w.heap.size + 1, 2, none⟩ (.bool false) = yz at *
              have hfr := HN.out.2.2
              refine bodyPost_ret (v := .agg #[.int .i64 p', .int .i64 t', .bool false]) (results_cell_row rfl _ _ (w.heap.size + 1) 50 #[.int .i64 p', .int .i64 t', .bool false] _ _ rfl hfr Tryz.underlying50 rfl (by kernel_rfl)) rfl ?_
              exact ⟨p', t', false, j5, .run q sf, rfl, HN.out.1, HH.out.syn, HF.out.1, fun h => ⟨HF.out.2 h, rfl⟩, HN.out.2.1, HH.out.le⟩
      · have hd : decide (v2 = 1) = false := decide_eq_false h1
        have HH : Hid (HdAt w y2 x A cap m g M s0 j (j + 1 + 1) (emb .no) (WwQ Q emb P T who (-1) false) #[.int .i64 P, .int .i64 T, .int .i64 G] 50 #[.int .i64 0, .int .i64 0, .bool false] o #[.int .i64 (-1), .int .i64 (-1), .bool false]) := HH3.out.as ⟨fun h => (HH3.out.syn.at' h).trans (by rw [if_pos (by have := HONE.out (by omega); have := HV.out; omega)]), fun h => ⟨.inr ⟨.sw, _, rfl, (HH3.out.syn.past h).1, rfl, rfl⟩, (HH3.out.syn.past h).2⟩⟩
        clear HH3 HONE HZ HV sc HST h1
        have o0 := HH.out.out.cell 0 (v := .int .i64 (-1)) rfl
        have o1 := HH.out.out.cell 1 (v := .int .i64 (-1)) rfl
        have o2 := HH.out.out.cell 2 (v := .bool false) rfl
        have r0 := HH.out.res.cell 0 (v := .int .i64 0) rfl
        have r1 := HH.out.res.cell 1 (v := .int .i64 0) rfl
        have r2 := HH.out.res.cell 2 (v := .bool false) rfl
        have f0 := HH.out.res.fro 0
        have f1 := HH.out.res.fro 1
        have f2 := HH.out.res.fro 2
        have HN : Hid _ := HH.out.ret (a := .int .i64 (-1)) (b := .int .i64 (-1)) (c := .bool false) rfl
        go_wp2_with fail
        generalize ((y2.setCell ⟨w.heap.size + 1, 0, none⟩ (.int .i64 (-1))).setCell ⟨w.heap.size + 1, 1, none⟩ (.int .i64 (-1))).setCell ⟨w.heap.size + 1, 2, none⟩ (.bool false) = yz at *
        have hfr := HN.out.2.2
        refine bodyPost_ret (v := .agg #[.int .i64 (-1), .int .i64 (-1), .bool false]) (results_cell_row rfl _ _ (w.heap.size + 1) 50 #[.int .i64 (-1), .int .i64 (-1), .bool false] _ _ rfl hfr Tryz.underlying50 rfl (by kernel_rfl)) rfl ?_
        exact ⟨-1, -1, false, j + 1 + 1, .no, rfl, HN.out.1, HH.out.syn, rfl, fun _ => ⟨rfl, rfl⟩, HN.out.2.1, HH.out.le⟩
  · have hd : (v != 0) = true := by simpa using hv
    have HH : Hid (HdAt w y1 x A cap m g M s0 j (j + 1) (emb .no) (WwQ Q emb P T who (-1) false) #[.int .i64 P, .int .i64 T, .int .i64 G] 50 #[.int .i64 0, .int .i64 0, .bool false] o #[.int .i64 (-1), .int .i64 (-1), .bool false]) := HH1.out.as ⟨fun h => (HH1.out.syn.at' h).trans (by rw [if_neg hv]), fun h => absurd (HK.out (by omega)) hv⟩
    clear HH1 HK hv
    have o0 := HH.out.out.cell 0 (v := .int .i64 (-1)) rfl
    have o1 := HH.out.out.cell 1 (v := .int .i64 (-1)) rfl
    have o2 := HH.out.out.cell 2 (v := .bool false) rfl
    have r0 := HH.out.res.cell 0 (v := .int .i64 0) rfl
    have r1 := HH.out.res.cell 1 (v := .int .i64 0) rfl
    have r2 := HH.out.res.cell 2 (v := .bool false) rfl
    have f0 := HH.out.res.fro 0
    have f1 := HH.out.res.fro 1
    have f2 := HH.out.res.fro 2
    have HN : Hid _ := HH.out.ret (a := .int .i64 (-1)) (b := .int .i64 (-1)) (c := .bool false) rfl
    go_wp2_with fail
    generalize ((y1.setCell ⟨w.heap.size + 1, 0, none⟩ (.int .i64 (-1))).setCell ⟨w.heap.size + 1, 1, none⟩ (.int .i64 (-1))).setCell ⟨w.heap.size + 1, 2, none⟩ (.bool false) = yz at *
    have hfr := HN.out.2.2
    refine bodyPost_ret (v := .agg #[.int .i64 (-1), .int .i64 (-1), .bool false]) (results_cell_row rfl _ _ (w.heap.size + 1) 50 #[.int .i64 (-1), .int .i64 (-1), .bool false] _ _ rfl hfr Tryz.underlying50 rfl (by kernel_rfl)) rfl ?_
    exact ⟨-1, -1, false, j + 1, .no, rfl, HN.out.1, HH.out.syn, rfl, fun _ => ⟨rfl, rfl⟩, HN.out.2.1, HH.out.le⟩
end Go.Proofs.YthbgoakaijeemaaGreat

namespace Go.Proofs.YthbgoakaijeemaaGreat
open Go Go.RowKit
set_option linter.unusedVariables false
set_option maxRecDepth 100000
set_option linter.unusedSimpArgs false

theorem rwstart_on (w : World) (x : Nat) (A : Option Addr) (cap m : Nat) (gf : Nat → Int) (P T G p : Int) (sp lf : Bool) (t : WsT) (h : RunOn w x A cap m gf rn0) (hh : Hist (wsPM P T p sp lf) (.get .ld) gf m t) (hp : 0 ≤ P ∧ P ≤ 64) (hT : 0 ≤ T ∧ T ≤ 65536) :
    Calls Tryz.prog 15 #[.pointer (some ⟨x, 0, none⟩), .agg #[.int .i64 P, .int .i64 T, .int .i64 G], .int .i64 p, .bool sp, .bool lf] w fun e w' => e = .returned (.agg #[.int .i64 (t.holds p), .int .i64 t.q.obs, .bool false]) ∧ RunOn w' x A cap m gf ((wsPM P T p sp lf).rn t m) ∧ But [x] w w' := by
  rw [← rj_start (M := wsPM P T p sp lf) (s0 := WsT.get .ld) (g := gf) (m := m)] at h
  refine (syn_wstart (G := G) (ws_in P T p sp lf) hp hT h (Syn.start _ _ _ _) hh.bd).mono ?_
  rintro e w' ⟨p', t', j', s, rfl, h1, h2, h3, h4, h5, -⟩
  have hr : p' = t.holds p ∧ t' = t.q.obs := by
    rcases h2.fin hh (fun _ => h3) with ⟨e1, e2⟩ | ⟨-, (⟨hf, -⟩ | ⟨s', a, -, e1, e2, e3⟩)⟩
    · rw [e1]; exact h4 (by omega)
    · exact hf.elim
    · rw [e1]; exact ⟨e2, e3⟩
  refine ⟨by rw [hr.1, hr.2], ?_, h5⟩
  rw [← rj_end h2 hh (fun _ => h3)]
  exact h1
theorem rwwake_on (w : World) (x : Nat) (A : Option Addr) (cap m : Nat) (gf : Nat → Int) (P T G who : Int) (t : WwT) (h : RunOn w x A cap m gf rn0) (hh : Hist (wwPM P T who) .ld gf m t) (hp : 0 ≤ P ∧ P ≤ 64) (hT : 0 ≤ T ∧ T ≤ 65536) (hw : 0 ≤ who ∧ who ≤ 300) :
    Calls Tryz.prog 25 #[.pointer (some ⟨x, 0, none⟩), .agg #[.int .i64 P, .int .i64 T, .int .i64 G], .int .i64 who] w fun e w' => ∃ t' : Int, e = .returned (.agg #[.int .i64 t.holds, .int .i64 t', .bool t.counts]) ∧ RunOn w' x A cap m gf ((wwPM P T who).rn t m) ∧ But [x] w w' := by
  rw [← rj_start (M := wwPM P T who) (s0 := WwT.ld) (g := gf) (m := m)] at h
  refine (syn_wwake (G := G) (ww_in P T who) hp hT hw h (Syn.start _ _ _ _) hh.bd hh.sw).mono ?_
  rintro e w' ⟨p', t', c', j', s, rfl, h1, h2, h3, h4, h5, -⟩
  have hr : p' = t.holds ∧ c' = t.counts := by
    rcases h2.fin hh (fun _ => h3) with ⟨e1, e2⟩ | ⟨-, (⟨hf, -⟩ | ⟨s', a, -, e1, e2, e3⟩)⟩
    · rw [e1]; exact h4 (by omega)
    · exact hf.elim
    · rw [e1]; exact ⟨e2, e3⟩
  refine ⟨t', by rw [hr.1, hr.2], ?_, h5⟩
  rw [← rj_end h2 hh (fun _ => h3)]
  exact h1
end Go.Proofs.YthbgoakaijeemaaGreat

namespace Go.Proofs.YthbgoakaijeemaaGreat
open Go Go.RowKit
set_option linter.unusedVariables false
set_option maxRecDepth 100000
set_option linter.unusedSimpArgs false

def waA (i : Nat) : Int := if i = 0 then 9 else if i = 1 then 10 else if i = 2 then 15 else 19
def waV (_ : Nat) : Int := 1
def waM : PM WwT := wwPM 1 2 0
def waS0 : St := fresh (putF waA waV 292 4)
def waS : St := (waM.steps 0 292 30 (.ld, waS0)).2
def waT : WwT := (waM.steps 0 292 30 (.ld, waS0)).1
theorem wa_done : (waM.ax waT).isNone = true := by decide +kernel
theorem wa_given : peekT 292 waS (wd (20 + 1 * 264) 2 3 1 1) = 4294967297 := by decide +kernel
theorem wa_note : peekT 292 waS (wd (20 + 1 * 264) 2 3 1 0) = 1 := by decide +kernel
theorem wa_spins : peekT 292 waS 13 = 1 := by decide +kernel
theorem wa_word : wkWord 2 true = 4294967299 := by decide +kernel

set_option maxHeartbeats 8000000 in
theorem wake_awake (w : World) : Calls Tryz.prog 12 #[] w fun e w' => e = .returned (.bool true) ∧ Below w.heap.size w w' := by
  have hX1 := Blk.new w #[.int .i64 9, .int .u64 1, .int .i64 10, .int .u64 1, .int .i64 15, .int .u64 1, .int .i64 19, .int .u64 1] 93
  have hb1 : Below w.heap.size w (w.alloc (.cells #[.int .i64 9, .int .u64 1, .int .i64 10, .int .u64 1, .int .i64 15, .int .u64 1, .int .i64 19, .int .u64 1] 93)) := (Below.refl _ _).alloc (Nat.le_refl _) _
  have hb2 : Below w.heap.size w ((w.alloc (.cells #[.int .i64 9, .int .u64 1, .int .i64 10, .int .u64 1, .int .i64 15, .int .u64 1, .int .i64 19, .int .u64 1] 93)).alloc (.cells #[.int .i64 1, .int .i64 2, .int .i64 1, .slice (some ⟨w.heap.size, 0, none⟩) (4 : Nat) 4] 26)) := hb1.alloc (by rw [World.size_alloc]; omega) _
  have hX : Blk ((w.alloc (.cells #[.int .i64 9, .int .u64 1, .int .i64 10, .int .u64 1, .int .i64 15, .int .u64 1, .int .i64 19, .int .u64 1] 93)).alloc (.cells #[.int .i64 1, .int .i64 2, .int .i64 1, .slice (some ⟨w.heap.size, 0, none⟩) (4 : Nat) 4] 26)) w.heap.size #[.int .i64 9, .int .u64 1, .int .i64 10, .int .u64 1, .int .i64 15, .int .u64 1, .int .i64 19, .int .u64 1] 93 := hX1.al _
  have hL := lay_some 1 2 1 (some ⟨w.heap.size, 0, none⟩) 4 4 292 waA waV ((w.alloc (.cells #[.int .i64 9, .int .u64 1, .int .i64 10, .int .u64 1, .int .i64 15, .int .u64 1, .int .i64 19, .int .u64 1] 93)).alloc (.cells #[.int .i64 1, .int .i64 2, .int .i64 1, .slice (some ⟨w.heap.size, 0, none⟩) (4 : Nat) 4] 26)) (by omega) ⟨⟨by omega⟩, by omega, by omega, by omega⟩ (by omega) (fun _ => ⟨w.heap.size, 0, rfl, hX.lt, fun j hj => by
    rcases (by omega : j = 0 ∨ j = 1 ∨ j = 2 ∨ j = 3) with rfl | rfl | rfl | rfl
    · exact ⟨hX.cell 0 rfl, hX.cell 1 rfl⟩
    · exact ⟨hX.cell 2 rfl, hX.cell 3 rfl⟩
    · exact ⟨hX.cell 4 rfl, hX.cell 5 rfl⟩
    · exact ⟨hX.cell 6 rfl, hX.cell 7 rfl⟩⟩) (fun i hi => ⟨by show (0 : Int) ≤ 1; omega, by show (1 : Int) ≤ 18446744073709551615; omega⟩)
  have HB0 : Hid (Below w.heap.size w ((w.alloc (.cells #[.int .i64 9, .int .u64 1, .int .i64 10, .int .u64 1, .int .i64 15, .int .u64 1, .int .i64 19, .int .u64 1] 93)).alloc (.cells #[.int .i64 1, .int .i64 2, .int .i64 1, .slice (some ⟨w.heap.size, 0, none⟩) (4 : Nat) 4] 26))) := hb2
  clear hX1 hb1 hb2 hX
  go_enter Tryz.func12, Tryz.ntmps12
  go_wp2_with fail
  generalize ((w.alloc (.cells #[.int .i64 9, .int .u64 1, .int .i64 10, .int .u64 1, .int .i64 15, .int .u64 1, .int .i64 19, .int .u64 1] 93)).alloc (.cells #[.int .i64 1, .int .i64 2, .int .i64 1, .slice (some ⟨w.heap.size, 0, none⟩) (4 : Nat) 4] 26)) = W at *
  go_at_call 11; refine hL.mono ?_; rintro e w1 ⟨cl, A, A', cap, cap', c, b, c', b', rfl, hLd⟩
  have hszW := HB0.out.size
  have HB1 : Hid (Below w.heap.size w w1) := HB0.out.trans (hLd.below.mono hszW)
  have HI1 : Hid (Is w1 128 A cap c b 292 waS0) := hLd.two.m
  have HY1 : Hid (Lay w1 cl 1 2 1) := hLd.lay
  have hne : Hid (cl ≠ c ∧ cl ≠ b) := lay_ne hLd.lay (by decide) hLd.two.m (by omega)
  have hup : Hid (w.heap.size ≤ c ∧ w.heap.size ≤ b) := ⟨by have := hLd.up.2.1; omega, by have := hLd.up.2.2.1; omega⟩
  have hLM : (wwCp 0 1 2 1 cl).Laws (wwPM 1 2 0) (Rd.lay cl 1 2 1) 0 := ww_laws (by omega) (by omega) (by omega)
  have hGM : ((wwCp 0 1 2 1 cl).I).Good waM := Cp.good hLM
  have HST : Hid (Steps waM ((wwCp 0 1 2 1 cl).I) (Rd.lay cl 1 2 1) 29 0) := Cp.steps hLM stepby_wwk
  have HRF : Hid (c ∉ ((Rd.lay cl 1 2 1)).B ∧ b ∉ ((Rd.lay cl 1 2 1)).B) := ⟨fun h => hne.out.1 (List.mem_singleton.1 h).symm, fun h => hne.out.2 (List.mem_singleton.1 h).symm⟩
  have hN := ww_new_at w1 cl 0 1 2 1
  clear hL hLd hne hszW HB0 hLM
  go_wp2_with fail
  go_at_call 24; refine hN.mono ?_; rintro e w2 ⟨x, L, rfl, ha1, ha2, ha3, -⟩
  have HSA : Hid (Solo ((wwCp 0 1 2 1 cl).I) (Rd.lay cl 1 2 1) w w2 A cap c b 292 (waM.steps 0 292 0 (.ld, waS0)).2 x (waM.steps 0 292 0 (.ld, waS0)).1 L) := Solo.begin HI1.out ha2 HB1.out hup.out ha1 ha3 HY1.out (fun k hk => by obtain rfl : k = cl := List.mem_singleton.1 hk; exact HY1.out.lt) HRF.out
  clear hN ha1 ha2 ha3 HI1 HY1 HB1
  go_wp2_with fail
  have HLO : Hid (∀ q : Nat, q ≤ 30 → Low (waM.steps 0 292 q (.ld, waS0)).2 1000000) := fun q hq => (PM.steps_low waM 0 292 q (.ld, waS0) (low_fresh _)).more (by omega)
  go_loopw [7] (fun k wi => ∃ (q : Nat) (L : List Nat), q ≤ 30 ∧ k = .int .i64 q ∧ Hid (Solo ((wwCp 0 1 2 1 cl).I) (Rd.lay cl 1 2 1) w wi A cap c b 292 (waM.steps 0 292 q (.ld, waS0)).2 x (waM.steps 0 292 q (.ld, waS0)).1 L)) (fun k _ => 30 - (intOf k).toNat)
  case atStart => exact ⟨0, _, by omega, rfl, HSA⟩
  case round =>
    clear HSA
    obtain ⟨q, L, hq, rfl, HS⟩ := hrel
    by_cases hq9 : q < 30
    · have hSt := HS.out.step hGM HST.out (fun Y h => h) (fun k hk => hk) (by omega) (HLO.out q hq)
      rw [show waM.goS 0 292 (waM.steps 0 292 q (.ld, waS0)).1 (waM.steps 0 292 q (.ld, waS0)).2 = (waM.steps 0 292 (q + 1) (.ld, waS0)).2 by rw [PM.steps_succ], show waM.goT 292 (waM.steps 0 292 q (.ld, waS0)).1 (waM.steps 0 292 q (.ld, waS0)).2 = (waM.steps 0 292 (q + 1) (.ld, waS0)).1 by rw [PM.steps_succ]] at hSt
      have hq1 : (q : Int) < 30 := by omega
      have hq0 : (0 : Int) ≤ (q : Int) := by omega
      clear HS
      go_wp2_with fail
      go_at_call 29; refine hSt.mono ?_; rintro e w4 ⟨rfl, L', hS'⟩
      have HS' : Hid _ := hS'
      clear hSt hS'
      go_wp2_with fail
      go_roundw
      case rel => exact ⟨q + 1, L', by omega, by go_num, HS'⟩
      case measure => simp [intOf]; omega
    · obtain rfl : q = 30 := by omega
      clear HLO
      rw [show ((30 : Nat) : Int) = 30 from rfl]
      have HI6 : Hid (Is wr 128 A cap c b 292 waS) := HS.out.mem
      have HMX : Hid (∀ Y, Below wr.heap.size wr Y → ((wwCp 0 1 2 1 cl).I) Y x waT L) := fun Y hY => hGM.below HS.out.mach hY
      have HLy : Hid (∀ Y, Below wr.heap.size wr Y → Lay Y cl 1 2 1) := fun Y hY => Lay.below HS.out.rd hY (Lay.lt HS.out.rd)
      have HBF : Hid (Below w.heap.size w wr) := HS.out.below
      have hT1 := lthr_any (some ⟨cl, 0, none⟩) 1 2 1 1 1 wr (.some cl (HLy.out wr (Below.refl _ _))) (by omega) (by omega)
      clear HS
      go_wp2_with fail
      go_at_call 35; refine hT1.mono ?_; rintro e w4 ⟨rfl, hb4⟩
      have HB4 : Hid (Below wr.heap.size wr w4) := hb4
      have hP1 := peek_any w4 A cap c b 292 waS (wd (20 + 1 * 264) 2 3 1 1) (HI6.out.below hb4) (by omega)
      have hT2 := lthr_any (some ⟨cl, 0, none⟩) 1 2 1 1 0 w4 (.some cl (HLy.out w4 hb4)) (by omega) (by omega)
      rw [wa_given] at hP1
      clear hT1 hb4
      go_wp2_with fail
      go_at_call 34; refine hP1.mono ?_; rintro e w5 ⟨rfl, rfl⟩
      clear hP1
      go_wp2_with fail
      go_at_call 35; refine hT2.mono ?_; rintro e w5 ⟨rfl, hb5⟩
      have HB5 : Hid (Below wr.heap.size wr w5) := seq HB4.out hb5
      have hP2 := peek_any w5 A cap c b 292 waS (wd (20 + 1 * 264) 2 3 1 0) (HI6.out.below HB5.out) (by omega)
      have hP3 := peek_any w5 A cap c b 292 waS 13 (HI6.out.below HB5.out) (by omega)
      rw [wa_note] at hP2
      rw [wa_spins] at hP3
      clear hT2 hb5 HB4
      go_wp2_with fail
      go_at_call 34; refine hP2.mono ?_; rintro e w6 ⟨rfl, rfl⟩
      clear hP2
      go_wp2_with fail
      go_at_call 34; refine hP3.mono ?_; rintro e w6 ⟨rfl, rfl⟩
      clear hP3
      have hWd := wk_word w5 2 true
      rw [wa_word] at hWd
      have hD : Calls Tryz.prog 26 #[.pointer (some ⟨x, 0, none⟩)] w5 fun e w' => e = .returned (.bool true) ∧ w5 = w' := by
        obtain ⟨nx, q1, q2⟩ := hGM.next (HMX.out w5 HB5.out)
        rw [wa_done] at q2
        rw [← q2]
        exact done_wwk w5 x nx q1
      have HFF : Hid (Below w.heap.size w w5) := seq HBF.out HB5.out
      clear HB5 HBF HMX HLy HI6
      go_wp2_with fail
      go_at_call 31; refine hWd.mono ?_; rintro e w7 ⟨rfl, rfl⟩
      clear hWd
      go_wp2_with fail
      go_at_call 26; refine hD.mono ?_; rintro e w7 ⟨rfl, rfl⟩
      clear hD
      go_wp2_with fail
      go_ret
      exact ⟨rfl, HFF.out⟩
end Go.Proofs.YthbgoakaijeemaaGreat

namespace Go.Proofs.YthbgoakaijeemaaGreat
open Go Go.ChangeShapes Go.WideShapes Go.ChangeAt Go.RowKit

theorem below_trodAll {H : Type} {enc : TypeId × Value → H} {P : Program} (hl : laidOutB P = true) {W W' : World} (hb : Below W.heap.size W W') :
    ∀ (ts : List TypeId) (vs : List Value) (ds : List (DataW H)) (ps : List MemPlace), (ts.all fun t => P.readableRec t && decide (t < P.types.size)) = true →
      DataW.TrodAll enc P W 0 (fun _ => true) true ts vs ds ps → DataW.TrodAll enc P W' 0 (fun b => decide (b < W.heap.size)) true ts vs ds ps := by
  intro ts
  induction ts with
  | nil =>
    intro vs ds ps _ h
    cases vs <;> cases ds <;> first | exact h | exact (h : False).elim
  | cons t ts ih =>
    intro vs ds ps hall h
    cases vs with
    | nil => exact (h : False).elim
    | cons v vs =>
      cases ds with
      | nil => exact (h : False).elim
      | cons d ds =>
        obtain ⟨p, q, h1, h2, rfl⟩ := h
        simp only [List.all_cons, Bool.and_eq_true, decide_eq_true_eq] at hall
        have lt : ∀ x ∈ p, x.block < W.heap.size := by obtain ⟨m, hm⟩ := h1; exact DataW.trod_lt m _ _ _ hm
        exact ⟨p, q, Below.trod hl hall.1.1 hall.1.2 h1 hb lt, ih vs ds q hall.2 h2, rfl⟩

theorem law_post {H : Type} {enc : TypeId × Value → H} {P : Program} {f : Func} {s : ChangeSpec} {apart : Bool} {W W' : World} {args : Array Value} {ds gs : List (DataW H)} {before : List MemPlace} {bt : TypeId}
    (hl : laidOutB P = true) (hr : f.resultTypes.toList = [bt]) (hbt : P.underlying bt = some .bool) (hts : (f.params.toList.all fun t => P.readableRec t && decide (t < P.types.size)) = true)
    (hvars : s.vars = []) (hres : (s.fn H ds).results = [.lit (.bool true)]) (harg : (s.fn H ds).args = ds) (hvs : (s.fn H ds).vars = [])
    (hW : DataW.Whole enc P f.params.toList s.vars apart W args.toList ds gs before) (hb : Below W.heap.size W W') :
    s.post enc P f apart true false false W args (.bool true) W' := by
  have hW' := hW
  obtain ⟨p, q, hA, hV, rfl, hfz, hnd⟩ := hW
  have hg : gs = [] ∧ q = [] := by rw [hvars] at hV; exact trodVars_none hV
  obtain ⟨rfl, rfl⟩ := hg
  refine ⟨ds, [], _, [], p, [], hW', ?_, ?_, ?_, hb.frame _, fun h => by cases h⟩
  · have e : (Value.bool true).resultList f.resultTypes.size = [.bool true] := by
      have hs : f.resultTypes.size = 1 := by rw [← Array.length_toList, hr]; rfl
      rw [hs]; rfl
    rw [List.append_nil, hres, hr, e]
    exact trodAll_mk1 (shut_bool hbt _)
  · rw [List.append_nil, harg]
    exact below_trodAll hl hb _ _ _ _ hts hA
  · rw [List.append_nil, hvs, hvars]
    rfl
end Go.Proofs.YthbgoakaijeemaaGreat

namespace Go.Proofs.YthbgoakaijeemaaGreat
open Go Go.ChangeShapes Go.WideShapes Go.ChangeAt Go.RowKit Go.Joins Go.Deep
set_option linter.unusedVariables false
set_option maxRecDepth 100000
set_option linter.unusedSimpArgs false
section
variable {H : Type} {enc : TypeId × Value → H} {P : Program} {W : World} {base b0 : Nat} {t : TypeId} {v : Value} {d : DataW H} {p : List MemPlace}
theorem open_how4 {f0 f1 f2 f3 : Field} (hs : P.underlying t = some (.struct #[f0, f1, f2, f3])) (hone : oneCellFields P #[f0, f1, f2, f3] = true) (hC : P.cellsOf t = 4) (u0 : P.underlying f0.type = some (.int .i64)) (u1 : P.underlying f1.type = some (.int .i64)) (u2 : P.underlying f2.type = some .bool) (u3 : P.underlying f3.type = some .bool)
    (hv : Value.okWide P W .any b0 t v) (h : DataW.Trod enc P W base (fun _ => true) true t v d p) :
    ∃ (a b : Int) (c c2 : Bool), v = .agg #[.int .i64 a, .int .i64 b, .bool c, .bool c2] ∧ (-9223372036854775808 ≤ a ∧ a ≤ 9223372036854775807) ∧ (-9223372036854775808 ≤ b ∧ b ≤ 9223372036854775807) := by
  obtain ⟨v0, v1, v2, v3, y0, y1, y2, y3, n, rfl, _, _, h0, h1, h2, h3⟩ := open_agg4 hs hone hC hv h
  obtain ⟨a, e0, _, wa⟩ := DataW.trod_int u0 h0
  obtain ⟨b, e1, _, wb⟩ := DataW.trod_int u1 h1
  obtain ⟨c, e2, _⟩ := DataW.trod_bool u2 h2
  obtain ⟨c2, e3, _⟩ := DataW.trod_bool u3 h3
  simp at e0 e1 e2 e3
  exact ⟨a, b, c, c2, by rw [e0, e1, e2, e3], bounds_i64 wa, bounds_i64 wb⟩
end
end Go.Proofs.YthbgoakaijeemaaGreat
