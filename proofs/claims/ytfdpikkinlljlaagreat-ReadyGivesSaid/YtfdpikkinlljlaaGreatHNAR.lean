/- The document's routine that wakes some thread keeps step with any machine that has it within it. -/
import Derived.Test.YtfdpikkinlljlaaGreatHNAH
import Derived.Test.YtfdpikkinlljlaaGreatHNAC
import Derived.Test.YtfdpikkinlljlaaGreatHNAN
namespace Go.Proofs.YtfdpikkinlljlaaGreat
open Go Go.RowKit
set_option linter.unusedVariables false
set_option maxRecDepth 100000
set_option linter.unusedSimpArgs false

/-- A machine that wakes some thread within it. -/
structure WwIn {σ : Type} (M : PM σ) (P T who : Int) (emb : WwT → σ) : Prop where
  ax : ∀ t a, (wwPM P T who).ax t = some a → M.ax (emb t) = some a
  nx : ∀ t a v, (wwPM P T who).ax t = some a → M.nx (emb t) v = emb ((wwPM P T who).nx t v)
/-- Where it stopped, and what it answered. -/
def WwQ {σ : Type} (Q : σ → Prop) (emb : WwT → σ) (P T who : Int) (p' : Int) (c' : Bool) (q : σ) : Prop := (Q q ∧ p' = -1 ∧ c' = false) ∨ ∃ s a, (wwPM P T who).ax s = some a ∧ q = emb s ∧ p' = s.holds ∧ c' = s.counts
section
variable {σ : Type} {M : PM σ} {P T who : Int} {emb : WwT → σ}
def wwA (emb : WwT → σ) : AcqT → σ
  | .over _ => emb (.get .ld)
  | a => emb (.acq a)
theorem ww_acqIn (hE : WwIn M P T who emb) : AcqIn M 0 who (wwA emb) := by
  refine ⟨hE.ax (.acq .fresh) _ rfl, fun t => hE.ax (.acq (.wait t)) _ rfl, fun t => hE.ax (.acq (.has t)) _ rfl, fun v => hE.nx (.acq .fresh) _ v rfl, ?_, fun t v => hE.nx (.acq (.has t)) _ v rfl⟩
  intro t v
  refine (hE.nx (.acq (.wait t)) _ v rfl).trans ?_
  by_cases h : v = t
  · subst h
    have e : (acqPM (wd 0 2 3 0 0) (wd 0 2 3 0 1) (wd 0 2 3 0 2) who).nx (.wait v) v = .has v := if_pos rfl
    show emb (if ((acqPM (wd 0 2 3 0 0) (wd 0 2 3 0 1) (wd 0 2 3 0 2) who).ax ((acqPM (wd 0 2 3 0 0) (wd 0 2 3 0 1) (wd 0 2 3 0 2) who).nx (.wait v) v)).isSome = true then .acq ((acqPM (wd 0 2 3 0 0) (wd 0 2 3 0 1) (wd 0 2 3 0 2) who).nx (.wait v) v) else .get .ld) = _
    rw [e, if_pos rfl]
    rfl
  · have e : (acqPM (wd 0 2 3 0 0) (wd 0 2 3 0 1) (wd 0 2 3 0 2) who).nx (.wait t) v = .wait t := if_neg h
    show emb (if ((acqPM (wd 0 2 3 0 0) (wd 0 2 3 0 1) (wd 0 2 3 0 2) who).ax ((acqPM (wd 0 2 3 0 0) (wd 0 2 3 0 1) (wd 0 2 3 0 2) who).nx (.wait t) v)).isSome = true then .acq ((acqPM (wd 0 2 3 0 0) (wd 0 2 3 0 1) (wd 0 2 3 0 2) who).nx (.wait t) v) else .get .ld) = _
    rw [e, if_neg h]
    rfl
theorem ig_live_ax {q : IgT} : ((igPM P).ax q).isSome = q.live := by cases q <;> rfl
def wwG (emb : WwT → σ) (q : IgT) : σ := if q.live = true then emb (.get q) else if q.obs = -1 then emb (.need q) else emb (.run q (.get .ld))
theorem ww_igIn (hE : WwIn M P T who emb) : IgIn M P (wwG emb) := by
  have key : ∀ q a v, (igPM P).ax q = some a → M.nx (wwG emb q) v = wwG emb ((igPM P).nx q v) := fun q a v h => by
    have hl : q.live = true := by rw [← ig_live_ax (P := P), h]; rfl
    have e1 : wwG emb q = emb (.get q) := if_pos hl
    rw [e1, hE.nx (.get q) a v h]
    show emb (if ((igPM P).ax ((igPM P).nx q v)).isSome = true then .get ((igPM P).nx q v) else if ((igPM P).nx q v).obs = -1 then .need ((igPM P).nx q v) else .run ((igPM P).nx q v) (.get .ld)) = wwG emb ((igPM P).nx q v)
    unfold wwG
    rw [ig_live_ax]
    split
    · rfl
    · split <;> rfl
  exact ⟨hE.ax (.get .ld) _ rfl, fun y => hE.ax (.get (.lk y)) _ rfl, fun y l => hE.ax (.get (.ms y l)) _ rfl, fun y l w => hE.ax (.get (.um y l w)) _ rfl, fun y l => hE.ax (.get (.un y l)) _ rfl, fun y l => hE.ax (.get (.ct y l)) _ rfl,
    fun v => (key .ld _ v rfl).trans (by show wwG emb (if v = 0 then .none' else .lk (gw v)) = _; split <;> rfl), fun y v => key (.lk y) _ v rfl, fun y l v => key (.ms y l) _ v rfl, fun y l w v => key (.um y l w) _ v rfl, fun y l v => key (.un y l) _ v rfl, fun y l v => key (.ct y l) _ v rfl⟩
def wwS (emb : WwT → σ) (q : IgT) (t : WsT) : σ := emb (.run q t)
theorem ww_wsIn (hE : WwIn M P T who emb) (q : IgT) : WsIn M P T q.obs true false (wwS emb q) := ⟨fun t a h => hE.ax (.run q t) a h, fun t a v h => hE.nx (.run q t) a v h⟩
def wwR (emb : WwT → σ) (q : IgT) (r : RelT) : σ := emb (.rel q r)
theorem ww_relIn (hE : WwIn M P T who emb) (q : IgT) : RelIn M 0 (wwR emb q) :=
  ⟨hE.ax (.rel q .fresh) _ rfl, hE.ax (.rel q .pass) _ rfl, fun v => hE.nx (.rel q .fresh) _ v rfl, fun v => hE.nx (.rel q .pass) _ v rfl⟩
end
/-- What the document's Wake answers. -/
def WwGot {σ : Type} (M : PM σ) (emb : WwT → σ) (P T who : Int) (w : World) (x : Nat) (A : Option Addr) (cap m : Nat) (g : Nat → Int) (s0 : σ) (Q : σ → Prop) (j : Nat) (e : Ending) (w' : World) : Prop :=
  ∃ p' t' c' j' s, e = .returned (.agg #[.int .i64 p', .int .i64 t', .bool c']) ∧ RunOn w' x A cap m g (M.rj s0 g m j') ∧ Syn M s0 g m j' (emb s) (WwQ Q emb P T who p' c') ∧ (wwPM P T who).ax s = none ∧ (j' ≤ m → p' = s.holds ∧ c' = s.counts) ∧ But [x] w w' ∧ j ≤ j'
set_option maxHeartbeats 8000000 in
theorem syn_wwake {σ : Type} {M : PM σ} {P T G who : Int} {emb : WwT → σ} (hE : WwIn M P T who emb) (hp : 0 ≤ P ∧ P ≤ 64) (hT : 0 ≤ T ∧ T ≤ 65536) (hw : 0 ≤ who ∧ who ≤ 300)
    {w : World} {x : Nat} {A : Option Addr} {cap m : Nat} {g : Nat → Int} {s0 : σ} {j : Nat} {Q : σ → Prop} (hR : RunOn w x A cap m g (M.rj s0 g m j)) (hS : Syn M s0 g m j (emb .ld) Q) (hb : ∀ j, j < m → 0 ≤ g j ∧ g j ≤ 18446744073709551615) (hsw : ∀ j, j < m → ∀ a, M.ax (M.run s0 g j) = some a → a.k = 3 → g j ≤ 1) :
    Calls Tryz.prog 79 #[.pointer (some ⟨x, 0, none⟩), .agg #[.int .i64 P, .int .i64 T, .int .i64 G] , .int .i64 who] w fun e w' => WwGot M emb P T who w x A cap m g s0 Q j e w' := by
  have hxw := hR.blk.lt
  have HH : Hid (HdAt w (((w.alloc (.cells #[.int .i64 P, .int .i64 T, .int .i64 G] 23)).alloc (.cells #[.int .i64 0, .int .i64 0, .bool false] 51)).alloc (.cells #[.int .i64 (-1), .int .i64 (-1), .bool false] 51)) x A cap m g M s0 j j (emb .ld) (Q) #[.int .i64 P, .int .i64 T, .int .i64 G] 51 #[.int .i64 0, .int .i64 0, .bool false] (w.heap.size + 1 + 1) #[.int .i64 (-1), .int .i64 (-1), .bool false]) := by
    have b1 : Below w.heap.size w (w.alloc (.cells #[.int .i64 P, .int .i64 T, .int .i64 G] 23)) := (Below.refl _ _).alloc (Nat.le_refl _) _
    have b2 : Below w.heap.size w ((w.alloc (.cells #[.int .i64 P, .int .i64 T, .int .i64 G] 23)).alloc (.cells #[.int .i64 0, .int .i64 0, .bool false] 51)) := b1.alloc (by rw [World.size_alloc]; omega) _
    have b3 : Below w.heap.size w (((w.alloc (.cells #[.int .i64 P, .int .i64 T, .int .i64 G] 23)).alloc (.cells #[.int .i64 0, .int .i64 0, .bool false] 51)).alloc (.cells #[.int .i64 (-1), .int .i64 (-1), .bool false] 51)) := b2.alloc (by rw [World.size_alloc, World.size_alloc]; omega) _
    have c1 := Blk.new w #[.int .i64 P, .int .i64 T, .int .i64 G] 23
    have c2 := Blk.new (w.alloc (.cells #[.int .i64 P, .int .i64 T, .int .i64 G] 23)) #[.int .i64 0, .int .i64 0, .bool false] 51
    have c3 := Blk.new ((w.alloc (.cells #[.int .i64 P, .int .i64 T, .int .i64 G] 23)).alloc (.cells #[.int .i64 0, .int .i64 0, .bool false] 51)) #[.int .i64 (-1), .int .i64 (-1), .bool false] 51
    rw [World.size_alloc] at c2
    rw [World.size_alloc, World.size_alloc] at c3
    refine ⟨hR.below b3, hS, But.of_below b3, (c1.al _).al _, c2.al _, c3, by omega, hxw, fun b e hm => ?_, Nat.le_refl _⟩
    simp at hm
    rcases hR.got.form with ⟨e0, _⟩ | ⟨gb, e0, hl⟩
    · rw [e0] at e; cases e
    · rw [e0] at e; cases e; omega
  have HE : Hid (WwIn M P T who emb) := hE
  have HBD : Hid (∀ j, j < m → 0 ≤ g j ∧ g j ≤ 18446744073709551615) := hb
  have HSW : Hid (∀ j, j < m → ∀ a, M.ax (M.run s0 g j) = some a → a.k = 3 → g j ≤ 1) := hsw
  have HP : Hid ((0 ≤ P ∧ P ≤ 64) ∧ (0 ≤ T ∧ T ≤ 65536) ∧ (0 ≤ who ∧ who ≤ 300)) := ⟨hp, hT, hw⟩
  have hL := syn_load HH.out.run HH.out.syn hb 13 (fun _ => hE.ax .ld _ rfl)
  clear hR hS hb hp hT hw hE hsw
  go_enter Tryz.func79, Tryz.ntmps79
  go_wp2_with fail
  generalize (((w.alloc (.cells #[.int .i64 P, .int .i64 T, .int .i64 G] 23)).alloc (.cells #[.int .i64 0, .int .i64 0, .bool false] 51)).alloc (.cells #[.int .i64 (-1), .int .i64 (-1), .bool false] 51)) = W at *
  generalize w.heap.size + 1 + 1 = o at *
  go_at_call 75; refine hL.mono ?_; rintro e y1 ⟨v, rfl, hK⟩
  have HH1 : Hid (HdAt w y1 x A cap m g M s0 j (j + 1) (emb (if v = 0 then .sw else .no)) (fun q => Q q ∨ q = emb .ld) #[.int .i64 P, .int .i64 T, .int .i64 G] 51 #[.int .i64 0, .int .i64 0, .bool false] o #[.int .i64 (-1), .int .i64 (-1), .bool false]) := by
    have h := HH.out.step hK
    rw [HE.out.nx .ld _ _ rfl] at h
    exact h.as (h.syn.weak (fun q h => h.symm))
  have HK : Hid (m ≤ j → v = 0) := hK.zero
  clear hL hK HH
  by_cases hv : v = 0
  · subst hv
    have sc := HH1.out.stop
    by_cases hst : m < j + 1
    · rw [decide_eq_true hst] at sc
      have HST : Hid (m < j + 1) := hst
      have HH : Hid (HdAt w y1 x A cap m g M s0 j (j + 1) (emb .no) (WwQ Q emb P T who (-1) false) #[.int .i64 P, .int .i64 T, .int .i64 G] 51 #[.int .i64 0, .int .i64 0, .bool false] o #[.int .i64 (-1), .int .i64 (-1), .bool false]) := HH1.out.as ⟨fun h => absurd h (by omega), fun h => ⟨by
        rcases (HH1.out.syn.past h).1 with h1 | h1
        · exact .inl ⟨h1, rfl, rfl⟩
        · exact .inr ⟨.ld, _, rfl, h1, rfl, rfl⟩, (HH1.out.syn.past h).2⟩⟩
      clear hst HH1 HK
      have o0 := HH.out.out.cell 0 (v := .int .i64 (-1)) rfl
      have o1 := HH.out.out.cell 1 (v := .int .i64 (-1)) rfl
      have o2 := HH.out.out.cell 2 (v := .bool false) rfl
      have r0 := HH.out.res.cell 0 (v := .int .i64 0) rfl
      have r1 := HH.out.res.cell 1 (v := .int .i64 0) rfl
      have r2 := HH.out.res.cell 2 (v := .bool false) rfl
      have f0 := HH.out.res.fro 0
      have f1 := HH.out.res.fro 1
      have f2 := HH.out.res.fro 2
      have HN : Hid _ := HH.out.ret (a := .int .i64 (-1)) (b := .int .i64 (-1)) (c := .bool false) rfl
      go_wp2_with fail
      generalize ((y1.setCell ⟨w.heap.size + 1, 0, none⟩ (.int .i64 (-1))).setCell ⟨w.heap.size + 1, 1, none⟩ (.int .i64 (-1))).setCell ⟨w.heap.size + 1, 2, none⟩ (.bool false) = yz at *
      have hfr := HN.out.2.2
      refine bodyPost_ret (v := .agg #[.int .i64 (-1), .int .i64 (-1), .bool false]) (results_cell_row rfl _ _ (w.heap.size + 1) 51 #[.int .i64 (-1), .int .i64 (-1), .bool false] _ _ rfl hfr Tryz.underlying51 rfl (by kernel_rfl)) rfl ?_
      exact ⟨-1, -1, false, j + 1, .no, rfl, HN.out.1, HH.out.syn, rfl, fun _ => ⟨rfl, rfl⟩, HN.out.2.1, HH.out.le⟩
    · rw [decide_eq_false hst] at sc
      have HST : Hid (j + 1 ≤ m) := (by omega : j + 1 ≤ m)
      have HH2 : Hid (HdAt w y1 x A cap m g M s0 j (j + 1) (emb .sw) (fun _ => False) #[.int .i64 P, .int .i64 T, .int .i64 G] 51 #[.int .i64 0, .int .i64 0, .bool false] o #[.int .i64 (-1), .int .i64 (-1), .bool false]) := HH1.out.as ⟨HH1.out.syn.at', fun h => absurd h (by omega)⟩
      have hA := syn_swap HH2.out.run HH2.out.syn HBD.out 13 0 1 (fun _ => HE.out.ax .sw _ rfl)
      have HAX : Hid (M.ax (emb .sw) = some (axSw 13 0 1)) := HE.out.ax .sw _ rfl
      clear hst HH1 HK
      go_wp2_with fail
      go_at_call 77; refine hA.mono ?_; rintro e y2 ⟨v2, rfl, hK⟩
      have HONE : Hid (j + 1 < m → v2 ≤ 1) := fun h => by
        rw [hK.val h]
        exact HSW.out (j + 1) h _ (by rw [HH2.out.syn.at' (by omega)]; exact HAX.out) rfl
      have HZ : Hid (m ≤ j + 1 → v2 = 0) := hK.zero
      have HV : Hid (0 ≤ v2) := hK.bd.1
      have HH3 : Hid (HdAt w y2 x A cap m g M s0 j (j + 1 + 1) (emb (if v2 = 0 then .no else .acq .fresh)) (fun q => q = emb .sw) #[.int .i64 P, .int .i64 T, .int .i64 G] 51 #[.int .i64 0, .int .i64 0, .bool false] o #[.int .i64 (-1), .int .i64 (-1), .bool false]) := by
        have h := HH2.out.step hK
        rw [HE.out.nx .sw _ _ rfl] at h
        exact h.as (h.syn.weak (fun q h => h.elim id (fun h => h.elim)))
      clear hA hK HH2 HAX
      by_cases h1 : v2 = 1
      · have hd : decide (v2 = 1) = true := decide_eq_true h1
        have HH4 : Hid (HdAt w (y2.setCell ⟨o, 2, none⟩ (.bool true)) x A cap m g M s0 j (j + 1 + 1) (wwA emb .fresh) (fun _ => False) #[.int .i64 P, .int .i64 T, .int .i64 G] 51 #[.int .i64 0, .int .i64 0, .bool false] o #[.int .i64 (-1), .int .i64 (-1), .bool true]) := (HH3.out.as (t2 := emb (.acq .fresh)) ⟨fun h => (HH3.out.syn.at' h).trans (by rw [if_neg (by omega)]), fun h => absurd (HZ.out (by omega)) (by omega)⟩).set 2 (.bool true)
        have hAc := syn_acquire (ww_acqIn HE.out) (by omega) HP.out.2.2 HH4.out.run HH4.out.syn HBD.out
        have o2 := HH3.out.out.cell 2 (v := .bool false) rfl
        have f2 := HH3.out.out.fro 2
        subst h1
        clear HH3 HONE HZ HV sc HST
        go_wp2_with fail
        clear o2 f2
        generalize y2.setCell ⟨o, 2, none⟩ (.bool true) = V at *
        go_at_call 93; refine hAc.mono ?_; rintro e y3 ⟨⟨u, rfl⟩, j3, tt, hR3, hS3, hB3, hj3⟩
        have HH5 : Hid (HdAt w y3 x A cap m g M s0 j j3 (emb (.get .ld)) (WwQ Q emb P T who (-1) true) #[.int .i64 P, .int .i64 T, .int .i64 G] 51 #[.int .i64 0, .int .i64 0, .bool false] o #[.int .i64 (-1), .int .i64 (-1), .bool true]) := HH4.out.go hR3 (hS3.weak (fun q' h => by
          rcases h with h | ⟨p', hp', h⟩
          · exact h.elim
          · have hb : wwA emb p' = emb (.acq p') := by cases p' <;> first | rfl | exact absurd rfl (hp' _)
            obtain ⟨a, ha⟩ : ∃ a, (wwPM P T who).ax (.acq p') = some a := by cases p' <;> first | exact ⟨_, rfl⟩ | exact absurd rfl (hp' _)
            exact .inr ⟨.acq p', a, ha, h.trans hb, rfl, rfl⟩)) hB3 hj3
        clear hAc hR3 hS3 hB3 hj3 HH4
        have sc := HH5.out.stop
        by_cases hst : m < j3
        · rw [decide_eq_true hst] at sc
          have HST : Hid (m < j3) := hst
          have HH : Hid (HdAt w y3 x A cap m g M s0 j j3 (emb (.get .ld)) (WwQ Q emb P T who (-1) true) #[.int .i64 P, .int .i64 T, .int .i64 G] 51 #[.int .i64 0, .int .i64 0, .bool false] o #[.int .i64 (-1), .int .i64 (-1), .bool true]) := HH5.out
          clear hst HH5
          have o0 := HH.out.out.cell 0 (v := .int .i64 (-1)) rfl
          have o1 := HH.out.out.cell 1 (v := .int .i64 (-1)) rfl
          have o2 := HH.out.out.cell 2 (v := .bool true) rfl
          have r0 := HH.out.res.cell 0 (v := .int .i64 0) rfl
          have r1 := HH.out.res.cell 1 (v := .int .i64 0) rfl
          have r2 := HH.out.res.cell 2 (v := .bool false) rfl
          have f0 := HH.out.res.fro 0
          have f1 := HH.out.res.fro 1
          have f2 := HH.out.res.fro 2
          have HN : Hid _ := HH.out.ret (a := .int .i64 (-1)) (b := .int .i64 (-1)) (c := .bool true) rfl
          go_wp2_with fail
          generalize ((y3.setCell ⟨w.heap.size + 1, 0, none⟩ (.int .i64 (-1))).setCell ⟨w.heap.size + 1, 1, none⟩ (.int .i64 (-1))).setCell ⟨w.heap.size + 1, 2, none⟩ (.bool true) = yz at *
          have hfr := HN.out.2.2
          refine bodyPost_ret (v := .agg #[.int .i64 (-1), .int .i64 (-1), .bool true]) (results_cell_row rfl _ _ (w.heap.size + 1) 51 #[.int .i64 (-1), .int .i64 (-1), .bool true] _ _ rfl hfr Tryz.underlying51 rfl (by kernel_rfl)) rfl ?_
          exact ⟨-1, -1, true, j3, .no, rfl, HN.out.1, ⟨fun h => absurd h (by have := HST.out; omega), HH.out.syn.past⟩, rfl, fun h => absurd h (by have := HST.out; omega), HN.out.2.1, HH.out.le⟩
        · rw [decide_eq_false hst] at sc
          have HST : Hid (j3 ≤ m) := (by omega : j3 ≤ m)
          have HH6 : Hid (HdAt w y3 x A cap m g M s0 j j3 (wwG emb .ld) (fun _ => False) #[.int .i64 P, .int .i64 T, .int .i64 G] 51 #[.int .i64 0, .int .i64 0, .bool false] o #[.int .i64 (-1), .int .i64 (-1), .bool true]) := HH5.out.as ⟨HH5.out.syn.at', fun h => absurd h (by omega)⟩
          have hG := syn_iget (T := T) (G := G) (ww_igIn HE.out) HP.out.1 HH6.out.run HH6.out.syn HBD.out
          have k0 := HH6.out.cfg.cell 0 (v := .int .i64 P) rfl
          have k1 := HH6.out.cfg.cell 1 (v := .int .i64 T) rfl
          have k2 := HH6.out.cfg.cell 2 (v := .int .i64 G) rfl
          clear hst HH5
          go_wp2_with fail
          go_at_call 135; refine hG.mono ?_; rintro e y4 ⟨r, j4, q, rfl, hR4, hS4, hq, hr, hB4, hj4⟩
          have HQ : Hid (IgT.live q = false ∧ (j4 ≤ m → r = q.obs)) := ⟨hq, hr⟩
          have HH7 : Hid (HdAt w y4 x A cap m g M s0 j j4 (wwG emb q) (IgQ (fun _ => False) (wwG emb) r) #[.int .i64 P, .int .i64 T, .int .i64 G] 51 #[.int .i64 0, .int .i64 0, .bool false] o #[.int .i64 (-1), .int .i64 (-1), .bool true]) := HH6.out.go hR4 hS4 hB4 hj4
          have HH8 : Hid (HdAt w (y4.setCell ⟨o, 0, none⟩ (.int .i64 r)) x A cap m g M s0 j j4 (wwG emb q) (IgQ (fun _ => False) (wwG emb) r) #[.int .i64 P, .int .i64 T, .int .i64 G] 51 #[.int .i64 0, .int .i64 0, .bool false] o #[.int .i64 r, .int .i64 (-1), .bool true]) := HH7.out.set 0 (.int .i64 r)
          have oo0 := HH7.out.out.cell 0 (v := .int .i64 (-1)) rfl
          have ff0 := HH7.out.out.fro 0
          have sc7 := HH8.out.stop
          have hne : o ≠ x := by have := HH7.out.x; have := HH7.out.lo; omega
          have hne1 : o ≠ w.heap.size + 1 := by have := HH7.out.lo; omega
          have hne2 : o ≠ w.heap.size := by have := HH7.out.lo; omega
          clear hG hR4 hS4 hq hr hB4 hj4 HH6 k0 k1 k2 HST sc
          by_cases hst : m < j4
          · rw [decide_eq_true hst] at sc7
            have HST : Hid (m < j4) := hst
            have HH : Hid (HdAt w (y4.setCell ⟨o, 0, none⟩ (.int .i64 r)) x A cap m g M s0 j j4 (emb (.get .ld)) (WwQ Q emb P T who r true) #[.int .i64 P, .int .i64 T, .int .i64 G] 51 #[.int .i64 0, .int .i64 0, .bool false] o #[.int .i64 r, .int .i64 (-1), .bool true]) := HH8.out.as ⟨fun h => absurd h (by omega), fun h => ⟨by
              rcases (HH8.out.syn.past h).1 with ⟨h1, -⟩ | ⟨p', hl, h1, h2⟩
              · exact h1.elim
              · obtain ⟨a, ha⟩ := Option.isSome_iff_exists.1 ((ig_live_ax (P := P) (q := p')).trans hl)
                exact .inr ⟨.get p', a, ha, h1.trans (if_pos hl), h2, rfl⟩, (HH8.out.syn.past h).2⟩⟩
            have g0 := HH7.out.res.fro 0
            have g1 := HH7.out.res.fro 1
            have g2 := HH7.out.res.fro 2
            have s0' := HH7.out.res.cell 0 (v := .int .i64 0) rfl
            have s1' := HH7.out.res.cell 1 (v := .int .i64 0) rfl
            have s2' := HH7.out.res.cell 2 (v := .bool false) rfl
            have t1' := HH7.out.out.cell 1 (v := .int .i64 (-1)) rfl
            have t2' := HH7.out.out.cell 2 (v := .bool true) rfl
            clear hst HH7 HH8
            have o0 := HH.out.out.cell 0 (v := .int .i64 r) rfl
            have o1 := HH.out.out.cell 1 (v := .int .i64 (-1)) rfl
            have o2 := HH.out.out.cell 2 (v := .bool true) rfl
            have r0 := HH.out.res.cell 0 (v := .int .i64 0) rfl
            have r1 := HH.out.res.cell 1 (v := .int .i64 0) rfl
            have r2 := HH.out.res.cell 2 (v := .bool false) rfl
            have f0 := HH.out.res.fro 0
            have f1 := HH.out.res.fro 1
            have f2 := HH.out.res.fro 2
            have HN : Hid _ := HH.out.ret (a := .int .i64 r) (b := .int .i64 (-1)) (c := .bool true) rfl
            go_wp2_with fail
            generalize (((y4.setCell ⟨o, 0, none⟩ (.int .i64 r)).setCell ⟨w.heap.size + 1, 0, none⟩ (.int .i64 r)).setCell ⟨w.heap.size + 1, 1, none⟩ (.int .i64 (-1))).setCell ⟨w.heap.size + 1, 2, none⟩ (.bool true) = yz at *
            have hfr := HN.out.2.2
            refine bodyPost_ret (v := .agg #[.int .i64 r, .int .i64 (-1), .bool true]) (results_cell_row rfl _ _ (w.heap.size + 1) 51 #[.int .i64 r, .int .i64 (-1), .bool true] _ _ rfl hfr Tryz.underlying51 rfl (by kernel_rfl)) rfl ?_
            exact ⟨r, -1, true, j4, .no, rfl, HN.out.1, ⟨fun h => absurd h (by have := HST.out; omega), HH.out.syn.past⟩, rfl, fun h => absurd h (by have := HST.out; omega), HN.out.2.1, HH.out.le⟩
          · rw [decide_eq_false hst] at sc7
            have HST : Hid (j4 ≤ m) := (by omega : j4 ≤ m)
            have HRQ : Hid (r = q.obs) := HQ.out.2 HST.out
            have k0 := HH8.out.cfg.cell 0 (v := .int .i64 P) rfl
            have k1 := HH8.out.cfg.cell 1 (v := .int .i64 T) rfl
            have k2 := HH8.out.cfg.cell 2 (v := .int .i64 G) rfl
            have p0 := HH8.out.out.cell 0 (v := .int .i64 r) rfl
            by_cases hr1 : r = -1
            · have hd1 : (r == -1) = true := by simpa using hr1
              have HR1 : Hid (r = -1) := hr1
              have HH9 : Hid (HdAt w (y4.setCell ⟨o, 0, none⟩ (.int .i64 r)) x A cap m g M s0 j j4 (emb (.need q)) (fun _ => False) #[.int .i64 P, .int .i64 T, .int .i64 G] 51 #[.int .i64 0, .int .i64 0, .bool false] o #[.int .i64 r, .int .i64 (-1), .bool true]) := HH8.out.as ⟨fun h => (HH8.out.syn.at' h).trans ((if_neg (by rw [HQ.out.1]; decide)).trans (if_pos (HRQ.out.symm.trans hr1))), fun h => absurd h (by omega)⟩
              have hA := syn_store HH9.out.run HH9.out.syn HBD.out 14 1 (fun _ => HE.out.ax (.need q) _ rfl)
              clear hst HH8 HH7 hr1
              go_wp2_with fail
              clear oo0 ff0 sc7 k0 k1 k2 p0
              generalize y4.setCell ⟨o, 0, none⟩ (.int .i64 r) = V8 at *
              go_at_call 92; refine hA.mono ?_; rintro e y5 ⟨⟨u5, rfl⟩, v5, hK⟩
              have HH10 : Hid (HdAt w y5 x A cap m g M s0 j (j4 + 1) (emb (.cnt q)) (fun q' => q' = emb (.need q)) #[.int .i64 P, .int .i64 T, .int .i64 G] 51 #[.int .i64 0, .int .i64 0, .bool false] o #[.int .i64 r, .int .i64 (-1), .bool true]) := by
                have h := HH9.out.step hK
                rw [HE.out.nx (.need q) _ _ rfl] at h
                exact h.as (h.syn.weak (fun q' h' => h'.elim id (fun h => h.elim)))
              have hA2 := syn_add HH10.out.run HH10.out.syn HBD.out 13 4294967295 (fun _ => HE.out.ax (.cnt q) _ rfl)
              clear hA hK HH9 HST
              go_wp2_with fail
              go_at_call 137; refine hA2.mono ?_; rintro e y6 ⟨v6, rfl, hK⟩
              have HH11 : Hid (HdAt w y6 x A cap m g M s0 j (j4 + 1 + 1) (emb (.rel q .fresh)) (WwQ Q emb P T who r true) #[.int .i64 P, .int .i64 T, .int .i64 G] 51 #[.int .i64 0, .int .i64 0, .bool false] o #[.int .i64 r, .int .i64 (-1), .bool true]) := by
                have h := HH10.out.step hK
                rw [HE.out.nx (.cnt q) _ _ rfl] at h
                exact h.as (h.syn.weak (fun q' h' => by
                  rcases h' with h' | h'
                  · exact .inr ⟨.cnt q, _, rfl, h', HRQ.out, rfl⟩
                  · exact .inr ⟨.need q, _, rfl, h', HRQ.out, rfl⟩))
              clear hA2 hK HH10
              have sc := HH11.out.stop
              have oo2 := HH11.out.out.cell 2 (v := .bool true) rfl
              have ff2 := HH11.out.out.fro 2
              by_cases hst : m < j4 + 1 + 1
              · rw [decide_eq_true hst] at sc
                have HST : Hid (m < j4 + 1 + 1) := hst
                have HH12 : Hid (HdAt w (y6.setCell ⟨o, 2, none⟩ (.bool true)) x A cap m g M s0 j (j4 + 1 + 1) (wwR emb q .fresh) (WwQ Q emb P T who r true) #[.int .i64 P, .int .i64 T, .int .i64 G] 51 #[.int .i64 0, .int .i64 0, .bool false] o #[.int .i64 r, .int .i64 (-1), .bool true]) := HH11.out.set 2 (.bool true)
                have hRl := syn_release (ww_relIn HE.out q) (by omega) HH12.out.run HH12.out.syn HBD.out
                clear hst
                go_wp2_with fail
                clear oo2 ff2 sc
                generalize y6.setCell ⟨o, 2, none⟩ (.bool true) = V9 at *
                go_at_call 95; refine hRl.mono ?_; rintro e y9 ⟨⟨u9, rfl⟩, j9, hR9, hS9, hB9, hj9⟩
                have HH : Hid (HdAt w y9 x A cap m g M s0 j j9 (emb (.rel q .over)) (WwQ Q emb P T who r true) #[.int .i64 P, .int .i64 T, .int .i64 G] 51 #[.int .i64 0, .int .i64 0, .bool false] o #[.int .i64 r, .int .i64 (-1), .bool true]) := HH12.out.go hR9 ⟨hS9.at', fun h => HH11.out.syn.past HST.out⟩ hB9 hj9
                have HST9 : Hid (m < j9) := Nat.lt_of_lt_of_le HST.out hj9
                clear hRl hR9 hS9 hB9 hj9 HH11 HH12 HST
                have o0 := HH.out.out.cell 0 (v := .int .i64 r) rfl
                have o1 := HH.out.out.cell 1 (v := .int .i64 (-1)) rfl
                have o2 := HH.out.out.cell 2 (v := .bool true) rfl
                have r0 := HH.out.res.cell 0 (v := .int .i64 0) rfl
                have r1 := HH.out.res.cell 1 (v := .int .i64 0) rfl
                have r2 := HH.out.res.cell 2 (v := .bool false) rfl
                have f0 := HH.out.res.fro 0
                have f1 := HH.out.res.fro 1
                have f2 := HH.out.res.fro 2
                have HN : Hid _ := HH.out.ret (a := .int .i64 r) (b := .int .i64 (-1)) (c := .bool true) rfl
                go_wp2_with fail
                generalize ((y9.setCell ⟨w.heap.size + 1, 0, none⟩ (.int .i64 r)).setCell ⟨w.heap.size + 1, 1, none⟩ (.int .i64 (-1))).setCell ⟨w.heap.size + 1, 2, none⟩ (.bool true) = yz at *
                have hfr := HN.out.2.2
                refine bodyPost_ret (v := .agg #[.int .i64 r, .int .i64 (-1), .bool true]) (results_cell_row rfl _ _ (w.heap.size + 1) 51 #[.int .i64 r, .int .i64 (-1), .bool true] _ _ rfl hfr Tryz.underlying51 rfl (by kernel_rfl)) rfl ?_
                exact ⟨r, -1, true, j9, .rel q .over, rfl, HN.out.1, HH.out.syn, rfl, fun h => absurd h (by have := HST9.out; omega), HN.out.2.1, HH.out.le⟩
              · rw [decide_eq_false hst] at sc
                have HST : Hid (j4 + 1 + 1 ≤ m) := (by omega : j4 + 1 + 1 ≤ m)
                have HH12 : Hid (HdAt w (y6.setCell ⟨o, 2, none⟩ (.bool false)) x A cap m g M s0 j (j4 + 1 + 1) (wwR emb q .fresh) (fun _ => False) #[.int .i64 P, .int .i64 T, .int .i64 G] 51 #[.int .i64 0, .int .i64 0, .bool false] o #[.int .i64 r, .int .i64 (-1), .bool false]) := (HH11.out.as (Q2 := fun _ => False) ⟨HH11.out.syn.at', fun h => absurd h (by omega)⟩).set 2 (.bool false)
                have hRl := syn_release (ww_relIn HE.out q) (by omega) HH12.out.run HH12.out.syn HBD.out
                clear hst
                go_wp2_with fail
                clear oo2 ff2 sc
                generalize y6.setCell ⟨o, 2, none⟩ (.bool false) = V9 at *
                go_at_call 95; refine hRl.mono ?_; rintro e y9 ⟨⟨u9, rfl⟩, j9, hR9, hS9, hB9, hj9⟩
                have HH : Hid (HdAt w y9 x A cap m g M s0 j j9 (emb (.rel q .over)) (WwQ Q emb P T who r false) #[.int .i64 P, .int .i64 T, .int .i64 G] 51 #[.int .i64 0, .int .i64 0, .bool false] o #[.int .i64 r, .int .i64 (-1), .bool false]) := HH12.out.go hR9 (hS9.weak (fun q' h => by
                  rcases h with h | h | h
                  · exact h.elim
                  · exact .inr ⟨.rel q .fresh, _, rfl, h, HRQ.out, rfl⟩
                  · exact .inr ⟨.rel q .pass, _, rfl, h, HRQ.out, rfl⟩)) hB9 hj9
                clear hRl hR9 hS9 hB9 hj9 HH11 HH12 HST
                have o0 := HH.out.out.cell 0 (v := .int .i64 r) rfl
                have o1 := HH.out.out.cell 1 (v := .int .i64 (-1)) rfl
                have o2 := HH.out.out.cell 2 (v := .bool false) rfl
                have r0 := HH.out.res.cell 0 (v := .int .i64 0) rfl
                have r1 := HH.out.res.cell 1 (v := .int .i64 0) rfl
                have r2 := HH.out.res.cell 2 (v := .bool false) rfl
                have f0 := HH.out.res.fro 0
                have f1 := HH.out.res.fro 1
                have f2 := HH.out.res.fro 2
                have HN : Hid _ := HH.out.ret (a := .int .i64 r) (b := .int .i64 (-1)) (c := .bool false) rfl
                go_wp2_with fail
                generalize ((y9.setCell ⟨w.heap.size + 1, 0, none⟩ (.int .i64 r)).setCell ⟨w.heap.size + 1, 1, none⟩ (.int .i64 (-1))).setCell ⟨w.heap.size + 1, 2, none⟩ (.bool false) = yz at *
                have hfr := HN.out.2.2
                refine bodyPost_ret (v := .agg #[.int .i64 r, .int .i64 (-1), .bool false]) (results_cell_row rfl _ _ (w.heap.size + 1) 51 #[.int .i64 r, .int .i64 (-1), .bool false] _ _ rfl hfr Tryz.underlying51 rfl (by kernel_rfl)) rfl ?_
                exact ⟨r, -1, false, j9, .rel q .over, rfl, HN.out.1, HH.out.syn, rfl, fun _ => ⟨HRQ.out, rfl⟩, HN.out.2.1, HH.out.le⟩
            · have hd1 : (r == -1) = false := by simpa using hr1
              have HH9 : Hid (HdAt w (y4.setCell ⟨o, 0, none⟩ (.int .i64 r)) x A cap m g M s0 j j4 (wwS emb q (.get .ld)) (fun _ => False) #[.int .i64 P, .int .i64 T, .int .i64 G] 51 #[.int .i64 0, .int .i64 0, .bool false] o #[.int .i64 r, .int .i64 (-1), .bool true]) := HH8.out.as ⟨fun h => (HH8.out.syn.at' h).trans ((if_neg (by rw [HQ.out.1]; decide)).trans (if_neg (fun e => hr1 (HRQ.out.trans e)))), fun h => absurd h (by omega)⟩
              have HWI : Hid (WsIn M P T r true false (wwS emb q)) := by rw [HRQ.out]; exact ww_wsIn HE.out q
              have hSt := syn_wstart (G := G) HWI.out HP.out.1 HP.out.2.1 HH9.out.run HH9.out.syn HBD.out
              clear hst HH8 HH7 hr1
              go_wp2_with fail
              clear oo0 ff0 sc7 k0 k1 k2 p0
              generalize y4.setCell ⟨o, 0, none⟩ (.int .i64 r) = V8 at *
              go_at_call 136; refine hSt.mono ?_; rintro e y5 ⟨p', t', j5, sf, rfl, q1, q2, q3, q4, q5, q6⟩
              have HF : Hid ((wsPM P T q.obs true false).ax sf = none ∧ (j5 ≤ m → p' = sf.holds q.obs)) := ⟨by rw [← HRQ.out]; exact q3, fun h => by rw [← HRQ.out]; exact (q4 h).1⟩
              have HH : Hid (HdAt w y5 x A cap m g M s0 j j5 (wwS emb q sf) (WwQ Q emb P T who p' false) #[.int .i64 P, .int .i64 T, .int .i64 G] 51 #[.int .i64 0, .int .i64 0, .bool false] o #[.int .i64 r, .int .i64 (-1), .bool true]) := HH9.out.go q1 (q2.weak (fun q' h => by
                rcases h with ⟨h, -⟩ | ⟨sg, a, h1, h2, h3, -⟩
                · exact h.elim
                · rw [HRQ.out] at h1 h3
                  exact .inr ⟨.run q sg, a, h1, h2, h3, rfl⟩)) q5 q6
              clear hSt q1 q2 q3 q4 q5 q6 HH9 HWI HST
              have r0 := HH.out.res.cell 0 (v := .int .i64 0) rfl
              have r1 := HH.out.res.cell 1 (v := .int .i64 0) rfl
              have r2 := HH.out.res.cell 2 (v := .bool false) rfl
              have f0 := HH.out.res.fro 0
              have f1 := HH.out.res.fro 1
              have f2 := HH.out.res.fro 2
              have HN : Hid _ := HH.out.ret (a := .int .i64 p') (b := .int .i64 t') (c := .bool false) rfl
              go_wp2_with fail
              generalize ((y5.setCell ⟨w.heap.size + 1, 0, none⟩ (.int .i64 p')).setCell ⟨w.heap.size + 1, 1, none⟩ (.int .i64 t')).setCell ⟨w.heap.size + 1, 2, none⟩ (.bool false) = yz at *
              have hfr := HN.out.2.2
              refine bodyPost_ret (v := .agg #[.int .i64 p', .int .i64 t', .bool false]) (results_cell_row rfl _ _ (w.heap.size + 1) 51 #[.int .i64 p', .int .i64 t', .bool false] _ _ rfl hfr Tryz.underlying51 rfl (by kernel_rfl)) rfl ?_
              exact ⟨p', t', false, j5, .run q sf, rfl, HN.out.1, HH.out.syn, HF.out.1, fun h => ⟨HF.out.2 h, rfl⟩, HN.out.2.1, HH.out.le⟩
      · have hd : decide (v2 = 1) = false := decide_eq_false h1
        have HH : Hid (HdAt w y2 x A cap m g M s0 j (j + 1 + 1) (emb .no) (WwQ Q emb P T who (-1) false) #[.int .i64 P, .int .i64 T, .int .i64 G] 51 #[.int .i64 0, .int .i64 0, .bool false] o #[.int .i64 (-1), .int .i64 (-1), .bool false]) := HH3.out.as ⟨fun h => (HH3.out.syn.at' h).trans (by rw [if_pos (by have := HONE.out (by omega); have := HV.out; omega)]), fun h => ⟨.inr ⟨.sw, _, rfl, (HH3.out.syn.past h).1, rfl, rfl⟩, (HH3.out.syn.past h).2⟩⟩
        clear HH3 HONE HZ HV sc HST h1
        have o0 := HH.out.out.cell 0 (v := .int .i64 (-1)) rfl
        have o1 := HH.out.out.cell 1 (v := .int .i64 (-1)) rfl
        have o2 := HH.out.out.cell 2 (v := .bool false) rfl
        have r0 := HH.out.res.cell 0 (v := .int .i64 0) rfl
        have r1 := HH.out.res.cell 1 (v := .int .i64 0) rfl
        have r2 := HH.out.res.cell 2 (v := .bool false) rfl
        have f0 := HH.out.res.fro 0
        have f1 := HH.out.res.fro 1
        have f2 := HH.out.res.fro 2
        have HN : Hid _ := HH.out.ret (a := .int .i64 (-1)) (b := .int .i64 (-1)) (c := .bool false) rfl
        go_wp2_with fail
        generalize ((y2.setCell ⟨w.heap.size + 1, 0, none⟩ (.int .i64 (-1))).setCell ⟨w.heap.size + 1, 1, none⟩ (.int .i64 (-1))).setCell ⟨w.heap.size + 1, 2, none⟩ (.bool false) = yz at *
        have hfr := HN.out.2.2
        refine bodyPost_ret (v := .agg #[.int .i64 (-1), .int .i64 (-1), .bool false]) (results_cell_row rfl _ _ (w.heap.size + 1) 51 #[.int .i64 (-1), .int .i64 (-1), .bool false] _ _ rfl hfr Tryz.underlying51 rfl (by kernel_rfl)) rfl ?_
        exact ⟨-1, -1, false, j + 1 + 1, .no, rfl, HN.out.1, HH.out.syn, rfl, fun _ => ⟨rfl, rfl⟩, HN.out.2.1, HH.out.le⟩
  · have hd : (v != 0) = true := by simpa using hv
    have HH : Hid (HdAt w y1 x A cap m g M s0 j (j + 1) (emb .no) (WwQ Q emb P T who (-1) false) #[.int .i64 P, .int .i64 T, .int .i64 G] 51 #[.int .i64 0, .int .i64 0, .bool false] o #[.int .i64 (-1), .int .i64 (-1), .bool false]) := HH1.out.as ⟨fun h => (HH1.out.syn.at' h).trans (by rw [if_neg hv]), fun h => absurd (HK.out (by omega)) hv⟩
    clear HH1 HK hv
    have o0 := HH.out.out.cell 0 (v := .int .i64 (-1)) rfl
    have o1 := HH.out.out.cell 1 (v := .int .i64 (-1)) rfl
    have o2 := HH.out.out.cell 2 (v := .bool false) rfl
    have r0 := HH.out.res.cell 0 (v := .int .i64 0) rfl
    have r1 := HH.out.res.cell 1 (v := .int .i64 0) rfl
    have r2 := HH.out.res.cell 2 (v := .bool false) rfl
    have f0 := HH.out.res.fro 0
    have f1 := HH.out.res.fro 1
    have f2 := HH.out.res.fro 2
    have HN : Hid _ := HH.out.ret (a := .int .i64 (-1)) (b := .int .i64 (-1)) (c := .bool false) rfl
    go_wp2_with fail
    generalize ((y1.setCell ⟨w.heap.size + 1, 0, none⟩ (.int .i64 (-1))).setCell ⟨w.heap.size + 1, 1, none⟩ (.int .i64 (-1))).setCell ⟨w.heap.size + 1, 2, none⟩ (.bool false) = yz at *
    have hfr := HN.out.2.2
    refine bodyPost_ret (v := .agg #[.int .i64 (-1), .int .i64 (-1), .bool false]) (results_cell_row rfl _ _ (w.heap.size + 1) 51 #[.int .i64 (-1), .int .i64 (-1), .bool false] _ _ rfl hfr Tryz.underlying51 rfl (by kernel_rfl)) rfl ?_
    exact ⟨-1, -1, false, j + 1, .no, rfl, HN.out.1, HH.out.syn, rfl, fun _ => ⟨rfl, rfl⟩, HN.out.2.1, HH.out.le⟩
end Go.Proofs.YtfdpikkinlljlaaGreat
