/- The document's routine that starts a thread keeps step with any machine that has it within it: the walk. -/
import Derived.Test.YtfdpikkinlljlaaGreatHNAC
namespace Go.Proofs.YtfdpikkinlljlaaGreat
open Go Go.RowKit
set_option linter.unusedVariables false
set_option maxRecDepth 100000
set_option linter.unusedSimpArgs false

/-- What the document's Start answers. -/
def WsGot {σ : Type} (M : PM σ) (emb : WsT → σ) (P T p : Int) (sp lf : Bool) (w : World) (x : Nat) (A : Option Addr) (cap m : Nat) (g : Nat → Int) (s0 : σ) (Q : σ → Prop) (j : Nat) (e : Ending) (w' : World) : Prop :=
  ∃ p' t' j' s, e = .returned (.agg #[.int .i64 p', .int .i64 t', .bool false]) ∧ RunOn w' x A cap m g (M.rj s0 g m j') ∧ Syn M s0 g m j' (emb s) (WsQ Q emb P T p sp lf p' t') ∧ (wsPM P T p sp lf).ax s = none ∧ (j' ≤ m → p' = s.holds p ∧ t' = s.q.obs) ∧ But [x] w w' ∧ j ≤ j'
set_option maxHeartbeats 4000000 in
theorem syn_wstart {σ : Type} {M : PM σ} {P T G p : Int} {sp lf : Bool} {emb : WsT → σ} (hE : WsIn M P T p sp lf emb) (hp : 0 ≤ P ∧ P ≤ 64) (hT : 0 ≤ T ∧ T ≤ 65536)
    {w : World} {x : Nat} {A : Option Addr} {cap m : Nat} {g : Nat → Int} {s0 : σ} {j : Nat} {Q : σ → Prop} (hR : RunOn w x A cap m g (M.rj s0 g m j)) (hS : Syn M s0 g m j (emb (.get .ld)) Q) (hb : ∀ j, j < m → 0 ≤ g j ∧ g j ≤ 18446744073709551615) :
    Calls Tryz.prog 136 #[.pointer (some ⟨x, 0, none⟩), .agg #[.int .i64 P, .int .i64 T, .int .i64 G], .int .i64 p, .bool sp, .bool lf] w fun e w' => WsGot M emb P T p sp lf w x A cap m g s0 Q j e w' := by
  have hb2 : Below w.heap.size w ((w.alloc (.cells #[.int .i64 P, .int .i64 T, .int .i64 G] 23)).alloc (.cells #[.int .i64 0, .int .i64 0, .bool false] 51)) := ((Below.refl _ _).alloc (Nat.le_refl _) _).alloc (by rw [World.size_alloc]; omega) _
  have hB1 := Blk.new w #[.int .i64 P, .int .i64 T, .int .i64 G] 23
  have HX : Hid (Blk ((w.alloc (.cells #[.int .i64 P, .int .i64 T, .int .i64 G] 23)).alloc (.cells #[.int .i64 0, .int .i64 0, .bool false] 51)) w.heap.size #[.int .i64 P, .int .i64 T, .int .i64 G] 23) := hB1.but (l := []) (But.of_below ((Below.refl _ _).alloc (Nat.le_refl _) _)) (by simp)
  have HY : Hid (Blk ((w.alloc (.cells #[.int .i64 P, .int .i64 T, .int .i64 G] 23)).alloc (.cells #[.int .i64 0, .int .i64 0, .bool false] 51)) (w.heap.size + 1) #[.int .i64 0, .int .i64 0, .bool false] 51) := by
    have := Blk.new (w.alloc (.cells #[.int .i64 P, .int .i64 T, .int .i64 G] 23)) #[.int .i64 0, .int .i64 0, .bool false] 51
    rw [World.size_alloc] at this
    exact this
  have hxw := hR.blk.lt
  have HB0 : Hid (But [x] w ((w.alloc (.cells #[.int .i64 P, .int .i64 T, .int .i64 G] 23)).alloc (.cells #[.int .i64 0, .int .i64 0, .bool false] 51))) := But.of_below hb2
  have hG := syn_jget (G := G) (ws_jgIn hE) hp hT (hR.below hb2) hS hb
  have HE : Hid (WsIn M P T p sp lf emb) := hE
  have HBD : Hid (∀ j, j < m → 0 ≤ g j ∧ g j ≤ 18446744073709551615) := hb
  have HP : Hid ((0 ≤ P ∧ P ≤ 64) ∧ (0 ≤ T ∧ T ≤ 65536)) := ⟨hp, hT⟩
  have HGF : Hid (GotFar A [w.heap.size + 1]) := (fun b e hm => by
    simp at hm
    rcases hR.got.form with ⟨e0, _⟩ | ⟨gb, e0, hl⟩
    · rw [e0] at e; cases e
    · rw [e0] at e; cases e; omega)
  clear hR hS hb hp hT hb2 hB1 hE
  go_enter Tryz.func136, Tryz.ntmps136
  go_wp2_with fail
  generalize (w.alloc (.cells #[.int .i64 P, .int .i64 T, .int .i64 G] 23)).alloc (.cells #[.int .i64 0, .int .i64 0, .bool false] 51) = W at *
  go_at_call 168; refine hG.mono ?_; rintro e y1 ⟨r, j1, q, rfl, hR1, hS1, hq, hr, hB1, hj1⟩
  have hy1 : w.heap.size + 1 < y1.heap.size := Nat.lt_of_lt_of_le HY.out.lt hB1.size
  have HH : Hid (HdAt w (y1.alloc (.cells #[.int .i64 p, .int .i64 r, .bool false] 51)) x A cap m g M s0 j j1 (wsJ emb q) (JgQ Q (wsJ emb) r) #[.int .i64 P, .int .i64 T, .int .i64 G] 51 #[.int .i64 0, .int .i64 0, .bool false] y1.heap.size #[.int .i64 p, .int .i64 r, .bool false]) := by
    have hal : Below y1.heap.size y1 (y1.alloc (.cells #[.int .i64 p, .int .i64 r, .bool false] 51)) := (Below.refl _ _).alloc (Nat.le_refl _) _
    refine ⟨hR1.below hal, hS1, (HB0.out.trans hB1).trans (But.of_below hal), (HX.out.but hB1 (by simp; omega)).but (But.of_below (l := []) hal) (by simp), (HY.out.but hB1 (by simp; omega)).but (But.of_below (l := []) hal) (by simp), Blk.new _ _ _, hy1, hxw, fun b e hm => ?_, hj1⟩
    simp at hm
    rcases hR1.got.form with ⟨e0, _⟩ | ⟨gb, e0, hl⟩
    · rw [e0] at e; cases e
    · rw [e0] at e
      cases e
      rcases hm with hm | hm
      · exact HGF.out _ e0 (by simp [hm])
      · omega
  have HY1 : Hid (Blk y1 (w.heap.size + 1) #[.int .i64 0, .int .i64 0, .bool false] 51 ∧ RunOn y1 x A cap m g (M.rj s0 g m j1) ∧ But [x] w y1) := ⟨HY.out.but hB1 (by simp; omega), hR1, HB0.out.trans hB1⟩
  have HQ : Hid (JgT.live q = false ∧ (j1 ≤ m → r = q.obs)) := ⟨hq, hr⟩
  clear hG hR1 hS1 hq hr hB1 hj1 HX HY HB0 HGF
  have k0 := HH.out.cfg.cell 0 (v := .int .i64 P) rfl
  have k1 := HH.out.cfg.cell 1 (v := .int .i64 T) rfl
  have k2 := HH.out.cfg.cell 2 (v := .int .i64 G) rfl
  have sc := HH.out.stop
  by_cases hst : m < j1
  · rw [decide_eq_true hst] at sc
    have HST : Hid (m < j1) := hst
    have r0 := HY1.out.1.cell 0 (v := .int .i64 0) rfl
    have r1 := HY1.out.1.cell 1 (v := .int .i64 0) rfl
    have r2 := HY1.out.1.cell 2 (v := .bool false) rfl
    have f0 := HY1.out.1.fro 0
    have f1 := HY1.out.1.fro 1
    have f2 := HY1.out.1.fro 2
    have hlt1 := HY1.out.1.lt
    have HS1 : Hid _ := HH.out.syn
    have HGFo : Hid (GotFar A [w.heap.size + 1]) := HH.out.far.of (by intro k hk; simp at hk ⊢; omega)
    have HLE : Hid (j ≤ j1) := HH.out.le
    clear hst HH k0 k1 k2
    go_wp2_with fail
    have HN : Hid (RunOn ((((y1.setCell ⟨w.heap.size + 1, 0, none⟩ (.int .i64 p)).setCell ⟨w.heap.size + 1, 1, none⟩ (.int .i64 r)).setCell ⟨w.heap.size + 1, 2, none⟩ (.bool false)).alloc (.cells #[.int .i64 p, .int .i64 r, .bool false] 51)) x A cap m g (M.rj s0 g m j1) ∧ But [x] w ((((y1.setCell ⟨w.heap.size + 1, 0, none⟩ (.int .i64 p)).setCell ⟨w.heap.size + 1, 1, none⟩ (.int .i64 r)).setCell ⟨w.heap.size + 1, 2, none⟩ (.bool false)).alloc (.cells #[.int .i64 p, .int .i64 r, .bool false] 51)) ∧ ((((y1.setCell ⟨w.heap.size + 1, 0, none⟩ (.int .i64 p)).setCell ⟨w.heap.size + 1, 1, none⟩ (.int .i64 r)).setCell ⟨w.heap.size + 1, 2, none⟩ (.bool false)).alloc (.cells #[.int .i64 p, .int .i64 r, .bool false] 51)).heap[w.heap.size + 1]? = some (.cells #[.int .i64 p, .int .i64 r, .bool false] 51 (0, 0))) := by
      have hU : But [w.heap.size + 1] y1 (((y1.setCell ⟨w.heap.size + 1, 0, none⟩ (.int .i64 p)).setCell ⟨w.heap.size + 1, 1, none⟩ (.int .i64 r)).setCell ⟨w.heap.size + 1, 2, none⟩ (.bool false)) := (((But.refl _ y1).set (g := w.heap.size + 1) (.inl (by simp)) 0 _).set (g := w.heap.size + 1) (.inl (by simp)) 1 _).set (g := w.heap.size + 1) (.inl (by simp)) 2 _
      have hal : Below (((y1.setCell ⟨w.heap.size + 1, 0, none⟩ (.int .i64 p)).setCell ⟨w.heap.size + 1, 1, none⟩ (.int .i64 r)).setCell ⟨w.heap.size + 1, 2, none⟩ (.bool false)).heap.size (((y1.setCell ⟨w.heap.size + 1, 0, none⟩ (.int .i64 p)).setCell ⟨w.heap.size + 1, 1, none⟩ (.int .i64 r)).setCell ⟨w.heap.size + 1, 2, none⟩ (.bool false)) ((((y1.setCell ⟨w.heap.size + 1, 0, none⟩ (.int .i64 p)).setCell ⟨w.heap.size + 1, 1, none⟩ (.int .i64 r)).setCell ⟨w.heap.size + 1, 2, none⟩ (.bool false)).alloc (.cells #[.int .i64 p, .int .i64 r, .bool false] 51)) := (Below.refl _ _).alloc (Nat.le_refl _) _
      have hZ := ((HY1.out.1.set 0 (.int .i64 p)).set 1 (.int .i64 r)).set 2 (.bool false)
      exact ⟨(HY1.out.2.1.but hU (by simp; omega) HGFo.out).below hal, But.lowk (HY1.out.2.2) hU (by omega) |>.trans (But.of_below hal), (hZ.but (But.of_below (l := []) hal) (by simp)).heap⟩
    generalize ((((y1.setCell ⟨w.heap.size + 1, 0, none⟩ (.int .i64 p)).setCell ⟨w.heap.size + 1, 1, none⟩ (.int .i64 r)).setCell ⟨w.heap.size + 1, 2, none⟩ (.bool false)).alloc (.cells #[.int .i64 p, .int .i64 r, .bool false] 51)) = yz at *
    have hfr := HN.out.2.2
    refine bodyPost_ret (v := .agg #[.int .i64 p, .int .i64 r, .bool false]) (results_cell_row rfl _ _ (w.heap.size + 1) 51 #[.int .i64 p, .int .i64 r, .bool false] _ _ rfl hfr Tryz.underlying51 rfl (by kernel_rfl)) rfl ?_
    refine ⟨p, r, j1, .note q .over, rfl, HN.out.1, ⟨fun h => absurd h (by have := HST.out; omega), fun h => ⟨?_, (HS1.out.past h).2⟩⟩, rfl, fun h => absurd h (by have := HST.out; omega), HN.out.2.1, HLE.out⟩
    rcases (HS1.out.past HST.out).1 with ⟨hq, e1⟩ | ⟨p', hl, hq, e1⟩
    · exact .inl ⟨hq, rfl, e1⟩
    · obtain ⟨a, ha⟩ := Option.isSome_iff_exists.1 ((jg_live_ax (P := P) (T := T) (q := p')).trans hl)
      exact .inr ⟨.get p', a, ha, hq.trans (if_pos hl), rfl, e1⟩
  · rw [decide_eq_false hst] at sc
    have HST : Hid (j1 ≤ m) := (by omega : j1 ≤ m)
    have HRQ : Hid (r = q.obs) := HQ.out.2 HST.out
    by_cases hr1 : r = -1
    · have HS1 : Hid (Syn M s0 g m j1 (emb (.need q)) (fun _ => False)) := ⟨fun h => (HH.out.syn.at' h).trans ((if_neg (by rw [HQ.out.1]; decide)).trans (if_pos (HRQ.out.symm.trans hr1))), fun h => absurd h (by have := HST.out; omega)⟩
      have HH1 : Hid _ := HH.out.as HS1.out
      have hA := syn_store HH1.out.run HS1.out HBD.out 14 1 (fun _ => HE.out.ax (.need q) _ rfl)
      have hd : (r == -1) = true := by simpa using hr1
      have HR1 : Hid (r = -1) := hr1
      clear hst HH HS1 hr1
      go_wp2_with fail
      go_at_call 92; refine hA.mono ?_; rintro e y2 ⟨⟨u, rfl⟩, v2, hK⟩
      have HH2 : Hid (HdAt w y2 x A cap m g M s0 j (j1 + 1) (emb (if sp = true then .cnt q else wsPut lf q)) (fun q' => q' = emb (.need q) ∨ False) #[.int .i64 P, .int .i64 T, .int .i64 G] 51 #[.int .i64 0, .int .i64 0, .bool false] y1.heap.size #[.int .i64 p, .int .i64 r, .bool false]) := by
        have h := HH1.out.step hK
        rw [HE.out.nx (.need q) _ _ rfl] at h
        exact h
      clear hA hK HH1 sc k0 k1 k2 HST hy1
      generalize y1.heap.size = o at *
      cases hsp : sp with
      | true =>
        subst hsp
        have HH3 : Hid (HdAt w y2 x A cap m g M s0 j (j1 + 1) (emb (.cnt q)) (fun q' => q' = emb (.need q) ∨ False) #[.int .i64 P, .int .i64 T, .int .i64 G] 51 #[.int .i64 0, .int .i64 0, .bool false] o #[.int .i64 p, .int .i64 r, .bool false]) := HH2.out.as (HH2.out.syn.as (fun _ => rfl))
        have hA := syn_add HH3.out.run HH3.out.syn HBD.out 13 4294967295 (fun _ => HE.out.ax (.cnt q) _ rfl)
        clear HH2
        go_wp2_with fail
        go_at_call 137; refine hA.mono ?_; rintro e y3 ⟨v3, rfl, hK⟩
        have HH : Hid (HdAt w y3 x A cap m g M s0 j (j1 + 1 + 1) (emb (wsPut lf q)) (WsQ Q emb P T p true lf p r) #[.int .i64 P, .int .i64 T, .int .i64 G] 51 #[.int .i64 0, .int .i64 0, .bool false] o #[.int .i64 p, .int .i64 r, .bool false]) := by
          have h := HH3.out.step hK
          rw [HE.out.nx (.cnt q) _ _ rfl] at h
          exact h.as (h.syn.weak (fun q' h' => by
            rcases h' with h' | h' | h'
            · exact .inr ⟨.cnt q, _, rfl, h', rfl, HRQ.out⟩
            · exact .inr ⟨.need q, _, rfl, h', rfl, HRQ.out⟩
            · exact h'.elim))
        clear hA hK HH3
        have sc := HH.out.stop
        by_cases hst : m < j1 + 1 + 1
        · rw [decide_eq_true hst] at sc
          have HST : Hid (m < j1 + 1 + 1) := hst
          clear hst
          have o0 := HH.out.out.cell 0 (v := .int .i64 p) rfl
          have o1 := HH.out.out.cell 1 (v := .int .i64 r) rfl
          have o2 := HH.out.out.cell 2 (v := .bool false) rfl
          have r0 := HH.out.res.cell 0 (v := .int .i64 0) rfl
          have r1 := HH.out.res.cell 1 (v := .int .i64 0) rfl
          have r2 := HH.out.res.cell 2 (v := .bool false) rfl
          have f0 := HH.out.res.fro 0
          have f1 := HH.out.res.fro 1
          have f2 := HH.out.res.fro 2
          have HN : Hid _ := HH.out.ret (a := .int .i64 p) (b := .int .i64 r) (c := .bool false) rfl
          go_wp2_with fail
          generalize ((y3.setCell ⟨w.heap.size + 1, 0, none⟩ (.int .i64 p)).setCell ⟨w.heap.size + 1, 1, none⟩ (.int .i64 r)).setCell ⟨w.heap.size + 1, 2, none⟩ (.bool false) = yz at *
          have hfr := HN.out.2.2
          refine bodyPost_ret (v := .agg #[.int .i64 p, .int .i64 r, .bool false]) (results_cell_row rfl _ _ (w.heap.size + 1) 51 #[.int .i64 p, .int .i64 r, .bool false] _ _ rfl hfr Tryz.underlying51 rfl (by kernel_rfl)) rfl ?_
          exact ⟨p, r, _, .note q .over, rfl, HN.out.1, ⟨fun h => absurd h (by have := HST.out; omega), fun h => HH.out.syn.past h⟩, rfl, fun h => absurd h (by have := HST.out; omega), HN.out.2.1, HH.out.le⟩
        · rw [decide_eq_false hst] at sc
          have HST : Hid (j1 + 1 + 1 ≤ m) := (by omega : j1 + 1 + 1 ≤ m)
          have k0 := HH.out.cfg.cell 0 (v := .int .i64 P) rfl
          have k1 := HH.out.cfg.cell 1 (v := .int .i64 T) rfl
          have k2 := HH.out.cfg.cell 2 (v := .int .i64 G) rfl
          clear hst
          cases hlf : lf with
          | true =>
            subst hlf
            have HS1 : Hid (Syn M s0 g m (j1 + 1 + 1) (emb (.lft q)) (fun _ => False)) := ⟨HH.out.syn.at', fun h => absurd h (by have := HST.out; omega)⟩
            have HH1 : Hid _ := HH.out.as HS1.out
            have hPA := rprcAt_all P T G p 0 y3 HP.out.1.2 (by omega)
            have HAc : Hid (∀ Y, Below y3.heap.size y3 Y → _) := fun Y (hY : Below y3.heap.size y3 Y) => syn_store (HH1.out.low hY).run HS1.out HBD.out (wd 20 P 264 p 0) 2 (fun _ => HE.out.ax (.lft q) _ rfl)
            clear HH HS1
            go_wp2_with fail
            go_at_call 131; refine hPA.mono ?_; rintro e y5 ⟨rfl, h5⟩
            have hA := HAc.out y5 h5
            have HH5 : Hid _ := HH1.out.low h5
            clear hPA h5 k0 k1 k2 HAc HH1 sc HST
            go_wp2_with fail
            go_at_call 92; refine hA.mono ?_; rintro e y6 ⟨⟨u, rfl⟩, v6, hK⟩
            have HH6 : Hid (HdAt w y6 x A cap m g M s0 j (j1 + 1 + 1 + 1) (emb (.rel2 q none .fresh)) (fun q' => q' = emb (.lft q) ∨ False) #[.int .i64 P, .int .i64 T, .int .i64 G] 51 #[.int .i64 0, .int .i64 0, .bool false] o #[.int .i64 p, .int .i64 r, .bool false]) := by
              have h := HH5.out.step hK
              rw [HE.out.nx (.lft q) _ _ rfl] at h
              exact h
            clear hA hK HH5
            have sc := HH6.out.stop
            by_cases hst : m < j1 + 1 + 1 + 1
            · rw [decide_eq_true hst] at sc
              have HST : Hid (m < j1 + 1 + 1 + 1) := hst
              have hRl := syn_release (ws_relIn2 HE.out q none) (by omega) HH6.out.run HH6.out.syn HBD.out
              clear hst
              go_wp2_with fail
              go_at_call 95; refine hRl.mono ?_; rintro e y9 ⟨⟨u9, rfl⟩, j9, hR9, hS9, hB9, hj9⟩
              have HH : Hid (HdAt w y9 x A cap m g M s0 j j9 (emb (.rel2 q none .over)) (WsQ Q emb P T p true true p r) #[.int .i64 P, .int .i64 T, .int .i64 G] 51 #[.int .i64 0, .int .i64 0, .bool false] o #[.int .i64 p, .int .i64 r, .bool false]) := HH6.out.go hR9 ⟨hS9.at', fun h => ⟨by
                rcases (HH6.out.syn.past HST.out).1 with h1 | h1
                · exact .inr ⟨.lft q, _, rfl, h1, rfl, HRQ.out⟩
                · exact h1.elim, (HH6.out.syn.past HST.out).2⟩⟩ hB9 hj9
              have HST9 : Hid (m < j9) := Nat.lt_of_lt_of_le HST.out hj9
              clear hRl hR9 hS9 hB9 hj9 sc HST HH6
              have HST := HST9
              have o0 := HH.out.out.cell 0 (v := .int .i64 p) rfl
              have o1 := HH.out.out.cell 1 (v := .int .i64 r) rfl
              have o2 := HH.out.out.cell 2 (v := .bool false) rfl
              have r0 := HH.out.res.cell 0 (v := .int .i64 0) rfl
              have r1 := HH.out.res.cell 1 (v := .int .i64 0) rfl
              have r2 := HH.out.res.cell 2 (v := .bool false) rfl
              have f0 := HH.out.res.fro 0
              have f1 := HH.out.res.fro 1
              have f2 := HH.out.res.fro 2
              have HN : Hid _ := HH.out.ret (a := .int .i64 p) (b := .int .i64 r) (c := .bool false) rfl
              go_wp2_with fail
              generalize ((y9.setCell ⟨w.heap.size + 1, 0, none⟩ (.int .i64 p)).setCell ⟨w.heap.size + 1, 1, none⟩ (.int .i64 r)).setCell ⟨w.heap.size + 1, 2, none⟩ (.bool false) = yz at *
              have hfr := HN.out.2.2
              refine bodyPost_ret (v := .agg #[.int .i64 p, .int .i64 r, .bool false]) (results_cell_row rfl _ _ (w.heap.size + 1) 51 #[.int .i64 p, .int .i64 r, .bool false] _ _ rfl hfr Tryz.underlying51 rfl (by kernel_rfl)) rfl ?_
              exact ⟨p, r, _, .note q .over, rfl, HN.out.1, ⟨fun h => absurd h (by have := HST.out; omega), fun h => HH.out.syn.past h⟩, rfl, fun h => absurd h (by have := HST.out; omega), HN.out.2.1, HH.out.le⟩
            · rw [decide_eq_false hst] at sc
              have HST : Hid (j1 + 1 + 1 + 1 ≤ m) := (by omega : j1 + 1 + 1 + 1 ≤ m)
              have HS6 : Hid (Syn M s0 g m (j1 + 1 + 1 + 1) (emb (.rel2 q none .fresh)) (fun _ => False)) := ⟨HH6.out.syn.at', fun h => absurd h (by have := HST.out; omega)⟩
              have HH7 : Hid (HdAt w (y6.setCell ⟨o, 0, none⟩ (.int .i64 (-1))) x A cap m g M s0 j (j1 + 1 + 1 + 1) (emb (.rel2 q none .fresh)) (fun _ => False) #[.int .i64 P, .int .i64 T, .int .i64 G] 51 #[.int .i64 0, .int .i64 0, .bool false] o #[.int .i64 (-1), .int .i64 r, .bool false]) := (HH6.out.as HS6.out).set 0 (.int .i64 (-1))
              have hRl := syn_release (ws_relIn2 HE.out q none) (by omega) HH7.out.run HH7.out.syn HBD.out
              have o0 := HH6.out.out.cell 0 (v := .int .i64 p) rfl
              have f0 := HH6.out.out.fro 0
              clear hst
              go_wp2_with fail
              clear o0 f0
              generalize y6.setCell ⟨o, 0, none⟩ (.int .i64 (-1)) = V at *
              go_at_call 95; refine hRl.mono ?_; rintro e y9 ⟨⟨u9, rfl⟩, j9, hR9, hS9, hB9, hj9⟩
              have HH : Hid (HdAt w y9 x A cap m g M s0 j j9 (emb (.rel2 q none .over)) (WsQ Q emb P T p true true (-1) r) #[.int .i64 P, .int .i64 T, .int .i64 G] 51 #[.int .i64 0, .int .i64 0, .bool false] o #[.int .i64 (-1), .int .i64 r, .bool false]) := HH7.out.go hR9 (hS9.weak (fun q' h => by
                rcases h with h | h | h
                · exact h.elim
                · exact .inr ⟨.rel2 q none .fresh, _, rfl, h, rfl, HRQ.out⟩
                · exact .inr ⟨.rel2 q none .pass, _, rfl, h, rfl, HRQ.out⟩)) hB9 hj9
              clear hRl hR9 hS9 hB9 hj9 sc HST HH6 HH7 HS6
              have o0 := HH.out.out.cell 0 (v := .int .i64 (-1)) rfl
              have o1 := HH.out.out.cell 1 (v := .int .i64 r) rfl
              have o2 := HH.out.out.cell 2 (v := .bool false) rfl
              have r0 := HH.out.res.cell 0 (v := .int .i64 0) rfl
              have r1 := HH.out.res.cell 1 (v := .int .i64 0) rfl
              have r2 := HH.out.res.cell 2 (v := .bool false) rfl
              have f0 := HH.out.res.fro 0
              have f1 := HH.out.res.fro 1
              have f2 := HH.out.res.fro 2
              have HN : Hid _ := HH.out.ret (a := .int .i64 (-1)) (b := .int .i64 r) (c := .bool false) rfl
              go_wp2_with fail
              generalize ((y9.setCell ⟨w.heap.size + 1, 0, none⟩ (.int .i64 (-1))).setCell ⟨w.heap.size + 1, 1, none⟩ (.int .i64 r)).setCell ⟨w.heap.size + 1, 2, none⟩ (.bool false) = yz at *
              have hfr := HN.out.2.2
              refine bodyPost_ret (v := .agg #[.int .i64 (-1), .int .i64 r, .bool false]) (results_cell_row rfl _ _ (w.heap.size + 1) 51 #[.int .i64 (-1), .int .i64 r, .bool false] _ _ rfl hfr Tryz.underlying51 rfl (by kernel_rfl)) rfl ?_
              exact ⟨-1, r, j9, .rel2 q none .over, rfl, HN.out.1, HH.out.syn, rfl, fun _ => ⟨rfl, HRQ.out⟩, HN.out.2.1, HH.out.le⟩
          | false =>
            subst hlf
            have HS1 : Hid (Syn M s0 g m (j1 + 1 + 1) (wsI emb q .m0) (fun _ => False)) := ⟨HH.out.syn.at', fun h => absurd h (by have := HST.out; omega)⟩
            have HH1 : Hid _ := HH.out.as HS1.out
            have hP := syn_iput (T := T) (G := G) (ws_ipIn HE.out q) HP.out.1 HH1.out.run HS1.out HBD.out
            clear HH HS1
            go_wp2_with fail
            go_at_call 156; refine hP.mono ?_; rintro e y5 ⟨r5, j5, rfl, hR5, hS5, h5, hB5, hj5⟩
            have HH5 : Hid (HdAt w y5 x A cap m g M s0 j j5 (emb (.rel2 q (some .over) .fresh)) (IpQ (fun _ => False) (wsI emb q) p r5) #[.int .i64 P, .int .i64 T, .int .i64 G] 51 #[.int .i64 0, .int .i64 0, .bool false] o #[.int .i64 p, .int .i64 r, .bool false]) := HH1.out.go hR5 hS5 hB5 hj5
            have H5 : Hid (j5 ≤ m → r5 = -1) := h5
            have HH7 : Hid (HdAt w (y5.setCell ⟨o, 0, none⟩ (.int .i64 r5)) x A cap m g M s0 j j5 (emb (.rel2 q (some .over) .fresh)) (IpQ (fun _ => False) (wsI emb q) p r5) #[.int .i64 P, .int .i64 T, .int .i64 G] 51 #[.int .i64 0, .int .i64 0, .bool false] o #[.int .i64 r5, .int .i64 r, .bool false]) := HH5.out.set 0 (.int .i64 r5)
            have hRl := syn_release (ws_relIn2 HE.out q (some .over)) (by omega) HH7.out.run HH7.out.syn HBD.out
            have o0 := HH5.out.out.cell 0 (v := .int .i64 p) rfl
            have f0 := HH5.out.out.fro 0
            clear hP hR5 hS5 h5 hB5 hj5 k0 k1 k2 sc HST HH1
            go_wp2_with fail
            clear o0 f0
            generalize y5.setCell ⟨o, 0, none⟩ (.int .i64 r5) = V at *
            go_at_call 95; refine hRl.mono ?_; rintro e y9 ⟨⟨u9, rfl⟩, j9, hR9, hS9, hB9, hj9⟩
            have HH : Hid (HdAt w y9 x A cap m g M s0 j j9 (emb (.rel2 q (some .over) .over)) (WsQ Q emb P T p true false r5 r) #[.int .i64 P, .int .i64 T, .int .i64 G] 51 #[.int .i64 0, .int .i64 0, .bool false] o #[.int .i64 r5, .int .i64 r, .bool false]) := HH7.out.go hR9 ⟨hS9.at', fun h => ⟨by
              by_cases h5 : m < j5
              · rcases (HH5.out.syn.past h5).1 with ⟨h1, -⟩ | ⟨p', h1, h2, h3⟩
                · exact h1.elim
                · have hb : wsI emb q p' = emb (.back q p') := by cases p' <;> first | rfl | exact absurd rfl h1
                  obtain ⟨a, ha⟩ : ∃ a, (wsPM P T p true false).ax (.back q p') = some a := by cases p' <;> first | exact ⟨_, rfl⟩ | exact absurd rfl h1
                  exact .inr ⟨.back q p', a, ha, h2.trans hb, h3, HRQ.out⟩
              · have e5 : r5 = -1 := H5.out (by omega)
                rcases (hS9.past h).1 with h1 | h1 | h1
                · rcases h1 with ⟨h1, -⟩ | ⟨p', h1, h2, h3⟩
                  · exact h1.elim
                  · have hb : wsI emb q p' = emb (.back q p') := by cases p' <;> first | rfl | exact absurd rfl h1
                    obtain ⟨a, ha⟩ : ∃ a, (wsPM P T p true false).ax (.back q p') = some a := by cases p' <;> first | exact ⟨_, rfl⟩ | exact absurd rfl h1
                    exact .inr ⟨.back q p', a, ha, h2.trans hb, h3, HRQ.out⟩
                · exact .inr ⟨.rel2 q (some .over) .fresh, _, rfl, h1, e5, HRQ.out⟩
                · exact .inr ⟨.rel2 q (some .over) .pass, _, rfl, h1, e5, HRQ.out⟩, (hS9.past h).2⟩⟩ hB9 hj9
            have H9 : Hid (j9 ≤ m → r5 = -1) := fun h => H5.out (Nat.le_trans hj9 h)
            clear hRl hR9 hS9 hB9 hj9 HH5 HH7 H5
            have o0 := HH.out.out.cell 0 (v := .int .i64 r5) rfl
            have o1 := HH.out.out.cell 1 (v := .int .i64 r) rfl
            have o2 := HH.out.out.cell 2 (v := .bool false) rfl
            have r0 := HH.out.res.cell 0 (v := .int .i64 0) rfl
            have r1 := HH.out.res.cell 1 (v := .int .i64 0) rfl
            have r2 := HH.out.res.cell 2 (v := .bool false) rfl
            have f0 := HH.out.res.fro 0
            have f1 := HH.out.res.fro 1
            have f2 := HH.out.res.fro 2
            have HN : Hid _ := HH.out.ret (a := .int .i64 r5) (b := .int .i64 r) (c := .bool false) rfl
            go_wp2_with fail
            generalize ((y9.setCell ⟨w.heap.size + 1, 0, none⟩ (.int .i64 r5)).setCell ⟨w.heap.size + 1, 1, none⟩ (.int .i64 r)).setCell ⟨w.heap.size + 1, 2, none⟩ (.bool false) = yz at *
            have hfr := HN.out.2.2
            refine bodyPost_ret (v := .agg #[.int .i64 r5, .int .i64 r, .bool false]) (results_cell_row rfl _ _ (w.heap.size + 1) 51 #[.int .i64 r5, .int .i64 r, .bool false] _ _ rfl hfr Tryz.underlying51 rfl (by kernel_rfl)) rfl ?_
            exact ⟨r5, r, j9, .rel2 q (some .over) .over, rfl, HN.out.1, HH.out.syn, rfl, fun h => ⟨H9.out h, HRQ.out⟩, HN.out.2.1, HH.out.le⟩
      | false =>
        subst hsp
        have HH : Hid (HdAt w y2 x A cap m g M s0 j (j1 + 1) (emb (wsPut lf q)) (WsQ Q emb P T p false lf p r) #[.int .i64 P, .int .i64 T, .int .i64 G] 51 #[.int .i64 0, .int .i64 0, .bool false] o #[.int .i64 p, .int .i64 r, .bool false]) := HH2.out.as (HH2.out.syn.weak (fun q' h' => by
            rcases h' with h' | h'
            · exact .inr ⟨.need q, _, rfl, h', rfl, HRQ.out⟩
            · exact h'.elim))
        clear HH2
        have sc := HH.out.stop
        by_cases hst : m < j1 + 1
        · rw [decide_eq_true hst] at sc
          have HST : Hid (m < j1 + 1) := hst
          clear hst
          have o0 := HH.out.out.cell 0 (v := .int .i64 p) rfl
          have o1 := HH.out.out.cell 1 (v := .int .i64 r) rfl
          have o2 := HH.out.out.cell 2 (v := .bool false) rfl
          have r0 := HH.out.res.cell 0 (v := .int .i64 0) rfl
          have r1 := HH.out.res.cell 1 (v := .int .i64 0) rfl
          have r2 := HH.out.res.cell 2 (v := .bool false) rfl
          have f0 := HH.out.res.fro 0
          have f1 := HH.out.res.fro 1
          have f2 := HH.out.res.fro 2
          have HN : Hid _ := HH.out.ret (a := .int .i64 p) (b := .int .i64 r) (c := .bool false) rfl
          go_wp2_with fail
          generalize ((y2.setCell ⟨w.heap.size + 1, 0, none⟩ (.int .i64 p)).setCell ⟨w.heap.size + 1, 1, none⟩ (.int .i64 r)).setCell ⟨w.heap.size + 1, 2, none⟩ (.bool false) = yz at *
          have hfr := HN.out.2.2
          refine bodyPost_ret (v := .agg #[.int .i64 p, .int .i64 r, .bool false]) (results_cell_row rfl _ _ (w.heap.size + 1) 51 #[.int .i64 p, .int .i64 r, .bool false] _ _ rfl hfr Tryz.underlying51 rfl (by kernel_rfl)) rfl ?_
          exact ⟨p, r, _, .note q .over, rfl, HN.out.1, ⟨fun h => absurd h (by have := HST.out; omega), fun h => HH.out.syn.past h⟩, rfl, fun h => absurd h (by have := HST.out; omega), HN.out.2.1, HH.out.le⟩
        · rw [decide_eq_false hst] at sc
          have HST : Hid (j1 + 1 ≤ m) := (by omega : j1 + 1 ≤ m)
          have k0 := HH.out.cfg.cell 0 (v := .int .i64 P) rfl
          have k1 := HH.out.cfg.cell 1 (v := .int .i64 T) rfl
          have k2 := HH.out.cfg.cell 2 (v := .int .i64 G) rfl
          clear hst
          cases hlf : lf with
          | true =>
            subst hlf
            have HS1 : Hid (Syn M s0 g m (j1 + 1) (emb (.lft q)) (fun _ => False)) := ⟨HH.out.syn.at', fun h => absurd h (by have := HST.out; omega)⟩
            have HH1 : Hid _ := HH.out.as HS1.out
            have hPA := rprcAt_all P T G p 0 y2 HP.out.1.2 (by omega)
            have HAc : Hid (∀ Y, Below y2.heap.size y2 Y → _) := fun Y (hY : Below y2.heap.size y2 Y) => syn_store (HH1.out.low hY).run HS1.out HBD.out (wd 20 P 264 p 0) 2 (fun _ => HE.out.ax (.lft q) _ rfl)
            clear HH HS1
            go_wp2_with fail
            go_at_call 131; refine hPA.mono ?_; rintro e y5 ⟨rfl, h5⟩
            have hA := HAc.out y5 h5
            have HH5 : Hid _ := HH1.out.low h5
            clear hPA h5 k0 k1 k2 HAc HH1 sc HST
            go_wp2_with fail
            go_at_call 92; refine hA.mono ?_; rintro e y6 ⟨⟨u, rfl⟩, v6, hK⟩
            have HH6 : Hid (HdAt w y6 x A cap m g M s0 j (j1 + 1 + 1) (emb (.rel2 q none .fresh)) (fun q' => q' = emb (.lft q) ∨ False) #[.int .i64 P, .int .i64 T, .int .i64 G] 51 #[.int .i64 0, .int .i64 0, .bool false] o #[.int .i64 p, .int .i64 r, .bool false]) := by
              have h := HH5.out.step hK
              rw [HE.out.nx (.lft q) _ _ rfl] at h
              exact h
            clear hA hK HH5
            have sc := HH6.out.stop
            by_cases hst : m < j1 + 1 + 1
            · rw [decide_eq_true hst] at sc
              have HST : Hid (m < j1 + 1 + 1) := hst
              have hRl := syn_release (ws_relIn2 HE.out q none) (by omega) HH6.out.run HH6.out.syn HBD.out
              clear hst
              go_wp2_with fail
              go_at_call 95; refine hRl.mono ?_; rintro e y9 ⟨⟨u9, rfl⟩, j9, hR9, hS9, hB9, hj9⟩
              have HH : Hid (HdAt w y9 x A cap m g M s0 j j9 (emb (.rel2 q none .over)) (WsQ Q emb P T p false true p r) #[.int .i64 P, .int .i64 T, .int .i64 G] 51 #[.int .i64 0, .int .i64 0, .bool false] o #[.int .i64 p, .int .i64 r, .bool false]) := HH6.out.go hR9 ⟨hS9.at', fun h => ⟨by
                rcases (HH6.out.syn.past HST.out).1 with h1 | h1
                · exact .inr ⟨.lft q, _, rfl, h1, rfl, HRQ.out⟩
                · exact h1.elim, (HH6.out.syn.past HST.out).2⟩⟩ hB9 hj9
              have HST9 : Hid (m < j9) := Nat.lt_of_lt_of_le HST.out hj9
              clear hRl hR9 hS9 hB9 hj9 sc HST HH6
              have HST := HST9
              have o0 := HH.out.out.cell 0 (v := .int .i64 p) rfl
              have o1 := HH.out.out.cell 1 (v := .int .i64 r) rfl
              have o2 := HH.out.out.cell 2 (v := .bool false) rfl
              have r0 := HH.out.res.cell 0 (v := .int .i64 0) rfl
              have r1 := HH.out.res.cell 1 (v := .int .i64 0) rfl
              have r2 := HH.out.res.cell 2 (v := .bool false) rfl
              have f0 := HH.out.res.fro 0
              have f1 := HH.out.res.fro 1
              have f2 := HH.out.res.fro 2
              have HN : Hid _ := HH.out.ret (a := .int .i64 p) (b := .int .i64 r) (c := .bool false) rfl
              go_wp2_with fail
              generalize ((y9.setCell ⟨w.heap.size + 1, 0, none⟩ (.int .i64 p)).setCell ⟨w.heap.size + 1, 1, none⟩ (.int .i64 r)).setCell ⟨w.heap.size + 1, 2, none⟩ (.bool false) = yz at *
              have hfr := HN.out.2.2
              refine bodyPost_ret (v := .agg #[.int .i64 p, .int .i64 r, .bool false]) (results_cell_row rfl _ _ (w.heap.size + 1) 51 #[.int .i64 p, .int .i64 r, .bool false] _ _ rfl hfr Tryz.underlying51 rfl (by kernel_rfl)) rfl ?_
              exact ⟨p, r, _, .note q .over, rfl, HN.out.1, ⟨fun h => absurd h (by have := HST.out; omega), fun h => HH.out.syn.past h⟩, rfl, fun h => absurd h (by have := HST.out; omega), HN.out.2.1, HH.out.le⟩
            · rw [decide_eq_false hst] at sc
              have HST : Hid (j1 + 1 + 1 ≤ m) := (by omega : j1 + 1 + 1 ≤ m)
              have HS6 : Hid (Syn M s0 g m (j1 + 1 + 1) (emb (.rel2 q none .fresh)) (fun _ => False)) := ⟨HH6.out.syn.at', fun h => absurd h (by have := HST.out; omega)⟩
              have HH7 : Hid (HdAt w (y6.setCell ⟨o, 0, none⟩ (.int .i64 (-1))) x A cap m g M s0 j (j1 + 1 + 1) (emb (.rel2 q none .fresh)) (fun _ => False) #[.int .i64 P, .int .i64 T, .int .i64 G] 51 #[.int .i64 0, .int .i64 0, .bool false] o #[.int .i64 (-1), .int .i64 r, .bool false]) := (HH6.out.as HS6.out).set 0 (.int .i64 (-1))
              have hRl := syn_release (ws_relIn2 HE.out q none) (by omega) HH7.out.run HH7.out.syn HBD.out
              have o0 := HH6.out.out.cell 0 (v := .int .i64 p) rfl
              have f0 := HH6.out.out.fro 0
              clear hst
              go_wp2_with fail
              clear o0 f0
              generalize y6.setCell ⟨o, 0, none⟩ (.int .i64 (-1)) = V at *
              go_at_call 95; refine hRl.mono ?_; rintro e y9 ⟨⟨u9, rfl⟩, j9, hR9, hS9, hB9, hj9⟩
              have HH : Hid (HdAt w y9 x A cap m g M s0 j j9 (emb (.rel2 q none .over)) (WsQ Q emb P T p false true (-1) r) #[.int .i64 P, .int .i64 T, .int .i64 G] 51 #[.int .i64 0, .int .i64 0, .bool false] o #[.int .i64 (-1), .int .i64 r, .bool false]) := HH7.out.go hR9 (hS9.weak (fun q' h => by
                rcases h with h | h | h
                · exact h.elim
                · exact .inr ⟨.rel2 q none .fresh, _, rfl, h, rfl, HRQ.out⟩
                · exact .inr ⟨.rel2 q none .pass, _, rfl, h, rfl, HRQ.out⟩)) hB9 hj9
              clear hRl hR9 hS9 hB9 hj9 sc HST HH6 HH7 HS6
              have o0 := HH.out.out.cell 0 (v := .int .i64 (-1)) rfl
              have o1 := HH.out.out.cell 1 (v := .int .i64 r) rfl
              have o2 := HH.out.out.cell 2 (v := .bool false) rfl
              have r0 := HH.out.res.cell 0 (v := .int .i64 0) rfl
              have r1 := HH.out.res.cell 1 (v := .int .i64 0) rfl
              have r2 := HH.out.res.cell 2 (v := .bool false) rfl
              have f0 := HH.out.res.fro 0
              have f1 := HH.out.res.fro 1
              have f2 := HH.out.res.fro 2
              have HN : Hid _ := HH.out.ret (a := .int .i64 (-1)) (b := .int .i64 r) (c := .bool false) rfl
              go_wp2_with fail
              generalize ((y9.setCell ⟨w.heap.size + 1, 0, none⟩ (.int .i64 (-1))).setCell ⟨w.heap.size + 1, 1, none⟩ (.int .i64 r)).setCell ⟨w.heap.size + 1, 2, none⟩ (.bool false) = yz at *
              have hfr := HN.out.2.2
              refine bodyPost_ret (v := .agg #[.int .i64 (-1), .int .i64 r, .bool false]) (results_cell_row rfl _ _ (w.heap.size + 1) 51 #[.int .i64 (-1), .int .i64 r, .bool false] _ _ rfl hfr Tryz.underlying51 rfl (by kernel_rfl)) rfl ?_
              exact ⟨-1, r, j9, .rel2 q none .over, rfl, HN.out.1, HH.out.syn, rfl, fun _ => ⟨rfl, HRQ.out⟩, HN.out.2.1, HH.out.le⟩
          | false =>
            subst hlf
            have HS1 : Hid (Syn M s0 g m (j1 + 1) (wsI emb q .m0) (fun _ => False)) := ⟨HH.out.syn.at', fun h => absurd h (by have := HST.out; omega)⟩
            have HH1 : Hid _ := HH.out.as HS1.out
            have hP := syn_iput (T := T) (G := G) (ws_ipIn HE.out q) HP.out.1 HH1.out.run HS1.out HBD.out
            clear HH HS1
            go_wp2_with fail
            go_at_call 156; refine hP.mono ?_; rintro e y5 ⟨r5, j5, rfl, hR5, hS5, h5, hB5, hj5⟩
            have HH5 : Hid (HdAt w y5 x A cap m g M s0 j j5 (emb (.rel2 q (some .over) .fresh)) (IpQ (fun _ => False) (wsI emb q) p r5) #[.int .i64 P, .int .i64 T, .int .i64 G] 51 #[.int .i64 0, .int .i64 0, .bool false] o #[.int .i64 p, .int .i64 r, .bool false]) := HH1.out.go hR5 hS5 hB5 hj5
            have H5 : Hid (j5 ≤ m → r5 = -1) := h5
            have HH7 : Hid (HdAt w (y5.setCell ⟨o, 0, none⟩ (.int .i64 r5)) x A cap m g M s0 j j5 (emb (.rel2 q (some .over) .fresh)) (IpQ (fun _ => False) (wsI emb q) p r5) #[.int .i64 P, .int .i64 T, .int .i64 G] 51 #[.int .i64 0, .int .i64 0, .bool false] o #[.int .i64 r5, .int .i64 r, .bool false]) := HH5.out.set 0 (.int .i64 r5)
            have hRl := syn_release (ws_relIn2 HE.out q (some .over)) (by omega) HH7.out.run HH7.out.syn HBD.out
            have o0 := HH5.out.out.cell 0 (v := .int .i64 p) rfl
            have f0 := HH5.out.out.fro 0
            clear hP hR5 hS5 h5 hB5 hj5 k0 k1 k2 sc HST HH1
            go_wp2_with fail
            clear o0 f0
            generalize y5.setCell ⟨o, 0, none⟩ (.int .i64 r5) = V at *
            go_at_call 95; refine hRl.mono ?_; rintro e y9 ⟨⟨u9, rfl⟩, j9, hR9, hS9, hB9, hj9⟩
            have HH : Hid (HdAt w y9 x A cap m g M s0 j j9 (emb (.rel2 q (some .over) .over)) (WsQ Q emb P T p false false r5 r) #[.int .i64 P, .int .i64 T, .int .i64 G] 51 #[.int .i64 0, .int .i64 0, .bool false] o #[.int .i64 r5, .int .i64 r, .bool false]) := HH7.out.go hR9 ⟨hS9.at', fun h => ⟨by
              by_cases h5 : m < j5
              · rcases (HH5.out.syn.past h5).1 with ⟨h1, -⟩ | ⟨p', h1, h2, h3⟩
                · exact h1.elim
                · have hb : wsI emb q p' = emb (.back q p') := by cases p' <;> first | rfl | exact absurd rfl h1
                  obtain ⟨a, ha⟩ : ∃ a, (wsPM P T p false false).ax (.back q p') = some a := by cases p' <;> first | exact ⟨_, rfl⟩ | exact absurd rfl h1
                  exact .inr ⟨.back q p', a, ha, h2.trans hb, h3, HRQ.out⟩
              · have e5 : r5 = -1 := H5.out (by omega)
                rcases (hS9.past h).1 with h1 | h1 | h1
                · rcases h1 with ⟨h1, -⟩ | ⟨p', h1, h2, h3⟩
                  · exact h1.elim
                  · have hb : wsI emb q p' = emb (.back q p') := by cases p' <;> first | rfl | exact absurd rfl h1
                    obtain ⟨a, ha⟩ : ∃ a, (wsPM P T p false false).ax (.back q p') = some a := by cases p' <;> first | exact ⟨_, rfl⟩ | exact absurd rfl h1
                    exact .inr ⟨.back q p', a, ha, h2.trans hb, h3, HRQ.out⟩
                · exact .inr ⟨.rel2 q (some .over) .fresh, _, rfl, h1, e5, HRQ.out⟩
                · exact .inr ⟨.rel2 q (some .over) .pass, _, rfl, h1, e5, HRQ.out⟩, (hS9.past h).2⟩⟩ hB9 hj9
            have H9 : Hid (j9 ≤ m → r5 = -1) := fun h => H5.out (Nat.le_trans hj9 h)
            clear hRl hR9 hS9 hB9 hj9 HH5 HH7 H5
            have o0 := HH.out.out.cell 0 (v := .int .i64 r5) rfl
            have o1 := HH.out.out.cell 1 (v := .int .i64 r) rfl
            have o2 := HH.out.out.cell 2 (v := .bool false) rfl
            have r0 := HH.out.res.cell 0 (v := .int .i64 0) rfl
            have r1 := HH.out.res.cell 1 (v := .int .i64 0) rfl
            have r2 := HH.out.res.cell 2 (v := .bool false) rfl
            have f0 := HH.out.res.fro 0
            have f1 := HH.out.res.fro 1
            have f2 := HH.out.res.fro 2
            have HN : Hid _ := HH.out.ret (a := .int .i64 r5) (b := .int .i64 r) (c := .bool false) rfl
            go_wp2_with fail
            generalize ((y9.setCell ⟨w.heap.size + 1, 0, none⟩ (.int .i64 r5)).setCell ⟨w.heap.size + 1, 1, none⟩ (.int .i64 r)).setCell ⟨w.heap.size + 1, 2, none⟩ (.bool false) = yz at *
            have hfr := HN.out.2.2
            refine bodyPost_ret (v := .agg #[.int .i64 r5, .int .i64 r, .bool false]) (results_cell_row rfl _ _ (w.heap.size + 1) 51 #[.int .i64 r5, .int .i64 r, .bool false] _ _ rfl hfr Tryz.underlying51 rfl (by kernel_rfl)) rfl ?_
            exact ⟨r5, r, j9, .rel2 q (some .over) .over, rfl, HN.out.1, HH.out.syn, rfl, fun h => ⟨H9.out h, HRQ.out⟩, HN.out.2.1, HH.out.le⟩
    · have HR1 : Hid (r ≠ -1) := hr1
      have hd : (r == -1) = false := by simpa using hr1
      have HS1 : Hid (Syn M s0 g m j1 (wsR1 emb q .fresh) (fun _ => False)) := ⟨fun h => (HH.out.syn.at' h).trans ((if_neg (by rw [HQ.out.1]; decide)).trans (if_neg (fun e => hr1 (HRQ.out.trans e)))), fun h => absurd h (by have := HST.out; omega)⟩
      have HH1 : Hid _ := HH.out.as HS1.out
      have hRl := syn_release (ws_relIn1 HE.out q) (by omega) HH1.out.run HS1.out HBD.out
      clear hst HH HS1 hr1
      go_wp2_with fail
      go_at_call 95; refine hRl.mono ?_; rintro e y2 ⟨⟨u2, rfl⟩, j2, hR2, hS2, hB2, hj2⟩
      have HH2 : Hid (HdAt w y2 x A cap m g M s0 j j2 (emb (.give q)) (WsQ Q emb P T p sp lf p r) #[.int .i64 P, .int .i64 T, .int .i64 G] 51 #[.int .i64 0, .int .i64 0, .bool false] y1.heap.size #[.int .i64 p, .int .i64 r, .bool false]) := HH1.out.go hR2 (hS2.weak (fun q' h => by
        rcases h with h | h | h
        · exact h.elim
        · exact .inr ⟨.rel1 q .fresh, _, rfl, h, rfl, HRQ.out⟩
        · exact .inr ⟨.rel1 q .pass, _, rfl, h, rfl, HRQ.out⟩)) hB2 hj2
      clear hRl hR2 hS2 hB2 hj2 HH1 sc k0 k1 k2 HST hy1
      generalize y1.heap.size = o at *
      have k0 := HH2.out.cfg.cell 0 (v := .int .i64 P) rfl
      have k1 := HH2.out.cfg.cell 1 (v := .int .i64 T) rfl
      have k2 := HH2.out.cfg.cell 2 (v := .int .i64 G) rfl
      have hTh := rthrAt_all P T G r 1 y2 HP.out.1 HP.out.2.2 (by omega)
      have hWd := fun Y => rws_word Y p sp
      have HAX : Hid (M.ax (emb (.give q)) = some (axSt (wd (20 + P * 264) T 3 r 1) (wkWord p sp))) := by rw [HRQ.out]; exact HE.out.ax (.give q) _ rfl
      have HAX2 : Hid (M.ax (emb (.note q .fresh)) = some (axSt (wd (20 + P * 264) T 3 r 0) 1)) := by rw [HRQ.out]; exact HE.out.ax (.note q .fresh) _ rfl
      have HAc : Hid (∀ Y, Below y2.heap.size y2 Y → _) := fun Y (hY : Below y2.heap.size y2 Y) => syn_store (HH2.out.low hY).run HH2.out.syn HBD.out (wd (20 + P * 264) T 3 r 1) (wkWord p sp) (fun _ => HAX.out)
      have HWk : Hid (∀ {j : Nat} {w : World} {Q : σ → Prop}, RunOn w x A cap m g (M.rj s0 g m j) → Syn M s0 g m j (emb (.note q .fresh)) Q → Calls Tryz.prog 171 #[.pointer (some ⟨x, 0, none⟩), .agg #[.int .i64 P, .int .i64 T, .int .i64 G] , .int .i64 r] w fun e w' => (∃ u, e = .returned u) ∧ RunOn w' x A cap m g (M.rj s0 g m (j + 1)) ∧ Syn M s0 g m (j + 1) (emb (.note q .over)) (fun q' => Q q' ∨ q' = emb (.note q .fresh)) ∧ But [x] w w') := fun hR hS => syn_nwake HAX2.out (fun v => HE.out.nx (.note q .fresh) _ v rfl) HP.out.1 HP.out.2 hR hS HBD.out
      generalize wkWord p sp = ww at *
      generalize wd (20 + P * 264) T 3 r 1 = n1 at *
      go_wp2_with fail
      go_at_call 169; refine hTh.mono ?_; rintro e y5 ⟨rfl, h5⟩
      have hA := HAc.out y5 h5
      have HH5 : Hid _ := HH2.out.low h5
      clear hTh h5 k0 k1 k2 HAc HH2
      go_wp2_with fail
      go_at_call 170; refine (hWd _).mono ?_; rintro e y9 ⟨rfl, rfl⟩
      clear hWd
      go_wp2_with fail
      go_at_call 92; refine hA.mono ?_; rintro e y6 ⟨⟨u, rfl⟩, v6, hK⟩
      have HH6 : Hid (HdAt w y6 x A cap m g M s0 j (j2 + 1) (emb (.note q .fresh)) (WsQ Q emb P T p sp lf p r) #[.int .i64 P, .int .i64 T, .int .i64 G] 51 #[.int .i64 0, .int .i64 0, .bool false] o #[.int .i64 p, .int .i64 r, .bool false]) := by
        have h := HH5.out.step hK
        rw [HE.out.nx (.give q) _ _ rfl] at h
        exact h.as (h.syn.weak (fun q' h' => by
          rcases h' with h' | h'
          · exact .inr ⟨.give q, _, rfl, h', rfl, HRQ.out⟩
          · exact h'))
      clear hA hK HH5
      have sc := HH6.out.stop
      have k0 := HH6.out.cfg.cell 0 (v := .int .i64 P) rfl
      have k1 := HH6.out.cfg.cell 1 (v := .int .i64 T) rfl
      have k2 := HH6.out.cfg.cell 2 (v := .int .i64 G) rfl
      by_cases hst : m < j2 + 1
      · rw [decide_eq_true hst] at sc
        have HST : Hid (m < j2 + 1) := hst
        have hWk := HWk.out HH6.out.run HH6.out.syn
        clear hst
        go_wp2_with fail
        go_at_call 171; refine hWk.mono ?_; rintro e y9 ⟨⟨u9, rfl⟩, hR9, hS9, hB9⟩
        have HH : Hid (HdAt w y9 x A cap m g M s0 j (j2 + 1 + 1) (emb (.note q .over)) (WsQ Q emb P T p sp lf p r) #[.int .i64 P, .int .i64 T, .int .i64 G] 51 #[.int .i64 0, .int .i64 0, .bool false] o #[.int .i64 p, .int .i64 r, .bool false]) := HH6.out.go hR9 ⟨hS9.at', fun h => HH6.out.syn.past HST.out⟩ hB9 (Nat.le_succ _)
        clear hWk hR9 hS9 hB9 sc HH6 k0 k1 k2
        have o0 := HH.out.out.cell 0 (v := .int .i64 p) rfl
        have o1 := HH.out.out.cell 1 (v := .int .i64 r) rfl
        have o2 := HH.out.out.cell 2 (v := .bool false) rfl
        have r0 := HH.out.res.cell 0 (v := .int .i64 0) rfl
        have r1 := HH.out.res.cell 1 (v := .int .i64 0) rfl
        have r2 := HH.out.res.cell 2 (v := .bool false) rfl
        have f0 := HH.out.res.fro 0
        have f1 := HH.out.res.fro 1
        have f2 := HH.out.res.fro 2
        have HN : Hid _ := HH.out.ret (a := .int .i64 p) (b := .int .i64 r) (c := .bool false) rfl
        go_wp2_with fail
        generalize ((y9.setCell ⟨w.heap.size + 1, 0, none⟩ (.int .i64 p)).setCell ⟨w.heap.size + 1, 1, none⟩ (.int .i64 r)).setCell ⟨w.heap.size + 1, 2, none⟩ (.bool false) = yz at *
        have hfr := HN.out.2.2
        refine bodyPost_ret (v := .agg #[.int .i64 p, .int .i64 r, .bool false]) (results_cell_row rfl _ _ (w.heap.size + 1) 51 #[.int .i64 p, .int .i64 r, .bool false] _ _ rfl hfr Tryz.underlying51 rfl (by kernel_rfl)) rfl ?_
        exact ⟨p, r, _, .note q .over, rfl, HN.out.1, HH.out.syn, rfl, fun h => absurd h (by have := HST.out; omega), HN.out.2.1, HH.out.le⟩
      · rw [decide_eq_false hst] at sc
        have HST : Hid (j2 + 1 ≤ m) := (by omega : j2 + 1 ≤ m)
        have HS6 : Hid (Syn M s0 g m (j2 + 1) (emb (.note q .fresh)) (fun _ => False)) := ⟨HH6.out.syn.at', fun h => absurd h (by have := HST.out; omega)⟩
        have HH7 : Hid (HdAt w (y6.setCell ⟨o, 0, none⟩ (.int .i64 (-1))) x A cap m g M s0 j (j2 + 1) (emb (.note q .fresh)) (fun _ => False) #[.int .i64 P, .int .i64 T, .int .i64 G] 51 #[.int .i64 0, .int .i64 0, .bool false] o #[.int .i64 (-1), .int .i64 r, .bool false]) := (HH6.out.as HS6.out).set 0 (.int .i64 (-1))
        have hWk := HWk.out HH7.out.run HH7.out.syn
        have o0 := HH6.out.out.cell 0 (v := .int .i64 p) rfl
        have f0 := HH6.out.out.fro 0
        have hne : o ≠ w.heap.size := by have := HH6.out.lo; omega
        have k0' := HH7.out.cfg.cell 0 (v := .int .i64 P) rfl
        have k1' := HH7.out.cfg.cell 1 (v := .int .i64 T) rfl
        have k2' := HH7.out.cfg.cell 2 (v := .int .i64 G) rfl
        clear hst
        go_wp2_with fail
        clear o0 f0 k0 k1 k2 k0' k1' k2'
        generalize y6.setCell ⟨o, 0, none⟩ (.int .i64 (-1)) = V at *
        go_at_call 171; refine hWk.mono ?_; rintro e y9 ⟨⟨u9, rfl⟩, hR9, hS9, hB9⟩
        have HH : Hid (HdAt w y9 x A cap m g M s0 j (j2 + 1 + 1) (emb (.note q .over)) (WsQ Q emb P T p sp lf (-1) r) #[.int .i64 P, .int .i64 T, .int .i64 G] 51 #[.int .i64 0, .int .i64 0, .bool false] o #[.int .i64 (-1), .int .i64 r, .bool false]) := HH7.out.go hR9 (hS9.weak (fun q' h => by
          rcases h with h | h
          · exact h.elim
          · exact .inr ⟨.note q .fresh, _, rfl, h, rfl, HRQ.out⟩)) hB9 (Nat.le_succ _)
        clear hWk hR9 hS9 hB9 sc HH6 HH7 HS6
        have o0 := HH.out.out.cell 0 (v := .int .i64 (-1)) rfl
        have o1 := HH.out.out.cell 1 (v := .int .i64 r) rfl
        have o2 := HH.out.out.cell 2 (v := .bool false) rfl
        have r0 := HH.out.res.cell 0 (v := .int .i64 0) rfl
        have r1 := HH.out.res.cell 1 (v := .int .i64 0) rfl
        have r2 := HH.out.res.cell 2 (v := .bool false) rfl
        have f0 := HH.out.res.fro 0
        have f1 := HH.out.res.fro 1
        have f2 := HH.out.res.fro 2
        have HN : Hid _ := HH.out.ret (a := .int .i64 (-1)) (b := .int .i64 r) (c := .bool false) rfl
        go_wp2_with fail
        generalize ((y9.setCell ⟨w.heap.size + 1, 0, none⟩ (.int .i64 (-1))).setCell ⟨w.heap.size + 1, 1, none⟩ (.int .i64 r)).setCell ⟨w.heap.size + 1, 2, none⟩ (.bool false) = yz at *
        have hfr := HN.out.2.2
        refine bodyPost_ret (v := .agg #[.int .i64 (-1), .int .i64 r, .bool false]) (results_cell_row rfl _ _ (w.heap.size + 1) 51 #[.int .i64 (-1), .int .i64 r, .bool false] _ _ rfl hfr Tryz.underlying51 rfl (by kernel_rfl)) rfl ?_
        exact ⟨-1, r, _, .note q .over, rfl, HN.out.1, HH.out.syn, rfl, fun _ => ⟨rfl, HRQ.out⟩, HN.out.2.1, HH.out.le⟩
end Go.Proofs.YtfdpikkinlljlaaGreat
