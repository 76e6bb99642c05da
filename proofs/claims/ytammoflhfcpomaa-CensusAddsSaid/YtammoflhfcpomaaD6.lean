/- An event is counted: 2 in. -/
import Derived.Test.YtammoflhfcpomaaC4
namespace Go.Proofs.Ytammoflhfcpomaa
open Go Go.RowKit
set_option linter.unusedVariables false
set_option linter.unusedSimpArgs false
set_option maxRecDepth 100000

set_option maxHeartbeats 4000000 in
theorem count_D6 (w : World) (x g h gs ps : Nat) (ev : Ev) (K : Nat → Int) (R : Nat → Nat → Int) (P : Nat → Int) (most now : Int) (c : Cen w x g h gs ps K R P most now) (hK : ∀ j, 0 ≤ K j ∧ K j ≤ 900) (hR : ∀ i f, 0 ≤ R i f ∧ R i f ≤ 900) (hP : ∀ j, 0 ≤ P j ∧ P j ≤ 900) (hnow : -900 ≤ now ∧ now ≤ 900) (hmost : 0 ≤ most ∧ most ≤ 900) (hgs : gs ≤ 1000) (hps : ps ≤ 1000) (hk : ev.kind = 2) (q : Nat) (hq : ev.other = (q : Int)) (hqg : q < gs) :
    Calls Try.prog 11 #[.pointer (some ⟨x, 0, none⟩), .agg #[.int .i64 ev.kind, .int .i64 ev.g, .int .i64 ev.other, .int .i64 ev.thread, .int .i64 ev.proc]] w (Cnt w x g h gs ps ev K R P most now) := by
  have HK := Lib.hid hk
  have HQ := Lib.hid hq
  have HQG := Lib.hid hqg
  clear hk hq hqg
  have hlt := c.lt
  have HRR := Lib.hid hR
  have HPP := Lib.hid hP
  have HB0 := Lib.hid ((But.refl [] w).alloc (.cells #[.int .i64 ev.kind, .int .i64 ev.g, .int .i64 ev.other, .int .i64 ev.thread, .int .i64 ev.proc] 40))
  have HC := Lib.hid (c.but HB0.out (by simp) (by simp) (by simp))
  have HE := Lib.hid (heap_alloc_new w (.cells #[.int .i64 ev.kind, .int .i64 ev.g, .int .i64 ev.other, .int .i64 ev.thread, .int .i64 ev.proc] 40))
  clear c hR hP
  generalize hz : w.heap.size = z at hlt HE
  have HZ := Lib.hid hz
  generalize hX : w.alloc (.cells #[.int .i64 ev.kind, .int .i64 ev.g, .int .i64 ev.other, .int .i64 ev.thread, .int .i64 ev.proc] 40) = X at HB0 HC HE
  have HX := Lib.hid hX
  have hkl := kn_lt ev.kind
  have HKk := Lib.hid (hK (kn ev.kind))
  have kx := HC.out.main.k (kn ev.kind) hkl
  have fx := HC.out.main.f (kn ev.kind)
  have z0 : X.cell? ⟨z, 0, none⟩ = some (.int .i64 ev.kind) := by have := HE.out; simp [World.cell?, this]
  have KN := Lib.hid (fun w => known_any w ev.kind)
  have CH := Lib.hid (fun w => change_any w ev.kind)
  have HKE := Lib.hid (show (fun i => if i = kn ev.kind then K (kn ev.kind) + 1 else K i) = upK K ev.kind from upK_set K ev.kind)
  have HLT := Lib.hid hlt
  have HNM := Lib.hid (And.intro hnow (And.intro hmost (ch_bd ev.kind)))
  have HGP := Lib.hid (And.intro hgs hps)
  have HSI := Lib.hid hK
  clear hX hK
  go_enter Try.func11, Try.ntmps11
  go_wp2_with fail
  rw [HX.out]
  clear hz
  have hki : ((kn ev.kind : Nat) : Int) < 12 := by omega
  go_region_with (first | (go_at_call 18; (with_reducible refine (KN.out _).mono ?_); rintro e w3 ⟨rfl, rfl⟩) | fail)
  rw [show IntKind.i64.wrap (K (kn ev.kind) + 1) = K (kn ev.kind) + 1 from IntWalk.i64_in _ (by have := HKk.out; omega)]
  have HC1 := Lib.hid (show Cen (X.setCell ⟨x, kn ev.kind, none⟩ (.int .i64 (K (kn ev.kind) + 1))).drew x g h gs ps (upK K ev.kind) R P most now from cen_k HC.out (kn ev.kind) hkl _ HKE.out)
  have HB1 := Lib.hid (show But [x, g, h] w (X.setCell ⟨x, kn ev.kind, none⟩ (.int .i64 (K (kn ev.kind) + 1))).drew from ((HB0.out.more (by simp)).set (Or.inl (by simp)) _ _).drew)
  have HE1 := Lib.hid (show (X.setCell ⟨x, kn ev.kind, none⟩ (.int .i64 (K (kn ev.kind) + 1))).drew.heap[z]? = _ from (heap_set_ne X (by have := HLT.out; omega) _ _).trans HE.out)
  generalize (X.setCell ⟨x, kn ev.kind, none⟩ (.int .i64 (K (kn ev.kind) + 1))).drew = Y at HC1 HB1 HE1 ⊢
  clear kx fx z0 hki hkl
  have y0 : Y.cell? ⟨z, 0, none⟩ = some (.int .i64 ev.kind) := by have := HE1.out; simp [World.cell?, this]
  have yn := HC1.out.main.s.2.2.2
  have fn := HC1.out.main.f 15
  go_wp2_with fail
  go_region_with (first | (go_at_call 19; (with_reducible refine (CH.out _).mono ?_); rintro e w3 ⟨rfl, rfl⟩) | fail)
  all_goals
    rw [show IntKind.i64.wrap (now + ch ev.kind) = now + ch ev.kind from IntWalk.i64_in _ (by have := HNM.out; omega)]
    obtain ⟨nw, HNW⟩ : ∃ nw, Hid (now + ch ev.kind = nw) := ⟨_, Lib.hid rfl⟩
    have hnw : -1000 ≤ nw ∧ nw ≤ 1000 := by have := HNM.out; have := HNW.out; omega
    rw [HNW.out]
    have HC2 := Lib.hid (show Cen (Y.setCell ⟨x, 15, none⟩ (.int .i64 nw)).drew x g h gs ps (upK K ev.kind) R P most nw from cen_now HC1.out nw)
    have HB2 := Lib.hid (show But [x, g, h] w (Y.setCell ⟨x, 15, none⟩ (.int .i64 nw)).drew from (HB1.out.set (Or.inl (by simp)) _ _).drew)
    have HE2 := Lib.hid (show (Y.setCell ⟨x, 15, none⟩ (.int .i64 nw)).drew.heap[z]? = _ from (heap_set_ne Y (by have := HLT.out; omega) _ _).trans HE1.out)
    generalize (Y.setCell ⟨x, 15, none⟩ (.int .i64 nw)).drew = V at HC2 HB2 HE2 ⊢
    clear y0 yn fn
    have vm := HC2.out.main.s.2.2.1
    have vn := HC2.out.main.s.2.2.2
    have fm := HC2.out.main.f 14
    go_wp2_with fail
    obtain ⟨mx, HMX, hmx⟩ : ∃ mx, Hid (max most nw = mx) ∧ (0 ≤ mx ∧ mx ≤ 1000) := ⟨_, Lib.hid rfl, by omega⟩
    have HCN := Lib.hid (show ∀ (L : World), CntK L x g h gs ps ev K R P mx nw w → Cnt w x g h gs ps ev K R P most now (.returned (.tuple #[])) L from by
      intro L h0
      have e1 := HMX.out
      have e2 := HNW.out
      subst e1; subst e2
      exact ⟨rfl, h0.1, h0.2⟩)
    rcases (show most < nw ∨ ¬ most < nw by omega) with hmm | hmm
    all_goals
      go_region
      all_goals
        first | rw [show nw = mx by have := HMX.out; omega] | rw [show most = mx by have := HMX.out; omega]
        have HC3 := Lib.hid (show Cen (V.setCell ⟨x, 14, none⟩ (.int .i64 mx)).drew x g h gs ps (upK K ev.kind) R P mx nw from cen_most HC2.out mx)
        have HB3 := Lib.hid (show But [x, g, h] w (V.setCell ⟨x, 14, none⟩ (.int .i64 mx)).drew from (HB2.out.set (Or.inl (by simp)) _ _).drew)
        have HE3 := Lib.hid (show (V.setCell ⟨x, 14, none⟩ (.int .i64 mx)).drew.heap[z]? = _ from (heap_set_ne V (by have := HLT.out; omega) _ _).trans HE2.out)
        generalize (V.setCell ⟨x, 14, none⟩ (.int .i64 mx)).drew = U at HC3 HB3 HE3 ⊢
        clear vm vn fm hmm
        have u0 : U.cell? ⟨z, 0, none⟩ = some (.int .i64 ev.kind) := by have := HE3.out; simp [World.cell?, this]
        rw [HK.out] at u0
        have u1 : U.cell? ⟨z, 2, none⟩ = some (.int .i64 (q : Int)) := by have := HE3.out; simp [World.cell?, this, HQ.out]
        go_wp2_with fail
        go_at_call 20
        refine (row_in U x g h gs ps q _ mx nw HC3.out.main HQG.out HGP.out.1).mono ?_
        rintro e w3 ⟨rfl, rfl⟩
        have rq : U.cell? ⟨g, q * 3 + 2, none⟩ = some (.int .i64 (R q 2)) := (HC3.out.rows.c q HQG.out).2.2
        have rf : U.frozen? ⟨g, q * 3 + 2, none⟩ = false := HC3.out.rows.f _
        have rb := HRR.out q 2
        have HC4 := Lib.hid (show Cen (U.setCell ⟨g, q * 3 + 2, none⟩ (.int .i64 (R q 2 + 1))) x g h gs ps (upK K ev.kind) (upR R ev) P mx nw from cen_in HC3.out ev q 2 HQG.out (by omega) (hit_at2 ev q HK.out HQ.out))
        have HB4 := Lib.hid (show But [x, g, h] w (U.setCell ⟨g, q * 3 + 2, none⟩ (.int .i64 (R q 2 + 1))) from HB3.out.set (Or.inl (by simp)) _ _)
        have HE4 := Lib.hid (show (U.setCell ⟨g, q * 3 + 2, none⟩ (.int .i64 (R q 2 + 1))).heap[z]? = _ from (heap_set_ne U (by have := HLT.out; omega) _ _).trans HE3.out)
        skip
        go_wp2_with fail
        exact bodyPost_end (results_none rfl _ _ _) rfl (HCN.out _ ⟨(upQ_no ev P (by have := HK.out; omega) (by have := HK.out; omega)) ▸ HC4.out, HB4.out⟩)
end Go.Proofs.Ytammoflhfcpomaa
