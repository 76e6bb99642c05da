/- CensusAdds: both added. -/
import Derived.Test.YtammoflhfcpomaaS3
namespace Go.Proofs.Ytammoflhfcpomaa
open Go Go.RowKit
set_option linter.unusedVariables false
set_option linter.unusedSimpArgs false
set_option maxRecDepth 100000

theorem below_set {B b : Nat} {V w : World} (h : Below B V w) (hb : B ≤ b) (i : Nat) (u : Value) : Below B V (w.setCell ⟨b, i, none⟩ u) :=
  ⟨h.os, h.tape, h.output, by rw [size_set]; exact h.size, fun k hk => (heap_set_ne w (by omega) i u).trans (h.block k hk)⟩
/-- The first j of all events. -/
def evs (a : Nat → Ev) (j : Nat) : Nat → Ev := fun i => if i < j then a i else ⟨0, 0, 0, 0, 0⟩
theorem evs_s (a : Nat → Ev) (j : Nat) : (fun i => if i = j then a j else evs a j i) = evs a (j + 1) := by
  funext i
  unfold evs
  by_cases h : i = j
  · subst h; simp
  · by_cases h2 : i < j
    · rw [if_neg h, if_pos h2, if_pos (by omega)]
    · rw [if_neg h, if_neg h2, if_neg (by omega)]
theorem evs_0 (a : Nat → Ev) : (fun _ => (⟨0, 0, 0, 0, 0⟩ : Ev)) = evs a 0 := by funext i; unfold evs; rw [if_neg (by omega)]
set_option maxHeartbeats 4000000 in
theorem adds_like (p0 q0 : Nat) (T0 T1 : Int) (n m cp cq : Nat) (A B : Option Addr) (W : World) (hn : n ≤ 50) (hm : m ≤ 50) (hp0 : 1 ≤ p0 ∧ p0 ≤ 64) (hg0 : 1 ≤ q0 ∧ q0 ≤ 60) (hcap : n ≤ cp) (hcap2 : cp ≤ 9223372036854775807) (hA0 : A = none → cp = 0) (hcaq : m ≤ cq) (hcaq2 : cq ≤ 9223372036854775807) (hB0 : B = none → cq = 0) (ev : Nat → Ev) (hs : SeesE W W.heap.size A n ev) (eu : Nat → Ev) (hu : SeesE W W.heap.size B m eu) :
    Calls Try.prog 4 #[.agg #[.int .i64 (p0 : Int), .int .i64 T0, .int .i64 (q0 : Int), .int .i64 (p0 : Int), .int .i64 T1, .int .i64 (q0 : Int)], .slice A n cp, .slice B m cq] W fun e W' => e = .returned (.bool true) ∧ Below W.heap.size W W' := by
  have HA := Lib.hid awake_any
  have HB0 := Lib.hid (fun o => (Below.refl W.heap.size W).alloc (Nat.le_refl _) o)
  have HS0 := Lib.hid (show ∀ o, SeesE (W.alloc o) (W.alloc o).heap.size A n ev from fun o => by
    have := hs.bel (HB0.out o)
    exact fun h => by obtain ⟨b, off, e, h1, h2⟩ := this h; exact ⟨b, off, e, by rw [size_al]; omega, h2⟩)
  have HOF0 := Lib.hid (show ∀ w, SeesE w w.heap.size A n ev → _ from fun w hw => of_ok w p0 q0 T0 n cp A ev hp0 hg0 (by omega) hw)
  have HS1 := Lib.hid (show ∀ w, Below W.heap.size W w → SeesE w w.heap.size B m eu from fun w hw h => by
    obtain ⟨b, off, e, h1, h2⟩ := hu.bel hw h; exact ⟨b, off, e, Nat.lt_of_lt_of_le h1 hw.size, h2⟩)
  have HOF1 := Lib.hid (show ∀ w, SeesE w w.heap.size B m eu → _ from fun w hw => of_ok w p0 q0 T1 m cq B eu hp0 hg0 (by omega) hw)
  have i1 : (n : Int) ≤ 50 := by omega
  have i2 : (m : Int) ≤ 50 := by omega
  have HCAP := Lib.hid (And.intro hcap (And.intro hcap2 (And.intro hA0 (And.intro hcaq (And.intro hcaq2 hB0)))))
  clear hcap hcap2 hA0 hcaq hcaq2 hB0
  obtain ⟨s, hs'⟩ : ∃ s : Nat, s = n + m := ⟨_, rfl⟩
  have HSN := Lib.hid hs'
  have hns : (n : Int) + (m : Int) = (s : Int) := by omega
  have hsb : s ≤ 100 := by omega
  have HS := Lib.hid hs
  have HU := Lib.hid hu
  clear hs hu
  obtain ⟨cs, hcs, hmk⟩ := make24 s (by omega)
  have HCS := Lib.hid hcs
  clear hcs hs'
  have i3 : (q0 : Int) ≤ 60 := by omega
  have i4 : (q0 : Int) ≤ 60 := by omega
  go_enter Try.func4, Try.ntmps4
  go_wp2_with fail
  go_at_call 6
  refine (HOF0.out _ (HS0.out _)).mono ?_
  rintro e w1 ⟨x0, g0, h0, rfl, hr0, hi0, hb, hg0lo, hh0lo⟩
  have HB1 := Lib.hid ((HB0.out (.cells #[.int .i64 (p0 : Int), .int .i64 T0, .int .i64 (q0 : Int), .int .i64 (p0 : Int), .int .i64 T1, .int .i64 (q0 : Int)] 37)).trans (hb.mono (by rw [size_al]; omega)))
  have hbx := (hb.block W.heap.size (by rw [size_al]; omega)).trans (heap_alloc_new W (.cells #[.int .i64 (p0 : Int), .int .i64 T0, .int .i64 (q0 : Int), .int .i64 (p0 : Int), .int .i64 T1, .int .i64 (q0 : Int)] 37))
  have hlt := block_lt hbx
  obtain ⟨c0, c1, c2, c3, c4, c5⟩ := cells6 ((heap_al w1 hlt (.cells (cenCells (fun k => ((cK ev n k : Nat) : Int)) g0 q0 h0 p0 (mostN ev n) (nowN ev n)) 30)).trans hbx)
  have HR0 := Lib.hid hr0
  have HI0 := Lib.hid hi0
  have HLO0 := Lib.hid (And.intro hg0lo hh0lo)
  clear hr0 hi0 hg0lo hh0lo
  unfold cenVal
  have HBX := Lib.hid hbx
  have HB1A := Lib.hid (HB1.out.alloc HB1.out.size (.cells (cenCells (fun k => ((cK ev n k : Nat) : Int)) g0 q0 h0 p0 (mostN ev n) (nowN ev n)) 30))
  clear hb hbx
  unfold cenCells at c0 c1 c2 c3 c4 c5 HB1A ⊢
  go_wp2_with fail
  go_at_call 6
  refine (HOF1.out _ (HS1.out _ HB1A.out)).mono ?_
  rintro e w2 ⟨x1, g1, h1, rfl, hr1, hi1, hb2, _, _⟩
  have HB2 := Lib.hid (HB1A.out.trans (hb2.mono HB1A.out.size))
  have hbx2 := (hb2.block W.heap.size (by rw [size_al]; have := block_lt HBX.out; omega)).trans ((heap_al w1 (block_lt HBX.out) (.cells (cenCells (fun k => ((cK ev n k : Nat) : Int)) g0 q0 h0 p0 (mostN ev n) (nowN ev n)) 30)).trans HBX.out)
  have hx2 := (hb2.block w1.heap.size (by rw [size_al]; omega)).trans (heap_alloc_new w1 (.cells (cenCells (fun k => ((cK ev n k : Nat) : Int)) g0 q0 h0 p0 (mostN ev n) (nowN ev n)) 30))
  have HB2A := Lib.hid (HB2.out.alloc HB2.out.size (.cells (cenCells (fun k => ((cK eu m k : Nat) : Int)) g1 q0 h1 p0 (mostN eu m) (nowN eu m)) 30))
  have HBX3 := Lib.hid ((heap_al w2 (block_lt hbx2) (.cells (cenCells (fun k => ((cK eu m k : Nat) : Int)) g1 q0 h1 p0 (mostN eu m) (nowN eu m)) 30)).trans hbx2)
  have HX3 := Lib.hid ((heap_al w2 (block_lt hx2) (.cells (cenCells (fun k => ((cK eu m k : Nat) : Int)) g1 q0 h1 p0 (mostN eu m) (nowN eu m)) 30)).trans hx2)
  have HY3 := Lib.hid (show (w2.alloc (.cells (cenCells (fun k => ((cK eu m k : Nat) : Int)) g1 q0 h1 p0 (mostN eu m) (nowN eu m)) 30)).heap[w2.heap.size]? = some (.cells (cenCells (fun k => ((cK eu m k : Nat) : Int)) g1 q0 h1 p0 (mostN eu m) (nowN eu m)) 30 (0, 0)) from heap_alloc_new _ _)
  have hb13 := ((Below.refl w1.heap.size w1).alloc (Nat.le_refl _) (.cells (cenCells (fun k => ((cK ev n k : Nat) : Int)) g0 q0 h0 p0 (mostN ev n) (nowN ev n)) 30)).trans (hb2.mono (by rw [size_al]; omega))
  have hb23 := (Below.refl w2.heap.size w2).alloc (Nat.le_refl _) (.cells (cenCells (fun k => ((cK eu m k : Nat) : Int)) g1 q0 h1 p0 (mostN eu m) (nowN eu m)) 30)
  have hb14 := hb13.alloc (by have := hb13.size; omega) (.cells (cenCells (fun k => ((cK eu m k : Nat) : Int)) g1 q0 h1 p0 (mostN eu m) (nowN eu m)) 30)
  have HR0' := Lib.hid (HR0.out.but (But.of_below (l := []) hb14) (by simp))
  have HI0' := Lib.hid (HI0.out.but (But.of_below (l := []) hb14) (by simp))
  have HR1' := Lib.hid (hr1.but (But.of_below (l := []) hb23) (by simp))
  have HI1' := Lib.hid (hi1.but (But.of_below (l := []) hb23) (by simp))
  have HAD := Lib.hid (add_ok (w2.alloc (.cells (cenCells (fun k => ((cK eu m k : Nat) : Int)) g1 q0 h1 p0 (mostN eu m) (nowN eu m)) 30)) ev eu n m g0 h0 g1 h1 q0 p0 (by omega) (by omega) (by omega) (by omega) HR0'.out HI0'.out HR1'.out HI1'.out)
  rw [← HSN.out] at HAD
  clear c0 c1 c2 c3 c4 c5 hb2 hbx2 hx2 hb13 hb23 hb14 hr1 hi1 HR0 HI0 HBX HB1A HB1 HLO0
  unfold cenVal
  unfold cenCells
  go_wp2_with (first | (refine wpList_load_row rfl 30 _ rfl w1.heap.size rfl 30 (cenCells (fun k => ((cK ev n k : Nat) : Int)) g0 q0 h0 p0 (mostN ev n) (nowN ev n)) (0, 0) _ HX3.out Try.underlying30 rfl info30 ?_) | (refine wpList_load_row rfl 30 _ rfl w2.heap.size rfl 30 (cenCells (fun k => ((cK eu m k : Nat) : Int)) g1 q0 h1 p0 (mostN eu m) (nowN eu m)) (0, 0) _ HY3.out Try.underlying30 rfl info30 ?_) | fail)
  go_at_call 9
  refine (show Calls Try.prog 9 #[.agg (cenCells (fun k => ((cK ev n k : Nat) : Int)) g0 q0 h0 p0 (mostN ev n) (nowN ev n)), .agg (cenCells (fun k => ((cK eu m k : Nat) : Int)) g1 q0 h1 p0 (mostN eu m) (nowN eu m))] _ _ from HAD.out).mono ?_
  rintro e w3 ⟨g2, h2, rfl, hr2, hi2, hb3⟩
  clear HAD
  have HB3 := Lib.hid (HB2A.out.trans (hb3.mono HB2A.out.size))
  obtain ⟨V, hV⟩ : ∃ V, V = w3.alloc (.cells (cenCells (fun k => ((cK (cat ev eu n) s k : Nat) : Int)) g2 q0 h2 p0 (mostN (cat ev eu n) s) (nowN (cat ev eu n) s)) 30) := ⟨_, rfl⟩
  have hb3a := (hb3.alloc hb3.size (.cells (cenCells (fun k => ((cK (cat ev eu n) s k : Nat) : Int)) g2 q0 h2 p0 (mostN (cat ev eu n) s) (nowN (cat ev eu n) s)) 30))
  rw [← hV] at hb3a
  have HBV := Lib.hid (show Below W.heap.size W V from HB2A.out.trans (hb3a.mono HB2A.out.size))
  have HBXV := Lib.hid ((hb3a.block W.heap.size (block_lt HBX3.out)).trans HBX3.out)
  have HXV := Lib.hid ((hb3a.block w1.heap.size (block_lt HX3.out)).trans HX3.out)
  have HYV := Lib.hid ((hb3a.block w2.heap.size (block_lt HY3.out)).trans HY3.out)
  have HZV := Lib.hid (show V.heap[w3.heap.size]? = some (.cells (cenCells (fun k => ((cK (cat ev eu n) s k : Nat) : Int)) g2 q0 h2 p0 (mostN (cat ev eu n) s) (nowN (cat ev eu n) s)) 30 (0, 0)) from by rw [hV]; exact heap_alloc_new _ _)
  have HR0V := Lib.hid (HR0'.out.but (But.of_below (l := []) hb3a) (by simp))
  have HI0V := Lib.hid (HI0'.out.but (But.of_below (l := []) hb3a) (by simp))
  have HR1V := Lib.hid (HR1'.out.but (But.of_below (l := []) hb3a) (by simp))
  have HI1V := Lib.hid (HI1'.out.but (But.of_below (l := []) hb3a) (by simp))
  have hb3b := (Below.refl w3.heap.size w3).alloc (Nat.le_refl _) (.cells (cenCells (fun k => ((cK (cat ev eu n) s k : Nat) : Int)) g2 q0 h2 p0 (mostN (cat ev eu n) s) (nowN (cat ev eu n) s)) 30)
  rw [← hV] at hb3b
  have HR2V := Lib.hid (hr2.but (But.of_below (l := []) hb3b) (by simp))
  have HI2V := Lib.hid (hi2.but (But.of_below (l := []) hb3b) (by simp))
  have hVs : V.heap.size = w3.heap.size + 1 := by rw [hV]; exact size_al _ _
  obtain ⟨c0, c1, c2, c3, c4, c5⟩ := cells6 HBXV.out
  rw [hV] at c0 c1 c2 c3 c4 c5
  have HV0 := Lib.hid (show Below (w3.heap.size + 1) V ((w3.alloc (.cells (cenCells (fun k => ((cK (cat ev eu n) s k : Nat) : Int)) g2 q0 h2 p0 (mostN (cat ev eu n) s) (nowN (cat ev eu n) s)) 30)).alloc (.cells cs 40)) from by
    rw [← hV, ← hVs]; exact (Below.refl _ _).alloc (Nat.le_refl _) _)
  have HE0 := Lib.hid (show EvAt ((w3.alloc (.cells (cenCells (fun k => ((cK (cat ev eu n) s k : Nat) : Int)) g2 q0 h2 p0 (mostN (cat ev eu n) s) (nowN (cat ev eu n) s)) 30)).alloc (.cells cs 40)) (w3.heap.size + 1) s (evs (cat ev eu n) 0) from by
    rw [← hV, ← hVs, ← evs_0]; exact HCS.out V)
  have HVS := Lib.hid (show V.heap.size = w3.heap.size + 1 from hVs)
  clear hb3 hb3a hb3b hr2 hi2 hV hVs HBX3 HX3 HY3 HR0' HI0' HR1' HI1' HB3 HB2A HB2 HCS
  unfold cenCells at c0 c1 c2 c3 c4 c5 ⊢
  go_wp2_with fail
  clear c0 c1 c2 c3 c4 c5 hmk
  generalize hbb : w3.heap.size + 1 = b at HV0 HE0 HVS ⊢
  have HBB := Lib.hid hbb
  clear hbb
  go_loopw [14] (fun i wr => ∃ j : Nat, j ≤ n ∧ i = .int .i64 j ∧ Below b V wr ∧ EvAt wr b s (evs (cat ev eu n) j)) (fun i _ => n - (intOf i).toNat)
  case atStart => exact ⟨0, Nat.zero_le _, rfl, HV0.out, HE0.out⟩
  case round =>
    obtain ⟨j, hj, rfl, hv, hE⟩ := hrel
    have HV := Lib.hid hv
    have HE := Lib.hid hE
    clear HV0 HE0 hv hE
    by_cases hlt : j < n
    · as_aux_lemma =>
      have hji : (j : Int) < (n : Int) := by omega
      have hjs : (j : Int) < (s : Int) := by omega
      obtain ⟨b1, off, rfl, hB1, hcs⟩ := (HS.out.bel (HBV.out.trans (HV.out.mono (by have := HVS.out; have := HBV.out.size; omega)))) (by omega)
      obtain ⟨a0, a1, a2, a3, a4⟩ := hcs j hlt
      obtain ⟨x0, x1, x2, x3, x4⟩ := HE.out.c j (by have := HSN.out; omega)
      have xf := fun o => HE.out.f o
      have HN := Lib.hid (show EvAt (((((wr.setCell ⟨b, j * 5, none⟩ (.int .i64 (ev j).kind)).setCell ⟨b, j * 5 + 1, none⟩ (.int .i64 (ev j).g)).setCell ⟨b, j * 5 + 2, none⟩ (.int .i64 (ev j).other)).setCell ⟨b, j * 5 + 3, none⟩ (.int .i64 (ev j).thread)).setCell ⟨b, j * 5 + 4, none⟩ (.int .i64 (ev j).proc)) b s (evs (cat ev eu n) (j + 1)) from by
        have := HE.out.set (j := j) (by have := HSN.out; omega) (ev j)
        rw [← cat_lo ev eu n j hlt, evs_s] at this
        rw [cat_lo ev eu n j hlt] at this
        exact this)
      have HNB := Lib.hid (show Below b V (((((wr.setCell ⟨b, j * 5, none⟩ (.int .i64 (ev j).kind)).setCell ⟨b, j * 5 + 1, none⟩ (.int .i64 (ev j).g)).setCell ⟨b, j * 5 + 2, none⟩ (.int .i64 (ev j).other)).setCell ⟨b, j * 5 + 3, none⟩ (.int .i64 (ev j).thread)).setCell ⟨b, j * 5 + 4, none⟩ (.int .i64 (ev j).proc)) from
        below_set (below_set (below_set (below_set (below_set HV.out (Nat.le_refl _) _ _) (Nat.le_refl _) _ _) (Nat.le_refl _) _ _) (Nat.le_refl _) _ _) (Nat.le_refl _) _ _)
      clear hcs
      generalize (ev j).kind = e0 at *
      generalize (ev j).g = e1 at *
      generalize (ev j).other = e2 at *
      generalize (ev j).thread = e3 at *
      generalize (ev j).proc = e4 at *
      go_wp2_with fail
      go_roundw
      case rel => exact ⟨j + 1, by omega, by go_num, HNB.out, HN.out⟩
      case measure => simp [intOf]; omega
    · obtain rfl : j = n := by omega
      obtain ⟨W4, hW4⟩ : ∃ v, v = wr := ⟨_, rfl⟩
      subst hW4
      go_wp2_with fail
      go_loopw [15] (fun i wr => ∃ q : Nat, q ≤ m ∧ i = .int .i64 q ∧ Below b V wr ∧ EvAt wr b s (evs (cat ev eu j) (j + q))) (fun i _ => m - (intOf i).toNat)
      case atStart => exact ⟨0, Nat.zero_le _, rfl, HV.out, HE.out⟩
      case round =>
        obtain ⟨q, hq, rfl, hv, hE⟩ := hrel
        have HV2 := Lib.hid hv
        have HE2 := Lib.hid hE
        clear HV HE hv hE
        by_cases hlt : q < m
        · as_aux_lemma =>
          have hji : (q : Int) < (m : Int) := by omega
          obtain ⟨t, ht⟩ : ∃ t : Nat, t = j + q := ⟨_, rfl⟩
          have hnt : (j : Int) + (q : Int) = (t : Int) := by omega
          have HTN := Lib.hid ht
          have hts : (t : Int) < (s : Int) := by have := HSN.out; omega
          have htb : t < 100 := by have := HSN.out; omega
          have hts2 : t < s := by have := HSN.out; omega
          obtain ⟨b1, off, rfl, hB1, hcs⟩ := (HU.out.bel (HBV.out.trans (HV2.out.mono (by have := HVS.out; have := HBV.out.size; omega)))) (by omega)
          obtain ⟨a0, a1, a2, a3, a4⟩ := hcs q hlt
          have HE3 := Lib.hid (show EvAt wr b s (evs (cat ev eu j) t) from by rw [ht]; exact HE2.out)
          obtain ⟨x0, x1, x2, x3, x4⟩ := HE3.out.c t hts2
          have xf := fun o => HE3.out.f o
          have hcat : cat ev eu j t = eu q := by rw [ht]; exact cat_hi ev eu j q
          have HN := Lib.hid (show EvAt (((((wr.setCell ⟨b, t * 5, none⟩ (.int .i64 (eu q).kind)).setCell ⟨b, t * 5 + 1, none⟩ (.int .i64 (eu q).g)).setCell ⟨b, t * 5 + 2, none⟩ (.int .i64 (eu q).other)).setCell ⟨b, t * 5 + 3, none⟩ (.int .i64 (eu q).thread)).setCell ⟨b, t * 5 + 4, none⟩ (.int .i64 (eu q).proc)) b s (evs (cat ev eu j) (j + (q + 1))) from by
            have := HE3.out.set (j := t) hts2 (eu q)
            rw [← hcat, evs_s] at this
            rw [hcat] at this
            rw [show j + (q + 1) = t + 1 by omega]
            exact this)
          have HNB := Lib.hid (show Below b V (((((wr.setCell ⟨b, t * 5, none⟩ (.int .i64 (eu q).kind)).setCell ⟨b, t * 5 + 1, none⟩ (.int .i64 (eu q).g)).setCell ⟨b, t * 5 + 2, none⟩ (.int .i64 (eu q).other)).setCell ⟨b, t * 5 + 3, none⟩ (.int .i64 (eu q).thread)).setCell ⟨b, t * 5 + 4, none⟩ (.int .i64 (eu q).proc)) from
            below_set (below_set (below_set (below_set (below_set HV2.out (Nat.le_refl _) _ _) (Nat.le_refl _) _ _) (Nat.le_refl _) _ _) (Nat.le_refl _) _ _) (Nat.le_refl _) _ _)
          clear hcs hcat ht hts2 HE2 HE3 HV2
          generalize (eu q).kind = e0 at *
          generalize (eu q).g = e1 at *
          generalize (eu q).other = e2 at *
          generalize (eu q).thread = e3 at *
          generalize (eu q).proc = e4 at *
          go_wp2_with fail
          go_roundw
          case rel =>
            first
              | exact ⟨q + 1, by omega, by go_num, HNB.out, HN.out⟩
              | (repeat apply Exists.intro
                 exact ⟨⟨q + 1, by omega, by go_num, HNB.out, HN.out⟩, rfl⟩)
          case measure => simp [intOf]; omega
        · obtain rfl : q = m := by omega
          as_aux_lemma =>
          obtain ⟨W5, hW5⟩ : ∃ v, v = wr := ⟨_, rfl⟩
          subst hW5
          have HBR := Lib.hid (show ∀ X, Below b V X → Below W.heap.size W X from fun X hX => HBV.out.trans (hX.mono (by have := HVS.out; have := HBV.out.size; omega)))
          have HES := Lib.hid (HE2.out.to (ev' := cat ev eu j) (fun i hi => by unfold evs; rw [if_pos (by have := HSN.out; omega)]))
          have HKP := Lib.hid (show ∀ X k o, Below b V X → V.heap[k]? = some o → X.heap[k]? = some o from fun X k o hX hk => (hX.block k (by have := HVS.out; have := block_lt hk; omega)).trans hk)
          have HBT := Lib.hid (show ∀ X, Below b V X → But [] V X from fun X hX => ⟨hX.os, hX.tape, hX.output, hX.size, fun k hk _ => hX.block k (by have := HVS.out; omega)⟩)
          clear HE2
          go_wp2_with fail
          refine (HA.out _).mono ?_
          rintro e w5 ⟨rfl, hb5⟩
          have hV5 : Below b V w5 := HV2.out.trans (hb5.mono (by have := HV2.out.size; have := HVS.out; omega))
          have HV5 := Lib.hid hV5
          have HE5 := Lib.hid (HES.out.bel hb5)
          obtain ⟨c0, c1, c2, c3, c4, c5⟩ := cells6 (HKP.out _ _ _ hV5 HBXV.out)
          have HZ5 := Lib.hid (HKP.out _ _ _ hV5 HZV.out)
          clear hb5 HV2 HES
          have kk : ∀ (i : Nat) (v : Value), (cenCells (fun k => ((cK (cat ev eu j) s k : Nat) : Int)) g2 q0 h2 p0 (mostN (cat ev eu j) s) (nowN (cat ev eu j) s))[i]? = some v → w5.cell? ⟨w3.heap.size, i, none⟩ = some v := fun i v hv => by simp only [World.cell?, HZ5.out]; exact hv
          have k0 := kk 0 _ rfl
          have k1 := kk 1 _ rfl
          have k2 := kk 2 _ rfl
          have k3 := kk 3 _ rfl
          have k4 := kk 4 _ rfl
          have k5 := kk 5 _ rfl
          have k6 := kk 6 _ rfl
          have k7 := kk 7 _ rfl
          have k8 := kk 8 _ rfl
          have k9 := kk 9 _ rfl
          have k10 := kk 10 _ rfl
          have k11 := kk 11 _ rfl
          have k12 := kk 12 _ rfl
          have k13 := kk 13 _ rfl
          have k14 := kk 14 _ rfl
          have k15 := kk 15 _ rfl
          clear kk
          go_wp2_with fail
          refine (show Calls Try.prog 8 #[.agg (cenCells (fun k => ((cK (cat ev eu j) s k : Nat) : Int)) g2 q0 h2 p0 (mostN (cat ev eu j) s) (nowN (cat ev eu j) s)), .agg #[.int .i64 (p0 : Int), .int .i64 T0, .int .i64 (q0 : Int)], .slice (some ⟨b, 0, none⟩) s s] w5 _ from fits_any w5 g2 h2 p0 q0 T0 (b + 1) s s (some ⟨b, 0, none⟩) (cat ev eu j) (by omega) (by omega) hsb (Nat.le_refl _) (fun h => by cases h) (by omega) HE5.out.sees (HR2V.out.but (HBT.out _ hV5) (by simp)) (HI2V.out.but (HBT.out _ hV5) (by simp))).mono ?_
          rintro e w6 ⟨rfl, hb6⟩
          have hV6 : Below b V w6 := hV5.trans (hb6.mono (by have := hV5.size; have := HVS.out; omega))
          clear c0 c1 c2 c3 c4 c5 hV5 hb6 HZ5 HE5 k0 k1 k2 k3 k4 k5 k6 k7 k8 k9 k10 k11 k12 k13 k14 k15
          obtain ⟨c0, c1, c2, c3, c4, c5⟩ := cells6 (HKP.out _ _ _ hV6 HBXV.out)
          have HX6 := Lib.hid (HKP.out _ _ _ hV6 HXV.out)
          have kk : ∀ (i : Nat) (v : Value), (cenCells (fun k => ((cK ev j k : Nat) : Int)) g0 q0 h0 p0 (mostN ev j) (nowN ev j))[i]? = some v → w6.cell? ⟨w1.heap.size, i, none⟩ = some v := fun i v hv => by simp only [World.cell?, HX6.out]; exact hv
          have k0 := kk 0 _ rfl
          have k1 := kk 1 _ rfl
          have k2 := kk 2 _ rfl
          have k3 := kk 3 _ rfl
          have k4 := kk 4 _ rfl
          have k5 := kk 5 _ rfl
          have k6 := kk 6 _ rfl
          have k7 := kk 7 _ rfl
          have k8 := kk 8 _ rfl
          have k9 := kk 9 _ rfl
          have k10 := kk 10 _ rfl
          have k11 := kk 11 _ rfl
          have k12 := kk 12 _ rfl
          have k13 := kk 13 _ rfl
          have k14 := kk 14 _ rfl
          have k15 := kk 15 _ rfl
          clear kk
          go_wp2_with fail
          refine (show Calls Try.prog 8 #[.agg (cenCells (fun k => ((cK ev j k : Nat) : Int)) g0 q0 h0 p0 (mostN ev j) (nowN ev j)), .agg #[.int .i64 (p0 : Int), .int .i64 T0, .int .i64 (q0 : Int)], .slice A j cp] w6 _ from fits_any w6 g0 h0 p0 q0 T0 W.heap.size j cp A ev (by omega) (by omega) (by omega) HCAP.out.1 HCAP.out.2.2.1 HCAP.out.2.1 (HS.out.bel (HBR.out _ hV6)) (HR0V.out.but (HBT.out _ hV6) (by simp)) (HI0V.out.but (HBT.out _ hV6) (by simp))).mono ?_
          rintro e w7 ⟨rfl, hb7⟩
          have hV7 : Below b V w7 := hV6.trans (hb7.mono (by have := hV6.size; have := HVS.out; omega))
          clear c0 c1 c2 c3 c4 c5 hV6 hb7 HX6 k0 k1 k2 k3 k4 k5 k6 k7 k8 k9 k10 k11 k12 k13 k14 k15
          obtain ⟨c0, c1, c2, c3, c4, c5⟩ := cells6 (HKP.out _ _ _ hV7 HBXV.out)
          have HY7 := Lib.hid (HKP.out _ _ _ hV7 HYV.out)
          have kk : ∀ (i : Nat) (v : Value), (cenCells (fun k => ((cK eu q k : Nat) : Int)) g1 q0 h1 p0 (mostN eu q) (nowN eu q))[i]? = some v → w7.cell? ⟨w2.heap.size, i, none⟩ = some v := fun i v hv => by simp only [World.cell?, HY7.out]; exact hv
          have k0 := kk 0 _ rfl
          have k1 := kk 1 _ rfl
          have k2 := kk 2 _ rfl
          have k3 := kk 3 _ rfl
          have k4 := kk 4 _ rfl
          have k5 := kk 5 _ rfl
          have k6 := kk 6 _ rfl
          have k7 := kk 7 _ rfl
          have k8 := kk 8 _ rfl
          have k9 := kk 9 _ rfl
          have k10 := kk 10 _ rfl
          have k11 := kk 11 _ rfl
          have k12 := kk 12 _ rfl
          have k13 := kk 13 _ rfl
          have k14 := kk 14 _ rfl
          have k15 := kk 15 _ rfl
          clear kk
          go_wp2_with fail
          refine (show Calls Try.prog 8 #[.agg (cenCells (fun k => ((cK eu q k : Nat) : Int)) g1 q0 h1 p0 (mostN eu q) (nowN eu q)), .agg #[.int .i64 (p0 : Int), .int .i64 T1, .int .i64 (q0 : Int)], .slice B q cq] w7 _ from fits_any w7 g1 h1 p0 q0 T1 W.heap.size q cq B eu (by omega) (by omega) (by omega) HCAP.out.2.2.2.1 HCAP.out.2.2.2.2.2 HCAP.out.2.2.2.2.1 (HU.out.bel (HBR.out _ hV7)) (HR1V.out.but (HBT.out _ hV7) (by simp)) (HI1V.out.but (HBT.out _ hV7) (by simp))).mono ?_
          rintro e w8 ⟨rfl, hb8⟩
          have HB8 := Lib.hid (HBR.out _ (hV7.trans (hb8.mono (by have := hV7.size; have := HVS.out; omega))))
          clear c0 c1 c2 c3 c4 c5 hV7 hb8 HY7 k0 k1 k2 k3 k4 k5 k6 k7 k8 k9 k10 k11 k12 k13 k14 k15
          go_wp2_with fail
          go_ret
          exact ⟨rfl, HB8.out⟩
end Go.Proofs.Ytammoflhfcpomaa
