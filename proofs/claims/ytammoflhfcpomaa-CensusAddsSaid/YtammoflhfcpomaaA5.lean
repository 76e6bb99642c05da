/- Both together: the walk of Add. -/
import Derived.Test.YtammoflhfcpomaaA4
import Derived.Test.YtammoflhfcpomaaF1
namespace Go.Proofs.Ytammoflhfcpomaa
open Go Go.RowKit
set_option linter.unusedVariables false
set_option linter.unusedSimpArgs false
set_option maxRecDepth 100000

set_option maxHeartbeats 8000000 in
theorem add_gen (w : World) (K1 K2 P1 P2 : Nat → Int) (R1 R2 : Nat → Nat → Int) (g1 h1 g2 h2 gs p : Nat) (M1 N1 M2 N2 : Int) (hp : p ≤ 64) (hg : gs ≤ 60)
    (hK1 : ∀ k, 0 ≤ K1 k ∧ K1 k ≤ 1000) (hK2 : ∀ k, 0 ≤ K2 k ∧ K2 k ≤ 1000) (hP1 : ∀ k, 0 ≤ P1 k ∧ P1 k ≤ 1000) (hP2 : ∀ k, 0 ≤ P2 k ∧ P2 k ≤ 1000) (hR1 : ∀ i f, 0 ≤ R1 i f ∧ R1 i f ≤ 1000) (hR2 : ∀ i f, 0 ≤ R2 i f ∧ R2 i f ≤ 1000)
    (hM : (-1000 ≤ M1 ∧ M1 ≤ 1000) ∧ (-1000 ≤ N1 ∧ N1 ≤ 1000) ∧ (-1000 ≤ M2 ∧ M2 ≤ 1000) ∧ (-1000 ≤ N2 ∧ N2 ≤ 1000))
    (hr1 : RowsAt w g1 gs R1) (hi1 : IntsAt w h1 p P1) (hr2 : RowsAt w g2 gs R2) (hi2 : IntsAt w h2 p P2) :
    Calls Try.prog 9 #[.agg (cenCells K1 g1 gs h1 p M1 N1), .agg (cenCells K2 g2 gs h2 p M2 N2)] w fun e w' => ∃ g h : Nat,
      e = .returned (.tuple #[.agg (cenCells (fun k => K1 k + K2 k) g gs h p (max M1 (N1 + M2)) (N1 + N2)), .int .i64 0]) ∧ RowsAt w' g gs (fun i f => R1 i f + R2 i f) ∧ IntsAt w' h p (fun q => P1 q + P2 q) ∧ Below w.heap.size w w' := by
  have HR1 := Lib.hid (show ∀ wr, Below w.heap.size w wr → RowsAt wr g1 gs R1 from fun wr hb => hr1.but (But.of_below (l := []) hb) (by simp))
  have HR2 := Lib.hid (show ∀ wr, Below w.heap.size w wr → RowsAt wr g2 gs R2 from fun wr hb => hr2.but (But.of_below (l := []) hb) (by simp))
  have HI1 := Lib.hid (show ∀ wr, Below w.heap.size w wr → IntsAt wr h1 p P1 from fun wr hb => hi1.but (But.of_below (l := []) hb) (by simp))
  have HI2 := Lib.hid (show ∀ wr, Below w.heap.size w wr → IntsAt wr h2 p P2 from fun wr hb => hi2.but (But.of_below (l := []) hb) (by simp))
  obtain ⟨cg, hcg, hmg⟩ := make27 gs (by omega)
  obtain ⟨cs, hcs, hmh⟩ := make28 p (by omega)
  have HG := Lib.hid hcg
  have HH := Lib.hid hcs
  have B1 := Lib.hid hK1
  have B2 := Lib.hid hK2
  have B3 := Lib.hid hP1
  have B4 := Lib.hid hP2
  have B5 := Lib.hid hR1
  have B6 := Lib.hid hR2
  have HM := Lib.hid hM
  clear hr1 hr2 hi1 hi2 hcg hcs hK1 hK2 hP1 hP2 hR1 hR2 hM
  unfold cenCells
  go_enter Try.func9, Try.ntmps9
  go_wp2_with fail
  refine (fun (key : Hid ?KEY) => ?main) (Lib.hid ?pf)
  case main =>
    go_region
    all_goals
      refine six _ _ _ _ _ _ _ ?_
      intro V hb ha1 ha2 b1 b2 b3 b4
      first
        | (have HI := Lib.hid (AddI.start (K1 := K1) (K2 := K2) (g1 := g1) (h1 := h1) (g2 := g2) (h2 := h2) (M1 := M1) (N1 := N1) (M2 := M2) (N2 := N2) HG HH hb ha1 ha2 b1 b2 b3 b4 (by omega) (by omega)); clear hb ha1 ha2 b1 b2 b3 b4; generalize (w.heap.size + 1 + 1 + 1 + 1 + 1) = h at HI ⊢; generalize (w.heap.size + 1 + 1 + 1 + 1) = g at HI ⊢; generalize (w.heap.size + 1 + 1 + 1) = x at HI ⊢)
        | (have HI := Lib.hid (AddI.start (K1 := K1) (K2 := K2) (g1 := g1) (h1 := h1) (g2 := g2) (h2 := h2) (M1 := M1) (N1 := N1) (M2 := M2) (N2 := N2) HG HH hb ha1 ha2 b1 b2 b4 b3 (by omega) (by omega)); clear hb ha1 ha2 b1 b2 b3 b4; generalize (w.heap.size + 1 + 1 + 1 + 1 + 1) = g at HI ⊢; generalize (w.heap.size + 1 + 1 + 1 + 1) = h at HI ⊢; generalize (w.heap.size + 1 + 1 + 1) = x at HI ⊢)
        | (have HI := Lib.hid (AddI.start (K1 := K1) (K2 := K2) (g1 := g1) (h1 := h1) (g2 := g2) (h2 := h2) (M1 := M1) (N1 := N1) (M2 := M2) (N2 := N2) HG HH hb ha1 ha2 b1 b3 b2 b4 (by omega) (by omega)); clear hb ha1 ha2 b1 b2 b3 b4; generalize (w.heap.size + 1 + 1 + 1 + 1 + 1) = h at HI ⊢; generalize (w.heap.size + 1 + 1 + 1 + 1) = x at HI ⊢; generalize (w.heap.size + 1 + 1 + 1) = g at HI ⊢)
        | (have HI := Lib.hid (AddI.start (K1 := K1) (K2 := K2) (g1 := g1) (h1 := h1) (g2 := g2) (h2 := h2) (M1 := M1) (N1 := N1) (M2 := M2) (N2 := N2) HG HH hb ha1 ha2 b1 b3 b4 b2 (by omega) (by omega)); clear hb ha1 ha2 b1 b2 b3 b4; generalize (w.heap.size + 1 + 1 + 1 + 1 + 1) = g at HI ⊢; generalize (w.heap.size + 1 + 1 + 1 + 1) = x at HI ⊢; generalize (w.heap.size + 1 + 1 + 1) = h at HI ⊢)
        | (have HI := Lib.hid (AddI.start (K1 := K1) (K2 := K2) (g1 := g1) (h1 := h1) (g2 := g2) (h2 := h2) (M1 := M1) (N1 := N1) (M2 := M2) (N2 := N2) HG HH hb ha1 ha2 b1 b4 b2 b3 (by omega) (by omega)); clear hb ha1 ha2 b1 b2 b3 b4; generalize (w.heap.size + 1 + 1 + 1 + 1 + 1) = x at HI ⊢; generalize (w.heap.size + 1 + 1 + 1 + 1) = h at HI ⊢; generalize (w.heap.size + 1 + 1 + 1) = g at HI ⊢)
        | (have HI := Lib.hid (AddI.start (K1 := K1) (K2 := K2) (g1 := g1) (h1 := h1) (g2 := g2) (h2 := h2) (M1 := M1) (N1 := N1) (M2 := M2) (N2 := N2) HG HH hb ha1 ha2 b1 b4 b3 b2 (by omega) (by omega)); clear hb ha1 ha2 b1 b2 b3 b4; generalize (w.heap.size + 1 + 1 + 1 + 1 + 1) = x at HI ⊢; generalize (w.heap.size + 1 + 1 + 1 + 1) = g at HI ⊢; generalize (w.heap.size + 1 + 1 + 1) = h at HI ⊢)
    all_goals
      revert HI
      revert h
      revert g
      revert x
      revert V
      exact key.out
  case pf =>
    clear hmg hmh HG HH
    clear cg cs
    intro V x g h HI
    have HI0 := Lib.hid (show AddI w V K1 K2 g1 h1 g2 h2 x g h gs p M1 N1 M2 N2 (addK K1 K2 0) (addR R1 R2 0) (addK P1 P2 0) 0 0 from by rw [← addK_0, ← addR_0, ← addK_0]; exact HI.out)
    clear HI
    go_wp2_with fail
    go_loopw [36] (fun i wr => ∃ j : Nat, j ≤ 12 ∧ i = .int .i64 j ∧ AddI w wr K1 K2 g1 h1 g2 h2 x g h gs p M1 N1 M2 N2 (addK K1 K2 j) (addR R1 R2 0) (addK P1 P2 0) 0 0) (fun i _ => 12 - (intOf i).toNat)
    case atStart => exact ⟨0, by omega, rfl, HI0.out⟩
    case round =>
      obtain ⟨j, hj, rfl, hW⟩ := hrel
      have HW := Lib.hid hW
      clear hW HI0
      by_cases hlt : j < 12
      · as_aux_lemma =>
        have aj := HW.out.b1.k j hlt
        have bj := HW.out.b2.k j hlt
        have xj := HW.out.cen.main.k j hlt
        have fj := HW.out.cen.main.f j
        have kb1 := B1.out j
        have kb2 := B2.out j
        have hji : (j : Int) < 12 := by omega
        go_wp2_with fail
        go_region
        all_goals
          try rw [show IntKind.i64.wrap (K1 j + K2 j) = K1 j + K2 j from IntWalk.i64_in _ (by omega)]
          have HW2 := Lib.hid (HW.out.setK hlt)
          generalize (wr.setCell ⟨x, j, none⟩ (.int .i64 (K1 j + K2 j))).drew = Y at HW2 ⊢
          clear aj bj xj fj HW
          go_wp2_with fail
          go_roundw
          case rel => exact ⟨j + 1, by omega, by go_num, HW2.out⟩
          case measure => simp [intOf]; omega
      · obtain rfl : j = 12 := by omega
        obtain ⟨W0, hW0⟩ : ∃ v, v = wr := ⟨_, rfl⟩
        subst hW0
        obtain ⟨x12, x13, x14, x15⟩ := HW.out.cen.main.s
        go_wp2_with fail
        clear x12 x13 x14 x15
        go_loopw [8, 55] (fun _ i wr => ∃ j : Nat, j ≤ gs ∧ i = .int .i64 j ∧ AddI w wr K1 K2 g1 h1 g2 h2 x g h gs p M1 N1 M2 N2 (addK K1 K2 12) (addR R1 R2 j) (addK P1 P2 0) 0 0) (fun _ i _ => gs - (intOf i).toNat)
        case atStart => exact ⟨0, by omega, rfl, HW.out⟩
        case round =>
          obtain ⟨j, hj, rfl, hW⟩ := hrel
          have HV := Lib.hid hW
          clear hW HW
          by_cases hlt : j < gs
          · as_aux_lemma =>
            obtain ⟨x12, x13, x14, x15⟩ := HV.out.cen.main.s
            obtain ⟨a12, a13, a14, a15⟩ := HV.out.b1.s
            obtain ⟨b12, b13, b14, b15⟩ := HV.out.b2.s
            obtain ⟨p0, p1, p2⟩ := (HR1.out wr HV.out.bel).c j hlt
            obtain ⟨q0, q1, q2⟩ := (HR2.out wr HV.out.bel).c j hlt
            have hji : (j : Int) < (gs : Int) := by omega
            have HAND := Lib.hid (fun W => and_any W (R1 j 0) (R1 j 1) (R1 j 2) (R2 j 0) (R2 j 1) (R2 j 2) (B5.out j 0) (B5.out j 1) (B5.out j 2) (B6.out j 0) (B6.out j 1) (B6.out j 2))
            have hne : x ≠ g ∧ w.heap.size ≠ g ∧ w.heap.size + 1 ≠ g := by have := HV.out.lo; have := HV.out.cen.ne; omega
            have hxl := cell_lt x12
            have hal := cell_lt a12
            have hbl := cell_lt b12
            have hpl := cell_lt p0
            have hql := cell_lt q0
            have hgg : g1 ≠ g ∧ g2 ≠ g := by
              have h1 := cell_lt ((HR1.out w (Below.refl _ _)).c j hlt).1
              have h2 := cell_lt ((HR2.out w (Below.refl _ _)).c j hlt).1
              have := HV.out.lo
              omega
            have hH : Hid (wr.drew.cell? ⟨x, 12, none⟩ = some (.slice (some ⟨g, 0, none⟩) gs gs) ∧ wr.drew.cell? ⟨w.heap.size, 12, none⟩ = some (.slice (some ⟨g1, 0, none⟩) gs gs) ∧ wr.drew.cell? ⟨w.heap.size + 1, 12, none⟩ = some (.slice (some ⟨g2, 0, none⟩) gs gs) ∧ wr.drew.cell? ⟨g1, j * 3, none⟩ = some (.int .i64 (R1 j 0)) ∧ wr.drew.cell? ⟨g1, j * 3 + 1, none⟩ = some (.int .i64 (R1 j 1)) ∧ wr.drew.cell? ⟨g1, j * 3 + 2, none⟩ = some (.int .i64 (R1 j 2)) ∧ wr.drew.cell? ⟨g2, j * 3, none⟩ = some (.int .i64 (R2 j 0)) ∧ wr.drew.cell? ⟨g2, j * 3 + 1, none⟩ = some (.int .i64 (R2 j 1)) ∧ wr.drew.cell? ⟨g2, j * 3 + 2, none⟩ = some (.int .i64 (R2 j 2))) := ⟨x12, a12, b12, p0, p1, p2, q0, q1, q2⟩
            have KEEP1 := Lib.hid (show ∀ Y w' : World, (Y.cell? ⟨x, 12, none⟩ = some (.slice (some ⟨g, 0, none⟩) gs gs) ∧ Y.cell? ⟨w.heap.size, 12, none⟩ = some (.slice (some ⟨g1, 0, none⟩) gs gs) ∧ Y.cell? ⟨w.heap.size + 1, 12, none⟩ = some (.slice (some ⟨g2, 0, none⟩) gs gs) ∧ Y.cell? ⟨g1, j * 3, none⟩ = some (.int .i64 (R1 j 0)) ∧ Y.cell? ⟨g1, j * 3 + 1, none⟩ = some (.int .i64 (R1 j 1)) ∧ Y.cell? ⟨g1, j * 3 + 2, none⟩ = some (.int .i64 (R1 j 2)) ∧ Y.cell? ⟨g2, j * 3, none⟩ = some (.int .i64 (R2 j 0)) ∧ Y.cell? ⟨g2, j * 3 + 1, none⟩ = some (.int .i64 (R2 j 1)) ∧ Y.cell? ⟨g2, j * 3 + 2, none⟩ = some (.int .i64 (R2 j 2))) → Below Y.heap.size Y w' → (w'.cell? ⟨x, 12, none⟩ = some (.slice (some ⟨g, 0, none⟩) gs gs) ∧ w'.cell? ⟨w.heap.size, 12, none⟩ = some (.slice (some ⟨g1, 0, none⟩) gs gs) ∧ w'.cell? ⟨w.heap.size + 1, 12, none⟩ = some (.slice (some ⟨g2, 0, none⟩) gs gs) ∧ w'.cell? ⟨g1, j * 3, none⟩ = some (.int .i64 (R1 j 0)) ∧ w'.cell? ⟨g1, j * 3 + 1, none⟩ = some (.int .i64 (R1 j 1)) ∧ w'.cell? ⟨g1, j * 3 + 2, none⟩ = some (.int .i64 (R1 j 2)) ∧ w'.cell? ⟨g2, j * 3, none⟩ = some (.int .i64 (R2 j 0)) ∧ w'.cell? ⟨g2, j * 3 + 1, none⟩ = some (.int .i64 (R2 j 1)) ∧ w'.cell? ⟨g2, j * 3 + 2, none⟩ = some (.int .i64 (R2 j 2))) from by
              rintro Y w' ⟨e1, e2, e3, e4, e5, e6, e7, e8, e9⟩ hB
              exact ⟨(hB.cell (cell_lt e1)).trans e1, (hB.cell (cell_lt e2)).trans e2, (hB.cell (cell_lt e3)).trans e3, (hB.cell (cell_lt e4)).trans e4, (hB.cell (cell_lt e5)).trans e5, (hB.cell (cell_lt e6)).trans e6, (hB.cell (cell_lt e7)).trans e7, (hB.cell (cell_lt e8)).trans e8, (hB.cell (cell_lt e9)).trans e9⟩)
            have KC := Lib.hid (show ∀ (Y : World) (b o i1 i2 i3 : Nat) (u1 u2 u3 : Value), b ≠ g → (((Y.setCell ⟨g, i1, none⟩ u1).setCell ⟨g, i2, none⟩ u2).setCell ⟨g, i3, none⟩ u3).cell? ⟨b, o, none⟩ = Y.cell? ⟨b, o, none⟩ from fun Y b o i1 i2 i3 u1 u2 u3 hb => by
              simp only [World.cell?, heap_set_ne _ hb])
            have KEEP2 := Lib.hid (show ∀ (Y : World) (i1 i2 i3 : Nat) (u1 u2 u3 : Value), (Y.cell? ⟨x, 12, none⟩ = some (.slice (some ⟨g, 0, none⟩) gs gs) ∧ Y.cell? ⟨w.heap.size, 12, none⟩ = some (.slice (some ⟨g1, 0, none⟩) gs gs) ∧ Y.cell? ⟨w.heap.size + 1, 12, none⟩ = some (.slice (some ⟨g2, 0, none⟩) gs gs) ∧ Y.cell? ⟨g1, j * 3, none⟩ = some (.int .i64 (R1 j 0)) ∧ Y.cell? ⟨g1, j * 3 + 1, none⟩ = some (.int .i64 (R1 j 1)) ∧ Y.cell? ⟨g1, j * 3 + 2, none⟩ = some (.int .i64 (R1 j 2)) ∧ Y.cell? ⟨g2, j * 3, none⟩ = some (.int .i64 (R2 j 0)) ∧ Y.cell? ⟨g2, j * 3 + 1, none⟩ = some (.int .i64 (R2 j 1)) ∧ Y.cell? ⟨g2, j * 3 + 2, none⟩ = some (.int .i64 (R2 j 2))) → ((((Y.setCell ⟨g, i1, none⟩ u1).setCell ⟨g, i2, none⟩ u2).setCell ⟨g, i3, none⟩ u3).cell? ⟨x, 12, none⟩ = some (.slice (some ⟨g, 0, none⟩) gs gs) ∧ (((Y.setCell ⟨g, i1, none⟩ u1).setCell ⟨g, i2, none⟩ u2).setCell ⟨g, i3, none⟩ u3).cell? ⟨w.heap.size, 12, none⟩ = some (.slice (some ⟨g1, 0, none⟩) gs gs) ∧ (((Y.setCell ⟨g, i1, none⟩ u1).setCell ⟨g, i2, none⟩ u2).setCell ⟨g, i3, none⟩ u3).cell? ⟨w.heap.size + 1, 12, none⟩ = some (.slice (some ⟨g2, 0, none⟩) gs gs) ∧ (((Y.setCell ⟨g, i1, none⟩ u1).setCell ⟨g, i2, none⟩ u2).setCell ⟨g, i3, none⟩ u3).cell? ⟨g1, j * 3, none⟩ = some (.int .i64 (R1 j 0)) ∧ (((Y.setCell ⟨g, i1, none⟩ u1).setCell ⟨g, i2, none⟩ u2).setCell ⟨g, i3, none⟩ u3).cell? ⟨g1, j * 3 + 1, none⟩ = some (.int .i64 (R1 j 1)) ∧ (((Y.setCell ⟨g, i1, none⟩ u1).setCell ⟨g, i2, none⟩ u2).setCell ⟨g, i3, none⟩ u3).cell? ⟨g1, j * 3 + 2, none⟩ = some (.int .i64 (R1 j 2)) ∧ (((Y.setCell ⟨g, i1, none⟩ u1).setCell ⟨g, i2, none⟩ u2).setCell ⟨g, i3, none⟩ u3).cell? ⟨g2, j * 3, none⟩ = some (.int .i64 (R2 j 0)) ∧ (((Y.setCell ⟨g, i1, none⟩ u1).setCell ⟨g, i2, none⟩ u2).setCell ⟨g, i3, none⟩ u3).cell? ⟨g2, j * 3 + 1, none⟩ = some (.int .i64 (R2 j 1)) ∧ (((Y.setCell ⟨g, i1, none⟩ u1).setCell ⟨g, i2, none⟩ u2).setCell ⟨g, i3, none⟩ u3).cell? ⟨g2, j * 3 + 2, none⟩ = some (.int .i64 (R2 j 2))) from by
              rintro Y i1 i2 i3 u1 u2 u3 ⟨e1, e2, e3, e4, e5, e6, e7, e8, e9⟩
              exact ⟨(KC.out Y _ _ _ _ _ _ _ _ hne.1).trans e1, (KC.out Y _ _ _ _ _ _ _ _ hne.2.1).trans e2, (KC.out Y _ _ _ _ _ _ _ _ hne.2.2).trans e3, (KC.out Y _ _ _ _ _ _ _ _ hgg.1).trans e4, (KC.out Y _ _ _ _ _ _ _ _ hgg.1).trans e5, (KC.out Y _ _ _ _ _ _ _ _ hgg.1).trans e6, (KC.out Y _ _ _ _ _ _ _ _ hgg.2).trans e7, (KC.out Y _ _ _ _ _ _ _ _ hgg.2).trans e8, (KC.out Y _ _ _ _ _ _ _ _ hgg.2).trans e9⟩)
            clear x12 x13 x14 x15 a12 a13 a14 a15 b12 b13 b14 b15 p0 p1 p2 q0 q1 q2 hxl hal hbl hpl hql hne hgg KC
            go_wp2_with fail
            go_region_held3 (fun w' => w'.cell? ⟨x, 12, none⟩ = some (.slice (some ⟨g, 0, none⟩) gs gs) ∧ w'.cell? ⟨w.heap.size, 12, none⟩ = some (.slice (some ⟨g1, 0, none⟩) gs gs) ∧ w'.cell? ⟨w.heap.size + 1, 12, none⟩ = some (.slice (some ⟨g2, 0, none⟩) gs gs) ∧ w'.cell? ⟨g1, j * 3, none⟩ = some (.int .i64 (R1 j 0)) ∧ w'.cell? ⟨g1, j * 3 + 1, none⟩ = some (.int .i64 (R1 j 1)) ∧ w'.cell? ⟨g1, j * 3 + 2, none⟩ = some (.int .i64 (R1 j 2)) ∧ w'.cell? ⟨g2, j * 3, none⟩ = some (.int .i64 (R2 j 0)) ∧ w'.cell? ⟨g2, j * 3 + 1, none⟩ = some (.int .i64 (R2 j 1)) ∧ w'.cell? ⟨g2, j * 3 + 2, none⟩ = some (.int .i64 (R2 j 2))) (first | exact hH | assumption | exact KEEP1.out _ _ ‹_› ‹_› | exact KEEP2.out _ _ _ _ _ _ _ ‹_›) (first | (go_at_call 17; (with_reducible refine (HAND.out _).mono ?_); rintro e w3 ⟨rfl, hb3⟩; have HV3 := Lib.hid (HV.out.below ((drew_bel wr).trans hb3)); obtain ⟨e0, e1, e2⟩ := HV3.out.cen.rows.c j hlt; have ef := fun o => HV3.out.cen.rows.f o))
            have HV4 := Lib.hid (HV3.out.setR hlt)
            clear hH KEEP1 KEEP2 HAND HV HV3 e0 e1 e2 ef
            go_wp2_with fail
            go_roundw
            case rel =>
              first
                | exact ⟨j + 1, by omega, by go_num, HV4.out⟩
                | (repeat apply Exists.intro
                   exact ⟨⟨j + 1, by omega, by go_num, HV4.out⟩, rfl⟩)
            case measure => simp [intOf]; omega
          · obtain rfl : j = gs := by omega
            obtain ⟨W1, hW1⟩ : ∃ v, v = wr := ⟨_, rfl⟩
            subst hW1
            obtain ⟨x12, x13, x14, x15⟩ := HV.out.cen.main.s
            go_wp2_with fail
            clear x12 x13 x14 x15
            go_loopw [77] (fun i wr => ∃ q : Nat, q ≤ p ∧ i = .int .i64 q ∧ AddI w wr K1 K2 g1 h1 g2 h2 x g h j p M1 N1 M2 N2 (addK K1 K2 12) (addR R1 R2 j) (addK P1 P2 q) 0 0) (fun i _ => p - (intOf i).toNat)
            case atStart => exact ⟨0, by omega, rfl, HV.out⟩
            case round =>
              obtain ⟨q, hq, rfl, hW⟩ := hrel
              have HU := Lib.hid hW
              clear hW HV
              by_cases hlt : q < p
              · as_aux_lemma =>
                obtain ⟨x12, x13, x14, x15⟩ := HU.out.cen.main.s
                obtain ⟨a12, a13, a14, a15⟩ := HU.out.b1.s
                obtain ⟨b12, b13, b14, b15⟩ := HU.out.b2.s
                have p0 := (HI1.out wr HU.out.bel).c q hlt
                have q0 := (HI2.out wr HU.out.bel).c q hlt
                have xj := HU.out.cen.procs.c q hlt
                have fj := HU.out.cen.procs.f q
                have kb1 := B3.out q
                have kb2 := B4.out q
                have hqi : (q : Int) < (p : Int) := by omega
                go_wp2_with fail
                go_region
                all_goals
                  try rw [show IntKind.i64.wrap (P1 q + P2 q) = P1 q + P2 q from IntWalk.i64_in _ (by omega)]
                  have HU2 := Lib.hid (HU.out.setP hlt)
                  generalize (wr.setCell ⟨h, q, none⟩ (.int .i64 (P1 q + P2 q))).drew = Y at HU2 ⊢
                  clear x12 x13 x14 x15 a12 a13 a14 a15 b12 b13 b14 b15 p0 q0 xj fj HU
                  go_wp2_with fail
                  go_roundw
                  case rel => exact ⟨q + 1, by omega, by go_num, HU2.out⟩
                  case measure => simp [intOf]; omega
              · obtain rfl : q = p := by omega
                as_aux_lemma =>
                obtain ⟨W2, hW2⟩ : ∃ v, v = wr := ⟨_, rfl⟩
                subst hW2
                obtain ⟨x12, x13, x14, x15⟩ := HU.out.cen.main.s
                obtain ⟨a12, a13, a14, a15⟩ := HU.out.b1.s
                obtain ⟨b12, b13, b14, b15⟩ := HU.out.b2.s
                have f14 := HU.out.cen.main.f 14
                have f15 := HU.out.cen.main.f 15
                have hm := HM.out
                have hxb := block_lt HU.out.cen.main
                have hne1 : x ≠ w.heap.size := by have := HU.out.lo; omega
                have hne2 : x ≠ w.heap.size + 1 := by have := HU.out.lo; omega
                have HEQ := Lib.hid (show ∀ mx, CenAt ((W2.setCell ⟨x, 14, none⟩ (.int .i64 mx)).setCell ⟨x, 15, none⟩ (.int .i64 (N1 + N2))) x (fun k => K1 k + K2 k) g j h q mx (N1 + N2) from fun mx => by
                  have e := (HU.out.cen.main.setMost mx).setNow (N1 + N2)
                  unfold CenAt at e ⊢
                  rw [e]
                  simp [cenCells, addK])
                have HRES := Lib.hid (show ∀ mx, ((W2.setCell ⟨x, 14, none⟩ (.int .i64 mx)).setCell ⟨x, 15, none⟩ (.int .i64 (N1 + N2))).heap[w.heap.size + 1 + 1]? = some (.cells zero16 30 (0, 0)) from fun mx => by
                  have := HU.out.lo
                  exact (heap_set_ne _ (by omega) _ _).trans ((heap_set_ne _ (by omega) _ _).trans HU.out.res))
                have HF := Lib.hid (show ∀ (mx : Int) (CS : Array Value) (L : World), max M1 (N1 + M2) = mx → cenCells (fun k => K1 k + K2 k) g j h q mx (N1 + N2) = CS → L = ((W2.setCell ⟨x, 14, none⟩ (.int .i64 mx)).setCell ⟨x, 15, none⟩ (.int .i64 (N1 + N2))).setRow (w.heap.size + 1 + 1) CS → ∃ g' h' : Nat, Ending.returned (.tuple #[.agg CS, .int .i64 0]) = .returned (.tuple #[.agg (cenCells (fun k => K1 k + K2 k) g' j h' q (max M1 (N1 + M2)) (N1 + N2)), .int .i64 0]) ∧ RowsAt L g' j (fun i f => R1 i f + R2 i f) ∧ IntsAt L h' q (fun q => P1 q + P2 q) ∧ Below w.heap.size w L from by
                  rintro mx CS L hmx rfl rfl
                  have lo := HU.out.lo
                  have hn := HU.out.cen.ne
                  have hb : But [x, w.heap.size + 1 + 1] W2 (((W2.setCell ⟨x, 14, none⟩ (.int .i64 mx)).setCell ⟨x, 15, none⟩ (.int .i64 (N1 + N2))).setRow (w.heap.size + 1 + 1) (cenCells (fun k => K1 k + K2 k) g j h q mx (N1 + N2))) :=
                    (((But.refl _ _).set (Or.inl (by simp)) _ _).set (Or.inl (by simp)) _ _).trans ((row_but _ _ _).more (fun k _ hk => by simp at hk; simp [hk]))
                  refine ⟨g, h, by rw [hmx], (HU.out.cen.rows.but hb (by simp; omega)).ext (fun i hi => ?_), (HU.out.cen.procs.but hb (by simp; omega)).ext (fun i hi => ?_), HU.out.bel.trans (hb.below (fun k hk => by simp at hk; omega) HU.out.bel.size)⟩
                  · unfold addR; simp [hi]
                  · unfold addK; simp [hi])
                obtain ⟨mx, hmx, hor⟩ : ∃ mx, max M1 (N1 + M2) = mx ∧ ((mx = N1 + M2 ∧ M1 < N1 + M2) ∨ (mx = M1 ∧ N1 + M2 ≤ M1)) := by
                  rcases (show M1 < N1 + M2 ∨ N1 + M2 ≤ M1 by omega) with h1 | h1
                  · exact ⟨_, Int.max_eq_right (by omega), .inl ⟨rfl, h1⟩⟩
                  · exact ⟨_, Int.max_eq_left (by omega), .inr ⟨rfl, h1⟩⟩
                have hone := cen_one (fun k => K1 k + K2 k) g j h q mx (N1 + N2)
                have hsz : (cenCells (fun k => K1 k + K2 k) g j h q mx (N1 + N2)).size = 16 := rfl
                have HCM := HEQ.out mx
                unfold CenAt at HCM
                have HFF := HF.out mx _ _ hmx rfl rfl
                have HRS := HRES.out mx
                clear HF HEQ HRES hmx
                generalize hCS : cenCells (fun k => K1 k + K2 k) g j h q mx (N1 + N2) = CS at HCM hone hsz HFF
                have HX := Lib.hid HCM
                have HON := Lib.hid hone
                have HSZ := Lib.hid (show (Try.prog.info? 30).map (·.size) = some CS.size from by rw [hsz]; exact info30)
                have HSY := Lib.hid (show zero16.size = CS.size from by rw [hsz]; rfl)
                have HEND := Lib.hid HFF
                have HRT := Lib.hid HRS
                clear HCM hone hsz HFF HRS hCS HU HR1 HR2 HI1 HI2 HM B1 B2 B3 B4 B5 B6
                rcases hor with ⟨rfl, hmm⟩ | ⟨rfl, hmm⟩
                · have hmm2 : ¬ (N1 + M2 ≤ M1) := by omega
                  go_wp2_with (first | (refine wpList_load_row rfl 30 _ rfl x rfl 30 CS (0, 0) _ HX.out Try.underlying30 rfl HSZ.out ?_) | (refine wpList_store_row rfl 30 _ _ rfl (w.heap.size + 1 + 1) CS rfl rfl 30 zero16 HRT.out HSZ.out HSY.out HON.out ?_))
                  exact bodyPost_ret (v := .tuple #[.agg CS, .int .i64 0]) (res_pair rfl _ _ (w.heap.size + 1 + 1) _ _ rfl rfl (run_loadVar_row _ (w.heap.size + 1 + 1) 30 30 CS (0, 0) _ (setRow_heap _ _ _ CS 30 (0, 0) HRT.out) Try.underlying30 rfl HSZ.out)) rfl HEND.out

                · have hmm2 : ¬ (mx < N1 + M2) := by omega
                  go_wp2_with (first | (refine wpList_load_row rfl 30 _ rfl x rfl 30 CS (0, 0) _ HX.out Try.underlying30 rfl HSZ.out ?_) | (refine wpList_store_row rfl 30 _ _ rfl (w.heap.size + 1 + 1) CS rfl rfl 30 zero16 HRT.out HSZ.out HSY.out HON.out ?_))
                  exact bodyPost_ret (v := .tuple #[.agg CS, .int .i64 0]) (res_pair rfl _ _ (w.heap.size + 1 + 1) _ _ rfl rfl (run_loadVar_row _ (w.heap.size + 1 + 1) 30 30 CS (0, 0) _ (setRow_heap _ _ _ CS 30 (0, 0) HRT.out) Try.underlying30 rfl HSZ.out)) rfl HEND.out

end Go.Proofs.Ytammoflhfcpomaa
