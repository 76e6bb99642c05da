/- The walk of the law GoroWhole. -/
import Derived.Test.YtlnjjcfkcoaceaaGoro7
import Derived.Test.YtlnjjcfkcoaceaaGoro6
import Derived.Test.YtlnjjcfkcoaceaaKRef2
import Derived.Test.YtlnjjcfkcoaceaaKRef3
namespace Go.Proofs.Ytlnjjcfkcoaceaa
open Go Go.RowKit
set_option linter.unusedVariables false
set_option maxRecDepth 100000
set_option linter.unusedSimpArgs false


theorem pos_ok (ff : Nat → Int) (m : Int) (l : Nat) (p : Int) (hf : ∀ i, i < l → 0 ≤ ff i) : ∀ j, (pos ff m l p j).p = p ∧ (0 ≤ (pos ff m l p j).a ∧ (pos ff m l p j).a ≤ l) ∧ (0 ≤ (pos ff m l p j).l ∧ (pos ff m l p j).l ≤ 16) ∧ (pos ff m l p j).b = 1
  | 0 => ⟨rfl, ⟨Int.le_refl _, by show (0 : Int) ≤ _; omega⟩, ⟨Int.le_refl _, by show (0 : Int) ≤ 16; omega⟩, rfl⟩
  | j + 1 => by
    obtain ⟨h1, h2, h3, h4⟩ := pos_ok ff m l p hf j
    rw [show pos ff m l p (j + 1) = plNext (pos ff m l p j) (ik ff l (pos ff m l p j).a.toNat) (ia ff m l (pos ff m l p j).a.toNat) from rfl]
    generalize pos ff m l p j = q at *
    show (plNext q (ik ff l q.a.toNat) (ia ff m l q.a.toNat)).p = p ∧ (0 ≤ (plNext q (ik ff l q.a.toNat) (ia ff m l q.a.toNat)).a ∧ (plNext q (ik ff l q.a.toNat) (ia ff m l q.a.toNat)).a ≤ l) ∧ (0 ≤ (plNext q (ik ff l q.a.toNat) (ia ff m l q.a.toNat)).l ∧ (plNext q (ik ff l q.a.toNat) (ia ff m l q.a.toNat)).l ≤ 16) ∧ (plNext q (ik ff l q.a.toNat) (ia ff m l q.a.toNat)).b = 1
    by_cases hi : q.a.toNat < l
    · have e1 : ik ff l q.a.toNat = kd (ff q.a.toNat) := by unfold ik; rw [if_pos hi]
      have e2 : ia ff m l q.a.toNat = ag (ff q.a.toNat) m := by unfold ia; rw [if_pos hi]
      rw [e1, e2]
      have hx := hf _ hi
      unfold plNext
      by_cases k0 : kd (ff q.a.toNat) = 0
      · rw [if_pos k0]; exact ⟨h1, h2, h3, h4⟩
      · rw [if_neg k0]
        by_cases k1 : kd (ff q.a.toNat) = 1
        · rw [if_pos k1]
          have ha := ag_one _ m hx k1
          have hL : 0 ≤ plLeft q (ag (ff q.a.toNat) m) ∧ plLeft q (ag (ff q.a.toNat) m) ≤ 16 := by
            unfold plLeft
            split <;> omega
          unfold plComp
          split
          · exact ⟨h1, by dsimp only; omega, by dsimp only; omega, h4⟩
          · exact ⟨h1, h2, hL, h4⟩
        · rw [if_neg k1]
          unfold plPass
          exact ⟨h1, by dsimp only; omega, h3, h4⟩
    · have e1 : ik ff l q.a.toNat = 0 := by unfold ik; rw [if_neg hi]
      rw [e1]
      unfold plNext
      rw [if_pos rfl]
      exact ⟨h1, h2, h3, h4⟩
theorem stC_len (ff : Nat → Int) (m : Int) (l : Nat) (p : Int) : ∀ N, (stC ff m l p N).length = N * 2
  | 0 => rfl
  | N + 1 => by show (stC ff m l p N ++ _).length = _; rw [List.length_append, stC_len ff m l p N]; simp; omega
theorem stC_at (ff : Nat → Int) (m : Int) (l : Nat) (p : Int) : ∀ N j, j < N → (stC ff m l p N)[j * 2]? = some (.int .i64 (ik ff l (pos ff m l p j).a.toNat)) ∧ (stC ff m l p N)[j * 2 + 1]? = some (.int .i64 (ia ff m l (pos ff m l p j).a.toNat))
  | 0, j, h => by omega
  | N + 1, j, h => by
    have hl := stC_len ff m l p N
    show (stC ff m l p N ++ _)[j * 2]? = _ ∧ (stC ff m l p N ++ _)[j * 2 + 1]? = _
    by_cases hj : j < N
    · obtain ⟨a, b⟩ := stC_at ff m l p N j hj
      rw [List.getElem?_append_left (by omega), List.getElem?_append_left (by omega)]
      exact ⟨a, b⟩
    · obtain rfl : j = N := by omega
      rw [List.getElem?_append_right (by omega), List.getElem?_append_right (by omega), hl]
      constructor
      · rw [Nat.sub_self]; rfl
      · rw [show j * 2 + 1 - j * 2 = 1 by omega]; rfl
/-- The row of steps in memory. -/
theorem own_steps {w w' : World} {v : Value} {N : Nat} {ff : Nat → Int} {m : Int} {l : Nat} {p : Int} (h : Own w w' 90 2 v N (stC ff m l p N)) : ∃ A c, v = .slice A N c ∧ (0 < N → ∃ g, A = some ⟨g, 0, none⟩ ∧ w.heap.size ≤ g ∧ g < w'.heap.size ∧ ∀ j, j < N → w'.cell? ⟨g, j * 2, none⟩ = some (.int .i64 (ik ff l (pos ff m l p j).a.toNat)) ∧ w'.cell? ⟨g, j * 2 + 1, none⟩ = some (.int .i64 (ia ff m l (pos ff m l p j).a.toNat))) := by
  obtain ⟨h1, h2⟩ := h.own
  rcases h2 with ⟨rfl, rfl⟩ | ⟨g, cap, cur, rfl, hg, hh, hnc, hcm, hcs, htk⟩
  · exact ⟨none, 0, rfl, fun h => absurd h (by simp)⟩
  · refine ⟨_, cap, rfl, fun hpos => ⟨g, rfl, hg, block_lt hh, fun i hi => ?_⟩⟩
    have hcell : ∀ j u, j < N * 2 → (stC ff m l p N)[j]? = some u → w'.cell? ⟨g, j, none⟩ = some u := by
      intro j u hj hu
      rw [← htk, List.getElem?_take_of_lt hj] at hu
      simp only [World.cell?, hh]
      simpa using hu
    obtain ⟨q1, q2⟩ := stC_at ff m l p N i hi
    exact ⟨hcell _ _ (by omega) q1, hcell _ _ (by omega) q2⟩

theorem goroWhole_many (A : Option Addr) (n cap : Nat) (pi mo : Int) (w : World) (hn : 300 < n) : Calls Try.prog 7 #[.slice A n cap, .int .i64 pi, .int .u8 mo] w fun e w' => e = .returned (.bool true) ∧ Below w.heap.size w w' := by
  have d : (300 : Int) < (n : Int) := by omega
  go_enter Try.func7, Try.ntmps7
  go_wp2_with fail
  go_at_call 38; refine (goro_awake _).mono ?_; rintro e w1 ⟨rfl, k1⟩
  go_wp2_with fail
  go_ret
  exact ⟨rfl, k1⟩
theorem goroWhole_none (A : Option Addr) (n cap : Nat) (f : Nat → Int) (pi mo : Int) (w : World) (hn : n ≤ 300) (hs : SeesU w w.heap.size A n f) (hf : ∀ i, i < n → 0 ≤ f i ∧ f i ≤ 18446744073709551615) (hp : pi < 0 ∨ ((segs f n).length : Int) ≤ pi) : Calls Try.prog 7 #[.slice A n cap, .int .i64 pi, .int .u8 mo] w fun e w' => e = .returned (.bool true) ∧ Below w.heap.size w w' := by
  have d : decide ((300 : Int) < (n : Int)) = false := decide_eq_false (by omega)
  have hR := refRead_any A n cap f w (by omega) hs hf
  clear hs hf
  by_cases h0 : pi < 0
  · clear hp
    go_enter Try.func7, Try.ntmps7
    go_wp2_with fail
    go_at_call 48; refine hR.mono ?_; rintro e w1 ⟨v, xs, rfl, hO, -⟩
    obtain ⟨A2, c2, rfl⟩ := hO.spelt
    have k0 := hO.below
    clear hR hO
    go_wp2_with fail
    go_at_call 38; refine (goro_awake _).mono ?_; rintro e w2 ⟨rfl, k1⟩
    have k2 := seq k0 k1 k0.size
    go_wp2_with fail
    go_ret
    exact ⟨rfl, k2⟩
  · have d0 : decide (pi < 0) = false := decide_eq_false h0
    have h1 : ((segs f n).length : Int) ≤ pi := by omega
    generalize (segs f n).length = K at *
    clear hp
    go_enter Try.func7, Try.ntmps7
    go_wp2_with fail
    go_at_call 48; refine hR.mono ?_; rintro e w1 ⟨v, xs, rfl, hO, -⟩
    obtain ⟨A2, c2, rfl⟩ := hO.spelt
    have k0 := hO.below
    clear hR hO
    go_wp2_with fail
    go_at_call 38; refine (goro_awake _).mono ?_; rintro e w2 ⟨rfl, k1⟩
    have k2 := seq k0 k1 k0.size
    go_wp2_with fail
    go_ret
    exact ⟨rfl, k2⟩

set_option maxHeartbeats 4000000 in
theorem goroWhole_ok (A : Option Addr) (n cap p s l : Nat) (f : Nat → Int) (mo : Int) (w : World) (hn : n ≤ 300) (hc : n ≤ cap) (hm : cap ≤ 9223372036854775807) (hs : SeesU w w.heap.size A n f) (hf : ∀ i, i < n → 0 ≤ f i ∧ f i ≤ 18446744073709551615) (hx : (segs f n)[p]? = some (s, l)) (hmo : 0 ≤ mo ∧ mo ≤ 255) : Calls Try.prog 7 #[.slice A n cap, .int .i64 p, .int .u8 mo] w fun e w' => e = .returned (.bool true) ∧ Below w.heap.size w w' := by
  have d : decide ((300 : Int) < (n : Int)) = false := decide_eq_false (by omega)
  have hp : p < (segs f n).length := (List.getElem?_eq_some_iff.1 hx).1
  have hsl := (segs_mem f n (s, l) (List.mem_of_getElem? hx)).1
  have hlen := segs_len f n
  have hl : l ≤ 300 := by dsimp only at hsl; omega
  have HFF : Hid (∀ i, i < l → 0 ≤ f (s + i)) := fun i hi => (hf (s + i) (by dsimp only at hsl; omega)).1
  have hR := refRead_any A n cap f w (by omega) hs hf
  have HRd : Hid (∀ Y, Below w.heap.size w Y → _) := fun Y hY => read_few A n cap f Y (by omega) hc hm ((hs.below hY (Nat.le_refl _)).more hY.size) hf
  generalize hLL : segs f n = L at *
  have d0 : decide ((p : Int) < 0) = false := decide_eq_false (by omega)
  have d1 : decide ((L.length : Int) ≤ (p : Int)) = false := decide_eq_false (by omega)
  have hpL : (p : Int) < (L.length : Int) := by omega
  have HX : Hid (L[p]? = some (s, l)) := hx
  have hK : 1 ≤ L.length := hlen.1
  have heq := eq_instr
  have hnq := neq_instr
  have hfk := field_k
  have hmo0 := hmo.1
  clear hs hf hLL hsl hlen hx
  go_enter Try.func7, Try.ntmps7
  go_wp2_with fail
  go_at_call 48; refine hR.mono ?_; rintro e w1 ⟨v, xs, rfl, hO, hPi⟩
  obtain ⟨g0, c0, rfl, hOut⟩ := outs_row hO hPi hK
  have HB1 : Hid (Below w.heap.size w w1) := hO.below
  have hRd := HRd.out w1 hO.below
  have HOut : Hid (Outs w1 g0 f (L.length : Nat) L) := hOut
  clear hR hO hPi hOut HRd
  go_wp2_with fail
  go_at_call 39; refine hRd.mono ?_; rintro e w2 ⟨c, gg, rfl, hC, h2⟩
  have HB2 : Hid (Below w1.heap.size w1 w2) := h2
  have HAt : Hid (∀ i, ∀ Y, Below w2.heap.size w2 Y → _) := fun i => at_code w2 c gg f L hC p i s l HX.out
  have hN := gnew_ok c 3 w2 (by omega) (block_lt hC.main)
  have HC : Hid (∀ Y, Below w2.heap.size w2 Y → IsCode Y c gg f L) := fun Y hY => hC.below hY
  clear hRd hC h2
  go_wp2_with fail
  go_at_call 40; refine hN.mono ?_; rintro e w3 ⟨x, g, rfl, hA, hb3, -, hg3⟩
  have HB3 : Hid (Below w2.heap.size w2 w3) := hb3
  have HGt : Hid (∀ X Y, Below w2.heap.size w2 X → But [g] X Y → Below w2.heap.size w2 Y) := fun X Y hX hY => hX.trans (hY.below (by simpa using hg3) hX.size)
  have hBg := gbegin_ok w3 x g c 3 _ hA gg f L (HC.out w3 hb3) 1 (by omega) (by omega) p hp (by decide)
  clear hN hA hb3 HC
  go_wp2_with fail
  go_at_call 42; refine hBg.mono ?_; rintro e w4 ⟨rfl, hA4, hB4⟩
  have HB4 : Hid (Below w2.heap.size w2 w4) := HGt.out _ _ HB3.out hB4
  have HA4 : Hid (Ar w4 x g c 3 (upP (fun _ => pl0) 1 (pos (fun j => f (s + j)) (L.length : Nat) l p 0))) := hA4
  have HO4 : Hid (Outs w4 g0 f (L.length : Nat) L) := (HOut.out.below HB2.out).below (HB4.out.mono (Nat.le_refl _))
  obtain ⟨A1, c1, q1, q2⟩ := HO4.out.at' p (s, l) HX.out
  have hSt := steps_any A1 l c1 (fun j => f (s + j)) (L.length : Nat) p w4 hl q2 HFF.out
  have HW4 : Hid (Below w.heap.size w w4) := HB1.out.trans ((HB2.out.trans (HB4.out.mono HB2.out.size)).mono HB1.out.size)
  have hg4 : g < w4.heap.size := hA4.glt
  have hgup : w.heap.size ≤ g := Nat.le_trans (Nat.le_trans HB1.out.size HB2.out.size) hg3
  dsimp only at q1
  clear hBg hA4 hB4 HB3 HOut HO4 q2 hg3
  go_wp2_with fail
  go_at_call 49; refine hSt.mono ?_; rintro e w6 ⟨N, v6, rfl, hO6, hN6, hnz, hze⟩
  obtain ⟨A6, c6, rfl, hrow⟩ := own_steps hO6
  have HROW : Hid (0 < N → ∃ gw, A6 = some ⟨gw, 0, none⟩ ∧ w4.heap.size ≤ gw ∧ gw < w6.heap.size ∧ _) := hrow
  have HB6 : Hid (Below w4.heap.size w4 w6) := hO6.below
  have HZ : Hid (ik (fun j => f (s + j)) l (pos (fun j => f (s + j)) (L.length : Nat) l p N).a.toNat = 0) := hze
  have HA6 : Hid (Ar w6 x g c 3 (upP (fun _ => pl0) 1 (pos (fun j => f (s + j)) (L.length : Nat) l p 0))) := HA4.out.below hO6.below
  have HB26 : Hid (Below w2.heap.size w2 w6) := HB4.out.trans (hO6.below.mono HB4.out.size)
  have HW6 : Hid (Below w.heap.size w w6) := HW4.out.trans (hO6.below.mono HW4.out.size)
  have HSTEP : Hid (∀ j wr, Ar wr x g c 3 (upP (fun _ => pl0) 1 (pos (fun j => f (s + j)) (L.length : Nat) l p j)) → Below w2.heap.size w2 wr → Calls Try.prog 44 #[.pointer (some ⟨x, 0, none⟩), .int .i64 1] wr fun e w' => e = .returned (.agg #[.int .i64 (ik (fun j => f (s + j)) l (pos (fun j => f (s + j)) (L.length : Nat) l p j).a.toNat), .int .i64 (ia (fun j => f (s + j)) (L.length : Nat) l (pos (fun j => f (s + j)) (L.length : Nat) l p j).a.toNat)]) ∧ Ar w' x g c 3 (upP (fun _ => pl0) 1 (pos (fun j => f (s + j)) (L.length : Nat) l p (j + 1))) ∧ But [g] wr w') := by
    show ∀ j wr, _
    intro j wr hA hBw
    obtain ⟨e1, e2, e3, e4⟩ := pos_ok (fun j => f (s + j)) (L.length : Nat) l p HFF.out j
    have hcast : (((pos (fun j => f (s + j)) (L.length : Nat) l p j).a.toNat : Nat) : Int) = (pos (fun j => f (s + j)) (L.length : Nat) l p j).a := by omega
    have hs := gstep_on wr x g c 3 _ hA 1 (by omega) (by omega) (by rw [upP_at, e4]; decide) (ik (fun j => f (s + j)) l (pos (fun j => f (s + j)) (L.length : Nat) l p j).a.toNat) (ia (fun j => f (s + j)) (L.length : Nat) l (pos (fun j => f (s + j)) (L.length : Nat) l p j).a.toNat) (fun Y hY => by
      have := HAt.out (pos (fun j => f (s + j)) (L.length : Nat) l p j).a.toNat Y (hBw.trans (hY.mono hBw.size))
      rw [hcast] at this
      rw [upP_at, e1]
      exact this) (fun hk => by
      unfold ik at hk
      split at hk
      · have := ag_one (f (s + (pos (fun j => f (s + j)) (L.length : Nat) l p j).a.toNat)) (L.length : Nat) (HFF.out _ ‹_›) hk
        unfold ia
        rw [if_pos ‹_›]
        exact ⟨this.1, Int.le_trans this.2 (by omega)⟩
      · cases hk) (by rw [upP_at]; omega)
    rw [upP_at, upP_upP] at hs
    exact hs
  clear hSt hO6 hrow hnz hze HA4 HB4 HB6 HW4 HAt q1 hK
  go_wp2_with fail
  go_loopw [12] (fun i wr => ∃ (j : Nat), j ≤ N ∧ i = .int .i64 j ∧ Hid (Ar wr x g c 3 (upP (fun _ => pl0) 1 (pos (fun j => f (s + j)) (L.length : Nat) l p j))) ∧ Hid (But [g] w6 wr)) (fun i _ => N - (intOf i).toNat)
  case atStart => exact ⟨0, Nat.zero_le _, rfl, HA6, But.refl _ _⟩
  case round =>
    clear HA6
    obtain ⟨j, hjN, rfl, HA, HB⟩ := hrel
    by_cases hlt : j < N
    · obtain ⟨gw, rfl, hgw1, hgw2, hrow⟩ := HROW.out (by omega)
      have hgne : gw ≠ g := by omega
      obtain ⟨r0, r1⟩ := hrow j hlt
      have hkeep : ∀ Y, But [g] w6 Y → Y.cell? ⟨gw, j * 2, none⟩ = some (.int .i64 (ik (fun j => f (s + j)) l (pos (fun j => f (s + j)) (L.length : Nat) l p j).a.toNat)) ∧ Y.cell? ⟨gw, j * 2 + 1, none⟩ = some (.int .i64 (ia (fun j => f (s + j)) (L.length : Nat) l (pos (fun j => f (s + j)) (L.length : Nat) l p j).a.toNat)) := fun Y hY => by
        have hb := hY.block gw hgw2 (by simpa using hgne)
        exact ⟨(cell_block hb).trans r0, (cell_block hb).trans r1⟩
      have HKP : Hid (∀ Y, But [g] w6 Y → _) := hkeep
      obtain ⟨t0, t1⟩ := HKP.out wr HB.out
      have hst := HSTEP.out j wr.drew (HA.out.below (Below.refl _ _).drew) ((HGt.out _ _ HB26.out HB.out).drew)
      have hj1 : (j : Int) < (N : Int) := by omega
      have HBd : Hid (But [g] w6 wr.drew) := HB.out.drew
      clear hkeep r0 r1 hrow
      generalize ik (fun j => f (s + j)) l (pos (fun j => f (s + j)) (L.length : Nat) l p j).a.toNat = k0 at *
      generalize ia (fun j => f (s + j)) (L.length : Nat) l (pos (fun j => f (s + j)) (L.length : Nat) l p j).a.toNat = a0 at *
      go_wp2_with fail
      go_region_with (go_at_call 44; refine hst.mono ?_; rintro e w7 ⟨rfl, hA7, hB7⟩; have hB67 := HBd.out.trans hB7; have t0' := (HKP.out _ hB67).1; have t1' := (HKP.out _ hB67).2)
      all_goals
        have HA7 : Hid (Ar w7 x g c 3 _) := hA7
        have HB7 : Hid (But [g] w6 w7) := hB67
        clear hst hA7 hB7 hB67 t0 t1 t0' t1' HKP HA HB
        go_wp2_with fail
        go_roundw
        case rel => exact ⟨j + 1, by omega, by go_num, HA7, HB7⟩
        case measure => simp [intOf]; omega
    · obtain rfl : j = N := by omega
      have hgd : decide ((j : Int) < (j : Int)) = false := by simp
      have HSN : Hid (∀ wr, Ar wr x g c 3 (upP (fun _ => pl0) 1 (pos (fun j => f (s + j)) (L.length : Nat) l p j)) → Below w2.heap.size w2 wr → Calls Try.prog 44 #[.pointer (some ⟨x, 0, none⟩), .int .i64 1] wr fun e w' => ∃ a0, e = .returned (.agg #[.int .i64 0, .int .i64 a0]) ∧ Ar w' x g c 3 (upP (fun _ => pl0) 1 (pos (fun j => f (s + j)) (L.length : Nat) l p j)) ∧ But [g] wr w') := by
        show ∀ wr, _
        intro wr hA hBw
        have hs := HSTEP.out j wr hA hBw
        rw [HZ.out] at hs
        refine hs.mono ?_
        rintro e w' ⟨rfl, h1, h2⟩
        have e5 : pos (fun j => f (s + j)) (L.length : Nat) l p (j + 1) = pos (fun j => f (s + j)) (L.length : Nat) l p j := by
          show plNext _ (ik _ _ _) _ = _
          rw [HZ.out]
          unfold plNext
          rw [if_pos rfl]
        rw [e5] at h1
        exact ⟨_, rfl, h1, h2⟩
      generalize upP (fun _ => pl0) 1 (pos (fun j => f (s + j)) (L.length : Nat) l p j) = PP at *
      clear HSTEP HZ HROW
      go_wp2_with fail
      go_loopw [13] (fun i wr => ∃ (t : Nat), (t : Int) ≤ mo + 1 ∧ i = .int .i64 t ∧ Hid (Ar wr x g c 3 PP) ∧ Hid (But [g] w6 wr)) (fun i _ => 300 - (intOf i).toNat)
      case atStart => exact ⟨0, by omega, rfl, HA, HB⟩
      case round =>
        clear HA HB
        obtain ⟨t, htm, rfl, HA, HB⟩ := hrel
        by_cases htl : (t : Int) ≤ mo
        · have hst := HSN.out wr HA.out (HGt.out _ _ HB26.out HB.out)
          have htn : (t : Int) ≤ 255 := by omega
          clear HA
          go_wp2_with fail
          go_at_call 44; refine hst.mono ?_; rintro e w7 ⟨a0, rfl, hA7, hB7⟩
          have HA7 : Hid _ := hA7
          have HB7 : Hid (But [g] w6 w7) := HB.out.trans hB7
          clear hst hA7 hB7 HB
          go_wp2_with fail
          go_roundw
          case rel => exact ⟨t + 1, by omega, by go_num, HA7, HB7⟩
          case measure => simp [intOf]; omega
        · have hd : decide ((t : Int) ≤ mo) = false := decide_eq_false htl
          have hbb : Below w.heap.size w wr := HW6.out.trans (HB.out.below (by simpa using hgup) HW6.out.size)
          clear HA HB
          go_wp2_with fail
          go_at_call 38; refine (goro_awake _).mono ?_; rintro e w8 ⟨rfl, k8⟩
          have hb9 := seq hbb k8 hbb.size
          go_wp2_with fail
          go_ret
          exact ⟨rfl, hb9⟩

theorem goroWhole_walk (A : Option Addr) (n cap : Nat) (f : Nat → Int) (pi mo : Int) (w : World) (hc : n ≤ cap) (hm : cap ≤ 9223372036854775807) (hs : SeesU w w.heap.size A n f) (hf : ∀ i, i < n → 0 ≤ f i ∧ f i ≤ 18446744073709551615) (hmo : 0 ≤ mo ∧ mo ≤ 255) : Calls Try.prog 7 #[.slice A n cap, .int .i64 pi, .int .u8 mo] w fun e w' => e = .returned (.bool true) ∧ Below w.heap.size w w' := by
  by_cases hn : 300 < n
  · exact goroWhole_many A n cap pi mo w hn
  · by_cases hp : pi < 0 ∨ ((segs f n).length : Int) ≤ pi
    · exact goroWhole_none A n cap f pi mo w (by omega) hs hf hp
    · obtain ⟨p, rfl⟩ : ∃ p : Nat, pi = p := ⟨pi.toNat, by omega⟩
      have hpl : p < (segs f n).length := by omega
      exact goroWhole_ok A n cap p _ _ f mo w (by omega) hc hm hs hf (List.getElem?_eq_getElem hpl) hmo

end Go.Proofs.Ytlnjjcfkcoaceaa
