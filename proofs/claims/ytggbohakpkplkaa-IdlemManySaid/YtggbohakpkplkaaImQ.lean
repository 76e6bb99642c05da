/- The walk of the law IdlemMany. -/
import Derived.Test.YtggbohakpkplkaaImP
import Derived.Test.YtggbohakpkplkaaImAw
import Derived.Test.YtggbohakpkplkaaBytes
namespace Go.Proofs.Ytggbohakpkplkaa
open Go Go.RowKit
set_option linter.unusedVariables false
set_option maxRecDepth 100000
set_option linter.unusedSimpArgs false

theorem row_pop2 {w : World} {base : Nat} {e : TypeId} {g n cap : Nat} {xs : List Value} (h : w.ownsRow base e 1 (.slice (some ⟨g, 0, none⟩) (n + 1) cap) (n + 1) xs) : w.ownsRow base e 1 (.slice (some ⟨g, 0, none⟩) n cap) n (xs.take n) := by
  obtain ⟨h1, h2⟩ := h
  refine ⟨by rw [List.length_take, h1]; omega, ?_⟩
  rcases h2 with ⟨e0, -⟩ | ⟨gb, cp, cur, e0, h3, h4, h5, h6, h7, h8⟩
  · cases e0
  · injection e0 with e1 e2 e3
    injection e1 with e1
    injection e1 with e1
    subst e1 e3
    refine .inr ⟨g, cap, cur, rfl, h3, h4, by omega, h6, h7, ?_⟩
    rw [← h8, List.take_take]
    congr 1
    omega
theorem row_set {w : World} {base : Nat} {e : TypeId} {g n cap : Nat} {xs : List Value} (h : w.ownsRow base e 1 (.slice (some ⟨g, 0, none⟩) n cap) n xs) (i : Nat) (u : Value) (hi : i < n) : (w.setCell ⟨g, i, none⟩ u).ownsRow base e 1 (.slice (some ⟨g, 0, none⟩) n cap) n (xs.set i u) ∧ w.frozen? ⟨g, i, none⟩ = false := by
  obtain ⟨h1, h2⟩ := h
  rcases h2 with ⟨e0, -⟩ | ⟨gb, cp, cur, e0, h3, h4, h5, h6, h7, h8⟩
  · cases e0
  · injection e0 with e1 e2 e3
    injection e1 with e1
    injection e1 with e1
    subst e1 e3
    refine ⟨⟨by rw [List.length_set, h1], .inr ⟨g, cap, cur.setIfInBounds i u, rfl, h3, heap_set h4 i u, h5, h6, by simpa using h7, ?_⟩⟩, by simp [World.frozen?, h4]⟩
    rw [Array.toList_setIfInBounds, List.take_set, h8]
theorem idlemMany_bad (T : Int) (E : Option Addr) (mp cq : Nat) (w : World) (hmp : mp ≤ 9223372036854775807) (h : T < 1 ∨ 8 < T ∨ 100 < mp) :
    Calls Try.prog 9 #[.int .i64 T, .slice E mp cq] w fun e w' => e = .returned (.bool true) ∧ Below w.heap.size w w' := by
  by_cases h1 : T < 1
  · clear h
    go_enter Try.func9, Try.ntmps9
    go_wp2_with fail
    go_at_call 36; refine (idlem_awake _).mono ?_; rintro e w2 ⟨rfl, h2⟩
    go_wp2_with fail
    go_ret
    exact ⟨rfl, h2⟩
  have d1 : decide (T < 1) = false := decide_eq_false h1
  by_cases h3 : 8 < T
  · clear h
    go_enter Try.func9, Try.ntmps9
    go_wp2_with fail
    go_at_call 36; refine (idlem_awake _).mono ?_; rintro e w2 ⟨rfl, h2⟩
    go_wp2_with fail
    go_ret
    exact ⟨rfl, h2⟩
  have d2 : decide (8 < T) = false := decide_eq_false h3
  have h4 : 100 < mp := by omega
  clear h
  go_enter Try.func9, Try.ntmps9
  go_wp2_with fail
  go_at_call 36; refine (idlem_awake _).mono ?_; rintro e w2 ⟨rfl, h2⟩
  go_wp2_with fail
  go_ret
  exact ⟨rfl, h2⟩

set_option maxHeartbeats 16000000 in
theorem idlemMany_ok (T : Int) (E : Option Addr) (mp cq : Nat) (pk : Nat → Nat) (w : World) (hP : 1 ≤ T ∧ T ≤ 8) (hmp : mp ≤ 100) (hB : SeesB8 w w.heap.size E mp pk) :
    Calls Try.prog 9 #[.int .i64 T, .slice E mp cq] w fun e w' => e = .returned (.bool true) ∧ Below w.heap.size w w' := by
  obtain ⟨i0, hi, hz0, hz1, hz2⟩ := info_parts RI.lists_info3
  obtain ⟨n, hn⟩ : ∃ n : Nat, (n : Int) = 286 + 3 * T := ⟨(286 + 3 * T).toNat, by omega⟩
  have hL := lay_some 1 T 1 none 0 0 n (fun _ => 0) (fun _ => 0) w (by omega) ⟨⟨by omega⟩, by omega, by omega, by omega⟩ (by omega) (fun h => absurd h (by omega)) (fun i h => absurd h (by omega))
  have HN : Hid ((n : Int) = 286 + 3 * T) := hn
  have HN6 : Hid (n ≤ 1000000) := (by omega : n ≤ 1000000)
  have HP : Hid (1 ≤ T ∧ T ≤ 8) := hP
  have HPB : Hid (SeesB8 w w.heap.size E mp pk) := hB
  have d1 : decide (T < 1) = false := decide_eq_false (by omega)
  have d2 : decide (8 < T) = false := decide_eq_false (by omega)
  have d3 : decide ((100 : Int) < (mp : Int)) = false := decide_eq_false (by omega)
  clear hn hB hP
  go_enter Try.func9, Try.ntmps9
  go_wp2_with fail
  go_at_call 10; refine hL.mono ?_; rintro e w1 ⟨cl, A, A', cap, cap', c, b, c', b', rfl, hLd⟩
  have HB1 : Hid (Below w.heap.size w w1) := hLd.below
  have HI0 : Hid (Is w1 111 A cap c b n (fresh (fun _ => 0))) := hLd.two.m
  have HY0 : Hid (Lay w1 cl 1 T 1) := hLd.lay
  have hne : Hid (cl ≠ c ∧ cl ≠ b) := lay_ne hLd.lay (by decide) hLd.two.m (by have := HN.out; have := HP.out; omega)
  have hup : Hid (w.heap.size ≤ c ∧ w.heap.size ≤ b) := ⟨hLd.up.2.1, hLd.up.2.2.1⟩
  have hlo : Hid (c < w1.heap.size ∧ b < w1.heap.size ∧ cl < w1.heap.size) := ⟨hLd.two.m.lt, hLd.two.m.bl, hLd.lay.lt⟩
  have HR0 : Hid (RI.IntsOn w1 w1.heap.size (.slice none 0 0) ([] : List Int)) := ⟨World.ownsRow_nil _ _ _ _⟩
  have HBS : Hid (w.heap.size ≤ w1.heap.size) := HB1.out.size
  have HQ0 : Hid (Mny T n (fresh (fun _ => 0)) [] [] ∧ Low (fresh (fun _ => 0)) (8 * (0 : Nat) : Int)) := ⟨mny_start (fun _ => rfl) HP.out.1, low_fresh _⟩
  generalize hbb : w1.heap.size = B0 at HR0 hlo HBS
  have HBB0 : Hid (B0 ≤ w1.heap.size) := (by omega : B0 ≤ w1.heap.size)
  have HRF : Hid (∀ (W : World) (v : Value) (l : List Int), Lay W cl 1 T 1 → RI.IntsOn W B0 v l → (∀ k ∈ ((Rd.lay cl 1 T 1).and (Rd.ints B0 v l)).B, k < W.heap.size) ∧ (c ∉ ((Rd.lay cl 1 T 1).and (Rd.ints B0 v l)).B ∧ b ∉ ((Rd.lay cl 1 T 1).and (Rd.ints B0 v l)).B)) := fun W v l hy hv => by
    have hU := hv.up
    refine ⟨fun k hk => ?_, fun hm => ?_, fun hm => ?_⟩
    · rcases List.mem_append.1 hk with hk | hk
      · have : k = cl := List.mem_singleton.1 hk
        rw [this]; exact hy.lt
      · exact (hU k hk).2
    · rcases List.mem_append.1 hm with hm | hm
      · exact hne.out.1 (List.mem_singleton.1 hm).symm
      · have h1 := (hU _ hm).1; have h2 := hlo.out; omega
    · rcases List.mem_append.1 hm with hm | hm
      · exact hne.out.2 (List.mem_singleton.1 hm).symm
      · have h1 := (hU _ hm).1; have h2 := hlo.out; omega
  clear hL hLd hbb
  go_wp2_with fail
  go_loopw [9, 10] (fun vv i wr => ∃ (j : Nat) (v : Value) (s : St) (had r : List Int), v = vv ∧ j ≤ mp ∧ i = .int .i64 j ∧ Hid (Is wr 111 A cap c b n s) ∧ Hid (Lay wr cl 1 T 1) ∧ Hid (Below w.heap.size w wr) ∧ Hid (RI.IntsOn wr B0 v had) ∧ Hid (B0 ≤ wr.heap.size) ∧ Hid (Mny T n s had r ∧ Low s (8 * j : Int))) (fun v i _ => mp - (intOf i).toNat)
  case atStart => exact ⟨0, _, _, [], [], rfl, Nat.zero_le _, rfl, HI0, HY0, HB1, HR0, HBB0, HQ0⟩
  case round =>
    clear HI0 HY0 HB1 HR0 HBB0 HQ0
    obtain ⟨j, v, s, had, r, rfl, hj, rfl, HI, HY, HB, HV, HBB, HQ⟩ := hrel
    by_cases hlt : j < mp
    · obtain ⟨fb, foff, rfl, hfb, hcell⟩ := HPB.out (by omega)
      have hk1 : (j : Int) < (mp : Int) := by omega
      have hk0 : (0 : Int) ≤ (j : Int) := by omega
      obtain ⟨bt, hbt⟩ : ∃ bt, pk j = bt := ⟨_, rfl⟩
      have HPZ : Hid (∀ W, Below w.heap.size w W → W.cell? ⟨fb, foff + j, none⟩ = some (.int .u8 (bt : Int))) := fun W hW => by
        rw [← hbt]
        exact (hW.cell (p := ⟨fb, foff + j, none⟩) hfb).trans (hcell j hlt).1
      have hb255 : bt ≤ 255 := by rw [← hbt]; exact (hcell j hlt).2
      have pz := HPZ.out wr HB.out
      have q1 : Int.tdiv (bt : Int) 2 = ((bt / 2 : Nat) : Int) := by rw [Int.tdiv_eq_ediv_of_nonneg (by omega)]; omega
      have q2 : IntKind.u8.wrap ((bt / 2 : Nat) : Int) = ((bt / 2 : Nat) : Int) := by simp [IntKind.wrap, IntKind.bits, IntKind.signed]; omega
      have q3 : IntKind.i64.wrap ((bt / 2 : Nat) : Int) = ((bt / 2 : Nat) : Int) := by simp [IntKind.wrap, IntKind.bits, IntKind.signed]; omega
      obtain ⟨z2, hz2'⟩ : ∃ z2, bt % 2 = z2 := ⟨_, rfl⟩
      have r1 : Int.tmod (bt : Int) 2 = (z2 : Int) := by rw [Int.tmod_eq_emod_of_nonneg (by omega)]; omega
      have r2 : IntKind.u8.wrap (z2 : Int) = (z2 : Int) := by simp [IntKind.wrap, IntKind.bits, IntKind.signed]; omega
      have HZZ : Hid (z2 = 0 ∨ z2 = 1) := (by omega : z2 = 0 ∨ z2 = 1)
      have HLN : Hid (had.length ≤ 8) := by
        have h := HQ.out.1.le
        rw [List.length_append] at h
        have := HP.out
        show had.length ≤ 8
        omega
      generalize (bt / 2 : Nat) = bh at *
      clear hcell hb255 hbt hz2'
      obtain ⟨Av, capv, hvs⟩ := RI.lists_slice HV.out.own
      subst hvs
      have HLw : Hid (Low s (8 * j : Int)) := HQ.out.2
      by_cases he : z2 = 1
      · subst he
        by_cases hemp : had = []
        · subst hemp
          have HQ2 : Hid (Mny T n s [] r ∧ Low s (8 * (j : Int) + 8)) := ⟨HQ.out.1, HQ.out.2.more (by omega)⟩
          clear HLw HQ
          have HW : Hid (wrap64 (T - ((([] : List Int)).length : Int)) = T - ((([] : List Int)).length : Int)) := (by have h1 := HQ2.out.1.le; have := HP.out; rw [List.length_append] at h1; unfold wrap64; omega : wrap64 (T - ((([] : List Int)).length : Int)) = T - ((([] : List Int)).length : Int))
          have hSp := spare_any _ A cap c b n cl s 1 T 1 HI.out HN6.out HY.out (by have := HP.out; omega)
          rw [HQ2.out.1.spare HN.out HP.out, ← HW.out] at hSp
          have HEND : Hid (∀ w9, Below (wr).heap.size (wr) w9 → ∃ (vv : Value) (ss : St) (hh rr : List Int), vv = .slice Av ([] : List Int).length capv ∧ Hid (Is w9 111 A cap c b n ss) ∧ Hid (Lay w9 cl 1 T 1) ∧ Hid (Below w.heap.size w w9) ∧ Hid (RI.IntsOn w9 B0 vv hh) ∧ Hid (B0 ≤ w9.heap.size) ∧ Hid (Mny T n ss hh rr ∧ Low ss (8 * ((j + 1 : Nat) : Int)))) := fun w9 hd => by
            exact ⟨_, s, ([] : List Int), r, rfl, HI.out.below hd, HY.out.below hd HY.out.lt, seq HB.out hd, HV.out.keep (But.of_below (l := []) hd) (fun k _ h => by cases h), Nat.le_trans HBB.out hd.size, HQ2.out.1, by have := HQ2.out.2; rw [show ((8 * ((j + 1 : Nat) : Int))) = 8 * (j : Int) + 8 by omega]; exact this⟩
          clear HI HY HB HV HBB HQ2 HW
          go_wp2_with fail
          go_at_call 49; refine hSp.mono ?_; rintro e w9 ⟨rfl, h9⟩
          have HE9 := HEND.out w9 h9
          clear hSp HEND h9
          go_wp2_with fail
          go_roundw
          case rel =>
            obtain ⟨vv, ss, hh, rr, e1, g1, g2, g3, g4, g5, g6⟩ := HE9
            exact ⟨j + 1, vv, ss, hh, rr, e1, by omega, by go_num, g1, g2, g3, g4, g5, g6⟩
          case measure => simp [intOf]; omega
        · have hpos : 0 < had.length := List.length_pos_iff.2 hemp
          obtain ⟨yk, hyk⟩ : ∃ yk, bh % had.length = yk := ⟨_, rfl⟩
          have hyl : yk < had.length := by rw [← hyk]; exact Nat.mod_lt _ hpos
          have q4 : Int.tmod (bh : Int) (had.length : Int) = (yk : Int) := by rw [← hyk]; exact tmod_nat bh had.length
          have q5 : wrap64 (yk : Int) = (yk : Int) := by have := HLN.out; unfold wrap64; omega
          have q6 : ((had.length : Int) == 0) = false := by simp; omega
          have q7 : (had.length : Int) ≠ 0 := by omega
          have q8 : (0 : Int) < (had.length : Int) := by omega
          obtain ⟨ga, cpa, ha1, ha2⟩ := RI.IntsOn.cell HV.out (j := yk) hyl
          injection ha1 with ha1 ha3 ha4
          cases ha1
          obtain ⟨o, ho⟩ : ∃ o, had.getD yk 0 = o := ⟨_, rfl⟩
          rw [ho] at ha2
          have hy0 : (0 : Int) ≤ (yk : Int) := Int.natCast_nonneg _
          have hy1 : (yk : Int) < (had.length : Int) := Int.ofNat_lt.2 hyl
          have HYL : Hid (yk < had.length ∧ had.getD yk 0 = o) := ⟨hyl, ho⟩
          clear ho ha3 ha4 hyk hyl hemp hpos
          have hN := fun Y => im_new Y cl 0 o 1 T
          go_wp2_with fail
          go_at_call 37; refine (hN _).mono ?_; rintro e w3 ⟨xp, L0, rfl, hi0, hb3, hu1, -⟩
          have HZ0 : Hid (Solo ((imFl 0 o cl).I (imPM 1 T o)) ((Rd.lay cl 1 T 1).and (Rd.ints B0 (.slice (some ⟨ga, 0, none⟩) had.length capv) had)) w w3 A cap c b n ((imPM 1 T o).steps 0 n 0 (ImT.h0, s)).2 xp ((imPM 1 T o).steps 0 n 0 (ImT.h0, s)).1 L0) := Solo.begin HI.out hb3 HB.out hup.out hi0 hu1 ⟨HY.out, HV.out⟩ (HRF.out _ _ _ HY.out HV.out).1 (HRF.out _ _ _ HY.out HV.out).2
          have HLO : Hid (∀ q : Nat, q ≤ 6 → Low ((imPM 1 T o).steps 0 n q (ImT.h0, s)).2 1000000) := fun q hq => (PM.steps_low (imPM 1 T o) 0 n q (ImT.h0, s) HLw.out).more (by omega)
          have HG : Hid (((imFl 0 o cl).I (imPM 1 T o)).Good (imPM 1 T o) ∧ Steps (imPM 1 T o) ((imFl 0 o cl).I (imPM 1 T o)) (Rd.lay cl 1 T 1) 40 0) := ⟨Fl.good (im_laws 0 1 T 1 o cl (by omega) (by have := HP.out; omega)), Fl.steps (im_laws 0 1 T 1 o cl (by omega) (by have := HP.out; omega)) stepby_imp⟩
          have HB3 : Hid (B0 ≤ w3.heap.size) := Nat.le_trans HBB.out hb3.size
          clear hN hi0 hb3 hu1 HI HY HB HV HBB
          go_wp2_with fail
          go_loopw [14] (fun kk wi => ∃ (q : Nat) (L : List Nat), q ≤ 6 ∧ kk = .int .i64 q ∧ Hid (Solo ((imFl 0 o cl).I (imPM 1 T o)) ((Rd.lay cl 1 T 1).and (Rd.ints B0 (.slice (some ⟨ga, 0, none⟩) had.length capv) had)) w wi A cap c b n ((imPM 1 T o).steps 0 n q (ImT.h0, s)).2 xp ((imPM 1 T o).steps 0 n q (ImT.h0, s)).1 L) ∧ Hid (B0 ≤ wi.heap.size)) (fun kk _ => 6 - (intOf kk).toNat)
          case atStart => exact ⟨0, L0, by omega, rfl, HZ0, HB3⟩
          case round =>
            clear HZ0 HB3
            obtain ⟨q, L, hq, rfl, HS, HBB⟩ := hrel
            by_cases hq9 : q < 6
            · have hSt := HS.out.stepUp HG.out.1 HG.out.2 (fun Y (h : ((Rd.lay cl 1 T 1).and (Rd.ints B0 (.slice (some ⟨ga, 0, none⟩) had.length capv) had)).P Y) => h.1) (fun k hk => List.mem_append_left _ hk) HN6.out (HLO.out q hq)
              rw [show (imPM 1 T o).goS 0 n ((imPM 1 T o).steps 0 n q (ImT.h0, s)).1 ((imPM 1 T o).steps 0 n q (ImT.h0, s)).2 = ((imPM 1 T o).steps 0 n (q + 1) (ImT.h0, s)).2 by rw [PM.steps_succ], show (imPM 1 T o).goT n ((imPM 1 T o).steps 0 n q (ImT.h0, s)).1 ((imPM 1 T o).steps 0 n q (ImT.h0, s)).2 = ((imPM 1 T o).steps 0 n (q + 1) (ImT.h0, s)).1 by rw [PM.steps_succ]] at hSt
              have hq1 : (q : Int) < 6 := by omega
              have hq0 : (0 : Int) ≤ (q : Int) := by omega
              clear HS
              go_wp2_with fail
              go_at_call 40; refine hSt.mono ?_; rintro e w4 ⟨rfl, hsz', L', hS'⟩
              have HS' : Hid _ := hS'
              have HBB' : Hid (B0 ≤ w4.heap.size) := Nat.le_trans HBB.out hsz'
              clear hSt hS'
              go_wp2_with fail
              go_roundw
              case rel => exact ⟨q + 1, L', by omega, by go_num, HS', HBB'⟩
              case measure => simp [intOf]; omega
            · obtain rfl : q = 6 := by omega
              clear HLO
              have hV0 : RI.IntsOn wr B0 (.slice (some ⟨ga, 0, none⟩) had.length capv) had := HS.out.rd.2
              obtain ⟨m1, hm1⟩ : ∃ m1, had.length = m1 + 1 := ⟨had.length - 1, by have := HYL.out.1; omega⟩
              obtain ⟨gx, cpx, hx1, hx2⟩ := RI.IntsOn.cell hV0 (j := m1) (by omega)
              injection hx1 with hx1 hx3 hx4
              cases hx1
              obtain ⟨zl, hzl⟩ : ∃ zl, had.getD m1 0 = zl := ⟨_, rfl⟩
              rw [hzl] at hx2
              obtain ⟨gx, cpx, hy1', hy2⟩ := RI.IntsOn.cell hV0 (j := yk) HYL.out.1
              injection hy1' with hy1' hy3 hy4
              cases hy1'
              rw [HYL.out.2] at hy2
              obtain ⟨hst, hfr⟩ := row_set hV0.own yk (.int .i64 zl) HYL.out.1
              have hUP := hV0.up
              have hgaB : B0 ≤ ga ∧ ga < wr.heap.size := hUP ga (by simp [rowB, Value.ownBlock])
              have hBu : But [ga] wr (wr.setCell ⟨ga, yk, none⟩ (.int .i64 zl)) := (But.refl _ wr).set (g := ga) (.inl (by simp)) yk _
              have hgc : ga ≠ c ∧ ga ≠ b ∧ ga ≠ cl := by have h2 := hlo.out; omega
              have HI : Hid (Is (wr.setCell ⟨ga, yk, none⟩ (.int .i64 zl)) 111 A cap c b n ((imPM 1 T o).steps 0 n 6 (ImT.h0, s)).2) := HS.out.mem.but hBu (by simpa using hgc.1.symm) (by simpa using hgc.2.1.symm)
              have HY : Hid (Lay (wr.setCell ⟨ga, yk, none⟩ (.int .i64 zl)) cl 1 T 1) := (hBu.block cl (HS.out.rd.1 : Lay wr cl 1 T 1).lt (by simpa using hgc.2.2.symm)).trans (HS.out.rd.1 : Lay wr cl 1 T 1)
              have HB : Hid (Below w.heap.size w (wr.setCell ⟨ga, yk, none⟩ (.int .i64 zl))) := HS.out.below.trans (hBu.below (fun k hk => by simp at hk; have := HBS.out; omega) HS.out.below.size)
              have HBB5 : Hid (B0 ≤ (wr.setCell ⟨ga, yk, none⟩ (.int .i64 zl)).heap.size) := Nat.le_trans HBB.out hBu.size
              have HV : Hid (RI.IntsOn (wr.setCell ⟨ga, yk, none⟩ (.int .i64 zl)) B0 (.slice (some ⟨ga, 0, none⟩) m1 capv) (swapOut had yk)) := by
                rw [hm1] at hst
                have h2 := row_pop2 hst
                refine ⟨?_⟩
                have hln : (swapOut had yk).length = m1 := by rw [swapOut_len, hm1]; omega
                rw [hln]
                have e : ((List.map (Value.int .i64) had).set yk (.int .i64 zl)).take m1 = List.map (Value.int .i64) (swapOut had yk) := by
                  unfold swapOut
                  rw [show had.length - 1 = m1 by omega, hzl, List.map_take, List.map_set]
                rw [e] at h2
                exact h2
              have HQ2 : Hid (Mny T n ((imPM 1 T o).steps 0 n 6 (ImT.h0, s)).2 (swapOut had yk) (o :: r) ∧ Low ((imPM 1 T o).steps 0 n 6 (ImT.h0, s)).2 (8 * (j : Int) + 8)) := by
                have h := mny_put HQ.out.1 HN.out HP.out HYL.out.1
                rw [HYL.out.2] at h
                exact ⟨h, (PM.steps_low _ 0 n 6 _ HQ.out.2).more (by omega)⟩
              have HCAP : Hid (had.length ≤ capv) := by
                rcases hV0.own.2 with ⟨e0, -⟩ | ⟨gb, cp, cur, e0, -, -, h5, -⟩
                · cases e0
                · injection e0 with e1 e2 e3
                  subst e3
                  exact h5
              have hcp := HCAP.out
              have pz2 := HPZ.out _ HB.out
              have hw1 : wrap64 ((had.length : Int) - 1) = (m1 : Int) := by have := HLN.out; unfold wrap64; omega
              have hm0 : (0 : Int) ≤ (m1 : Int) := by omega
              have hm2 : (m1 : Int) < (had.length : Int) := by omega
              have hm3 : (m1 : Int) ≤ (had.length : Int) := by omega
              have hm4 : (m1 : Int) ≤ (capv : Int) := by omega
              have HLS : Hid ((swapOut had yk).length = m1) := by
                show (swapOut had yk).length = m1
                rw [swapOut_len, hm1]; omega
              clear HS hV0 hst hUP hgaB hBu hgc HLw HQ HCAP hcp hx3 hx4 hy3 hy4 hzl HBB
              have HBB := HBB5
              clear HBB5
              generalize ((imPM 1 T o).steps 0 n 6 (ImT.h0, s)).2 = s2 at *
              generalize swapOut had yk = had2 at *
              clear hm1
              have HW : Hid (wrap64 (T - ((had2).length : Int)) = T - ((had2).length : Int)) := (by have h1 := HQ2.out.1.le; have := HP.out; rw [List.length_append] at h1; unfold wrap64; omega : wrap64 (T - ((had2).length : Int)) = T - ((had2).length : Int))
              have hSp := spare_any _ A cap c b n cl s2 1 T 1 HI.out HN6.out HY.out (by have := HP.out; omega)
              rw [HQ2.out.1.spare HN.out HP.out, ← HW.out] at hSp
              rw [HLS.out] at hSp
              have HEND : Hid (∀ w9, Below ((wr.setCell ⟨ga, yk, none⟩ (.int .i64 zl))).heap.size ((wr.setCell ⟨ga, yk, none⟩ (.int .i64 zl))) w9 → ∃ (vv : Value) (ss : St) (hh rr : List Int), vv = .slice (some ⟨ga, 0, none⟩) m1 capv ∧ Hid (Is w9 111 A cap c b n ss) ∧ Hid (Lay w9 cl 1 T 1) ∧ Hid (Below w.heap.size w w9) ∧ Hid (RI.IntsOn w9 B0 vv hh) ∧ Hid (B0 ≤ w9.heap.size) ∧ Hid (Mny T n ss hh rr ∧ Low ss (8 * ((j + 1 : Nat) : Int)))) := fun w9 hd => by
                exact ⟨_, s2, had2, (o :: r), rfl, HI.out.below hd, HY.out.below hd HY.out.lt, seq HB.out hd, HV.out.keep (But.of_below (l := []) hd) (fun k _ h => by cases h), Nat.le_trans HBB.out hd.size, HQ2.out.1, by have := HQ2.out.2; rw [show ((8 * ((j + 1 : Nat) : Int))) = 8 * (j : Int) + 8 by omega]; exact this⟩
              clear HI HY HB HV HBB HQ2 HW
              go_wp2_with fail
              go_at_call 49; refine hSp.mono ?_; rintro e w9 ⟨rfl, h9⟩
              have HE9 := HEND.out w9 h9
              clear hSp HEND h9
              go_wp2_with fail
              go_roundw
              case rel =>
                obtain ⟨vv, ss, hh, rr, e1, g1, g2, g3, g4, g5, g6⟩ := HE9
                exact ⟨j + 1, vv, ss, hh, rr, e1, by omega, by go_num, g1, g2, g3, g4, g5, g6⟩
              case measure => simp [intOf]; omega
      · have he0 : z2 = 0 := by rcases HZZ.out with h | h; exact h; exact absurd h he
        subst he0
        clear he
        have hN := fun Y => jg_new Y cl 0 1 T
        go_wp2_with fail
        go_at_call 44; refine (hN _).mono ?_; rintro e w3 ⟨xg, L0, rfl, hi0, hb3, hu1, -⟩
        have HZ0 : Hid (Solo ((jgFl 0 T cl).I (jgPM 1 T)) ((Rd.lay cl 1 T 1).and (Rd.ints B0 (.slice Av had.length capv) had)) w w3 A cap c b n ((jgPM 1 T).steps 0 n 0 (JgT.ld, s)).2 xg ((jgPM 1 T).steps 0 n 0 (JgT.ld, s)).1 L0) := Solo.begin HI.out hb3 HB.out hup.out hi0 hu1 ⟨HY.out, HV.out⟩ (HRF.out _ _ _ HY.out HV.out).1 (HRF.out _ _ _ HY.out HV.out).2
        have HLO : Hid (∀ q : Nat, q ≤ 6 → Low ((jgPM 1 T).steps 0 n q (JgT.ld, s)).2 1000000) := fun q hq => (PM.steps_low (jgPM 1 T) 0 n q (JgT.ld, s) HLw.out).more (by omega)
        have HG : Hid (((jgFl 0 T cl).I (jgPM 1 T)).Good (jgPM 1 T) ∧ Steps (jgPM 1 T) ((jgFl 0 T cl).I (jgPM 1 T)) (Rd.lay cl 1 T 1) 42 0) := ⟨Fl.good (jg_laws 0 1 T 1 cl (by omega) (by have := HP.out; omega)), Fl.steps (jg_laws 0 1 T 1 cl (by omega) (by have := HP.out; omega)) stepby_img⟩
        have HB3 : Hid (B0 ≤ w3.heap.size) := Nat.le_trans HBB.out hb3.size
        clear hN hi0 hb3 hu1 HI HY HB HV HBB
        go_wp2_with fail
        go_loopw [16] (fun kk wi => ∃ (q : Nat) (L : List Nat), q ≤ 6 ∧ kk = .int .i64 q ∧ Hid (Solo ((jgFl 0 T cl).I (jgPM 1 T)) ((Rd.lay cl 1 T 1).and (Rd.ints B0 (.slice Av had.length capv) had)) w wi A cap c b n ((jgPM 1 T).steps 0 n q (JgT.ld, s)).2 xg ((jgPM 1 T).steps 0 n q (JgT.ld, s)).1 L) ∧ Hid (B0 ≤ wi.heap.size)) (fun kk _ => 6 - (intOf kk).toNat)
        case atStart => exact ⟨0, L0, by omega, rfl, HZ0, HB3⟩
        case round =>
          clear HZ0 HB3
          obtain ⟨q, L, hq, rfl, HS, HBB⟩ := hrel
          by_cases hq9 : q < 6
          · have hSt := HS.out.stepUp HG.out.1 HG.out.2 (fun Y (h : ((Rd.lay cl 1 T 1).and (Rd.ints B0 (.slice Av had.length capv) had)).P Y) => h.1) (fun k hk => List.mem_append_left _ hk) HN6.out (HLO.out q hq)
            rw [show (jgPM 1 T).goS 0 n ((jgPM 1 T).steps 0 n q (JgT.ld, s)).1 ((jgPM 1 T).steps 0 n q (JgT.ld, s)).2 = ((jgPM 1 T).steps 0 n (q + 1) (JgT.ld, s)).2 by rw [PM.steps_succ], show (jgPM 1 T).goT n ((jgPM 1 T).steps 0 n q (JgT.ld, s)).1 ((jgPM 1 T).steps 0 n q (JgT.ld, s)).2 = ((jgPM 1 T).steps 0 n (q + 1) (JgT.ld, s)).1 by rw [PM.steps_succ]] at hSt
            have hq1 : (q : Int) < 6 := by omega
            have hq0 : (0 : Int) ≤ (q : Int) := by omega
            clear HS
            go_wp2_with fail
            go_at_call 42; refine hSt.mono ?_; rintro e w4 ⟨rfl, hsz', L', hS'⟩
            have HS' : Hid _ := hS'
            have HBB' : Hid (B0 ≤ w4.heap.size) := Nat.le_trans HBB.out hsz'
            clear hSt hS'
            go_wp2_with fail
            go_roundw
            case rel => exact ⟨q + 1, L', by omega, by go_num, HS', HBB'⟩
            case measure => simp [intOf]; omega
          · obtain rfl : q = 6 := by omega
            clear HLO
            have pz2 := HPZ.out _ HS.out.below
            cases r with
            | cons y1 r1 =>
              obtain ⟨g1, g2⟩ := mny_get HQ.out.1 HN.out HP.out
              have HQ2 : Hid (Mny T n ((jgPM 1 T).steps 0 n 6 (JgT.ld, s)).2 (had ++ [y1]) r1 ∧ Low ((jgPM 1 T).steps 0 n 6 (JgT.ld, s)).2 (8 * (j : Int) + 8)) := ⟨g2, (PM.steps_low _ 0 n 6 _ HQ.out.2).more (by omega)⟩
              have hyb := HQ.out.1.bd y1 (by simp)
              have hle := HQ.out.1.le
              rw [List.length_append, List.length_cons] at hle
              have hGv := jg_got HS.out.mach
              have hD : Calls Try.prog 41 #[.pointer (some ⟨xg, 0, none⟩)] wr fun e w' => e = .returned (.bool true) ∧ wr = w' := by
                obtain ⟨nx, u1, u2⟩ := HG.out.1.next HS.out.mach
                rw [g1] at u2
                rw [show true = nx.isNone by rw [u2]; rfl]
                exact done_img wr xg nx u1
              rw [g1, show (JgT.over (y1)).obs = y1 from rfl] at hGv
              have hVH : RI.IntsOn wr B0 (.slice Av had.length capv) had := HS.out.rd.2
              have HVH : Hid _ := hVH
              have HNI : Hid (∀ o ∈ had, o ≠ y1) := fun o ho e => (List.nodup_append.1 HQ.out.1.nd).2.2 o ho y1 (by simp) e
              have e1 : ((y1 : Int) == -1) = false := by simp; omega
              have e2 : ((had.length : Int) == T) = false := by simp; omega
              have d5 : decide (T ≤ (y1 : Int)) = false := decide_eq_false (by omega)
              have e3 : ((y1 : Int) != -1) = true := by simp; omega
              clear g1 g2 HLw HQ HG hVH hyb hle
              
              go_wp2_with fail
              go_at_call 43; refine hGv.mono ?_; rintro e w8 ⟨rfl, rfl⟩
              clear hGv
              go_wp2_with fail
              go_at_call 41; refine hD.mono ?_; rintro e w8 ⟨rfl, rfl⟩
              clear hD
              go_wp2_with fail
              go_loopw [18] (fun kk wi => ∃ q : Nat, q ≤ had.length ∧ kk = .int .i64 q ∧ wi = wr) (fun kk _ => had.length - (intOf kk).toNat)
              case atStart => exact ⟨0, Nat.zero_le _, rfl, rfl⟩
              case round =>
                obtain ⟨q, hq, rfl, rfl⟩ := hrel
                have hq8 : q ≤ 8 := by have := HLN.out; omega
                by_cases hql : q < had.length
                · obtain ⟨gq, cpq, hq1, hq2⟩ := RI.IntsOn.cell HVH.out (j := q) hql
                  injection hq1 with hq1 hq3 hq4
                  cases hq1
                  have hj0 : (0 : Int) ≤ (q : Int) := by omega
                  have hj1 : (q : Int) < (had.length : Int) := by omega
                  obtain ⟨oq, hoq⟩ : ∃ oq, had.getD q 0 = oq := ⟨_, rfl⟩
                  rw [hoq] at hq2
                  have hne9 : (oq == (y1 : Int)) = false := by
                    have : oq ∈ had := by rw [← hoq, List.getD_eq_getElem?_getD, List.getElem?_eq_getElem hql]; exact List.getElem_mem _
                    simpa using HNI.out oq this
                  clear hoq hq3 hq4
                  go_wp2_with fail
                  go_roundw
                  case rel => exact ⟨q + 1, by omega, by go_num, trivial⟩
                  case measure => simp [intOf]; omega
                · obtain rfl : q = had.length := by omega
                  have hgd2 : decide ((had.length : Int) < (had.length : Int)) = false := by simp
                  have HO : Hid (RI.IntsOn wr B0 (.slice Av had.length capv) had) := HS.out.rd.2
                  have hOO := HO.out.own
                  have HF : Hid _ := HS.out
                  clear HS hgd2
                  go_wp2_with (at_builtin; refine wpList_append_own _ rfl _ _ 62 rfl B0 3 i0 (.int .i64 0) 1 8 Try.underlying62 hi hz0 hz1 hz2 rfl (by decide) _ _ _ rfl (hOO.alloc _) ⟨wr.heap.size, 0, none⟩ 1 1 [.int .i64 y1] rfl rfl (cell_one_new _ _ _) (ints_oneCell .i64 [y1]) (by unfold maxLen; have := HLN.out; omega) (by omega) (by have := HBB.out; simp; omega) ?_; intro v' w5 hown' hgrow2 hnil2)
                  have hBu : But (rowB (.slice Av had.length capv)) wr w5 := ((But.refl _ _).alloc _).grown hgrow2 (fun k hk => .inl (rowB_mem hk))
                  have hUP := HO.out.up
                  have HI : Hid (Is w5 111 A cap c b n ((jgPM 1 T).steps 0 n 6 (JgT.ld, s)).2) := HF.out.mem.but hBu (fun hm => HF.out.rfar.1 (List.mem_append_right _ hm)) (fun hm => HF.out.rfar.2 (List.mem_append_right _ hm))
                  have HY : Hid (Lay w5 cl 1 T 1) := (hBu.block cl (HF.out.rd.1 : Lay wr cl 1 T 1).lt (fun hm => by have h1 := (hUP _ hm).1; have h2 := hlo.out; omega)).trans (HF.out.rd.1 : Lay wr cl 1 T 1)
                  have HB : Hid (Below w.heap.size w w5) := HF.out.below.trans (hBu.below (fun k hk => by have h1 := (hUP _ hk).1; have := HBS.out; omega) HF.out.below.size)
                  have HBB5 : Hid (B0 ≤ w5.heap.size) := Nat.le_trans HBB.out hBu.size
                  have HV0 : Hid (RI.IntsOn w5 B0 v' (had ++ [y1])) := ⟨by
                    rw [List.map_append, List.length_append]
                    exact hown'⟩
                  clear hown' hgrow2 hnil2 hBu hUP hOO HO HF HBB HVH HNI e1 e2 d5 e3
                  have HBB := HBB5
                  clear HBB5
                  generalize ((jgPM 1 T).steps 0 n 6 (JgT.ld, s)).2 = s2 at *
                  generalize had ++ [y1] = had2 at *
                  obtain ⟨Aw, capw, hvw⟩ := RI.lists_slice HV0.out.own
                  subst hvw
                  have HV := HV0
                  clear HV0
                  have HW : Hid (wrap64 (T - ((had2).length : Int)) = T - ((had2).length : Int)) := (by have h1 := HQ2.out.1.le; have := HP.out; rw [List.length_append] at h1; unfold wrap64; omega : wrap64 (T - ((had2).length : Int)) = T - ((had2).length : Int))
                  have hSp := spare_any _ A cap c b n cl s2 1 T 1 HI.out HN6.out HY.out (by have := HP.out; omega)
                  rw [HQ2.out.1.spare HN.out HP.out, ← HW.out] at hSp
                  have HEND : Hid (∀ w9, Below (w5).heap.size (w5) w9 → ∃ (vv : Value) (ss : St) (hh rr : List Int), vv = .slice Aw had2.length capw ∧ Hid (Is w9 111 A cap c b n ss) ∧ Hid (Lay w9 cl 1 T 1) ∧ Hid (Below w.heap.size w w9) ∧ Hid (RI.IntsOn w9 B0 vv hh) ∧ Hid (B0 ≤ w9.heap.size) ∧ Hid (Mny T n ss hh rr ∧ Low ss (8 * ((j + 1 : Nat) : Int)))) := fun w9 hd => by
                    exact ⟨_, s2, had2, r1, rfl, HI.out.below hd, HY.out.below hd HY.out.lt, seq HB.out hd, HV.out.keep (But.of_below (l := []) hd) (fun k _ h => by cases h), Nat.le_trans HBB.out hd.size, HQ2.out.1, by have := HQ2.out.2; rw [show ((8 * ((j + 1 : Nat) : Int))) = 8 * (j : Int) + 8 by omega]; exact this⟩
                  clear HI HY HB HV HBB HQ2 HW
                  go_wp2_with fail
                  go_at_call 49; refine hSp.mono ?_; rintro e w9 ⟨rfl, h9⟩
                  have HE9 := HEND.out w9 h9
                  clear hSp HEND h9
                  go_wp2_with fail
                  go_roundw
                  case rel =>
                    obtain ⟨vv, ss, hh, rr, e1, g1, g2, g3, g4, g5, g6⟩ := HE9
                    exact ⟨j + 1, vv, ss, hh, rr, e1, by omega, by go_num, g1, g2, g3, g4, g5, g6⟩
                  case measure => simp [intOf]; omega
            | nil =>
              by_cases hfull : T ≤ (had.length : Int)
              · obtain ⟨g1, g2⟩ := mny_none HQ.out.1 HN.out HP.out hfull
                have HQ2 : Hid (Mny T n ((jgPM 1 T).steps 0 n 6 (JgT.ld, s)).2 had [] ∧ Low ((jgPM 1 T).steps 0 n 6 (JgT.ld, s)).2 (8 * (j : Int) + 8)) := ⟨g2, (PM.steps_low _ 0 n 6 _ HQ.out.2).more (by omega)⟩
                have hle := HQ.out.1.le
                rw [List.append_nil] at hle
                have hGv := jg_got HS.out.mach
                have hD : Calls Try.prog 41 #[.pointer (some ⟨xg, 0, none⟩)] wr fun e w' => e = .returned (.bool true) ∧ wr = w' := by
                  obtain ⟨nx, u1, u2⟩ := HG.out.1.next HS.out.mach
                  rw [g1] at u2
                  rw [show true = nx.isNone by rw [u2]; rfl]
                  exact done_img wr xg nx u1
                rw [g1, show JgT.none'.obs = -1 from rfl] at hGv
                have hVH : RI.IntsOn wr B0 (.slice Av had.length capv) had := HS.out.rd.2
                have HVH : Hid _ := hVH
                have HNI : Hid (∀ o ∈ had, o ≠ -1) := fun o ho e => by have := HQ.out.1.bd o (by simp [ho]); omega
                have e1 : ((-1 : Int) == -1) = true := by rfl
                have e2 : ((had.length : Int) == T) = true := by simp; omega
                have d5 : decide (T ≤ (-1 : Int)) = false := decide_eq_false (by have := HP.out; omega)
                have e3 : ((-1 : Int) != -1) = false := by rfl
                clear g1 g2 HLw HQ HG hVH hle hfull
                
                go_wp2_with fail
                go_at_call 43; refine hGv.mono ?_; rintro e w8 ⟨rfl, rfl⟩
                clear hGv
                go_wp2_with fail
                go_at_call 41; refine hD.mono ?_; rintro e w8 ⟨rfl, rfl⟩
                clear hD
                go_wp2_with fail
                go_loopw [18] (fun kk wi => ∃ q : Nat, q ≤ had.length ∧ kk = .int .i64 q ∧ wi = wr) (fun kk _ => had.length - (intOf kk).toNat)
                case atStart => exact ⟨0, Nat.zero_le _, rfl, rfl⟩
                case round =>
                  obtain ⟨q, hq, rfl, rfl⟩ := hrel
                  have hq8 : q ≤ 8 := by have := HLN.out; omega
                  by_cases hql : q < had.length
                  · obtain ⟨gq, cpq, hq1, hq2⟩ := RI.IntsOn.cell HVH.out (j := q) hql
                    injection hq1 with hq1 hq3 hq4
                    cases hq1
                    have hj0 : (0 : Int) ≤ (q : Int) := by omega
                    have hj1 : (q : Int) < (had.length : Int) := by omega
                    obtain ⟨oq, hoq⟩ : ∃ oq, had.getD q 0 = oq := ⟨_, rfl⟩
                    rw [hoq] at hq2
                    have hne9 : (oq == (-1 : Int)) = false := by
                      have : oq ∈ had := by rw [← hoq, List.getD_eq_getElem?_getD, List.getElem?_eq_getElem hql]; exact List.getElem_mem _
                      simpa using HNI.out oq this
                    clear hoq hq3 hq4
                    go_wp2_with fail
                    go_roundw
                    case rel => exact ⟨q + 1, by omega, by go_num, trivial⟩
                    case measure => simp [intOf]; omega
                  · obtain rfl : q = had.length := by omega
                    have hgd2 : decide ((had.length : Int) < (had.length : Int)) = false := by simp
                    have HI : Hid _ := HS.out.mem
                    have HY : Hid (Lay _ cl 1 T 1) := HS.out.rd.1
                    have HB : Hid _ := HS.out.below
                    have HV : Hid (RI.IntsOn wr B0 (.slice Av had.length capv) had) := HS.out.rd.2
                    clear HS HVH HNI
                    generalize ((jgPM 1 T).steps 0 n 6 (JgT.ld, s)).2 = s2 at *
                    have HW : Hid (wrap64 (T - ((had).length : Int)) = T - ((had).length : Int)) := (by have h1 := HQ2.out.1.le; have := HP.out; rw [List.length_append] at h1; unfold wrap64; omega : wrap64 (T - ((had).length : Int)) = T - ((had).length : Int))
                    have hSp := spare_any _ A cap c b n cl s2 1 T 1 HI.out HN6.out HY.out (by have := HP.out; omega)
                    rw [HQ2.out.1.spare HN.out HP.out, ← HW.out] at hSp
                    have HEND : Hid (∀ w9, Below (wr).heap.size (wr) w9 → ∃ (vv : Value) (ss : St) (hh rr : List Int), vv = .slice Av had.length capv ∧ Hid (Is w9 111 A cap c b n ss) ∧ Hid (Lay w9 cl 1 T 1) ∧ Hid (Below w.heap.size w w9) ∧ Hid (RI.IntsOn w9 B0 vv hh) ∧ Hid (B0 ≤ w9.heap.size) ∧ Hid (Mny T n ss hh rr ∧ Low ss (8 * ((j + 1 : Nat) : Int)))) := fun w9 hd => by
                      exact ⟨_, s2, had, ([] : List Int), rfl, HI.out.below hd, HY.out.below hd HY.out.lt, seq HB.out hd, HV.out.keep (But.of_below (l := []) hd) (fun k _ h => by cases h), Nat.le_trans HBB.out hd.size, HQ2.out.1, by have := HQ2.out.2; rw [show ((8 * ((j + 1 : Nat) : Int))) = 8 * (j : Int) + 8 by omega]; exact this⟩
                    clear HI HY HB HV HBB HQ2 HW
                    go_wp2_with fail
                    go_at_call 49; refine hSp.mono ?_; rintro e w9 ⟨rfl, h9⟩
                    have HE9 := HEND.out w9 h9
                    clear hSp HEND h9
                    go_wp2_with fail
                    go_roundw
                    case rel =>
                      obtain ⟨vv, ss, hh, rr, e1, g1, g2, g3, g4, g5, g6⟩ := HE9
                      exact ⟨j + 1, vv, ss, hh, rr, e1, by omega, by go_num, g1, g2, g3, g4, g5, g6⟩
                    case measure => simp [intOf]; omega
              · obtain ⟨g1, g2⟩ := mny_more HQ.out.1 HN.out HP.out (by omega)
                have HQ2 : Hid (Mny T n ((jgPM 1 T).steps 0 n 6 (JgT.ld, s)).2 (had ++ [(had.length : Int)]) [] ∧ Low ((jgPM 1 T).steps 0 n 6 (JgT.ld, s)).2 (8 * (j : Int) + 8)) := ⟨g2, (PM.steps_low _ 0 n 6 _ HQ.out.2).more (by omega)⟩
                obtain ⟨y1, hy1e⟩ : ∃ y1 : Int, (had.length : Int) = y1 := ⟨_, rfl⟩
                rw [hy1e] at g1 HQ2
                have HNN : Hid (∀ o ∈ had, o ≠ y1) := fun o ho e => by
                  have := HQ.out.1.rg o (by simp [ho])
                  rw [List.append_nil] at this
                  omega
                have hGv := jg_got HS.out.mach
                have hD : Calls Try.prog 41 #[.pointer (some ⟨xg, 0, none⟩)] wr fun e w' => e = .returned (.bool true) ∧ wr = w' := by
                  obtain ⟨nx, u1, u2⟩ := HG.out.1.next HS.out.mach
                  rw [g1] at u2
                  rw [show true = nx.isNone by rw [u2]; rfl]
                  exact done_img wr xg nx u1
                rw [g1, show (JgT.over (y1)).obs = y1 from rfl] at hGv
                have hVH : RI.IntsOn wr B0 (.slice Av had.length capv) had := HS.out.rd.2
                have HVH : Hid _ := hVH
                have HNI : Hid (∀ o ∈ had, o ≠ y1) := HNN.out
                have e1 : ((y1 : Int) == -1) = false := by simp; omega
                have e2 : ((had.length : Int) == T) = false := by simp; omega
                have d5 : decide (T ≤ (y1 : Int)) = false := decide_eq_false (by omega)
                have e3 : ((y1 : Int) != -1) = true := by simp; omega
                clear g1 g2 HLw HQ HG hVH hfull hy1e HNN
                
                go_wp2_with fail
                go_at_call 43; refine hGv.mono ?_; rintro e w8 ⟨rfl, rfl⟩
                clear hGv
                go_wp2_with fail
                go_at_call 41; refine hD.mono ?_; rintro e w8 ⟨rfl, rfl⟩
                clear hD
                go_wp2_with fail
                go_loopw [18] (fun kk wi => ∃ q : Nat, q ≤ had.length ∧ kk = .int .i64 q ∧ wi = wr) (fun kk _ => had.length - (intOf kk).toNat)
                case atStart => exact ⟨0, Nat.zero_le _, rfl, rfl⟩
                case round =>
                  obtain ⟨q, hq, rfl, rfl⟩ := hrel
                  have hq8 : q ≤ 8 := by have := HLN.out; omega
                  by_cases hql : q < had.length
                  · obtain ⟨gq, cpq, hq1, hq2⟩ := RI.IntsOn.cell HVH.out (j := q) hql
                    injection hq1 with hq1 hq3 hq4
                    cases hq1
                    have hj0 : (0 : Int) ≤ (q : Int) := by omega
                    have hj1 : (q : Int) < (had.length : Int) := by omega
                    obtain ⟨oq, hoq⟩ : ∃ oq, had.getD q 0 = oq := ⟨_, rfl⟩
                    rw [hoq] at hq2
                    have hne9 : (oq == (y1 : Int)) = false := by
                      have : oq ∈ had := by rw [← hoq, List.getD_eq_getElem?_getD, List.getElem?_eq_getElem hql]; exact List.getElem_mem _
                      simpa using HNI.out oq this
                    clear hoq hq3 hq4
                    go_wp2_with fail
                    go_roundw
                    case rel => exact ⟨q + 1, by omega, by go_num, trivial⟩
                    case measure => simp [intOf]; omega
                  · obtain rfl : q = had.length := by omega
                    have hgd2 : decide ((had.length : Int) < (had.length : Int)) = false := by simp
                    have HO : Hid (RI.IntsOn wr B0 (.slice Av had.length capv) had) := HS.out.rd.2
                    have hOO := HO.out.own
                    have HF : Hid _ := HS.out
                    clear HS hgd2
                    go_wp2_with (at_builtin; refine wpList_append_own _ rfl _ _ 62 rfl B0 3 i0 (.int .i64 0) 1 8 Try.underlying62 hi hz0 hz1 hz2 rfl (by decide) _ _ _ rfl (hOO.alloc _) ⟨wr.heap.size, 0, none⟩ 1 1 [.int .i64 y1] rfl rfl (cell_one_new _ _ _) (ints_oneCell .i64 [y1]) (by unfold maxLen; have := HLN.out; omega) (by omega) (by have := HBB.out; simp; omega) ?_; intro v' w5 hown' hgrow2 hnil2)
                    have hBu : But (rowB (.slice Av had.length capv)) wr w5 := ((But.refl _ _).alloc _).grown hgrow2 (fun k hk => .inl (rowB_mem hk))
                    have hUP := HO.out.up
                    have HI : Hid (Is w5 111 A cap c b n ((jgPM 1 T).steps 0 n 6 (JgT.ld, s)).2) := HF.out.mem.but hBu (fun hm => HF.out.rfar.1 (List.mem_append_right _ hm)) (fun hm => HF.out.rfar.2 (List.mem_append_right _ hm))
                    have HY : Hid (Lay w5 cl 1 T 1) := (hBu.block cl (HF.out.rd.1 : Lay wr cl 1 T 1).lt (fun hm => by have h1 := (hUP _ hm).1; have h2 := hlo.out; omega)).trans (HF.out.rd.1 : Lay wr cl 1 T 1)
                    have HB : Hid (Below w.heap.size w w5) := HF.out.below.trans (hBu.below (fun k hk => by have h1 := (hUP _ hk).1; have := HBS.out; omega) HF.out.below.size)
                    have HBB5 : Hid (B0 ≤ w5.heap.size) := Nat.le_trans HBB.out hBu.size
                    have HV0 : Hid (RI.IntsOn w5 B0 v' (had ++ [y1])) := ⟨by
                      rw [List.map_append, List.length_append]
                      exact hown'⟩
                    clear hown' hgrow2 hnil2 hBu hUP hOO HO HF HBB HVH HNI e1 e2 d5 e3
                    have HBB := HBB5
                    clear HBB5
                    generalize ((jgPM 1 T).steps 0 n 6 (JgT.ld, s)).2 = s2 at *
                    generalize had ++ [y1] = had2 at *
                    obtain ⟨Aw, capw, hvw⟩ := RI.lists_slice HV0.out.own
                    subst hvw
                    have HV := HV0
                    clear HV0
                    have HW : Hid (wrap64 (T - ((had2).length : Int)) = T - ((had2).length : Int)) := (by have h1 := HQ2.out.1.le; have := HP.out; rw [List.length_append] at h1; unfold wrap64; omega : wrap64 (T - ((had2).length : Int)) = T - ((had2).length : Int))
                    have hSp := spare_any _ A cap c b n cl s2 1 T 1 HI.out HN6.out HY.out (by have := HP.out; omega)
                    rw [HQ2.out.1.spare HN.out HP.out, ← HW.out] at hSp
                    have HEND : Hid (∀ w9, Below (w5).heap.size (w5) w9 → ∃ (vv : Value) (ss : St) (hh rr : List Int), vv = .slice Aw had2.length capw ∧ Hid (Is w9 111 A cap c b n ss) ∧ Hid (Lay w9 cl 1 T 1) ∧ Hid (Below w.heap.size w w9) ∧ Hid (RI.IntsOn w9 B0 vv hh) ∧ Hid (B0 ≤ w9.heap.size) ∧ Hid (Mny T n ss hh rr ∧ Low ss (8 * ((j + 1 : Nat) : Int)))) := fun w9 hd => by
                      exact ⟨_, s2, had2, ([] : List Int), rfl, HI.out.below hd, HY.out.below hd HY.out.lt, seq HB.out hd, HV.out.keep (But.of_below (l := []) hd) (fun k _ h => by cases h), Nat.le_trans HBB.out hd.size, HQ2.out.1, by have := HQ2.out.2; rw [show ((8 * ((j + 1 : Nat) : Int))) = 8 * (j : Int) + 8 by omega]; exact this⟩
                    clear HI HY HB HV HBB HQ2 HW
                    go_wp2_with fail
                    go_at_call 49; refine hSp.mono ?_; rintro e w9 ⟨rfl, h9⟩
                    have HE9 := HEND.out w9 h9
                    clear hSp HEND h9
                    go_wp2_with fail
                    go_roundw
                    case rel =>
                      obtain ⟨vv, ss, hh, rr, e1, g1, g2, g3, g4, g5, g6⟩ := HE9
                      exact ⟨j + 1, vv, ss, hh, rr, e1, by omega, by go_num, g1, g2, g3, g4, g5, g6⟩
                    case measure => simp [intOf]; omega
    · obtain rfl : j = mp := by omega
      have hgd : decide ((j : Int) < (j : Int)) = false := by simp
      have hBd := fun Y (hY : Below wr.heap.size wr Y) => bad_any Y A cap c b n s (HI.out.below hY)
      have HBD : Hid _ := hBd
      have HS0 : Hid (s.bad = 0) := HQ.out.1.bad
      have hA := idlem_awake wr
      have HBF : Hid _ := HB.out
      clear hBd HI HY HB HV HBB HQ
      go_wp2_with fail
      go_at_call 36; refine hA.mono ?_; rintro e w9 ⟨rfl, h9⟩
      have hBd := HBD.out w9 h9
      rw [HS0.out] at hBd
      have HFF : Hid (Below w.heap.size w w9) := seq HBF.out h9
      clear hA h9 HBD
      go_wp2_with fail
      go_at_call 35; refine hBd.mono ?_; rintro e w8 ⟨rfl, rfl⟩
      clear hBd
      go_wp2_with fail
      go_ret
      exact ⟨rfl, HFF.out⟩
theorem idlemMany_walk (T : Int) (E : Option Addr) (mp cq : Nat) (pk : Nat → Nat) (w : World) (hmp : mp ≤ 9223372036854775807) (hB : SeesB8 w w.heap.size E mp pk) :
    Calls Try.prog 9 #[.int .i64 T, .slice E mp cq] w fun e w' => e = .returned (.bool true) ∧ Below w.heap.size w w' := by
  by_cases h : T < 1 ∨ 8 < T ∨ 100 < mp
  · exact idlemMany_bad T E mp cq w hmp h
  · exact idlemMany_ok T E mp cq pk w (by omega) (by omega) hB
end Go.Proofs.Ytggbohakpkplkaa
