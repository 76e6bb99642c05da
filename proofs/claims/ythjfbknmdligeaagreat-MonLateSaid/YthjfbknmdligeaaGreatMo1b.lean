/- The monitor: what its functions do that look at a processor. -/
import Derived.Test.YthjfbknmdligeaaGreatMo1
namespace Go.Proofs.YthjfbknmdligeaaGreat
open Go Go.RowKit
set_option linter.unusedVariables false
set_option maxRecDepth 100000
set_option linter.unusedSimpArgs false
set_option linter.unusedSectionVars false

section
variable (w : World) (x cl r P : Nat) (T G who : Int) (d : MoD) (h : Blk w x (moCells who none cl r P d) 98) (hr : RwAt w r (4 * P) d.f) (hl : Lay w cl P T G) (hcx : cl ≠ x) (hcr : cl ≠ r) (hxr : x ≠ r) (hp : (P : Int) ≤ 64)
include h hr hl hcx hcr hxr hp
theorem mo_first (v : Int) :
    Calls Tryz.prog 63 #[.pointer (some ⟨x, 0, none⟩), .int .u64 v] w fun e w' => (∃ v, e = .returned v) ∧ MoLand who cl r P w w' x (moFirst P d v) := by
  have c6 := h.cell 6 (v := .int .u64 d.nw) rfl
  have f6 := h.fro 6
  have c5 := h.cell 5 (v := .bool d.un) rfl
  have f5 := h.fro 5
  obtain ⟨V, hV⟩ : ∃ V, ((w.setCell ⟨x, 6, none⟩ (.int .u64 v)).setCell ⟨x, 5, none⟩ (.bool true)) = V := ⟨_, rfl⟩
  have h' : Blk V x (moCells who none cl r P { d with nw := v, un := true }) 98 := by rw [← hV]; exact ((h.set 6 (.int .u64 v)).set 5 (.bool true))
  have hB1 : But [x] w V := by rw [← hV]; exact (((But.refl [x] w).set (g := x) (.inl (by simp)) 6 _).set (g := x) (.inl (by simp)) 5 _)
  have hB : But [x, r] w V := hB1.more (by intro k _ hk; simp at hk ⊢; exact .inl hk)
  have hr' : RwAt V r (4 * P) d.f := hr.but hB1 (by simpa using hxr.symm)
  have hl' : Lay V cl P T G := (hB1.block cl hl.lt (by simpa using hcx)).trans hl
  have H := mo_visit V x cl r P T G who _ h' hr' hl' hcx hcr hxr hp 0 (by omega)
  have HV : Hid _ := hV
  have HF : Hid (But [x, r] w V) := hB
  clear h hr hl hV h' hB hB1 hr' hl' hcx hcr hxr hp
  go_enter Tryz.func63, Tryz.ntmps63
  go_wp2_with fail
  rw [HV.out]
  clear HV
  go_at_call 85; refine H.mono ?_; rintro e w1 ⟨⟨u, rfl⟩, hC⟩
  clear H
  go_wp2_with fail
  go_end0
  exact ⟨⟨_, rfl⟩, hC.before HF.out⟩
theorem mo_seeStatus (hd : d.p < 64) :
    Calls Tryz.prog 112 #[.pointer (some ⟨x, 0, none⟩)] w fun e w' => (∃ v, e = .returned v) ∧ MoLand who cl r P w w' x (moSeeStatus P d) := by
  by_cases hs : d.st = 2
  · have e : moSeeStatus P d = (.ca, d) := if_pos hs
    rw [e]
    have c8 := h.cell 8 (v := .int .u64 d.st) rfl
    rw [hs] at c8
    have H := mo_loadProc w x cl r P T G who _ h hl hp 5 (by omega) 117
    have HR : Hid (RwAt w r (4 * P) d.f) := hr
    clear h hr hl hcx hcr hxr hp hd e hs
    go_enter Tryz.func112, Tryz.ntmps112
    go_wp2_with fail
    go_at_call 93; refine H.mono ?_; rintro e w1 ⟨⟨u, rfl⟩, hC⟩
    clear H
    go_wp2_with fail
    go_end0
    exact ⟨⟨_, rfl⟩, MoLand.of (s := (.ca, d)) HR.out hC⟩
  · have e : moSeeStatus P d = moVisit P d (d.p + 1) := if_neg hs
    rw [e]
    have c8 := h.cell 8 (v := .int .u64 d.st) rfl
    have d1 : (d.st != 2) = true := by simpa using hs
    have H := mo_next w x cl r P T G who d h hr hl hcx hcr hxr hp hd
    clear h hr hl hcx hcr hxr hp hd e hs
    go_enter Tryz.func112, Tryz.ntmps112
    go_wp2_with fail
    go_at_call 100; refine H.mono ?_; rintro e w1 ⟨⟨u, rfl⟩, hC⟩
    clear H
    go_wp2_with fail
    refine bodyPost_ret (results_none rfl _ _ _) rfl ?_
    exact ⟨⟨_, rfl⟩, hC⟩
theorem mo_judge (v : Int) (hd : d.p < 64) :
    Calls Tryz.prog 94 #[.pointer (some ⟨x, 0, none⟩), .int .u64 v] w fun e w' => (∃ v, e = .returned v) ∧ MoLand who cl r P w w' x (moJudge P d v) := by
  by_cases hv : v = 1
  · subst hv
    rw [show moJudge P d 1 = (.tu, { d with st := 1 }) from rfl]
    have f8 := h.fro 8
    have c8 := h.cell 8 (v := .int .u64 d.st) rfl
    obtain ⟨V, hV⟩ : ∃ V, (w.setCell ⟨x, 8, none⟩ (.int .u64 1)) = V := ⟨_, rfl⟩
    have h' : Blk V x (moCells who none cl r P { d with st := 1 }) 98 := by rw [← hV]; exact h.set 8 (.int .u64 1)
    have hB1 : But [x] w V := by rw [← hV]; exact (But.refl [x] w).set (g := x) (.inl (by simp)) 8 _
    have hB : But [x, r] w V := hB1.more (by intro k _ hk; simp at hk ⊢; exact .inl hk)
    have hr' : RwAt V r (4 * P) d.f := hr.but hB1 (by simpa using hxr.symm)
    have hl' : Lay V cl P T G := (hB1.block cl hl.lt (by simpa using hcx)).trans hl
    have H := mo_loadProc V x cl r P T G who _ h' hl' hp 4 (by omega) 101
    have HV : Hid _ := hV
    have HF : Hid (But [x, r] w V ∧ RwAt V r (4 * P) d.f) := ⟨hB, hr'⟩
    clear h hr hl hV h' hB hB1 hr' hl' hcx hcr hxr hp hd
    go_enter Tryz.func94, Tryz.ntmps94
    go_wp2_with fail
    rw [HV.out]
    clear HV
    go_at_call 93; refine H.mono ?_; rintro e w1 ⟨⟨u, rfl⟩, hC⟩
    clear H
    go_wp2_with fail
    go_end0
    exact ⟨⟨_, rfl⟩, V, HF.out.1, HF.out.2, hC⟩
  by_cases hv2 : v = 2
  · subst hv2
    rw [show moJudge P d 2 = (.tu, { d with st := 2 }) from rfl]
    clear hv
    have f8 := h.fro 8
    have c8 := h.cell 8 (v := .int .u64 d.st) rfl
    obtain ⟨V, hV⟩ : ∃ V, (w.setCell ⟨x, 8, none⟩ (.int .u64 2)) = V := ⟨_, rfl⟩
    have h' : Blk V x (moCells who none cl r P { d with st := 2 }) 98 := by rw [← hV]; exact h.set 8 (.int .u64 2)
    have hB1 : But [x] w V := by rw [← hV]; exact (But.refl [x] w).set (g := x) (.inl (by simp)) 8 _
    have hB : But [x, r] w V := hB1.more (by intro k _ hk; simp at hk ⊢; exact .inl hk)
    have hr' : RwAt V r (4 * P) d.f := hr.but hB1 (by simpa using hxr.symm)
    have hl' : Lay V cl P T G := (hB1.block cl hl.lt (by simpa using hcx)).trans hl
    have H := mo_loadProc V x cl r P T G who _ h' hl' hp 4 (by omega) 101
    have HV : Hid _ := hV
    have HF : Hid (But [x, r] w V ∧ RwAt V r (4 * P) d.f) := ⟨hB, hr'⟩
    clear h hr hl hV h' hB hB1 hr' hl' hcx hcr hxr hp hd
    go_enter Tryz.func94, Tryz.ntmps94
    go_wp2_with fail
    rw [HV.out]
    clear HV
    go_at_call 93; refine H.mono ?_; rintro e w1 ⟨⟨u, rfl⟩, hC⟩
    clear H
    go_wp2_with fail
    go_end0
    exact ⟨⟨_, rfl⟩, V, HF.out.1, HF.out.2, hC⟩
  have e : moJudge P d v = moVisit P d (d.p + 1) := if_neg (fun h => h.elim hv hv2)
  rw [e]
  have d1 : (v != 1) = true := by simpa using hv
  have d2 : (v != 2) = true := by simpa using hv2
  have H := mo_next w x cl r P T G who d h hr hl hcx hcr hxr hp hd
  clear h hr hl hcx hcr hxr hp hd e hv hv2
  go_enter Tryz.func94, Tryz.ntmps94
  go_wp2_with fail
  go_at_call 100; refine H.mono ?_; rintro e w1 ⟨⟨u, rfl⟩, hC⟩
  clear H
  go_wp2_with fail
  refine bodyPost_ret (results_none rfl _ _ _) rfl ?_
  exact ⟨⟨_, rfl⟩, hC⟩
theorem mo_beLate (hd : d.p < 64) :
    Calls Tryz.prog 115 #[.pointer (some ⟨x, 0, none⟩)] w fun e w' => (∃ v, e = .returned v) ∧ MoLand who cl r P w w' x (moLate P d) := by
  have c9 := h.cell 9 (v := .bool d.lt) rfl
  have f9 := h.fro 9
  obtain ⟨V, hV⟩ : ∃ V, (w.setCell ⟨x, 9, none⟩ (.bool true)) = V := ⟨_, rfl⟩
  have h' : Blk V x (moCells who none cl r P { d with lt := true }) 98 := by rw [← hV]; exact (h.set 9 (.bool true))
  have hB1 : But [x] w V := by rw [← hV]; exact ((But.refl [x] w).set (g := x) (.inl (by simp)) 9 _)
  have hB : But [x, r] w V := hB1.more (by intro k _ hk; simp at hk ⊢; exact .inl hk)
  have hr' : RwAt V r (4 * P) d.f := hr.but hB1 (by simpa using hxr.symm)
  have hl' : Lay V cl P T G := (hB1.block cl hl.lt (by simpa using hcx)).trans hl
  have H := mo_seeStatus V x cl r P T G who _ h' hr' hl' hcx hcr hxr hp hd
  have HV : Hid _ := hV
  have HF : Hid (But [x, r] w V) := hB
  clear h hr hl hV h' hB hB1 hr' hl' hcx hcr hxr hp hd
  go_enter Tryz.func115, Tryz.ntmps115
  go_wp2_with fail
  rw [HV.out]
  clear HV
  go_at_call 112; refine H.mono ?_; rintro e w1 ⟨⟨u, rfl⟩, hC⟩
  clear H
  go_wp2_with fail
  go_end0
  exact ⟨⟨_, rfl⟩, hC.before HF.out⟩
set_option maxHeartbeats 4000000 in
theorem mo_seeTurns (v : Int) (hv : 0 ≤ v ∧ v ≤ 18446744073709551615) (hd : d.p < P) (hf : ∀ i, 0 ≤ d.f i ∧ d.f i ≤ 18446744073709551615) (hn : 0 ≤ d.nw ∧ d.nw ≤ 18446744073709551615) :
    Calls Tryz.prog 101 #[.pointer (some ⟨x, 0, none⟩), .int .u64 v] w fun e w' => (∃ v, e = .returned v) ∧ MoLand who cl r P w w' x (moTurns P d v) := by
  have c3 := h.cell 3 (v := .slice (some ⟨r, 0, none⟩) P P) rfl
  have c7 := h.cell 7 (v := .int .i64 d.p) rfl
  have hpp : d.p < 64 := by omega
  have i1 : (d.p : Int) < (P : Int) := by omega
  have i0 : (0 : Int) ≤ (d.p : Int) := by omega
  have hne : r ≠ x := fun e => hxr e.symm
  have HH : Hid (Blk w x (moCells who none cl r P d) 98 ∧ RwAt w r (4 * P) d.f ∧ Lay w cl P T G) := ⟨h, hr, hl⟩
  have HK : Hid (cl ≠ x ∧ cl ≠ r ∧ x ≠ r ∧ (P : Int) ≤ 64 ∧ d.p < P ∧ d.p < 64) := ⟨hcx, hcr, hxr, hp, hd, hpp⟩
  have hM := fun W => mny_any (d.f (d.p * 4 + 1)) d.nw W (hf _) hn
  clear h hr hl hcx hcr hxr hp hf hn hpp
  by_cases ht : v = d.f (d.p * 4)
  · have d1 : (v != d.f (d.p * 4)) = false := by simpa using ht
    have e0 : moTurns P d v = if 10 ≤ (d.nw - d.f (d.p * 4 + 1)) % 4294967296 then (.pr, { d with lt := false }) else moSeeStatus P { d with lt := false } := if_neg (fun h => h ht)
    rw [e0]
    clear ht e0
    generalize (d.nw - d.f (d.p * 4 + 1)) % 4294967296 = mm at *
    by_cases hm : 10 ≤ mm
    · rw [if_pos hm]
      have d2 : decide (10 ≤ mm) = true := decide_eq_true hm
      clear hm
      go_enter Tryz.func101, Tryz.ntmps101
      go_wp2_with fail
      go_quiet (fail)
      have HW : Hid (Blk (w.drewN nq) x (moCells who none cl r P d) 98 ∧ RwAt (w.drewN nq) r (4 * P) d.f ∧ Lay (w.drewN nq) cl P T G ∧ But [x] w (w.drewN nq)) := ⟨HH.out.1.drewN _, HH.out.2.1, HH.out.2.2, (But.refl _ _).drewN _⟩
      clear HH c3 c7
      generalize w.drewN nq = w0 at *
      have c9 := HW.out.1.cell 9 (v := .bool d.lt) rfl
      have f9 := HW.out.1.fro 9
      have r0 := HW.out.2.1.cell (i := d.p * 4) (by omega)
      obtain ⟨V, hV⟩ : ∃ V, (w0.setCell ⟨x, 9, none⟩ (.bool false)) = V := ⟨_, rfl⟩
      have hB1 : But [x] w0 V := by rw [← hV]; exact (But.refl _ _).set (g := x) (.inl (by simp)) 9 _
      have h' : Blk V x (moCells who none cl r P { d with lt := false }) 98 := by rw [← hV]; exact HW.out.1.set 9 (.bool false)
      have hr' : RwAt V r (4 * P) d.f := HW.out.2.1.but hB1 (by simpa using hne)
      have hl' : Lay V cl P T G := (hB1.block cl HW.out.2.2.1.lt (by simpa using HK.out.1)).trans HW.out.2.2.1
      have HV : Hid _ := hV
      have HF : Hid (Blk V x (moCells who none cl r P { d with lt := false }) 98 ∧ RwAt V r (4 * P) d.f ∧ Lay V cl P T G ∧ But [x, r] w V) := ⟨h', hr', hl', (HW.out.2.2.2.trans hB1).more (by intro k _ hk; simp at hk ⊢; exact .inl hk)⟩
      have r1 := hr'.cell (i := d.p * 4 + 1) (by omega)
      have c6 := h'.cell 6 (v := .int .u64 d.nw) rfl
      clear hV hB1 h' hr' hl' HW
      go_wp2_with fail
      rw [HV.out]
      clear HV c9 f9 r0
      go_region_with (first | (go_at_call 113; refine (hM _).mono ?_; rintro e w5 ⟨rfl, rfl⟩))
      all_goals
        have HX : Hid (Blk V.drew x (moCells who none cl r P { d with lt := false }) 98 ∧ RwAt V.drew r (4 * P) d.f ∧ Lay V.drew cl P T G ∧ But [x, r] w V.drew) := ⟨HF.out.1.drew, HF.out.2.1, HF.out.2.2.1, HF.out.2.2.2.drew⟩
        clear HF c6 r1 hM
        generalize V.drew = w2 at *
        have H := mo_proc w2.drew x cl r P T G who _ HX.out.1.drew HX.out.2.2.1 HK.out.2.2.2.1 6 (by omega)
        have H2 := fun W h i => came_store W x _ 98 (h : Blk W x (moCells who none cl r P { d with lt := false }) 98) (by simp [moCells]) i 1 115
        have ei : wd 20 P 264 d.p 6 = wd 20 P 264 ({ d with lt := false } : MoD).p 6 := rfl
        go_wp2_with fail
        go_region_with (first | (go_at_call 99; refine H.mono ?_; rintro e w3 ⟨rfl, h3⟩; have H3 := H2 w3 (HX.out.1.drew.but (But.of_below (l := []) h3) (by simp)) (wd 20 P 264 d.p 6)) | (go_at_call 114; refine H3.mono ?_; rintro e w4 ⟨⟨v, rfl⟩, hC⟩))
        all_goals
          have hB1 : But [x] w2 w3 := But.of_below ((Below.refl _ _).drew.trans h3)
          have hC2 := hC.before hB1
          clear H H2 H3 hC h3
          go_wp2_with fail
          go_end0
          exact ⟨⟨_, rfl⟩, w2, HX.out.2.2.2, HX.out.2.1, hC2⟩
    · rw [if_neg hm]
      have d2 : decide (10 ≤ mm) = false := decide_eq_false hm
      clear hm
      go_enter Tryz.func101, Tryz.ntmps101
      go_wp2_with fail
      go_quiet (fail)
      have HW : Hid (Blk (w.drewN nq) x (moCells who none cl r P d) 98 ∧ RwAt (w.drewN nq) r (4 * P) d.f ∧ Lay (w.drewN nq) cl P T G ∧ But [x] w (w.drewN nq)) := ⟨HH.out.1.drewN _, HH.out.2.1, HH.out.2.2, (But.refl _ _).drewN _⟩
      clear HH c3 c7
      generalize w.drewN nq = w0 at *
      have c9 := HW.out.1.cell 9 (v := .bool d.lt) rfl
      have f9 := HW.out.1.fro 9
      have r0 := HW.out.2.1.cell (i := d.p * 4) (by omega)
      obtain ⟨V, hV⟩ : ∃ V, (w0.setCell ⟨x, 9, none⟩ (.bool false)) = V := ⟨_, rfl⟩
      have hB1 : But [x] w0 V := by rw [← hV]; exact (But.refl _ _).set (g := x) (.inl (by simp)) 9 _
      have h' : Blk V x (moCells who none cl r P { d with lt := false }) 98 := by rw [← hV]; exact HW.out.1.set 9 (.bool false)
      have hr' : RwAt V r (4 * P) d.f := HW.out.2.1.but hB1 (by simpa using hne)
      have hl' : Lay V cl P T G := (hB1.block cl HW.out.2.2.1.lt (by simpa using HK.out.1)).trans HW.out.2.2.1
      have HV : Hid _ := hV
      have HF : Hid (Blk V x (moCells who none cl r P { d with lt := false }) 98 ∧ RwAt V r (4 * P) d.f ∧ Lay V cl P T G ∧ But [x, r] w V) := ⟨h', hr', hl', (HW.out.2.2.2.trans hB1).more (by intro k _ hk; simp at hk ⊢; exact .inl hk)⟩
      have r1 := hr'.cell (i := d.p * 4 + 1) (by omega)
      have c6 := h'.cell 6 (v := .int .u64 d.nw) rfl
      clear hV hB1 h' hr' hl' HW
      go_wp2_with fail
      rw [HV.out]
      clear HV c9 f9 r0
      go_region_with (first | (go_at_call 113; refine (hM _).mono ?_; rintro e w5 ⟨rfl, rfl⟩))
      all_goals
        have HX : Hid (Blk V.drew x (moCells who none cl r P { d with lt := false }) 98 ∧ RwAt V.drew r (4 * P) d.f ∧ Lay V.drew cl P T G ∧ But [x, r] w V.drew) := ⟨HF.out.1.drew, HF.out.2.1, HF.out.2.2.1, HF.out.2.2.2.drew⟩
        clear HF c6 r1 hM
        generalize V.drew = w2 at *
        have H := mo_seeStatus w2 x cl r P T G who _ HX.out.1 HX.out.2.1 HX.out.2.2.1 HK.out.1 HK.out.2.1 HK.out.2.2.1 HK.out.2.2.2.1 HK.out.2.2.2.2.2
        go_wp2_with fail
        go_at_call 112; refine H.mono ?_; rintro e w1 ⟨⟨u, rfl⟩, hC⟩
        clear H
        go_wp2_with fail
        go_end0
        exact ⟨⟨_, rfl⟩, hC.before HX.out.2.2.2⟩
  · have e : moTurns P d v = moSeeStatus P { d with lt := false, f := upd (upd d.f (d.p * 4) v) (d.p * 4 + 1) d.nw } := if_pos ht
    rw [e]
    have d1 : (v != d.f (d.p * 4)) = true := by simpa using ht
    clear ht e hM
    go_enter Tryz.func101, Tryz.ntmps101
    go_wp2_with fail
    go_quiet (fail)
    have HW : Hid (Blk (w.drewN nq) x (moCells who none cl r P d) 98 ∧ RwAt (w.drewN nq) r (4 * P) d.f ∧ Lay (w.drewN nq) cl P T G ∧ But [x] w (w.drewN nq)) := ⟨HH.out.1.drewN _, HH.out.2.1, HH.out.2.2, (But.refl _ _).drewN _⟩
    clear HH c3 c7
    generalize w.drewN nq = w0 at *
    have c6 := HW.out.1.cell 6 (v := .int .u64 d.nw) rfl
    have c9 := HW.out.1.cell 9 (v := .bool d.lt) rfl
    have f9 := HW.out.1.fro 9
    have r0 := HW.out.2.1.cell (i := d.p * 4) (by omega)
    have r1 := HW.out.2.1.cell (i := d.p * 4 + 1) (by omega)
    have q0 := HW.out.2.1.fro (d.p * 4)
    have q1 := HW.out.2.1.fro (d.p * 4 + 1)
    obtain ⟨V, hV⟩ : ∃ V, (((w0.setCell ⟨x, 9, none⟩ (.bool false)).setCell ⟨r, d.p * 4, none⟩ (.int .u64 v)).setCell ⟨r, d.p * 4 + 1, none⟩ (.int .u64 d.nw)) = V := ⟨_, rfl⟩
    have hB1 : But [x, r] w0 V := by rw [← hV]; exact (((But.refl _ _).set (g := x) (.inl (by simp)) 9 _).set (g := r) (.inl (by simp)) _ _).set (g := r) (.inl (by simp)) _ _
    have h' : Blk V x (moCells who none cl r P { d with lt := false, f := upd (upd d.f (d.p * 4) v) (d.p * 4 + 1) d.nw }) 98 := by rw [← hV]; exact ((HW.out.1.set 9 (.bool false)).setne hne.symm _ _).setne hne.symm _ _
    have hr' : RwAt V r (4 * P) (upd (upd d.f (d.p * 4) v) (d.p * 4 + 1) d.nw) := by rw [← hV]; exact ((HW.out.2.1.but ((But.refl [x] w0).set (g := x) (.inl (by simp)) 9 _) (by simpa using hne)).set (by omega) _).set (by omega) _
    have hl' : Lay V cl P T G := (hB1.block cl HW.out.2.2.1.lt (by simp; exact ⟨HK.out.1, HK.out.2.1⟩)).trans HW.out.2.2.1
    have H := mo_seeStatus V x cl r P T G who _ h' hr' hl' HK.out.1 HK.out.2.1 HK.out.2.2.1 HK.out.2.2.2.1 HK.out.2.2.2.2.2
    have HV : Hid _ := hV
    have HF : Hid (But [x, r] w V) := (HW.out.2.2.2.more (by intro k _ hk; simp at hk ⊢; exact .inl hk)).trans hB1
    clear hV hB1 h' hr' hl' HW
    go_wp2_with fail
    rw [HV.out]
    clear HV c6 c9 f9 r0 r1 q0 q1
    go_at_call 112; refine H.mono ?_; rintro e w1 ⟨⟨u, rfl⟩, hC⟩
    clear H
    go_wp2_with fail
    go_end0
    exact ⟨⟨_, rfl⟩, hC.before HF.out⟩
end
end Go.Proofs.YthjfbknmdligeaaGreat
