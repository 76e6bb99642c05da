/- GlobqPulls: each step of pulling a goroutine from the global queue, over any memory, whatever others do between: its access, which one it is, and when; no machine; for every ground, every thread, and all pokes; no condition. -/
import Derived.Test.YthhlklfioipmgaaGreatVAA
import Derived.ProofKit
import Derived.Carry
import Derived.WalkKit
import Derived.OpenShut
import Derived.Test.YthhlklfioipmgaaGreatOpen
import Derived.Lib.SmallJoins
namespace Go.Proofs.YthhlklfioipmgaaGreat
open Go Go.RowKit
set_option linter.unusedVariables false
set_option maxRecDepth 100000
set_option linter.unusedSimpArgs false

theorem tk_g2 {who P T G p most : Int} {gl : Int → Int} {cl : Nat} {w : World} {x : Nat} {t : TkT} {L : List Nat} (h : (tkCp who gl P T G p most cl).I w x t L) (hn : (tkPM gl P p most).ax t = none) :
    Calls Tryz.prog 32 #[.pointer (some ⟨x, 0, none⟩)] w fun e w' => e = .returned (.int .i64 t.obs) ∧ w = w' := by
  cases t with
  | over l f o tl => exact tk_g h
  | none' =>
    obtain ⟨hok, es, Le, he, hxe, h⟩ := h
    obtain ⟨hb, -⟩ := h
    exact take_g w x cl who p most 0 0 (-1) none none none hb (pull_g_nil w)
  | fst l q =>
    have h1 : ((plPM gl).ax q).isSome = true := h.1.2.1
    rw [show (plPM gl).ax q = none from hn] at h1
    cases h1
  | oth l f q tl =>
    have h1 : ((plPM gl).ax q).isSome = true := h.1.2.1
    rw [show (plPM gl).ax q = none from hn] at h1
    cases h1
  | _ => cases hn
def gqL (y : Int) : Int := wd (20 + 2 * 264 + 2 * 3) 4 2 y 1
def gqA : PM QpT := qpPM (fun y => wd (20 + 2 * 264 + 2 * 3) 4 2 y 1) [2, 0]
def gqB : PM QpT := qpPM (fun y => wd (20 + 2 * 264 + 2 * 3) 4 2 y 1) [1]
def gqT : PM TkT := tkPM (fun y => wd (20 + 2 * 264 + 2 * 3) 4 2 y 1) 2 1 0
def gqS0 : St := fresh (fun _ => 0)
def gqS1 : St := (gqA.steps 0 562 9 (.ch 0, gqS0)).2
def gqS2 : St := (gqB.steps 0 562 9 (.ch 0, gqS1)).2
def gqS3 : St := (gqT.steps 0 562 30 (.ld, gqS2)).2
def gqT3 : TkT := (gqT.steps 0 562 30 (.ld, gqS2)).1
theorem gq_list : lsOf (fun g => peekT 562 gqS2 (wd (20 + 2 * 264 + 2 * 3) 4 2 g 1)) 4 (peekT 562 gqS2 6) = ([2, 0, 1], true) := by decide +kernel
theorem gq_obs : gqT3.obs = 2 ∧ (gqT.ax gqT3).isNone = true := ⟨by decide +kernel, by decide +kernel⟩
theorem gq_gs : gsL 4 (rgsL 2 4 1 562 gqS3) = [0] := by decide +kernel
theorem gq_low1 : Low gqS1 9 := (PM.steps_low gqA 0 562 9 (.ch 0, gqS0) (low_fresh _)).more (by omega)
theorem gq_low2 : Low gqS2 18 := (PM.steps_low gqB 0 562 9 (.ch 0, gqS1) gq_low1).more (by omega)
set_option maxHeartbeats 8000000 in
theorem globq_awake (w : World) : Calls Tryz.prog 11 #[] w fun e w' => e = .returned (.bool true) ∧ Below w.heap.size w w' := by
  have hL := lay_some 2 2 4 none 0 0 562 (fun _ => 0) (fun _ => 0) w (by omega) ⟨⟨by omega⟩, by omega, by omega, by omega⟩ (by omega) (fun h => absurd h (by omega)) (fun i h => absurd h (by omega))
  go_enter Tryz.func11, Tryz.ntmps11
  go_wp2_with fail
  go_at_call 9; refine hL.mono ?_; rintro e w1 ⟨cl, A, A', cap, cap', c, b, c', b', rfl, hLd⟩
  have HI1 : Hid (Is w1 136 A cap c b 562 gqS0) := hLd.two.m
  have HY1 : Hid (Lay w1 cl 2 2 4) := hLd.lay
  have HB1 : Hid (Below w.heap.size w w1) := hLd.below
  have hne : Hid (cl ≠ c ∧ cl ≠ b) := lay_ne hLd.lay (by decide) hLd.two.m (by omega)
  have hup : Hid (w.heap.size ≤ c ∧ w.heap.size ≤ b) := ⟨hLd.up.2.1, hLd.up.2.2.1⟩
  have hlo : Hid (c < w1.heap.size ∧ b < w1.heap.size ∧ cl < w1.heap.size) := ⟨hLd.two.m.lt, hLd.two.m.bl, hLd.lay.lt⟩
  have hGA0 := qp_good 0 2 2 4 cl [2, 0] (by omega) (by omega) (by omega) (by decide)
  have hGB0 := qp_good 0 2 2 4 cl [1] (by omega) (by omega) (by omega) (by decide)
  have hNA := qp_new_some (w1.alloc (.cells #[.int .i64 2, .int .i64 0] 3)) cl 0 2 2 4 _ [2, 0] (by obtain ⟨q1, q2, q3, q4, q5⟩ := lit2_sees w1 2 0; exact ⟨q1, q2, q3, q4, q5⟩) (by decide) (by decide) (hLd.lay.below ((Below.refl _ _).alloc (Nat.le_refl _) _) hLd.lay.lt) (by omega) (by omega) (by omega)
  have HA1 : Hid (Below w1.heap.size w1 (w1.alloc (.cells #[.int .i64 2, .int .i64 0] 3))) := (Below.refl _ _).alloc (Nat.le_refl _) _
  clear hL hLd
  go_wp2_with fail
  go_at_call 12; refine hNA.mono ?_; rintro e w2 ⟨xa, La, rfl, ha1, ha2, ha3, ha4⟩
  have HB2 : Hid (Below w1.heap.size w1 w2) := seq HA1.out ha2
  have HLA : Hid (∀ k ∈ La, w1.heap.size ≤ k) := fun k hk => Nat.le_trans HA1.out.size (ha3 k hk)
  have HMA : Hid ((qpI 0 cl (fun y => wd (20 + 2 * 264 + 2 * 3) 4 2 y 1) [2, 0]) w2 xa (.ch 0) La) := ha1
  have hNB := qp_new_some (w2.alloc (.cells #[.int .i64 1] 3)) cl 0 2 2 4 _ [1] (by obtain ⟨q1, q2, q3, q4, q5⟩ := lit1_sees w2 1; exact ⟨q1, q2, q3, q4, q5⟩) (by decide) (by decide) (HY1.out.below (seq HB2.out ((Below.refl _ _).alloc (Nat.le_refl _) _)) HY1.out.lt) (by omega) (by omega) (by omega)
  have HA2 : Hid (Below w2.heap.size w2 (w2.alloc (.cells #[.int .i64 1] 3))) := (Below.refl _ _).alloc (Nat.le_refl _) _
  clear hNA HA1 ha1 ha2 ha3 ha4
  go_wp2_with fail
  go_at_call 12; refine hNB.mono ?_; rintro e w3 ⟨xb, Lb, rfl, hb1, hb2, hb3, hb4⟩
  have HB23 : Hid (Below w2.heap.size w2 w3) := seq HA2.out hb2
  have HB3 : Hid (Below w1.heap.size w1 w3) := seq HB2.out HB23.out
  have HLB : Hid (∀ k ∈ Lb, w2.heap.size ≤ k) := fun k hk => Nat.le_trans HA2.out.size (hb3 k hk)
  have hGA : ((qpI 0 cl (fun y => wd (20 + 2 * 264 + 2 * 3) 4 2 y 1) [2, 0])).Good gqA := hGA0
  have hGB : ((qpI 0 cl (fun y => wd (20 + 2 * 264 + 2 * 3) 4 2 y 1) [1])).Good gqB := hGB0
  have HSA : Hid (Solo (qpI 0 cl (fun y => wd (20 + 2 * 264 + 2 * 3) 4 2 y 1) [2, 0]) ((Rd.lay cl 2 2 4).and (Rd.mach hGB xb (.ch 0) Lb)) w w3 A cap c b 562 (gqA.steps 0 562 0 (.ch 0, gqS0)).2 xa (gqA.steps 0 562 0 (.ch 0, gqS0)).1 La) := by
    have l1 := hlo.out
    have s12 := HB2.out.size
    have la := HLA.out
    have lb := HLB.out
    have ltA := hGA.lt HMA.out
    have ltB := hGB.lt hb1
    refine ⟨HI1.out.below HB3.out, hGA.below HMA.out HB23.out, ⟨HY1.out.below HB3.out HY1.out.lt, hb1⟩, fun k hk => ⟨by have := la k hk; omega, by have := la k hk; omega, fun hm => ?_⟩, ⟨fun hm => ?_, fun hm => ?_⟩, ⟨hup.out.1, hup.out.2, fun k hk => by have := la k hk; have := HB1.out.size; omega⟩, fun k hk => ?_, HB1.out.trans (HB3.out.mono HB1.out.size)⟩
    · rcases List.mem_append.1 hm with h | h
      · have := la k hk; have : k = cl := List.mem_singleton.1 h; omega
      · have := lb k h; have := ltA k hk; omega
    · rcases List.mem_append.1 hm with h | h
      · exact hne.out.1 (List.mem_singleton.1 h).symm
      · have := lb c h; omega
    · rcases List.mem_append.1 hm with h | h
      · exact hne.out.2 (List.mem_singleton.1 h).symm
      · have := lb b h; omega
    · rcases List.mem_append.1 hk with h | h
      · have : k = cl := List.mem_singleton.1 h; have := HB3.out.size; omega
      · exact ltB k h
  have HBL : Hid ((∀ k ∈ Lb, w.heap.size ≤ k) ∧ ∀ k ∈ Lb, k ∉ [cl]) := ⟨fun k hk => by have := HLB.out k hk; have := HB2.out.size; have := HB1.out.size; omega, fun k hk hm => by have := HLB.out k hk; have := HB2.out.size; have : k = cl := List.mem_singleton.1 hm; have := hlo.out; omega⟩
  have HST : Hid (Steps gqA (qpI 0 cl (fun y => wd (20 + 2 * 264 + 2 * 3) 4 2 y 1) [2, 0]) (Rd.lay cl 2 2 4) 19 0 ∧ Steps gqB (qpI 0 cl (fun y => wd (20 + 2 * 264 + 2 * 3) 4 2 y 1) [1]) (Rd.lay cl 2 2 4) 19 0) := ⟨qp_steps 0 2 2 4 cl [2, 0] (by omega) (by omega) (by omega) (by decide) stepby_qput, qp_steps 0 2 2 4 cl [1] (by omega) (by omega) (by omega) (by decide) stepby_qput⟩
  have hTL := tk_laws (who := 0) (P := 2) (T := 2) (G := 4) (p := 1) (most := 0) (cl := cl) (by omega) (by omega) (by omega) (by omega)
  have HTG : Hid (((tkCp 0 (fun y => wd (20 + 2 * 264 + 2 * 3) 4 2 y 1) 2 2 4 1 0 cl).I).Good gqT ∧ Steps gqT (tkCp 0 (fun y => wd (20 + 2 * 264 + 2 * 3) 4 2 y 1) 2 2 4 1 0 cl).I (Rd.lay cl 2 2 4) 31 0) := ⟨Cp.good hTL, Cp.steps hTL stepby_qtake⟩
  clear hNB HA2 hb1 hb2 hb3 hb4 HMA HLA HLB HB23 HB3 HB2 HI1 HY1 HB1 hGA0 hGB0 hTL
  go_wp2_with fail
  have HLO : Hid (∀ q : Nat, q ≤ 9 → Low (gqA.steps 0 562 q (.ch 0, gqS0)).2 1000000) := fun q hq => (PM.steps_low gqA 0 562 q (.ch 0, gqS0) (low_fresh _)).more (by omega)
  go_loopw [7] (fun k wi => ∃ (q : Nat) (L : List Nat), q ≤ 9 ∧ k = .int .i64 q ∧ Hid (Solo (qpI 0 cl (fun y => wd (20 + 2 * 264 + 2 * 3) 4 2 y 1) [2, 0]) ((Rd.lay cl 2 2 4).and (Rd.mach hGB xb (.ch 0) Lb)) w wi A cap c b 562 (gqA.steps 0 562 q (.ch 0, gqS0)).2 xa (gqA.steps 0 562 q (.ch 0, gqS0)).1 L)) (fun k _ => 9 - (intOf k).toNat)
  case atStart => exact ⟨0, _, by omega, rfl, HSA⟩
  case round =>
    clear HSA
    obtain ⟨q, L, hq, rfl, HS⟩ := hrel
    by_cases hq9 : q < 9
    · have hSt := HS.out.step hGA HST.out.1 (fun Y (h : (((Rd.lay cl 2 2 4).and (Rd.mach hGB xb (.ch 0) Lb))).P Y) => h.1) (fun k hk => List.mem_append_left _ hk) (by omega) (HLO.out q hq)
      rw [show gqA.goS 0 562 (gqA.steps 0 562 q (.ch 0, gqS0)).1 (gqA.steps 0 562 q (.ch 0, gqS0)).2 = (gqA.steps 0 562 (q + 1) (.ch 0, gqS0)).2 by rw [PM.steps_succ], show gqA.goT 562 (gqA.steps 0 562 q (.ch 0, gqS0)).1 (gqA.steps 0 562 q (.ch 0, gqS0)).2 = (gqA.steps 0 562 (q + 1) (.ch 0, gqS0)).1 by rw [PM.steps_succ]] at hSt
      have hq1 : (q : Int) < 9 := by omega
      have hq0 : (0 : Int) ≤ (q : Int) := by omega
      clear HS
      go_wp2_with fail
      go_at_call 19; refine hSt.mono ?_; rintro e w4 ⟨rfl, L', hS'⟩
      have HS' : Hid _ := hS'
      clear hSt hS'
      go_wp2_with fail
      go_roundw
      case rel => exact ⟨q + 1, L', by omega, by go_num, HS'⟩
      case measure => simp [intOf]; omega
    · obtain rfl : q = 9 := by omega
      clear HLO
      rw [show ((9 : Nat) : Int) = 9 from rfl]
      have HSB : Hid (Solo (qpI 0 cl (fun y => wd (20 + 2 * 264 + 2 * 3) 4 2 y 1) [1]) (Rd.lay cl 2 2 4) w wr A cap c b 562 (gqB.steps 0 562 0 (.ch 0, gqS1)).2 xb (gqB.steps 0 562 0 (.ch 0, gqS1)).1 Lb) := HS.out.again HS.out.rd.2 HS.out.rd.1 (fun k hk => List.mem_append_right _ hk) (fun k hk => List.mem_append_left _ hk) HBL.out.2 HBL.out.1
      clear HS
      go_wp2_with fail
      have HLO : Hid (∀ q : Nat, q ≤ 9 → Low (gqB.steps 0 562 q (.ch 0, gqS1)).2 1000000) := fun q hq => (PM.steps_low gqB 0 562 q (.ch 0, gqS1) gq_low1).more (by omega)
      go_loopw [8] (fun k wi => ∃ (q : Nat) (L : List Nat), q ≤ 9 ∧ k = .int .i64 q ∧ Hid (Solo (qpI 0 cl (fun y => wd (20 + 2 * 264 + 2 * 3) 4 2 y 1) [1]) (Rd.lay cl 2 2 4) w wi A cap c b 562 (gqB.steps 0 562 q (.ch 0, gqS1)).2 xb (gqB.steps 0 562 q (.ch 0, gqS1)).1 L)) (fun k _ => 9 - (intOf k).toNat)
      case atStart => exact ⟨0, _, by omega, rfl, HSB⟩
      case round =>
        clear HSB
        obtain ⟨q, L, hq, rfl, HS⟩ := hrel
        by_cases hq9 : q < 9
        · have hSt := HS.out.step hGB HST.out.2 (fun Y h => h) (fun k hk => hk) (by omega) (HLO.out q hq)
          rw [show gqB.goS 0 562 (gqB.steps 0 562 q (.ch 0, gqS1)).1 (gqB.steps 0 562 q (.ch 0, gqS1)).2 = (gqB.steps 0 562 (q + 1) (.ch 0, gqS1)).2 by rw [PM.steps_succ], show gqB.goT 562 (gqB.steps 0 562 q (.ch 0, gqS1)).1 (gqB.steps 0 562 q (.ch 0, gqS1)).2 = (gqB.steps 0 562 (q + 1) (.ch 0, gqS1)).1 by rw [PM.steps_succ]] at hSt
          have hq1 : (q : Int) < 9 := by omega
          have hq0 : (0 : Int) ≤ (q : Int) := by omega
          clear HS
          go_wp2_with fail
          go_at_call 19; refine hSt.mono ?_; rintro e w4 ⟨rfl, L', hS'⟩
          have HS' : Hid _ := hS'
          clear hSt hS'
          go_wp2_with fail
          go_roundw
          case rel => exact ⟨q + 1, L', by omega, by go_num, HS'⟩
          case measure => simp [intOf]; omega
        · obtain rfl : q = 9 := by omega
          clear HLO
          rw [show ((9 : Nat) : Int) = 9 from rfl]
          have hLs := qlist_any wr A cap c b 562 cl gqS2 2 2 4 HS.out.mem (by omega) HS.out.rd (by omega) (by omega) (by omega)
          rw [gq_list] at hLs
          have HF : Hid _ := HS.out
          clear HS
          go_wp2_with fail
          go_at_call 21; refine hLs.mono ?_; rintro e w5 ⟨vl, rfl, hv5, hb5⟩
          have HV5 : Hid (RI.IntsOn w5 wr.heap.size vl [2, 0, 1]) := ⟨hv5.own⟩
          have HI5 : Hid (Is w5 136 A cap c b 562 gqS2) := HF.out.mem.below hb5
          have HY5 : Hid (Lay w5 cl 2 2 4) := (HF.out.rd : Lay wr cl 2 2 4).below hb5 (HF.out.rd : Lay wr cl 2 2 4).lt
          have HB5 : Hid (Below w.heap.size w w5) := seq HF.out.below hb5
          have hcb : Hid (c < wr.heap.size ∧ b < wr.heap.size ∧ cl < wr.heap.size) := ⟨HF.out.mem.lt, HF.out.mem.bl, (HF.out.rd : Lay wr cl 2 2 4).lt⟩
          have hNT := tk_fresh (who := 0) (P := 2) (T := 2) (G := 4) (p := 1) (most := 0) (cl := cl) w5 (fun y => wd (20 + 2 * 264 + 2 * 3) 4 2 y 1)
          generalize hwl : wr = wl at *
          clear hLs hv5 hb5 HF
          go_wp2_with fail
          go_at_call 68; refine hNT.mono ?_; rintro e w6 ⟨xt, L6, rfl, ht1, ht2, ht3⟩
          have HSC : Hid (Solo (tkCp 0 (fun y => wd (20 + 2 * 264 + 2 * 3) 4 2 y 1) 2 2 4 1 0 cl).I ((Rd.lay cl 2 2 4).and (Rd.ints wl.heap.size vl [2, 0, 1])) w w6 A cap c b 562 (gqT.steps 0 562 0 (.ld, gqS2)).2 xt (gqT.steps 0 562 0 (.ld, gqS2)).1 L6) := Solo.begin HI5.out ht2 HB5.out hup.out ht1 ht3 ⟨HY5.out, HV5.out⟩ (fun k hk => by
            rcases List.mem_append.1 hk with h | h
            · have : k = cl := List.mem_singleton.1 h
              rw [this]; exact HY5.out.lt
            · exact (HV5.out.up k h).2) ⟨fun hm => by
            rcases List.mem_append.1 hm with h | h
            · exact hne.out.1 (List.mem_singleton.1 h).symm
            · have := (HV5.out.up c h).1; have := hcb.out; omega, fun hm => by
            rcases List.mem_append.1 hm with h | h
            · exact hne.out.2 (List.mem_singleton.1 h).symm
            · have := (HV5.out.up b h).1; have := hcb.out; omega⟩
          clear hNT ht1 ht2 ht3 HI5 HY5 HB5 HV5
          go_wp2_with fail
          have HLO : Hid (∀ q : Nat, q ≤ 30 → Low (gqT.steps 0 562 q (.ld, gqS2)).2 1000000) := fun q hq => (PM.steps_low gqT 0 562 q (.ld, gqS2) gq_low2).more (by omega)
          go_loopw [12] (fun k wi => ∃ (q : Nat) (L : List Nat), q ≤ 30 ∧ k = .int .i64 q ∧ Hid (Solo (tkCp 0 (fun y => wd (20 + 2 * 264 + 2 * 3) 4 2 y 1) 2 2 4 1 0 cl).I ((Rd.lay cl 2 2 4).and (Rd.ints wl.heap.size vl [2, 0, 1])) w wi A cap c b 562 (gqT.steps 0 562 q (.ld, gqS2)).2 xt (gqT.steps 0 562 q (.ld, gqS2)).1 L)) (fun k _ => 30 - (intOf k).toNat)
          case atStart => exact ⟨0, _, by omega, rfl, HSC⟩
          case round =>
            clear HSC
            obtain ⟨q, L, hq, rfl, HS⟩ := hrel
            by_cases hq9 : q < 30
            · have hSt := HS.out.step HTG.out.1 HTG.out.2 (fun Y (h : (((Rd.lay cl 2 2 4).and (Rd.ints wl.heap.size vl [2, 0, 1]))).P Y) => h.1) (fun k hk => List.mem_append_left _ hk) (by omega) (HLO.out q hq)
              rw [show gqT.goS 0 562 (gqT.steps 0 562 q (.ld, gqS2)).1 (gqT.steps 0 562 q (.ld, gqS2)).2 = (gqT.steps 0 562 (q + 1) (.ld, gqS2)).2 by rw [PM.steps_succ], show gqT.goT 562 (gqT.steps 0 562 q (.ld, gqS2)).1 (gqT.steps 0 562 q (.ld, gqS2)).2 = (gqT.steps 0 562 (q + 1) (.ld, gqS2)).1 by rw [PM.steps_succ]] at hSt
              have hq1 : (q : Int) < 30 := by omega
              have hq0 : (0 : Int) ≤ (q : Int) := by omega
              clear HS
              go_wp2_with fail
              go_at_call 31; refine hSt.mono ?_; rintro e w4 ⟨rfl, L', hS'⟩
              have HS' : Hid _ := hS'
              clear hSt hS'
              go_wp2_with fail
              go_roundw
              case rel => exact ⟨q + 1, L', by omega, by go_num, HS'⟩
              case measure => simp [intOf]; omega
            · obtain rfl : q = 30 := by omega
              clear HLO
              rw [show ((30 : Nat) : Int) = 30 from rfl]
              have hGs := rgs_any wr cl 2 2 4 1 A cap c b 562 gqS3 HS.out.rd.1 (by omega) (by omega) HS.out.mem (by omega)
              rw [gq_gs] at hGs
              generalize (decide (rMany 2 1 562 gqS3 ≤ 256) && (rgsL 2 4 1 562 gqS3).all (gsOk 4)) = zz at hGs
              have HVL : Hid (∀ Y, Below wr.heap.size wr Y → RI.SeesL Y vl [2, 0, 1]) := fun Y hY => ((HS.out.rd.2 : RI.IntsOn wr wl.heap.size vl [2, 0, 1]).sees).below hY
              have HM : Hid (∀ Y, Below wr.heap.size wr Y → (tkCp 0 (fun y => wd (20 + 2 * 264 + 2 * 3) 4 2 y 1) 2 2 4 1 0 cl).I Y xt gqT3 L) := fun Y hY => HTG.out.1.below HS.out.mach hY
              have HBF : Hid (Below w.heap.size w wr) := HS.out.below
              clear HS
              go_wp2_with fail
              go_at_call 51; refine hGs.mono ?_; rintro e w7 ⟨vg, rfl, hv7, hb7⟩
              have HB7 : Hid (Below wr.heap.size wr w7) := hb7
              have HG7 : Hid (RI.SeesL w7 vg [0]) := hv7.sees
              have hS1 := RI.lsame_any (w7.alloc (.cells #[.int .i64 2, .int .i64 0, .int .i64 1] 3)) vl _ [2, 0, 1] (by decide) (HVL.out _ (seq hb7 ((Below.refl _ _).alloc (Nat.le_refl _) _))) (lit3_sees w7 2 0 1)
              have HA7 : Hid (Below w7.heap.size w7 (w7.alloc (.cells #[.int .i64 2, .int .i64 0, .int .i64 1] 3))) := (Below.refl _ _).alloc (Nat.le_refl _) _
              clear hGs hv7 hb7
              go_wp2_with fail
              go_at_call 16; refine hS1.mono ?_; rintro e w8 ⟨rfl, hb8⟩
              have HB78 : Hid (Below w7.heap.size w7 w8) := seq HA7.out hb8
              have HB8 : Hid (Below wr.heap.size wr w8) := seq HB7.out HB78.out
              have HM8 : Hid _ := HM.out w8 HB8.out
              have HD : Hid (Calls Tryz.prog 30 #[.pointer (some ⟨xt, 0, none⟩)] w8 fun e w' => e = .returned (.bool true) ∧ w8 = w') := by
                obtain ⟨nx, hx1, hx2⟩ := HTG.out.1.next HM8.out
                rw [gq_obs.2] at hx2
                rw [← hx2]
                exact done_qtake w8 xt nx hx1
              have HGv : Hid (Calls Tryz.prog 32 #[.pointer (some ⟨xt, 0, none⟩)] w8 fun e w' => e = .returned (.int .i64 2) ∧ w8 = w') := by
                have h := tk_g2 HM8.out (by have := gq_obs.2; cases h : gqT.ax gqT3 with
                  | none => exact h
                  | some a => rw [h] at this; cases this)
                rw [gq_obs.1] at h
                exact h
              have hD := HD.out
              have hGv := HGv.out
              clear hS1 hb8 HM HVL HA7 HD HGv HM8
              go_wp2_with fail
              go_at_call 30; refine hD.mono ?_; rintro e w9 ⟨rfl, rfl⟩
              clear hD
              go_wp2_with fail
              go_at_call 32; refine hGv.mono ?_; rintro e w9 ⟨rfl, rfl⟩
              have hS2 := RI.lsame_any (w8.alloc (.cells #[.int .i64 0] 3)) vg _ [0] (by decide) (HG7.out.below (seq HB78.out ((Below.refl _ _).alloc (Nat.le_refl _) _))) (lit1_sees w8 0)
              have HA8 : Hid (Below w8.heap.size w8 (w8.alloc (.cells #[.int .i64 0] 3))) := (Below.refl _ _).alloc (Nat.le_refl _) _
              clear hGv
              go_wp2_with fail
              go_at_call 16; refine hS2.mono ?_; rintro e w10 ⟨rfl, hb10⟩
              have HFF : Hid (Below w.heap.size w w10) := seq (seq (seq HBF.out HB8.out) HA8.out) hb10
              clear hS2 hb10 HA8
              go_wp2_with fail
              go_ret
              exact ⟨rfl, HFF.out⟩
end Go.Proofs.YthhlklfioipmgaaGreat

namespace Go.Proofs.YthhlklfioipmgaaGreat
open Go Go.ChangeShapes Go.WideShapes Go.ChangeAt Go.RowKit

theorem below_trodAll {H : Type} {enc : TypeId × Value → H} {P : Program} (hl : laidOutB P = true) {W W' : World} (hb : Below W.heap.size W W') :
    ∀ (ts : List TypeId) (vs : List Value) (ds : List (DataW H)) (ps : List MemPlace), (ts.all fun t => P.readableRec t && decide (t < P.types.size)) = true →
      DataW.TrodAll enc P W 0 (fun _ => true) true ts vs ds ps → DataW.TrodAll enc P W' 0 (fun b => decide (b < W.heap.size)) true ts vs ds ps := by
  intro ts
  induction ts with
  | nil =>
    intro vs ds ps _ h
    cases vs <;> cases ds <;> first | exact h | exact (h : False).elim
  | cons t ts ih =>
    intro vs ds ps hall h
    cases vs with
    | nil => exact (h : False).elim
    | cons v vs =>
      cases ds with
      | nil => exact (h : False).elim
      | cons d ds =>
        obtain ⟨p, q, h1, h2, rfl⟩ := h
        simp only [List.all_cons, Bool.and_eq_true, decide_eq_true_eq] at hall
        have lt : ∀ x ∈ p, x.block < W.heap.size := by obtain ⟨m, hm⟩ := h1; exact DataW.trod_lt m _ _ _ hm
        exact ⟨p, q, Below.trod hl hall.1.1 hall.1.2 h1 hb lt, ih vs ds q hall.2 h2, rfl⟩

theorem law_post {H : Type} {enc : TypeId × Value → H} {P : Program} {f : Func} {s : ChangeSpec} {apart : Bool} {W W' : World} {args : Array Value} {ds gs : List (DataW H)} {before : List MemPlace} {bt : TypeId}
    (hl : laidOutB P = true) (hr : f.resultTypes.toList = [bt]) (hbt : P.underlying bt = some .bool) (hts : (f.params.toList.all fun t => P.readableRec t && decide (t < P.types.size)) = true)
    (hvars : s.vars = []) (hres : (s.fn H ds).results = [.lit (.bool true)]) (harg : (s.fn H ds).args = ds) (hvs : (s.fn H ds).vars = [])
    (hW : DataW.Whole enc P f.params.toList s.vars apart W args.toList ds gs before) (hb : Below W.heap.size W W') :
    s.post enc P f apart true false false W args (.bool true) W' := by
  have hW' := hW
  obtain ⟨p, q, hA, hV, rfl, hfz, hnd⟩ := hW
  have hg : gs = [] ∧ q = [] := by rw [hvars] at hV; exact trodVars_none hV
  obtain ⟨rfl, rfl⟩ := hg
  refine ⟨ds, [], _, [], p, [], hW', ?_, ?_, ?_, hb.frame _, fun h => by cases h⟩
  · have e : (Value.bool true).resultList f.resultTypes.size = [.bool true] := by
      have hs : f.resultTypes.size = 1 := by rw [← Array.length_toList, hr]; rfl
      rw [hs]; rfl
    rw [List.append_nil, hres, hr, e]
    exact trodAll_mk1 (shut_bool hbt _)
  · rw [List.append_nil, harg]
    exact below_trodAll hl hb _ _ _ _ hts hA
  · rw [List.append_nil, hvs, hvars]
    rfl
end Go.Proofs.YthhlklfioipmgaaGreat

namespace Go.Proofs.YthhlklfioipmgaaGreat
open Go Go.ChangeShapes Go.WideShapes Go.ChangeAt Go.RowKit Go.Joins
set_option linter.unusedVariables false
set_option linter.unusedSimpArgs false

theorem own_globqPulls : ownKnob Tryz.prog.godebug = none := by kernel_rfl
theorem laidOut_globqPulls : laidOutB Tryz.prog = true := by kernel_rfl

set_option maxRecDepth 100000 in
theorem lifted_globqPulls (os : Os) (started : os.Started) (H : Type) (enc : TypeId × Value → H) :
    ReturnsInHanded {} Tryz.checked os 4 .any (Rows.globqPullsSpec.pre6 enc Tryz.prog Tryz.f4 Rows.globqPullsRow.domain false) (Rows.globqPullsSpec.post enc Tryz.prog Tryz.f4 false true false false) := by
  refine returnsInHanded_of_change (C := Tryz.checked) own_globqPulls started (by kernel_rfl) Tryz.func4
    (ChangeSpec.witness6 (enc := enc) (C := Tryz.checked) false ⟨#[], #[.agg #[.int .i64 0, .int .i64 0, .int .i64 0, .slice none 0 0], .int .i64 0, .slice none 0 0], []⟩ 8 (by kernel_rfl) (by kernel_rfl) (by kernel_rfl) (by kernel_rfl)) ?_
  intro W base args ds gs before hval0 hW hcnd _
  have hval : ∀ (j : Nat) t v, Tryz.f4.params[j]? = some t → args[j]? = some v → Value.okWide Tryz.prog W .any base t v := hval0
  have hW' := hW
  obtain ⟨p, q, hA0, hV, rfl, hfz, hnd⟩ := hW
  have hA : DataW.TrodAll enc Tryz.prog W 0 (fun _ => true) true Tryz.f4.params.toList args.toList ds p := hA0
  rw [Tryz.params4] at hA hval
  obtain ⟨v0, vs0, d0, ds0, p0, q0, hargs, rfl, rfl, h0, r0⟩ := trodAll_cons hA
  obtain ⟨v1, vs1, d1, ds1, p1, q1, rfl, rfl, rfl, h1, r1⟩ := trodAll_cons r0
  obtain ⟨v2, vs2, d2, ds2, p2, q2, rfl, rfl, rfl, h2, r2⟩ := trodAll_cons r1
  obtain ⟨rfl, rfl, rfl⟩ := trodAll_nil r2
  obtain rfl : args = #[v0, v1, v2] := by cases args; simp_all
  obtain ⟨P, T, G, E, m, cp, a, x, rfl, hm, hs, hx⟩ := open_ground (hval 0 26 v0 rfl rfl) h0
  unfold maxLen at hm
  obtain ⟨x0, rfl, rfl, rfl, wx0⟩ := open_int Tryz.underlying3 (hval 1 3 v1 rfl rfl) h1
  obtain ⟨F, mp, cq, Pks, rfl, hmp, hP, hpv⟩ := open_pokes (hval 2 28 v2 rfl rfl) h2
  unfold maxLen at hmp
  clear hA0 hval0
  refine (globqPulls_walk P T G x0 E F m cp mp cq a x Pks W globq_awake (by omega) (by omega) hs hx hP hpv).mono fun e W' ⟨he, hb⟩ => ?_
  subst he
  exact ⟨_, rfl, law_post laidOut_globqPulls rfl Tryz.underlying4 (by kernel_rfl) rfl rfl rfl rfl hW' hb⟩

theorem globqPulls_holds : Rows.GlobqPullsSaid :=
  OpenClaim.holds_of_wide 4 Tryz.f4 rfl rfl rfl rfl rfl rfl rfl ⟨rfl, rfl, rfl, rfl, rfl⟩ rfl rfl rfl rfl rfl (by kernel_rfl) Tryz.func4 (by kernel_rfl)
    (of_decide_eq_true (by kernel_rfl)) (by unfold Func.isWrapper; first | (rw [if_pos (by decide +kernel)]; kernel_rfl) | (rw [if_neg (by decide +kernel)]; exact ⟨rfl, rfl⟩))
    (fun os started H enc _ => lifted_globqPulls os started H enc)
#print axioms globqPulls_holds
end Go.Proofs.YthhlklfioipmgaaGreat
