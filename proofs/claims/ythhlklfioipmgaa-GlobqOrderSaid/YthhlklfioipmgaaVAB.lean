/- GlobqOrder: what is put is pulled in the order in which it was put, and the list is what was put, and not pulled; for every number of goroutines and all rounds; no condition. -/
import Derived.Test.YthhlklfioipmgaaVAA
import Derived.Test.YthhlklfioipmgaaOpen
import Derived.ProofKit
import Derived.Carry
import Derived.WalkKit
import Derived.OpenShut
import Derived.Lib.SmallJoins
namespace Go.Proofs.Ythhlklfioipmgaa
open Go Go.RowKit
set_option linter.unusedVariables false
set_option maxRecDepth 100000
set_option linter.unusedSimpArgs false

theorem tk_g2 {who P T G p most : Int} {gl : Int → Int} {cl : Nat} {w : World} {x : Nat} {t : TkT} {L : List Nat} (h : (tkCp who gl P T G p most cl).I w x t L) (hn : (tkPM gl P p most).ax t = none) :
    Calls Try.prog 33 #[.pointer (some ⟨x, 0, none⟩)] w fun e w' => e = .returned (.int .i64 t.obs) ∧ w = w' := by
  cases t with
  | over l f o tl => exact tk_g h
  | none' =>
    obtain ⟨hok, es, Le, he, hxe, h⟩ := h
    obtain ⟨hb, -⟩ := h
    exact take_g w x cl who p most 0 0 (-1) none none none hb (pull_g_nil w)
  | fst l q =>
    have h1 : ((plPM gl).ax q).isSome = true := h.1.2.1
    rw [show (plPM gl).ax q = none from hn] at h1
    cases h1
  | oth l f q tl =>
    have h1 : ((plPM gl).ax q).isSome = true := h.1.2.1
    rw [show (plPM gl).ax q = none from hn] at h1
    cases h1
  | _ => cases hn
def gqL (y : Int) : Int := wd (20 + 2 * 264 + 2 * 3) 4 2 y 1
def gqA : PM QpT := qpPM (fun y => wd (20 + 2 * 264 + 2 * 3) 4 2 y 1) [2, 0]
def gqB : PM QpT := qpPM (fun y => wd (20 + 2 * 264 + 2 * 3) 4 2 y 1) [1]
def gqT : PM TkT := tkPM (fun y => wd (20 + 2 * 264 + 2 * 3) 4 2 y 1) 2 1 0
def gqS0 : St := fresh (fun _ => 0)
def gqS1 : St := (gqA.steps 0 562 9 (.ch 0, gqS0)).2
def gqS2 : St := (gqB.steps 0 562 9 (.ch 0, gqS1)).2
def gqS3 : St := (gqT.steps 0 562 30 (.ld, gqS2)).2
def gqT3 : TkT := (gqT.steps 0 562 30 (.ld, gqS2)).1
theorem gq_list : lsOf (fun g => peekT 562 gqS2 (wd (20 + 2 * 264 + 2 * 3) 4 2 g 1)) 4 (peekT 562 gqS2 6) = ([2, 0, 1], true) := by decide +kernel
theorem gq_obs : gqT3.obs = 2 ∧ (gqT.ax gqT3).isNone = true := ⟨by decide +kernel, by decide +kernel⟩
theorem gq_gs : gsL 4 (rgsL 2 4 1 562 gqS3) = [0] := by decide +kernel
theorem gq_low1 : Low gqS1 9 := (PM.steps_low gqA 0 562 9 (.ch 0, gqS0) (low_fresh _)).more (by omega)
theorem gq_low2 : Low gqS2 18 := (PM.steps_low gqB 0 562 9 (.ch 0, gqS1) gq_low1).more (by omega)
set_option maxHeartbeats 8000000 in
theorem globq_awake (w : World) : Calls Try.prog 6 #[] w fun e w' => e = .returned (.bool true) ∧ Below w.heap.size w w' := by
  have hL := lay_some 2 2 4 none 0 0 562 (fun _ => 0) (fun _ => 0) w (by omega) ⟨⟨by omega⟩, by omega, by omega, by omega⟩ (by omega) (fun h => absurd h (by omega)) (fun i h => absurd h (by omega))
  go_enter Try.func6, Try.ntmps6
  go_wp2_with fail
  go_at_call 5; refine hL.mono ?_; rintro e w1 ⟨cl, A, A', cap, cap', c, b, c', b', rfl, hLd⟩
  have HI1 : Hid (Is w1 92 A cap c b 562 gqS0) := hLd.two.m
  have HY1 : Hid (Lay w1 cl 2 2 4) := hLd.lay
  have HB1 : Hid (Below w.heap.size w w1) := hLd.below
  have hne : Hid (cl ≠ c ∧ cl ≠ b) := lay_ne hLd.lay (by decide) hLd.two.m (by omega)
  have hup : Hid (w.heap.size ≤ c ∧ w.heap.size ≤ b) := ⟨hLd.up.2.1, hLd.up.2.2.1⟩
  have hlo : Hid (c < w1.heap.size ∧ b < w1.heap.size ∧ cl < w1.heap.size) := ⟨hLd.two.m.lt, hLd.two.m.bl, hLd.lay.lt⟩
  have hGA0 := qp_good 0 2 2 4 cl [2, 0] (by omega) (by omega) (by omega) (by decide)
  have hGB0 := qp_good 0 2 2 4 cl [1] (by omega) (by omega) (by omega) (by decide)
  have hNA := qp_new_some (w1.alloc (.cells #[.int .i64 2, .int .i64 0] 3)) cl 0 2 2 4 _ [2, 0] (by obtain ⟨q1, q2, q3, q4, q5⟩ := lit2_sees w1 2 0; exact ⟨q1, q2, q3, q4, q5⟩) (by decide) (by decide) (hLd.lay.below ((Below.refl _ _).alloc (Nat.le_refl _) _) hLd.lay.lt) (by omega) (by omega) (by omega)
  have HA1 : Hid (Below w1.heap.size w1 (w1.alloc (.cells #[.int .i64 2, .int .i64 0] 3))) := (Below.refl _ _).alloc (Nat.le_refl _) _
  clear hL hLd
  go_wp2_with fail
  go_at_call 7; refine hNA.mono ?_; rintro e w2 ⟨xa, La, rfl, ha1, ha2, ha3, ha4⟩
  have HB2 : Hid (Below w1.heap.size w1 w2) := seq HA1.out ha2
  have HLA : Hid (∀ k ∈ La, w1.heap.size ≤ k) := fun k hk => Nat.le_trans HA1.out.size (ha3 k hk)
  have HMA : Hid ((qpI 0 cl (fun y => wd (20 + 2 * 264 + 2 * 3) 4 2 y 1) [2, 0]) w2 xa (.ch 0) La) := ha1
  have hNB := qp_new_some (w2.alloc (.cells #[.int .i64 1] 3)) cl 0 2 2 4 _ [1] (by obtain ⟨q1, q2, q3, q4, q5⟩ := lit1_sees w2 1; exact ⟨q1, q2, q3, q4, q5⟩) (by decide) (by decide) (HY1.out.below (seq HB2.out ((Below.refl _ _).alloc (Nat.le_refl _) _)) HY1.out.lt) (by omega) (by omega) (by omega)
  have HA2 : Hid (Below w2.heap.size w2 (w2.alloc (.cells #[.int .i64 1] 3))) := (Below.refl _ _).alloc (Nat.le_refl _) _
  clear hNA HA1 ha1 ha2 ha3 ha4
  go_wp2_with fail
  go_at_call 7; refine hNB.mono ?_; rintro e w3 ⟨xb, Lb, rfl, hb1, hb2, hb3, hb4⟩
  have HB23 : Hid (Below w2.heap.size w2 w3) := seq HA2.out hb2
  have HB3 : Hid (Below w1.heap.size w1 w3) := seq HB2.out HB23.out
  have HLB : Hid (∀ k ∈ Lb, w2.heap.size ≤ k) := fun k hk => Nat.le_trans HA2.out.size (hb3 k hk)
  have hGA : ((qpI 0 cl (fun y => wd (20 + 2 * 264 + 2 * 3) 4 2 y 1) [2, 0])).Good gqA := hGA0
  have hGB : ((qpI 0 cl (fun y => wd (20 + 2 * 264 + 2 * 3) 4 2 y 1) [1])).Good gqB := hGB0
  have HSA : Hid (Solo (qpI 0 cl (fun y => wd (20 + 2 * 264 + 2 * 3) 4 2 y 1) [2, 0]) ((Rd.lay cl 2 2 4).and (Rd.mach hGB xb (.ch 0) Lb)) w w3 A cap c b 562 (gqA.steps 0 562 0 (.ch 0, gqS0)).2 xa (gqA.steps 0 562 0 (.ch 0, gqS0)).1 La) := by
    have l1 := hlo.out
    have s12 := HB2.out.size
    have la := HLA.out
    have lb := HLB.out
    have ltA := hGA.lt HMA.out
    have ltB := hGB.lt hb1
    refine ⟨HI1.out.below HB3.out, hGA.below HMA.out HB23.out, ⟨HY1.out.below HB3.out HY1.out.lt, hb1⟩, fun k hk => ⟨by have := la k hk; omega, by have := la k hk; omega, fun hm => ?_⟩, ⟨fun hm => ?_, fun hm => ?_⟩, ⟨hup.out.1, hup.out.2, fun k hk => by have := la k hk; have := HB1.out.size; omega⟩, fun k hk => ?_, HB1.out.trans (HB3.out.mono HB1.out.size)⟩
    · rcases List.mem_append.1 hm with h | h
      · have := la k hk; have : k = cl := List.mem_singleton.1 h; omega
      · have := lb k h; have := ltA k hk; omega
    · rcases List.mem_append.1 hm with h | h
      · exact hne.out.1 (List.mem_singleton.1 h).symm
      · have := lb c h; omega
    · rcases List.mem_append.1 hm with h | h
      · exact hne.out.2 (List.mem_singleton.1 h).symm
      · have := lb b h; omega
    · rcases List.mem_append.1 hk with h | h
      · have : k = cl := List.mem_singleton.1 h; have := HB3.out.size; omega
      · exact ltB k h
  have HBL : Hid ((∀ k ∈ Lb, w.heap.size ≤ k) ∧ ∀ k ∈ Lb, k ∉ [cl]) := ⟨fun k hk => by have := HLB.out k hk; have := HB2.out.size; have := HB1.out.size; omega, fun k hk hm => by have := HLB.out k hk; have := HB2.out.size; have : k = cl := List.mem_singleton.1 hm; have := hlo.out; omega⟩
  have HST : Hid (Steps gqA (qpI 0 cl (fun y => wd (20 + 2 * 264 + 2 * 3) 4 2 y 1) [2, 0]) (Rd.lay cl 2 2 4) 8 0 ∧ Steps gqB (qpI 0 cl (fun y => wd (20 + 2 * 264 + 2 * 3) 4 2 y 1) [1]) (Rd.lay cl 2 2 4) 8 0) := ⟨qp_steps 0 2 2 4 cl [2, 0] (by omega) (by omega) (by omega) (by decide) stepby_qput, qp_steps 0 2 2 4 cl [1] (by omega) (by omega) (by omega) (by decide) stepby_qput⟩
  have hTL := tk_laws (who := 0) (P := 2) (T := 2) (G := 4) (p := 1) (most := 0) (cl := cl) (by omega) (by omega) (by omega) (by omega)
  have HTG : Hid (((tkCp 0 (fun y => wd (20 + 2 * 264 + 2 * 3) 4 2 y 1) 2 2 4 1 0 cl).I).Good gqT ∧ Steps gqT (tkCp 0 (fun y => wd (20 + 2 * 264 + 2 * 3) 4 2 y 1) 2 2 4 1 0 cl).I (Rd.lay cl 2 2 4) 30 0) := ⟨Cp.good hTL, Cp.steps hTL stepby_qtake⟩
  clear hNB HA2 hb1 hb2 hb3 hb4 HMA HLA HLB HB23 HB3 HB2 HI1 HY1 HB1 hGA0 hGB0 hTL
  go_wp2_with fail
  have HLO : Hid (∀ q : Nat, q ≤ 9 → Low (gqA.steps 0 562 q (.ch 0, gqS0)).2 1000000) := fun q hq => (PM.steps_low gqA 0 562 q (.ch 0, gqS0) (low_fresh _)).more (by omega)
  go_loopw [7] (fun k wi => ∃ (q : Nat) (L : List Nat), q ≤ 9 ∧ k = .int .i64 q ∧ Hid (Solo (qpI 0 cl (fun y => wd (20 + 2 * 264 + 2 * 3) 4 2 y 1) [2, 0]) ((Rd.lay cl 2 2 4).and (Rd.mach hGB xb (.ch 0) Lb)) w wi A cap c b 562 (gqA.steps 0 562 q (.ch 0, gqS0)).2 xa (gqA.steps 0 562 q (.ch 0, gqS0)).1 L)) (fun k _ => 9 - (intOf k).toNat)
  case atStart => exact ⟨0, _, by omega, rfl, HSA⟩
  case round =>
    clear HSA
    obtain ⟨q, L, hq, rfl, HS⟩ := hrel
    by_cases hq9 : q < 9
    · have hSt := HS.out.step hGA HST.out.1 (fun Y (h : (((Rd.lay cl 2 2 4).and (Rd.mach hGB xb (.ch 0) Lb))).P Y) => h.1) (fun k hk => List.mem_append_left _ hk) (by omega) (HLO.out q hq)
      rw [show gqA.goS 0 562 (gqA.steps 0 562 q (.ch 0, gqS0)).1 (gqA.steps 0 562 q (.ch 0, gqS0)).2 = (gqA.steps 0 562 (q + 1) (.ch 0, gqS0)).2 by rw [PM.steps_succ], show gqA.goT 562 (gqA.steps 0 562 q (.ch 0, gqS0)).1 (gqA.steps 0 562 q (.ch 0, gqS0)).2 = (gqA.steps 0 562 (q + 1) (.ch 0, gqS0)).1 by rw [PM.steps_succ]] at hSt
      have hq1 : (q : Int) < 9 := by omega
      have hq0 : (0 : Int) ≤ (q : Int) := by omega
      clear HS
      go_wp2_with fail
      go_at_call 8; refine hSt.mono ?_; rintro e w4 ⟨rfl, L', hS'⟩
      have HS' : Hid _ := hS'
      clear hSt hS'
      go_wp2_with fail
      go_roundw
      case rel => exact ⟨q + 1, L', by omega, by go_num, HS'⟩
      case measure => simp [intOf]; omega
    · obtain rfl : q = 9 := by omega
      clear HLO
      rw [show ((9 : Nat) : Int) = 9 from rfl]
      have HSB : Hid (Solo (qpI 0 cl (fun y => wd (20 + 2 * 264 + 2 * 3) 4 2 y 1) [1]) (Rd.lay cl 2 2 4) w wr A cap c b 562 (gqB.steps 0 562 0 (.ch 0, gqS1)).2 xb (gqB.steps 0 562 0 (.ch 0, gqS1)).1 Lb) := HS.out.again HS.out.rd.2 HS.out.rd.1 (fun k hk => List.mem_append_right _ hk) (fun k hk => List.mem_append_left _ hk) HBL.out.2 HBL.out.1
      clear HS
      go_wp2_with fail
      have HLO : Hid (∀ q : Nat, q ≤ 9 → Low (gqB.steps 0 562 q (.ch 0, gqS1)).2 1000000) := fun q hq => (PM.steps_low gqB 0 562 q (.ch 0, gqS1) gq_low1).more (by omega)
      go_loopw [8] (fun k wi => ∃ (q : Nat) (L : List Nat), q ≤ 9 ∧ k = .int .i64 q ∧ Hid (Solo (qpI 0 cl (fun y => wd (20 + 2 * 264 + 2 * 3) 4 2 y 1) [1]) (Rd.lay cl 2 2 4) w wi A cap c b 562 (gqB.steps 0 562 q (.ch 0, gqS1)).2 xb (gqB.steps 0 562 q (.ch 0, gqS1)).1 L)) (fun k _ => 9 - (intOf k).toNat)
      case atStart => exact ⟨0, _, by omega, rfl, HSB⟩
      case round =>
        clear HSB
        obtain ⟨q, L, hq, rfl, HS⟩ := hrel
        by_cases hq9 : q < 9
        · have hSt := HS.out.step hGB HST.out.2 (fun Y h => h) (fun k hk => hk) (by omega) (HLO.out q hq)
          rw [show gqB.goS 0 562 (gqB.steps 0 562 q (.ch 0, gqS1)).1 (gqB.steps 0 562 q (.ch 0, gqS1)).2 = (gqB.steps 0 562 (q + 1) (.ch 0, gqS1)).2 by rw [PM.steps_succ], show gqB.goT 562 (gqB.steps 0 562 q (.ch 0, gqS1)).1 (gqB.steps 0 562 q (.ch 0, gqS1)).2 = (gqB.steps 0 562 (q + 1) (.ch 0, gqS1)).1 by rw [PM.steps_succ]] at hSt
          have hq1 : (q : Int) < 9 := by omega
          have hq0 : (0 : Int) ≤ (q : Int) := by omega
          clear HS
          go_wp2_with fail
          go_at_call 8; refine hSt.mono ?_; rintro e w4 ⟨rfl, L', hS'⟩
          have HS' : Hid _ := hS'
          clear hSt hS'
          go_wp2_with fail
          go_roundw
          case rel => exact ⟨q + 1, L', by omega, by go_num, HS'⟩
          case measure => simp [intOf]; omega
        · obtain rfl : q = 9 := by omega
          clear HLO
          rw [show ((9 : Nat) : Int) = 9 from rfl]
          have hLs := qlist_any wr A cap c b 562 cl gqS2 2 2 4 HS.out.mem (by omega) HS.out.rd (by omega) (by omega) (by omega)
          rw [gq_list] at hLs
          have HF : Hid _ := HS.out
          clear HS
          go_wp2_with fail
          go_at_call 13; refine hLs.mono ?_; rintro e w5 ⟨vl, rfl, hv5, hb5⟩
          have HV5 : Hid (RI.IntsOn w5 wr.heap.size vl [2, 0, 1]) := ⟨hv5.own⟩
          have HI5 : Hid (Is w5 92 A cap c b 562 gqS2) := HF.out.mem.below hb5
          have HY5 : Hid (Lay w5 cl 2 2 4) := (HF.out.rd : Lay wr cl 2 2 4).below hb5 (HF.out.rd : Lay wr cl 2 2 4).lt
          have HB5 : Hid (Below w.heap.size w w5) := seq HF.out.below hb5
          have hcb : Hid (c < wr.heap.size ∧ b < wr.heap.size ∧ cl < wr.heap.size) := ⟨HF.out.mem.lt, HF.out.mem.bl, (HF.out.rd : Lay wr cl 2 2 4).lt⟩
          have hNT := tk_fresh (who := 0) (P := 2) (T := 2) (G := 4) (p := 1) (most := 0) (cl := cl) w5 (fun y => wd (20 + 2 * 264 + 2 * 3) 4 2 y 1)
          generalize hwl : wr = wl at *
          clear hLs hv5 hb5 HF
          go_wp2_with fail
          go_at_call 29; refine hNT.mono ?_; rintro e w6 ⟨xt, L6, rfl, ht1, ht2, ht3⟩
          have HSC : Hid (Solo (tkCp 0 (fun y => wd (20 + 2 * 264 + 2 * 3) 4 2 y 1) 2 2 4 1 0 cl).I ((Rd.lay cl 2 2 4).and (Rd.ints wl.heap.size vl [2, 0, 1])) w w6 A cap c b 562 (gqT.steps 0 562 0 (.ld, gqS2)).2 xt (gqT.steps 0 562 0 (.ld, gqS2)).1 L6) := Solo.begin HI5.out ht2 HB5.out hup.out ht1 ht3 ⟨HY5.out, HV5.out⟩ (fun k hk => by
            rcases List.mem_append.1 hk with h | h
            · have : k = cl := List.mem_singleton.1 h
              rw [this]; exact HY5.out.lt
            · exact (HV5.out.up k h).2) ⟨fun hm => by
            rcases List.mem_append.1 hm with h | h
            · exact hne.out.1 (List.mem_singleton.1 h).symm
            · have := (HV5.out.up c h).1; have := hcb.out; omega, fun hm => by
            rcases List.mem_append.1 hm with h | h
            · exact hne.out.2 (List.mem_singleton.1 h).symm
            · have := (HV5.out.up b h).1; have := hcb.out; omega⟩
          clear hNT ht1 ht2 ht3 HI5 HY5 HB5 HV5
          go_wp2_with fail
          have HLO : Hid (∀ q : Nat, q ≤ 30 → Low (gqT.steps 0 562 q (.ld, gqS2)).2 1000000) := fun q hq => (PM.steps_low gqT 0 562 q (.ld, gqS2) gq_low2).more (by omega)
          go_loopw [12] (fun k wi => ∃ (q : Nat) (L : List Nat), q ≤ 30 ∧ k = .int .i64 q ∧ Hid (Solo (tkCp 0 (fun y => wd (20 + 2 * 264 + 2 * 3) 4 2 y 1) 2 2 4 1 0 cl).I ((Rd.lay cl 2 2 4).and (Rd.ints wl.heap.size vl [2, 0, 1])) w wi A cap c b 562 (gqT.steps 0 562 q (.ld, gqS2)).2 xt (gqT.steps 0 562 q (.ld, gqS2)).1 L)) (fun k _ => 30 - (intOf k).toNat)
          case atStart => exact ⟨0, _, by omega, rfl, HSC⟩
          case round =>
            clear HSC
            obtain ⟨q, L, hq, rfl, HS⟩ := hrel
            by_cases hq9 : q < 30
            · have hSt := HS.out.step HTG.out.1 HTG.out.2 (fun Y (h : (((Rd.lay cl 2 2 4).and (Rd.ints wl.heap.size vl [2, 0, 1]))).P Y) => h.1) (fun k hk => List.mem_append_left _ hk) (by omega) (HLO.out q hq)
              rw [show gqT.goS 0 562 (gqT.steps 0 562 q (.ld, gqS2)).1 (gqT.steps 0 562 q (.ld, gqS2)).2 = (gqT.steps 0 562 (q + 1) (.ld, gqS2)).2 by rw [PM.steps_succ], show gqT.goT 562 (gqT.steps 0 562 q (.ld, gqS2)).1 (gqT.steps 0 562 q (.ld, gqS2)).2 = (gqT.steps 0 562 (q + 1) (.ld, gqS2)).1 by rw [PM.steps_succ]] at hSt
              have hq1 : (q : Int) < 30 := by omega
              have hq0 : (0 : Int) ≤ (q : Int) := by omega
              clear HS
              go_wp2_with fail
              go_at_call 30; refine hSt.mono ?_; rintro e w4 ⟨rfl, L', hS'⟩
              have HS' : Hid _ := hS'
              clear hSt hS'
              go_wp2_with fail
              go_roundw
              case rel => exact ⟨q + 1, L', by omega, by go_num, HS'⟩
              case measure => simp [intOf]; omega
            · obtain rfl : q = 30 := by omega
              clear HLO
              rw [show ((30 : Nat) : Int) = 30 from rfl]
              have hGs := rgs_any wr cl 2 2 4 1 A cap c b 562 gqS3 HS.out.rd.1 (by omega) (by omega) HS.out.mem (by omega)
              rw [gq_gs] at hGs
              generalize (decide (rMany 2 1 562 gqS3 ≤ 256) && (rgsL 2 4 1 562 gqS3).all (gsOk 4)) = zz at hGs
              have HVL : Hid (∀ Y, Below wr.heap.size wr Y → RI.SeesL Y vl [2, 0, 1]) := fun Y hY => ((HS.out.rd.2 : RI.IntsOn wr wl.heap.size vl [2, 0, 1]).sees).below hY
              have HM : Hid (∀ Y, Below wr.heap.size wr Y → (tkCp 0 (fun y => wd (20 + 2 * 264 + 2 * 3) 4 2 y 1) 2 2 4 1 0 cl).I Y xt gqT3 L) := fun Y hY => HTG.out.1.below HS.out.mach hY
              have HBF : Hid (Below w.heap.size w wr) := HS.out.below
              clear HS
              go_wp2_with fail
              go_at_call 31; refine hGs.mono ?_; rintro e w7 ⟨vg, rfl, hv7, hb7⟩
              have HB7 : Hid (Below wr.heap.size wr w7) := hb7
              have HG7 : Hid (RI.SeesL w7 vg [0]) := hv7.sees
              have hS1 := RI.lsame_any (w7.alloc (.cells #[.int .i64 2, .int .i64 0, .int .i64 1] 3)) vl _ [2, 0, 1] (by decide) (HVL.out _ (seq hb7 ((Below.refl _ _).alloc (Nat.le_refl _) _))) (lit3_sees w7 2 0 1)
              have HA7 : Hid (Below w7.heap.size w7 (w7.alloc (.cells #[.int .i64 2, .int .i64 0, .int .i64 1] 3))) := (Below.refl _ _).alloc (Nat.le_refl _) _
              clear hGs hv7 hb7
              go_wp2_with fail
              go_at_call 15; refine hS1.mono ?_; rintro e w8 ⟨rfl, hb8⟩
              have HB78 : Hid (Below w7.heap.size w7 w8) := seq HA7.out hb8
              have HB8 : Hid (Below wr.heap.size wr w8) := seq HB7.out HB78.out
              have HM8 : Hid _ := HM.out w8 HB8.out
              have HD : Hid (Calls Try.prog 32 #[.pointer (some ⟨xt, 0, none⟩)] w8 fun e w' => e = .returned (.bool true) ∧ w8 = w') := by
                obtain ⟨nx, hx1, hx2⟩ := HTG.out.1.next HM8.out
                rw [gq_obs.2] at hx2
                rw [← hx2]
                exact done_qtake w8 xt nx hx1
              have HGv : Hid (Calls Try.prog 33 #[.pointer (some ⟨xt, 0, none⟩)] w8 fun e w' => e = .returned (.int .i64 2) ∧ w8 = w') := by
                have h := tk_g2 HM8.out (by have := gq_obs.2; cases h : gqT.ax gqT3 with
                  | none => exact h
                  | some a => rw [h] at this; cases this)
                rw [gq_obs.1] at h
                exact h
              have hD := HD.out
              have hGv := HGv.out
              clear hS1 hb8 HM HVL HA7 HD HGv HM8
              go_wp2_with fail
              go_at_call 32; refine hD.mono ?_; rintro e w9 ⟨rfl, rfl⟩
              clear hD
              go_wp2_with fail
              go_at_call 33; refine hGv.mono ?_; rintro e w9 ⟨rfl, rfl⟩
              have hS2 := RI.lsame_any (w8.alloc (.cells #[.int .i64 0] 3)) vg _ [0] (by decide) (HG7.out.below (seq HB78.out ((Below.refl _ _).alloc (Nat.le_refl _) _))) (lit1_sees w8 0)
              have HA8 : Hid (Below w8.heap.size w8 (w8.alloc (.cells #[.int .i64 0] 3))) := (Below.refl _ _).alloc (Nat.le_refl _) _
              clear hGv
              go_wp2_with fail
              go_at_call 15; refine hS2.mono ?_; rintro e w10 ⟨rfl, hb10⟩
              have HFF : Hid (Below w.heap.size w w10) := seq (seq (seq HBF.out HB8.out) HA8.out) hb10
              clear hS2 hb10 HA8
              go_wp2_with fail
              go_ret
              exact ⟨rfl, HFF.out⟩
end Go.Proofs.Ythhlklfioipmgaa

namespace Go.Proofs.Ythhlklfioipmgaa
open Go Go.RowKit
set_option linter.unusedVariables false
set_option maxRecDepth 100000
set_option linter.unusedSimpArgs false

theorem tmod_nat (a b : Nat) : (a : Int).tmod (b : Int) = ((a % b : Nat) : Int) := by rw [Int.tmod_eq_emod_of_nonneg (by omega)]; simp

/-- Numbers below 256 of a slice. -/
def SeesB8 (w : World) (B : Nat) (A : Option Addr) (n : Nat) (f : Nat → Nat) : Prop :=
  0 < n → ∃ b off, A = some ⟨b, off, none⟩ ∧ b < B ∧ ∀ i, i < n → w.cell? ⟨b, off + i, none⟩ = some (.int .u8 (f i)) ∧ f i ≤ 255
open Go.ChangeShapes Go.WideShapes Go.ChangeAt Go.Deep in
theorem sees_bytes {H : Type} {enc : TypeId × Value → H} {P : Program} {W : World} {base b0 : Nat} {t e : TypeId} {v : Value} {d : DataW H} {p : List MemPlace} (ht : P.underlying t = some (.slice e)) (he : P.underlying e = some (.int .u8)) (hc : P.cellsOf e = 1)
    (hv : Value.okWide P W .any b0 t v) (h : DataW.Trod enc P W base (fun _ => true) true t v d p) :
    ∃ (A : Option Addr) (n cap : Nat) (f : Nat → Nat), v = .slice A n cap ∧ n ≤ maxLen ∧ SeesB8 W W.heap.size A n f := by
  obtain ⟨A, n, cap, rfl⟩ := okWide_slice ht hv
  obtain ⟨fuel, hf⟩ := h
  rcases open_ints ht he hc hf with ⟨hcs, _⟩ | ⟨x, l, c, zs, hcs, _, hl, hm, hz, _, hcell, hwz⟩
  · simp [Value.cells] at hcs
    obtain ⟨rfl, rfl, rfl⟩ := hcs
    exact ⟨none, 0, 0, fun _ => 0, rfl, Nat.zero_le _, fun h => absurd h (Nat.lt_irrefl 0)⟩
  · simp [Value.cells] at hcs
    obtain ⟨rfl, rfl, rfl⟩ := hcs
    have hz' : zs.length = cap := by simpa using hz
    refine ⟨some x, n, cap, fun i => (zs.getD i 0).toNat, rfl, Nat.le_trans hl hm, ?_⟩
    intro hn
    obtain ⟨b, off, spot⟩ := x
    have hs : spot = none := by
      have := hcell 0 (by omega)
      simpa [Addr.add] using World.cell?_spot this
    subst hs
    have hc0 := hcell 0 (by omega)
    simp [Addr.add] at hc0
    have hpos : ∀ i, i < n → 0 ≤ zs.getD i 0 ∧ zs.getD i 0 ≤ 255 := fun i hi => by
      have : zs.getD i 0 ∈ zs := by
        rw [List.getD_eq_getElem?_getD, List.getElem?_eq_getElem (by omega)]
        exact List.getElem_mem _
      exact bounds_u8 (hwz _ this)
    refine ⟨b, off, rfl, cell_lt hc0, fun i hi => ⟨?_, by have := hpos i hi; show (zs.getD i 0).toNat ≤ 255; omega⟩⟩
    have := hcell i (by omega)
    rw [show (((zs.getD i 0).toNat : Nat) : Int) = zs.getD i 0 from Int.toNat_of_nonneg (hpos i hi).1]
    by_cases h0 : i = 0
    · subst h0; simpa [Addr.add] using this
    · simpa [Addr.add, h0] using this

end Go.Proofs.Ythhlklfioipmgaa

namespace Go.Proofs.Ythhlklfioipmgaa
open Go Go.RowKit
set_option linter.unusedVariables false
set_option maxRecDepth 100000
set_option linter.unusedSimpArgs false

theorem go_m8 (b : Nat) : Int.tmod (b : Int) 8 = ((b % 8 : Nat) : Int) := by rw [Int.tmod_eq_emod_of_nonneg (by omega)]; omega
theorem go_m2 (b : Nat) : Int.tmod (b : Int) 2 = ((b % 2 : Nat) : Int) := by rw [Int.tmod_eq_emod_of_nonneg (by omega)]; omega
theorem go_w8 (m : Nat) (h : m ≤ 7) : IntKind.i64.wrap (m : Int) = (m : Int) := by simp [IntKind.wrap, IntKind.bits, IntKind.signed]; omega
theorem go_int (t : IntKind) (x : Int) : intOf (.int t x) = x := rfl
theorem go_meas (m q : Nat) (h : q < m) : m - ((q : Int) + 1).toNat < m - (q : Int).toNat := by omega
theorem GoOn.after {σ : Type} {I : MI σ} {w W W' : World} {B0 : Nat} {A : Option Addr} {cap c b n cl : Nat} {s s2 : St} {G : Int} {v : Value} {l : List Int} {x : Nat} {t : σ} {L : List Nat} (h : GoOn w W B0 A cap c b n cl s G v l) (hm : Is W' 92 A cap c b n s2) (hy : Lay W' cl 1 1 G) (hv : RI.TL W' B0 v l) (hb : Below w.heap.size w W') (hB : B0 ≤ W'.heap.size) : GoOn w W' B0 A cap c b n cl s2 G v l := ⟨hm, hy, hb, hv, hB, h.lo, h.up, h.ne⟩
theorem RI.TL.at' {w : World} {base m cap : Nat} {A : Option Addr} {l : List Int} (h : RI.TL w base (.slice A m cap) l) (h0 : 0 < l.length) : ∃ b off : Nat, A = some ⟨b, off, none⟩ ∧ ∀ j, j < l.length → w.cell? ⟨b, off + j, none⟩ = some (.int .i64 (l.getD j 0)) := by
  obtain ⟨A', cap', e, -, h2⟩ := h.sees
  injection e with e1 e2 e3
  obtain ⟨b, off, h3, -, h4⟩ := h2 h0
  exact ⟨b, off, by rw [e1, h3], h4⟩
theorem win_at (G : Int) (a k j : Nat) (hj : j < k) : (win G a k).getD j 0 = (((a + j) % G.toNat : Nat) : Int) := by
  unfold win
  rw [List.getD_eq_getElem?_getD, List.getElem?_map, List.getElem?_range hj]
  rfl
theorem globqOrder_bad (G : Int) (E : Option Addr) (mp cq : Nat) (w : World) (hmp : mp ≤ 9223372036854775807) (h : ¬ FewC 1 1 G ∨ 60 < mp) :
    Calls Try.prog 3 #[.int .i64 G, .slice E mp cq] w fun e w' => e = .returned (.bool true) ∧ Below w.heap.size w w' := by
  by_cases hf : FewC 1 1 G
  · have h1 : 60 < mp := by rcases h with h | h; exact absurd hf h; exact h
    have hM := hf.h.1.h
    obtain ⟨n, hn⟩ : ∃ n : Nat, (n : Int) = 20 + 264 * 1 + 3 * 1 + 2 * G := ⟨(20 + 264 * 1 + 3 * 1 + 2 * G).toNat, by omega⟩
    have hL := lay_some 1 1 G none 0 0 n (fun _ => 0) (fun _ => 0) w (by omega) hf hn (fun h => absurd h (by omega)) (fun i h => absurd h (by omega))
    have hd : (60 : Int) < (mp : Int) := by omega
    clear h hM hn hf
    go_enter Try.func3, Try.ntmps3
    go_wp2_with fail
    go_at_call 5; refine hL.mono ?_; rintro e w1 ⟨cl, A, A', cap, cap', c, b, c', b', rfl, hLd⟩
    have HB1 : Hid (Below w.heap.size w w1) := hLd.below
    clear hL hLd
    go_wp2_with fail
    go_at_call 6; refine (globq_awake _).mono ?_; rintro e w2 ⟨rfl, h2⟩
    have HF : Hid (Below w.heap.size w w2) := seq HB1.out h2
    clear h2
    go_wp2_with fail
    go_ret
    exact ⟨rfl, HF.out⟩
  · have hL := lay_none 1 1 G none 0 0 w (by omega) (.inl hf)
    clear h hf
    go_enter Try.func3, Try.ntmps3
    go_wp2_with fail
    go_at_call 5; refine hL.mono ?_; rintro e w1 ⟨rfl, hLd⟩
    have HB1 : Hid (Below w.heap.size w w1) := hLd
    clear hL hLd
    go_wp2_with fail
    go_at_call 6; refine (globq_awake _).mono ?_; rintro e w2 ⟨rfl, h2⟩
    have HF : Hid (Below w.heap.size w w2) := seq HB1.out h2
    clear h2
    go_wp2_with fail
    go_ret
    exact ⟨rfl, HF.out⟩
set_option maxHeartbeats 16000000 in
theorem globqOrder_ok (G : Int) (E : Option Addr) (mp cq : Nat) (pk : Nat → Nat) (w : World) (hG : 1 ≤ G ∧ G ≤ 60) (hmp : mp ≤ 60) (hB : SeesB8 w w.heap.size E mp pk) :
    Calls Try.prog 3 #[.int .i64 G, .slice E mp cq] w fun e w' => e = .returned (.bool true) ∧ Below w.heap.size w w' := by
  obtain ⟨n, hn⟩ : ∃ n : Nat, (n : Int) = 287 + 2 * G := ⟨(287 + 2 * G).toNat, by omega⟩
  have hL := lay_some 1 1 G none 0 0 n (fun _ => 0) (fun _ => 0) w (by omega) ⟨⟨by omega⟩, by omega, by omega, by omega⟩ (by omega) (fun h => absurd h (by omega)) (fun i h => absurd h (by omega))
  have HN : Hid ((n : Int) = 287 + 2 * G) := hn
  have HN6 : Hid (n ≤ 1000000) := (by omega : n ≤ 1000000)
  have HGB : Hid (1 ≤ G ∧ G ≤ 60) := hG
  have HPB : Hid (SeesB8 w w.heap.size E mp pk) := hB
  have d3 : decide ((60 : Int) < (mp : Int)) = false := decide_eq_false (by omega)
  clear hn hB hG
  go_enter Try.func3, Try.ntmps3
  go_wp2_with fail
  go_at_call 5; refine hL.mono ?_; rintro e w1 ⟨cl, A, A', cap, cap', c, b, c', b', rfl, hLd⟩
  have HG0 : Hid (GoOn w w1 w1.heap.size A cap c b n cl (fresh (fun _ => 0)) G (.slice none 0 0) (win G 0 0)) := ⟨hLd.two.m, hLd.lay, hLd.below, RI.TL.nil _ _, Nat.le_refl _, ⟨hLd.two.m.lt, hLd.two.m.bl, hLd.lay.lt⟩, ⟨hLd.up.2.1, hLd.up.2.2.1, hLd.below.size⟩, lay_ne hLd.lay (by decide) hLd.two.m (by have := HN.out; have := HGB.out; omega)⟩
  have HQ0 : Hid (Qu G (fresh (fun _ => 0)) (win G 0 0) ∧ Low (fresh (fun _ => 0)) (20 * ((0 : Nat) : Int)) ∧ ((0 : Nat) : Int) ≤ G ∧ (0 + 0) % G.toNat = 0) := ⟨qu_start (fun _ => rfl), low_fresh _, by have := HGB.out; omega, Nat.zero_mod _⟩
  generalize w1.heap.size = B0 at HG0
  clear hL hLd
  go_wp2_with fail
  go_loopw [9, 10, 11] (fun vv nn i wr => ∃ (j : Nat) (v : Value) (s : St) (a k nx : Nat), v = vv ∧ nn = .int .i64 (nx : Int) ∧ j ≤ mp ∧ i = .int .i64 j ∧ Hid (GoOn w wr B0 A cap c b n cl s G v (win G a k)) ∧ Hid (Qu G s (win G a k) ∧ Low s (20 * (j : Int)) ∧ (k : Int) ≤ G ∧ (a + k) % G.toNat = nx)) (fun _ _ i _ => mp - (intOf i).toNat)
  case atStart => exact ⟨0, _, fresh (fun _ => 0), 0, 0, 0, rfl, rfl, Nat.zero_le _, rfl, HG0, HQ0⟩
  case round =>
    clear HG0 HQ0
    obtain ⟨j, v, s, a, k, nx, rfl, rfl, hj, rfl, HG, HQ⟩ := hrel
    by_cases hlt : j < mp
    · obtain ⟨fb, foff, rfl, hfb, hcell⟩ := HPB.out (by omega)
      have hk1 : (j : Int) < (mp : Int) := by omega
      have hk0 : (0 : Int) ≤ (j : Int) := by omega
      obtain ⟨bt, hbt⟩ : ∃ bt, pk j = bt := ⟨_, rfl⟩
      have HPZ : Hid (∀ W, Below w.heap.size w W → W.cell? ⟨fb, foff + j, none⟩ = some (.int .u8 (bt : Int))) := fun W hW => by
        rw [← hbt]
        exact (hW.cell (p := ⟨fb, foff + j, none⟩) hfb).trans (hcell j hlt).1
      have hb255 : bt ≤ 255 := by rw [← hbt]; exact (hcell j hlt).2
      have pz := HPZ.out wr HG.out.below
      obtain ⟨m8, hm8⟩ : ∃ m8, bt % 8 = m8 := ⟨_, rfl⟩
      have HM8 : Hid (m8 ≤ 7) := (by omega : m8 ≤ 7)
      have HR8 : Hid (Int.tmod (bt : Int) 8 = (m8 : Int) ∧ IntKind.i64.wrap (m8 : Int) = (m8 : Int)) := ⟨by rw [← hm8]; exact go_m8 bt, go_w8 m8 HM8.out⟩
      obtain ⟨z2, hz2⟩ : ∃ z2, bt % 2 = z2 := ⟨_, rfl⟩
      have HZZ : Hid (z2 = 0 ∨ z2 = 1) := (by omega : z2 = 0 ∨ z2 = 1)
      have HR1 : Hid (Int.tmod (bt : Int) 2 = (z2 : Int)) := (by rw [← hz2]; exact go_m2 bt : Int.tmod (bt : Int) 2 = (z2 : Int))
      obtain ⟨Av, capv, hvs⟩ := HG.out.row.shape
      rw [win_len] at hvs
      subst hvs
      have HLw : Hid (Low s (20 * (j : Int))) := HQ.out.2.1
      have HKB : Hid (k ≤ 60) := (by have := HQ.out.2.2.1; have := HGB.out; omega : k ≤ 60)
      have HJM : Hid (j < mp) := hlt
      clear hcell hb255 hbt hz2 hm8 hlt hj
      rcases HZZ.out with rfl | rfl
      · clear HZZ
        have HBR : Hid (B0 ≤ wr.heap.size ∧ ∀ z ∈ rowB (.slice Av k capv), z < wr.heap.size) := ⟨HG.out.bb, fun z hz => (HG.out.row.up z hz).2⟩
        have HF0 : Hid (RI.TL wr wr.heap.size (.slice none 0 0) (win G (a + k) 0)) := RI.TL.nil _ _
        have HG0 := HG
        have HKQ0 : Hid (((k + 0 : Nat) : Int) ≤ G) := HQ.out.2.2.1
        have HX00 : Hid ((a + (k + 0)) % G.toNat = nx) := HQ.out.2.2.2
        obtain ⟨B1, hB1⟩ : ∃ B1, wr.heap.size = B1 := ⟨_, rfl⟩
        have HB10 : Hid (B1 ≤ wr.heap.size) := Nat.le_of_eq hB1.symm
        rw [hB1] at HBR HF0
        clear hB1
        clear HG
        have r1 := HR1.out
        go_wp2_with fail
        clear r1 pz
        go_loopw [10, 12, 13] (fun nn ff kk wi => ∃ (q x0 : Nat) (f : Value), f = ff ∧ nn = .int .i64 (x0 : Int) ∧ q ≤ m8 ∧ kk = .int .i64 q ∧ Hid (GoOn w wi B0 A cap c b n cl s G (.slice Av k capv) (win G a k)) ∧ Hid (RI.TL wi B1 f (win G (a + k) q)) ∧ Hid (B1 ≤ wi.heap.size) ∧ Hid (((k + q : Nat) : Int) ≤ G) ∧ Hid ((a + (k + q)) % G.toNat = x0)) (fun _ _ kk _ => m8 - (intOf kk).toNat)
        case atStart => exact ⟨0, nx, _, rfl, rfl, Nat.zero_le _, rfl, HG0, HF0, HB10, HKQ0, HX00⟩
        case round =>
          clear HG0 HF0 HKQ0 HB10 HX00
          obtain ⟨q, x0, f, rfl, rfl, hq, rfl, HG, HF, HB1, HKQ, HX0⟩ := hrel
          obtain ⟨Af, capf, hfs⟩ := HF.out.shape
          rw [win_len] at hfs
          subst hfs
          have hm7 := HM8.out
          have hk60 := HKB.out
          have hw0 : wrap64 ((k : Int) + (q : Int)) = (k : Int) + (q : Int) := by unfold wrap64; omega
          have HQW : Hid (wrap64 ((q : Int) + 1) = (q : Int) + 1) := (by unfold wrap64; omega : wrap64 ((q : Int) + 1) = (q : Int) + 1)
          have hq0 : (0 : Int) ≤ (q : Int) := by omega
          by_cases hq8 : q < m8
          · have hq1 : (q : Int) < (m8 : Int) := by omega
            have HQ8 : Hid (q < m8) := hq8
            by_cases hfl : (k : Int) + (q : Int) < G
            · obtain ⟨x, hx⟩ : ∃ x : Nat, x0 = x := ⟨_, rfl⟩
              subst hx
              have hx := HX0.out
              obtain ⟨y, hy⟩ : ∃ y : Nat, (a + (k + (q + 1))) % G.toNat = y := ⟨_, rfl⟩
              have HXY : Hid (x0 < 60 ∧ y < 60) := (by
                have hg := HGB.out
                have h1 := Nat.mod_lt (a + (k + q)) (y := G.toNat) (by omega)
                have h2 := Nat.mod_lt (a + (k + (q + 1))) (y := G.toNat) (by omega)
                omega : x0 < 60 ∧ y < 60)
              have hx1 : wrap64 ((x0 : Int) + 1) = (x0 : Int) + 1 := by have := HXY.out; unfold wrap64; omega
              have hy1 : Int.tmod ((x0 : Int) + 1) G = (y : Int) := by
                have h := go_next HGB.out.1 a (k + q)
                rw [hx] at h
                rw [h, ← hy]; rfl
              have hy2 : wrap64 (y : Int) = (y : Int) := by have := HXY.out; unfold wrap64; omega
              have hg0 : (G == 0) = false := by have := HGB.out; simp; omega
              have hg1 : G ≠ 0 := by have := HGB.out; omega
              have HW1 : Hid (win G (a + k) q ++ [(x0 : Int)] = win G (a + k) (q + 1)) := (by rw [win_succ, Nat.add_assoc, hx] : win G (a + k) q ++ [(x0 : Int)] = win G (a + k) (q + 1))
              have HNX : Hid ((a + (k + (q + 1))) % G.toNat = y) := hy
              have HKQ1 : Hid (((k + (q + 1) : Nat) : Int) ≤ G) := (by omega : ((k + (q + 1) : Nat) : Int) ≤ G)
              have HTA : Hid (∀ o, RI.TL (wr.alloc o) B1 (.slice Af q capf) (win G (a + k) q)) := fun o => HF.out.below ((Below.refl _ _).alloc (Nat.le_refl _) o)
              have HSZ : Hid (B1 ≤ wr.heap.size ∧ (win G (a + k) q).length ≤ 1000000) := ⟨HB1.out, by rw [win_len]; omega⟩
              have pz := HPZ.out wr HG.out.below
              have r8 := HR8.out.1
              have r9 := HR8.out.2
              clear hx hy hm7 hk60 HXY
              go_wp2_with (at_builtin; refine RI.tl_append _ rfl _ _ rfl rfl (HTA.out _) ⟨wr.heap.size, 0, none⟩ 1 (x0 : Int) rfl (cell_one_new _ _ _) HSZ.out.2 (by have := HSZ.out.1; simp; omega) ?_; intro v2 w5 hT5 hBu5 hup5)
              have hBu : But (rowB (.slice Af q capf)) wr w5 := ((But.refl (rowB (.slice Af q capf)) wr).alloc _).trans hBu5
              rw [HW1.out] at hT5
              have HG5 : Hid (GoOn w w5 B0 A cap c b n cl s G (.slice Av k capv) (win G a k)) := HG.out.aside HBR.out HF.out hBu
              have HF5 : Hid (RI.TL w5 B1 v2 (win G (a + k) (q + 1))) := hT5
              have HB5 : Hid (B1 ≤ w5.heap.size) := Nat.le_trans HB1.out hBu.size
              clear hT5 hBu5 hup5 hBu HTA HSZ HG HF HW1 HB1 r8 r9 pz
              go_wp2_with fail
              clear hw0 hx1 hy1 hy2 hg0
              have hm9 := HM8.out
              have hq9 := HQ8.out
              go_roundw
              case rel => exact ⟨q + 1, y, v2, rfl, rfl, HQ8.out, by rw [HQW.out]; rfl, HG5, HF5, HB5, HKQ1, HNX⟩
              case measure =>
                rw [go_int, go_int, HQW.out]
                exact go_meas m8 q HQ8.out
            · clear hm7 hk60
              have hq7 := HM8.out
              have hN := go_new wr cl G (.slice Af q capf) (win G (a + k) q) HF.out.sees (by rw [win_len]; have := HM8.out; omega) HG.out.lay (by have := HGB.out; omega)
              have HGL : Hid _ := HG.out
              have HRW : Hid (∀ (w3 : World) (x : Nat) (L0 : List Nat), Below wr.heap.size wr w3 → qpI 0 cl (quGl G) (win G (a + k) q) w3 x (qpStart (win G (a + k) q)) L0 → (∀ z ∈ L0, wr.heap.size ≤ z) → Solo (qpI 0 cl (quGl G) (win G (a + k) q)) (((Rd.lay cl 1 1 G).and (Rd.tl B0 (.slice Av k capv) (win G a k))).and (Rd.tl B1 (.slice Af q capf) (win G (a + k) q))) w w3 A cap c b n s x (qpStart (win G (a + k) q)) L0 ∧ B0 ≤ w3.heap.size) := fun w3 x L0 h1 h2 h3 => ⟨HG.out.rows HF.out HBR.out.1 h1 h2 h3, Nat.le_trans HG.out.bb h1.size⟩
              have hq7 := HM8.out
              have pz := HPZ.out wr HG.out.below
              have r8 := HR8.out.1
              have r9 := HR8.out.2
              clear HG HF
              go_wp2_with fail
              clear pz r8 r9
              go_at_call 7; refine hN.mono ?_; rintro e w3 ⟨x, L0, rfl, hi0, hb3, hu1⟩
              have HZ0 : Hid (Solo (qpI 0 cl (quGl G) (win G (a + k) q)) (((Rd.lay cl 1 1 G).and (Rd.tl B0 (.slice Av k capv) (win G a k))).and (Rd.tl B1 (.slice Af q capf) (win G (a + k) q))) w w3 A cap c b n ((qpPM (quGl G) (win G (a + k) q)).steps 0 n 0 (qpStart (win G (a + k) q), s)).2 x ((qpPM (quGl G) (win G (a + k) q)).steps 0 n 0 (qpStart (win G (a + k) q), s)).1 L0) := (HRW.out w3 x L0 hb3 hi0 hu1).1
              have HB3 : Hid (B0 ≤ w3.heap.size) := (HRW.out w3 x L0 hb3 hi0 hu1).2
              have HLO : Hid (∀ e : Nat, e ≤ 20 → Low ((qpPM (quGl G) (win G (a + k) q)).steps 0 n e (qpStart (win G (a + k) q), s)).2 1000000) := fun e he => (PM.steps_low (qpPM (quGl G) (win G (a + k) q)) 0 n e (qpStart (win G (a + k) q), s) HLw.out).more (by have := HJM.out; omega)
              have HGD : Hid ((qpI 0 cl (quGl G) (win G (a + k) q)).Good (qpPM (quGl G) (win G (a + k) q)) ∧ Steps (qpPM (quGl G) (win G (a + k) q)) (qpI 0 cl (quGl G) (win G (a + k) q)) (Rd.lay cl 1 1 G) 8 0) := ⟨qp_good 0 1 1 G cl (win G (a + k) q) (by omega) (by omega) (by have := HGB.out; omega) (by rw [win_len]; omega), qp_steps 0 1 1 G cl (win G (a + k) q) (by omega) (by omega) (by have := HGB.out; omega) (by rw [win_len]; omega) stepby_qput⟩
              clear hN hi0 hb3 hu1 HRW
              go_wp2_with fail
              go_loopw [15] (fun kk wi => ∃ (e : Nat) (L : List Nat), e ≤ 20 ∧ kk = .int .i64 e ∧ Hid (Solo (qpI 0 cl (quGl G) (win G (a + k) q)) (((Rd.lay cl 1 1 G).and (Rd.tl B0 (.slice Av k capv) (win G a k))).and (Rd.tl B1 (.slice Af q capf) (win G (a + k) q))) w wi A cap c b n ((qpPM (quGl G) (win G (a + k) q)).steps 0 n e (qpStart (win G (a + k) q), s)).2 x ((qpPM (quGl G) (win G (a + k) q)).steps 0 n e (qpStart (win G (a + k) q), s)).1 L) ∧ Hid (B0 ≤ wi.heap.size)) (fun kk _ => 20 - (intOf kk).toNat)
              case atStart => exact ⟨0, L0, by omega, rfl, HZ0, HB3⟩
              case round =>
                clear HZ0 HB3
                obtain ⟨e, L, hq, rfl, HS, HBB⟩ := hrel
                by_cases hq9 : e < 20
                · have hSt := HS.out.stepUp HGD.out.1 HGD.out.2 (fun Y (h : (((Rd.lay cl 1 1 G).and (Rd.tl B0 (.slice Av k capv) (win G a k))).and (Rd.tl B1 (.slice Af q capf) (win G (a + k) q))).P Y) => h.1.1) (fun z hz => List.mem_append_left _ (List.mem_append_left _ hz)) HN6.out (HLO.out e hq)
                  rw [show (qpPM (quGl G) (win G (a + k) q)).goS 0 n ((qpPM (quGl G) (win G (a + k) q)).steps 0 n e (qpStart (win G (a + k) q), s)).1 ((qpPM (quGl G) (win G (a + k) q)).steps 0 n e (qpStart (win G (a + k) q), s)).2 = ((qpPM (quGl G) (win G (a + k) q)).steps 0 n (e + 1) (qpStart (win G (a + k) q), s)).2 by rw [PM.steps_succ], show (qpPM (quGl G) (win G (a + k) q)).goT n ((qpPM (quGl G) (win G (a + k) q)).steps 0 n e (qpStart (win G (a + k) q), s)).1 ((qpPM (quGl G) (win G (a + k) q)).steps 0 n e (qpStart (win G (a + k) q), s)).2 = ((qpPM (quGl G) (win G (a + k) q)).steps 0 n (e + 1) (qpStart (win G (a + k) q), s)).1 by rw [PM.steps_succ]] at hSt
                  have hq1 : (e : Int) < 20 := by omega
                  have hq0 : (0 : Int) ≤ (e : Int) := by omega
                  clear HS
                  go_wp2_with fail
                  go_at_call 8; refine hSt.mono ?_; rintro e w4 ⟨rfl, hsz', L', hS'⟩
                  have HS' : Hid _ := hS'
                  have HBB' : Hid (B0 ≤ w4.heap.size) := Nat.le_trans HBB.out hsz'
                  clear hSt hS'
                  go_wp2_with fail
                  go_roundw
                  case rel => exact ⟨_, L', by omega, by go_num, HS', HBB'⟩
                  case measure => simp [intOf]; omega
                · obtain rfl : e = 20 := by omega
                  clear HLO
                  rw [show ((20 : Nat) : Int) = 20 from rfl]
                  have HG : Hid (GoOn w wr B0 A cap c b n cl ((qpPM (quGl G) (win G (a + k) q)).steps 0 n 20 (qpStart (win G (a + k) q), s)).2 G (.slice Av k capv) (win G a k)) := HGL.out.after (t := qpStart (win G (a + k) q)) (I := qpI 0 cl (quGl G) (win G (a + k) q)) (x := x) (L := L) HS.out.mem HS.out.rd.1.1 HS.out.rd.1.2 HS.out.below HBB.out
                  have HF : Hid (RI.TL wr B1 (.slice Af q capf) (win G (a + k) q)) := HS.out.rd.2
                  have HQ2 : Hid (Qu G ((qpPM (quGl G) (win G (a + k) q)).steps 0 n 20 (qpStart (win G (a + k) q), s)).2 (win G a (k + q)) ∧ Low ((qpPM (quGl G) (win G (a + k) q)).steps 0 n 20 (qpStart (win G (a + k) q), s)).2 (20 * ((j + 1 : Nat) : Int)) ∧ ((k + q : Nat) : Int) ≤ G ∧ (a + (k + q)) % G.toNat = x0) := ⟨by
                    have h := qu_put20 (b := (win G (a + k) q)) HQ.out.1 HN.out HGB.out (by rw [win_len]; omega) (by rw [win_app]; exact win_nd HKQ.out) (win_rg HGB.out.1)
                    rw [win_app] at h
                    exact h, by have h := PM.steps_low (qpPM (quGl G) (win G (a + k) q)) 0 n 20 (qpStart (win G (a + k) q), s) HQ.out.2.1; rw [show (20 * ((j + 1 : Nat) : Int)) = 20 * (j : Int) + ((20 : Nat) : Int) by omega]; exact h, HKQ.out, HX0.out⟩
                  have HDJ : Hid (∀ z ∈ rowB (.slice Av k capv), z ∉ rowB (.slice Af q capf)) := fun z hz hm => by have h1 := HBR.out.2 z hz; have h2 := (HF.out.up z hm).1; omega
                  clear HS HBB HQ HLw HGL HGD
                  generalize ((qpPM (quGl G) (win G (a + k) q)).steps 0 n 20 (qpStart (win G (a + k) q), s)).2 = s2 at *
                  go_wp2_with fail
                  go_loopw [9, 16] (fun vv kk wi => ∃ (e : Nat) (v' : Value), v' = vv ∧ e ≤ q ∧ kk = .int .i64 e ∧ Hid (GoOn w wi B0 A cap c b n cl s2 G v' (win G a (k + e))) ∧ Hid (RI.TL wi B1 (.slice Af q capf) (win G (a + k) q)) ∧ Hid (∀ z ∈ rowB v', z ∉ rowB (.slice Af q capf))) (fun _ kk _ => q - (intOf kk).toNat)
                  case atStart => exact ⟨0, _, rfl, Nat.zero_le _, rfl, HG, HF, HDJ⟩
                  case round =>
                    clear HG HF HDJ
                    obtain ⟨e, v', rfl, he, rfl, HG, HF, HDJ⟩ := hrel
                    obtain ⟨Aw, capw, hvs⟩ := HG.out.row.shape
                    obtain ⟨k2, hk2⟩ : ∃ k2 : Nat, k2 = k + e := ⟨_, rfl⟩
                    rw [win_len, ← hk2] at hvs
                    subst hvs
                    by_cases heq : e < q
                    · subst hk2
                      obtain ⟨fb2, foff2, rfl, hfc⟩ := HF.out.at' (by rw [win_len]; omega)
                      have hce := hfc e (by rw [win_len]; exact heq)
                      rw [win_at G (a + k) q e heq] at hce
                      obtain ⟨y, hy⟩ : ∃ y : Nat, (a + k + e) % G.toNat = y := ⟨_, rfl⟩
                      rw [hy] at hce
                      have HW1 : Hid (win G a (k + e) ++ [(y : Int)] = win G a (k + (e + 1))) := (by rw [show k + (e + 1) = k + e + 1 by omega, win_succ, ← hy, Nat.add_assoc] : win G a (k + e) ++ [(y : Int)] = win G a (k + (e + 1)))
                      have he0 : (0 : Int) ≤ (e : Int) := by omega
                      have he1 : (e : Int) < (q : Int) := by omega
                      have HTA : Hid (∀ o, RI.TL (wr.alloc o) B0 (.slice Aw (k + e) capw) (win G a (k + e))) := fun o => HG.out.row.below ((Below.refl _ _).alloc (Nat.le_refl _) o)
                      have HSZ : Hid (B0 ≤ wr.heap.size ∧ (win G a (k + e)).length ≤ 1000000) := ⟨HG.out.bb, by rw [win_len]; have := HKB.out; omega⟩
                      clear hfc hy
                      go_wp2_with (at_builtin; refine RI.tl_append _ rfl _ _ rfl rfl (HTA.out _) ⟨wr.heap.size, 0, none⟩ 1 (y : Int) rfl (cell_one_new _ _ _) HSZ.out.2 (by have := HSZ.out.1; simp; omega) ?_; intro v2 w5 hT5 hBu5 hup5)
                      have hBu : But (rowB (.slice Aw (k + e) capw)) wr w5 := ((But.refl (rowB (.slice Aw (k + e) capw)) wr).alloc _).trans hBu5
                      rw [HW1.out] at hT5
                      have HG5 : Hid (GoOn w w5 B0 A cap c b n cl s2 G v2 (win G a (k + (e + 1)))) := HG.out.grow hBu hT5
                      have HF5 : Hid (RI.TL w5 B1 (.slice (some ⟨fb2, foff2, none⟩) q capf) (win G (a + k) q)) := HF.out.keep hBu (fun z hz hm => HDJ.out z hm hz)
                      have HDJ5 : Hid (∀ z ∈ rowB v2, z ∉ rowB (.slice (some ⟨fb2, foff2, none⟩) q capf)) := fun z hz hm => by
                        rcases hup5 z hz with h1 | h1
                        · exact HDJ.out z h1 hm
                        · have h2 := (HF.out.up z hm).2; simp at h1; omega
                      clear hT5 hBu5 hup5 hBu HTA HSZ HG HF HDJ hce HW1
                      go_wp2_with fail
                      go_roundw
                      case rel => exact ⟨e + 1, v2, rfl, by omega, by go_num, HG5, HF5, HDJ5⟩
                      case measure => simp [intOf]; omega
                    · obtain rfl : e = q := by omega
                      have HQ := HQ2
                      have heq2 : ¬ ((e : Int) < (e : Int)) := by omega
                      rw [← hk2] at HG HQ
                      clear HF HDJ HQ2 he heq hk2
                      have hLs := qlist_any wr A cap c b n cl s2 1 1 G HG.out.mem HN6.out HG.out.lay (by omega) (by omega) (by have := HGB.out; omega)
                      rw [show lsOf (fun g => peekT n s2 (wd (20 + 1 * 264 + 1 * 3) G 2 g 1)) G (peekT n s2 6) = (win G (a) (k2), true) from (HQ.out.1.list HN.out HGB.out.1).1] at hLs
                      have HP8 : Hid (peekT n s2 8 = ((k2 : Nat) : Int)) := (by have h := (HQ.out.1.list HN.out HGB.out.1).2; rw [win_len] at h; exact h : peekT n s2 8 = ((k2 : Nat) : Int))
                      have HKK : Hid (k2 ≤ 60) := (by have := HQ.out.2.2.1; have := HGB.out; omega : k2 ≤ 60)
                      have HGW : Hid _ := HG
                      clear HG
                      go_wp2_with fail
                      go_at_call 13; refine hLs.mono ?_; rintro e w5 ⟨vl, rfl, hv5, hb5⟩
                      have HVL : Hid (RI.SeesL w5 vl (win G (a) (k2))) := RI.IntsOn.sees ⟨hv5.own⟩
                      have HG5 : Hid _ := HGW.out.still hb5
                      have hPk := peek_any w5 A cap c b n s2 8 HG5.out.mem HN6.out
                      rw [HP8.out] at hPk
                      generalize decide ((0 : Int) ≤ 8 ∧ (8 : Int) < (n : Int)) = zz at hPk
                      clear hLs hv5 hb5 HGW
                      go_wp2_with fail
                      go_at_call 14; refine hPk.mono ?_; rintro e w9 ⟨rfl, rfl⟩
                      have hS := RI.lsame_any w5 vl _ (win G (a) (k2)) (by rw [win_len]; have := HKK.out; omega) HVL.out HG5.out.row.sees
                      have hw1 : IntKind.u64.wrap ((k2 : Nat) : Int) = ((k2 : Nat) : Int) := wrap_u64 (by have := HKK.out; omega)
                      have hyy : (((k2 : Nat) : Int) == ((k2 : Nat) : Int)) = true := by simp
                      have hyn : (((k2 : Nat) : Int) != ((k2 : Nat) : Int)) = false := by simp
                      clear hPk HVL
                      go_wp2_with fail
                      go_at_call 15; refine hS.mono ?_; rintro e w10 ⟨rfl, hb10⟩
                      have HG10 : Hid _ := HG5.out.still hb10
                      clear hS hb10 HG5
                      have hjm := HJM.out
                      go_wp2_with fail
                      go_roundw
                      case rel => exact ⟨j + 1, _, s2, a, k2, x0, rfl, rfl, by omega, by go_num, HG10, HQ⟩
                      case measure => simp [intOf]; omega
          · clear hm7 hk60
            have hq9 : ¬ ((q : Int) < (m8 : Int)) := by omega
            have hN := go_new wr cl G (.slice Af q capf) (win G (a + k) q) HF.out.sees (by rw [win_len]; have := HM8.out; omega) HG.out.lay (by have := HGB.out; omega)
            have HGL : Hid _ := HG.out
            have HRW : Hid (∀ (w3 : World) (x : Nat) (L0 : List Nat), Below wr.heap.size wr w3 → qpI 0 cl (quGl G) (win G (a + k) q) w3 x (qpStart (win G (a + k) q)) L0 → (∀ z ∈ L0, wr.heap.size ≤ z) → Solo (qpI 0 cl (quGl G) (win G (a + k) q)) (((Rd.lay cl 1 1 G).and (Rd.tl B0 (.slice Av k capv) (win G a k))).and (Rd.tl B1 (.slice Af q capf) (win G (a + k) q))) w w3 A cap c b n s x (qpStart (win G (a + k) q)) L0 ∧ B0 ≤ w3.heap.size) := fun w3 x L0 h1 h2 h3 => ⟨HG.out.rows HF.out HBR.out.1 h1 h2 h3, Nat.le_trans HG.out.bb h1.size⟩
            have hq7 := HM8.out
            have pz := HPZ.out wr HG.out.below
            have r8 := HR8.out.1
            have r9 := HR8.out.2
            clear HG HF
            go_wp2_with fail
            clear pz r8 r9
            go_at_call 7; refine hN.mono ?_; rintro e w3 ⟨x, L0, rfl, hi0, hb3, hu1⟩
            have HZ0 : Hid (Solo (qpI 0 cl (quGl G) (win G (a + k) q)) (((Rd.lay cl 1 1 G).and (Rd.tl B0 (.slice Av k capv) (win G a k))).and (Rd.tl B1 (.slice Af q capf) (win G (a + k) q))) w w3 A cap c b n ((qpPM (quGl G) (win G (a + k) q)).steps 0 n 0 (qpStart (win G (a + k) q), s)).2 x ((qpPM (quGl G) (win G (a + k) q)).steps 0 n 0 (qpStart (win G (a + k) q), s)).1 L0) := (HRW.out w3 x L0 hb3 hi0 hu1).1
            have HB3 : Hid (B0 ≤ w3.heap.size) := (HRW.out w3 x L0 hb3 hi0 hu1).2
            have HLO : Hid (∀ e : Nat, e ≤ 20 → Low ((qpPM (quGl G) (win G (a + k) q)).steps 0 n e (qpStart (win G (a + k) q), s)).2 1000000) := fun e he => (PM.steps_low (qpPM (quGl G) (win G (a + k) q)) 0 n e (qpStart (win G (a + k) q), s) HLw.out).more (by have := HJM.out; omega)
            have HGD : Hid ((qpI 0 cl (quGl G) (win G (a + k) q)).Good (qpPM (quGl G) (win G (a + k) q)) ∧ Steps (qpPM (quGl G) (win G (a + k) q)) (qpI 0 cl (quGl G) (win G (a + k) q)) (Rd.lay cl 1 1 G) 8 0) := ⟨qp_good 0 1 1 G cl (win G (a + k) q) (by omega) (by omega) (by have := HGB.out; omega) (by rw [win_len]; omega), qp_steps 0 1 1 G cl (win G (a + k) q) (by omega) (by omega) (by have := HGB.out; omega) (by rw [win_len]; omega) stepby_qput⟩
            clear hN hi0 hb3 hu1 HRW
            go_wp2_with fail
            go_loopw [15] (fun kk wi => ∃ (e : Nat) (L : List Nat), e ≤ 20 ∧ kk = .int .i64 e ∧ Hid (Solo (qpI 0 cl (quGl G) (win G (a + k) q)) (((Rd.lay cl 1 1 G).and (Rd.tl B0 (.slice Av k capv) (win G a k))).and (Rd.tl B1 (.slice Af q capf) (win G (a + k) q))) w wi A cap c b n ((qpPM (quGl G) (win G (a + k) q)).steps 0 n e (qpStart (win G (a + k) q), s)).2 x ((qpPM (quGl G) (win G (a + k) q)).steps 0 n e (qpStart (win G (a + k) q), s)).1 L) ∧ Hid (B0 ≤ wi.heap.size)) (fun kk _ => 20 - (intOf kk).toNat)
            case atStart => exact ⟨0, L0, by omega, rfl, HZ0, HB3⟩
            case round =>
              clear HZ0 HB3
              obtain ⟨e, L, hq, rfl, HS, HBB⟩ := hrel
              by_cases hq9 : e < 20
              · have hSt := HS.out.stepUp HGD.out.1 HGD.out.2 (fun Y (h : (((Rd.lay cl 1 1 G).and (Rd.tl B0 (.slice Av k capv) (win G a k))).and (Rd.tl B1 (.slice Af q capf) (win G (a + k) q))).P Y) => h.1.1) (fun z hz => List.mem_append_left _ (List.mem_append_left _ hz)) HN6.out (HLO.out e hq)
                rw [show (qpPM (quGl G) (win G (a + k) q)).goS 0 n ((qpPM (quGl G) (win G (a + k) q)).steps 0 n e (qpStart (win G (a + k) q), s)).1 ((qpPM (quGl G) (win G (a + k) q)).steps 0 n e (qpStart (win G (a + k) q), s)).2 = ((qpPM (quGl G) (win G (a + k) q)).steps 0 n (e + 1) (qpStart (win G (a + k) q), s)).2 by rw [PM.steps_succ], show (qpPM (quGl G) (win G (a + k) q)).goT n ((qpPM (quGl G) (win G (a + k) q)).steps 0 n e (qpStart (win G (a + k) q), s)).1 ((qpPM (quGl G) (win G (a + k) q)).steps 0 n e (qpStart (win G (a + k) q), s)).2 = ((qpPM (quGl G) (win G (a + k) q)).steps 0 n (e + 1) (qpStart (win G (a + k) q), s)).1 by rw [PM.steps_succ]] at hSt
                have hq1 : (e : Int) < 20 := by omega
                have hq0 : (0 : Int) ≤ (e : Int) := by omega
                clear HS
                go_wp2_with fail
                go_at_call 8; refine hSt.mono ?_; rintro e w4 ⟨rfl, hsz', L', hS'⟩
                have HS' : Hid _ := hS'
                have HBB' : Hid (B0 ≤ w4.heap.size) := Nat.le_trans HBB.out hsz'
                clear hSt hS'
                go_wp2_with fail
                go_roundw
                case rel => exact ⟨_, L', by omega, by go_num, HS', HBB'⟩
                case measure => simp [intOf]; omega
              · obtain rfl : e = 20 := by omega
                clear HLO
                rw [show ((20 : Nat) : Int) = 20 from rfl]
                have HG : Hid (GoOn w wr B0 A cap c b n cl ((qpPM (quGl G) (win G (a + k) q)).steps 0 n 20 (qpStart (win G (a + k) q), s)).2 G (.slice Av k capv) (win G a k)) := HGL.out.after (t := qpStart (win G (a + k) q)) (I := qpI 0 cl (quGl G) (win G (a + k) q)) (x := x) (L := L) HS.out.mem HS.out.rd.1.1 HS.out.rd.1.2 HS.out.below HBB.out
                have HF : Hid (RI.TL wr B1 (.slice Af q capf) (win G (a + k) q)) := HS.out.rd.2
                have HQ2 : Hid (Qu G ((qpPM (quGl G) (win G (a + k) q)).steps 0 n 20 (qpStart (win G (a + k) q), s)).2 (win G a (k + q)) ∧ Low ((qpPM (quGl G) (win G (a + k) q)).steps 0 n 20 (qpStart (win G (a + k) q), s)).2 (20 * ((j + 1 : Nat) : Int)) ∧ ((k + q : Nat) : Int) ≤ G ∧ (a + (k + q)) % G.toNat = x0) := ⟨by
                  have h := qu_put20 (b := (win G (a + k) q)) HQ.out.1 HN.out HGB.out (by rw [win_len]; omega) (by rw [win_app]; exact win_nd HKQ.out) (win_rg HGB.out.1)
                  rw [win_app] at h
                  exact h, by have h := PM.steps_low (qpPM (quGl G) (win G (a + k) q)) 0 n 20 (qpStart (win G (a + k) q), s) HQ.out.2.1; rw [show (20 * ((j + 1 : Nat) : Int)) = 20 * (j : Int) + ((20 : Nat) : Int) by omega]; exact h, HKQ.out, HX0.out⟩
                have HDJ : Hid (∀ z ∈ rowB (.slice Av k capv), z ∉ rowB (.slice Af q capf)) := fun z hz hm => by have h1 := HBR.out.2 z hz; have h2 := (HF.out.up z hm).1; omega
                clear HS HBB HQ HLw HGL HGD
                generalize ((qpPM (quGl G) (win G (a + k) q)).steps 0 n 20 (qpStart (win G (a + k) q), s)).2 = s2 at *
                go_wp2_with fail
                go_loopw [9, 16] (fun vv kk wi => ∃ (e : Nat) (v' : Value), v' = vv ∧ e ≤ q ∧ kk = .int .i64 e ∧ Hid (GoOn w wi B0 A cap c b n cl s2 G v' (win G a (k + e))) ∧ Hid (RI.TL wi B1 (.slice Af q capf) (win G (a + k) q)) ∧ Hid (∀ z ∈ rowB v', z ∉ rowB (.slice Af q capf))) (fun _ kk _ => q - (intOf kk).toNat)
                case atStart => exact ⟨0, _, rfl, Nat.zero_le _, rfl, HG, HF, HDJ⟩
                case round =>
                  clear HG HF HDJ
                  obtain ⟨e, v', rfl, he, rfl, HG, HF, HDJ⟩ := hrel
                  obtain ⟨Aw, capw, hvs⟩ := HG.out.row.shape
                  obtain ⟨k2, hk2⟩ : ∃ k2 : Nat, k2 = k + e := ⟨_, rfl⟩
                  rw [win_len, ← hk2] at hvs
                  subst hvs
                  by_cases heq : e < q
                  · subst hk2
                    obtain ⟨fb2, foff2, rfl, hfc⟩ := HF.out.at' (by rw [win_len]; omega)
                    have hce := hfc e (by rw [win_len]; exact heq)
                    rw [win_at G (a + k) q e heq] at hce
                    obtain ⟨y, hy⟩ : ∃ y : Nat, (a + k + e) % G.toNat = y := ⟨_, rfl⟩
                    rw [hy] at hce
                    have HW1 : Hid (win G a (k + e) ++ [(y : Int)] = win G a (k + (e + 1))) := (by rw [show k + (e + 1) = k + e + 1 by omega, win_succ, ← hy, Nat.add_assoc] : win G a (k + e) ++ [(y : Int)] = win G a (k + (e + 1)))
                    have he0 : (0 : Int) ≤ (e : Int) := by omega
                    have he1 : (e : Int) < (q : Int) := by omega
                    have HTA : Hid (∀ o, RI.TL (wr.alloc o) B0 (.slice Aw (k + e) capw) (win G a (k + e))) := fun o => HG.out.row.below ((Below.refl _ _).alloc (Nat.le_refl _) o)
                    have HSZ : Hid (B0 ≤ wr.heap.size ∧ (win G a (k + e)).length ≤ 1000000) := ⟨HG.out.bb, by rw [win_len]; have := HKB.out; omega⟩
                    clear hfc hy
                    go_wp2_with (at_builtin; refine RI.tl_append _ rfl _ _ rfl rfl (HTA.out _) ⟨wr.heap.size, 0, none⟩ 1 (y : Int) rfl (cell_one_new _ _ _) HSZ.out.2 (by have := HSZ.out.1; simp; omega) ?_; intro v2 w5 hT5 hBu5 hup5)
                    have hBu : But (rowB (.slice Aw (k + e) capw)) wr w5 := ((But.refl (rowB (.slice Aw (k + e) capw)) wr).alloc _).trans hBu5
                    rw [HW1.out] at hT5
                    have HG5 : Hid (GoOn w w5 B0 A cap c b n cl s2 G v2 (win G a (k + (e + 1)))) := HG.out.grow hBu hT5
                    have HF5 : Hid (RI.TL w5 B1 (.slice (some ⟨fb2, foff2, none⟩) q capf) (win G (a + k) q)) := HF.out.keep hBu (fun z hz hm => HDJ.out z hm hz)
                    have HDJ5 : Hid (∀ z ∈ rowB v2, z ∉ rowB (.slice (some ⟨fb2, foff2, none⟩) q capf)) := fun z hz hm => by
                      rcases hup5 z hz with h1 | h1
                      · exact HDJ.out z h1 hm
                      · have h2 := (HF.out.up z hm).2; simp at h1; omega
                    clear hT5 hBu5 hup5 hBu HTA HSZ HG HF HDJ hce HW1
                    go_wp2_with fail
                    go_roundw
                    case rel => exact ⟨e + 1, v2, rfl, by omega, by go_num, HG5, HF5, HDJ5⟩
                    case measure => simp [intOf]; omega
                  · obtain rfl : e = q := by omega
                    have HQ := HQ2
                    have heq2 : ¬ ((e : Int) < (e : Int)) := by omega
                    rw [← hk2] at HG HQ
                    clear HF HDJ HQ2 he heq hk2
                    have hLs := qlist_any wr A cap c b n cl s2 1 1 G HG.out.mem HN6.out HG.out.lay (by omega) (by omega) (by have := HGB.out; omega)
                    rw [show lsOf (fun g => peekT n s2 (wd (20 + 1 * 264 + 1 * 3) G 2 g 1)) G (peekT n s2 6) = (win G (a) (k2), true) from (HQ.out.1.list HN.out HGB.out.1).1] at hLs
                    have HP8 : Hid (peekT n s2 8 = ((k2 : Nat) : Int)) := (by have h := (HQ.out.1.list HN.out HGB.out.1).2; rw [win_len] at h; exact h : peekT n s2 8 = ((k2 : Nat) : Int))
                    have HKK : Hid (k2 ≤ 60) := (by have := HQ.out.2.2.1; have := HGB.out; omega : k2 ≤ 60)
                    have HGW : Hid _ := HG
                    clear HG
                    go_wp2_with fail
                    go_at_call 13; refine hLs.mono ?_; rintro e w5 ⟨vl, rfl, hv5, hb5⟩
                    have HVL : Hid (RI.SeesL w5 vl (win G (a) (k2))) := RI.IntsOn.sees ⟨hv5.own⟩
                    have HG5 : Hid _ := HGW.out.still hb5
                    have hPk := peek_any w5 A cap c b n s2 8 HG5.out.mem HN6.out
                    rw [HP8.out] at hPk
                    generalize decide ((0 : Int) ≤ 8 ∧ (8 : Int) < (n : Int)) = zz at hPk
                    clear hLs hv5 hb5 HGW
                    go_wp2_with fail
                    go_at_call 14; refine hPk.mono ?_; rintro e w9 ⟨rfl, rfl⟩
                    have hS := RI.lsame_any w5 vl _ (win G (a) (k2)) (by rw [win_len]; have := HKK.out; omega) HVL.out HG5.out.row.sees
                    have hw1 : IntKind.u64.wrap ((k2 : Nat) : Int) = ((k2 : Nat) : Int) := wrap_u64 (by have := HKK.out; omega)
                    have hyy : (((k2 : Nat) : Int) == ((k2 : Nat) : Int)) = true := by simp
                    have hyn : (((k2 : Nat) : Int) != ((k2 : Nat) : Int)) = false := by simp
                    clear hPk HVL
                    go_wp2_with fail
                    go_at_call 15; refine hS.mono ?_; rintro e w10 ⟨rfl, hb10⟩
                    have HG10 : Hid _ := HG5.out.still hb10
                    clear hS hb10 HG5
                    have hjm := HJM.out
                    go_wp2_with fail
                    go_roundw
                    case rel => exact ⟨j + 1, _, s2, a, k2, x0, rfl, rfl, by omega, by go_num, HG10, HQ⟩
                    case measure => simp [intOf]; omega
      · clear HZZ
        have hN := pl_new wr cl 0 (quGl G)
        have HGL : Hid _ := HG.out
        have HRW : Hid (∀ (w3 : World) (x : Nat) (L0 : List Nat), Below wr.heap.size wr w3 → ((plFl 0 cl).I (plPM (quGl G))) w3 x .ld L0 → (∀ z ∈ L0, wr.heap.size ≤ z) → Solo ((plFl 0 cl).I (plPM (quGl G))) ((Rd.lay cl 1 1 G).and (Rd.tl B0 (.slice Av k capv) (win G a k))) w w3 A cap c b n s x .ld L0 ∧ B0 ≤ w3.heap.size) := fun w3 x L0 h1 h2 h3 => ⟨HG.out.solo h1 h2 h3, Nat.le_trans HG.out.bb h1.size⟩
        clear HG
        have r1 := HR1.out
        go_wp2_with fail
        clear r1 pz
        go_at_call 9; refine hN.mono ?_; rintro e w3 ⟨x, L0, rfl, hi0, hb3, hu1, -⟩
        have HZ0 : Hid (Solo ((plFl 0 cl).I (plPM (quGl G))) ((Rd.lay cl 1 1 G).and (Rd.tl B0 (.slice Av k capv) (win G a k))) w w3 A cap c b n ((plPM (quGl G)).steps 0 n 0 (PlT.ld, s)).2 x ((plPM (quGl G)).steps 0 n 0 (PlT.ld, s)).1 L0) := (HRW.out w3 x L0 hb3 hi0 hu1).1
        have HB3 : Hid (B0 ≤ w3.heap.size) := (HRW.out w3 x L0 hb3 hi0 hu1).2
        have HLO : Hid (∀ e : Nat, e ≤ 20 → Low ((plPM (quGl G)).steps 0 n e (PlT.ld, s)).2 1000000) := fun e he => (PM.steps_low (plPM (quGl G)) 0 n e (PlT.ld, s) HLw.out).more (by have := HJM.out; omega)
        have HGD : Hid (((plFl 0 cl).I (plPM (quGl G))).Good (plPM (quGl G)) ∧ Steps (plPM (quGl G)) ((plFl 0 cl).I (plPM (quGl G))) (Rd.lay cl 1 1 G) 10 0) := ⟨Fl.good (pl_laws 0 1 1 G cl (by omega) (by omega) (by have := HGB.out; omega)), Fl.steps (pl_laws 0 1 1 G cl (by omega) (by omega) (by have := HGB.out; omega)) stepby_qpull⟩
        clear hN hi0 hb3 hu1 HRW
        go_wp2_with fail
        go_loopw [18] (fun kk wi => ∃ (e : Nat) (L : List Nat), e ≤ 20 ∧ kk = .int .i64 e ∧ Hid (Solo ((plFl 0 cl).I (plPM (quGl G))) ((Rd.lay cl 1 1 G).and (Rd.tl B0 (.slice Av k capv) (win G a k))) w wi A cap c b n ((plPM (quGl G)).steps 0 n e (PlT.ld, s)).2 x ((plPM (quGl G)).steps 0 n e (PlT.ld, s)).1 L) ∧ Hid (B0 ≤ wi.heap.size)) (fun kk _ => 20 - (intOf kk).toNat)
        case atStart => exact ⟨0, L0, by omega, rfl, HZ0, HB3⟩
        case round =>
          clear HZ0 HB3
          obtain ⟨e, L, hq, rfl, HS, HBB⟩ := hrel
          by_cases hq9 : e < 20
          · have hSt := HS.out.stepUp HGD.out.1 HGD.out.2 (fun Y (h : ((Rd.lay cl 1 1 G).and (Rd.tl B0 (.slice Av k capv) (win G a k))).P Y) => h.1) (fun z hz => List.mem_append_left _ hz) HN6.out (HLO.out e hq)
            rw [show (plPM (quGl G)).goS 0 n ((plPM (quGl G)).steps 0 n e (PlT.ld, s)).1 ((plPM (quGl G)).steps 0 n e (PlT.ld, s)).2 = ((plPM (quGl G)).steps 0 n (e + 1) (PlT.ld, s)).2 by rw [PM.steps_succ], show (plPM (quGl G)).goT n ((plPM (quGl G)).steps 0 n e (PlT.ld, s)).1 ((plPM (quGl G)).steps 0 n e (PlT.ld, s)).2 = ((plPM (quGl G)).steps 0 n (e + 1) (PlT.ld, s)).1 by rw [PM.steps_succ]] at hSt
            have hq1 : (e : Int) < 20 := by omega
            have hq0 : (0 : Int) ≤ (e : Int) := by omega
            clear HS
            go_wp2_with fail
            go_at_call 10; refine hSt.mono ?_; rintro e w4 ⟨rfl, hsz', L', hS'⟩
            have HS' : Hid _ := hS'
            have HBB' : Hid (B0 ≤ w4.heap.size) := Nat.le_trans HBB.out hsz'
            clear hSt hS'
            go_wp2_with fail
            go_roundw
            case rel => exact ⟨_, L', by omega, by go_num, HS', HBB'⟩
            case measure => simp [intOf]; omega
          · obtain rfl : e = 20 := by omega
            clear HLO
            rw [show ((20 : Nat) : Int) = 20 from rfl]
            obtain ⟨g1, g2, g3⟩ := qu_pull20 HQ.out.1 HN.out HGB.out
            have hGv := pl_g HS.out.mach
            rw [g1] at hGv
            have hD : Calls Try.prog 11 #[.pointer (some ⟨x, 0, none⟩)] wr fun e w' => e = .returned (.bool true) ∧ wr = w' := by
              obtain ⟨nx, u1, u2⟩ := HGD.out.1.next HS.out.mach
              rw [g2] at u2
              rw [show true = nx.isNone by rw [u2]; rfl]
              exact done_qpull wr x nx u1
            have HGA : Hid (GoOn w wr B0 A cap c b n cl ((plPM (quGl G)).steps 0 n 20 (PlT.ld, s)).2 G (.slice Av k capv) (win G a k)) := HGL.out.after (t := PlT.ld) (I := (plFl 0 cl).I (plPM (quGl G))) (x := x) (L := L) HS.out.mem HS.out.rd.1 HS.out.rd.2 HS.out.below HBB.out
            have HQ3 : Hid (Qu G ((plPM (quGl G)).steps 0 n 20 (PlT.ld, s)).2 (win G a k).tail ∧ Low ((plPM (quGl G)).steps 0 n 20 (PlT.ld, s)).2 (20 * ((j + 1 : Nat) : Int)) ∧ (k : Int) ≤ G ∧ (a + k) % G.toNat = nx) := ⟨g3, by have h := PM.steps_low (plPM (quGl G)) 0 n 20 (PlT.ld, s) HQ.out.2.1; rw [show (20 * ((j + 1 : Nat) : Int)) = 20 * (j : Int) + ((20 : Nat) : Int) by omega]; exact h, HQ.out.2.2.1, HQ.out.2.2.2⟩
            clear g1 g2 g3 HS HBB HQ HLw HGL HGD
            generalize ((plPM (quGl G)).steps 0 n 20 (PlT.ld, s)).2 = s2 at *
            cases k with
            | zero =>
              have HG : Hid (GoOn w wr B0 A cap c b n cl s2 G (.slice Av 0 capv) (win G a 0)) := HGA.out
              have HQ : Hid (Qu G s2 (win G a 0) ∧ Low s2 (20 * ((j + 1 : Nat) : Int)) ∧ ((0 : Nat) : Int) ≤ G ∧ (a + 0) % G.toNat = nx) := HQ3.out
              rw [show firstOf (win G a 0) = -1 from rfl] at hGv
              clear HGA HQ3
              go_wp2_with fail
              go_at_call 11; refine hD.mono ?_; rintro e w9 ⟨rfl, rfl⟩
              clear hD
              go_wp2_with fail
              go_at_call 12; refine hGv.mono ?_; rintro e w9 ⟨rfl, rfl⟩
              clear hGv
              have hLs := qlist_any wr A cap c b n cl s2 1 1 G HG.out.mem HN6.out HG.out.lay (by omega) (by omega) (by have := HGB.out; omega)
              rw [show lsOf (fun g => peekT n s2 (wd (20 + 1 * 264 + 1 * 3) G 2 g 1)) G (peekT n s2 6) = (win G (a) (0), true) from (HQ.out.1.list HN.out HGB.out.1).1] at hLs
              have HP8 : Hid (peekT n s2 8 = ((0 : Nat) : Int)) := (by have h := (HQ.out.1.list HN.out HGB.out.1).2; rw [win_len] at h; exact h : peekT n s2 8 = ((0 : Nat) : Int))
              have HKK : Hid (0 ≤ 60) := (by have := HQ.out.2.2.1; have := HGB.out; omega : 0 ≤ 60)
              have HGW : Hid _ := HG
              clear HG
              go_wp2_with fail
              go_at_call 13; refine hLs.mono ?_; rintro e w5 ⟨vl, rfl, hv5, hb5⟩
              have HVL : Hid (RI.SeesL w5 vl (win G (a) (0))) := RI.IntsOn.sees ⟨hv5.own⟩
              have HG5 : Hid _ := HGW.out.still hb5
              have hPk := peek_any w5 A cap c b n s2 8 HG5.out.mem HN6.out
              rw [HP8.out] at hPk
              generalize decide ((0 : Int) ≤ 8 ∧ (8 : Int) < (n : Int)) = zz at hPk
              clear hLs hv5 hb5 HGW
              go_wp2_with fail
              go_at_call 14; refine hPk.mono ?_; rintro e w9 ⟨rfl, rfl⟩
              have hS := RI.lsame_any w5 vl _ (win G (a) (0)) (by rw [win_len]; have := HKK.out; omega) HVL.out HG5.out.row.sees
              have hw1 : IntKind.u64.wrap ((0 : Nat) : Int) = ((0 : Nat) : Int) := wrap_u64 (by have := HKK.out; omega)
              have hyy : (((0 : Nat) : Int) == ((0 : Nat) : Int)) = true := by simp
              have hyn : (((0 : Nat) : Int) != ((0 : Nat) : Int)) = false := by simp
              clear hPk HVL
              go_wp2_with fail
              go_at_call 15; refine hS.mono ?_; rintro e w10 ⟨rfl, hb10⟩
              have HG10 : Hid _ := HG5.out.still hb10
              clear hS hb10 HG5
              have hjm := HJM.out
              go_wp2_with fail
              go_roundw
              case rel => exact ⟨j + 1, _, s2, a, 0, nx, rfl, rfl, by omega, by go_num, HG10, HQ⟩
              case measure => simp [intOf]; omega
            | succ k1 =>
              obtain ⟨y, hy⟩ : ∃ y : Nat, a % G.toNat = y := ⟨_, rfl⟩
              have hwc : win G a (k1 + 1) = (y : Int) :: win G (a + 1) k1 := by rw [win_cons, hy]
              rw [hwc] at hGv
              rw [show firstOf ((y : Int) :: win G (a + 1) k1) = (y : Int) from rfl] at hGv
              have HQ : Hid (Qu G s2 (win G (a + 1) k1) ∧ Low s2 (20 * ((j + 1 : Nat) : Int)) ∧ (k1 : Int) ≤ G ∧ (a + 1 + k1) % G.toNat = nx) := ⟨by have h := HQ3.out.1; rw [hwc] at h; exact h, HQ3.out.2.1, by have := HQ3.out.2.2.1; omega, by have h := HQ3.out.2.2.2; rw [show a + 1 + k1 = a + (k1 + 1) by omega]; exact h⟩
              have hrow := HGA.out.row
              rw [hwc] at hrow
              obtain ⟨gb, goff, gcap, hvs, hcap1, hcap2, hgc, hgt⟩ := hrow.uncons
              rw [win_len] at hvs hcap1 hgt
              injection hvs with e1 e2 e3
              subst e1 e3
              obtain ⟨A2, hA2⟩ : ∃ A2, (if capv = 1 then some (⟨gb, goff, none⟩ : Addr) else some ⟨gb, goff + 1, none⟩) = A2 := ⟨_, rfl⟩
              rw [hA2] at hgt
              have HG : Hid (GoOn w wr B0 A cap c b n cl s2 G (.slice A2 k1 (capv - 1)) (win G (a + 1) k1)) := ⟨HGA.out.mem, HGA.out.lay, HGA.out.below, hgt, HGA.out.bb, HGA.out.lo, HGA.out.up, HGA.out.ne⟩
              have hlc : ((k1 + 1 : Nat) : Int) = (k1 : Int) + 1 := by simp
              have hk61 := HKB.out
              have hw1 : wrap64 ((k1 : Int) + 1 - 1) = (k1 : Int) := by unfold wrap64; omega
              have hpos : (0 : Int) < (k1 : Int) + 1 := by omega
              have hlt1 : (k1 : Int) < (k1 : Int) + 1 := by omega
              have hyy0 : ((y : Int) == (y : Int)) = true := by simp
              have hyd0 : decide ((y : Int) ≠ (y : Int)) = false := by simp
              clear HGA HQ3 hrow hgt hwc hy e2
              go_wp2_with fail
              go_at_call 11; refine hD.mono ?_; rintro e w9 ⟨rfl, rfl⟩
              clear hD
              go_wp2_with fail
              go_at_call 12; refine hGv.mono ?_; rintro e w9 ⟨rfl, rfl⟩
              clear hGv hgc
              have hLs := qlist_any wr A cap c b n cl s2 1 1 G HG.out.mem HN6.out HG.out.lay (by omega) (by omega) (by have := HGB.out; omega)
              rw [show lsOf (fun g => peekT n s2 (wd (20 + 1 * 264 + 1 * 3) G 2 g 1)) G (peekT n s2 6) = (win G (a + 1) (k1), true) from (HQ.out.1.list HN.out HGB.out.1).1] at hLs
              have HP8 : Hid (peekT n s2 8 = ((k1 : Nat) : Int)) := (by have h := (HQ.out.1.list HN.out HGB.out.1).2; rw [win_len] at h; exact h : peekT n s2 8 = ((k1 : Nat) : Int))
              have HKK : Hid (k1 ≤ 60) := (by have := HQ.out.2.2.1; have := HGB.out; omega : k1 ≤ 60)
              have HGW : Hid _ := HG
              clear HG
              go_wp2_with fail
              go_at_call 13; refine hLs.mono ?_; rintro e w5 ⟨vl, rfl, hv5, hb5⟩
              have HVL : Hid (RI.SeesL w5 vl (win G (a + 1) (k1))) := RI.IntsOn.sees ⟨hv5.own⟩
              have HG5 : Hid _ := HGW.out.still hb5
              have hPk := peek_any w5 A cap c b n s2 8 HG5.out.mem HN6.out
              rw [HP8.out] at hPk
              generalize decide ((0 : Int) ≤ 8 ∧ (8 : Int) < (n : Int)) = zz at hPk
              clear hLs hv5 hb5 HGW
              go_wp2_with fail
              go_at_call 14; refine hPk.mono ?_; rintro e w9 ⟨rfl, rfl⟩
              have hS := RI.lsame_any w5 vl _ (win G (a + 1) (k1)) (by rw [win_len]; have := HKK.out; omega) HVL.out HG5.out.row.sees
              have hw1 : IntKind.u64.wrap ((k1 : Nat) : Int) = ((k1 : Nat) : Int) := wrap_u64 (by have := HKK.out; omega)
              have hyy : (((k1 : Nat) : Int) == ((k1 : Nat) : Int)) = true := by simp
              have hyn : (((k1 : Nat) : Int) != ((k1 : Nat) : Int)) = false := by simp
              clear hPk HVL
              go_wp2_with fail
              go_at_call 15; refine hS.mono ?_; rintro e w10 ⟨rfl, hb10⟩
              have HG10 : Hid _ := HG5.out.still hb10
              clear hS hb10 HG5
              have hjm := HJM.out
              go_wp2_with fail
              go_roundw
              case rel => exact ⟨j + 1, _, s2, a + 1, k1, nx, rfl, rfl, by omega, by go_num, HG10, HQ⟩
              case measure => simp [intOf]; omega
    · obtain rfl : j = mp := by omega
      have hgd : decide ((j : Int) < (j : Int)) = false := by simp
      have HBD : Hid (∀ Y, Below wr.heap.size wr Y → Calls Try.prog 16 #[.pointer (some ⟨c, 0, none⟩)] Y fun e w' => e = .returned (.int .i64 0) ∧ Y = w') := fun Y hY => by
        have h := bad_any Y A cap c b n s (HG.out.mem.below hY)
        rw [HQ.out.1.bad] at h
        exact h
      have HBF : Hid _ := HG.out.below
      clear HG HQ
      go_wp2_with fail
      go_at_call 6; refine (globq_awake _).mono ?_; rintro e w9 ⟨rfl, h9⟩
      have hBd := HBD.out w9 h9
      have HFF : Hid (Below w.heap.size w w9) := seq HBF.out h9
      clear h9 HBD
      go_wp2_with fail
      go_at_call 16; refine hBd.mono ?_; rintro e w8 ⟨rfl, rfl⟩
      clear hBd
      go_wp2_with fail
      go_ret
      exact ⟨rfl, HFF.out⟩
theorem globqOrder_walk (G : Int) (E : Option Addr) (mp cq : Nat) (pk : Nat → Nat) (w : World) (hmp : mp ≤ 9223372036854775807) (hB : SeesB8 w w.heap.size E mp pk) :
    Calls Try.prog 3 #[.int .i64 G, .slice E mp cq] w fun e w' => e = .returned (.bool true) ∧ Below w.heap.size w w' := by
  by_cases h : ¬ FewC 1 1 G ∨ 60 < mp
  · exact globqOrder_bad G E mp cq w hmp h
  · have hF : FewC 1 1 G := Decidable.byContradiction fun h' => h (.inl h')
    have hM := hF.h.1.h
    exact globqOrder_ok G E mp cq pk w (by have := hF.h; omega) (by omega) hB
end Go.Proofs.Ythhlklfioipmgaa

namespace Go.Proofs.Ythhlklfioipmgaa
open Go Go.ChangeShapes Go.WideShapes Go.ChangeAt Go.RowKit

theorem below_trodAll {H : Type} {enc : TypeId × Value → H} {P : Program} (hl : laidOutB P = true) {W W' : World} (hb : Below W.heap.size W W') :
    ∀ (ts : List TypeId) (vs : List Value) (ds : List (DataW H)) (ps : List MemPlace), (ts.all fun t => P.readableRec t && decide (t < P.types.size)) = true →
      DataW.TrodAll enc P W 0 (fun _ => true) true ts vs ds ps → DataW.TrodAll enc P W' 0 (fun b => decide (b < W.heap.size)) true ts vs ds ps := by
  intro ts
  induction ts with
  | nil =>
    intro vs ds ps _ h
    cases vs <;> cases ds <;> first | exact h | exact (h : False).elim
  | cons t ts ih =>
    intro vs ds ps hall h
    cases vs with
    | nil => exact (h : False).elim
    | cons v vs =>
      cases ds with
      | nil => exact (h : False).elim
      | cons d ds =>
        obtain ⟨p, q, h1, h2, rfl⟩ := h
        simp only [List.all_cons, Bool.and_eq_true, decide_eq_true_eq] at hall
        have lt : ∀ x ∈ p, x.block < W.heap.size := by obtain ⟨m, hm⟩ := h1; exact DataW.trod_lt m _ _ _ hm
        exact ⟨p, q, Below.trod hl hall.1.1 hall.1.2 h1 hb lt, ih vs ds q hall.2 h2, rfl⟩

theorem law_post {H : Type} {enc : TypeId × Value → H} {P : Program} {f : Func} {s : ChangeSpec} {apart : Bool} {W W' : World} {args : Array Value} {ds gs : List (DataW H)} {before : List MemPlace} {bt : TypeId}
    (hl : laidOutB P = true) (hr : f.resultTypes.toList = [bt]) (hbt : P.underlying bt = some .bool) (hts : (f.params.toList.all fun t => P.readableRec t && decide (t < P.types.size)) = true)
    (hvars : s.vars = []) (hres : (s.fn H ds).results = [.lit (.bool true)]) (harg : (s.fn H ds).args = ds) (hvs : (s.fn H ds).vars = [])
    (hW : DataW.Whole enc P f.params.toList s.vars apart W args.toList ds gs before) (hb : Below W.heap.size W W') :
    s.post enc P f apart true false false W args (.bool true) W' := by
  have hW' := hW
  obtain ⟨p, q, hA, hV, rfl, hfz, hnd⟩ := hW
  have hg : gs = [] ∧ q = [] := by rw [hvars] at hV; exact trodVars_none hV
  obtain ⟨rfl, rfl⟩ := hg
  refine ⟨ds, [], _, [], p, [], hW', ?_, ?_, ?_, hb.frame _, fun h => by cases h⟩
  · have e : (Value.bool true).resultList f.resultTypes.size = [.bool true] := by
      have hs : f.resultTypes.size = 1 := by rw [← Array.length_toList, hr]; rfl
      rw [hs]; rfl
    rw [List.append_nil, hres, hr, e]
    exact trodAll_mk1 (shut_bool hbt _)
  · rw [List.append_nil, harg]
    exact below_trodAll hl hb _ _ _ _ hts hA
  · rw [List.append_nil, hvs, hvars]
    rfl
end Go.Proofs.Ythhlklfioipmgaa

namespace Go.Proofs.Ythhlklfioipmgaa
open Go Go.ChangeShapes Go.WideShapes Go.ChangeAt Go.RowKit Go.Joins
set_option linter.unusedVariables false
set_option linter.unusedSimpArgs false

theorem own_globqOrder : ownKnob Try.prog.godebug = none := by kernel_rfl
theorem laidOut_globqOrder : laidOutB Try.prog = true := by kernel_rfl

set_option maxRecDepth 100000 in
theorem lifted_globqOrder (os : Os) (started : os.Started) (H : Type) (enc : TypeId × Value → H) :
    ReturnsInHanded {} Try.checked os 3 .any (Rows.globqOrderSpec.pre6 enc Try.prog Try.f3 Rows.globqOrderRow.domain false) (Rows.globqOrderSpec.post enc Try.prog Try.f3 false true false false) := by
  refine returnsInHanded_of_change (C := Try.checked) own_globqOrder started (by kernel_rfl) Try.func3
    (ChangeSpec.witness6 (enc := enc) (C := Try.checked) false ⟨#[], #[.int .i64 0, .slice none 0 0], []⟩ 8 (by kernel_rfl) (by kernel_rfl) (by kernel_rfl) (by kernel_rfl)) ?_
  intro W base args ds gs before hval0 hW hcnd _
  have hval : ∀ (j : Nat) t v, Try.f3.params[j]? = some t → args[j]? = some v → Value.okWide Try.prog W .any base t v := hval0
  have hW' := hW
  obtain ⟨p, q, hA0, hV, rfl, hfz, hnd⟩ := hW
  have hA : DataW.TrodAll enc Try.prog W 0 (fun _ => true) true Try.f3.params.toList args.toList ds p := hA0
  rw [Try.params3] at hA hval
  obtain ⟨v0, vs0, d0, ds0, p0, q0, hargs, rfl, rfl, h0, r0⟩ := trodAll_cons hA
  obtain ⟨v1, vs1, d1, ds1, p1, q1, rfl, rfl, rfl, h1, r1⟩ := trodAll_cons r0
  obtain ⟨rfl, rfl, rfl⟩ := trodAll_nil r1
  obtain rfl : args = #[v0, v1] := by cases args; simp_all
  obtain ⟨x0, rfl, rfl, rfl, wx0⟩ := open_int Try.underlying3 (hval 0 3 v0 rfl rfl) h0
  obtain ⟨E, mp, cq, pk, rfl, hmp, hpk⟩ := sees_bytes Try.underlying22 Try.underlying5 (by kernel_rfl) (hval 1 22 v1 rfl rfl) h1
  unfold maxLen at hmp
  clear hA0 hval0
  refine (globqOrder_walk x0 E mp cq pk W (by omega) hpk).mono fun e W' ⟨he, hb⟩ => ?_
  subst he
  exact ⟨_, rfl, law_post laidOut_globqOrder rfl Try.underlying4 (by kernel_rfl) rfl rfl rfl rfl hW' hb⟩

theorem globqOrder_holds : Rows.GlobqOrderSaid :=
  OpenClaim.holds_of_wide 3 Try.f3 rfl rfl rfl rfl rfl rfl rfl ⟨rfl, rfl, rfl, rfl, rfl⟩ rfl rfl rfl rfl rfl (by kernel_rfl) Try.func3 (by kernel_rfl)
    (of_decide_eq_true (by kernel_rfl)) (by unfold Func.isWrapper; first | (rw [if_pos (by decide +kernel)]; kernel_rfl) | (rw [if_neg (by decide +kernel)]; exact ⟨rfl, rfl⟩))
    (fun os started H enc _ => lifted_globqOrder os started H enc)
#print axioms globqOrder_holds
end Go.Proofs.Ythhlklfioipmgaa
