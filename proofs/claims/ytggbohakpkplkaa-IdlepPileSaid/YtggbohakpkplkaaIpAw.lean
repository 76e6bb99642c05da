/- idlep: the page's example. -/
import Derived.Test.YtggbohakpkplkaaAwK
import Derived.Test.YtggbohakpkplkaaIp2
import Derived.Test.YtggbohakpkplkaaIpL
namespace Go.Proofs.Ytggbohakpkplkaa
open Go Go.RowKit
set_option linter.unusedVariables false
set_option maxRecDepth 100000
set_option linter.unusedSimpArgs false

def ipaA : PM IpT := ipPM 3 0
def ipaB : PM IpT := ipPM 3 2
def ipaX : PM IgT := igPM 3
def ipaS0 : St := fresh (fun _ => 0)
def ipaS1 : St := (ipaA.steps 0 823 6 (.m0, ipaS0)).2
def ipaS2 : St := (ipaB.steps 0 823 6 (.m0, ipaS1)).2
def ipaT3 : IgT := (ipaX.steps 0 823 6 (.ld, ipaS2)).1
theorem ipa_list : lsOf (fun g => peekT 823 ipaS2 (wd 20 3 264 g 7)) 3 (peekT 823 ipaS2 9) = ([2, 0], true) := by decide +kernel
theorem ipa_mask : peekT 823 ipaS2 19 = 5 := by decide +kernel
theorem ipa_obs : ipaT3.obs = 2 ∧ (ipaX.ax ipaT3).isNone = true := ⟨by decide +kernel, by decide +kernel⟩
theorem ipa_low1 : Low ipaS1 9 := (PM.steps_low ipaA 0 823 6 (.m0, ipaS0) (low_fresh _)).more (by omega)
theorem ipa_low2 : Low ipaS2 18 := (PM.steps_low ipaB 0 823 6 (.m0, ipaS1) ipa_low1).more (by omega)

set_option maxHeartbeats 8000000 in
theorem idlep_awake (w : World) : Calls Try.prog 11 #[] w fun e w' => e = .returned (.bool true) ∧ Below w.heap.size w w' := by
  have hL := lay_some 3 3 1 none 0 0 823 (fun _ => 0) (fun _ => 0) w (by omega) ⟨⟨by omega⟩, by omega, by omega, by omega⟩ (by omega) (fun h => absurd h (by omega)) (fun i h => absurd h (by omega))
  go_enter Try.func11, Try.ntmps11
  go_wp2_with fail
  go_at_call 10; refine hL.mono ?_; rintro e w1 ⟨cl, A, A', cap, cap', c, b, c', b', rfl, hLd⟩
  have HI1 : Hid (Is w1 111 A cap c b 823 ipaS0) := hLd.two.m
  have HY1 : Hid (Lay w1 cl 3 3 1) := hLd.lay
  have HB1 : Hid (Below w.heap.size w w1) := hLd.below
  have hne : Hid (cl ≠ c ∧ cl ≠ b) := lay_ne hLd.lay (by decide) hLd.two.m (by omega)
  have hup : Hid (w.heap.size ≤ c ∧ w.heap.size ≤ b) := ⟨hLd.up.2.1, hLd.up.2.2.1⟩
  have hlo : Hid (c < w1.heap.size ∧ b < w1.heap.size ∧ cl < w1.heap.size) := ⟨hLd.two.m.lt, hLd.two.m.bl, hLd.lay.lt⟩
  have hLA := ip_laws 0 3 3 1 0 cl (by omega) (by omega)
  have hLB := ip_laws 0 3 3 1 2 cl (by omega) (by omega)
  have hLX := ig_laws 0 3 3 1 cl (by omega) (by omega)
  have hGA : (((ipFl 0 0 cl).I ipaA)).Good ipaA := Fl.good hLA
  have hGB : (((ipFl 0 2 cl).I ipaB)).Good ipaB := Fl.good hLB
  have hGX : (((igFl 0 cl).I ipaX)).Good ipaX := Fl.good hLX
  have HST : Hid (Steps ipaA ((ipFl 0 0 cl).I ipaA) (Rd.lay cl 3 3 1) 18 0 ∧ Steps ipaB ((ipFl 0 2 cl).I ipaB) (Rd.lay cl 3 3 1) 18 0 ∧ Steps ipaX ((igFl 0 cl).I ipaX) (Rd.lay cl 3 3 1) 23 0) := ⟨Fl.steps hLA stepby_ipp, Fl.steps hLB stepby_ipp, Fl.steps hLX stepby_ipg⟩
  have hNA := ip_new w1 cl 0 0 3
  clear hL hLd hLA hLB hLX
  go_wp2_with fail
  go_at_call 12; refine hNA.mono ?_; rintro e w2 ⟨xa, La, rfl, ha1, ha2, ha3, ha4⟩
  have HB2 : Hid (Below w1.heap.size w1 w2) := ha2
  have HLA : Hid (∀ k ∈ La, w1.heap.size ≤ k) := ha3
  have HMA : Hid (((ipFl 0 0 cl).I ipaA) w2 xa .m0 La) := ha1
  have hNB := ip_new w2 cl 0 2 3
  clear hNA ha1 ha2 ha3 ha4
  go_wp2_with fail
  go_at_call 12; refine hNB.mono ?_; rintro e w3 ⟨xb, Lb, rfl, hb1, hb2, hb3, hb4⟩
  have HB3 : Hid (Below w2.heap.size w2 w3) := hb2
  have HLB : Hid (∀ k ∈ Lb, w2.heap.size ≤ k) := hb3
  have HMB : Hid (((ipFl 0 2 cl).I ipaB) w3 xb .m0 Lb) := hb1
  have hNX := ig_new w3 cl 0 3
  clear hNB hb1 hb2 hb3 hb4
  go_wp2_with fail
  go_at_call 25; refine hNX.mono ?_; rintro e w4 ⟨xx, Lx, rfl, hx1, hx2, hx3, hx4⟩
  have HB4 : Hid (Below w3.heap.size w3 w4) := hx2
  have HLX : Hid (∀ k ∈ Lx, w3.heap.size ≤ k) := hx3
  have HSA : Hid (Solo ((ipFl 0 0 cl).I ipaA) ((Rd.lay cl 3 3 1).and ((Rd.mach hGB xb .m0 Lb).and (Rd.mach hGX xx .ld Lx))) w w4 A cap c b 823 (ipaA.steps 0 823 0 (.m0, ipaS0)).2 xa (ipaA.steps 0 823 0 (.m0, ipaS0)).1 La) := by
    have l1 := hlo.out
    have s0 := HB1.out.size
    have s1 := HB2.out.size
    have s2 := HB3.out.size
    have s3 := HB4.out.size
    have la := HLA.out
    have lb := HLB.out
    have lx := HLX.out
    have ltA := hGA.lt HMA.out
    have ltB := hGB.lt HMB.out
    have ltX := hGX.lt hx1
    have b14 := seq HB2.out (seq HB3.out HB4.out)
    refine ⟨HI1.out.below b14, hGA.below HMA.out (seq HB3.out HB4.out), ⟨HY1.out.below b14 HY1.out.lt, hGB.below HMB.out HB4.out, hx1⟩, fun k hk => ⟨by have := la k hk; omega, by have := la k hk; omega, fun hm => ?_⟩, ⟨fun hm => ?_, fun hm => ?_⟩, ⟨hup.out.1, hup.out.2, fun k hk => by have := la k hk; omega⟩, fun k hk => ?_, HB1.out.trans (b14.mono HB1.out.size)⟩
    · rcases List.mem_append.1 hm with h | h
      · have := la k hk; have : k = cl := List.mem_singleton.1 h; omega
      · rcases List.mem_append.1 h with h | h
        · have := lb k h; have := ltA k hk; omega
        · have := lx k h; have := ltA k hk; omega
    · rcases List.mem_append.1 hm with h | h
      · exact hne.out.1 (List.mem_singleton.1 h).symm
      · rcases List.mem_append.1 h with h | h
        · have := lb c h; omega
        · have := lx c h; omega
    · rcases List.mem_append.1 hm with h | h
      · exact hne.out.2 (List.mem_singleton.1 h).symm
      · rcases List.mem_append.1 h with h | h
        · have := lb b h; omega
        · have := lx b h; omega
    · rcases List.mem_append.1 hk with h | h
      · have : k = cl := List.mem_singleton.1 h; omega
      · rcases List.mem_append.1 h with h | h
        · have := ltB k h; omega
        · exact ltX k h
  have HBL : Hid ((∀ k ∈ Lb, w.heap.size ≤ k ∧ k ≠ cl ∧ k ∉ Lx) ∧ ∀ k ∈ Lx, w.heap.size ≤ k ∧ k ≠ cl) := by
    have l1 := hlo.out
    have s0 := HB1.out.size
    have s1 := HB2.out.size
    have s2 := HB3.out.size
    have lb := HLB.out
    have lx := HLX.out
    have ltB := hGB.lt HMB.out
    exact ⟨fun k hk => ⟨by have := lb k hk; omega, by have := lb k hk; omega, fun h => by have := ltB k hk; have := lx k h; omega⟩, fun k hk => ⟨by have := lx k hk; omega, by have := lx k hk; omega⟩⟩
  clear hNX hx1 hx2 hx3 hx4 HMA HMB HLA HLB HLX HB2 HB3 HB4 HI1 HY1 HB1
  go_wp2_with fail
  have HLO : Hid (∀ q : Nat, q ≤ 6 → Low (ipaA.steps 0 823 q (.m0, ipaS0)).2 1000000) := fun q hq => (PM.steps_low ipaA 0 823 q (.m0, ipaS0) (low_fresh _)).more (by omega)
  go_loopw [8] (fun k wi => ∃ (q : Nat) (L : List Nat), q ≤ 6 ∧ k = .int .i64 q ∧ Hid (Solo ((ipFl 0 0 cl).I ipaA) ((Rd.lay cl 3 3 1).and ((Rd.mach hGB xb .m0 Lb).and (Rd.mach hGX xx .ld Lx))) w wi A cap c b 823 (ipaA.steps 0 823 q (.m0, ipaS0)).2 xa (ipaA.steps 0 823 q (.m0, ipaS0)).1 L)) (fun k _ => 6 - (intOf k).toNat)
  case atStart => exact ⟨0, _, by omega, rfl, HSA⟩
  case round =>
    clear HSA
    obtain ⟨q, L, hq, rfl, HS⟩ := hrel
    by_cases hq9 : q < 6
    · have hSt := HS.out.step hGA HST.out.1 (fun Y (h : (((Rd.lay cl 3 3 1).and ((Rd.mach hGB xb .m0 Lb).and (Rd.mach hGX xx .ld Lx)))).P Y) => h.1) (fun k hk => List.mem_append_left _ hk) (by omega) (HLO.out q hq)
      rw [show ipaA.goS 0 823 (ipaA.steps 0 823 q (.m0, ipaS0)).1 (ipaA.steps 0 823 q (.m0, ipaS0)).2 = (ipaA.steps 0 823 (q + 1) (.m0, ipaS0)).2 by rw [PM.steps_succ], show ipaA.goT 823 (ipaA.steps 0 823 q (.m0, ipaS0)).1 (ipaA.steps 0 823 q (.m0, ipaS0)).2 = (ipaA.steps 0 823 (q + 1) (.m0, ipaS0)).1 by rw [PM.steps_succ]] at hSt
      have hq1 : (q : Int) < 6 := by omega
      have hq0 : (0 : Int) ≤ (q : Int) := by omega
      clear HS
      go_wp2_with fail
      go_at_call 18; refine hSt.mono ?_; rintro e w4 ⟨rfl, L', hS'⟩
      have HS' : Hid _ := hS'
      clear hSt hS'
      go_wp2_with fail
      go_roundw
      case rel => exact ⟨q + 1, L', by omega, by go_num, HS'⟩
      case measure => simp [intOf]; omega
    · obtain rfl : q = 6 := by omega
      clear HLO
      rw [show ((6 : Nat) : Int) = 6 from rfl]
      have HSB : Hid (Solo ((ipFl 0 2 cl).I ipaB) ((Rd.lay cl 3 3 1).and (Rd.mach hGX xx .ld Lx)) w wr A cap c b 823 (ipaB.steps 0 823 0 (.m0, ipaS1)).2 xb (ipaB.steps 0 823 0 (.m0, ipaS1)).1 Lb) := HS.out.again HS.out.rd.2.1 ⟨HS.out.rd.1, HS.out.rd.2.2⟩ (fun k hk => List.mem_append_right _ (List.mem_append_left _ hk)) (fun k hk => by
        rcases List.mem_append.1 hk with h | h
        · exact List.mem_append_left _ h
        · exact List.mem_append_right _ (List.mem_append_right _ h)) (fun k hk hm => by
        rcases List.mem_append.1 hm with h | h
        · exact (HBL.out.1 k hk).2.1 (List.mem_singleton.1 h)
        · exact (HBL.out.1 k hk).2.2 h) (fun k hk => (HBL.out.1 k hk).1)
      clear HS
      go_wp2_with fail
      have HLO : Hid (∀ q : Nat, q ≤ 6 → Low (ipaB.steps 0 823 q (.m0, ipaS1)).2 1000000) := fun q hq => (PM.steps_low ipaB 0 823 q (.m0, ipaS1) ipa_low1).more (by omega)
      go_loopw [9] (fun k wi => ∃ (q : Nat) (L : List Nat), q ≤ 6 ∧ k = .int .i64 q ∧ Hid (Solo ((ipFl 0 2 cl).I ipaB) ((Rd.lay cl 3 3 1).and (Rd.mach hGX xx .ld Lx)) w wi A cap c b 823 (ipaB.steps 0 823 q (.m0, ipaS1)).2 xb (ipaB.steps 0 823 q (.m0, ipaS1)).1 L)) (fun k _ => 6 - (intOf k).toNat)
      case atStart => exact ⟨0, _, by omega, rfl, HSB⟩
      case round =>
        clear HSB
        obtain ⟨q, L, hq, rfl, HS⟩ := hrel
        by_cases hq9 : q < 6
        · have hSt := HS.out.step hGB HST.out.2.1 (fun Y (h : (((Rd.lay cl 3 3 1).and (Rd.mach hGX xx .ld Lx))).P Y) => h.1) (fun k hk => List.mem_append_left _ hk) (by omega) (HLO.out q hq)
          rw [show ipaB.goS 0 823 (ipaB.steps 0 823 q (.m0, ipaS1)).1 (ipaB.steps 0 823 q (.m0, ipaS1)).2 = (ipaB.steps 0 823 (q + 1) (.m0, ipaS1)).2 by rw [PM.steps_succ], show ipaB.goT 823 (ipaB.steps 0 823 q (.m0, ipaS1)).1 (ipaB.steps 0 823 q (.m0, ipaS1)).2 = (ipaB.steps 0 823 (q + 1) (.m0, ipaS1)).1 by rw [PM.steps_succ]] at hSt
          have hq1 : (q : Int) < 6 := by omega
          have hq0 : (0 : Int) ≤ (q : Int) := by omega
          clear HS
          go_wp2_with fail
          go_at_call 18; refine hSt.mono ?_; rintro e w4 ⟨rfl, L', hS'⟩
          have HS' : Hid _ := hS'
          clear hSt hS'
          go_wp2_with fail
          go_roundw
          case rel => exact ⟨q + 1, L', by omega, by go_num, HS'⟩
          case measure => simp [intOf]; omega
        · obtain rfl : q = 6 := by omega
          clear HLO
          rw [show ((6 : Nat) : Int) = 6 from rfl]
          have hLs := iplist_any wr A cap c b 823 cl ipaS2 3 3 1 HS.out.mem (by omega) HS.out.rd.1 (by omega) (by omega)
          rw [ipa_list] at hLs
          have HF : Hid _ := HS.out
          clear HS
          go_wp2_with fail
          go_at_call 27; refine hLs.mono ?_; rintro e w5 ⟨vl, rfl, hv5, hb5⟩
          have HI5 : Hid (Is w5 111 A cap c b 823 ipaS2) := HF.out.mem.below hb5
          have hPk := peek_any w5 A cap c b 823 ipaS2 19 HI5.out (by omega)
          rw [ipa_mask] at hPk
          have HSC : Hid (Solo ((igFl 0 cl).I ipaX) ((Rd.lay cl 3 3 1).and (Rd.ints wr.heap.size vl [2, 0])) w w5 A cap c b 823 (ipaX.steps 0 823 0 (.ld, ipaS2)).2 xx (ipaX.steps 0 823 0 (.ld, ipaS2)).1 Lx) := by
            have hV5 : RI.IntsOn w5 wr.heap.size vl [2, 0] := ⟨hv5.own⟩
            have hsz := hb5.size
            have hy : Lay wr cl 3 3 1 := HF.out.rd.1
            have hyl := hy.lt
            have r1 := HF.out.rlt
            have r2 := HF.out.rfar
            have hc := HF.out.mem.lt
            have hbl := HF.out.mem.bl
            refine ⟨HI5.out, hGX.below HF.out.rd.2 hb5, ⟨hy.below hb5 hyl, hV5⟩, fun k hk => ⟨fun e => r2.1 (List.mem_append_right _ (e ▸ hk)), fun e => r2.2 (List.mem_append_right _ (e ▸ hk)), fun hm => ?_⟩, ⟨fun hm => ?_, fun hm => ?_⟩, ⟨hup.out.1, hup.out.2, fun k hk => (HBL.out.2 k hk).1⟩, fun k hk => ?_, seq HF.out.below hb5⟩
            · rcases List.mem_append.1 hm with h | h
              · exact (HBL.out.2 k hk).2 (List.mem_singleton.1 h)
              · have := (hV5.up k h).1; have := r1 k (List.mem_append_right _ hk); omega
            · rcases List.mem_append.1 hm with h | h
              · exact hne.out.1 (List.mem_singleton.1 h).symm
              · have := (hV5.up c h).1; omega
            · rcases List.mem_append.1 hm with h | h
              · exact hne.out.2 (List.mem_singleton.1 h).symm
              · have := (hV5.up b h).1; omega
            · rcases List.mem_append.1 hk with h | h
              · have : k = cl := List.mem_singleton.1 h; omega
              · exact (hV5.up k h).2
          generalize hwl : wr = wl at *
          clear hLs hv5 hb5 HF HI5
          go_wp2_with fail
          go_at_call 34; refine hPk.mono ?_; rintro e w6 ⟨rfl, rfl⟩
          clear hPk
          go_wp2_with fail
          have HLO : Hid (∀ q : Nat, q ≤ 6 → Low (ipaX.steps 0 823 q (.ld, ipaS2)).2 1000000) := fun q hq => (PM.steps_low ipaX 0 823 q (.ld, ipaS2) ipa_low2).more (by omega)
          go_loopw [14] (fun k wi => ∃ (q : Nat) (L : List Nat), q ≤ 6 ∧ k = .int .i64 q ∧ Hid (Solo ((igFl 0 cl).I ipaX) ((Rd.lay cl 3 3 1).and (Rd.ints wl.heap.size vl [2, 0])) w wi A cap c b 823 (ipaX.steps 0 823 q (.ld, ipaS2)).2 xx (ipaX.steps 0 823 q (.ld, ipaS2)).1 L)) (fun k _ => 6 - (intOf k).toNat)
          case atStart => exact ⟨0, _, by omega, rfl, HSC⟩
          case round =>
            clear HSC
            obtain ⟨q, L, hq, rfl, HS⟩ := hrel
            by_cases hq9 : q < 6
            · have hSt := HS.out.step hGX HST.out.2.2 (fun Y (h : ((Rd.lay cl 3 3 1).and (Rd.ints wl.heap.size vl [2, 0])).P Y) => h.1) (fun k hk => List.mem_append_left _ hk) (by omega) (HLO.out q hq)
              rw [show ipaX.goS 0 823 (ipaX.steps 0 823 q (.ld, ipaS2)).1 (ipaX.steps 0 823 q (.ld, ipaS2)).2 = (ipaX.steps 0 823 (q + 1) (.ld, ipaS2)).2 by rw [PM.steps_succ], show ipaX.goT 823 (ipaX.steps 0 823 q (.ld, ipaS2)).1 (ipaX.steps 0 823 q (.ld, ipaS2)).2 = (ipaX.steps 0 823 (q + 1) (.ld, ipaS2)).1 by rw [PM.steps_succ]] at hSt
              have hq1 : (q : Int) < 6 := by omega
              have hq0 : (0 : Int) ≤ (q : Int) := by omega
              clear HS
              go_wp2_with fail
              go_at_call 23; refine hSt.mono ?_; rintro e w4 ⟨rfl, L', hS'⟩
              have HS' : Hid _ := hS'
              clear hSt hS'
              go_wp2_with fail
              go_roundw
              case rel => exact ⟨q + 1, L', by omega, by go_num, HS'⟩
              case measure => simp [intOf]; omega
            · obtain rfl : q = 6 := by omega
              clear HLO
              rw [show ((6 : Nat) : Int) = 6 from rfl]
              have hS1 := RI.lsame_any (wr.alloc (.cells #[.int .i64 2, .int .i64 0] 3)) vl _ [2, 0] (by decide) (((HS.out.rd.2 : RI.IntsOn wr wl.heap.size vl [2, 0]).sees).below ((Below.refl _ _).alloc (Nat.le_refl _) _)) (lit2_sees wr 2 0)
              have HA7 : Hid (Below wr.heap.size wr (wr.alloc (.cells #[.int .i64 2, .int .i64 0] 3))) := (Below.refl _ _).alloc (Nat.le_refl _) _
              have HM : Hid (∀ Y, Below wr.heap.size wr Y → ((igFl 0 cl).I ipaX) Y xx ipaT3 L) := fun Y hY => hGX.below HS.out.mach hY
              have HBF : Hid (Below w.heap.size w wr) := HS.out.below
              clear HS
              go_wp2_with fail
              go_at_call 29; refine hS1.mono ?_; rintro e w8 ⟨rfl, hb8⟩
              have HB8 : Hid (Below wr.heap.size wr w8) := seq HA7.out hb8
              have hM8 := HM.out w8 HB8.out
              have hD : Calls Try.prog 22 #[.pointer (some ⟨xx, 0, none⟩)] w8 fun e w' => e = .returned (.bool true) ∧ w8 = w' := by
                obtain ⟨nx, q1, q2⟩ := hGX.next hM8
                rw [ipa_obs.2] at q2
                rw [← q2]
                exact done_ipg w8 xx nx q1
              have hGv := ig_got hM8
              rw [ipa_obs.1] at hGv
              clear hS1 hb8 HM HA7 hM8
              go_wp2_with fail
              go_at_call 22; refine hD.mono ?_; rintro e w9 ⟨rfl, rfl⟩
              clear hD
              go_wp2_with fail
              go_at_call 24; refine hGv.mono ?_; rintro e w9 ⟨rfl, rfl⟩
              have HFF : Hid (Below w.heap.size w w8) := seq HBF.out HB8.out
              clear hGv
              go_wp2_with fail
              go_ret
              exact ⟨rfl, HFF.out⟩
end Go.Proofs.Ytggbohakpkplkaa
