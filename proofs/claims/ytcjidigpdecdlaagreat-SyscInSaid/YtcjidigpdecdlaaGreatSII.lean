/- SyscIn: each step of going into a system call, over any memory, whatever others do between: its access, whether it has gone in; for every ground, thread, processor, goroutine, and all pokes; no condition. -/
import Derived.Test.YtcjidigpdecdlaaGreatSIH
import Derived.Test.YtcjidigpdecdlaaGreatSIF
import Derived.ProofKit
import Derived.Carry
import Derived.WalkKit
import Derived.OpenShut
import Derived.Test.YtcjidigpdecdlaaGreatOpen
import Derived.Lib.SmallJoins
namespace Go.Proofs.YtcjidigpdecdlaaGreat
open Go Go.RowKit
set_option linter.unusedVariables false
set_option maxRecDepth 100000
set_option linter.unusedSimpArgs false

def siaM : PM SiT := siPM 1 1 1 0 0
def siaS0 : St := fresh (fun _ => 0)
def siaS : St := (siaM.steps 0 289 3 (.a, siaS0)).2
def siaT : SiT := (siaM.steps 0 289 3 (.a, siaS0)).1
def soaM : PM SoT := soPM 1 1 1 0 0 0
def soaT : SoT := (soaM.steps 0 289 3 (.sw, siaS)).1
theorem sia_ax : (siaM.ax (siaM.steps 0 289 1 (.a, siaS0)).1).isNone = false ∧ (siaM.ax (siaM.steps 0 289 2 (.a, siaS0)).1).isNone = false ∧ (siaM.ax (siaM.steps 0 289 3 (.a, siaS0)).1).isNone = true ∧ siaT.went = true := by decide +kernel
theorem soa_ax : (soaM.ax (soaM.steps 0 289 1 (.sw, siaS)).1).isNone = false ∧ (soaM.ax (soaM.steps 0 289 2 (.sw, siaS)).1).isNone = false ∧ (soaM.ax (soaM.steps 0 289 3 (.sw, siaS)).1).isNone = true := by decide +kernel
theorem soa_tells : soaT.came = true ∧ soaT.runs = true ∧ soaT.p 0 = 0 ∧ soaT.holds 0 = [] := by decide +kernel
theorem sia_low : Low siaS 3 := (PM.steps_low siaM 0 289 3 (.a, siaS0) (low_fresh _)).more (by omega)
set_option maxHeartbeats 8000000 in
theorem sysc_awake (w : World) : Calls Tryz.prog 62 #[] w fun e w' => e = .returned (.bool true) ∧ Below w.heap.size w w' := by
  have hL := lay_some 1 1 1 none 0 0 289 (fun _ => 0) (fun _ => 0) w (by omega) ⟨⟨by omega⟩, by omega, by omega, by omega⟩ (by omega) (fun h => absurd h (by omega)) (fun i h => absurd h (by omega))
  go_enter Tryz.func62, Tryz.ntmps62
  go_wp2_with fail
  go_at_call 14; refine hL.mono ?_; rintro e w1 ⟨cl, A, A', cap, cap', c, b, c', b', rfl, hLd⟩
  have HI1 : Hid (Is w1 168 A cap c b 289 siaS0) := hLd.two.m
  have HY1 : Hid (Lay w1 cl 1 1 1) := hLd.lay
  have HB1 : Hid (Below w.heap.size w w1) := hLd.below
  have hne : Hid (cl ≠ c ∧ cl ≠ b) := lay_ne hLd.lay (by decide) hLd.two.m (by omega)
  have hup : Hid (w.heap.size ≤ c ∧ w.heap.size ≤ b) := ⟨hLd.up.2.1, hLd.up.2.2.1⟩
  have hLA := si_laws 0 1 1 1 0 0 cl (by omega)
  have hGA : ((siFl 0 0 0 cl).I siaM).Good siaM := Fl.good hLA
  have hLB : (soCp 1 1 1 0 0 0 cl).Laws (soPM 1 1 1 0 0 0) (Rd.lay cl 1 1 1) 0 := so_laws (by omega) (by omega) (by omega) (by omega)
  have hGB : ((soCp 1 1 1 0 0 0 cl).I).Good soaM := Cp.good hLB
  have HST : Hid (Steps siaM ((siFl 0 0 0 cl).I siaM) (Rd.lay cl 1 1 1) 67 0 ∧ Steps soaM ((soCp 1 1 1 0 0 0 cl).I) (Rd.lay cl 1 1 1) 69 0) := ⟨Fl.steps hLA stepby_sin, Cp.steps hLB stepby_sout⟩
  have HRF : Hid (c ∉ (Rd.lay cl 1 1 1).B ∧ b ∉ (Rd.lay cl 1 1 1).B) := ⟨fun h => hne.out.1 (List.mem_singleton.1 h).symm, fun h => hne.out.2 (List.mem_singleton.1 h).symm⟩
  have hN := si_new w1 cl 0 1 1 1 0 0 hLd.lay (by omega) (by omega) (by omega)
  clear hL hLd hLA hLB
  go_wp2_with fail
  go_at_call 63; refine hN.mono ?_; rintro e w2 ⟨x, L0, rfl, ha1, ha2, ha3, -⟩
  have HS0 : Hid (Solo ((siFl 0 0 0 cl).I siaM) (Rd.lay cl 1 1 1) w w2 A cap c b 289 siaS0 x SiT.a L0) := Solo.begin HI1.out ha2 HB1.out hup.out ha1 ha3 HY1.out (fun k hk => by obtain rfl : k = cl := List.mem_singleton.1 hk; exact HY1.out.lt) HRF.out
  clear hN ha1 ha2 ha3 HI1 HY1 HB1
  have hS0 := HS0.out.step hGA HST.out.1 (fun Y h => h) (fun k hk => hk) (by omega) ((PM.steps_low siaM 0 289 0 (.a, siaS0) (low_fresh _)).more (by omega))
  rw [show (siaM.ax (siaM.goT 289 SiT.a siaS0)).isNone = false from sia_ax.1] at hS0
  go_wp2_with fail
  go_at_call 67; refine hS0.mono ?_; rintro e v0 ⟨rfl, L1, hs⟩
  have HS1 : Hid (Solo ((siFl 0 0 0 cl).I siaM) (Rd.lay cl 1 1 1) w v0 A cap c b 289 (siaM.steps 0 289 1 (.a, siaS0)).2 x (siaM.steps 0 289 1 (.a, siaS0)).1 L1) := hs
  clear hS0 hs HS0
  have hS1 := HS1.out.step hGA HST.out.1 (fun Y h => h) (fun k hk => hk) (by omega) ((PM.steps_low siaM 0 289 1 (.a, siaS0) (low_fresh _)).more (by omega))
  rw [show (siaM.ax (siaM.goT 289 (siaM.steps 0 289 1 (.a, siaS0)).1 (siaM.steps 0 289 1 (.a, siaS0)).2)).isNone = false from sia_ax.2.1] at hS1
  go_wp2_with fail
  go_at_call 67; refine hS1.mono ?_; rintro e v1 ⟨rfl, L2, hs⟩
  have HS2 : Hid (Solo ((siFl 0 0 0 cl).I siaM) (Rd.lay cl 1 1 1) w v1 A cap c b 289 (siaM.steps 0 289 2 (.a, siaS0)).2 x (siaM.steps 0 289 2 (.a, siaS0)).1 L2) := hs
  clear hS1 hs HS1
  have hS2 := HS2.out.step hGA HST.out.1 (fun Y h => h) (fun k hk => hk) (by omega) ((PM.steps_low siaM 0 289 2 (.a, siaS0) (low_fresh _)).more (by omega))
  rw [show (siaM.ax (siaM.goT 289 (siaM.steps 0 289 2 (.a, siaS0)).1 (siaM.steps 0 289 2 (.a, siaS0)).2)).isNone = true from sia_ax.2.2.1] at hS2
  go_wp2_with fail
  go_at_call 67; refine hS2.mono ?_; rintro e v2 ⟨rfl, L3, hs⟩
  have HS3 : Hid (Solo ((siFl 0 0 0 cl).I siaM) (Rd.lay cl 1 1 1) w v2 A cap c b 289 (siaM.steps 0 289 3 (.a, siaS0)).2 x (siaM.steps 0 289 3 (.a, siaS0)).1 L3) := hs
  clear hS2 hs HS2
  have HAM : Hid (∀ Y, But [c, b] v2 Y → ((siFl 0 0 0 cl).I siaM) Y x siaT L3) := fun Y hY => hGA.keep HS3.out.mach hY (fun k hk => by have := HS3.out.far k hk; simp; exact ⟨this.1, this.2.1⟩)
  have hN := so_new v2 cl 0 0 0 1 1 1 HS3.out.rd (by omega)
  have HRA : Hid (∀ k ∈ L3, k ≠ c ∧ k ≠ b ∧ k < v2.heap.size) := fun k hk => ⟨(HS3.out.far k hk).1, (HS3.out.far k hk).2.1, hGA.lt HS3.out.mach k hk⟩
  go_wp2_with fail
  go_at_call 74; refine hN.mono ?_; rintro e w4 ⟨z, K0, rfl, hb1, hb2, hb3, -⟩
  have HT0 : Hid (Solo ((soCp 1 1 1 0 0 0 cl).I) ((Rd.lay cl 1 1 1).and (Rd.mach hGA x siaT L3)) w w4 A cap c b 289 siaS z SoT.sw K0) := Solo.begin HS3.out.mem hb2 HS3.out.below hup.out hb1 hb3 ⟨HS3.out.rd, HS3.out.mach⟩ (fun k hk => by
    rcases List.mem_append.1 hk with h | h
    · exact HS3.out.rlt k h
    · exact (HRA.out k h).2.2) ⟨fun hk => by
    rcases List.mem_append.1 hk with h | h
    · exact HRF.out.1 h
    · exact (HRA.out c h).1 rfl, fun hk => by
    rcases List.mem_append.1 hk with h | h
    · exact HRF.out.2 h
    · exact (HRA.out b h).2.1 rfl⟩
  clear hN hb1 hb2 hb3 HS3 HAM HRA HRF
  have hS0 := HT0.out.step hGB HST.out.2 (fun Y (h : ((Rd.lay cl 1 1 1).and (Rd.mach hGA x siaT L3)).P Y) => h.1) (fun k hk => List.mem_append_left _ hk) (by omega) ((PM.steps_low soaM 0 289 0 (.sw, siaS) sia_low).more (by omega))
  rw [show (soaM.ax (soaM.goT 289 SoT.sw siaS)).isNone = false from soa_ax.1] at hS0
  go_wp2_with fail
  go_at_call 69; refine hS0.mono ?_; rintro e u0 ⟨rfl, K1, hs⟩
  have HT1 : Hid (Solo ((soCp 1 1 1 0 0 0 cl).I) ((Rd.lay cl 1 1 1).and (Rd.mach hGA x siaT L3)) w u0 A cap c b 289 (soaM.steps 0 289 1 (.sw, siaS)).2 z (soaM.steps 0 289 1 (.sw, siaS)).1 K1) := hs
  clear hS0 hs HT0
  have hS1 := HT1.out.step hGB HST.out.2 (fun Y (h : ((Rd.lay cl 1 1 1).and (Rd.mach hGA x siaT L3)).P Y) => h.1) (fun k hk => List.mem_append_left _ hk) (by omega) ((PM.steps_low soaM 0 289 1 (.sw, siaS) sia_low).more (by omega))
  rw [show (soaM.ax (soaM.goT 289 (soaM.steps 0 289 1 (.sw, siaS)).1 (soaM.steps 0 289 1 (.sw, siaS)).2)).isNone = false from soa_ax.2.1] at hS1
  go_wp2_with fail
  go_at_call 69; refine hS1.mono ?_; rintro e u1 ⟨rfl, K2, hs⟩
  have HT2 : Hid (Solo ((soCp 1 1 1 0 0 0 cl).I) ((Rd.lay cl 1 1 1).and (Rd.mach hGA x siaT L3)) w u1 A cap c b 289 (soaM.steps 0 289 2 (.sw, siaS)).2 z (soaM.steps 0 289 2 (.sw, siaS)).1 K2) := hs
  clear hS1 hs HT1
  have hS2 := HT2.out.step hGB HST.out.2 (fun Y (h : ((Rd.lay cl 1 1 1).and (Rd.mach hGA x siaT L3)).P Y) => h.1) (fun k hk => List.mem_append_left _ hk) (by omega) ((PM.steps_low soaM 0 289 2 (.sw, siaS) sia_low).more (by omega))
  rw [show (soaM.ax (soaM.goT 289 (soaM.steps 0 289 2 (.sw, siaS)).1 (soaM.steps 0 289 2 (.sw, siaS)).2)).isNone = true from soa_ax.2.2] at hS2
  go_wp2_with fail
  go_at_call 69; refine hS2.mono ?_; rintro e u2 ⟨rfl, K3, hs⟩
  have HT3 : Hid (Solo ((soCp 1 1 1 0 0 0 cl).I) ((Rd.lay cl 1 1 1).and (Rd.mach hGA x siaT L3)) w u2 A cap c b 289 (soaM.steps 0 289 3 (.sw, siaS)).2 z (soaM.steps 0 289 3 (.sw, siaS)).1 K3) := hs
  clear hS2 hs HT2
  have HMB : Hid (((soCp 1 1 1 0 0 0 cl).I) u2 z soaT K3) := HT3.out.mach
  have HMA : Hid (((siFl 0 0 0 cl).I siaM) u2 x siaT L3) := HT3.out.rd.2
  have HBF : Hid (Below w.heap.size w u2) := HT3.out.below
  have t1 : Calls Tryz.prog 66 #[.pointer (some ⟨x, 0, none⟩)] u2 fun e w' => e = .returned (.bool true) ∧ u2 = w' := by
    have h := si_tells HMA.out
    rw [sia_ax.2.2.2] at h
    exact h
  have t2 : Calls Tryz.prog 70 #[.pointer (some ⟨z, 0, none⟩)] u2 fun e w' => e = .returned (.bool true) ∧ u2 = w' := by
    have h := so_tells_C HMB.out
    rw [soa_tells.1] at h
    exact h
  have t3 : Calls Tryz.prog 71 #[.pointer (some ⟨z, 0, none⟩)] u2 fun e w' => e = .returned (.bool true) ∧ u2 = w' := by
    have h := so_tells_R HMB.out
    rw [soa_tells.2.1] at h
    exact h
  have t4 : Calls Tryz.prog 72 #[.pointer (some ⟨z, 0, none⟩)] u2 fun e w' => e = .returned (.int .i64 0) ∧ u2 = w' := by
    have h := so_tells_P HMB.out
    rw [soa_tells.2.2.1] at h
    exact h
  have t5 := so_tells_H HMB.out
  rw [soa_tells.2.2.2] at t5
  clear HT3 HMA HMB
  go_wp2_with fail
  go_at_call 66; refine t1.mono ?_; rintro e q1 ⟨rfl, rfl⟩
  clear t1
  go_wp2_with fail
  go_at_call 70; refine t2.mono ?_; rintro e q1 ⟨rfl, rfl⟩
  clear t2
  go_wp2_with fail
  go_at_call 71; refine t3.mono ?_; rintro e q1 ⟨rfl, rfl⟩
  clear t3
  go_wp2_with fail
  go_at_call 72; refine t4.mono ?_; rintro e q1 ⟨rfl, rfl⟩
  clear t4
  go_wp2_with fail
  go_at_call 73; refine t5.mono ?_; rintro e q1 ⟨v, rfl, hv, hb⟩
  obtain ⟨A5, cp5, rfl, -, -⟩ := hv.sees
  have HF : Hid (Below w.heap.size w q1) := seq HBF.out hb
  clear t5 hv hb
  go_wp2_with fail
  go_ret
  exact ⟨rfl, HF.out⟩
end Go.Proofs.YtcjidigpdecdlaaGreat

namespace Go.Proofs.YtcjidigpdecdlaaGreat
open Go Go.ChangeShapes Go.WideShapes Go.ChangeAt Go.RowKit

theorem below_trodAll {H : Type} {enc : TypeId × Value → H} {P : Program} (hl : laidOutB P = true) {W W' : World} (hb : Below W.heap.size W W') :
    ∀ (ts : List TypeId) (vs : List Value) (ds : List (DataW H)) (ps : List MemPlace), (ts.all fun t => P.readableRec t && decide (t < P.types.size)) = true →
      DataW.TrodAll enc P W 0 (fun _ => true) true ts vs ds ps → DataW.TrodAll enc P W' 0 (fun b => decide (b < W.heap.size)) true ts vs ds ps := by
  intro ts
  induction ts with
  | nil =>
    intro vs ds ps _ h
    cases vs <;> cases ds <;> first | exact h | exact (h : False).elim
  | cons t ts ih =>
    intro vs ds ps hall h
    cases vs with
    | nil => exact (h : False).elim
    | cons v vs =>
      cases ds with
      | nil => exact (h : False).elim
      | cons d ds =>
        obtain ⟨p, q, h1, h2, rfl⟩ := h
        simp only [List.all_cons, Bool.and_eq_true, decide_eq_true_eq] at hall
        have lt : ∀ x ∈ p, x.block < W.heap.size := by obtain ⟨m, hm⟩ := h1; exact DataW.trod_lt m _ _ _ hm
        exact ⟨p, q, Below.trod hl hall.1.1 hall.1.2 h1 hb lt, ih vs ds q hall.2 h2, rfl⟩

theorem law_post {H : Type} {enc : TypeId × Value → H} {P : Program} {f : Func} {s : ChangeSpec} {apart : Bool} {W W' : World} {args : Array Value} {ds gs : List (DataW H)} {before : List MemPlace} {bt : TypeId}
    (hl : laidOutB P = true) (hr : f.resultTypes.toList = [bt]) (hbt : P.underlying bt = some .bool) (hts : (f.params.toList.all fun t => P.readableRec t && decide (t < P.types.size)) = true)
    (hvars : s.vars = []) (hres : (s.fn H ds).results = [.lit (.bool true)]) (harg : (s.fn H ds).args = ds) (hvs : (s.fn H ds).vars = [])
    (hW : DataW.Whole enc P f.params.toList s.vars apart W args.toList ds gs before) (hb : Below W.heap.size W W') :
    s.post enc P f apart true false false W args (.bool true) W' := by
  have hW' := hW
  obtain ⟨p, q, hA, hV, rfl, hfz, hnd⟩ := hW
  have hg : gs = [] ∧ q = [] := by rw [hvars] at hV; exact trodVars_none hV
  obtain ⟨rfl, rfl⟩ := hg
  refine ⟨ds, [], _, [], p, [], hW', ?_, ?_, ?_, hb.frame _, fun h => by cases h⟩
  · have e : (Value.bool true).resultList f.resultTypes.size = [.bool true] := by
      have hs : f.resultTypes.size = 1 := by rw [← Array.length_toList, hr]; rfl
      rw [hs]; rfl
    rw [List.append_nil, hres, hr, e]
    exact trodAll_mk1 (shut_bool hbt _)
  · rw [List.append_nil, harg]
    exact below_trodAll hl hb _ _ _ _ hts hA
  · rw [List.append_nil, hvs, hvars]
    rfl
end Go.Proofs.YtcjidigpdecdlaaGreat

namespace Go.Proofs.YtcjidigpdecdlaaGreat
open Go Go.ChangeShapes Go.WideShapes Go.ChangeAt Go.RowKit Go.Joins
set_option linter.unusedVariables false
set_option linter.unusedSimpArgs false

theorem own_syscIn : ownKnob Tryz.prog.godebug = none := by kernel_rfl
theorem laidOut_syscIn : laidOutB Tryz.prog = true := by kernel_rfl

set_option maxRecDepth 100000 in
theorem lifted_syscIn (os : Os) (started : os.Started) (H : Type) (enc : TypeId × Value → H) :
    ReturnsInHanded {} Tryz.checked os 10 .any (Rows.syscInSpec.pre6 enc Tryz.prog Tryz.f10 Rows.syscInRow.domain false) (Rows.syscInSpec.post enc Tryz.prog Tryz.f10 false true false false) := by
  refine returnsInHanded_of_change (C := Tryz.checked) own_syscIn started (by kernel_rfl) Tryz.func10
    (ChangeSpec.witness6 (enc := enc) (C := Tryz.checked) false ⟨#[], #[.agg #[.int .i64 0, .int .i64 0, .int .i64 0, .slice none 0 0], .agg #[.int .i64 0, .int .i64 0, .int .i64 0], .slice none 0 0], []⟩ 8 (by kernel_rfl) (by kernel_rfl) (by kernel_rfl) (by kernel_rfl)) ?_
  intro W base args ds gs before hval0 hW hcnd _
  have hval : ∀ (j : Nat) t v, Tryz.f10.params[j]? = some t → args[j]? = some v → Value.okWide Tryz.prog W .any base t v := hval0
  have hW' := hW
  obtain ⟨p, q, hA0, hV, rfl, hfz, hnd⟩ := hW
  have hA : DataW.TrodAll enc Tryz.prog W 0 (fun _ => true) true Tryz.f10.params.toList args.toList ds p := hA0
  rw [Tryz.params10] at hA hval
  obtain ⟨v0, vs0, d0, ds0, p0, q0, hargs, rfl, rfl, h0, r0⟩ := trodAll_cons hA
  obtain ⟨v1, vs1, d1, ds1, p1, q1, rfl, rfl, rfl, h1, r1⟩ := trodAll_cons r0
  obtain ⟨v2, vs2, d2, ds2, p2, q2, rfl, rfl, rfl, h2, r2⟩ := trodAll_cons r1
  obtain ⟨rfl, rfl, rfl⟩ := trodAll_nil r2
  obtain rfl : args = #[v0, v1, v2] := by cases args; simp_all
  obtain ⟨P, T, G, E, m, cp, a, x, rfl, hm, hs, hx⟩ := open_ground (hval 0 26 v0 rfl rfl) h0
  unfold maxLen at hm
  obtain ⟨x0, x1, x2, rfl, cx0, cx1, cx2⟩ := open_cfg Tryz.underlying103 (by kernel_rfl) (by kernel_rfl) Tryz.underlying3 Tryz.underlying3 Tryz.underlying3 (hval 1 103 v1 rfl rfl) h1
  obtain ⟨F, mp, cq, Pks, rfl, hmp, hP, hpv⟩ := open_pokes (hval 2 28 v2 rfl rfl) h2
  unfold maxLen at hmp
  clear hA0 hval0
  refine (syscIn_walk P T G x0 x1 x2 E F m cp mp cq a x Pks W sysc_awake (by omega) (by omega) hs hx hP hpv).mono fun e W' ⟨he, hb⟩ => ?_
  subst he
  exact ⟨_, rfl, law_post laidOut_syscIn rfl Tryz.underlying4 (by kernel_rfl) rfl rfl rfl rfl hW' hb⟩

theorem syscIn_jlaid : laidOutB Tryz.pinned.checked.prog = true := by kernel_rfl
theorem syscIn_jmaps : mapsRowed Tryz.pinned.checked.prog = true := by kernel_rfl
theorem syscIn_jinp : (Rows.syscInRow.inPlace == Tryz.pinned.checked.prog.inPlace 10) = true := by kernel_rfl
theorem syscIn_junf : (Rows.syscInRow.unfollowed == Tryz.pinned.checked.prog.unfollowed 10) = true := by kernel_rfl
theorem syscIn_jrec : (Rows.syscInRow.recurses == Tryz.pinned.checked.prog.recurses 10) = true := by kernel_rfl
theorem syscIn_jnam : (Rows.syscInRow.named == Tryz.pinned.checked.prog.varsNamed 10) = true := by kernel_rfl
theorem syscIn_closed : joinedFacts Tryz.pinned.checked.prog 10 Tryz.f10 Rows.syscInSpec Rows.syscInRow = true := by
  unfold joinedFacts
  rw [syscIn_jlaid, syscIn_jmaps, syscIn_jinp, syscIn_junf, syscIn_jrec, syscIn_jnam]
  kernel_rfl
theorem syscIn_holds : Rows.SyscInSaid :=
  OpenClaim.holds_of_wide 10 Tryz.f10 rfl rfl rfl rfl rfl rfl rfl ⟨rfl, rfl, rfl, rfl, rfl⟩ rfl rfl rfl rfl rfl (by kernel_rfl) Tryz.func10 syscIn_closed
    (of_decide_eq_true (by kernel_rfl)) (by unfold Func.isWrapper; first | (rw [if_pos (by decide +kernel)]; kernel_rfl) | (rw [if_neg (by decide +kernel)]; exact ⟨rfl, rfl⟩))
    (fun os started H enc _ => lifted_syscIn os started H enc)
#print axioms syscIn_holds
end Go.Proofs.YtcjidigpdecdlaaGreat
