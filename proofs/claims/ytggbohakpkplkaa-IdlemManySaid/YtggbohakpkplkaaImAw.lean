/- idlem: the page's example. -/
import Derived.Test.YtggbohakpkplkaaAwK
import Derived.Test.YtggbohakpkplkaaIm2
import Derived.Test.YtggbohakpkplkaaImSp
namespace Go.Proofs.Ytggbohakpkplkaa
open Go Go.RowKit
set_option linter.unusedVariables false
set_option maxRecDepth 100000
set_option linter.unusedSimpArgs false

def imaM : PM JgT := jgPM 1 2
def imaN : PM ImT := imPM 1 2 0
def imaPre (j : Nat) (s : St) : St := if j = 3 then (imaN.steps 0 292 4 (.h0, s)).2 else s
def imaAt : Nat → St
  | 0 => fresh (fun _ => 0)
  | i + 1 => (imaM.steps 0 292 4 (.ld, imaPre i (imaAt i))).2
def imaT (j : Nat) : JgT := (imaM.steps 0 292 4 (.ld, imaPre j (imaAt j))).1
def imaW : List Int := [0, 1, -1, 0]
theorem imaT_obs : ∀ (j : Nat), j < 4 → imaW.take (j + 1) = imaW.take j ++ [(imaT j).obs] := by
  intro j hj
  rcases (by omega : j = 0 ∨ j = 1 ∨ j = 2 ∨ j = 3) with rfl | rfl | rfl | rfl <;> decide +kernel
theorem ima_spare : spv 2 (peekT 292 (imaAt 4) 12) (peekT 292 (imaAt 4) 15) = 0 := by decide +kernel
theorem imaPre_low (j : Nat) (s : St) (m : Int) (h : Low s m) : Low (imaPre j s) (m + 4) := by
  unfold imaPre
  split
  · exact (PM.steps_low imaN 0 292 4 (.h0, s) h).more (by omega)
  · exact h.more (by omega)
theorem imaAt_low : ∀ j, Low (imaAt j) (9 * j)
  | 0 => low_fresh _
  | j + 1 => (PM.steps_low imaM 0 292 4 (.ld, imaPre j (imaAt j)) (imaPre_low j _ _ (imaAt_low j))).more (by omega)

set_option maxHeartbeats 8000000 in
theorem idlem_awake (w : World) : Calls Try.prog 36 #[] w fun e w' => e = .returned (.bool true) ∧ Below w.heap.size w w' := by
  obtain ⟨i0, hi, hz0, hz1, hz2⟩ := info_parts RI.lists_info3
  have hL := lay_some 1 2 1 none 0 0 292 (fun _ => 0) (fun _ => 0) w (by omega) ⟨⟨by omega⟩, by omega, by omega, by omega⟩ (by omega) (fun h => absurd h (by omega)) (fun i h => absurd h (by omega))
  have HLM : Hid (∀ cl, (jgFl 0 2 cl).Laws imaM (Rd.lay cl 1 2 1) 0) := fun cl => jg_laws 0 1 2 1 cl (by omega) (by omega)
  have HLN : Hid (∀ cl, (imFl 0 0 cl).Laws imaN (Rd.lay cl 1 2 1) 0) := fun cl => im_laws 0 1 2 1 0 cl (by omega) (by omega)
  go_enter Try.func36, Try.ntmps36
  go_wp2_with fail
  go_at_call 10; refine hL.mono ?_; rintro e w1 ⟨cl, A, A', cap, cap', c, b, c', b', rfl, hLd⟩
  have HB1 : Hid (Below w.heap.size w w1) := hLd.below
  have HI0 : Hid (Is w1 111 A cap c b 292 (imaAt 0)) := hLd.two.m
  have HY0 : Hid (Lay w1 cl 1 2 1) := hLd.lay
  have hne : Hid (cl ≠ c ∧ cl ≠ b) := lay_ne hLd.lay (by decide) hLd.two.m (by omega)
  have hup : Hid (w.heap.size ≤ c ∧ w.heap.size ≤ b) := ⟨hLd.up.2.1, hLd.up.2.2.1⟩
  have hlo : Hid (c < w1.heap.size ∧ b < w1.heap.size ∧ cl < w1.heap.size) := ⟨hLd.two.m.lt, hLd.two.m.bl, hLd.lay.lt⟩
  have HR0 : Hid (RI.IntsOn w1 w1.heap.size (.slice none 0 0) (imaW.take 0)) := ⟨World.ownsRow_nil _ _ _ _⟩
  have HBS : Hid (w.heap.size ≤ w1.heap.size) := HB1.out.size
  generalize hbb : w1.heap.size = B0 at HR0 hlo HBS
  have HBB : Hid (B0 ≤ w1.heap.size) := (by omega : B0 ≤ w1.heap.size)
  have HGM : Hid (((jgFl 0 2 cl).I imaM).Good imaM ∧ Steps imaM ((jgFl 0 2 cl).I imaM) (Rd.lay cl 1 2 1) 42 0) := ⟨Fl.good (HLM.out cl), Fl.steps (HLM.out cl) stepby_img⟩
  have HGN : Hid (((imFl 0 0 cl).I imaN).Good imaN ∧ Steps imaN ((imFl 0 0 cl).I imaN) (Rd.lay cl 1 2 1) 40 0) := ⟨Fl.good (HLN.out cl), Fl.steps (HLN.out cl) stepby_imp⟩
  have HRF : Hid (∀ (W Y : World) (v : Value) (l : List Int), Lay W cl 1 2 1 → RI.IntsOn W B0 v l → (∀ k ∈ ((Rd.lay cl 1 2 1).and (Rd.ints B0 v l)).B, k < W.heap.size) ∧ (c ∉ ((Rd.lay cl 1 2 1).and (Rd.ints B0 v l)).B ∧ b ∉ ((Rd.lay cl 1 2 1).and (Rd.ints B0 v l)).B)) := fun W _ v l hy hv => by
    have hU := hv.up
    refine ⟨fun k hk => ?_, fun hm => ?_, fun hm => ?_⟩
    · rcases List.mem_append.1 hk with hk | hk
      · have : k = cl := List.mem_singleton.1 hk
        rw [this]; exact hy.lt
      · exact (hU k hk).2
    · rcases List.mem_append.1 hm with hm | hm
      · exact hne.out.1 (List.mem_singleton.1 hm).symm
      · have h1 := (hU _ hm).1; have h2 := hlo.out; omega
    · rcases List.mem_append.1 hm with hm | hm
      · exact hne.out.2 (List.mem_singleton.1 hm).symm
      · have h1 := (hU _ hm).1; have h2 := hlo.out; omega
  clear hL hLd hbb HLM HLN
  go_wp2_with fail
  go_loopw [5, 6] (fun vv i wr => ∃ (j : Nat) (v : Value), v = vv ∧ j ≤ 4 ∧ i = .int .i64 j ∧ Hid (Is wr 111 A cap c b 292 (imaAt j)) ∧ Hid (Lay wr cl 1 2 1) ∧ Hid (Below w.heap.size w wr) ∧ Hid (RI.IntsOn wr B0 v (imaW.take j)) ∧ Hid (B0 ≤ wr.heap.size)) (fun v i _ => 4 - (intOf i).toNat)
  case atStart => exact ⟨0, _, rfl, by omega, rfl, HI0, HY0, HB1, HR0, HBB⟩
  case round =>
    clear HI0 HY0 HB1 HR0 HBB
    obtain ⟨j, v, rfl, hj, rfl, HI, HY, HB, HV, HBB⟩ := hrel
    by_cases hlt : j < 4
    · have hk1 : (j : Int) < 4 := by omega
      have hk0 : (0 : Int) ≤ (j : Int) := by omega
      by_cases hj3 : j = 3
      · have hd3 : ((j : Int) == 3) = true := by simp; omega
        have HLJ : Hid (Low (imaAt j) (9 * j)) := imaAt_low j
        have hN := fun Y => im_new Y cl 0 0 1 2
        go_wp2_with fail
        go_at_call 37; refine (hN _).mono ?_; rintro e w3 ⟨y, L0, rfl, hi0, hb3, hu1, -⟩
        have HS0 : Hid (Solo ((imFl 0 0 cl).I imaN) ((Rd.lay cl 1 2 1).and (Rd.ints B0 v (imaW.take j))) w w3 A cap c b 292 (imaN.steps 0 292 0 (.h0, imaAt j)).2 y (imaN.steps 0 292 0 (.h0, imaAt j)).1 L0) := Solo.begin HI.out hb3 HB.out hup.out hi0 hu1 ⟨HY.out, HV.out⟩ (HRF.out _ w3 _ _ HY.out HV.out).1 (HRF.out _ w3 _ _ HY.out HV.out).2
        have HLO : Hid (∀ q : Nat, q ≤ 4 → Low (imaN.steps 0 292 q (.h0, imaAt j)).2 1000000) := fun q hq => (PM.steps_low imaN 0 292 q (.h0, imaAt j) HLJ.out).more (by omega)
        have HB3 : Hid (B0 ≤ w3.heap.size) := Nat.le_trans HBB.out hb3.size
        clear hN hi0 hb3 hu1 HI HY HB HV HBB
        go_wp2_with fail
        go_loopw [8] (fun k wi => ∃ (q : Nat) (L : List Nat), q ≤ 4 ∧ k = .int .i64 q ∧ Hid (Solo ((imFl 0 0 cl).I imaN) ((Rd.lay cl 1 2 1).and (Rd.ints B0 v (imaW.take j))) w wi A cap c b 292 (imaN.steps 0 292 q (.h0, imaAt j)).2 y (imaN.steps 0 292 q (.h0, imaAt j)).1 L) ∧ Hid (B0 ≤ wi.heap.size)) (fun k _ => 4 - (intOf k).toNat)
        case atStart => exact ⟨0, L0, by omega, rfl, HS0, HB3⟩
        case round =>
          clear HS0 HB3
          obtain ⟨q, L, hq, rfl, HS, HBB⟩ := hrel
          by_cases hq9 : q < 4
          · have hSt := HS.out.stepUp HGN.out.1 HGN.out.2 (fun Y (h : ((Rd.lay cl 1 2 1).and (Rd.ints B0 v (imaW.take j))).P Y) => h.1) (fun k hk => List.mem_append_left _ hk) (by omega) (HLO.out q hq)
            rw [show imaN.goS 0 292 (imaN.steps 0 292 q (.h0, imaAt j)).1 (imaN.steps 0 292 q (.h0, imaAt j)).2 = (imaN.steps 0 292 (q + 1) (.h0, imaAt j)).2 by rw [PM.steps_succ], show imaN.goT 292 (imaN.steps 0 292 q (.h0, imaAt j)).1 (imaN.steps 0 292 q (.h0, imaAt j)).2 = (imaN.steps 0 292 (q + 1) (.h0, imaAt j)).1 by rw [PM.steps_succ]] at hSt
            have hq1 : (q : Int) < 4 := by omega
            have hq0 : (0 : Int) ≤ (q : Int) := by omega
            clear HS
            go_wp2_with fail
            go_at_call 40; refine hSt.mono ?_; rintro e w4 ⟨rfl, hsz', L', hS'⟩
            have HS' : Hid _ := hS'
            have HBB' : Hid (B0 ≤ w4.heap.size) := Nat.le_trans HBB.out hsz'
            clear hSt hS'
            go_wp2_with fail
            go_roundw
            case rel => exact ⟨q + 1, L', by omega, by go_num, HS', HBB'⟩
            case measure => simp [intOf]; omega
          · obtain rfl : q = 4 := by omega
            clear HLO
            obtain ⟨sj, hsj⟩ : ∃ sj, sj = imaPre j (imaAt j) := ⟨_, rfl⟩
            have HSJ : Hid (sj = imaPre j (imaAt j)) := hsj
            have hps : (imaN.steps 0 292 4 (.h0, imaAt j)).2 = sj := by rw [hsj]; unfold imaPre; rw [if_pos hj3]
            rw [hps] at HS
            have HI : Hid _ := HS.out.mem
            have HY : Hid (Lay _ cl 1 2 1) := HS.out.rd.1
            have HB : Hid _ := HS.out.below
            have HV : Hid (RI.IntsOn _ B0 v (imaW.take j)) := HS.out.rd.2
            clear HLJ HS
            have HLJ : Hid (Low sj (9 * j + 4)) := (by rw [hsj]; exact imaPre_low j _ _ (imaAt_low j) : Low sj (9 * j + 4))
            clear hsj hps hd3
            have hN := fun Y => jg_new Y cl 0 1 2
            go_wp2_with fail
            go_at_call 44; refine (hN _).mono ?_; rintro e w3 ⟨x, L0, rfl, hi0, hb3, hu1, -⟩
            have HS0 : Hid (Solo ((jgFl 0 2 cl).I imaM) ((Rd.lay cl 1 2 1).and (Rd.ints B0 v (imaW.take j))) w w3 A cap c b 292 (imaM.steps 0 292 0 (.ld, sj)).2 x (imaM.steps 0 292 0 (.ld, sj)).1 L0) := Solo.begin HI.out hb3 HB.out hup.out hi0 hu1 ⟨HY.out, HV.out⟩ (HRF.out _ w3 _ _ HY.out HV.out).1 (HRF.out _ w3 _ _ HY.out HV.out).2
            have HLO : Hid (∀ q : Nat, q ≤ 4 → Low (imaM.steps 0 292 q (.ld, sj)).2 1000000) := fun q hq => (PM.steps_low imaM 0 292 q (.ld, sj) HLJ.out).more (by omega)
            have HB3 : Hid (B0 ≤ w3.heap.size) := Nat.le_trans HBB.out hb3.size
            clear hN hi0 hb3 hu1 HI HY HB HV HBB
            go_wp2_with fail
            go_loopw [10] (fun k wi => ∃ (q : Nat) (L : List Nat), q ≤ 4 ∧ k = .int .i64 q ∧ Hid (Solo ((jgFl 0 2 cl).I imaM) ((Rd.lay cl 1 2 1).and (Rd.ints B0 v (imaW.take j))) w wi A cap c b 292 (imaM.steps 0 292 q (.ld, sj)).2 x (imaM.steps 0 292 q (.ld, sj)).1 L) ∧ Hid (B0 ≤ wi.heap.size)) (fun k _ => 4 - (intOf k).toNat)
            case atStart => exact ⟨0, L0, by omega, rfl, HS0, HB3⟩
            case round =>
              clear HS0 HB3
              obtain ⟨q, L, hq, rfl, HS, HBB⟩ := hrel
              by_cases hq9 : q < 4
              · have hSt := HS.out.stepUp HGM.out.1 HGM.out.2 (fun Y (h : ((Rd.lay cl 1 2 1).and (Rd.ints B0 v (imaW.take j))).P Y) => h.1) (fun k hk => List.mem_append_left _ hk) (by omega) (HLO.out q hq)
                rw [show imaM.goS 0 292 (imaM.steps 0 292 q (.ld, sj)).1 (imaM.steps 0 292 q (.ld, sj)).2 = (imaM.steps 0 292 (q + 1) (.ld, sj)).2 by rw [PM.steps_succ], show imaM.goT 292 (imaM.steps 0 292 q (.ld, sj)).1 (imaM.steps 0 292 q (.ld, sj)).2 = (imaM.steps 0 292 (q + 1) (.ld, sj)).1 by rw [PM.steps_succ]] at hSt
                have hq1 : (q : Int) < 4 := by omega
                have hq0 : (0 : Int) ≤ (q : Int) := by omega
                clear HS
                go_wp2_with fail
                go_at_call 42; refine hSt.mono ?_; rintro e w4 ⟨rfl, hsz', L', hS'⟩
                have HS' : Hid _ := hS'
                have HBB' : Hid (B0 ≤ w4.heap.size) := Nat.le_trans HBB.out hsz'
                clear hSt hS'
                go_wp2_with fail
                go_roundw
                case rel => exact ⟨q + 1, L', by omega, by go_num, HS', HBB'⟩
                case measure => simp [intOf]; omega
              · obtain rfl : q = 4 := by omega
                clear HLO
                have hGv := jg_got HS.out.mach
                rw [show (imaM.steps 0 292 4 (.ld, sj)).1.obs = (imaT j).obs by rw [HSJ.out]; rfl] at hGv
                have HT : Hid (imaW.take (j + 1) = imaW.take j ++ [(imaT j).obs]) := imaT_obs j hlt
                have HO : Hid (RI.IntsOn _ B0 v (imaW.take j)) := HS.out.rd.2
                have hOO := HO.out.own
                have hln : (imaW.take j).length = j := by rw [List.length_take]; show min j 4 = j; omega
                have HLN : Hid _ := hln
                rw [hln] at hOO
                have HF : Hid _ := HS.out
                generalize (imaT j).obs = gv at *
                clear HS hln
                go_wp2_with fail
                go_at_call 43; refine hGv.mono ?_; rintro e w4 ⟨rfl, rfl⟩
                go_wp2_with (at_builtin; refine wpList_append_own _ rfl _ _ 62 rfl B0 3 i0 (.int .i64 0) 1 8 Try.underlying62 hi hz0 hz1 hz2 rfl (by decide) _ _ _ rfl (hOO.alloc _) ⟨wr.heap.size, 0, none⟩ 1 1 [.int .i64 gv] rfl rfl (cell_one_new _ _ _) (ints_oneCell .i64 [gv]) (by unfold maxLen; omega) (by omega) (by have := HBB.out; simp; omega) ?_; intro v' w5 hown' hgrow2 hnil2)
                have hBu : But (rowB v) wr w5 := ((But.refl _ _).alloc _).grown hgrow2 (fun k hk => .inl (rowB_mem hk))
                have hUP := HO.out.up
                have HI5 : Hid (Is w5 111 A cap c b 292 (imaAt (j + 1))) := by
                  have := HF.out.mem.but hBu (fun hm => HF.out.rfar.1 (List.mem_append_right _ hm)) (fun hm => HF.out.rfar.2 (List.mem_append_right _ hm))
                  rw [HSJ.out] at this
                  exact this
                have HY5 : Hid (Lay w5 cl 1 2 1) := (hBu.block cl (HF.out.rd.1 : Lay wr cl 1 2 1).lt (fun hm => by have h1 := (hUP _ hm).1; have h2 := hlo.out; omega)).trans (HF.out.rd.1 : Lay wr cl 1 2 1)
                have HB5 : Hid (Below w.heap.size w w5) := HF.out.below.trans (hBu.below (fun k hk => by have h1 := (hUP _ hk).1; have := HBS.out; omega) HF.out.below.size)
                have HBB5 : Hid (B0 ≤ w5.heap.size) := Nat.le_trans HBB.out hBu.size
                have HV5 : Hid (RI.IntsOn w5 B0 v' (imaW.take (j + 1))) := ⟨by
                  rw [HT.out, List.map_append, List.length_append, HLN.out]
                  exact hown'⟩
                clear hown' hgrow2 hnil2 hBu hUP hOO HO HF
                go_wp2_with fail
                go_roundw
                case rel => exact ⟨j + 1, v', rfl, by omega, by go_num, HI5, HY5, HB5, HV5, HBB5⟩
                case measure => simp [intOf]; omega
      · have hd3 : ((j : Int) == 3) = false := by simp; omega
        obtain ⟨sj, hsj⟩ : ∃ sj, sj = imaPre j (imaAt j) := ⟨_, rfl⟩
        have HSJ : Hid (sj = imaPre j (imaAt j)) := hsj
        have hps : imaAt j = sj := by rw [hsj]; unfold imaPre; rw [if_neg hj3]
        rw [hps] at HI
        have HLJ : Hid (Low sj (9 * j + 4)) := (by rw [hsj]; exact imaPre_low j _ _ (imaAt_low j) : Low sj (9 * j + 4))
        clear hsj hps
        have hN := fun Y => jg_new Y cl 0 1 2
        go_wp2_with fail
        go_at_call 44; refine (hN _).mono ?_; rintro e w3 ⟨x, L0, rfl, hi0, hb3, hu1, -⟩
        have HS0 : Hid (Solo ((jgFl 0 2 cl).I imaM) ((Rd.lay cl 1 2 1).and (Rd.ints B0 v (imaW.take j))) w w3 A cap c b 292 (imaM.steps 0 292 0 (.ld, sj)).2 x (imaM.steps 0 292 0 (.ld, sj)).1 L0) := Solo.begin HI.out hb3 HB.out hup.out hi0 hu1 ⟨HY.out, HV.out⟩ (HRF.out _ w3 _ _ HY.out HV.out).1 (HRF.out _ w3 _ _ HY.out HV.out).2
        have HLO : Hid (∀ q : Nat, q ≤ 4 → Low (imaM.steps 0 292 q (.ld, sj)).2 1000000) := fun q hq => (PM.steps_low imaM 0 292 q (.ld, sj) HLJ.out).more (by omega)
        have HB3 : Hid (B0 ≤ w3.heap.size) := Nat.le_trans HBB.out hb3.size
        clear hN hi0 hb3 hu1 HI HY HB HV HBB
        go_wp2_with fail
        go_loopw [10] (fun k wi => ∃ (q : Nat) (L : List Nat), q ≤ 4 ∧ k = .int .i64 q ∧ Hid (Solo ((jgFl 0 2 cl).I imaM) ((Rd.lay cl 1 2 1).and (Rd.ints B0 v (imaW.take j))) w wi A cap c b 292 (imaM.steps 0 292 q (.ld, sj)).2 x (imaM.steps 0 292 q (.ld, sj)).1 L) ∧ Hid (B0 ≤ wi.heap.size)) (fun k _ => 4 - (intOf k).toNat)
        case atStart => exact ⟨0, L0, by omega, rfl, HS0, HB3⟩
        case round =>
          clear HS0 HB3
          obtain ⟨q, L, hq, rfl, HS, HBB⟩ := hrel
          by_cases hq9 : q < 4
          · have hSt := HS.out.stepUp HGM.out.1 HGM.out.2 (fun Y (h : ((Rd.lay cl 1 2 1).and (Rd.ints B0 v (imaW.take j))).P Y) => h.1) (fun k hk => List.mem_append_left _ hk) (by omega) (HLO.out q hq)
            rw [show imaM.goS 0 292 (imaM.steps 0 292 q (.ld, sj)).1 (imaM.steps 0 292 q (.ld, sj)).2 = (imaM.steps 0 292 (q + 1) (.ld, sj)).2 by rw [PM.steps_succ], show imaM.goT 292 (imaM.steps 0 292 q (.ld, sj)).1 (imaM.steps 0 292 q (.ld, sj)).2 = (imaM.steps 0 292 (q + 1) (.ld, sj)).1 by rw [PM.steps_succ]] at hSt
            have hq1 : (q : Int) < 4 := by omega
            have hq0 : (0 : Int) ≤ (q : Int) := by omega
            clear HS
            go_wp2_with fail
            go_at_call 42; refine hSt.mono ?_; rintro e w4 ⟨rfl, hsz', L', hS'⟩
            have HS' : Hid _ := hS'
            have HBB' : Hid (B0 ≤ w4.heap.size) := Nat.le_trans HBB.out hsz'
            clear hSt hS'
            go_wp2_with fail
            go_roundw
            case rel => exact ⟨q + 1, L', by omega, by go_num, HS', HBB'⟩
            case measure => simp [intOf]; omega
          · obtain rfl : q = 4 := by omega
            clear HLO
            have hGv := jg_got HS.out.mach
            rw [show (imaM.steps 0 292 4 (.ld, sj)).1.obs = (imaT j).obs by rw [HSJ.out]; rfl] at hGv
            have HT : Hid (imaW.take (j + 1) = imaW.take j ++ [(imaT j).obs]) := imaT_obs j hlt
            have HO : Hid (RI.IntsOn _ B0 v (imaW.take j)) := HS.out.rd.2
            have hOO := HO.out.own
            have hln : (imaW.take j).length = j := by rw [List.length_take]; show min j 4 = j; omega
            have HLN : Hid _ := hln
            rw [hln] at hOO
            have HF : Hid _ := HS.out
            generalize (imaT j).obs = gv at *
            clear HS hln
            go_wp2_with fail
            go_at_call 43; refine hGv.mono ?_; rintro e w4 ⟨rfl, rfl⟩
            go_wp2_with (at_builtin; refine wpList_append_own _ rfl _ _ 62 rfl B0 3 i0 (.int .i64 0) 1 8 Try.underlying62 hi hz0 hz1 hz2 rfl (by decide) _ _ _ rfl (hOO.alloc _) ⟨wr.heap.size, 0, none⟩ 1 1 [.int .i64 gv] rfl rfl (cell_one_new _ _ _) (ints_oneCell .i64 [gv]) (by unfold maxLen; omega) (by omega) (by have := HBB.out; simp; omega) ?_; intro v' w5 hown' hgrow2 hnil2)
            have hBu : But (rowB v) wr w5 := ((But.refl _ _).alloc _).grown hgrow2 (fun k hk => .inl (rowB_mem hk))
            have hUP := HO.out.up
            have HI5 : Hid (Is w5 111 A cap c b 292 (imaAt (j + 1))) := by
              have := HF.out.mem.but hBu (fun hm => HF.out.rfar.1 (List.mem_append_right _ hm)) (fun hm => HF.out.rfar.2 (List.mem_append_right _ hm))
              rw [HSJ.out] at this
              exact this
            have HY5 : Hid (Lay w5 cl 1 2 1) := (hBu.block cl (HF.out.rd.1 : Lay wr cl 1 2 1).lt (fun hm => by have h1 := (hUP _ hm).1; have h2 := hlo.out; omega)).trans (HF.out.rd.1 : Lay wr cl 1 2 1)
            have HB5 : Hid (Below w.heap.size w w5) := HF.out.below.trans (hBu.below (fun k hk => by have h1 := (hUP _ hk).1; have := HBS.out; omega) HF.out.below.size)
            have HBB5 : Hid (B0 ≤ w5.heap.size) := Nat.le_trans HBB.out hBu.size
            have HV5 : Hid (RI.IntsOn w5 B0 v' (imaW.take (j + 1))) := ⟨by
              rw [HT.out, List.map_append, List.length_append, HLN.out]
              exact hown'⟩
            clear hown' hgrow2 hnil2 hBu hUP hOO HO HF
            go_wp2_with fail
            go_roundw
            case rel => exact ⟨j + 1, v', rfl, by omega, by go_num, HI5, HY5, HB5, HV5, HBB5⟩
            case measure => simp [intOf]; omega
    · obtain rfl : j = 4 := by omega
      have hS1 := RI.lsame_any (wr.alloc (.cells #[.int .i64 0, .int .i64 1, .int .i64 (-1), .int .i64 0] 3)) v _ imaW (by decide) ((HV.out.sees).below ((Below.refl _ _).alloc (Nat.le_refl _) _)) (lit4b_sees wr 0 1 (-1) 0)
      have HA7 : Hid (Below wr.heap.size wr (wr.alloc (.cells #[.int .i64 0, .int .i64 1, .int .i64 (-1), .int .i64 0] 3))) := (Below.refl _ _).alloc (Nat.le_refl _) _
      have HSP : Hid (∀ Y, Below wr.heap.size wr Y → Calls Try.prog 49 #[.pointer (some ⟨cl, 0, none⟩), .pointer (some ⟨c, 0, none⟩)] Y fun e w' => e = .returned (.int .i64 0) ∧ Below Y.heap.size Y w') := fun Y hY => by
        have h := spare_any Y A cap c b 292 cl (imaAt 4) 1 2 1 (HI.out.below hY) (by omega) (HY.out.below hY HY.out.lt) (by omega)
        rw [ima_spare] at h
        exact h
      have HBF : Hid _ := HB.out
      clear HI HY HV HB
      go_wp2_with fail
      go_at_call 29; refine hS1.mono ?_; rintro e w8 ⟨rfl, hb8⟩
      have HB8 : Hid (Below wr.heap.size wr w8) := seq HA7.out hb8
      have hSp := HSP.out w8 HB8.out
      clear hS1 hb8 HA7 HSP
      go_wp2_with fail
      go_at_call 49; refine hSp.mono ?_; rintro e w9 ⟨rfl, hb9⟩
      have HFF : Hid (Below w.heap.size w w9) := seq (seq HBF.out HB8.out) hb9
      clear hSp hb9
      go_wp2_with fail
      go_ret
      exact ⟨rfl, HFF.out⟩
end Go.Proofs.Ytggbohakpkplkaa
