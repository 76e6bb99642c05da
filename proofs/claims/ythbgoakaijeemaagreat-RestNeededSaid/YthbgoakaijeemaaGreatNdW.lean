/- RestNeeded: the walk. -/
import Derived.Test.YthbgoakaijeemaaGreatNd
import Derived.Test.YthbgoakaijeemaaGreatBB
import Derived.BigRegion
namespace Go.Proofs.YthbgoakaijeemaaGreat
open Go Go.RowKit
set_option linter.unusedVariables false
set_option maxRecDepth 100000
set_option linter.unusedSimpArgs false

theorem nd_sees {W : World} {b : Nat} {p v1 v4 : Int} (hb : Blk W b #[.int .i64 9, .int .u64 v1, .int .i64 10, .int .u64 1, .int .i64 14, .int .u64 1, .int .i64 19, .int .u64 v4] 93) (h1 : v1 = ndV p 0) (h4 : v4 = ndV p 3) : SeesP W W.heap.size (some ⟨b, 0, none⟩) 4 ndA (ndV p) := fun _ => ⟨b, 0, rfl, hb.lt, fun j hj => by
  subst h1; subst h4
  rcases (by omega : j = 0 ∨ j = 1 ∨ j = 2 ∨ j = 3) with rfl | rfl | rfl | rfl
  · exact ⟨hb.cell 0 rfl, hb.cell 1 rfl⟩
  · exact ⟨hb.cell 2 rfl, hb.cell 3 rfl⟩
  · exact ⟨hb.cell 4 rfl, hb.cell 5 rfl⟩
  · exact ⟨hb.cell 6 rfl, hb.cell 7 rfl⟩⟩
set_option maxHeartbeats 8000000 in
theorem needed_at0 (P T G t : Int) (w : World) (hAw : ∀ w, Calls Tryz.prog 40 #[] w fun e w' => e = .returned (.bool true) ∧ Below w.heap.size w w') (hP : 1 ≤ P ∧ P ≤ 4) (hT : P ≤ T ∧ T ≤ 8) (hp : (0 : Int) < P) (ht : 0 ≤ t ∧ t < T) :
    Calls Tryz.prog 10 #[.agg #[.int .i64 P, .int .i64 T, .int .i64 G], .int .i64 0, .int .i64 t] w fun e w' => e = .returned (.bool true) ∧ Below w.heap.size w w' := by
  have HAW : Hid (∀ w, Calls Tryz.prog 40 #[] w fun e w' => e = .returned (.bool true) ∧ Below w.heap.size w w') := hAw
  have HNN : Hid (((ndN P T : Nat) : Int) = 20 + 264 * P + 3 * T + 2 * 1) := (by unfold ndN; omega : ((ndN P T : Nat) : Int) = 20 + 264 * P + 3 * T + 2 * 1)
  have HRUN : Hid (ndRun P T t 0 20 (.acq .fresh, ndS P T 0) = true) := nd_all P T t 0 hP hT (by omega) ht
  have HL0 : Hid (∀ (E : Option Addr) (W : World), SeesP W W.heap.size E 4 ndA (ndV 0) → Calls Tryz.prog 11 #[.agg #[.int .i64 P, .int .i64 T, .int .i64 1, .slice E (4 : Nat) 4]] W fun e w' => ∃ (cl : Nat) (A A' : Option Addr) (cap cap' c b c' b' : Nat), e = .returned (.tuple #[.pointer (some ⟨cl, 0, none⟩), .pointer (some ⟨c, 0, none⟩), .pointer (some ⟨c', 0, none⟩), .bool true]) ∧ Laid W w' P T 1 (ndN P T) (putF ndA (ndV 0) (ndN P T) 4) cl A A' cap cap' c b c' b') := fun E W hs =>
    lay_some P T 1 E 4 4 (ndN P T) ndA (ndV 0) W (by omega) ⟨⟨by omega⟩, by omega, by omega, by omega⟩ HNN.out hs (fun i hi => by rcases (by omega : i = 0 ∨ i = 1 ∨ i = 2 ∨ i = 3) with rfl | rfl | rfl | rfl <;> exact ⟨by decide, by decide⟩)
  have HBD : Hid ((1 ≤ P ∧ P ≤ 4) ∧ (P ≤ T ∧ T ≤ 8) ∧ (0 ≤ t ∧ t < T)) := ⟨hP, hT, ht⟩
  have HX1 : Hid (Blk (((w.alloc (.cells #[.int .i64 P, .int .i64 T, .int .i64 G] 23)).alloc (.cells #[.int .i64 9, .int .u64 1, .int .i64 10, .int .u64 1, .int .i64 14, .int .u64 1, .int .i64 19, .int .u64 1] 93)).alloc (.cells #[.int .i64 P, .int .i64 T, .int .i64 1, .slice (some ⟨w.heap.size + 1, 0, none⟩) 4 4] 26)).drew (w.heap.size + 1) #[.int .i64 9, .int .u64 1, .int .i64 10, .int .u64 1, .int .i64 14, .int .u64 1, .int .i64 19, .int .u64 1] 93) := by
    have := ((Blk.new (w.alloc (.cells #[.int .i64 P, .int .i64 T, .int .i64 G] 23)) #[.int .i64 9, .int .u64 1, .int .i64 10, .int .u64 1, .int .i64 14, .int .u64 1, .int .i64 19, .int .u64 1] 93).al (.cells #[.int .i64 P, .int .i64 T, .int .i64 1, .slice (some ⟨w.heap.size + 1, 0, none⟩) 4 4] 26)).drew
    rw [World.size_alloc] at this
    exact this
  have HX2 : Hid (Blk (((w.alloc (.cells #[.int .i64 P, .int .i64 T, .int .i64 G] 23)).alloc (.cells #[.int .i64 P, .int .i64 T, .int .i64 1, .slice (some ⟨w.heap.size + 1 + 1, 0, none⟩) 4 4] 26)).alloc (.cells #[.int .i64 9, .int .u64 1, .int .i64 10, .int .u64 1, .int .i64 14, .int .u64 1, .int .i64 19, .int .u64 1] 93)).drew (w.heap.size + 1 + 1) #[.int .i64 9, .int .u64 1, .int .i64 10, .int .u64 1, .int .i64 14, .int .u64 1, .int .i64 19, .int .u64 1] 93) := by
    have := (Blk.new ((w.alloc (.cells #[.int .i64 P, .int .i64 T, .int .i64 G] 23)).alloc (.cells #[.int .i64 P, .int .i64 T, .int .i64 1, .slice (some ⟨w.heap.size + 1 + 1, 0, none⟩) 4 4] 26)) #[.int .i64 9, .int .u64 1, .int .i64 10, .int .u64 1, .int .i64 14, .int .u64 1, .int .i64 19, .int .u64 1] 93).drew
    rw [World.size_alloc, World.size_alloc] at this
    exact this
  have HB1 : Hid (Below w.heap.size w (((w.alloc (.cells #[.int .i64 P, .int .i64 T, .int .i64 G] 23)).alloc (.cells #[.int .i64 9, .int .u64 1, .int .i64 10, .int .u64 1, .int .i64 14, .int .u64 1, .int .i64 19, .int .u64 1] 93)).alloc (.cells #[.int .i64 P, .int .i64 T, .int .i64 1, .slice (some ⟨w.heap.size + 1, 0, none⟩) 4 4] 26)).drew) := ((((Below.refl _ _).alloc (Nat.le_refl _) _).alloc (by simp) _).alloc (by simp; omega) _).drew
  have HB2 : Hid (Below w.heap.size w (((w.alloc (.cells #[.int .i64 P, .int .i64 T, .int .i64 G] 23)).alloc (.cells #[.int .i64 P, .int .i64 T, .int .i64 1, .slice (some ⟨w.heap.size + 1 + 1, 0, none⟩) 4 4] 26)).alloc (.cells #[.int .i64 9, .int .u64 1, .int .i64 10, .int .u64 1, .int .i64 14, .int .u64 1, .int .i64 19, .int .u64 1] 93)).drew) := ((((Below.refl _ _).alloc (Nat.le_refl _) _).alloc (by simp) _).alloc (by simp; omega) _).drew
  have d1 : decide (P < 1) = false := decide_eq_false (by omega)
  have d2 : decide ((4 : Int) < P) = false := decide_eq_false (by omega)
  have d3 : decide (T < P) = false := decide_eq_false (by omega)
  have d4 : decide ((8 : Int) < T) = false := decide_eq_false (by omega)
  have d5 : decide (P ≤ 0) = false := decide_eq_false (by omega)
  have d6 : decide (t < 0) = false := decide_eq_false (by omega)
  have d7 : decide (T ≤ t) = false := decide_eq_false (by omega)
  clear hAw hP hT hp ht
  go_enter Tryz.func10, Tryz.ntmps10
  go_wp2_with fail
  go_region
  all_goals clear d1 d2 d3 d4 d5 d6 d7
  · clear HX2 HB2
    go_wp2_with fail
    have hL := HL0.out _ _ (nd_sees (p := 0) HX1.out rfl rfl)
    clear HX1 HL0
    generalize (((w.alloc (.cells #[.int .i64 P, .int .i64 T, .int .i64 G] 23)).alloc (.cells #[.int .i64 9, .int .u64 1, .int .i64 10, .int .u64 1, .int .i64 14, .int .u64 1, .int .i64 19, .int .u64 1] 93)).alloc (.cells #[.int .i64 P, .int .i64 T, .int .i64 1, .slice (some ⟨w.heap.size + 1, 0, none⟩) 4 4] 26)).drew = W at *
    go_at_call 11; refine hL.mono ?_; rintro e w1 ⟨cl, A, A', cap, cap', c, b, c', b', rfl, hLd⟩
    have hszW := HB1.out.size
    have HI1 : Hid (Is w1 128 A cap c b (ndN P T) (ndS P T 0)) := hLd.two.m
    have HY1 : Hid (Lay w1 cl P T 1) := hLd.lay
    have HBA : Hid (Below w.heap.size w w1) := HB1.out.trans (hLd.below.mono hszW)
    have hn0 : 0 < ndN P T := by have := HNN.out; have := HBD.out; omega
    have hne : Hid (cl ≠ c ∧ cl ≠ b) := lay_ne hLd.lay (by decide) hLd.two.m hn0
    have hup : Hid (w.heap.size ≤ c ∧ w.heap.size ≤ b) := ⟨by have := hLd.up.2.1; omega, by have := hLd.up.2.2.1; omega⟩
    have hLM : (reCp P T 1 t cl).Laws (rePM P T t) (Rd.lay cl P T 1) t := re_laws (by have := HBD.out; omega) (by have := HBD.out; omega) (by have := HBD.out; omega)
    have hGM : ((reCp P T 1 t cl).I).Good (rePM P T t) := Cp.good hLM
    have HGM : Hid (((reCp P T 1 t cl).I).Good (rePM P T t)) := hGM
    have HAS : Hid (Aslp (rePM P T t) ((reCp P T 1 t cl).I) 55) := re_aslp (by have := HBD.out; omega) (by have := HBD.out; omega) (by have := HBD.out; omega)
    have HST : Hid (Steps (rePM P T t) ((reCp P T 1 t cl).I) (Rd.lay cl P T 1) 57 t) := Cp.steps hLM stepby_rrst
    have HRF : Hid (c ∉ ((Rd.lay cl P T 1)).B ∧ b ∉ ((Rd.lay cl P T 1)).B) := ⟨fun h => hne.out.1 (List.mem_singleton.1 h).symm, fun h => hne.out.2 (List.mem_singleton.1 h).symm⟩
    have HN6 : Hid (ndN P T ≤ 1000000) := (by have := HNN.out; have := HBD.out; omega : ndN P T ≤ 1000000)
    have hN := re_new_at w1 cl t P T 1 (by have := HBD.out; omega)
    clear hL hLd hne hLM hGM hszW hn0 HB1
    go_wp2_with fail
    go_at_call 58; refine hN.mono ?_; rintro e w2 ⟨x, L, rfl, ha1, ha2, ha3, -⟩
    have HSA : Hid (Solo ((reCp P T 1 t cl).I) (Rd.lay cl P T 1) w w2 A cap c b (ndN P T) ((rePM P T t).steps t (ndN P T) 0 (.acq .fresh, (ndS P T 0))).2 x ((rePM P T t).steps t (ndN P T) 0 (.acq .fresh, (ndS P T 0))).1 L) := Solo.begin HI1.out ha2 HBA.out hup.out ha1 ha3 HY1.out (fun k hk => by obtain rfl : k = cl := List.mem_singleton.1 hk; exact HY1.out.lt) HRF.out
    clear hN ha1 ha2 ha3 HI1 HY1 HBA HRF hup
    go_wp2_with fail
    have HLO : Hid (∀ q : Nat, q ≤ 20 → Low ((rePM P T t).steps t (ndN P T) q (.acq .fresh, (ndS P T 0))).2 1000000) := fun q hq => (PM.steps_low (rePM P T t) t (ndN P T) q (.acq .fresh, (ndS P T 0)) (low_fresh _)).more (by omega)
    go_loopw [13] (fun k wi => ∃ (q : Nat) (L : List Nat), q ≤ 20 ∧ k = .int .i64 q ∧ Hid (Solo ((reCp P T 1 t cl).I) (Rd.lay cl P T 1) w wi A cap c b (ndN P T) ((rePM P T t).steps t (ndN P T) q (.acq .fresh, (ndS P T 0))).2 x ((rePM P T t).steps t (ndN P T) q (.acq .fresh, (ndS P T 0))).1 L)) (fun k _ => 20 - (intOf k).toNat)
    case atStart => exact ⟨0, _, by omega, rfl, HSA⟩
    case round =>
      clear HSA
      obtain ⟨q, L, hq, rfl, HS⟩ := hrel
      by_cases hq9 : q < 20
      · have hSt := HS.out.step HGM.out HST.out (fun Y h => h) (fun k hk => hk) HN6.out (HLO.out q hq)
        rw [show (rePM P T t).goS t (ndN P T) ((rePM P T t).steps t (ndN P T) q (.acq .fresh, (ndS P T 0))).1 ((rePM P T t).steps t (ndN P T) q (.acq .fresh, (ndS P T 0))).2 = ((rePM P T t).steps t (ndN P T) (q + 1) (.acq .fresh, (ndS P T 0))).2 by rw [PM.steps_succ], show (rePM P T t).goT (ndN P T) ((rePM P T t).steps t (ndN P T) q (.acq .fresh, (ndS P T 0))).1 ((rePM P T t).steps t (ndN P T) q (.acq .fresh, (ndS P T 0))).2 = ((rePM P T t).steps t (ndN P T) (q + 1) (.acq .fresh, (ndS P T 0))).1 by rw [PM.steps_succ]] at hSt
        have hz := nd_aslp HRUN.out q hq9
        have HZ : Hid ((rePM P T t).aslp (ndN P T) ((rePM P T t).steps t (ndN P T) (q + 1) (.acq .fresh, (ndS P T 0))).1 ((rePM P T t).steps t (ndN P T) (q + 1) (.acq .fresh, (ndS P T 0))).2 = false) := hz
        have hq1 : (q : Int) < 20 := by omega
        have hq0 : (0 : Int) ≤ (q : Int) := by omega
        clear HS hz
        go_wp2_with fail
        go_at_call 57; refine hSt.mono ?_; rintro e w4 ⟨rfl, L', hS'⟩
        have HS' : Hid _ := hS'
        have hA := HAS.out w4 A cap c b (ndN P T) ((rePM P T t).steps t (ndN P T) (q + 1) (.acq .fresh, (ndS P T 0))).2 x ((rePM P T t).steps t (ndN P T) (q + 1) (.acq .fresh, (ndS P T 0))).1 L' HS'.out.mach HS'.out.mem HN6.out (fun k hk => ⟨(HS'.out.far k hk).1, (HS'.out.far k hk).2.1⟩)
        rw [HZ.out] at hA
        clear hSt hS'
        go_wp2_with fail
        go_at_call 55; refine hA.mono ?_; rintro e w5 ⟨rfl, hb5⟩
        have HS5 : Hid _ := HS'.out.still HGM.out hb5
        clear hA hb5 HS' HZ
        go_wp2_with fail
        go_roundw
        case rel => exact ⟨q + 1, L', by omega, by go_num, HS5⟩
        case measure => simp [intOf]; omega
      · obtain rfl : q = 20 := by omega
        clear HLO hq9 hq
        obtain ⟨XE, hXE⟩ : ∃ XE, ((rePM P T t).steps t (ndN P T) 20 (.acq .fresh, (ndS P T 0))) = XE := ⟨_, rfl⟩
        have HE := nd_end hXE rfl HRUN.out
        rw [hXE] at HS
        obtain ⟨tE, sE⟩ := XE
        have HEH : Hid (((rePM P T t).ax tE).isNone = true ∧ tE.p = 0 ∧ tE.spins = true ∧ peekT (ndN P T) sE 13 = 1 ∧ peekT (ndN P T) sE 14 = 0 ∧ peekT (ndN P T) sE (wd 20 P 264 0 0) = 1) := HE
        clear hXE HE HRUN
        rw [show ((20 : Nat) : Int) = 20 from rfl]
        have hK1 := peek_any wr A cap c b (ndN P T) sE 13 HS.out.mem HN6.out
        have hK2 := peek_any wr A cap c b (ndN P T) sE 14 HS.out.mem HN6.out
        rw [HEH.out.2.2.2.1] at hK1
        rw [HEH.out.2.2.2.2.1] at hK2
        have hPr := lprc_any (some ⟨cl, 0, none⟩) P T 1 0 0 wr (.some cl HS.out.rd) (by have := HBD.out; omega) (by omega)
        have HBF : Hid (Below w.heap.size w wr) := HS.out.below
        have HI6 : Hid (Is wr 128 A cap c b (ndN P T) sE) := HS.out.mem
        have HMX : Hid (∀ Y, Below wr.heap.size wr Y → ((reCp P T 1 t cl).I) Y x tE L) := fun Y hY => HGM.out.below HS.out.mach hY
        clear HS
        go_wp2_with fail
        go_at_call 34; refine hK1.mono ?_; rintro e w6 ⟨rfl, rfl⟩
        go_wp2_with fail
        go_at_call 34; refine hK2.mono ?_; rintro e w6 ⟨rfl, rfl⟩
        clear hK1 hK2
        go_wp2_with fail
        go_at_call 62; refine hPr.mono ?_; rintro e w7 ⟨rfl, hb7⟩
        have hK3 := peek_any w7 A cap c b (ndN P T) sE (wd 20 P 264 0 0) (HI6.out.below hb7) HN6.out
        rw [HEH.out.2.2.2.2.2] at hK3
        have HB7 : Hid (Below wr.heap.size wr w7) := hb7
        clear hPr hb7 HI6
        go_wp2_with fail
        go_at_call 34; refine hK3.mono ?_; rintro e w8 ⟨rfl, rfl⟩
        clear hK3
        go_wp2_with fail
        go_at_call 40; refine (HAW.out _).mono ?_; rintro e w9 ⟨rfl, h9⟩
        have HB9 : Hid (Below wr.heap.size wr w9) := seq HB7.out h9
        have hM9 := HMX.out w9 HB9.out
        have hD : Calls Tryz.prog 52 #[.pointer (some ⟨x, 0, none⟩)] w9 fun e w' => e = .returned (.bool true) ∧ w9 = w' := by
          obtain ⟨nx, q1, q2⟩ := HGM.out.next hM9
          have := HEH.out.1
          rw [this] at q2
          rw [← q2]
          exact done_rrst w9 x nx q1
        have hTP := re_tells_P hM9
        have hTS := re_tells_S hM9
        rw [HEH.out.2.1] at hTP
        rw [HEH.out.2.2.1] at hTS
        have HFF : Hid (Below w.heap.size w w9) := seq HBF.out HB9.out
        clear h9 hM9
        go_wp2_with fail
        go_at_call 52; refine hD.mono ?_; rintro e w10 ⟨rfl, rfl⟩
        go_wp2_with fail
        go_at_call 53; refine hTP.mono ?_; rintro e w10 ⟨rfl, rfl⟩
        go_wp2_with fail
        go_at_call 54; refine hTS.mono ?_; rintro e w10 ⟨rfl, rfl⟩
        clear hD hTP hTS
        go_wp2_with fail
        go_ret
        exact ⟨rfl, HFF.out⟩
  · clear HX1 HB1
    go_wp2_with fail
    have hL := HL0.out _ _ (nd_sees (p := 0) HX2.out rfl rfl)
    clear HX2 HL0
    generalize (((w.alloc (.cells #[.int .i64 P, .int .i64 T, .int .i64 G] 23)).alloc (.cells #[.int .i64 P, .int .i64 T, .int .i64 1, .slice (some ⟨w.heap.size + 1 + 1, 0, none⟩) 4 4] 26)).alloc (.cells #[.int .i64 9, .int .u64 1, .int .i64 10, .int .u64 1, .int .i64 14, .int .u64 1, .int .i64 19, .int .u64 1] 93)).drew = W at *
    go_at_call 11; refine hL.mono ?_; rintro e w1 ⟨cl, A, A', cap, cap', c, b, c', b', rfl, hLd⟩
    have hszW := HB2.out.size
    have HI1 : Hid (Is w1 128 A cap c b (ndN P T) (ndS P T 0)) := hLd.two.m
    have HY1 : Hid (Lay w1 cl P T 1) := hLd.lay
    have HBA : Hid (Below w.heap.size w w1) := HB2.out.trans (hLd.below.mono hszW)
    have hn0 : 0 < ndN P T := by have := HNN.out; have := HBD.out; omega
    have hne : Hid (cl ≠ c ∧ cl ≠ b) := lay_ne hLd.lay (by decide) hLd.two.m hn0
    have hup : Hid (w.heap.size ≤ c ∧ w.heap.size ≤ b) := ⟨by have := hLd.up.2.1; omega, by have := hLd.up.2.2.1; omega⟩
    have hLM : (reCp P T 1 t cl).Laws (rePM P T t) (Rd.lay cl P T 1) t := re_laws (by have := HBD.out; omega) (by have := HBD.out; omega) (by have := HBD.out; omega)
    have hGM : ((reCp P T 1 t cl).I).Good (rePM P T t) := Cp.good hLM
    have HGM : Hid (((reCp P T 1 t cl).I).Good (rePM P T t)) := hGM
    have HAS : Hid (Aslp (rePM P T t) ((reCp P T 1 t cl).I) 55) := re_aslp (by have := HBD.out; omega) (by have := HBD.out; omega) (by have := HBD.out; omega)
    have HST : Hid (Steps (rePM P T t) ((reCp P T 1 t cl).I) (Rd.lay cl P T 1) 57 t) := Cp.steps hLM stepby_rrst
    have HRF : Hid (c ∉ ((Rd.lay cl P T 1)).B ∧ b ∉ ((Rd.lay cl P T 1)).B) := ⟨fun h => hne.out.1 (List.mem_singleton.1 h).symm, fun h => hne.out.2 (List.mem_singleton.1 h).symm⟩
    have HN6 : Hid (ndN P T ≤ 1000000) := (by have := HNN.out; have := HBD.out; omega : ndN P T ≤ 1000000)
    have hN := re_new_at w1 cl t P T 1 (by have := HBD.out; omega)
    clear hL hLd hne hLM hGM hszW hn0 HB2
    go_wp2_with fail
    go_at_call 58; refine hN.mono ?_; rintro e w2 ⟨x, L, rfl, ha1, ha2, ha3, -⟩
    have HSA : Hid (Solo ((reCp P T 1 t cl).I) (Rd.lay cl P T 1) w w2 A cap c b (ndN P T) ((rePM P T t).steps t (ndN P T) 0 (.acq .fresh, (ndS P T 0))).2 x ((rePM P T t).steps t (ndN P T) 0 (.acq .fresh, (ndS P T 0))).1 L) := Solo.begin HI1.out ha2 HBA.out hup.out ha1 ha3 HY1.out (fun k hk => by obtain rfl : k = cl := List.mem_singleton.1 hk; exact HY1.out.lt) HRF.out
    clear hN ha1 ha2 ha3 HI1 HY1 HBA HRF hup
    go_wp2_with fail
    have HLO : Hid (∀ q : Nat, q ≤ 20 → Low ((rePM P T t).steps t (ndN P T) q (.acq .fresh, (ndS P T 0))).2 1000000) := fun q hq => (PM.steps_low (rePM P T t) t (ndN P T) q (.acq .fresh, (ndS P T 0)) (low_fresh _)).more (by omega)
    go_loopw [13] (fun k wi => ∃ (q : Nat) (L : List Nat), q ≤ 20 ∧ k = .int .i64 q ∧ Hid (Solo ((reCp P T 1 t cl).I) (Rd.lay cl P T 1) w wi A cap c b (ndN P T) ((rePM P T t).steps t (ndN P T) q (.acq .fresh, (ndS P T 0))).2 x ((rePM P T t).steps t (ndN P T) q (.acq .fresh, (ndS P T 0))).1 L)) (fun k _ => 20 - (intOf k).toNat)
    case atStart => exact ⟨0, _, by omega, rfl, HSA⟩
    case round =>
      clear HSA
      obtain ⟨q, L, hq, rfl, HS⟩ := hrel
      by_cases hq9 : q < 20
      · have hSt := HS.out.step HGM.out HST.out (fun Y h => h) (fun k hk => hk) HN6.out (HLO.out q hq)
        rw [show (rePM P T t).goS t (ndN P T) ((rePM P T t).steps t (ndN P T) q (.acq .fresh, (ndS P T 0))).1 ((rePM P T t).steps t (ndN P T) q (.acq .fresh, (ndS P T 0))).2 = ((rePM P T t).steps t (ndN P T) (q + 1) (.acq .fresh, (ndS P T 0))).2 by rw [PM.steps_succ], show (rePM P T t).goT (ndN P T) ((rePM P T t).steps t (ndN P T) q (.acq .fresh, (ndS P T 0))).1 ((rePM P T t).steps t (ndN P T) q (.acq .fresh, (ndS P T 0))).2 = ((rePM P T t).steps t (ndN P T) (q + 1) (.acq .fresh, (ndS P T 0))).1 by rw [PM.steps_succ]] at hSt
        have hz := nd_aslp HRUN.out q hq9
        have HZ : Hid ((rePM P T t).aslp (ndN P T) ((rePM P T t).steps t (ndN P T) (q + 1) (.acq .fresh, (ndS P T 0))).1 ((rePM P T t).steps t (ndN P T) (q + 1) (.acq .fresh, (ndS P T 0))).2 = false) := hz
        have hq1 : (q : Int) < 20 := by omega
        have hq0 : (0 : Int) ≤ (q : Int) := by omega
        clear HS hz
        go_wp2_with fail
        go_at_call 57; refine hSt.mono ?_; rintro e w4 ⟨rfl, L', hS'⟩
        have HS' : Hid _ := hS'
        have hA := HAS.out w4 A cap c b (ndN P T) ((rePM P T t).steps t (ndN P T) (q + 1) (.acq .fresh, (ndS P T 0))).2 x ((rePM P T t).steps t (ndN P T) (q + 1) (.acq .fresh, (ndS P T 0))).1 L' HS'.out.mach HS'.out.mem HN6.out (fun k hk => ⟨(HS'.out.far k hk).1, (HS'.out.far k hk).2.1⟩)
        rw [HZ.out] at hA
        clear hSt hS'
        go_wp2_with fail
        go_at_call 55; refine hA.mono ?_; rintro e w5 ⟨rfl, hb5⟩
        have HS5 : Hid _ := HS'.out.still HGM.out hb5
        clear hA hb5 HS' HZ
        go_wp2_with fail
        go_roundw
        case rel => exact ⟨q + 1, L', by omega, by go_num, HS5⟩
        case measure => simp [intOf]; omega
      · obtain rfl : q = 20 := by omega
        clear HLO hq9 hq
        obtain ⟨XE, hXE⟩ : ∃ XE, ((rePM P T t).steps t (ndN P T) 20 (.acq .fresh, (ndS P T 0))) = XE := ⟨_, rfl⟩
        have HE := nd_end hXE rfl HRUN.out
        rw [hXE] at HS
        obtain ⟨tE, sE⟩ := XE
        have HEH : Hid (((rePM P T t).ax tE).isNone = true ∧ tE.p = 0 ∧ tE.spins = true ∧ peekT (ndN P T) sE 13 = 1 ∧ peekT (ndN P T) sE 14 = 0 ∧ peekT (ndN P T) sE (wd 20 P 264 0 0) = 1) := HE
        clear hXE HE HRUN
        rw [show ((20 : Nat) : Int) = 20 from rfl]
        have hK1 := peek_any wr A cap c b (ndN P T) sE 13 HS.out.mem HN6.out
        have hK2 := peek_any wr A cap c b (ndN P T) sE 14 HS.out.mem HN6.out
        rw [HEH.out.2.2.2.1] at hK1
        rw [HEH.out.2.2.2.2.1] at hK2
        have hPr := lprc_any (some ⟨cl, 0, none⟩) P T 1 0 0 wr (.some cl HS.out.rd) (by have := HBD.out; omega) (by omega)
        have HBF : Hid (Below w.heap.size w wr) := HS.out.below
        have HI6 : Hid (Is wr 128 A cap c b (ndN P T) sE) := HS.out.mem
        have HMX : Hid (∀ Y, Below wr.heap.size wr Y → ((reCp P T 1 t cl).I) Y x tE L) := fun Y hY => HGM.out.below HS.out.mach hY
        clear HS
        go_wp2_with fail
        go_at_call 34; refine hK1.mono ?_; rintro e w6 ⟨rfl, rfl⟩
        go_wp2_with fail
        go_at_call 34; refine hK2.mono ?_; rintro e w6 ⟨rfl, rfl⟩
        clear hK1 hK2
        go_wp2_with fail
        go_at_call 62; refine hPr.mono ?_; rintro e w7 ⟨rfl, hb7⟩
        have hK3 := peek_any w7 A cap c b (ndN P T) sE (wd 20 P 264 0 0) (HI6.out.below hb7) HN6.out
        rw [HEH.out.2.2.2.2.2] at hK3
        have HB7 : Hid (Below wr.heap.size wr w7) := hb7
        clear hPr hb7 HI6
        go_wp2_with fail
        go_at_call 34; refine hK3.mono ?_; rintro e w8 ⟨rfl, rfl⟩
        clear hK3
        go_wp2_with fail
        go_at_call 40; refine (HAW.out _).mono ?_; rintro e w9 ⟨rfl, h9⟩
        have HB9 : Hid (Below wr.heap.size wr w9) := seq HB7.out h9
        have hM9 := HMX.out w9 HB9.out
        have hD : Calls Tryz.prog 52 #[.pointer (some ⟨x, 0, none⟩)] w9 fun e w' => e = .returned (.bool true) ∧ w9 = w' := by
          obtain ⟨nx, q1, q2⟩ := HGM.out.next hM9
          have := HEH.out.1
          rw [this] at q2
          rw [← q2]
          exact done_rrst w9 x nx q1
        have hTP := re_tells_P hM9
        have hTS := re_tells_S hM9
        rw [HEH.out.2.1] at hTP
        rw [HEH.out.2.2.1] at hTS
        have HFF : Hid (Below w.heap.size w w9) := seq HBF.out HB9.out
        clear h9 hM9
        go_wp2_with fail
        go_at_call 52; refine hD.mono ?_; rintro e w10 ⟨rfl, rfl⟩
        go_wp2_with fail
        go_at_call 53; refine hTP.mono ?_; rintro e w10 ⟨rfl, rfl⟩
        go_wp2_with fail
        go_at_call 54; refine hTS.mono ?_; rintro e w10 ⟨rfl, rfl⟩
        clear hD hTP hTS
        go_wp2_with fail
        go_ret
        exact ⟨rfl, HFF.out⟩
set_option maxHeartbeats 8000000 in
theorem needed_at1 (P T G t : Int) (w : World) (hAw : ∀ w, Calls Tryz.prog 40 #[] w fun e w' => e = .returned (.bool true) ∧ Below w.heap.size w w') (hP : 1 ≤ P ∧ P ≤ 4) (hT : P ≤ T ∧ T ≤ 8) (hp : (1 : Int) < P) (ht : 0 ≤ t ∧ t < T) :
    Calls Tryz.prog 10 #[.agg #[.int .i64 P, .int .i64 T, .int .i64 G], .int .i64 1, .int .i64 t] w fun e w' => e = .returned (.bool true) ∧ Below w.heap.size w w' := by
  have HAW : Hid (∀ w, Calls Tryz.prog 40 #[] w fun e w' => e = .returned (.bool true) ∧ Below w.heap.size w w') := hAw
  have HNN : Hid (((ndN P T : Nat) : Int) = 20 + 264 * P + 3 * T + 2 * 1) := (by unfold ndN; omega : ((ndN P T : Nat) : Int) = 20 + 264 * P + 3 * T + 2 * 1)
  have HRUN : Hid (ndRun P T t 1 20 (.acq .fresh, ndS P T 1) = true) := nd_all P T t 1 hP hT (by omega) ht
  have HL0 : Hid (∀ (E : Option Addr) (W : World), SeesP W W.heap.size E 4 ndA (ndV 1) → Calls Tryz.prog 11 #[.agg #[.int .i64 P, .int .i64 T, .int .i64 1, .slice E (4 : Nat) 4]] W fun e w' => ∃ (cl : Nat) (A A' : Option Addr) (cap cap' c b c' b' : Nat), e = .returned (.tuple #[.pointer (some ⟨cl, 0, none⟩), .pointer (some ⟨c, 0, none⟩), .pointer (some ⟨c', 0, none⟩), .bool true]) ∧ Laid W w' P T 1 (ndN P T) (putF ndA (ndV 1) (ndN P T) 4) cl A A' cap cap' c b c' b') := fun E W hs =>
    lay_some P T 1 E 4 4 (ndN P T) ndA (ndV 1) W (by omega) ⟨⟨by omega⟩, by omega, by omega, by omega⟩ HNN.out hs (fun i hi => by rcases (by omega : i = 0 ∨ i = 1 ∨ i = 2 ∨ i = 3) with rfl | rfl | rfl | rfl <;> exact ⟨by decide, by decide⟩)
  have HBD : Hid ((1 ≤ P ∧ P ≤ 4) ∧ (P ≤ T ∧ T ≤ 8) ∧ (0 ≤ t ∧ t < T)) := ⟨hP, hT, ht⟩
  have HX1 : Hid (Blk (((w.alloc (.cells #[.int .i64 P, .int .i64 T, .int .i64 G] 23)).alloc (.cells #[.int .i64 9, .int .u64 2, .int .i64 10, .int .u64 1, .int .i64 14, .int .u64 1, .int .i64 19, .int .u64 2] 93)).alloc (.cells #[.int .i64 P, .int .i64 T, .int .i64 1, .slice (some ⟨w.heap.size + 1, 0, none⟩) 4 4] 26)).drew (w.heap.size + 1) #[.int .i64 9, .int .u64 2, .int .i64 10, .int .u64 1, .int .i64 14, .int .u64 1, .int .i64 19, .int .u64 2] 93) := by
    have := ((Blk.new (w.alloc (.cells #[.int .i64 P, .int .i64 T, .int .i64 G] 23)) #[.int .i64 9, .int .u64 2, .int .i64 10, .int .u64 1, .int .i64 14, .int .u64 1, .int .i64 19, .int .u64 2] 93).al (.cells #[.int .i64 P, .int .i64 T, .int .i64 1, .slice (some ⟨w.heap.size + 1, 0, none⟩) 4 4] 26)).drew
    rw [World.size_alloc] at this
    exact this
  have HX2 : Hid (Blk (((w.alloc (.cells #[.int .i64 P, .int .i64 T, .int .i64 G] 23)).alloc (.cells #[.int .i64 P, .int .i64 T, .int .i64 1, .slice (some ⟨w.heap.size + 1 + 1, 0, none⟩) 4 4] 26)).alloc (.cells #[.int .i64 9, .int .u64 2, .int .i64 10, .int .u64 1, .int .i64 14, .int .u64 1, .int .i64 19, .int .u64 2] 93)).drew (w.heap.size + 1 + 1) #[.int .i64 9, .int .u64 2, .int .i64 10, .int .u64 1, .int .i64 14, .int .u64 1, .int .i64 19, .int .u64 2] 93) := by
    have := (Blk.new ((w.alloc (.cells #[.int .i64 P, .int .i64 T, .int .i64 G] 23)).alloc (.cells #[.int .i64 P, .int .i64 T, .int .i64 1, .slice (some ⟨w.heap.size + 1 + 1, 0, none⟩) 4 4] 26)) #[.int .i64 9, .int .u64 2, .int .i64 10, .int .u64 1, .int .i64 14, .int .u64 1, .int .i64 19, .int .u64 2] 93).drew
    rw [World.size_alloc, World.size_alloc] at this
    exact this
  have HB1 : Hid (Below w.heap.size w (((w.alloc (.cells #[.int .i64 P, .int .i64 T, .int .i64 G] 23)).alloc (.cells #[.int .i64 9, .int .u64 2, .int .i64 10, .int .u64 1, .int .i64 14, .int .u64 1, .int .i64 19, .int .u64 2] 93)).alloc (.cells #[.int .i64 P, .int .i64 T, .int .i64 1, .slice (some ⟨w.heap.size + 1, 0, none⟩) 4 4] 26)).drew) := ((((Below.refl _ _).alloc (Nat.le_refl _) _).alloc (by simp) _).alloc (by simp; omega) _).drew
  have HB2 : Hid (Below w.heap.size w (((w.alloc (.cells #[.int .i64 P, .int .i64 T, .int .i64 G] 23)).alloc (.cells #[.int .i64 P, .int .i64 T, .int .i64 1, .slice (some ⟨w.heap.size + 1 + 1, 0, none⟩) 4 4] 26)).alloc (.cells #[.int .i64 9, .int .u64 2, .int .i64 10, .int .u64 1, .int .i64 14, .int .u64 1, .int .i64 19, .int .u64 2] 93)).drew) := ((((Below.refl _ _).alloc (Nat.le_refl _) _).alloc (by simp) _).alloc (by simp; omega) _).drew
  have d1 : decide (P < 1) = false := decide_eq_false (by omega)
  have d2 : decide ((4 : Int) < P) = false := decide_eq_false (by omega)
  have d3 : decide (T < P) = false := decide_eq_false (by omega)
  have d4 : decide ((8 : Int) < T) = false := decide_eq_false (by omega)
  have d5 : decide (P ≤ 1) = false := decide_eq_false (by omega)
  have d6 : decide (t < 0) = false := decide_eq_false (by omega)
  have d7 : decide (T ≤ t) = false := decide_eq_false (by omega)
  clear hAw hP hT hp ht
  go_enter Tryz.func10, Tryz.ntmps10
  go_wp2_with fail
  go_region
  all_goals clear d1 d2 d3 d4 d5 d6 d7
  · clear HX2 HB2
    go_wp2_with fail
    have hL := HL0.out _ _ (nd_sees (p := 1) HX1.out rfl rfl)
    clear HX1 HL0
    generalize (((w.alloc (.cells #[.int .i64 P, .int .i64 T, .int .i64 G] 23)).alloc (.cells #[.int .i64 9, .int .u64 2, .int .i64 10, .int .u64 1, .int .i64 14, .int .u64 1, .int .i64 19, .int .u64 2] 93)).alloc (.cells #[.int .i64 P, .int .i64 T, .int .i64 1, .slice (some ⟨w.heap.size + 1, 0, none⟩) 4 4] 26)).drew = W at *
    go_at_call 11; refine hL.mono ?_; rintro e w1 ⟨cl, A, A', cap, cap', c, b, c', b', rfl, hLd⟩
    have hszW := HB1.out.size
    have HI1 : Hid (Is w1 128 A cap c b (ndN P T) (ndS P T 1)) := hLd.two.m
    have HY1 : Hid (Lay w1 cl P T 1) := hLd.lay
    have HBA : Hid (Below w.heap.size w w1) := HB1.out.trans (hLd.below.mono hszW)
    have hn0 : 0 < ndN P T := by have := HNN.out; have := HBD.out; omega
    have hne : Hid (cl ≠ c ∧ cl ≠ b) := lay_ne hLd.lay (by decide) hLd.two.m hn0
    have hup : Hid (w.heap.size ≤ c ∧ w.heap.size ≤ b) := ⟨by have := hLd.up.2.1; omega, by have := hLd.up.2.2.1; omega⟩
    have hLM : (reCp P T 1 t cl).Laws (rePM P T t) (Rd.lay cl P T 1) t := re_laws (by have := HBD.out; omega) (by have := HBD.out; omega) (by have := HBD.out; omega)
    have hGM : ((reCp P T 1 t cl).I).Good (rePM P T t) := Cp.good hLM
    have HGM : Hid (((reCp P T 1 t cl).I).Good (rePM P T t)) := hGM
    have HAS : Hid (Aslp (rePM P T t) ((reCp P T 1 t cl).I) 55) := re_aslp (by have := HBD.out; omega) (by have := HBD.out; omega) (by have := HBD.out; omega)
    have HST : Hid (Steps (rePM P T t) ((reCp P T 1 t cl).I) (Rd.lay cl P T 1) 57 t) := Cp.steps hLM stepby_rrst
    have HRF : Hid (c ∉ ((Rd.lay cl P T 1)).B ∧ b ∉ ((Rd.lay cl P T 1)).B) := ⟨fun h => hne.out.1 (List.mem_singleton.1 h).symm, fun h => hne.out.2 (List.mem_singleton.1 h).symm⟩
    have HN6 : Hid (ndN P T ≤ 1000000) := (by have := HNN.out; have := HBD.out; omega : ndN P T ≤ 1000000)
    have hN := re_new_at w1 cl t P T 1 (by have := HBD.out; omega)
    clear hL hLd hne hLM hGM hszW hn0 HB1
    go_wp2_with fail
    go_at_call 58; refine hN.mono ?_; rintro e w2 ⟨x, L, rfl, ha1, ha2, ha3, -⟩
    have HSA : Hid (Solo ((reCp P T 1 t cl).I) (Rd.lay cl P T 1) w w2 A cap c b (ndN P T) ((rePM P T t).steps t (ndN P T) 0 (.acq .fresh, (ndS P T 1))).2 x ((rePM P T t).steps t (ndN P T) 0 (.acq .fresh, (ndS P T 1))).1 L) := Solo.begin HI1.out ha2 HBA.out hup.out ha1 ha3 HY1.out (fun k hk => by obtain rfl : k = cl := List.mem_singleton.1 hk; exact HY1.out.lt) HRF.out
    clear hN ha1 ha2 ha3 HI1 HY1 HBA HRF hup
    go_wp2_with fail
    have HLO : Hid (∀ q : Nat, q ≤ 20 → Low ((rePM P T t).steps t (ndN P T) q (.acq .fresh, (ndS P T 1))).2 1000000) := fun q hq => (PM.steps_low (rePM P T t) t (ndN P T) q (.acq .fresh, (ndS P T 1)) (low_fresh _)).more (by omega)
    go_loopw [13] (fun k wi => ∃ (q : Nat) (L : List Nat), q ≤ 20 ∧ k = .int .i64 q ∧ Hid (Solo ((reCp P T 1 t cl).I) (Rd.lay cl P T 1) w wi A cap c b (ndN P T) ((rePM P T t).steps t (ndN P T) q (.acq .fresh, (ndS P T 1))).2 x ((rePM P T t).steps t (ndN P T) q (.acq .fresh, (ndS P T 1))).1 L)) (fun k _ => 20 - (intOf k).toNat)
    case atStart => exact ⟨0, _, by omega, rfl, HSA⟩
    case round =>
      clear HSA
      obtain ⟨q, L, hq, rfl, HS⟩ := hrel
      by_cases hq9 : q < 20
      · have hSt := HS.out.step HGM.out HST.out (fun Y h => h) (fun k hk => hk) HN6.out (HLO.out q hq)
        rw [show (rePM P T t).goS t (ndN P T) ((rePM P T t).steps t (ndN P T) q (.acq .fresh, (ndS P T 1))).1 ((rePM P T t).steps t (ndN P T) q (.acq .fresh, (ndS P T 1))).2 = ((rePM P T t).steps t (ndN P T) (q + 1) (.acq .fresh, (ndS P T 1))).2 by rw [PM.steps_succ], show (rePM P T t).goT (ndN P T) ((rePM P T t).steps t (ndN P T) q (.acq .fresh, (ndS P T 1))).1 ((rePM P T t).steps t (ndN P T) q (.acq .fresh, (ndS P T 1))).2 = ((rePM P T t).steps t (ndN P T) (q + 1) (.acq .fresh, (ndS P T 1))).1 by rw [PM.steps_succ]] at hSt
        have hz := nd_aslp HRUN.out q hq9
        have HZ : Hid ((rePM P T t).aslp (ndN P T) ((rePM P T t).steps t (ndN P T) (q + 1) (.acq .fresh, (ndS P T 1))).1 ((rePM P T t).steps t (ndN P T) (q + 1) (.acq .fresh, (ndS P T 1))).2 = false) := hz
        have hq1 : (q : Int) < 20 := by omega
        have hq0 : (0 : Int) ≤ (q : Int) := by omega
        clear HS hz
        go_wp2_with fail
        go_at_call 57; refine hSt.mono ?_; rintro e w4 ⟨rfl, L', hS'⟩
        have HS' : Hid _ := hS'
        have hA := HAS.out w4 A cap c b (ndN P T) ((rePM P T t).steps t (ndN P T) (q + 1) (.acq .fresh, (ndS P T 1))).2 x ((rePM P T t).steps t (ndN P T) (q + 1) (.acq .fresh, (ndS P T 1))).1 L' HS'.out.mach HS'.out.mem HN6.out (fun k hk => ⟨(HS'.out.far k hk).1, (HS'.out.far k hk).2.1⟩)
        rw [HZ.out] at hA
        clear hSt hS'
        go_wp2_with fail
        go_at_call 55; refine hA.mono ?_; rintro e w5 ⟨rfl, hb5⟩
        have HS5 : Hid _ := HS'.out.still HGM.out hb5
        clear hA hb5 HS' HZ
        go_wp2_with fail
        go_roundw
        case rel => exact ⟨q + 1, L', by omega, by go_num, HS5⟩
        case measure => simp [intOf]; omega
      · obtain rfl : q = 20 := by omega
        clear HLO hq9 hq
        obtain ⟨XE, hXE⟩ : ∃ XE, ((rePM P T t).steps t (ndN P T) 20 (.acq .fresh, (ndS P T 1))) = XE := ⟨_, rfl⟩
        have HE := nd_end hXE rfl HRUN.out
        rw [hXE] at HS
        obtain ⟨tE, sE⟩ := XE
        have HEH : Hid (((rePM P T t).ax tE).isNone = true ∧ tE.p = 1 ∧ tE.spins = true ∧ peekT (ndN P T) sE 13 = 1 ∧ peekT (ndN P T) sE 14 = 0 ∧ peekT (ndN P T) sE (wd 20 P 264 1 0) = 1) := HE
        clear hXE HE HRUN
        rw [show ((20 : Nat) : Int) = 20 from rfl]
        have hK1 := peek_any wr A cap c b (ndN P T) sE 13 HS.out.mem HN6.out
        have hK2 := peek_any wr A cap c b (ndN P T) sE 14 HS.out.mem HN6.out
        rw [HEH.out.2.2.2.1] at hK1
        rw [HEH.out.2.2.2.2.1] at hK2
        have hPr := lprc_any (some ⟨cl, 0, none⟩) P T 1 1 0 wr (.some cl HS.out.rd) (by have := HBD.out; omega) (by omega)
        have HBF : Hid (Below w.heap.size w wr) := HS.out.below
        have HI6 : Hid (Is wr 128 A cap c b (ndN P T) sE) := HS.out.mem
        have HMX : Hid (∀ Y, Below wr.heap.size wr Y → ((reCp P T 1 t cl).I) Y x tE L) := fun Y hY => HGM.out.below HS.out.mach hY
        clear HS
        go_wp2_with fail
        go_at_call 34; refine hK1.mono ?_; rintro e w6 ⟨rfl, rfl⟩
        go_wp2_with fail
        go_at_call 34; refine hK2.mono ?_; rintro e w6 ⟨rfl, rfl⟩
        clear hK1 hK2
        go_wp2_with fail
        go_at_call 62; refine hPr.mono ?_; rintro e w7 ⟨rfl, hb7⟩
        have hK3 := peek_any w7 A cap c b (ndN P T) sE (wd 20 P 264 1 0) (HI6.out.below hb7) HN6.out
        rw [HEH.out.2.2.2.2.2] at hK3
        have HB7 : Hid (Below wr.heap.size wr w7) := hb7
        clear hPr hb7 HI6
        go_wp2_with fail
        go_at_call 34; refine hK3.mono ?_; rintro e w8 ⟨rfl, rfl⟩
        clear hK3
        go_wp2_with fail
        go_at_call 40; refine (HAW.out _).mono ?_; rintro e w9 ⟨rfl, h9⟩
        have HB9 : Hid (Below wr.heap.size wr w9) := seq HB7.out h9
        have hM9 := HMX.out w9 HB9.out
        have hD : Calls Tryz.prog 52 #[.pointer (some ⟨x, 0, none⟩)] w9 fun e w' => e = .returned (.bool true) ∧ w9 = w' := by
          obtain ⟨nx, q1, q2⟩ := HGM.out.next hM9
          have := HEH.out.1
          rw [this] at q2
          rw [← q2]
          exact done_rrst w9 x nx q1
        have hTP := re_tells_P hM9
        have hTS := re_tells_S hM9
        rw [HEH.out.2.1] at hTP
        rw [HEH.out.2.2.1] at hTS
        have HFF : Hid (Below w.heap.size w w9) := seq HBF.out HB9.out
        clear h9 hM9
        go_wp2_with fail
        go_at_call 52; refine hD.mono ?_; rintro e w10 ⟨rfl, rfl⟩
        go_wp2_with fail
        go_at_call 53; refine hTP.mono ?_; rintro e w10 ⟨rfl, rfl⟩
        go_wp2_with fail
        go_at_call 54; refine hTS.mono ?_; rintro e w10 ⟨rfl, rfl⟩
        clear hD hTP hTS
        go_wp2_with fail
        go_ret
        exact ⟨rfl, HFF.out⟩
  · clear HX1 HB1
    go_wp2_with fail
    have hL := HL0.out _ _ (nd_sees (p := 1) HX2.out rfl rfl)
    clear HX2 HL0
    generalize (((w.alloc (.cells #[.int .i64 P, .int .i64 T, .int .i64 G] 23)).alloc (.cells #[.int .i64 P, .int .i64 T, .int .i64 1, .slice (some ⟨w.heap.size + 1 + 1, 0, none⟩) 4 4] 26)).alloc (.cells #[.int .i64 9, .int .u64 2, .int .i64 10, .int .u64 1, .int .i64 14, .int .u64 1, .int .i64 19, .int .u64 2] 93)).drew = W at *
    go_at_call 11; refine hL.mono ?_; rintro e w1 ⟨cl, A, A', cap, cap', c, b, c', b', rfl, hLd⟩
    have hszW := HB2.out.size
    have HI1 : Hid (Is w1 128 A cap c b (ndN P T) (ndS P T 1)) := hLd.two.m
    have HY1 : Hid (Lay w1 cl P T 1) := hLd.lay
    have HBA : Hid (Below w.heap.size w w1) := HB2.out.trans (hLd.below.mono hszW)
    have hn0 : 0 < ndN P T := by have := HNN.out; have := HBD.out; omega
    have hne : Hid (cl ≠ c ∧ cl ≠ b) := lay_ne hLd.lay (by decide) hLd.two.m hn0
    have hup : Hid (w.heap.size ≤ c ∧ w.heap.size ≤ b) := ⟨by have := hLd.up.2.1; omega, by have := hLd.up.2.2.1; omega⟩
    have hLM : (reCp P T 1 t cl).Laws (rePM P T t) (Rd.lay cl P T 1) t := re_laws (by have := HBD.out; omega) (by have := HBD.out; omega) (by have := HBD.out; omega)
    have hGM : ((reCp P T 1 t cl).I).Good (rePM P T t) := Cp.good hLM
    have HGM : Hid (((reCp P T 1 t cl).I).Good (rePM P T t)) := hGM
    have HAS : Hid (Aslp (rePM P T t) ((reCp P T 1 t cl).I) 55) := re_aslp (by have := HBD.out; omega) (by have := HBD.out; omega) (by have := HBD.out; omega)
    have HST : Hid (Steps (rePM P T t) ((reCp P T 1 t cl).I) (Rd.lay cl P T 1) 57 t) := Cp.steps hLM stepby_rrst
    have HRF : Hid (c ∉ ((Rd.lay cl P T 1)).B ∧ b ∉ ((Rd.lay cl P T 1)).B) := ⟨fun h => hne.out.1 (List.mem_singleton.1 h).symm, fun h => hne.out.2 (List.mem_singleton.1 h).symm⟩
    have HN6 : Hid (ndN P T ≤ 1000000) := (by have := HNN.out; have := HBD.out; omega : ndN P T ≤ 1000000)
    have hN := re_new_at w1 cl t P T 1 (by have := HBD.out; omega)
    clear hL hLd hne hLM hGM hszW hn0 HB2
    go_wp2_with fail
    go_at_call 58; refine hN.mono ?_; rintro e w2 ⟨x, L, rfl, ha1, ha2, ha3, -⟩
    have HSA : Hid (Solo ((reCp P T 1 t cl).I) (Rd.lay cl P T 1) w w2 A cap c b (ndN P T) ((rePM P T t).steps t (ndN P T) 0 (.acq .fresh, (ndS P T 1))).2 x ((rePM P T t).steps t (ndN P T) 0 (.acq .fresh, (ndS P T 1))).1 L) := Solo.begin HI1.out ha2 HBA.out hup.out ha1 ha3 HY1.out (fun k hk => by obtain rfl : k = cl := List.mem_singleton.1 hk; exact HY1.out.lt) HRF.out
    clear hN ha1 ha2 ha3 HI1 HY1 HBA HRF hup
    go_wp2_with fail
    have HLO : Hid (∀ q : Nat, q ≤ 20 → Low ((rePM P T t).steps t (ndN P T) q (.acq .fresh, (ndS P T 1))).2 1000000) := fun q hq => (PM.steps_low (rePM P T t) t (ndN P T) q (.acq .fresh, (ndS P T 1)) (low_fresh _)).more (by omega)
    go_loopw [13] (fun k wi => ∃ (q : Nat) (L : List Nat), q ≤ 20 ∧ k = .int .i64 q ∧ Hid (Solo ((reCp P T 1 t cl).I) (Rd.lay cl P T 1) w wi A cap c b (ndN P T) ((rePM P T t).steps t (ndN P T) q (.acq .fresh, (ndS P T 1))).2 x ((rePM P T t).steps t (ndN P T) q (.acq .fresh, (ndS P T 1))).1 L)) (fun k _ => 20 - (intOf k).toNat)
    case atStart => exact ⟨0, _, by omega, rfl, HSA⟩
    case round =>
      clear HSA
      obtain ⟨q, L, hq, rfl, HS⟩ := hrel
      by_cases hq9 : q < 20
      · have hSt := HS.out.step HGM.out HST.out (fun Y h => h) (fun k hk => hk) HN6.out (HLO.out q hq)
        rw [show (rePM P T t).goS t (ndN P T) ((rePM P T t).steps t (ndN P T) q (.acq .fresh, (ndS P T 1))).1 ((rePM P T t).steps t (ndN P T) q (.acq .fresh, (ndS P T 1))).2 = ((rePM P T t).steps t (ndN P T) (q + 1) (.acq .fresh, (ndS P T 1))).2 by rw [PM.steps_succ], show (rePM P T t).goT (ndN P T) ((rePM P T t).steps t (ndN P T) q (.acq .fresh, (ndS P T 1))).1 ((rePM P T t).steps t (ndN P T) q (.acq .fresh, (ndS P T 1))).2 = ((rePM P T t).steps t (ndN P T) (q + 1) (.acq .fresh, (ndS P T 1))).1 by rw [PM.steps_succ]] at hSt
        have hz := nd_aslp HRUN.out q hq9
        have HZ : Hid ((rePM P T t).aslp (ndN P T) ((rePM P T t).steps t (ndN P T) (q + 1) (.acq .fresh, (ndS P T 1))).1 ((rePM P T t).steps t (ndN P T) (q + 1) (.acq .fresh, (ndS P T 1))).2 = false) := hz
        have hq1 : (q : Int) < 20 := by omega
        have hq0 : (0 : Int) ≤ (q : Int) := by omega
        clear HS hz
        go_wp2_with fail
        go_at_call 57; refine hSt.mono ?_; rintro e w4 ⟨rfl, L', hS'⟩
        have HS' : Hid _ := hS'
        have hA := HAS.out w4 A cap c b (ndN P T) ((rePM P T t).steps t (ndN P T) (q + 1) (.acq .fresh, (ndS P T 1))).2 x ((rePM P T t).steps t (ndN P T) (q + 1) (.acq .fresh, (ndS P T 1))).1 L' HS'.out.mach HS'.out.mem HN6.out (fun k hk => ⟨(HS'.out.far k hk).1, (HS'.out.far k hk).2.1⟩)
        rw [HZ.out] at hA
        clear hSt hS'
        go_wp2_with fail
        go_at_call 55; refine hA.mono ?_; rintro e w5 ⟨rfl, hb5⟩
        have HS5 : Hid _ := HS'.out.still HGM.out hb5
        clear hA hb5 HS' HZ
        go_wp2_with fail
        go_roundw
        case rel => exact ⟨q + 1, L', by omega, by go_num, HS5⟩
        case measure => simp [intOf]; omega
      · obtain rfl : q = 20 := by omega
        clear HLO hq9 hq
        obtain ⟨XE, hXE⟩ : ∃ XE, ((rePM P T t).steps t (ndN P T) 20 (.acq .fresh, (ndS P T 1))) = XE := ⟨_, rfl⟩
        have HE := nd_end hXE rfl HRUN.out
        rw [hXE] at HS
        obtain ⟨tE, sE⟩ := XE
        have HEH : Hid (((rePM P T t).ax tE).isNone = true ∧ tE.p = 1 ∧ tE.spins = true ∧ peekT (ndN P T) sE 13 = 1 ∧ peekT (ndN P T) sE 14 = 0 ∧ peekT (ndN P T) sE (wd 20 P 264 1 0) = 1) := HE
        clear hXE HE HRUN
        rw [show ((20 : Nat) : Int) = 20 from rfl]
        have hK1 := peek_any wr A cap c b (ndN P T) sE 13 HS.out.mem HN6.out
        have hK2 := peek_any wr A cap c b (ndN P T) sE 14 HS.out.mem HN6.out
        rw [HEH.out.2.2.2.1] at hK1
        rw [HEH.out.2.2.2.2.1] at hK2
        have hPr := lprc_any (some ⟨cl, 0, none⟩) P T 1 1 0 wr (.some cl HS.out.rd) (by have := HBD.out; omega) (by omega)
        have HBF : Hid (Below w.heap.size w wr) := HS.out.below
        have HI6 : Hid (Is wr 128 A cap c b (ndN P T) sE) := HS.out.mem
        have HMX : Hid (∀ Y, Below wr.heap.size wr Y → ((reCp P T 1 t cl).I) Y x tE L) := fun Y hY => HGM.out.below HS.out.mach hY
        clear HS
        go_wp2_with fail
        go_at_call 34; refine hK1.mono ?_; rintro e w6 ⟨rfl, rfl⟩
        go_wp2_with fail
        go_at_call 34; refine hK2.mono ?_; rintro e w6 ⟨rfl, rfl⟩
        clear hK1 hK2
        go_wp2_with fail
        go_at_call 62; refine hPr.mono ?_; rintro e w7 ⟨rfl, hb7⟩
        have hK3 := peek_any w7 A cap c b (ndN P T) sE (wd 20 P 264 1 0) (HI6.out.below hb7) HN6.out
        rw [HEH.out.2.2.2.2.2] at hK3
        have HB7 : Hid (Below wr.heap.size wr w7) := hb7
        clear hPr hb7 HI6
        go_wp2_with fail
        go_at_call 34; refine hK3.mono ?_; rintro e w8 ⟨rfl, rfl⟩
        clear hK3
        go_wp2_with fail
        go_at_call 40; refine (HAW.out _).mono ?_; rintro e w9 ⟨rfl, h9⟩
        have HB9 : Hid (Below wr.heap.size wr w9) := seq HB7.out h9
        have hM9 := HMX.out w9 HB9.out
        have hD : Calls Tryz.prog 52 #[.pointer (some ⟨x, 0, none⟩)] w9 fun e w' => e = .returned (.bool true) ∧ w9 = w' := by
          obtain ⟨nx, q1, q2⟩ := HGM.out.next hM9
          have := HEH.out.1
          rw [this] at q2
          rw [← q2]
          exact done_rrst w9 x nx q1
        have hTP := re_tells_P hM9
        have hTS := re_tells_S hM9
        rw [HEH.out.2.1] at hTP
        rw [HEH.out.2.2.1] at hTS
        have HFF : Hid (Below w.heap.size w w9) := seq HBF.out HB9.out
        clear h9 hM9
        go_wp2_with fail
        go_at_call 52; refine hD.mono ?_; rintro e w10 ⟨rfl, rfl⟩
        go_wp2_with fail
        go_at_call 53; refine hTP.mono ?_; rintro e w10 ⟨rfl, rfl⟩
        go_wp2_with fail
        go_at_call 54; refine hTS.mono ?_; rintro e w10 ⟨rfl, rfl⟩
        clear hD hTP hTS
        go_wp2_with fail
        go_ret
        exact ⟨rfl, HFF.out⟩
set_option maxHeartbeats 8000000 in
theorem needed_at2 (P T G t : Int) (w : World) (hAw : ∀ w, Calls Tryz.prog 40 #[] w fun e w' => e = .returned (.bool true) ∧ Below w.heap.size w w') (hP : 1 ≤ P ∧ P ≤ 4) (hT : P ≤ T ∧ T ≤ 8) (hp : (2 : Int) < P) (ht : 0 ≤ t ∧ t < T) :
    Calls Tryz.prog 10 #[.agg #[.int .i64 P, .int .i64 T, .int .i64 G], .int .i64 2, .int .i64 t] w fun e w' => e = .returned (.bool true) ∧ Below w.heap.size w w' := by
  have HAW : Hid (∀ w, Calls Tryz.prog 40 #[] w fun e w' => e = .returned (.bool true) ∧ Below w.heap.size w w') := hAw
  have HNN : Hid (((ndN P T : Nat) : Int) = 20 + 264 * P + 3 * T + 2 * 1) := (by unfold ndN; omega : ((ndN P T : Nat) : Int) = 20 + 264 * P + 3 * T + 2 * 1)
  have HRUN : Hid (ndRun P T t 2 20 (.acq .fresh, ndS P T 2) = true) := nd_all P T t 2 hP hT (by omega) ht
  have HL0 : Hid (∀ (E : Option Addr) (W : World), SeesP W W.heap.size E 4 ndA (ndV 2) → Calls Tryz.prog 11 #[.agg #[.int .i64 P, .int .i64 T, .int .i64 1, .slice E (4 : Nat) 4]] W fun e w' => ∃ (cl : Nat) (A A' : Option Addr) (cap cap' c b c' b' : Nat), e = .returned (.tuple #[.pointer (some ⟨cl, 0, none⟩), .pointer (some ⟨c, 0, none⟩), .pointer (some ⟨c', 0, none⟩), .bool true]) ∧ Laid W w' P T 1 (ndN P T) (putF ndA (ndV 2) (ndN P T) 4) cl A A' cap cap' c b c' b') := fun E W hs =>
    lay_some P T 1 E 4 4 (ndN P T) ndA (ndV 2) W (by omega) ⟨⟨by omega⟩, by omega, by omega, by omega⟩ HNN.out hs (fun i hi => by rcases (by omega : i = 0 ∨ i = 1 ∨ i = 2 ∨ i = 3) with rfl | rfl | rfl | rfl <;> exact ⟨by decide, by decide⟩)
  have HBD : Hid ((1 ≤ P ∧ P ≤ 4) ∧ (P ≤ T ∧ T ≤ 8) ∧ (0 ≤ t ∧ t < T)) := ⟨hP, hT, ht⟩
  have HX1 : Hid (Blk (((w.alloc (.cells #[.int .i64 P, .int .i64 T, .int .i64 G] 23)).alloc (.cells #[.int .i64 9, .int .u64 3, .int .i64 10, .int .u64 1, .int .i64 14, .int .u64 1, .int .i64 19, .int .u64 4] 93)).alloc (.cells #[.int .i64 P, .int .i64 T, .int .i64 1, .slice (some ⟨w.heap.size + 1, 0, none⟩) 4 4] 26)).drew (w.heap.size + 1) #[.int .i64 9, .int .u64 3, .int .i64 10, .int .u64 1, .int .i64 14, .int .u64 1, .int .i64 19, .int .u64 4] 93) := by
    have := ((Blk.new (w.alloc (.cells #[.int .i64 P, .int .i64 T, .int .i64 G] 23)) #[.int .i64 9, .int .u64 3, .int .i64 10, .int .u64 1, .int .i64 14, .int .u64 1, .int .i64 19, .int .u64 4] 93).al (.cells #[.int .i64 P, .int .i64 T, .int .i64 1, .slice (some ⟨w.heap.size + 1, 0, none⟩) 4 4] 26)).drew
    rw [World.size_alloc] at this
    exact this
  have HX2 : Hid (Blk (((w.alloc (.cells #[.int .i64 P, .int .i64 T, .int .i64 G] 23)).alloc (.cells #[.int .i64 P, .int .i64 T, .int .i64 1, .slice (some ⟨w.heap.size + 1 + 1, 0, none⟩) 4 4] 26)).alloc (.cells #[.int .i64 9, .int .u64 3, .int .i64 10, .int .u64 1, .int .i64 14, .int .u64 1, .int .i64 19, .int .u64 4] 93)).drew (w.heap.size + 1 + 1) #[.int .i64 9, .int .u64 3, .int .i64 10, .int .u64 1, .int .i64 14, .int .u64 1, .int .i64 19, .int .u64 4] 93) := by
    have := (Blk.new ((w.alloc (.cells #[.int .i64 P, .int .i64 T, .int .i64 G] 23)).alloc (.cells #[.int .i64 P, .int .i64 T, .int .i64 1, .slice (some ⟨w.heap.size + 1 + 1, 0, none⟩) 4 4] 26)) #[.int .i64 9, .int .u64 3, .int .i64 10, .int .u64 1, .int .i64 14, .int .u64 1, .int .i64 19, .int .u64 4] 93).drew
    rw [World.size_alloc, World.size_alloc] at this
    exact this
  have HB1 : Hid (Below w.heap.size w (((w.alloc (.cells #[.int .i64 P, .int .i64 T, .int .i64 G] 23)).alloc (.cells #[.int .i64 9, .int .u64 3, .int .i64 10, .int .u64 1, .int .i64 14, .int .u64 1, .int .i64 19, .int .u64 4] 93)).alloc (.cells #[.int .i64 P, .int .i64 T, .int .i64 1, .slice (some ⟨w.heap.size + 1, 0, none⟩) 4 4] 26)).drew) := ((((Below.refl _ _).alloc (Nat.le_refl _) _).alloc (by simp) _).alloc (by simp; omega) _).drew
  have HB2 : Hid (Below w.heap.size w (((w.alloc (.cells #[.int .i64 P, .int .i64 T, .int .i64 G] 23)).alloc (.cells #[.int .i64 P, .int .i64 T, .int .i64 1, .slice (some ⟨w.heap.size + 1 + 1, 0, none⟩) 4 4] 26)).alloc (.cells #[.int .i64 9, .int .u64 3, .int .i64 10, .int .u64 1, .int .i64 14, .int .u64 1, .int .i64 19, .int .u64 4] 93)).drew) := ((((Below.refl _ _).alloc (Nat.le_refl _) _).alloc (by simp) _).alloc (by simp; omega) _).drew
  have d1 : decide (P < 1) = false := decide_eq_false (by omega)
  have d2 : decide ((4 : Int) < P) = false := decide_eq_false (by omega)
  have d3 : decide (T < P) = false := decide_eq_false (by omega)
  have d4 : decide ((8 : Int) < T) = false := decide_eq_false (by omega)
  have d5 : decide (P ≤ 2) = false := decide_eq_false (by omega)
  have d6 : decide (t < 0) = false := decide_eq_false (by omega)
  have d7 : decide (T ≤ t) = false := decide_eq_false (by omega)
  clear hAw hP hT hp ht
  go_enter Tryz.func10, Tryz.ntmps10
  go_wp2_with fail
  go_region
  all_goals clear d1 d2 d3 d4 d5 d6 d7
  · clear HX2 HB2
    go_wp2_with fail
    have hL := HL0.out _ _ (nd_sees (p := 2) HX1.out rfl rfl)
    clear HX1 HL0
    generalize (((w.alloc (.cells #[.int .i64 P, .int .i64 T, .int .i64 G] 23)).alloc (.cells #[.int .i64 9, .int .u64 3, .int .i64 10, .int .u64 1, .int .i64 14, .int .u64 1, .int .i64 19, .int .u64 4] 93)).alloc (.cells #[.int .i64 P, .int .i64 T, .int .i64 1, .slice (some ⟨w.heap.size + 1, 0, none⟩) 4 4] 26)).drew = W at *
    go_at_call 11; refine hL.mono ?_; rintro e w1 ⟨cl, A, A', cap, cap', c, b, c', b', rfl, hLd⟩
    have hszW := HB1.out.size
    have HI1 : Hid (Is w1 128 A cap c b (ndN P T) (ndS P T 2)) := hLd.two.m
    have HY1 : Hid (Lay w1 cl P T 1) := hLd.lay
    have HBA : Hid (Below w.heap.size w w1) := HB1.out.trans (hLd.below.mono hszW)
    have hn0 : 0 < ndN P T := by have := HNN.out; have := HBD.out; omega
    have hne : Hid (cl ≠ c ∧ cl ≠ b) := lay_ne hLd.lay (by decide) hLd.two.m hn0
    have hup : Hid (w.heap.size ≤ c ∧ w.heap.size ≤ b) := ⟨by have := hLd.up.2.1; omega, by have := hLd.up.2.2.1; omega⟩
    have hLM : (reCp P T 1 t cl).Laws (rePM P T t) (Rd.lay cl P T 1) t := re_laws (by have := HBD.out; omega) (by have := HBD.out; omega) (by have := HBD.out; omega)
    have hGM : ((reCp P T 1 t cl).I).Good (rePM P T t) := Cp.good hLM
    have HGM : Hid (((reCp P T 1 t cl).I).Good (rePM P T t)) := hGM
    have HAS : Hid (Aslp (rePM P T t) ((reCp P T 1 t cl).I) 55) := re_aslp (by have := HBD.out; omega) (by have := HBD.out; omega) (by have := HBD.out; omega)
    have HST : Hid (Steps (rePM P T t) ((reCp P T 1 t cl).I) (Rd.lay cl P T 1) 57 t) := Cp.steps hLM stepby_rrst
    have HRF : Hid (c ∉ ((Rd.lay cl P T 1)).B ∧ b ∉ ((Rd.lay cl P T 1)).B) := ⟨fun h => hne.out.1 (List.mem_singleton.1 h).symm, fun h => hne.out.2 (List.mem_singleton.1 h).symm⟩
    have HN6 : Hid (ndN P T ≤ 1000000) := (by have := HNN.out; have := HBD.out; omega : ndN P T ≤ 1000000)
    have hN := re_new_at w1 cl t P T 1 (by have := HBD.out; omega)
    clear hL hLd hne hLM hGM hszW hn0 HB1
    go_wp2_with fail
    go_at_call 58; refine hN.mono ?_; rintro e w2 ⟨x, L, rfl, ha1, ha2, ha3, -⟩
    have HSA : Hid (Solo ((reCp P T 1 t cl).I) (Rd.lay cl P T 1) w w2 A cap c b (ndN P T) ((rePM P T t).steps t (ndN P T) 0 (.acq .fresh, (ndS P T 2))).2 x ((rePM P T t).steps t (ndN P T) 0 (.acq .fresh, (ndS P T 2))).1 L) := Solo.begin HI1.out ha2 HBA.out hup.out ha1 ha3 HY1.out (fun k hk => by obtain rfl : k = cl := List.mem_singleton.1 hk; exact HY1.out.lt) HRF.out
    clear hN ha1 ha2 ha3 HI1 HY1 HBA HRF hup
    go_wp2_with fail
    have HLO : Hid (∀ q : Nat, q ≤ 20 → Low ((rePM P T t).steps t (ndN P T) q (.acq .fresh, (ndS P T 2))).2 1000000) := fun q hq => (PM.steps_low (rePM P T t) t (ndN P T) q (.acq .fresh, (ndS P T 2)) (low_fresh _)).more (by omega)
    go_loopw [13] (fun k wi => ∃ (q : Nat) (L : List Nat), q ≤ 20 ∧ k = .int .i64 q ∧ Hid (Solo ((reCp P T 1 t cl).I) (Rd.lay cl P T 1) w wi A cap c b (ndN P T) ((rePM P T t).steps t (ndN P T) q (.acq .fresh, (ndS P T 2))).2 x ((rePM P T t).steps t (ndN P T) q (.acq .fresh, (ndS P T 2))).1 L)) (fun k _ => 20 - (intOf k).toNat)
    case atStart => exact ⟨0, _, by omega, rfl, HSA⟩
    case round =>
      clear HSA
      obtain ⟨q, L, hq, rfl, HS⟩ := hrel
      by_cases hq9 : q < 20
      · have hSt := HS.out.step HGM.out HST.out (fun Y h => h) (fun k hk => hk) HN6.out (HLO.out q hq)
        rw [show (rePM P T t).goS t (ndN P T) ((rePM P T t).steps t (ndN P T) q (.acq .fresh, (ndS P T 2))).1 ((rePM P T t).steps t (ndN P T) q (.acq .fresh, (ndS P T 2))).2 = ((rePM P T t).steps t (ndN P T) (q + 1) (.acq .fresh, (ndS P T 2))).2 by rw [PM.steps_succ], show (rePM P T t).goT (ndN P T) ((rePM P T t).steps t (ndN P T) q (.acq .fresh, (ndS P T 2))).1 ((rePM P T t).steps t (ndN P T) q (.acq .fresh, (ndS P T 2))).2 = ((rePM P T t).steps t (ndN P T) (q + 1) (.acq .fresh, (ndS P T 2))).1 by rw [PM.steps_succ]] at hSt
        have hz := nd_aslp HRUN.out q hq9
        have HZ : Hid ((rePM P T t).aslp (ndN P T) ((rePM P T t).steps t (ndN P T) (q + 1) (.acq .fresh, (ndS P T 2))).1 ((rePM P T t).steps t (ndN P T) (q + 1) (.acq .fresh, (ndS P T 2))).2 = false) := hz
        have hq1 : (q : Int) < 20 := by omega
        have hq0 : (0 : Int) ≤ (q : Int) := by omega
        clear HS hz
        go_wp2_with fail
        go_at_call 57; refine hSt.mono ?_; rintro e w4 ⟨rfl, L', hS'⟩
        have HS' : Hid _ := hS'
        have hA := HAS.out w4 A cap c b (ndN P T) ((rePM P T t).steps t (ndN P T) (q + 1) (.acq .fresh, (ndS P T 2))).2 x ((rePM P T t).steps t (ndN P T) (q + 1) (.acq .fresh, (ndS P T 2))).1 L' HS'.out.mach HS'.out.mem HN6.out (fun k hk => ⟨(HS'.out.far k hk).1, (HS'.out.far k hk).2.1⟩)
        rw [HZ.out] at hA
        clear hSt hS'
        go_wp2_with fail
        go_at_call 55; refine hA.mono ?_; rintro e w5 ⟨rfl, hb5⟩
        have HS5 : Hid _ := HS'.out.still HGM.out hb5
        clear hA hb5 HS' HZ
        go_wp2_with fail
        go_roundw
        case rel => exact ⟨q + 1, L', by omega, by go_num, HS5⟩
        case measure => simp [intOf]; omega
      · obtain rfl : q = 20 := by omega
        clear HLO hq9 hq
        obtain ⟨XE, hXE⟩ : ∃ XE, ((rePM P T t).steps t (ndN P T) 20 (.acq .fresh, (ndS P T 2))) = XE := ⟨_, rfl⟩
        have HE := nd_end hXE rfl HRUN.out
        rw [hXE] at HS
        obtain ⟨tE, sE⟩ := XE
        have HEH : Hid (((rePM P T t).ax tE).isNone = true ∧ tE.p = 2 ∧ tE.spins = true ∧ peekT (ndN P T) sE 13 = 1 ∧ peekT (ndN P T) sE 14 = 0 ∧ peekT (ndN P T) sE (wd 20 P 264 2 0) = 1) := HE
        clear hXE HE HRUN
        rw [show ((20 : Nat) : Int) = 20 from rfl]
        have hK1 := peek_any wr A cap c b (ndN P T) sE 13 HS.out.mem HN6.out
        have hK2 := peek_any wr A cap c b (ndN P T) sE 14 HS.out.mem HN6.out
        rw [HEH.out.2.2.2.1] at hK1
        rw [HEH.out.2.2.2.2.1] at hK2
        have hPr := lprc_any (some ⟨cl, 0, none⟩) P T 1 2 0 wr (.some cl HS.out.rd) (by have := HBD.out; omega) (by omega)
        have HBF : Hid (Below w.heap.size w wr) := HS.out.below
        have HI6 : Hid (Is wr 128 A cap c b (ndN P T) sE) := HS.out.mem
        have HMX : Hid (∀ Y, Below wr.heap.size wr Y → ((reCp P T 1 t cl).I) Y x tE L) := fun Y hY => HGM.out.below HS.out.mach hY
        clear HS
        go_wp2_with fail
        go_at_call 34; refine hK1.mono ?_; rintro e w6 ⟨rfl, rfl⟩
        go_wp2_with fail
        go_at_call 34; refine hK2.mono ?_; rintro e w6 ⟨rfl, rfl⟩
        clear hK1 hK2
        go_wp2_with fail
        go_at_call 62; refine hPr.mono ?_; rintro e w7 ⟨rfl, hb7⟩
        have hK3 := peek_any w7 A cap c b (ndN P T) sE (wd 20 P 264 2 0) (HI6.out.below hb7) HN6.out
        rw [HEH.out.2.2.2.2.2] at hK3
        have HB7 : Hid (Below wr.heap.size wr w7) := hb7
        clear hPr hb7 HI6
        go_wp2_with fail
        go_at_call 34; refine hK3.mono ?_; rintro e w8 ⟨rfl, rfl⟩
        clear hK3
        go_wp2_with fail
        go_at_call 40; refine (HAW.out _).mono ?_; rintro e w9 ⟨rfl, h9⟩
        have HB9 : Hid (Below wr.heap.size wr w9) := seq HB7.out h9
        have hM9 := HMX.out w9 HB9.out
        have hD : Calls Tryz.prog 52 #[.pointer (some ⟨x, 0, none⟩)] w9 fun e w' => e = .returned (.bool true) ∧ w9 = w' := by
          obtain ⟨nx, q1, q2⟩ := HGM.out.next hM9
          have := HEH.out.1
          rw [this] at q2
          rw [← q2]
          exact done_rrst w9 x nx q1
        have hTP := re_tells_P hM9
        have hTS := re_tells_S hM9
        rw [HEH.out.2.1] at hTP
        rw [HEH.out.2.2.1] at hTS
        have HFF : Hid (Below w.heap.size w w9) := seq HBF.out HB9.out
        clear h9 hM9
        go_wp2_with fail
        go_at_call 52; refine hD.mono ?_; rintro e w10 ⟨rfl, rfl⟩
        go_wp2_with fail
        go_at_call 53; refine hTP.mono ?_; rintro e w10 ⟨rfl, rfl⟩
        go_wp2_with fail
        go_at_call 54; refine hTS.mono ?_; rintro e w10 ⟨rfl, rfl⟩
        clear hD hTP hTS
        go_wp2_with fail
        go_ret
        exact ⟨rfl, HFF.out⟩
  · clear HX1 HB1
    go_wp2_with fail
    have hL := HL0.out _ _ (nd_sees (p := 2) HX2.out rfl rfl)
    clear HX2 HL0
    generalize (((w.alloc (.cells #[.int .i64 P, .int .i64 T, .int .i64 G] 23)).alloc (.cells #[.int .i64 P, .int .i64 T, .int .i64 1, .slice (some ⟨w.heap.size + 1 + 1, 0, none⟩) 4 4] 26)).alloc (.cells #[.int .i64 9, .int .u64 3, .int .i64 10, .int .u64 1, .int .i64 14, .int .u64 1, .int .i64 19, .int .u64 4] 93)).drew = W at *
    go_at_call 11; refine hL.mono ?_; rintro e w1 ⟨cl, A, A', cap, cap', c, b, c', b', rfl, hLd⟩
    have hszW := HB2.out.size
    have HI1 : Hid (Is w1 128 A cap c b (ndN P T) (ndS P T 2)) := hLd.two.m
    have HY1 : Hid (Lay w1 cl P T 1) := hLd.lay
    have HBA : Hid (Below w.heap.size w w1) := HB2.out.trans (hLd.below.mono hszW)
    have hn0 : 0 < ndN P T := by have := HNN.out; have := HBD.out; omega
    have hne : Hid (cl ≠ c ∧ cl ≠ b) := lay_ne hLd.lay (by decide) hLd.two.m hn0
    have hup : Hid (w.heap.size ≤ c ∧ w.heap.size ≤ b) := ⟨by have := hLd.up.2.1; omega, by have := hLd.up.2.2.1; omega⟩
    have hLM : (reCp P T 1 t cl).Laws (rePM P T t) (Rd.lay cl P T 1) t := re_laws (by have := HBD.out; omega) (by have := HBD.out; omega) (by have := HBD.out; omega)
    have hGM : ((reCp P T 1 t cl).I).Good (rePM P T t) := Cp.good hLM
    have HGM : Hid (((reCp P T 1 t cl).I).Good (rePM P T t)) := hGM
    have HAS : Hid (Aslp (rePM P T t) ((reCp P T 1 t cl).I) 55) := re_aslp (by have := HBD.out; omega) (by have := HBD.out; omega) (by have := HBD.out; omega)
    have HST : Hid (Steps (rePM P T t) ((reCp P T 1 t cl).I) (Rd.lay cl P T 1) 57 t) := Cp.steps hLM stepby_rrst
    have HRF : Hid (c ∉ ((Rd.lay cl P T 1)).B ∧ b ∉ ((Rd.lay cl P T 1)).B) := ⟨fun h => hne.out.1 (List.mem_singleton.1 h).symm, fun h => hne.out.2 (List.mem_singleton.1 h).symm⟩
    have HN6 : Hid (ndN P T ≤ 1000000) := (by have := HNN.out; have := HBD.out; omega : ndN P T ≤ 1000000)
    have hN := re_new_at w1 cl t P T 1 (by have := HBD.out; omega)
    clear hL hLd hne hLM hGM hszW hn0 HB2
    go_wp2_with fail
    go_at_call 58; refine hN.mono ?_; rintro e w2 ⟨x, L, rfl, ha1, ha2, ha3, -⟩
    have HSA : Hid (Solo ((reCp P T 1 t cl).I) (Rd.lay cl P T 1) w w2 A cap c b (ndN P T) ((rePM P T t).steps t (ndN P T) 0 (.acq .fresh, (ndS P T 2))).2 x ((rePM P T t).steps t (ndN P T) 0 (.acq .fresh, (ndS P T 2))).1 L) := Solo.begin HI1.out ha2 HBA.out hup.out ha1 ha3 HY1.out (fun k hk => by obtain rfl : k = cl := List.mem_singleton.1 hk; exact HY1.out.lt) HRF.out
    clear hN ha1 ha2 ha3 HI1 HY1 HBA HRF hup
    go_wp2_with fail
    have HLO : Hid (∀ q : Nat, q ≤ 20 → Low ((rePM P T t).steps t (ndN P T) q (.acq .fresh, (ndS P T 2))).2 1000000) := fun q hq => (PM.steps_low (rePM P T t) t (ndN P T) q (.acq .fresh, (ndS P T 2)) (low_fresh _)).more (by omega)
    go_loopw [13] (fun k wi => ∃ (q : Nat) (L : List Nat), q ≤ 20 ∧ k = .int .i64 q ∧ Hid (Solo ((reCp P T 1 t cl).I) (Rd.lay cl P T 1) w wi A cap c b (ndN P T) ((rePM P T t).steps t (ndN P T) q (.acq .fresh, (ndS P T 2))).2 x ((rePM P T t).steps t (ndN P T) q (.acq .fresh, (ndS P T 2))).1 L)) (fun k _ => 20 - (intOf k).toNat)
    case atStart => exact ⟨0, _, by omega, rfl, HSA⟩
    case round =>
      clear HSA
      obtain ⟨q, L, hq, rfl, HS⟩ := hrel
      by_cases hq9 : q < 20
      · have hSt := HS.out.step HGM.out HST.out (fun Y h => h) (fun k hk => hk) HN6.out (HLO.out q hq)
        rw [show (rePM P T t).goS t (ndN P T) ((rePM P T t).steps t (ndN P T) q (.acq .fresh, (ndS P T 2))).1 ((rePM P T t).steps t (ndN P T) q (.acq .fresh, (ndS P T 2))).2 = ((rePM P T t).steps t (ndN P T) (q + 1) (.acq .fresh, (ndS P T 2))).2 by rw [PM.steps_succ], show (rePM P T t).goT (ndN P T) ((rePM P T t).steps t (ndN P T) q (.acq .fresh, (ndS P T 2))).1 ((rePM P T t).steps t (ndN P T) q (.acq .fresh, (ndS P T 2))).2 = ((rePM P T t).steps t (ndN P T) (q + 1) (.acq .fresh, (ndS P T 2))).1 by rw [PM.steps_succ]] at hSt
        have hz := nd_aslp HRUN.out q hq9
        have HZ : Hid ((rePM P T t).aslp (ndN P T) ((rePM P T t).steps t (ndN P T) (q + 1) (.acq .fresh, (ndS P T 2))).1 ((rePM P T t).steps t (ndN P T) (q + 1) (.acq .fresh, (ndS P T 2))).2 = false) := hz
        have hq1 : (q : Int) < 20 := by omega
        have hq0 : (0 : Int) ≤ (q : Int) := by omega
        clear HS hz
        go_wp2_with fail
        go_at_call 57; refine hSt.mono ?_; rintro e w4 ⟨rfl, L', hS'⟩
        have HS' : Hid _ := hS'
        have hA := HAS.out w4 A cap c b (ndN P T) ((rePM P T t).steps t (ndN P T) (q + 1) (.acq .fresh, (ndS P T 2))).2 x ((rePM P T t).steps t (ndN P T) (q + 1) (.acq .fresh, (ndS P T 2))).1 L' HS'.out.mach HS'.out.mem HN6.out (fun k hk => ⟨(HS'.out.far k hk).1, (HS'.out.far k hk).2.1⟩)
        rw [HZ.out] at hA
        clear hSt hS'
        go_wp2_with fail
        go_at_call 55; refine hA.mono ?_; rintro e w5 ⟨rfl, hb5⟩
        have HS5 : Hid _ := HS'.out.still HGM.out hb5
        clear hA hb5 HS' HZ
        go_wp2_with fail
        go_roundw
        case rel => exact ⟨q + 1, L', by omega, by go_num, HS5⟩
        case measure => simp [intOf]; omega
      · obtain rfl : q = 20 := by omega
        clear HLO hq9 hq
        obtain ⟨XE, hXE⟩ : ∃ XE, ((rePM P T t).steps t (ndN P T) 20 (.acq .fresh, (ndS P T 2))) = XE := ⟨_, rfl⟩
        have HE := nd_end hXE rfl HRUN.out
        rw [hXE] at HS
        obtain ⟨tE, sE⟩ := XE
        have HEH : Hid (((rePM P T t).ax tE).isNone = true ∧ tE.p = 2 ∧ tE.spins = true ∧ peekT (ndN P T) sE 13 = 1 ∧ peekT (ndN P T) sE 14 = 0 ∧ peekT (ndN P T) sE (wd 20 P 264 2 0) = 1) := HE
        clear hXE HE HRUN
        rw [show ((20 : Nat) : Int) = 20 from rfl]
        have hK1 := peek_any wr A cap c b (ndN P T) sE 13 HS.out.mem HN6.out
        have hK2 := peek_any wr A cap c b (ndN P T) sE 14 HS.out.mem HN6.out
        rw [HEH.out.2.2.2.1] at hK1
        rw [HEH.out.2.2.2.2.1] at hK2
        have hPr := lprc_any (some ⟨cl, 0, none⟩) P T 1 2 0 wr (.some cl HS.out.rd) (by have := HBD.out; omega) (by omega)
        have HBF : Hid (Below w.heap.size w wr) := HS.out.below
        have HI6 : Hid (Is wr 128 A cap c b (ndN P T) sE) := HS.out.mem
        have HMX : Hid (∀ Y, Below wr.heap.size wr Y → ((reCp P T 1 t cl).I) Y x tE L) := fun Y hY => HGM.out.below HS.out.mach hY
        clear HS
        go_wp2_with fail
        go_at_call 34; refine hK1.mono ?_; rintro e w6 ⟨rfl, rfl⟩
        go_wp2_with fail
        go_at_call 34; refine hK2.mono ?_; rintro e w6 ⟨rfl, rfl⟩
        clear hK1 hK2
        go_wp2_with fail
        go_at_call 62; refine hPr.mono ?_; rintro e w7 ⟨rfl, hb7⟩
        have hK3 := peek_any w7 A cap c b (ndN P T) sE (wd 20 P 264 2 0) (HI6.out.below hb7) HN6.out
        rw [HEH.out.2.2.2.2.2] at hK3
        have HB7 : Hid (Below wr.heap.size wr w7) := hb7
        clear hPr hb7 HI6
        go_wp2_with fail
        go_at_call 34; refine hK3.mono ?_; rintro e w8 ⟨rfl, rfl⟩
        clear hK3
        go_wp2_with fail
        go_at_call 40; refine (HAW.out _).mono ?_; rintro e w9 ⟨rfl, h9⟩
        have HB9 : Hid (Below wr.heap.size wr w9) := seq HB7.out h9
        have hM9 := HMX.out w9 HB9.out
        have hD : Calls Tryz.prog 52 #[.pointer (some ⟨x, 0, none⟩)] w9 fun e w' => e = .returned (.bool true) ∧ w9 = w' := by
          obtain ⟨nx, q1, q2⟩ := HGM.out.next hM9
          have := HEH.out.1
          rw [this] at q2
          rw [← q2]
          exact done_rrst w9 x nx q1
        have hTP := re_tells_P hM9
        have hTS := re_tells_S hM9
        rw [HEH.out.2.1] at hTP
        rw [HEH.out.2.2.1] at hTS
        have HFF : Hid (Below w.heap.size w w9) := seq HBF.out HB9.out
        clear h9 hM9
        go_wp2_with fail
        go_at_call 52; refine hD.mono ?_; rintro e w10 ⟨rfl, rfl⟩
        go_wp2_with fail
        go_at_call 53; refine hTP.mono ?_; rintro e w10 ⟨rfl, rfl⟩
        go_wp2_with fail
        go_at_call 54; refine hTS.mono ?_; rintro e w10 ⟨rfl, rfl⟩
        clear hD hTP hTS
        go_wp2_with fail
        go_ret
        exact ⟨rfl, HFF.out⟩
set_option maxHeartbeats 8000000 in
theorem needed_at3 (P T G t : Int) (w : World) (hAw : ∀ w, Calls Tryz.prog 40 #[] w fun e w' => e = .returned (.bool true) ∧ Below w.heap.size w w') (hP : 1 ≤ P ∧ P ≤ 4) (hT : P ≤ T ∧ T ≤ 8) (hp : (3 : Int) < P) (ht : 0 ≤ t ∧ t < T) :
    Calls Tryz.prog 10 #[.agg #[.int .i64 P, .int .i64 T, .int .i64 G], .int .i64 3, .int .i64 t] w fun e w' => e = .returned (.bool true) ∧ Below w.heap.size w w' := by
  have HAW : Hid (∀ w, Calls Tryz.prog 40 #[] w fun e w' => e = .returned (.bool true) ∧ Below w.heap.size w w') := hAw
  have HNN : Hid (((ndN P T : Nat) : Int) = 20 + 264 * P + 3 * T + 2 * 1) := (by unfold ndN; omega : ((ndN P T : Nat) : Int) = 20 + 264 * P + 3 * T + 2 * 1)
  have HRUN : Hid (ndRun P T t 3 20 (.acq .fresh, ndS P T 3) = true) := nd_all P T t 3 hP hT (by omega) ht
  have HL0 : Hid (∀ (E : Option Addr) (W : World), SeesP W W.heap.size E 4 ndA (ndV 3) → Calls Tryz.prog 11 #[.agg #[.int .i64 P, .int .i64 T, .int .i64 1, .slice E (4 : Nat) 4]] W fun e w' => ∃ (cl : Nat) (A A' : Option Addr) (cap cap' c b c' b' : Nat), e = .returned (.tuple #[.pointer (some ⟨cl, 0, none⟩), .pointer (some ⟨c, 0, none⟩), .pointer (some ⟨c', 0, none⟩), .bool true]) ∧ Laid W w' P T 1 (ndN P T) (putF ndA (ndV 3) (ndN P T) 4) cl A A' cap cap' c b c' b') := fun E W hs =>
    lay_some P T 1 E 4 4 (ndN P T) ndA (ndV 3) W (by omega) ⟨⟨by omega⟩, by omega, by omega, by omega⟩ HNN.out hs (fun i hi => by rcases (by omega : i = 0 ∨ i = 1 ∨ i = 2 ∨ i = 3) with rfl | rfl | rfl | rfl <;> exact ⟨by decide, by decide⟩)
  have HBD : Hid ((1 ≤ P ∧ P ≤ 4) ∧ (P ≤ T ∧ T ≤ 8) ∧ (0 ≤ t ∧ t < T)) := ⟨hP, hT, ht⟩
  have HX1 : Hid (Blk (((w.alloc (.cells #[.int .i64 P, .int .i64 T, .int .i64 G] 23)).alloc (.cells #[.int .i64 9, .int .u64 4, .int .i64 10, .int .u64 1, .int .i64 14, .int .u64 1, .int .i64 19, .int .u64 8] 93)).alloc (.cells #[.int .i64 P, .int .i64 T, .int .i64 1, .slice (some ⟨w.heap.size + 1, 0, none⟩) 4 4] 26)).drew (w.heap.size + 1) #[.int .i64 9, .int .u64 4, .int .i64 10, .int .u64 1, .int .i64 14, .int .u64 1, .int .i64 19, .int .u64 8] 93) := by
    have := ((Blk.new (w.alloc (.cells #[.int .i64 P, .int .i64 T, .int .i64 G] 23)) #[.int .i64 9, .int .u64 4, .int .i64 10, .int .u64 1, .int .i64 14, .int .u64 1, .int .i64 19, .int .u64 8] 93).al (.cells #[.int .i64 P, .int .i64 T, .int .i64 1, .slice (some ⟨w.heap.size + 1, 0, none⟩) 4 4] 26)).drew
    rw [World.size_alloc] at this
    exact this
  have HX2 : Hid (Blk (((w.alloc (.cells #[.int .i64 P, .int .i64 T, .int .i64 G] 23)).alloc (.cells #[.int .i64 P, .int .i64 T, .int .i64 1, .slice (some ⟨w.heap.size + 1 + 1, 0, none⟩) 4 4] 26)).alloc (.cells #[.int .i64 9, .int .u64 4, .int .i64 10, .int .u64 1, .int .i64 14, .int .u64 1, .int .i64 19, .int .u64 8] 93)).drew (w.heap.size + 1 + 1) #[.int .i64 9, .int .u64 4, .int .i64 10, .int .u64 1, .int .i64 14, .int .u64 1, .int .i64 19, .int .u64 8] 93) := by
    have := (Blk.new ((w.alloc (.cells #[.int .i64 P, .int .i64 T, .int .i64 G] 23)).alloc (.cells #[.int .i64 P, .int .i64 T, .int .i64 1, .slice (some ⟨w.heap.size + 1 + 1, 0, none⟩) 4 4] 26)) #[.int .i64 9, .int .u64 4, .int .i64 10, .int .u64 1, .int .i64 14, .int .u64 1, .int .i64 19, .int .u64 8] 93).drew
    rw [World.size_alloc, World.size_alloc] at this
    exact this
  have HB1 : Hid (Below w.heap.size w (((w.alloc (.cells #[.int .i64 P, .int .i64 T, .int .i64 G] 23)).alloc (.cells #[.int .i64 9, .int .u64 4, .int .i64 10, .int .u64 1, .int .i64 14, .int .u64 1, .int .i64 19, .int .u64 8] 93)).alloc (.cells #[.int .i64 P, .int .i64 T, .int .i64 1, .slice (some ⟨w.heap.size + 1, 0, none⟩) 4 4] 26)).drew) := ((((Below.refl _ _).alloc (Nat.le_refl _) _).alloc (by simp) _).alloc (by simp; omega) _).drew
  have HB2 : Hid (Below w.heap.size w (((w.alloc (.cells #[.int .i64 P, .int .i64 T, .int .i64 G] 23)).alloc (.cells #[.int .i64 P, .int .i64 T, .int .i64 1, .slice (some ⟨w.heap.size + 1 + 1, 0, none⟩) 4 4] 26)).alloc (.cells #[.int .i64 9, .int .u64 4, .int .i64 10, .int .u64 1, .int .i64 14, .int .u64 1, .int .i64 19, .int .u64 8] 93)).drew) := ((((Below.refl _ _).alloc (Nat.le_refl _) _).alloc (by simp) _).alloc (by simp; omega) _).drew
  have d1 : decide (P < 1) = false := decide_eq_false (by omega)
  have d2 : decide ((4 : Int) < P) = false := decide_eq_false (by omega)
  have d3 : decide (T < P) = false := decide_eq_false (by omega)
  have d4 : decide ((8 : Int) < T) = false := decide_eq_false (by omega)
  have d5 : decide (P ≤ 3) = false := decide_eq_false (by omega)
  have d6 : decide (t < 0) = false := decide_eq_false (by omega)
  have d7 : decide (T ≤ t) = false := decide_eq_false (by omega)
  clear hAw hP hT hp ht
  go_enter Tryz.func10, Tryz.ntmps10
  go_wp2_with fail
  go_region
  all_goals clear d1 d2 d3 d4 d5 d6 d7
  · clear HX2 HB2
    go_wp2_with fail
    have hL := HL0.out _ _ (nd_sees (p := 3) HX1.out rfl rfl)
    clear HX1 HL0
    generalize (((w.alloc (.cells #[.int .i64 P, .int .i64 T, .int .i64 G] 23)).alloc (.cells #[.int .i64 9, .int .u64 4, .int .i64 10, .int .u64 1, .int .i64 14, .int .u64 1, .int .i64 19, .int .u64 8] 93)).alloc (.cells #[.int .i64 P, .int .i64 T, .int .i64 1, .slice (some ⟨w.heap.size + 1, 0, none⟩) 4 4] 26)).drew = W at *
    go_at_call 11; refine hL.mono ?_; rintro e w1 ⟨cl, A, A', cap, cap', c, b, c', b', rfl, hLd⟩
    have hszW := HB1.out.size
    have HI1 : Hid (Is w1 128 A cap c b (ndN P T) (ndS P T 3)) := hLd.two.m
    have HY1 : Hid (Lay w1 cl P T 1) := hLd.lay
    have HBA : Hid (Below w.heap.size w w1) := HB1.out.trans (hLd.below.mono hszW)
    have hn0 : 0 < ndN P T := by have := HNN.out; have := HBD.out; omega
    have hne : Hid (cl ≠ c ∧ cl ≠ b) := lay_ne hLd.lay (by decide) hLd.two.m hn0
    have hup : Hid (w.heap.size ≤ c ∧ w.heap.size ≤ b) := ⟨by have := hLd.up.2.1; omega, by have := hLd.up.2.2.1; omega⟩
    have hLM : (reCp P T 1 t cl).Laws (rePM P T t) (Rd.lay cl P T 1) t := re_laws (by have := HBD.out; omega) (by have := HBD.out; omega) (by have := HBD.out; omega)
    have hGM : ((reCp P T 1 t cl).I).Good (rePM P T t) := Cp.good hLM
    have HGM : Hid (((reCp P T 1 t cl).I).Good (rePM P T t)) := hGM
    have HAS : Hid (Aslp (rePM P T t) ((reCp P T 1 t cl).I) 55) := re_aslp (by have := HBD.out; omega) (by have := HBD.out; omega) (by have := HBD.out; omega)
    have HST : Hid (Steps (rePM P T t) ((reCp P T 1 t cl).I) (Rd.lay cl P T 1) 57 t) := Cp.steps hLM stepby_rrst
    have HRF : Hid (c ∉ ((Rd.lay cl P T 1)).B ∧ b ∉ ((Rd.lay cl P T 1)).B) := ⟨fun h => hne.out.1 (List.mem_singleton.1 h).symm, fun h => hne.out.2 (List.mem_singleton.1 h).symm⟩
    have HN6 : Hid (ndN P T ≤ 1000000) := (by have := HNN.out; have := HBD.out; omega : ndN P T ≤ 1000000)
    have hN := re_new_at w1 cl t P T 1 (by have := HBD.out; omega)
    clear hL hLd hne hLM hGM hszW hn0 HB1
    go_wp2_with fail
    go_at_call 58; refine hN.mono ?_; rintro e w2 ⟨x, L, rfl, ha1, ha2, ha3, -⟩
    have HSA : Hid (Solo ((reCp P T 1 t cl).I) (Rd.lay cl P T 1) w w2 A cap c b (ndN P T) ((rePM P T t).steps t (ndN P T) 0 (.acq .fresh, (ndS P T 3))).2 x ((rePM P T t).steps t (ndN P T) 0 (.acq .fresh, (ndS P T 3))).1 L) := Solo.begin HI1.out ha2 HBA.out hup.out ha1 ha3 HY1.out (fun k hk => by obtain rfl : k = cl := List.mem_singleton.1 hk; exact HY1.out.lt) HRF.out
    clear hN ha1 ha2 ha3 HI1 HY1 HBA HRF hup
    go_wp2_with fail
    have HLO : Hid (∀ q : Nat, q ≤ 20 → Low ((rePM P T t).steps t (ndN P T) q (.acq .fresh, (ndS P T 3))).2 1000000) := fun q hq => (PM.steps_low (rePM P T t) t (ndN P T) q (.acq .fresh, (ndS P T 3)) (low_fresh _)).more (by omega)
    go_loopw [13] (fun k wi => ∃ (q : Nat) (L : List Nat), q ≤ 20 ∧ k = .int .i64 q ∧ Hid (Solo ((reCp P T 1 t cl).I) (Rd.lay cl P T 1) w wi A cap c b (ndN P T) ((rePM P T t).steps t (ndN P T) q (.acq .fresh, (ndS P T 3))).2 x ((rePM P T t).steps t (ndN P T) q (.acq .fresh, (ndS P T 3))).1 L)) (fun k _ => 20 - (intOf k).toNat)
    case atStart => exact ⟨0, _, by omega, rfl, HSA⟩
    case round =>
      clear HSA
      obtain ⟨q, L, hq, rfl, HS⟩ := hrel
      by_cases hq9 : q < 20
      · have hSt := HS.out.step HGM.out HST.out (fun Y h => h) (fun k hk => hk) HN6.out (HLO.out q hq)
        rw [show (rePM P T t).goS t (ndN P T) ((rePM P T t).steps t (ndN P T) q (.acq .fresh, (ndS P T 3))).1 ((rePM P T t).steps t (ndN P T) q (.acq .fresh, (ndS P T 3))).2 = ((rePM P T t).steps t (ndN P T) (q + 1) (.acq .fresh, (ndS P T 3))).2 by rw [PM.steps_succ], show (rePM P T t).goT (ndN P T) ((rePM P T t).steps t (ndN P T) q (.acq .fresh, (ndS P T 3))).1 ((rePM P T t).steps t (ndN P T) q (.acq .fresh, (ndS P T 3))).2 = ((rePM P T t).steps t (ndN P T) (q + 1) (.acq .fresh, (ndS P T 3))).1 by rw [PM.steps_succ]] at hSt
        have hz := nd_aslp HRUN.out q hq9
        have HZ : Hid ((rePM P T t).aslp (ndN P T) ((rePM P T t).steps t (ndN P T) (q + 1) (.acq .fresh, (ndS P T 3))).1 ((rePM P T t).steps t (ndN P T) (q + 1) (.acq .fresh, (ndS P T 3))).2 = false) := hz
        have hq1 : (q : Int) < 20 := by omega
        have hq0 : (0 : Int) ≤ (q : Int) := by omega
        clear HS hz
        go_wp2_with fail
        go_at_call 57; refine hSt.mono ?_; rintro e w4 ⟨rfl, L', hS'⟩
        have HS' : Hid _ := hS'
        have hA := HAS.out w4 A cap c b (ndN P T) ((rePM P T t).steps t (ndN P T) (q + 1) (.acq .fresh, (ndS P T 3))).2 x ((rePM P T t).steps t (ndN P T) (q + 1) (.acq .fresh, (ndS P T 3))).1 L' HS'.out.mach HS'.out.mem HN6.out (fun k hk => ⟨(HS'.out.far k hk).1, (HS'.out.far k hk).2.1⟩)
        rw [HZ.out] at hA
        clear hSt hS'
        go_wp2_with fail
        go_at_call 55; refine hA.mono ?_; rintro e w5 ⟨rfl, hb5⟩
        have HS5 : Hid _ := HS'.out.still HGM.out hb5
        clear hA hb5 HS' HZ
        go_wp2_with fail
        go_roundw
        case rel => exact ⟨q + 1, L', by omega, by go_num, HS5⟩
        case measure => simp [intOf]; omega
      · obtain rfl : q = 20 := by omega
        clear HLO hq9 hq
        obtain ⟨XE, hXE⟩ : ∃ XE, ((rePM P T t).steps t (ndN P T) 20 (.acq .fresh, (ndS P T 3))) = XE := ⟨_, rfl⟩
        have HE := nd_end hXE rfl HRUN.out
        rw [hXE] at HS
        obtain ⟨tE, sE⟩ := XE
        have HEH : Hid (((rePM P T t).ax tE).isNone = true ∧ tE.p = 3 ∧ tE.spins = true ∧ peekT (ndN P T) sE 13 = 1 ∧ peekT (ndN P T) sE 14 = 0 ∧ peekT (ndN P T) sE (wd 20 P 264 3 0) = 1) := HE
        clear hXE HE HRUN
        rw [show ((20 : Nat) : Int) = 20 from rfl]
        have hK1 := peek_any wr A cap c b (ndN P T) sE 13 HS.out.mem HN6.out
        have hK2 := peek_any wr A cap c b (ndN P T) sE 14 HS.out.mem HN6.out
        rw [HEH.out.2.2.2.1] at hK1
        rw [HEH.out.2.2.2.2.1] at hK2
        have hPr := lprc_any (some ⟨cl, 0, none⟩) P T 1 3 0 wr (.some cl HS.out.rd) (by have := HBD.out; omega) (by omega)
        have HBF : Hid (Below w.heap.size w wr) := HS.out.below
        have HI6 : Hid (Is wr 128 A cap c b (ndN P T) sE) := HS.out.mem
        have HMX : Hid (∀ Y, Below wr.heap.size wr Y → ((reCp P T 1 t cl).I) Y x tE L) := fun Y hY => HGM.out.below HS.out.mach hY
        clear HS
        go_wp2_with fail
        go_at_call 34; refine hK1.mono ?_; rintro e w6 ⟨rfl, rfl⟩
        go_wp2_with fail
        go_at_call 34; refine hK2.mono ?_; rintro e w6 ⟨rfl, rfl⟩
        clear hK1 hK2
        go_wp2_with fail
        go_at_call 62; refine hPr.mono ?_; rintro e w7 ⟨rfl, hb7⟩
        have hK3 := peek_any w7 A cap c b (ndN P T) sE (wd 20 P 264 3 0) (HI6.out.below hb7) HN6.out
        rw [HEH.out.2.2.2.2.2] at hK3
        have HB7 : Hid (Below wr.heap.size wr w7) := hb7
        clear hPr hb7 HI6
        go_wp2_with fail
        go_at_call 34; refine hK3.mono ?_; rintro e w8 ⟨rfl, rfl⟩
        clear hK3
        go_wp2_with fail
        go_at_call 40; refine (HAW.out _).mono ?_; rintro e w9 ⟨rfl, h9⟩
        have HB9 : Hid (Below wr.heap.size wr w9) := seq HB7.out h9
        have hM9 := HMX.out w9 HB9.out
        have hD : Calls Tryz.prog 52 #[.pointer (some ⟨x, 0, none⟩)] w9 fun e w' => e = .returned (.bool true) ∧ w9 = w' := by
          obtain ⟨nx, q1, q2⟩ := HGM.out.next hM9
          have := HEH.out.1
          rw [this] at q2
          rw [← q2]
          exact done_rrst w9 x nx q1
        have hTP := re_tells_P hM9
        have hTS := re_tells_S hM9
        rw [HEH.out.2.1] at hTP
        rw [HEH.out.2.2.1] at hTS
        have HFF : Hid (Below w.heap.size w w9) := seq HBF.out HB9.out
        clear h9 hM9
        go_wp2_with fail
        go_at_call 52; refine hD.mono ?_; rintro e w10 ⟨rfl, rfl⟩
        go_wp2_with fail
        go_at_call 53; refine hTP.mono ?_; rintro e w10 ⟨rfl, rfl⟩
        go_wp2_with fail
        go_at_call 54; refine hTS.mono ?_; rintro e w10 ⟨rfl, rfl⟩
        clear hD hTP hTS
        go_wp2_with fail
        go_ret
        exact ⟨rfl, HFF.out⟩
  · clear HX1 HB1
    go_wp2_with fail
    have hL := HL0.out _ _ (nd_sees (p := 3) HX2.out rfl rfl)
    clear HX2 HL0
    generalize (((w.alloc (.cells #[.int .i64 P, .int .i64 T, .int .i64 G] 23)).alloc (.cells #[.int .i64 P, .int .i64 T, .int .i64 1, .slice (some ⟨w.heap.size + 1 + 1, 0, none⟩) 4 4] 26)).alloc (.cells #[.int .i64 9, .int .u64 4, .int .i64 10, .int .u64 1, .int .i64 14, .int .u64 1, .int .i64 19, .int .u64 8] 93)).drew = W at *
    go_at_call 11; refine hL.mono ?_; rintro e w1 ⟨cl, A, A', cap, cap', c, b, c', b', rfl, hLd⟩
    have hszW := HB2.out.size
    have HI1 : Hid (Is w1 128 A cap c b (ndN P T) (ndS P T 3)) := hLd.two.m
    have HY1 : Hid (Lay w1 cl P T 1) := hLd.lay
    have HBA : Hid (Below w.heap.size w w1) := HB2.out.trans (hLd.below.mono hszW)
    have hn0 : 0 < ndN P T := by have := HNN.out; have := HBD.out; omega
    have hne : Hid (cl ≠ c ∧ cl ≠ b) := lay_ne hLd.lay (by decide) hLd.two.m hn0
    have hup : Hid (w.heap.size ≤ c ∧ w.heap.size ≤ b) := ⟨by have := hLd.up.2.1; omega, by have := hLd.up.2.2.1; omega⟩
    have hLM : (reCp P T 1 t cl).Laws (rePM P T t) (Rd.lay cl P T 1) t := re_laws (by have := HBD.out; omega) (by have := HBD.out; omega) (by have := HBD.out; omega)
    have hGM : ((reCp P T 1 t cl).I).Good (rePM P T t) := Cp.good hLM
    have HGM : Hid (((reCp P T 1 t cl).I).Good (rePM P T t)) := hGM
    have HAS : Hid (Aslp (rePM P T t) ((reCp P T 1 t cl).I) 55) := re_aslp (by have := HBD.out; omega) (by have := HBD.out; omega) (by have := HBD.out; omega)
    have HST : Hid (Steps (rePM P T t) ((reCp P T 1 t cl).I) (Rd.lay cl P T 1) 57 t) := Cp.steps hLM stepby_rrst
    have HRF : Hid (c ∉ ((Rd.lay cl P T 1)).B ∧ b ∉ ((Rd.lay cl P T 1)).B) := ⟨fun h => hne.out.1 (List.mem_singleton.1 h).symm, fun h => hne.out.2 (List.mem_singleton.1 h).symm⟩
    have HN6 : Hid (ndN P T ≤ 1000000) := (by have := HNN.out; have := HBD.out; omega : ndN P T ≤ 1000000)
    have hN := re_new_at w1 cl t P T 1 (by have := HBD.out; omega)
    clear hL hLd hne hLM hGM hszW hn0 HB2
    go_wp2_with fail
    go_at_call 58; refine hN.mono ?_; rintro e w2 ⟨x, L, rfl, ha1, ha2, ha3, -⟩
    have HSA : Hid (Solo ((reCp P T 1 t cl).I) (Rd.lay cl P T 1) w w2 A cap c b (ndN P T) ((rePM P T t).steps t (ndN P T) 0 (.acq .fresh, (ndS P T 3))).2 x ((rePM P T t).steps t (ndN P T) 0 (.acq .fresh, (ndS P T 3))).1 L) := Solo.begin HI1.out ha2 HBA.out hup.out ha1 ha3 HY1.out (fun k hk => by obtain rfl : k = cl := List.mem_singleton.1 hk; exact HY1.out.lt) HRF.out
    clear hN ha1 ha2 ha3 HI1 HY1 HBA HRF hup
    go_wp2_with fail
    have HLO : Hid (∀ q : Nat, q ≤ 20 → Low ((rePM P T t).steps t (ndN P T) q (.acq .fresh, (ndS P T 3))).2 1000000) := fun q hq => (PM.steps_low (rePM P T t) t (ndN P T) q (.acq .fresh, (ndS P T 3)) (low_fresh _)).more (by omega)
    go_loopw [13] (fun k wi => ∃ (q : Nat) (L : List Nat), q ≤ 20 ∧ k = .int .i64 q ∧ Hid (Solo ((reCp P T 1 t cl).I) (Rd.lay cl P T 1) w wi A cap c b (ndN P T) ((rePM P T t).steps t (ndN P T) q (.acq .fresh, (ndS P T 3))).2 x ((rePM P T t).steps t (ndN P T) q (.acq .fresh, (ndS P T 3))).1 L)) (fun k _ => 20 - (intOf k).toNat)
    case atStart => exact ⟨0, _, by omega, rfl, HSA⟩
    case round =>
      clear HSA
      obtain ⟨q, L, hq, rfl, HS⟩ := hrel
      by_cases hq9 : q < 20
      · have hSt := HS.out.step HGM.out HST.out (fun Y h => h) (fun k hk => hk) HN6.out (HLO.out q hq)
        rw [show (rePM P T t).goS t (ndN P T) ((rePM P T t).steps t (ndN P T) q (.acq .fresh, (ndS P T 3))).1 ((rePM P T t).steps t (ndN P T) q (.acq .fresh, (ndS P T 3))).2 = ((rePM P T t).steps t (ndN P T) (q + 1) (.acq .fresh, (ndS P T 3))).2 by rw [PM.steps_succ], show (rePM P T t).goT (ndN P T) ((rePM P T t).steps t (ndN P T) q (.acq .fresh, (ndS P T 3))).1 ((rePM P T t).steps t (ndN P T) q (.acq .fresh, (ndS P T 3))).2 = ((rePM P T t).steps t (ndN P T) (q + 1) (.acq .fresh, (ndS P T 3))).1 by rw [PM.steps_succ]] at hSt
        have hz := nd_aslp HRUN.out q hq9
        have HZ : Hid ((rePM P T t).aslp (ndN P T) ((rePM P T t).steps t (ndN P T) (q + 1) (.acq .fresh, (ndS P T 3))).1 ((rePM P T t).steps t (ndN P T) (q + 1) (.acq .fresh, (ndS P T 3))).2 = false) := hz
        have hq1 : (q : Int) < 20 := by omega
        have hq0 : (0 : Int) ≤ (q : Int) := by omega
        clear HS hz
        go_wp2_with fail
        go_at_call 57; refine hSt.mono ?_; rintro e w4 ⟨rfl, L', hS'⟩
        have HS' : Hid _ := hS'
        have hA := HAS.out w4 A cap c b (ndN P T) ((rePM P T t).steps t (ndN P T) (q + 1) (.acq .fresh, (ndS P T 3))).2 x ((rePM P T t).steps t (ndN P T) (q + 1) (.acq .fresh, (ndS P T 3))).1 L' HS'.out.mach HS'.out.mem HN6.out (fun k hk => ⟨(HS'.out.far k hk).1, (HS'.out.far k hk).2.1⟩)
        rw [HZ.out] at hA
        clear hSt hS'
        go_wp2_with fail
        go_at_call 55; refine hA.mono ?_; rintro e w5 ⟨rfl, hb5⟩
        have HS5 : Hid _ := HS'.out.still HGM.out hb5
        clear hA hb5 HS' HZ
        go_wp2_with fail
        go_roundw
        case rel => exact ⟨q + 1, L', by omega, by go_num, HS5⟩
        case measure => simp [intOf]; omega
      · obtain rfl : q = 20 := by omega
        clear HLO hq9 hq
        obtain ⟨XE, hXE⟩ : ∃ XE, ((rePM P T t).steps t (ndN P T) 20 (.acq .fresh, (ndS P T 3))) = XE := ⟨_, rfl⟩
        have HE := nd_end hXE rfl HRUN.out
        rw [hXE] at HS
        obtain ⟨tE, sE⟩ := XE
        have HEH : Hid (((rePM P T t).ax tE).isNone = true ∧ tE.p = 3 ∧ tE.spins = true ∧ peekT (ndN P T) sE 13 = 1 ∧ peekT (ndN P T) sE 14 = 0 ∧ peekT (ndN P T) sE (wd 20 P 264 3 0) = 1) := HE
        clear hXE HE HRUN
        rw [show ((20 : Nat) : Int) = 20 from rfl]
        have hK1 := peek_any wr A cap c b (ndN P T) sE 13 HS.out.mem HN6.out
        have hK2 := peek_any wr A cap c b (ndN P T) sE 14 HS.out.mem HN6.out
        rw [HEH.out.2.2.2.1] at hK1
        rw [HEH.out.2.2.2.2.1] at hK2
        have hPr := lprc_any (some ⟨cl, 0, none⟩) P T 1 3 0 wr (.some cl HS.out.rd) (by have := HBD.out; omega) (by omega)
        have HBF : Hid (Below w.heap.size w wr) := HS.out.below
        have HI6 : Hid (Is wr 128 A cap c b (ndN P T) sE) := HS.out.mem
        have HMX : Hid (∀ Y, Below wr.heap.size wr Y → ((reCp P T 1 t cl).I) Y x tE L) := fun Y hY => HGM.out.below HS.out.mach hY
        clear HS
        go_wp2_with fail
        go_at_call 34; refine hK1.mono ?_; rintro e w6 ⟨rfl, rfl⟩
        go_wp2_with fail
        go_at_call 34; refine hK2.mono ?_; rintro e w6 ⟨rfl, rfl⟩
        clear hK1 hK2
        go_wp2_with fail
        go_at_call 62; refine hPr.mono ?_; rintro e w7 ⟨rfl, hb7⟩
        have hK3 := peek_any w7 A cap c b (ndN P T) sE (wd 20 P 264 3 0) (HI6.out.below hb7) HN6.out
        rw [HEH.out.2.2.2.2.2] at hK3
        have HB7 : Hid (Below wr.heap.size wr w7) := hb7
        clear hPr hb7 HI6
        go_wp2_with fail
        go_at_call 34; refine hK3.mono ?_; rintro e w8 ⟨rfl, rfl⟩
        clear hK3
        go_wp2_with fail
        go_at_call 40; refine (HAW.out _).mono ?_; rintro e w9 ⟨rfl, h9⟩
        have HB9 : Hid (Below wr.heap.size wr w9) := seq HB7.out h9
        have hM9 := HMX.out w9 HB9.out
        have hD : Calls Tryz.prog 52 #[.pointer (some ⟨x, 0, none⟩)] w9 fun e w' => e = .returned (.bool true) ∧ w9 = w' := by
          obtain ⟨nx, q1, q2⟩ := HGM.out.next hM9
          have := HEH.out.1
          rw [this] at q2
          rw [← q2]
          exact done_rrst w9 x nx q1
        have hTP := re_tells_P hM9
        have hTS := re_tells_S hM9
        rw [HEH.out.2.1] at hTP
        rw [HEH.out.2.2.1] at hTS
        have HFF : Hid (Below w.heap.size w w9) := seq HBF.out HB9.out
        clear h9 hM9
        go_wp2_with fail
        go_at_call 52; refine hD.mono ?_; rintro e w10 ⟨rfl, rfl⟩
        go_wp2_with fail
        go_at_call 53; refine hTP.mono ?_; rintro e w10 ⟨rfl, rfl⟩
        go_wp2_with fail
        go_at_call 54; refine hTS.mono ?_; rintro e w10 ⟨rfl, rfl⟩
        clear hD hTP hTS
        go_wp2_with fail
        go_ret
        exact ⟨rfl, HFF.out⟩
theorem needed_bad (P T G p t : Int) (w : World) (hAw : ∀ w, Calls Tryz.prog 40 #[] w fun e w' => e = .returned (.bool true) ∧ Below w.heap.size w w') (h : P < 1 ∨ 4 < P ∨ T < P ∨ 8 < T ∨ p < 0 ∨ P ≤ p ∨ t < 0 ∨ T ≤ t) :
    Calls Tryz.prog 10 #[.agg #[.int .i64 P, .int .i64 T, .int .i64 G], .int .i64 p, .int .i64 t] w fun e w' => e = .returned (.bool true) ∧ Below w.heap.size w w' := by
  have HAW : Hid (∀ w, Calls Tryz.prog 40 #[] w fun e w' => e = .returned (.bool true) ∧ Below w.heap.size w w') := hAw
  have HB : Hid (Below w.heap.size w (w.alloc (.cells #[.int .i64 P, .int .i64 T, .int .i64 G] 23))) := (Below.refl _ _).alloc (Nat.le_refl _) _
  clear hAw
  by_cases q1 : P < 1
  · have e1 : decide (P < 1) = true := decide_eq_true (by omega)
    clear h
    go_enter Tryz.func10, Tryz.ntmps10
    go_wp2_with fail
    generalize (w.alloc (.cells #[.int .i64 P, .int .i64 T, .int .i64 G] 23)) = W at *
    go_at_call 40; refine (HAW.out _).mono ?_; rintro e w2 ⟨rfl, h2⟩
    have h3 := seq HB.out h2
    go_wp2_with fail
    go_ret
    exact ⟨rfl, h3⟩
  have d1 : decide (P < 1) = false := decide_eq_false (by omega)
  by_cases q2 : 4 < P
  · have e2 : decide ((4 : Int) < P) = true := decide_eq_true (by omega)
    clear h
    go_enter Tryz.func10, Tryz.ntmps10
    go_wp2_with fail
    generalize (w.alloc (.cells #[.int .i64 P, .int .i64 T, .int .i64 G] 23)) = W at *
    go_at_call 40; refine (HAW.out _).mono ?_; rintro e w2 ⟨rfl, h2⟩
    have h3 := seq HB.out h2
    go_wp2_with fail
    go_ret
    exact ⟨rfl, h3⟩
  have d2 : decide ((4 : Int) < P) = false := decide_eq_false (by omega)
  by_cases q3 : T < P
  · have e3 : decide (T < P) = true := decide_eq_true (by omega)
    clear h
    go_enter Tryz.func10, Tryz.ntmps10
    go_wp2_with fail
    generalize (w.alloc (.cells #[.int .i64 P, .int .i64 T, .int .i64 G] 23)) = W at *
    go_at_call 40; refine (HAW.out _).mono ?_; rintro e w2 ⟨rfl, h2⟩
    have h3 := seq HB.out h2
    go_wp2_with fail
    go_ret
    exact ⟨rfl, h3⟩
  have d3 : decide (T < P) = false := decide_eq_false (by omega)
  by_cases q4 : 8 < T
  · have e4 : decide ((8 : Int) < T) = true := decide_eq_true (by omega)
    clear h
    go_enter Tryz.func10, Tryz.ntmps10
    go_wp2_with fail
    generalize (w.alloc (.cells #[.int .i64 P, .int .i64 T, .int .i64 G] 23)) = W at *
    go_at_call 40; refine (HAW.out _).mono ?_; rintro e w2 ⟨rfl, h2⟩
    have h3 := seq HB.out h2
    go_wp2_with fail
    go_ret
    exact ⟨rfl, h3⟩
  have d4 : decide ((8 : Int) < T) = false := decide_eq_false (by omega)
  by_cases q5 : p < 0
  · have e5 : decide (p < 0) = true := decide_eq_true (by omega)
    clear h
    go_enter Tryz.func10, Tryz.ntmps10
    go_wp2_with fail
    generalize (w.alloc (.cells #[.int .i64 P, .int .i64 T, .int .i64 G] 23)) = W at *
    go_at_call 40; refine (HAW.out _).mono ?_; rintro e w2 ⟨rfl, h2⟩
    have h3 := seq HB.out h2
    go_wp2_with fail
    go_ret
    exact ⟨rfl, h3⟩
  have d5 : decide (p < 0) = false := decide_eq_false (by omega)
  by_cases q6 : P ≤ p
  · have e6 : decide (P ≤ p) = true := decide_eq_true (by omega)
    clear h
    go_enter Tryz.func10, Tryz.ntmps10
    go_wp2_with fail
    generalize (w.alloc (.cells #[.int .i64 P, .int .i64 T, .int .i64 G] 23)) = W at *
    go_at_call 40; refine (HAW.out _).mono ?_; rintro e w2 ⟨rfl, h2⟩
    have h3 := seq HB.out h2
    go_wp2_with fail
    go_ret
    exact ⟨rfl, h3⟩
  have d6 : decide (P ≤ p) = false := decide_eq_false (by omega)
  by_cases q7 : t < 0
  · have e7 : decide (t < 0) = true := decide_eq_true (by omega)
    clear h
    go_enter Tryz.func10, Tryz.ntmps10
    go_wp2_with fail
    generalize (w.alloc (.cells #[.int .i64 P, .int .i64 T, .int .i64 G] 23)) = W at *
    go_at_call 40; refine (HAW.out _).mono ?_; rintro e w2 ⟨rfl, h2⟩
    have h3 := seq HB.out h2
    go_wp2_with fail
    go_ret
    exact ⟨rfl, h3⟩
  have d7 : decide (t < 0) = false := decide_eq_false (by omega)
  have q8 : T ≤ t := by omega
  have e8 : decide (T ≤ t) = true := decide_eq_true (by omega)
  clear h
  go_enter Tryz.func10, Tryz.ntmps10
  go_wp2_with fail
  generalize (w.alloc (.cells #[.int .i64 P, .int .i64 T, .int .i64 G] 23)) = W at *
  go_at_call 40; refine (HAW.out _).mono ?_; rintro e w2 ⟨rfl, h2⟩
  have h3 := seq HB.out h2
  go_wp2_with fail
  go_ret
  exact ⟨rfl, h3⟩
theorem restNeeded_walk (P T G p t : Int) (w : World) (hAw : ∀ w, Calls Tryz.prog 40 #[] w fun e w' => e = .returned (.bool true) ∧ Below w.heap.size w w') :
    Calls Tryz.prog 10 #[.agg #[.int .i64 P, .int .i64 T, .int .i64 G], .int .i64 p, .int .i64 t] w fun e w' => e = .returned (.bool true) ∧ Below w.heap.size w w' := by
  by_cases h : P < 1 ∨ 4 < P ∨ T < P ∨ 8 < T ∨ p < 0 ∨ P ≤ p ∨ t < 0 ∨ T ≤ t
  · exact needed_bad P T G p t w hAw h
  · rcases (by omega : p = 0 ∨ p = 1 ∨ p = 2 ∨ p = 3) with rfl | rfl | rfl | rfl
    · exact needed_at0 P T G t w hAw (by omega) (by omega) (by omega) (by omega)
    · exact needed_at1 P T G t w hAw (by omega) (by omega) (by omega) (by omega)
    · exact needed_at2 P T G t w hAw (by omega) (by omega) (by omega) (by omega)
    · exact needed_at3 P T G t w hAw (by omega) (by omega) (by omega) (by omega)
end Go.Proofs.YthbgoakaijeemaaGreat
