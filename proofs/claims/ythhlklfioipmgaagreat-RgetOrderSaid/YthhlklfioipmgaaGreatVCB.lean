/- RgetOrder: what is put into a ring that nobody else goes to comes in its order, the next one first, or last if it is got afresh; from every word on, for all rounds; no condition. -/
import Derived.Test.YthhlklfioipmgaaGreatVCA
import Derived.ProofKit
import Derived.Carry
import Derived.WalkKit
import Derived.OpenShut
import Derived.Test.YthhlklfioipmgaaGreatOpen
import Derived.Lib.SmallJoins
namespace Go.Proofs.YthhlklfioipmgaaGreat
open Go Go.RowKit
set_option linter.unusedVariables false
set_option maxRecDepth 100000
set_option linter.unusedSimpArgs false

def roA (i : Nat) : Int := if i = 0 then 21 else 22
theorem ro_start (h : Int) (hb : 0 ≤ h ∧ h < 4294967296) : Rq (fresh (putF roA (fun _ => h) 407 2)) h [] (-1) := by
  have e : ∀ j : Nat, (fresh (putF roA (fun _ => h) 407 2)).f j = if j = 22 then h else if j = 21 then h else 0 := fun j => rfl
  refine ⟨hb, ?_, ?_, ?_, fun i hi => absurd hi (by simp), fun y hy => (by cases hy), by omega, rfl⟩
  · rw [e, if_neg (by omega), if_pos rfl]
  · rw [e, if_pos rfl]; simp; omega
  · rw [e, if_neg (by omega), if_neg (by omega)]; rfl
theorem ro_m4 (b : Nat) : Int.tmod (b : Int) 4 = ((b % 4 : Nat) : Int) := by rw [Int.tmod_eq_emod_of_nonneg (by omega)]; omega
theorem ro_m60 (b : Nat) : Int.tmod (b : Int) 60 = ((b % 60 : Nat) : Int) := by rw [Int.tmod_eq_emod_of_nonneg (by omega)]; omega
theorem ro_d4 (b : Nat) : Int.tdiv (b : Int) 4 = ((b / 4 : Nat) : Int) := by rw [Int.tdiv_eq_ediv_of_nonneg (by omega)]; omega
theorem ro_w8 (b : Nat) (h : b ≤ 255) : IntKind.u8.wrap ((b / 4 : Nat) : Int) = ((b / 4 : Nat) : Int) := by simp [IntKind.wrap, IntKind.bits, IntKind.signed]; omega
theorem ro_w64 (b : Nat) (h : b ≤ 255) : IntKind.i64.wrap ((b / 4 : Nat) : Int) = ((b / 4 : Nat) : Int) := by simp [IntKind.wrap, IntKind.bits, IntKind.signed]; omega
theorem tmod_small (a : Nat) (m : Nat) : Int.tmod (a : Int) (m : Int) = ((a % m : Nat) : Int) := by
  rw [Int.tmod_eq_emod_of_nonneg (by omega)]; rfl
set_option maxHeartbeats 16000000 in
theorem rgetOrder_walk (h0 : Int) (E : Option Addr) (mp cq : Nat) (pk : Nat → Nat) (w : World) (n : Nat) (hn : (n : Int) = 407) (hh : 0 ≤ h0 ∧ h0 < 4294967296) (hmp : mp ≤ 9223372036854775807) (hB : SeesB8 w w.heap.size E mp pk) :
    Calls Tryz.prog 6 #[.int .u32 h0, .slice E mp cq] w fun e w' => e = .returned (.bool true) ∧ Below w.heap.size w w' := by
  have HL0 : Hid (∀ (D : Option Addr) (W : World), SeesP W W.heap.size D 2 roA (fun _ => h0) → Calls Tryz.prog 9 #[.agg #[.int .i64 1, .int .i64 1, .int .i64 60, .slice D (2 : Nat) 2]] W fun e w' => ∃ (cl : Nat) (A A' : Option Addr) (cap cap' c b c' b' : Nat), e = .returned (.tuple #[.pointer (some ⟨cl, 0, none⟩), .pointer (some ⟨c, 0, none⟩), .pointer (some ⟨c', 0, none⟩), .bool true]) ∧ Laid W w' 1 1 60 n (putF roA (fun _ => h0) n 2) cl A A' cap cap' c b c' b') := fun D W hs =>
    lay_some 1 1 60 D 2 2 n roA (fun _ => h0) W (by omega) ⟨⟨by omega⟩, by omega, by omega, by omega⟩ (by omega) hs (fun i hi => by omega)
  have HPB : Hid (SeesB8 w w.heap.size E mp pk) := hB
  have HN : Hid (n = 407) := (by omega : n = 407)
  have HN6 : Hid (n ≤ 1000000) := (by omega : n ≤ 1000000)
  have HHB : Hid (0 ≤ h0 ∧ h0 < 4294967296) := hh
  have e64 : IntKind.u64.wrap h0 = h0 := wrap_u64 (by omega)
  have hb0 : Below w.heap.size w ((w.alloc (.cells #[.int .i64 1, .int .i64 1, .int .i64 60] 23)).alloc (.cells #[.int .i64 21, .int .u64 h0, .int .i64 22, .int .u64 h0] 82)) := ((Below.refl _ _).alloc (Nat.le_refl _) _).alloc (by simp) _
  have hX : Blk ((w.alloc (.cells #[.int .i64 1, .int .i64 1, .int .i64 60] 23)).alloc (.cells #[.int .i64 21, .int .u64 h0, .int .i64 22, .int .u64 h0] 82)) (w.heap.size + 1) #[.int .i64 21, .int .u64 h0, .int .i64 22, .int .u64 h0] 82 := by
    have h := Blk.new (w.alloc (.cells #[.int .i64 1, .int .i64 1, .int .i64 60] 23)) #[.int .i64 21, .int .u64 h0, .int .i64 22, .int .u64 h0] 82
    rw [World.size_alloc] at h
    exact h
  have hL := HL0.out (some ⟨w.heap.size + 1, 0, none⟩) _ (fun _ => ⟨w.heap.size + 1, 0, rfl, hX.lt, fun j hj => by
    rcases (by omega : j = 0 ∨ j = 1) with rfl | rfl
    · exact ⟨hX.cell 0 rfl, hX.cell 1 rfl⟩
    · exact ⟨hX.cell 2 rfl, hX.cell 3 rfl⟩⟩)
  have HB0 : Hid (Below w.heap.size w ((w.alloc (.cells #[.int .i64 1, .int .i64 1, .int .i64 60] 23)).alloc (.cells #[.int .i64 21, .int .u64 h0, .int .i64 22, .int .u64 h0] 82))) := hb0
  clear HL0 hX hb0 hB hn hh
  go_enter Tryz.func6, Tryz.ntmps6
  go_wp2_with fail
  generalize (w.alloc (.cells #[.int .i64 1, .int .i64 1, .int .i64 60] 23)).alloc (.cells #[.int .i64 21, .int .u64 h0, .int .i64 22, .int .u64 h0] 82) = W at *
  go_at_call 9; refine hL.mono ?_; rintro e w1 ⟨cl, A, A', cap, cap', c, b, c', b', rfl, hLd⟩
  have hszW := HB0.out.size
  have HB1 : Hid (Below w.heap.size w w1) := HB0.out.trans (hLd.below.mono hszW)
  by_cases hlong : 100 < mp
  · have hA := rget_awake w1
    have hd : decide ((100 : Int) < (mp : Int)) = true := decide_eq_true (by omega)
    clear hL hLd HB0
    go_wp2_with fail
    go_at_call 42; refine hA.mono ?_; rintro e w2 ⟨rfl, h2⟩
    have HF : Hid (Below w.heap.size w w2) := seq HB1.out h2
    clear hA h2
    go_wp2_with fail
    go_ret
    exact ⟨rfl, HF.out⟩
  have hd : decide ((100 : Int) < (mp : Int)) = false := decide_eq_false (by omega)
  have hmp : mp ≤ 100 := by omega
  have HI0 : Hid (Is w1 136 A cap c b n (fresh (putF roA (fun _ => h0) n 2))) := hLd.two.m
  have HY0 : Hid (Lay w1 cl 1 1 60) := hLd.lay
  have hne : Hid (cl ≠ c ∧ cl ≠ b) := lay_ne hLd.lay (by decide) hLd.two.m (by have := HN.out; omega)
  have hup : Hid (w.heap.size ≤ c ∧ w.heap.size ≤ b) := ⟨by have := hLd.up.2.1; omega, by have := hLd.up.2.2.1; omega⟩
  have hlo : Hid (c < w1.heap.size ∧ b < w1.heap.size ∧ cl < w1.heap.size) := ⟨hLd.two.m.lt, hLd.two.m.bl, hLd.lay.lt⟩
  have HR0 : Hid (RI.TL w1 w1.heap.size (.slice none 0 0) []) := RI.TL.nil _ _
  have HBS : Hid (w.heap.size ≤ w1.heap.size) := HB1.out.size
  have HQ0 : Hid (Rq (fresh (putF roA (fun _ => h0) n 2)) h0 [] (-1) ∧ Low (fresh (putF roA (fun _ => h0) n 2)) (9 * ((0 : Nat) : Int)) ∧ ([] : List Int).length ≤ 0) := ⟨by rw [HN.out]; exact ro_start h0 HHB.out, low_fresh _, Nat.le_refl _⟩
  generalize hbb : w1.heap.size = B0 at HR0 hlo HBS
  have HBB0 : Hid (B0 ≤ w1.heap.size) := (by omega : B0 ≤ w1.heap.size)
  have HRF : Hid (∀ (W : World) (v : Value) (l : List Int), Lay W cl 1 1 60 → RI.TL W B0 v l → (∀ k ∈ ((Rd.lay cl 1 1 60).and (Rd.tl B0 v l)).B, k < W.heap.size) ∧ (c ∉ ((Rd.lay cl 1 1 60).and (Rd.tl B0 v l)).B ∧ b ∉ ((Rd.lay cl 1 1 60).and (Rd.tl B0 v l)).B)) := fun W v l hy hv => by
    have hU := hv.up
    refine ⟨fun k hk => ?_, fun hm => ?_, fun hm => ?_⟩
    · rcases List.mem_append.1 hk with hk | hk
      · have : k = cl := List.mem_singleton.1 hk
        rw [this]; exact hy.lt
      · exact (hU k hk).2
    · rcases List.mem_append.1 hm with hm | hm
      · exact hne.out.1 (List.mem_singleton.1 hm).symm
      · have h1 := (hU _ hm).1; have h2 := hlo.out; omega
    · rcases List.mem_append.1 hm with hm | hm
      · exact hne.out.2 (List.mem_singleton.1 hm).symm
      · have h1 := (hU _ hm).1; have h2 := hlo.out; omega
  clear hL hLd hbb HB0 hszW hlong e64
  generalize fresh (putF roA (fun _ => h0) n 2) = sI at *
  go_wp2_with fail
  go_loopw [10, 11, 12] (fun vv nn i wr => ∃ (j : Nat) (v : Value) (s : St) (r : List Int) (nx h : Int), v = vv ∧ nn = .int .i64 nx ∧ j ≤ mp ∧ i = .int .i64 j ∧ Hid (Is wr 136 A cap c b n s) ∧ Hid (Lay wr cl 1 1 60) ∧ Hid (Below w.heap.size w wr) ∧ Hid (RI.TL wr B0 v r) ∧ Hid (B0 ≤ wr.heap.size) ∧ Hid (Rq s h r nx ∧ Low s (9 * (j : Int)) ∧ r.length ≤ j)) (fun vv nn i _ => mp - (intOf i).toNat)
  case atStart => exact ⟨0, _, sI, [], -1, h0, rfl, rfl, Nat.zero_le _, rfl, HI0, HY0, HB1, HR0, HBB0, HQ0⟩
  case round =>
    clear HI0 HY0 HB1 HR0 HBB0 HQ0
    obtain ⟨j, v, s, r, nx, h, rfl, rfl, hj, rfl, HI, HY, HB, HV, HBB, HQ⟩ := hrel
    by_cases hlt : j < mp
    · obtain ⟨fb, foff, rfl, hfb, hcell⟩ := HPB.out (by omega)
      have hk1 : (j : Int) < (mp : Int) := by omega
      have hk0 : (0 : Int) ≤ (j : Int) := by omega
      obtain ⟨bt, hbt⟩ : ∃ bt, pk j = bt := ⟨_, rfl⟩
      have HPZ : Hid (∀ W, Below w.heap.size w W → W.cell? ⟨fb, foff + j, none⟩ = some (.int .u8 (bt : Int))) := fun W hW => by
        rw [← hbt]
        exact (hW.cell (p := ⟨fb, foff + j, none⟩) hfb).trans (hcell j hlt).1
      have hb255 : bt ≤ 255 := by rw [← hbt]; exact (hcell j hlt).2
      have pz := HPZ.out wr HB.out
      obtain ⟨z4, hz4⟩ : ∃ z4, bt % 4 = z4 := ⟨_, rfl⟩
      have HZZ : Hid (z4 = 0 ∨ z4 = 1 ∨ z4 = 2 ∨ z4 = 3) := (by omega : z4 = 0 ∨ z4 = 1 ∨ z4 = 2 ∨ z4 = 3)
      obtain ⟨y, hy⟩ : ∃ y : Nat, bt / 4 % 60 = y := ⟨_, rfl⟩
      have HYP : Hid (0 ≤ (y : Int) ∧ (y : Int) < 60) := ⟨by omega, by omega⟩
      have q1 : Int.tdiv (bt : Int) 4 = ((bt / 4 : Nat) : Int) := ro_d4 bt
      have q2 : IntKind.u8.wrap ((bt / 4 : Nat) : Int) = ((bt / 4 : Nat) : Int) := ro_w8 bt hb255
      have q3 : IntKind.i64.wrap ((bt / 4 : Nat) : Int) = ((bt / 4 : Nat) : Int) := ro_w64 bt hb255
      have q4 : Int.tmod ((bt / 4 : Nat) : Int) 60 = (y : Int) := by
        rw [← hy]; exact ro_m60 _
      have q5 : wrap64 (y : Int) = (y : Int) := by have := HYP.out; unfold wrap64; omega
      have r1 : Int.tmod (bt : Int) 4 = (z4 : Int) := by rw [← hz4]; exact ro_m4 bt
      have HLN : Hid (r.length ≤ 100) := (by have := HQ.out.2.2; omega : r.length ≤ 100)
      have HLw : Hid (Low s (9 * (j : Int))) := HQ.out.2.1
      have HN2 : Hid (287 ≤ n) := (by have := HN.out; omega : 287 ≤ n)
      generalize (bt / 4 : Nat) = bh at *
      clear hcell hb255 hbt hz4 hy
      rcases HZZ.out with rfl | rfl | rfl | rfl
      · clear HZZ
        have hN := rp_new_at wr cl 0 0 (y : Int) 1 1 60 (fun y => wd (20 + 1 * 264 + 1 * 3) 60 2 y 1) false HY.out (by omega)
        go_wp2_with fail
        go_at_call 36; refine hN.mono ?_; rintro e w3 ⟨x, L0, rfl, hi0, hb3, hu1, -⟩
        have HZ0 : Hid (Solo ((rpCp 0 (fun y => wd (20 + 1 * 264 + 1 * 3) 60 2 y 1) 1 1 60 0 cl).I) ((Rd.lay cl 1 1 60).and (Rd.tl B0 v r)) w w3 A cap c b n ((roP n).steps 0 n 0 (rpStart (y : Int) false, s)).2 x ((roP n).steps 0 n 0 (rpStart (y : Int) false, s)).1 L0) := Solo.begin HI.out hb3 HB.out hup.out hi0 hu1 ⟨HY.out, HV.out⟩ (HRF.out _ _ _ HY.out HV.out).1 (HRF.out _ _ _ HY.out HV.out).2
        have HLO : Hid (∀ q : Nat, q ≤ 9 → Low ((roP n).steps 0 n q (rpStart (y : Int) false, s)).2 1000000) := fun q hq => (PM.steps_low (roP n) 0 n q (rpStart (y : Int) false, s) HLw.out).more (by omega)
        have HG : Hid (((rpCp 0 (fun y => wd (20 + 1 * 264 + 1 * 3) 60 2 y 1) 1 1 60 0 cl).I).Good (roP n) ∧ Steps (roP n) ((rpCp 0 (fun y => wd (20 + 1 * 264 + 1 * 3) 60 2 y 1) 1 1 60 0 cl).I) (Rd.lay cl 1 1 60) 37 0) := ⟨rp_good (by omega) (by omega) (by omega) (by omega), rp_steps (by omega) (by omega) (by omega) (by omega)⟩
        have HB3 : Hid (B0 ≤ w3.heap.size) := Nat.le_trans HBB.out hb3.size
        clear hN hi0 hb3 hu1 HI HY HB HV HBB
        go_wp2_with fail
        go_loopw [15] (fun kk wi => ∃ (q : Nat) (L : List Nat), q ≤ 9 ∧ kk = .int .i64 q ∧ Hid (Solo ((rpCp 0 (fun y => wd (20 + 1 * 264 + 1 * 3) 60 2 y 1) 1 1 60 0 cl).I) ((Rd.lay cl 1 1 60).and (Rd.tl B0 v r)) w wi A cap c b n ((roP n).steps 0 n q (rpStart (y : Int) false, s)).2 x ((roP n).steps 0 n q (rpStart (y : Int) false, s)).1 L) ∧ Hid (B0 ≤ wi.heap.size)) (fun kk _ => 9 - (intOf kk).toNat)
        case atStart => exact ⟨0, L0, by omega, rfl, HZ0, HB3⟩
        case round =>
          clear HZ0 HB3
          obtain ⟨q, L, hq, rfl, HS, HBB⟩ := hrel
          by_cases hq9 : q < 9
          · have hSt := HS.out.stepUp HG.out.1 HG.out.2 (fun Y (h : ((Rd.lay cl 1 1 60).and (Rd.tl B0 v r)).P Y) => h.1) (fun k hk => List.mem_append_left _ hk) HN6.out (HLO.out q hq)
            rw [show (roP n).goS 0 n ((roP n).steps 0 n q (rpStart (y : Int) false, s)).1 ((roP n).steps 0 n q (rpStart (y : Int) false, s)).2 = ((roP n).steps 0 n (q + 1) (rpStart (y : Int) false, s)).2 by rw [PM.steps_succ], show (roP n).goT n ((roP n).steps 0 n q (rpStart (y : Int) false, s)).1 ((roP n).steps 0 n q (rpStart (y : Int) false, s)).2 = ((roP n).steps 0 n (q + 1) (rpStart (y : Int) false, s)).1 by rw [PM.steps_succ]] at hSt
            have hq1 : (q : Int) < 9 := by omega
            have hq0 : (0 : Int) ≤ (q : Int) := by omega
            clear HS
            go_wp2_with fail
            go_at_call 37; refine hSt.mono ?_; rintro e w4 ⟨rfl, hsz', L', hS'⟩
            have HS' : Hid _ := hS'
            have HBB' : Hid (B0 ≤ w4.heap.size) := Nat.le_trans HBB.out hsz'
            clear hSt hS'
            go_wp2_with fail
            go_roundw
            case rel => exact ⟨q + 1, L', by omega, by go_num, HS', HBB'⟩
            case measure => simp [intOf]; omega
          · obtain rfl : q = 9 := by omega
            clear HLO
            have HQ2 : Hid (Rq ((roP n).steps 0 n 9 (rpStart (y : Int) false, s)).2 h (r ++ [(y : Int)]) nx ∧ Low ((roP n).steps 0 n 9 (rpStart (y : Int) false, s)).2 (9 * ((j + 1 : Nat) : Int)) ∧ (r ++ [(y : Int)]).length ≤ j + 1) := ⟨ro_put HN2.out HQ.out.1 (by have := HLN.out; omega) HYP.out, by have h := PM.steps_low (roP n) 0 n 9 (rpStart (y : Int) false, s) HQ.out.2.1; rw [show (9 * ((j + 1 : Nat) : Int)) = 9 * (j : Int) + ((9 : Nat) : Int) by omega]; exact h, by have := HQ.out.2.2; simp; omega⟩
            clear HQ HLw
            have HI : Hid _ := HS.out.mem
            have HY : Hid (Lay _ cl 1 1 60) := HS.out.rd.1
            have HB : Hid _ := HS.out.below
            have HV : Hid (RI.TL _ B0 v r) := HS.out.rd.2
            clear HS
            generalize ((roP n).steps 0 n 9 (rpStart (y : Int) false, s)).2 = s2 at *
            have pzz := HPZ.out _ HB.out
            have HTA : Hid (∀ o, RI.TL (wr.alloc o) B0 v r) := fun o => HV.out.below ((Below.refl _ _).alloc (Nat.le_refl _) o)
            have HSZ : Hid (B0 ≤ wr.heap.size ∧ r.length ≤ 1000000) := ⟨HBB.out, by have := HLN.out; omega⟩
            go_wp2_with (at_builtin; refine RI.tl_append _ rfl _ _ rfl rfl (HTA.out _) ⟨wr.heap.size, 0, none⟩ 1 ((y : Int)) rfl (cell_one_new _ _ _) HSZ.out.2 (by have := HSZ.out.1; simp; omega) ?_; intro v' w5 hT5 hBu5 hup5)
            have hBu : But (rowB v) wr w5 := ((But.refl (rowB v) wr).alloc _).trans hBu5
            have hUP := HV.out.up
            have HX := HRF.out wr v r HY.out HV.out
            have HI5 : Hid (Is w5 136 A cap c b n s2) := HI.out.but hBu (fun hm => HX.2.1 (List.mem_append_right _ hm)) (fun hm => HX.2.2 (List.mem_append_right _ hm))
            have HY5 : Hid (Lay w5 cl 1 1 60) := (hBu.block cl HY.out.lt (fun hm => by have h1 := (hUP _ hm).1; have h2 := hlo.out; omega)).trans HY.out
            have HB5 : Hid (Below w.heap.size w w5) := HB.out.trans (hBu.below (fun k hk => by have h1 := (hUP _ hk).1; have := HBS.out; omega) HB.out.size)
            have HBB5 : Hid (B0 ≤ w5.heap.size) := Nat.le_trans HBB.out hBu.size
            have HV5 : Hid (RI.TL w5 B0 v' (r ++ [(y : Int)])) := hT5
            clear hT5 hBu5 hup5 hBu hUP HX HTA HSZ HV HI HY HB HBB
            go_wp2_with fail
            go_roundw
            case rel => exact ⟨j + 1, v', s2, r ++ [(y : Int)], nx, _, rfl, rfl, by omega, by go_num, HI5, HY5, HB5, HV5, HBB5, HQ2⟩
            case measure => simp [intOf]; omega
      · clear HZZ
        have hN := rp_new_at wr cl 0 0 (y : Int) 1 1 60 (fun y => wd (20 + 1 * 264 + 1 * 3) 60 2 y 1) true HY.out (by omega)
        go_wp2_with fail
        go_at_call 36; refine hN.mono ?_; rintro e w3 ⟨x, L0, rfl, hi0, hb3, hu1, -⟩
        have HZ0 : Hid (Solo ((rpCp 0 (fun y => wd (20 + 1 * 264 + 1 * 3) 60 2 y 1) 1 1 60 0 cl).I) ((Rd.lay cl 1 1 60).and (Rd.tl B0 v r)) w w3 A cap c b n ((roP n).steps 0 n 0 (rpStart (y : Int) true, s)).2 x ((roP n).steps 0 n 0 (rpStart (y : Int) true, s)).1 L0) := Solo.begin HI.out hb3 HB.out hup.out hi0 hu1 ⟨HY.out, HV.out⟩ (HRF.out _ _ _ HY.out HV.out).1 (HRF.out _ _ _ HY.out HV.out).2
        have HLO : Hid (∀ q : Nat, q ≤ 9 → Low ((roP n).steps 0 n q (rpStart (y : Int) true, s)).2 1000000) := fun q hq => (PM.steps_low (roP n) 0 n q (rpStart (y : Int) true, s) HLw.out).more (by omega)
        have HG : Hid (((rpCp 0 (fun y => wd (20 + 1 * 264 + 1 * 3) 60 2 y 1) 1 1 60 0 cl).I).Good (roP n) ∧ Steps (roP n) ((rpCp 0 (fun y => wd (20 + 1 * 264 + 1 * 3) 60 2 y 1) 1 1 60 0 cl).I) (Rd.lay cl 1 1 60) 37 0) := ⟨rp_good (by omega) (by omega) (by omega) (by omega), rp_steps (by omega) (by omega) (by omega) (by omega)⟩
        have HB3 : Hid (B0 ≤ w3.heap.size) := Nat.le_trans HBB.out hb3.size
        clear hN hi0 hb3 hu1 HI HY HB HV HBB
        go_wp2_with fail
        go_loopw [15] (fun kk wi => ∃ (q : Nat) (L : List Nat), q ≤ 9 ∧ kk = .int .i64 q ∧ Hid (Solo ((rpCp 0 (fun y => wd (20 + 1 * 264 + 1 * 3) 60 2 y 1) 1 1 60 0 cl).I) ((Rd.lay cl 1 1 60).and (Rd.tl B0 v r)) w wi A cap c b n ((roP n).steps 0 n q (rpStart (y : Int) true, s)).2 x ((roP n).steps 0 n q (rpStart (y : Int) true, s)).1 L) ∧ Hid (B0 ≤ wi.heap.size)) (fun kk _ => 9 - (intOf kk).toNat)
        case atStart => exact ⟨0, L0, by omega, rfl, HZ0, HB3⟩
        case round =>
          clear HZ0 HB3
          obtain ⟨q, L, hq, rfl, HS, HBB⟩ := hrel
          by_cases hq9 : q < 9
          · have hSt := HS.out.stepUp HG.out.1 HG.out.2 (fun Y (h : ((Rd.lay cl 1 1 60).and (Rd.tl B0 v r)).P Y) => h.1) (fun k hk => List.mem_append_left _ hk) HN6.out (HLO.out q hq)
            rw [show (roP n).goS 0 n ((roP n).steps 0 n q (rpStart (y : Int) true, s)).1 ((roP n).steps 0 n q (rpStart (y : Int) true, s)).2 = ((roP n).steps 0 n (q + 1) (rpStart (y : Int) true, s)).2 by rw [PM.steps_succ], show (roP n).goT n ((roP n).steps 0 n q (rpStart (y : Int) true, s)).1 ((roP n).steps 0 n q (rpStart (y : Int) true, s)).2 = ((roP n).steps 0 n (q + 1) (rpStart (y : Int) true, s)).1 by rw [PM.steps_succ]] at hSt
            have hq1 : (q : Int) < 9 := by omega
            have hq0 : (0 : Int) ≤ (q : Int) := by omega
            clear HS
            go_wp2_with fail
            go_at_call 37; refine hSt.mono ?_; rintro e w4 ⟨rfl, hsz', L', hS'⟩
            have HS' : Hid _ := hS'
            have HBB' : Hid (B0 ≤ w4.heap.size) := Nat.le_trans HBB.out hsz'
            clear hSt hS'
            go_wp2_with fail
            go_roundw
            case rel => exact ⟨q + 1, L', by omega, by go_num, HS', HBB'⟩
            case measure => simp [intOf]; omega
          · obtain rfl : q = 9 := by omega
            clear HLO
            have HQ2 : Hid (Rq ((roP n).steps 0 n 9 (rpStart (y : Int) true, s)).2 h (if nx = -1 then r else r ++ [nx]) (y : Int) ∧ Low ((roP n).steps 0 n 9 (rpStart (y : Int) true, s)).2 (9 * ((j + 1 : Nat) : Int)) ∧ (if nx = -1 then r else r ++ [nx]).length ≤ j + 1) := ⟨ro_next HN2.out HQ.out.1 (by have := HLN.out; omega) HYP.out, by have h := PM.steps_low (roP n) 0 n 9 (rpStart (y : Int) true, s) HQ.out.2.1; rw [show (9 * ((j + 1 : Nat) : Int)) = 9 * (j : Int) + ((9 : Nat) : Int) by omega]; exact h, by have := HQ.out.2.2; split <;> simp <;> omega⟩
            clear HQ HLw
            have HI : Hid _ := HS.out.mem
            have HY : Hid (Lay _ cl 1 1 60) := HS.out.rd.1
            have HB : Hid _ := HS.out.below
            have HV : Hid (RI.TL _ B0 v r) := HS.out.rd.2
            clear HS
            generalize ((roP n).steps 0 n 9 (rpStart (y : Int) true, s)).2 = s2 at *
            by_cases hx : nx = -1
            · subst hx
              rw [if_pos rfl] at HQ2
              have pzz := HPZ.out _ HB.out
              go_wp2_with fail
              go_roundw
              case rel => exact ⟨j + 1, v, s2, r, (y : Int), _, rfl, rfl, by omega, by go_num, HI, HY, HB, HV, HBB, HQ2⟩
              case measure => simp [intOf]; omega
            · rw [if_neg hx] at HQ2
              have hxe : (nx == -1) = false := by simpa using hx
              have hxd : decide (nx ≠ -1) = true := by simpa using hx
              have pzz := HPZ.out _ HB.out
              have HTA : Hid (∀ o, RI.TL (wr.alloc o) B0 v r) := fun o => HV.out.below ((Below.refl _ _).alloc (Nat.le_refl _) o)
              have HSZ : Hid (B0 ≤ wr.heap.size ∧ r.length ≤ 1000000) := ⟨HBB.out, by have := HLN.out; omega⟩
              go_wp2_with (at_builtin; refine RI.tl_append _ rfl _ _ rfl rfl (HTA.out _) ⟨wr.heap.size, 0, none⟩ 1 (nx) rfl (cell_one_new _ _ _) HSZ.out.2 (by have := HSZ.out.1; simp; omega) ?_; intro v' w5 hT5 hBu5 hup5)
              have hBu : But (rowB v) wr w5 := ((But.refl (rowB v) wr).alloc _).trans hBu5
              have hUP := HV.out.up
              have HX := HRF.out wr v r HY.out HV.out
              have HI5 : Hid (Is w5 136 A cap c b n s2) := HI.out.but hBu (fun hm => HX.2.1 (List.mem_append_right _ hm)) (fun hm => HX.2.2 (List.mem_append_right _ hm))
              have HY5 : Hid (Lay w5 cl 1 1 60) := (hBu.block cl HY.out.lt (fun hm => by have h1 := (hUP _ hm).1; have h2 := hlo.out; omega)).trans HY.out
              have HB5 : Hid (Below w.heap.size w w5) := HB.out.trans (hBu.below (fun k hk => by have h1 := (hUP _ hk).1; have := HBS.out; omega) HB.out.size)
              have HBB5 : Hid (B0 ≤ w5.heap.size) := Nat.le_trans HBB.out hBu.size
              have HV5 : Hid (RI.TL w5 B0 v' (r ++ [nx])) := hT5
              clear hT5 hBu5 hup5 hBu hUP HX HTA HSZ HV HI HY HB HBB
              go_wp2_with fail
              go_roundw
              case rel => exact ⟨j + 1, v', s2, r ++ [nx], (y : Int), _, rfl, rfl, by omega, by go_num, HI5, HY5, HB5, HV5, HBB5, HQ2⟩
              case measure => simp [intOf]; omega
      · clear HZZ
        have hN := rg_new wr cl 0 0 1 1 60 false HY.out (by omega)
        go_wp2_with fail
        go_at_call 43; refine hN.mono ?_; rintro e w3 ⟨x, L0, rfl, hi0, hb3, hu1⟩
        have HZ0 : Hid (Solo ((rgFl 0 cl 0 false).I (roM false)) ((Rd.lay cl 1 1 60).and (Rd.tl B0 v r)) w w3 A cap c b n ((roM false).steps 0 n 0 (rgS false, s)).2 x ((roM false).steps 0 n 0 (rgS false, s)).1 L0) := Solo.begin HI.out hb3 HB.out hup.out hi0 hu1 ⟨HY.out, HV.out⟩ (HRF.out _ _ _ HY.out HV.out).1 (HRF.out _ _ _ HY.out HV.out).2
        have HLO : Hid (∀ q : Nat, q ≤ 9 → Low ((roM false).steps 0 n q (rgS false, s)).2 1000000) := fun q hq => (PM.steps_low (roM false) 0 n q (rgS false, s) HLw.out).more (by omega)
        have HG : Hid (((rgFl 0 cl 0 false).I (roM false)).Good (roM false) ∧ Steps (roM false) ((rgFl 0 cl 0 false).I (roM false)) (Rd.lay cl 1 1 60) 44 0) := ⟨Fl.good (rg_laws 0 1 1 60 0 false cl (by omega)), Fl.steps (rg_laws 0 1 1 60 0 false cl (by omega)) stepby_rget⟩
        have HB3 : Hid (B0 ≤ w3.heap.size) := Nat.le_trans HBB.out hb3.size
        clear hN hi0 hb3 hu1 HI HY HB HV HBB
        go_wp2_with fail
        go_loopw [18] (fun kk wi => ∃ (q : Nat) (L : List Nat), q ≤ 9 ∧ kk = .int .i64 q ∧ Hid (Solo ((rgFl 0 cl 0 false).I (roM false)) ((Rd.lay cl 1 1 60).and (Rd.tl B0 v r)) w wi A cap c b n ((roM false).steps 0 n q (rgS false, s)).2 x ((roM false).steps 0 n q (rgS false, s)).1 L) ∧ Hid (B0 ≤ wi.heap.size)) (fun kk _ => 9 - (intOf kk).toNat)
        case atStart => exact ⟨0, L0, by omega, rfl, HZ0, HB3⟩
        case round =>
          clear HZ0 HB3
          obtain ⟨q, L, hq, rfl, HS, HBB⟩ := hrel
          by_cases hq9 : q < 9
          · have hSt := HS.out.stepUp HG.out.1 HG.out.2 (fun Y (h : ((Rd.lay cl 1 1 60).and (Rd.tl B0 v r)).P Y) => h.1) (fun k hk => List.mem_append_left _ hk) HN6.out (HLO.out q hq)
            rw [show (roM false).goS 0 n ((roM false).steps 0 n q (rgS false, s)).1 ((roM false).steps 0 n q (rgS false, s)).2 = ((roM false).steps 0 n (q + 1) (rgS false, s)).2 by rw [PM.steps_succ], show (roM false).goT n ((roM false).steps 0 n q (rgS false, s)).1 ((roM false).steps 0 n q (rgS false, s)).2 = ((roM false).steps 0 n (q + 1) (rgS false, s)).1 by rw [PM.steps_succ]] at hSt
            have hq1 : (q : Int) < 9 := by omega
            have hq0 : (0 : Int) ≤ (q : Int) := by omega
            clear HS
            go_wp2_with fail
            go_at_call 44; refine hSt.mono ?_; rintro e w4 ⟨rfl, hsz', L', hS'⟩
            have HS' : Hid _ := hS'
            have HBB' : Hid (B0 ≤ w4.heap.size) := Nat.le_trans HBB.out hsz'
            clear hSt hS'
            go_wp2_with fail
            go_roundw
            case rel => exact ⟨q + 1, L', by omega, by go_num, HS', HBB'⟩
            case measure => simp [intOf]; omega
          · obtain rfl : q = 9 := by omega
            clear HLO
            obtain ⟨g1, g2, h', g3⟩ := ro_get HN2.out HQ.out.1 (by have := HLN.out; omega) false
            have hGv := rg_g HS.out.mach
            have hD : Calls Tryz.prog 45 #[.pointer (some ⟨x, 0, none⟩)] wr fun e w' => e = .returned (.bool true) ∧ wr = w' := by
              obtain ⟨nn, u1, u2⟩ := HG.out.1.next HS.out.mach
              rw [g1] at u2
              rw [show true = nn.isNone by cases nn with | none => rfl | some a => cases u2]
              exact done_rget wr x nn u1
            rw [g2] at hGv
            have HLQ : Hid (Low ((roM false).steps 0 n 9 (rgS false, s)).2 (9 * ((j + 1 : Nat) : Int))) := by have h := PM.steps_low (roM false) 0 n 9 (rgS false, s) HQ.out.2.1; rw [show (9 * ((j + 1 : Nat) : Int)) = 9 * (j : Int) + ((9 : Nat) : Int) by omega]; exact h
            have HQ3 : Hid (Rq ((roM false).steps 0 n 9 (rgS false, s)).2 h' (roL false r nx) (roN false r nx) ∧ r.length ≤ j) := ⟨g3, HQ.out.2.2⟩
            clear g1 g2 g3 HQ HLw
            have HI : Hid _ := HS.out.mem
            have HY : Hid (Lay _ cl 1 1 60) := HS.out.rd.1
            have HB : Hid _ := HS.out.below
            have HV : Hid (RI.TL _ B0 v r) := HS.out.rd.2
            clear HS
            generalize ((roM false).steps 0 n 9 (rgS false, s)).2 = s2 at *
            by_cases hx : nx = -1
            · subst hx
              cases r with
              | nil =>
                have eG : roG false [] (-1) = -1 := by unfold roG; simp
                have eL : roL false [] (-1) = [] := by unfold roL; simp
                have eN : roN false [] (-1) = -1 := by unfold roN; simp
                rw [eG] at hGv
                rw [eL, eN] at HQ3
                obtain ⟨Av, capv, hvs⟩ := HV.out.shape
                have hvs : v = .slice Av 0 capv := hvs
                subst hvs
                have HQ2 : Hid (Rq s2 h' [] (-1) ∧ Low s2 (9 * ((j + 1 : Nat) : Int)) ∧ ([] : List Int).length ≤ j + 1) := ⟨HQ3.out.1, HLQ.out, by simp⟩
                clear HQ3 HLQ
                go_wp2_with fail
                go_at_call 45; refine hD.mono ?_; rintro e w9 ⟨rfl, rfl⟩
                clear hD
                go_wp2_with fail
                go_at_call 46; refine hGv.mono ?_; rintro e w9 ⟨rfl, rfl⟩
                clear hGv
                go_wp2_with fail
                go_roundw
                case rel => exact ⟨j + 1, _, s2, [], (-1), _, rfl, rfl, by omega, by go_num, HI, HY, HB, HV, HBB, HQ2⟩
                case measure => simp [intOf]; omega
              | cons y1 r1 =>
                have eG : roG false (y1 :: r1) (-1) = y1 := by unfold roG; rw [if_pos (.inr rfl)]; rfl
                have eL : roL false (y1 :: r1) (-1) = r1 := by unfold roL; rw [if_pos (.inr rfl)]; rfl
                have eN : roN false (y1 :: r1) (-1) = (-1) := by unfold roN; rw [if_pos (.inr rfl)]
                rw [eG] at hGv
                rw [eL, eN] at HQ3
                obtain ⟨gb, goff, gcap, hvs, hcap1, hcap2, hgc, hgt⟩ := HV.out.uncons
                subst hvs
                have HQ2 : Hid (Rq s2 h' r1 (-1) ∧ Low s2 (9 * ((j + 1 : Nat) : Int)) ∧ r1.length ≤ j + 1) := ⟨HQ3.out.1, HLQ.out, by have := HQ3.out.2; simp at this; omega⟩
                have HV : Hid _ := hgt
                have hlc : ((r1.length + 1 : Nat) : Int) = (r1.length : Int) + 1 := by simp
                have HLN1 : Hid (r1.length ≤ 100) := (by have := HLN.out; simp at this; omega : r1.length ≤ 100)
                have hw1 : wrap64 ((r1.length : Int) + 1 - 1) = (r1.length : Int) := by have := HLN1.out; unfold wrap64; omega
                have hpos : (0 : Int) < (r1.length : Int) + 1 := by omega
                have hlt1 : (r1.length : Int) < (r1.length : Int) + 1 := by omega
                have hyy : (y1 == y1) = true := by simp
                have hyd : decide (y1 ≠ y1) = false := by simp
                obtain ⟨A2, hA2⟩ : ∃ A2, (if gcap = 1 then some (⟨gb, goff, none⟩ : Addr) else some ⟨gb, goff + 1, none⟩) = A2 := ⟨_, rfl⟩
                rw [hA2] at HV
                clear HQ3 HLQ eG eL eN hgt
                go_wp2_with fail
                go_at_call 45; refine hD.mono ?_; rintro e w9 ⟨rfl, rfl⟩
                clear hD
                go_wp2_with fail
                go_at_call 46; refine hGv.mono ?_; rintro e w9 ⟨rfl, rfl⟩
                clear hGv
                go_wp2_with fail
                go_roundw
                case rel => exact ⟨j + 1, _, s2, r1, (-1), _, rfl, rfl, by omega, by go_num, HI, HY, HB, HV, HBB, HQ2⟩
                case measure => simp [intOf]; omega
            · have eG : roG false r nx = nx := by unfold roG; rw [if_neg (by simp [hx])]
              have eL : roL false r nx = r := by unfold roL; rw [if_neg (by simp [hx])]
              have eN : roN false r nx = -1 := by unfold roN; rw [if_neg (by simp [hx])]
              rw [eG] at hGv
              rw [eL, eN] at HQ3
              obtain ⟨Av, capv, hvs⟩ := HV.out.shape
              subst hvs
              have hxe : (nx == -1) = false := by simpa using hx
              have hyy : (nx == nx) = true := by simp
              have hyd : decide (nx ≠ nx) = false := by simp
              have HQ2 : Hid (Rq s2 h' r (-1) ∧ Low s2 (9 * ((j + 1 : Nat) : Int)) ∧ (r).length ≤ j + 1) := ⟨HQ3.out.1, HLQ.out, by have := HQ3.out.2; omega⟩
              clear HQ3 HLQ eG eL eN
              go_wp2_with fail
              go_at_call 45; refine hD.mono ?_; rintro e w9 ⟨rfl, rfl⟩
              clear hD
              go_wp2_with fail
              go_at_call 46; refine hGv.mono ?_; rintro e w9 ⟨rfl, rfl⟩
              clear hGv
              go_wp2_with fail
              go_roundw
              case rel => exact ⟨j + 1, _, s2, r, (-1), _, rfl, rfl, by omega, by go_num, HI, HY, HB, HV, HBB, HQ2⟩
              case measure => simp [intOf]; omega
      · clear HZZ
        have hN := rg_new wr cl 0 0 1 1 60 true HY.out (by omega)
        go_wp2_with fail
        go_at_call 43; refine hN.mono ?_; rintro e w3 ⟨x, L0, rfl, hi0, hb3, hu1⟩
        have HZ0 : Hid (Solo ((rgFl 0 cl 0 true).I (roM true)) ((Rd.lay cl 1 1 60).and (Rd.tl B0 v r)) w w3 A cap c b n ((roM true).steps 0 n 0 (rgS true, s)).2 x ((roM true).steps 0 n 0 (rgS true, s)).1 L0) := Solo.begin HI.out hb3 HB.out hup.out hi0 hu1 ⟨HY.out, HV.out⟩ (HRF.out _ _ _ HY.out HV.out).1 (HRF.out _ _ _ HY.out HV.out).2
        have HLO : Hid (∀ q : Nat, q ≤ 9 → Low ((roM true).steps 0 n q (rgS true, s)).2 1000000) := fun q hq => (PM.steps_low (roM true) 0 n q (rgS true, s) HLw.out).more (by omega)
        have HG : Hid (((rgFl 0 cl 0 true).I (roM true)).Good (roM true) ∧ Steps (roM true) ((rgFl 0 cl 0 true).I (roM true)) (Rd.lay cl 1 1 60) 44 0) := ⟨Fl.good (rg_laws 0 1 1 60 0 true cl (by omega)), Fl.steps (rg_laws 0 1 1 60 0 true cl (by omega)) stepby_rget⟩
        have HB3 : Hid (B0 ≤ w3.heap.size) := Nat.le_trans HBB.out hb3.size
        clear hN hi0 hb3 hu1 HI HY HB HV HBB
        go_wp2_with fail
        go_loopw [18] (fun kk wi => ∃ (q : Nat) (L : List Nat), q ≤ 9 ∧ kk = .int .i64 q ∧ Hid (Solo ((rgFl 0 cl 0 true).I (roM true)) ((Rd.lay cl 1 1 60).and (Rd.tl B0 v r)) w wi A cap c b n ((roM true).steps 0 n q (rgS true, s)).2 x ((roM true).steps 0 n q (rgS true, s)).1 L) ∧ Hid (B0 ≤ wi.heap.size)) (fun kk _ => 9 - (intOf kk).toNat)
        case atStart => exact ⟨0, L0, by omega, rfl, HZ0, HB3⟩
        case round =>
          clear HZ0 HB3
          obtain ⟨q, L, hq, rfl, HS, HBB⟩ := hrel
          by_cases hq9 : q < 9
          · have hSt := HS.out.stepUp HG.out.1 HG.out.2 (fun Y (h : ((Rd.lay cl 1 1 60).and (Rd.tl B0 v r)).P Y) => h.1) (fun k hk => List.mem_append_left _ hk) HN6.out (HLO.out q hq)
            rw [show (roM true).goS 0 n ((roM true).steps 0 n q (rgS true, s)).1 ((roM true).steps 0 n q (rgS true, s)).2 = ((roM true).steps 0 n (q + 1) (rgS true, s)).2 by rw [PM.steps_succ], show (roM true).goT n ((roM true).steps 0 n q (rgS true, s)).1 ((roM true).steps 0 n q (rgS true, s)).2 = ((roM true).steps 0 n (q + 1) (rgS true, s)).1 by rw [PM.steps_succ]] at hSt
            have hq1 : (q : Int) < 9 := by omega
            have hq0 : (0 : Int) ≤ (q : Int) := by omega
            clear HS
            go_wp2_with fail
            go_at_call 44; refine hSt.mono ?_; rintro e w4 ⟨rfl, hsz', L', hS'⟩
            have HS' : Hid _ := hS'
            have HBB' : Hid (B0 ≤ w4.heap.size) := Nat.le_trans HBB.out hsz'
            clear hSt hS'
            go_wp2_with fail
            go_roundw
            case rel => exact ⟨q + 1, L', by omega, by go_num, HS', HBB'⟩
            case measure => simp [intOf]; omega
          · obtain rfl : q = 9 := by omega
            clear HLO
            obtain ⟨g1, g2, h', g3⟩ := ro_get HN2.out HQ.out.1 (by have := HLN.out; omega) true
            have hGv := rg_g HS.out.mach
            have hD : Calls Tryz.prog 45 #[.pointer (some ⟨x, 0, none⟩)] wr fun e w' => e = .returned (.bool true) ∧ wr = w' := by
              obtain ⟨nn, u1, u2⟩ := HG.out.1.next HS.out.mach
              rw [g1] at u2
              rw [show true = nn.isNone by cases nn with | none => rfl | some a => cases u2]
              exact done_rget wr x nn u1
            rw [g2] at hGv
            have HLQ : Hid (Low ((roM true).steps 0 n 9 (rgS true, s)).2 (9 * ((j + 1 : Nat) : Int))) := by have h := PM.steps_low (roM true) 0 n 9 (rgS true, s) HQ.out.2.1; rw [show (9 * ((j + 1 : Nat) : Int)) = 9 * (j : Int) + ((9 : Nat) : Int) by omega]; exact h
            have HQ3 : Hid (Rq ((roM true).steps 0 n 9 (rgS true, s)).2 h' (roL true r nx) (roN true r nx) ∧ r.length ≤ j) := ⟨g3, HQ.out.2.2⟩
            clear g1 g2 g3 HQ HLw
            have HI : Hid _ := HS.out.mem
            have HY : Hid (Lay _ cl 1 1 60) := HS.out.rd.1
            have HB : Hid _ := HS.out.below
            have HV : Hid (RI.TL _ B0 v r) := HS.out.rd.2
            clear HS
            generalize ((roM true).steps 0 n 9 (rgS true, s)).2 = s2 at *
            cases r with
            | cons y1 r1 =>
              have eG : roG true (y1 :: r1) nx = y1 := by unfold roG; rw [if_pos (.inl ⟨rfl, by simp⟩)]; rfl
              have eL : roL true (y1 :: r1) nx = r1 := by unfold roL; rw [if_pos (.inl ⟨rfl, by simp⟩)]; rfl
              have eN : roN true (y1 :: r1) nx = nx := by unfold roN; rw [if_pos (.inl ⟨rfl, by simp⟩)]
              rw [eG] at hGv
              rw [eL, eN] at HQ3
              obtain ⟨gb, goff, gcap, hvs, hcap1, hcap2, hgc, hgt⟩ := HV.out.uncons
              subst hvs
              have HQ2 : Hid (Rq s2 h' r1 nx ∧ Low s2 (9 * ((j + 1 : Nat) : Int)) ∧ r1.length ≤ j + 1) := ⟨HQ3.out.1, HLQ.out, by have := HQ3.out.2; simp at this; omega⟩
              have HV : Hid _ := hgt
              have hlc : ((r1.length + 1 : Nat) : Int) = (r1.length : Int) + 1 := by simp
              have HLN1 : Hid (r1.length ≤ 100) := (by have := HLN.out; simp at this; omega : r1.length ≤ 100)
              have hw1 : wrap64 ((r1.length : Int) + 1 - 1) = (r1.length : Int) := by have := HLN1.out; unfold wrap64; omega
              have hpos : (0 : Int) < (r1.length : Int) + 1 := by omega
              have hlt1 : (r1.length : Int) < (r1.length : Int) + 1 := by omega
              have hyy : (y1 == y1) = true := by simp
              have hyd : decide (y1 ≠ y1) = false := by simp
              obtain ⟨A2, hA2⟩ : ∃ A2, (if gcap = 1 then some (⟨gb, goff, none⟩ : Addr) else some ⟨gb, goff + 1, none⟩) = A2 := ⟨_, rfl⟩
              rw [hA2] at HV
              clear HQ3 HLQ eG eL eN hgt
              go_wp2_with fail
              go_at_call 45; refine hD.mono ?_; rintro e w9 ⟨rfl, rfl⟩
              clear hD
              go_wp2_with fail
              go_at_call 46; refine hGv.mono ?_; rintro e w9 ⟨rfl, rfl⟩
              clear hGv
              go_wp2_with fail
              go_roundw
              case rel => exact ⟨j + 1, _, s2, r1, nx, _, rfl, rfl, by omega, by go_num, HI, HY, HB, HV, HBB, HQ2⟩
              case measure => simp [intOf]; omega
            | nil =>
              by_cases hx : nx = -1
              · subst hx
                have eG : roG true [] (-1) = -1 := by unfold roG; simp
                have eL : roL true [] (-1) = [] := by unfold roL; simp
                have eN : roN true [] (-1) = -1 := by unfold roN; simp
                rw [eG] at hGv
                rw [eL, eN] at HQ3
                obtain ⟨Av, capv, hvs⟩ := HV.out.shape
                have hvs : v = .slice Av 0 capv := hvs
                subst hvs
                have HQ2 : Hid (Rq s2 h' [] (-1) ∧ Low s2 (9 * ((j + 1 : Nat) : Int)) ∧ ([] : List Int).length ≤ j + 1) := ⟨HQ3.out.1, HLQ.out, by simp⟩
                clear HQ3 HLQ
                go_wp2_with fail
                go_at_call 45; refine hD.mono ?_; rintro e w9 ⟨rfl, rfl⟩
                clear hD
                go_wp2_with fail
                go_at_call 46; refine hGv.mono ?_; rintro e w9 ⟨rfl, rfl⟩
                clear hGv
                go_wp2_with fail
                go_roundw
                case rel => exact ⟨j + 1, _, s2, [], (-1), _, rfl, rfl, by omega, by go_num, HI, HY, HB, HV, HBB, HQ2⟩
                case measure => simp [intOf]; omega
              · have eG : roG true [] nx = nx := by unfold roG; rw [if_neg (by simp [hx])]
                have eL : roL true [] nx = [] := by unfold roL; rw [if_neg (by simp [hx])]
                have eN : roN true [] nx = -1 := by unfold roN; rw [if_neg (by simp [hx])]
                rw [eG] at hGv
                rw [eL, eN] at HQ3
                obtain ⟨Av, capv, hvs⟩ := HV.out.shape
                subst hvs
                have hxe : (nx == -1) = false := by simpa using hx
                have hyy : (nx == nx) = true := by simp
                have hyd : decide (nx ≠ nx) = false := by simp
                have HQ2 : Hid (Rq s2 h' [] (-1) ∧ Low s2 (9 * ((j + 1 : Nat) : Int)) ∧ ([]).length ≤ j + 1) := ⟨HQ3.out.1, HLQ.out, by have := HQ3.out.2; omega⟩
                clear HQ3 HLQ eG eL eN
                go_wp2_with fail
                go_at_call 45; refine hD.mono ?_; rintro e w9 ⟨rfl, rfl⟩
                clear hD
                go_wp2_with fail
                go_at_call 46; refine hGv.mono ?_; rintro e w9 ⟨rfl, rfl⟩
                clear hGv
                go_wp2_with fail
                go_roundw
                case rel => exact ⟨j + 1, _, s2, [], (-1), _, rfl, rfl, by omega, by go_num, HI, HY, HB, HV, HBB, HQ2⟩
                case measure => simp [intOf]; omega
    · obtain rfl : j = mp := by omega
      have hgd : decide ((j : Int) < (j : Int)) = false := by simp
      have hBd := fun Y (hY : Below wr.heap.size wr Y) => bad_any Y A cap c b n s (HI.out.below hY)
      have HBD : Hid _ := hBd
      have HS0 : Hid (s.bad = 0) := HQ.out.1.bad
      have hA := rget_awake wr
      have HBF : Hid _ := HB.out
      clear hBd HI HY HB HV HBB HQ
      go_wp2_with fail
      go_at_call 42; refine hA.mono ?_; rintro e w9 ⟨rfl, h9⟩
      have hBd := HBD.out w9 h9
      rw [HS0.out] at hBd
      have HFF : Hid (Below w.heap.size w w9) := seq HBF.out h9
      clear hA h9 HBD
      go_wp2_with fail
      go_at_call 47; refine hBd.mono ?_; rintro e w8 ⟨rfl, rfl⟩
      clear hBd
      go_wp2_with fail
      go_ret
      exact ⟨rfl, HFF.out⟩
end Go.Proofs.YthhlklfioipmgaaGreat

namespace Go.Proofs.YthhlklfioipmgaaGreat
open Go Go.ChangeShapes Go.WideShapes Go.ChangeAt Go.RowKit

theorem below_trodAll {H : Type} {enc : TypeId × Value → H} {P : Program} (hl : laidOutB P = true) {W W' : World} (hb : Below W.heap.size W W') :
    ∀ (ts : List TypeId) (vs : List Value) (ds : List (DataW H)) (ps : List MemPlace), (ts.all fun t => P.readableRec t && decide (t < P.types.size)) = true →
      DataW.TrodAll enc P W 0 (fun _ => true) true ts vs ds ps → DataW.TrodAll enc P W' 0 (fun b => decide (b < W.heap.size)) true ts vs ds ps := by
  intro ts
  induction ts with
  | nil =>
    intro vs ds ps _ h
    cases vs <;> cases ds <;> first | exact h | exact (h : False).elim
  | cons t ts ih =>
    intro vs ds ps hall h
    cases vs with
    | nil => exact (h : False).elim
    | cons v vs =>
      cases ds with
      | nil => exact (h : False).elim
      | cons d ds =>
        obtain ⟨p, q, h1, h2, rfl⟩ := h
        simp only [List.all_cons, Bool.and_eq_true, decide_eq_true_eq] at hall
        have lt : ∀ x ∈ p, x.block < W.heap.size := by obtain ⟨m, hm⟩ := h1; exact DataW.trod_lt m _ _ _ hm
        exact ⟨p, q, Below.trod hl hall.1.1 hall.1.2 h1 hb lt, ih vs ds q hall.2 h2, rfl⟩

theorem law_post {H : Type} {enc : TypeId × Value → H} {P : Program} {f : Func} {s : ChangeSpec} {apart : Bool} {W W' : World} {args : Array Value} {ds gs : List (DataW H)} {before : List MemPlace} {bt : TypeId}
    (hl : laidOutB P = true) (hr : f.resultTypes.toList = [bt]) (hbt : P.underlying bt = some .bool) (hts : (f.params.toList.all fun t => P.readableRec t && decide (t < P.types.size)) = true)
    (hvars : s.vars = []) (hres : (s.fn H ds).results = [.lit (.bool true)]) (harg : (s.fn H ds).args = ds) (hvs : (s.fn H ds).vars = [])
    (hW : DataW.Whole enc P f.params.toList s.vars apart W args.toList ds gs before) (hb : Below W.heap.size W W') :
    s.post enc P f apart true false false W args (.bool true) W' := by
  have hW' := hW
  obtain ⟨p, q, hA, hV, rfl, hfz, hnd⟩ := hW
  have hg : gs = [] ∧ q = [] := by rw [hvars] at hV; exact trodVars_none hV
  obtain ⟨rfl, rfl⟩ := hg
  refine ⟨ds, [], _, [], p, [], hW', ?_, ?_, ?_, hb.frame _, fun h => by cases h⟩
  · have e : (Value.bool true).resultList f.resultTypes.size = [.bool true] := by
      have hs : f.resultTypes.size = 1 := by rw [← Array.length_toList, hr]; rfl
      rw [hs]; rfl
    rw [List.append_nil, hres, hr, e]
    exact trodAll_mk1 (shut_bool hbt _)
  · rw [List.append_nil, harg]
    exact below_trodAll hl hb _ _ _ _ hts hA
  · rw [List.append_nil, hvs, hvars]
    rfl
end Go.Proofs.YthhlklfioipmgaaGreat

namespace Go.Proofs.YthhlklfioipmgaaGreat
open Go Go.ChangeShapes Go.WideShapes Go.ChangeAt Go.RowKit Go.Joins
set_option linter.unusedVariables false
set_option linter.unusedSimpArgs false

theorem own_rgetOrder : ownKnob Tryz.prog.godebug = none := by kernel_rfl
theorem laidOut_rgetOrder : laidOutB Tryz.prog = true := by kernel_rfl

set_option maxRecDepth 100000 in
theorem lifted_rgetOrder (os : Os) (started : os.Started) (H : Type) (enc : TypeId × Value → H) :
    ReturnsInHanded {} Tryz.checked os 6 .any (Rows.rgetOrderSpec.pre6 enc Tryz.prog Tryz.f6 Rows.rgetOrderRow.domain false) (Rows.rgetOrderSpec.post enc Tryz.prog Tryz.f6 false true false false) := by
  refine returnsInHanded_of_change (C := Tryz.checked) own_rgetOrder started (by kernel_rfl) Tryz.func6
    (ChangeSpec.witness6 (enc := enc) (C := Tryz.checked) false ⟨#[], #[.int .u32 0, .slice none 0 0], []⟩ 8 (by kernel_rfl) (by kernel_rfl) (by kernel_rfl) (by kernel_rfl)) ?_
  intro W base args ds gs before hval0 hW hcnd _
  have hval : ∀ (j : Nat) t v, Tryz.f6.params[j]? = some t → args[j]? = some v → Value.okWide Tryz.prog W .any base t v := hval0
  have hW' := hW
  obtain ⟨p, q, hA0, hV, rfl, hfz, hnd⟩ := hW
  have hA : DataW.TrodAll enc Tryz.prog W 0 (fun _ => true) true Tryz.f6.params.toList args.toList ds p := hA0
  rw [Tryz.params6] at hA hval
  obtain ⟨v0, vs0, d0, ds0, p0, q0, hargs, rfl, rfl, h0, r0⟩ := trodAll_cons hA
  obtain ⟨v1, vs1, d1, ds1, p1, q1, rfl, rfl, rfl, h1, r1⟩ := trodAll_cons r0
  obtain ⟨rfl, rfl, rfl⟩ := trodAll_nil r1
  obtain rfl : args = #[v0, v1] := by cases args; simp_all
  obtain ⟨x0, rfl, rfl, rfl, wx0⟩ := open_int Tryz.underlying70 (hval 0 70 v0 rfl rfl) h0
  obtain ⟨E, mp, cq, pk, rfl, hmp, hpk⟩ := sees_bytes Tryz.underlying80 Tryz.underlying5 (by kernel_rfl) (hval 1 80 v1 rfl rfl) h1
  unfold maxLen at hmp
  clear hA0 hval0
  refine (rgetOrder_walk x0 E mp cq pk W 407 rfl (by have := bounds_u32 wx0; omega) (by omega) hpk).mono fun e W' ⟨he, hb⟩ => ?_
  subst he
  exact ⟨_, rfl, law_post laidOut_rgetOrder rfl Tryz.underlying4 (by kernel_rfl) rfl rfl rfl rfl hW' hb⟩

theorem rgetOrder_holds : Rows.RgetOrderSaid :=
  OpenClaim.holds_of_wide 6 Tryz.f6 rfl rfl rfl rfl rfl rfl rfl ⟨rfl, rfl, rfl, rfl, rfl⟩ rfl rfl rfl rfl rfl (by kernel_rfl) Tryz.func6 (by kernel_rfl)
    (of_decide_eq_true (by kernel_rfl)) (by unfold Func.isWrapper; first | (rw [if_pos (by decide +kernel)]; kernel_rfl) | (rw [if_neg (by decide +kernel)]; exact ⟨rfl, rfl⟩))
    (fun os started H enc _ => lifted_rgetOrder os started H enc)
#print axioms rgetOrder_holds
end Go.Proofs.YthhlklfioipmgaaGreat
