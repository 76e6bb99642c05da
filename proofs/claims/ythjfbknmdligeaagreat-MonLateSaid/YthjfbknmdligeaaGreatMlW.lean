/- The walk of the law MonLate. -/
import Derived.Test.YthjfbknmdligeaaGreatMlP
import Derived.Test.YthjfbknmdligeaaGreatMoAw
import Derived.Test.YthjfbknmdligeaaGreatBytes
namespace Go.Proofs.YthjfbknmdligeaaGreat
open Go Go.RowKit
set_option linter.unusedVariables false
set_option maxRecDepth 100000
set_option linter.unusedSimpArgs false

def ltA (lp : Int → Int) (i : Nat) : Int := if i = 0 then 18 else if i = 1 then lp 0 else lp 4
def ltV (x0 tn : Int) (i : Nat) : Int := if i = 0 then x0 else if i = 1 then 1 else tn
theorem lt_start {P p0 n : Nat} {x0 tn : Int} {lp : Int → Int} (hlp : ∀ f, 0 ≤ f ∧ f < 8 → lp f = 20 + 264 * p0 + f) (hp : p0 < P) (hn : 20 + 264 * P ≤ n) : LtW P p0 x0 tn (fresh (putF (ltA lp) (ltV x0 tn) n 3)) ∧ putF (ltA lp) (ltV x0 tn) n 3 (20 + 264 * p0 + 6) = 0 := by
  have e : putF (ltA lp) (ltV x0 tn) n 3 = upd (upd (upd (fun _ => 0) 18 x0) (20 + 264 * p0) 1) (20 + 264 * p0 + 4) tn := by
    have a0 : ltA lp 0 = 18 := rfl
    have a1 : ltA lp 1 = 20 + 264 * p0 := (hlp 0 (by omega)).trans (by omega)
    have a2 : ltA lp 2 = 20 + 264 * p0 + 4 := hlp 4 (by omega)
    unfold putF putF putF putF
    rw [a0, a1, a2, if_pos (by omega), if_pos (by omega), if_pos (by omega), show ((20 : Int) + 264 * p0 + 4).toNat = 20 + 264 * p0 + 4 by omega, show ((20 : Int) + 264 * p0).toNat = 20 + 264 * p0 by omega]
    rfl
  rw [e]
  refine ⟨⟨?_, fun q hq => ?_, ?_, rfl⟩, ?_⟩
  · show upd _ _ _ 18 = _
    rw [upd_ne _ _ (by omega), upd_ne _ _ (by omega), upd_self]
  · show upd _ _ _ (20 + 264 * q) = _
    rw [upd_ne _ _ (by omega)]
    by_cases h : q = p0
    · subst h; rw [upd_self, if_pos rfl]
    · rw [upd_ne _ _ (by omega), upd_ne _ _ (by omega), if_neg h]
  · exact upd_self _ _ _
  · rw [upd_ne _ _ (by omega), upd_ne _ _ (by omega), upd_ne _ _ (by omega)]
/-- Somebody else changed the memory. -/
theorem Solo.other {σ : Type} {I : MI σ} {M : PM σ} {R : Rd} {W0 w w' : World} {A : Option Addr} {cap c b n : Nat} {s s' : St} {x : Nat} {t : σ} {L : List Nat} (hG : ∀ {w w' : World} {x : Nat} {t : σ} {L l : List Nat}, I w x t L → But l w w' → (∀ k ∈ L, k ∉ l) → I w' x t L) (h : Solo I R W0 w A cap c b n s x t L) (hm : Is w' 114 A cap c b n s') (hb : But [c, b] w w') : Solo I R W0 w' A cap c b n s' x t L := by
  have hsz := h.below.size
  refine ⟨hm, hG h.mach hb (fun k hk => by have := h.far k hk; simp; exact ⟨this.1, this.2.1⟩), R.keep _ _ _ h.rd hb (fun k hk => ?_), h.far, h.rfar, h.up, fun k hk => Nat.lt_of_lt_of_le (h.rlt k hk) hb.size, h.below.trans (hb.below (fun k hk => ?_) hsz)⟩
  · simp only [List.mem_cons, List.not_mem_nil, or_false, not_or]
    exact ⟨fun e => h.rfar.1 (e ▸ hk), fun e => h.rfar.2 (e ▸ hk)⟩
  · simp only [List.mem_cons, List.not_mem_nil, or_false] at hk
    rcases hk with rfl | rfl
    · exact h.up.1
    · exact h.up.2.1
theorem id_stp4 (v : Int) (n : Nat) (s : St) (h : 18 < n) : (stp 4 9 18 0 v n s).f = upd s.f 18 ((s.f 18 + v) % 4294967296) ∧ (stp 4 9 18 0 v n s).bad = s.bad := by
  unfold stp
  rw [if_pos ⟨by omega, by omega⟩]
  refine ⟨?_, rfl⟩
  dsimp only
  rw [if_neg (by rintro (h | ⟨h, -⟩) <;> cases h), if_pos rfl]
  rfl
theorem monLate_bad (P x0 x1 : Int) (E : Option Addr) (mp cq : Nat) (w : World) (hmp : mp ≤ 9223372036854775807) (h : P < 1 ∨ 4 < P ∨ 60 < mp) :
    Calls Tryz.prog 4 #[.int .i64 P, .agg #[.int .u32 x0, .int .u32 x1], .slice E mp cq] w fun e w' => e = .returned (.bool true) ∧ Below w.heap.size w w' := by
  have hb : Below w.heap.size w (w.alloc (.cells #[.int .u32 x0, .int .u32 x1] 70)) := (Below.refl _ _).alloc (Nat.le_refl _) _
  have HB : Hid (Below w.heap.size w (w.alloc (.cells #[.int .u32 x0, .int .u32 x1] 70))) := hb
  clear hb
  by_cases h1 : P < 1
  · clear h
    go_enter Tryz.func4, Tryz.ntmps4
    go_wp2_with fail
    go_at_call 8; refine (mon_awake _).mono ?_; rintro e w2 ⟨rfl, h2⟩
    have h3 := seq HB.out h2
    clear h2
    go_wp2_with fail
    go_ret
    exact ⟨rfl, h3⟩
  have d1 : decide (P < 1) = false := decide_eq_false h1
  by_cases h3 : 4 < P
  · clear h
    go_enter Tryz.func4, Tryz.ntmps4
    go_wp2_with fail
    go_at_call 8; refine (mon_awake _).mono ?_; rintro e w2 ⟨rfl, h2⟩
    have h3 := seq HB.out h2
    clear h2
    go_wp2_with fail
    go_ret
    exact ⟨rfl, h3⟩
  have d2 : decide (4 < P) = false := decide_eq_false h3
  have h4 : 60 < mp := by omega
  have d3 : decide (60 < (mp : Int)) = true := decide_eq_true (by omega)
  clear h
  go_enter Tryz.func4, Tryz.ntmps4
  go_wp2_with fail
  go_at_call 8; refine (mon_awake _).mono ?_; rintro e w2 ⟨rfl, h2⟩
  have h3 := seq HB.out h2
  clear h2
  go_wp2_with fail
  go_ret
  exact ⟨rfl, h3⟩
set_option maxHeartbeats 16000000 in
theorem monLate_ok (P x0 x1 : Nat) (E : Option Addr) (mp cq : Nat) (pk : Nat → Nat) (w : World) (hP : 1 ≤ P ∧ P ≤ 4) (hmp : mp ≤ 60) (h0 : x0 ≤ 4294967295) (h1 : x1 ≤ 4294967295) (hB : SeesB8 w w.heap.size E mp pk) :
    Calls Tryz.prog 4 #[.int .i64 P, .agg #[.int .u32 x0, .int .u32 x1], .slice E mp cq] w fun e w' => e = .returned (.bool true) ∧ Below w.heap.size w w' := by
  obtain ⟨n, hn⟩ : ∃ n : Nat, n = 22 + 267 * P := ⟨_, rfl⟩
  obtain ⟨p0, hp0⟩ : ∃ p0 : Nat, x1 / 256 % P = p0 := ⟨_, rfl⟩
  have hpP : p0 < P := by rw [← hp0]; exact Nat.mod_lt _ (by omega)
  obtain ⟨xq, hxq⟩ : ∃ xq : Nat, x1 / 256 = xq := ⟨_, rfl⟩
  obtain ⟨zn, hzn⟩ : ∃ zn : Nat, x1 % 255 = zn := ⟨_, rfl⟩
  obtain ⟨lp, hlp⟩ : ∃ lp : Int → Int, ∀ f, 0 ≤ f ∧ f < 8 → lp f = 20 + 264 * p0 + f := ⟨fun f => 20 + 264 * p0 + f, fun f _ => rfl⟩
  obtain ⟨tn, htn⟩ : ∃ tn : Int, tn = (zn : Int) + 1 := ⟨_, rfl⟩
  have HLP : Hid (∀ f, 0 ≤ f ∧ f < 8 → lp f = 20 + 264 * p0 + f) := hlp
  have HPr : Hid (∀ f : Int, 0 ≤ f ∧ f < 8 → ∀ Y : World, Calls Tryz.prog 25 #[.int .i64 p0, .int .i64 f] Y fun e w' => e = .returned (.int .i64 (lp f)) ∧ Y = w') := fun f hf Y => by rw [hlp f hf]; exact rprc_any p0 f Y (by omega) hf
  have HN : Hid (n = 22 + 267 * P ∧ n ≤ 1000000 ∧ 20 + 264 * P ≤ n ∧ 0 < n ∧ 18 < n) := (by omega : n = 22 + 267 * P ∧ n ≤ 1000000 ∧ 20 + 264 * P ≤ n ∧ 0 < n ∧ 18 < n)
  have HP : Hid (1 ≤ P ∧ P ≤ 4 ∧ mp ≤ 60 ∧ p0 < P ∧ 1 ≤ tn ∧ tn ≤ 255 ∧ x0 ≤ 4294967295) := by
    have : zn < 255 := by rw [← hzn]; exact Nat.mod_lt _ (by omega)
    exact ⟨hP.1, hP.2, hmp, hpP, by omega, by omega, h0⟩
  have HPB : Hid (SeesB8 w w.heap.size E mp pk) := hB
  have q1 : Int.tdiv (x1 : Int) 256 = (xq : Int) := by rw [← hxq, Int.tdiv_eq_ediv_of_nonneg (by omega)]; omega
  have q2 : IntKind.u32.wrap (xq : Int) = (xq : Int) := by simp [IntKind.wrap, IntKind.bits, IntKind.signed]; omega
  have q3 : IntKind.i64.wrap (xq : Int) = (xq : Int) := by simp [IntKind.wrap, IntKind.bits, IntKind.signed]; omega
  have q4 : Int.tmod (xq : Int) (P : Int) = (p0 : Int) := by rw [← hp0, ← hxq, tmod_nat]
  have q5 : wrap64 (p0 : Int) = (p0 : Int) := by unfold wrap64; omega
  have q6 : ((P : Int) == 0) = false := by simp; omega
  have q7 : (P : Int) ≠ 0 := by omega
  have r1 : Int.tmod (x1 : Int) 255 = (zn : Int) := by rw [← hzn, Int.tmod_eq_emod_of_nonneg (by omega)]; omega
  have r0 : IntKind.u64.wrap (x1 : Int) = (x1 : Int) := wrap_u64 (by omega)
  have r2 : IntKind.u64.wrap (zn : Int) = (zn : Int) := wrap_u64 (by omega)
  have r3 : IntKind.u64.wrap ((zn : Int) + 1) = tn := by rw [wrap_u64 (by omega), htn]
  have r4 : IntKind.u64.wrap (x0 : Int) = (x0 : Int) := wrap_u64 (by omega)
  have hP1 := hP.1
  have hP4 := hP.2
  have d1 : decide ((P : Int) < 1) = false := decide_eq_false (by omega)
  have d2 : decide (4 < (P : Int)) = false := decide_eq_false (by omega)
  have d3 : decide (60 < (mp : Int)) = false := decide_eq_false (by omega)
  have hbx : Below w.heap.size w (w.alloc (.cells #[.int .u32 x0, .int .u32 x1] 70)) := (Below.refl _ _).alloc (Nat.le_refl _) _
  have bx := Blk.new w #[.int .u32 x0, .int .u32 x1] 70
  have bc0 := bx.cell 0 (v := .int .u32 x0) rfl
  have bc1 := bx.cell 1 (v := .int .u32 x1) rfl
  have HBX : Hid (Below w.heap.size w (w.alloc (.cells #[.int .u32 x0, .int .u32 x1] 70)) ∧ Blk (w.alloc (.cells #[.int .u32 x0, .int .u32 x1] 70)) w.heap.size #[.int .u32 x0, .int .u32 x1] 70) := ⟨hbx, bx⟩
  clear hn hlp htn hxq hzn hp0 hpP hB hbx bx h0 h1 hP
  go_enter Tryz.func4, Tryz.ntmps4
  go_wp2_with fail
  clear q1 q2 q3 q4 q5 q6 q7 r0 r1 r2 r3 d1 d2 d3 bc1
  have HL : Hid (∀ Y : World, Calls Tryz.prog 7 #[.agg #[.int .i64 P, .int .i64 P, .int .i64 1, .slice (some ⟨Y.heap.size, 0, none⟩) 3 3]] (Y.alloc (.cells #[.int .i64 18, .int .u64 x0, .int .i64 (lp 0), .int .u64 1, .int .i64 (lp 4), .int .u64 tn] 73)).drew fun e w' => ∃ (cl : Nat) (A A' : Option Addr) (cap cap' c b c' b' : Nat), e = .returned (.tuple #[.pointer (some ⟨cl, 0, none⟩), .pointer (some ⟨c, 0, none⟩), .pointer (some ⟨c', 0, none⟩), .bool true]) ∧ Laid (Y.alloc (.cells #[.int .i64 18, .int .u64 x0, .int .i64 (lp 0), .int .u64 1, .int .i64 (lp 4), .int .u64 tn] 73)).drew w' P P 1 n (putF (ltA lp) (ltV x0 tn) n 3) cl A A' cap cap' c b c' b') := fun Y => by
    have hX := (Blk.new Y #[.int .i64 18, .int .u64 x0, .int .i64 (lp 0), .int .u64 1, .int .i64 (lp 4), .int .u64 tn] 73).drew
    have hq := HP.out
    have hn := HN.out
    exact lay_some P P 1 (some ⟨Y.heap.size, 0, none⟩) 3 3 n (ltA lp) (ltV x0 tn) _ (by omega) ⟨⟨by omega⟩, by omega, by omega, by omega⟩ (by omega) (fun _ => ⟨Y.heap.size, 0, rfl, hX.lt, fun j hj => by
      rcases (by omega : j = 0 ∨ j = 1 ∨ j = 2) with rfl | rfl | rfl
      · exact ⟨hX.cell 0 rfl, hX.cell 1 rfl⟩
      · exact ⟨hX.cell 2 rfl, hX.cell 3 rfl⟩
      · exact ⟨hX.cell 4 rfl, hX.cell 5 rfl⟩⟩) (fun i hi => by unfold ltV; split <;> (try split) <;> omega)
  generalize (w.alloc (.cells #[.int .u32 x0, .int .u32 x1] 70)) = W at *
  go_region_with (first | (go_at_call 25; refine (HPr.out _ (by omega) _).mono ?_; rintro e w3 ⟨rfl, rfl⟩) | (go_at_call 7; refine (HL.out _).mono ?_; rintro e w1 ⟨cl, A, A', cap, cap', c, b, c', b', rfl, hLd⟩))
  all_goals
    have hZ0 : Below W.heap.size W (W.alloc (.cells #[.int .i64 18, .int .u64 x0, .int .i64 (lp 0), .int .u64 1, .int .i64 (lp 4), .int .u64 tn] 73)).drew := ((Below.refl _ _).alloc (Nat.le_refl _) _).drew
    have HB0 : Hid (Below w.heap.size w (W.alloc (.cells #[.int .i64 18, .int .u64 x0, .int .i64 (lp 0), .int .u64 1, .int .i64 (lp 4), .int .u64 tn] 73)).drew) := HBX.out.1.trans (hZ0.mono HBX.out.1.size)
    have hszW := HB0.out.size
    have HB1 : Hid (Below w.heap.size w w1) := HB0.out.trans (hLd.below.mono hszW)
    have HI1 : Hid (Is w1 114 A cap c b n (fresh (putF (ltA lp) (ltV x0 tn) n 3))) := hLd.two.m
    have HY1 : Hid (Lay w1 cl P P 1) := hLd.lay
    have hne : Hid (cl ≠ c ∧ cl ≠ b) := lay_ne hLd.lay (by decide) hLd.two.m HN.out.2.2.2.1
    have hup : Hid (w.heap.size ≤ c ∧ w.heap.size ≤ b) := ⟨by have := hLd.up.2.1; omega, by have := hLd.up.2.2.1; omega⟩
    have HRF : Hid (c ∉ (Rd.lay cl P P 1).B ∧ b ∉ (Rd.lay cl P P 1).B) := ⟨fun h => hne.out.1 (List.mem_singleton.1 h).symm, fun h => hne.out.2 (List.mem_singleton.1 h).symm⟩
    have hN := mo_new w1 cl P P 1 hLd.lay (by omega)
    clear hLd hne hszW HB0 hZ0 HL HBX bc0 r4
    go_wp2_with fail
    go_at_call 9; refine hN.mono ?_; rintro e w3 ⟨x, r, L, rfl, ha1, ha2, ha3, -⟩
    have HS0 : Hid (Solo (moI P cl r P) (Rd.lay cl P P 1) w w3 A cap c b n (fresh (putF (ltA lp) (ltV x0 tn) n 3)) x (.nw, moD0) L) := Solo.begin HI1.out ha2 HB1.out hup.out ha1 ha3 HY1.out (fun k hk => by obtain rfl : k = cl := List.mem_singleton.1 hk; exact HY1.out.lt) HRF.out
    have HQ0 : Hid (LtW P p0 (((x0 : Nat) : Int)) tn (fresh (putF (ltA lp) (ltV x0 tn) n 3)) ∧ LtC P p0 (x0 : Int) (x0 : Int) tn 0 0 (fresh (putF (ltA lp) (ltV x0 tn) n 3)) (.nw, moD0) (P + 3) ∧ Low (fresh (putF (ltA lp) (ltV x0 tn) n 3)) ((8 * 0 : Nat) : Int)) := by
      obtain ⟨e1, e2⟩ := lt_start (P := P) (p0 := p0) (n := n) (x0 := (x0 : Int)) (tn := tn) HLP.out HP.out.2.2.2.1 HN.out.2.2.1
      exact ⟨e1, LtC.nw moD0 ⟨fun i => by show (0 : Int) ≤ 0 ∧ (0 : Int) ≤ _; omega, by show (0 : Int) ≤ 0 ∧ (0 : Int) ≤ _; omega⟩ rfl (.inl ⟨rfl, rfl⟩) (.inl e2), low_fresh _⟩
    clear hN ha1 ha2 ha3 HI1 HY1 HB1 hup HRF
    go_wp2_with fail
    go_loopw [14, 15, 16, 17, 18, 19] (fun gv iv a1 a2 a3 a4 wr => ∃ (u1 u2 u3 u4 : Value) (gi now : Int) (i g : Nat) (t : MoP × MoD) (s : St) (L : List Nat), u1 = a1 ∧ u2 = a2 ∧ u3 = a3 ∧ u4 = a4 ∧ i ≤ mp ∧ gv = .int .i64 gi ∧ iv = .int .i64 i ∧ Hid (gi = g ∧ g ≤ 255 * i ∧ (i = 0 → g = 0) ∧ (now - x0) % 4294967296 = g ∧ (g = 0 → now = x0) ∧ 0 ≤ now ∧ now ≤ 4294967295) ∧ Hid (Solo (moI P cl r P) (Rd.lay cl P P 1) w wr A cap c b n s x t L) ∧ Hid (LtW P p0 now tn s ∧ LtC P p0 x0 now tn i g s t (P + 3) ∧ Low s ((8 * i : Nat) : Int))) (fun gv iv _ _ _ _ _ => mp - (intOf iv).toNat)
    case atStart => exact ⟨_, _, _, _, 0, x0, 0, 0, _, _, L, rfl, rfl, rfl, rfl, Nat.zero_le _, rfl, rfl, ⟨rfl, by omega, fun _ => rfl, by omega, fun _ => rfl, by omega, by have := HP.out; omega⟩, HS0, HQ0⟩
    case round =>
      clear HS0 HQ0
      obtain ⟨u1, u2, u3, u4, gi, now, i, g, t, s, L, rfl, rfl, rfl, rfl, hi, rfl, rfl, HG, HS, HQ⟩ := hrel
      by_cases hin : i < mp
      · have HI : Hid (i < mp) := hin
        have hps := mo_passes wr x cl r P P _ L HS.out.mach
        rw [(HQ.out.2.1.ok HP.out.2.2.2.1).2.2.1] at hps
        have HQ1 : Hid (LtW P p0 now tn s ∧ Low s ((8 * i + 0 : Nat) : Int) ∧ ((∃ j, 0 + j ≤ 7 ∧ LtC P p0 x0 now tn i g s t j) ∨ (0 ≤ 7 ∧ LtE p0 x0 tn i g s t))) := ⟨HQ.out.1, HQ.out.2.2, .inl ⟨P + 3, by have := HP.out; omega, HQ.out.2.1⟩⟩
        clear HQ
        go_wp2_with fail
        go_at_call 14; refine hps.mono ?_; rintro e w4 ⟨rfl, rfl⟩
        clear hps
        go_wp2_with fail
        go_loopw [17] (fun kv wi => ∃ (k : Nat) (t : MoP × MoD) (s : St) (L : List Nat), k ≤ 7 ∧ kv = .int .i64 k ∧ Hid (Solo (moI P cl r P) (Rd.lay cl P P 1) w wi A cap c b n s x t L) ∧ Hid (LtW P p0 now tn s ∧ Low s ((8 * i + k : Nat) : Int) ∧ ((∃ j, k + j ≤ 7 ∧ LtC P p0 x0 now tn i g s t j) ∨ (k ≤ 7 ∧ LtE p0 x0 tn i g s t)))) (fun kv _ => 30 - (intOf kv).toNat)
        case atStart => exact ⟨0, t, s, L, by omega, rfl, HS, HQ1⟩
        case round =>
          clear HS HQ1
          obtain ⟨k, t, s, L, hk7, rfl, HS, HQ⟩ := hrel
          have hk30 : decide ((k : Int) < 30) = true := decide_eq_true (by omega)
          have hk31 : (k : Int) < 30 := by omega
          have hk32 : k < 30 := by omega
          rcases HQ.out.2.2 with ⟨j, hj, hC⟩ | ⟨-, hE⟩
          · have hok := hC.ok HP.out.2.2.2.1
            have hps := mo_passes wr x cl r P P _ L HS.out.mach
            rw [hok.2.2.1] at hps
            have hs := lt_solo (G := 1) (T := P) (m := 8 * i + k) HS.out (fun _ h => h) (List.mem_singleton.2 rfl) hC HQ.out.1 HP.out.2.2.2.1 HP.out.2.1 ⟨HN.out.2.2.1, HN.out.2.1⟩ (by have h1 := HP.out; have h2 := HI.out; omega) HG.out.2.2.1 HG.out.2.2.2.1 HG.out.2.2.2.2.1 ⟨HP.out.2.2.2.2.1, HP.out.2.2.2.2.2.1⟩ HG.out.2.2.2.2.2 HQ.out.2.1 (by have h1 := HP.out; have h2 := HI.out; omega)
            have hj0 := hok.2.1
            have hii : ((i : Int) == (i : Int)) = true := by simp
            clear HS HQ hC hok
            go_wp2_with fail
            go_at_call 14; refine hps.mono ?_; rintro e w4 ⟨rfl, rfl⟩
            clear hps
            go_wp2_with fail
            go_at_call 20; refine hs.mono ?_; rintro e w6 ⟨rfl, L', t', s', g1, g2, g3, g4⟩
            have HS' : Hid _ := g1
            have hk8 : k + 1 ≤ 7 := by omega
            have HE : Hid (LtW P p0 now tn s' ∧ Low s' ((8 * i + (k + 1) : Nat) : Int) ∧ ((∃ j, k + 1 + j ≤ 7 ∧ LtC P p0 x0 now tn i g s' t' j) ∨ (k + 1 ≤ 7 ∧ LtE p0 x0 tn i g s' t'))) := ⟨g2, g4, by
              rcases g3 with ⟨j', h1, h2⟩ | h2
              · exact .inl ⟨j', by omega, h2⟩
              · exact .inr ⟨by omega, h2⟩⟩
            clear hs g1 g2 g3 g4
            go_wp2_with fail
            go_roundw
            case rel => exact ⟨k + 1, t', s', L', hk8, by go_num, HS', HE⟩
            case measure => simp [intOf]; omega
          · have hps := mo_passes wr x cl r P P _ L HS.out.mach
            rw [hE.2.2.1] at hps
            have hps2 := hps
            have hii : (((i + 1 : Nat) : Int) == (i : Int)) = false := by simp; omega
            have hjj : (((i + 1 : Nat) : Int) != ((i + 1 : Nat) : Int)) = false := by simp
            have hi1 : wrap64 ((i : Int) + 1) = ((i + 1 : Nat) : Int) := by have := HP.out; unfold wrap64; omega
            obtain ⟨w6, hw6⟩ : ∃ w6, s.f (20 + 264 * p0 + 6) = w6 := ⟨_, rfl⟩
            obtain ⟨zb, hzb⟩ : ∃ zb, decide (10 ≤ gi) = zb := ⟨_, rfl⟩
            have hw6b : (w6 != 0) = zb := by
              have hgi := HG.out.1
              rw [← hzb, ← hw6]
              rcases hE.2.2.2.2 with ⟨h1, h2⟩ | ⟨h1, h2⟩
              · rw [h1, decide_eq_false (by omega)]; rfl
              · rw [h1, decide_eq_true (by omega)]; rfl
            have hzz : (zb != zb) = false := by simp
            have hpk := peek_any wr A cap c b n s (lp 6) HS.out.mem HN.out.2.1
            have hpkv : peekT n s (lp 6) = w6 := by
              have h1 := HLP.out 6 (by omega)
              have h2 := HP.out
              have h3 := HN.out
              unfold peekT
              rw [h1, if_pos (by omega), show ((20 : Int) + 264 * p0 + 6).toNat = 20 + 264 * p0 + 6 by omega, hw6]
            rw [hpkv] at hpk
            generalize decide (0 ≤ lp 6 ∧ lp 6 < (n : Int)) = zq at hpk
            obtain ⟨fb, foff, rfl, hfb, hcell⟩ := HPB.out (by have := HI.out; omega)
            have hk1 : (i : Int) < (mp : Int) := by have := HI.out; omega
            have hk0 : (0 : Int) ≤ (i : Int) := by omega
            obtain ⟨bt, hbt⟩ : ∃ bt, pk i = bt := ⟨_, rfl⟩
            have hb255 : bt ≤ 255 := by rw [← hbt]; exact (hcell i HI.out).2
            have HBT : Hid (bt ≤ 255) := hb255
            have HPZ : Hid (∀ W, Below w.heap.size w W → W.cell? ⟨fb, foff + i, none⟩ = some (.int .u8 (bt : Int))) := fun W hW => by
              rw [← hbt]
              exact (hW.cell (p := ⟨fb, foff + i, none⟩) hfb).trans (hcell i HI.out).1
            have c1 : IntKind.u64.wrap (bt : Int) = (bt : Int) := wrap_u64 (by omega)
            have c2 : IntKind.i64.wrap (bt : Int) = (bt : Int) := by simp [IntKind.wrap, IntKind.bits, IntKind.signed]; omega
            obtain ⟨g2, hg2⟩ : ∃ g2 : Int, gi + (bt : Int) = g2 := ⟨_, rfl⟩
            have c3 : wrap64 (gi + (bt : Int)) = g2 := by
              have h1 := HG.out.1
              have h2 := HG.out.2.1
              have h3 := HI.out
              have h4 := HP.out.2.2.1
              rw [← hg2]; unfold wrap64; omega
            have pz := HPZ.out wr HS.out.below
            have hadd := add_any wr A cap c b n s 9 18 (bt : Int) HS.out.mem HN.out.2.1 (HQ.out.2.1.more (by have h1 := HP.out; have h2 := HI.out; omega)) (by omega)
            have HSW : Hid (Solo (moI P cl r P) (Rd.lay cl P P 1) w wr A cap c b n s x t L) := HS.out
            have HEE : Hid (LtE p0 x0 tn i g s t ∧ LtW P p0 now tn s ∧ Low s ((8 * i + 7 : Nat) : Int)) := ⟨hE, HQ.out.1, HQ.out.2.1.more (by omega)⟩
            have HG2 : Hid (gi + (bt : Int) = g2) := hg2
            have hprc := HPr.out 6 (by omega) wr
            clear HS HQ hE hw6 hpkv hcell hb255 hbt hg2
            go_wp2_with fail
            go_at_call 14; refine hps.mono ?_; rintro e w4 ⟨rfl, rfl⟩
            clear hps
            go_wp2_with fail
            go_at_call 25; refine hprc.mono ?_; rintro e w4 ⟨rfl, rfl⟩
            clear hprc
            go_wp2_with fail
            go_at_call 26; refine hpk.mono ?_; rintro e w4 ⟨rfl, rfl⟩
            clear hpk
            go_wp2_with fail
            go_at_call 14; refine hps2.mono ?_; rintro e w4 ⟨rfl, rfl⟩
            clear hps2
            go_wp2_with fail
            go_at_call 27; refine hadd.mono ?_; rintro e w5 ⟨rfl, hI5, hB5⟩
            have HS5 : Hid (Solo (moI P cl r P) (Rd.lay cl P P 1) w w5 A cap c b n (stp 4 9 18 0 (bt : Int) n s) x t L) := HSW.out.other (M := ⟨fun _ => none, fun t _ => t⟩) (moI_good P cl r P) hI5 hB5
            have pz5 := HPZ.out w5 HS5.out.below
            have HEND : Hid (∃ (now2 : Int) (gg : Nat), (g2 = gg ∧ gg ≤ 255 * (i + 1) ∧ (i + 1 = 0 → gg = 0) ∧ (now2 - x0) % 4294967296 = gg ∧ (gg = 0 → now2 = x0) ∧ 0 ≤ now2 ∧ now2 ≤ 4294967295) ∧ LtW P p0 now2 tn (stp 4 9 18 0 (bt : Int) n s) ∧ LtC P p0 x0 now2 tn (i + 1) gg (stp 4 9 18 0 (bt : Int) n s) t (P + 3) ∧ Low (stp 4 9 18 0 (bt : Int) n s) ((8 * (i + 1) : Nat) : Int)) := by
              obtain ⟨e1, e2⟩ := id_stp4 (bt : Int) n s HN.out.2.2.2.2
              obtain ⟨⟨f1, f2, f3, f4, f5⟩, fW, fL⟩ := HEE.out
              obtain ⟨h1, h2, h3, h4, h5, h6, h7⟩ := HG.out
              have h8 := HG2.out
              have h9 := HP.out
              have h10 := HI.out
              have h11 := HBT.out
              refine ⟨(now + bt) % 4294967296, g + bt, ⟨by omega, by omega, fun h => absurd h (by omega), by omega, fun h => by have := h5 (by omega); omega, by omega, by omega⟩, ⟨?_, fun q hq => ?_, ?_, e2.trans fW.bad⟩, ?_, (stp_low fL _ _ _ _ _ _).more (by omega)⟩
              · rw [e1, upd_self, fW.now]
              · rw [e1, upd_ne _ _ (by omega)]; exact fW.st q hq
              · rw [e1, upd_ne _ _ (by omega)]; exact fW.tn
              · obtain ⟨ph, d⟩ := t
                obtain rfl : ph = .nw := f1
                refine LtC.nw d f2 f3 (.inr f4) ?_
                unfold LtPre
                rw [e1, upd_ne _ _ (by omega)]
                rcases f5 with ⟨k1, k2⟩ | ⟨k1, k2⟩
                · exact .inl k1
                · exact .inr ⟨k1, by omega⟩
            have hi2 : i + 1 ≤ mp := by have := HI.out; omega
            clear hadd hI5 hB5 HSW HEE
            go_wp2_with fail
            go_roundw
            case rel =>
              obtain ⟨now2, gg, e1, e2⟩ := HEND.out
              exact ⟨_, _, _, _, g2, now2, i + 1, gg, t, _, L, rfl, rfl, rfl, rfl, hi2, by first | rfl | rw [c3], by go_num, e1, HS5, e2⟩
            case measure => simp [intOf]; omega
      · obtain rfl : i = mp := by omega
        have hgd : decide ((i : Int) < (i : Int)) = false := by simp
        have HBD : Hid (∀ Y, Below wr.heap.size wr Y → Calls Tryz.prog 28 #[.pointer (some ⟨c, 0, none⟩)] Y fun e w' => e = .returned (.int .i64 0) ∧ Y = w') := fun Y hY => by
          have h := bad_any Y A cap c b n s (HS.out.mem.below hY)
          rw [HQ.out.1.bad] at h
          exact h
        have HBF : Hid (Below w.heap.size w wr) := HS.out.below
        clear HS HQ
        go_wp2_with fail
        go_at_call 8; refine (mon_awake _).mono ?_; rintro e w4 ⟨rfl, h4⟩
        have hbd := HBD.out w4 h4
        have HF4 : Hid (Below w.heap.size w w4) := seq HBF.out h4
        clear HBD HBF h4
        go_wp2_with fail
        go_at_call 28; refine hbd.mono ?_; rintro e w5 ⟨rfl, rfl⟩
        clear hbd
        go_wp2_with fail
        go_ret
        exact ⟨rfl, HF4.out⟩
theorem monLate_walk (P : Int) (x0 x1 : Nat) (E : Option Addr) (mp cq : Nat) (pk : Nat → Nat) (w : World) (hmp : mp ≤ 9223372036854775807) (h0 : x0 ≤ 4294967295) (h1 : x1 ≤ 4294967295) (hB : SeesB8 w w.heap.size E mp pk) :
    Calls Tryz.prog 4 #[.int .i64 P, .agg #[.int .u32 x0, .int .u32 x1], .slice E mp cq] w fun e w' => e = .returned (.bool true) ∧ Below w.heap.size w w' := by
  by_cases h : P < 1 ∨ 4 < P ∨ 60 < mp
  · exact monLate_bad P x0 x1 E mp cq w hmp h
  · obtain ⟨Q, rfl⟩ := Int.eq_ofNat_of_zero_le (show 0 ≤ P by omega)
    exact monLate_ok Q x0 x1 E mp cq pk w (by omega) (by omega) h0 h1 hB
end Go.Proofs.YthjfbknmdligeaaGreat
