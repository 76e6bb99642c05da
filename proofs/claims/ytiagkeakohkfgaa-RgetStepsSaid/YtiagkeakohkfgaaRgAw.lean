/- rget: the page's example. -/
import Derived.Test.YtiagkeakohkfgaaIter
import Derived.Test.YtiagkeakohkfgaaRg2
import Derived.Test.YtiagkeakohkfgaaIntsR
namespace Go.Proofs.Ytiagkeakohkfgaa
open Go Go.RowKit Go.Maps
set_option linter.unusedVariables false
set_option maxRecDepth 100000
set_option linter.unusedSimpArgs false

def raA (i : Nat) : Int := if i = 0 then 22 else if i = 1 then 23 else if i = 2 then 28 else 29
def raV (i : Nat) : Int := if i = 0 then 2 else if i = 1 then 4 else if i = 2 then 2 else 3
def raM (fr : Bool) : PM RgT := rgPM 1 0 fr
def raAt (fr : Bool) : Nat → St
  | 0 => fresh (putF raA raV 295 4)
  | i + 1 => ((raM fr).steps 0 295 9 (rgS fr, raAt fr i)).2
def raT (fr : Bool) (j : Nat) : RgT := ((raM fr).steps 0 295 9 (rgS fr, raAt fr j)).1
def raW (fr : Bool) : List Int := if fr then [1, 2, 3, -1] else [3, 1, 2, -1]
theorem raW_len (fr : Bool) : (raW fr).length = 4 := by cases fr <;> rfl
theorem raT_obs : ∀ (fr : Bool) (j : Nat), j < 4 → (raW fr).take (j + 1) = (raW fr).take j ++ [(raT fr j).obs] := by
  intro fr j hj
  rcases (by omega : j = 0 ∨ j = 1 ∨ j = 2 ∨ j = 3) with rfl | rfl | rfl | rfl <;> cases fr <;> decide +kernel
theorem raAt_low (fr : Bool) : ∀ j, Low (raAt fr j) (9 * j)
  | 0 => low_fresh _
  | j + 1 => (PM.steps_low (raM fr) 0 295 9 (rgS fr, raAt fr j) (raAt_low fr j)).more (by omega)

section
variable {σ : Type} {I : MI σ} {M : PM σ} {R Rm : Rd} {W0 w w' : World} {A : Option Addr} {cap c b n : Nat} {s : St} {x : Nat} {t : σ} {L : List Nat}
theorem Solo.step' (hG : I.Good M) {F : Nat} {who : Int} (hS : Steps M I Rm F who) (hRm : ∀ w, R.P w → Rm.P w) (hRb : ∀ k ∈ Rm.B, k ∈ R.B) (h : Solo I R W0 w A cap c b n s x t L) (hn : n ≤ 1000000) (hl : Low s 1000000) :
    Calls Try.prog F #[.pointer (some ⟨x, 0, none⟩), .pointer (some ⟨c, 0, none⟩)] w fun e w' => (e = .returned (.bool (M.ax (M.goT n t s)).isNone)) ∧ w.heap.size ≤ w'.heap.size ∧ ∃ L', Solo I R W0 w' A cap c b n (M.goS who n t s) x (M.goT n t s) L' := by
  refine (hS w A cap c b n s x t L h.mach (hRm w h.rd) h.mem hn hl (fun k hk => ⟨(h.far k hk).1, (h.far k hk).2.1, fun hr => (h.far k hk).2.2 (hRb k hr)⟩) ⟨fun hr => h.rfar.1 (hRb c hr), fun hr => h.rfar.2 (hRb b hr)⟩).mono ?_
  rintro e w' ⟨rfl, L', a1, a2, a3, a4⟩
  have hsz := h.below.size
  have k1 := h.mem.lt
  have k2 := h.mem.bl
  refine ⟨rfl, a3.size, L', a2, a1, R.keep _ _ _ h.rd a3 (fun k hk => ?_), fun k hk => ?_, h.rfar, ⟨h.up.1, h.up.2.1, fun k hk => ?_⟩, fun k hk => Nat.lt_of_lt_of_le (h.rlt k hk) a3.size, h.below.trans (a3.below ?_ hsz)⟩
  · simp only [List.mem_cons, not_or]
    exact ⟨fun e => h.rfar.1 (e ▸ hk), fun e => h.rfar.2 (e ▸ hk), fun hm => (h.far k hm).2.2 hk⟩
  · rcases a4 k hk with h1 | h1
    · exact h.far k h1
    · exact ⟨by omega, by omega, fun hr => by have := h.rlt k hr; omega⟩
  · rcases a4 k hk with h1 | h1
    · exact h.up.2.2 k h1
    · omega
  · intro k hk
    simp only [List.mem_cons] at hk
    rcases hk with rfl | rfl | hk
    · exact h.up.1
    · exact h.up.2.1
    · exact h.up.2.2 k hk
end
set_option maxHeartbeats 4000000 in
theorem drained_any (w : World) (fr : Bool) : Calls Try.prog 88 #[.bool fr] w fun e w' => ∃ v, e = .returned v ∧ RI.SeesL w' v (raW fr) ∧ Below w.heap.size w w' := by
  obtain ⟨i0, hi, hz0, hz1, hz2⟩ := info_parts RI.lists_info3
  have HL0 : Hid (∀ (E : Option Addr) (W : World), SeesP W W.heap.size E 4 raA raV → Calls Try.prog 19 #[.agg #[.int .i64 1, .int .i64 1, .int .i64 4, .slice E (4 : Nat) 4]] W fun e w' => ∃ (cl : Nat) (A A' : Option Addr) (cap cap' c b c' b' : Nat), e = .returned (.tuple #[.pointer (some ⟨cl, 0, none⟩), .pointer (some ⟨c, 0, none⟩), .pointer (some ⟨c', 0, none⟩), .bool true]) ∧ Laid W w' 1 1 4 295 (putF raA raV 295 4) cl A A' cap cap' c b c' b') := fun E W hs =>
    lay_some 1 1 4 E 4 4 295 raA raV W (by omega) ⟨⟨by omega⟩, by omega, by omega, by omega⟩ (by omega) hs (fun i hi => by rcases (by omega : i = 0 ∨ i = 1 ∨ i = 2 ∨ i = 3) with rfl | rfl | rfl | rfl <;> exact ⟨by decide, by decide⟩)
  have HLM : Hid (∀ cl, (rgFl 0 cl 0 fr).Laws (raM fr) (Rd.lay cl 1 1 4) 0) := fun cl => rg_laws 0 1 1 4 0 fr cl (by omega)
  have HW4 : Hid ((raW fr).length = 4) := raW_len fr
  have hb0 : Below w.heap.size w (w.alloc (.cells #[.int .i64 22, .int .u64 2, .int .i64 23, .int .u64 4, .int .i64 28, .int .u64 2, .int .i64 29, .int .u64 3] 98)) := (Below.refl _ _).alloc (Nat.le_refl _) _
  have hX := Blk.new w #[.int .i64 22, .int .u64 2, .int .i64 23, .int .u64 4, .int .i64 28, .int .u64 2, .int .i64 29, .int .u64 3] 98
  have hL := HL0.out (some ⟨w.heap.size, 0, none⟩) _ (fun _ => ⟨w.heap.size, 0, rfl, hX.lt, fun j hj => by
    rcases (by omega : j = 0 ∨ j = 1 ∨ j = 2 ∨ j = 3) with rfl | rfl | rfl | rfl
    · exact ⟨hX.cell 0 rfl, hX.cell 1 rfl⟩
    · exact ⟨hX.cell 2 rfl, hX.cell 3 rfl⟩
    · exact ⟨hX.cell 4 rfl, hX.cell 5 rfl⟩
    · exact ⟨hX.cell 6 rfl, hX.cell 7 rfl⟩⟩)
  have HB0 : Hid (Below w.heap.size w (w.alloc (.cells #[.int .i64 22, .int .u64 2, .int .i64 23, .int .u64 4, .int .i64 28, .int .u64 2, .int .i64 29, .int .u64 3] 98))) := hb0
  clear HL0 hX hb0
  go_enter Try.func88, Try.ntmps88
  go_wp2_with fail
  generalize w.alloc (.cells #[.int .i64 22, .int .u64 2, .int .i64 23, .int .u64 4, .int .i64 28, .int .u64 2, .int .i64 29, .int .u64 3] 98) = W at *
  go_at_call 19; refine hL.mono ?_; rintro e w1 ⟨cl, A, A', cap, cap', c, b, c', b', rfl, hLd⟩
  have hszW := HB0.out.size
  have HB1 : Hid (Below w.heap.size w w1) := HB0.out.trans (hLd.below.mono hszW)
  have HI0 : Hid (Is w1 107 A cap c b 295 (raAt fr 0)) := hLd.two.m
  have HY0 : Hid (Lay w1 cl 1 1 4) := hLd.lay
  have hne : Hid (cl ≠ c ∧ cl ≠ b) := lay_ne hLd.lay (by decide) hLd.two.m (by omega)
  have hup : Hid (w.heap.size ≤ c ∧ w.heap.size ≤ b) := ⟨by have := hLd.up.2.1; omega, by have := hLd.up.2.2.1; omega⟩
  have hlo : Hid (c < w1.heap.size ∧ b < w1.heap.size ∧ cl < w1.heap.size) := ⟨hLd.two.m.lt, hLd.two.m.bl, hLd.lay.lt⟩
  have HR0 : Hid (RI.IntsOn w1 w1.heap.size (.slice none 0 0) ((raW fr).take 0)) := ⟨World.ownsRow_nil _ _ _ _⟩
  have HBS : Hid (w.heap.size ≤ w1.heap.size) := HB1.out.size
  generalize hbb : w1.heap.size = B0 at HR0 hlo HBS
  have HBB : Hid (B0 ≤ w1.heap.size) := (by omega : B0 ≤ w1.heap.size)
  clear hL hLd HB0 hszW hbb
  go_wp2_with fail
  go_loopw [7, 8] (fun vv i wr => ∃ (j : Nat) (v : Value), v = vv ∧ j ≤ 4 ∧ i = .int .i64 j ∧ Hid (Is wr 107 A cap c b 295 (raAt fr j)) ∧ Hid (Lay wr cl 1 1 4) ∧ Hid (Below w.heap.size w wr) ∧ Hid (RI.IntsOn wr B0 v ((raW fr).take j)) ∧ Hid (B0 ≤ wr.heap.size)) (fun v i _ => 4 - (intOf i).toNat)
  case atStart => exact ⟨0, _, rfl, by omega, rfl, HI0, HY0, HB1, HR0, HBB⟩
  case round =>
    clear HI0 HY0 HB1 HR0 HBB
    obtain ⟨j, v, rfl, hj, rfl, HI, HY, HB, HV, HBB⟩ := hrel
    by_cases hlt : j < 4
    · have hN := rg_new wr cl 0 0 1 1 4 fr HY.out (by omega)
      have hk1 : (j : Int) < 4 := by omega
      have hk0 : (0 : Int) ≤ (j : Int) := by omega
      go_wp2_with fail
      go_at_call 41; refine hN.mono ?_; rintro e w3 ⟨x, L0, rfl, hi0, hb3, hu1⟩
      have HLA := HLM.out cl
      have HUP : Hid (∀ k ∈ rowB v, B0 ≤ k ∧ k < wr.heap.size) := HV.out.up
      have HS0 : Hid (Solo ((rgFl 0 cl 0 fr).I (raM fr)) ((Rd.lay cl 1 1 4).and (Rd.ints B0 v ((raW fr).take j))) w w3 A cap c b 295 ((raM fr).steps 0 295 0 (rgS fr, raAt fr j)).2 x ((raM fr).steps 0 295 0 (rgS fr, raAt fr j)).1 L0) := Solo.begin HI.out hb3 HB.out hup.out hi0 hu1 ⟨HY.out, HV.out⟩ (fun k hk => by
        rcases List.mem_append.1 hk with hk | hk
        · have : k = cl := List.mem_singleton.1 hk
          rw [this]; exact HY.out.lt
        · exact (HUP.out k hk).2) ⟨fun hm => by
          rcases List.mem_append.1 hm with hm | hm
          · exact hne.out.1 (List.mem_singleton.1 hm).symm
          · have h1 := (HUP.out _ hm).1; have h2 := hlo.out; omega, fun hm => by
          rcases List.mem_append.1 hm with hm | hm
          · exact hne.out.2 (List.mem_singleton.1 hm).symm
          · have h1 := (HUP.out _ hm).1; have h2 := hlo.out; omega⟩
      have hG : Hid (((rgFl 0 cl 0 fr).I (raM fr)).Good (raM fr) ∧ Steps (raM fr) ((rgFl 0 cl 0 fr).I (raM fr)) (Rd.lay cl 1 1 4) 48 0) := ⟨Fl.good HLA, Fl.steps HLA stepby_rget⟩
      have HLO : Hid (∀ q : Nat, q ≤ 9 → Low ((raM fr).steps 0 295 q (rgS fr, raAt fr j)).2 1000000) := fun q hq => (PM.steps_low (raM fr) 0 295 q (rgS fr, raAt fr j) (raAt_low fr j)).more (by omega)
      have HB3 : Hid (B0 ≤ w3.heap.size) := Nat.le_trans HBB.out hb3.size
      clear hN hi0 hb3 hu1 HI HY HB HLA HV HBB HUP
      go_wp2_with fail
      go_loopw [10] (fun k wi => ∃ (q : Nat) (L : List Nat), q ≤ 9 ∧ k = .int .i64 q ∧ Hid (Solo ((rgFl 0 cl 0 fr).I (raM fr)) ((Rd.lay cl 1 1 4).and (Rd.ints B0 v ((raW fr).take j))) w wi A cap c b 295 ((raM fr).steps 0 295 q (rgS fr, raAt fr j)).2 x ((raM fr).steps 0 295 q (rgS fr, raAt fr j)).1 L) ∧ Hid (B0 ≤ wi.heap.size)) (fun k _ => 9 - (intOf k).toNat)
      case atStart => exact ⟨0, L0, by omega, rfl, HS0, HB3⟩
      case round =>
        clear HS0 HB3
        obtain ⟨q, L, hq, rfl, HS, HBB⟩ := hrel
        by_cases hq9 : q < 9
        · have hSt := HS.out.step' hG.out.1 hG.out.2 (fun Y (h : ((Rd.lay cl 1 1 4).and (Rd.ints B0 v ((raW fr).take j))).P Y) => h.1) (fun k hk => List.mem_append_left _ hk) (by omega) (HLO.out q hq)
          rw [show (raM fr).goS 0 295 ((raM fr).steps 0 295 q (rgS fr, raAt fr j)).1 ((raM fr).steps 0 295 q (rgS fr, raAt fr j)).2 = ((raM fr).steps 0 295 (q + 1) (rgS fr, raAt fr j)).2 by rw [PM.steps_succ], show (raM fr).goT 295 ((raM fr).steps 0 295 q (rgS fr, raAt fr j)).1 ((raM fr).steps 0 295 q (rgS fr, raAt fr j)).2 = ((raM fr).steps 0 295 (q + 1) (rgS fr, raAt fr j)).1 by rw [PM.steps_succ]] at hSt
          have hq1 : (q : Int) < 9 := by omega
          have hq0 : (0 : Int) ≤ (q : Int) := by omega
          have HUP : Hid (∀ k ∈ rowB v, B0 ≤ k) := fun k hk => ((HS.out.rd.2 : RI.IntsOn _ B0 v _).up k hk).1
          clear HS
          go_wp2_with fail
          go_at_call 48; refine hSt.mono ?_; rintro e w4 ⟨rfl, hsz', L', hS'⟩
          have HS' : Hid _ := hS'
          have HBB' : Hid (B0 ≤ w4.heap.size) := Nat.le_trans HBB.out hsz'
          clear hSt hS'
          go_wp2_with fail
          go_roundw
          case rel => exact ⟨q + 1, L', by omega, by go_num, HS', HBB'⟩
          case measure => simp [intOf]; omega
        · obtain rfl : q = 9 := by omega
          have HT : Hid ((raW fr).take (j + 1) = (raW fr).take j ++ [(raT fr j).obs]) := raT_obs fr j hlt
          have hGv := rg_g HS.out.mach
          rw [show ((raM fr).steps 0 295 9 (rgS fr, raAt fr j)).1.obs = (raT fr j).obs from rfl] at hGv
          have HO : Hid (RI.IntsOn _ B0 v ((raW fr).take j)) := HS.out.rd.2
          have hOO := HO.out.own
          have hln : ((raW fr).take j).length = j := by rw [List.length_take, HW4.out]; omega
          have HLN : Hid _ := hln
          rw [hln] at hOO
          have HF : Hid _ := HS.out
          generalize (raT fr j).obs = gv at *
          clear HS hln
          go_wp2_with fail
          go_at_call 45; refine hGv.mono ?_; rintro e w4 ⟨rfl, rfl⟩
          go_wp2_with (at_builtin; refine wpList_append_own _ rfl _ _ 62 rfl B0 3 i0 (.int .i64 0) 1 8 Try.underlying62 hi hz0 hz1 hz2 rfl (by decide) _ _ _ rfl (hOO.alloc _) ⟨wr.heap.size, 0, none⟩ 1 1 [.int .i64 gv] rfl rfl (cell_one_new _ _ _) (ints_oneCell .i64 [gv]) (by unfold maxLen; omega) (by omega) (by have := HBB.out; simp; omega) ?_; intro v' w5 hown' hgrow2 hnil2)
          have hBu : But (rowB v) wr w5 := ((But.refl _ _).alloc _).grown hgrow2 (fun k hk => .inl (rowB_mem hk))
          have hUP := HO.out.up
          have HI5 : Hid (Is w5 107 A cap c b 295 (raAt fr (j + 1))) := HF.out.mem.but hBu (fun hm => HF.out.rfar.1 (List.mem_append_right _ hm)) (fun hm => HF.out.rfar.2 (List.mem_append_right _ hm))
          have HY5 : Hid (Lay w5 cl 1 1 4) := (hBu.block cl (HF.out.rd.1 : Lay wr cl 1 1 4).lt (fun hm => by have h1 := (hUP _ hm).1; have h2 := hlo.out; omega)).trans (HF.out.rd.1 : Lay wr cl 1 1 4)
          have HB5 : Hid (Below w.heap.size w w5) := HF.out.below.trans (hBu.below (fun k hk => by have h1 := (hUP _ hk).1; have := HBS.out; omega) HF.out.below.size)
          have HBB5 : Hid (B0 ≤ w5.heap.size) := Nat.le_trans HBB.out hBu.size
          have HV5 : Hid (RI.IntsOn w5 B0 v' ((raW fr).take (j + 1))) := ⟨by
            rw [HT.out, List.map_append, List.length_append, HLN.out]
            exact hown'⟩
          clear hown' hgrow2 hnil2 hBu hUP hOO HO HF
          go_wp2_with fail
          go_roundw
          case rel => exact ⟨j + 1, v', rfl, by omega, by go_num, HI5, HY5, HB5, HV5, HBB5⟩
          case measure => simp [intOf]; omega
    · obtain rfl : j = 4 := by omega
      have HF : Hid (RI.SeesL wr v (raW fr)) := by
        have := HV.out.sees
        rw [List.take_of_length_le (by rw [HW4.out]; omega)] at this
        exact this
      have HBF : Hid _ := HB.out
      clear HI HY HV HB
      go_wp2_with fail
      go_ret
      exact ⟨v, rfl, HF.out, HBF.out⟩
/-- A list that is spelled out. -/
theorem lit4_sees (w : World) (a b c d : Int) : RI.SeesL (w.alloc (.cells #[.int .i64 a, .int .i64 b, .int .i64 c, .int .i64 d] 3)) (.slice (some ⟨w.heap.size, 0, none⟩) 4 4) [a, b, c, d] := by
  have hX := Blk.new w #[.int .i64 a, .int .i64 b, .int .i64 c, .int .i64 d] 3
  refine ⟨_, 4, rfl, (fun h => by cases h), fun _ => ⟨w.heap.size, 0, rfl, hX.lt, fun j hj => ?_⟩⟩
  have hj4 : j < 4 := hj
  rcases (by omega : j = 0 ∨ j = 1 ∨ j = 2 ∨ j = 3) with rfl | rfl | rfl | rfl
  · exact hX.cell 0 rfl
  · exact hX.cell 1 rfl
  · exact hX.cell 2 rfl
  · exact hX.cell 3 rfl
set_option maxHeartbeats 4000000 in
theorem rget_awake (w : World) : Calls Try.prog 40 #[] w fun e w' => e = .returned (.bool true) ∧ Below w.heap.size w w' := by
  have hD := drained_any w false
  go_enter Try.func40, Try.ntmps40
  go_wp2_with fail
  go_at_call 88; refine hD.mono ?_; rintro e w1 ⟨v1, rfl, hs1, hb1⟩
  have HB1 : Hid (Below w.heap.size w w1) := hb1
  have hS1 := RI.lsame_any (w1.alloc (.cells #[.int .i64 3, .int .i64 1, .int .i64 2, .int .i64 (-1)] 3)) v1 _ (raW false) (by decide) (hs1.below ((Below.refl _ _).alloc (Nat.le_refl _) _)) (lit4_sees w1 3 1 2 (-1))
  have HA1 : Hid (Below w1.heap.size w1 (w1.alloc (.cells #[.int .i64 3, .int .i64 1, .int .i64 2, .int .i64 (-1)] 3))) := (Below.refl _ _).alloc (Nat.le_refl _) _
  clear hD hs1 hb1
  go_wp2_with fail
  go_at_call 39; refine hS1.mono ?_; rintro e w2 ⟨rfl, hb2⟩
  have HB2 : Hid (Below w.heap.size w w2) := seq (seq HB1.out HA1.out) hb2
  have hD := drained_any w2 true
  clear hS1 HA1 HB1 hb2
  go_wp2_with fail
  go_at_call 88; refine hD.mono ?_; rintro e w3 ⟨v3, rfl, hs3, hb3⟩
  have HB3 : Hid (Below w.heap.size w w3) := seq HB2.out hb3
  have hS3 := RI.lsame_any (w3.alloc (.cells #[.int .i64 1, .int .i64 2, .int .i64 3, .int .i64 (-1)] 3)) v3 _ (raW true) (by decide) (hs3.below ((Below.refl _ _).alloc (Nat.le_refl _) _)) (lit4_sees w3 1 2 3 (-1))
  have HA3 : Hid (Below w3.heap.size w3 (w3.alloc (.cells #[.int .i64 1, .int .i64 2, .int .i64 3, .int .i64 (-1)] 3))) := (Below.refl _ _).alloc (Nat.le_refl _) _
  clear hD hs3 hb3 HB2
  go_wp2_with fail
  go_at_call 39; refine hS3.mono ?_; rintro e w4 ⟨rfl, hb4⟩
  have HB4 : Hid (Below w.heap.size w w4) := seq (seq HB3.out HA3.out) hb4
  clear hS3 HA3 HB3 hb4
  go_wp2_with fail
  go_ret
  exact ⟨rfl, HB4.out⟩
end Go.Proofs.Ytiagkeakohkfgaa
