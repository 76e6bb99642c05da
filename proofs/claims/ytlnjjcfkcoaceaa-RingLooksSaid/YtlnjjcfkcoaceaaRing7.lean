/- The walk of the law RingLooks, where it goes on. -/
import Derived.Test.YtlnjjcfkcoaceaaRing6
namespace Go.Proofs.Ytlnjjcfkcoaceaa
open Go Go.RowKit
set_option linter.unusedVariables false
set_option maxRecDepth 100000
set_option linter.unusedSimpArgs false


theorem poke_begin2 {w w2 w3 : World} {A A' : Option Addr} {cap cap' c b c' b' n : Nat} {s : St} {L : List Nat} (hT : Two w2 A A' cap cap' c b c' b' n s) (hb : Below w2.heap.size w2 w3) (hB2 : Below w.heap.size w w2) (hup : w.heap.size ≤ c ∧ w.heap.size ≤ b ∧ w.heap.size ≤ c' ∧ w.heap.size ≤ b') (hL : ∀ k ∈ L, (k ≠ c ∧ k ≠ b ∧ k ≠ c' ∧ k ≠ b') ∧ k < w3.heap.size ∧ w.heap.size ≤ k) :
    PokeOn w w3 A A' cap cap' c b c' b' n s s none 0 0 (fun _ => 0) L :=
  ⟨hT.m.below hb, hT.r.below hb, hT.ne, ⟨World.ownsRow_nil _ _ _ _⟩, (fun k e => by cases e), (fun k e => by cases e), hL, hup, hB2.trans (hb.mono hB2.size)⟩

set_option maxHeartbeats 4000000 in
theorem ringLooks_ok (P T G x0 x1 : Int) (E F : Option Addr) (m cp mp cq : Nat) (a v : Nat → Int) (Pks : Nat → Pk) (w : World) (hm : m ≤ 400) (hF : FewC P T G) (hmp : mp ≤ 100) (hs : SeesP w w.heap.size E m a v) (hv : ∀ i, i < m → 0 ≤ v i ∧ v i ≤ 18446744073709551615) (hP : SeesC w w.heap.size F mp 6 (pkC Pks)) (hpv : ∀ j, j < mp → 0 ≤ (Pks j).v ∧ (Pks j).v ≤ 18446744073709551615) (hx1 : 0 ≤ x1 ∧ x1 < P) :
    Calls Try.prog 10 #[.agg #[.int .i64 P, .int .i64 T, .int .i64 G, .slice E m cp], .agg #[.int .i64 x0, .int .i64 x1], .slice F mp cq] w fun e w' => e = .returned (.bool true) ∧ Below w.heap.size w w' := by
  have hsz : ((w.alloc (.cells #[.int .i64 P, .int .i64 T, .int .i64 G, .slice E m cp] 71)).alloc (.cells #[.int .i64 x0, .int .i64 x1] 114)).heap.size = w.heap.size + 1 + 1 := by simp
  have HB : Hid (Below w.heap.size w ((w.alloc (.cells #[.int .i64 P, .int .i64 T, .int .i64 G, .slice E m cp] 71)).alloc (.cells #[.int .i64 x0, .int .i64 x1] 114))) := ((Below.refl _ _).alloc (Nat.le_refl _) _).alloc (by simp) _
  have hX : Hid (Blk ((w.alloc (.cells #[.int .i64 P, .int .i64 T, .int .i64 G, .slice E m cp] 71)).alloc (.cells #[.int .i64 x0, .int .i64 x1] 114)) (w.heap.size + 1) #[.int .i64 x0, .int .i64 x1] 114) := by
    have := Blk.new (w.alloc (.cells #[.int .i64 P, .int .i64 T, .int .i64 G, .slice E m cp] 71)) #[.int .i64 x0, .int .i64 x1] 114
    rwa [World.size_alloc] at this
  have hX0 : Hid (Blk ((w.alloc (.cells #[.int .i64 P, .int .i64 T, .int .i64 G, .slice E m cp] 71)).alloc (.cells #[.int .i64 x0, .int .i64 x1] 114)) w.heap.size #[.int .i64 P, .int .i64 T, .int .i64 G, .slice E m cp] 71) := (Blk.new w #[.int .i64 P, .int .i64 T, .int .i64 G, .slice E m cp] 71).al _
  have hM := hF.h.1.h
  have hP64 : 0 ≤ P ∧ P ≤ 64 := by omega
  obtain ⟨n, hn⟩ : ∃ n : Nat, (n : Int) = 20 + 264 * P + 3 * T + 2 * G := ⟨(20 + 264 * P + 3 * T + 2 * G).toNat, by omega⟩
  have hn0 : 0 < n := by omega
  have hn6 : n ≤ 1000000 := by have := hF.h; omega
  have hL := lay_some P T G E m cp n a v _ hm hF hn ((hs.up (.cells #[.int .i64 P, .int .i64 T, .int .i64 G, .slice E m cp] 71)).up (.cells #[.int .i64 x0, .int .i64 x1] 114)) hv
  have d1 : decide ((100 : Int) < (mp : Int)) = false := decide_eq_false (by omega)
  have d2 : decide (x1 < 0) = false := decide_eq_false (by omega)
  have d3 : decide (P ≤ x1) = false := decide_eq_false (by omega)
  have HP : Hid (SeesC w w.heap.size F mp 6 (pkC Pks)) := hP
  have HPV : Hid (∀ j, j < mp → 0 ≤ (Pks j).v ∧ (Pks j).v ≤ 18446744073709551615) := hpv
  have hNw := fun Y cl (h : Lay Y cl P T G) => look_new Y cl P T G x0 x1 h hP64
  have HRL : Hid (∀ Y x A' cap' m g, RunOn Y x A' cap' m g rn0 → m ≤ 4 → Calls Try.prog 64 #[.pointer (some ⟨x, 0, none⟩), .agg #[.int .i64 P, .int .i64 T, .int .i64 G], .int .i64 x1] Y fun e w' => e = .returned (.bool (lkV m g)) ∧ RunOn w' x A' cap' m g (lkRn P x1 m) ∧ But [x] Y w') := fun Y x A' cap' m g h hm => rlook_on Y x A' cap' m g h P T G x1 hx1 hP64.2 hm
  clear hs hv hn hF hM hP hpv hx1
  go_enter Try.func10, Try.ntmps10
  go_wp2_with fail
  generalize (w.alloc (.cells #[.int .i64 P, .int .i64 T, .int .i64 G, .slice E m cp] 71)).alloc (.cells #[.int .i64 x0, .int .i64 x1] 114) = W at *
  go_at_call 30; refine hL.mono ?_; rintro e w1 ⟨cl, A, A', cap, cap', c, b, c', b', rfl, hLd⟩
  have HL : Hid (Laid W w1 P T G n (putF a v n m) cl A A' cap cap' c b c' b') := hLd
  have HB1 : Hid (Below w.heap.size w w1) := HB.out.trans (hLd.below.mono (by omega))
  have hX1 := hX.out.but (But.of_below (l := []) hLd.below) (by simp)
  have y0 := hX1.cell 0 (v := .int .i64 x0) rfl
  have y1 := hX1.cell 1 (v := .int .i64 x1) rfl
  have hXA : Blk w1 w.heap.size #[.int .i64 P, .int .i64 T, .int .i64 G, .slice E m cp] 71 := hX0.out.but (But.of_below (l := []) hLd.below) (by simp)
  have z0 := hXA.cell 0 (v := .int .i64 P) rfl
  have HXA : Hid (Blk (w1.drewN 0) w.heap.size #[.int .i64 P, .int .i64 T, .int .i64 G, .slice E m cp] 71) := hXA.drewN 0
  have HXb : Hid (∀ k, Blk (w1.drewN k) w.heap.size #[.int .i64 P, .int .i64 T, .int .i64 G, .slice E m cp] 71) := fun k => hXA.drewN k
  clear hL hLd hX1 hXA HXA
  go_wp2_with fail
  go_quiet (fail)
  have hT1 : Hid (Two (w1.drewN nq) A A' cap cap' c b c' b' n (fresh (putF a v n m))) := HL.out.two.below (Below.drewN' (Below.refl _ _) nq)
  have HB2 : Hid (Below w.heap.size w (w1.drewN nq)) := Below.drewN' HB1.out nq
  have HLy2 : Hid (Lay (w1.drewN nq) cl P T G) := HL.out.lay
  have HX2 : Hid (Blk (w1.drewN nq) w.heap.size #[.int .i64 P, .int .i64 T, .int .i64 G, .slice E m cp] 71) := HXb.out nq
  obtain ⟨u1, u2, u3, u4, u5⟩ := HL.out.up
  have hup : Hid (w.heap.size ≤ c ∧ w.heap.size ≤ b ∧ w.heap.size ≤ c' ∧ w.heap.size ≤ b') := ⟨by omega, by omega, by omega, by omega⟩
  have hbx : w.heap.size ≠ c ∧ w.heap.size ≠ b ∧ w.heap.size ≠ c' ∧ w.heap.size ≠ b' ∧ w.heap.size ≠ cl := ⟨by omega, by omega, by omega, by omega, by omega⟩
  have hclup : w.heap.size ≤ cl := by omega
  generalize hw2 : w1.drewN nq = w2 at *
  have z2 := HX2.out.cell 0 (v := .int .i64 P) rfl
  clear HL HB1 HXb y0 y1 z0 u1 u2 u3 u4 u5 hw2 hX hX0 HB hsz
  have hne := lay_ne HLy2.out (by decide) hT1.out.m hn0
  have hne2 := lay_ne HLy2.out (by decide) hT1.out.r hn0
  have hN := hNw w2 cl HLy2.out
  go_wp2_with fail
  go_at_call 63; refine hN.mono ?_; rintro e w3 ⟨x, q, rfl, hr1, hr2, hb3, hu1, hu2⟩
  have HO0 : Hid (PokeOn w w3 A A' cap cap' c b c' b' n (fresh (putF a v n m)) (fresh (putF a v n m)) none 0 0 (fun _ => 0) [x, q, cl, w.heap.size]) := poke_begin2 hT1.out hb3 HB2.out hup.out (by
    have e1 := hr1.lt; have e2 := hr2.lt
    have e3 := hT1.out.m.lt; have e4 := hT1.out.m.bl; have e5 := hT1.out.r.lt; have e6 := hT1.out.r.bl
    have e7 := HB2.out.size; have e8 := HLy2.out.lt; have e9 := HX2.out.lt; have e10 := hb3.size
    obtain ⟨n1, n2⟩ := hne; obtain ⟨n3, n4⟩ := hne2; obtain ⟨n5, n6, n7, n8, n9⟩ := hbx
    intro k hk
    simp only [List.mem_cons, List.not_mem_nil, or_false] at hk
    rcases hk with rfl | rfl | rfl | rfl
    · clear n1 n2 n3 n4 n5 n6 n7 n8 n9; exact ⟨⟨by omega, by omega, by omega, by omega⟩, by omega, by omega⟩
    · clear n1 n2 n3 n4 n5 n6 n7 n8 n9; exact ⟨⟨by omega, by omega, by omega, by omega⟩, by omega, by omega⟩
    · exact ⟨⟨n1, n2, n3, n4⟩, Nat.lt_of_lt_of_le e8 e10, hclup⟩
    · exact ⟨⟨n5, n6, n7, n8⟩, Nat.lt_of_lt_of_le e9 e10, Nat.le_refl _⟩)
  have HM0 : Hid (Lk w3 x cl P x0 x1 q 0 0 0 0 false) := .s0 q hr1 hr2 (by omega)
  have HK0 : Hid (Lay w3 cl P T G ∧ Blk w3 w.heap.size #[.int .i64 P, .int .i64 T, .int .i64 G, .slice E m cp] 71) := ⟨HLy2.out.below hb3 HLy2.out.lt, HX2.out.but (But.of_below (l := []) hb3) (by simp)⟩
  have hxne : Hid (cl ≠ x ∧ w.heap.size ≠ x) := ⟨by have := HLy2.out.lt; omega, by have := HX2.out.lt; omega⟩
  clear hN hNw hr1 hr2 hb3 hu1 hu2 hT1 HB2 HX2 HLy2 z2
  go_wp2_with fail
  go_loopw [14, 15] (fun gv i wr => ∃ (k : Nat) (s : St) (Ag : Option Addr) (capg mg : Nat) (gf : Nat → Int) (q ph : Nat) (hd tl nt : Int) (em : Bool), k ≤ mp ∧ i = .int .i64 k ∧ gv = .slice Ag mg capg ∧ mg ≤ 4 ∧ Hid (PokeOn w wr A A' cap cap' c b c' b' n s s Ag capg mg gf [x, q, cl, w.heap.size]) ∧ Hid (Lk wr x cl P x0 x1 q ph hd tl nt em) ∧ Hid (Low s (k : Int)) ∧ Hid (LkGot mg ph gf hd tl nt em) ∧ Hid (Lay wr cl P T G ∧ Blk wr w.heap.size #[.int .i64 P, .int .i64 T, .int .i64 G, .slice E m cp] 71)) (fun _ i _ => mp - (intOf i).toNat)
  case atStart => exact ⟨0, _, none, 0, 0, _, q, 0, 0, 0, 0, false, Nat.zero_le _, rfl, rfl, by omega, HO0, HM0, (low_fresh _), ⟨rfl, by omega, fun h => by omega, fun h => by omega, fun h => by omega, rfl⟩, HK0⟩
  case round =>
    clear HO0 HM0 HK0
    obtain ⟨k, s, Ag, capg, mg, gf, q, ph, hd, tl, nt, em, hk, rfl, rfl, hmg, HO, HM, HLW, HG, HK⟩ := hrel
    by_cases hlt : k < mp
    · obtain ⟨fb, foff, rfl, hfb, hcell⟩ := HP.out (by omega)
      have hcw : Hid (∀ i u, (pkC Pks k)[i]? = some u → wr.cell? ⟨fb, foff + k * 6 + i, none⟩ = some u) := fun i u hu => (HO.out.below.cell (p := ⟨fb, foff + k * 6 + i, none⟩) hfb).trans (hcell k hlt i u hu)
      have pz := hcw.out 0 (.bool (Pks k).z) rfl
      have hk0 : (0 : Int) ≤ (k : Int) := Int.natCast_nonneg _
      have hk1 : (k : Int) < (mp : Int) := by omega
      clear hcell
      rw [Nat.add_zero] at pz
      cases hz : (Pks k).z
      · rw [hz] at pz
        have HRA : Hid (wr.rangeAt fb (foff + k * 6 + 1) [.int .i64 (Pks k).k, .int .i64 (Pks k).p, .int .i64 (Pks k).i, .int .u64 (Pks k).o, .int .u64 (Pks k).v]) := fun j u hu => by
          have := hcw.out (1 + j) u (by rw [show pkC Pks k = .bool (Pks k).z :: [.int .i64 (Pks k).k, .int .i64 (Pks k).p, .int .i64 (Pks k).i, .int .u64 (Pks k).o, .int .u64 (Pks k).v] from rfl, Nat.add_comm 1 j, List.getElem?_cons_succ]; exact hu)
          rw [← Nat.add_assoc] at this
          exact this
        clear hz hcw
        go_wp2_with (refine wpList_load_mid rfl 36 _ rfl fb (foff + k * 6 + 1) rfl [.int .i64 (Pks k).k, .int .i64 (Pks k).p, .int .i64 (Pks k).i, .int .u64 (Pks k).o, .int .u64 (Pks k).v] _ HRA.out Try.underlying36 rfl (by kernel_rfl) ?_)
        go_at_call 15; refine (HO.out.poke hn6 (HLW.out.more (by omega)) (Pks k).k (Pks k).p (Pks k).i (Pks k).o (Pks k).v (HPV.out k hlt)).mono ?_; rintro e w9 ⟨rfl, hO, hB⟩
        have HO9 : Hid _ := hO
        have hfar : ∀ z ∈ [x, q, cl, w.heap.size], z ∉ [c, b, c', b'] := fun z hz => by
          obtain ⟨h1, h2, h3, h4⟩ := (HO.out.far z hz).1
          simp [h1, h2, h3, h4]
        have HM9 : Hid (Lk w9 x cl P x0 x1 q ph hd tl nt em) := HM.out.but hB (hfar x (by simp)) (hfar q (by simp))
        have HK9 : Hid (Lay w9 cl P T G ∧ Blk w9 w.heap.size #[.int .i64 P, .int .i64 T, .int .i64 G, .slice E m cp] 71) := ⟨(hB.block cl HK.out.1.lt (hfar cl (by simp))).trans HK.out.1, HK.out.2.but hB (hfar _ (by simp))⟩
        have HLW9 : Hid (Low (actS (Pks k).k (Pks k).p (Pks k).i (Pks k).o (Pks k).v n s) (((k + 1 : Nat)) : Int)) := (actS_low HLW.out _ _ _ _ _ _).more (by omega)
        clear hO hB HO HM HRA pz hfar HK
        go_wp2_with fail
        go_roundw
        case rel => exact ⟨k + 1, _, Ag, capg, mg, gf, q, ph, hd, tl, nt, em, by omega, by go_num, rfl, hmg, HO9, HM9, HLW9, HG, HK9⟩
        case measure => simp [intOf]; omega
      · rw [hz] at pz
        clear hz hcw
        have hR0 : Hid (RunOn (wr.alloc (.cells (runL (.slice Ag mg capg) rn0).toArray 43)) wr.heap.size Ag capg mg gf rn0) := run_starts HO.out.got (by omega)
        have hb0 : Hid (Below wr.heap.size wr (wr.alloc (.cells (runL (.slice Ag mg capg) rn0).toArray 43))) := (Below.refl _ _).alloc (Nat.le_refl _) _
        have hRR := HRL.out _ _ Ag capg mg gf hR0.out hmg
        have y0 := HK.out.2.cell 0 (v := .int .i64 P) rfl
        have y1 := HK.out.2.cell 1 (v := .int .i64 T) rfl
        have y2 := HK.out.2.cell 2 (v := .int .i64 G) rfl
        have hbl := HK.out.2.lt
        have hemv : lkV mg gf = em := by obtain ⟨e1, -, -, -, -, e2⟩ := HG.out.h; rw [e1]; exact e2.symm
        have HPH : Hid (mg = ph) := HG.out.h.1
        rw [hemv] at hRR
        clear hemv
        go_wp2_with fail
        go_at_call 64; refine hRR.mono ?_; rintro e w4 ⟨rfl, hR4, hB4⟩
        have hb4 : Below wr.heap.size wr w4 := hb0.out.trans (hB4.below (by simp) (by simp))
        have HO4 : Hid (PokeOn w w4 A A' cap cap' c b c' b' n s s Ag capg mg gf [x, q, cl, w.heap.size]) := HO.out.still hb4
        have HM4 : Hid (Lk w4 x cl P x0 x1 q ph hd tl nt em) := HM.out.below hb4
        have HK4 : Hid (Lay w4 cl P T G ∧ Blk w4 w.heap.size #[.int .i64 P, .int .i64 T, .int .i64 G, .slice E m cp] 71) := ⟨HK.out.1.below hb4 HK.out.1.lt, HK.out.2.but (But.of_below (l := []) hb4) (by simp)⟩
        have HR4 : Hid (RunOn w4 wr.heap.size Ag capg mg gf (lkRn P x1 mg)) := hR4
        have hs4 : wr.heap.size < w4.heap.size := hR4.blk.lt
        have HTu : Hid (∀ w5, PokeOn w w5 A A' cap cap' c b c' b' n s s Ag capg mg gf [x, q, cl, w.heap.size] → _) := fun w5 h5 => lk_turn h5 hn6 (HLW.out.more (by omega)) hmg P x0 x1
        have hst : (lkRn P x1 mg).stop = decide (mg < 4) := by unfold lkRn; split <;> simp [*]
        have s2 := HR4.out.blk.cell 2 (v := .bool (decide (mg < 4))) (by rw [← hst]; rfl)
        generalize lkRn P x1 mg = R at *
        clear hRR hR4 hB4 hR0 hb0 hb4 HO HM pz HK y0 y1 y2 hbl hst
        have hdn : ∀ Y, Below w4.heap.size w4 Y → Calls Try.prog 65 #[.pointer (some ⟨x, 0, none⟩)] Y fun e w' => e = .returned (.bool (decide (mg = 4))) ∧ Y = w' := fun Y hY => by
          obtain ⟨nx, hx1, hx2⟩ := (HM4.out.below hY).main
          have := look_done Y x nx (hx1.cell 1 rfl)
          rw [hx2, ← HPH.out] at this
          exact this
        have HA : Hid (∀ Y, Below w4.heap.size w4 Y → Calls Try.prog 66 #[.pointer (some ⟨x, 0, none⟩)] Y fun e w' => e = .returned (.bool em) ∧ Y = w') := fun Y hY => by
          obtain ⟨nx, hx1, hx2⟩ := (HM4.out.below hY).main
          exact look_empty Y x em (hx1.cell 7 rfl)
        by_cases hm4 : mg < 4
        · rw [decide_eq_true hm4] at s2
          rw [decide_eq_false (show ¬ mg = 4 by omega)] at hdn
          have HD : Hid (∀ Y, _ → _) := hdn
          clear hdn
          have hem : em = false := by obtain ⟨e1, -, -, -, -, e2⟩ := HG.out.h; rw [e2, ← e1]; unfold lkV; rw [if_pos hm4]
          subst hem
          have hH : Hid (w4.drew.cell? ⟨wr.heap.size, 2, none⟩ = some (.bool true) ∧ Below w4.heap.size w4 w4.drew) := ⟨s2, (Below.refl _ _).drew⟩
          have KEEP : Hid (∀ X w' : World, (X.cell? ⟨wr.heap.size, 2, none⟩ = some (.bool true) ∧ Below w4.heap.size w4 X) → Below X.heap.size X w' → (w'.cell? ⟨wr.heap.size, 2, none⟩ = some (.bool true) ∧ Below w4.heap.size w4 w')) := fun X w' h k => ⟨(k.cell (p := ⟨wr.heap.size, 2, none⟩) (Nat.lt_of_lt_of_le hs4 h.2.size)).trans h.1, h.2.trans (k.mono h.2.size)⟩
          go_wp2_with fail
          go_region_held3 (fun w' => w'.cell? ⟨wr.heap.size, 2, none⟩ = some (.bool true) ∧ Below w4.heap.size w4 w') (first | exact hH.out | assumption | exact KEEP.out _ _ ‹_› ‹_›) (first | (go_at_call 65; refine (HD.out _ (by simp only [*])).mono ?_; rintro e x1 ⟨rfl, rfl⟩) | (go_at_call 66; refine (HA.out _ (by simp only [*])).mono ?_; rintro e x2 ⟨rfl, rfl⟩))
          all_goals
            rename_i hHeld
            have HO5 : Hid _ := HO4.out.still hHeld.2
            have HM5 : Hid _ := HM4.out.below hHeld.2
            have HK5 : Hid (Lay _ cl P T G ∧ Blk _ w.heap.size #[.int .i64 P, .int .i64 T, .int .i64 G, .slice E m cp] 71) := ⟨HK4.out.1.below hHeld.2 HK4.out.1.lt, HK4.out.2.but (But.of_below (l := []) hHeld.2) (by simp)⟩
            have HRg : Hid _ := (HR4.out.below hHeld.2).range
            have hTu := HTu.out _ HO5.out
            clear HD HA KEEP hH HO4 HM4 HR4 HK4 s2 hHeld HTu
            go_wp2_with (refine wpList_load_mid rfl 43 _ rfl wr.heap.size 0 rfl (runL (.slice Ag mg capg) R) _ HRg.out Try.underlying43 rfl (by kernel_rfl) ?_; clear HRg)
            go_at_call 20; refine hTu.mono ?_; rintro e w6 ⟨Ag', capg', rfl, hO6, hB6⟩
            have HO6 : Hid _ := hO6
            have HM6 : Hid (Lk w6 x cl P x0 x1 q ph hd tl nt false) := HM5.out.but hB6 (HO5.out.apart (by simp)) (HO5.out.apart (by simp))
            have HK6 : Hid (Lay w6 cl P T G ∧ Blk w6 w.heap.size #[.int .i64 P, .int .i64 T, .int .i64 G, .slice E m cp] 71) := ⟨(hB6.block cl HK5.out.1.lt (HO5.out.apart (by simp))).trans HK5.out.1, HK5.out.2.but hB6 (HO5.out.apart (by simp))⟩
            clear hTu hB6 HO5 HM5 HK5 hO6
            have hSt := lk_on w6 A cap c b n s HO6.out.mem hn6 (HLW.out.more (by omega)) x cl q ph P T G x0 x1 hd tl nt false HM6.out HK6.out.1 hP64 (HO6.out.far x (by simp)).1.1 (HO6.out.far x (by simp)).1.2.1 (HO6.out.far q (by simp)).1.1 (HO6.out.far q (by simp)).1.2.1 hxne.out.1 hne.1 hne.2
            have HGn : Hid _ := HG.out.next P x1 n s
            have HLW7 : Hid (Low (lkS P x0 x1 n ph s) ((k + 1 : Nat) : Int)) := lkS_low HLW.out _ _ _ _ _
            rw [show lkS P x0 x1 n mg s = lkS P x0 x1 n ph s by rw [HPH.out]] at HO6
            have hml : lkM mg ≤ 4 := by unfold lkM; split <;> omega
            go_wp2_with fail
            go_at_call 67; refine hSt.mono ?_; rintro e w7 ⟨⟨zz, rfl⟩, q7, hM7, hI7, hB7, hq7⟩
            have hlt7 := hM7.lt
            have HM7 : Hid _ := hM7
            have hcl7 := HK6.out.1.lt
            have hbx7 := HK6.out.2.lt
            have HK7 : Hid (Lay w7 cl P T G ∧ Blk w7 w.heap.size #[.int .i64 P, .int .i64 T, .int .i64 G, .slice E m cp] 71) := ⟨(hB7.block cl HK6.out.1.lt (by simp [hne, hxne.out])).trans HK6.out.1, HK6.out.2.but hB7 (by simp [hbx, hxne.out])⟩
            have hsz7 := hB7.size
            have HO7 : Hid (PokeOn w w7 A A' cap cap' c b c' b' n _ _ Ag' capg' (lkM mg) _ [x, q7, cl, w.heap.size]) := HO6.out.stepped hI7 hB7 (by
              intro k hk
              simp only [List.mem_cons, List.not_mem_nil, or_false] at hk ⊢
              rcases hk with rfl | rfl | rfl <;> simp) (by
              intro k hk
              simp only [List.mem_cons, List.not_mem_nil, or_false] at hk
              rcases hk with rfl | rfl | rfl | rfl
              · exact ⟨.inl (by simp), hlt7.1⟩
              · exact ⟨by rcases hq7 with e | e; exact .inl (by simp [e]); exact .inr e, hlt7.2⟩
              · exact ⟨.inl (by simp), Nat.lt_of_lt_of_le hcl7 hsz7⟩
              · exact ⟨.inl (by simp), Nat.lt_of_lt_of_le hbx7 hsz7⟩)
            generalize lkS P x0 x1 n ph s = s' at *
            generalize lkG P x1 n mg s gf = g' at *
            generalize lkM mg = m' at *
            clear hSt hM7 hI7 hB7 hq7 hlt7 HO6 HM6 hcl7 hbx7 hsz7 HK6 HG HLW
            have hAl := alike_any w7 A A' cap cap' c b c' b' n s' hn6 HO7.out.two
            go_wp2_with fail
            go_at_call 22; refine hAl.mono ?_; rintro e w8 ⟨rfl, hb8⟩
            have HO8 : Hid _ := HO7.out.still hb8
            have HM8 : Hid _ := HM7.out.below hb8
            have HK8 : Hid (Lay w8 cl P T G ∧ Blk w8 w.heap.size #[.int .i64 P, .int .i64 T, .int .i64 G, .slice E m cp] 71) := ⟨HK7.out.1.below hb8 HK7.out.1.lt, HK7.out.2.but (But.of_below (l := []) hb8) (by simp)⟩
            clear hAl hb8 HO7 HM7 HK7
            go_wp2_with fail
            go_roundw
            case rel => exact ⟨k + 1, s', Ag', capg', m', g', q7, _, _, _, _, _, by omega, by go_num, rfl, hml, HO8.out, HM8.out, HLW7, HGn.out, HK8⟩
            case measure => simp [intOf]; omega
        · rw [decide_eq_false hm4] at s2
          rw [decide_eq_true (show mg = 4 by omega)] at hdn
          have HD : Hid (∀ Y, _ → _) := hdn
          clear hdn
          cases em
          · have hH : Hid (w4.drew.cell? ⟨wr.heap.size, 2, none⟩ = some (.bool false) ∧ Below w4.heap.size w4 w4.drew) := ⟨s2, (Below.refl _ _).drew⟩
            have KEEP : Hid (∀ X w' : World, (X.cell? ⟨wr.heap.size, 2, none⟩ = some (.bool false) ∧ Below w4.heap.size w4 X) → Below X.heap.size X w' → (w'.cell? ⟨wr.heap.size, 2, none⟩ = some (.bool false) ∧ Below w4.heap.size w4 w')) := fun X w' h k => ⟨(k.cell (p := ⟨wr.heap.size, 2, none⟩) (Nat.lt_of_lt_of_le hs4 h.2.size)).trans h.1, h.2.trans (k.mono h.2.size)⟩
            go_wp2_with fail
            go_region_held3 (fun w' => w'.cell? ⟨wr.heap.size, 2, none⟩ = some (.bool false) ∧ Below w4.heap.size w4 w') (first | exact hH.out | assumption | exact KEEP.out _ _ ‹_› ‹_›) (first | (go_at_call 65; refine (HD.out _ (by simp only [*])).mono ?_; rintro e x1 ⟨rfl, rfl⟩) | (go_at_call 66; refine (HA.out _ (by simp only [*])).mono ?_; rintro e x2 ⟨rfl, rfl⟩))
            all_goals
              rename_i hHeld
              have HO5 : Hid _ := HO4.out.still hHeld.2
              have HM5 : Hid _ := HM4.out.below hHeld.2
              have HK5 : Hid (Lay _ cl P T G ∧ Blk _ w.heap.size #[.int .i64 P, .int .i64 T, .int .i64 G, .slice E m cp] 71) := ⟨HK4.out.1.below hHeld.2 HK4.out.1.lt, HK4.out.2.but (But.of_below (l := []) hHeld.2) (by simp)⟩
              have HRg : Hid _ := (HR4.out.below hHeld.2).range
              have hTu := HTu.out _ HO5.out
              clear HD HA KEEP hH HO4 HM4 HR4 HK4 s2 hHeld HTu
              go_wp2_with (refine wpList_load_mid rfl 43 _ rfl wr.heap.size 0 rfl (runL (.slice Ag mg capg) R) _ HRg.out Try.underlying43 rfl (by kernel_rfl) ?_; clear HRg)
              go_at_call 20; refine hTu.mono ?_; rintro e w6 ⟨Ag', capg', rfl, hO6, hB6⟩
              have HO6 : Hid _ := hO6
              have HM6 : Hid (Lk w6 x cl P x0 x1 q ph hd tl nt false) := HM5.out.but hB6 (HO5.out.apart (by simp)) (HO5.out.apart (by simp))
              have HK6 : Hid (Lay w6 cl P T G ∧ Blk w6 w.heap.size #[.int .i64 P, .int .i64 T, .int .i64 G, .slice E m cp] 71) := ⟨(hB6.block cl HK5.out.1.lt (HO5.out.apart (by simp))).trans HK5.out.1, HK5.out.2.but hB6 (HO5.out.apart (by simp))⟩
              clear hTu hB6 HO5 HM5 HK5 hO6
              have hSt := lk_on w6 A cap c b n s HO6.out.mem hn6 (HLW.out.more (by omega)) x cl q ph P T G x0 x1 hd tl nt false HM6.out HK6.out.1 hP64 (HO6.out.far x (by simp)).1.1 (HO6.out.far x (by simp)).1.2.1 (HO6.out.far q (by simp)).1.1 (HO6.out.far q (by simp)).1.2.1 hxne.out.1 hne.1 hne.2
              have HGn : Hid _ := HG.out.next P x1 n s
              have HLW7 : Hid (Low (lkS P x0 x1 n ph s) ((k + 1 : Nat) : Int)) := lkS_low HLW.out _ _ _ _ _
              rw [show lkS P x0 x1 n mg s = lkS P x0 x1 n ph s by rw [HPH.out]] at HO6
              have hml : lkM mg ≤ 4 := by unfold lkM; split <;> omega
              go_wp2_with fail
              go_at_call 67; refine hSt.mono ?_; rintro e w7 ⟨⟨zz, rfl⟩, q7, hM7, hI7, hB7, hq7⟩
              have hlt7 := hM7.lt
              have HM7 : Hid _ := hM7
              have hcl7 := HK6.out.1.lt
              have hbx7 := HK6.out.2.lt
              have HK7 : Hid (Lay w7 cl P T G ∧ Blk w7 w.heap.size #[.int .i64 P, .int .i64 T, .int .i64 G, .slice E m cp] 71) := ⟨(hB7.block cl HK6.out.1.lt (by simp [hne, hxne.out])).trans HK6.out.1, HK6.out.2.but hB7 (by simp [hbx, hxne.out])⟩
              have hsz7 := hB7.size
              have HO7 : Hid (PokeOn w w7 A A' cap cap' c b c' b' n _ _ Ag' capg' (lkM mg) _ [x, q7, cl, w.heap.size]) := HO6.out.stepped hI7 hB7 (by
                intro k hk
                simp only [List.mem_cons, List.not_mem_nil, or_false] at hk ⊢
                rcases hk with rfl | rfl | rfl <;> simp) (by
                intro k hk
                simp only [List.mem_cons, List.not_mem_nil, or_false] at hk
                rcases hk with rfl | rfl | rfl | rfl
                · exact ⟨.inl (by simp), hlt7.1⟩
                · exact ⟨by rcases hq7 with e | e; exact .inl (by simp [e]); exact .inr e, hlt7.2⟩
                · exact ⟨.inl (by simp), Nat.lt_of_lt_of_le hcl7 hsz7⟩
                · exact ⟨.inl (by simp), Nat.lt_of_lt_of_le hbx7 hsz7⟩)
              generalize lkS P x0 x1 n ph s = s' at *
              generalize lkG P x1 n mg s gf = g' at *
              generalize lkM mg = m' at *
              clear hSt hM7 hI7 hB7 hq7 hlt7 HO6 HM6 hcl7 hbx7 hsz7 HK6 HG HLW
              have hAl := alike_any w7 A A' cap cap' c b c' b' n s' hn6 HO7.out.two
              go_wp2_with fail
              go_at_call 22; refine hAl.mono ?_; rintro e w8 ⟨rfl, hb8⟩
              have HO8 : Hid _ := HO7.out.still hb8
              have HM8 : Hid _ := HM7.out.below hb8
              have HK8 : Hid (Lay w8 cl P T G ∧ Blk w8 w.heap.size #[.int .i64 P, .int .i64 T, .int .i64 G, .slice E m cp] 71) := ⟨HK7.out.1.below hb8 HK7.out.1.lt, HK7.out.2.but (But.of_below (l := []) hb8) (by simp)⟩
              clear hAl hb8 HO7 HM7 HK7
              go_wp2_with fail
              go_roundw
              case rel => exact ⟨k + 1, s', Ag', capg', m', g', q7, _, _, _, _, _, by omega, by go_num, rfl, hml, HO8.out, HM8.out, HLW7, HGn.out, HK8⟩
              case measure => simp [intOf]; omega
          · have hH : Hid (w4.drew.cell? ⟨wr.heap.size, 2, none⟩ = some (.bool false) ∧ Below w4.heap.size w4 w4.drew) := ⟨s2, (Below.refl _ _).drew⟩
            have KEEP : Hid (∀ X w' : World, (X.cell? ⟨wr.heap.size, 2, none⟩ = some (.bool false) ∧ Below w4.heap.size w4 X) → Below X.heap.size X w' → (w'.cell? ⟨wr.heap.size, 2, none⟩ = some (.bool false) ∧ Below w4.heap.size w4 w')) := fun X w' h k => ⟨(k.cell (p := ⟨wr.heap.size, 2, none⟩) (Nat.lt_of_lt_of_le hs4 h.2.size)).trans h.1, h.2.trans (k.mono h.2.size)⟩
            go_wp2_with fail
            go_region_held3 (fun w' => w'.cell? ⟨wr.heap.size, 2, none⟩ = some (.bool false) ∧ Below w4.heap.size w4 w') (first | exact hH.out | assumption | exact KEEP.out _ _ ‹_› ‹_›) (first | (go_at_call 65; refine (HD.out _ (by simp only [*])).mono ?_; rintro e x1 ⟨rfl, rfl⟩) | (go_at_call 66; refine (HA.out _ (by simp only [*])).mono ?_; rintro e x2 ⟨rfl, rfl⟩))
            all_goals
              rename_i hHeld
              have HO5 : Hid _ := HO4.out.still hHeld.2
              have HM5 : Hid _ := HM4.out.below hHeld.2
              have HK5 : Hid (Lay _ cl P T G ∧ Blk _ w.heap.size #[.int .i64 P, .int .i64 T, .int .i64 G, .slice E m cp] 71) := ⟨HK4.out.1.below hHeld.2 HK4.out.1.lt, HK4.out.2.but (But.of_below (l := []) hHeld.2) (by simp)⟩
              have HRg : Hid _ := (HR4.out.below hHeld.2).range
              have hTu := HTu.out _ HO5.out
              clear HD HA KEEP hH HO4 HM4 HR4 HK4 s2 hHeld HTu
              go_wp2_with (refine wpList_load_mid rfl 43 _ rfl wr.heap.size 0 rfl (runL (.slice Ag mg capg) R) _ HRg.out Try.underlying43 rfl (by kernel_rfl) ?_; clear HRg)
              go_at_call 20; refine hTu.mono ?_; rintro e w6 ⟨Ag', capg', rfl, hO6, hB6⟩
              have HO6 : Hid _ := hO6
              have HM6 : Hid (Lk w6 x cl P x0 x1 q ph hd tl nt true) := HM5.out.but hB6 (HO5.out.apart (by simp)) (HO5.out.apart (by simp))
              have HK6 : Hid (Lay w6 cl P T G ∧ Blk w6 w.heap.size #[.int .i64 P, .int .i64 T, .int .i64 G, .slice E m cp] 71) := ⟨(hB6.block cl HK5.out.1.lt (HO5.out.apart (by simp))).trans HK5.out.1, HK5.out.2.but hB6 (HO5.out.apart (by simp))⟩
              clear hTu hB6 HO5 HM5 HK5 hO6
              have hSt := lk_on w6 A cap c b n s HO6.out.mem hn6 (HLW.out.more (by omega)) x cl q ph P T G x0 x1 hd tl nt true HM6.out HK6.out.1 hP64 (HO6.out.far x (by simp)).1.1 (HO6.out.far x (by simp)).1.2.1 (HO6.out.far q (by simp)).1.1 (HO6.out.far q (by simp)).1.2.1 hxne.out.1 hne.1 hne.2
              have HGn : Hid _ := HG.out.next P x1 n s
              have HLW7 : Hid (Low (lkS P x0 x1 n ph s) ((k + 1 : Nat) : Int)) := lkS_low HLW.out _ _ _ _ _
              rw [show lkS P x0 x1 n mg s = lkS P x0 x1 n ph s by rw [HPH.out]] at HO6
              have hml : lkM mg ≤ 4 := by unfold lkM; split <;> omega
              go_wp2_with fail
              go_at_call 67; refine hSt.mono ?_; rintro e w7 ⟨⟨zz, rfl⟩, q7, hM7, hI7, hB7, hq7⟩
              have hlt7 := hM7.lt
              have HM7 : Hid _ := hM7
              have hcl7 := HK6.out.1.lt
              have hbx7 := HK6.out.2.lt
              have HK7 : Hid (Lay w7 cl P T G ∧ Blk w7 w.heap.size #[.int .i64 P, .int .i64 T, .int .i64 G, .slice E m cp] 71) := ⟨(hB7.block cl HK6.out.1.lt (by simp [hne, hxne.out])).trans HK6.out.1, HK6.out.2.but hB7 (by simp [hbx, hxne.out])⟩
              have hsz7 := hB7.size
              have HO7 : Hid (PokeOn w w7 A A' cap cap' c b c' b' n _ _ Ag' capg' (lkM mg) _ [x, q7, cl, w.heap.size]) := HO6.out.stepped hI7 hB7 (by
                intro k hk
                simp only [List.mem_cons, List.not_mem_nil, or_false] at hk ⊢
                rcases hk with rfl | rfl | rfl <;> simp) (by
                intro k hk
                simp only [List.mem_cons, List.not_mem_nil, or_false] at hk
                rcases hk with rfl | rfl | rfl | rfl
                · exact ⟨.inl (by simp), hlt7.1⟩
                · exact ⟨by rcases hq7 with e | e; exact .inl (by simp [e]); exact .inr e, hlt7.2⟩
                · exact ⟨.inl (by simp), Nat.lt_of_lt_of_le hcl7 hsz7⟩
                · exact ⟨.inl (by simp), Nat.lt_of_lt_of_le hbx7 hsz7⟩)
              generalize lkS P x0 x1 n ph s = s' at *
              generalize lkG P x1 n mg s gf = g' at *
              generalize lkM mg = m' at *
              clear hSt hM7 hI7 hB7 hq7 hlt7 HO6 HM6 hcl7 hbx7 hsz7 HK6 HG HLW
              have hAl := alike_any w7 A A' cap cap' c b c' b' n s' hn6 HO7.out.two
              go_wp2_with fail
              go_at_call 22; refine hAl.mono ?_; rintro e w8 ⟨rfl, hb8⟩
              have HO8 : Hid _ := HO7.out.still hb8
              have HM8 : Hid _ := HM7.out.below hb8
              have HK8 : Hid (Lay w8 cl P T G ∧ Blk w8 w.heap.size #[.int .i64 P, .int .i64 T, .int .i64 G, .slice E m cp] 71) := ⟨HK7.out.1.below hb8 HK7.out.1.lt, HK7.out.2.but (But.of_below (l := []) hb8) (by simp)⟩
              clear hAl hb8 HO7 HM7 HK7
              go_wp2_with fail
              go_roundw
              case rel => exact ⟨k + 1, s', Ag', capg', m', g', q7, _, _, _, _, _, by omega, by go_num, rfl, hml, HO8.out, HM8.out, HLW7, HGn.out, HK8⟩
              case measure => simp [intOf]; omega
    · obtain rfl : k = mp := by omega
      have hgd : decide ((k : Int) < (k : Int)) = false := by simp
      have HT := HO.out.two
      have HTS : Hid (∀ Y, Below wr.heap.size wr Y → Two Y A A' cap cap' c b c' b' n s) := fun Y hY => HT.below hY
      have hH : Hid (wr.drew.cell? ⟨c', 0, none⟩ = some (.slice A' n cap') ∧ Below wr.heap.size wr wr.drew) := ⟨HT.r.cells.1, (Below.refl _ _).drew⟩
      have KEEP : Hid (∀ X w' : World, (X.cell? ⟨c', 0, none⟩ = some (.slice A' n cap') ∧ Below wr.heap.size wr X) → Below X.heap.size X w' → (w'.cell? ⟨c', 0, none⟩ = some (.slice A' n cap') ∧ Below wr.heap.size wr w')) := fun X w' h k => ⟨(HTS.out _ (h.2.trans (k.mono h.2.size))).r.cells.1, h.2.trans (k.mono h.2.size)⟩
      have HB9 : Hid (Below w.heap.size w wr) := HO.out.below
      clear HT HO HM HK
      go_wp2_with fail
      go_region_held3 (fun w' => w'.cell? ⟨c', 0, none⟩ = some (.slice A' n cap') ∧ Below wr.heap.size wr w') (first | exact hH.out | assumption | exact KEEP.out _ _ ‹_› ‹_›) (first | (go_at_call 61; refine (ring_awake _).mono ?_; rintro e x1 ⟨rfl, g1⟩) | (go_at_call 25; refine (words_any _ A cap c b n s (HTS.out _ (by simp only [*])).m hn6).mono ?_; rintro e x5 ⟨A4, cap4, rfl, hs4, g5⟩) | (go_at_call 23; refine (sameB_any _ A4 A' n cap4 cap' s.f hn6 hs4 (HTS.out _ (by simp only [*])).r.sees).mono ?_; rintro e x6 ⟨rfl, g6⟩) | (go_at_call 65; refine (look_done_nil _).mono ?_; rintro e x7 ⟨rfl, rfl⟩) | (go_at_call 67; refine (look_step_nil _ _).mono ?_; rintro e x8 ⟨rfl, rfl⟩) | (go_at_call 66; refine (look_empty_nil _).mono ?_; rintro e x9 ⟨rfl, rfl⟩))
      all_goals
        rename_i hHeld
        have hbF := HB9.out.trans (hHeld.2.mono HB9.out.size)
        go_wp2_with fail
        go_ret
        exact ⟨rfl, hbF⟩

theorem ringLooks_walk (P T G x0 x1 : Int) (E F : Option Addr) (m cp mp cq : Nat) (a v : Nat → Int) (Pks : Nat → Pk) (w : World) (hm : m ≤ 9223372036854775807) (hmp : mp ≤ 9223372036854775807) (hs : SeesP w w.heap.size E m a v) (hv : ∀ i, i < m → 0 ≤ v i ∧ v i ≤ 18446744073709551615) (hP : SeesC w w.heap.size F mp 6 (pkC Pks)) (hpv : ∀ j, j < mp → 0 ≤ (Pks j).v ∧ (Pks j).v ≤ 18446744073709551615) :
    Calls Try.prog 10 #[.agg #[.int .i64 P, .int .i64 T, .int .i64 G, .slice E m cp], .agg #[.int .i64 x0, .int .i64 x1], .slice F mp cq] w fun e w' => e = .returned (.bool true) ∧ Below w.heap.size w w' := by
  by_cases h : (¬ FewC P T G ∨ 400 < m) ∨ 100 < mp ∨ x1 < 0 ∨ P ≤ x1
  · exact ringLooks_bad P T G x0 x1 E F m cp mp cq a v w hm hmp hs hv h
  · exact ringLooks_ok P T G x0 x1 E F m cp mp cq a v Pks w (by omega) (Decidable.byContradiction fun hf => h (.inl (.inl hf))) (by omega) hs hv hP hpv (by omega)

end Go.Proofs.Ytlnjjcfkcoaceaa
