/- The law DiceMakes, of a config that may be. -/
import Derived.Test.YteibdjbipfimeaaM10
namespace Go.Proofs.Yteibdjbipfimeaa
open Go Go.RowKit
set_option linter.unusedVariables false
set_option linter.unusedSimpArgs false
set_option maxRecDepth 100000

theorem cf_bd {s N : Nat} {P T G : Nat} (h : May P T G) : 1 ≤ (cfN s N P T G).2.1 ∧ (cfN s N P T G).2.1 ≤ 256 := by
  have := (cfN_right s N P T G h).1.h; omega

/-- What programs come to, their length told. -/
def PrgB (w : World) (c : Nat) (L : List Nat) (k : Nat) (Q : World → Prop) (e : Ending) (w' : World) : Prop :=
  ∃ (A : Option Addr) (cp : Nat), e = .returned (.slice A k cp) ∧ PrgOn w w' c Q A k cp L
theorem prg_b {w w' : World} {c k : Nat} {L : List Nat} {Q : World → Prop} {e : Ending} (h : Prg w c L Q e w') (hk : L.length = k) : PrgB w c L k Q e w' := by
  obtain ⟨A, j, cp, rfl, hP⟩ := h
  obtain rfl : j = k := hP.len.symm.trans hk
  exact ⟨A, cp, rfl, hP⟩
theorem prog_b (s : Nat) (x : Int) (L : List Nat) (k u : Nat) (hL : pAcc (st s 3) (cl x) (cl x) = (L, u)) (hk : L.length = k) (w : World) (c : Nat) (h : Dc w c (st s 3)) :
    Calls Try.prog 17 #[.pointer (some ⟨c, 0, none⟩), .int .i64 x] w (PrgB w c L k fun X => Dc X c (st s (3 + u))) :=
  (programs_any w c (st s 3) x (st_lt _ _) h).mono fun e w' hp => by rw [hL, st_st2] at hp; exact prg_b hp hk
theorem refProg_b (s : Nat) (hs : s < 18446744073709551616) (x : Int) (L : List Nat) (k u : Nat) (hL : pAcc (st s 3) (cl x) (cl x) = (L, u)) (hk : L.length = k) (w : World) (c : Nat) (h : Rd w c s 3) :
    Calls Try.prog 18 #[.pointer (some ⟨c, 0, none⟩), .int .i64 x] w (PrgB w c L k fun X => Rd X c s (3 + u)) :=
  (refPrograms_any w c s 3 x hs (by omega) h).mono fun e w' hp => by rw [hL] at hp; exact prg_b hp hk
theorem reg_a {w w5 w6 : World} {z a d k cp u : Nat} {P T G x0 x1 x2 : Int} {s : Nat} {A : Option Addr} {L : List Nat} (h : Mk w w5 z a d P T G x0 x1 x2 (st s 3) s 3) (hP : PrgOn w5.drew w6 a (fun X => Dc X a (st s (3 + u))) A k cp L) (zc : Nat) (p t g : Int) (hC : B3 w5 zc 34 p t g ∧ d < zc) :
    Hid (Mk w w6 z a d P T G x0 x1 x2 (st s (3 + u)) s 3) ∧ Hid (B3 w6 zc 34 p t g ∧ d < zc) ∧ Hid (w6.ownsRow w5.heap.size 22 1 (.slice A k cp) k (wc L)) ∧ w6.cell? ⟨z + 1, 0, none⟩ = some (.int .i64 x0) := by
  have hk := h.callA hP.but.undrew hP.q
  have ho := h.ord
  exact ⟨hk, ⟨hC.1.but hP.but.undrew (by simp; omega), hC.2⟩, hP.own, hk.xo.c.1⟩
theorem reg_d {w w5 w6 w7 : World} {z a d k cp cp2 u Sa : Nat} {P T G x0 x1 x2 : Int} {s : Nat} {A A2 : Option Addr} {L : List Nat} (h5 : Mk w w5 z a d P T G x0 x1 x2 (st s 3) s 3) (h : Mk w w6 z a d P T G x0 x1 x2 Sa s 3) (hP : PrgOn w6 w7 d (fun X => Rd X d s (3 + u)) A2 k cp2 L) (zc : Nat) (p t g : Int) (hC : B3 w6 zc 34 p t g ∧ d < zc)
    (hO : w6.ownsRow w5.heap.size 22 1 (.slice A k cp) k (wc L)) :
    Hid (Mk w w7 z a d P T G x0 x1 x2 Sa s (3 + u)) ∧ Hid (B3 w7 zc 34 p t g ∧ d < zc) ∧ Hid (w7.ownsRow w5.heap.size 22 1 (.slice A k cp) k (wc L)) ∧ Hid (w7.ownsRow w6.heap.size 22 1 (.slice A2 k cp2) k (wc L)) ∧ w7.cell? ⟨z + 1, 0, none⟩ = some (.int .i64 x0) := by
  have hk := h.callD hP.but hP.q
  have ho := h.ord
  have hd := h5.rd.lt
  exact ⟨hk, ⟨hC.1.but hP.but (by simp; omega), hC.2⟩, hO.kept hP.but.grownBy (Or.inr (fun e => by have := (hO.lt d e).1; omega)), hP.own, hk.xo.c.1⟩

def ScrC (w : World) (c : Nat) (L : List (Int × Int)) (k S2 : Nat) (e : Ending) (w' : World) : Prop :=
  ∃ (A : Option Addr) (cp : Nat), e = .returned (.slice A k cp) ∧ w'.ownsRow w.heap.size 48 2 (.slice A k cp) k (flat L) ∧ Dc w' c S2 ∧ But [c] w w'
theorem scr_b (S : Nat) (T n : Int) (L : List (Int × Int)) (k S2 : Nat) (hS : S < 18446744073709551616) (hn : n ≤ 300) (hL : scrAll S T n = (L, S2)) (hk : L.length = k) (w : World) (c : Nat) (p g : Int) (h : Dc w c S) :
    Calls Try.prog 14 #[.pointer (some ⟨c, 0, none⟩), .agg #[.int .i64 p, .int .i64 T, .int .i64 g], .int .i64 n] w (ScrC w c L k S2) := by
  subst hk
  have := script_all w c S p T g n hS hn h
  rw [hL] at this
  exact this
def RefC (w : World) (r s N : Nat) (L : List (Int × Int)) (k S2 : Nat) (e : Ending) (w' : World) : Prop :=
  ∃ (A : Option Addr) (cp M : Nat), e = .returned (.slice A k cp) ∧ w'.ownsRow w.heap.size 48 2 (.slice A k cp) k (flat L) ∧ Rd w' r s M ∧ st s M = S2 ∧ M ≤ N + 900 ∧ But [r] w w'
theorem refScr_b (s N T : Nat) (n : Int) (L : List (Int × Int)) (k S2 : Nat) (hs : s < 18446744073709551616) (hN : N ≤ 10000) (hT : 1 ≤ T ∧ T ≤ 256) (hn : n ≤ 300) (hL : scrAll (st s N) T n = (L, S2)) (hk : L.length = k) (w : World) (r : Nat) (h : Rd w r s N) :
    Calls Try.prog 19 #[.pointer (some ⟨r, 0, none⟩), .int .i64 (T : Int), .int .i64 n] w (RefC w r s N L k S2) := by
  subst hk
  have := refScript_all w r s N T n hs hN hT hn h
  rw [hL] at this
  exact this
/-- Both scripts lie there. -/
structure Cmp (w wr : World) (z a d : Nat) (P T G x0 x1 x2 : Int) (Sa s Nd B1 B2 : Nat) (A1 A2 : Option Addr) (k cp1 cp2 : Nat) (L : List (Int × Int)) : Prop where
  k0 : Mk w wr z a d P T G x0 x1 x2 Sa s Nd
  o1 : wr.ownsRow B1 48 2 (.slice A1 k cp1) k (flat L)
  o2 : wr.ownsRow B2 48 2 (.slice A2 k cp2) k (flat L)
  le : L.length = k
theorem Cmp.drewN {w wr : World} {z a d : Nat} {P T G x0 x1 x2 : Int} {Sa s Nd B1 B2 : Nat} {A1 A2 : Option Addr} {k cp1 cp2 : Nat} {L : List (Int × Int)} (h : Cmp w wr z a d P T G x0 x1 x2 Sa s Nd B1 B2 A1 A2 k cp1 cp2 L) (n : Nat) :
    Cmp w (wr.drewN n) z a d P T G x0 x1 x2 Sa s Nd B1 B2 A1 A2 k cp1 cp2 L := ⟨h.k0.drewN n, h.o1, h.o2, h.le⟩

/-- What is known while draws are gathered. -/
def DQ (z a d : Nat) (x0 x1 x2 : Int) (Sa s N : Nat) (X : World) : Prop := B3 X (z + 1) 35 x0 x1 x2 ∧ Dc X a Sa ∧ Rd X d s N
theorem DQ.below {z a d : Nat} {x0 x1 x2 : Int} {Sa s N : Nat} {X Y : World} (h : DQ z a d x0 x1 x2 Sa s N X) (hb : Below X.heap.size X Y) : DQ z a d x0 x1 x2 Sa s N Y :=
  ⟨h.1.but (But.of_below hb) (l := []) (by simp), h.2.1.below hb h.2.1.lt, h.2.2.below hb h.2.2.lt⟩
theorem DQ.same {z a d B : Nat} {x0 x1 x2 : Int} {Sa s N : Nat} {X Y : World} (h : DQ z a d x0 x1 x2 Sa s N X) (hk : ∀ j, j < B → Y.heap[j]? = X.heap[j]?) (h1 : z + 1 < a) (h2 : a < d) (h3 : d < B) : DQ z a d x0 x1 x2 Sa s N Y :=
  ⟨(hk _ (by omega)).trans h.1, (hk _ (by omega)).trans h.2.1, (hk _ h3).trans h.2.2⟩
theorem number_lit (w : World) (s : Nat) (m : Int) (k : Nat) (hm : m = (k : Int)) (h1 : s < 18446744073709551616) (n1 : k ≤ 1000000) :
    Calls Try.prog 11 #[.int .u64 (s : Int), .int .i64 m] w fun e w' => e = .returned (.int .u64 ((num s k : Nat) : Int)) ∧ w = w' := by
  subst hm; exact number_any w s k h1 n1

set_option maxHeartbeats 8000000 in
theorem makes_yes (s : Nat) (hs : s < 18446744073709551616) (P T G : Nat) (x0 x1 x2 : Int) (w : World) (hx1 : x1 ≤ 300) (hx2 : x2 ≤ 300) (hM : May P T G) :
    Calls Try.prog 4 #[.int .u64 (s : Int), .agg #[.int .i64 (P : Int), .int .i64 (T : Int), .int .i64 (G : Int)], .agg #[.int .i64 x0, .int .i64 x1, .int .i64 x2]] w fun e w' => e = .returned (.bool true) ∧ Below w.heap.size w w' := by
  have HM := Lib.hid hM
  have HS := Lib.hid hs
  have HX := Lib.hid (And.intro hx1 hx2)
  have m1 : ¬ 300 < x1 := by omega
  have m2 : ¬ 300 < x2 := by omega
  clear hM hs
  go_enter Try.func4, Try.ntmps4
  go_wp2_with fail
  refine (new_any _ s).mono ?_; rintro e w1 ⟨rfl, hD1, hb1, hz1⟩
  have HK := Lib.hid (mk_start HS.out rfl hD1 hb1)
  clear hD1 hb1 hz1
  obtain ⟨b0, b1, b2⟩ := HK.out.mo.c
  go_wp2_with fail
  have ea : w.heap.size + 1 + 1 = ((w.alloc (.cells #[.int .i64 (P : Int), .int .i64 (T : Int), .int .i64 (G : Int)] 34)).alloc (.cells #[.int .i64 x0, .int .i64 x1, .int .i64 x2] 35)).heap.size := by simp
  rw [ea]
  clear ea
  generalize w1.alloc (.cells #[.int .u64 (s : Int), .int .i64 0] 28) = Y at HK ⊢
  generalize ((w.alloc (.cells #[.int .i64 (P : Int), .int .i64 (T : Int), .int .i64 (G : Int)] 34)).alloc (.cells #[.int .i64 x0, .int .i64 x1, .int .i64 x2] 35)).heap.size = a at HK ⊢
  generalize w1.heap.size = d at HK ⊢
  generalize hz : w.heap.size = z at HK ⊢
  have HZ := Lib.hid hz
  clear hz b0 b1 b2
  refine (config_yes _ _ s P T G HS.out HK.out.da HM.out).mono ?_; rintro e w2 ⟨rfl, hD2, hB2⟩
  obtain ⟨p, t, g, HC⟩ : ∃ p t g : Nat, Hid (cfN s 0 P T G = (p, t, g)) := ⟨_, _, _, Lib.hid rfl⟩
  rw [HC.out]
  have HF := Lib.hid (show (May p t g ∧ p ≤ P ∧ t ≤ T ∧ g ≤ G) ∧ (1 ≤ t ∧ t ≤ 256) from by
    have e1 := cfN_right s 0 P T G HM.out
    have e2 := cf_bd (s := s) (N := 0) HM.out
    rw [HC.out] at e1 e2
    exact ⟨e1, e2⟩)
  have HK2 := Lib.hid ((HK.out.callA hB2 hD2).none ((Below.refl _ _).alloc (Nat.le_refl _) (.cells #[.int .i64 (p : Int), .int .i64 (t : Int), .int .i64 (g : Int)] 34)))
  have HC2 := Lib.hid (show B3 (w2.alloc (.cells #[.int .i64 (p : Int), .int .i64 (t : Int), .int .i64 (g : Int)] 34)) w2.heap.size 34 p t g ∧ d < w2.heap.size from ⟨heap_alloc_new _ _, (HK.out.callA hB2 hD2).rd.lt⟩)
  clear hD2 hB2
  obtain ⟨b0, b1, b2⟩ := HK2.out.mo.c
  go_wp2_with fail
  generalize w2.alloc (.cells #[.int .i64 (p : Int), .int .i64 (t : Int), .int .i64 (g : Int)] 34) = X2 at HK2 HC2 ⊢
  generalize w2.heap.size = zc at HC2 ⊢
  clear b0 b1 b2
  refine (refRight_yes P T G HM.out _).mono ?_; rintro e w3 ⟨rfl, hb3⟩
  have HK3 := Lib.hid (HK2.out.none hb3)
  have HC3 := Lib.hid (And.intro (HC2.out.1.but (But.of_below hb3) (l := []) (by simp)) HC2.out.2)
  clear hb3
  obtain ⟨b0, b1, b2⟩ := HK3.out.mo.c
  go_wp2_with fail
  refine (refConfig_yes _ d s 0 P T G HS.out (by omega) HK3.out.rd HM.out).mono ?_; rintro e w4 ⟨rfl, hR4, hB4⟩
  rw [HC.out]
  have HK4 := Lib.hid ((HK3.out.callD hB4 hR4).none ((Below.refl _ _).alloc (Nat.le_refl _) (.cells #[.int .i64 (p : Int), .int .i64 (t : Int), .int .i64 (g : Int)] 34)))
  have HC4 := Lib.hid (And.intro ((HC3.out.1.but hB4 (by have := HC3.out.2; simp; omega)).but (But.of_below ((Below.refl _ _).alloc (Nat.le_refl _) (.cells #[.int .i64 (p : Int), .int .i64 (t : Int), .int .i64 (g : Int)] 34))) (l := []) (by simp)) HC3.out.2)
  have HV4 := Lib.hid (show B3 (w4.alloc (.cells #[.int .i64 (p : Int), .int .i64 (t : Int), .int .i64 (g : Int)] 34)) w4.heap.size 34 p t g from heap_alloc_new _ _)
  clear hR4 hB4 b0 b1 b2
  obtain ⟨c0, c1, c2⟩ := HC4.out.1.c
  obtain ⟨v0, v1, v2⟩ := HV4.out.c
  have hne := neq34
  go_wp2_with fail
  generalize w4.alloc (.cells #[.int .i64 (p : Int), .int .i64 (t : Int), .int .i64 (g : Int)] 34) = X4 at HK4 HC4 HV4 ⊢
  generalize w4.heap.size = zw at HV4 ⊢
  clear c0 c1 c2 v0 v1 v2
  refine (refRight_yes p t g HF.out.1.1 _).mono ?_; rintro e w5 ⟨rfl, hb5⟩
  have HK5 := Lib.hid (HK4.out.none hb5)
  have HC5 := Lib.hid (And.intro (HC4.out.1.but (But.of_below hb5) (l := []) (by simp)) HC4.out.2)
  clear hb5
  obtain ⟨c0, c1, c2⟩ := HC5.out.1.c
  obtain ⟨b0, b1, b2⟩ := HK5.out.mo.c
  have n1 : ¬ (P : Int) < (p : Int) := by have := HF.out.1.2; omega
  have n2 : ¬ (T : Int) < (t : Int) := by have := HF.out.1.2; omega
  have n3 : ¬ (G : Int) < (g : Int) := by have := HF.out.1.2; omega
  go_wp2_with fail
  clear n1 n2 n3 b0 b1 b2 c0 c1 c2 hne
  obtain ⟨L, u, k, HL, HLk⟩ : ∃ L u k, Hid (pAcc (st s 3) (cl x0) (cl x0) = (L, u)) ∧ Hid (L.length = k) := ⟨(pAcc (st s 3) (cl x0) (cl x0)).1, (pAcc (st s 3) (cl x0) (cl x0)).2, _, Lib.hid rfl, Lib.hid rfl⟩
  have HU : Hid (u ≤ 272 ∧ k ≤ 1000000) := by
    have e := pAcc_len (st s 3) (cl x0) (cl x0)
    have e2 := cl_bd x0
    rw [HL.out] at e
    have e3 := HLk.out
    simp only at e
    exact (⟨by omega, by omega⟩ : u ≤ 272 ∧ k ≤ 1000000)
  have HKK : Hid (Mk w w5 z a d (P : Int) (T : Int) (G : Int) x0 x1 x2 (st s 3) s 3) := HK5.out
  have HDd : Hid (Dc w5.drew a (st s 3)) := HKK.out.da
  have HP17 := Lib.hid (prog_b s x0 L k u HL.out HLk.out)
  have HP18 := Lib.hid (refProg_b s HS.out x0 L k u HL.out HLk.out)
  have y5 := HKK.out.xo.c.1
  have hH : w5.drew.cell? ⟨z + 1, 0, none⟩ = some (.int .i64 x0) := y5
  go_region_held3 (fun w' => w'.cell? ⟨z + 1, 0, none⟩ = some (.int .i64 x0)) (first | (with_reducible exact hH) | (with_reducible assumption)) (first | (go_at_call 17; (with_reducible refine (HP17.out _ a HDd.out).mono ?_); rintro e w6 ⟨A1, cp1, rfl, hP1⟩; obtain ⟨HK6, HC6, HO6, y6⟩ := reg_a HKK.out hP1 zc p t g HC5.out; clear hP1) | (go_at_call 18; (with_reducible refine (HP18.out _ d HK6.out.rd).mono ?_); rintro e w7 ⟨A2, cp2, rfl, hP2⟩; obtain ⟨HK7, HC7, HO7, HO7b, y7⟩ := reg_d HKK.out HK6.out hP2 zc p t g HC6.out HO6.out; clear hP2) | (go_at_call 16; (with_reducible refine (same_row _ _ _ k cp1 cp2 A1 A2 L HLk.out HU.out.2 HO7.out HO7b.out).mono ?_); rintro e w8 ⟨rfl, n8, rfl⟩; have y8 : (w7.drewN n8).cell? ⟨z + 1, 0, none⟩ = some (.int .i64 x0) := y7))
  rename_i hHeld
  have HK8 := Lib.hid (show Mk w (w7.drewN n8) z a d (P : Int) (T : Int) (G : Int) x0 x1 x2 (st s (3 + u)) s (3 + u) from HK7.out.drewN n8)
  have HC8 := Lib.hid (show B3 (w7.drewN n8) zc 34 p t g ∧ d < zc from HC7.out)
  clear hHeld y8 y7 y6 y5 hH
  generalize w7.drewN n8 = w8 at HK8 HC8 ⊢
  obtain ⟨c0, c1, c2⟩ := HC8.out.1.c
  obtain ⟨e0, e1, e2⟩ := HK8.out.xo.c
  obtain ⟨N, HN⟩ : ∃ N, Hid (3 + u = N) := ⟨_, Lib.hid rfl⟩
  have HN3 := Lib.hid (show N ≤ 300 from by have := HN.out; have := HU.out.1; omega)
  rw [HN.out] at HK8
  obtain ⟨E, S2, q, HE, HEk⟩ : ∃ E S2 q, Hid (scrAll (st s N) t x1 = (E, S2)) ∧ Hid (E.length = q) := ⟨(scrAll (st s N) t x1).1, (scrAll (st s N) t x1).2, _, Lib.hid rfl, Lib.hid rfl⟩
  have HQ := Lib.hid (show q ≤ 300 from by have := scrAll_len (st s N) t x1 HX.out.1 E q S2 HE.out HEk.out; have := HX.out.1; omega)
  clear HK5 HK6 HK7 HC5 HC6 HC7 HO6 HO7 HO7b HKK HDd HP17 HP18 HL HLk HK4 HC4 HV4 HK3 HC3 HK2 HC2 HK
  go_wp2_with fail
  refine (scr_b (st s N) t x1 E q S2 (st_lt _ _) HX.out.1 HE.out HEk.out _ a p g HK8.out.da).mono ?_; rintro e w9 ⟨A3, cp3, rfl, hO9, hD9, hB9⟩
  have HK9 := Lib.hid (HK8.out.callA hB9 hD9)
  have HC9 := Lib.hid (And.intro (HC8.out.1.but hB9 (by have := HC8.out.2; have := HK8.out.ord; simp; omega)) HC8.out.2)
  have HO9 := Lib.hid hO9
  clear hO9 hD9 hB9 c0 c1 c2 e0 e1 e2
  obtain ⟨c0, c1, c2⟩ := HC9.out.1.c
  obtain ⟨e0, e1, e2⟩ := HK9.out.xo.c
  go_wp2_with fail
  refine (refScr_b s N t x1 E q S2 HS.out (by have := HN3.out; omega) HF.out.2 HX.out.1 HE.out HEk.out _ d HK9.out.rd).mono ?_; rintro e w10 ⟨A4, cp4, M, rfl, hO10, hR10, hS10, hM10, hB10⟩
  have HK10 := Lib.hid (show Mk w w10 z a d (P : Int) (T : Int) (G : Int) x0 x1 x2 (st s M) s M from by rw [hS10]; exact HK9.out.callD hB10 hR10)
  have HO10 := Lib.hid (HO9.out.kept hB10.grownBy (Or.inr (fun e => by have := (HO9.out.lt d e).1; have := HK8.out.rd.lt; omega)))
  have HO10b := Lib.hid hO10
  have HM10 := Lib.hid (show M ≤ 2000 from by have := HN3.out; omega)
  clear hO10 hR10 hS10 hM10 hB10 c0 c1 c2 e0 e1 e2
  go_wp2_with fail
  go_loopw [14] (fun i wr => ∃ j : Nat, j ≤ q ∧ i = .int .i64 j ∧ Cmp w wr z a d (P : Int) (T : Int) (G : Int) x0 x1 x2 (st s M) s M w8.heap.size w9.heap.size A3 A4 q cp3 cp4 E) (fun i _ => q - (intOf i).toNat)
  case atStart => exact ⟨0, Nat.zero_le _, rfl, ⟨HK10.out, HO10.out, HO10b.out, HEk.out⟩⟩
  case round =>
    obtain ⟨j, hj, rfl, hR⟩ := hrel
    have hq300 := HQ.out
    by_cases hlt : j < q
    · obtain ⟨g1, x, y, rfl, hx, c0, c1⟩ := own_pair hR.o1 hR.le j hlt
      obtain ⟨g2, x', y', rfl, hx', c2, c3⟩ := own_pair hR.o2 hR.le j hlt
      rw [hx] at hx'
      simp only [Option.some.injEq, Prod.mk.injEq] at hx'
      obtain ⟨rfl, rfl⟩ := hx'
      have HR := Lib.hid hR
      have hne := neq48
      clear hR hx
      go_wp2_with fail
      go_quiet (fail)
      have HR2 := Lib.hid (HR.out.drewN nq)
      go_wp2_with fail
      go_roundw
      case rel => exact ⟨j + 1, by omega, by go_num, HR2.out⟩
      case measure => simp [intOf]; omega
    · obtain rfl : j = q := by omega
      have HR := Lib.hid hR
      clear hR
      obtain ⟨W0, hw0⟩ : ∃ v, v = wr := ⟨_, rfl⟩
      subst hw0
      obtain ⟨i0, hi, hz0, hz1, hz2⟩ := info_parts info22
      have HOR := Lib.hid (And.intro HR.out.k0.ord HR.out.k0.rd.lt)
      have HST := Lib.hid (prg_start W0 d (DQ z a d x0 x1 x2 (st s M) s M) ⟨HR.out.k0.xo, HR.out.k0.da, HR.out.k0.rd⟩ HR.out.k0.rd.lt)
      have HBL := Lib.hid HR.out.k0.bel
      have hM2 := HM10.out
      have hx2b := HX.out.2
      clear HR HK10 HO10 HO10b HK9 HC9 HO9 HK8 HC8 HE HEk hj hlt
      go_wp2_with fail
      go_loopw [15, 16] (fun v i wq => ∃ (y cp : Nat) (A : Option Addr), v = .slice A y cp ∧ i = .int .i64 y ∧ y ≤ x2.toNat ∧ PrgOn W0 wq d (DQ z a d x0 x1 x2 (st s M) s M) A y cp (drL (st s M) y)) (fun _ i _ => x2.toNat - (intOf i).toNat)
      case atStart => exact ⟨0, 0, none, rfl, rfl, by omega, HST.out⟩
      case round =>
        obtain ⟨y, cp, A, rfl, rfl, hy, hJ⟩ := hrel
        have HJ := Lib.hid hJ
        obtain ⟨f0, f1, f2⟩ := hJ.q.1.c
        obtain ⟨r0, r1⟩ := (And.intro hJ.q.2.2.c0 hJ.q.2.2.c1 : _ ∧ _)
        clear HST hJ
        by_cases hlt : (y : Int) < x2
        · go_wp2_with fail
          refine (number_lit _ s ((M : Int) + 1 + (y : Int)) (M + 1 + y) (by omega) HS.out (by omega)).mono ?_; rintro e wn ⟨rfl, rfl⟩
          have HXX : Hid (drL (st s M) y ++ [num s (M + 1 + y)] = drL (st s M) (y + 1)) := by
            show _ = drL (st s M) y ++ [num (st s M) (y + 1)]
            rw [num_st2, show M + (y + 1) = M + 1 + y by omega]
          generalize hxx : num s (M + 1 + y) = v at HXX ⊢
          clear hxx f0 f1 f2 r0 r1
          go_wp2_with (refine wpList_append_lies _ rfl (.tmp 136) (.tmp 144) 44 rfl W0.heap.size 22 i0 _ 1 8 Try.underlying44 hi hz0 hz1 hz2 rfl (by omega) (.slice A y cp) y (wc (drL (st s M) y)) rfl (HJ.out.own.alloc _) ⟨_, 0, none⟩ 1 1 [.int .u64 ((v : Nat) : Int)] rfl rfl (news1 _ _) (fun u hu => by simp at hu; subst hu; rfl) (by omega) (by unfold maxLen; omega) (by omega) (by have := HJ.out.but.size; simp; omega) _ rfl ?_; intro g3 cap3 w14 hO2 hG2 _ _; have HJ2 := Lib.hid (((HJ.out.alloc _ (HJ.out.q.below ((Below.refl _ _).alloc (Nat.le_refl _) _))).app (Q' := DQ z a d x0 x1 x2 (st s M) s M) hO2 hG2 (fun hk => DQ.same (HJ.out.q.below ((Below.refl _ _).alloc (Nat.le_refl _) _)) hk HOR.out.1.2.1 HOR.out.1.2.2 HOR.out.2)).to (Q' := DQ z a d x0 x1 x2 (st s M) s M) (fun h => h) HXX.out); clear hO2 hG2)
          go_roundw
          case rel => exact ⟨y + 1, cap3, _, rfl, by go_num, by omega, HJ2.out⟩
          case measure => simp [intOf]; omega
        · obtain rfl : y = x2.toNat := by omega
          go_wp2_with fail
          refine (awake_any _).mono ?_; rintro e w15 ⟨rfl, hb15⟩
          have HJ5 := Lib.hid (HJ.out.call (Q' := DQ z a d x0 x1 x2 (st s M) s M) (But.of_below hb15) (HJ.out.q.below hb15))
          clear hb15 f0 f1 f2 r0 r1
          obtain ⟨f0, f1, f2⟩ := HJ5.out.q.1.c
          go_wp2_with fail
          refine ((draws_any _ a (st s M) x2 hx2b (st_lt _ _) HJ5.out.q.2.1).mono (fun e w' hp => prg_b hp (drL_len _ _))).mono ?_; rintro e w16 ⟨A5, cp5, rfl, hP⟩
          have HP := Lib.hid hP
          have HJ6 := Lib.hid (show w16.ownsRow W0.heap.size 22 1 (.slice A x2.toNat cp) x2.toNat (wc (drL (st s M) x2.toNat)) from HJ5.out.own.kept hP.but.grownBy (Or.inr (fun e => by have := (HJ5.out.own.lt a e).1; have := HOR.out; omega)))
          clear hP f0 f1 f2
          go_wp2_with fail
          go_at_call 16; refine (same_row _ _ _ x2.toNat cp5 cp A5 A (drL (st s M) x2.toNat) (drL_len _ _) (by omega) HP.out.own HJ6.out).mono ?_; rintro e w17 ⟨rfl, n17, rfl⟩
          go_wp2_with fail
          go_ret
          refine ⟨rfl, ?_⟩
          have hor := HOR.out
          have hb1 := HBL.out.trans (HJ5.out.but.below (by simp; omega) HBL.out.size)
          have hb2 := hb1.trans (HP.out.but.below (by simp; omega) hb1.size)
          exact ⟨hb2.os, hb2.tape, hb2.output, hb2.size, hb2.block⟩
theorem diceMakes_walk (s P T G x0 x1 x2 : Int) (w : World) (hs : 0 ≤ s ∧ s ≤ 18446744073709551615) :
    Calls Try.prog 4 #[.int .u64 s, .agg #[.int .i64 P, .int .i64 T, .int .i64 G], .agg #[.int .i64 x0, .int .i64 x1, .int .i64 x2]] w fun e w' => e = .returned (.bool true) ∧ Below w.heap.size w w' := by
  obtain ⟨k, rfl⟩ : ∃ k : Nat, s = (k : Int) := ⟨s.toNat, by omega⟩
  by_cases h1 : 300 < x1
  · exact makes_many k P T G x0 x1 x2 w (Or.inl h1)
  by_cases h2 : 300 < x2
  · exact makes_many k P T G x0 x1 x2 w (Or.inr ⟨by omega, h2⟩)
  by_cases hM : May P T G
  · have hm := hM.h
    obtain ⟨p, rfl⟩ : ∃ k : Nat, P = (k : Int) := ⟨P.toNat, by omega⟩
    obtain ⟨t, rfl⟩ : ∃ k : Nat, T = (k : Int) := ⟨T.toNat, by omega⟩
    obtain ⟨g, rfl⟩ : ∃ k : Nat, G = (k : Int) := ⟨G.toNat, by omega⟩
    exact makes_yes k (by omega) p t g x0 x1 x2 w (by omega) (by omega) hM
  · exact makes_no k (by omega) P T G x0 x1 x2 w (by omega) (by omega) hM
end Go.Proofs.Yteibdjbipfimeaa
