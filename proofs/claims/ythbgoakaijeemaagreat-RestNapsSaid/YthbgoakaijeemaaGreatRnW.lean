/- The walk of the law RestNaps. -/
import Derived.Test.YthbgoakaijeemaaGreatBB
import Derived.Test.YthbgoakaijeemaaGreatR9
import Derived.Test.YthbgoakaijeemaaGreatR6
namespace Go.Proofs.YthbgoakaijeemaaGreat
open Go Go.RowKit
set_option linter.unusedVariables false
set_option maxRecDepth 100000
set_option linter.unusedSimpArgs false

theorem restNaps_bad (P T G th : Int) (E F : Option Addr) (m cp mp cq : Nat) (a v : Nat → Int) (w : World) (hAw : ∀ w, Calls Tryz.prog 40 #[] w fun e w' => e = .returned (.bool true) ∧ Below w.heap.size w w') (hm : m ≤ 9223372036854775807) (hmp : mp ≤ 9223372036854775807) (hs : SeesP w w.heap.size E m a v) (hv : ∀ i, i < m → 0 ≤ v i ∧ v i ≤ 18446744073709551615) (h : (¬ FewC P T G ∨ 400 < m) ∨ 100 < mp ∨ th < 0 ∨ T ≤ th) :
    Calls Tryz.prog 7 #[.agg #[.int .i64 P, .int .i64 T, .int .i64 G, .slice E m cp], .int .i64 th, .slice F mp cq] w fun e w' => e = .returned (.bool true) ∧ Below w.heap.size w w' := by
  have hsz : (w.alloc (.cells #[.int .i64 P, .int .i64 T, .int .i64 G, .slice E m cp] 26)).heap.size = w.heap.size + 1 := by simp
  have HB : Hid (Below w.heap.size w (w.alloc (.cells #[.int .i64 P, .int .i64 T, .int .i64 G, .slice E m cp] 26))) := (Below.refl _ _).alloc (Nat.le_refl _) _
  have hX0 : Hid (Blk (w.alloc (.cells #[.int .i64 P, .int .i64 T, .int .i64 G, .slice E m cp] 26)) w.heap.size #[.int .i64 P, .int .i64 T, .int .i64 G, .slice E m cp] 26) := (Blk.new w #[.int .i64 P, .int .i64 T, .int .i64 G, .slice E m cp] 26)
  have HAW : Hid (∀ w, Calls Tryz.prog 40 #[] w fun e w' => e = .returned (.bool true) ∧ Below w.heap.size w w') := hAw
  clear hAw
  by_cases hf : ¬ FewC P T G ∨ 400 < m
  · have hL := lay_none P T G E m cp (w.alloc (.cells #[.int .i64 P, .int .i64 T, .int .i64 G, .slice E m cp] 26)) hm hf
    clear h hf hs hv
    go_enter Tryz.func7, Tryz.ntmps7
    go_wp2_with fail
    generalize (w.alloc (.cells #[.int .i64 P, .int .i64 T, .int .i64 G, .slice E m cp] 26)) = W at *
    go_at_call 11; refine hL.mono ?_; rintro e w1 ⟨rfl, hLd⟩
    have hbl : Below W.heap.size W w1 := hLd
    have HB1 : Hid (Below w.heap.size w w1) := HB.out.trans (hbl.mono (by omega))
    have hY0 := hX0.out.but (But.of_below (l := []) hbl) (by simp)
    have zG := hY0.cell 1 (v := .int .i64 T) rfl
    clear hL hbl hLd hY0
    go_wp2_with fail
    go_at_call 40; refine (HAW.out _).mono ?_; rintro e w2 ⟨rfl, h2⟩
    have h3 := seq HB1.out h2
    go_wp2_with fail
    go_ret
    exact ⟨rfl, h3⟩
  · have hF : FewC P T G := Decidable.byContradiction fun h => hf (.inl h)
    have hm4 : m ≤ 400 := by omega
    have hM := hF.h.1.h
    obtain ⟨n, hn⟩ : ∃ n : Nat, (n : Int) = 20 + 264 * P + 3 * T + 2 * G := ⟨(20 + 264 * P + 3 * T + 2 * G).toNat, by omega⟩
    have hL := lay_some P T G E m cp n a v _ hm4 hF hn (hs.up (.cells #[.int .i64 P, .int .i64 T, .int .i64 G, .slice E m cp] 26)) hv
    have htt : 100 < mp ∨ th < 0 ∨ T ≤ th := by rcases h with h | h; exact absurd h hf; exact h
    clear h hf hs hv hn hF hM
    by_cases q1 : 100 < mp
    · clear htt
      have e1 : decide ((100 : Int) < (mp : Int)) = true := decide_eq_true (by omega)
      go_enter Tryz.func7, Tryz.ntmps7
      go_wp2_with fail
      generalize (w.alloc (.cells #[.int .i64 P, .int .i64 T, .int .i64 G, .slice E m cp] 26)) = W at *
      go_at_call 11; refine hL.mono ?_; rintro e w1 ⟨cl, A, A', cap, cap', c, b, c', b', rfl, hLd⟩
      have hbl : Below W.heap.size W w1 := hLd.below
      have HB1 : Hid (Below w.heap.size w w1) := HB.out.trans (hbl.mono (by omega))
      have hY0 := hX0.out.but (But.of_below (l := []) hbl) (by simp)
      have zG := hY0.cell 1 (v := .int .i64 T) rfl
      clear hL hbl hLd hY0
      go_wp2_with fail
      go_at_call 40; refine (HAW.out _).mono ?_; rintro e w2 ⟨rfl, h2⟩
      have h3 := seq HB1.out h2
      go_wp2_with fail
      go_ret
      exact ⟨rfl, h3⟩
    have d1 : decide ((100 : Int) < (mp : Int)) = false := decide_eq_false (by omega)
    by_cases q2 : th < 0
    · clear htt
      go_enter Tryz.func7, Tryz.ntmps7
      go_wp2_with fail
      generalize (w.alloc (.cells #[.int .i64 P, .int .i64 T, .int .i64 G, .slice E m cp] 26)) = W at *
      go_at_call 11; refine hL.mono ?_; rintro e w1 ⟨cl, A, A', cap, cap', c, b, c', b', rfl, hLd⟩
      have hbl : Below W.heap.size W w1 := hLd.below
      have HB1 : Hid (Below w.heap.size w w1) := HB.out.trans (hbl.mono (by omega))
      have hY0 := hX0.out.but (But.of_below (l := []) hbl) (by simp)
      have zG := hY0.cell 1 (v := .int .i64 T) rfl
      clear hL hbl hLd hY0
      go_wp2_with fail
      go_at_call 40; refine (HAW.out _).mono ?_; rintro e w2 ⟨rfl, h2⟩
      have h3 := seq HB1.out h2
      go_wp2_with fail
      go_ret
      exact ⟨rfl, h3⟩
    have d2 : decide (th < 0) = false := decide_eq_false (by omega)
    have q3 : T ≤ th := by omega
    clear htt
    go_enter Tryz.func7, Tryz.ntmps7
    go_wp2_with fail
    generalize (w.alloc (.cells #[.int .i64 P, .int .i64 T, .int .i64 G, .slice E m cp] 26)) = W at *
    go_at_call 11; refine hL.mono ?_; rintro e w1 ⟨cl, A, A', cap, cap', c, b, c', b', rfl, hLd⟩
    have hbl : Below W.heap.size W w1 := hLd.below
    have HB1 : Hid (Below w.heap.size w w1) := HB.out.trans (hbl.mono (by omega))
    have hY0 := hX0.out.but (But.of_below (l := []) hbl) (by simp)
    have zG := hY0.cell 1 (v := .int .i64 T) rfl
    clear hL hbl hLd hY0
    go_wp2_with fail
    go_at_call 40; refine (HAW.out _).mono ?_; rintro e w2 ⟨rfl, h2⟩
    have h3 := seq HB1.out h2
    go_wp2_with fail
    go_ret
    exact ⟨rfl, h3⟩

set_option maxHeartbeats 40000000 in
theorem restNaps_ok (P T G th : Int) (E F : Option Addr) (m cp mp cq : Nat) (a v : Nat → Int) (Pks : Nat → Pk) (w : World) (hAw : ∀ w, Calls Tryz.prog 40 #[] w fun e w' => e = .returned (.bool true) ∧ Below w.heap.size w w') (hm : m ≤ 400) (hF : FewC P T G) (hmp : mp ≤ 100) (hs : SeesP w w.heap.size E m a v) (hv : ∀ i, i < m → 0 ≤ v i ∧ v i ≤ 18446744073709551615) (hP : SeesC w w.heap.size F mp 6 (pkC Pks)) (hpv : ∀ j, j < mp → 0 ≤ (Pks j).v ∧ (Pks j).v ≤ 18446744073709551615) (hw0 : 0 ≤ th ∧ th < T) :
    Calls Tryz.prog 7 #[.agg #[.int .i64 P, .int .i64 T, .int .i64 G, .slice E m cp], .int .i64 th, .slice F mp cq] w fun e w' => e = .returned (.bool true) ∧ Below w.heap.size w w' := by
  have hsz : (w.alloc (.cells #[.int .i64 P, .int .i64 T, .int .i64 G, .slice E m cp] 26)).heap.size = w.heap.size + 1 := by simp
  have HB : Hid (Below w.heap.size w (w.alloc (.cells #[.int .i64 P, .int .i64 T, .int .i64 G, .slice E m cp] 26))) := (Below.refl _ _).alloc (Nat.le_refl _) _
  have hX0 : Hid (Blk (w.alloc (.cells #[.int .i64 P, .int .i64 T, .int .i64 G, .slice E m cp] 26)) w.heap.size #[.int .i64 P, .int .i64 T, .int .i64 G, .slice E m cp] 26) := (Blk.new w #[.int .i64 P, .int .i64 T, .int .i64 G, .slice E m cp] 26)
  have HAW : Hid (∀ w, Calls Tryz.prog 40 #[] w fun e w' => e = .returned (.bool true) ∧ Below w.heap.size w w') := hAw
  have hM := hF.h.1.h
  have hFF := hF.h
  have hP64 : 0 ≤ P ∧ P ≤ 64 := by omega
  obtain ⟨n, hn⟩ : ∃ n : Nat, (n : Int) = 20 + 264 * P + 3 * T + 2 * G := ⟨(20 + 264 * P + 3 * T + 2 * G).toNat, by omega⟩
  have hn0 : 0 < n := by omega
  have hn6 : n ≤ 1000000 := by omega
  have hL := lay_some P T G E m cp n a v _ hm hF hn (hs.up (.cells #[.int .i64 P, .int .i64 T, .int .i64 G, .slice E m cp] 26)) hv
  have d1 : decide ((100 : Int) < (mp : Int)) = false := decide_eq_false (by omega)
  have d2 : decide (th < 0) = false := decide_eq_false (by omega)
  have d3 : decide (T ≤ th) = false := decide_eq_false (by omega)
  have HP : Hid (SeesC w w.heap.size F mp 6 (pkC Pks)) := hP
  have HPV : Hid (∀ j, j < mp → 0 ≤ (Pks j).v ∧ (Pks j).v ≤ 18446744073709551615) := hpv
  have hTT : 0 ≤ T ∧ T ≤ 65536 := by omega
  have hw6 : 0 ≤ th ∧ th ≤ 1000000 := by omega
  have HLAW : Hid (∀ cl, (naCp P T G th cl).Laws (naPM P T th) (Rd.lay cl P T G) th) := fun cl => na_laws hP64 hTT
  have HREF : Hid (∀ (w : World) (x : Nat) (A : Option Addr) (cap m : Nat) (gf : Nat → Int) (t : NaT), RunOn w x A cap m gf rn0 → Hist (naPM P T th) (NaT.slp .s1) gf m t → Calls Tryz.prog 42 #[.pointer (some ⟨x, 0, none⟩), .agg #[.int .i64 P, .int .i64 T, .int .i64 G], .int .i64 th] w fun e w' => (∃ b : Bool, e = .returned (.agg #[.int .i64 t.p, .bool t.spins, .bool b])) ∧ RunOn w' x A cap m gf ((naPM P T th).rn t m) ∧ But [x] w w') := fun w x A cap m gf t h hh => by refine (rnap_on w x A cap m gf P T G th t h hh hP64 hTT).mono ?_; rintro e w' ⟨zb, rfl, h1, h2⟩; exact ⟨⟨zb, rfl⟩, h1, h2⟩
  have HGOT : Hid (∀ cl (w : World) (x : Nat) (t : NaT) (L : List Nat), ((naCp P T G th cl).I) w x t L → ((Calls Tryz.prog 46 #[.pointer (some ⟨x, 0, none⟩)] w fun e w' => e = .returned (.int .i64 t.p) ∧ w = w') ∧ Calls Tryz.prog 47 #[.pointer (some ⟨x, 0, none⟩)] w fun e w' => e = .returned (.bool t.spins) ∧ w = w')) := fun cl w x t L h => ⟨na_tells_P h, na_tells_S h⟩
  have HNEW : Hid (∀ cl (w : World), Lay w cl P T G → Calls Tryz.prog 41 #[.pointer (some ⟨cl, 0, none⟩), .int .i64 th] w fun e w' => ∃ x L, e = .returned (.pointer (some ⟨x, 0, none⟩)) ∧ ((naCp P T G th cl).I) w' x (NaT.slp .s1) L ∧ Below w.heap.size w w' ∧ (∀ k ∈ L, w.heap.size ≤ k)) := fun cl w h => (na_new_at w cl th P T G h hP64 hTT).mono fun e w' ⟨x, L, h1, h2, h3, h4, _⟩ => ⟨x, L, h1, h2, h3, h4⟩
  have HASL : Hid (∀ cl, Aslp (naPM P T th) ((naCp P T G th cl).I) 48) := fun cl => na_aslp hP64 hTT
  have HTH : Hid (0 ≤ th ∧ th ≤ 65536) := ⟨by omega, by omega⟩
  have HTH2 : Hid (0 ≤ th ∧ th < T) := hw0
  have HP64 : Hid (0 ≤ P ∧ P ≤ 64) := hP64
  have HT2 : Hid (0 ≤ T ∧ T ≤ 65536) := hTT
  clear hw6 hTT
  clear hAw hs hv hn hF hM hFF hP hpv
  go_enter Tryz.func7, Tryz.ntmps7
  go_wp2_with fail
  generalize (w.alloc (.cells #[.int .i64 P, .int .i64 T, .int .i64 G, .slice E m cp] 26)) = W at *
  go_at_call 11; refine hL.mono ?_; rintro e w1 ⟨cl, A, A', cap, cap', c, b, c', b', rfl, hLd⟩
  have HL : Hid (Laid W w1 P T G n (putF a v n m) cl A A' cap cap' c b c' b') := hLd
  have hbl := hLd.below
  have HB1 : Hid (Below w.heap.size w w1) := HB.out.trans (hbl.mono (by omega))
  have hY0 := hX0.out.but (But.of_below (l := []) hbl) (by simp)
  have zG := hY0.cell 1 (v := .int .i64 T) rfl
  have HXb : Hid (∀ k, Blk (w1.drewN k) w.heap.size #[.int .i64 P, .int .i64 T, .int .i64 G, .slice E m cp] 26) := fun k => hY0.drewN k
  have HXw : Hid (Blk w1 w.heap.size #[.int .i64 P, .int .i64 T, .int .i64 G, .slice E m cp] 26) := hY0
  clear hL hLd hbl hY0
  go_wp2_with fail
  have hT1 : Hid (Two w1 A A' cap cap' c b c' b' n (fresh (putF a v n m))) := HL.out.two
  have HB2 : Hid (Below w.heap.size w w1) := HB1.out
  have HLy2 : Hid (Lay w1 cl P T G) := HL.out.lay
  have HX2 : Hid (Blk w1 w.heap.size #[.int .i64 P, .int .i64 T, .int .i64 G, .slice E m cp] 26) := HXw.out
  obtain ⟨u1, u2, u3, u4, u5⟩ := HL.out.up
  have hup : Hid (w.heap.size ≤ c ∧ w.heap.size ≤ b ∧ w.heap.size ≤ c' ∧ w.heap.size ≤ b') := ⟨by omega, by omega, by omega, by omega⟩
  have hbx : Hid (w.heap.size ≠ c ∧ w.heap.size ≠ b ∧ w.heap.size ≠ c' ∧ w.heap.size ≠ b' ∧ w.heap.size ≠ cl) := ⟨by omega, by omega, by omega, by omega, by omega⟩
  have hclup : Hid (w.heap.size ≤ cl) := (by omega : w.heap.size ≤ cl)
  generalize hw2 : w1 = w2 at *
  have z0 := HX2.out.cell 0 (v := .int .i64 P) rfl
  have z1 := HX2.out.cell 1 (v := .int .i64 T) rfl
  have z2 := HX2.out.cell 2 (v := .int .i64 G) rfl
  clear HL HB1 HXb HXw u1 u2 u3 u4 u5 hw2 hX0 HB hsz zG
  have hne : Hid (cl ≠ c ∧ cl ≠ b) := lay_ne HLy2.out (by decide) hT1.out.m hn0
  have hne2 : Hid (cl ≠ c' ∧ cl ≠ b') := lay_ne HLy2.out (by decide) hT1.out.r hn0
  have HLW : Hid (((naCp P T G th cl).I).Good (naPM P T th) ∧ Steps (naPM P T th) ((naCp P T G th cl).I) (Rd.lay cl P T G) 49 th) := ⟨Cp.good (HLAW.out cl), Cp.steps (HLAW.out cl) stepby_rnap⟩
  have HGD : Hid (((naCp P T G th cl).I).Good (naPM P T th)) := HLW.out.1
  have hN := HNEW.out cl w2 HLy2.out
  go_wp2_with fail
  go_at_call 41; refine hN.mono ?_; rintro e w3 ⟨x, L0, rfl, hi0, hb3, hu1⟩
  have HO0 : Hid (LawOn ((naCp P T G th cl).I) ((Rd.lay cl P T G).and (Rd.blk w.heap.size #[.int .i64 P, .int .i64 T, .int .i64 G, .slice E m cp] 26)) w w3 A A' cap cap' c b c' b' n (fresh (putF a v n m)) (fresh (putF a v n m)) none 0 0 (fun _ => 0) x (NaT.slp .s1) L0 [cl, w.heap.size]) := LawOn.begin hT1.out hb3 HB2.out hup.out hi0 HGD.out hu1 ⟨HLy2.out.below hb3 HLy2.out.lt, HX2.out.but (But.of_below (l := []) hb3) (by simp)⟩ (fun k hk => hk) (by
    obtain ⟨n1, n2⟩ := hne.out; obtain ⟨n3, n4⟩ := hne2.out; obtain ⟨n5, n6, n7, n8, n9⟩ := hbx.out
    intro k hk
    simp only [List.mem_cons, List.not_mem_nil, or_false] at hk
    rcases hk with rfl | rfl
    · exact ⟨⟨n1, n2, n3, n4⟩, HLy2.out.lt, hclup.out⟩
    · exact ⟨⟨n5, n6, n7, n8⟩, HX2.out.lt, Nat.le_refl _⟩)
  clear hN hi0 hb3 hu1 hT1 HB2 HX2 HLy2 z0 z1 z2 hup hbx hclup hne hne2
  go_wp2_with fail
  go_loopw [12, 13] (fun gv i wr => ∃ (k : Nat) (s : St) (Ag : Option Addr) (capg mg : Nat) (gf : Nat → Int) (t : NaT) (L : List Nat), k ≤ mp ∧ i = .int .i64 k ∧ gv = .slice Ag mg capg ∧ mg ≤ k ∧ Hid (LawOn ((naCp P T G th cl).I) ((Rd.lay cl P T G).and (Rd.blk w.heap.size #[.int .i64 P, .int .i64 T, .int .i64 G, .slice E m cp] 26)) w wr A A' cap cap' c b c' b' n s s Ag capg mg gf x t L [cl, w.heap.size]) ∧ Hid (Low s (k : Int)) ∧ Hid (Hist (naPM P T th) (NaT.slp .s1) gf mg t)) (fun _ i _ => mp - (intOf i).toNat)
  case atStart => exact ⟨0, _, none, 0, 0, _, (NaT.slp .s1), L0, Nat.zero_le _, rfl, rfl, Nat.le_refl _, HO0, low_fresh _, Hist.start _ _ _⟩
  case round =>
    clear HO0
    obtain ⟨k, s, Ag, capg, mg, gf, t, L, hk, rfl, rfl, hmg, HO, HLo, HH⟩ := hrel
    by_cases hlt : k < mp
    · obtain ⟨fb, foff, rfl, hfb, hcell⟩ := HP.out (by omega)
      have hcw : Hid (∀ i u, (pkC Pks k)[i]? = some u → wr.cell? ⟨fb, foff + k * 6 + i, none⟩ = some u) := fun i u hu => (HO.out.poke.below.cell (p := ⟨fb, foff + k * 6 + i, none⟩) hfb).trans (hcell k hlt i u hu)
      have pz := hcw.out 0 (.bool (Pks k).z) rfl
      have hk0 : (0 : Int) ≤ (k : Int) := Int.natCast_nonneg _
      have hk1 : (k : Int) < (mp : Int) := by omega
      clear hcell
      rw [Nat.add_zero] at pz
      cases hz : (Pks k).z
      · rw [hz] at pz
        have HRA : Hid (wr.rangeAt fb (foff + k * 6 + 1) [.int .i64 (Pks k).k, .int .i64 (Pks k).p, .int .i64 (Pks k).i, .int .u64 (Pks k).o, .int .u64 (Pks k).v]) := fun j u hu => by
          have := hcw.out (1 + j) u (by rw [show pkC Pks k = .bool (Pks k).z :: [.int .i64 (Pks k).k, .int .i64 (Pks k).p, .int .i64 (Pks k).i, .int .u64 (Pks k).o, .int .u64 (Pks k).v] from rfl, Nat.add_comm 1 j, List.getElem?_cons_succ]; exact hu)
          rw [← Nat.add_assoc] at this
          exact this
        clear hz hcw
        go_wp2_with (refine wpList_load_mid rfl 41 _ rfl fb (foff + k * 6 + 1) rfl [.int .i64 (Pks k).k, .int .i64 (Pks k).p, .int .i64 (Pks k).i, .int .u64 (Pks k).o, .int .u64 (Pks k).v] _ HRA.out Tryz.underlying41 rfl (by kernel_rfl) ?_)
        go_at_call 14; refine (HO.out.pokes HGD.out hn6 (HLo.out.more (by omega)) (Pks k).k (Pks k).p (Pks k).i (Pks k).o (Pks k).v (HPV.out k hlt)).mono ?_; rintro e w9 ⟨rfl, hO⟩
        have HO9 : Hid _ := hO
        have HLo9 : Hid (Low (actS (Pks k).k (Pks k).p (Pks k).i (Pks k).o (Pks k).v n s) (((k + 1 : Nat)) : Int)) := (actS_low HLo.out _ _ _ _ _ _).more (by omega)
        clear hO HO HRA pz
        go_wp2_with fail
        go_roundw
        case rel => exact ⟨k + 1, _, Ag, capg, mg, gf, t, L, by omega, by go_num, rfl, by omega, HO9, HLo9, HH⟩
        case measure => simp [intOf]; omega
      · rw [hz] at pz
        clear hz hcw
        have hR0 : Hid (RunOn (wr.alloc (.cells (runL (.slice Ag mg capg) rn0).toArray 48)) wr.heap.size Ag capg mg gf rn0) := run_starts HO.out.poke.got (by omega)
        have hb0 : Hid (Below wr.heap.size wr (wr.alloc (.cells (runL (.slice Ag mg capg) rn0).toArray 48))) := (Below.refl _ _).alloc (Nat.le_refl _) _
        have hRR := HREF.out _ _ Ag capg mg gf t hR0.out HH.out
        have y0 := HO.out.rd.2.cell 0 (v := .int .i64 P) rfl
        have y1 := HO.out.rd.2.cell 1 (v := .int .i64 T) rfl
        have y2 := HO.out.rd.2.cell 2 (v := .int .i64 G) rfl
        have hbl0 : w.heap.size < wr.heap.size := HO.out.rd.2.lt
        go_wp2_with fail
        go_at_call 42; refine hRR.mono ?_; rintro e w40 ⟨⟨zb, rfl⟩, hR40, hB40⟩
        have hs40 : wr.heap.size < w40.heap.size := hR40.blk.lt
        have hb40 : Below wr.heap.size wr w40 := hb0.out.trans (hB40.below (by simp) (by simp))
        have HO40 : Hid (LawOn ((naCp P T G th cl).I) ((Rd.lay cl P T G).and (Rd.blk w.heap.size #[.int .i64 P, .int .i64 T, .int .i64 G, .slice E m cp] 26)) w w40 A A' cap cap' c b c' b' n s s Ag capg mg gf x t L [cl, w.heap.size]) := HO.out.still HGD.out hb40
        have hbw : Below w40.heap.size w40 (w40.alloc (.cells #[.int .i64 t.p, .bool t.spins, .bool zb] 84)) := (Below.refl _ _).alloc (Nat.le_refl _) _
        have HK40 : Hid (Blk (w40.alloc (.cells #[.int .i64 t.p, .bool t.spins, .bool zb] 84)) w40.heap.size #[.int .i64 t.p, .bool t.spins, .bool zb] 84) := Blk.new _ _ _
        have HO44 : Hid (LawOn ((naCp P T G th cl).I) ((Rd.lay cl P T G).and (Rd.blk w.heap.size #[.int .i64 P, .int .i64 T, .int .i64 G, .slice E m cp] 26)) w (w40.alloc (.cells #[.int .i64 t.p, .bool t.spins, .bool zb] 84)) A A' cap cap' c b c' b' n s s Ag capg mg gf x t L [cl, w.heap.size]) := HO40.out.still HGD.out hbw
        have HR44 : Hid (RunOn (w40.alloc (.cells #[.int .i64 t.p, .bool t.spins, .bool zb] 84)) wr.heap.size Ag capg mg gf ((naPM P T th).rn t mg)) := hR40.below hbw
        have hs44 : Hid (wr.heap.size < (w40.alloc (.cells #[.int .i64 t.p, .bool t.spins, .bool zb] 84)).heap.size ∧ w40.heap.size < (w40.alloc (.cells #[.int .i64 t.p, .bool t.spins, .bool zb] 84)).heap.size) := ⟨Nat.lt_of_lt_of_le hs40 hbw.size, HK40.out.lt⟩
        have HOK : Hid (∀ a, (naPM P T th).ax t = some a → a.Ok) := fun a ha => Cp.axok (HLAW.out cl) HO40.out.mach a ha
        clear hRR hR40 hB40 hR0 hb0 hb40 HO pz y0 y1 y2 hbl0 hbw hs40
        have y0 := HO40.out.rd.2.cell 0 (v := .int .i64 P) rfl
        have y1 := HO40.out.rd.2.cell 1 (v := .int .i64 T) rfl
        have y2 := HO40.out.rd.2.cell 2 (v := .int .i64 G) rfl
        have hbl1 : w.heap.size < w40.heap.size := HO40.out.rd.2.lt
        clear HO40
        go_wp2_with fail
        generalize (w40.alloc (.cells #[.int .i64 t.p, .bool t.spins, .bool zb] 84)) = w3' at *
        generalize w40.heap.size = g4 at *
        have hThr := rthr_any P T G th 0 w3' HP64.out HTH.out (by omega)
        obtain ⟨iv, hiv⟩ : ∃ iv : Int, 20 + 264 * P + 3 * th + 0 = iv := ⟨_, rfl⟩
        rw [hiv] at hThr
        have HIV : Hid (20 + 264 * P + 3 * th + 0 = iv) := hiv
        clear hiv
        go_at_call 44; refine hThr.mono ?_; rintro e w4 ⟨rfl, hb4⟩
        have HO4 : Hid (LawOn ((naCp P T G th cl).I) ((Rd.lay cl P T G).and (Rd.blk w.heap.size #[.int .i64 P, .int .i64 T, .int .i64 G, .slice E m cp] 26)) w w4 A A' cap cap' c b c' b' n s s Ag capg mg gf x t L [cl, w.heap.size]) := HO44.out.still HGD.out hb4
        have HR4 : Hid (RunOn w4 wr.heap.size Ag capg mg gf ((naPM P T th).rn t mg)) := HR44.out.below hb4
        have HK4 : Hid (Blk w4 g4 #[.int .i64 t.p, .bool t.spins, .bool zb] 84) := HK40.out.but (But.of_below (l := []) hb4) (by simp)
        have hs4 : Hid (wr.heap.size < w4.heap.size ∧ g4 < w4.heap.size) := ⟨Nat.lt_of_lt_of_le hs44.out.1 hb4.size, Nat.lt_of_lt_of_le hs44.out.2 hb4.size⟩
        have hPk := rpeek_any w4 A' cap' c' b' n s iv hn6 HO4.out.poke.two.r
        clear hThr hb4 y0 y1 y2 hbl1 HO44 HR44 HK40 hs44
        go_wp2_with fail
        go_at_call 43; refine Calls.mono hPk ?_; rintro e w41 ⟨rfl, rfl⟩
        clear hPk
        have HAL : Hid (∀ Y, Below w4.heap.size w4 Y → Calls Tryz.prog 48 #[.pointer (some ⟨x, 0, none⟩), .pointer (some ⟨c, 0, none⟩)] Y fun e w' => e = .returned (.bool (((naPM P T th).ax t).isSome && (((naPM P T th).rn t mg).sleep && decide (peekT n s iv = 0)))) ∧ Below Y.heap.size Y w') := fun Y hY => by
          have h := HASL.out cl Y A cap c b n s x t L (HGD.out.below HO4.out.mach hY) (HO4.out.poke.two.m.below hY) hn6 (fun k hk => ⟨(HO4.out.poke.far k (List.mem_append_left _ hk)).1.1, (HO4.out.poke.far k (List.mem_append_left _ hk)).1.2.1⟩)
          rw [PM.aslp_eq (m := mg) (I := iv) (fun a ha hs => (na_slp HTH2.out ha hs).trans HIV.out)] at h
          exact h
        have k0 := HK4.out.cell 0 (v := .int .i64 t.p) rfl
        have k1 := HK4.out.cell 1 (v := .bool t.spins) rfl
        have s2 := HR4.out.blk.cell 2 (v := .bool ((naPM P T th).rn t mg).stop) rfl
        have s9 := HR4.out.blk.cell 9 (v := .bool ((naPM P T th).rn t mg).sleep) rfl
        rw [PM.rn_stop] at s2
        have HD0 : Hid (∀ Y, Below w4.heap.size w4 Y → Calls Tryz.prog 45 #[.pointer (some ⟨x, 0, none⟩)] Y fun e w' => e = .returned (.bool (!((naPM P T th).ax t).isSome)) ∧ Y = w') := fun Y hY => by
          obtain ⟨nx, hx1, hx2⟩ := HGD.out.next (HGD.out.below HO4.out.mach hY)
          rw [show (!((naPM P T th).ax t).isSome) = ((naPM P T th).ax t).isNone by cases (naPM P T th).ax t <;> rfl, ← hx2]
          exact done_rnap Y x nx hx1
        have HPv : Hid (∀ Y, Below w4.heap.size w4 Y → Calls Tryz.prog 46 #[.pointer (some ⟨x, 0, none⟩)] Y fun e w' => e = .returned (.int .i64 t.p) ∧ Y = w') := fun Y hY => (HGOT.out cl Y x t L (HGD.out.below HO4.out.mach hY)).1
        have HSv : Hid (∀ Y, Below w4.heap.size w4 Y → Calls Tryz.prog 47 #[.pointer (some ⟨x, 0, none⟩)] Y fun e w' => e = .returned (.bool t.spins) ∧ Y = w') := fun Y hY => (HGOT.out cl Y x t L (HGD.out.below HO4.out.mach hY)).2
        clear HK4
        generalize t.p = tp at *
        generalize t.spins = ts at *
        have hsn : ((naPM P T th).ax t).isSome = false → ((naPM P T th).rn t mg).sleep = false := fun h => by cases hx : (naPM P T th).ax t with
          | none => rw [PM.rn_none hx]
          | some a => rw [hx] at h; cases h
        generalize hst : ((naPM P T th).ax t).isSome = st at *
        generalize hsl : ((naPM P T th).rn t mg).sleep = sl at *
        generalize hwv : peekT n s iv = wv at *
        rcases hcs : st with _ | _
        · as_aux_lemma =>
          subst hcs
          obtain rfl : sl = false := hsn rfl
          have HD : Hid (∀ Y, Below w4.heap.size w4 Y → Calls Tryz.prog 45 #[.pointer (some ⟨x, 0, none⟩)] Y fun e w' => e = .returned (.bool true) ∧ Y = w') := HD0
          have HA : Hid (∀ Y, Below w4.heap.size w4 Y → Calls Tryz.prog 48 #[.pointer (some ⟨x, 0, none⟩), .pointer (some ⟨c, 0, none⟩)] Y fun e w' => e = .returned (.bool false) ∧ Below Y.heap.size Y w') := HAL
          have hH : Hid (w4.drew.cell? ⟨wr.heap.size, 2, none⟩ = some (.bool false) ∧ w4.drew.cell? ⟨wr.heap.size, 9, none⟩ = some (.bool false) ∧ w4.drew.cell? ⟨g4, 0, none⟩ = some (.int .i64 tp) ∧ w4.drew.cell? ⟨g4, 1, none⟩ = some (.bool ts) ∧ Below w4.heap.size w4 w4.drew) := ⟨s2, s9, k0, k1, (Below.refl _ _).drew⟩
          have KEEP : Hid (∀ X w' : World, (X.cell? ⟨wr.heap.size, 2, none⟩ = some (.bool false) ∧ X.cell? ⟨wr.heap.size, 9, none⟩ = some (.bool false) ∧ X.cell? ⟨g4, 0, none⟩ = some (.int .i64 tp) ∧ X.cell? ⟨g4, 1, none⟩ = some (.bool ts) ∧ Below w4.heap.size w4 X) → Below X.heap.size X w' → (w'.cell? ⟨wr.heap.size, 2, none⟩ = some (.bool false) ∧ w'.cell? ⟨wr.heap.size, 9, none⟩ = some (.bool false) ∧ w'.cell? ⟨g4, 0, none⟩ = some (.int .i64 tp) ∧ w'.cell? ⟨g4, 1, none⟩ = some (.bool ts) ∧ Below w4.heap.size w4 w')) := fun X w' h k => ⟨(k.cell (p := ⟨wr.heap.size, 2, none⟩) (Nat.lt_of_lt_of_le hs4.out.1 h.2.2.2.2.size)).trans h.1, (k.cell (p := ⟨wr.heap.size, 9, none⟩) (Nat.lt_of_lt_of_le hs4.out.1 h.2.2.2.2.size)).trans h.2.1, (k.cell (p := ⟨g4, 0, none⟩) (Nat.lt_of_lt_of_le hs4.out.2 h.2.2.2.2.size)).trans h.2.2.1, (k.cell (p := ⟨g4, 1, none⟩) (Nat.lt_of_lt_of_le hs4.out.2 h.2.2.2.2.size)).trans h.2.2.2.1, h.2.2.2.2.trans (k.mono h.2.2.2.2.size)⟩
          clear hst hsl hsn k0 k1 s9 HD0 HAL
          go_wp2_with fail
          refine wp_region_held_drew (S := fun w' => w'.cell? ⟨wr.heap.size, 2, none⟩ = some (.bool false) ∧ w'.cell? ⟨wr.heap.size, 9, none⟩ = some (.bool false) ∧ w'.cell? ⟨g4, 0, none⟩ = some (.int .i64 tp) ∧ w'.cell? ⟨g4, 1, none⟩ = some (.bool ts) ∧ Below w4.heap.size w4 w') (by kernel_rfl) hH.out (fun hHeld => ?_)
          refine wpAnyH_take (i := 0) (oi := { dst := some 85, op := Op.move (Operand.tmp 11), type := 81, pos := "law.go:44", after := #[], guard := none }) (v := ?_) rfl (by kernel_rfl) (by kernel_rfl) (by kernel_rfl) (fun _ _ _ h => h) (Or.inl ⟨by rfl, ?_⟩) (by assumption) ?_
          rotate_left
          focus (intro w hSw; (try dsimp only at hSw); first | (go_simp; done) | (go_simp; with_reducible rfl))
          try simp only [Act.put, List.setIfInBounds_toArray, List.set_cons_zero, List.set_cons_succ]
          refine wpAnyH_take (i := 2) (oi := { dst := some 87, op := Op.fieldAddr 48 (Operand.tmp 14) 2, type := 0, pos := "law.go:44", after := #[], guard := none }) (v := ?_) rfl (by kernel_rfl) (by kernel_rfl) (by kernel_rfl) (fun _ _ _ h => h) (Or.inl ⟨by rfl, ?_⟩) (by assumption) ?_
          rotate_left
          focus (intro w hSw; (try dsimp only at hSw); first | (go_simp; done) | (go_simp; with_reducible rfl))
          try simp only [Act.put, List.setIfInBounds_toArray, List.set_cons_zero, List.set_cons_succ]
          refine wpAnyH_take (i := 3) (oi := { dst := some 88, op := Op.load 4 (Operand.tmp 87), type := 4, pos := "law.go:44", after := #[{ on := 2, ground := Ground.data }], guard := none }) (v := ?_) rfl (by kernel_rfl) (by kernel_rfl) (by kernel_rfl) (fun _ _ _ h => h) (Or.inl ⟨by rfl, ?_⟩) (by assumption) ?_
          rotate_left
          focus (intro w hSw; (try dsimp only at hSw); first | (go_simp; done) | (go_simp; with_reducible rfl))
          try simp only [Act.put, List.setIfInBounds_toArray, List.set_cons_zero, List.set_cons_succ]
          refine wpAnyH_ready (rs := [1]) (by kernel_rfl) (by simp) ?_
          refine AllReadyH.cons (o := { dst := some 86, op := Op.call { callee := Callee.value (Operand.func 45), args := #[Operand.tmp 85], argTypes := #[81] }, type := 4, pos := "law.go:44", after := #[{ on := 0, ground := Ground.data }], guard := none }) rfl (fun K hK => ?_) AllReadyH.nil
          go_simp
          go_at_call 45; refine (HD.out _ hHeld.2.2.2.2).mono ?_; rintro e x1 ⟨rfl, rfl⟩
          try go_wp2_with fail
          have hNew := hHeld
          clear hHeld
          have hHeld := hNew
          clear hNew
          refine hK.out _ _ hHeld (fun _ => ?_)
          clear hK K
          try simp only [Act.put, List.setIfInBounds_toArray, List.set_cons_zero, List.set_cons_succ]
          refine wpAnyH_take (i := 4) (oi := { dst := some 89, op := Op.binOp BinOp.eql 4 (Operand.tmp 86) (Operand.tmp 88) 4, type := 4, pos := "law.go:44", after := #[{ on := 1, ground := Ground.data }, { on := 3, ground := Ground.data }], guard := none }) (v := ?_) rfl (by kernel_rfl) (by kernel_rfl) (by kernel_rfl) (fun _ _ _ h => h) (Or.inl ⟨by rfl, ?_⟩) (by assumption) ?_
          rotate_left
          focus (intro w hSw; (try dsimp only at hSw); first | (go_simp; done) | (go_simp; with_reducible rfl))
          try simp only [Act.put, List.setIfInBounds_toArray, List.set_cons_zero, List.set_cons_succ]
          refine wpAnyH_take (i := 5) (oi := { dst := some 90, op := Op.move (Operand.tmp 89), type := 4, pos := "law.go:44", after := #[{ on := 4, ground := Ground.data }, { on := 1, ground := Ground.chain }], guard := none }) (v := ?_) rfl (by kernel_rfl) (by kernel_rfl) (by kernel_rfl) (fun _ _ _ h => h) (Or.inl ⟨by rfl, ?_⟩) (by assumption) ?_
          rotate_left
          focus (intro w hSw; (try dsimp only at hSw); first | (go_simp; done) | (go_simp; with_reducible rfl))
          try simp only [Act.put, List.setIfInBounds_toArray, List.set_cons_zero, List.set_cons_succ]
          refine wpAnyH_take (i := 6) (oi := { dst := some 91, op := Op.move (Operand.tmp 11), type := 81, pos := "law.go:44", after := #[{ on := 5, ground := Ground.guard }], guard := some (5, false) }) (v := ?_) rfl (by kernel_rfl) (by kernel_rfl) (by kernel_rfl) (fun _ _ _ h => h) (Or.inl ⟨by rfl, ?_⟩) (by assumption) ?_
          rotate_left
          focus (intro w hSw; (try dsimp only at hSw); first | (go_simp; done) | (go_simp; with_reducible rfl))
          try simp only [Act.put, List.setIfInBounds_toArray, List.set_cons_zero, List.set_cons_succ]
          refine wpAnyH_take (i := 8) (oi := { dst := some 93, op := Op.fieldAddr 84 (Operand.tmp 15) 0, type := 0, pos := "law.go:44", after := #[{ on := 5, ground := Ground.guard }], guard := some (5, false) }) (v := ?_) rfl (by kernel_rfl) (by kernel_rfl) (by kernel_rfl) (fun _ _ _ h => h) (Or.inl ⟨by rfl, ?_⟩) (by assumption) ?_
          rotate_left
          focus (intro w hSw; (try dsimp only at hSw); first | (go_simp; done) | (go_simp; with_reducible rfl))
          try simp only [Act.put, List.setIfInBounds_toArray, List.set_cons_zero, List.set_cons_succ]
          refine wpAnyH_take (i := 9) (oi := { dst := some 94, op := Op.load 3 (Operand.tmp 93), type := 3, pos := "law.go:44", after := #[{ on := 8, ground := Ground.data }, { on := 5, ground := Ground.guard }], guard := some (5, false) }) (v := ?_) rfl (by kernel_rfl) (by kernel_rfl) (by kernel_rfl) (fun _ _ _ h => h) (Or.inl ⟨by rfl, ?_⟩) (by assumption) ?_
          rotate_left
          focus (intro w hSw; (try dsimp only at hSw); first | (go_simp; done) | (go_simp; with_reducible rfl))
          try simp only [Act.put, List.setIfInBounds_toArray, List.set_cons_zero, List.set_cons_succ]
          refine wpAnyH_ready (rs := [7]) (by kernel_rfl) (by simp) ?_
          refine AllReadyH.cons (o := { dst := some 92, op := Op.call { callee := Callee.value (Operand.func 46), args := #[Operand.tmp 91], argTypes := #[81] }, type := 3, pos := "law.go:44", after := #[{ on := 6, ground := Ground.data }, { on := 5, ground := Ground.chain }, { on := 5, ground := Ground.guard }], guard := some (5, false) }) rfl (fun K hK => ?_) AllReadyH.nil
          go_simp
          go_at_call 46; refine (HPv.out _ hHeld.2.2.2.2).mono ?_; rintro e x2 ⟨rfl, rfl⟩
          try go_wp2_with fail
          have hNew := hHeld
          clear hHeld
          have hHeld := hNew
          clear hNew
          refine hK.out _ _ hHeld (fun _ => ?_)
          clear hK K
          try simp only [Act.put, List.setIfInBounds_toArray, List.set_cons_zero, List.set_cons_succ]
          refine wpAnyH_take (i := 10) (oi := { dst := some 95, op := Op.binOp BinOp.neq 3 (Operand.tmp 92) (Operand.tmp 94) 3, type := 4, pos := "law.go:44", after := #[{ on := 7, ground := Ground.data }, { on := 9, ground := Ground.data }, { on := 5, ground := Ground.guard }], guard := some (5, false) }) (v := ?_) rfl (by kernel_rfl) (by kernel_rfl) (by kernel_rfl) (fun _ _ _ h => h) (Or.inl ⟨by rfl, ?_⟩) (by assumption) ?_
          rotate_left
          focus (intro w hSw; (try dsimp only at hSw); first | (go_simp; done) | (go_simp; with_reducible rfl))
          try simp only [Act.put, List.setIfInBounds_toArray, List.set_cons_zero, List.set_cons_succ]
          refine wpAnyH_take (i := 11) (oi := { dst := some 96, op := Op.pick (Operand.tmp 90) (Operand.const (Value.bool true)) (Operand.tmp 95), type := 4, pos := "law.go:44", after := #[{ on := 5, ground := Ground.data }, { on := 10, ground := Ground.data }], guard := none }) (v := ?_) rfl (by kernel_rfl) (by kernel_rfl) (by kernel_rfl) (fun _ _ _ h => h) (Or.inl ⟨by rfl, ?_⟩) (by assumption) ?_
          rotate_left
          focus (intro w hSw; (try dsimp only at hSw); first | (go_simp; done) | (go_simp; with_reducible rfl))
          try simp only [Act.put, List.setIfInBounds_toArray, List.set_cons_zero, List.set_cons_succ]
          refine wpAnyH_take (i := 12) (oi := { dst := some 97, op := Op.move (Operand.tmp 96), type := 4, pos := "law.go:44", after := #[{ on := 11, ground := Ground.data }, { on := 7, ground := Ground.chain }], guard := none }) (v := ?_) rfl (by kernel_rfl) (by kernel_rfl) (by kernel_rfl) (fun _ _ _ h => h) (Or.inl ⟨by rfl, ?_⟩) (by assumption) ?_
          rotate_left
          focus (intro w hSw; (try dsimp only at hSw); first | (go_simp; done) | (go_simp; with_reducible rfl))
          try simp only [Act.put, List.setIfInBounds_toArray, List.set_cons_zero, List.set_cons_succ]
          refine wpAnyH_take (i := 13) (oi := { dst := some 98, op := Op.move (Operand.tmp 11), type := 81, pos := "law.go:44", after := #[{ on := 12, ground := Ground.guard }], guard := some (12, false) }) (v := ?_) rfl (by kernel_rfl) (by kernel_rfl) (by kernel_rfl) (fun _ _ _ h => h) (Or.inl ⟨by rfl, ?_⟩) (by assumption) ?_
          rotate_left
          focus (intro w hSw; (try dsimp only at hSw); first | (go_simp; done) | (go_simp; with_reducible rfl))
          try simp only [Act.put, List.setIfInBounds_toArray, List.set_cons_zero, List.set_cons_succ]
          refine wpAnyH_take (i := 15) (oi := { dst := some 100, op := Op.fieldAddr 84 (Operand.tmp 15) 1, type := 0, pos := "law.go:44", after := #[{ on := 12, ground := Ground.guard }], guard := some (12, false) }) (v := ?_) rfl (by kernel_rfl) (by kernel_rfl) (by kernel_rfl) (fun _ _ _ h => h) (Or.inl ⟨by rfl, ?_⟩) (by assumption) ?_
          rotate_left
          focus (intro w hSw; (try dsimp only at hSw); first | (go_simp; done) | (go_simp; with_reducible rfl))
          try simp only [Act.put, List.setIfInBounds_toArray, List.set_cons_zero, List.set_cons_succ]
          refine wpAnyH_take (i := 16) (oi := { dst := some 101, op := Op.load 4 (Operand.tmp 100), type := 4, pos := "law.go:44", after := #[{ on := 15, ground := Ground.data }, { on := 12, ground := Ground.guard }], guard := some (12, false) }) (v := ?_) rfl (by kernel_rfl) (by kernel_rfl) (by kernel_rfl) (fun _ _ _ h => h) (Or.inl ⟨by rfl, ?_⟩) (by assumption) ?_
          rotate_left
          focus (intro w hSw; (try dsimp only at hSw); first | (go_simp; done) | (go_simp; with_reducible rfl))
          try simp only [Act.put, List.setIfInBounds_toArray, List.set_cons_zero, List.set_cons_succ]
          refine wpAnyH_ready (rs := [14]) (by kernel_rfl) (by simp) ?_
          refine AllReadyH.cons (o := { dst := some 99, op := Op.call { callee := Callee.value (Operand.func 47), args := #[Operand.tmp 98], argTypes := #[81] }, type := 4, pos := "law.go:44", after := #[{ on := 13, ground := Ground.data }, { on := 12, ground := Ground.chain }, { on := 12, ground := Ground.guard }], guard := some (12, false) }) rfl (fun K hK => ?_) AllReadyH.nil
          go_simp
          go_at_call 47; refine (HSv.out _ hHeld.2.2.2.2).mono ?_; rintro e x3 ⟨rfl, rfl⟩
          try go_wp2_with fail
          have hNew := hHeld
          clear hHeld
          have hHeld := hNew
          clear hNew
          refine hK.out _ _ hHeld (fun _ => ?_)
          clear hK K
          try simp only [Act.put, List.setIfInBounds_toArray, List.set_cons_zero, List.set_cons_succ]
          refine wpAnyH_take (i := 17) (oi := { dst := some 102, op := Op.binOp BinOp.neq 4 (Operand.tmp 99) (Operand.tmp 101) 4, type := 4, pos := "law.go:44", after := #[{ on := 14, ground := Ground.data }, { on := 16, ground := Ground.data }, { on := 12, ground := Ground.guard }], guard := some (12, false) }) (v := ?_) rfl (by kernel_rfl) (by kernel_rfl) (by kernel_rfl) (fun _ _ _ h => h) (Or.inl ⟨by rfl, ?_⟩) (by assumption) ?_
          rotate_left
          focus (intro w hSw; (try dsimp only at hSw); first | (go_simp; done) | (go_simp; with_reducible rfl))
          try simp only [Act.put, List.setIfInBounds_toArray, List.set_cons_zero, List.set_cons_succ]
          refine wpAnyH_take (i := 18) (oi := { dst := some 103, op := Op.pick (Operand.tmp 97) (Operand.const (Value.bool true)) (Operand.tmp 102), type := 4, pos := "law.go:44", after := #[{ on := 12, ground := Ground.data }, { on := 17, ground := Ground.data }], guard := none }) (v := ?_) rfl (by kernel_rfl) (by kernel_rfl) (by kernel_rfl) (fun _ _ _ h => h) (Or.inl ⟨by rfl, ?_⟩) (by assumption) ?_
          rotate_left
          focus (intro w hSw; (try dsimp only at hSw); first | (go_simp; done) | (go_simp; with_reducible rfl))
          try simp only [Act.put, List.setIfInBounds_toArray, List.set_cons_zero, List.set_cons_succ]
          refine wpAnyH_take (i := 19) (oi := { dst := some 104, op := Op.move (Operand.tmp 103), type := 4, pos := "law.go:44", after := #[{ on := 18, ground := Ground.data }, { on := 14, ground := Ground.chain }], guard := none }) (v := ?_) rfl (by kernel_rfl) (by kernel_rfl) (by kernel_rfl) (fun _ _ _ h => h) (Or.inl ⟨by rfl, ?_⟩) (by assumption) ?_
          rotate_left
          focus (intro w hSw; (try dsimp only at hSw); first | (go_simp; done) | (go_simp; with_reducible rfl))
          try simp only [Act.put, List.setIfInBounds_toArray, List.set_cons_zero, List.set_cons_succ]
          refine wpAnyH_take (i := 20) (oi := { dst := some 105, op := Op.move (Operand.tmp 11), type := 81, pos := "law.go:44", after := #[{ on := 19, ground := Ground.guard }], guard := some (19, false) }) (v := ?_) rfl (by kernel_rfl) (by kernel_rfl) (by kernel_rfl) (fun _ _ _ h => h) (Or.inl ⟨by rfl, ?_⟩) (by assumption) ?_
          rotate_left
          focus (intro w hSw; (try dsimp only at hSw); first | (go_simp; done) | (go_simp; with_reducible rfl))
          try simp only [Act.put, List.setIfInBounds_toArray, List.set_cons_zero, List.set_cons_succ]
          refine wpAnyH_take (i := 21) (oi := { dst := some 106, op := Op.move (Operand.tmp 8), type := 31, pos := "law.go:44", after := #[{ on := 19, ground := Ground.guard }], guard := some (19, false) }) (v := ?_) rfl (by kernel_rfl) (by kernel_rfl) (by kernel_rfl) (fun _ _ _ h => h) (Or.inl ⟨by rfl, ?_⟩) (by assumption) ?_
          rotate_left
          focus (intro w hSw; (try dsimp only at hSw); first | (go_simp; done) | (go_simp; with_reducible rfl))
          try simp only [Act.put, List.setIfInBounds_toArray, List.set_cons_zero, List.set_cons_succ]
          refine wpAnyH_take (i := 23) (oi := { dst := some 108, op := Op.fieldAddr 48 (Operand.tmp 14) 2, type := 0, pos := "law.go:44", after := #[{ on := 19, ground := Ground.guard }], guard := some (19, false) }) (v := ?_) rfl (by kernel_rfl) (by kernel_rfl) (by kernel_rfl) (fun _ _ _ h => h) (Or.inl ⟨by rfl, ?_⟩) (by assumption) ?_
          rotate_left
          focus (intro w hSw; (try dsimp only at hSw); first | (go_simp; done) | (go_simp; with_reducible rfl))
          try simp only [Act.put, List.setIfInBounds_toArray, List.set_cons_zero, List.set_cons_succ]
          refine wpAnyH_take (i := 24) (oi := { dst := some 109, op := Op.load 4 (Operand.tmp 108), type := 4, pos := "law.go:44", after := #[{ on := 23, ground := Ground.data }, { on := 19, ground := Ground.guard }], guard := some (19, false) }) (v := ?_) rfl (by kernel_rfl) (by kernel_rfl) (by kernel_rfl) (fun _ _ _ h => h) (Or.inl ⟨by rfl, ?_⟩) (by assumption) ?_
          rotate_left
          focus (intro w hSw; (try dsimp only at hSw); first | (go_simp; done) | (go_simp; with_reducible rfl))
          try simp only [Act.put, List.setIfInBounds_toArray, List.set_cons_zero, List.set_cons_succ]
          refine wpAnyH_ready (rs := [22]) (by kernel_rfl) (by simp) ?_
          refine AllReadyH.cons (o := { dst := some 107, op := Op.call { callee := Callee.value (Operand.func 48), args := #[Operand.tmp 105, Operand.tmp 106], argTypes := #[81, 31] }, type := 4, pos := "law.go:44", after := #[{ on := 20, ground := Ground.data }, { on := 21, ground := Ground.data }, { on := 19, ground := Ground.chain }, { on := 19, ground := Ground.guard }], guard := some (19, false) }) rfl (fun K hK => ?_) AllReadyH.nil
          go_simp
          go_at_call 48; refine (HA.out _ hHeld.2.2.2.2).mono ?_; rintro e x4 ⟨rfl, g4a⟩
          try go_wp2_with fail
          have hNew := KEEP.out _ _ hHeld g4a
          clear hHeld
          have hHeld := hNew
          clear hNew
          refine hK.out _ _ hHeld (fun _ => ?_)
          clear hK K
          try simp only [Act.put, List.setIfInBounds_toArray, List.set_cons_zero, List.set_cons_succ]
          refine wpAnyH_take (i := 25) (oi := { dst := some 110, op := Op.move (Operand.tmp 109), type := 4, pos := "law.go:44", after := #[{ on := 24, ground := Ground.data }, { on := 22, ground := Ground.chain }, { on := 19, ground := Ground.guard }], guard := some (19, false) }) (v := ?_) rfl (by kernel_rfl) (by kernel_rfl) (by kernel_rfl) (fun _ _ _ h => h) (Or.inl ⟨by rfl, ?_⟩) (by assumption) ?_
          rotate_left
          focus (intro w hSw; (try dsimp only at hSw); first | (go_simp; done) | (go_simp; with_reducible rfl))
          try simp only [Act.put, List.setIfInBounds_toArray, List.set_cons_zero, List.set_cons_succ]
          refine wpAnyH_take (i := 26) (oi := { dst := some 111, op := Op.fieldAddr 48 (Operand.tmp 14) 4, type := 0, pos := "law.go:44", after := #[{ on := 25, ground := Ground.guard }], guard := some (25, true) }) (v := undef) rfl (by kernel_rfl) (by kernel_rfl) (by kernel_rfl) (fun _ _ _ h => h) (Or.inr ⟨by rfl, rfl⟩) (by assumption) ?_
          try simp only [Act.put, List.setIfInBounds_toArray, List.set_cons_zero, List.set_cons_succ]
          refine wpAnyH_take (i := 27) (oi := { dst := some 112, op := Op.load 4 (Operand.tmp 111), type := 4, pos := "law.go:44", after := #[{ on := 26, ground := Ground.data }, { on := 25, ground := Ground.guard }], guard := some (25, true) }) (v := undef) rfl (by kernel_rfl) (by kernel_rfl) (by kernel_rfl) (fun _ _ _ h => h) (Or.inr ⟨by rfl, rfl⟩) (by assumption) ?_
          try simp only [Act.put, List.setIfInBounds_toArray, List.set_cons_zero, List.set_cons_succ]
          refine wpAnyH_take (i := 28) (oi := { dst := some 113, op := Op.pick (Operand.tmp 110) (Operand.tmp 112) (Operand.const (Value.bool false)), type := 4, pos := "law.go:44", after := #[{ on := 25, ground := Ground.data }, { on := 27, ground := Ground.data }, { on := 19, ground := Ground.guard }], guard := some (19, false) }) (v := ?_) rfl (by kernel_rfl) (by kernel_rfl) (by kernel_rfl) (fun _ _ _ h => h) (Or.inl ⟨by rfl, ?_⟩) (by assumption) ?_
          rotate_left
          focus (intro w hSw; (try dsimp only at hSw); first | (go_simp; done) | (go_simp; with_reducible rfl))
          try simp only [Act.put, List.setIfInBounds_toArray, List.set_cons_zero, List.set_cons_succ]
          refine wpAnyH_take (i := 29) (oi := { dst := some 114, op := Op.move (Operand.tmp 113), type := 4, pos := "law.go:44", after := #[{ on := 28, ground := Ground.data }, { on := 25, ground := Ground.chain }, { on := 19, ground := Ground.guard }], guard := some (19, false) }) (v := ?_) rfl (by kernel_rfl) (by kernel_rfl) (by kernel_rfl) (fun _ _ _ h => h) (Or.inl ⟨by rfl, ?_⟩) (by assumption) ?_
          rotate_left
          focus (intro w hSw; (try dsimp only at hSw); first | (go_simp; done) | (go_simp; with_reducible rfl))
          try simp only [Act.put, List.setIfInBounds_toArray, List.set_cons_zero, List.set_cons_succ]
          refine wpAnyH_take (i := 30) (oi := { dst := some 115, op := Op.move (Operand.tmp 16), type := 39, pos := "law.go:44", after := #[{ on := 29, ground := Ground.guard }], guard := some (29, true) }) (v := undef) rfl (by kernel_rfl) (by kernel_rfl) (by kernel_rfl) (fun _ _ _ h => h) (Or.inr ⟨by rfl, rfl⟩) (by assumption) ?_
          try simp only [Act.put, List.setIfInBounds_toArray, List.set_cons_zero, List.set_cons_succ]
          refine wpAnyH_take (i := 31) (oi := { dst := some 116, op := Op.binOp BinOp.eql 39 (Operand.tmp 115) (Operand.const (Value.int IntKind.u64 0)) 39, type := 4, pos := "law.go:44", after := #[{ on := 30, ground := Ground.data }, { on := 29, ground := Ground.guard }], guard := some (29, true) }) (v := undef) rfl (by kernel_rfl) (by kernel_rfl) (by kernel_rfl) (fun _ _ _ h => h) (Or.inr ⟨by rfl, rfl⟩) (by assumption) ?_
          try simp only [Act.put, List.setIfInBounds_toArray, List.set_cons_zero, List.set_cons_succ]
          refine wpAnyH_take (i := 32) (oi := { dst := some 117, op := Op.pick (Operand.tmp 114) (Operand.tmp 116) (Operand.const (Value.bool false)), type := 4, pos := "law.go:44", after := #[{ on := 29, ground := Ground.data }, { on := 31, ground := Ground.data }, { on := 19, ground := Ground.guard }], guard := some (19, false) }) (v := ?_) rfl (by kernel_rfl) (by kernel_rfl) (by kernel_rfl) (fun _ _ _ h => h) (Or.inl ⟨by rfl, ?_⟩) (by assumption) ?_
          rotate_left
          focus (intro w hSw; (try dsimp only at hSw); first | (go_simp; done) | (go_simp; with_reducible rfl))
          try simp only [Act.put, List.setIfInBounds_toArray, List.set_cons_zero, List.set_cons_succ]
          refine wpAnyH_take (i := 33) (oi := { dst := some 118, op := Op.binOp BinOp.neq 4 (Operand.tmp 107) (Operand.tmp 117) 4, type := 4, pos := "law.go:44", after := #[{ on := 22, ground := Ground.data }, { on := 32, ground := Ground.data }, { on := 19, ground := Ground.guard }], guard := some (19, false) }) (v := ?_) rfl (by kernel_rfl) (by kernel_rfl) (by kernel_rfl) (fun _ _ _ h => h) (Or.inl ⟨by rfl, ?_⟩) (by assumption) ?_
          rotate_left
          focus (intro w hSw; (try dsimp only at hSw); first | (go_simp; done) | (go_simp; with_reducible rfl))
          try simp only [Act.put, List.setIfInBounds_toArray, List.set_cons_zero, List.set_cons_succ]
          refine wpAnyH_take (i := 34) (oi := { dst := some 119, op := Op.pick (Operand.tmp 104) (Operand.const (Value.bool true)) (Operand.tmp 118), type := 4, pos := "law.go:44", after := #[{ on := 19, ground := Ground.data }, { on := 33, ground := Ground.data }], guard := none }) (v := ?_) rfl (by kernel_rfl) (by kernel_rfl) (by kernel_rfl) (fun _ _ _ h => h) (Or.inl ⟨by rfl, ?_⟩) (by assumption) ?_
          rotate_left
          focus (intro w hSw; (try dsimp only at hSw); first | (go_simp; done) | (go_simp; with_reducible rfl))
          try simp only [Act.put, List.setIfInBounds_toArray, List.set_cons_zero, List.set_cons_succ]
          refine wpAnyH_done (by kernel_rfl) ?_ _
          
          all_goals
            have HO5 : Hid _ := HO4.out.still HGD.out hHeld.2.2.2.2
            have HRg : Hid _ := (HR4.out.below hHeld.2.2.2.2).range
            have hTu := HO5.out.turn HGD.out HOK.out hn6 (HLo.out.more (by omega)) (by omega) th
            rw [show runCells (.slice Ag mg capg) ((naPM P T th).rn t mg) = (runL (.slice Ag mg capg) ((naPM P T th).rn t mg)).toArray from rfl] at hTu
            generalize (naPM P T th).rn t mg = RN at *
            simp only [runL] at hTu
            clear HD HPv HSv HA KEEP hH HO4 HR4 s2 hHeld
            go_wp2_with (refine wpList_load_mid rfl 48 _ rfl wr.heap.size 0 rfl (runL (.slice Ag mg capg) RN) _ HRg.out Tryz.underlying48 rfl (by kernel_rfl) ?_; clear HRg)
            go_at_call 19; refine hTu.mono ?_; rintro e w6 ⟨Ag', capg', rfl, hO6⟩
            have HO6 : Hid _ := hO6
            have hSt := HO6.out.step HGD.out HLW.out.2 (fun Y (h : ((Rd.lay cl P T G).and (Rd.blk w.heap.size #[.int .i64 P, .int .i64 T, .int .i64 G, .slice E m cp] 26)).P Y) => h.1) (fun k hk => List.mem_append_left _ hk) hn6 (HLo.out.more (by omega))
            have HHn : Hid _ := HH.out.next n s (fun k i old new => actA_bd HO6.out.poke.mem k i old new)
            have HLo7 : Hid (Low ((naPM P T th).goS th n t s) ((k + 1 : Nat) : Int)) := PM.goS_low HLo.out
            have hml : (naPM P T th).goM n t s mg ≤ k + 1 := by unfold PM.goM; split <;> (try split) <;> omega
            clear hTu hO6 HO5
            go_wp2_with fail
            go_at_call 49; refine hSt.mono ?_; rintro e w7 ⟨⟨zz, rfl⟩, L7, hO7⟩
            have HO7 : Hid _ := hO7
            clear hSt hO7 HO6 HH HLo
            generalize (naPM P T th).goS th n t s = s' at *
            generalize (naPM P T th).goG n t s gf mg = g' at *
            generalize (naPM P T th).goM n t s mg = m' at *
            generalize (naPM P T th).goT n t s = t' at *
            have hAl := alike_any w7 A A' cap cap' c b c' b' n s' hn6 HO7.out.poke.two
            go_wp2_with fail
            go_at_call 21; refine hAl.mono ?_; rintro e w8 ⟨rfl, hb8⟩
            have HO8 : Hid _ := HO7.out.still HGD.out hb8
            clear hAl hb8 HO7
            go_wp2_with fail
            go_roundw
            case rel => exact ⟨k + 1, s', Ag', capg', m', g', t', L7, by omega, by go_num, rfl, hml, HO8.out, HLo7, HHn.out⟩
            case measure => simp [intOf]; omega
        · subst hcs
          rcases hcl : sl with _ | _
          · as_aux_lemma =>
            subst hcl
            have HD : Hid (∀ Y, Below w4.heap.size w4 Y → Calls Tryz.prog 45 #[.pointer (some ⟨x, 0, none⟩)] Y fun e w' => e = .returned (.bool false) ∧ Y = w') := HD0
            have HA : Hid (∀ Y, Below w4.heap.size w4 Y → Calls Tryz.prog 48 #[.pointer (some ⟨x, 0, none⟩), .pointer (some ⟨c, 0, none⟩)] Y fun e w' => e = .returned (.bool false) ∧ Below Y.heap.size Y w') := HAL
            have hH : Hid (w4.drew.cell? ⟨wr.heap.size, 2, none⟩ = some (.bool true) ∧ w4.drew.cell? ⟨wr.heap.size, 9, none⟩ = some (.bool false) ∧ w4.drew.cell? ⟨g4, 0, none⟩ = some (.int .i64 tp) ∧ w4.drew.cell? ⟨g4, 1, none⟩ = some (.bool ts) ∧ Below w4.heap.size w4 w4.drew) := ⟨s2, s9, k0, k1, (Below.refl _ _).drew⟩
            have KEEP : Hid (∀ X w' : World, (X.cell? ⟨wr.heap.size, 2, none⟩ = some (.bool true) ∧ X.cell? ⟨wr.heap.size, 9, none⟩ = some (.bool false) ∧ X.cell? ⟨g4, 0, none⟩ = some (.int .i64 tp) ∧ X.cell? ⟨g4, 1, none⟩ = some (.bool ts) ∧ Below w4.heap.size w4 X) → Below X.heap.size X w' → (w'.cell? ⟨wr.heap.size, 2, none⟩ = some (.bool true) ∧ w'.cell? ⟨wr.heap.size, 9, none⟩ = some (.bool false) ∧ w'.cell? ⟨g4, 0, none⟩ = some (.int .i64 tp) ∧ w'.cell? ⟨g4, 1, none⟩ = some (.bool ts) ∧ Below w4.heap.size w4 w')) := fun X w' h k => ⟨(k.cell (p := ⟨wr.heap.size, 2, none⟩) (Nat.lt_of_lt_of_le hs4.out.1 h.2.2.2.2.size)).trans h.1, (k.cell (p := ⟨wr.heap.size, 9, none⟩) (Nat.lt_of_lt_of_le hs4.out.1 h.2.2.2.2.size)).trans h.2.1, (k.cell (p := ⟨g4, 0, none⟩) (Nat.lt_of_lt_of_le hs4.out.2 h.2.2.2.2.size)).trans h.2.2.1, (k.cell (p := ⟨g4, 1, none⟩) (Nat.lt_of_lt_of_le hs4.out.2 h.2.2.2.2.size)).trans h.2.2.2.1, h.2.2.2.2.trans (k.mono h.2.2.2.2.size)⟩
            clear hst hsl hsn k0 k1 s9 HD0 HAL
            go_wp2_with fail
            refine wp_region_held_drew (S := fun w' => w'.cell? ⟨wr.heap.size, 2, none⟩ = some (.bool true) ∧ w'.cell? ⟨wr.heap.size, 9, none⟩ = some (.bool false) ∧ w'.cell? ⟨g4, 0, none⟩ = some (.int .i64 tp) ∧ w'.cell? ⟨g4, 1, none⟩ = some (.bool ts) ∧ Below w4.heap.size w4 w') (by kernel_rfl) hH.out (fun hHeld => ?_)
            refine wpAnyH_take (i := 0) (oi := { dst := some 85, op := Op.move (Operand.tmp 11), type := 81, pos := "law.go:44", after := #[], guard := none }) (v := ?_) rfl (by kernel_rfl) (by kernel_rfl) (by kernel_rfl) (fun _ _ _ h => h) (Or.inl ⟨by rfl, ?_⟩) (by assumption) ?_
            rotate_left
            focus (intro w hSw; (try dsimp only at hSw); first | (go_simp; done) | (go_simp; with_reducible rfl))
            try simp only [Act.put, List.setIfInBounds_toArray, List.set_cons_zero, List.set_cons_succ]
            refine wpAnyH_take (i := 2) (oi := { dst := some 87, op := Op.fieldAddr 48 (Operand.tmp 14) 2, type := 0, pos := "law.go:44", after := #[], guard := none }) (v := ?_) rfl (by kernel_rfl) (by kernel_rfl) (by kernel_rfl) (fun _ _ _ h => h) (Or.inl ⟨by rfl, ?_⟩) (by assumption) ?_
            rotate_left
            focus (intro w hSw; (try dsimp only at hSw); first | (go_simp; done) | (go_simp; with_reducible rfl))
            try simp only [Act.put, List.setIfInBounds_toArray, List.set_cons_zero, List.set_cons_succ]
            refine wpAnyH_take (i := 3) (oi := { dst := some 88, op := Op.load 4 (Operand.tmp 87), type := 4, pos := "law.go:44", after := #[{ on := 2, ground := Ground.data }], guard := none }) (v := ?_) rfl (by kernel_rfl) (by kernel_rfl) (by kernel_rfl) (fun _ _ _ h => h) (Or.inl ⟨by rfl, ?_⟩) (by assumption) ?_
            rotate_left
            focus (intro w hSw; (try dsimp only at hSw); first | (go_simp; done) | (go_simp; with_reducible rfl))
            try simp only [Act.put, List.setIfInBounds_toArray, List.set_cons_zero, List.set_cons_succ]
            refine wpAnyH_ready (rs := [1]) (by kernel_rfl) (by simp) ?_
            refine AllReadyH.cons (o := { dst := some 86, op := Op.call { callee := Callee.value (Operand.func 45), args := #[Operand.tmp 85], argTypes := #[81] }, type := 4, pos := "law.go:44", after := #[{ on := 0, ground := Ground.data }], guard := none }) rfl (fun K hK => ?_) AllReadyH.nil
            go_simp
            go_at_call 45; refine (HD.out _ hHeld.2.2.2.2).mono ?_; rintro e x1 ⟨rfl, rfl⟩
            try go_wp2_with fail
            have hNew := hHeld
            clear hHeld
            have hHeld := hNew
            clear hNew
            refine hK.out _ _ hHeld (fun _ => ?_)
            clear hK K
            try simp only [Act.put, List.setIfInBounds_toArray, List.set_cons_zero, List.set_cons_succ]
            refine wpAnyH_take (i := 4) (oi := { dst := some 89, op := Op.binOp BinOp.eql 4 (Operand.tmp 86) (Operand.tmp 88) 4, type := 4, pos := "law.go:44", after := #[{ on := 1, ground := Ground.data }, { on := 3, ground := Ground.data }], guard := none }) (v := ?_) rfl (by kernel_rfl) (by kernel_rfl) (by kernel_rfl) (fun _ _ _ h => h) (Or.inl ⟨by rfl, ?_⟩) (by assumption) ?_
            rotate_left
            focus (intro w hSw; (try dsimp only at hSw); first | (go_simp; done) | (go_simp; with_reducible rfl))
            try simp only [Act.put, List.setIfInBounds_toArray, List.set_cons_zero, List.set_cons_succ]
            refine wpAnyH_take (i := 5) (oi := { dst := some 90, op := Op.move (Operand.tmp 89), type := 4, pos := "law.go:44", after := #[{ on := 4, ground := Ground.data }, { on := 1, ground := Ground.chain }], guard := none }) (v := ?_) rfl (by kernel_rfl) (by kernel_rfl) (by kernel_rfl) (fun _ _ _ h => h) (Or.inl ⟨by rfl, ?_⟩) (by assumption) ?_
            rotate_left
            focus (intro w hSw; (try dsimp only at hSw); first | (go_simp; done) | (go_simp; with_reducible rfl))
            try simp only [Act.put, List.setIfInBounds_toArray, List.set_cons_zero, List.set_cons_succ]
            refine wpAnyH_take (i := 6) (oi := { dst := some 91, op := Op.move (Operand.tmp 11), type := 81, pos := "law.go:44", after := #[{ on := 5, ground := Ground.guard }], guard := some (5, false) }) (v := ?_) rfl (by kernel_rfl) (by kernel_rfl) (by kernel_rfl) (fun _ _ _ h => h) (Or.inl ⟨by rfl, ?_⟩) (by assumption) ?_
            rotate_left
            focus (intro w hSw; (try dsimp only at hSw); first | (go_simp; done) | (go_simp; with_reducible rfl))
            try simp only [Act.put, List.setIfInBounds_toArray, List.set_cons_zero, List.set_cons_succ]
            refine wpAnyH_take (i := 8) (oi := { dst := some 93, op := Op.fieldAddr 84 (Operand.tmp 15) 0, type := 0, pos := "law.go:44", after := #[{ on := 5, ground := Ground.guard }], guard := some (5, false) }) (v := ?_) rfl (by kernel_rfl) (by kernel_rfl) (by kernel_rfl) (fun _ _ _ h => h) (Or.inl ⟨by rfl, ?_⟩) (by assumption) ?_
            rotate_left
            focus (intro w hSw; (try dsimp only at hSw); first | (go_simp; done) | (go_simp; with_reducible rfl))
            try simp only [Act.put, List.setIfInBounds_toArray, List.set_cons_zero, List.set_cons_succ]
            refine wpAnyH_take (i := 9) (oi := { dst := some 94, op := Op.load 3 (Operand.tmp 93), type := 3, pos := "law.go:44", after := #[{ on := 8, ground := Ground.data }, { on := 5, ground := Ground.guard }], guard := some (5, false) }) (v := ?_) rfl (by kernel_rfl) (by kernel_rfl) (by kernel_rfl) (fun _ _ _ h => h) (Or.inl ⟨by rfl, ?_⟩) (by assumption) ?_
            rotate_left
            focus (intro w hSw; (try dsimp only at hSw); first | (go_simp; done) | (go_simp; with_reducible rfl))
            try simp only [Act.put, List.setIfInBounds_toArray, List.set_cons_zero, List.set_cons_succ]
            refine wpAnyH_ready (rs := [7]) (by kernel_rfl) (by simp) ?_
            refine AllReadyH.cons (o := { dst := some 92, op := Op.call { callee := Callee.value (Operand.func 46), args := #[Operand.tmp 91], argTypes := #[81] }, type := 3, pos := "law.go:44", after := #[{ on := 6, ground := Ground.data }, { on := 5, ground := Ground.chain }, { on := 5, ground := Ground.guard }], guard := some (5, false) }) rfl (fun K hK => ?_) AllReadyH.nil
            go_simp
            go_at_call 46; refine (HPv.out _ hHeld.2.2.2.2).mono ?_; rintro e x2 ⟨rfl, rfl⟩
            try go_wp2_with fail
            have hNew := hHeld
            clear hHeld
            have hHeld := hNew
            clear hNew
            refine hK.out _ _ hHeld (fun _ => ?_)
            clear hK K
            try simp only [Act.put, List.setIfInBounds_toArray, List.set_cons_zero, List.set_cons_succ]
            refine wpAnyH_take (i := 10) (oi := { dst := some 95, op := Op.binOp BinOp.neq 3 (Operand.tmp 92) (Operand.tmp 94) 3, type := 4, pos := "law.go:44", after := #[{ on := 7, ground := Ground.data }, { on := 9, ground := Ground.data }, { on := 5, ground := Ground.guard }], guard := some (5, false) }) (v := ?_) rfl (by kernel_rfl) (by kernel_rfl) (by kernel_rfl) (fun _ _ _ h => h) (Or.inl ⟨by rfl, ?_⟩) (by assumption) ?_
            rotate_left
            focus (intro w hSw; (try dsimp only at hSw); first | (go_simp; done) | (go_simp; with_reducible rfl))
            try simp only [Act.put, List.setIfInBounds_toArray, List.set_cons_zero, List.set_cons_succ]
            refine wpAnyH_take (i := 11) (oi := { dst := some 96, op := Op.pick (Operand.tmp 90) (Operand.const (Value.bool true)) (Operand.tmp 95), type := 4, pos := "law.go:44", after := #[{ on := 5, ground := Ground.data }, { on := 10, ground := Ground.data }], guard := none }) (v := ?_) rfl (by kernel_rfl) (by kernel_rfl) (by kernel_rfl) (fun _ _ _ h => h) (Or.inl ⟨by rfl, ?_⟩) (by assumption) ?_
            rotate_left
            focus (intro w hSw; (try dsimp only at hSw); first | (go_simp; done) | (go_simp; with_reducible rfl))
            try simp only [Act.put, List.setIfInBounds_toArray, List.set_cons_zero, List.set_cons_succ]
            refine wpAnyH_take (i := 12) (oi := { dst := some 97, op := Op.move (Operand.tmp 96), type := 4, pos := "law.go:44", after := #[{ on := 11, ground := Ground.data }, { on := 7, ground := Ground.chain }], guard := none }) (v := ?_) rfl (by kernel_rfl) (by kernel_rfl) (by kernel_rfl) (fun _ _ _ h => h) (Or.inl ⟨by rfl, ?_⟩) (by assumption) ?_
            rotate_left
            focus (intro w hSw; (try dsimp only at hSw); first | (go_simp; done) | (go_simp; with_reducible rfl))
            try simp only [Act.put, List.setIfInBounds_toArray, List.set_cons_zero, List.set_cons_succ]
            refine wpAnyH_take (i := 13) (oi := { dst := some 98, op := Op.move (Operand.tmp 11), type := 81, pos := "law.go:44", after := #[{ on := 12, ground := Ground.guard }], guard := some (12, false) }) (v := ?_) rfl (by kernel_rfl) (by kernel_rfl) (by kernel_rfl) (fun _ _ _ h => h) (Or.inl ⟨by rfl, ?_⟩) (by assumption) ?_
            rotate_left
            focus (intro w hSw; (try dsimp only at hSw); first | (go_simp; done) | (go_simp; with_reducible rfl))
            try simp only [Act.put, List.setIfInBounds_toArray, List.set_cons_zero, List.set_cons_succ]
            refine wpAnyH_take (i := 15) (oi := { dst := some 100, op := Op.fieldAddr 84 (Operand.tmp 15) 1, type := 0, pos := "law.go:44", after := #[{ on := 12, ground := Ground.guard }], guard := some (12, false) }) (v := ?_) rfl (by kernel_rfl) (by kernel_rfl) (by kernel_rfl) (fun _ _ _ h => h) (Or.inl ⟨by rfl, ?_⟩) (by assumption) ?_
            rotate_left
            focus (intro w hSw; (try dsimp only at hSw); first | (go_simp; done) | (go_simp; with_reducible rfl))
            try simp only [Act.put, List.setIfInBounds_toArray, List.set_cons_zero, List.set_cons_succ]
            refine wpAnyH_take (i := 16) (oi := { dst := some 101, op := Op.load 4 (Operand.tmp 100), type := 4, pos := "law.go:44", after := #[{ on := 15, ground := Ground.data }, { on := 12, ground := Ground.guard }], guard := some (12, false) }) (v := ?_) rfl (by kernel_rfl) (by kernel_rfl) (by kernel_rfl) (fun _ _ _ h => h) (Or.inl ⟨by rfl, ?_⟩) (by assumption) ?_
            rotate_left
            focus (intro w hSw; (try dsimp only at hSw); first | (go_simp; done) | (go_simp; with_reducible rfl))
            try simp only [Act.put, List.setIfInBounds_toArray, List.set_cons_zero, List.set_cons_succ]
            refine wpAnyH_ready (rs := [14]) (by kernel_rfl) (by simp) ?_
            refine AllReadyH.cons (o := { dst := some 99, op := Op.call { callee := Callee.value (Operand.func 47), args := #[Operand.tmp 98], argTypes := #[81] }, type := 4, pos := "law.go:44", after := #[{ on := 13, ground := Ground.data }, { on := 12, ground := Ground.chain }, { on := 12, ground := Ground.guard }], guard := some (12, false) }) rfl (fun K hK => ?_) AllReadyH.nil
            go_simp
            go_at_call 47; refine (HSv.out _ hHeld.2.2.2.2).mono ?_; rintro e x3 ⟨rfl, rfl⟩
            try go_wp2_with fail
            have hNew := hHeld
            clear hHeld
            have hHeld := hNew
            clear hNew
            refine hK.out _ _ hHeld (fun _ => ?_)
            clear hK K
            try simp only [Act.put, List.setIfInBounds_toArray, List.set_cons_zero, List.set_cons_succ]
            refine wpAnyH_take (i := 17) (oi := { dst := some 102, op := Op.binOp BinOp.neq 4 (Operand.tmp 99) (Operand.tmp 101) 4, type := 4, pos := "law.go:44", after := #[{ on := 14, ground := Ground.data }, { on := 16, ground := Ground.data }, { on := 12, ground := Ground.guard }], guard := some (12, false) }) (v := ?_) rfl (by kernel_rfl) (by kernel_rfl) (by kernel_rfl) (fun _ _ _ h => h) (Or.inl ⟨by rfl, ?_⟩) (by assumption) ?_
            rotate_left
            focus (intro w hSw; (try dsimp only at hSw); first | (go_simp; done) | (go_simp; with_reducible rfl))
            try simp only [Act.put, List.setIfInBounds_toArray, List.set_cons_zero, List.set_cons_succ]
            refine wpAnyH_take (i := 18) (oi := { dst := some 103, op := Op.pick (Operand.tmp 97) (Operand.const (Value.bool true)) (Operand.tmp 102), type := 4, pos := "law.go:44", after := #[{ on := 12, ground := Ground.data }, { on := 17, ground := Ground.data }], guard := none }) (v := ?_) rfl (by kernel_rfl) (by kernel_rfl) (by kernel_rfl) (fun _ _ _ h => h) (Or.inl ⟨by rfl, ?_⟩) (by assumption) ?_
            rotate_left
            focus (intro w hSw; (try dsimp only at hSw); first | (go_simp; done) | (go_simp; with_reducible rfl))
            try simp only [Act.put, List.setIfInBounds_toArray, List.set_cons_zero, List.set_cons_succ]
            refine wpAnyH_take (i := 19) (oi := { dst := some 104, op := Op.move (Operand.tmp 103), type := 4, pos := "law.go:44", after := #[{ on := 18, ground := Ground.data }, { on := 14, ground := Ground.chain }], guard := none }) (v := ?_) rfl (by kernel_rfl) (by kernel_rfl) (by kernel_rfl) (fun _ _ _ h => h) (Or.inl ⟨by rfl, ?_⟩) (by assumption) ?_
            rotate_left
            focus (intro w hSw; (try dsimp only at hSw); first | (go_simp; done) | (go_simp; with_reducible rfl))
            try simp only [Act.put, List.setIfInBounds_toArray, List.set_cons_zero, List.set_cons_succ]
            refine wpAnyH_take (i := 20) (oi := { dst := some 105, op := Op.move (Operand.tmp 11), type := 81, pos := "law.go:44", after := #[{ on := 19, ground := Ground.guard }], guard := some (19, false) }) (v := ?_) rfl (by kernel_rfl) (by kernel_rfl) (by kernel_rfl) (fun _ _ _ h => h) (Or.inl ⟨by rfl, ?_⟩) (by assumption) ?_
            rotate_left
            focus (intro w hSw; (try dsimp only at hSw); first | (go_simp; done) | (go_simp; with_reducible rfl))
            try simp only [Act.put, List.setIfInBounds_toArray, List.set_cons_zero, List.set_cons_succ]
            refine wpAnyH_take (i := 21) (oi := { dst := some 106, op := Op.move (Operand.tmp 8), type := 31, pos := "law.go:44", after := #[{ on := 19, ground := Ground.guard }], guard := some (19, false) }) (v := ?_) rfl (by kernel_rfl) (by kernel_rfl) (by kernel_rfl) (fun _ _ _ h => h) (Or.inl ⟨by rfl, ?_⟩) (by assumption) ?_
            rotate_left
            focus (intro w hSw; (try dsimp only at hSw); first | (go_simp; done) | (go_simp; with_reducible rfl))
            try simp only [Act.put, List.setIfInBounds_toArray, List.set_cons_zero, List.set_cons_succ]
            refine wpAnyH_take (i := 23) (oi := { dst := some 108, op := Op.fieldAddr 48 (Operand.tmp 14) 2, type := 0, pos := "law.go:44", after := #[{ on := 19, ground := Ground.guard }], guard := some (19, false) }) (v := ?_) rfl (by kernel_rfl) (by kernel_rfl) (by kernel_rfl) (fun _ _ _ h => h) (Or.inl ⟨by rfl, ?_⟩) (by assumption) ?_
            rotate_left
            focus (intro w hSw; (try dsimp only at hSw); first | (go_simp; done) | (go_simp; with_reducible rfl))
            try simp only [Act.put, List.setIfInBounds_toArray, List.set_cons_zero, List.set_cons_succ]
            refine wpAnyH_take (i := 24) (oi := { dst := some 109, op := Op.load 4 (Operand.tmp 108), type := 4, pos := "law.go:44", after := #[{ on := 23, ground := Ground.data }, { on := 19, ground := Ground.guard }], guard := some (19, false) }) (v := ?_) rfl (by kernel_rfl) (by kernel_rfl) (by kernel_rfl) (fun _ _ _ h => h) (Or.inl ⟨by rfl, ?_⟩) (by assumption) ?_
            rotate_left
            focus (intro w hSw; (try dsimp only at hSw); first | (go_simp; done) | (go_simp; with_reducible rfl))
            try simp only [Act.put, List.setIfInBounds_toArray, List.set_cons_zero, List.set_cons_succ]
            refine wpAnyH_ready (rs := [22]) (by kernel_rfl) (by simp) ?_
            refine AllReadyH.cons (o := { dst := some 107, op := Op.call { callee := Callee.value (Operand.func 48), args := #[Operand.tmp 105, Operand.tmp 106], argTypes := #[81, 31] }, type := 4, pos := "law.go:44", after := #[{ on := 20, ground := Ground.data }, { on := 21, ground := Ground.data }, { on := 19, ground := Ground.chain }, { on := 19, ground := Ground.guard }], guard := some (19, false) }) rfl (fun K hK => ?_) AllReadyH.nil
            go_simp
            go_at_call 48; refine (HA.out _ hHeld.2.2.2.2).mono ?_; rintro e x4 ⟨rfl, g4a⟩
            try go_wp2_with fail
            have hNew := KEEP.out _ _ hHeld g4a
            clear hHeld
            have hHeld := hNew
            clear hNew
            refine hK.out _ _ hHeld (fun _ => ?_)
            clear hK K
            try simp only [Act.put, List.setIfInBounds_toArray, List.set_cons_zero, List.set_cons_succ]
            refine wpAnyH_take (i := 25) (oi := { dst := some 110, op := Op.move (Operand.tmp 109), type := 4, pos := "law.go:44", after := #[{ on := 24, ground := Ground.data }, { on := 22, ground := Ground.chain }, { on := 19, ground := Ground.guard }], guard := some (19, false) }) (v := ?_) rfl (by kernel_rfl) (by kernel_rfl) (by kernel_rfl) (fun _ _ _ h => h) (Or.inl ⟨by rfl, ?_⟩) (by assumption) ?_
            rotate_left
            focus (intro w hSw; (try dsimp only at hSw); first | (go_simp; done) | (go_simp; with_reducible rfl))
            try simp only [Act.put, List.setIfInBounds_toArray, List.set_cons_zero, List.set_cons_succ]
            refine wpAnyH_take (i := 26) (oi := { dst := some 111, op := Op.fieldAddr 48 (Operand.tmp 14) 4, type := 0, pos := "law.go:44", after := #[{ on := 25, ground := Ground.guard }], guard := some (25, true) }) (v := ?_) rfl (by kernel_rfl) (by kernel_rfl) (by kernel_rfl) (fun _ _ _ h => h) (Or.inl ⟨by rfl, ?_⟩) (by assumption) ?_
            rotate_left
            focus (intro w hSw; (try dsimp only at hSw); first | (go_simp; done) | (go_simp; with_reducible rfl))
            try simp only [Act.put, List.setIfInBounds_toArray, List.set_cons_zero, List.set_cons_succ]
            refine wpAnyH_take (i := 27) (oi := { dst := some 112, op := Op.load 4 (Operand.tmp 111), type := 4, pos := "law.go:44", after := #[{ on := 26, ground := Ground.data }, { on := 25, ground := Ground.guard }], guard := some (25, true) }) (v := ?_) rfl (by kernel_rfl) (by kernel_rfl) (by kernel_rfl) (fun _ _ _ h => h) (Or.inl ⟨by rfl, ?_⟩) (by assumption) ?_
            rotate_left
            focus (intro w hSw; (try dsimp only at hSw); first | (go_simp; done) | (go_simp; with_reducible rfl))
            try simp only [Act.put, List.setIfInBounds_toArray, List.set_cons_zero, List.set_cons_succ]
            refine wpAnyH_take (i := 28) (oi := { dst := some 113, op := Op.pick (Operand.tmp 110) (Operand.tmp 112) (Operand.const (Value.bool false)), type := 4, pos := "law.go:44", after := #[{ on := 25, ground := Ground.data }, { on := 27, ground := Ground.data }, { on := 19, ground := Ground.guard }], guard := some (19, false) }) (v := ?_) rfl (by kernel_rfl) (by kernel_rfl) (by kernel_rfl) (fun _ _ _ h => h) (Or.inl ⟨by rfl, ?_⟩) (by assumption) ?_
            rotate_left
            focus (intro w hSw; (try dsimp only at hSw); first | (go_simp; done) | (go_simp; with_reducible rfl))
            try simp only [Act.put, List.setIfInBounds_toArray, List.set_cons_zero, List.set_cons_succ]
            refine wpAnyH_take (i := 29) (oi := { dst := some 114, op := Op.move (Operand.tmp 113), type := 4, pos := "law.go:44", after := #[{ on := 28, ground := Ground.data }, { on := 25, ground := Ground.chain }, { on := 19, ground := Ground.guard }], guard := some (19, false) }) (v := ?_) rfl (by kernel_rfl) (by kernel_rfl) (by kernel_rfl) (fun _ _ _ h => h) (Or.inl ⟨by rfl, ?_⟩) (by assumption) ?_
            rotate_left
            focus (intro w hSw; (try dsimp only at hSw); first | (go_simp; done) | (go_simp; with_reducible rfl))
            try simp only [Act.put, List.setIfInBounds_toArray, List.set_cons_zero, List.set_cons_succ]
            refine wpAnyH_take (i := 30) (oi := { dst := some 115, op := Op.move (Operand.tmp 16), type := 39, pos := "law.go:44", after := #[{ on := 29, ground := Ground.guard }], guard := some (29, true) }) (v := undef) rfl (by kernel_rfl) (by kernel_rfl) (by kernel_rfl) (fun _ _ _ h => h) (Or.inr ⟨by rfl, rfl⟩) (by assumption) ?_
            try simp only [Act.put, List.setIfInBounds_toArray, List.set_cons_zero, List.set_cons_succ]
            refine wpAnyH_take (i := 31) (oi := { dst := some 116, op := Op.binOp BinOp.eql 39 (Operand.tmp 115) (Operand.const (Value.int IntKind.u64 0)) 39, type := 4, pos := "law.go:44", after := #[{ on := 30, ground := Ground.data }, { on := 29, ground := Ground.guard }], guard := some (29, true) }) (v := undef) rfl (by kernel_rfl) (by kernel_rfl) (by kernel_rfl) (fun _ _ _ h => h) (Or.inr ⟨by rfl, rfl⟩) (by assumption) ?_
            try simp only [Act.put, List.setIfInBounds_toArray, List.set_cons_zero, List.set_cons_succ]
            refine wpAnyH_take (i := 32) (oi := { dst := some 117, op := Op.pick (Operand.tmp 114) (Operand.tmp 116) (Operand.const (Value.bool false)), type := 4, pos := "law.go:44", after := #[{ on := 29, ground := Ground.data }, { on := 31, ground := Ground.data }, { on := 19, ground := Ground.guard }], guard := some (19, false) }) (v := ?_) rfl (by kernel_rfl) (by kernel_rfl) (by kernel_rfl) (fun _ _ _ h => h) (Or.inl ⟨by rfl, ?_⟩) (by assumption) ?_
            rotate_left
            focus (intro w hSw; (try dsimp only at hSw); first | (go_simp; done) | (go_simp; with_reducible rfl))
            try simp only [Act.put, List.setIfInBounds_toArray, List.set_cons_zero, List.set_cons_succ]
            refine wpAnyH_take (i := 33) (oi := { dst := some 118, op := Op.binOp BinOp.neq 4 (Operand.tmp 107) (Operand.tmp 117) 4, type := 4, pos := "law.go:44", after := #[{ on := 22, ground := Ground.data }, { on := 32, ground := Ground.data }, { on := 19, ground := Ground.guard }], guard := some (19, false) }) (v := ?_) rfl (by kernel_rfl) (by kernel_rfl) (by kernel_rfl) (fun _ _ _ h => h) (Or.inl ⟨by rfl, ?_⟩) (by assumption) ?_
            rotate_left
            focus (intro w hSw; (try dsimp only at hSw); first | (go_simp; done) | (go_simp; with_reducible rfl))
            try simp only [Act.put, List.setIfInBounds_toArray, List.set_cons_zero, List.set_cons_succ]
            refine wpAnyH_take (i := 34) (oi := { dst := some 119, op := Op.pick (Operand.tmp 104) (Operand.const (Value.bool true)) (Operand.tmp 118), type := 4, pos := "law.go:44", after := #[{ on := 19, ground := Ground.data }, { on := 33, ground := Ground.data }], guard := none }) (v := ?_) rfl (by kernel_rfl) (by kernel_rfl) (by kernel_rfl) (fun _ _ _ h => h) (Or.inl ⟨by rfl, ?_⟩) (by assumption) ?_
            rotate_left
            focus (intro w hSw; (try dsimp only at hSw); first | (go_simp; done) | (go_simp; with_reducible rfl))
            try simp only [Act.put, List.setIfInBounds_toArray, List.set_cons_zero, List.set_cons_succ]
            refine wpAnyH_done (by kernel_rfl) ?_ _
            
            all_goals
              have HO5 : Hid _ := HO4.out.still HGD.out hHeld.2.2.2.2
              have HRg : Hid _ := (HR4.out.below hHeld.2.2.2.2).range
              have hTu := HO5.out.turn HGD.out HOK.out hn6 (HLo.out.more (by omega)) (by omega) th
              rw [show runCells (.slice Ag mg capg) ((naPM P T th).rn t mg) = (runL (.slice Ag mg capg) ((naPM P T th).rn t mg)).toArray from rfl] at hTu
              generalize (naPM P T th).rn t mg = RN at *
              simp only [runL] at hTu
              clear HD HPv HSv HA KEEP hH HO4 HR4 s2 hHeld
              go_wp2_with (refine wpList_load_mid rfl 48 _ rfl wr.heap.size 0 rfl (runL (.slice Ag mg capg) RN) _ HRg.out Tryz.underlying48 rfl (by kernel_rfl) ?_; clear HRg)
              go_at_call 19; refine hTu.mono ?_; rintro e w6 ⟨Ag', capg', rfl, hO6⟩
              have HO6 : Hid _ := hO6
              have hSt := HO6.out.step HGD.out HLW.out.2 (fun Y (h : ((Rd.lay cl P T G).and (Rd.blk w.heap.size #[.int .i64 P, .int .i64 T, .int .i64 G, .slice E m cp] 26)).P Y) => h.1) (fun k hk => List.mem_append_left _ hk) hn6 (HLo.out.more (by omega))
              have HHn : Hid _ := HH.out.next n s (fun k i old new => actA_bd HO6.out.poke.mem k i old new)
              have HLo7 : Hid (Low ((naPM P T th).goS th n t s) ((k + 1 : Nat) : Int)) := PM.goS_low HLo.out
              have hml : (naPM P T th).goM n t s mg ≤ k + 1 := by unfold PM.goM; split <;> (try split) <;> omega
              clear hTu hO6 HO5
              go_wp2_with fail
              go_at_call 49; refine hSt.mono ?_; rintro e w7 ⟨⟨zz, rfl⟩, L7, hO7⟩
              have HO7 : Hid _ := hO7
              clear hSt hO7 HO6 HH HLo
              generalize (naPM P T th).goS th n t s = s' at *
              generalize (naPM P T th).goG n t s gf mg = g' at *
              generalize (naPM P T th).goM n t s mg = m' at *
              generalize (naPM P T th).goT n t s = t' at *
              have hAl := alike_any w7 A A' cap cap' c b c' b' n s' hn6 HO7.out.poke.two
              go_wp2_with fail
              go_at_call 21; refine hAl.mono ?_; rintro e w8 ⟨rfl, hb8⟩
              have HO8 : Hid _ := HO7.out.still HGD.out hb8
              clear hAl hb8 HO7
              go_wp2_with fail
              go_roundw
              case rel => exact ⟨k + 1, s', Ag', capg', m', g', t', L7, by omega, by go_num, rfl, hml, HO8.out, HLo7, HHn.out⟩
              case measure => simp [intOf]; omega
          · subst hcl
            by_cases hwz : wv = 0
            · as_aux_lemma =>
              have eqz : decide (wv = 0) = true := decide_eq_true hwz
              have eqz2 : (wv == 0) = true := by simpa using hwz
              have HD : Hid (∀ Y, Below w4.heap.size w4 Y → Calls Tryz.prog 45 #[.pointer (some ⟨x, 0, none⟩)] Y fun e w' => e = .returned (.bool false) ∧ Y = w') := HD0
              have HA : Hid (∀ Y, Below w4.heap.size w4 Y → Calls Tryz.prog 48 #[.pointer (some ⟨x, 0, none⟩), .pointer (some ⟨c, 0, none⟩)] Y fun e w' => e = .returned (.bool true) ∧ Below Y.heap.size Y w') := by rw [eqz] at HAL; exact HAL
              have hH : Hid (w4.drew.cell? ⟨wr.heap.size, 2, none⟩ = some (.bool true) ∧ w4.drew.cell? ⟨wr.heap.size, 9, none⟩ = some (.bool true) ∧ w4.drew.cell? ⟨g4, 0, none⟩ = some (.int .i64 tp) ∧ w4.drew.cell? ⟨g4, 1, none⟩ = some (.bool ts) ∧ Below w4.heap.size w4 w4.drew) := ⟨s2, s9, k0, k1, (Below.refl _ _).drew⟩
              have KEEP : Hid (∀ X w' : World, (X.cell? ⟨wr.heap.size, 2, none⟩ = some (.bool true) ∧ X.cell? ⟨wr.heap.size, 9, none⟩ = some (.bool true) ∧ X.cell? ⟨g4, 0, none⟩ = some (.int .i64 tp) ∧ X.cell? ⟨g4, 1, none⟩ = some (.bool ts) ∧ Below w4.heap.size w4 X) → Below X.heap.size X w' → (w'.cell? ⟨wr.heap.size, 2, none⟩ = some (.bool true) ∧ w'.cell? ⟨wr.heap.size, 9, none⟩ = some (.bool true) ∧ w'.cell? ⟨g4, 0, none⟩ = some (.int .i64 tp) ∧ w'.cell? ⟨g4, 1, none⟩ = some (.bool ts) ∧ Below w4.heap.size w4 w')) := fun X w' h k => ⟨(k.cell (p := ⟨wr.heap.size, 2, none⟩) (Nat.lt_of_lt_of_le hs4.out.1 h.2.2.2.2.size)).trans h.1, (k.cell (p := ⟨wr.heap.size, 9, none⟩) (Nat.lt_of_lt_of_le hs4.out.1 h.2.2.2.2.size)).trans h.2.1, (k.cell (p := ⟨g4, 0, none⟩) (Nat.lt_of_lt_of_le hs4.out.2 h.2.2.2.2.size)).trans h.2.2.1, (k.cell (p := ⟨g4, 1, none⟩) (Nat.lt_of_lt_of_le hs4.out.2 h.2.2.2.2.size)).trans h.2.2.2.1, h.2.2.2.2.trans (k.mono h.2.2.2.2.size)⟩
              clear hst hsl hsn k0 k1 s9 HD0 HAL
              go_wp2_with fail
              refine wp_region_held_drew (S := fun w' => w'.cell? ⟨wr.heap.size, 2, none⟩ = some (.bool true) ∧ w'.cell? ⟨wr.heap.size, 9, none⟩ = some (.bool true) ∧ w'.cell? ⟨g4, 0, none⟩ = some (.int .i64 tp) ∧ w'.cell? ⟨g4, 1, none⟩ = some (.bool ts) ∧ Below w4.heap.size w4 w') (by kernel_rfl) hH.out (fun hHeld => ?_)
              refine wpAnyH_take (i := 0) (oi := { dst := some 85, op := Op.move (Operand.tmp 11), type := 81, pos := "law.go:44", after := #[], guard := none }) (v := ?_) rfl (by kernel_rfl) (by kernel_rfl) (by kernel_rfl) (fun _ _ _ h => h) (Or.inl ⟨by rfl, ?_⟩) (by assumption) ?_
              rotate_left
              focus (intro w hSw; (try dsimp only at hSw); first | (go_simp; done) | (go_simp; with_reducible rfl))
              try simp only [Act.put, List.setIfInBounds_toArray, List.set_cons_zero, List.set_cons_succ]
              refine wpAnyH_take (i := 2) (oi := { dst := some 87, op := Op.fieldAddr 48 (Operand.tmp 14) 2, type := 0, pos := "law.go:44", after := #[], guard := none }) (v := ?_) rfl (by kernel_rfl) (by kernel_rfl) (by kernel_rfl) (fun _ _ _ h => h) (Or.inl ⟨by rfl, ?_⟩) (by assumption) ?_
              rotate_left
              focus (intro w hSw; (try dsimp only at hSw); first | (go_simp; done) | (go_simp; with_reducible rfl))
              try simp only [Act.put, List.setIfInBounds_toArray, List.set_cons_zero, List.set_cons_succ]
              refine wpAnyH_take (i := 3) (oi := { dst := some 88, op := Op.load 4 (Operand.tmp 87), type := 4, pos := "law.go:44", after := #[{ on := 2, ground := Ground.data }], guard := none }) (v := ?_) rfl (by kernel_rfl) (by kernel_rfl) (by kernel_rfl) (fun _ _ _ h => h) (Or.inl ⟨by rfl, ?_⟩) (by assumption) ?_
              rotate_left
              focus (intro w hSw; (try dsimp only at hSw); first | (go_simp; done) | (go_simp; with_reducible rfl))
              try simp only [Act.put, List.setIfInBounds_toArray, List.set_cons_zero, List.set_cons_succ]
              refine wpAnyH_ready (rs := [1]) (by kernel_rfl) (by simp) ?_
              refine AllReadyH.cons (o := { dst := some 86, op := Op.call { callee := Callee.value (Operand.func 45), args := #[Operand.tmp 85], argTypes := #[81] }, type := 4, pos := "law.go:44", after := #[{ on := 0, ground := Ground.data }], guard := none }) rfl (fun K hK => ?_) AllReadyH.nil
              go_simp
              go_at_call 45; refine (HD.out _ hHeld.2.2.2.2).mono ?_; rintro e x1 ⟨rfl, rfl⟩
              try go_wp2_with fail
              have hNew := hHeld
              clear hHeld
              have hHeld := hNew
              clear hNew
              refine hK.out _ _ hHeld (fun _ => ?_)
              clear hK K
              try simp only [Act.put, List.setIfInBounds_toArray, List.set_cons_zero, List.set_cons_succ]
              refine wpAnyH_take (i := 4) (oi := { dst := some 89, op := Op.binOp BinOp.eql 4 (Operand.tmp 86) (Operand.tmp 88) 4, type := 4, pos := "law.go:44", after := #[{ on := 1, ground := Ground.data }, { on := 3, ground := Ground.data }], guard := none }) (v := ?_) rfl (by kernel_rfl) (by kernel_rfl) (by kernel_rfl) (fun _ _ _ h => h) (Or.inl ⟨by rfl, ?_⟩) (by assumption) ?_
              rotate_left
              focus (intro w hSw; (try dsimp only at hSw); first | (go_simp; done) | (go_simp; with_reducible rfl))
              try simp only [Act.put, List.setIfInBounds_toArray, List.set_cons_zero, List.set_cons_succ]
              refine wpAnyH_take (i := 5) (oi := { dst := some 90, op := Op.move (Operand.tmp 89), type := 4, pos := "law.go:44", after := #[{ on := 4, ground := Ground.data }, { on := 1, ground := Ground.chain }], guard := none }) (v := ?_) rfl (by kernel_rfl) (by kernel_rfl) (by kernel_rfl) (fun _ _ _ h => h) (Or.inl ⟨by rfl, ?_⟩) (by assumption) ?_
              rotate_left
              focus (intro w hSw; (try dsimp only at hSw); first | (go_simp; done) | (go_simp; with_reducible rfl))
              try simp only [Act.put, List.setIfInBounds_toArray, List.set_cons_zero, List.set_cons_succ]
              refine wpAnyH_take (i := 6) (oi := { dst := some 91, op := Op.move (Operand.tmp 11), type := 81, pos := "law.go:44", after := #[{ on := 5, ground := Ground.guard }], guard := some (5, false) }) (v := ?_) rfl (by kernel_rfl) (by kernel_rfl) (by kernel_rfl) (fun _ _ _ h => h) (Or.inl ⟨by rfl, ?_⟩) (by assumption) ?_
              rotate_left
              focus (intro w hSw; (try dsimp only at hSw); first | (go_simp; done) | (go_simp; with_reducible rfl))
              try simp only [Act.put, List.setIfInBounds_toArray, List.set_cons_zero, List.set_cons_succ]
              refine wpAnyH_take (i := 8) (oi := { dst := some 93, op := Op.fieldAddr 84 (Operand.tmp 15) 0, type := 0, pos := "law.go:44", after := #[{ on := 5, ground := Ground.guard }], guard := some (5, false) }) (v := ?_) rfl (by kernel_rfl) (by kernel_rfl) (by kernel_rfl) (fun _ _ _ h => h) (Or.inl ⟨by rfl, ?_⟩) (by assumption) ?_
              rotate_left
              focus (intro w hSw; (try dsimp only at hSw); first | (go_simp; done) | (go_simp; with_reducible rfl))
              try simp only [Act.put, List.setIfInBounds_toArray, List.set_cons_zero, List.set_cons_succ]
              refine wpAnyH_take (i := 9) (oi := { dst := some 94, op := Op.load 3 (Operand.tmp 93), type := 3, pos := "law.go:44", after := #[{ on := 8, ground := Ground.data }, { on := 5, ground := Ground.guard }], guard := some (5, false) }) (v := ?_) rfl (by kernel_rfl) (by kernel_rfl) (by kernel_rfl) (fun _ _ _ h => h) (Or.inl ⟨by rfl, ?_⟩) (by assumption) ?_
              rotate_left
              focus (intro w hSw; (try dsimp only at hSw); first | (go_simp; done) | (go_simp; with_reducible rfl))
              try simp only [Act.put, List.setIfInBounds_toArray, List.set_cons_zero, List.set_cons_succ]
              refine wpAnyH_ready (rs := [7]) (by kernel_rfl) (by simp) ?_
              refine AllReadyH.cons (o := { dst := some 92, op := Op.call { callee := Callee.value (Operand.func 46), args := #[Operand.tmp 91], argTypes := #[81] }, type := 3, pos := "law.go:44", after := #[{ on := 6, ground := Ground.data }, { on := 5, ground := Ground.chain }, { on := 5, ground := Ground.guard }], guard := some (5, false) }) rfl (fun K hK => ?_) AllReadyH.nil
              go_simp
              go_at_call 46; refine (HPv.out _ hHeld.2.2.2.2).mono ?_; rintro e x2 ⟨rfl, rfl⟩
              try go_wp2_with fail
              have hNew := hHeld
              clear hHeld
              have hHeld := hNew
              clear hNew
              refine hK.out _ _ hHeld (fun _ => ?_)
              clear hK K
              try simp only [Act.put, List.setIfInBounds_toArray, List.set_cons_zero, List.set_cons_succ]
              refine wpAnyH_take (i := 10) (oi := { dst := some 95, op := Op.binOp BinOp.neq 3 (Operand.tmp 92) (Operand.tmp 94) 3, type := 4, pos := "law.go:44", after := #[{ on := 7, ground := Ground.data }, { on := 9, ground := Ground.data }, { on := 5, ground := Ground.guard }], guard := some (5, false) }) (v := ?_) rfl (by kernel_rfl) (by kernel_rfl) (by kernel_rfl) (fun _ _ _ h => h) (Or.inl ⟨by rfl, ?_⟩) (by assumption) ?_
              rotate_left
              focus (intro w hSw; (try dsimp only at hSw); first | (go_simp; done) | (go_simp; with_reducible rfl))
              try simp only [Act.put, List.setIfInBounds_toArray, List.set_cons_zero, List.set_cons_succ]
              refine wpAnyH_take (i := 11) (oi := { dst := some 96, op := Op.pick (Operand.tmp 90) (Operand.const (Value.bool true)) (Operand.tmp 95), type := 4, pos := "law.go:44", after := #[{ on := 5, ground := Ground.data }, { on := 10, ground := Ground.data }], guard := none }) (v := ?_) rfl (by kernel_rfl) (by kernel_rfl) (by kernel_rfl) (fun _ _ _ h => h) (Or.inl ⟨by rfl, ?_⟩) (by assumption) ?_
              rotate_left
              focus (intro w hSw; (try dsimp only at hSw); first | (go_simp; done) | (go_simp; with_reducible rfl))
              try simp only [Act.put, List.setIfInBounds_toArray, List.set_cons_zero, List.set_cons_succ]
              refine wpAnyH_take (i := 12) (oi := { dst := some 97, op := Op.move (Operand.tmp 96), type := 4, pos := "law.go:44", after := #[{ on := 11, ground := Ground.data }, { on := 7, ground := Ground.chain }], guard := none }) (v := ?_) rfl (by kernel_rfl) (by kernel_rfl) (by kernel_rfl) (fun _ _ _ h => h) (Or.inl ⟨by rfl, ?_⟩) (by assumption) ?_
              rotate_left
              focus (intro w hSw; (try dsimp only at hSw); first | (go_simp; done) | (go_simp; with_reducible rfl))
              try simp only [Act.put, List.setIfInBounds_toArray, List.set_cons_zero, List.set_cons_succ]
              refine wpAnyH_take (i := 13) (oi := { dst := some 98, op := Op.move (Operand.tmp 11), type := 81, pos := "law.go:44", after := #[{ on := 12, ground := Ground.guard }], guard := some (12, false) }) (v := ?_) rfl (by kernel_rfl) (by kernel_rfl) (by kernel_rfl) (fun _ _ _ h => h) (Or.inl ⟨by rfl, ?_⟩) (by assumption) ?_
              rotate_left
              focus (intro w hSw; (try dsimp only at hSw); first | (go_simp; done) | (go_simp; with_reducible rfl))
              try simp only [Act.put, List.setIfInBounds_toArray, List.set_cons_zero, List.set_cons_succ]
              refine wpAnyH_take (i := 15) (oi := { dst := some 100, op := Op.fieldAddr 84 (Operand.tmp 15) 1, type := 0, pos := "law.go:44", after := #[{ on := 12, ground := Ground.guard }], guard := some (12, false) }) (v := ?_) rfl (by kernel_rfl) (by kernel_rfl) (by kernel_rfl) (fun _ _ _ h => h) (Or.inl ⟨by rfl, ?_⟩) (by assumption) ?_
              rotate_left
              focus (intro w hSw; (try dsimp only at hSw); first | (go_simp; done) | (go_simp; with_reducible rfl))
              try simp only [Act.put, List.setIfInBounds_toArray, List.set_cons_zero, List.set_cons_succ]
              refine wpAnyH_take (i := 16) (oi := { dst := some 101, op := Op.load 4 (Operand.tmp 100), type := 4, pos := "law.go:44", after := #[{ on := 15, ground := Ground.data }, { on := 12, ground := Ground.guard }], guard := some (12, false) }) (v := ?_) rfl (by kernel_rfl) (by kernel_rfl) (by kernel_rfl) (fun _ _ _ h => h) (Or.inl ⟨by rfl, ?_⟩) (by assumption) ?_
              rotate_left
              focus (intro w hSw; (try dsimp only at hSw); first | (go_simp; done) | (go_simp; with_reducible rfl))
              try simp only [Act.put, List.setIfInBounds_toArray, List.set_cons_zero, List.set_cons_succ]
              refine wpAnyH_ready (rs := [14]) (by kernel_rfl) (by simp) ?_
              refine AllReadyH.cons (o := { dst := some 99, op := Op.call { callee := Callee.value (Operand.func 47), args := #[Operand.tmp 98], argTypes := #[81] }, type := 4, pos := "law.go:44", after := #[{ on := 13, ground := Ground.data }, { on := 12, ground := Ground.chain }, { on := 12, ground := Ground.guard }], guard := some (12, false) }) rfl (fun K hK => ?_) AllReadyH.nil
              go_simp
              go_at_call 47; refine (HSv.out _ hHeld.2.2.2.2).mono ?_; rintro e x3 ⟨rfl, rfl⟩
              try go_wp2_with fail
              have hNew := hHeld
              clear hHeld
              have hHeld := hNew
              clear hNew
              refine hK.out _ _ hHeld (fun _ => ?_)
              clear hK K
              try simp only [Act.put, List.setIfInBounds_toArray, List.set_cons_zero, List.set_cons_succ]
              refine wpAnyH_take (i := 17) (oi := { dst := some 102, op := Op.binOp BinOp.neq 4 (Operand.tmp 99) (Operand.tmp 101) 4, type := 4, pos := "law.go:44", after := #[{ on := 14, ground := Ground.data }, { on := 16, ground := Ground.data }, { on := 12, ground := Ground.guard }], guard := some (12, false) }) (v := ?_) rfl (by kernel_rfl) (by kernel_rfl) (by kernel_rfl) (fun _ _ _ h => h) (Or.inl ⟨by rfl, ?_⟩) (by assumption) ?_
              rotate_left
              focus (intro w hSw; (try dsimp only at hSw); first | (go_simp; done) | (go_simp; with_reducible rfl))
              try simp only [Act.put, List.setIfInBounds_toArray, List.set_cons_zero, List.set_cons_succ]
              refine wpAnyH_take (i := 18) (oi := { dst := some 103, op := Op.pick (Operand.tmp 97) (Operand.const (Value.bool true)) (Operand.tmp 102), type := 4, pos := "law.go:44", after := #[{ on := 12, ground := Ground.data }, { on := 17, ground := Ground.data }], guard := none }) (v := ?_) rfl (by kernel_rfl) (by kernel_rfl) (by kernel_rfl) (fun _ _ _ h => h) (Or.inl ⟨by rfl, ?_⟩) (by assumption) ?_
              rotate_left
              focus (intro w hSw; (try dsimp only at hSw); first | (go_simp; done) | (go_simp; with_reducible rfl))
              try simp only [Act.put, List.setIfInBounds_toArray, List.set_cons_zero, List.set_cons_succ]
              refine wpAnyH_take (i := 19) (oi := { dst := some 104, op := Op.move (Operand.tmp 103), type := 4, pos := "law.go:44", after := #[{ on := 18, ground := Ground.data }, { on := 14, ground := Ground.chain }], guard := none }) (v := ?_) rfl (by kernel_rfl) (by kernel_rfl) (by kernel_rfl) (fun _ _ _ h => h) (Or.inl ⟨by rfl, ?_⟩) (by assumption) ?_
              rotate_left
              focus (intro w hSw; (try dsimp only at hSw); first | (go_simp; done) | (go_simp; with_reducible rfl))
              try simp only [Act.put, List.setIfInBounds_toArray, List.set_cons_zero, List.set_cons_succ]
              refine wpAnyH_take (i := 20) (oi := { dst := some 105, op := Op.move (Operand.tmp 11), type := 81, pos := "law.go:44", after := #[{ on := 19, ground := Ground.guard }], guard := some (19, false) }) (v := ?_) rfl (by kernel_rfl) (by kernel_rfl) (by kernel_rfl) (fun _ _ _ h => h) (Or.inl ⟨by rfl, ?_⟩) (by assumption) ?_
              rotate_left
              focus (intro w hSw; (try dsimp only at hSw); first | (go_simp; done) | (go_simp; with_reducible rfl))
              try simp only [Act.put, List.setIfInBounds_toArray, List.set_cons_zero, List.set_cons_succ]
              refine wpAnyH_take (i := 21) (oi := { dst := some 106, op := Op.move (Operand.tmp 8), type := 31, pos := "law.go:44", after := #[{ on := 19, ground := Ground.guard }], guard := some (19, false) }) (v := ?_) rfl (by kernel_rfl) (by kernel_rfl) (by kernel_rfl) (fun _ _ _ h => h) (Or.inl ⟨by rfl, ?_⟩) (by assumption) ?_
              rotate_left
              focus (intro w hSw; (try dsimp only at hSw); first | (go_simp; done) | (go_simp; with_reducible rfl))
              try simp only [Act.put, List.setIfInBounds_toArray, List.set_cons_zero, List.set_cons_succ]
              refine wpAnyH_take (i := 23) (oi := { dst := some 108, op := Op.fieldAddr 48 (Operand.tmp 14) 2, type := 0, pos := "law.go:44", after := #[{ on := 19, ground := Ground.guard }], guard := some (19, false) }) (v := ?_) rfl (by kernel_rfl) (by kernel_rfl) (by kernel_rfl) (fun _ _ _ h => h) (Or.inl ⟨by rfl, ?_⟩) (by assumption) ?_
              rotate_left
              focus (intro w hSw; (try dsimp only at hSw); first | (go_simp; done) | (go_simp; with_reducible rfl))
              try simp only [Act.put, List.setIfInBounds_toArray, List.set_cons_zero, List.set_cons_succ]
              refine wpAnyH_take (i := 24) (oi := { dst := some 109, op := Op.load 4 (Operand.tmp 108), type := 4, pos := "law.go:44", after := #[{ on := 23, ground := Ground.data }, { on := 19, ground := Ground.guard }], guard := some (19, false) }) (v := ?_) rfl (by kernel_rfl) (by kernel_rfl) (by kernel_rfl) (fun _ _ _ h => h) (Or.inl ⟨by rfl, ?_⟩) (by assumption) ?_
              rotate_left
              focus (intro w hSw; (try dsimp only at hSw); first | (go_simp; done) | (go_simp; with_reducible rfl))
              try simp only [Act.put, List.setIfInBounds_toArray, List.set_cons_zero, List.set_cons_succ]
              refine wpAnyH_ready (rs := [22]) (by kernel_rfl) (by simp) ?_
              refine AllReadyH.cons (o := { dst := some 107, op := Op.call { callee := Callee.value (Operand.func 48), args := #[Operand.tmp 105, Operand.tmp 106], argTypes := #[81, 31] }, type := 4, pos := "law.go:44", after := #[{ on := 20, ground := Ground.data }, { on := 21, ground := Ground.data }, { on := 19, ground := Ground.chain }, { on := 19, ground := Ground.guard }], guard := some (19, false) }) rfl (fun K hK => ?_) AllReadyH.nil
              go_simp
              go_at_call 48; refine (HA.out _ hHeld.2.2.2.2).mono ?_; rintro e x4 ⟨rfl, g4a⟩
              try go_wp2_with fail
              have hNew := KEEP.out _ _ hHeld g4a
              clear hHeld
              have hHeld := hNew
              clear hNew
              refine hK.out _ _ hHeld (fun _ => ?_)
              clear hK K
              try simp only [Act.put, List.setIfInBounds_toArray, List.set_cons_zero, List.set_cons_succ]
              refine wpAnyH_take (i := 25) (oi := { dst := some 110, op := Op.move (Operand.tmp 109), type := 4, pos := "law.go:44", after := #[{ on := 24, ground := Ground.data }, { on := 22, ground := Ground.chain }, { on := 19, ground := Ground.guard }], guard := some (19, false) }) (v := ?_) rfl (by kernel_rfl) (by kernel_rfl) (by kernel_rfl) (fun _ _ _ h => h) (Or.inl ⟨by rfl, ?_⟩) (by assumption) ?_
              rotate_left
              focus (intro w hSw; (try dsimp only at hSw); first | (go_simp; done) | (go_simp; with_reducible rfl))
              try simp only [Act.put, List.setIfInBounds_toArray, List.set_cons_zero, List.set_cons_succ]
              refine wpAnyH_take (i := 26) (oi := { dst := some 111, op := Op.fieldAddr 48 (Operand.tmp 14) 4, type := 0, pos := "law.go:44", after := #[{ on := 25, ground := Ground.guard }], guard := some (25, true) }) (v := ?_) rfl (by kernel_rfl) (by kernel_rfl) (by kernel_rfl) (fun _ _ _ h => h) (Or.inl ⟨by rfl, ?_⟩) (by assumption) ?_
              rotate_left
              focus (intro w hSw; (try dsimp only at hSw); first | (go_simp; done) | (go_simp; with_reducible rfl))
              try simp only [Act.put, List.setIfInBounds_toArray, List.set_cons_zero, List.set_cons_succ]
              refine wpAnyH_take (i := 27) (oi := { dst := some 112, op := Op.load 4 (Operand.tmp 111), type := 4, pos := "law.go:44", after := #[{ on := 26, ground := Ground.data }, { on := 25, ground := Ground.guard }], guard := some (25, true) }) (v := ?_) rfl (by kernel_rfl) (by kernel_rfl) (by kernel_rfl) (fun _ _ _ h => h) (Or.inl ⟨by rfl, ?_⟩) (by assumption) ?_
              rotate_left
              focus (intro w hSw; (try dsimp only at hSw); first | (go_simp; done) | (go_simp; with_reducible rfl))
              try simp only [Act.put, List.setIfInBounds_toArray, List.set_cons_zero, List.set_cons_succ]
              refine wpAnyH_take (i := 28) (oi := { dst := some 113, op := Op.pick (Operand.tmp 110) (Operand.tmp 112) (Operand.const (Value.bool false)), type := 4, pos := "law.go:44", after := #[{ on := 25, ground := Ground.data }, { on := 27, ground := Ground.data }, { on := 19, ground := Ground.guard }], guard := some (19, false) }) (v := ?_) rfl (by kernel_rfl) (by kernel_rfl) (by kernel_rfl) (fun _ _ _ h => h) (Or.inl ⟨by rfl, ?_⟩) (by assumption) ?_
              rotate_left
              focus (intro w hSw; (try dsimp only at hSw); first | (go_simp; done) | (go_simp; with_reducible rfl))
              try simp only [Act.put, List.setIfInBounds_toArray, List.set_cons_zero, List.set_cons_succ]
              refine wpAnyH_take (i := 29) (oi := { dst := some 114, op := Op.move (Operand.tmp 113), type := 4, pos := "law.go:44", after := #[{ on := 28, ground := Ground.data }, { on := 25, ground := Ground.chain }, { on := 19, ground := Ground.guard }], guard := some (19, false) }) (v := ?_) rfl (by kernel_rfl) (by kernel_rfl) (by kernel_rfl) (fun _ _ _ h => h) (Or.inl ⟨by rfl, ?_⟩) (by assumption) ?_
              rotate_left
              focus (intro w hSw; (try dsimp only at hSw); first | (go_simp; done) | (go_simp; with_reducible rfl))
              try simp only [Act.put, List.setIfInBounds_toArray, List.set_cons_zero, List.set_cons_succ]
              refine wpAnyH_take (i := 30) (oi := { dst := some 115, op := Op.move (Operand.tmp 16), type := 39, pos := "law.go:44", after := #[{ on := 29, ground := Ground.guard }], guard := some (29, true) }) (v := ?_) rfl (by kernel_rfl) (by kernel_rfl) (by kernel_rfl) (fun _ _ _ h => h) (Or.inl ⟨by rfl, ?_⟩) (by assumption) ?_
              rotate_left
              focus (intro w hSw; (try dsimp only at hSw); first | (go_simp; done) | (go_simp; with_reducible rfl))
              try simp only [Act.put, List.setIfInBounds_toArray, List.set_cons_zero, List.set_cons_succ]
              refine wpAnyH_take (i := 31) (oi := { dst := some 116, op := Op.binOp BinOp.eql 39 (Operand.tmp 115) (Operand.const (Value.int IntKind.u64 0)) 39, type := 4, pos := "law.go:44", after := #[{ on := 30, ground := Ground.data }, { on := 29, ground := Ground.guard }], guard := some (29, true) }) (v := ?_) rfl (by kernel_rfl) (by kernel_rfl) (by kernel_rfl) (fun _ _ _ h => h) (Or.inl ⟨by rfl, ?_⟩) (by assumption) ?_
              rotate_left
              focus (intro w hSw; (try dsimp only at hSw); first | (go_simp; done) | (go_simp; with_reducible rfl))
              try simp only [Act.put, List.setIfInBounds_toArray, List.set_cons_zero, List.set_cons_succ]
              refine wpAnyH_take (i := 32) (oi := { dst := some 117, op := Op.pick (Operand.tmp 114) (Operand.tmp 116) (Operand.const (Value.bool false)), type := 4, pos := "law.go:44", after := #[{ on := 29, ground := Ground.data }, { on := 31, ground := Ground.data }, { on := 19, ground := Ground.guard }], guard := some (19, false) }) (v := ?_) rfl (by kernel_rfl) (by kernel_rfl) (by kernel_rfl) (fun _ _ _ h => h) (Or.inl ⟨by rfl, ?_⟩) (by assumption) ?_
              rotate_left
              focus (intro w hSw; (try dsimp only at hSw); first | (go_simp; done) | (go_simp; with_reducible rfl))
              try simp only [Act.put, List.setIfInBounds_toArray, List.set_cons_zero, List.set_cons_succ]
              refine wpAnyH_take (i := 33) (oi := { dst := some 118, op := Op.binOp BinOp.neq 4 (Operand.tmp 107) (Operand.tmp 117) 4, type := 4, pos := "law.go:44", after := #[{ on := 22, ground := Ground.data }, { on := 32, ground := Ground.data }, { on := 19, ground := Ground.guard }], guard := some (19, false) }) (v := ?_) rfl (by kernel_rfl) (by kernel_rfl) (by kernel_rfl) (fun _ _ _ h => h) (Or.inl ⟨by rfl, ?_⟩) (by assumption) ?_
              rotate_left
              focus (intro w hSw; (try dsimp only at hSw); first | (go_simp; done) | (go_simp; with_reducible rfl))
              try simp only [Act.put, List.setIfInBounds_toArray, List.set_cons_zero, List.set_cons_succ]
              refine wpAnyH_take (i := 34) (oi := { dst := some 119, op := Op.pick (Operand.tmp 104) (Operand.const (Value.bool true)) (Operand.tmp 118), type := 4, pos := "law.go:44", after := #[{ on := 19, ground := Ground.data }, { on := 33, ground := Ground.data }], guard := none }) (v := ?_) rfl (by kernel_rfl) (by kernel_rfl) (by kernel_rfl) (fun _ _ _ h => h) (Or.inl ⟨by rfl, ?_⟩) (by assumption) ?_
              rotate_left
              focus (intro w hSw; (try dsimp only at hSw); first | (go_simp; done) | (go_simp; with_reducible rfl))
              try simp only [Act.put, List.setIfInBounds_toArray, List.set_cons_zero, List.set_cons_succ]
              refine wpAnyH_done (by kernel_rfl) ?_ _
              
              all_goals
                have HO5 : Hid _ := HO4.out.still HGD.out hHeld.2.2.2.2
                have HRg : Hid _ := (HR4.out.below hHeld.2.2.2.2).range
                have hTu := HO5.out.turn HGD.out HOK.out hn6 (HLo.out.more (by omega)) (by omega) th
                rw [show runCells (.slice Ag mg capg) ((naPM P T th).rn t mg) = (runL (.slice Ag mg capg) ((naPM P T th).rn t mg)).toArray from rfl] at hTu
                generalize (naPM P T th).rn t mg = RN at *
                simp only [runL] at hTu
                clear HD HPv HSv HA KEEP hH HO4 HR4 s2 hHeld
                go_wp2_with (refine wpList_load_mid rfl 48 _ rfl wr.heap.size 0 rfl (runL (.slice Ag mg capg) RN) _ HRg.out Tryz.underlying48 rfl (by kernel_rfl) ?_; clear HRg)
                go_at_call 19; refine hTu.mono ?_; rintro e w6 ⟨Ag', capg', rfl, hO6⟩
                have HO6 : Hid _ := hO6
                have hSt := HO6.out.step HGD.out HLW.out.2 (fun Y (h : ((Rd.lay cl P T G).and (Rd.blk w.heap.size #[.int .i64 P, .int .i64 T, .int .i64 G, .slice E m cp] 26)).P Y) => h.1) (fun k hk => List.mem_append_left _ hk) hn6 (HLo.out.more (by omega))
                have HHn : Hid _ := HH.out.next n s (fun k i old new => actA_bd HO6.out.poke.mem k i old new)
                have HLo7 : Hid (Low ((naPM P T th).goS th n t s) ((k + 1 : Nat) : Int)) := PM.goS_low HLo.out
                have hml : (naPM P T th).goM n t s mg ≤ k + 1 := by unfold PM.goM; split <;> (try split) <;> omega
                clear hTu hO6 HO5
                go_wp2_with fail
                go_at_call 49; refine hSt.mono ?_; rintro e w7 ⟨⟨zz, rfl⟩, L7, hO7⟩
                have HO7 : Hid _ := hO7
                clear hSt hO7 HO6 HH HLo
                generalize (naPM P T th).goS th n t s = s' at *
                generalize (naPM P T th).goG n t s gf mg = g' at *
                generalize (naPM P T th).goM n t s mg = m' at *
                generalize (naPM P T th).goT n t s = t' at *
                have hAl := alike_any w7 A A' cap cap' c b c' b' n s' hn6 HO7.out.poke.two
                go_wp2_with fail
                go_at_call 21; refine hAl.mono ?_; rintro e w8 ⟨rfl, hb8⟩
                have HO8 : Hid _ := HO7.out.still HGD.out hb8
                clear hAl hb8 HO7
                go_wp2_with fail
                go_roundw
                case rel => exact ⟨k + 1, s', Ag', capg', m', g', t', L7, by omega, by go_num, rfl, hml, HO8.out, HLo7, HHn.out⟩
                case measure => simp [intOf]; omega
            · as_aux_lemma =>
              have eqz : decide (wv = 0) = false := decide_eq_false hwz
              have eqz2 : (wv == 0) = false := by simpa using hwz
              have HD : Hid (∀ Y, Below w4.heap.size w4 Y → Calls Tryz.prog 45 #[.pointer (some ⟨x, 0, none⟩)] Y fun e w' => e = .returned (.bool false) ∧ Y = w') := HD0
              have HA : Hid (∀ Y, Below w4.heap.size w4 Y → Calls Tryz.prog 48 #[.pointer (some ⟨x, 0, none⟩), .pointer (some ⟨c, 0, none⟩)] Y fun e w' => e = .returned (.bool false) ∧ Below Y.heap.size Y w') := by rw [eqz] at HAL; exact HAL
              have hH : Hid (w4.drew.cell? ⟨wr.heap.size, 2, none⟩ = some (.bool true) ∧ w4.drew.cell? ⟨wr.heap.size, 9, none⟩ = some (.bool true) ∧ w4.drew.cell? ⟨g4, 0, none⟩ = some (.int .i64 tp) ∧ w4.drew.cell? ⟨g4, 1, none⟩ = some (.bool ts) ∧ Below w4.heap.size w4 w4.drew) := ⟨s2, s9, k0, k1, (Below.refl _ _).drew⟩
              have KEEP : Hid (∀ X w' : World, (X.cell? ⟨wr.heap.size, 2, none⟩ = some (.bool true) ∧ X.cell? ⟨wr.heap.size, 9, none⟩ = some (.bool true) ∧ X.cell? ⟨g4, 0, none⟩ = some (.int .i64 tp) ∧ X.cell? ⟨g4, 1, none⟩ = some (.bool ts) ∧ Below w4.heap.size w4 X) → Below X.heap.size X w' → (w'.cell? ⟨wr.heap.size, 2, none⟩ = some (.bool true) ∧ w'.cell? ⟨wr.heap.size, 9, none⟩ = some (.bool true) ∧ w'.cell? ⟨g4, 0, none⟩ = some (.int .i64 tp) ∧ w'.cell? ⟨g4, 1, none⟩ = some (.bool ts) ∧ Below w4.heap.size w4 w')) := fun X w' h k => ⟨(k.cell (p := ⟨wr.heap.size, 2, none⟩) (Nat.lt_of_lt_of_le hs4.out.1 h.2.2.2.2.size)).trans h.1, (k.cell (p := ⟨wr.heap.size, 9, none⟩) (Nat.lt_of_lt_of_le hs4.out.1 h.2.2.2.2.size)).trans h.2.1, (k.cell (p := ⟨g4, 0, none⟩) (Nat.lt_of_lt_of_le hs4.out.2 h.2.2.2.2.size)).trans h.2.2.1, (k.cell (p := ⟨g4, 1, none⟩) (Nat.lt_of_lt_of_le hs4.out.2 h.2.2.2.2.size)).trans h.2.2.2.1, h.2.2.2.2.trans (k.mono h.2.2.2.2.size)⟩
              clear hst hsl hsn k0 k1 s9 HD0 HAL
              go_wp2_with fail
              refine wp_region_held_drew (S := fun w' => w'.cell? ⟨wr.heap.size, 2, none⟩ = some (.bool true) ∧ w'.cell? ⟨wr.heap.size, 9, none⟩ = some (.bool true) ∧ w'.cell? ⟨g4, 0, none⟩ = some (.int .i64 tp) ∧ w'.cell? ⟨g4, 1, none⟩ = some (.bool ts) ∧ Below w4.heap.size w4 w') (by kernel_rfl) hH.out (fun hHeld => ?_)
              refine wpAnyH_take (i := 0) (oi := { dst := some 85, op := Op.move (Operand.tmp 11), type := 81, pos := "law.go:44", after := #[], guard := none }) (v := ?_) rfl (by kernel_rfl) (by kernel_rfl) (by kernel_rfl) (fun _ _ _ h => h) (Or.inl ⟨by rfl, ?_⟩) (by assumption) ?_
              rotate_left
              focus (intro w hSw; (try dsimp only at hSw); first | (go_simp; done) | (go_simp; with_reducible rfl))
              try simp only [Act.put, List.setIfInBounds_toArray, List.set_cons_zero, List.set_cons_succ]
              refine wpAnyH_take (i := 2) (oi := { dst := some 87, op := Op.fieldAddr 48 (Operand.tmp 14) 2, type := 0, pos := "law.go:44", after := #[], guard := none }) (v := ?_) rfl (by kernel_rfl) (by kernel_rfl) (by kernel_rfl) (fun _ _ _ h => h) (Or.inl ⟨by rfl, ?_⟩) (by assumption) ?_
              rotate_left
              focus (intro w hSw; (try dsimp only at hSw); first | (go_simp; done) | (go_simp; with_reducible rfl))
              try simp only [Act.put, List.setIfInBounds_toArray, List.set_cons_zero, List.set_cons_succ]
              refine wpAnyH_take (i := 3) (oi := { dst := some 88, op := Op.load 4 (Operand.tmp 87), type := 4, pos := "law.go:44", after := #[{ on := 2, ground := Ground.data }], guard := none }) (v := ?_) rfl (by kernel_rfl) (by kernel_rfl) (by kernel_rfl) (fun _ _ _ h => h) (Or.inl ⟨by rfl, ?_⟩) (by assumption) ?_
              rotate_left
              focus (intro w hSw; (try dsimp only at hSw); first | (go_simp; done) | (go_simp; with_reducible rfl))
              try simp only [Act.put, List.setIfInBounds_toArray, List.set_cons_zero, List.set_cons_succ]
              refine wpAnyH_ready (rs := [1]) (by kernel_rfl) (by simp) ?_
              refine AllReadyH.cons (o := { dst := some 86, op := Op.call { callee := Callee.value (Operand.func 45), args := #[Operand.tmp 85], argTypes := #[81] }, type := 4, pos := "law.go:44", after := #[{ on := 0, ground := Ground.data }], guard := none }) rfl (fun K hK => ?_) AllReadyH.nil
              go_simp
              go_at_call 45; refine (HD.out _ hHeld.2.2.2.2).mono ?_; rintro e x1 ⟨rfl, rfl⟩
              try go_wp2_with fail
              have hNew := hHeld
              clear hHeld
              have hHeld := hNew
              clear hNew
              refine hK.out _ _ hHeld (fun _ => ?_)
              clear hK K
              try simp only [Act.put, List.setIfInBounds_toArray, List.set_cons_zero, List.set_cons_succ]
              refine wpAnyH_take (i := 4) (oi := { dst := some 89, op := Op.binOp BinOp.eql 4 (Operand.tmp 86) (Operand.tmp 88) 4, type := 4, pos := "law.go:44", after := #[{ on := 1, ground := Ground.data }, { on := 3, ground := Ground.data }], guard := none }) (v := ?_) rfl (by kernel_rfl) (by kernel_rfl) (by kernel_rfl) (fun _ _ _ h => h) (Or.inl ⟨by rfl, ?_⟩) (by assumption) ?_
              rotate_left
              focus (intro w hSw; (try dsimp only at hSw); first | (go_simp; done) | (go_simp; with_reducible rfl))
              try simp only [Act.put, List.setIfInBounds_toArray, List.set_cons_zero, List.set_cons_succ]
              refine wpAnyH_take (i := 5) (oi := { dst := some 90, op := Op.move (Operand.tmp 89), type := 4, pos := "law.go:44", after := #[{ on := 4, ground := Ground.data }, { on := 1, ground := Ground.chain }], guard := none }) (v := ?_) rfl (by kernel_rfl) (by kernel_rfl) (by kernel_rfl) (fun _ _ _ h => h) (Or.inl ⟨by rfl, ?_⟩) (by assumption) ?_
              rotate_left
              focus (intro w hSw; (try dsimp only at hSw); first | (go_simp; done) | (go_simp; with_reducible rfl))
              try simp only [Act.put, List.setIfInBounds_toArray, List.set_cons_zero, List.set_cons_succ]
              refine wpAnyH_take (i := 6) (oi := { dst := some 91, op := Op.move (Operand.tmp 11), type := 81, pos := "law.go:44", after := #[{ on := 5, ground := Ground.guard }], guard := some (5, false) }) (v := ?_) rfl (by kernel_rfl) (by kernel_rfl) (by kernel_rfl) (fun _ _ _ h => h) (Or.inl ⟨by rfl, ?_⟩) (by assumption) ?_
              rotate_left
              focus (intro w hSw; (try dsimp only at hSw); first | (go_simp; done) | (go_simp; with_reducible rfl))
              try simp only [Act.put, List.setIfInBounds_toArray, List.set_cons_zero, List.set_cons_succ]
              refine wpAnyH_take (i := 8) (oi := { dst := some 93, op := Op.fieldAddr 84 (Operand.tmp 15) 0, type := 0, pos := "law.go:44", after := #[{ on := 5, ground := Ground.guard }], guard := some (5, false) }) (v := ?_) rfl (by kernel_rfl) (by kernel_rfl) (by kernel_rfl) (fun _ _ _ h => h) (Or.inl ⟨by rfl, ?_⟩) (by assumption) ?_
              rotate_left
              focus (intro w hSw; (try dsimp only at hSw); first | (go_simp; done) | (go_simp; with_reducible rfl))
              try simp only [Act.put, List.setIfInBounds_toArray, List.set_cons_zero, List.set_cons_succ]
              refine wpAnyH_take (i := 9) (oi := { dst := some 94, op := Op.load 3 (Operand.tmp 93), type := 3, pos := "law.go:44", after := #[{ on := 8, ground := Ground.data }, { on := 5, ground := Ground.guard }], guard := some (5, false) }) (v := ?_) rfl (by kernel_rfl) (by kernel_rfl) (by kernel_rfl) (fun _ _ _ h => h) (Or.inl ⟨by rfl, ?_⟩) (by assumption) ?_
              rotate_left
              focus (intro w hSw; (try dsimp only at hSw); first | (go_simp; done) | (go_simp; with_reducible rfl))
              try simp only [Act.put, List.setIfInBounds_toArray, List.set_cons_zero, List.set_cons_succ]
              refine wpAnyH_ready (rs := [7]) (by kernel_rfl) (by simp) ?_
              refine AllReadyH.cons (o := { dst := some 92, op := Op.call { callee := Callee.value (Operand.func 46), args := #[Operand.tmp 91], argTypes := #[81] }, type := 3, pos := "law.go:44", after := #[{ on := 6, ground := Ground.data }, { on := 5, ground := Ground.chain }, { on := 5, ground := Ground.guard }], guard := some (5, false) }) rfl (fun K hK => ?_) AllReadyH.nil
              go_simp
              go_at_call 46; refine (HPv.out _ hHeld.2.2.2.2).mono ?_; rintro e x2 ⟨rfl, rfl⟩
              try go_wp2_with fail
              have hNew := hHeld
              clear hHeld
              have hHeld := hNew
              clear hNew
              refine hK.out _ _ hHeld (fun _ => ?_)
              clear hK K
              try simp only [Act.put, List.setIfInBounds_toArray, List.set_cons_zero, List.set_cons_succ]
              refine wpAnyH_take (i := 10) (oi := { dst := some 95, op := Op.binOp BinOp.neq 3 (Operand.tmp 92) (Operand.tmp 94) 3, type := 4, pos := "law.go:44", after := #[{ on := 7, ground := Ground.data }, { on := 9, ground := Ground.data }, { on := 5, ground := Ground.guard }], guard := some (5, false) }) (v := ?_) rfl (by kernel_rfl) (by kernel_rfl) (by kernel_rfl) (fun _ _ _ h => h) (Or.inl ⟨by rfl, ?_⟩) (by assumption) ?_
              rotate_left
              focus (intro w hSw; (try dsimp only at hSw); first | (go_simp; done) | (go_simp; with_reducible rfl))
              try simp only [Act.put, List.setIfInBounds_toArray, List.set_cons_zero, List.set_cons_succ]
              refine wpAnyH_take (i := 11) (oi := { dst := some 96, op := Op.pick (Operand.tmp 90) (Operand.const (Value.bool true)) (Operand.tmp 95), type := 4, pos := "law.go:44", after := #[{ on := 5, ground := Ground.data }, { on := 10, ground := Ground.data }], guard := none }) (v := ?_) rfl (by kernel_rfl) (by kernel_rfl) (by kernel_rfl) (fun _ _ _ h => h) (Or.inl ⟨by rfl, ?_⟩) (by assumption) ?_
              rotate_left
              focus (intro w hSw; (try dsimp only at hSw); first | (go_simp; done) | (go_simp; with_reducible rfl))
              try simp only [Act.put, List.setIfInBounds_toArray, List.set_cons_zero, List.set_cons_succ]
              refine wpAnyH_take (i := 12) (oi := { dst := some 97, op := Op.move (Operand.tmp 96), type := 4, pos := "law.go:44", after := #[{ on := 11, ground := Ground.data }, { on := 7, ground := Ground.chain }], guard := none }) (v := ?_) rfl (by kernel_rfl) (by kernel_rfl) (by kernel_rfl) (fun _ _ _ h => h) (Or.inl ⟨by rfl, ?_⟩) (by assumption) ?_
              rotate_left
              focus (intro w hSw; (try dsimp only at hSw); first | (go_simp; done) | (go_simp; with_reducible rfl))
              try simp only [Act.put, List.setIfInBounds_toArray, List.set_cons_zero, List.set_cons_succ]
              refine wpAnyH_take (i := 13) (oi := { dst := some 98, op := Op.move (Operand.tmp 11), type := 81, pos := "law.go:44", after := #[{ on := 12, ground := Ground.guard }], guard := some (12, false) }) (v := ?_) rfl (by kernel_rfl) (by kernel_rfl) (by kernel_rfl) (fun _ _ _ h => h) (Or.inl ⟨by rfl, ?_⟩) (by assumption) ?_
              rotate_left
              focus (intro w hSw; (try dsimp only at hSw); first | (go_simp; done) | (go_simp; with_reducible rfl))
              try simp only [Act.put, List.setIfInBounds_toArray, List.set_cons_zero, List.set_cons_succ]
              refine wpAnyH_take (i := 15) (oi := { dst := some 100, op := Op.fieldAddr 84 (Operand.tmp 15) 1, type := 0, pos := "law.go:44", after := #[{ on := 12, ground := Ground.guard }], guard := some (12, false) }) (v := ?_) rfl (by kernel_rfl) (by kernel_rfl) (by kernel_rfl) (fun _ _ _ h => h) (Or.inl ⟨by rfl, ?_⟩) (by assumption) ?_
              rotate_left
              focus (intro w hSw; (try dsimp only at hSw); first | (go_simp; done) | (go_simp; with_reducible rfl))
              try simp only [Act.put, List.setIfInBounds_toArray, List.set_cons_zero, List.set_cons_succ]
              refine wpAnyH_take (i := 16) (oi := { dst := some 101, op := Op.load 4 (Operand.tmp 100), type := 4, pos := "law.go:44", after := #[{ on := 15, ground := Ground.data }, { on := 12, ground := Ground.guard }], guard := some (12, false) }) (v := ?_) rfl (by kernel_rfl) (by kernel_rfl) (by kernel_rfl) (fun _ _ _ h => h) (Or.inl ⟨by rfl, ?_⟩) (by assumption) ?_
              rotate_left
              focus (intro w hSw; (try dsimp only at hSw); first | (go_simp; done) | (go_simp; with_reducible rfl))
              try simp only [Act.put, List.setIfInBounds_toArray, List.set_cons_zero, List.set_cons_succ]
              refine wpAnyH_ready (rs := [14]) (by kernel_rfl) (by simp) ?_
              refine AllReadyH.cons (o := { dst := some 99, op := Op.call { callee := Callee.value (Operand.func 47), args := #[Operand.tmp 98], argTypes := #[81] }, type := 4, pos := "law.go:44", after := #[{ on := 13, ground := Ground.data }, { on := 12, ground := Ground.chain }, { on := 12, ground := Ground.guard }], guard := some (12, false) }) rfl (fun K hK => ?_) AllReadyH.nil
              go_simp
              go_at_call 47; refine (HSv.out _ hHeld.2.2.2.2).mono ?_; rintro e x3 ⟨rfl, rfl⟩
              try go_wp2_with fail
              have hNew := hHeld
              clear hHeld
              have hHeld := hNew
              clear hNew
              refine hK.out _ _ hHeld (fun _ => ?_)
              clear hK K
              try simp only [Act.put, List.setIfInBounds_toArray, List.set_cons_zero, List.set_cons_succ]
              refine wpAnyH_take (i := 17) (oi := { dst := some 102, op := Op.binOp BinOp.neq 4 (Operand.tmp 99) (Operand.tmp 101) 4, type := 4, pos := "law.go:44", after := #[{ on := 14, ground := Ground.data }, { on := 16, ground := Ground.data }, { on := 12, ground := Ground.guard }], guard := some (12, false) }) (v := ?_) rfl (by kernel_rfl) (by kernel_rfl) (by kernel_rfl) (fun _ _ _ h => h) (Or.inl ⟨by rfl, ?_⟩) (by assumption) ?_
              rotate_left
              focus (intro w hSw; (try dsimp only at hSw); first | (go_simp; done) | (go_simp; with_reducible rfl))
              try simp only [Act.put, List.setIfInBounds_toArray, List.set_cons_zero, List.set_cons_succ]
              refine wpAnyH_take (i := 18) (oi := { dst := some 103, op := Op.pick (Operand.tmp 97) (Operand.const (Value.bool true)) (Operand.tmp 102), type := 4, pos := "law.go:44", after := #[{ on := 12, ground := Ground.data }, { on := 17, ground := Ground.data }], guard := none }) (v := ?_) rfl (by kernel_rfl) (by kernel_rfl) (by kernel_rfl) (fun _ _ _ h => h) (Or.inl ⟨by rfl, ?_⟩) (by assumption) ?_
              rotate_left
              focus (intro w hSw; (try dsimp only at hSw); first | (go_simp; done) | (go_simp; with_reducible rfl))
              try simp only [Act.put, List.setIfInBounds_toArray, List.set_cons_zero, List.set_cons_succ]
              refine wpAnyH_take (i := 19) (oi := { dst := some 104, op := Op.move (Operand.tmp 103), type := 4, pos := "law.go:44", after := #[{ on := 18, ground := Ground.data }, { on := 14, ground := Ground.chain }], guard := none }) (v := ?_) rfl (by kernel_rfl) (by kernel_rfl) (by kernel_rfl) (fun _ _ _ h => h) (Or.inl ⟨by rfl, ?_⟩) (by assumption) ?_
              rotate_left
              focus (intro w hSw; (try dsimp only at hSw); first | (go_simp; done) | (go_simp; with_reducible rfl))
              try simp only [Act.put, List.setIfInBounds_toArray, List.set_cons_zero, List.set_cons_succ]
              refine wpAnyH_take (i := 20) (oi := { dst := some 105, op := Op.move (Operand.tmp 11), type := 81, pos := "law.go:44", after := #[{ on := 19, ground := Ground.guard }], guard := some (19, false) }) (v := ?_) rfl (by kernel_rfl) (by kernel_rfl) (by kernel_rfl) (fun _ _ _ h => h) (Or.inl ⟨by rfl, ?_⟩) (by assumption) ?_
              rotate_left
              focus (intro w hSw; (try dsimp only at hSw); first | (go_simp; done) | (go_simp; with_reducible rfl))
              try simp only [Act.put, List.setIfInBounds_toArray, List.set_cons_zero, List.set_cons_succ]
              refine wpAnyH_take (i := 21) (oi := { dst := some 106, op := Op.move (Operand.tmp 8), type := 31, pos := "law.go:44", after := #[{ on := 19, ground := Ground.guard }], guard := some (19, false) }) (v := ?_) rfl (by kernel_rfl) (by kernel_rfl) (by kernel_rfl) (fun _ _ _ h => h) (Or.inl ⟨by rfl, ?_⟩) (by assumption) ?_
              rotate_left
              focus (intro w hSw; (try dsimp only at hSw); first | (go_simp; done) | (go_simp; with_reducible rfl))
              try simp only [Act.put, List.setIfInBounds_toArray, List.set_cons_zero, List.set_cons_succ]
              refine wpAnyH_take (i := 23) (oi := { dst := some 108, op := Op.fieldAddr 48 (Operand.tmp 14) 2, type := 0, pos := "law.go:44", after := #[{ on := 19, ground := Ground.guard }], guard := some (19, false) }) (v := ?_) rfl (by kernel_rfl) (by kernel_rfl) (by kernel_rfl) (fun _ _ _ h => h) (Or.inl ⟨by rfl, ?_⟩) (by assumption) ?_
              rotate_left
              focus (intro w hSw; (try dsimp only at hSw); first | (go_simp; done) | (go_simp; with_reducible rfl))
              try simp only [Act.put, List.setIfInBounds_toArray, List.set_cons_zero, List.set_cons_succ]
              refine wpAnyH_take (i := 24) (oi := { dst := some 109, op := Op.load 4 (Operand.tmp 108), type := 4, pos := "law.go:44", after := #[{ on := 23, ground := Ground.data }, { on := 19, ground := Ground.guard }], guard := some (19, false) }) (v := ?_) rfl (by kernel_rfl) (by kernel_rfl) (by kernel_rfl) (fun _ _ _ h => h) (Or.inl ⟨by rfl, ?_⟩) (by assumption) ?_
              rotate_left
              focus (intro w hSw; (try dsimp only at hSw); first | (go_simp; done) | (go_simp; with_reducible rfl))
              try simp only [Act.put, List.setIfInBounds_toArray, List.set_cons_zero, List.set_cons_succ]
              refine wpAnyH_ready (rs := [22]) (by kernel_rfl) (by simp) ?_
              refine AllReadyH.cons (o := { dst := some 107, op := Op.call { callee := Callee.value (Operand.func 48), args := #[Operand.tmp 105, Operand.tmp 106], argTypes := #[81, 31] }, type := 4, pos := "law.go:44", after := #[{ on := 20, ground := Ground.data }, { on := 21, ground := Ground.data }, { on := 19, ground := Ground.chain }, { on := 19, ground := Ground.guard }], guard := some (19, false) }) rfl (fun K hK => ?_) AllReadyH.nil
              go_simp
              go_at_call 48; refine (HA.out _ hHeld.2.2.2.2).mono ?_; rintro e x4 ⟨rfl, g4a⟩
              try go_wp2_with fail
              have hNew := KEEP.out _ _ hHeld g4a
              clear hHeld
              have hHeld := hNew
              clear hNew
              refine hK.out _ _ hHeld (fun _ => ?_)
              clear hK K
              try simp only [Act.put, List.setIfInBounds_toArray, List.set_cons_zero, List.set_cons_succ]
              refine wpAnyH_take (i := 25) (oi := { dst := some 110, op := Op.move (Operand.tmp 109), type := 4, pos := "law.go:44", after := #[{ on := 24, ground := Ground.data }, { on := 22, ground := Ground.chain }, { on := 19, ground := Ground.guard }], guard := some (19, false) }) (v := ?_) rfl (by kernel_rfl) (by kernel_rfl) (by kernel_rfl) (fun _ _ _ h => h) (Or.inl ⟨by rfl, ?_⟩) (by assumption) ?_
              rotate_left
              focus (intro w hSw; (try dsimp only at hSw); first | (go_simp; done) | (go_simp; with_reducible rfl))
              try simp only [Act.put, List.setIfInBounds_toArray, List.set_cons_zero, List.set_cons_succ]
              refine wpAnyH_take (i := 26) (oi := { dst := some 111, op := Op.fieldAddr 48 (Operand.tmp 14) 4, type := 0, pos := "law.go:44", after := #[{ on := 25, ground := Ground.guard }], guard := some (25, true) }) (v := ?_) rfl (by kernel_rfl) (by kernel_rfl) (by kernel_rfl) (fun _ _ _ h => h) (Or.inl ⟨by rfl, ?_⟩) (by assumption) ?_
              rotate_left
              focus (intro w hSw; (try dsimp only at hSw); first | (go_simp; done) | (go_simp; with_reducible rfl))
              try simp only [Act.put, List.setIfInBounds_toArray, List.set_cons_zero, List.set_cons_succ]
              refine wpAnyH_take (i := 27) (oi := { dst := some 112, op := Op.load 4 (Operand.tmp 111), type := 4, pos := "law.go:44", after := #[{ on := 26, ground := Ground.data }, { on := 25, ground := Ground.guard }], guard := some (25, true) }) (v := ?_) rfl (by kernel_rfl) (by kernel_rfl) (by kernel_rfl) (fun _ _ _ h => h) (Or.inl ⟨by rfl, ?_⟩) (by assumption) ?_
              rotate_left
              focus (intro w hSw; (try dsimp only at hSw); first | (go_simp; done) | (go_simp; with_reducible rfl))
              try simp only [Act.put, List.setIfInBounds_toArray, List.set_cons_zero, List.set_cons_succ]
              refine wpAnyH_take (i := 28) (oi := { dst := some 113, op := Op.pick (Operand.tmp 110) (Operand.tmp 112) (Operand.const (Value.bool false)), type := 4, pos := "law.go:44", after := #[{ on := 25, ground := Ground.data }, { on := 27, ground := Ground.data }, { on := 19, ground := Ground.guard }], guard := some (19, false) }) (v := ?_) rfl (by kernel_rfl) (by kernel_rfl) (by kernel_rfl) (fun _ _ _ h => h) (Or.inl ⟨by rfl, ?_⟩) (by assumption) ?_
              rotate_left
              focus (intro w hSw; (try dsimp only at hSw); first | (go_simp; done) | (go_simp; with_reducible rfl))
              try simp only [Act.put, List.setIfInBounds_toArray, List.set_cons_zero, List.set_cons_succ]
              refine wpAnyH_take (i := 29) (oi := { dst := some 114, op := Op.move (Operand.tmp 113), type := 4, pos := "law.go:44", after := #[{ on := 28, ground := Ground.data }, { on := 25, ground := Ground.chain }, { on := 19, ground := Ground.guard }], guard := some (19, false) }) (v := ?_) rfl (by kernel_rfl) (by kernel_rfl) (by kernel_rfl) (fun _ _ _ h => h) (Or.inl ⟨by rfl, ?_⟩) (by assumption) ?_
              rotate_left
              focus (intro w hSw; (try dsimp only at hSw); first | (go_simp; done) | (go_simp; with_reducible rfl))
              try simp only [Act.put, List.setIfInBounds_toArray, List.set_cons_zero, List.set_cons_succ]
              refine wpAnyH_take (i := 30) (oi := { dst := some 115, op := Op.move (Operand.tmp 16), type := 39, pos := "law.go:44", after := #[{ on := 29, ground := Ground.guard }], guard := some (29, true) }) (v := ?_) rfl (by kernel_rfl) (by kernel_rfl) (by kernel_rfl) (fun _ _ _ h => h) (Or.inl ⟨by rfl, ?_⟩) (by assumption) ?_
              rotate_left
              focus (intro w hSw; (try dsimp only at hSw); first | (go_simp; done) | (go_simp; with_reducible rfl))
              try simp only [Act.put, List.setIfInBounds_toArray, List.set_cons_zero, List.set_cons_succ]
              refine wpAnyH_take (i := 31) (oi := { dst := some 116, op := Op.binOp BinOp.eql 39 (Operand.tmp 115) (Operand.const (Value.int IntKind.u64 0)) 39, type := 4, pos := "law.go:44", after := #[{ on := 30, ground := Ground.data }, { on := 29, ground := Ground.guard }], guard := some (29, true) }) (v := ?_) rfl (by kernel_rfl) (by kernel_rfl) (by kernel_rfl) (fun _ _ _ h => h) (Or.inl ⟨by rfl, ?_⟩) (by assumption) ?_
              rotate_left
              focus (intro w hSw; (try dsimp only at hSw); first | (go_simp; done) | (go_simp; with_reducible rfl))
              try simp only [Act.put, List.setIfInBounds_toArray, List.set_cons_zero, List.set_cons_succ]
              refine wpAnyH_take (i := 32) (oi := { dst := some 117, op := Op.pick (Operand.tmp 114) (Operand.tmp 116) (Operand.const (Value.bool false)), type := 4, pos := "law.go:44", after := #[{ on := 29, ground := Ground.data }, { on := 31, ground := Ground.data }, { on := 19, ground := Ground.guard }], guard := some (19, false) }) (v := ?_) rfl (by kernel_rfl) (by kernel_rfl) (by kernel_rfl) (fun _ _ _ h => h) (Or.inl ⟨by rfl, ?_⟩) (by assumption) ?_
              rotate_left
              focus (intro w hSw; (try dsimp only at hSw); first | (go_simp; done) | (go_simp; with_reducible rfl))
              try simp only [Act.put, List.setIfInBounds_toArray, List.set_cons_zero, List.set_cons_succ]
              refine wpAnyH_take (i := 33) (oi := { dst := some 118, op := Op.binOp BinOp.neq 4 (Operand.tmp 107) (Operand.tmp 117) 4, type := 4, pos := "law.go:44", after := #[{ on := 22, ground := Ground.data }, { on := 32, ground := Ground.data }, { on := 19, ground := Ground.guard }], guard := some (19, false) }) (v := ?_) rfl (by kernel_rfl) (by kernel_rfl) (by kernel_rfl) (fun _ _ _ h => h) (Or.inl ⟨by rfl, ?_⟩) (by assumption) ?_
              rotate_left
              focus (intro w hSw; (try dsimp only at hSw); first | (go_simp; done) | (go_simp; with_reducible rfl))
              try simp only [Act.put, List.setIfInBounds_toArray, List.set_cons_zero, List.set_cons_succ]
              refine wpAnyH_take (i := 34) (oi := { dst := some 119, op := Op.pick (Operand.tmp 104) (Operand.const (Value.bool true)) (Operand.tmp 118), type := 4, pos := "law.go:44", after := #[{ on := 19, ground := Ground.data }, { on := 33, ground := Ground.data }], guard := none }) (v := ?_) rfl (by kernel_rfl) (by kernel_rfl) (by kernel_rfl) (fun _ _ _ h => h) (Or.inl ⟨by rfl, ?_⟩) (by assumption) ?_
              rotate_left
              focus (intro w hSw; (try dsimp only at hSw); first | (go_simp; done) | (go_simp; with_reducible rfl))
              try simp only [Act.put, List.setIfInBounds_toArray, List.set_cons_zero, List.set_cons_succ]
              refine wpAnyH_done (by kernel_rfl) ?_ _
              
              all_goals
                have HO5 : Hid _ := HO4.out.still HGD.out hHeld.2.2.2.2
                have HRg : Hid _ := (HR4.out.below hHeld.2.2.2.2).range
                have hTu := HO5.out.turn HGD.out HOK.out hn6 (HLo.out.more (by omega)) (by omega) th
                rw [show runCells (.slice Ag mg capg) ((naPM P T th).rn t mg) = (runL (.slice Ag mg capg) ((naPM P T th).rn t mg)).toArray from rfl] at hTu
                generalize (naPM P T th).rn t mg = RN at *
                simp only [runL] at hTu
                clear HD HPv HSv HA KEEP hH HO4 HR4 s2 hHeld
                go_wp2_with (refine wpList_load_mid rfl 48 _ rfl wr.heap.size 0 rfl (runL (.slice Ag mg capg) RN) _ HRg.out Tryz.underlying48 rfl (by kernel_rfl) ?_; clear HRg)
                go_at_call 19; refine hTu.mono ?_; rintro e w6 ⟨Ag', capg', rfl, hO6⟩
                have HO6 : Hid _ := hO6
                have hSt := HO6.out.step HGD.out HLW.out.2 (fun Y (h : ((Rd.lay cl P T G).and (Rd.blk w.heap.size #[.int .i64 P, .int .i64 T, .int .i64 G, .slice E m cp] 26)).P Y) => h.1) (fun k hk => List.mem_append_left _ hk) hn6 (HLo.out.more (by omega))
                have HHn : Hid _ := HH.out.next n s (fun k i old new => actA_bd HO6.out.poke.mem k i old new)
                have HLo7 : Hid (Low ((naPM P T th).goS th n t s) ((k + 1 : Nat) : Int)) := PM.goS_low HLo.out
                have hml : (naPM P T th).goM n t s mg ≤ k + 1 := by unfold PM.goM; split <;> (try split) <;> omega
                clear hTu hO6 HO5
                go_wp2_with fail
                go_at_call 49; refine hSt.mono ?_; rintro e w7 ⟨⟨zz, rfl⟩, L7, hO7⟩
                have HO7 : Hid _ := hO7
                clear hSt hO7 HO6 HH HLo
                generalize (naPM P T th).goS th n t s = s' at *
                generalize (naPM P T th).goG n t s gf mg = g' at *
                generalize (naPM P T th).goM n t s mg = m' at *
                generalize (naPM P T th).goT n t s = t' at *
                have hAl := alike_any w7 A A' cap cap' c b c' b' n s' hn6 HO7.out.poke.two
                go_wp2_with fail
                go_at_call 21; refine hAl.mono ?_; rintro e w8 ⟨rfl, hb8⟩
                have HO8 : Hid _ := HO7.out.still HGD.out hb8
                clear hAl hb8 HO7
                go_wp2_with fail
                go_roundw
                case rel => exact ⟨k + 1, s', Ag', capg', m', g', t', L7, by omega, by go_num, rfl, hml, HO8.out, HLo7, HHn.out⟩
                case measure => simp [intOf]; omega
    · as_aux_lemma =>
      obtain rfl : k = mp := by omega
      have hgd : decide ((k : Int) < (k : Int)) = false := by simp
      have HT := HO.out.poke.two
      have HTS : Hid (∀ Y, Below wr.heap.size wr Y → Two Y A A' cap cap' c b c' b' n s) := fun Y hY => HT.below hY
      have hH : Hid (wr.drew.cell? ⟨c', 0, none⟩ = some (.slice A' n cap') ∧ Below wr.heap.size wr wr.drew) := ⟨HT.r.cells.1, (Below.refl _ _).drew⟩
      have KEEP : Hid (∀ X w' : World, (X.cell? ⟨c', 0, none⟩ = some (.slice A' n cap') ∧ Below wr.heap.size wr X) → Below X.heap.size X w' → (w'.cell? ⟨c', 0, none⟩ = some (.slice A' n cap') ∧ Below wr.heap.size wr w')) := fun X w' h k => ⟨(HTS.out _ (h.2.trans (k.mono h.2.size))).r.cells.1, h.2.trans (k.mono h.2.size)⟩
      have HB9 : Hid (Below w.heap.size w wr) := HO.out.poke.below
      clear HT HO HLo HH
      go_wp2_with fail
      simp only [List.append_eq, List.cons_append, List.nil_append]
      go_region_held3 (fun w' => w'.cell? ⟨c', 0, none⟩ = some (.slice A' n cap') ∧ Below wr.heap.size wr w') (first | exact hH.out | assumption | exact KEEP.out _ _ ‹_› ‹_›) (first | (go_at_call 40; refine (HAW.out _).mono ?_; rintro e x1 ⟨rfl, g1⟩) | (go_at_call 23; refine (words_any _ A cap c b n s (HTS.out _ (by simp only [*])).m hn6).mono ?_; rintro e x5 ⟨A4, cap4, rfl, hs4, g5⟩) | (go_at_call 22; refine (sameB_any _ A4 A' n cap4 cap' s.f hn6 hs4 (HTS.out _ (by simp only [*])).r.sees).mono ?_; rintro e x6 ⟨rfl, g6⟩) | (go_at_call 45; refine (done_nil_rnap _).mono ?_; rintro e x7 ⟨rfl, rfl⟩) | (go_at_call 46; refine (na_P_nil _).mono ?_; rintro e x7 ⟨rfl, rfl⟩) | (go_at_call 47; refine (na_S_nil _).mono ?_; rintro e x7 ⟨rfl, rfl⟩) | (go_at_call 48; refine (asleep_nil_rnap _ _).mono ?_; rintro e x7 ⟨rfl, rfl⟩) | (go_at_call 50; refine (done_nil_rspn _).mono ?_; rintro e x7 ⟨rfl, rfl⟩) | (go_at_call 51; refine (sp_counts_nil _).mono ?_; rintro e x7 ⟨rfl, rfl⟩) | (go_at_call 52; refine (done_nil_rrst _).mono ?_; rintro e x7 ⟨rfl, rfl⟩) | (go_at_call 53; refine (re_P_nil _).mono ?_; rintro e x7 ⟨rfl, rfl⟩) | (go_at_call 54; refine (re_S_nil _).mono ?_; rintro e x7 ⟨rfl, rfl⟩) | (go_at_call 55; refine (asleep_nil_rrst _ _).mono ?_; rintro e x7 ⟨rfl, rfl⟩) | (go_at_call 49; refine (step_nil_rnap _ _).mono ?_; rintro e x7 ⟨rfl, rfl⟩) | (go_at_call 56; refine (step_nil_rspn _ _).mono ?_; rintro e x7 ⟨rfl, rfl⟩) | (go_at_call 57; refine (step_nil_rrst _ _).mono ?_; rintro e x7 ⟨rfl, rfl⟩))
      all_goals
        rename_i hHeld
        have hbF := HB9.out.trans (hHeld.2.mono HB9.out.size)
        go_wp2_with fail
        go_ret
        exact ⟨rfl, hbF⟩

theorem restNaps_walk (P T G th : Int) (E F : Option Addr) (m cp mp cq : Nat) (a v : Nat → Int) (Pks : Nat → Pk) (w : World) (hAw : ∀ w, Calls Tryz.prog 40 #[] w fun e w' => e = .returned (.bool true) ∧ Below w.heap.size w w') (hm : m ≤ 9223372036854775807) (hmp : mp ≤ 9223372036854775807) (hs : SeesP w w.heap.size E m a v) (hv : ∀ i, i < m → 0 ≤ v i ∧ v i ≤ 18446744073709551615) (hP : SeesC w w.heap.size F mp 6 (pkC Pks)) (hpv : ∀ j, j < mp → 0 ≤ (Pks j).v ∧ (Pks j).v ≤ 18446744073709551615) :
    Calls Tryz.prog 7 #[.agg #[.int .i64 P, .int .i64 T, .int .i64 G, .slice E m cp], .int .i64 th, .slice F mp cq] w fun e w' => e = .returned (.bool true) ∧ Below w.heap.size w w' := by
  by_cases h : (¬ FewC P T G ∨ 400 < m) ∨ 100 < mp ∨ th < 0 ∨ T ≤ th
  · exact restNaps_bad P T G th E F m cp mp cq a v w hAw hm hmp hs hv h
  · exact restNaps_ok P T G th E F m cp mp cq a v Pks w hAw (by omega) (Decidable.byContradiction fun hf => h (.inl (.inl hf))) (by omega) hs hv hP hpv (by omega)
end Go.Proofs.YthbgoakaijeemaaGreat
