/- The walk of the law HandSteps. -/
import Derived.Test.YtfdpikkinlljlaaGreatHMAA
import Derived.Test.YtfdpikkinlljlaaGreatHMAV
import Derived.Test.YtfdpikkinlljlaaGreatHMAC
namespace Go.Proofs.YtfdpikkinlljlaaGreat
open Go Go.RowKit
set_option linter.unusedVariables false
set_option maxRecDepth 100000
set_option linter.unusedSimpArgs false

theorem handSteps_bad (P T G x0 x1 : Int) (E F : Option Addr) (m cp mp cq : Nat) (a v : Nat → Int) (w : World) (hAw : ∀ w, Calls Tryz.prog 33 #[] w fun e w' => e = .returned (.bool true) ∧ Below w.heap.size w w') (hm : m ≤ 9223372036854775807) (hmp : mp ≤ 9223372036854775807) (hs : SeesP w w.heap.size E m a v) (hv : ∀ i, i < m → 0 ≤ v i ∧ v i ≤ 18446744073709551615) (h : (¬ FewC P T G ∨ 400 < m) ∨ 200 < mp ∨ x0 < 0 ∨ 300 < x0 ∨ x1 < 0 ∨ P ≤ x1) :
    Calls Tryz.prog 5 #[.agg #[.int .i64 P, .int .i64 T, .int .i64 G, .slice E m cp], .agg #[.int .i64 x0, .int .i64 x1], .slice F mp cq] w fun e w' => e = .returned (.bool true) ∧ Below w.heap.size w w' := by
  have hsz : ((w.alloc (.cells #[.int .i64 P, .int .i64 T, .int .i64 G, .slice E m cp] 26)).alloc (.cells #[.int .i64 x0, .int .i64 x1] 70)).heap.size = w.heap.size + 1 + 1 := by simp
  have HB : Hid (Below w.heap.size w ((w.alloc (.cells #[.int .i64 P, .int .i64 T, .int .i64 G, .slice E m cp] 26)).alloc (.cells #[.int .i64 x0, .int .i64 x1] 70))) := ((Below.refl _ _).alloc (Nat.le_refl _) _).alloc (by simp) _
  have hX0 : Hid (Blk ((w.alloc (.cells #[.int .i64 P, .int .i64 T, .int .i64 G, .slice E m cp] 26)).alloc (.cells #[.int .i64 x0, .int .i64 x1] 70)) w.heap.size #[.int .i64 P, .int .i64 T, .int .i64 G, .slice E m cp] 26) := (Blk.new w #[.int .i64 P, .int .i64 T, .int .i64 G, .slice E m cp] 26).al _
  have hX1 : Hid (Blk ((w.alloc (.cells #[.int .i64 P, .int .i64 T, .int .i64 G, .slice E m cp] 26)).alloc (.cells #[.int .i64 x0, .int .i64 x1] 70)) (w.heap.size + 1) #[.int .i64 x0, .int .i64 x1] 70) := by
    have := Blk.new (w.alloc (.cells #[.int .i64 P, .int .i64 T, .int .i64 G, .slice E m cp] 26)) #[.int .i64 x0, .int .i64 x1] 70
    rw [show (w.alloc (.cells #[.int .i64 P, .int .i64 T, .int .i64 G, .slice E m cp] 26)).heap.size = w.heap.size + 1 by simp] at this
    exact this
  have HAW : Hid (∀ w, Calls Tryz.prog 33 #[] w fun e w' => e = .returned (.bool true) ∧ Below w.heap.size w w') := hAw
  clear hAw
  by_cases hf : ¬ FewC P T G ∨ 400 < m
  · have hL := lay_none P T G E m cp ((w.alloc (.cells #[.int .i64 P, .int .i64 T, .int .i64 G, .slice E m cp] 26)).alloc (.cells #[.int .i64 x0, .int .i64 x1] 70)) hm hf
    clear h hf hs hv
    go_enter Tryz.func5, Tryz.ntmps5
    go_wp2_with fail
    generalize ((w.alloc (.cells #[.int .i64 P, .int .i64 T, .int .i64 G, .slice E m cp] 26)).alloc (.cells #[.int .i64 x0, .int .i64 x1] 70)) = W at *
    go_at_call 9; refine hL.mono ?_; rintro e w1 ⟨rfl, hLd⟩
    have hbl : Below W.heap.size W w1 := hLd
    have HB1 : Hid (Below w.heap.size w w1) := HB.out.trans (hbl.mono (by omega))
    have hY0 := hX0.out.but (But.of_below (l := []) hbl) (by simp)
    have hY1 := hX1.out.but (But.of_below (l := []) hbl) (by simp)
    have y0 := hY1.cell 0 (v := .int .i64 x0) rfl
    have y1 := hY1.cell 1 (v := .int .i64 x1) rfl
    have zG := hY0.cell 0 (v := .int .i64 P) rfl
    clear hL hbl hLd hY0 hY1
    go_wp2_with fail
    go_quiet (fail)
    go_wp2_with fail
    go_at_call 33; refine (HAW.out _).mono ?_; rintro e w2 ⟨rfl, h2⟩
    have h3 := seq (Below.drewN' HB1.out nq) h2
    go_wp2_with fail
    go_ret
    exact ⟨rfl, h3⟩
  · have hF : FewC P T G := Decidable.byContradiction fun h => hf (.inl h)
    have hm4 : m ≤ 400 := by omega
    have hM := hF.h.1.h
    obtain ⟨n, hn⟩ : ∃ n : Nat, (n : Int) = 20 + 264 * P + 3 * T + 2 * G := ⟨(20 + 264 * P + 3 * T + 2 * G).toNat, by omega⟩
    have hL := lay_some P T G E m cp n a v _ hm4 hF hn ((hs.up (.cells #[.int .i64 P, .int .i64 T, .int .i64 G, .slice E m cp] 26)).up (.cells #[.int .i64 x0, .int .i64 x1] 70)) hv
    have htt : 200 < mp ∨ x0 < 0 ∨ 300 < x0 ∨ x1 < 0 ∨ P ≤ x1 := by rcases h with h | h; exact absurd h hf; exact h
    clear h hf hs hv hn hF hM
    by_cases q1 : 200 < mp
    · clear htt
      have e1 : decide ((200 : Int) < (mp : Int)) = true := decide_eq_true (by omega)
      go_enter Tryz.func5, Tryz.ntmps5
      go_wp2_with fail
      generalize ((w.alloc (.cells #[.int .i64 P, .int .i64 T, .int .i64 G, .slice E m cp] 26)).alloc (.cells #[.int .i64 x0, .int .i64 x1] 70)) = W at *
      go_at_call 9; refine hL.mono ?_; rintro e w1 ⟨cl, A, A', cap, cap', c, b, c', b', rfl, hLd⟩
      have hbl : Below W.heap.size W w1 := hLd.below
      have HB1 : Hid (Below w.heap.size w w1) := HB.out.trans (hbl.mono (by omega))
      have hY0 := hX0.out.but (But.of_below (l := []) hbl) (by simp)
      have hY1 := hX1.out.but (But.of_below (l := []) hbl) (by simp)
      have y0 := hY1.cell 0 (v := .int .i64 x0) rfl
      have y1 := hY1.cell 1 (v := .int .i64 x1) rfl
      have zG := hY0.cell 0 (v := .int .i64 P) rfl
      clear hL hbl hLd hY0 hY1
      go_wp2_with fail
      go_quiet (fail)
      go_wp2_with fail
      go_at_call 33; refine (HAW.out _).mono ?_; rintro e w2 ⟨rfl, h2⟩
      have h3 := seq (Below.drewN' HB1.out nq) h2
      go_wp2_with fail
      go_ret
      exact ⟨rfl, h3⟩
    have d1 : decide ((200 : Int) < (mp : Int)) = false := decide_eq_false (by omega)
    by_cases q2 : x0 < 0
    · clear htt
      go_enter Tryz.func5, Tryz.ntmps5
      go_wp2_with fail
      generalize ((w.alloc (.cells #[.int .i64 P, .int .i64 T, .int .i64 G, .slice E m cp] 26)).alloc (.cells #[.int .i64 x0, .int .i64 x1] 70)) = W at *
      go_at_call 9; refine hL.mono ?_; rintro e w1 ⟨cl, A, A', cap, cap', c, b, c', b', rfl, hLd⟩
      have hbl : Below W.heap.size W w1 := hLd.below
      have HB1 : Hid (Below w.heap.size w w1) := HB.out.trans (hbl.mono (by omega))
      have hY0 := hX0.out.but (But.of_below (l := []) hbl) (by simp)
      have hY1 := hX1.out.but (But.of_below (l := []) hbl) (by simp)
      have y0 := hY1.cell 0 (v := .int .i64 x0) rfl
      have y1 := hY1.cell 1 (v := .int .i64 x1) rfl
      have zG := hY0.cell 0 (v := .int .i64 P) rfl
      clear hL hbl hLd hY0 hY1
      go_wp2_with fail
      go_quiet (fail)
      go_wp2_with fail
      go_at_call 33; refine (HAW.out _).mono ?_; rintro e w2 ⟨rfl, h2⟩
      have h3 := seq (Below.drewN' HB1.out nq) h2
      go_wp2_with fail
      go_ret
      exact ⟨rfl, h3⟩
    have d2 : decide (x0 < 0) = false := decide_eq_false (by omega)
    by_cases q3 : 300 < x0
    · clear htt
      go_enter Tryz.func5, Tryz.ntmps5
      go_wp2_with fail
      generalize ((w.alloc (.cells #[.int .i64 P, .int .i64 T, .int .i64 G, .slice E m cp] 26)).alloc (.cells #[.int .i64 x0, .int .i64 x1] 70)) = W at *
      go_at_call 9; refine hL.mono ?_; rintro e w1 ⟨cl, A, A', cap, cap', c, b, c', b', rfl, hLd⟩
      have hbl : Below W.heap.size W w1 := hLd.below
      have HB1 : Hid (Below w.heap.size w w1) := HB.out.trans (hbl.mono (by omega))
      have hY0 := hX0.out.but (But.of_below (l := []) hbl) (by simp)
      have hY1 := hX1.out.but (But.of_below (l := []) hbl) (by simp)
      have y0 := hY1.cell 0 (v := .int .i64 x0) rfl
      have y1 := hY1.cell 1 (v := .int .i64 x1) rfl
      have zG := hY0.cell 0 (v := .int .i64 P) rfl
      clear hL hbl hLd hY0 hY1
      go_wp2_with fail
      go_quiet (fail)
      go_wp2_with fail
      go_at_call 33; refine (HAW.out _).mono ?_; rintro e w2 ⟨rfl, h2⟩
      have h3 := seq (Below.drewN' HB1.out nq) h2
      go_wp2_with fail
      go_ret
      exact ⟨rfl, h3⟩
    have d3 : decide (300 < x0) = false := decide_eq_false (by omega)
    by_cases q4 : x1 < 0
    · clear htt
      go_enter Tryz.func5, Tryz.ntmps5
      go_wp2_with fail
      generalize ((w.alloc (.cells #[.int .i64 P, .int .i64 T, .int .i64 G, .slice E m cp] 26)).alloc (.cells #[.int .i64 x0, .int .i64 x1] 70)) = W at *
      go_at_call 9; refine hL.mono ?_; rintro e w1 ⟨cl, A, A', cap, cap', c, b, c', b', rfl, hLd⟩
      have hbl : Below W.heap.size W w1 := hLd.below
      have HB1 : Hid (Below w.heap.size w w1) := HB.out.trans (hbl.mono (by omega))
      have hY0 := hX0.out.but (But.of_below (l := []) hbl) (by simp)
      have hY1 := hX1.out.but (But.of_below (l := []) hbl) (by simp)
      have y0 := hY1.cell 0 (v := .int .i64 x0) rfl
      have y1 := hY1.cell 1 (v := .int .i64 x1) rfl
      have zG := hY0.cell 0 (v := .int .i64 P) rfl
      clear hL hbl hLd hY0 hY1
      go_wp2_with fail
      go_quiet (fail)
      go_wp2_with fail
      go_at_call 33; refine (HAW.out _).mono ?_; rintro e w2 ⟨rfl, h2⟩
      have h3 := seq (Below.drewN' HB1.out nq) h2
      go_wp2_with fail
      go_ret
      exact ⟨rfl, h3⟩
    have d4 : decide (x1 < 0) = false := decide_eq_false (by omega)
    have q5 : P ≤ x1 := by omega
    clear htt
    go_enter Tryz.func5, Tryz.ntmps5
    go_wp2_with fail
    generalize ((w.alloc (.cells #[.int .i64 P, .int .i64 T, .int .i64 G, .slice E m cp] 26)).alloc (.cells #[.int .i64 x0, .int .i64 x1] 70)) = W at *
    go_at_call 9; refine hL.mono ?_; rintro e w1 ⟨cl, A, A', cap, cap', c, b, c', b', rfl, hLd⟩
    have hbl : Below W.heap.size W w1 := hLd.below
    have HB1 : Hid (Below w.heap.size w w1) := HB.out.trans (hbl.mono (by omega))
    have hY0 := hX0.out.but (But.of_below (l := []) hbl) (by simp)
    have hY1 := hX1.out.but (But.of_below (l := []) hbl) (by simp)
    have y0 := hY1.cell 0 (v := .int .i64 x0) rfl
    have y1 := hY1.cell 1 (v := .int .i64 x1) rfl
    have zG := hY0.cell 0 (v := .int .i64 P) rfl
    clear hL hbl hLd hY0 hY1
    go_wp2_with fail
    go_quiet (fail)
    go_wp2_with fail
    go_at_call 33; refine (HAW.out _).mono ?_; rintro e w2 ⟨rfl, h2⟩
    have h3 := seq (Below.drewN' HB1.out nq) h2
    go_wp2_with fail
    go_ret
    exact ⟨rfl, h3⟩

set_option maxHeartbeats 4000000 in
theorem handSteps_ok (P T G x0 x1 : Int) (E F : Option Addr) (m cp mp cq : Nat) (a v : Nat → Int) (Pks : Nat → Pk) (w : World) (hAw : ∀ w, Calls Tryz.prog 33 #[] w fun e w' => e = .returned (.bool true) ∧ Below w.heap.size w w') (hm : m ≤ 400) (hF : FewC P T G) (hmp : mp ≤ 200) (hs : SeesP w w.heap.size E m a v) (hv : ∀ i, i < m → 0 ≤ v i ∧ v i ≤ 18446744073709551615) (hP : SeesC w w.heap.size F mp 6 (pkC Pks)) (hpv : ∀ j, j < mp → 0 ≤ (Pks j).v ∧ (Pks j).v ≤ 18446744073709551615) (hx0 : 0 ≤ x0 ∧ x0 ≤ 300) (hx1 : 0 ≤ x1 ∧ x1 < P) :
    Calls Tryz.prog 5 #[.agg #[.int .i64 P, .int .i64 T, .int .i64 G, .slice E m cp], .agg #[.int .i64 x0, .int .i64 x1], .slice F mp cq] w fun e w' => e = .returned (.bool true) ∧ Below w.heap.size w w' := by
  have hsz : ((w.alloc (.cells #[.int .i64 P, .int .i64 T, .int .i64 G, .slice E m cp] 26)).alloc (.cells #[.int .i64 x0, .int .i64 x1] 70)).heap.size = w.heap.size + 1 + 1 := by simp
  have HB : Hid (Below w.heap.size w ((w.alloc (.cells #[.int .i64 P, .int .i64 T, .int .i64 G, .slice E m cp] 26)).alloc (.cells #[.int .i64 x0, .int .i64 x1] 70))) := ((Below.refl _ _).alloc (Nat.le_refl _) _).alloc (by simp) _
  have hX0 : Hid (Blk ((w.alloc (.cells #[.int .i64 P, .int .i64 T, .int .i64 G, .slice E m cp] 26)).alloc (.cells #[.int .i64 x0, .int .i64 x1] 70)) w.heap.size #[.int .i64 P, .int .i64 T, .int .i64 G, .slice E m cp] 26) := (Blk.new w #[.int .i64 P, .int .i64 T, .int .i64 G, .slice E m cp] 26).al _
  have hX1 : Hid (Blk ((w.alloc (.cells #[.int .i64 P, .int .i64 T, .int .i64 G, .slice E m cp] 26)).alloc (.cells #[.int .i64 x0, .int .i64 x1] 70)) (w.heap.size + 1) #[.int .i64 x0, .int .i64 x1] 70) := by
    have := Blk.new (w.alloc (.cells #[.int .i64 P, .int .i64 T, .int .i64 G, .slice E m cp] 26)) #[.int .i64 x0, .int .i64 x1] 70
    rw [show (w.alloc (.cells #[.int .i64 P, .int .i64 T, .int .i64 G, .slice E m cp] 26)).heap.size = w.heap.size + 1 by simp] at this
    exact this
  have HAW : Hid (∀ w, Calls Tryz.prog 33 #[] w fun e w' => e = .returned (.bool true) ∧ Below w.heap.size w w') := hAw
  have hM := hF.h.1.h
  have hFF := hF.h
  have hP64 : 0 ≤ P ∧ P ≤ 64 := by omega
  obtain ⟨n, hn⟩ : ∃ n : Nat, (n : Int) = 20 + 264 * P + 3 * T + 2 * G := ⟨(20 + 264 * P + 3 * T + 2 * G).toNat, by omega⟩
  have hn0 : 0 < n := by omega
  have hn6 : n ≤ 1000000 := by omega
  have hL := lay_some P T G E m cp n a v _ hm hF hn ((hs.up (.cells #[.int .i64 P, .int .i64 T, .int .i64 G, .slice E m cp] 26)).up (.cells #[.int .i64 x0, .int .i64 x1] 70)) hv
  have d1 : decide ((200 : Int) < (mp : Int)) = false := decide_eq_false (by omega)
  have d2 : decide (x0 < 0) = false := decide_eq_false (by omega)
  have d3 : decide (300 < x0) = false := decide_eq_false (by omega)
  have d4 : decide (x1 < 0) = false := decide_eq_false (by omega)
  have d5 : decide (P ≤ x1) = false := decide_eq_false (by omega)
  have HP : Hid (SeesC w w.heap.size F mp 6 (pkC Pks)) := hP
  have HPV : Hid (∀ j, j < mp → 0 ≤ (Pks j).v ∧ (Pks j).v ≤ 18446744073709551615) := hpv
  have hTT : 0 ≤ T ∧ T ≤ 65536 := by omega
  have hw6 : 0 ≤ x0 ∧ x0 ≤ 1000000 := by omega
  have HLAW : Hid (∀ cl, (hvCp x0 P T G x1 cl).Laws (hvPM P T x0 x1) (Rd.lay cl P T G) x0) := fun cl => hv_laws hw6 hP64 hTT
  have HREF : Hid (∀ (w : World) (x : Nat) (A : Option Addr) (cap m : Nat) (gf : Nat → Int) (t : HvT), RunOn w x A cap m gf rn0 → Hist (hvPM P T x0 x1) (HvT.lk .hd) gf m t → Calls Tryz.prog 35 #[.pointer (some ⟨x, 0, none⟩), .agg #[.int .i64 P, .int .i64 T, .int .i64 G], .int .i64 x0, .int .i64 x1] w fun e w' => e = .returned (.agg #[.int .i64 (t.holds x1), .bool t.counts]) ∧ RunOn w' x A cap m gf ((hvPM P T x0 x1).rn t m) ∧ But [x] w w') := fun w x A cap m gf t h hh => rover_on w x A cap m gf P T G x0 x1 t h hh hP64 hTT hx0
  have HGOT : Hid (∀ cl (w : World) (x : Nat) (t : HvT) (L : List Nat), ((hvCp x0 P T G x1 cl).I) w x t L → (Calls Tryz.prog 37 #[.pointer (some ⟨x, 0, none⟩)] w fun e w' => e = .returned (.int .i64 (t.holds x1)) ∧ w = w') ∧ (Calls Tryz.prog 38 #[.pointer (some ⟨x, 0, none⟩)] w fun e w' => e = .returned (.bool t.counts) ∧ w = w')) := fun cl w x t L h => ⟨hv_tells_P h, hv_tells_C h⟩
  have HNEW : Hid (∀ cl (w : World), Lay w cl P T G → Calls Tryz.prog 34 #[.pointer (some ⟨cl, 0, none⟩), .int .i64 x0, .int .i64 x1] w fun e w' => ∃ x L, e = .returned (.pointer (some ⟨x, 0, none⟩)) ∧ ((hvCp x0 P T G x1 cl).I) w' x (HvT.lk .hd) L ∧ Below w.heap.size w w' ∧ (∀ k ∈ L, w.heap.size ≤ k)) := fun cl w h => (hv_new w cl x0 x1 P T G h hP64).mono fun e w' ⟨x, L, h1, h2, h3, h4, _⟩ => ⟨x, L, h1, h2, h3, h4⟩
  clear hx0 hx1 hTT hw6
  clear hAw hs hv hn hF hM hFF hP hpv
  go_enter Tryz.func5, Tryz.ntmps5
  go_wp2_with fail
  generalize ((w.alloc (.cells #[.int .i64 P, .int .i64 T, .int .i64 G, .slice E m cp] 26)).alloc (.cells #[.int .i64 x0, .int .i64 x1] 70)) = W at *
  go_at_call 9; refine hL.mono ?_; rintro e w1 ⟨cl, A, A', cap, cap', c, b, c', b', rfl, hLd⟩
  have HL : Hid (Laid W w1 P T G n (putF a v n m) cl A A' cap cap' c b c' b') := hLd
  have hbl := hLd.below
  have HB1 : Hid (Below w.heap.size w w1) := HB.out.trans (hbl.mono (by omega))
  have hY0 := hX0.out.but (But.of_below (l := []) hbl) (by simp)
  have hY1 := hX1.out.but (But.of_below (l := []) hbl) (by simp)
  have y0 := hY1.cell 0 (v := .int .i64 x0) rfl
  have y1 := hY1.cell 1 (v := .int .i64 x1) rfl
  have zG := hY0.cell 0 (v := .int .i64 P) rfl
  have HXb : Hid (∀ k, Blk (w1.drewN k) w.heap.size #[.int .i64 P, .int .i64 T, .int .i64 G, .slice E m cp] 26) := fun k => hY0.drewN k
  have HXw : Hid (Blk w1 w.heap.size #[.int .i64 P, .int .i64 T, .int .i64 G, .slice E m cp] 26) := hY0
  clear hL hLd hbl hY0 hY1
  go_wp2_with fail
  go_quiet (fail)
  have hT1 : Hid (Two (w1.drewN nq) A A' cap cap' c b c' b' n (fresh (putF a v n m))) := HL.out.two.below (Below.drewN' (Below.refl _ _) nq)
  have HB2 : Hid (Below w.heap.size w (w1.drewN nq)) := Below.drewN' HB1.out nq
  have HLy2 : Hid (Lay (w1.drewN nq) cl P T G) := HL.out.lay
  have HX2 : Hid (Blk (w1.drewN nq) w.heap.size #[.int .i64 P, .int .i64 T, .int .i64 G, .slice E m cp] 26) := HXb.out nq
  obtain ⟨u1, u2, u3, u4, u5⟩ := HL.out.up
  have hup : Hid (w.heap.size ≤ c ∧ w.heap.size ≤ b ∧ w.heap.size ≤ c' ∧ w.heap.size ≤ b') := ⟨by omega, by omega, by omega, by omega⟩
  have hbx : Hid (w.heap.size ≠ c ∧ w.heap.size ≠ b ∧ w.heap.size ≠ c' ∧ w.heap.size ≠ b' ∧ w.heap.size ≠ cl) := ⟨by omega, by omega, by omega, by omega, by omega⟩
  have hclup : Hid (w.heap.size ≤ cl) := (by omega : w.heap.size ≤ cl)
  generalize hw2 : (w1.drewN nq) = w2 at *
  have z0 := HX2.out.cell 0 (v := .int .i64 P) rfl
  have z1 := HX2.out.cell 1 (v := .int .i64 T) rfl
  have z2 := HX2.out.cell 2 (v := .int .i64 G) rfl
  clear HL HB1 HXb HXw u1 u2 u3 u4 u5 hw2
  clear hX0 hX1 HB hsz y0 y1 zG
  have hne : Hid (cl ≠ c ∧ cl ≠ b) := lay_ne HLy2.out (by decide) hT1.out.m hn0
  have hne2 : Hid (cl ≠ c' ∧ cl ≠ b') := lay_ne HLy2.out (by decide) hT1.out.r hn0
  have HLW : Hid (((hvCp x0 P T G x1 cl).I).Good (hvPM P T x0 x1) ∧ Steps (hvPM P T x0 x1) ((hvCp x0 P T G x1 cl).I) (Rd.lay cl P T G) 39 x0) := ⟨Cp.good (HLAW.out cl), Cp.steps (HLAW.out cl) stepby_over⟩
  have HGD : Hid (((hvCp x0 P T G x1 cl).I).Good (hvPM P T x0 x1)) := HLW.out.1
  have hN := HNEW.out cl w2 HLy2.out
  go_wp2_with fail
  go_at_call 34; refine hN.mono ?_; rintro e w3 ⟨x, L0, rfl, hi0, hb3, hu1⟩
  have HO0 : Hid (LawOn ((hvCp x0 P T G x1 cl).I) ((Rd.lay cl P T G).and (Rd.blk w.heap.size #[.int .i64 P, .int .i64 T, .int .i64 G, .slice E m cp] 26)) w w3 A A' cap cap' c b c' b' n (fresh (putF a v n m)) (fresh (putF a v n m)) none 0 0 (fun _ => 0) x (HvT.lk .hd) L0 [cl, w.heap.size]) := LawOn.begin hT1.out hb3 HB2.out hup.out hi0 HGD.out hu1 ⟨HLy2.out.below hb3 HLy2.out.lt, HX2.out.but (But.of_below (l := []) hb3) (by simp)⟩ (fun k hk => hk) (by
    obtain ⟨n1, n2⟩ := hne.out; obtain ⟨n3, n4⟩ := hne2.out; obtain ⟨n5, n6, n7, n8, n9⟩ := hbx.out
    intro k hk
    simp only [List.mem_cons, List.not_mem_nil, or_false] at hk
    rcases hk with rfl | rfl
    · exact ⟨⟨n1, n2, n3, n4⟩, HLy2.out.lt, hclup.out⟩
    · exact ⟨⟨n5, n6, n7, n8⟩, HX2.out.lt, Nat.le_refl _⟩)
  clear hN hi0 hb3 hu1 hT1 HB2 HX2 HLy2 z0 z1 z2 hup hbx hclup hne hne2
  go_wp2_with fail
  go_loopw [14, 15] (fun gv i wr => ∃ (k : Nat) (s : St) (Ag : Option Addr) (capg mg : Nat) (gf : Nat → Int) (t : HvT) (L : List Nat), k ≤ mp ∧ i = .int .i64 k ∧ gv = .slice Ag mg capg ∧ mg ≤ k ∧ Hid (LawOn ((hvCp x0 P T G x1 cl).I) ((Rd.lay cl P T G).and (Rd.blk w.heap.size #[.int .i64 P, .int .i64 T, .int .i64 G, .slice E m cp] 26)) w wr A A' cap cap' c b c' b' n s s Ag capg mg gf x t L [cl, w.heap.size]) ∧ Hid (Low s (k : Int)) ∧ Hid (Hist (hvPM P T x0 x1) (HvT.lk .hd) gf mg t)) (fun _ i _ => mp - (intOf i).toNat)
  case atStart => exact ⟨0, _, none, 0, 0, _, (HvT.lk .hd), L0, Nat.zero_le _, rfl, rfl, Nat.le_refl _, HO0, low_fresh _, Hist.start _ _ _⟩
  case round =>
    clear HO0
    obtain ⟨k, s, Ag, capg, mg, gf, t, L, hk, rfl, rfl, hmg, HO, HLo, HH⟩ := hrel
    by_cases hlt : k < mp
    · obtain ⟨fb, foff, rfl, hfb, hcell⟩ := HP.out (by omega)
      have hcw : Hid (∀ i u, (pkC Pks k)[i]? = some u → wr.cell? ⟨fb, foff + k * 6 + i, none⟩ = some u) := fun i u hu => (HO.out.poke.below.cell (p := ⟨fb, foff + k * 6 + i, none⟩) hfb).trans (hcell k hlt i u hu)
      have pz := hcw.out 0 (.bool (Pks k).z) rfl
      have hk0 : (0 : Int) ≤ (k : Int) := Int.natCast_nonneg _
      have hk1 : (k : Int) < (mp : Int) := by omega
      clear hcell
      rw [Nat.add_zero] at pz
      cases hz : (Pks k).z
      · rw [hz] at pz
        have HRA : Hid (wr.rangeAt fb (foff + k * 6 + 1) [.int .i64 (Pks k).k, .int .i64 (Pks k).p, .int .i64 (Pks k).i, .int .u64 (Pks k).o, .int .u64 (Pks k).v]) := fun j u hu => by
          have := hcw.out (1 + j) u (by rw [show pkC Pks k = .bool (Pks k).z :: [.int .i64 (Pks k).k, .int .i64 (Pks k).p, .int .i64 (Pks k).i, .int .u64 (Pks k).o, .int .u64 (Pks k).v] from rfl, Nat.add_comm 1 j, List.getElem?_cons_succ]; exact hu)
          rw [← Nat.add_assoc] at this
          exact this
        clear hz hcw
        go_wp2_with (refine wpList_load_mid rfl 41 _ rfl fb (foff + k * 6 + 1) rfl [.int .i64 (Pks k).k, .int .i64 (Pks k).p, .int .i64 (Pks k).i, .int .u64 (Pks k).o, .int .u64 (Pks k).v] _ HRA.out Tryz.underlying41 rfl (by kernel_rfl) ?_)
        go_at_call 12; refine (HO.out.pokes HGD.out hn6 (HLo.out.more (by omega)) (Pks k).k (Pks k).p (Pks k).i (Pks k).o (Pks k).v (HPV.out k hlt)).mono ?_; rintro e w9 ⟨rfl, hO⟩
        have HO9 : Hid _ := hO
        have HLo9 : Hid (Low (actS (Pks k).k (Pks k).p (Pks k).i (Pks k).o (Pks k).v n s) (((k + 1 : Nat)) : Int)) := (actS_low HLo.out _ _ _ _ _ _).more (by omega)
        clear hO HO HRA pz
        go_wp2_with fail
        go_roundw
        case rel => exact ⟨k + 1, _, Ag, capg, mg, gf, t, L, by omega, by go_num, rfl, by omega, HO9, HLo9, HH⟩
        case measure => simp [intOf]; omega
      · rw [hz] at pz
        clear hz hcw
        have hR0 : Hid (RunOn (wr.alloc (.cells (runL (.slice Ag mg capg) rn0).toArray 48)) wr.heap.size Ag capg mg gf rn0) := run_starts HO.out.poke.got (by omega)
        have hb0 : Hid (Below wr.heap.size wr (wr.alloc (.cells (runL (.slice Ag mg capg) rn0).toArray 48))) := (Below.refl _ _).alloc (Nat.le_refl _) _
        have hRR := HREF.out _ _ Ag capg mg gf t hR0.out HH.out
        have y0 := HO.out.rd.2.cell 0 (v := .int .i64 P) rfl
        have y1 := HO.out.rd.2.cell 1 (v := .int .i64 T) rfl
        have y2 := HO.out.rd.2.cell 2 (v := .int .i64 G) rfl
        have hbl0 : w.heap.size < wr.heap.size := HO.out.rd.2.lt
        go_wp2_with fail
        go_at_call 35; refine hRR.mono ?_; rintro e w40 ⟨rfl, hR40, hB40⟩
        have hs40 : wr.heap.size < w40.heap.size := hR40.blk.lt
        have hb40 : Below wr.heap.size wr w40 := hb0.out.trans (hB40.below (by simp) (by simp))
        have HO40 : Hid (LawOn ((hvCp x0 P T G x1 cl).I) ((Rd.lay cl P T G).and (Rd.blk w.heap.size #[.int .i64 P, .int .i64 T, .int .i64 G, .slice E m cp] 26)) w w40 A A' cap cap' c b c' b' n s s Ag capg mg gf x t L [cl, w.heap.size]) := HO.out.still HGD.out hb40
        have HR40 : Hid (RunOn w40 wr.heap.size Ag capg mg gf ((hvPM P T x0 x1).rn t mg)) := hR40
        have hbw : Below w40.heap.size w40 (w40.alloc (.cells #[.int .i64 (t.holds x1), .bool t.counts] 74)) := (Below.refl _ _).alloc (Nat.le_refl _) _
        have HAL : Hid (Blk (w40.alloc (.cells #[.int .i64 (t.holds x1), .bool t.counts] 74)) w40.heap.size #[.int .i64 (t.holds x1), .bool t.counts] 74) := Blk.new _ _ _
        have HO4 : Hid (LawOn ((hvCp x0 P T G x1 cl).I) ((Rd.lay cl P T G).and (Rd.blk w.heap.size #[.int .i64 P, .int .i64 T, .int .i64 G, .slice E m cp] 26)) w (w40.alloc (.cells #[.int .i64 (t.holds x1), .bool t.counts] 74)) A A' cap cap' c b c' b' n s s Ag capg mg gf x t L [cl, w.heap.size]) := HO40.out.still HGD.out hbw
        have HR4 : Hid (RunOn (w40.alloc (.cells #[.int .i64 (t.holds x1), .bool t.counts] 74)) wr.heap.size Ag capg mg gf ((hvPM P T x0 x1).rn t mg)) := HR40.out.below hbw
        have hs4 : Hid (wr.heap.size < (w40.alloc (.cells #[.int .i64 (t.holds x1), .bool t.counts] 74)).heap.size ∧ w40.heap.size < (w40.alloc (.cells #[.int .i64 (t.holds x1), .bool t.counts] 74)).heap.size) := ⟨Nat.lt_of_lt_of_le hs40 hbw.size, HAL.out.lt⟩
        have HOK : Hid (∀ a, (hvPM P T x0 x1).ax t = some a → a.Ok) := fun a ha => Cp.axok (HLAW.out cl) HO40.out.mach a ha
        clear hRR hR40 hB40 hR0 hb0 hb40 HO pz y0 y1 y2 hbl0 hbw HO40 HR40 hs40
        go_wp2_with fail
        generalize (w40.alloc (.cells #[.int .i64 (t.holds x1), .bool t.counts] 74)) = w4 at *
        generalize w40.heap.size = g4 at *
        have HD0 : Hid (∀ Y, Below w4.heap.size w4 Y → Calls Tryz.prog 36 #[.pointer (some ⟨x, 0, none⟩)] Y fun e w' => e = .returned (.bool ((hvPM P T x0 x1).ax t).isNone) ∧ Y = w') := fun Y hY => by
          obtain ⟨nx, hx1, hx2⟩ := HGD.out.next (HGD.out.below HO4.out.mach hY)
          rw [← hx2]
          exact done_over Y x nx hx1
        have HPv : Hid (∀ Y, Below w4.heap.size w4 Y → Calls Tryz.prog 37 #[.pointer (some ⟨x, 0, none⟩)] Y fun e w' => e = .returned (.int .i64 (t.holds x1)) ∧ Y = w') := fun Y hY => (HGOT.out cl Y x t L (HGD.out.below HO4.out.mach hY)).1
        have HCv : Hid (∀ Y, Below w4.heap.size w4 Y → Calls Tryz.prog 38 #[.pointer (some ⟨x, 0, none⟩)] Y fun e w' => e = .returned (.bool t.counts) ∧ Y = w') := fun Y hY => (HGOT.out cl Y x t L (HGD.out.below HO4.out.mach hY)).2
        have s2 := HR4.out.blk.cell 2 (v := .bool ((hvPM P T x0 x1).rn t mg).stop) rfl
        rw [PM.rn_stop] at s2
        have k0 := HAL.out.cell 0 (v := .int .i64 (t.holds x1)) rfl
        have k1 := HAL.out.cell 1 (v := .bool t.counts) rfl
        clear HAL
        generalize t.holds x1 = tp at *
        generalize t.counts = tc at *
        cases hst : ((hvPM P T x0 x1).ax t).isSome
        · rw [hst] at s2
          have hin : ((hvPM P T x0 x1).ax t).isNone = true := by cases h : (hvPM P T x0 x1).ax t <;> rw [h] at hst <;> first | rfl | cases hst
          have HD : Hid (∀ Y, Below w4.heap.size w4 Y → Calls Tryz.prog 36 #[.pointer (some ⟨x, 0, none⟩)] Y fun e w' => e = .returned (.bool true) ∧ Y = w') := by rw [← hin]; exact HD0
          have hH : Hid (w4.drew.cell? ⟨wr.heap.size, 2, none⟩ = some (.bool false) ∧ w4.drew.cell? ⟨g4, 0, none⟩ = some (.int .i64 tp) ∧ w4.drew.cell? ⟨g4, 1, none⟩ = some (.bool tc) ∧ Below w4.heap.size w4 w4.drew) := ⟨s2, k0, k1, (Below.refl _ _).drew⟩
          have KEEP : Hid (∀ X w' : World, (X.cell? ⟨wr.heap.size, 2, none⟩ = some (.bool false) ∧ X.cell? ⟨g4, 0, none⟩ = some (.int .i64 tp) ∧ X.cell? ⟨g4, 1, none⟩ = some (.bool tc) ∧ Below w4.heap.size w4 X) → Below X.heap.size X w' → (w'.cell? ⟨wr.heap.size, 2, none⟩ = some (.bool false) ∧ w'.cell? ⟨g4, 0, none⟩ = some (.int .i64 tp) ∧ w'.cell? ⟨g4, 1, none⟩ = some (.bool tc) ∧ Below w4.heap.size w4 w')) := fun X w' h k => ⟨(k.cell (p := ⟨wr.heap.size, 2, none⟩) (Nat.lt_of_lt_of_le hs4.out.1 h.2.2.2.size)).trans h.1, (k.cell (p := ⟨g4, 0, none⟩) (Nat.lt_of_lt_of_le hs4.out.2 h.2.2.2.size)).trans h.2.1, (k.cell (p := ⟨g4, 1, none⟩) (Nat.lt_of_lt_of_le hs4.out.2 h.2.2.2.size)).trans h.2.2.1, h.2.2.2.trans (k.mono h.2.2.2.size)⟩
          clear hin hst k0 k1 HD0
          go_region_held3 (fun w' => w'.cell? ⟨wr.heap.size, 2, none⟩ = some (.bool false) ∧ w'.cell? ⟨g4, 0, none⟩ = some (.int .i64 tp) ∧ w'.cell? ⟨g4, 1, none⟩ = some (.bool tc) ∧ Below w4.heap.size w4 w') (first | exact hH.out | assumption | exact KEEP.out _ _ ‹_› ‹_›) (first | (go_at_call 36; refine (HD.out _ (by simp only [*])).mono ?_; rintro e x1 ⟨rfl, rfl⟩) | (go_at_call 37; refine (HPv.out _ (by simp only [*])).mono ?_; rintro e x2 ⟨rfl, rfl⟩) | (go_at_call 38; refine (HCv.out _ (by simp only [*])).mono ?_; rintro e x2 ⟨rfl, rfl⟩))
          all_goals
            rename_i hHeld
            have HO5 : Hid _ := HO4.out.still HGD.out hHeld.2.2.2
            have HRg : Hid _ := (HR4.out.below hHeld.2.2.2).range
            have hTu := HO5.out.turn HGD.out HOK.out hn6 (HLo.out.more (by omega)) (by omega) x0
            rw [show runCells (.slice Ag mg capg) ((hvPM P T x0 x1).rn t mg) = (runL (.slice Ag mg capg) ((hvPM P T x0 x1).rn t mg)).toArray from rfl] at hTu
            generalize (hvPM P T x0 x1).rn t mg = RN at *
            simp only [runL] at hTu
            clear HD HPv HCv KEEP hH HO4 HR4 s2 hHeld
            go_wp2_with (refine wpList_load_mid rfl 48 _ rfl wr.heap.size 0 rfl (runL (.slice Ag mg capg) RN) _ HRg.out Tryz.underlying48 rfl (by kernel_rfl) ?_; clear HRg)
            go_at_call 20; refine hTu.mono ?_; rintro e w6 ⟨Ag', capg', rfl, hO6⟩
            have HO6 : Hid _ := hO6
            have hSt := HO6.out.step HGD.out HLW.out.2 (fun Y (h : ((Rd.lay cl P T G).and (Rd.blk w.heap.size #[.int .i64 P, .int .i64 T, .int .i64 G, .slice E m cp] 26)).P Y) => h.1) (fun k hk => List.mem_append_left _ hk) hn6 (HLo.out.more (by omega))
            have HHn : Hid _ := HH.out.next n s (fun k i old new => actA_bd HO6.out.poke.mem k i old new)
            have HLo7 : Hid (Low ((hvPM P T x0 x1).goS x0 n t s) ((k + 1 : Nat) : Int)) := PM.goS_low HLo.out
            have hml : (hvPM P T x0 x1).goM n t s mg ≤ k + 1 := by unfold PM.goM; split <;> (try split) <;> omega
            clear hTu hO6 HO5
            go_wp2_with fail
            go_at_call 39; refine hSt.mono ?_; rintro e w7 ⟨⟨zz, rfl⟩, L7, hO7⟩
            have HO7 : Hid _ := hO7
            clear hSt hO7 HO6 HH HLo
            generalize (hvPM P T x0 x1).goS x0 n t s = s' at *
            generalize (hvPM P T x0 x1).goG n t s gf mg = g' at *
            generalize (hvPM P T x0 x1).goM n t s mg = m' at *
            generalize (hvPM P T x0 x1).goT n t s = t' at *
            have hAl := alike_any w7 A A' cap cap' c b c' b' n s' hn6 HO7.out.poke.two
            go_wp2_with fail
            go_at_call 22; refine hAl.mono ?_; rintro e w8 ⟨rfl, hb8⟩
            have HO8 : Hid _ := HO7.out.still HGD.out hb8
            clear hAl hb8 HO7
            go_wp2_with fail
            go_roundw
            case rel => exact ⟨k + 1, s', Ag', capg', m', g', t', L7, by omega, by go_num, rfl, hml, HO8.out, HLo7, HHn.out⟩
            case measure => simp [intOf]; omega
        · rw [hst] at s2
          have hin : ((hvPM P T x0 x1).ax t).isNone = false := by cases h : (hvPM P T x0 x1).ax t <;> rw [h] at hst <;> first | rfl | cases hst
          have HD : Hid (∀ Y, Below w4.heap.size w4 Y → Calls Tryz.prog 36 #[.pointer (some ⟨x, 0, none⟩)] Y fun e w' => e = .returned (.bool false) ∧ Y = w') := by rw [← hin]; exact HD0
          have hH : Hid (w4.drew.cell? ⟨wr.heap.size, 2, none⟩ = some (.bool true) ∧ w4.drew.cell? ⟨g4, 0, none⟩ = some (.int .i64 tp) ∧ w4.drew.cell? ⟨g4, 1, none⟩ = some (.bool tc) ∧ Below w4.heap.size w4 w4.drew) := ⟨s2, k0, k1, (Below.refl _ _).drew⟩
          have KEEP : Hid (∀ X w' : World, (X.cell? ⟨wr.heap.size, 2, none⟩ = some (.bool true) ∧ X.cell? ⟨g4, 0, none⟩ = some (.int .i64 tp) ∧ X.cell? ⟨g4, 1, none⟩ = some (.bool tc) ∧ Below w4.heap.size w4 X) → Below X.heap.size X w' → (w'.cell? ⟨wr.heap.size, 2, none⟩ = some (.bool true) ∧ w'.cell? ⟨g4, 0, none⟩ = some (.int .i64 tp) ∧ w'.cell? ⟨g4, 1, none⟩ = some (.bool tc) ∧ Below w4.heap.size w4 w')) := fun X w' h k => ⟨(k.cell (p := ⟨wr.heap.size, 2, none⟩) (Nat.lt_of_lt_of_le hs4.out.1 h.2.2.2.size)).trans h.1, (k.cell (p := ⟨g4, 0, none⟩) (Nat.lt_of_lt_of_le hs4.out.2 h.2.2.2.size)).trans h.2.1, (k.cell (p := ⟨g4, 1, none⟩) (Nat.lt_of_lt_of_le hs4.out.2 h.2.2.2.size)).trans h.2.2.1, h.2.2.2.trans (k.mono h.2.2.2.size)⟩
          clear hin hst k0 k1 HD0
          go_region_held3 (fun w' => w'.cell? ⟨wr.heap.size, 2, none⟩ = some (.bool true) ∧ w'.cell? ⟨g4, 0, none⟩ = some (.int .i64 tp) ∧ w'.cell? ⟨g4, 1, none⟩ = some (.bool tc) ∧ Below w4.heap.size w4 w') (first | exact hH.out | assumption | exact KEEP.out _ _ ‹_› ‹_›) (first | (go_at_call 36; refine (HD.out _ (by simp only [*])).mono ?_; rintro e x1 ⟨rfl, rfl⟩) | (go_at_call 37; refine (HPv.out _ (by simp only [*])).mono ?_; rintro e x2 ⟨rfl, rfl⟩) | (go_at_call 38; refine (HCv.out _ (by simp only [*])).mono ?_; rintro e x2 ⟨rfl, rfl⟩))
          all_goals
            rename_i hHeld
            have HO5 : Hid _ := HO4.out.still HGD.out hHeld.2.2.2
            have HRg : Hid _ := (HR4.out.below hHeld.2.2.2).range
            have hTu := HO5.out.turn HGD.out HOK.out hn6 (HLo.out.more (by omega)) (by omega) x0
            rw [show runCells (.slice Ag mg capg) ((hvPM P T x0 x1).rn t mg) = (runL (.slice Ag mg capg) ((hvPM P T x0 x1).rn t mg)).toArray from rfl] at hTu
            generalize (hvPM P T x0 x1).rn t mg = RN at *
            simp only [runL] at hTu
            clear HD HPv HCv KEEP hH HO4 HR4 s2 hHeld
            go_wp2_with (refine wpList_load_mid rfl 48 _ rfl wr.heap.size 0 rfl (runL (.slice Ag mg capg) RN) _ HRg.out Tryz.underlying48 rfl (by kernel_rfl) ?_; clear HRg)
            go_at_call 20; refine hTu.mono ?_; rintro e w6 ⟨Ag', capg', rfl, hO6⟩
            have HO6 : Hid _ := hO6
            have hSt := HO6.out.step HGD.out HLW.out.2 (fun Y (h : ((Rd.lay cl P T G).and (Rd.blk w.heap.size #[.int .i64 P, .int .i64 T, .int .i64 G, .slice E m cp] 26)).P Y) => h.1) (fun k hk => List.mem_append_left _ hk) hn6 (HLo.out.more (by omega))
            have HHn : Hid _ := HH.out.next n s (fun k i old new => actA_bd HO6.out.poke.mem k i old new)
            have HLo7 : Hid (Low ((hvPM P T x0 x1).goS x0 n t s) ((k + 1 : Nat) : Int)) := PM.goS_low HLo.out
            have hml : (hvPM P T x0 x1).goM n t s mg ≤ k + 1 := by unfold PM.goM; split <;> (try split) <;> omega
            clear hTu hO6 HO5
            go_wp2_with fail
            go_at_call 39; refine hSt.mono ?_; rintro e w7 ⟨⟨zz, rfl⟩, L7, hO7⟩
            have HO7 : Hid _ := hO7
            clear hSt hO7 HO6 HH HLo
            generalize (hvPM P T x0 x1).goS x0 n t s = s' at *
            generalize (hvPM P T x0 x1).goG n t s gf mg = g' at *
            generalize (hvPM P T x0 x1).goM n t s mg = m' at *
            generalize (hvPM P T x0 x1).goT n t s = t' at *
            have hAl := alike_any w7 A A' cap cap' c b c' b' n s' hn6 HO7.out.poke.two
            go_wp2_with fail
            go_at_call 22; refine hAl.mono ?_; rintro e w8 ⟨rfl, hb8⟩
            have HO8 : Hid _ := HO7.out.still HGD.out hb8
            clear hAl hb8 HO7
            go_wp2_with fail
            go_roundw
            case rel => exact ⟨k + 1, s', Ag', capg', m', g', t', L7, by omega, by go_num, rfl, hml, HO8.out, HLo7, HHn.out⟩
            case measure => simp [intOf]; omega
    · obtain rfl : k = mp := by omega
      have hgd : decide ((k : Int) < (k : Int)) = false := by simp
      have HT := HO.out.poke.two
      have HTS : Hid (∀ Y, Below wr.heap.size wr Y → Two Y A A' cap cap' c b c' b' n s) := fun Y hY => HT.below hY
      have hH : Hid (wr.drew.cell? ⟨c', 0, none⟩ = some (.slice A' n cap') ∧ Below wr.heap.size wr wr.drew) := ⟨HT.r.cells.1, (Below.refl _ _).drew⟩
      have KEEP : Hid (∀ X w' : World, (X.cell? ⟨c', 0, none⟩ = some (.slice A' n cap') ∧ Below wr.heap.size wr X) → Below X.heap.size X w' → (w'.cell? ⟨c', 0, none⟩ = some (.slice A' n cap') ∧ Below wr.heap.size wr w')) := fun X w' h k => ⟨(HTS.out _ (h.2.trans (k.mono h.2.size))).r.cells.1, h.2.trans (k.mono h.2.size)⟩
      have HB9 : Hid (Below w.heap.size w wr) := HO.out.poke.below
      clear HT HO HLo HH
      go_wp2_with fail
      go_region_held3 (fun w' => w'.cell? ⟨c', 0, none⟩ = some (.slice A' n cap') ∧ Below wr.heap.size wr w') (first | exact hH.out | assumption | exact KEEP.out _ _ ‹_› ‹_›) (first | (go_at_call 33; refine (HAW.out _).mono ?_; rintro e x1 ⟨rfl, g1⟩) | (go_at_call 24; refine (words_any _ A cap c b n s (HTS.out _ (by simp only [*])).m hn6).mono ?_; rintro e x5 ⟨A4, cap4, rfl, hs4, g5⟩) | (go_at_call 23; refine (sameB_any _ A4 A' n cap4 cap' s.f hn6 hs4 (HTS.out _ (by simp only [*])).r.sees).mono ?_; rintro e x6 ⟨rfl, g6⟩) | (go_at_call 36; refine (done_nil_over _).mono ?_; rintro e x7 ⟨rfl, rfl⟩) | (go_at_call 39; refine (step_nil_over _ _).mono ?_; rintro e x7 ⟨rfl, rfl⟩) | (go_at_call 37; refine (hv_Holds_nil _).mono ?_; rintro e x7 ⟨rfl, rfl⟩) | (go_at_call 38; refine (hv_Counts_nil _).mono ?_; rintro e x7 ⟨rfl, rfl⟩))
      all_goals
        rename_i hHeld
        have hbF := HB9.out.trans (hHeld.2.mono HB9.out.size)
        go_wp2_with fail
        go_ret
        exact ⟨rfl, hbF⟩

theorem handSteps_walk (P T G x0 x1 : Int) (E F : Option Addr) (m cp mp cq : Nat) (a v : Nat → Int) (Pks : Nat → Pk) (w : World) (hAw : ∀ w, Calls Tryz.prog 33 #[] w fun e w' => e = .returned (.bool true) ∧ Below w.heap.size w w') (hm : m ≤ 9223372036854775807) (hmp : mp ≤ 9223372036854775807) (hs : SeesP w w.heap.size E m a v) (hv : ∀ i, i < m → 0 ≤ v i ∧ v i ≤ 18446744073709551615) (hP : SeesC w w.heap.size F mp 6 (pkC Pks)) (hpv : ∀ j, j < mp → 0 ≤ (Pks j).v ∧ (Pks j).v ≤ 18446744073709551615) :
    Calls Tryz.prog 5 #[.agg #[.int .i64 P, .int .i64 T, .int .i64 G, .slice E m cp], .agg #[.int .i64 x0, .int .i64 x1], .slice F mp cq] w fun e w' => e = .returned (.bool true) ∧ Below w.heap.size w w' := by
  by_cases h : (¬ FewC P T G ∨ 400 < m) ∨ 200 < mp ∨ x0 < 0 ∨ 300 < x0 ∨ x1 < 0 ∨ P ≤ x1
  · exact handSteps_bad P T G x0 x1 E F m cp mp cq a v w hAw hm hmp hs hv h
  · exact handSteps_ok P T G x0 x1 E F m cp mp cq a v Pks w hAw (by omega) (Decidable.byContradiction fun hf => h (.inl (.inl hf))) (by omega) hs hv hP hpv (by omega) (by omega)
end Go.Proofs.YtfdpikkinlljlaaGreat
