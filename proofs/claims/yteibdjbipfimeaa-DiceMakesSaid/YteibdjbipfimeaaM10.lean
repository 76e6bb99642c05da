/- The law DiceMakes, of a config that may not be; and what is larger than it takes. -/
import Derived.Test.YteibdjbipfimeaaM9
namespace Go.Proofs.Yteibdjbipfimeaa
open Go Go.RowKit
set_option linter.unusedVariables false
set_option linter.unusedSimpArgs false
set_option maxRecDepth 100000

set_option maxHeartbeats 2000000 in
theorem makes_no (s : Nat) (hs : s < 18446744073709551616) (P T G x0 x1 x2 : Int) (w : World) (hx1 : x1 ≤ 300) (hx2 : x2 ≤ 300) (hM : ¬ May P T G) :
    Calls Try.prog 4 #[.int .u64 (s : Int), .agg #[.int .i64 P, .int .i64 T, .int .i64 G], .agg #[.int .i64 x0, .int .i64 x1, .int .i64 x2]] w fun e w' => e = .returned (.bool true) ∧ Below w.heap.size w w' := by
  have HM := Lib.hid hM
  have HS := Lib.hid hs
  have m1 : ¬ 300 < x1 := by omega
  have m2 : ¬ 300 < x2 := by omega
  clear hM hs
  go_enter Try.func4, Try.ntmps4
  go_wp2_with fail
  refine (new_any _ s).mono ?_; rintro e w1 ⟨rfl, hD1, hb1, hz1⟩
  have HK := Lib.hid (mk_start HS.out rfl hD1 hb1)
  clear hD1 hb1 hz1
  obtain ⟨b0, b1, b2⟩ := HK.out.mo.c
  go_wp2_with fail
  have ea : w.heap.size + 1 + 1 = ((w.alloc (.cells #[.int .i64 P, .int .i64 T, .int .i64 G] 34)).alloc (.cells #[.int .i64 x0, .int .i64 x1, .int .i64 x2] 35)).heap.size := by simp
  rw [ea]
  clear ea
  generalize w1.alloc (.cells #[.int .u64 (s : Int), .int .i64 0] 28) = Y at HK ⊢
  generalize ((w.alloc (.cells #[.int .i64 P, .int .i64 T, .int .i64 G] 34)).alloc (.cells #[.int .i64 x0, .int .i64 x1, .int .i64 x2] 35)).heap.size = a at HK ⊢
  generalize w1.heap.size = d at HK ⊢
  generalize hz : w.heap.size = z at HK ⊢
  have HZ := Lib.hid hz
  clear hz b0 b1 b2
  refine (config_no _ _ P T G HM.out).mono ?_; rintro e w2 ⟨rfl, hb2⟩
  have HK2 := Lib.hid ((HK.out.none hb2).none ((Below.refl _ _).alloc (Nat.le_refl _) (.cells #[.int .i64 0, .int .i64 0, .int .i64 0] 34)))
  have HC2 := Lib.hid (show B3 (w2.alloc (.cells #[.int .i64 0, .int .i64 0, .int .i64 0] 34)) w2.heap.size 34 0 0 0 from heap_alloc_new _ _)
  clear hb2
  obtain ⟨b0, b1, b2⟩ := HK2.out.mo.c
  go_wp2_with fail
  generalize w2.alloc (.cells #[.int .i64 0, .int .i64 0, .int .i64 0] 34) = X2 at HK2 HC2 ⊢
  generalize w2.heap.size = zc at HC2 ⊢
  clear b0 b1 b2
  refine (refRight_no P T G HM.out _).mono ?_; rintro e w3 ⟨rfl, hb3⟩
  have HK3 := Lib.hid (HK2.out.none hb3)
  have HC3 := Lib.hid (HC2.out.but (But.of_below hb3) (l := []) (by simp))
  clear hb3
  go_wp2_with fail
  go_at_call 6; refine (awake_any _).mono ?_; rintro e w4 ⟨rfl, hb4⟩
  have HK4 := Lib.hid (HK3.out.none hb4)
  have HC4 := Lib.hid (HC3.out.but (But.of_below hb4) (l := []) (by simp))
  clear hb4
  obtain ⟨c0, c1, c2⟩ := HC4.out.c
  have heq := eq34
  go_wp2_with fail
  refine (script_wrong _ _ 0 0 0 5 (Or.inr (Or.inl (by omega)))).mono ?_; rintro e w5 ⟨rfl, hb5⟩
  have HB := Lib.hid (HK4.out.bel.trans (hb5.mono HK4.out.bel.size))
  clear hb5
  go_wp2_with fail
  go_ret
  exact ⟨rfl, HB.out⟩
theorem makes_many (s : Nat) (P T G x0 x1 x2 : Int) (w : World) (hx : 300 < x1 ∨ (x1 ≤ 300 ∧ 300 < x2)) :
    Calls Try.prog 4 #[.int .u64 (s : Int), .agg #[.int .i64 P, .int .i64 T, .int .i64 G], .agg #[.int .i64 x0, .int .i64 x1, .int .i64 x2]] w fun e w' => e = .returned (.bool true) ∧ Below w.heap.size w w' := by
  have hB := ((Below.refl w.heap.size w).alloc (Nat.le_refl _) (.cells #[.int .i64 P, .int .i64 T, .int .i64 G] 34)).alloc (by simp) (.cells #[.int .i64 x0, .int .i64 x1, .int .i64 x2] 35)
  have HB := Lib.hid hB
  clear hB
  rcases hx with h | ⟨h1, h2⟩
  · go_enter Try.func4, Try.ntmps4
    go_wp2_with fail
    refine (awake_any _).mono ?_; rintro e w1 ⟨rfl, hb1⟩
    go_wp2_with fail
    go_ret
    exact ⟨rfl, HB.out.trans (hb1.mono HB.out.size)⟩
  · have h3 : ¬ 300 < x1 := by omega
    go_enter Try.func4, Try.ntmps4
    go_wp2_with fail
    refine (awake_any _).mono ?_; rintro e w1 ⟨rfl, hb1⟩
    go_wp2_with fail
    go_ret
    exact ⟨rfl, HB.out.trans (hb1.mono HB.out.size)⟩
end Go.Proofs.Yteibdjbipfimeaa
