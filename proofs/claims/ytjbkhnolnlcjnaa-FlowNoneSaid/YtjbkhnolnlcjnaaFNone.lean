/- The walk of the law FlowNone. -/
import Derived.Test.YtjbkhnolnlcjnaaPrt1
namespace Go.Proofs.Ytjbkhnolnlcjnaa
open Go Go.RowKit
set_option linter.unusedVariables false
set_option maxRecDepth 100000
set_option linter.unusedSimpArgs false

theorem lt_cell {w : World} {x i : Nat} {v : Value} (h : w.cell? ⟨x, i, none⟩ = some v) : x < w.heap.size := by
  rcases Nat.lt_or_ge x w.heap.size with h1 | h1
  · exact h1
  · simp [World.cell?, Array.getElem?_eq_none h1] at h

theorem chain_got_nil (w : World) : Calls Try.prog 26 #[.pointer none] w fun e w' => e = .returned (.slice none 0 0) ∧ w = w' := by
  go_enter Try.func26, Try.ntmps26
  go_wp2_with fail
  go_ret
  exact ⟨rfl, rfl⟩
theorem chain_step_done (w : World) (x : Nat) (cm : Nat) (hc : w.cell? ⟨x, 1, none⟩ = some (.pointer none)) :
    Calls Try.prog 23 #[.pointer (some ⟨x, 0, none⟩), .pointer (some ⟨cm, 0, none⟩)] w fun e w' => e = .returned (.bool true) ∧ w = w' := by
  refine (chain_step w x _ (fun z w' => z = true ∧ w = w') ((step_none w x cm hc).mono ?_)).mono ?_
  · rintro e w' ⟨rfl, rfl⟩; exact ⟨true, rfl, rfl, rfl⟩
  · rintro e w' ⟨z, rfl, rfl, rfl⟩; exact ⟨rfl, rfl⟩
theorem idle_nil (w : World) (B : Nat) : Idle w B (.slice none 0 0) := ⟨none, 0, 0, fun _ => noAcc, rfl, fun h => absurd h (by omega), by omega, rfl⟩
theorem idle_99 (w : World) (b B : Nat) (i : Int) (h : Blk w b #[.int .i64 99, .int .i64 0, .int .i64 i, .int .u64 0, .int .u64 0, .bool false] 41) (hb : b < B) : Idle w B (.slice (some ⟨b, 0, none⟩) 1 1) := by
  refine ⟨_, 1, 1, fun _ => ⟨99, 0, i, 0, 0, false⟩, rfl, fun _ => ⟨b, 0, rfl, hb, fun j hj q u hu => h.cell _ ?_⟩, by omega, by simp [okL]⟩
  obtain rfl : j = 0 := by omega
  rw [show 0 + 0 * 6 + q = q by omega]
  have hq : q < 6 := by
    have := (List.getElem?_eq_some_iff.1 hu).1
    rwa [accC_len] at this
  rcases (by omega : q = 0 ∨ q = 1 ∨ q = 2 ∨ q = 3 ∨ q = 4 ∨ q = 5) with rfl | rfl | rfl | rfl | rfl | rfl <;> exact hu

set_option maxHeartbeats 2000000 in
theorem flowNone_walk (k p i o v : Int) (z : Bool) (w : World) :
    Calls Try.prog 5 #[.agg #[.int .i64 k, .int .i64 p, .int .i64 i, .int .u64 o, .int .u64 v, .bool z]] w fun e w' => e = .returned (.bool true) ∧ Below w.heap.size w w' := by
  have hX : Blk (w.alloc (.cells #[.int .i64 k, .int .i64 p, .int .i64 i, .int .u64 o, .int .u64 v, .bool z] 41)) w.heap.size #[.int .i64 k, .int .i64 p, .int .i64 i, .int .u64 o, .int .u64 v, .bool z] 41 := Blk.new _ _ _
  have hb0 : Below w.heap.size w (w.alloc (.cells #[.int .i64 k, .int .i64 p, .int .i64 i, .int .u64 o, .int .u64 v, .bool z] 41)) := (Below.refl _ _).alloc (Nat.le_refl _) _
  have hsz : (w.alloc (.cells #[.int .i64 k, .int .i64 p, .int .i64 i, .int .u64 o, .int .u64 v, .bool z] 41)).heap.size = w.heap.size + 1 := World.size_alloc _ _
  have hN := new_any (w.alloc (.cells #[.int .i64 k, .int .i64 p, .int .i64 i, .int .u64 o, .int .u64 v, .bool z] 41)) 4 (by omega)
  go_enter Try.func5, Try.ntmps5
  go_wp2_with fail
  generalize w.alloc (.cells #[.int .i64 k, .int .i64 p, .int .i64 i, .int .u64 o, .int .u64 v, .bool z] 41) = W at *
  go_at_call 31; refine hN.mono ?_; rintro e w1 ⟨A, cap, c, b, rfl, hI, hb, h1, h2⟩
  have HX1 : Hid (Blk w1 w.heap.size #[.int .i64 k, .int .i64 p, .int .i64 i, .int .u64 o, .int .u64 v, .bool z] 41) := hX.but (But.of_below (l := []) hb) (by simp)
  have HB1 : Hid (Below w.heap.size w w1) := seq hb0 hb
  have HI : Hid (Is w1 101 A cap c b 4 (fresh fun _ => 0)) := hI
  have hNw := chnew_any w1 none 0 0 (fun _ => noAcc) 1 (fun h => absurd h (by omega)) (by omega)
  clear hN hI hb hb0 hX
  go_wp2_with fail
  go_at_call 16; refine hNw.mono ?_; rintro e w2 ⟨rfl, hNd, hBd⟩
  have hc1 := newed_nil hNd rfl
  have hc1lt : w1.heap.size < w2.heap.size := lt_cell hc1
  have hI2 : Is w2 101 A cap c b 4 (fresh fun _ => 0) := HI.out.below hBd
  have HX2 := HX1.out.but (But.of_below (l := []) hBd) (by simp)
  have HB2 : Hid (Below w.heap.size w w2) := seq HB1.out hBd
  have y2 := HX2.cell 2 (v := .int .i64 i) rfl
  have hxl := HX2.lt
  have hw2 := hBd.size
  clear hNw hNd hBd
  have hq1 : Blk (w2.alloc (.cells #[.int .i64 99, .int .i64 0, .int .i64 i, .int .u64 0, .int .u64 0, .bool false] 41)) w2.heap.size #[.int .i64 99, .int .i64 0, .int .i64 i, .int .u64 0, .int .u64 0, .bool false] 41 := Blk.new _ _ _
  have hq2 := hq1.al (.cells #[.slice none 0 0, .slice (some ⟨w2.heap.size, 0, none⟩) 1 1, .slice none 0 0] 23)
  have hq3 := Blk.new (w2.alloc (.cells #[.int .i64 99, .int .i64 0, .int .i64 i, .int .u64 0, .int .u64 0, .bool false] 41)) #[.slice none 0 0, .slice (some ⟨w2.heap.size, 0, none⟩) 1 1, .slice none 0 0] 23
  rw [World.size_alloc] at hq3
  have hbq : Below w2.heap.size w2 ((w2.alloc (.cells #[.int .i64 99, .int .i64 0, .int .i64 i, .int .u64 0, .int .u64 0, .bool false] 41)).alloc (.cells #[.slice none 0 0, .slice (some ⟨w2.heap.size, 0, none⟩) 1 1, .slice none 0 0] 23)) := ((Below.refl _ _).alloc (Nat.le_refl _) _).alloc (by simp) _
  have HQ2 : Hid (Blk _ _ _ _) := hq2
  have HQ3 : Hid (Blk _ _ _ _) := hq3
  have HBQ : Hid (Below _ _ _) := hbq
  clear hq1 hq2 hq3 hbq
  go_wp2_with fail
  generalize (w2.alloc (.cells #[.int .i64 99, .int .i64 0, .int .i64 i, .int .u64 0, .int .u64 0, .bool false] 41)).alloc (.cells #[.slice none 0 0, .slice (some ⟨w2.heap.size, 0, none⟩) 1 1, .slice none 0 0] 23) = Y at *
  have hPt := parts_idle Y (w2.heap.size + 1) 3 3 1 (fun j => if j = 1 then .slice (some ⟨w2.heap.size, 0, none⟩) 1 1 else .slice none 0 0) HQ3.out.lt (by omega) (fun j hj => HQ3.out.cell j (by rcases (by omega : j = 0 ∨ j = 1 ∨ j = 2) with rfl | rfl | rfl <;> rfl)) (fun j hj => by
    rcases (by omega : j = 0 ∨ j = 1 ∨ j = 2) with rfl | rfl | rfl
    · exact idle_nil _ _
    · exact idle_99 _ _ _ i HQ2.out HQ2.out.lt
    · exact idle_nil _ _)
  go_at_call 28; refine hPt.mono ?_; rintro e w3 ⟨rfl, hc2, hb3⟩
  have hI3 : Is w3 101 A cap c b 4 (fresh fun _ => 0) := (hI2.below HBQ.out).below hb3
  have hc13 : w3.cell? ⟨w1.heap.size, 1, none⟩ = some (.pointer none) := (hb3.cell (p := ⟨w1.heap.size, 1, none⟩) (Nat.lt_of_lt_of_le hc1lt HBQ.out.size)).trans ((HBQ.out.cell (p := ⟨w1.heap.size, 1, none⟩) hc1lt).trans hc1)
  have HB3 : Hid (Below w.heap.size w w3) := seq (seq HB2.out HBQ.out) hb3
  clear hPt hI2 hc1 y2 hb3 hxl
  go_wp2_with fail
  go_at_call 13; refine (chain_awake w3).mono ?_; rintro e w4 ⟨rfl, hb4⟩
  have hI4 : Is w4 101 A cap c b 4 (fresh fun _ => 0) := hI3.below hb4
  have k1 : w4.cell? ⟨w1.heap.size, 1, none⟩ = some (.pointer none) := (World.cell?_of_block (a := ⟨w1.heap.size, 1, none⟩) (hb4.block _ (lt_cell hc13))).trans hc13
  have k2 : w4.cell? ⟨Y.heap.size, 1, none⟩ = some (.pointer none) := (World.cell?_of_block (a := ⟨Y.heap.size, 1, none⟩) (hb4.block _ (lt_cell hc2))).trans hc2
  have HB4 : Hid (Below w.heap.size w w4) := seq HB3.out hb4
  have hD1 := chain_done w4 _ none k1
  have hS1 := chain_step_done w4 _ c k1
  have hD2 := chain_done w4 _ none k2
  have hS2 := chain_step_done w4 _ c k2
  have hCk := clock_any w4 A cap c b 4 _ hI4
  clear hI3 hc13 hc2 hb4 k1 k2
  go_wp2_with fail
  go_at_call 20; refine (chain_done_nil w4).mono ?_; rintro e w5 ⟨rfl, rfl⟩
  go_wp2_with fail
  go_at_call 23; refine (chain_step_nil w4 _).mono ?_; rintro e w5 ⟨rfl, rfl⟩
  go_wp2_with fail
  go_at_call 21; refine (chain_asleep_nil w4 _).mono ?_; rintro e w5 ⟨rfl, rfl⟩
  go_wp2_with fail
  go_at_call 26; refine (chain_got_nil w4).mono ?_; rintro e w5 ⟨rfl, rfl⟩
  go_wp2_with fail
  go_at_call 20; refine hD1.mono ?_; rintro e w5 ⟨rfl, rfl⟩
  go_wp2_with fail
  go_at_call 23; refine hS1.mono ?_; rintro e w5 ⟨rfl, rfl⟩
  go_wp2_with fail
  go_at_call 20; refine hD2.mono ?_; rintro e w5 ⟨rfl, rfl⟩
  go_wp2_with fail
  go_at_call 23; refine hS2.mono ?_; rintro e w5 ⟨rfl, rfl⟩
  go_wp2_with fail
  go_at_call 30; refine hCk.mono ?_; rintro e w5 ⟨rfl, rfl⟩
  go_wp2_with fail
  go_ret
  exact ⟨rfl, HB4.out⟩
end Go.Proofs.Ytjbkhnolnlcjnaa
