/- The law ModelNone, walked: of a config that may be. -/
import Derived.Test.YtpcogpcpdbhgkaaN18
namespace Go.Proofs.Ytpcogpcpdbhgkaa
open Go Go.RowKit
set_option linter.unusedVariables false
set_option linter.unusedSimpArgs false

set_option maxHeartbeats 4000000 in
theorem law_ok (p t : Int) (G : Nat) (a0 a1 a2 a3 a4 : Int) (hp : 1 ≤ p ∧ p ≤ 64) (hG : 1 ≤ G ∧ G ≤ 300) (w : World) : Calls Try.prog 3 #[.agg #[.int .i64 p, .int .i64 t, .int .i64 (G : Int)], .agg #[.int .i64 a0, .int .i64 a1, .int .i64 a2, .int .i64 a3, .int .i64 a4]] w fun e w' => e = .returned (.bool true) ∧ Below w.heap.size w w' := by
  obtain ⟨cs, ⟨hcz, hcs⟩, hmk⟩ := make47 G (by omega)
  have HNEW := Lib.hid (show ∀ (c : Nat) (s : Value) (w : World), w.heap[c]? = some (.cells #[s] 46 (0, 0)) → _ from fun c s w hc => new_ok c s p t G hp (by omega) w hc cs hcz hcs hmk)
  have HCS := Lib.hid (show ∀ (w : World) (s : Value) (lo x gb tb qb : Nat), Made w lo s G (cs.setIfInBounds 0 (.int .i64 1)) x gb tb qb → (_ ∧ _) from fun w s lo x gb tb qb hm => ⟨count_1 G (by omega) s lo x gb tb qb cs hcz hcs w hm, count_0 G (by omega) s lo x gb tb qb cs hcz hcs w hm⟩)
  clear hcz hcs hmk
  have B0 : Below w.heap.size w ((w.alloc (.cells #[.int .i64 p, .int .i64 t, .int .i64 (G : Int)] 23)).alloc (.cells #[.int .i64 a0, .int .i64 a1, .int .i64 a2, .int .i64 a3, .int .i64 a4] 25)) := ((Below.refl _ w).alloc (Nat.le_refl _) _).alloc (by simp) _
  have X0 := Bx.new w p t (G : Int) a0 a1 a2 a3 a4
  have hp1 := hp.1
  have hp2 := hp.2
  have hG1 : (1 : Int) ≤ (G : Int) := by omega
  have hG2 : (G : Int) ≤ 300 := by omega
  have hG3 : (G : Int) ≤ 65536 := by omega
  have hwr : IntKind.i64.wrap ((G : Int) - 1) = (G : Int) - 1 := IntWalk.i64_in _ (by omega)
  clear hp hG
  go_enter Try.func3, Try.ntmps3
  go_wp2_with fail
  all_goals first | (exfalso; omega) | skip
  generalize ((w.alloc (.cells #[.int .i64 p, .int .i64 t, .int .i64 (G : Int)] 23)).alloc (.cells #[.int .i64 a0, .int .i64 a1, .int .i64 a2, .int .i64 a3, .int .i64 a4] 25)) = W at *
  obtain ⟨⟨p0, p1, p2⟩, e0, e1, e2, e3, e4⟩ := X0.cells
  have q0 : W.drew.cell? ⟨w.heap.size, 0, none⟩ = some (.int .i64 p) := p0
  have X0d : Bx W.drew w.heap.size p t (G : Int) a0 a1 a2 a3 a4 := X0.below (Below.refl _ _).drew
  have B0d : Below w.heap.size w W.drew := B0.drew
  go_region_with (first | (go_at_call 6; refine (read_0 _).mono ?_; rintro e w1 ⟨c, pb, rfl, hc1, hpb1, hcc, hb1⟩; have X1 := X0d.below hb1; have B1 := B0d.trans (hb1.mono B0d.size); obtain ⟨⟨u0, u1, u2⟩, v0, v1, v2, v3, v4⟩ := X1.cells) | (go_at_call 5; refine (HNEW.out c _ _ hcc).mono ?_; rintro e w2 ⟨x, gb, tb, qb, rfl, hm, hb2⟩; have X2 := X1.below hb2; have B2 := B1.trans (hb2.mono B1.size); have M2 := Lib.hid hm))
  all_goals
    clear p0 p1 p2 e0 e1 e2 e3 e4 q0 X0d B0d X0 B0 hc1 hpb1 hcc hb1 X1 B1 u0 u1 u2 v0 v1 v2 v3 v4 hb2 hm HNEW
    obtain ⟨⟨p0, p1, p2⟩, e0, e1, e2, e3, e4⟩ := X2.cells
    go_wp2_with fail
    go_at_call 5
    refine (new_n p t (G : Int) _).mono ?_
    clear p0 p1 p2 e0 e1 e2 e3 e4
    rintro e w3 ⟨rfl, hb⟩
    have X3 := X2.below hb
    have B3 := B2.trans (hb.mono B2.size)
    have M3 := Lib.hid (M2.out.below hb)
    clear hb X2 B2 M2
    obtain ⟨⟨p0, p1, p2⟩, e0, e1, e2, e3, e4⟩ := X3.cells
    go_wp2_with fail
    all_goals first | (exfalso; omega) | skip
    all_goals (
      go_at_call 7
      refine (all_n _).mono ?_
      clear p0 p1 p2 e0 e1 e2 e3 e4
      rintro e w4 ⟨rfl, hb⟩
      have X4 := X3.below hb
      have B4 := B3.trans (hb.mono B3.size)
      have M4 := Lib.hid (M3.out.below hb)
      clear hb X3 B3 M3
      obtain ⟨⟨p0, p1, p2⟩, e0, e1, e2, e3, e4⟩ := X4.cells
      go_wp2_with fail
      go_at_call 8
      refine (may_n a0 a1 a2 a3 a4 _).mono ?_
      clear p0 p1 p2 e0 e1 e2 e3 e4
      rintro e w5 ⟨rfl, hb⟩
      have X5 := X4.below hb
      have B5 := B4.trans (hb.mono B4.size)
      have M5 := Lib.hid (M4.out.below hb)
      clear hb X4 B4 M4
      obtain ⟨⟨p0, p1, p2⟩, e0, e1, e2, e3, e4⟩ := X5.cells
      go_wp2_with fail
      go_at_call 9
      refine (do_n a0 a1 a2 a3 a4 _).mono ?_
      clear p0 p1 p2 e0 e1 e2 e3 e4
      rintro e w6 ⟨rfl, hb⟩
      have X6 := X5.below hb
      have B6 := B5.trans (hb.mono B5.size)
      have M6 := Lib.hid (M5.out.below hb)
      clear hb X5 B5 M5
      obtain ⟨⟨p0, p1, p2⟩, e0, e1, e2, e3, e4⟩ := X6.cells
      go_wp2_with fail
      go_at_call 10
      refine (what_n 0 _).mono ?_
      clear p0 p1 p2 e0 e1 e2 e3 e4
      rintro e wz ⟨rfl, rfl⟩
      obtain ⟨⟨p0, p1, p2⟩, e0, e1, e2, e3, e4⟩ := X6.cells
      go_wp2_with fail
      go_at_call 11
      refine (program_n 0 _).mono ?_
      clear p0 p1 p2 e0 e1 e2 e3 e4
      rintro e w7 ⟨rfl, rfl⟩
      obtain ⟨⟨p0, p1, p2⟩, e0, e1, e2, e3, e4⟩ := X6.cells
      go_wp2_with fail
      go_at_call 12
      refine (next_n 0 _).mono ?_
      clear p0 p1 p2 e0 e1 e2 e3 e4
      rintro e w7 ⟨rfl, hb⟩
      have X7 := X6.below hb
      have B7 := B6.trans (hb.mono B6.size)
      have M7 := Lib.hid (M6.out.below hb)
      clear hb X6 B6 M6
      obtain ⟨⟨p0, p1, p2⟩, e0, e1, e2, e3, e4⟩ := X7.cells
      go_wp2_with fail
      go_at_call 13
      refine (count_n 0 _).mono ?_
      clear p0 p1 p2 e0 e1 e2 e3 e4
      rintro e w8 ⟨rfl, rfl⟩
      obtain ⟨⟨p0, p1, p2⟩, e0, e1, e2, e3, e4⟩ := X7.cells
      go_wp2_with fail
      have HC1 := Lib.hid (show ∀ X : World, (X.cell? ⟨w.heap.size, 2, none⟩ = some (.int .i64 (G : Int)) ∧ Below w7.heap.size w7 X) → Calls Try.prog 13 #[.pointer (some ⟨x, 0, none⟩), .int .i64 1] X fun e w' => e = .returned (.int .i64 1) ∧ X = w' from fun X hX => (HCS.out X _ _ x gb tb qb (M7.out.below hX.2)).1)
      have HC0 := Lib.hid (show ∀ X : World, (X.cell? ⟨w.heap.size, 2, none⟩ = some (.int .i64 (G : Int)) ∧ Below w7.heap.size w7 X) → Calls Try.prog 13 #[.pointer (some ⟨x, 0, none⟩), .int .i64 0] X fun e w' => e = .returned (.int .i64 ((G : Int) - 1)) ∧ X = w' from fun X hX => (HCS.out X _ _ x gb tb qb (M7.out.below hX.2)).2)
      have hH : w7.drew.cell? ⟨w.heap.size, 2, none⟩ = some (.int .i64 (G : Int)) ∧ Below w7.heap.size w7 w7.drew := ⟨p2, (Below.refl _ _).drew⟩
      have hrl := block_lt X7.c
      have KEEP := Lib.hid (show ∀ X w' : World, (X.cell? ⟨w.heap.size, 2, none⟩ = some (.int .i64 (G : Int)) ∧ Below w7.heap.size w7 X) → Below X.heap.size X w' → (w'.cell? ⟨w.heap.size, 2, none⟩ = some (.int .i64 (G : Int)) ∧ Below w7.heap.size w7 w') from by
        rintro X w' ⟨k1, k2⟩ hb
        have := k2.size
        exact ⟨(hb.cell (by show w.heap.size < _; omega)).trans k1, k2.trans (hb.mono this)⟩)
      clear HCS M7 X7
      clear p0 p1 p2 e0 e1 e2 e3 e4
      go_region_held3 (fun w' : World => w'.cell? ⟨w.heap.size, 2, none⟩ = some (.int .i64 (G : Int)) ∧ Below w7.heap.size w7 w') (first | (with_reducible exact hH) | (with_reducible assumption) | exact KEEP.out _ _ ‹_› ‹_›) (first | (go_at_call 4; refine (awake_any _).mono ?_; rintro e w9 ⟨rfl, hb9⟩) | (go_at_call 13; with_reducible refine (HC1.out _ ‹_›).mono ?_; rintro e w9 ⟨rfl, rfl⟩) | (go_at_call 13; with_reducible refine (HC0.out _ ‹_›).mono ?_; rintro e w9 ⟨rfl, rfl⟩))
      all_goals (rename_i hZ; go_wp2; go_ret; exact ⟨rfl, B7.trans (hZ.2.mono B7.size)⟩)
    )
end Go.Proofs.Ytpcogpcpdbhgkaa
