/- The law ModelNone, walked: of a config that may not be. -/
import Derived.Test.YtpcogpcpdbhgkaaN18
namespace Go.Proofs.Ytpcogpcpdbhgkaa
open Go Go.RowKit
set_option linter.unusedVariables false
set_option linter.unusedSimpArgs false

set_option maxHeartbeats 4000000 in
theorem law_bad2 (p t g a0 a1 a2 a3 a4 : Int) (hg : 65536 < g) (hn : ¬ (1 ≤ p ∧ p ≤ 64 ∧ 1 ≤ g ∧ g ≤ 65536)) (w : World) : Calls Try.prog 3 #[.agg #[.int .i64 p, .int .i64 t, .int .i64 g], .agg #[.int .i64 a0, .int .i64 a1, .int .i64 a2, .int .i64 a3, .int .i64 a4]] w fun e w' => e = .returned (.bool true) ∧ Below w.heap.size w w' := by
  have B0 : Below w.heap.size w ((w.alloc (.cells #[.int .i64 p, .int .i64 t, .int .i64 g] 23)).alloc (.cells #[.int .i64 a0, .int .i64 a1, .int .i64 a2, .int .i64 a3, .int .i64 a4] 25)) := ((Below.refl _ w).alloc (Nat.le_refl _) _).alloc (by simp) _
  have X0 := Bx.new w p t g a0 a1 a2 a3 a4
  have h300 : 300 < g := by omega
  have h655 : ¬ g ≤ 65536 := by omega
  go_enter Try.func3, Try.ntmps3
  go_wp2_with fail
  all_goals first | (exfalso; omega) | skip
  generalize ((w.alloc (.cells #[.int .i64 p, .int .i64 t, .int .i64 g] 23)).alloc (.cells #[.int .i64 a0, .int .i64 a1, .int .i64 a2, .int .i64 a3, .int .i64 a4] 25)) = W at *
  obtain ⟨⟨p0, p1, p2⟩, e0, e1, e2, e3, e4⟩ := X0.cells
  have q0 : W.drew.cell? ⟨w.heap.size, 0, none⟩ = some (.int .i64 p) := p0
  have X0d : Bx W.drew w.heap.size p t g a0 a1 a2 a3 a4 := X0.below (Below.refl _ _).drew
  have B0d : Below w.heap.size w W.drew := B0.drew
  go_region_with (first | (go_at_call 6; refine (read_0 _).mono ?_; rintro e w1 ⟨c, pb, rfl, hc1, hpb1, hcc, hb1⟩; have X1 := X0d.below hb1; have B1 := B0d.trans (hb1.mono B0d.size); obtain ⟨⟨u0, u1, u2⟩, v0, v1, v2, v3, v4⟩ := X1.cells) | (go_at_call 5; refine (new_bad c p t g hn _).mono ?_; rintro e w2 ⟨rfl, hb2⟩; have X2 := X1.below hb2; have B2 := B1.trans (hb2.mono B1.size)))
  all_goals
    clear p0 p1 p2 e0 e1 e2 e3 e4 q0 X0d B0d X0 B0 hc1 hpb1 hcc hb1 X1 B1 u0 u1 u2 v0 v1 v2 v3 v4 hb2
    obtain ⟨⟨p0, p1, p2⟩, e0, e1, e2, e3, e4⟩ := X2.cells
    go_wp2_with fail
    go_at_call 5
    refine (new_n p t g _).mono ?_
    clear p0 p1 p2 e0 e1 e2 e3 e4
    rintro e w3 ⟨rfl, hb⟩
    have X3 := X2.below hb
    have B3 := B2.trans (hb.mono B2.size)
    clear hb X2 B2
    obtain ⟨⟨p0, p1, p2⟩, e0, e1, e2, e3, e4⟩ := X3.cells
    go_wp2_with fail
    all_goals first | (exfalso; omega) | skip
    all_goals (
      go_at_call 7
      refine (all_n _).mono ?_
      clear p0 p1 p2 e0 e1 e2 e3 e4
      rintro e w4 ⟨rfl, hb⟩
      have X4 := X3.below hb
      have B4 := B3.trans (hb.mono B3.size)
      clear hb X3 B3
      obtain ⟨⟨p0, p1, p2⟩, e0, e1, e2, e3, e4⟩ := X4.cells
      go_wp2_with fail
      go_at_call 8
      refine (may_n a0 a1 a2 a3 a4 _).mono ?_
      clear p0 p1 p2 e0 e1 e2 e3 e4
      rintro e w5 ⟨rfl, hb⟩
      have X5 := X4.below hb
      have B5 := B4.trans (hb.mono B4.size)
      clear hb X4 B4
      obtain ⟨⟨p0, p1, p2⟩, e0, e1, e2, e3, e4⟩ := X5.cells
      go_wp2_with fail
      go_at_call 9
      refine (do_n a0 a1 a2 a3 a4 _).mono ?_
      clear p0 p1 p2 e0 e1 e2 e3 e4
      rintro e w6 ⟨rfl, hb⟩
      have X6 := X5.below hb
      have B6 := B5.trans (hb.mono B5.size)
      clear hb X5 B5
      obtain ⟨⟨p0, p1, p2⟩, e0, e1, e2, e3, e4⟩ := X6.cells
      go_wp2_with fail
      go_at_call 10
      refine (what_n 0 _).mono ?_
      clear p0 p1 p2 e0 e1 e2 e3 e4
      rintro e wz ⟨rfl, rfl⟩
      obtain ⟨⟨p0, p1, p2⟩, e0, e1, e2, e3, e4⟩ := X6.cells
      go_wp2_with fail
      go_at_call 11
      refine (program_n 0 _).mono ?_
      clear p0 p1 p2 e0 e1 e2 e3 e4
      rintro e w7 ⟨rfl, rfl⟩
      obtain ⟨⟨p0, p1, p2⟩, e0, e1, e2, e3, e4⟩ := X6.cells
      go_wp2_with fail
      go_at_call 12
      refine (next_n 0 _).mono ?_
      clear p0 p1 p2 e0 e1 e2 e3 e4
      rintro e w7 ⟨rfl, hb⟩
      have X7 := X6.below hb
      have B7 := B6.trans (hb.mono B6.size)
      clear hb X6 B6
      obtain ⟨⟨p0, p1, p2⟩, e0, e1, e2, e3, e4⟩ := X7.cells
      go_wp2_with fail
      go_at_call 13
      refine (count_n 0 _).mono ?_
      clear p0 p1 p2 e0 e1 e2 e3 e4
      rintro e w8 ⟨rfl, rfl⟩
      obtain ⟨⟨p0, p1, p2⟩, e0, e1, e2, e3, e4⟩ := X7.cells
      go_wp2_with fail
      all_goals try (exfalso; have hx : (!decide (g ≤ 65536)) = false := by assumption
                     simp at hx; omega)
      go_at_call 4
      refine (awake_any _).mono ?_
      clear p0 p1 p2 e0 e1 e2 e3 e4
      rintro e w9 ⟨rfl, hb⟩
      go_wp2
      go_ret
      exact ⟨rfl, B7.trans (hb.mono B7.size)⟩
    )
end Go.Proofs.Ytpcogpcpdbhgkaa
