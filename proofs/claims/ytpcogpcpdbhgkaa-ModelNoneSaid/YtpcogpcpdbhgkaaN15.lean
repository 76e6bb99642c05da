/- The page's model: made, and the page's events done one behind the other. -/
import Derived.Test.YtpcogpcpdbhgkaaN14
namespace Go.Proofs.Ytpcogpcpdbhgkaa
open Go Go.RowKit
set_option linter.unusedVariables false
set_option linter.unusedSimpArgs false
variable {x gb tb qb pb ib : Nat} {what : Int} {bh : Nat} {on : Bool}

theorem Ms.of_made {w w' : World} {c : Nat} {cs : Array Value} (hp : Prog1 w pb ib) (hb : Below w.heap.size w w') (hm : Made w' w.heap.size (.slice (some ⟨pb, 0, none⟩) 1 1) 1 (cs.setIfInBounds 0 (.int .i64 1)) x gb tb qb) (hcz : cs.size = 1 * 3)
    (hcs : ∀ i, i < 1 → cs[i * 3]? = some (.int .i64 0) ∧ cs[i * 3 + 1]? = some (.int .i64 0) ∧ cs[i * 3 + 2]? = some (.int .i64 0)) (hne : pb ≠ ib) : Ms w' x gb tb qb pb ib 1 ((0 : Nat) : Int) false := by
  obtain ⟨hx, hg, ht, hq, hn, hl⟩ := hm
  obtain ⟨⟨ic, hic, hpb⟩, cu, hib, hcu⟩ := hp
  have l1 := block_lt hpb
  have l2 := block_lt hib
  have e : cs = #[.int .i64 0, .int .i64 0, .int .i64 0] := by
    obtain ⟨a, b, d⟩ := hcs 0 (by decide)
    apply Array.ext_getElem?
    intro i
    match i with
    | 0 => simpa using a
    | 1 => simpa using b
    | 2 => simpa using d
    | n + 3 =>
      rw [Array.getElem?_eq_none (by omega)]
      simp
  subst e
  exact ⟨hx, hg, ⟨⟨ic, hic, (hb.block pb l1).trans hpb⟩, cu, (hb.block ib l2).trans hib, hcu⟩, ⟨0, 0, ht⟩, ⟨0, 0, hq⟩, ⟨hn.1, hn.2.1, hn.2.2.1, by omega, by omega⟩, ⟨hn.2.2.2.1, hn.2.2.2.2.1, by omega, by omega⟩, ⟨hn.2.2.2.2.2, by omega, by omega, by omega, by omega, hne⟩⟩

/-- the page's three events -/
structure Evs (w : World) (r : Nat) : Prop where
  a : w.heap[r]? = some (.cells #[.int .i64 1, .int .i64 0, .int .i64 (-1), .int .i64 0, .int .i64 0] 25 (0, 0))
  b : w.heap[r + 1]? = some (.cells #[.int .i64 4, .int .i64 0, .int .i64 (-1), .int .i64 0, .int .i64 0] 25 (0, 0))
  c : w.heap[r + 1 + 1]? = some (.cells #[.int .i64 11, .int .i64 0, .int .i64 (-1), .int .i64 0, .int .i64 0] 25 (0, 0))
theorem Evs.turns {w w' : World} {r : Nat} (h : Evs w r) (ht : Turns gb tb qb w w') (h1 : gb < r) (h2 : tb < r) (h3 : qb < r) : Evs w' r :=
  ⟨(ht.2 r (by omega) (by omega) (by omega) (block_lt h.a)).trans h.a, (ht.2 (r + 1) (by omega) (by omega) (by omega) (block_lt h.b)).trans h.b, (ht.2 (r + 1 + 1) (by omega) (by omega) (by omega) (block_lt h.c)).trans h.c⟩
theorem five {w : World} {r : Nat} {a b c d e : Value} (h : w.heap[r]? = some (.cells #[a, b, c, d, e] 25 (0, 0))) : w.cell? ⟨r, 0, none⟩ = some a ∧ w.cell? ⟨r, 1, none⟩ = some b ∧ w.cell? ⟨r, 2, none⟩ = some c ∧ w.cell? ⟨r, 3, none⟩ = some d ∧ w.cell? ⟨r, 4, none⟩ = some e :=
  ⟨cell_of h 0, cell_of h 1, cell_of h 2, cell_of h 3, cell_of h 4⟩

theorem awake_any (w : World) : Calls Try.prog 4 #[] w fun e w' => e = .returned (.bool true) ∧ Below w.heap.size w w' := by
  obtain ⟨cs, ⟨hcz, hcs⟩, hmk⟩ := make47 1 (by decide)
  have HR := Lib.hid (read_1 w.heap.size (w.alloc (.cells #[.int .u64 3] 42)) (by simp))
  have BA : Below w.heap.size w (w.alloc (.cells #[.int .u64 3] 42)) := (Below.refl _ w).alloc (Nat.le_refl _) _
  have HK := Lib.hid hmk
  clear hmk
  go_enter Try.func4, Try.ntmps4
  go_wp2_with fail
  go_at_call 6
  generalize w.alloc (.cells #[.int .u64 3] 42) = W at *
  refine HR.out.mono ?_
  rintro e w1 ⟨c, pb, ib, rfl, hc1, hp1, hc, hi1, n1, n2, n3, hP, hb1⟩
  have HN := Lib.hid (new_ok c _ 1 1 1 (by decide) (by decide) w1 hc cs hcz hcs HK.out)
  have B1 := BA.trans (hb1.mono BA.size)
  clear HR hc
  go_wp2_with fail
  go_at_call 5
  refine HN.out.mono ?_
  rintro e w2 ⟨x, gb, tb, qb, rfl, hm, hb2⟩
  have M2 := Ms.of_made (c := 0) hP hb2 hm hcz hcs n3
  have hlo := hm.lo
  have B2 := B1.trans (hb2.mono B1.size)
  have hsz := B1.size
  clear HN HK hm hP hcs hcz
  go_wp2_with fail
  go_at_call 9
  have E3 : Evs (((w2.alloc (.cells #[.int .i64 1, .int .i64 0, .int .i64 (-1), .int .i64 0, .int .i64 0] 25)).alloc (.cells #[.int .i64 4, .int .i64 0, .int .i64 (-1), .int .i64 0, .int .i64 0] 25)).alloc (.cells #[.int .i64 11, .int .i64 0, .int .i64 (-1), .int .i64 0, .int .i64 0] 25)) w2.heap.size := by
    have s1 : (w2.alloc (.cells #[.int .i64 1, .int .i64 0, .int .i64 (-1), .int .i64 0, .int .i64 0] 25)).heap.size = w2.heap.size + 1 := by simp
    have s2 : ((w2.alloc (.cells #[.int .i64 1, .int .i64 0, .int .i64 (-1), .int .i64 0, .int .i64 0] 25)).alloc (.cells #[.int .i64 4, .int .i64 0, .int .i64 (-1), .int .i64 0, .int .i64 0] 25)).heap.size = w2.heap.size + 1 + 1 := by simp
    have a1 := heap_alloc_new w2 (.cells #[.int .i64 1, .int .i64 0, .int .i64 (-1), .int .i64 0, .int .i64 0] 25)
    have a2 := heap_alloc_new (w2.alloc (.cells #[.int .i64 1, .int .i64 0, .int .i64 (-1), .int .i64 0, .int .i64 0] 25)) (.cells #[.int .i64 4, .int .i64 0, .int .i64 (-1), .int .i64 0, .int .i64 0] 25)
    have a3 := heap_alloc_new ((w2.alloc (.cells #[.int .i64 1, .int .i64 0, .int .i64 (-1), .int .i64 0, .int .i64 0] 25)).alloc (.cells #[.int .i64 4, .int .i64 0, .int .i64 (-1), .int .i64 0, .int .i64 0] 25)) (.cells #[.int .i64 11, .int .i64 0, .int .i64 (-1), .int .i64 0, .int .i64 0] 25)
    rw [s1] at a2
    rw [s2] at a3
    have b2 : Below (w2.heap.size + 1) (w2.alloc (.cells #[.int .i64 1, .int .i64 0, .int .i64 (-1), .int .i64 0, .int .i64 0] 25)) _ := (Below.refl _ _).alloc (by omega) (.cells #[.int .i64 4, .int .i64 0, .int .i64 (-1), .int .i64 0, .int .i64 0] 25)
    have b3 : Below (w2.heap.size + 1 + 1) ((w2.alloc (.cells #[.int .i64 1, .int .i64 0, .int .i64 (-1), .int .i64 0, .int .i64 0] 25)).alloc (.cells #[.int .i64 4, .int .i64 0, .int .i64 (-1), .int .i64 0, .int .i64 0] 25)) _ := (Below.refl _ _).alloc (by omega) (.cells #[.int .i64 11, .int .i64 0, .int .i64 (-1), .int .i64 0, .int .i64 0] 25)
    exact ⟨(b3.block _ (by omega)).trans ((b2.block _ (by omega)).trans a1), (b3.block _ (by omega)).trans a2, a3⟩
  have B3 : Below w2.heap.size w2 (((w2.alloc (.cells #[.int .i64 1, .int .i64 0, .int .i64 (-1), .int .i64 0, .int .i64 0] 25)).alloc (.cells #[.int .i64 4, .int .i64 0, .int .i64 (-1), .int .i64 0, .int .i64 0] 25)).alloc (.cells #[.int .i64 11, .int .i64 0, .int .i64 (-1), .int .i64 0, .int .i64 0] 25)) := (((Below.refl _ w2).alloc (Nat.le_refl _) _).alloc (by simp) _).alloc (by simp; omega) _
  have lg := block_lt M2.hg
  have lt := block_lt M2.ht.choose_spec.choose_spec
  have lq := block_lt M2.hq.choose_spec.choose_spec
  have M3 := M2.below B3
  generalize (((w2.alloc (.cells #[.int .i64 1, .int .i64 0, .int .i64 (-1), .int .i64 0, .int .i64 0] 25)).alloc (.cells #[.int .i64 4, .int .i64 0, .int .i64 (-1), .int .i64 0, .int .i64 0] 25)).alloc (.cells #[.int .i64 11, .int .i64 0, .int .i64 (-1), .int .i64 0, .int .i64 0] 25)) = w3 at *
  have hlog : w.heap.size ≤ gb ∧ w.heap.size ≤ tb ∧ w.heap.size ≤ qb := ⟨by omega, by omega, by omega⟩
  have F3 : Turns gb tb qb w2 w3 := Turns.of_below B3
  have hz2 := B2.size
  clear BA B1 hb1 hb2 M2 B3 hlo hc1 hp1 hi1 n1 n2 n3
  clear W
  have D3 := Lib.hid (do_start w3 M3)
  refine D3.out.mono ?_
  clear D3 M3
  rintro e w4 ⟨rfl, M4, T4⟩
  have E4 := E3.turns T4 lg lt lq
  have F4 := F3.trans T4
  clear E3 F3 T4
  obtain ⟨a0, a1, a2, a3, a4⟩ := five E4.a
  obtain ⟨b0, b1, b2, b3, b4⟩ := five E4.b
  obtain ⟨d0, d1, d2, d3, d4⟩ := five E4.c
  go_wp2_with fail
  go_at_call 8
  clear a0 a1 a2 a3 a4 b0 b1 b2 b3 b4 d0 d1 d2 d3 d4
  have M4h := Lib.hid M4
  have D4 := Lib.hid (may_off (bh := 0) 11 0 (by omega) (by decide) w4 M4)
  refine D4.out.mono ?_
  clear D4 M4
  rintro e w5 ⟨rfl, hb5⟩
  have M5 := M4h.out.below hb5
  have T5 : Turns gb tb qb w4 w5 := Turns.of_below hb5
  have E5 := E4.turns T5 lg lt lq
  have F5 := F4.trans T5
  clear E4 F4 T5
  obtain ⟨a0, a1, a2, a3, a4⟩ := five E5.a
  obtain ⟨b0, b1, b2, b3, b4⟩ := five E5.b
  obtain ⟨d0, d1, d2, d3, d4⟩ := five E5.c
  go_wp2_with fail
  go_at_call 9
  clear a0 a1 a2 a3 a4 b0 b1 b2 b3 b4 d0 d1 d2 d3 d4
  have D5 := Lib.hid (do_off (bh := 0) 4 1 3 (by omega) (by decide) rfl w5 M5)
  refine D5.out.mono ?_
  clear D5 M5
  rintro e w6 ⟨rfl, M6, T6⟩
  have E6 := E5.turns T6 lg lt lq
  have F6 := F5.trans T6
  clear E5 F5 T6
  obtain ⟨a0, a1, a2, a3, a4⟩ := five E6.a
  obtain ⟨b0, b1, b2, b3, b4⟩ := five E6.b
  obtain ⟨d0, d1, d2, d3, d4⟩ := five E6.c
  go_wp2_with fail
  go_at_call 9
  clear a0 a1 a2 a3 a4 b0 b1 b2 b3 b4 d0 d1 d2 d3 d4
  have D6 := Lib.hid (do_start (bh := 1) w6 M6)
  refine D6.out.mono ?_
  clear D6 M6
  rintro e w7 ⟨rfl, M7, T7⟩
  have E7 := E6.turns T7 lg lt lq
  have F7 := F6.trans T7
  clear E6 F6 T7
  obtain ⟨a0, a1, a2, a3, a4⟩ := five E7.a
  obtain ⟨b0, b1, b2, b3, b4⟩ := five E7.b
  obtain ⟨d0, d1, d2, d3, d4⟩ := five E7.c
  go_wp2_with fail
  go_at_call 9
  clear a0 a1 a2 a3 a4 b0 b1 b2 b3 b4 d0 d1 d2 d3 d4
  have D7 := Lib.hid (do_off (bh := 1) 11 5 0 (by omega) (by decide) rfl w7 M7)
  refine D7.out.mono ?_
  clear D7 M7
  rintro e w8 ⟨rfl, M8, T8⟩
  have E8 := E7.turns T8 lg lt lq
  have F8 := F7.trans T8
  clear E7 F7 T8
  obtain ⟨a0, a1, a2, a3, a4⟩ := five E8.a
  obtain ⟨b0, b1, b2, b3, b4⟩ := five E8.b
  obtain ⟨d0, d1, d2, d3, d4⟩ := five E8.c
  go_wp2_with fail
  go_at_call 10
  clear a0 a1 a2 a3 a4 b0 b1 b2 b3 b4 d0 d1 d2 d3 d4
  have D8 := Lib.hid (what_0 w8 M8)
  refine D8.out.mono ?_
  rintro e w9 ⟨rfl, rfl⟩
  clear D8 M8 E8
  go_wp2
  go_ret
  exact ⟨rfl, B2.trans (F8.below w.heap.size hlog.1 hlog.2.1 hlog.2.2 hz2)⟩
end Go.Proofs.Ytpcogpcpdbhgkaa
