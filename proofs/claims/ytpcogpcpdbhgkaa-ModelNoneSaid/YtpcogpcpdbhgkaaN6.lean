/- The page's model: what it holds, and what is asked of it. -/
import Derived.Test.YtpcogpcpdbhgkaaN5
namespace Go.Proofs.Ytpcogpcpdbhgkaa
open Go Go.RowKit
set_option linter.unusedVariables false
set_option linter.unusedSimpArgs false

/-- the page's model: its one goroutine is 'what', so many instructions are behind it; on: it runs -/
structure Ms (w : World) (x gb tb qb pb ib : Nat) (what behind : Int) (on : Bool) : Prop where
  hx : w.heap[x]? = some (.cells #[.slice (some ⟨pb, 0, none⟩) 1 1, .slice (some ⟨gb, 0, none⟩) 1 1, .map (some tb), .map (some qb)] 50 (0, 0))
  hg : w.heap[gb]? = some (.cells #[.int .i64 what, .int .i64 0, .int .i64 behind] 52 (0, 0))
  hp : Prog1 w pb ib
  ht : ∃ clk born, w.heap[tb]? = some (.map (if on then #[one born] else #[]) clk)
  hq : ∃ clk born, w.heap[qb]? = some (.map (if on then #[one born] else #[]) clk)
  n1 : x ≠ gb ∧ x ≠ tb ∧ x ≠ qb ∧ x ≠ pb ∧ x ≠ ib
  n2 : gb ≠ tb ∧ gb ≠ qb ∧ gb ≠ pb ∧ gb ≠ ib
  n3 : tb ≠ qb ∧ tb ≠ pb ∧ tb ≠ ib ∧ qb ≠ pb ∧ qb ≠ ib ∧ pb ≠ ib
variable {x gb tb qb pb ib : Nat} {what behind : Int} {on : Bool}
theorem Ms.below {w w' : World} (h : Ms w x gb tb qb pb ib what behind on) (hb : Below w.heap.size w w') : Ms w' x gb tb qb pb ib what behind on := by
  obtain ⟨hx, hg, hp, ⟨c1, b1, ht⟩, ⟨c2, b2, hq⟩, n1, n2, n3⟩ := h
  obtain ⟨⟨ic, h1, h2⟩, cu, h3, h4⟩ := hp
  exact ⟨(hb.block _ (block_lt hx)).trans hx, (hb.block _ (block_lt hg)).trans hg, ⟨⟨ic, h1, (hb.block _ (block_lt h2)).trans h2⟩, cu, (hb.block _ (block_lt h3)).trans h3, h4⟩, ⟨c1, b1, (hb.block _ (block_lt ht)).trans ht⟩, ⟨c2, b2, (hb.block _ (block_lt hq)).trans hq⟩, n1, n2, n3⟩

theorem has_0 (w : World) (h : Ms w x gb tb qb pb ib what behind on) : Calls Try.prog 17 #[.pointer (some ⟨x, 0, none⟩), .int .i64 0] w fun e w' => e = .returned (.bool true) ∧ w = w' := by
  have x1 : w.cell? ⟨x, 1, none⟩ = some (.slice (some ⟨gb, 0, none⟩) 1 1) := (cell_of h.hx 1)
  clear h
  go_enter Try.func17, Try.ntmps17
  go_wp2
  go_ret
  exact ⟨rfl, rfl⟩
theorem is_0 (k : Int) (w : World) (h : Ms w x gb tb qb pb ib what behind on) : Calls Try.prog 19 #[.pointer (some ⟨x, 0, none⟩), .int .i64 0, .int .i64 k] w fun e w' => e = .returned (.bool (what == k)) ∧ w = w' := by
  have x1 : w.cell? ⟨x, 1, none⟩ = some (.slice (some ⟨gb, 0, none⟩) 1 1) := (cell_of h.hx 1)
  have g0 : w.cell? ⟨gb, 0, none⟩ = some (.int .i64 what) := (cell_of h.hg 0)
  have HH : Hid (Calls Try.prog 17 #[.pointer (some ⟨x, 0, none⟩), .int .i64 0] w fun e w' => e = .returned (.bool true) ∧ w = w') := has_0 w h
  clear h
  go_enter Try.func19, Try.ntmps19
  go_wp2_with fail
  go_at_call 17
  refine HH.out.mono ?_
  rintro e w1 ⟨rfl, rfl⟩
  go_wp2
  go_ret
  exact ⟨rfl, rfl⟩
theorem free_any (r : Nat) (w : World) (h : ∃ clk born, w.heap[r]? = some (.map (if on then #[one born] else #[]) clk)) : Calls Try.prog 31 #[.map (some r), .int .i64 0] w fun e w' => e = .returned (.bool (!on)) ∧ w = w' := by
  obtain ⟨clk, born, h⟩ := h
  cases on
  · have hl := lookup_e r clk w h
    clear h
    go_enter Try.func31, Try.ntmps31
    go_wp2
    go_ret
    exact ⟨rfl, rfl⟩
  · have hl := lookup_o r clk born w h
    clear h
    go_enter Try.func31, Try.ntmps31
    go_wp2
    go_ret
    exact ⟨rfl, rfl⟩
theorem by_any (r : Nat) (w : World) (h : ∃ clk born, w.heap[r]? = some (.map (if on then #[one born] else #[]) clk)) : Calls Try.prog 30 #[.map (some r), .int .i64 0, .int .i64 0] w fun e w' => e = .returned (.bool on) ∧ w = w' := by
  obtain ⟨clk, born, h⟩ := h
  cases on
  · have hl := lookup_e r clk w h
    clear h
    go_enter Try.func30, Try.ntmps30
    go_wp2
    go_ret
    exact ⟨rfl, rfl⟩
  · have hl := lookup_o r clk born w h
    clear h
    go_enter Try.func30, Try.ntmps30
    go_wp2
    go_ret
    exact ⟨rfl, rfl⟩
theorem len_1 (w : World) (h : Ms w x gb tb qb pb ib what behind on) : Calls Try.prog 39 #[.pointer (some ⟨x, 0, none⟩)] w fun e w' => e = .returned (.int .i64 1) ∧ w = w' := by
  have x0 : w.cell? ⟨x, 0, none⟩ = some (.slice (some ⟨pb, 0, none⟩) 1 1) := (cell_of h.hx 0)
  clear h
  go_enter Try.func39, Try.ntmps39
  go_wp2
  go_ret
  exact ⟨rfl, rfl⟩
theorem program_0 (w : World) (h : Ms w x gb tb qb pb ib what behind on) : Calls Try.prog 36 #[.pointer (some ⟨x, 0, none⟩), .int .i64 0] w fun e w' => (∃ ic : Nat, e = .returned (.slice (some ⟨ib, 0, none⟩) 1 ic) ∧ 1 ≤ ic) ∧ w = w' := by
  have x0 : w.cell? ⟨x, 0, none⟩ = some (.slice (some ⟨pb, 0, none⟩) 1 1) := (cell_of h.hx 0)
  obtain ⟨ic, hic, hpb⟩ := h.hp.p0
  have p0 : w.cell? ⟨pb, 0, none⟩ = some (.slice (some ⟨ib, 0, none⟩) 1 ic) := (cell_of hpb 0)
  have HL : Hid (Calls Try.prog 39 #[.pointer (some ⟨x, 0, none⟩)] w fun e w' => e = .returned (.int .i64 1) ∧ w = w') := len_1 w h
  clear h hpb
  go_enter Try.func36, Try.ntmps36
  go_wp2_with fail
  go_at_call 39
  refine HL.out.mono ?_
  rintro e w1 ⟨rfl, rfl⟩
  go_wp2
  go_ret
  exact ⟨⟨ic, rfl, hic⟩, rfl⟩

/-- the kind of the instruction at a place -/
def kindAt (i : Nat) : Int := if i = 0 then 3 else 0
theorem at_0 (i : Nat) (hi : i ≤ 100) (w : World) (h : Ms w x gb tb qb pb ib what behind on) : Calls Try.prog 24 #[.pointer (some ⟨x, 0, none⟩), .int .i64 0, .int .i64 (i : Int)] w fun e w' => e = .returned (.agg #[.int .i64 (kindAt i), .int .i64 0]) ∧ Below w.heap.size w w' := by
  have HP : Hid (∀ w1, Below w.heap.size w w1 → Calls Try.prog 36 #[.pointer (some ⟨x, 0, none⟩), .int .i64 0] w1 fun e w' => (∃ ic : Nat, e = .returned (.slice (some ⟨ib, 0, none⟩) 1 ic) ∧ 1 ≤ ic) ∧ w1 = w') := fun w1 hb => program_0 w1 (h.below hb)
  obtain ⟨cu, hib, hcu⟩ := h.hp.i0
  have i0 : w.cell? ⟨ib, 0, none⟩ = some (.int .i64 3) := by
    rw [cell_of hib 0]
    have := congrArg (·[0]?) hcu
    simpa [List.getElem?_take] using this
  have i1 : w.cell? ⟨ib, 1, none⟩ = some (.int .i64 0) := by
    rw [cell_of hib 1]
    have := congrArg (·[1]?) hcu
    simpa [List.getElem?_take] using this
  have hbl := block_lt hib
  clear h hib hcu
  have BA : Below w.heap.size w (w.alloc (.cells #[.int .i64 0, .int .i64 0] 39)) := (Below.refl _ w).alloc (Nat.le_refl _) _
  have j0 := (BA.cell (p := ⟨ib, 0, none⟩) hbl).trans i0
  have j1 := (BA.cell (p := ⟨ib, 1, none⟩) hbl).trans i1
  have hY : (w.alloc (.cells #[.int .i64 0, .int .i64 0] 39)).heap[w.heap.size]? = some (.cells #[.int .i64 0, .int .i64 0] 39 (0, 0)) := heap_alloc_new _ _
  have HPA : Hid (Calls Try.prog 36 #[.pointer (some ⟨x, 0, none⟩), .int .i64 0] (w.alloc (.cells #[.int .i64 0, .int .i64 0] 39)) fun e w' => (∃ ic : Nat, e = .returned (.slice (some ⟨ib, 0, none⟩) 1 ic) ∧ 1 ≤ ic) ∧ (w.alloc (.cells #[.int .i64 0, .int .i64 0] 39)) = w') := HP.out _ BA
  clear HP i0 i1
  by_cases hi0 : i = 0
  · subst hi0
    go_enter Try.func24, Try.ntmps24
    go_wp2_with fail
    go_at_call 36
    refine HPA.out.mono ?_
    rintro e w1 ⟨⟨ic, rfl, hic⟩, rfl⟩
    have hic2 : (1 : Int) ≤ (ic : Int) := by omega
    go_wp2
    exact bodyPost_ret (v := .agg #[.int .i64 3, .int .i64 0]) (results_cell_row rfl _ _ w.heap.size 39 #[.int .i64 3, .int .i64 0] (0, 0) _ rfl (heap_alloc_new _ _) Try.underlying39 rfl (by kernel_rfl)) rfl ⟨rfl, (Below.refl _ w).alloc (Nat.le_refl _) _⟩
  · have hi1 : (1 : Int) ≤ (i : Int) := by omega
    have hk : kindAt i = 0 := by unfold kindAt; rw [if_neg hi0]
    rw [hk]
    go_enter Try.func24, Try.ntmps24
    go_wp2_with fail
    go_at_call 36
    refine HPA.out.mono ?_
    rintro e w1 ⟨⟨ic, rfl, hic⟩, rfl⟩
    have hic2 : (1 : Int) ≤ (ic : Int) := by omega
    go_wp2
    exact bodyPost_ret (v := .agg #[.int .i64 0, .int .i64 0]) (results_cell_row rfl _ _ w.heap.size 39 #[.int .i64 0, .int .i64 0] (0, 0) _ rfl (heap_alloc_new _ _) Try.underlying39 rfl (by kernel_rfl)) rfl ⟨rfl, (Below.refl _ w).alloc (Nat.le_refl _) _⟩

/-- the kinds that a goroutine passes over: none is at hand -/
theorem index_15 (kb : Nat) (k : Int) (hk1 : (k == 1) = false) (hk5 : (k == 5) = false) (w : World) (h0 : w.cell? ⟨kb, 0, none⟩ = some (.int .i64 1)) (h1 : w.cell? ⟨kb, 1, none⟩ = some (.int .i64 5)) : Calls Try.prog 40 #[.slice (some ⟨kb, 0, none⟩) 2 2, .int .i64 k] w fun e w' => e = .returned (.int .i64 (-1)) ∧ w = w' := by
  go_enter Try.func40, Try.ntmps40
  go_wp2
  go_rounds 3
  all_goals (go_ret; exact ⟨rfl, rfl⟩)
theorem contains_15 (kb : Nat) (k : Int) (hk1 : (k == 1) = false) (hk5 : (k == 5) = false) (w : World) (h0 : w.cell? ⟨kb, 0, none⟩ = some (.int .i64 1)) (h1 : w.cell? ⟨kb, 1, none⟩ = some (.int .i64 5)) : Calls Try.prog 38 #[.slice (some ⟨kb, 0, none⟩) 2 2, .int .i64 k] w fun e w' => e = .returned (.bool false) ∧ w = w' := by
  have H : Hid (Calls Try.prog 40 #[.slice (some ⟨kb, 0, none⟩) 2 2, .int .i64 k] w fun e w' => e = .returned (.int .i64 (-1)) ∧ w = w') := index_15 kb k hk1 hk5 w h0 h1
  clear h0 h1
  go_enter Try.func38, Try.ntmps38
  go_wp2_with fail
  go_at_call 40
  refine H.out.mono ?_
  rintro e w1 ⟨rfl, rfl⟩
  go_wp2
  go_ret
  exact ⟨rfl, rfl⟩
end Go.Proofs.Ytpcogpcpdbhgkaa
