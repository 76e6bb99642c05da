/- CensusAdds: both together; all events in one row. -/
import Derived.Test.YtammoflhfcpomaaA5
import Derived.Test.YtammoflhfcpomaaS1
import Derived.Test.YtammoflhfcpomaaF2
namespace Go.Proofs.Ytammoflhfcpomaa
open Go Go.RowKit
set_option linter.unusedVariables false
set_option linter.unusedSimpArgs false
set_option maxRecDepth 100000

theorem add_ok (w : World) (ev eu : Nat → Ev) (n m g1 h1 g2 h2 gs p : Nat) (hn : n ≤ 50) (hm : m ≤ 50) (hp : p ≤ 64) (hg : gs ≤ 60)
    (hr1 : RowsAt w g1 gs (fun i f => ((cR ev n i f : Nat) : Int))) (hi1 : IntsAt w h1 p (fun q => ((cP ev n q : Nat) : Int))) (hr2 : RowsAt w g2 gs (fun i f => ((cR eu m i f : Nat) : Int))) (hi2 : IntsAt w h2 p (fun q => ((cP eu m q : Nat) : Int))) :
    Calls Try.prog 9 #[.agg (cenCells (fun k => ((cK ev n k : Nat) : Int)) g1 gs h1 p (mostN ev n) (nowN ev n)), .agg (cenCells (fun k => ((cK eu m k : Nat) : Int)) g2 gs h2 p (mostN eu m) (nowN eu m))] w fun e w' => ∃ g h : Nat,
      e = .returned (.tuple #[.agg (cenCells (fun k => ((cK (cat ev eu n) (n + m) k : Nat) : Int)) g gs h p (mostN (cat ev eu n) (n + m)) (nowN (cat ev eu n) (n + m))), .int .i64 0]) ∧ RowsAt w' g gs (fun i f => ((cR (cat ev eu n) (n + m) i f : Nat) : Int)) ∧ IntsAt w' h p (fun q => ((cP (cat ev eu n) (n + m) q : Nat) : Int)) ∧ Below w.heap.size w w' := by
  have bM1 := mostN_bd ev n
  have bN1 := nowN_bd ev n
  have bM2 := mostN_bd eu m
  have bN2 := nowN_bd eu m
  have e1 : (fun k => ((cK (cat ev eu n) (n + m) k : Nat) : Int)) = fun k => ((cK ev n k : Nat) : Int) + ((cK eu m k : Nat) : Int) := by funext k; rw [cK_cat]; exact Int.natCast_add _ _
  have e2 : (fun i f => ((cR (cat ev eu n) (n + m) i f : Nat) : Int)) = fun i f => ((cR ev n i f : Nat) : Int) + ((cR eu m i f : Nat) : Int) := by funext i f; rw [cR_cat]; exact Int.natCast_add _ _
  have e3 : (fun q => ((cP (cat ev eu n) (n + m) q : Nat) : Int)) = fun q => ((cP ev n q : Nat) : Int) + ((cP eu m q : Nat) : Int) := by funext q; rw [cP_cat]; exact Int.natCast_add _ _
  rw [e1, e2, e3, most_cat, now_cat]
  exact add_gen w _ _ _ _ _ _ g1 h1 g2 h2 gs p _ _ _ _ hp hg (fun k => ⟨by omega, by have := cK_le ev n k; omega⟩) (fun k => ⟨by omega, by have := cK_le eu m k; omega⟩) (fun q => ⟨by omega, by have := cP_le ev n q; omega⟩) (fun q => ⟨by omega, by have := cP_le eu m q; omega⟩)
    (fun i f => ⟨by omega, by have := cR_le ev n i f; omega⟩) (fun i f => ⟨by omega, by have := cR_le eu m i f; omega⟩) ⟨by omega, by omega, by omega, by omega⟩ hr1 hi1 hr2 hi2
theorem info40 : ((Try.prog.info? 40).map fun i => (i.zero, i.size, i.bytes)) = some (some (.agg #[.int .i64 0, .int .i64 0, .int .i64 0, .int .i64 0, .int .i64 0]), 5, 40) := by kernel_rfl
/-- A row of events. -/
def EvAt (w : World) (b N : Nat) (ev : Nat → Ev) : Prop :=
  ∃ cs : Array Value, w.heap[b]? = some (.cells cs 40 (0, 0)) ∧ ∀ i, i < N → cs[i * 5]? = some (.int .i64 (ev i).kind) ∧ cs[i * 5 + 1]? = some (.int .i64 (ev i).g) ∧ cs[i * 5 + 2]? = some (.int .i64 (ev i).other) ∧ cs[i * 5 + 3]? = some (.int .i64 (ev i).thread) ∧ cs[i * 5 + 4]? = some (.int .i64 (ev i).proc)
theorem make24 (c : Nat) (hc : c ≤ 100000) : ∃ cs : Array Value, (∀ w : World, EvAt (w.alloc (.cells cs 40)) w.heap.size c (fun _ => ⟨0, 0, 0, 0, 0⟩)) ∧ ∀ w : World, (Instr.makeSlice 24 (.int .i64 c) (.int .i64 c)).run Try.prog w = .ok (.slice (some ⟨w.heap.size, 0, none⟩) c c) (w.alloc (.cells cs 40)) := by
  cases hq : Try.prog.info? 40 with
  | none => have := info40; rw [hq] at this; cases this
  | some i =>
    have h := info40
    rw [hq] at h
    simp only [Option.map_some, Option.some.injEq, Prod.mk.injEq] at h
    refine ⟨madeCells #[.int .i64 0, .int .i64 0, .int .i64 0, .int .i64 0, .int .i64 0] (c * 5), fun w => ⟨_, heap_alloc_new _ _, fun i hi => ?_⟩, fun w => ?_⟩
    · unfold madeCells
      simp only [Array.getElem?_map, Array.getElem?_range]
      rw [if_pos (by omega), if_pos (by omega), if_pos (by omega), if_pos (by omega), if_pos (by omega)]
      simp only [Option.map_some, Option.some.injEq]
      have e0 : i * 5 % 5 = 0 := by omega
      have e1 : (i * 5 + 1) % 5 = 1 := by omega
      have e2 : (i * 5 + 2) % 5 = 2 := by omega
      have e3 : (i * 5 + 3) % 5 = 3 := by omega
      have e4 : (i * 5 + 4) % 5 = 4 := by omega
      refine ⟨?_, ?_, ?_, ?_, ?_⟩
      · show (#[Value.int .i64 0, Value.int .i64 0, Value.int .i64 0, Value.int .i64 0, Value.int .i64 0])[i * 5 % 5]! = _; rw [e0]; rfl
      · show (#[Value.int .i64 0, Value.int .i64 0, Value.int .i64 0, Value.int .i64 0, Value.int .i64 0])[(i * 5 + 1) % 5]! = _; rw [e1]; rfl
      · show (#[Value.int .i64 0, Value.int .i64 0, Value.int .i64 0, Value.int .i64 0, Value.int .i64 0])[(i * 5 + 2) % 5]! = _; rw [e2]; rfl
      · show (#[Value.int .i64 0, Value.int .i64 0, Value.int .i64 0, Value.int .i64 0, Value.int .i64 0])[(i * 5 + 3) % 5]! = _; rw [e3]; rfl
      · show (#[Value.int .i64 0, Value.int .i64 0, Value.int .i64 0, Value.int .i64 0, Value.int .i64 0])[(i * 5 + 4) % 5]! = _; rw [e4]; rfl
    · have := run_make (P := Try.prog) w 24 40 i _ Try.underlying24 hq h.1 .i64 .i64 c c (by omega) (Int.le_refl _) (by rw [h.2.2]; omega) (by omega)
      rw [h.2.1] at this
      simpa [Value.cells] using this
theorem EvAt.c {w : World} {b N : Nat} {ev : Nat → Ev} (h : EvAt w b N ev) (i : Nat) (hi : i < N) : w.cell? ⟨b, i * 5, none⟩ = some (.int .i64 (ev i).kind) ∧ w.cell? ⟨b, i * 5 + 1, none⟩ = some (.int .i64 (ev i).g) ∧ w.cell? ⟨b, i * 5 + 2, none⟩ = some (.int .i64 (ev i).other) ∧ w.cell? ⟨b, i * 5 + 3, none⟩ = some (.int .i64 (ev i).thread) ∧ w.cell? ⟨b, i * 5 + 4, none⟩ = some (.int .i64 (ev i).proc) := by
  obtain ⟨cs, h1, h2⟩ := h
  have := h2 i hi
  exact ⟨by simp only [World.cell?, h1]; exact this.1, by simp only [World.cell?, h1]; exact this.2.1, by simp only [World.cell?, h1]; exact this.2.2.1, by simp only [World.cell?, h1]; exact this.2.2.2.1, by simp only [World.cell?, h1]; exact this.2.2.2.2⟩
theorem EvAt.f {w : World} {b N : Nat} {ev : Nat → Ev} (h : EvAt w b N ev) (o : Nat) : w.frozen? ⟨b, o, none⟩ = false := by obtain ⟨cs, h1, h2⟩ := h; simp [World.frozen?, h1]
theorem EvAt.bel {w w' : World} {b N : Nat} {ev : Nat → Ev} (h : EvAt w b N ev) (hb : Below w.heap.size w w') : EvAt w' b N ev := by
  obtain ⟨cs, h1, h2⟩ := h
  exact ⟨cs, (hb.block b (block_lt h1)).trans h1, h2⟩
theorem EvAt.to {w : World} {b N : Nat} {ev ev' : Nat → Ev} (h : EvAt w b N ev) (e : ∀ i, i < N → ev i = ev' i) : EvAt w b N ev' := by
  obtain ⟨cs, h1, h2⟩ := h
  exact ⟨cs, h1, fun i hi => by rw [← e i hi]; exact h2 i hi⟩
theorem EvAt.sees {w : World} {b N : Nat} {ev : Nat → Ev} (h : EvAt w b N ev) : SeesE w (b + 1) (some ⟨b, 0, none⟩) N ev := fun _ => ⟨b, 0, rfl, by omega, fun i hi => by rw [Nat.zero_add]; exact h.c i hi⟩
theorem EvAt.set {w : World} {b N j : Nat} {ev : Nat → Ev} (h : EvAt w b N ev) (hj : j < N) (e : Ev) :
    EvAt (((((w.setCell ⟨b, j * 5, none⟩ (.int .i64 e.kind)).setCell ⟨b, j * 5 + 1, none⟩ (.int .i64 e.g)).setCell ⟨b, j * 5 + 2, none⟩ (.int .i64 e.other)).setCell ⟨b, j * 5 + 3, none⟩ (.int .i64 e.thread)).setCell ⟨b, j * 5 + 4, none⟩ (.int .i64 e.proc)) b N (fun i => if i = j then e else ev i) := by
  obtain ⟨cs, h1, h2⟩ := h
  have hc := h2 j hj
  have l4 := (Array.getElem?_eq_some_iff.1 hc.2.2.2.2).1
  refine ⟨_, heap_set (heap_set (heap_set (heap_set (heap_set h1 _ _) _ _) _ _) _ _) _ _, fun i hi => ?_⟩
  simp only [Array.getElem?_setIfInBounds, Array.size_setIfInBounds]
  by_cases ei : i = j
  · subst ei
    refine ⟨?_, ?_, ?_, ?_, ?_⟩ <;> (repeat rw [if_neg (by omega)]) <;> (rw [if_pos (by omega), if_pos (by omega)]; simp)
  · have h3 := h2 i hi
    refine ⟨?_, ?_, ?_, ?_, ?_⟩ <;> (repeat rw [if_neg (by omega)])
    · exact h3.1
    · exact h3.2.1
    · exact h3.2.2.1
    · exact h3.2.2.2.1
    · exact h3.2.2.2.2
end Go.Proofs.Ytammoflhfcpomaa
