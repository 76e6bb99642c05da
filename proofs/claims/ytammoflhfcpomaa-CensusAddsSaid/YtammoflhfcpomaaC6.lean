/- A census of events. -/
import Derived.Test.YtammoflhfcpomaaC5
import Derived.Laws.MakeOwn
import Derived.Laws.ResultCell
import Derived.Laws.Tables
import Derived.Laws.Rows
namespace Go.Proofs.Ytammoflhfcpomaa
open Go Go.RowKit
set_option linter.unusedVariables false
set_option linter.unusedSimpArgs false
set_option maxRecDepth 100000

theorem info46 : ((Try.prog.info? 46).map fun i => (i.zero, i.size, i.bytes)) = some (some (.agg #[.int .i64 0, .int .i64 0, .int .i64 0]), 3, 24) := by kernel_rfl
theorem info3 : ((Try.prog.info? 3).map fun i => (i.zero, i.size, i.bytes)) = some (some (.int .i64 0), 1, 8) := by kernel_rfl
theorem make27 (c : Nat) (hc : c ≤ 100000) : ∃ cs : Array Value, (∀ i, i < c → cs[i * 3]? = some (.int .i64 0) ∧ cs[i * 3 + 1]? = some (.int .i64 0) ∧ cs[i * 3 + 2]? = some (.int .i64 0)) ∧ ∀ w : World, (Instr.makeSlice 27 (.int .i64 c) (.int .i64 c)).run Try.prog w = .ok (.slice (some ⟨w.heap.size, 0, none⟩) c c) (w.alloc (.cells cs 46)) := by
  cases hq : Try.prog.info? 46 with
  | none => have := info46; rw [hq] at this; cases this
  | some i =>
    have h := info46
    rw [hq] at h
    simp only [Option.map_some, Option.some.injEq, Prod.mk.injEq] at h
    refine ⟨madeCells #[.int .i64 0, .int .i64 0, .int .i64 0] (c * 3), fun i hi => ?_, fun w => ?_⟩
    · unfold madeCells
      simp only [Array.getElem?_map, Array.getElem?_range]
      rw [if_pos (by omega), if_pos (by omega), if_pos (by omega)]
      simp only [Option.map_some, Option.some.injEq]
      have e0 : i * 3 % 3 = 0 := by omega
      have e1 : (i * 3 + 1) % 3 = 1 := by omega
      have e2 : (i * 3 + 2) % 3 = 2 := by omega
      refine ⟨?_, ?_, ?_⟩
      · show (#[Value.int .i64 0, Value.int .i64 0, Value.int .i64 0])[i * 3 % 3]! = _; rw [e0]; rfl
      · show (#[Value.int .i64 0, Value.int .i64 0, Value.int .i64 0])[(i * 3 + 1) % 3]! = _; rw [e1]; rfl
      · show (#[Value.int .i64 0, Value.int .i64 0, Value.int .i64 0])[(i * 3 + 2) % 3]! = _; rw [e2]; rfl
    · have := run_make (P := Try.prog) w 27 46 i _ Try.underlying27 hq h.1 .i64 .i64 c c (by omega) (Int.le_refl _) (by rw [h.2.2]; omega) (by omega)
      rw [h.2.1] at this
      simpa [Value.cells] using this
theorem make28 (c : Nat) (hc : c ≤ 100000) : ∃ cs : Array Value, (∀ i, i < c → cs[i]? = some (.int .i64 0)) ∧ ∀ w : World, (Instr.makeSlice 28 (.int .i64 c) (.int .i64 c)).run Try.prog w = .ok (.slice (some ⟨w.heap.size, 0, none⟩) c c) (w.alloc (.cells cs 3)) := by
  cases hq : Try.prog.info? 3 with
  | none => have := info3; rw [hq] at this; cases this
  | some i =>
    have h := info3
    rw [hq] at h
    simp only [Option.map_some, Option.some.injEq, Prod.mk.injEq] at h
    refine ⟨madeCells #[.int .i64 0] (c * 1), fun i hi => ?_, fun w => ?_⟩
    · unfold madeCells
      simp only [Array.getElem?_map, Array.getElem?_range]
      rw [if_pos (by omega)]
      simp only [Option.map_some, Option.some.injEq]
      show (#[Value.int .i64 0])[i % 1]! = _
      rw [Nat.mod_one]; rfl
    · have := run_make (P := Try.prog) w 28 3 i _ Try.underlying28 hq h.1 .i64 .i64 c c (by omega) (Int.le_refl _) (by rw [h.2.2]; omega) (by omega)
      rw [h.2.1] at this
      simpa [Value.cells] using this
/-- The cells of a census of nothing. -/
def zero16 : Array Value := #[.int .i64 0, .int .i64 0, .int .i64 0, .int .i64 0, .int .i64 0, .int .i64 0, .int .i64 0, .int .i64 0, .int .i64 0, .int .i64 0, .int .i64 0, .int .i64 0, .slice none 0 0, .slice none 0 0, .int .i64 0, .int .i64 0]
/-- j events are counted. -/
structure OfI (w wr : World) (x g h gs p : Nat) (ev : Nat → Ev) (j : Nat) : Prop where
  cen : Cen wr x g h gs p (fun k => ((cK ev j k : Nat) : Int)) (fun i f => ((cR ev j i f : Nat) : Int)) (fun q => ((cP ev j q : Nat) : Int)) (mostN ev j) (nowN ev j)
  bel : Below w.heap.size w wr
  res : wr.heap[w.heap.size + 1]? = some (.cells zero16 30 (0, 0))
  lo : w.heap.size + 1 < x ∧ w.heap.size + 1 < g ∧ w.heap.size + 1 < h
theorem upK_cK (ev : Nat → Ev) (j : Nat) : upK (fun k => ((cK ev j k : Nat) : Int)) (ev j).kind = fun k => ((cK ev (j + 1) k : Nat) : Int) := by
  funext k
  show ((cK ev j k : Nat) : Int) + (if kn (ev j).kind = k then 1 else 0) = ((cK ev j k + (if kn (ev j).kind = k then 1 else 0) : Nat) : Int)
  split <;> simp
theorem upR_cR (ev : Nat → Ev) (j : Nat) : upR (fun i f => ((cR ev j i f : Nat) : Int)) (ev j) = fun i f => ((cR ev (j + 1) i f : Nat) : Int) := by
  funext i f
  show ((cR ev j i f : Nat) : Int) + (if hit (ev j) i f = true then 1 else 0) = ((cR ev j i f + (if hit (ev j) i f = true then 1 else 0) : Nat) : Int)
  split <;> simp
theorem upQ_cP (ev : Nat → Ev) (j : Nat) : upQ (fun q => ((cP ev j q : Nat) : Int)) (ev j) = fun q => ((cP ev (j + 1) q : Nat) : Int) := by
  funext q
  show ((cP ev j q : Nat) : Int) + (if runs (ev j) q = true then 1 else 0) = ((cP ev j q + (if runs (ev j) q = true then 1 else 0) : Nat) : Int)
  split <;> simp
theorem size_al (w : World) (o : Obj) : (w.alloc o).heap.size = w.heap.size + 1 := by
  show (w.heap.push o).size = _
  simp
theorem OfI.step {w wr w' : World} {x g h gs p : Nat} {ev : Nat → Ev} {j : Nat} (H : OfI w wr x g h gs p ev j) (o : Obj) {e : Ending}
    (hc : Cnt (wr.alloc o) x g h gs p (ev j) (fun k => ((cK ev j k : Nat) : Int)) (fun i f => ((cR ev j i f : Nat) : Int)) (fun q => ((cP ev j q : Nat) : Int)) (mostN ev j) (nowN ev j) e w') : OfI w w' x g h gs p ev (j + 1) := by
  obtain ⟨_, c, b⟩ := hc
  have lo := H.lo
  have hs := H.bel.size
  have hr := block_lt H.res
  refine ⟨?_, ?_, ?_, lo⟩
  · rw [upK_cK, upR_cR, upQ_cP] at c; exact c
  · exact (H.bel.alloc hs o).trans (b.below (by intro k hk; simp only [List.mem_cons, List.not_mem_nil, or_false] at hk; omega) (by rw [size_al]; omega))
  · exact (b.block _ (by rw [size_al]; omega) (by simp only [List.mem_cons, List.not_mem_nil, or_false]; omega)).trans ((heap_al wr hr o).trans H.res)
theorem OfI.start {w V : World} {x g h gs p : Nat} {ev : Nat → Ev} {cg cs : Array Value} (HG : Hid (∀ i, i < gs → cg[i * 3]? = some (.int .i64 0) ∧ cg[i * 3 + 1]? = some (.int .i64 0) ∧ cg[i * 3 + 2]? = some (.int .i64 0))) (HH : Hid (∀ i, i < p → cs[i]? = some (.int .i64 0)))
    (hb : Below w.heap.size w V) (hr : V.heap[w.heap.size + 1]? = some (.cells zero16 30 (0, 0))) (hx : V.heap[x]? = some (.cells (cenCells (fun _ => 0) g gs h p 0 0) 30 (0, 0))) (hg : V.heap[g]? = some (.cells cg 46 (0, 0))) (hh : V.heap[h]? = some (.cells cs 3 (0, 0))) (hn : x ≠ g ∧ x ≠ h ∧ g ≠ h) (lo : w.heap.size + 1 < x ∧ w.heap.size + 1 < g ∧ w.heap.size + 1 < h) : OfI w V x g h gs p ev 0 := by
  refine ⟨⟨hx, ⟨cg, hg, fun i hi => HG.out i hi⟩, ⟨cs, hh, fun i hi => HH.out i hi⟩, hn⟩, hb, hr, lo⟩
theorem row_but (w : World) (g : Nat) (cs : Array Value) : But [g] w (w.setRow g cs) := by
  refine ⟨rfl, rfl, rfl, ?_, fun k hk hn => ?_⟩
  · unfold World.setRow; simp
  · have hne : g ≠ k := fun e => hn (by simp [e])
    unfold World.setRow
    simp [Array.getElem?_modify, hne]
theorem res_pair {fn : Func} {q u : Tmp} {ty : TypeId} (h : fn.results = #[.cell q ty, .tmp u]) (tmps : Array Value) (w : World) (g : Nat) (v z : Value)
    (hp : tmps.getD q undef = .pointer (some ⟨g, 0, none⟩)) (hv : tmps.getD u undef = v) (hl : (loadVar ty ⟨g, 0, none⟩).run Try.prog w = .ok z w) :
    (results fn tmps).run Try.prog w = .ok (.tuple #[z, v]) w := by
  rw [results_cell_tmp h, hp]
  have e1 : (asAddr (.pointer (some ⟨g, 0, none⟩))).run Try.prog w = .ok ⟨g, 0, none⟩ w := by simp [asAddr]
  rw [e1, Result.andThen_ok, hl, Result.andThen_ok, hv]
theorem cen_one (K : Nat → Int) (g gs h ps : Nat) (most now : Int) : (cenCells K g gs h ps most now).all (·.oneCell') = true := by
  simp [cenCells, Value.oneCell']
theorem info30 : (Try.prog.info? 30).map (·.size) = some 16 := by kernel_rfl
theorem five {Q : World → Prop} (w : World) (A B o1 o2 o3 : Obj) (h : ∀ V : World, Below w.heap.size w V → V.heap[w.heap.size + 1]? = some B → V.heap[w.heap.size + 1 + 1]? = some o1 → V.heap[w.heap.size + 1 + 1 + 1]? = some o2 → V.heap[w.heap.size + 1 + 1 + 1 + 1]? = some o3 → Q V) :
    Q (((((w.alloc A).alloc B).alloc o1).alloc o2).alloc o3).drew := by
  have s1 := size_al w A
  have s2 := size_al (w.alloc A) B
  have s3 := size_al ((w.alloc A).alloc B) o1
  have s4 := size_al (((w.alloc A).alloc B).alloc o1) o2
  have n1 := heap_alloc_new (w.alloc A) B
  have n2 := heap_alloc_new ((w.alloc A).alloc B) o1
  have n3 := heap_alloc_new (((w.alloc A).alloc B).alloc o1) o2
  have n4 := heap_alloc_new ((((w.alloc A).alloc B).alloc o1).alloc o2) o3
  have b1 := (((((Below.refl w.heap.size w).alloc (Nat.le_refl _) A).alloc (by omega) B).alloc (by omega) o1).alloc (by omega) o2).alloc (by omega) o3
  rw [s1] at s2 n1
  rw [s2] at s3 n2
  rw [s3] at s4 n3
  rw [s4] at n4
  refine h _ b1.drew ?_ ?_ ?_ n4
  · exact (heap_al _ (by omega) o3).trans ((heap_al _ (by omega) o2).trans ((heap_al _ (by omega) o1).trans n1))
  · exact (heap_al _ (by omega) o3).trans ((heap_al _ (by omega) o2).trans n2)
  · exact (heap_al _ (by omega) o3).trans n3
end Go.Proofs.Ytammoflhfcpomaa
