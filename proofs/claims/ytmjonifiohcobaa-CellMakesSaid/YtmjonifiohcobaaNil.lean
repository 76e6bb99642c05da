/- Of no memory nothing is told; rows of words that the law makes. -/
import Derived.Test.YtmjonifiohcobaaDoes
namespace Go.Proofs.Ytmjonifiohcobaa
open Go Go.RowKit
set_option linter.unusedVariables false
set_option linter.unusedSimpArgs false

theorem load_nil (w : World) (who i : Int) : Calls Try.prog 21 #[.pointer none, .int .i64 who, .int .i64 i] w fun e w' => e = .returned (.int .u64 0) ∧ Below w.heap.size w w' := by
  have hfo := field_old
  have hb : Below w.heap.size w (w.alloc (.cells #[.int .i64 1, .int .i64 who, .int .i64 i, .int .u64 0, .int .u64 0, .bool false] 39)) := (Below.refl _ _).alloc (Nat.le_refl _) _
  go_enter Try.func21, Try.ntmps21
  go_wp2_with fail
  go_at_call 40; refine (access_nil _ 1 who i 0 _).mono ?_; rintro e w1 ⟨rfl, hB⟩
  go_wp2_with fail
  go_ret
  exact ⟨rfl, hb.trans (hB.mono hb.size)⟩
theorem store_nil (w : World) (who i new : Int) : Calls Try.prog 19 #[.pointer none, .int .i64 who, .int .i64 i, .int .u64 new] w fun e w' => (∃ v, e = .returned v) ∧ Below w.heap.size w w' := by
  have hb : Below w.heap.size w (w.alloc (.cells #[.int .i64 2, .int .i64 who, .int .i64 i, .int .u64 0, .int .u64 new, .bool false] 39)) := (Below.refl _ _).alloc (Nat.le_refl _) _
  go_enter Try.func19, Try.ntmps19
  go_wp2_with fail
  go_at_call 40; refine (access_nil _ 2 who i new _).mono ?_; rintro e w1 ⟨rfl, hB⟩
  go_wp2_with fail
  go_end0
  exact ⟨⟨_, rfl⟩, hb.trans (hB.mono hb.size)⟩
theorem swap_nil (w : World) (who i old new : Int) : Calls Try.prog 22 #[.pointer none, .int .i64 who, .int .i64 i, .int .u64 old, .int .u64 new] w fun e w' => e = .returned (.bool false) ∧ Below w.heap.size w w' := by
  have hfd := field_done
  have hb : Below w.heap.size w ((w.alloc (.cells #[.int .u64 old] 32)).alloc (.cells #[.int .i64 3, .int .i64 who, .int .i64 i, .int .u64 0, .int .u64 new, .bool false] 39)) := ((Below.refl _ _).alloc (Nat.le_refl _) _).alloc (by simp) _
  go_enter Try.func22, Try.ntmps22
  go_wp2_with fail
  go_at_call 40; refine (access_nil _ 3 who i new _).mono ?_; rintro e w1 ⟨rfl, hB⟩
  go_wp2_with fail
  go_ret
  exact ⟨rfl, hb.trans (hB.mono hb.size)⟩
theorem add_nil (w : World) (who i new : Int) : Calls Try.prog 23 #[.pointer none, .int .i64 who, .int .i64 i, .int .u64 new] w fun e w' => e = .returned (.int .u64 0) ∧ Below w.heap.size w w' := by
  have hb : Below w.heap.size w (w.alloc (.cells #[.int .i64 4, .int .i64 who, .int .i64 i, .int .u64 0, .int .u64 new, .bool false] 39)) := (Below.refl _ _).alloc (Nat.le_refl _) _
  have h0 : (w.alloc (.cells #[.int .i64 4, .int .i64 who, .int .i64 i, .int .u64 0, .int .u64 new, .bool false] 39)).heap[w.heap.size]? = some (.cells (accL 4 who i 0 new false).toArray 39 (0, 0)) := heap_alloc_new _ _
  have H0 : Hid _ := h0
  clear h0
  go_enter Try.func23, Try.ntmps23
  go_wp2_with fail
  go_at_call 40; refine (access_nil _ 4 who i new _).mono ?_; rintro e w1 ⟨rfl, hB⟩
  have h1 : w1.heap[w.heap.size]? = some (.cells (accL 4 who i 0 new false).toArray 39 (0, 0)) := (hB.block _ (by simp)).trans H0.out
  have hT : w1.there w.heap.size 0 (accL 0 0 0 0 0 false).toArray.size := by
    intro j hj
    have hj' : j < 6 := hj
    refine ⟨?_, by simp [World.frozen?, h1]⟩
    simp [World.cell?, h1, accL]
    omega
  have hA : AccAt (w1.setCells w.heap.size 0 (accL 0 0 0 0 0 false).toArray.toList) w.heap.size 0 0 0 0 0 false := by
    refine ⟨?_⟩
    simp only [accL, World.setCells]
    exact heap_set (heap_set (heap_set (heap_set (heap_set (heap_set h1 _ _) _ _) _ _) _ _) _ _) _ _
  have hBB : Below w.heap.size w (w1.setCells w.heap.size 0 (accL 0 0 0 0 0 false).toArray.toList) :=
    (But.sets (l := [w.heap.size]) (Or.inl (by simp)) _ _ (But.of_below (hb.trans (hB.mono hb.size)))).below (by simp) (Nat.le_refl _)
  have HT : Hid _ := hT
  have HB : Hid _ := hBB
  have a4 := hA.cells.2.2.2.2.1
  have a5 := hA.cells.2.2.2.2.2
  generalize hY : w1.setCells w.heap.size 0 (accL 0 0 0 0 0 false).toArray.toList = Y at HB a4 a5
  clear hA hT hBB hB H0 hb h1
  go_wp2_with (refine wpList_store_mid rfl 39 _ _ rfl w.heap.size 0 (accL 0 0 0 0 0 false).toArray rfl rfl HT.out (by kernel_rfl) (accL_one _ _ _ _ _ _) ?_; rw [hY]; clear HT hY)
  go_ret
  exact ⟨rfl, HB.out⟩

/-- Block g is a row of n words, of which the first k are f's. -/
def Row (w : World) (g n k : Nat) (f : Nat → Int) : Prop := ∃ cur : Array Value, w.heap[g]? = some (.cells cur 32 (0, 0)) ∧ cur.size = n ∧ ∀ i, i < k → cur[i]? = some (.int .u64 (f i))
theorem Row.lt {w : World} {g n k : Nat} {f : Nat → Int} (h : Row w g n k f) : g < w.heap.size := by obtain ⟨cur, hh, _⟩ := h; exact block_lt hh
theorem Row.frozen {w : World} {g n k : Nat} {f : Nat → Int} (h : Row w g n k f) (i : Nat) : w.frozen? ⟨g, i, none⟩ = false := by obtain ⟨cur, hh, _⟩ := h; simp [World.frozen?, hh]
theorem Row.there {w : World} {g n k : Nat} {f : Nat → Int} (h : Row w g n k f) (i : Nat) (hi : i < n) : ∃ v, w.cell? ⟨g, i, none⟩ = some v := by
  obtain ⟨cur, hh, hs, _⟩ := h
  exact ⟨cur[i]'(by omega), by simp [World.cell?, hh, hs, hi]⟩
theorem Row.cell {w : World} {g n k : Nat} {f : Nat → Int} (h : Row w g n k f) (i : Nat) (hi : i < k) : w.cell? ⟨g, i, none⟩ = some (.int .u64 (f i)) := by
  obtain ⟨cur, hh, hs, hc⟩ := h
  simp [World.cell?, hh, hc i hi]
theorem Row.set {w : World} {g n k : Nat} {f : Nat → Int} (h : Row w g n k f) (hk : k < n) : Row (w.setCell ⟨g, k, none⟩ (.int .u64 (f k))) g n (k + 1) f := by
  obtain ⟨cur, hh, hs, hc⟩ := h
  refine ⟨_, heap_set hh k _, by simpa using hs, fun i hi => ?_⟩
  by_cases e : i = k
  · subst e; simp [hs, hk]
  · rw [Array.getElem?_setIfInBounds_ne (by omega)]; exact hc i (by omega)
theorem Row.wipe {w : World} {g n k : Nat} {f : Nat → Int} (h : Row w g n k f) (j : Nat) (u : Value) : Row (w.setCell ⟨g, j, none⟩ u) g n 0 f := by
  obtain ⟨cur, hh, hs, hc⟩ := h
  exact ⟨_, heap_set hh j _, by simpa using hs, fun i hi => absurd hi (Nat.not_lt_zero i)⟩
theorem Row.none_ {w : World} {g n k : Nat} {f : Nat → Int} (h : Row w g n k f) : Row w g n 0 f := by
  obtain ⟨cur, hh, hs, hc⟩ := h
  exact ⟨cur, hh, hs, fun i hi => absurd hi (Nat.not_lt_zero i)⟩
theorem Row.below {w w' : World} {g n k B : Nat} {f : Nat → Int} (h : Row w g n k f) (hb : Below B w w') (hg : g < B) : Row w' g n k f := by
  obtain ⟨cur, hh, hs, hc⟩ := h
  exact ⟨cur, (hb.block g hg).trans hh, hs, hc⟩
theorem Row.sees {w : World} {g n : Nat} {f : Nat → Int} (h : Row w g n n f) : SeesU w w.heap.size (some ⟨g, 0, none⟩) n f := fun _ => ⟨g, 0, rfl, h.lt, fun i hi => by rw [Nat.zero_add]; exact h.cell i hi⟩

/-- make([]uint64, n). -/
def zs (n : Nat) : Array Value := madeCells #[Value.int .u64 0] n
theorem make_run (n : Nat) (hn : n ≤ 1000000) (w : World) : (Instr.makeSlice 22 (.int .i64 n) (.int .i64 n)).run Try.prog w = .ok (.slice (some ⟨w.heap.size, 0, none⟩) n n) (w.alloc (.cells (zs n) 32)) := by
  obtain ⟨i0, hi, hz0, hz1, hz2⟩ := info_parts info32
  have := run_make (P := Try.prog) w 22 32 i0 (.int .u64 0) Try.underlying22 hi hz0 .i64 .i64 n n (by omega) (Int.le_refl _) (by rw [hz2]; omega) (by omega)
  rw [hz1] at this
  simpa [zs, Value.cells] using this
theorem zs_row (n : Nat) (w : World) : Row (w.alloc (.cells (zs n) 32)) w.heap.size n n (fun _ => 0) := by
  refine ⟨zs n, heap_alloc_new _ _, size_madeCells _ _, fun i hi => ?_⟩
  have h := made_zero n
  have h2 : (zs n).toList[i]? = (wordCells (fun _ => 0) n)[i]? := by unfold zs; rw [h]
  rw [wordCells_at _ n i hi] at h2
  simpa using h2
end Go.Proofs.Ytmjonifiohcobaa
