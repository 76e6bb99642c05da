/- Rows of words that a law makes; two memories side by side. -/
import Derived.Test.YthjfbknmdligeaaGreatAlike
namespace Go.Proofs.YthjfbknmdligeaaGreat
open Go Go.RowKit
set_option linter.unusedVariables false
set_option maxRecDepth 100000
set_option linter.unusedSimpArgs false

/-- A slice of n acts, seen in memory below block B. -/
def SeesA (w : World) (B : Nat) (E : Option Addr) (n : Nat) (k p i o v : Nat → Int) : Prop :=
  0 < n → ∃ b off : Nat, E = some ⟨b, off, none⟩ ∧ b < B ∧ ∀ j, j < n → w.cell? ⟨b, off + j * 5, none⟩ = some (.int .i64 (k j)) ∧ w.cell? ⟨b, off + j * 5 + 1, none⟩ = some (.int .i64 (p j)) ∧ w.cell? ⟨b, off + j * 5 + 2, none⟩ = some (.int .i64 (i j)) ∧ w.cell? ⟨b, off + j * 5 + 3, none⟩ = some (.int .u64 (o j)) ∧ w.cell? ⟨b, off + j * 5 + 4, none⟩ = some (.int .u64 (v j))

theorem two_start {w1 w2 : World} {A A' : Option Addr} {cap cap' c b c' b' n : Nat} {s : St} (hm : Is w1 114 A cap c b n s) (hbc : b ≤ c) (hr : Is w2 64 A' cap' c' b' n s) (hb : Below w1.heap.size w1 w2) (h1 : w1.heap.size ≤ b') (h2 : w1.heap.size ≤ c') : Two w2 A A' cap cap' c b c' b' n s := by
  have := hm.lt
  have := hm.bl
  exact ⟨hm.below hb, hr, by omega, by omega, by omega, by omega⟩
theorem low_fresh (f : Nat → Int) : Low (fresh f) 0 := ⟨⟨Int.le_refl _, Int.le_refl _⟩, Int.le_refl _, Int.le_refl _⟩
theorem Low.more {s : St} {m m' : Int} (h : Low s m) (hm : m ≤ m') : Low s m' := by
  obtain ⟨⟨h1, h2⟩, h3, h4⟩ := h
  exact ⟨⟨h1, by omega⟩, h3, by omega⟩

/-- Block g is a row of n words, of which the first k are f's. -/
def Row (w : World) (g n k : Nat) (f : Nat → Int) : Prop := ∃ cur : Array Value, w.heap[g]? = some (.cells cur 41 (0, 0)) ∧ cur.size = n ∧ ∀ i, i < k → cur[i]? = some (.int .u64 (f i))
theorem Row.lt {w : World} {g n k : Nat} {f : Nat → Int} (h : Row w g n k f) : g < w.heap.size := by obtain ⟨cur, hh, _⟩ := h; exact block_lt hh
theorem Row.frozen {w : World} {g n k : Nat} {f : Nat → Int} (h : Row w g n k f) (i : Nat) : w.frozen? ⟨g, i, none⟩ = false := by obtain ⟨cur, hh, _⟩ := h; simp [World.frozen?, hh]
theorem Row.there {w : World} {g n k : Nat} {f : Nat → Int} (h : Row w g n k f) (i : Nat) (hi : i < n) : ∃ v, w.cell? ⟨g, i, none⟩ = some v := by
  obtain ⟨cur, hh, hs, _⟩ := h
  exact ⟨cur[i]'(by omega), by simp [World.cell?, hh, hs, hi]⟩
theorem Row.cell {w : World} {g n k : Nat} {f : Nat → Int} (h : Row w g n k f) (i : Nat) (hi : i < k) : w.cell? ⟨g, i, none⟩ = some (.int .u64 (f i)) := by
  obtain ⟨cur, hh, hs, hc⟩ := h
  simp [World.cell?, hh, hc i hi]
theorem Row.set {w : World} {g n k : Nat} {f : Nat → Int} (h : Row w g n k f) (hk : k < n) : Row (w.setCell ⟨g, k, none⟩ (.int .u64 (f k))) g n (k + 1) f := by
  obtain ⟨cur, hh, hs, hc⟩ := h
  refine ⟨_, heap_set hh k _, by simpa using hs, fun i hi => ?_⟩
  by_cases e : i = k
  · subst e; simp [hs, hk]
  · rw [Array.getElem?_setIfInBounds_ne (by omega)]; exact hc i (by omega)
theorem Row.wipe {w : World} {g n k : Nat} {f : Nat → Int} (h : Row w g n k f) (j : Nat) (u : Value) : Row (w.setCell ⟨g, j, none⟩ u) g n 0 f := by
  obtain ⟨cur, hh, hs, hc⟩ := h
  exact ⟨_, heap_set hh j _, by simpa using hs, fun i hi => absurd hi (Nat.not_lt_zero i)⟩
theorem Row.none_ {w : World} {g n k : Nat} {f : Nat → Int} (h : Row w g n k f) : Row w g n 0 f := by
  obtain ⟨cur, hh, hs, hc⟩ := h
  exact ⟨cur, hh, hs, fun i hi => absurd hi (Nat.not_lt_zero i)⟩
theorem Row.below {w w' : World} {g n k B : Nat} {f : Nat → Int} (h : Row w g n k f) (hb : Below B w w') (hg : g < B) : Row w' g n k f := by
  obtain ⟨cur, hh, hs, hc⟩ := h
  exact ⟨cur, (hb.block g hg).trans hh, hs, hc⟩
theorem Row.sees {w : World} {g n : Nat} {f : Nat → Int} (h : Row w g n n f) : SeesU w w.heap.size (some ⟨g, 0, none⟩) n f := fun _ => ⟨g, 0, rfl, h.lt, fun i hi => by rw [Nat.zero_add]; exact h.cell i hi⟩

/-- make([]uint64, n). -/
def zs (n : Nat) : Array Value := madeCells #[Value.int .u64 0] n
theorem make_run (n : Nat) (hn : n ≤ 1000000) (w : World) : (Instr.makeSlice 37 (.int .i64 n) (.int .i64 n)).run Tryz.prog w = .ok (.slice (some ⟨w.heap.size, 0, none⟩) n n) (w.alloc (.cells (zs n) 41)) := by
  obtain ⟨i0, hi, hz0, hz1, hz2⟩ := info_parts info41
  have := run_make (P := Tryz.prog) w 37 41 i0 (.int .u64 0) Tryz.underlying37 hi hz0 .i64 .i64 n n (by omega) (Int.le_refl _) (by rw [hz2]; omega) (by omega)
  rw [hz1] at this
  simpa [zs, Value.cells] using this
theorem zs_row (n : Nat) (w : World) : Row (w.alloc (.cells (zs n) 41)) w.heap.size n n (fun _ => 0) := by
  refine ⟨zs n, heap_alloc_new _ _, size_madeCells _ _, fun i hi => ?_⟩
  have h := made_zero n
  have h2 : (zs n).toList[i]? = (wordCells (fun _ => 0) n)[i]? := by unfold zs; rw [h]
  rw [wordCells_at _ n i hi] at h2
  simpa using h2
end Go.Proofs.YthjfbknmdligeaaGreat
