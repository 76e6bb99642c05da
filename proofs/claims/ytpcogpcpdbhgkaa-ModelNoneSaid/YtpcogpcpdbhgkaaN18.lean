/- The law ModelNone, walked. -/
import Derived.Test.YtpcogpcpdbhgkaaN15
import Derived.Test.YtpcogpcpdbhgkaaN16
import Derived.Test.YtpcogpcpdbhgkaaN17
namespace Go.Proofs.Ytpcogpcpdbhgkaa
open Go Go.RowKit
set_option linter.unusedVariables false
set_option linter.unusedSimpArgs false

theorem Made.below {w w' : World} {lo : Nat} {s : Value} {G : Nat} {cs : Array Value} {x gb tb qb : Nat} (h : Made w lo s G cs x gb tb qb) (hb : Below w.heap.size w w') : Made w' lo s G cs x gb tb qb :=
  ⟨(hb.block _ (block_lt h.hx)).trans h.hx, (hb.block _ (block_lt h.hg)).trans h.hg, (hb.block _ (block_lt h.ht)).trans h.ht, (hb.block _ (block_lt h.hq)).trans h.hq, h.ne, h.lo⟩
/-- the law's own boxes: its config, its event -/
structure Bx (w : World) (r : Nat) (p t g a0 a1 a2 a3 a4 : Int) : Prop where
  c : w.heap[r]? = some (.cells #[.int .i64 p, .int .i64 t, .int .i64 g] 23 (0, 0))
  e : w.heap[r + 1]? = some (.cells #[.int .i64 a0, .int .i64 a1, .int .i64 a2, .int .i64 a3, .int .i64 a4] 25 (0, 0))
theorem Bx.below {w w' : World} {r : Nat} {p t g a0 a1 a2 a3 a4 : Int} (h : Bx w r p t g a0 a1 a2 a3 a4) (hb : Below w.heap.size w w') : Bx w' r p t g a0 a1 a2 a3 a4 := ⟨(hb.block _ (block_lt h.c)).trans h.c, (hb.block _ (block_lt h.e)).trans h.e⟩
theorem Bx.cells {w : World} {r : Nat} {p t g a0 a1 a2 a3 a4 : Int} (h : Bx w r p t g a0 a1 a2 a3 a4) : (w.cell? ⟨r, 0, none⟩ = some (.int .i64 p) ∧ w.cell? ⟨r, 1, none⟩ = some (.int .i64 t) ∧ w.cell? ⟨r, 2, none⟩ = some (.int .i64 g)) ∧
    (w.cell? ⟨r + 1, 0, none⟩ = some (.int .i64 a0) ∧ w.cell? ⟨r + 1, 1, none⟩ = some (.int .i64 a1) ∧ w.cell? ⟨r + 1, 2, none⟩ = some (.int .i64 a2) ∧ w.cell? ⟨r + 1, 3, none⟩ = some (.int .i64 a3) ∧ w.cell? ⟨r + 1, 4, none⟩ = some (.int .i64 a4)) :=
  ⟨⟨cell_of h.c 0, cell_of h.c 1, cell_of h.c 2⟩, five h.e⟩
theorem Bx.new (w : World) (p t g a0 a1 a2 a3 a4 : Int) : Bx ((w.alloc (.cells #[.int .i64 p, .int .i64 t, .int .i64 g] 23)).alloc (.cells #[.int .i64 a0, .int .i64 a1, .int .i64 a2, .int .i64 a3, .int .i64 a4] 25)) w.heap.size p t g a0 a1 a2 a3 a4 := by
  have s1 : (w.alloc (.cells #[.int .i64 p, .int .i64 t, .int .i64 g] 23)).heap.size = w.heap.size + 1 := by simp
  have h1 := heap_alloc_new w (.cells #[.int .i64 p, .int .i64 t, .int .i64 g] 23)
  have h2 := heap_alloc_new (w.alloc (.cells #[.int .i64 p, .int .i64 t, .int .i64 g] 23)) (.cells #[.int .i64 a0, .int .i64 a1, .int .i64 a2, .int .i64 a3, .int .i64 a4] 25)
  rw [s1] at h2
  have b2 : Below (w.heap.size + 1) (w.alloc (.cells #[.int .i64 p, .int .i64 t, .int .i64 g] 23)) _ := (Below.refl _ _).alloc (by omega) (.cells #[.int .i64 a0, .int .i64 a1, .int .i64 a2, .int .i64 a3, .int .i64 a4] 25)
  exact ⟨(b2.block _ (by omega)).trans h1, h2⟩

theorem law_many (p t g a0 a1 a2 a3 a4 : Int) (hg : 300 < g ∧ g ≤ 65536) (w : World) : Calls Try.prog 3 #[.agg #[.int .i64 p, .int .i64 t, .int .i64 g], .agg #[.int .i64 a0, .int .i64 a1, .int .i64 a2, .int .i64 a3, .int .i64 a4]] w fun e w' => e = .returned (.bool true) ∧ Below w.heap.size w w' := by
  have B0 : Below w.heap.size w ((w.alloc (.cells #[.int .i64 p, .int .i64 t, .int .i64 g] 23)).alloc (.cells #[.int .i64 a0, .int .i64 a1, .int .i64 a2, .int .i64 a3, .int .i64 a4] 25)) := ((Below.refl _ w).alloc (Nat.le_refl _) _).alloc (by simp) _
  have X0 := Bx.new w p t g a0 a1 a2 a3 a4
  have hg1 := hg.1
  have hg2 := hg.2
  clear X0
  go_enter Try.func3, Try.ntmps3
  go_wp2_with fail
  go_at_call 4
  refine (awake_any _).mono ?_
  rintro e w1 ⟨rfl, hb1⟩
  go_wp2
  go_ret
  exact ⟨rfl, B0.trans (hb1.mono B0.size)⟩

end Go.Proofs.Ytpcogpcpdbhgkaa
