/- model.New of a config that may be. -/
import Derived.Test.YtpcogpcpdbhgkaaN3
import Derived.Carry
namespace Go.Proofs.Ytpcogpcpdbhgkaa
open Go Go.RowKit
set_option linter.unusedVariables false
set_option linter.unusedSimpArgs false

theorem info52 : ((Try.prog.info? 52).map fun i => (i.zero, i.size, i.bytes)) = some (some (.agg #[.int .i64 0, .int .i64 0, .int .i64 0]), 3, 24) := by kernel_rfl
theorem make47 (c : Nat) (hc : c ≤ 100000) : ∃ cs : Array Value, (cs.size = c * 3 ∧ ∀ i, i < c → cs[i * 3]? = some (.int .i64 0) ∧ cs[i * 3 + 1]? = some (.int .i64 0) ∧ cs[i * 3 + 2]? = some (.int .i64 0)) ∧ ∀ w : World, (Instr.makeSlice 47 (.int .i64 c) (.int .i64 c)).run Try.prog w = .ok (.slice (some ⟨w.heap.size, 0, none⟩) c c) (w.alloc (.cells cs 52)) := by
  cases hq : Try.prog.info? 52 with
  | none => have := info52; rw [hq] at this; cases this
  | some i =>
    have h := info52
    rw [hq] at h
    simp only [Option.map_some, Option.some.injEq, Prod.mk.injEq] at h
    refine ⟨madeCells #[.int .i64 0, .int .i64 0, .int .i64 0] (c * 3), ⟨by simp [madeCells], fun i hi => ?_⟩, fun w => ?_⟩
    · unfold madeCells
      simp only [Array.getElem?_map, Array.getElem?_range]
      rw [if_pos (by omega), if_pos (by omega), if_pos (by omega)]
      simp only [Option.map_some, Option.some.injEq]
      have e0 : i * 3 % 3 = 0 := by omega
      have e1 : (i * 3 + 1) % 3 = 1 := by omega
      have e2 : (i * 3 + 2) % 3 = 2 := by omega
      refine ⟨?_, ?_, ?_⟩
      · show (#[Value.int .i64 0, Value.int .i64 0, Value.int .i64 0])[i * 3 % 3]! = _; rw [e0]; rfl
      · show (#[Value.int .i64 0, Value.int .i64 0, Value.int .i64 0])[(i * 3 + 1) % 3]! = _; rw [e1]; rfl
      · show (#[Value.int .i64 0, Value.int .i64 0, Value.int .i64 0])[(i * 3 + 2) % 3]! = _; rw [e2]; rfl
    · have := run_make (P := Try.prog) w 47 52 i _ Try.underlying47 hq h.1 .i64 .i64 c c (by omega) (Int.le_refl _) (by rw [h.2.2]; omega) (by omega)
      rw [h.2.1] at this
      simpa [Value.cells] using this

/-- a model that is new: its own block, its goroutines, its two maps -/
structure Made (w : World) (lo : Nat) (s : Value) (G : Nat) (cs : Array Value) (x gb tb qb : Nat) : Prop where
  hx : w.heap[x]? = some (.cells #[s, .slice (some ⟨gb, 0, none⟩) G G, .map (some tb), .map (some qb)] 50 (0, 0))
  hg : w.heap[gb]? = some (.cells cs 52 (0, 0))
  ht : w.heap[tb]? = some (.map #[] 0)
  hq : w.heap[qb]? = some (.map #[] 0)
  ne : x ≠ gb ∧ x ≠ tb ∧ x ≠ qb ∧ gb ≠ tb ∧ gb ≠ qb ∧ tb ≠ qb
  lo : lo ≤ x ∧ lo ≤ gb ∧ lo ≤ tb ∧ lo ≤ qb
theorem cell_of {V : World} {b : Nat} {cs : Array Value} {t : TypeId} (h : V.heap[b]? = some (.cells cs t (0, 0))) (j : Nat) : V.cell? ⟨b, j, none⟩ = cs[j]? := by simp [World.cell?, h]
theorem frozen_of {V : World} {b : Nat} {cs : Array Value} {t : TypeId} (h : V.heap[b]? = some (.cells cs t (0, 0))) (j : Nat) : V.frozen? ⟨b, j, none⟩ = false := by simp [World.frozen?, h]
theorem four {Q : World → Prop} (W : World) (n : Nat) (hn : W.heap.size = n) (A B C D : Obj) (h : ∀ V : World, Below n W V → V.heap[n]? = some A → V.heap[n + 1]? = some B → V.heap[n + 1 + 1]? = some C → V.heap[n + 1 + 1 + 1]? = some D → Q V) :
    Q ((((W.alloc A).alloc B).alloc C).alloc D).drew := by
  subst hn
  have s1 : (W.alloc A).heap.size = W.heap.size + 1 := by simp
  have s2 : ((W.alloc A).alloc B).heap.size = W.heap.size + 1 + 1 := by simp
  have s3 : (((W.alloc A).alloc B).alloc C).heap.size = W.heap.size + 1 + 1 + 1 := by simp
  have h1 := heap_alloc_new W A
  have h2 := heap_alloc_new (W.alloc A) B
  have h3 := heap_alloc_new ((W.alloc A).alloc B) C
  have h4 := heap_alloc_new (((W.alloc A).alloc B).alloc C) D
  have b2 : Below (W.heap.size + 1) (W.alloc A) ((W.alloc A).alloc B) := (Below.refl _ _).alloc (by omega) _
  have b3 : Below (W.heap.size + 1 + 1) ((W.alloc A).alloc B) (((W.alloc A).alloc B).alloc C) := (Below.refl _ _).alloc (by omega) _
  have b4 : Below (W.heap.size + 1 + 1 + 1) (((W.alloc A).alloc B).alloc C) ((((W.alloc A).alloc B).alloc C).alloc D) := (Below.refl _ _).alloc (by omega) _
  rw [s1] at h2
  rw [s2] at h3
  rw [s3] at h4
  have b1 : Below W.heap.size W (W.alloc A) := (Below.refl _ _).alloc (Nat.le_refl _) _
  refine h _ ((((b1.trans (b2.mono (by omega))).trans (b3.mono (by omega))).trans (b4.mono (by omega))).drew) ?_ ?_ ?_ ?_
  · exact (b4.block _ (by omega)).trans ((b3.block _ (by omega)).trans ((b2.block _ (by omega)).trans h1))
  · exact (b4.block _ (by omega)).trans ((b3.block _ (by omega)).trans h2)
  · exact (b4.block _ (by omega)).trans h3
  · exact h4

set_option maxHeartbeats 4000000 in
theorem new_ok (c : Nat) (s : Value) (p t : Int) (G : Nat) (hp : 1 ≤ p ∧ p ≤ 64) (hG : 1 ≤ G ∧ G ≤ 65536) (w : World) (hc : w.heap[c]? = some (.cells #[s] 46 (0, 0))) (cs : Array Value) (hcz : cs.size = G * 3) (hcs : ∀ i, i < G → cs[i * 3]? = some (.int .i64 0) ∧ cs[i * 3 + 1]? = some (.int .i64 0) ∧ cs[i * 3 + 2]? = some (.int .i64 0))
    (hmk : ∀ w : World, (Instr.makeSlice 47 (.int .i64 G) (.int .i64 G)).run Try.prog w = .ok (.slice (some ⟨w.heap.size, 0, none⟩) G G) (w.alloc (.cells cs 52))) :
    Calls Try.prog 5 #[.pointer (some ⟨c, 0, none⟩), .agg #[.int .i64 p, .int .i64 t, .int .i64 (G : Int)]] w fun e w' => ∃ x gb tb qb, e = .returned (.tuple #[.pointer (some ⟨x, 0, none⟩), .int .i64 0]) ∧ Made w' w.heap.size s G (cs.setIfInBounds 0 (.int .i64 1)) x gb tb qb ∧ Below w.heap.size w w' := by
  have hmm := @run_makeMap Try.prog
  have hlt := block_lt hc
  have c0 : w.cell? ⟨c, 0, none⟩ = some s := by simp [World.cell?, hc]
  have hG1 : (1 : Int) ≤ (G : Int) := by omega
  have hG2 : (G : Int) ≤ 65536 := by omega
  have hp1 := hp.1
  have hp2 := hp.2
  have z0 : cs[0]? = some (.int .i64 0) := (hcs 0 (by omega)).1
  clear hcs hp hG hc hcz
  go_enter Try.func5, Try.ntmps5
  go_wp2_with fail
  all_goals first | (exfalso; omega) | skip
  have d0 : (w.alloc (.cells #[.int .i64 p, .int .i64 t, .int .i64 (G : Int)] 23)).cell? ⟨c, 0, none⟩ = some s := (((Below.refl _ w).alloc (Nat.le_refl _) _).cell hlt).trans c0
  have d1 : (w.alloc (.cells #[.int .i64 p, .int .i64 t, .int .i64 (G : Int)] 23)).cell? ⟨w.heap.size, 2, none⟩ = some (.int .i64 (G : Int)) := by simp
  have B0 : Hid (Below w.heap.size w (w.alloc (.cells #[.int .i64 p, .int .i64 t, .int .i64 (G : Int)] 23))) := (Below.refl _ w).alloc (Nat.le_refl _) _
  have hs : (w.alloc (.cells #[.int .i64 p, .int .i64 t, .int .i64 (G : Int)] 23)).heap.size = w.heap.size + 1 := by simp
  generalize w.alloc (.cells #[.int .i64 p, .int .i64 t, .int .i64 (G : Int)] 23) = W at *
  have hl1 : c < W.heap.size := by omega
  have hl2 : w.heap.size < W.heap.size := by omega
  have hC1 : ∀ o1 : Obj, (W.alloc o1).cell? ⟨c, 0, none⟩ = some s := fun o1 => (World.cell?_alloc_some W _ o1 (by rw [d0]; rfl)).trans d0
  have hC2 : ∀ o1 o2 : Obj, ((W.alloc o1).alloc o2).cell? ⟨c, 0, none⟩ = some s := fun o1 o2 => (World.cell?_alloc_some (W.alloc o1) _ o2 (by rw [(hC1 o1)]; rfl)).trans (hC1 o1)
  have hC3 : ∀ o1 o2 o3 : Obj, (((W.alloc o1).alloc o2).alloc o3).cell? ⟨c, 0, none⟩ = some s := fun o1 o2 o3 => (World.cell?_alloc_some ((W.alloc o1).alloc o2) _ o3 (by rw [(hC2 o1 o2)]; rfl)).trans (hC2 o1 o2)
  have hD1 : ∀ o1 : Obj, (W.alloc o1).cell? ⟨w.heap.size, 2, none⟩ = some (.int .i64 (G : Int)) := fun o1 => (World.cell?_alloc_some W _ o1 (by rw [d1]; rfl)).trans d1
  have hD2 : ∀ o1 o2 : Obj, ((W.alloc o1).alloc o2).cell? ⟨w.heap.size, 2, none⟩ = some (.int .i64 (G : Int)) := fun o1 o2 => (World.cell?_alloc_some (W.alloc o1) _ o2 (by rw [(hD1 o1)]; rfl)).trans (hD1 o1)
  have hD3 : ∀ o1 o2 o3 : Obj, (((W.alloc o1).alloc o2).alloc o3).cell? ⟨w.heap.size, 2, none⟩ = some (.int .i64 (G : Int)) := fun o1 o2 o3 => (World.cell?_alloc_some ((W.alloc o1).alloc o2) _ o3 (by rw [(hD2 o1 o2)]; rfl)).trans (hD2 o1 o2)
  clear c0
  go_region
  all_goals
    refine four _ _ hs _ _ _ _ ?_
    intro V hb b1 b2 b3 b4
    have x1 := cell_of b4 1
    simp only [List.getElem?_toArray, List.getElem?_cons_succ, List.getElem?_cons_zero] at x1
    first
      | (have g0 := (cell_of b1 0).trans z0; have gf := frozen_of b1 0)
      | (have g0 := (cell_of b2 0).trans z0; have gf := frozen_of b2 0)
      | (have g0 := (cell_of b3 0).trans z0; have gf := frozen_of b3 0)
  all_goals
    clear hC1 hC2 hC3 hD1 hD2 hD3 d0 d1 hmk hmm
    go_wp2_with fail
    go_ret2
    refine ⟨_, _, _, _, rfl, ⟨(Below.heap_setCell _ _ _ _ ?_).trans b4, ?_, ?_, ?_, ?_, ?_⟩, ?_⟩
    · dsimp only; omega
    · first | exact heap_set b1 0 _ | exact heap_set b2 0 _ | exact heap_set b3 0 _
    · first
        | exact (Below.heap_setCell _ _ _ _ (by dsimp only; omega)).trans b1
        | exact (Below.heap_setCell _ _ _ _ (by dsimp only; omega)).trans b2
        | exact (Below.heap_setCell _ _ _ _ (by dsimp only; omega)).trans b3
    · first
        | exact (Below.heap_setCell _ _ _ _ (by dsimp only; omega)).trans b1
        | exact (Below.heap_setCell _ _ _ _ (by dsimp only; omega)).trans b2
        | exact (Below.heap_setCell _ _ _ _ (by dsimp only; omega)).trans b3
    · omega
    · omega
    · exact (B0.out.trans (hb.mono (by omega))).setCell (by dsimp only; omega) _
end Go.Proofs.Ytpcogpcpdbhgkaa
