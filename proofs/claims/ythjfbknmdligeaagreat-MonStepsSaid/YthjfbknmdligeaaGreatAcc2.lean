/- What access, the one method that does every access, leaves in memory. -/
import Derived.Test.YthjfbknmdligeaaGreatAcc
import Derived.Deep.MidRow
namespace Go.Proofs.YthjfbknmdligeaaGreat
open Go Go.RowKit
set_option linter.unusedVariables false
set_option maxRecDepth 100000
set_option linter.unusedSimpArgs false

theorem access_nil (w : World) (k who i new : Int) (fv : Value) :
    Calls Tryz.prog 56 #[.pointer none, .agg #[.int .i64 k, .int .i64 who, .int .i64 i, .int .u64 0, .int .u64 new, .bool false], fv] w fun e w' => e = .returned (.agg #[.int .i64 0, .int .i64 0, .int .i64 0, .int .u64 0, .int .u64 0, .bool false]) ∧ Below w.heap.size w w' := by
  go_enter Tryz.func56, Tryz.ntmps56
  go_wp2_with fail
  go_returns
  exact ⟨rfl, ((Below.refl _ _).alloc (Nat.le_refl _) _).alloc (by simp) _⟩

theorem heap_sets (g : Nat) {k : Nat} (h : k ≠ g) : ∀ (vs : List Value) (o : Nat) (w : World), (w.setCells g o vs).heap[k]? = w.heap[k]?
  | [], _, _ => rfl
  | v :: r, o, w => by rw [World.setCells, heap_sets g h r, heap_set_ne _ h]
theorem size_sets (g : Nat) : ∀ (vs : List Value) (o : Nat) (w : World), (w.setCells g o vs).heap.size = w.heap.size
  | [], _, _ => rfl
  | v :: r, o, w => by rw [World.setCells, size_sets g r, size_set]
theorem But.sets {l : List Nat} {a : World} {g : Nat} (hg : g ∈ l ∨ a.heap.size ≤ g) : ∀ (vs : List Value) (o : Nat) {w : World}, But l a w → But l a (w.setCells g o vs)
  | [], _, _, h => h
  | v :: r, o, w, h => by rw [World.setCells]; exact But.sets hg r (o + 1) (h.set hg o v)

/-- The cells of an access. -/
def accL (k who i old new : Int) (done : Bool) : List Value := [.int .i64 k, .int .i64 who, .int .i64 i, .int .u64 old, .int .u64 new, .bool done]
theorem accL_one (k who i old new : Int) (done : Bool) : (accL k who i old new done).toArray.all (·.oneCell') = true := by simp [accL, Value.oneCell']

/-- What stands where access has counted its access: the access itself and the room of the answer are new. -/
structure Mid (w Y : World) (A : Option Addr) (cap c b n : Nat) (s : St) (k who i old new : Int) (done : Bool) : Prop where
  is : Is Y 114 A cap c b n s
  acc : AccAt Y w.heap.size k who i old new done
  res : Y.heap[w.heap.size + 1]? = some (.cells #[.int .i64 0, .int .i64 0, .int .i64 0, .int .u64 0, .int .u64 0, .bool false] 48 (0, 0))
  but : But [c, b] w Y
  size : Y.heap.size = w.heap.size + 2
  lt : c < w.heap.size
  blt : b < w.heap.size

theorem start_any (w : World) (A : Option Addr) (cap c b n : Nat) (s : St) (k who i new : Int) (h : Is w 114 A cap c b n s) :
    Mid w (((w.setCell ⟨c, 1, none⟩ (.int .i64 (s.clock + 1))).alloc (.cells #[.int .i64 k, .int .i64 who, .int .i64 i, .int .u64 0, .int .u64 new, .bool false] 48)).alloc (.cells #[.int .i64 0, .int .i64 0, .int .i64 0, .int .u64 0, .int .u64 0, .bool false] 48)) A cap c b n { s with clock := s.clock + 1 } k who i 0 new false := by
  have hlc := h.lt
  have hB : But [c, b] w (((w.setCell ⟨c, 1, none⟩ (.int .i64 (s.clock + 1))).alloc (.cells #[.int .i64 k, .int .i64 who, .int .i64 i, .int .u64 0, .int .u64 new, .bool false] 48)).alloc (.cells #[.int .i64 0, .int .i64 0, .int .i64 0, .int .u64 0, .int .u64 0, .bool false] 48)) :=
    (((But.refl _ _).set (Or.inl (by simp)) _ _).alloc _).alloc _
  refine ⟨⟨?_, h.bcap, fun hn => ?_, h.bd, by have := h.bl; simp [World.setCell]; omega⟩, ⟨?_⟩, ?_, hB, by simp [World.setCell], hlc, h.bl⟩
  · rw [heap_al _ (by simp [World.setCell]; omega), heap_al _ (by simp [World.setCell]; omega)]
    exact heap_set h.main 1 _
  · have hlb := h.blt hn
    obtain ⟨e, hne, cs, hh, hc⟩ := h.wds hn
    refine ⟨e, hne, cs, ?_, hc⟩
    rw [heap_al _ (by simp [World.setCell]; omega), heap_al _ (by simp [World.setCell]; omega), heap_set_ne _ hne]
    exact hh
  · rw [heap_al _ (by simp [World.setCell])]
    have := heap_alloc_new (w.setCell ⟨c, 1, none⟩ (.int .i64 (s.clock + 1))) (.cells #[.int .i64 k, .int .i64 who, .int .i64 i, .int .u64 0, .int .u64 new, .bool false] 48)
    simpa [World.setCell] using this
  · have := heap_alloc_new ((w.setCell ⟨c, 1, none⟩ (.int .i64 (s.clock + 1))).alloc (.cells #[.int .i64 k, .int .i64 who, .int .i64 i, .int .u64 0, .int .u64 new, .bool false] 48)) (.cells #[.int .i64 0, .int .i64 0, .int .i64 0, .int .u64 0, .int .u64 0, .bool false] 48)
    simpa [World.setCell] using this

section
variable {w Y : World} {A : Option Addr} {cap c b n : Nat} {s : St} {k who i old new : Int} {done : Bool}

theorem acc_range {q : Nat} (h : AccAt Y q k who i old new done) : Y.rangeAt q 0 (accL k who i old new done) := by
  intro j v hj
  have : (accL k who i old new done).toArray = #[.int .i64 k, .int .i64 who, .int .i64 i, .int .u64 old, .int .u64 new, .bool done] := rfl
  simp only [World.cell?, h.blk, Nat.zero_add]
  rw [← this]
  simpa using hj
theorem Mid.loadA (h : Mid w Y A cap c b n s k who i old new done) : Y.rangeAt w.heap.size 0 (accL k who i old new done) := acc_range h.acc
theorem Mid.roomC (h : Mid w Y A cap c b n s k who i old new done) : Y.there c 3 6 := by
  intro j hj
  have hm := h.is.main
  refine ⟨?_, by simp [World.frozen?, hm]⟩
  simp only [World.cell?, hm]
  have : 3 + j < (memCells A n cap s).size := by simp [memCells]; omega
  simp [this]
theorem Mid.loadB (h : Mid w Y A cap c b n s k who i old new done) : (Y.setCells c 3 (accL k who i old new done)).rangeAt w.heap.size 0 (accL k who i old new done) :=
  World.rangeAt_setCells_apart h.loadA _ _ _ (Or.inl (by have := h.lt; omega))
theorem Mid.roomR (h : Mid w Y A cap c b n s k who i old new done) : (Y.setCells c 3 (accL k who i old new done)).there (w.heap.size + 1) 0 6 := by
  refine World.there_setCells ?_ _ _ _
  intro j hj
  have hm := h.res
  refine ⟨?_, by simp [World.frozen?, hm]⟩
  simp only [World.cell?, hm]
  simp
  omega
theorem Mid.loadR (h : Mid w Y A cap c b n s k who i old new done) : ((Y.setCells c 3 (accL k who i old new done)).setCells (w.heap.size + 1) 0 (accL k who i old new done)).heap[w.heap.size + 1]? = some (.cells (accL k who i old new done).toArray 48 (0, 0)) := by
  have hc := h.lt
  have hr := h.res
  rw [← heap_sets c (show w.heap.size + 1 ≠ c by omega) (accL k who i old new done) 3 Y] at hr
  generalize Y.setCells c 3 (accL k who i old new done) = Z at hr ⊢
  simp only [accL, World.setCells]
  exact heap_set (heap_set (heap_set (heap_set (heap_set (heap_set hr _ _) _ _) _ _) _ _) _ _) _ _
theorem Mid.end (h : Mid w Y A cap c b n s k who i old new done) : Is ((Y.setCells c 3 (accL k who i old new done)).setCells (w.heap.size + 1) 0 (accL k who i old new done)) 114 A cap c b n { s with kind := k, who := who, at' := i, old := old, new := new, done := done } ∧
    But [c, b] w ((Y.setCells c 3 (accL k who i old new done)).setCells (w.heap.size + 1) 0 (accL k who i old new done)) := by
  have hc := h.lt
  refine ⟨⟨?_, h.is.bcap, fun hn => ?_, h.is.bd, by rw [size_sets, size_sets]; exact h.is.bl⟩, But.sets (Or.inr (by omega)) _ _ (But.sets (Or.inl (by simp)) _ _ h.but)⟩
  · rw [heap_sets _ (by omega)]
    simp only [accL, World.setCells]
    exact heap_set (heap_set (heap_set (heap_set (heap_set (heap_set h.is.main _ _) _ _) _ _) _ _) _ _) _ _
  · obtain ⟨e, hne, cs, hh, hcs⟩ := h.is.wds hn
    have hb := h.blt
    exact ⟨e, hne, cs, by rw [heap_sets _ (by omega), heap_sets _ hne]; exact hh, hcs⟩

/-- A memory's words with the i-th another. -/
def upd (f : Nat → Int) (i : Nat) (v : Int) : Nat → Int := fun j => if j = i then v else f j
theorem Mid.drewN (h : Mid w Y A cap c b n s k who i old new done) (m : Nat) : Mid w (Y.drewN m) A cap c b n s k who i old new done :=
  ⟨⟨h.is.main, h.is.bcap, h.is.wds, h.is.bd, h.is.bl⟩, ⟨h.acc.blk⟩, h.res, h.but.drewN m, h.size, h.lt, h.blt⟩
theorem Mid.acc3 (h : Mid w Y A cap c b n s k who i old new done) (j : Nat) (u : Value) {k' who' i' old' new' : Int} {done' : Bool}
    (e : (#[.int .i64 k, .int .i64 who, .int .i64 i, .int .u64 old, .int .u64 new, .bool done] : Array Value).setIfInBounds j u = #[.int .i64 k', .int .i64 who', .int .i64 i', .int .u64 old', .int .u64 new', .bool done']) :
    Mid w (Y.setCell ⟨w.heap.size, j, none⟩ u) A cap c b n s k' who' i' old' new' done' := by
  have hc := h.lt
  refine ⟨h.is.keep (Nat.le_of_eq (size_set _ _ _).symm) (heap_set_ne _ (by omega) _ _) (fun hn => heap_set_ne _ (by have := h.blt; omega) _ _), ⟨?_⟩, ?_, h.but.set (Or.inr (Nat.le_refl _)) _ _, by rw [size_set]; exact h.size, hc, h.blt⟩
  · rw [← e]; exact heap_set h.acc.blk _ _
  · rw [heap_set_ne _ (by omega)]; exact h.res
theorem Mid.old_done (h : Mid w Y A cap c b n s k who i old new done) (m : Nat) (x : Int) : Mid w (((Y.drewN m).setCell ⟨w.heap.size, 3, none⟩ (.int .u64 x)).setCell ⟨w.heap.size, 5, none⟩ (.bool true)) A cap c b n s k who i x new true :=
  ((h.drewN m).acc3 3 (.int .u64 x) (k' := k) (who' := who) (i' := i) (old' := x) (new' := new) (done' := done) rfl).acc3 5 (.bool true) rfl
theorem Mid.badc (h : Mid w Y A cap c b n s k who i old new done) : Mid w (Y.setCell ⟨c, 2, none⟩ (.int .i64 (s.bad + 1))) A cap c b n { s with bad := s.bad + 1 } k who i old new done := by
  have hc := h.lt
  refine ⟨⟨heap_set h.is.main 2 _, h.is.bcap, fun hn => ?_, h.is.bd, by rw [size_set]; exact h.is.bl⟩, ⟨?_⟩, ?_, h.but.set (Or.inl (by simp)) _ _, by rw [size_set]; exact h.size, hc, h.blt⟩
  · obtain ⟨e, hne, cs, hh, hcs⟩ := h.is.wds hn
    exact ⟨e, hne, cs, (heap_set_ne _ hne _ _).trans hh, hcs⟩
  · rw [heap_set_ne _ (by omega)]; exact h.acc.blk
  · rw [heap_set_ne _ (by omega)]; exact h.res
theorem Mid.word (h : Mid w Y A cap c b n s k who i old new done) (j : Nat) (hj : j < n) (v : Int) (hv : 0 ≤ v ∧ v ≤ 18446744073709551615) :
    Mid w (Y.setCell ⟨b, j, none⟩ (.int .u64 v)) A cap c b n { s with f := upd s.f j v } k who i old new done := by
  have hc := h.lt
  have hb := h.blt
  obtain ⟨e, hne, cs, hh, hcs⟩ := h.is.wds (by omega)
  refine ⟨⟨?_, h.is.bcap, fun _ => ⟨e, hne, cs.setIfInBounds j (.int .u64 v), heap_set hh _ _, fun t ht => ?_⟩, fun t ht => ?_, by rw [size_set]; exact h.is.bl⟩, ⟨?_⟩, ?_, h.but.set (Or.inl (by simp)) _ _, by rw [size_set]; exact h.size, hc, h.blt⟩
  · rw [heap_set_ne _ (Ne.symm hne)]; exact h.is.main
  · have hlt := (Array.getElem?_eq_some_iff.1 (hcs t ht)).1
    by_cases htj : t = j
    · subst htj; simp [upd, hlt]
    · simp only [upd, htj, if_false]
      rw [Array.getElem?_setIfInBounds_ne (Ne.symm htj)]
      exact hcs t ht
  · by_cases htj : t = j
    · simp only [upd, htj, if_true]; exact hv
    · simp only [upd, htj, if_false]; exact h.is.bd t ht
  · rw [heap_set_ne _ (by omega)]; exact h.acc.blk
  · rw [heap_set_ne _ (by omega)]; exact h.res
end
end Go.Proofs.YthjfbknmdligeaaGreat
