/- The agenda's map: what is asked of it, stored in it, struck from it. -/
import Derived.Test.YtideofojmgmboaaB0
import Derived.MapKept
import Derived.WideKeyEntry
import Derived.Deep.AppendLies
import Derived.OwnWalk
import Derived.Laws.Rows
import Derived.Laws.Cover1
import Derived.Lib.Hide
namespace Go.Proofs.Ytideofojmgmboaa
open Go Go.RowKit
set_option linter.unusedVariables false
set_option linter.unusedSimpArgs false
set_option maxRecDepth 100000

theorem size_al (w : World) (o : Obj) : (w.alloc o).heap.size = w.heap.size + 1 := by simp
theorem cell_of {V : World} {b : Nat} {cs : Array Value} {t : TypeId} (h : V.heap[b]? = some (.cells cs t (0, 0))) (j : Nat) : V.cell? ⟨b, j, none⟩ = cs[j]? := by simp [World.cell?, h]
theorem frozen_of {V : World} {b : Nat} {cs : Array Value} {t : TypeId} (h : V.heap[b]? = some (.cells cs t (0, 0))) (j : Nat) : V.frozen? ⟨b, j, none⟩ = false := by simp [World.frozen?, h]
theorem add_plain (b o j : Nat) : (⟨b, o, none⟩ : Addr).add j = ⟨b, o + j, none⟩ := by simp [Addr.add]
/-- an item: when it is due, its key -/
abbrev It := Int × Int
def flat : List It → List Value
  | [] => []
  | p :: l => .int .i64 p.1 :: .int .i64 p.2 :: flat l
theorem flat_len : ∀ l : List It, (flat l).length = 2 * l.length
  | [] => rfl
  | p :: l => by simp [flat, flat_len l]; omega
theorem flat_app : ∀ l m : List It, flat (l ++ m) = flat l ++ flat m
  | [], m => rfl
  | p :: l, m => by simp [flat, flat_app l m]
theorem flat_one : ∀ l : List It, ∀ v ∈ flat l, v.oneCell' = true
  | [], v, h => by cases h
  | p :: l, v, h => by
    simp only [flat, List.mem_cons] at h
    rcases h with rfl | rfl | h
    · rfl
    · rfl
    · exact flat_one l v h
theorem flat_take : ∀ (l : List It) (k : Nat), (flat l).take (2 * k) = flat (l.take k)
  | [], k => by simp [flat]
  | p :: l, 0 => by simp [flat]
  | p :: l, k + 1 => by rw [show 2 * (k + 1) = 2 * k + 1 + 1 by omega]; simp [flat, flat_take l k]
theorem flat_get0 : ∀ (l : List It) (i : Nat), i < l.length → (flat l)[2 * i]? = some (.int .i64 (l.getD i (0, 0)).1)
  | p :: l, 0, h => rfl
  | p :: l, i + 1, h => by
    rw [show 2 * (i + 1) = 2 * i + 1 + 1 by omega]
    simp only [flat, List.getElem?_cons_succ, List.getD_cons_succ]
    exact flat_get0 l i (by simpa using h)
theorem flat_get1 : ∀ (l : List It) (i : Nat), i < l.length → (flat l)[2 * i + 1]? = some (.int .i64 (l.getD i (0, 0)).2)
  | p :: l, 0, h => rfl
  | p :: l, i + 1, h => by
    rw [show 2 * (i + 1) + 1 = 2 * i + 1 + 1 + 1 by omega]
    simp only [flat, List.getElem?_cons_succ, List.getD_cons_succ]
    exact flat_get1 l i (by simpa using h)
theorem flat_set : ∀ (l : List It) (i : Nat) (x : It), i < l.length → ((flat l).set (2 * i) (.int .i64 x.1)).set (2 * i + 1) (.int .i64 x.2) = flat (l.set i x)
  | p :: l, 0, x, h => rfl
  | p :: l, i + 1, x, h => by
    rw [show 2 * (i + 1) + 1 = 2 * i + 1 + 1 + 1 by omega, show 2 * (i + 1) = 2 * i + 1 + 1 by omega]
    simp only [flat, List.set_cons_succ]
    rw [flat_set l i x (by simpa using h)]

/-- entries: key, birth, value -/
abbrev Ent := Int × Nat × Int
def ent (e : Ent) : MapEntry := { key := .int .i64 e.1, val := .int .i64 e.2.2, born := e.2.1 }
def ents (M : List Ent) : Array MapEntry := (M.map ent).toArray
def setB (w : World) (b : Nat) (o : Obj) : World := { w with heap := w.heap.setIfInBounds b o }
theorem setB_ne (w : World) (b k : Nat) (o : Obj) (hne : k ≠ b) : (setB w b o).heap[k]? = w.heap[k]? := by
  show (w.heap.setIfInBounds b o)[k]? = _
  rw [Array.getElem?_setIfInBounds_ne (by omega)]
theorem setB_eq (w : World) (b : Nat) (o : Obj) (hlt : b < w.heap.size) : (setB w b o).heap[b]? = some o := by
  show (w.heap.setIfInBounds b o)[b]? = _
  simp [hlt]
theorem setB_size (w : World) (b : Nat) (o : Obj) : (setB w b o).heap.size = w.heap.size := by simp [setB]

theorem find_at : ∀ (M : List Ent) (p : Nat) (e : Ent), (M.map (·.1)).Nodup → M[p]? = some e → ∀ i, Instr.findNow (.int .i64) (.int .i64 e.1) (M.map ent) i = some (some (i + p, .int .i64 e.2.2))
  | [], p, e, hn, h, i => by simp at h
  | x :: M, 0, e, hn, h, i => by
    simp at h; subst h
    simp [Instr.findNow, Instr.sameNow, ent]
  | x :: M, p + 1, e, hn, h, i => by
    simp only [List.map_cons, List.nodup_cons] at hn
    simp only [List.getElem?_cons_succ] at h
    have hne : x.1 ≠ e.1 := fun e1 => hn.1 (List.mem_map.2 ⟨e, List.mem_of_getElem? h, e1.symm⟩)
    have := find_at M p e hn.2 h (i + 1)
    simp only [List.map_cons, Instr.findNow, Instr.sameNow, ent, if_true]
    rw [show (e.1 == x.1) = false by simp; exact fun h => hne h.symm]
    simp only
    rw [show i + (p + 1) = i + 1 + p by omega]
    exact this
theorem find_no : ∀ (M : List Ent) (k : Int), (∀ e ∈ M, e.1 ≠ k) → ∀ i, Instr.findNow (.int .i64) (.int .i64 k) (M.map ent) i = some none
  | [], k, h, i => rfl
  | x :: M, k, h, i => by
    have := find_no M k (fun e he => h e (List.mem_cons_of_mem _ he)) (i + 1)
    simp only [List.map_cons, Instr.findNow, Instr.sameNow, ent, if_true]
    rw [show (k == x.1) = false by simp; exact fun e => h x (List.mem_cons_self) e.symm]
    exact this
theorem key_ok (k : Int) (empty : Bool) (w : World) : (Instr.checkKey empty 10000 3 (.int .i64 k)).run Try.prog w = .ok () w := MapKept.run_checkKey (k := .int .i64 k) Try.underlying3 (by simp [MapKept.IsKey]) empty 9999
theorem key_at {M : List Ent} {p : Nat} {e : Ent} (hn : (M.map (·.1)).Nodup) (h : M[p]? = some e) (w : World) : (Instr.findKey 3 (.int .i64 e.1) (M.map ent)).run Try.prog w = .ok (some (p, .int .i64 e.2.2)) w :=
  MapKept.run_findKey Try.underlying3 (by have := find_at M p e hn h 0; rwa [Nat.zero_add] at this)
theorem key_no {M : List Ent} {k : Int} (h : ∀ e ∈ M, e.1 ≠ k) (w : World) : (Instr.findKey 3 (.int .i64 k) (M.map ent)).run Try.prog w = .ok none w := MapKept.run_findKey Try.underlying3 (find_no M k h 0)

theorem lookup_at {M : List Ent} {p clk r : Nat} {e : Ent} (hn : (M.map (·.1)).Nodup) (h : M[p]? = some e) {w : World} (hb : w.heap[r]? = some (.map (ents M) clk)) : (Instr.lookup 52 (.map (some r)) (.int .i64 e.1) true).run Try.prog w = .ok (.tuple #[.int .i64 e.2.2, .bool true]) w := by
  have h1 := key_at hn h
  simp [Instr.lookup, run_underlying Try.underlying52, MapKept.run_getObj_map hb, key_ok, ents, h1, Result.andThen]
theorem lookup_no {M : List Ent} {clk r : Nat} {k : Int} (h : ∀ e ∈ M, e.1 ≠ k) {w : World} (hb : w.heap[r]? = some (.map (ents M) clk)) : (Instr.lookup 52 (.map (some r)) (.int .i64 k) true).run Try.prog w = .ok (.tuple #[.int .i64 0, .bool false]) w := by
  have h1 := key_no h
  simp [Instr.lookup, run_underlying Try.underlying52, MapKept.run_getObj_map hb, key_ok, ents, h1, Try.zeroValue3, Result.andThen]
theorem lookup_nil (k : Int) (w : World) : (Instr.lookup 52 (.map none) (.int .i64 k) true).run Try.prog w = .ok (.tuple #[.int .i64 0, .bool false]) w := by
  have h1 := key_no (M := []) (k := k) (by simp)
  simp at h1
  simp [Instr.lookup, run_underlying Try.underlying52, key_ok, h1, Try.zeroValue3, Result.andThen]
theorem ents_get {M : List Ent} {p : Nat} {e : Ent} (h : M[p]? = some e) : (ents M)[p]? = some (ent e) := by simp [ents, h]
theorem entry_at {M : List Ent} {p clk r : Nat} {e : Ent} (hn : (M.map (·.1)).Nodup) (h : M[p]? = some e) {w : World} (hb : w.heap[r]? = some (.map (ents M) clk)) : (Instr.mapEntry 52 (.map (some r)) (.int .i64 e.1)).run Try.prog w = .ok (.tuple #[.int .i64 e.2.2, .int .i64 (e.2.1 : Int)]) (setB w r (.map (ents M) clk)) := by
  have h1 := key_at hn h
  have h2 := ents_get h
  have h3 : ∀ w : World, (Instr.keyThatStays (.int .i64 e.1) (.int .i64 e.1)).run Try.prog w = .ok (.int .i64 e.1) w := fun w => MapKept.run_keyThatStays (d := .int .i64) (by simp [MapKept.IsKey])
  have h4 : (ents M).modify p (fun x => { x with key := .int .i64 e.1 }) = ents M := by
    apply Array.ext'
    rw [Array.toList_modify, ChangeMaps.modify_eq_set _ _ _ _ (show (ents M).toList[p]? = some (ent e) by simpa using h2)]
    exact WideElems.set_self (ents M).toList p (ent e) (by simpa using h2)
  simp [Instr.mapEntry, run_underlying Try.underlying52, MapKept.run_getObj_map hb, key_ok, show (ents M).toList = M.map ent by simp [ents], h1, h2, h3, h4, ent, MapKept.run_setObj_map _ hb, Result.andThen, setB, goInt]
def setV (M : List Ent) (p : Nat) (v : Int) : List Ent := M.modify p (fun e => (e.1, e.2.1, v))
theorem ents_setV (M : List Ent) (p : Nat) (v : Int) : (ents M).modify p (fun x => { x with val := .int .i64 v }) = ents (setV M p v) := by
  apply Array.ext'
  rw [Array.toList_modify]
  simp only [ents, setV]
  apply List.ext_getElem?
  intro j
  simp only [List.getElem?_modify, List.getElem?_map]
  by_cases hj : p = j
  · subst hj; simp only [if_true]; cases M[p]? <;> rfl
  · simp only [hj, if_false]; simp
theorem store_at {M : List Ent} {p clk r : Nat} {e : Ent} (hn : (M.map (·.2.1)).Nodup) (h : M[p]? = some e) (v : Int) {w : World} (hb : w.heap[r]? = some (.map (ents M) clk)) : (Instr.entryStore 52 (.map (some r)) (.int .i64 (e.2.1 : Int)) (.int .i64 v)).run Try.prog w = .ok () (setB w r (.map (ents (setV M p v)) clk)) := by
  have hidx : (ents M).findIdx? (fun x => ((x.born : Nat) : Int) == ((e.2.1 : Nat) : Int)) = some p := by
    rw [WideElems.findIdx_arr]
    exact WideElems.findIdx_born (e0 := ent e) (by simpa [ents, ent, Function.comp_def] using hn) (by simpa using ents_get h)
  simp [Instr.entryStore, MapKept.run_getObj_map hb, asInt, asIntOf, hidx, ents_setV, MapKept.run_setObj_map _ hb, Result.andThen, setB]
theorem update_no {M : List Ent} {clk r : Nat} {k v : Int} (h : ∀ e ∈ M, e.1 ≠ k) {w : World} (hb : w.heap[r]? = some (.map (ents M) clk)) : (Instr.mapUpdate 52 (.map (some r)) (.int .i64 k) (.int .i64 v)).run Try.prog w = .ok () (setB w r (.map (ents (M ++ [(k, clk, v)])) (clk + 1))) := by
  have h1 := key_no h
  have h2 : (ents M).push { key := .int .i64 k, val := .int .i64 v, born := clk } = ents (M ++ [(k, clk, v)]) := by simp [ents, ent]
  simp [Instr.mapUpdate, run_underlying Try.underlying52, MapKept.run_getObj_map hb, key_ok, show (ents M).toList = M.map ent by simp [ents], h1, h2, MapKept.run_setObj_map _ hb, Result.andThen, setB]
theorem map_erase : ∀ (M : List Ent) (p : Nat), (M.eraseIdx p).map ent = (M.map ent).eraseIdx p
  | [], p => by simp
  | x :: M, 0 => rfl
  | x :: M, p + 1 => by simp [map_erase M p]
theorem delete_at {M : List Ent} {p clk r : Nat} {e : Ent} (hn : (M.map (·.1)).Nodup) (h : M[p]? = some e) {w : World} (hb : w.heap[r]? = some (.map (ents M) clk)) (ty : TypeId) : (Builtin.delete_ #[52, 3] ty #[.map (some r), .int .i64 e.1]).run Try.prog w = .ok (.tuple #[]) (setB w r (.map (ents (M.eraseIdx p)) clk)) := by
  have h1 := key_at hn h
  have h2 : (ents M).eraseIdxIfInBounds p = ents (M.eraseIdx p) := by
    apply Array.ext'
    rw [Array.toList_eraseIdxIfInBounds]
    simp only [ents]
    exact (map_erase M p).symm
  simp [Builtin.delete_, run_underlying Try.underlying52, MapKept.run_getObj_map hb, key_ok, show (ents M).toList = M.map ent by simp [ents], h1, h2, MapKept.run_setObj_map _ hb, Result.andThen, setB]
end Go.Proofs.Ytideofojmgmboaa
