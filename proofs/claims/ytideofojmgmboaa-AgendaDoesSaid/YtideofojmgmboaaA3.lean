/- An agenda in memory; Len, Less, place. -/
import Derived.Test.YtideofojmgmboaaA2
namespace Go.Proofs.Ytideofojmgmboaa
open Go Go.RowKit
set_option linter.unusedVariables false
set_option linter.unusedSimpArgs false
set_option maxRecDepth 100000

/-- an item of a list, by its place -/
def at_ (L : List It) (i : Nat) : It := L.getD i (0, 0)
/-- a map that says where in a list the item of a key lies -/
structure Mok (M : List Ent) (clk : Nat) (L : List It) : Prop where
  keys : (M.map (·.1)).Nodup
  born : (M.map (·.2.1)).Nodup
  time : ∀ e ∈ M, e.2.1 < clk
  says : ∀ (k v : Int), (∃ b, (k, b, v) ∈ M) ↔ ∃ i : Nat, i < L.length ∧ (i : Int) = v ∧ (at_ L i).2 = k
/-- an agenda that once had an item -/
structure Ag1 (w : World) (a lb mb cap : Nat) (cur : Array Value) (M : List Ent) (clk : Nat) (L : List It) : Prop where
  ha : w.heap[a]? = some (.cells #[.slice (some ⟨lb, 0, none⟩) L.length cap, .map (some mb)] 56 (0, 0))
  hl : w.heap[lb]? = some (.cells cur 23 (0, 0))
  hm : w.heap[mb]? = some (.map (ents M) clk)
  le : L.length ≤ cap ∧ cap ≤ maxLen
  size : cur.size = cap * 2
  take : cur.toList.take (2 * L.length) = flat L
  mok : Mok M clk L
variable {w : World} {a lb mb cap clk : Nat} {cur : Array Value} {M : List Ent} {L : List It}
theorem Ag1.ne (h : Ag1 w a lb mb cap cur M clk L) : a ≠ lb ∧ a ≠ mb ∧ lb ≠ mb := by
  refine ⟨?_, ?_, ?_⟩
  · rintro rfl; have := h.ha; rw [h.hl] at this; simp at this
  · rintro rfl; have := h.ha; rw [h.hm] at this; simp at this
  · rintro rfl; have := h.hl; rw [h.hm] at this; simp at this
theorem Ag1.kept {w' : World} (h : Ag1 w a lb mb cap cur M clk L) (ka : w'.heap[a]? = w.heap[a]?) (kl : w'.heap[lb]? = w.heap[lb]?) (km : w'.heap[mb]? = w.heap[mb]?) : Ag1 w' a lb mb cap cur M clk L :=
  ⟨ka.trans h.ha, kl.trans h.hl, km.trans h.hm, h.le, h.size, h.take, h.mok⟩
theorem Ag1.below {w' : World} (h : Ag1 w a lb mb cap cur M clk L) (hb : Below w.heap.size w w') : Ag1 w' a lb mb cap cur M clk L :=
  h.kept (hb.block _ (block_lt h.ha)) (hb.block _ (block_lt h.hl)) (hb.block _ (block_lt h.hm))
theorem Ag1.c0 (h : Ag1 w a lb mb cap cur M clk L) : w.cell? ⟨a, 0, none⟩ = some (.slice (some ⟨lb, 0, none⟩) L.length cap) := by simpa using cell_of h.ha 0
theorem Ag1.c1 (h : Ag1 w a lb mb cap cur M clk L) : w.cell? ⟨a, 1, none⟩ = some (.map (some mb)) := by simpa using cell_of h.ha 1
theorem Ag1.l0 (h : Ag1 w a lb mb cap cur M clk L) {i : Nat} (hi : i < L.length) : w.cell? ⟨lb, i * 2, none⟩ = some (.int .i64 (at_ L i).1) := by
  rw [cell_of h.hl, Nat.mul_comm]
  have := flat_get0 L i hi
  rw [← h.take, List.getElem?_take, if_pos (by omega), Array.getElem?_toList] at this
  exact this
theorem Ag1.l1 (h : Ag1 w a lb mb cap cur M clk L) {i : Nat} (hi : i < L.length) : w.cell? ⟨lb, i * 2 + 1, none⟩ = some (.int .i64 (at_ L i).2) := by
  rw [cell_of h.hl, Nat.mul_comm]
  have := flat_get1 L i hi
  rw [← h.take, List.getElem?_take, if_pos (by omega), Array.getElem?_toList] at this
  exact this

theorem len_any (h : Ag1 w a lb mb cap cur M clk L) : Calls Try.prog 29 #[.pointer (some ⟨a, 0, none⟩)] w fun e w' => e = .returned (.int .i64 L.length) ∧ w' = w := by
  have c0 := h.c0
  clear h
  go_enter Try.func29, Try.ntmps29
  go_wp2
  go_ret
  simp
def ltI (x y : It) : Bool := decide (ordI x y < 0)
set_option maxHeartbeats 4000000 in
theorem less_any (h : Ag1 w a lb mb cap cur M clk L) (i j : Nat) (hi : i < L.length) (hj : j < L.length) :
    Calls Try.prog 73 #[.pointer (some ⟨a, 0, none⟩), .int .i64 i, .int .i64 j] w fun e w' => e = .returned (.bool (ltI (at_ L i) (at_ L j))) ∧ Below w.heap.size w w' := by
  have c0 := h.c0
  have i0 := h.l0 hi
  have i1 := h.l1 hi
  have j0 := h.l0 hj
  have j1 := h.l1 hj
  have HO := Lib.hid (fun (X : World) => order_any (at_ L i) (at_ L j) X)
  generalize hx : at_ L i = x at *
  generalize hy : at_ L j = y at *
  have hn := h.le
  clear h hx hy
  generalize L.length = n at *
  have hH : w.drew.cell? ⟨a, 0, none⟩ = some (.slice (some ⟨lb, 0, none⟩) n cap) ∧ w.drew.cell? ⟨lb, i * 2, none⟩ = some (.int .i64 x.1) ∧ w.drew.cell? ⟨lb, i * 2 + 1, none⟩ = some (.int .i64 x.2) ∧ w.drew.cell? ⟨lb, j * 2, none⟩ = some (.int .i64 y.1) ∧ w.drew.cell? ⟨lb, j * 2 + 1, none⟩ = some (.int .i64 y.2) ∧ Below w.heap.size w w.drew := ⟨c0, i0, i1, j0, j1, (Below.refl _ _).drew⟩
  clear c0 i0 i1 j0 j1
  obtain ⟨x0, x1⟩ := x
  obtain ⟨y0, y1⟩ := y
  simp only at hH
  go_enter Try.func73, Try.ntmps73
  go_wp2_with fail
  have KEEP : Hid (∀ X w' : World, (X.cell? ⟨a, 0, none⟩ = some (.slice (some ⟨lb, 0, none⟩) n cap) ∧ X.cell? ⟨lb, i * 2, none⟩ = some (.int .i64 x0) ∧ X.cell? ⟨lb, i * 2 + 1, none⟩ = some (.int .i64 x1) ∧ X.cell? ⟨lb, j * 2, none⟩ = some (.int .i64 y0) ∧ X.cell? ⟨lb, j * 2 + 1, none⟩ = some (.int .i64 y1) ∧ Below w.heap.size w X) → Below X.heap.size X w' →
      (w'.cell? ⟨a, 0, none⟩ = some (.slice (some ⟨lb, 0, none⟩) n cap) ∧ w'.cell? ⟨lb, i * 2, none⟩ = some (.int .i64 x0) ∧ w'.cell? ⟨lb, i * 2 + 1, none⟩ = some (.int .i64 x1) ∧ w'.cell? ⟨lb, j * 2, none⟩ = some (.int .i64 y0) ∧ w'.cell? ⟨lb, j * 2 + 1, none⟩ = some (.int .i64 y1) ∧ Below w.heap.size w w')) :=
    fun X w' ⟨h0, h1, h2, h3, h4, h5⟩ hb => ⟨(hb.cell (cell_lt h0)).trans h0, (hb.cell (cell_lt h1)).trans h1, (hb.cell (cell_lt h2)).trans h2, (hb.cell (cell_lt h3)).trans h3, (hb.cell (cell_lt h4)).trans h4, h5.trans (hb.mono h5.size)⟩
  go_region_held3 (fun w' : World => w'.cell? ⟨a, 0, none⟩ = some (.slice (some ⟨lb, 0, none⟩) n cap) ∧ w'.cell? ⟨lb, i * 2, none⟩ = some (.int .i64 x0) ∧ w'.cell? ⟨lb, i * 2 + 1, none⟩ = some (.int .i64 x1) ∧ w'.cell? ⟨lb, j * 2, none⟩ = some (.int .i64 y0) ∧ w'.cell? ⟨lb, j * 2 + 1, none⟩ = some (.int .i64 y1) ∧ Below w.heap.size w w') (first | (with_reducible exact hH) | (with_reducible assumption) | exact KEEP.out _ _ ‹_› ‹_›)
    (first | (go_at_call 28; refine (HO.out _).mono ?_; rintro e w3 ⟨rfl, hb3⟩))
  go_wp2
  rename_i hS
  go_ret
  exact ⟨rfl, hS.2.2.2.2.2⟩

def pos (L : List It) (k : Int) : Option Nat := L.findIdx? (fun x => x.2 == k)
theorem pos_some {L : List It} {k : Int} {i : Nat} (h : pos L k = some i) : i < L.length ∧ (at_ L i).2 = k := by
  obtain ⟨hlt, h1, _⟩ := List.findIdx?_eq_some_iff_getElem.1 h
  refine ⟨hlt, ?_⟩
  unfold at_
  rw [List.getD_eq_getElem?_getD, List.getElem?_eq_getElem hlt]
  simpa using h1
theorem pos_none {L : List It} {k : Int} (h : pos L k = none) : ∀ i, i < L.length → (at_ L i).2 ≠ k := by
  intro i hi
  have := List.findIdx?_eq_none_iff.1 h (L[i]) (List.getElem_mem hi)
  unfold at_
  rw [List.getD_eq_getElem?_getD, List.getElem?_eq_getElem hi]
  simpa using this
theorem Mok.at (h : Mok M clk L) {i : Nat} (hi : i < L.length) : ∃ (p : Nat) (e : Ent), M[p]? = some e ∧ e.1 = (at_ L i).2 ∧ e.2.2 = (i : Int) := by
  obtain ⟨b, hb⟩ := (h.says (at_ L i).2 i).2 ⟨i, hi, rfl, rfl⟩
  obtain ⟨p, hp⟩ := List.mem_iff_getElem?.1 hb
  exact ⟨p, _, hp, rfl, rfl⟩
theorem Mok.no (h : Mok M clk L) {k : Int} (hk : ∀ i, i < L.length → (at_ L i).2 ≠ k) : ∀ e ∈ M, e.1 ≠ k := by
  rintro ⟨k', b, v⟩ he rfl
  obtain ⟨i, hi, _, h2⟩ := (h.says k' v).1 ⟨b, he⟩
  exact hk i hi h2
theorem place_at (h : Ag1 w a lb mb cap cur M clk L) {k : Int} {i : Nat} (hp : pos L k = some i) : Calls Try.prog 22 #[.pointer (some ⟨a, 0, none⟩), .int .i64 k] w fun e w' => e = .returned (.tuple #[.int .i64 i, .bool true]) ∧ w' = w := by
  obtain ⟨hi, hk⟩ := pos_some hp
  obtain ⟨p, e, he, h1, h2⟩ := h.mok.at hi
  have c1 := h.c1
  have hl := lookup_at h.mok.keys he h.hm
  rw [h1, h2, hk] at hl
  clear h hp hk he h1 h2
  go_enter Try.func22, Try.ntmps22
  go_wp2
  go_ret2
  simp
theorem place_no (h : Ag1 w a lb mb cap cur M clk L) {k : Int} (hp : pos L k = none) : Calls Try.prog 22 #[.pointer (some ⟨a, 0, none⟩), .int .i64 k] w fun e w' => e = .returned (.tuple #[.int .i64 0, .bool false]) ∧ w' = w := by
  have c1 := h.c1
  have hl := lookup_no (h.mok.no (pos_none hp)) h.hm
  clear h hp
  go_enter Try.func22, Try.ntmps22
  go_wp2
  go_ret2
  simp
theorem place_new (k : Int) (ha : w.heap[a]? = some (.cells #[.slice none 0 0, .map none] 56 (0, 0))) : Calls Try.prog 22 #[.pointer (some ⟨a, 0, none⟩), .int .i64 k] w fun e w' => e = .returned (.tuple #[.int .i64 0, .bool false]) ∧ w' = w := by
  have c1 : w.cell? ⟨a, 1, none⟩ = some (.map none) := by simpa using cell_of ha 1
  have hl := lookup_nil k w
  clear ha
  go_enter Try.func22, Try.ntmps22
  go_wp2
  go_ret2
  simp
theorem place_nil (k : Int) : Calls Try.prog 22 #[.pointer none, .int .i64 k] w fun e w' => e = .returned (.tuple #[.int .i64 0, .bool false]) ∧ w' = w := by
  go_enter Try.func22, Try.ntmps22
  go_wp2
  go_ret2
  simp
theorem len_new (ha : w.heap[a]? = some (.cells #[.slice none 0 0, .map none] 56 (0, 0))) : Calls Try.prog 29 #[.pointer (some ⟨a, 0, none⟩)] w fun e w' => e = .returned (.int .i64 0) ∧ w' = w := by
  have c0 : w.cell? ⟨a, 0, none⟩ = some (.slice none 0 0) := by simpa using cell_of ha 0
  clear ha
  go_enter Try.func29, Try.ntmps29
  go_wp2
  go_ret
  simp
theorem Len_any (h : Ag1 w a lb mb cap cur M clk L) : Calls Try.prog 15 #[.pointer (some ⟨a, 0, none⟩)] w fun e w' => e = .returned (.int .i64 L.length) ∧ w' = w := by
  have HL := Lib.hid (len_any h)
  clear h
  go_enter Try.func15, Try.ntmps15
  go_wp2_with fail
  go_at_call 29; refine HL.out.mono ?_; rintro e w1 ⟨rfl, rfl⟩
  go_wp2
  go_ret
  simp
theorem Len_new (ha : w.heap[a]? = some (.cells #[.slice none 0 0, .map none] 56 (0, 0))) : Calls Try.prog 15 #[.pointer (some ⟨a, 0, none⟩)] w fun e w' => e = .returned (.int .i64 0) ∧ w' = w := by
  have HL := Lib.hid (len_new ha)
  clear ha
  go_enter Try.func15, Try.ntmps15
  go_wp2_with fail
  go_at_call 29; refine HL.out.mono ?_; rintro e w1 ⟨rfl, rfl⟩
  go_wp2
  go_ret
  simp
theorem Len_nil : Calls Try.prog 15 #[.pointer none] w fun e w' => e = .returned (.int .i64 0) ∧ w' = w := by
  go_enter Try.func15, Try.ntmps15
  go_wp2
  go_ret
  simp
end Go.Proofs.Ytideofojmgmboaa
