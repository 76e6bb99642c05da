/- Lists of ints that the call makes: kept, grown, compared. -/
import Derived.Test.YtcjidigpdecdlaaLaw
import Derived.Test.YtcjidigpdecdlaaLock1
import Derived.Maps.OwnSet
import Derived.Maps.AppendAt
import Derived.OwnWalk
import Derived.ChangeShapes
namespace Go.Proofs.Ytcjidigpdecdlaa
open Go Go.RowKit Go.Maps
set_option linter.unusedVariables false
set_option maxRecDepth 100000
set_option linter.unusedSimpArgs false

namespace RI
/-- A list of ints that the call made. -/
structure IntsOn (w : World) (base : Nat) (v : Value) (l : List Int) : Prop where
  own : w.ownsRow base 3 1 v l.length (l.map (Value.int .i64))
theorem lists_info3 : (Try.prog.info? 3).map (fun i => (i.zero, i.size, i.bytes)) = some (some (.int .i64 0), 1, 8) := by kernel_rfl
theorem row_but {w w' : World} {base : Nat} {e : TypeId} {size : Nat} {v : Value} {n : Nat} {xs : List Value} {l : List Nat} (h : w.ownsRow base e size v n xs) (hB : But l w w') (hl : ∀ b ∈ l, b < base) : w'.ownsRow base e size v n xs := by
  refine ⟨h.1, ?_⟩
  rcases h.2 with h0 | ⟨gb, cp, cur, e0, hb, hh, rest⟩
  · exact .inl h0
  · exact .inr ⟨gb, cp, cur, e0, hb, (hB.block gb (block_lt hh) (fun hm => absurd (hl gb hm) (by omega))).trans hh, rest⟩
theorem row_below {w w' : World} {base : Nat} {e : TypeId} {size : Nat} {v : Value} {n : Nat} {xs : List Value} (h : w.ownsRow base e size v n xs) (hB : Below w.heap.size w w') : w'.ownsRow base e size v n xs := row_but h (But.of_below (l := []) hB) (fun b hb => by cases hb)
theorem lists_slice {w : World} {base : Nat} {e : TypeId} {size : Nat} {v : Value} {n : Nat} {xs : List Value} (h : w.ownsRow base e size v n xs) : ∃ A cap, v = .slice A n cap := by
  rcases h.2 with ⟨e0, h0⟩ | ⟨gb, cp, cur, e0, hb, hh, rest⟩
  · subst h0; exact ⟨none, 0, e0⟩
  · exact ⟨_, _, e0⟩
theorem IntsOn.cell {w : World} {base : Nat} {v : Value} {l : List Int} (h : IntsOn w base v l) {j : Nat} (hj : j < l.length) : ∃ gb cap, v = .slice (some ⟨gb, 0, none⟩) l.length cap ∧ w.cell? ⟨gb, j, none⟩ = some (.int .i64 (l.getD j 0)) := by
  rcases h.own.2 with ⟨e, h0⟩ | ⟨gb, cp, cur, e, hb, hh, hnc, hcm, hcs, htk⟩
  · omega
  · subst e
    refine ⟨gb, cp, rfl, ?_⟩
    have hc := h.own.cellAt j (by omega)
    rw [List.getElem?_map, List.getElem?_eq_getElem hj] at hc
    rw [List.getD_eq_getElem?_getD, List.getElem?_eq_getElem hj]
    exact hc
/-- A slice of ints, seen in memory. -/
def SeesL (w : World) (v : Value) (l : List Int) : Prop := ∃ A cap, v = .slice A l.length cap ∧ (A = none → l.length = 0 ∧ cap = 0) ∧ (0 < l.length → ∃ b off : Nat, A = some ⟨b, off, none⟩ ∧ b < w.heap.size ∧ ∀ j, j < l.length → w.cell? ⟨b, off + j, none⟩ = some (.int .i64 (l.getD j 0)))
theorem SeesL.below {w w' : World} {v : Value} {l : List Int} (h : SeesL w v l) (hb : Below w.heap.size w w') : SeesL w' v l := by
  obtain ⟨A, cap, e, h1, h2⟩ := h
  refine ⟨A, cap, e, h1, fun hn => ?_⟩
  obtain ⟨b, off, e1, h3, h4⟩ := h2 hn
  exact ⟨b, off, e1, Nat.lt_of_lt_of_le h3 hb.size, fun j hj => (hb.cell (p := ⟨b, off + j, none⟩) h3).trans (h4 j hj)⟩
theorem IntsOn.sees {w : World} {base : Nat} {v : Value} {l : List Int} (h : IntsOn w base v l) : SeesL w v l := by
  by_cases h0 : 0 < l.length
  · obtain ⟨gb, cap, e, -⟩ := h.cell h0
    refine ⟨_, cap, e, (fun h => by cases h), fun hn => ⟨gb, 0, rfl, ?_, fun j hj => ?_⟩⟩
    · obtain ⟨gb', cap', e', hc⟩ := h.cell hn
      rw [e] at e'; cases e'
      exact cell_lt hc
    · obtain ⟨gb', cap', e', hc⟩ := h.cell hj
      rw [e] at e'; cases e'
      rw [Nat.zero_add]; exact hc
  · rcases h.own.2 with ⟨e, h1⟩ | ⟨gb, cp, cur, e, -⟩
    · exact ⟨none, 0, by rw [e, h1], fun _ => ⟨h1, rfl⟩, fun h => absurd h h0⟩
    · exact ⟨_, cp, e, (fun h => by cases h), fun h => absurd h h0⟩

theorem lsame_any (w : World) (v v' : Value) (l : List Int) (hn : l.length ≤ 1000000) (h : SeesL w v l) (h' : SeesL w v' l) :
    Calls Try.prog 27 #[v, v'] w fun e w' => e = .returned (.bool true) ∧ Below w.heap.size w w' := by
  obtain ⟨A, cap, rfl, -, h2⟩ := h
  obtain ⟨A', cap', rfl, -, h2'⟩ := h'
  have H : Hid (0 < l.length → ∃ b off : Nat, A = some ⟨b, off, none⟩ ∧ b < w.heap.size ∧ ∀ j, j < l.length → w.cell? ⟨b, off + j, none⟩ = some (.int .i64 (l.getD j 0))) := h2
  have H' : Hid (0 < l.length → ∃ b off : Nat, A' = some ⟨b, off, none⟩ ∧ b < w.heap.size ∧ ∀ j, j < l.length → w.cell? ⟨b, off + j, none⟩ = some (.int .i64 (l.getD j 0))) := h2'
  clear h2 h2'
  have HF : Hid (∃ (f : Nat → Int) (n : Nat), (fun j => l.getD j 0) = f ∧ l.length = n) := ⟨_, _, rfl, rfl⟩
  obtain ⟨f, n, hf, hl⟩ := HF.out
  have hfe : ∀ j, l.getD j 0 = f j := fun j => congrFun hf j
  simp only [hfe] at H H'
  rw [hl] at H H' hn ⊢
  clear HF hf hl hfe
  go_enter Try.func27, Try.ntmps27
  go_wp2_with fail
  go_loopw [5] (fun i wr => ∃ k m : Nat, k ≤ n ∧ i = .int .i64 k ∧ wr = w.drewN m) (fun i _ => n - (intOf i).toNat)
  case atStart => exact ⟨0, 0, Nat.zero_le _, rfl, rfl⟩
  case round =>
    obtain ⟨k, m, hk, rfl, rfl⟩ := hrel
    by_cases hlt : k < n
    · obtain ⟨b, off, rfl, hbB, hcell⟩ := H.out (by omega)
      obtain ⟨b', off', rfl, hbB', hcell'⟩ := H'.out (by omega)
      have e0 : w.cell? ⟨b, off + k, none⟩ = some (.int .i64 (f k)) := hcell k hlt
      have e1 : w.cell? ⟨b', off' + k, none⟩ = some (.int .i64 (f k)) := hcell' k hlt
      clear hcell hcell'
      generalize f k = x at e0 e1
      go_wp2_with fail
      go_quiet (fail)
      go_wp2_with fail
      go_roundw
      case rel => exact ⟨k + 1, _, by omega, by go_num, rfl⟩
      case measure => simp [intOf]; omega
    · obtain rfl : k = n := by omega
      go_wp2_with fail
      go_ret
      exact ⟨rfl, Below.drewN' (Below.refl _ _) m⟩
end RI
theorem But.grown {l : List Nat} {a w w' : World} {r : Option Nat} (h : But l a w) (hg : w.grownBy w' r) (hr : ∀ k, r = some k → k ∈ l ∨ a.heap.size ≤ k) : But l a w' :=
  ⟨hg.os.trans h.os, hg.tape.trans h.tape, hg.output.trans h.output, Nat.le_trans h.size hg.size, fun k hk hc => (hg.block k (Nat.lt_of_lt_of_le hk h.size) (fun e => by rcases hr k e.symm with h1 | h1; exact hc h1; omega)).trans (h.block k hk hc)⟩
def rowB (v : Value) : List Nat := match v.ownBlock with
  | some k => [k]
  | none => []
theorem rowB_mem {v : Value} {k : Nat} (h : v.ownBlock = some k) : k ∈ rowB v := by unfold rowB; rw [h]; simp
theorem mem_rowB {v : Value} {k : Nat} (h : k ∈ rowB v) : v.ownBlock = some k := by
  unfold rowB at h
  split at h
  · rename_i h'; simp at h; rw [h', h]
  · cases h
theorem RI.IntsOn.keep {w w' : World} {base : Nat} {v : Value} {l : List Int} {ll : List Nat} (h : RI.IntsOn w base v l) (hB : But ll w w') (hk : ∀ k ∈ rowB v, k ∉ ll) : RI.IntsOn w' base v l := by
  refine ⟨h.own.1, ?_⟩
  rcases h.own.2 with h0 | ⟨gb, cp, cur, e0, hb, hh, rest⟩
  · exact .inl h0
  · exact .inr ⟨gb, cp, cur, e0, hb, (hB.block gb (block_lt hh) (hk gb (rowB_mem (by rw [e0]; rfl)))).trans hh, rest⟩
theorem RI.IntsOn.up {w : World} {base : Nat} {v : Value} {l : List Int} (h : RI.IntsOn w base v l) : ∀ k ∈ rowB v, base ≤ k ∧ k < w.heap.size := fun k hk => h.own.lt k (mem_rowB hk)
/-- A list of ints that is only read. -/
def Rd.ints (base : Nat) (v : Value) (l : List Int) : Rd := ⟨rowB v, fun w => RI.IntsOn w base v l, fun w w' ll h hb hk => h.keep hb hk⟩
end Go.Proofs.Ytcjidigpdecdlaa
