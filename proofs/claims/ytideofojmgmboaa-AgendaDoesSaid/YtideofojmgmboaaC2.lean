/- The same items? What the caller turns. -/
import Derived.Test.YtideofojmgmboaaC1
import Derived.Test.YtideofojmgmboaaB8
namespace Go.Proofs.Ytideofojmgmboaa
open Go Go.RowKit
set_option linter.unusedVariables false
set_option linter.unusedSimpArgs false
set_option maxRecDepth 100000

set_option maxHeartbeats 4000000 in
theorem same_any (w : World) (b b' : Nat) (A A' : Option Addr) (cp cp' : Nat) (S : List It) (n : Nat) (hn : S.length = n) (hl : n < 100000) (h : Sees w b A S) (h' : Sees w b' A' S) :
    Calls Try.prog 18 #[.slice A n cp, .slice A' n cp'] w fun e w' => e = .returned (.bool true) ∧ Below w.heap.size w w' := by
  have HS := Lib.hid h
  have HS' := Lib.hid h'
  have HN := Lib.hid hn
  have HL := Lib.hid hl
  clear h h' hn hl
  go_enter Try.func18, Try.ntmps18
  go_wp2_with fail
  go_loopw [5] (fun i wr => ∃ (k m : Nat), i = .int .i64 k ∧ k ≤ n ∧ wr = w.drewN m) (fun i _ => n - (intOf i).toNat)
  case atStart => exact ⟨0, 0, rfl, by omega, rfl⟩
  case round =>
    obtain ⟨k, m, rfl, hk, rfl⟩ := hrel
    by_cases hkn : k < n
    · have hki : (k : Int) < (n : Int) := by omega
      have hcap : (k : Int) < 100000 := by have := HL.out; omega
      have HKL : Hid (k < S.length) := by show k < S.length; rw [HN.out]; exact hkn
      obtain ⟨off, rfl, hcs⟩ := HS.out (by have := HKL.out; omega)
      obtain ⟨off', rfl, hcs'⟩ := HS'.out (by have := HKL.out; omega)
      obtain ⟨hy0, hy1⟩ := hcs k HKL.out
      obtain ⟨hz0, hz1⟩ := hcs' k HKL.out
      clear hcs hcs'
      generalize at_ S k = y at *
      obtain ⟨y0, y1⟩ := y
      simp only at hy0 hy1 hz0 hz1
      go_wp2_with fail
      go_quiet (fail)
      go_wp2_with fail
      go_roundw
      case rel => exact ⟨k + 1, m + nq, by go_num, by omega, rfl⟩
      case measure => simp [intOf]; omega
    · obtain rfl : k = n := by omega
      have hki : ¬ (k : Int) < (k : Int) := by omega
      go_wp2_with fail
      go_ret
      exact ⟨rfl, ⟨rfl, rfl, rfl, Nat.le_refl _, fun _ _ => rfl⟩⟩
variable {w : World} {a : Nat} {E : List Nat} {K : List It}
/-- the caller turns blocks of its own -/
theorem Own.turn {X Y : World} (hX : Own E w X a K) (ho : Y.os = X.os) (ht : Y.tape = X.tape) (hu : Y.output = X.output) (hs : X.heap.size ≤ Y.heap.size) (hk : ∀ k, k < X.heap.size → k ∉ E → Y.heap[k]? = X.heap[k]?) (hb : ∀ k, k < w.heap.size → Y.heap[k]? = X.heap[k]?)
    (l : List Nat) (hl : ∀ e ∈ l, (e ∈ E ∨ X.heap.size ≤ e) ∧ e < Y.heap.size) : Own (l ++ E) w Y a K := by
  have h1 := hX.ag.tight
  refine ⟨⟨ho.trans hX.bel.os, ht.trans hX.bel.tape, hu.trans hX.bel.output, Nat.le_trans hX.bel.size hs, fun i hi => (hb i hi).trans (hX.bel.block i hi)⟩, fun e he => ?_, ?_⟩
  · rcases List.mem_append.1 he with h | h
    · exact (hl e h).2
    · exact Nat.lt_of_lt_of_le (hX.lt e h) hs
  · have h2 : Ag Y a (fun k => (w.heap.size ≤ k ∧ k ∉ E) ∧ k < X.heap.size) K := by
      obtain ⟨g1, g2⟩ := h1
      refine ⟨g1, ?_⟩
      rcases g2 with ⟨g2, g3⟩ | ⟨lb, mb, cap, clk, g2, g3, g4⟩
      · exact Or.inl ⟨(hk a g1.2 g1.1.2).trans g2, g3⟩
      · exact Or.inr ⟨lb, mb, cap, clk, g2.kept (hk a g1.2 g1.1.2) (hk lb g3.2 g3.1.2) (hk mb g4.2 g4.1.2), g3, g4⟩
    refine h2.wide (fun k h => ⟨h.1.1, fun hm => ?_⟩)
    rcases List.mem_append.1 hm with h' | h'
    · rcases (hl k h').1 with h3 | h3
      · exact h.1.2 h3
      · have := h.2; omega
    · exact h.1.2 h'
/-- a row of items of the caller's own, in its block -/
structure Row (E : List Nat) (w X : World) (T : TypeId) (v : Value) (O : List It) : Prop where
  own : X.ownsRow w.heap.size T 2 v O.length (flat O)
  mine : ∀ g, v.ownBlock = some g → g ∈ E
theorem Row.kept {X Y : World} {T : TypeId} {v : Value} {O : List It} (h : Row E w X T v O) (hk : ∀ e ∈ E, Y.heap[e]? = X.heap[e]?) : Row E w Y T v O := by
  refine ⟨⟨h.own.1, ?_⟩, h.mine⟩
  rcases h.own.2 with h2 | ⟨g, cap, cur, rfl, h3, h4, h5⟩
  · exact Or.inl h2
  · exact Or.inr ⟨g, cap, cur, rfl, h3, (hk g (h.mine g rfl)).trans h4, h5⟩
theorem Row.below {X Y : World} {T : TypeId} {v : Value} {O : List It} (h : Row E w X T v O) (hl : ∀ e ∈ E, e < X.heap.size) (hb : Below X.heap.size X Y) : Row E w Y T v O := h.kept fun e he => hb.block e (hl e he)
theorem Row.more {X : World} {T : TypeId} {v : Value} {O : List It} {l : List Nat} (h : Row E w X T v O) : Row (l ++ E) w X T v O := ⟨h.own, fun g hg => List.mem_append_right _ (h.mine g hg)⟩
theorem Row.nil (X : World) (T : TypeId) : Row E w X T (.slice none 0 0) [] := ⟨World.ownsRow_nil _ _ _ _, fun g hg => by simp [Value.ownBlock] at hg⟩
theorem Row.sees {X : World} {T : TypeId} {A : Option Addr} {n cp : Nat} {O : List It} (h : Row E w X T (.slice A n cp) O) : ∃ g, Sees X g A O := by
  rcases h.own.2 with ⟨e, h2⟩ | ⟨g, cap, cur, e, hB, hg, l1, l2, l3, l4⟩
  · exact ⟨0, fun hS => by omega⟩
  · cases e
    refine ⟨g, fun hS => ⟨0, rfl, fun j hj => ?_⟩⟩
    rw [cell_of hg, cell_of hg, Nat.zero_add, Nat.mul_comm j 2]
    have e0 := flat_get0 O j hj
    have e1 := flat_get1 O j hj
    rw [← l4, List.getElem?_take, if_pos (by omega), Array.getElem?_toList] at e0 e1
    exact ⟨e0, e1⟩
/-- an item is appended to the caller's row -/
theorem Own.append {X Y : World} {T : TypeId} {A : Option Addr} {cp g cap : Nat} {O : List It} {x : It} (hX : Own E w X a K) (hR : Row E w X T (.slice A O.length cp) O)
    (hO : Y.ownsRow w.heap.size T 2 (.slice (some ⟨g, 0, none⟩) (O.length + 1) cap) (O.length + 1) (flat O ++ [.int .i64 x.1, .int .i64 x.2])) (hG : (X.alloc (.cells #[.int .i64 x.1, .int .i64 x.2] T)).grownBy Y (Value.slice A O.length cp).ownBlock)
    (hg : (Value.slice A O.length cp).ownBlock = some g ∨ g = X.heap.size + 1) (hgl : g < Y.heap.size) :
    Own (g :: E) w Y a K ∧ Row (g :: E) w Y T (.slice (some ⟨g, 0, none⟩) (O.length + 1) cap) (O ++ [x]) ∧ ∀ k, k < X.heap.size → (∀ g, (Value.slice A O.length cp).ownBlock = some g → k ≠ g) → Y.heap[k]? = X.heap[k]? := by
  have hs := size_al X (.cells #[.int .i64 x.1, .int .i64 x.2] T)
  have hsz := hG.size
  have hlow := hR.own.lt
  have hk : ∀ k, k < X.heap.size → (∀ g, (Value.slice A O.length cp).ownBlock = some g → k ≠ g) → Y.heap[k]? = X.heap[k]? := fun k hk hne => (hG.block k (by omega) (fun e => hne k e.symm rfl)).trans (heap_al _ hk _)
  refine ⟨?_, ⟨?_, ?_⟩, hk⟩
  · have := hX.turn (Y := Y) hG.os hG.tape hG.output (by omega) (fun k h1 h2 => hk k h1 (fun g' e e2 => by subst e2; exact h2 (hR.mine k e))) (fun k h1 => hk k (Nat.lt_of_lt_of_le h1 hX.bel.size) (fun g' e e2 => by subst e2; have := (hlow k e).1; omega)) [g] (by
      intro e he
      simp at he
      subst he
      refine ⟨?_, hgl⟩
      rcases hg with h | h
      · exact Or.inl (hR.mine e h)
      · exact Or.inr (by omega))
    exact this
  · rw [flat_app]
    simp only [flat, List.length_append, List.length_cons, List.length_nil]
    exact hO
  · intro g' h
    simp [Value.ownBlock] at h
    simp [h]
end Go.Proofs.Ytideofojmgmboaa
