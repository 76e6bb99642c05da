/- The agenda: Put, Pop, First, At, Drop, Move. -/
import Derived.Test.YtideofojmgmboaaA10
import Derived.Test.YtideofojmgmboaaB4
import Derived.ProofKit
namespace Go.Proofs.Ytideofojmgmboaa
open Go Go.RowKit
set_option linter.unusedVariables false
set_option linter.unusedSimpArgs false
set_option maxRecDepth 100000
variable {w : World} {a lb mb cap clk : Nat}

/-- of all that was there only the blocks of F may be others; blocks may have come -/
structure Kp (F : Nat → Prop) (w w' : World) : Prop where
  os : w'.os = w.os
  tape : w'.tape = w.tape
  output : w'.output = w.output
  size : w.heap.size ≤ w'.heap.size
  block : ∀ k, k < w.heap.size → ¬ F k → w'.heap[k]? = w.heap[k]?
theorem Kp.refl (F : Nat → Prop) (w : World) : Kp F w w := ⟨rfl, rfl, rfl, Nat.le_refl _, fun _ _ _ => rfl⟩
theorem Kp.of_but {l : List Nat} {F : Nat → Prop} {w w' : World} (h : But l w w') (hl : ∀ k ∈ l, k < w.heap.size → F k) : Kp F w w' := ⟨h.os, h.tape, h.output, h.size, fun k hk hf => h.block k hk (fun hm => hf (hl k hm hk))⟩
theorem Kp.of_below {F : Nat → Prop} {w w' : World} (h : Below w.heap.size w w') : Kp F w w' := ⟨h.os, h.tape, h.output, h.size, fun k hk _ => h.block k hk⟩
theorem Kp.trans {F G : Nat → Prop} {x y z : World} (h : Kp F x y) (k : Kp G y z) (hg : ∀ i, G i → F i ∨ x.heap.size ≤ i) : Kp F x z :=
  ⟨k.os.trans h.os, k.tape.trans h.tape, k.output.trans h.output, Nat.le_trans h.size k.size, fun i hi hf => (k.block i (Nat.lt_of_lt_of_le hi h.size) (fun e => by rcases hg i e with e | e; exact hf e; omega)).trans (h.block i hi hf)⟩
/-- an agenda at a block; F: what is its own -/
def Ag (w : World) (a : Nat) (F : Nat → Prop) (L : List It) : Prop :=
  F a ∧ ((w.heap[a]? = some (.cells #[.slice none 0 0, .map none] 56 (0, 0)) ∧ L = []) ∨ ∃ lb mb cap clk, AgL w a lb mb cap clk L ∧ F lb ∧ F mb)
/-- F, and what is new -/
def And0 (F : Nat → Prop) (n : Nat) : Nat → Prop := fun k => F k ∨ n ≤ k
theorem Ag.wide {L : List It} {F G : Nat → Prop} (h : Ag w a F L) (hg : ∀ k, F k → G k) : Ag w a G L := by
  obtain ⟨h1, h2⟩ := h
  refine ⟨hg _ h1, ?_⟩
  rcases h2 with h2 | ⟨lb, mb, cap, clk, h2, h3, h4⟩
  · exact Or.inl h2
  · exact Or.inr ⟨lb, mb, cap, clk, h2, hg _ h3, hg _ h4⟩
theorem AgL.lt {L : List It} (h : AgL w a lb mb cap clk L) : a < w.heap.size ∧ lb < w.heap.size ∧ mb < w.heap.size := by
  obtain ⟨cur, M, h⟩ := h
  exact ⟨block_lt h.ha, block_lt h.hl, block_lt h.hm⟩
theorem Ag.lt {L : List It} {F : Nat → Prop} (h : Ag w a F L) : a < w.heap.size := by
  obtain ⟨_, h | ⟨_, _, _, _, h, _⟩⟩ := h
  · exact block_lt h.1
  · exact h.lt.1
theorem Ag.kept {L : List It} {F G : Nat → Prop} {w' : World} (h : Ag w a F L) (hk : Kp G w w') (hd : ∀ k, F k → ¬ G k) : Ag w' a F L := by
  obtain ⟨h1, h2⟩ := h
  refine ⟨h1, ?_⟩
  rcases h2 with ⟨h2, h3⟩ | ⟨lb, mb, cap, clk, h2, h3, h4⟩
  · exact Or.inl ⟨(hk.block a (block_lt h2) (hd a h1)).trans h2, h3⟩
  · have hl := h2.lt
    exact Or.inr ⟨lb, mb, cap, clk, h2.kept (hk.block a hl.1 (hd a h1)) (hk.block lb hl.2.1 (hd lb h3)) (hk.block mb hl.2.2 (hd mb h4)), h3, h4⟩
theorem Ag.below {L : List It} {F : Nat → Prop} {w' : World} (h : Ag w a F L) (hb : Below w.heap.size w w') : Ag w' a F L :=
  h.kept (G := fun _ => False) (Kp.of_below hb) (fun _ _ h => h)

theorem Len_ag {L : List It} {F : Nat → Prop} (h : Ag w a F L) : Calls Try.prog 15 #[.pointer (some ⟨a, 0, none⟩)] w fun e w' => e = .returned (.int .i64 L.length) ∧ w' = w := by
  rcases h.2 with ⟨h2, rfl⟩ | ⟨lb, mb, cap, clk, ⟨cur, M, h2⟩, h3, h4⟩
  · exact Len_new h2
  · exact Len_any h2
theorem place_ag {L : List It} {F : Nat → Prop} (h : Ag w a F L) (k : Int) : Calls Try.prog 22 #[.pointer (some ⟨a, 0, none⟩), .int .i64 k] w fun e w' => e = .returned (.tuple #[.int .i64 (((pos L k).getD 0 : Nat) : Int), .bool (pos L k).isSome]) ∧ w' = w := by
  rcases h.2 with ⟨h2, rfl⟩ | ⟨lb, mb, cap, clk, ⟨cur, M, h2⟩, h3, h4⟩
  · exact place_new k h2
  · cases hp : pos L k with
    | none => exact place_no h2 hp
    | some i => exact place_at h2 hp
/-- an item is put: it was not there -/
def putL (L : List It) (x : It) : List It := up (L ++ [x]) L.length
theorem push_ag (SW : SwapC) {L : List It} {F : Nat → Prop} (h : Ag w a F L) (x : It) (hx : pos L x.2 = none) (hlen : L.length < 65536) :
    Calls Try.prog 23 #[.iface 59 (.pointer (some ⟨a, 0, none⟩)), .iface 23 (.agg #[.int .i64 x.1, .int .i64 x.2])] w fun e w' => (∃ v, e = .returned v) ∧ Kp F w w' ∧ Ag w' a (And0 F w.heap.size) (putL L x) := by
  obtain ⟨h1, h2⟩ := h
  rcases h2 with ⟨h2, rfl⟩ | ⟨lb, mb, cap, clk, h2, h3, h4⟩
  · refine (heapPush_0 SW x h2).mono ?_
    rintro e w' ⟨hv, lb', mb', cap', X, k1, k2, ks, ha, l1, l2⟩
    refine ⟨hv, (Kp.of_but k1 (by simp; exact fun _ => h1)).trans (Kp.of_but (F := And0 F w.heap.size) k2 ?_) (fun _ h => h), Or.inl h1, Or.inr ⟨lb', mb', cap', 1, ?_, Or.inr l1, Or.inr l2⟩⟩
    · intro k hk _
      simp at hk
      rcases hk with rfl | rfl | rfl
      · exact Or.inl h1
      · exact Or.inr l1
      · exact Or.inr l2
    · have : putL [] x = [x] := by unfold putL; rw [up_eq]; simp
      rw [this]; exact ha
  · refine (heapPush_1 SW L x hx hlen h2).mono ?_
    rintro e w' ⟨hv, lb', cap', X, k1, k2, ks, ha, l1⟩
    have hl' : And0 F w.heap.size lb' := by rcases l1 with rfl | l1; exact Or.inl h3; exact Or.inr l1
    refine ⟨hv, (Kp.of_but k1 ?_).trans (Kp.of_but (F := And0 F w.heap.size) k2 ?_) (fun _ h => h), Or.inl h1, Or.inr ⟨lb', mb, cap', clk + 1, ha, hl', Or.inl h4⟩⟩
    · intro k hk _
      simp at hk
      rcases hk with rfl | rfl | rfl
      · exact h1
      · exact h3
      · exact h4
    · intro k hk _
      simp at hk
      rcases hk with rfl | rfl | rfl
      · exact Or.inl h1
      · exact hl'
      · exact Or.inl h4
theorem ag_of {K : List It} {F : Nat → Prop} {w' : World} {lb mb cap clk : Nat} (h1 : F a) (h3 : F lb) (h4 : F mb) (hb : But [a, lb, mb] w w') (ha : AgL w' a lb mb cap clk K) : Kp F w w' ∧ Ag w' a (And0 F w.heap.size) K := by
  refine ⟨Kp.of_but hb ?_, Or.inl h1, Or.inr ⟨lb, mb, cap, clk, ha, Or.inl h3, Or.inl h4⟩⟩
  intro k hk _
  simp at hk
  rcases hk with rfl | rfl | rfl
  · exact h1
  · exact h3
  · exact h4
end Go.Proofs.Ytideofojmgmboaa
