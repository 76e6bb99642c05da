/- Programs made up: the mathematics, and rows of words that grow. -/
import Derived.Test.YteibdjbipfimeaaM3
namespace Go.Proofs.Yteibdjbipfimeaa
open Go Go.RowKit
set_option linter.unusedVariables false
set_option linter.unusedSimpArgs false
set_option maxRecDepth 100000

/-- j words, one behind the other; and how many numbers they take. -/
def wAcc (S n : Nat) : Nat → List Nat × Nat
  | 0 => ([], 0)
  | j + 1 => ((wAcc S n j).1 ++ [wv (st S (wAcc S n j).2) n], (wAcc S n j).2 + wu (st S (wAcc S n j).2))
/-- p programs, one behind the other. -/
def pAcc (S n : Nat) : Nat → List Nat × Nat
  | 0 => ([], 0)
  | p + 1 => ((pAcc S n p).1 ++ (if p = 0 then [] else [7]) ++ (wAcc (st S ((pAcc S n p).2 + 1)) n (1 + rem (num (st S (pAcc S n p).2) 1) 8)).1,
      (pAcc S n p).2 + 1 + (wAcc (st S ((pAcc S n p).2 + 1)) n (1 + rem (num (st S (pAcc S n p).2) 1) 8)).2)
theorem wAcc_len (S n : Nat) : ∀ j, (wAcc S n j).1.length = j ∧ (wAcc S n j).2 ≤ 2 * j
  | 0 => ⟨rfl, Nat.le_refl _⟩
  | j + 1 => by
    have h := wAcc_len S n j
    have hu := wu_le (st S (wAcc S n j).2)
    unfold wAcc
    simp only [List.length_append, List.length_cons, List.length_nil]
    omega
theorem pAcc_len (S n : Nat) : ∀ p, (pAcc S n p).1.length ≤ 9 * p ∧ (pAcc S n p).2 ≤ 17 * p
  | 0 => ⟨Nat.le_refl _, Nat.le_refl _⟩
  | p + 1 => by
    have h := pAcc_len S n p
    have hr := rem_lt (num (st S (pAcc S n p).2) 1) 8 (by omega)
    have hw := wAcc_len (st S ((pAcc S n p).2 + 1)) n (1 + rem (num (st S (pAcc S n p).2) 1) 8)
    have h7 : (if p = 0 then ([] : List Nat) else [7]).length ≤ 1 := by split <;> simp
    unfold pAcc
    simp only [List.length_append]
    omega

/-- Words as cells. -/
def wc (l : List Nat) : List Value := l.map fun (x : Nat) => .int .u64 (x : Int)
theorem wc_app (l m : List Nat) : wc (l ++ m) = wc l ++ wc m := by simp [wc]
theorem wc_len (l : List Nat) : (wc l).length = l.length := by simp [wc]
theorem info22 : (Try.prog.info? 22).map (fun i => (i.zero, i.size, i.bytes)) = some (some (.int .u64 0), 1, 8) := by kernel_rfl

/-- A row of words that grows, beside dice at block c (Q: what is known of them). -/
structure PrgOn (w wr : World) (c : Nat) (Q : World → Prop) (A : Option Addr) (k cp : Nat) (l : List Nat) : Prop where
  own : wr.ownsRow w.heap.size 22 1 (.slice A k cp) k (wc l)
  len : l.length = k
  q : Q wr
  but : But [c] w wr
  lt : c < w.heap.size
theorem prg_start (w : World) (c : Nat) (Q : World → Prop) (hq : Q w) (hc : c < w.heap.size) : PrgOn w w c Q none 0 0 [] :=
  ⟨World.ownsRow_nil _ _ _ _, rfl, hq, But.refl _ _, hc⟩
/-- Behind a call that writes the dice alone. -/
theorem PrgOn.call {w wr w1 : World} {c k cp : Nat} {Q Q' : World → Prop} {A : Option Addr} {l : List Nat} (h : PrgOn w wr c Q A k cp l) (hB : But [c] wr w1) (hq : Q' w1) : PrgOn w w1 c Q' A k cp l :=
  ⟨h.own.kept hB.grownBy (Or.inr (fun e => by have := (h.own.lt c e).1; have := h.lt; omega)), h.len, hq, h.but.trans hB, h.lt⟩
theorem PrgOn.alloc {w wr : World} {c k cp : Nat} {Q : World → Prop} {A : Option Addr} {l : List Nat} (h : PrgOn w wr c Q A k cp l) (o : Obj) (hq : Q (wr.alloc o)) : PrgOn w (wr.alloc o) c Q A k cp l :=
  ⟨h.own.alloc o, h.len, hq, h.but.alloc o, h.lt⟩
/-- Behind an append of one word. -/
theorem PrgOn.app {w wr w1 : World} {c k cp g cap x : Nat} {Q Q' : World → Prop} {A : Option Addr} {l : List Nat} (h : PrgOn w wr c Q A k cp l)
    (hO : w1.ownsRow w.heap.size 22 1 (.slice (some ⟨g, 0, none⟩) (k + 1) cap) (k + 1) (wc l ++ [.int .u64 (x : Int)])) (hG : wr.grownBy w1 (Value.slice A k cp).ownBlock) (hq : (∀ j, j < w.heap.size → w1.heap[j]? = wr.heap[j]?) → Q' w1) :
    PrgOn w w1 c Q' (some ⟨g, 0, none⟩) (k + 1) cap (l ++ [x]) := by
  have hlow := h.own.lt
  refine ⟨by rw [wc_app]; exact hO, by rw [List.length_append, h.len]; rfl, hq (fun j hj => ?_), h.but.thenGrown hG (fun j hj => by have := (hlow j hj).1; omega), h.lt⟩
  exact hG.block j (Nat.lt_of_lt_of_le hj h.but.size) (fun e => by have := (hlow j e.symm).1; omega)
end Go.Proofs.Yteibdjbipfimeaa
