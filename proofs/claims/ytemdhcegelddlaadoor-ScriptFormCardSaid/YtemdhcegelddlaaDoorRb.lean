/- A range over a function whose iterator keeps what is left in a box of its own. -/
import Derived.RangeFuncNested
import Derived.RangeFuncBound
import Derived.RangeFuncCalls
import Derived.RangeFuncLeaves
import Derived.WalkKit
namespace Go.Proofs.YtemdhcegelddlaaDoor
open Go Go.RowKit
set_option linter.unusedVariables false
variable {F : Fence} {n : Nat} {P : Program}

/-- only the blocks of T are others, of those that were there -/
structure Kt (T : Nat → Prop) (w w' : World) : Prop where
  os : w'.os = w.os
  tape : w'.tape = w.tape
  output : w'.output = w.output
  size : w.heap.size ≤ w'.heap.size
  block : ∀ k, k < w.heap.size → ¬ T k → w'.heap[k]? = w.heap[k]?
theorem Kt.alloc (T : Nat → Prop) (w : World) (o : Obj) : Kt T w (w.alloc o) := ⟨rfl, rfl, rfl, by simp, fun k hk _ => Below.heap_alloc w o k hk⟩
theorem Kt.put {T : Nat → Prop} (w : World) (l : Nat) (o : Obj) (h : T l) : Kt T w (w.putObj l o) := ⟨rfl, rfl, rfl, by simp, fun k _ hk => World.putObj_heap_other (fun e => hk (e ▸ h))⟩
/-- what the iterator at g says: its box is b -/
def Gives {α : Type} (F : Fence) (n : Nat) (P : Program) (g : Nat) (lb : Array Value) (encs : α → Array Value) (b : Nat) (S Sp : List α → Prop) (w : World) : Prop :=
  ∀ (l : Nat) (J Jx : List α → World → Prop) (W : World), Below w.heap.size w W → l ≠ b →
    (∀ s X Y, J s X → Kt (fun k => k = b) X Y → J s Y) → (∀ s X Y, Jx s X → Kt (fun k => k = b) X Y → Jx s Y) →
    (∀ pre x W1, Sp (pre ++ [x]) → J pre W1 → YieldAt F (n - 1) P l (encs x) W1 fun e W' =>
      (e = .returned (.bool true) ∧ J (pre ++ [x]) W' ∧ W'.heap[b]? = W1.heap[b]? ∧ W1.heap.size ≤ W'.heap.size) ∨ (e = .returned (.bool false) ∧ Jx (pre ++ [x]) W')) →
    J [] W →
    CallsIn F n P g (#[.func (.yield l) #[] #[]] ++ lb) W fun e W' => (∃ v, e = .returned v) ∧ ((∃ xs, S xs ∧ J xs W') ∨ (∃ pre, Sp pre ∧ Jx pre W'))
/-- how a round may be left: B: the record's block but one -/
def roundOk {α : Type} (b B : Nat) (I Ix : List α → World → Prop) (xs : List α) (W : World) : Exit → Act → World → Prop
  | .normal, _, W' => (W'.heap[B]? = W.heap[B]? ∧ W'.heap[B + 1]? = W.heap[B + 1]?) ∧ W'.heap[b]? = W.heap[b]? ∧ W.heap.size ≤ W'.heap.size ∧ I xs W'
  | .ret, _, W' => (W'.heap[B]? = W.heap[B]? ∧ W'.heap[B + 1]? = W.heap[B + 1]?) ∧ Ix xs W'
  | _, _, _ => False
theorem range_box {α : Type} {g : Operand} {ps : Array Tmp} {assign body : Code} {Q : Exit → Act → World → Prop} {a : Act} {w : World}
    (hro : F.round = none) (h1 : 1 ≤ n) {gf : Nat} {lb : Array Value} (hg : a.eval g = .func (.func gf) #[] lb) (hFg : F.fn gf) (eg : ∀ args w, (callFunc gf args).run P w = .ok (.enter gf args) w)
    {encs : α → Array Value} {b : Nat} {S Sp : List α → Prop} (hseq : Gives F (n - 1) P gf lb encs b S Sp w) (hb : b < w.heap.size) (hps : ∀ x, (encs x).size = ps.size)
    (I Ix : List α → World → Prop) (hI : ∀ s X Y, I s X → Kt (fun k => k = b ∨ k = w.heap.size + 1) X Y → I s Y) (hIx : ∀ s X Y, Ix s X → Kt (fun k => k = b ∨ k = w.heap.size + 1) X Y → Ix s Y) (h0 : I [] w) (a₁ : α → Act)
    (hassign : ∀ (l : Nat) (x : α) (W : World) (K : Act → World → Prop), K (a₁ x) W →
      assign.wpIn (F.inRound l) (n - 1 - 1) P (Exit.then K (fun _ _ _ => False)) { tmps := (ps.zip (encs x)).foldl (fun t (p, v) => t.setIfInBounds p v) a.tmps, defers := [] } W)
    (hbody : ∀ (pre : List α) (x : α) (W : World), Sp (pre ++ [x]) → I pre W → w.heap.size + 1 < W.heap.size → body.wpIn (F.inRound (w.heap.size + 1)) (n - 1 - 1) P (roundOk b w.heap.size I Ix (pre ++ [x]) W) (a₁ x) W)
    (hdone : ∀ (xs : List α) (W : World), S xs → I xs W → W.heap[w.heap.size]? = some (.deferred (some [])) → Q .normal { a with defers := { target := .collected w.heap.size, args := #[] } :: a.defers } W)
    (hstop : ∀ (pre : List α) (W : World), Sp pre → Ix pre W → W.heap[w.heap.size]? = some (.deferred (some [])) → Code.ret.wpIn F n P Q { a with defers := { target := .collected w.heap.size, args := #[] } :: a.defers } W) :
    (Code.rangeFunc g ps assign body).wpIn F n P Q a w := by
  refine wpIn_rangeFunc fun fn hfn => ?_
  rw [hro]
  have hen := run_enterLoop_outer (P := P) (w := w) fn a.tmps ps assign body
  generalize hB : w.heap.size = B at *
  obtain ⟨rd, hrd⟩ : ∃ rd : LoopState → Option Code → Obj, rd = fun st pe => .loop { state := st, pending := pe, fn, tmps := a.tmps, params := ps, assign, body, defers := B } := ⟨_, rfl⟩
  obtain ⟨W1, hW1⟩ : ∃ W1, W1 = (w.alloc (.deferred (some []))).alloc (rd .ready none) := ⟨_, rfl⟩
  have s1 : (w.alloc (.deferred (some []))).heap.size = B + 1 := by simp [hB]
  have L1 : W1.heap[B + 1]? = some (rd .ready none) := by rw [hW1, ← s1]; exact World.alloc_heap_new _ _
  have D1 : W1.heap[B]? = some (.deferred (some [])) := by
    rw [hW1, Below.heap_alloc _ _ _ (by omega), ← hB]; exact World.alloc_heap_new _ _
  have I1 : I [] W1 := by rw [hW1]; exact hI _ _ _ (hI _ _ _ h0 (Kt.alloc _ _ _)) (Kt.alloc _ _ _)
  have B1 : Below B w W1 := by rw [hW1, ← hB]; exact (((Below.refl _ w).alloc (Nat.le_refl _) _).alloc (by simp) _)
  rw [hrd] at hW1 
  refine ⟨B + 1, _, W1, { target := .fn (.func gf) lb, args := #[.func (.yield (B + 1)) #[] #[]] }, W1, gf, #[.func (.yield (B + 1)) #[] #[]] ++ lb, W1, by rw [hW1]; exact hen, ?_, ?_, ?_, fun _ => h1, ?_⟩
  · simp only [resolve, hg]
    simp [go_sem]
  · intro f' hf'; simp [Target.leads] at hf'; subst hf'; exact hFg
  · simp [invoke, go_sem, eg]
  have far : ∀ {X Y : World} (k : Nat), k ≠ b → k < X.heap.size → Kt (fun k => k = b) X Y → Y.heap[k]? = X.heap[k]? := fun k hk hl h => h.block k hl hk
  have lt_of : ∀ {X : World} {k : Nat} {o : Obj}, X.heap[k]? = some o → k < X.heap.size := fun h => (Array.getElem?_eq_some_iff.1 h).1
  refine (hseq (B + 1) (fun pre W => I pre W ∧ W.heap[B + 1]? = some (rd .ready none) ∧ W.heap[B]? = some (.deferred (some [])))
    (fun pre W => Ix pre W ∧ W.heap[B + 1]? = some (rd .done (some .ret)) ∧ W.heap[B]? = some (.deferred (some []))) W1 (by rw [hB]; exact B1) (by omega) ?_ ?_ ?_ ⟨I1, L1, D1⟩).mono ?_
  · rintro s X Y ⟨h1, h2, h3⟩ hk
    exact ⟨hI s X Y h1 ⟨hk.os, hk.tape, hk.output, hk.size, fun k hl hn => hk.block k hl (fun e => hn (Or.inl e))⟩, (far _ (by omega) (lt_of h2) hk).trans h2, (far _ (by omega) (lt_of h3) hk).trans h3⟩
  · rintro s X Y ⟨h1, h2, h3⟩ hk
    exact ⟨hIx s X Y h1 ⟨hk.os, hk.tape, hk.output, hk.size, fun k hl hn => hk.block k hl (fun e => hn (Or.inl e))⟩, (far _ (by omega) (lt_of h2) hk).trans h2, (far _ (by omega) (lt_of h3) hk).trans h3⟩
  · rintro pre x W hsp ⟨hi, hl, hd⟩
    have hlt := lt_of hl
    rw [hrd] at hl
    have hy := run_yield (P := P) (args := encs x) hl (hps x)
    refine ⟨fn, _, assign, body, hy, roundIn_of_wpIn hfn (hassign _ x W _ ⟨_, run_beginRound hl rfl, ?_⟩)⟩
    generalize hW2 : W.putObj (B + 1) _ = W2
    have k2 : Kt (fun k => k = b ∨ k = B + 1) W W2 := by rw [← hW2]; exact Kt.put _ _ _ (Or.inr rfl)
    have l2 : W2.heap[B + 1]? = some (rd .busy none) := by rw [← hW2, hrd]; exact World.putObj_heap_same hlt
    have d2 : W2.heap[B]? = some (.deferred (some [])) := by rw [← hW2]; exact (World.putObj_heap_other (by omega)).trans hd
    have b2 : W2.heap[b]? = W.heap[b]? := by rw [← hW2]; exact World.putObj_heap_other (by omega)
    have sz2 : W2.heap.size = W.heap.size := by rw [← hW2]; simp
    refine wpIn_mono (hbody pre x W2 hsp (hI _ _ _ hi k2) (by rw [sz2]; exact hlt)) ?_
    intro e a3 W3 hp
    have fin : ∀ jump : Option Code, W3.heap[B + 1]? = W2.heap[B + 1]? → (Instr.endRound (B + 1) jump).run P W3 = .ok (.bool jump.isNone) (W3.putObj (B + 1) (rd (if jump.isNone then .ready else .done) jump)) ∧ B + 1 < W3.heap.size := fun jump h3 => by
      have h4 := h3.trans l2
      have hl4 := lt_of h4
      rw [hrd] at h4 ⊢
      exact ⟨run_endRound (P := P) jump h4, hl4⟩
    cases e with
    | normal =>
      obtain ⟨⟨q1, q2⟩, q3, q4, q5⟩ := hp
      obtain ⟨r1, r2⟩ := fin none q2
      exact ⟨_, _, r1, .inl ⟨rfl, ⟨hI _ _ _ q5 (Kt.put _ _ _ (Or.inr rfl)), World.putObj_heap_same r2, (World.putObj_heap_other (by omega)).trans (q1.trans d2)⟩, (World.putObj_heap_other (by omega)).trans (q3.trans b2), by rw [World.putObj_size]; omega⟩⟩
    | ret =>
      obtain ⟨⟨q1, q2⟩, q5⟩ := hp
      obtain ⟨r1, r2⟩ := fin (some .ret) q2
      exact ⟨_, _, r1, .inr ⟨rfl, hIx _ _ _ q5 (Kt.put _ _ _ (Or.inr rfl)), World.putObj_heap_same r2, (World.putObj_heap_other (by omega)).trans (q1.trans d2)⟩⟩
    | exit id => exact hp.elim
    | goto t => exact hp.elim
    | panic c => exact hp.elim
    | outgrown => exact hp.elim
  · rintro e W2 ⟨⟨v, rfl⟩, (⟨xs, hS, hi, hl, hd⟩ | ⟨pre, hS, hi, hl, hd⟩)⟩
    · rw [hrd] at hl
      exact ⟨none, _, run_endLoop (P := P) hl (by simp), hdone xs _ hS (hI _ _ _ hi (Kt.put _ _ _ (Or.inr rfl))) ((World.putObj_heap_other (by omega)).trans hd)⟩
    · rw [hrd] at hl
      exact ⟨some .ret, _, run_endLoop (P := P) hl (by simp), hstop pre _ hS (hIx _ _ _ hi (Kt.put _ _ _ (Or.inr rfl))) ((World.putObj_heap_other (by omega)).trans hd)⟩
end Go.Proofs.YtemdhcegelddlaaDoor
