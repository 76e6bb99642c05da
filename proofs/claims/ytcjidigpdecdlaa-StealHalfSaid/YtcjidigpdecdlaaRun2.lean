/- The reference's routines: their accesses, Release, Wake, and what is done at the access at which one stopped. -/
import Derived.Test.YtcjidigpdecdlaaRun1
import Derived.Test.YtcjidigpdecdlaaRNew
import Derived.Test.YtcjidigpdecdlaaTwo
import Derived.Test.YtcjidigpdecdlaaFlow3
namespace Go.Proofs.Ytcjidigpdecdlaa
open Go Go.RowKit
set_option linter.unusedVariables false
set_option maxRecDepth 100000
set_option linter.unusedSimpArgs false

theorem GotFar.of {A : Option Addr} {l l' : List Nat} (h : GotFar A l) (hs : ∀ k ∈ l', k ∈ l) : GotFar A l' := fun b e hb => h b e (hs b hb)
theorem doS_used {m : Nat} {r : Rn} {k i old new : Int} (h : r.used ≤ m) : (doS m r k i old new).used ≤ m := by
  unfold doS
  split
  · exact h
  split
  · show r.used + 1 ≤ m; omega
  · exact h


/-- What was answered, and one answer more. -/
def gsnoc (g : Nat → Int) (m : Nat) (a : Int) : Nat → Int := fun j => if j = m then a else g j
theorem wordCells_gsnoc (g : Nat → Int) (m : Nat) (a : Int) : wordCells g m ++ [.int .u64 a] = wordCells (gsnoc g m a) (m + 1) := by
  rw [← wordCells_snoc]
  congr 1
  · unfold wordCells
    apply List.map_congr_left
    intro j hj
    have : j ≠ m := by have := List.mem_range.1 hj; omega
    simp [gsnoc, this]
  · simp [gsnoc]

/-- The block of what was answered. -/
def gotL (A : Option Addr) : List Nat := match A with | none => [] | some a => [a.block]
theorem turn_end {w w2 w3 : World} {A A' : Option Addr} {cap cap' cap1 c b n m gg : Nat} {g : Nat → Int} {s' : St} {a : Int} {o : Obj} (hB : But [c, b] w w2) (hI : Is w2 83 A' cap' c b n s') (hf : GotFar A [c, b]) (hg : (A = none ∧ m = 0 ∧ cap = 0) ∨ ∃ gb, A = some ⟨gb, 0, none⟩ ∧ gb < w.heap.size)
    (hown : w3.ownsRow 0 27 1 (.slice (some ⟨gg, 0, none⟩) (m + 1) cap1) (m + 1) (wordCells g m ++ [.int .u64 a])) (hgrow : (w2.alloc o).grownBy w3 (Value.slice A m cap).ownBlock) (hat : (Value.slice A m cap).ownBlock = some gg ∨ gg = w2.heap.size + 1) :
    GotOn w3 (some ⟨gg, 0, none⟩) cap1 (m + 1) (gsnoc g m a) ∧ Is w3 83 A' cap' c b n s' ∧ But (c :: b :: gotL A) w w3 ∧ (A = some ⟨gg, 0, none⟩ ∨ w.heap.size ≤ gg) := by
  have hown' := hown
  rw [wordCells_gsnoc] at hown'
  have hsz := hB.size
  have hA : (A = some ⟨gg, 0, none⟩ ∧ gg < w.heap.size ∧ (Value.slice A m cap).ownBlock = some gg) ∨ (w2.heap.size + 1 = gg) := by
    rcases hat with hat | hat
    · rcases hg with ⟨rfl, -, -⟩ | ⟨gb, rfl, hl⟩
      · simp [Value.ownBlock] at hat
      · simp [Value.ownBlock] at hat
        subst hat
        exact .inl ⟨rfl, hl, rfl⟩
    · exact .inr hat.symm
  have hne : gg ≠ c ∧ gg ≠ b := by
    have h1 := hI.lt
    have h2 := hI.bl
    rcases hA with ⟨e, -, -⟩ | e
    · have := hf gg e
      simp at this
      exact this
    · constructor <;> omega
  have hkeep : ∀ k, k < w2.heap.size → k ∉ gotL A → w3.heap[k]? = w2.heap[k]? := by
    intro k hk hkg
    rw [hgrow.block k (by simp; omega) ?_, heap_al _ hk]
    rcases hg with ⟨rfl, -, -⟩ | ⟨gb, rfl, hl⟩
    · simp [Value.ownBlock]
    · simpa [Value.ownBlock, gotL] using hkg
  have hsub : ∀ k, k ∈ gotL A → k ≠ c ∧ k ≠ b := by
    intro k hk
    rcases hg with ⟨rfl, -, -⟩ | ⟨gb, rfl, hl⟩
    · simp [gotL] at hk
    · simp [gotL] at hk
      subst hk
      have := hf k rfl
      simp at this
      exact this
  have hs3 : w2.heap.size ≤ w3.heap.size := Nat.le_trans (by simp) hgrow.size
  refine ⟨⟨hown'⟩, ?_, ⟨?_, ?_, ?_, by omega, ?_⟩, ?_⟩
  · exact hI.keep hs3 (hkeep c hI.lt fun h => (hsub c h).1 rfl) (fun _ => hkeep b hI.bl fun h => (hsub b h).2 rfl)
  · exact hgrow.os.trans hB.os
  · exact hgrow.tape.trans hB.tape
  · exact hgrow.output.trans hB.output
  · intro k hk hkl
    simp at hkl
    rw [hkeep k (by omega) hkl.2.2, hB.block k hk (by simp; exact ⟨hkl.1, hkl.2.1⟩)]
  · rcases hA with ⟨e, -, -⟩ | e
    · exact .inl e
    · exact .inr (by omega)

end Go.Proofs.Ytcjidigpdecdlaa
