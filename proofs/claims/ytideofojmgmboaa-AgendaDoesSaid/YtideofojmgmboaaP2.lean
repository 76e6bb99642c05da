/- The document's list: in order. -/
import Derived.Test.YtideofojmgmboaaP1
namespace Go.Proofs.Ytideofojmgmboaa
open Go Go.RowKit
set_option linter.unusedVariables false
set_option linter.unusedSimpArgs false

/-- an item at its place in a list -/
def dput : List It → It → List It
  | [], x => [x]
  | y :: l, x => if ltI x y then x :: y :: l else y :: dput l x
theorem dput_len : ∀ (l : List It) (x : It), (dput l x).length = l.length + 1
  | [], x => rfl
  | y :: l, x => by
    unfold dput; split
    · simp
    · simp [dput_len l x]
theorem dput_perm : ∀ (l : List It) (x : It), List.Perm (dput l x) (x :: l)
  | [], x => List.Perm.refl _
  | y :: l, x => by
    unfold dput; split
    · exact List.Perm.refl _
    · exact ((dput_perm l x).cons y).trans (List.Perm.swap x y l)
theorem dput_srt : ∀ (l : List It) (x : It), Srt l → (∀ y ∈ l, y.2 ≠ x.2) → Srt (dput l x)
  | [], x, _, _ => List.pairwise_singleton _ _
  | y :: l, x, h, hx => by
    have hh := List.pairwise_cons.1 h
    unfold dput; split
    · rename_i hlt
      refine List.pairwise_cons.2 ⟨fun z hz => ?_, h⟩
      rcases List.mem_cons.1 hz with rfl | hz
      · exact hlt
      · exact lt_trans' hlt (hh.1 z hz)
    · rename_i hlt
      refine List.pairwise_cons.2 ⟨fun z hz => ?_, dput_srt l x hh.2 (fun z hz => hx z (List.mem_cons_of_mem _ hz))⟩
      rcases List.mem_cons.1 ((dput_perm l x).subset hz) with rfl | hz
      · have hne := hx y (List.mem_cons_self)
        rw [lt_iff] at hlt ⊢
        omega
      · exact hh.1 z hz
/-- so far: nothing was put; or it was -/
def PutOn (l : List It) (x : It) (k : Nat) (dn : Bool) (O : List It) : Prop :=
  (dn = false ∧ O = l.take k ∧ dput l x = l.take k ++ dput (l.drop k) x) ∨ (dn = true ∧ O ++ l.drop k = dput l x)
theorem drop_at {l : List It} {k : Nat} (h : k < l.length) : l.drop k = at_ l k :: l.drop (k + 1) := by
  rw [List.drop_eq_getElem_cons h]
  unfold at_
  rw [List.getD_eq_getElem?_getD, List.getElem?_eq_getElem h]
  rfl
theorem take_at {l : List It} {k : Nat} (h : k < l.length) : l.take (k + 1) = l.take k ++ [at_ l k] := by
  rw [List.take_add_one]
  congr 1
  unfold at_
  rw [List.getD_eq_getElem?_getD, List.getElem?_eq_getElem h]
  rfl
theorem PutOn.start (l : List It) (x : It) : PutOn l x 0 false [] := Or.inl ⟨rfl, by simp, by simp⟩
theorem PutOn.stay {l O : List It} {x : It} {k : Nat} (h : PutOn l x k false O) (hk : k < l.length) (hl : ltI x (at_ l k) = false) : PutOn l x (k + 1) false (O ++ [at_ l k]) := by
  rcases h with ⟨_, h1, h2⟩ | ⟨h, _⟩
  · refine Or.inl ⟨rfl, by rw [h1, take_at hk], ?_⟩
    rw [h2, drop_at hk, dput, hl, take_at hk]
    simp
  · cases h
theorem PutOn.put {l O : List It} {x : It} {k : Nat} (h : PutOn l x k false O) (hk : k < l.length) (hl : ltI x (at_ l k) = true) : PutOn l x (k + 1) true ((O ++ [x]) ++ [at_ l k]) := by
  rcases h with ⟨_, h1, h2⟩ | ⟨h, _⟩
  · refine Or.inr ⟨rfl, ?_⟩
    rw [h2, drop_at hk, dput, hl, h1]
    simp
  · cases h
theorem PutOn.on {l O : List It} {x : It} {k : Nat} (h : PutOn l x k true O) (hk : k < l.length) : PutOn l x (k + 1) true (O ++ [at_ l k]) := by
  rcases h with ⟨h, _⟩ | ⟨_, h2⟩
  · cases h
  · refine Or.inr ⟨rfl, ?_⟩
    rw [← h2, drop_at hk]
    simp
theorem PutOn.done {l O : List It} {x : It} (h : PutOn l x l.length true O) : O = dput l x := by
  rcases h with ⟨h, _⟩ | ⟨_, h2⟩
  · cases h
  · simpa using h2
theorem PutOn.last {l O : List It} {x : It} (h : PutOn l x l.length false O) : O ++ [x] = dput l x := by
  rcases h with ⟨_, h1, h2⟩ | ⟨h, _⟩
  · rw [h2, h1]; simp [dput]
  · cases h
end Go.Proofs.Ytideofojmgmboaa
