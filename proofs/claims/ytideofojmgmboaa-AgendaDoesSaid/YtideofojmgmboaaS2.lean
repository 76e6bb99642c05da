/- The library's sort, at the agenda's items. -/
import Derived.Test.YtideofojmgmboaaS1
import Derived.Test.YtideofojmgmboaaC3
namespace Go.Proofs.Ytideofojmgmboaa
open Go Go.RowKit Go.Shelf Go.Sort
set_option linter.unusedVariables false
set_option linter.unusedSimpArgs false
set_option maxRecDepth 100000

def encI (x : It) : List Value := [.int .i64 x.1, .int .i64 x.2]
theorem swo_it : SWO (ltOf ordI) where
  irrefl x := lt_irr x
  trans x y z h1 h2 := lt_trans' h1 h2
  ntrans x y z h1 h2 := le_trans' h2 h1
theorem srt_unique : ∀ {S T : List It}, Srt S → T.Pairwise (fun x y => (!(ltOf ordI) y x) = true) → List.Perm S T → S = T
  | [], T, _, _, h => (h.symm.eq_nil).symm
  | s :: S, [], _, _, h => by have := h.eq_nil; cases this
  | s :: S, t :: T, hs, ht, h => by
    have hs' := List.pairwise_cons.1 hs
    have ht' := List.pairwise_cons.1 ht
    have e : s = t := by
      have h1 : t ∈ s :: S := h.symm.subset (List.mem_cons_self)
      have h2 : s ∈ t :: T := h.subset (List.mem_cons_self)
      rcases List.mem_cons.1 h1 with e | h1
      · exact e.symm
      · rcases List.mem_cons.1 h2 with e | h2
        · exact e
        · have a := hs'.1 t h1
          have b := ht'.1 s h2
          have c : ltI s t = false := by simpa [ltOf, ltI] using b
          rw [a] at c; cases c
    subst e
    rw [srt_unique hs'.2 ht'.2 (h.cons_inv)]
theorem flatK_get (L : List It) (i : Nat) (h : i < L.length) : (flatK encI 2 L.toArray)[2 * i]! = .int .i64 (at_ L i).1 ∧ (flatK encI 2 L.toArray)[2 * i + 1]! = .int .i64 (at_ L i).2 := by
  have e : L[i]! = at_ L i := by unfold at_; rw [List.getD_eq_getElem?_getD, List.getElem?_eq_getElem h]; simp [h]
  constructor
  · rw [get_flatK _ _ _ _ (by simp; omega)]
    rw [show 2 * i / 2 = i by omega, show 2 * i % 2 = 0 by omega]
    simp [encI, e]
  · rw [get_flatK _ _ _ _ (by simp; omega)]
    rw [show (2 * i + 1) / 2 = i by omega, show (2 * i + 1) % 2 = 1 by omega]
    simp [encI, e]
theorem holdsI {w : World} {g : Nat} {cur : Array Value} {L : List It} (hg : w.heap[g]? = some (.cells cur 23 (0, 0))) (ht : cur.toList.take (2 * L.length) = flat L) : HoldsK encI 2 w g 0 L.toArray := by
  intro j hj
  have hj' : j < L.length * 2 := by simpa using hj
  rw [cell_of hg, Nat.zero_add, frozen_of hg]
  refine ⟨?_, rfl⟩
  have h0 : (flat L)[j]? = cur[j]? := by rw [← ht, List.getElem?_take, if_pos (by omega), Array.getElem?_toList]
  rw [← h0]
  obtain ⟨i, hi⟩ : ∃ i, i = j / 2 := ⟨_, rfl⟩
  have hil : i < L.length := by omega
  have hk := flatK_get L i hil
  rcases (show j = 2 * i ∨ j = 2 * i + 1 by omega) with e | e
  · subst e; rw [flat_get0 L i hil, hk.1]; rfl
  · subst e; rw [flat_get1 L i hil, hk.2]; rfl
theorem sort_any (w : World) (g cap : Nat) (cur : Array Value) (L S : List It) (hg : w.heap[g]? = some (.cells cur 23 (0, 0))) (ht : cur.toList.take (2 * L.length) = flat L) (hp : List.Perm L S) (hs : Srt S) (hl : L.length < 4611686018427387904) :
    Calls Try.prog 27 #[.slice (some ⟨g, 0, none⟩) L.length cap, .func (.func 28) #[] #[]] w fun e w' => (∃ v, e = .returned v) ∧ But [g] w w' ∧ Sees w' g (some ⟨g, 0, none⟩) S := by
  have hH := holdsI hg ht
  have hlt := block_lt hg
  have hcmp : CmpLays Try.prog 28 #[] encI 2 ordI g 0 L.toArray.size w := fun m os dk _ x y => order_grow x y _
  have eg : ∀ args w, (callFunc 28 args).run Try.prog w = .ok (.enter 28 args) w := enters_of Try.func28 (by kernel_rfl) rfl
  have hcon := AnyQ.slices_SortFunc_total sortIt 2 (fun w => by kernel_rfl) (fun w => by kernel_rfl) encI (fun _ => rfl) (fun x v hv => by simp [encI] at hv; rcases hv with rfl | rfl <;> rfl) ordI swo_it 28 #[] g 0 cap L.toArray w eg hcmp hH hlt (by simpa using hl) (fun x y h1 h2 => eq_of h1 h2)
  have hsz : L.toArray.size = L.length := by simp
  rw [hsz] at hcon
  refine Calls.mono hcon ?_
  rintro e w' ⟨rfl, n, os, rfl⟩
  have hT : (L.toArray.toList.mergeSort fun x y => !(ltOf ordI) y x) = S := by
    refine (srt_unique hs ?_ ?_).symm
    · refine List.pairwise_mergeSort (le := fun x y => !(ltOf ordI) y x) ?_ ?_ _
      · intro a b c h1 h2
        simp at h1 h2 ⊢
        exact le_trans' h1 h2
      · intro a b
        simp
        cases h : ltOf ordI b a
        · exact Or.inl rfl
        · exact Or.inr (lt_asym h)
    · exact hp.symm.trans (List.mergeSort_perm _ _).symm
  rw [hT]
  have hSl : S.toArray.size = L.toArray.size := by simp [hp.length_eq]
  have hR := holdsK_sortWorldK_c encI 2 w g 0 L.toArray S.toArray n os hH hlt hSl
  refine ⟨⟨_, rfl⟩, ?_, fun hS => ⟨0, rfl, fun j hj => ?_⟩⟩
  · refine ⟨rfl, rfl, rfl, size_sortWorldK_c encI 2 w g 0 n S.toArray os, fun k hk hm => ?_⟩
    have hm' : k ≠ g := by simpa using hm
    show ((w.heap.modify g _) ++ os)[k]? = _
    rw [Array.getElem?_append_left (by rw [Array.size_modify]; exact hk), Array.getElem?_modify, if_neg (fun e => hm' e.symm)]
  · have h0 := (hR.cell (i := j) (c := 0) (by simpa using hj) (by omega)).1
    have h1 := (hR.cell (i := j) (c := 1) (by simpa using hj) (by omega)).1
    have e : S[j]! = at_ S j := by unfold at_; rw [List.getD_eq_getElem?_getD, List.getElem?_eq_getElem hj]; simp [hj]
    simp [encI, e] at h0 h1
    simp only [Nat.zero_add]
    exact ⟨h0, h1⟩
end Go.Proofs.Ytideofojmgmboaa
