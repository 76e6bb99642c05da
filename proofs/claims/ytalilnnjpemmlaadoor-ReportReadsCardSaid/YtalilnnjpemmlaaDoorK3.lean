/- strings.Split at a space, as lists of bytes. -/
import Derived.Test.YtalilnnjpemmlaaDoorU1
namespace Go.Proofs.YtalilnnjpemmlaaDoor
open Go Go.RowKit
set_option linter.unusedVariables false
set_option linter.unusedSimpArgs false

theorem sp_cases (s : List UInt8) : ((32 : UInt8) ∉ s) ∨ ∃ a b, s = a ++ 32 :: b ∧ (32 : UInt8) ∉ a := by
  by_cases h : (32 : UInt8) ∈ s
  · right
    obtain ⟨a, b, rfl, hn⟩ := List.eq_append_cons_of_mem h
    exact ⟨a, b, rfl, hn⟩
  · exact .inl h
theorem spl_count : ∀ (n : Nat) (s : List UInt8), s.length ≤ n → (spl s).length = Lib.count s [32] + 1 := by
  intro n
  induction n with
  | zero =>
    intro s hs
    have : s = [] := List.eq_nil_of_length_eq_zero (by omega)
    subst this
    rw [spl_none (by simp), Lib.count_miss (ix_none (by simp))]; rfl
  | succ n ih =>
    intro s hs
    rcases sp_cases s with h | ⟨a, b, rfl, h⟩
    · rw [spl_none h, Lib.count_miss (ix_none h)]; rfl
    · rw [spl_app h, Lib.count_hit (by simp) (ix_app h)]
      have hd : (a ++ 32 :: b).drop (a.length + [(32 : UInt8)].length) = b := by simp
      rw [hd, List.length_cons, ih b (by simp at hs; omega)]
      omega
theorem spl_len : ∀ (n : Nat) (s : List UInt8), s.length ≤ n → (spl s).length ≤ s.length + 1 ∧ ∀ p ∈ spl s, p.length ≤ s.length := by
  intro n
  induction n with
  | zero =>
    intro s hs
    have : s = [] := List.eq_nil_of_length_eq_zero (by omega)
    subst this
    rw [spl_none (by simp)]; simp
  | succ n ih =>
    intro s hs
    rcases sp_cases s with h | ⟨a, b, rfl, h⟩
    · rw [spl_none h]; simp
    · rw [spl_app h]
      obtain ⟨h1, h2⟩ := ih b (by simp at hs; omega)
      refine ⟨by simp; omega, fun p hp => ?_⟩
      rcases List.mem_cons.1 hp with rfl | hp
      · simp
      · have := h2 p hp; simp; omega
theorem map_bA (l : List ByteArray) (m : List (List UInt8)) (h : l.map (·.data.toList) = m) : l = m.map bA := by
  subst h
  rw [List.map_map]
  conv => lhs; rw [← List.map_id l]
  apply List.map_congr_left
  intro x _
  exact bA_of x _ rfl
theorem splitB_spl (s : List UInt8) : Lib.splitB (bA [32]) 0 (Lib.countB (bA s) (bA [32])) (bA s) = (spl s).map bA := by
  apply map_bA
  rw [Lib.splitB_data]
  unfold Lib.countB
  rw [bA_data, bA_data]
  rfl
/-- the pieces' cells -/
def cellsS (l : List (List UInt8)) : Array Value := (l.map fun p => Value.string (bA p)).toArray
theorem split_any (s : List UInt8) (hs : s.length ≤ 4194304) (w : World) (hT : Tab w) : Calls Tryd.prog 28 #[.string (bA s), .string ⟨#[32]⟩] w fun e w' =>
    e = .returned (.slice (some ⟨w.heap.size, 0, none⟩) (spl s).length (spl s).length) ∧ w' = w.alloc (.cells (cellsS (spl s)) 9) := by
  obtain ⟨m, hm⟩ := hT.mx
  have hz := bA_size s
  refine (strings_Split (bA s) (bA [32]) m w (by omega) hm (by rw [bA_size]; simp)).mono ?_
  rintro e w' ⟨rfl, rfl⟩
  rw [splitB_spl]
  have hc : Lib.countB (bA s) (bA [32]) + 1 = (spl s).length := by
    unfold Lib.countB
    rw [bA_data, bA_data, spl_count s.length s (Nat.le_refl _)]
  rw [hc]
  refine ⟨rfl, ?_⟩
  rw [List.map_map]
  rfl
theorem cellsS_get (l : List (List UInt8)) (i : Nat) (hi : i < l.length) : (cellsS l)[i]? = some (.string (bA (l.getD i []))) := by
  unfold cellsS
  simp [List.getD_eq_getElem?_getD, List.getElem?_eq_getElem hi]
end Go.Proofs.YtalilnnjpemmlaaDoor
