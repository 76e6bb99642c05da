/- A list of ints, as it comes in. -/
import Derived.Test.YtggbohakpkplkaaOpen2
import Derived.Test.YtggbohakpkplkaaInts
namespace Go.Proofs.Ytggbohakpkplkaa
open Go Go.ChangeShapes Go.WideShapes Go.ChangeAt Go.RowKit Go.Joins Go.Deep
set_option linter.unusedVariables false
set_option maxRecDepth 100000
set_option linter.unusedSimpArgs false
theorem sees_list {H : Type} {enc : TypeId × Value → H} {P : Program} {W : World} {base b0 : Nat} {t e : TypeId} {v : Value} {d : DataW H} {p : List MemPlace} (ht : P.underlying t = some (.slice e)) (he : P.underlying e = some (.int .i64)) (hc : P.cellsOf e = 1)
    (hv : Value.okWide P W .any b0 t v) (h : DataW.Trod enc P W base (fun _ => true) true t v d p) :
    ∃ (A : Option Addr) (cap : Nat) (l : List Int), v = .slice A l.length cap ∧ l.length ≤ maxLen ∧ SeesL W (.slice A l.length cap) l := by
  obtain ⟨A, n, cap, rfl⟩ := okWide_slice ht hv
  obtain ⟨fuel, hf⟩ := h
  rcases open_ints ht he hc hf with ⟨hcs, _⟩ | ⟨x, l, c, zs, hcs, _, hl, hm, hz, _, hcell, hwz⟩
  · simp [Value.cells] at hcs
    obtain ⟨rfl, rfl, rfl⟩ := hcs
    exact ⟨none, 0, [], rfl, Nat.zero_le _, none, 0, rfl, fun _ => ⟨rfl, rfl⟩, fun h => absurd h (Nat.lt_irrefl 0)⟩
  · simp [Value.cells] at hcs
    obtain ⟨rfl, rfl, rfl⟩ := hcs
    have hz' : zs.length = cap := by simpa using hz
    have hln : (zs.take n).length = n := by rw [List.length_take]; omega
    refine ⟨some x, cap, zs.take n, by rw [hln], by rw [hln]; exact Nat.le_trans hl hm, some x, cap, rfl, (fun h => by cases h), fun hn => ?_⟩
    rw [hln] at hn
    obtain ⟨b, off, spot⟩ := x
    have hs : spot = none := by
      have := hcell 0 (by omega)
      simpa [Addr.add] using World.cell?_spot this
    subst hs
    have hc0 := hcell 0 (by omega)
    simp [Addr.add] at hc0
    refine ⟨b, off, rfl, cell_lt hc0, fun i hi => ?_⟩
    rw [hln] at hi
    have h1 := hcell i (by omega)
    have h2 : (zs.take n).getD i 0 = zs.getD i 0 := by
      rw [List.getD_eq_getElem?_getD, List.getD_eq_getElem?_getD, List.getElem?_take_of_lt hi]
    rw [h2]
    by_cases h0 : i = 0
    · subst h0; simpa [Addr.add] using h1
    · simpa [Addr.add, h0] using h1
theorem lsGo_len (nx : Int → Int) (many : Int) : ∀ (f : Nat) (acc : List Int) (w : Int), (lsGo nx many f acc w).1.length ≤ acc.length + f
  | 0, acc, w => Nat.le_refl _
  | f + 1, acc, w => by
    unfold lsGo
    split
    · show acc.length ≤ _; omega
    · split
      · show acc.length ≤ _; omega
      · have := lsGo_len nx many f (acc ++ [w - 1]) (nx (w - 1))
        rw [List.length_append] at this
        simp at this
        omega
theorem lsOf_len (nx : Int → Int) (many w : Int) (h : 0 ≤ many ∧ many ≤ 65536) : (lsOf nx many w).1.length ≤ 1000000 := by
  have := lsGo_len nx many (many.toNat + 1) [] w
  unfold lsOf
  simp at this
  omega
end Go.Proofs.Ytggbohakpkplkaa
