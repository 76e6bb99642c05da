/- Slices of words and of entries that came in, as the walks see them. -/
import Derived.Test.YtlpfleefbngdaaaTells
import Derived.ProofKit
import Derived.OpenShut
import Derived.Deep.SlicePairs
namespace Go.Proofs.Ytlpfleefbngdaaa
open Go Go.ChangeShapes Go.WideShapes Go.ChangeAt Go.RowKit Go.Deep
set_option linter.unusedVariables false
set_option linter.unusedSimpArgs false

theorem sees_words {H : Type} {enc : TypeId × Value → H} {P : Program} {W : World} {base b0 : Nat} {t e : TypeId} {v : Value} {d : DataW H} {p : List MemPlace} (ht : P.underlying t = some (.slice e)) (he : P.underlying e = some (.int .u64)) (hc : P.cellsOf e = 1)
    (hv : Value.okWide P W .any b0 t v) (h : DataW.Trod enc P W base (fun _ => true) true t v d p) :
    ∃ (A : Option Addr) (n cap : Nat) (f : Nat → Int), v = .slice A n cap ∧ n ≤ maxLen ∧ (A = none → n = 0 ∧ cap = 0) ∧ SeesU W W.heap.size A n f ∧ ∀ i, i < n → 0 ≤ f i ∧ f i ≤ 18446744073709551615 := by
  obtain ⟨A, n, cap, rfl⟩ := okWide_slice ht hv
  obtain ⟨fuel, hf⟩ := h
  rcases open_ints ht he hc hf with ⟨hcs, _⟩ | ⟨x, l, c, zs, hcs, _, hl, hm, hz, _, hcell, hwz⟩
  · simp [Value.cells] at hcs
    obtain ⟨rfl, rfl, rfl⟩ := hcs
    exact ⟨none, 0, 0, fun _ => 0, rfl, Nat.zero_le _, fun _ => ⟨rfl, rfl⟩, fun h => absurd h (Nat.lt_irrefl 0), fun i hi => absurd hi (Nat.not_lt_zero i)⟩
  · simp [Value.cells] at hcs
    obtain ⟨rfl, rfl, rfl⟩ := hcs
    have hz' : zs.length = cap := by simpa using hz
    refine ⟨some x, n, cap, fun i => zs.getD i 0, rfl, Nat.le_trans hl hm, (fun h => by cases h), ?_, ?_⟩
    · intro hn
      obtain ⟨b, off, spot⟩ := x
      have hs : spot = none := by
        have := hcell 0 (by omega)
        simpa [Addr.add] using World.cell?_spot this
      subst hs
      have hc0 := hcell 0 (by omega)
      simp [Addr.add] at hc0
      refine ⟨b, off, rfl, cell_lt hc0, fun i hi => ?_⟩
      have := hcell i (by omega)
      by_cases h0 : i = 0
      · subst h0; simpa [Addr.add] using this
      · simpa [Addr.add, h0] using this
    · intro i hi
      have : zs.getD i 0 ∈ zs := by
        rw [List.getD_eq_getElem?_getD, List.getElem?_eq_getElem (by omega)]
        exact List.getElem_mem _
      exact bounds_u64 (hwz _ this)

theorem sees_entries {H : Type} {enc : TypeId × Value → H} {P : Program} {W : World} {base b0 : Nat} {t e : TypeId} {f0 f1 : Field} {v : Value} {d : DataW H} {p : List MemPlace} (ht : P.underlying t = some (.slice e)) (he : P.underlying e = some (.struct #[f0, f1]))
    (ce : P.cellsOf e = 2) (o0 : f0.offset = 0) (o1 : f1.offset = 1) (c0 : P.cellsOf f0.type = 1) (c1 : P.cellsOf f1.type = 1) (u0 : P.underlying f0.type = some (.int .i64)) (u1 : P.underlying f1.type = some (.int .i64))
    (hv : Value.okWide P W .any b0 t v) (h : DataW.Trod enc P W base (fun _ => true) true t v d p) :
    ∃ (A : Option Addr) (n cap : Nat) (f g : Nat → Int), v = .slice A n cap ∧ n ≤ maxLen ∧ SeesE W W.heap.size A n f g ∧ ∀ i, i < n → g i ≤ 9223372036854775807 := by
  obtain ⟨A, n, cap, rfl⟩ := okWide_slice ht hv
  obtain ⟨fuel, hf⟩ := h
  rcases open_slice_pairs ht he ce o0 o1 c0 c1 hf with ⟨hcs, _⟩ | ⟨x, l, c, m, k, V0, V1, D0, D1, P0, P1, hcs, _, hl, hm, hmm, _, hcell⟩
  · simp [Value.cells] at hcs
    obtain ⟨rfl, rfl, rfl⟩ := hcs
    exact ⟨none, 0, 0, fun _ => 0, fun _ => 0, rfl, Nat.zero_le _, fun h => absurd h (Nat.lt_irrefl 0), fun i hi => absurd hi (Nat.not_lt_zero i)⟩
  · simp [Value.cells] at hcs
    obtain ⟨rfl, rfl, rfl⟩ := hcs
    have hmm' : m = cap := by simpa using hmm
    subst hmm'
    have hI0 : ∀ i, i < n → ∃ a : Int, V0 i = .int .i64 a := fun i hi => by
      obtain ⟨a, e1, _⟩ := DataW.trod_int u0 (hcell i (by omega)).2.2.1
      exact ⟨a, by simpa using e1⟩
    have hI1 : ∀ i, i < n → ∃ a : Int, V1 i = .int .i64 a ∧ a ≤ 9223372036854775807 := fun i hi => by
      obtain ⟨a, e1, _, wa⟩ := DataW.trod_int u1 (hcell i (by omega)).2.2.2
      exact ⟨a, by simpa using e1, (bounds_i64 wa).2⟩
    refine ⟨some x, n, m, fun i => intOf (V0 i), fun i => intOf (V1 i), rfl, Nat.le_trans hl hm, ?_, (fun i hi => by obtain ⟨a1, e1, h1⟩ := hI1 i hi; show intOf (V1 i) ≤ _; rw [e1]; exact h1)⟩
    intro hn
    obtain ⟨b, off, spot⟩ := x
    have hs : spot = none := by
      have := (hcell 0 (by omega)).1
      simpa [Addr.add] using World.cell?_spot this
    subst hs
    have hc0 := (hcell 0 (by omega)).1
    simp [Addr.add] at hc0
    refine ⟨b, off, rfl, cell_lt hc0, fun i hi => ?_⟩
    obtain ⟨q0, q1, _⟩ := hcell i (by omega)
    obtain ⟨a0, e0⟩ := hI0 i hi
    obtain ⟨a1, e1, _⟩ := hI1 i hi
    rw [e0] at q0
    rw [e1] at q1
    refine ⟨?_, ?_⟩
    · show _ = some (Value.int .i64 (intOf (V0 i)))
      rw [e0]
      by_cases h0 : i = 0
      · subst h0; simpa [Addr.add, intOf] using q0
      · simp only [Addr.add] at q0
        rw [if_neg (by omega)] at q0
        exact q0
    · show _ = some (Value.int .i64 (intOf (V1 i)))
      rw [e1]
      simpa [Addr.add, intOf, Nat.add_assoc] using q1

end Go.Proofs.Ytlpfleefbngdaaa
