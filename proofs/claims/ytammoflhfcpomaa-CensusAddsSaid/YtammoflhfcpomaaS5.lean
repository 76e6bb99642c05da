/- CensusAdds: the law, whatever its arguments; two configs that came in. -/
import Derived.Test.YtammoflhfcpomaaS2
import Derived.Test.YtammoflhfcpomaaS4
import Derived.Test.YtammoflhfcpomaaOpen
namespace Go.Proofs.Ytammoflhfcpomaa
open Go Go.ChangeShapes Go.WideShapes Go.ChangeAt Go.RowKit Go.Joins Go.Deep
set_option linter.unusedVariables false
set_option linter.unusedSimpArgs false
set_option maxRecDepth 100000

theorem censusAdds_walk (P0 T0 G0 P1 T1 G1 : Int) (n m cp cq : Nat) (A B : Option Addr) (ev eu : Nat → Ev) (W : World) (hcap : n ≤ cp) (hcap2 : cp ≤ 9223372036854775807) (hA0 : A = none → cp = 0) (hcaq : m ≤ cq) (hcaq2 : cq ≤ 9223372036854775807) (hB0 : B = none → cq = 0)
    (hs : SeesE W W.heap.size A n ev) (hu : SeesE W W.heap.size B m eu) :
    Calls Try.prog 4 #[.agg #[.int .i64 P0, .int .i64 T0, .int .i64 G0, .int .i64 P1, .int .i64 T1, .int .i64 G1], .slice A n cp, .slice B m cq] W fun e W' => e = .returned (.bool true) ∧ Below W.heap.size W W' := by
  by_cases hm : 50 < n ∨ 50 < m ∨ 60 < G0 ∨ 60 < G1
  · exact adds_many P0 T0 G0 P1 T1 G1 n m cp cq A B W hm
  have h1 : n ≤ 50 := by omega
  have h2 : m ≤ 50 := by omega
  have h3 : G0 ≤ 60 := by omega
  have h4 : G1 ≤ 60 := by omega
  by_cases b0 : P0 < 1 ∨ 64 < P0 ∨ G0 < 1 ∨ 65536 < G0
  · by_cases b1 : P1 < 1 ∨ 64 < P1 ∨ G1 < 1 ∨ 65536 < G1
    · exact adds_b0b1 P0 T0 G0 P1 T1 G1 n m cp cq A B W h1 h2 h3 h4 b0 b1
    · obtain ⟨p1, rfl⟩ : ∃ p : Nat, P1 = (p : Int) := ⟨P1.toNat, by omega⟩
      obtain ⟨q1, rfl⟩ : ∃ q : Nat, G1 = (q : Int) := ⟨G1.toNat, by omega⟩
      exact adds_b0k1 P0 T0 G0 T1 p1 q1 n m cp cq A B W h1 h2 h3 (by omega) (by omega) b0 eu hu
  · obtain ⟨p0, rfl⟩ : ∃ p : Nat, P0 = (p : Int) := ⟨P0.toNat, by omega⟩
    obtain ⟨q0, rfl⟩ : ∃ q : Nat, G0 = (q : Int) := ⟨G0.toNat, by omega⟩
    by_cases b1 : P1 < 1 ∨ 64 < P1 ∨ G1 < 1 ∨ 65536 < G1
    · exact adds_k0b1 p0 q0 T0 P1 T1 G1 n m cp cq A B W h1 h2 (by omega) (by omega) h4 b1 ev hs
    · obtain ⟨p1, rfl⟩ : ∃ p : Nat, P1 = (p : Int) := ⟨P1.toNat, by omega⟩
      obtain ⟨q1, rfl⟩ : ∃ q : Nat, G1 = (q : Int) := ⟨G1.toNat, by omega⟩
      by_cases hq : q0 = q1
      · subst hq
        by_cases hp : p0 = p1
        · subst hp
          exact adds_like p0 q0 T0 T1 n m cp cq A B W h1 h2 (by omega) (by omega) hcap hcap2 hA0 hcaq hcaq2 hB0 ev hs eu hu
        · exact adds_unlike_p p0 q0 p1 T0 T1 n m cp cq A B W h1 h2 (by omega) (by omega) (by omega) (by omega) ev hs eu hu hp
      · exact adds_unlike_q p0 q0 p1 q1 T0 T1 n m cp cq A B W h1 h2 (by omega) (by omega) (by omega) (by omega) ev hs eu hu hq
section
variable {H : Type} {enc : TypeId × Value → H} {P : Program} {W : World} {base b0 : Nat} {sp : Nat → Bool} {held : Bool} {t : TypeId} {v : Value} {d : DataW H} {p : List MemPlace} {f0 f1 f2 : Field}
theorem cfg3_cells {e : TypeId} {fuel : Nat} {cs : List Value} {x : DataW H × List MemPlace} (hs : P.underlying e = some (.struct #[f0, f1, f2])) (ho : f0.offset = 0 ∧ f1.offset = 1 ∧ f2.offset = 2)
    (hc : P.cellsOf f0.type = 1 ∧ P.cellsOf f1.type = 1 ∧ P.cellsOf f2.type = 1) (hu : P.underlying f0.type = some (.int .i64) ∧ P.underlying f1.type = some (.int .i64) ∧ P.underlying f2.type = some (.int .i64)) (hl : cs.length = 3)
    (h : DataW.trod enc P W base sp held fuel e cs = some x) : ∃ k p i : Int, cs = [.int .i64 k, .int .i64 p, .int .i64 i] := by
  obtain ⟨xs, n, _, _, _, hxl, hg⟩ := DataW.trod_struct hs h
  have hxl' : xs.length = 3 := hxl
  obtain ⟨k, ek, _⟩ := one_int (T := e) ho.1 hc.1 hu.1 (by omega) (by omega) (hg 0 f0 rfl)
  obtain ⟨p, ep, _⟩ := one_int (T := e) ho.2.1 hc.2.1 hu.2.1 (by omega) (by omega) (hg 1 f1 rfl)
  obtain ⟨i, ei, _⟩ := one_int (T := e) ho.2.2 hc.2.2 hu.2.2 (by omega) (by omega) (hg 2 f2 rfl)
  refine ⟨k, p, i, ?_⟩
  match cs, hl with
  | [c0, c1, c2], _ =>
    simp at ek ep ei
    rw [ek, ep, ei]
theorem open_two {e : TypeId} (ht : P.underlying t = some (.array 2 e)) (hs : P.underlying e = some (.struct #[f0, f1, f2])) (ho : f0.offset = 0 ∧ f1.offset = 1 ∧ f2.offset = 2)
    (hc : P.cellsOf f0.type = 1 ∧ P.cellsOf f1.type = 1 ∧ P.cellsOf f2.type = 1) (hu : P.underlying f0.type = some (.int .i64) ∧ P.underlying f1.type = some (.int .i64) ∧ P.underlying f2.type = some (.int .i64)) (hE : P.cellsOf e = 3) (hC : P.cellsOf t = 6)
    (hv : Value.okWide P W .any b0 t v) (h : DataW.Trod enc P W base (fun _ => true) true t v d p) :
    ∃ a b c x y z : Int, v = .agg #[.int .i64 a, .int .i64 b, .int .i64 c, .int .i64 x, .int .i64 y, .int .i64 z] := by
  obtain ⟨cs, rfl, hsz⟩ : ∃ cs, v = .agg cs ∧ cs.size = P.cellsOf t := by
    simp only [Value.okWide, ht] at hv
    obtain ⟨cs, h1, h2, _⟩ := hv
    exact ⟨cs, h1, h2⟩
  rw [hC] at hsz
  obtain ⟨l⟩ := cs
  match l, hsz with
  | [c0, c1, c2, c3, c4, c5], _ =>
    obtain ⟨fuel, hf⟩ := h
    obtain ⟨xs, m, _, _, _, hxl, hg⟩ := DataW.trod_array ht hf
    have g0 := hg 0 (by omega)
    have g1 := hg 1 (by omega)
    rw [hE, List.getElem?_eq_getElem (by omega)] at g0 g1
    simp [Value.cells] at g0 g1
    obtain ⟨a, b, c, e0⟩ := cfg3_cells hs ho hc hu (by simp) g0
    obtain ⟨x, y, z, e1⟩ := cfg3_cells hs ho hc hu (by simp) g1
    simp at e0 e1
    refine ⟨a, b, c, x, y, z, ?_⟩
    rw [e0.1, e0.2.1, e0.2.2, e1.1, e1.2.1, e1.2.2]
end
end Go.Proofs.Ytammoflhfcpomaa
