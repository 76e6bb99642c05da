/- Both together: what the loops add up. -/
import Derived.Test.YtammoflhfcpomaaA2
import Derived.Test.YtammoflhfcpomaaC4
namespace Go.Proofs.Ytammoflhfcpomaa
open Go Go.RowKit
set_option linter.unusedVariables false
set_option linter.unusedSimpArgs false
set_option maxRecDepth 100000

/-- The first j of both, added up. -/
def addK (K1 K2 : Nat → Int) (j : Nat) : Nat → Int := fun i => if i < j then K1 i + K2 i else 0
def addR (R1 R2 : Nat → Nat → Int) (j : Nat) : Nat → Nat → Int := fun i f => if i < j then R1 i f + R2 i f else 0
theorem addK_0 (K1 K2 : Nat → Int) : (fun _ => (0 : Int)) = addK K1 K2 0 := by funext i; unfold addK; rw [if_neg (by omega)]
theorem addR_0 (R1 R2 : Nat → Nat → Int) : (fun _ _ => (0 : Int)) = addR R1 R2 0 := by funext i f; unfold addR; rw [if_neg (by omega)]
theorem addK_s (K1 K2 : Nat → Int) (j : Nat) : (fun i => if i = j then K1 j + K2 j else addK K1 K2 j i) = addK K1 K2 (j + 1) := by
  funext i
  unfold addK
  by_cases h : i = j
  · subst h; simp
  · by_cases h2 : i < j
    · rw [if_neg h, if_pos h2, if_pos (by omega)]
    · rw [if_neg h, if_neg h2, if_neg (by omega)]
section
variable {w wr w' : World} {K1 K2 : Nat → Int} {g1 h1 g2 h2 x g h gs p : Nat} {M1 N1 M2 N2 : Int} {K K' : Nat → Int} {R R' : Nat → Nat → Int} {P P' : Nat → Int} {most most' now now' : Int}
theorem AddI.but {l : List Nat} (F : AddI w wr K1 K2 g1 h1 g2 h2 x g h gs p M1 N1 M2 N2 K R P most now) (hb : But l wr w') (hl : ∀ k ∈ l, w.heap.size + 2 < k) (c : Cen w' x g h gs p K' R' P' most' now') : AddI w w' K1 K2 g1 h1 g2 h2 x g h gs p M1 N1 M2 N2 K' R' P' most' now' := by
  have no : ∀ k, k ≤ w.heap.size + 2 → k ∉ l := fun k hk hm => absurd (hl k hm) (by omega)
  exact ⟨c, F.bel.trans (hb.below (fun k hk => by have := hl k hk; omega) F.bel.size), F.b1.but hb (no _ (by omega)), F.b2.but hb (no _ (by omega)), (hb.block _ (block_lt F.res) (no _ (by omega))).trans F.res, F.lo⟩
theorem AddI.setK {j : Nat} (F : AddI w wr K1 K2 g1 h1 g2 h2 x g h gs p M1 N1 M2 N2 (addK K1 K2 j) R P most now) (hj : j < 12) : AddI w (wr.setCell ⟨x, j, none⟩ (.int .i64 (K1 j + K2 j))).drew K1 K2 g1 h1 g2 h2 x g h gs p M1 N1 M2 N2 (addK K1 K2 (j + 1)) R P most now :=
  F.but (l := [x]) (((But.refl _ _).set (Or.inl (by simp)) _ _).drew) (by have := F.lo; simp; omega) (cen_k F.cen j hj _ (addK_s K1 K2 j))
theorem AddI.setP {P1 P2 : Nat → Int} {j : Nat} (F : AddI w wr K1 K2 g1 h1 g2 h2 x g h gs p M1 N1 M2 N2 K R (addK P1 P2 j) most now) (hj : j < p) : AddI w (wr.setCell ⟨h, j, none⟩ (.int .i64 (P1 j + P2 j))).drew K1 K2 g1 h1 g2 h2 x g h gs p M1 N1 M2 N2 K R (addK P1 P2 (j + 1)) most now := by
  have hb : But [h] wr (wr.setCell ⟨h, j, none⟩ (.int .i64 (P1 j + P2 j))).drew := ((But.refl _ _).set (Or.inl (by simp)) _ _).drew
  have hn := F.cen.ne
  have e := F.cen.procs.set j hj (P1 j + P2 j)
  rw [addK_s] at e
  exact F.but hb (by have := F.lo; simp; omega) ⟨F.cen.main.but hb (by simp; omega), F.cen.rows.but hb (by simp; omega), e, hn⟩
theorem AddI.setR {R1 R2 : Nat → Nat → Int} {j : Nat} (F : AddI w wr K1 K2 g1 h1 g2 h2 x g h gs p M1 N1 M2 N2 K (addR R1 R2 j) P most now) (hj : j < gs) : AddI w (((wr.setCell ⟨g, j * 3, none⟩ (.int .i64 (R1 j 0 + R2 j 0))).setCell ⟨g, j * 3 + 1, none⟩ (.int .i64 (R1 j 1 + R2 j 1))).setCell ⟨g, j * 3 + 2, none⟩ (.int .i64 (R1 j 2 + R2 j 2))) K1 K2 g1 h1 g2 h2 x g h gs p M1 N1 M2 N2 K (addR R1 R2 (j + 1)) P most now := by
  have hb : But [g] wr (((wr.setCell ⟨g, j * 3, none⟩ (.int .i64 (R1 j 0 + R2 j 0))).setCell ⟨g, j * 3 + 1, none⟩ (.int .i64 (R1 j 1 + R2 j 1))).setCell ⟨g, j * 3 + 2, none⟩ (.int .i64 (R1 j 2 + R2 j 2))) := ((((But.refl _ _).set (Or.inl (by simp)) _ _).set (Or.inl (by simp)) _ _).set (Or.inl (by simp)) _ _)
  have hn := F.cen.ne
  have e := ((F.cen.rows.set j 0 hj (by omega) (R1 j 0 + R2 j 0)).set j 1 hj (by omega) (R1 j 1 + R2 j 1)).set j 2 hj (by omega) (R1 j 2 + R2 j 2)
  have e2 : RowsAt _ g gs (addR R1 R2 (j + 1)) := RowsAt.ext e (by
    intro i hi
    unfold addR
    by_cases h : i = j
    · subst h; simp
    · by_cases h2 : i < j
      · simp [h, h2, show i < j + 1 by omega]
      · simp [h, h2, show ¬ i < j + 1 by omega])
  exact F.but hb (by have := F.lo; simp; omega) ⟨F.cen.main.but hb (by simp; omega), e2, F.cen.procs.but hb (by simp; omega), hn⟩
theorem AddI.below (F : AddI w wr K1 K2 g1 h1 g2 h2 x g h gs p M1 N1 M2 N2 K R P most now) (hb : Below wr.heap.size wr w') : AddI w w' K1 K2 g1 h1 g2 h2 x g h gs p M1 N1 M2 N2 K R P most now :=
  F.but (l := []) (But.of_below hb) (by simp) (F.cen.but (l := []) (But.of_below hb) (by simp) (by simp) (by simp))
end
end Go.Proofs.Ytammoflhfcpomaa
