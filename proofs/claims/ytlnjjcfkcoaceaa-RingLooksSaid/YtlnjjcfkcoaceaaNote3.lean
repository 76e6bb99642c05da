/- A sleep at a note, on a ground; the page's example. -/
import Derived.Test.YtlnjjcfkcoaceaaNote2
namespace Go.Proofs.Ytlnjjcfkcoaceaa
open Go Go.RowKit
set_option linter.unusedVariables false
set_option maxRecDepth 100000
set_option linter.unusedSimpArgs false

theorem Far.next3 {x q g cm b q' g' N : Nat} (h : Far x q g cm b) (hc : cm < N) (hb : b < N) (h1 : q' = x ∨ q' = q ∨ N ≤ q') (h2 : g' = x ∨ N ≤ g') : Far x q' g' cm b := by
  obtain ⟨a1, a2, a3, a4, a5, a6⟩ := h.h
  have k1 : q' ≠ cm := by rcases h1 with rfl | rfl | h1; exact a1; exact a3; omega
  have k2 : q' ≠ b := by rcases h1 with rfl | rfl | h1; exact a2; exact a4; omega
  have k3 : g' ≠ cm := by rcases h2 with rfl | h2; exact a1; omega
  have k4 : g' ≠ b := by rcases h2 with rfl | h2; exact a2; omega
  exact ⟨a1, a2, k1, k2, k3, k4⟩
theorem up3 {B x q N q' : Nat} (hx : B ≤ x) (hq : B ≤ q) (hN : B ≤ N) (h : q' = x ∨ q' = q ∨ N ≤ q') : B ≤ q' := by omega
theorem ne3 {k x q N q' : Nat} (hx : k ≠ x) (hq : k ≠ q) (hN : k < N) (h : q' = x ∨ q' = q ∨ N ≤ q') : k ≠ q' := by omega

section
variable {w0 w w' : World} {cl : Nat} {P T G : Int} {A A' : Option Addr} {cap cap' c b c' b' n : Nat} {s s' s2 : St} {x q g ph : Nat} {t : Int} {asl : Bool}
theorem lay_ne {T' : TypeId} (hL : Lay w cl P T G) (hT : T' ≠ 201) (hI : Is w T' A cap c b n s) (hn : 0 < n) : cl ≠ c ∧ cl ≠ b := by
  have h1 : w.heap[cl]? = some (.cells #[.int .i64 P, .int .i64 T, .int .i64 G] 201 (0, 0)) := hL
  constructor
  · rintro rfl
    have h2 := hI.main
    rw [h1] at h2
    simp at h2
    exact hT h2.2.symm
  · rintro rfl
    obtain ⟨_, _, cs, h2, _⟩ := hI.wds hn
    rw [h1] at h2
    simp at h2
end

/-- The page's example. -/
def ns1 : St := slpS 0 284 289 0 false (fresh (fun _ => 0))
def ns2 : St := stp 2 0 284 0 1 289 ns1
def ns3 : St := slpS 0 284 289 0 true ns2
def ns4 : St := slpS 0 284 289 1 false ns3
end Go.Proofs.Ytlnjjcfkcoaceaa
