/- CensusCounts: the law. -/
import Derived.Test.YtammoflhfcpomaaL2
import Derived.Test.YtammoflhfcpomaaL3
import Derived.Test.YtammoflhfcpomaaL4
namespace Go.Proofs.Ytammoflhfcpomaa
open Go Go.RowKit
set_option linter.unusedVariables false
set_option linter.unusedSimpArgs false
set_option maxRecDepth 100000

theorem censusCounts_walk (P T G : Int) (n cap : Nat) (A : Option Addr) (ev : Nat → Ev) (W : World) (hcap : n ≤ cap) (hcap2 : cap ≤ 9223372036854775807) (hA : A = none → cap = 0) (hs : SeesE W W.heap.size A n ev) :
    Calls Try.prog 3 #[.agg #[.int .i64 P, .int .i64 T, .int .i64 G], .slice A n cap] W fun e W' => e = .returned (.bool true) ∧ Below W.heap.size W W' := by
  by_cases hm : 100 < n ∨ (60 < G ∧ G ≤ 65536)
  · exact counts_many P T G n cap A W hm (by omega)
  have hn : n ≤ 100 := by omega
  have hgg : G ≤ 60 ∨ 65536 < G := by omega
  by_cases hp0 : P < 1
  · rcases hgg with h | h
    · exact counts_bad_g1b1 P T G n cap A W hn (decide_eq_false (by omega)) hp0
    · exact counts_bad_g2b1 P T G n cap A W hn (decide_eq_true (by omega)) (decide_eq_false (by omega)) hp0
  by_cases hp1 : 64 < P
  · rcases hgg with h | h
    · exact counts_bad_g1b2 P T G n cap A W hn (decide_eq_false (by omega)) (decide_eq_false hp0) hp1
    · exact counts_bad_g2b2 P T G n cap A W hn (decide_eq_true (by omega)) (decide_eq_false (by omega)) (decide_eq_false hp0) hp1
  rcases hgg with h | h
  · by_cases hg0 : G < 1
    · exact counts_bad_g1b3 P T G n cap A W hn (decide_eq_false (by omega)) (decide_eq_false hp0) (decide_eq_false hp1) hg0
    · obtain ⟨p, rfl⟩ : ∃ p : Nat, P = (p : Int) := ⟨P.toNat, by omega⟩
      obtain ⟨gs, rfl⟩ : ∃ gs : Nat, G = (gs : Int) := ⟨G.toNat, by omega⟩
      exact counts_ok p gs T n cap A ev W hn (by omega) (by omega) hcap hA hcap2 hs
  · exact counts_bad_g2b4 P T G n cap A W hn (decide_eq_true (by omega)) (decide_eq_false (by omega)) (decide_eq_false hp0) (decide_eq_false hp1) (decide_eq_false (by omega)) h
end Go.Proofs.Ytammoflhfcpomaa
