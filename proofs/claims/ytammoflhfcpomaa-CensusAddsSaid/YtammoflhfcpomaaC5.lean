/- An event is counted. -/
import Derived.Test.YtammoflhfcpomaaD1
import Derived.Test.YtammoflhfcpomaaD2
import Derived.Test.YtammoflhfcpomaaD3
import Derived.Test.YtammoflhfcpomaaD4
import Derived.Test.YtammoflhfcpomaaD5
import Derived.Test.YtammoflhfcpomaaD6
import Derived.Test.YtammoflhfcpomaaD7
namespace Go.Proofs.Ytammoflhfcpomaa
open Go Go.RowKit
set_option linter.unusedVariables false
set_option linter.unusedSimpArgs false
set_option maxRecDepth 100000

theorem count_any (w : World) (x g h gs ps : Nat) (ev : Ev) (K : Nat → Int) (R : Nat → Nat → Int) (P : Nat → Int) (most now : Int) (c : Cen w x g h gs ps K R P most now) (hK : ∀ j, 0 ≤ K j ∧ K j ≤ 900) (hR : ∀ i f, 0 ≤ R i f ∧ R i f ≤ 900) (hP : ∀ j, 0 ≤ P j ∧ P j ≤ 900) (hnow : -900 ≤ now ∧ now ≤ 900) (hmost : 0 ≤ most ∧ most ≤ 900) (hgs : gs ≤ 1000) (hps : ps ≤ 1000) :
    Calls Try.prog 11 #[.pointer (some ⟨x, 0, none⟩), .agg #[.int .i64 ev.kind, .int .i64 ev.g, .int .i64 ev.other, .int .i64 ev.thread, .int .i64 ev.proc]] w (Cnt w x g h gs ps ev K R P most now) := by
  by_cases k1 : ev.kind = 1
  · by_cases hq : ev.g < 0 ∨ (gs : Int) ≤ ev.g
    · exact count_D3 w x g h gs ps ev K R P most now c hK hR hP hnow hmost hgs hps k1 hq
    · exact count_D2 w x g h gs ps ev K R P most now c hK hR hP hnow hmost hgs hps k1 ev.g.toNat (by omega) (by omega)
  by_cases k9 : ev.kind = 9
  · by_cases hq : ev.g < 0 ∨ (gs : Int) ≤ ev.g
    · exact count_D5 w x g h gs ps ev K R P most now c hK hR hP hnow hmost hgs hps k9 hq
    · exact count_D4 w x g h gs ps ev K R P most now c hK hR hP hnow hmost hgs hps k9 ev.g.toNat (by omega) (by omega)
  by_cases k2 : ev.kind = 2
  · by_cases hq : ev.other < 0 ∨ (gs : Int) ≤ ev.other
    · exact count_D7 w x g h gs ps ev K R P most now c hK hR hP hnow hmost hgs hps k2 hq
    · exact count_D6 w x g h gs ps ev K R P most now c hK hR hP hnow hmost hgs hps k2 ev.other.toNat (by omega) (by omega)
  exact count_D1 w x g h gs ps ev K R P most now c hK hR hP hnow hmost hgs hps ⟨k1, k9, k2⟩
end Go.Proofs.Ytammoflhfcpomaa
