/- CensusCounts: the walk of the law. -/
import Derived.Test.YtammoflhfcpomaaF2
namespace Go.Proofs.Ytammoflhfcpomaa
open Go Go.RowKit
set_option linter.unusedVariables false
set_option linter.unusedSimpArgs false
set_option maxRecDepth 100000

set_option maxHeartbeats 4000000 in
theorem counts_many (P T G : Int) (n cap : Nat) (A : Option Addr) (W : World) (h : 100 < n ∨ (60 < G ∧ G ≤ 65536)) (hcap2 : n ≤ 9223372036854775807) :
    Calls Try.prog 3 #[.agg #[.int .i64 P, .int .i64 T, .int .i64 G], .slice A n cap] W fun e W' => e = .returned (.bool true) ∧ Below W.heap.size W W' := by
  have HA := Lib.hid awake_any
  have HB0 := Lib.hid (fun o => (Below.refl W.heap.size W).alloc (Nat.le_refl _) o)
  by_cases hn : 100 < n
  · go_enter Try.func3, Try.ntmps3
    go_wp2_with fail
    refine (HA.out _).mono ?_
    rintro e w1 ⟨rfl, hb⟩
    have HB1 := Lib.hid ((HB0.out _).trans (hb.mono (by rw [size_al]; omega)))
    clear hb
    go_wp2_with fail
    go_ret
    exact ⟨rfl, HB1.out⟩
  · obtain ⟨h1, h2⟩ : 60 < G ∧ G ≤ 65536 := by omega
    have d1 : decide ((100 : Int) < (n : Int)) = false := decide_eq_false (by omega)
    clear h
    go_enter Try.func3, Try.ntmps3
    go_wp2_with fail
    refine (HA.out _).mono ?_
    rintro e w1 ⟨rfl, hb⟩
    have HB1 := Lib.hid ((HB0.out _).trans (hb.mono (by rw [size_al]; omega)))
    clear hb
    go_wp2_with fail
    go_ret
    exact ⟨rfl, HB1.out⟩
theorem zero_total (w : World) : Calls Try.prog 7 #[.agg zero16] w fun e w' => e = .returned (.int .i64 0) ∧ Below w.heap.size w w' :=
  total_any w (fun _ => 0) none 0 0 none 0 0 0 0 (fun _ => ⟨by omega, by omega⟩)
end Go.Proofs.Ytammoflhfcpomaa
