/- The page's example of layer 4, and the walk of the law OrderMany. -/
import Derived.Test.YtmjonifiohcobaaOrder
namespace Go.Proofs.Ytmjonifiohcobaa
open Go Go.RowKit
set_option linter.unusedVariables false
set_option linter.unusedSimpArgs false

theorem lit_sees (w : World) (l : List Nat) (cs : Array Value) (h : cs.toList = cellsN l) : SeesN (w.alloc (.cells cs 3)) (some ⟨w.heap.size, 0, none⟩) l := fun hn =>
  ⟨w.heap.size, 0, rfl, by simp, fun j hj => by
    have hh := heap_alloc_new w (.cells cs 3)
    have hc : cs[j]? = some (.int .i64 ((l.getD j 0 : Nat) : Int)) := by
      rw [← Array.getElem?_toList, h]
      simp [cellsN, hj]
    rw [Nat.zero_add]
    simp only [World.cell?, hh]
    exact hc⟩
theorem SeesN.alloc {w : World} {A : Option Addr} {l : List Nat} (h : SeesN w A l) (o : Obj) : SeesN (w.alloc o) A l := h.below ((Below.refl _ _).alloc (Nat.le_refl _) o)
theorem below_drewN (w : World) (m : Nat) : Below w.heap.size w (w.drewN m) := ⟨rfl, rfl, rfl, Nat.le_refl _, fun _ _ => rfl⟩

theorem awakeO_any (w : World) : Calls Try.prog 30 #[] w fun e w' => e = .returned (.bool true) ∧ Below w.heap.size w w' := by
  have hS := strides_any 4 w (by omega) (by omega)
  rw [show sU 4 4 = [1, 3] by decide] at hS
  go_enter Try.func30, Try.ntmps30
  go_wp2_with fail
  go_at_call 31; refine hS.mono ?_; clear hS; rintro e w1 ⟨v, rfl, hG⟩
  obtain ⟨A, cap, rfl⟩ := hG.spelt
  have hb1 := hG.below
  have hs1 : Hid (SeesN w1 A [1, 3]) := hG.sees
  clear hG
  rw [show ([1, 3] : List Nat).length = 2 from rfl]
  have hQ := sameN_any (w1.alloc (.cells #[.int .i64 1, .int .i64 3] 3)) A (some ⟨w1.heap.size, 0, none⟩) cap 2 [1, 3] [1, 3] rfl (by simp) (hs1.out.alloc _) (lit_sees w1 [1, 3] _ rfl)
  rw [show decide (([1, 3] : List Nat) = [1, 3]) = true from rfl, show ([1, 3] : List Nat).length = 2 from rfl] at hQ
  go_wp2_with fail
  go_at_call 36; refine hQ.mono ?_; clear hQ; rintro e w2 ⟨rfl, m, rfl⟩
  have hb2 : Below w.heap.size w ((w1.alloc (.cells #[.int .i64 1, .int .i64 3] 3)).drewN m) := hb1.trans ((((Below.refl _ _).alloc (Nat.le_refl _) _).trans ((below_drewN _ m).mono (by simp))).mono hb1.size)
  generalize (w1.alloc (.cells #[.int .i64 1, .int .i64 3] 3)).drewN m = w2 at hb2 ⊢
  have hO := order_any 4 6 w2 (by omega)
  rw [show thrL 4 6 = [2, 1, 0, 3] by decide] at hO
  go_wp2_with fail
  go_at_call 27; refine hO.mono ?_; clear hO; rintro e w3 ⟨v, rfl, hG⟩
  obtain ⟨A3, cap3, rfl⟩ := hG.spelt
  have hb3 := hb2.trans (hG.below.mono hb2.size)
  have hs3 : Hid (SeesN w3 A3 [2, 1, 0, 3]) := hG.sees
  clear hG
  rw [show ([2, 1, 0, 3] : List Nat).length = 4 from rfl]
  have hQ := sameN_any (w3.alloc (.cells #[.int .i64 2, .int .i64 1, .int .i64 0, .int .i64 3] 3)) A3 (some ⟨w3.heap.size, 0, none⟩) cap3 4 [2, 1, 0, 3] [2, 1, 0, 3] rfl (by simp) (hs3.out.alloc _) (lit_sees w3 [2, 1, 0, 3] _ rfl)
  rw [show decide (([2, 1, 0, 3] : List Nat) = [2, 1, 0, 3]) = true from rfl, show ([2, 1, 0, 3] : List Nat).length = 4 from rfl] at hQ
  go_wp2_with fail
  go_at_call 36; refine hQ.mono ?_; clear hQ; rintro e w4 ⟨rfl, m4, rfl⟩
  go_wp2_with fail
  go_ret
  exact ⟨rfl, hb3.trans ((((Below.refl _ _).alloc (Nat.le_refl _) _).trans ((below_drewN _ m4).mono (by simp))).mono hb3.size)⟩

theorem orderMany_none (n v u : Int) (w : World) (h : ¬ (1 ≤ n ∧ n ≤ 64) ∨ n < 3) : Calls Try.prog 9 #[.int .i64 n, .int .u64 v, .int .u64 u] w fun e w' => e = .returned (.bool true) ∧ Below w.heap.size w w' := by
  have hm := known_any n w
  by_cases hk : 1 ≤ n ∧ n ≤ 64
  · have h3 : n < 3 := by rcases h with h | h; exact absurd hk h; exact h
    rw [show decide (1 ≤ n ∧ n ≤ 64) = true by simpa using hk] at hm
    clear h
    go_enter Try.func9, Try.ntmps9
    go_wp2_with fail
    go_at_call 29; refine hm.mono ?_; clear hm; rintro e w1 ⟨rfl, rfl⟩
    go_wp2_with fail
    go_at_call 30; refine (awakeO_any _).mono ?_; rintro e w1 ⟨rfl, hb1⟩
    go_wp2_with fail
    go_ret
    exact ⟨rfl, hb1⟩
  · rw [show decide (1 ≤ n ∧ n ≤ 64) = false by simpa using hk] at hm
    clear h hk
    go_enter Try.func9, Try.ntmps9
    go_wp2_with fail
    go_at_call 29; refine hm.mono ?_; clear hm; rintro e w1 ⟨rfl, rfl⟩
    go_wp2_with fail
    go_at_call 30; refine (awakeO_any _).mono ?_; rintro e w1 ⟨rfl, hb1⟩
    go_wp2_with fail
    go_ret
    exact ⟨rfl, hb1⟩

/-- Unlike starts or steps have unlike orders. -/
theorem ord_inj {n V U : Nat} (h3 : 3 ≤ n) : ordOf n V n = ordOf n U n ↔ V % n = U % n ∧ stepAt n V = stepAt n U := by
  constructor
  · intro h
    obtain ⟨a1, a2, a3⟩ := stepAt_le n V (by omega)
    obtain ⟨b1, b2, b3⟩ := stepAt_le n U (by omega)
    unfold ordOf at h
    have h0 := congrArg (fun l => l.getD 0 0) h
    have h1 := congrArg (fun l => l.getD 1 0) h
    replace h0 : (ordL (V % n) (stepAt n V) n n).getD 0 0 = (ordL (U % n) (stepAt n U) n n).getD 0 0 := h0
    replace h1 : (ordL (V % n) (stepAt n V) n n).getD 1 0 = (ordL (U % n) (stepAt n U) n n).getD 1 0 := h1
    rw [ordL_at _ _ _ _ 0 (by omega), ordL_at _ _ _ _ 0 (by omega)] at h0
    rw [ordL_at _ _ _ _ 1 (by omega), ordL_at _ _ _ _ 1 (by omega)] at h1
    have e0 : V % n = U % n := h0
    have e1 : (V % n + stepAt n V) % n = (U % n + stepAt n U) % n := h1
    refine ⟨e0, ?_⟩
    have na : stepAt n V ≠ n := fun e => by rw [e, Nat.gcd_self] at a3; omega
    have nb : stepAt n U ≠ n := fun e => by rw [e, Nat.gcd_self] at b3; omega
    have hlt : U % n < n := Nat.mod_lt _ (by omega)
    rw [e0] at e1
    generalize U % n = st at e1 hlt
    generalize stepAt n V = p at *
    generalize stepAt n U = q at *
    by_cases hp : st + p < n
    · rw [Nat.mod_eq_of_lt hp] at e1
      by_cases hq : st + q < n
      · rw [Nat.mod_eq_of_lt hq] at e1; omega
      · rw [Nat.mod_eq_sub_mod (by omega), Nat.mod_eq_of_lt (by omega)] at e1; omega
    · rw [Nat.mod_eq_sub_mod (by omega), Nat.mod_eq_of_lt (by omega)] at e1
      by_cases hq : st + q < n
      · rw [Nat.mod_eq_of_lt hq] at e1; omega
      · rw [Nat.mod_eq_sub_mod (by omega), Nat.mod_eq_of_lt (by omega)] at e1; omega
  · rintro ⟨h1, h2⟩
    unfold ordOf
    rw [h1, h2]
end Go.Proofs.Ytmjonifiohcobaa
