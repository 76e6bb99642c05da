/- The law's same. -/
import Derived.Test.YtemdhcegelddlaaDoorE1
namespace Go.Proofs.YtemdhcegelddlaaDoor
open Go Go.RowKit
set_option linter.unusedVariables false
set_option linter.unusedSimpArgs false

set_option maxRecDepth 100000 in
set_option maxHeartbeats 4000000 in
theorem same_any (w : World) (b b' : Nat) (A A' : Option Addr) (cp cp' : Nat) (l l' : List En) (n n' : Nat) (hn : l.length = n) (hn' : l'.length = n') (h1 : n ≤ 1000000) (h2 : n' ≤ 1000000) (hs : Sees w b A l) (hs' : Sees w b' A' l') :
    Calls Tryd.prog 17 #[.slice A n cp, .slice A' n' cp'] w fun e w' => e = .returned (.bool (decide (l = l'))) ∧ ∃ k, w' = w.drewN k := by
  by_cases hne : n = n'
  · subst hne
    have HN : Hid (l.length = n ∧ l'.length = n) := ⟨hn, hn'⟩
    have HS := Lib.hid hs
    have HS' := Lib.hid hs'
    clear hn hn' hs hs'
    have hb0 : ((n : Int) != (n : Int)) = false := by simp
    go_enter Tryd.func17, Tryd.ntmps17
    go_wp2
    go_loopw [5] (fun i wr => ∃ k : Nat, i = .int .i64 (k : Int) ∧ k ≤ n ∧ Hid ((∃ q, wr = w.drewN q) ∧ ∀ j, j < k → at_ l j = at_ l' j)) (fun i _ => n - (intOf i).toNat)
    case atStart => exact ⟨0, rfl, by omega, ⟨0, rfl⟩, fun j hj => by omega⟩
    case round =>
      obtain ⟨k, rfl, hk, HP⟩ := hrel
      obtain ⟨q, hq⟩ := HP.out.1
      subst hq
      by_cases hlt : k < n
      · have hlt2 : k < l.length := by rw [HN.out.1]; exact hlt
        have hlt3 : k < l'.length := by rw [HN.out.2]; exact hlt
        obtain ⟨off, rfl, hc⟩ := HS.out (by omega)
        obtain ⟨off', rfl, hc'⟩ := HS'.out (by omega)
        obtain ⟨c0, c1⟩ := hc k hlt2
        obtain ⟨d0, d1⟩ := hc' k hlt3
        clear hc hc' hlt2 hlt3
        have HPP := Lib.hid HP.out.2
        have HA : Hid (at_ l k = at_ l k ∧ at_ l' k = at_ l' k) := ⟨rfl, rfl⟩
        obtain ⟨x, hx⟩ : ∃ x, at_ l k = x := ⟨_, rfl⟩
        obtain ⟨y, hy⟩ : ∃ y, at_ l' k = y := ⟨_, rfl⟩
        have HX : Hid (at_ l k = x ∧ at_ l' k = y) := ⟨hx, hy⟩
        rw [hx] at c0 c1
        rw [hy] at d0 d1
        clear hx hy HA HP
        obtain ⟨x0, x1⟩ := x
        obtain ⟨y0, y1⟩ := y
        dsimp only at c0 c1 d0 d1
        have hki : (k : Int) < (n : Int) := by omega
        by_cases e0 : x0 = y0
        · subst e0
          by_cases e1 : x1 = y1
          · subst e1
            have HPX : Hid (∀ j, j < k + 1 → at_ l j = at_ l' j) := fun j hj => by
              by_cases e : j = k
              · subst e; rw [HX.out.1, HX.out.2]
              · exact HPP.out j (by omega)
            clear HX HPP
            go_wp2_with fail
            go_quiet (fail)
            go_wp2_with fail
            go_roundw
            case rel => exact ⟨k + 1, by go_num, by omega, ⟨q + nq, by simp⟩, HPX.out⟩
            case measure => simp [intOf]; omega
          · have en : (x1 == y1) = false := by rw [beq_eq_false_iff_ne]; exact e1
            have HNE : Hid (decide (l = l') = false) := decide_eq_false (fun e => by
              subst e
              have h := HX.out.1.symm.trans HX.out.2
              cases h
              exact e1 rfl)
            clear HX HPP
            go_wp2_with fail
            go_quiet (fail)
            go_wp2_with fail
            go_ret
            rw [HNE.out]
            exact ⟨rfl, q + nq, by simp⟩
        · have en : (x0 == y0) = false := by rw [beq_eq_false_iff_ne]; exact e0
          have HNE : Hid (decide (l = l') = false) := decide_eq_false (fun e => by
            subst e
            have h := HX.out.1.symm.trans HX.out.2
            cases h
            exact e0 rfl)
          clear HX HPP
          go_wp2_with fail
          go_quiet (fail)
          go_wp2_with fail
          go_ret
          rw [HNE.out]
          exact ⟨rfl, q + nq, by simp⟩
      · obtain rfl : k = n := by omega
        have HEQ : Hid (decide (l = l') = true) := decide_eq_true (ext_at (HN.out.1.trans HN.out.2.symm) (fun j hj => HP.out.2 j (by rw [HN.out.1] at hj; exact hj)))
        have hki : ¬ (k : Int) < (k : Int) := by omega
        go_wp2_with fail
        go_ret
        rw [HEQ.out]
        exact ⟨rfl, q, rfl⟩
  · have HNE : Hid (decide (l = l') = false) := decide_eq_false (fun e => by subst e; omega)
    have hb0 : ((n : Int) != (n' : Int)) = true := by rw [bne_iff_ne]; omega
    clear hs hs' hn hn'
    go_enter Tryd.func17, Tryd.ntmps17
    go_wp2
    go_ret
    rw [HNE.out]
    exact ⟨rfl, 0, rfl⟩
end Go.Proofs.YtemdhcegelddlaaDoor
