/- The law's Same; the document's words; which events are a goroutine's. -/
import Derived.Test.YtalilnnjpemmlaaDoorE1
namespace Go.Proofs.YtalilnnjpemmlaaDoor
open Go Go.RowKit
set_option linter.unusedVariables false
set_option linter.unusedSimpArgs false

/-- the document's words as cells -/
def wordCells : Array Value := #[str (kw 0), str (kw 1), str (kw 2), str (kw 3), str (kw 4), str (kw 5), str (kw 6), str (kw 7), str (kw 8), str (kw 9), str (kw 10), str (kw 11)]
theorem wordCells_get (i : Nat) (h : i < 12) : wordCells[i]? = some (.string (bA (kw i))) := by
  obtain rfl | rfl | rfl | rfl | rfl | rfl | rfl | rfl | rfl | rfl | rfl | rfl : i = 0 ∨ i = 1 ∨ i = 2 ∨ i = 3 ∨ i = 4 ∨ i = 5 ∨ i = 6 ∨ i = 7 ∨ i = 8 ∨ i = 9 ∨ i = 10 ∨ i = 11 := by omega
  all_goals rfl
set_option maxRecDepth 100000 in
theorem words_any (w : World) : Calls Tryd.prog 8 #[] w fun e w' => e = .returned (.slice (some ⟨w.heap.size, 0, none⟩) 12 12) ∧ w' = w.alloc (.cells wordCells 9) := by
  go_enter Tryd.func8, Tryd.ntmps8
  go_wp2
  go_ret
  exact ⟨rfl, rfl⟩

theorem ext_at {a b : List Ev} (h : a.length = b.length) (hx : ∀ j, j < a.length → at_ a j = at_ b j) : a = b := by
  apply List.ext_getElem h
  intro i h1 h2
  have := hx i h1
  unfold at_ at this
  rw [List.getD_eq_getElem?_getD, List.getD_eq_getElem?_getD, List.getElem?_eq_getElem h1, List.getElem?_eq_getElem h2] at this
  simpa using this

set_option maxRecDepth 100000 in
set_option maxHeartbeats 4000000 in
theorem same_any (w : World) (b b' : Nat) (A A' : Option Addr) (cp cp' : Nat) (l l' : List Ev) (n n' : Nat) (hn : l.length = n) (hn' : l'.length = n') (h1 : n ≤ 1000000) (h2 : n' ≤ 1000000) (hs : Sees w b A l) (hs' : Sees w b' A' l') :
    Calls Tryd.prog 9 #[.slice A n cp, .slice A' n' cp'] w fun e w' => e = .returned (.bool (decide (l = l'))) ∧ ∃ k, w' = w.drewN k := by
  by_cases hne : n = n'
  · subst hne
    have HN : Hid (l.length = n ∧ l'.length = n) := ⟨hn, hn'⟩
    have HS := Lib.hid hs
    have HS' := Lib.hid hs'
    clear hn hn' hs hs'
    have hb0 : ((n : Int) != (n : Int)) = false := by simp
    go_enter Tryd.func9, Tryd.ntmps9
    go_wp2
    go_loopw [5] (fun i wr => ∃ k : Nat, i = .int .i64 (k : Int) ∧ k ≤ n ∧ Hid ((∃ q, wr = w.drewN q) ∧ ∀ j, j < k → at_ l j = at_ l' j)) (fun i _ => n - (intOf i).toNat)
    case atStart => exact ⟨0, rfl, by omega, ⟨0, rfl⟩, fun j hj => by omega⟩
    case round =>
      obtain ⟨k, rfl, hk, HP⟩ := hrel
      obtain ⟨q, hq⟩ := HP.out.1
      subst hq
      by_cases hlt : k < n
      · have hlt2 : k < l.length := by rw [HN.out.1]; exact hlt
        have hlt3 : k < l'.length := by rw [HN.out.2]; exact hlt
        obtain ⟨off, rfl, hc⟩ := HS.out (by omega)
        obtain ⟨off', rfl, hc'⟩ := HS'.out (by omega)
        have c0 := hc k 0 hlt2 (by omega)
        have c1 := hc k 1 hlt2 (by omega)
        have c2 := hc k 2 hlt2 (by omega)
        have c3 := hc k 3 hlt2 (by omega)
        have c4 := hc k 4 hlt2 (by omega)
        have d0 := hc' k 0 hlt3 (by omega)
        have d1 := hc' k 1 hlt3 (by omega)
        have d2 := hc' k 2 hlt3 (by omega)
        have d3 := hc' k 3 hlt3 (by omega)
        have d4 := hc' k 4 hlt3 (by omega)
        clear hc hc' hlt2 hlt3
        have HPP := Lib.hid HP.out.2
        have HA : Hid (at_ l k = at_ l k ∧ at_ l' k = at_ l' k) := ⟨rfl, rfl⟩
        obtain ⟨x, hx⟩ : ∃ x, at_ l k = x := ⟨_, rfl⟩
        obtain ⟨y, hy⟩ : ∃ y, at_ l' k = y := ⟨_, rfl⟩
        have HX : Hid (at_ l k = x ∧ at_ l' k = y) := ⟨hx, hy⟩
        rw [hx] at c0 c1 c2 c3 c4
        rw [hy] at d0 d1 d2 d3 d4
        clear hx hy HA HP
        obtain ⟨x0, x1, x2, x3, x4⟩ := x
        obtain ⟨y0, y1, y2, y3, y4⟩ := y
        simp only [Ev.f, Nat.add_zero] at c0 c1 c2 c3 c4 d0 d1 d2 d3 d4
        have hki : (k : Int) < (n : Int) := by omega
        by_cases e0 : x0 = y0
        · subst e0
          by_cases e1 : x1 = y1
          · subst e1
            by_cases e2 : x2 = y2
            · subst e2
              by_cases e3 : x3 = y3
              · subst e3
                by_cases e4 : x4 = y4
                · subst e4
                  have HPX : Hid (∀ j, j < k + 1 → at_ l j = at_ l' j) := fun j hj => by
                    by_cases e : j = k
                    · subst e; rw [HX.out.1, HX.out.2]
                    · exact HPP.out j (by omega)
                  clear HX HPP
                  go_wp2_with fail
                  go_quiet (fail)
                  go_wp2_with fail
                  go_roundw
                  case rel => exact ⟨k + 1, by go_num, by omega, ⟨q + nq, by simp⟩, HPX.out⟩
                  case measure => simp [intOf]; omega
                · have en : (x4 == y4) = false := by rw [beq_eq_false_iff_ne]; exact e4
                  have HNE : Hid (decide (l = l') = false) := decide_eq_false (fun e => by
                    subst e
                    have h := HX.out.1.symm.trans HX.out.2
                    cases h
                    exact e4 rfl)
                  clear HX HPP
                  go_wp2_with fail
                  go_quiet (fail)
                  go_wp2_with fail
                  go_ret
                  rw [HNE.out]
                  exact ⟨rfl, q + nq, by simp⟩
              · have en : (x3 == y3) = false := by rw [beq_eq_false_iff_ne]; exact e3
                have HNE : Hid (decide (l = l') = false) := decide_eq_false (fun e => by
                  subst e
                  have h := HX.out.1.symm.trans HX.out.2
                  cases h
                  exact e3 rfl)
                clear HX HPP
                go_wp2_with fail
                go_quiet (fail)
                go_wp2_with fail
                go_ret
                rw [HNE.out]
                exact ⟨rfl, q + nq, by simp⟩
            · have en : (x2 == y2) = false := by rw [beq_eq_false_iff_ne]; exact e2
              have HNE : Hid (decide (l = l') = false) := decide_eq_false (fun e => by
                subst e
                have h := HX.out.1.symm.trans HX.out.2
                cases h
                exact e2 rfl)
              clear HX HPP
              go_wp2_with fail
              go_quiet (fail)
              go_wp2_with fail
              go_ret
              rw [HNE.out]
              exact ⟨rfl, q + nq, by simp⟩
          · have en : (x1 == y1) = false := by rw [beq_eq_false_iff_ne]; exact e1
            have HNE : Hid (decide (l = l') = false) := decide_eq_false (fun e => by
              subst e
              have h := HX.out.1.symm.trans HX.out.2
              cases h
              exact e1 rfl)
            clear HX HPP
            go_wp2_with fail
            go_quiet (fail)
            go_wp2_with fail
            go_ret
            rw [HNE.out]
            exact ⟨rfl, q + nq, by simp⟩
        · have en : (x0 == y0) = false := by rw [beq_eq_false_iff_ne]; exact e0
          have HNE : Hid (decide (l = l') = false) := decide_eq_false (fun e => by
            subst e
            have h := HX.out.1.symm.trans HX.out.2
            cases h
            exact e0 rfl)
          clear HX HPP
          go_wp2_with fail
          go_quiet (fail)
          go_wp2_with fail
          go_ret
          rw [HNE.out]
          exact ⟨rfl, q + nq, by simp⟩
      · obtain rfl : k = n := by omega
        have HEQ : Hid (decide (l = l') = true) := decide_eq_true (ext_at (HN.out.1.trans HN.out.2.symm) (fun j hj => HP.out.2 j (by rw [HN.out.1] at hj; exact hj)))
        have hki : ¬ (k : Int) < (k : Int) := by omega
        go_wp2_with fail
        go_ret
        rw [HEQ.out]
        exact ⟨rfl, q, rfl⟩
  · have HNE : Hid (decide (l = l') = false) := decide_eq_false (fun e => by subst e; omega)
    have hb0 : ((n : Int) != (n' : Int)) = true := by rw [bne_iff_ne]; omega
    clear hs hs' hn hn'
    go_enter Tryd.func9, Tryd.ntmps9
    go_wp2
    go_ret
    rw [HNE.out]
    exact ⟨rfl, 0, rfl⟩
end Go.Proofs.YtalilnnjpemmlaaDoor
