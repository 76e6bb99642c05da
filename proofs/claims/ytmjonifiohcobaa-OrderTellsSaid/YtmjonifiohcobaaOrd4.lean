/- The contracts of the law's helper same and of the reference's Strides. -/
import Derived.Test.YtmjonifiohcobaaOrd3
namespace Go.Proofs.Ytmjonifiohcobaa
open Go Go.RowKit
set_option linter.unusedVariables false
set_option linter.unusedSimpArgs false

/-- A slice in memory that holds these numbers. -/
def SeesN (w : World) (A : Option Addr) (l : List Nat) : Prop :=
  0 < l.length → ∃ b off : Nat, A = some ⟨b, off, none⟩ ∧ b < w.heap.size ∧ ∀ j, j < l.length → w.cell? ⟨b, off + j, none⟩ = some (.int .i64 ((l.getD j 0 : Nat) : Int))
theorem SeesN.below {w w' : World} {A : Option Addr} {l : List Nat} (h : SeesN w A l) (hb : Below w.heap.size w w') : SeesN w' A l := fun hn => by
  obtain ⟨b, off, e, h1, h2⟩ := h hn
  exact ⟨b, off, e, Nat.lt_of_lt_of_le h1 hb.size, fun j hj => (hb.cell (p := ⟨b, off + j, none⟩) h1).trans (h2 j hj)⟩
theorem Grows.sees {w wr : World} {A : Option Addr} {cap n : Nat} {l : List Nat} (h : Grows w wr (.slice A n cap) l) : SeesN wr A l := fun hn => by
  obtain ⟨g, cp, e, hg1, hg2, hc⟩ := h.cell hn
  cases e
  exact ⟨g, 0, rfl, hg2, fun j hj => by rw [Nat.zero_add]; exact hc j hj⟩

set_option maxHeartbeats 1000000 in
theorem sameN_any (w : World) (A B : Option Addr) (cap cap' : Nat) (l l' : List Nat) (hl : l.length = l'.length) (hn : l.length ≤ 1000) (hA : SeesN w A l) (hB : SeesN w B l') :
    Calls Try.prog 36 #[.slice A l.length cap, .slice B l'.length cap'] w fun e w' => e = .returned (.bool (decide (l = l'))) ∧ ∃ m, w' = w.drewN m := by
  have HA : Hid (SeesN w A l) := hA
  have HB : Hid (SeesN w B l') := hB
  have hall : ∀ k, (∀ i, i < k → l.getD i 0 = l'.getD i 0) → k = l.length → l = l' := fun k h hk => by
    apply List.ext_getElem hl
    intro i h1 h2
    have := h i (by omega)
    simpa [List.getD_eq_getElem?_getD, h1, h2] using this
  have HALL : Hid _ := hall
  clear hA hB hall
  obtain ⟨n, hnn⟩ : ∃ n, l.length = n := ⟨_, rfl⟩
  obtain ⟨dd, hd⟩ : ∃ d, decide (l = l') = d := ⟨_, rfl⟩
  rw [hd, ← hl, hnn]
  have HN : Hid (l.length = n) := hnn
  have HL : Hid (l'.length = n) := hl.symm.trans hnn
  rw [hnn] at hn
  clear hl hnn
  go_enter Try.func36, Try.ntmps36
  go_wp2_with fail
  go_loopw [5] (fun i wr => ∃ k m : Nat, k ≤ n ∧ i = .int .i64 k ∧ wr = w.drewN m ∧ Hid (∀ i, i < k → l.getD i 0 = l'.getD i 0)) (fun i _ => n - (intOf i).toNat)
  case atStart => exact ⟨0, 0, Nat.zero_le _, rfl, rfl, fun i hi => absurd hi (Nat.not_lt_zero i)⟩
  case round =>
    obtain ⟨k, m, hk, rfl, rfl, hEq⟩ := hrel
    by_cases hlt : k < n
    · obtain ⟨b, off, rfl, hbB, hcell⟩ := HA.out (by rw [HN.out]; omega)
      obtain ⟨b', off', rfl, hbB', hcell'⟩ := HB.out (by rw [HL.out]; omega)
      have e0 : w.cell? ⟨b, off + k, none⟩ = some (.int .i64 ((l.getD k 0 : Nat) : Int)) := hcell k (by rw [HN.out]; omega)
      have e1 : w.cell? ⟨b', off' + k, none⟩ = some (.int .i64 ((l'.getD k 0 : Nat) : Int)) := hcell' k (by rw [HL.out]; omega)
      clear hcell hcell'
      by_cases hx : l.getD k 0 = l'.getD k 0
      · rw [← hx] at e1
        have hN : Hid (∀ i, i < k + 1 → l.getD i 0 = l'.getD i 0) := fun i hi => by
          by_cases h : i = k
          · subst h; exact hx
          · exact hEq.out i (by omega)
        clear hx
        generalize ((l.getD k 0 : Nat) : Int) = x at e0 e1
        go_wp2_with fail
        go_quiet (fail)
        go_wp2_with fail
        go_roundw
        case rel => exact ⟨k + 1, m + nq, by omega, by go_num, by simp [drewN_add], hN⟩
        case measure => simp [intOf]; omega
      · have hne : ¬ l = l' := fun e => hx (by rw [e])
        have hq : (((l.getD k 0 : Nat) : Int) == ((l'.getD k 0 : Nat) : Int)) = false := by rw [beq_eq_false_iff_ne]; intro h; exact hx (Int.ofNat.inj h)
        obtain rfl : dd = false := by rw [← hd]; simpa using hne
        clear hx hne hd
        generalize ((l.getD k 0 : Nat) : Int) = x at e0 hq
        generalize ((l'.getD k 0 : Nat) : Int) = y at e1 hq
        go_wp2_with fail
        go_quiet (fail)
        go_wp2_with fail
        go_ret
        exact ⟨rfl, m + nq, drewN_add _ _ _⟩
    · obtain rfl : k = n := by omega
      have he : l = l' := HALL.out k hEq.out HN.out.symm
      obtain rfl : dd = true := by rw [← hd]; simpa using he
      clear he hd
      go_wp2_with fail
      go_ret
      exact ⟨rfl, m, rfl⟩
end Go.Proofs.Ytmjonifiohcobaa
