/- Steps of a machine over a memory of which little is known; lists that go from word to word. -/
import Derived.Test.YtcjidigpdecdlaaIter
import Derived.Test.YtcjidigpdecdlaaLinks
namespace Go.Proofs.Ytcjidigpdecdlaa
open Go Go.RowKit
set_option linter.unusedVariables false
set_option maxRecDepth 100000
set_option linter.unusedSimpArgs false

section
variable {σ : Type} {M : PM σ} {who : Int} {n k : Nat} {t : σ} {s : St} {i v : Int}
theorem steps_no (ha : M.ax t = none) : ∀ k, M.steps who n k (t, s) = (t, s)
  | 0 => rfl
  | k + 1 => by
    show M.steps who n k (M.goT n t s, M.goS who n t s) = _
    have e1 : M.goT n t s = t := by unfold PM.goT; rw [ha]
    have e2 : M.goS who n t s = s := by unfold PM.goS; rw [ha]
    rw [e1, e2]
    exact steps_no ha k
theorem steps_ld (ha : M.ax t = some (axLd i)) (hi : 0 ≤ i ∧ i < n) : ∃ s', M.steps who n (k + 1) (t, s) = M.steps who n k (M.nx t (s.f i.toNat), s') ∧ s'.f = s.f ∧ s'.bad = s.bad := by
  have e1 : M.goT n t s = M.nx t (s.f i.toNat) := by
    unfold PM.goT; rw [ha]
    simp [PM.ans, PM.asl, axLd, actA, Go.Proofs.Ytcjidigpdecdlaa.ans, hi]
  refine ⟨M.goS who n t s, by show M.steps who n k (M.goT n t s, M.goS who n t s) = _; rw [e1], ?_⟩
  unfold PM.goS; rw [ha]
  simp [PM.asl, axLd, actS, stp, hi]
theorem steps_st (ha : M.ax t = some (axSt i v)) (hi : 0 ≤ i ∧ i < n) : ∃ s', M.steps who n (k + 1) (t, s) = M.steps who n k (M.nx t 0, s') ∧ s'.f = upd s.f i.toNat v ∧ s'.bad = s.bad := by
  have e1 : M.goT n t s = M.nx t 0 := by
    unfold PM.goT; rw [ha]
    simp [PM.ans, PM.asl, axSt, actA]
  refine ⟨M.goS who n t s, by show M.steps who n k (M.goT n t s, M.goS who n t s) = _; rw [e1], ?_⟩
  unfold PM.goS; rw [ha]
  simp [PM.asl, axSt, actS, stp, hi]
theorem steps_ad (ha : M.ax t = some (axAd i v)) (hi : 0 ≤ i ∧ i < n) : ∃ s', M.steps who n (k + 1) (t, s) = M.steps who n k (M.nx t ((s.f i.toNat + v) % 4294967296), s') ∧ s'.f = upd s.f i.toNat ((s.f i.toNat + v) % 4294967296) ∧ s'.bad = s.bad := by
  have e1 : M.goT n t s = M.nx t ((s.f i.toNat + v) % 4294967296) := by
    unfold PM.goT; rw [ha]
    simp [PM.ans, PM.asl, axAd, actA, Go.Proofs.Ytcjidigpdecdlaa.ans, hi]
  refine ⟨M.goS who n t s, by show M.steps who n k (M.goT n t s, M.goS who n t s) = _; rw [e1], ?_⟩
  unfold PM.goS; rw [ha]
  simp [PM.asl, axAd, actS, stp, hi]
end
theorem upd_at {f : Nat → Int} {i : Nat} {v : Int} : upd f i v i = v := if_pos rfl
theorem upd_ne {f : Nat → Int} {i j : Nat} {v : Int} (h : j ≠ i) : upd f i v j = f j := if_neg h
/-- A list that goes from word to word. -/
def Lnk (lk : Int → Int) : Int → List Int → Prop
  | w, [] => w = 0
  | w, y :: r => w = y + 1 ∧ Lnk lk (lk y) r
theorem Lnk.congr {lk lk' : Int → Int} : ∀ {r : List Int} {w : Int}, (∀ y ∈ r, lk' y = lk y) → Lnk lk w r → Lnk lk' w r
  | [], _, _, h => h
  | y :: r, w, e, h => ⟨h.1, by rw [e y (by simp)]; exact Lnk.congr (fun z hz => e z (by simp [hz])) h.2⟩
theorem lnk_go (nx : Int → Int) (many : Int) : ∀ (r acc : List Int) (w : Int) (f : Nat), Lnk nx w r → (acc ++ r).Nodup → (∀ y ∈ r, 0 ≤ y ∧ y < many) → r.length < f → lsGo nx many f acc w = (acc ++ r, true)
  | [], acc, w, f + 1, h, _, _, _ => by
    have h : w = 0 := h
    rw [lsGo, if_pos h]
    simp
  | y :: r, acc, w, f + 1, h, hnd, hr, hf => by
    obtain ⟨rfl, h2⟩ := h
    have h0 := hr y (by simp)
    have hin : y ∉ acc := fun hm => (List.nodup_append.1 hnd).2.2 y hm y (by simp) rfl
    rw [lsGo, if_neg (by omega), if_neg (by
      rintro (h | h)
      · rw [show y + 1 - 1 = y by omega] at h; exact hin h
      · omega), show y + 1 - 1 = y by omega]
    have := lnk_go nx many r (acc ++ [y]) (nx y) f h2 (by simpa using hnd) (fun z hz => hr z (by simp [hz])) (by simp at hf; omega)
    rw [this]
    simp
theorem lnk_of (nx : Int → Int) (many w : Int) (r : List Int) (h : Lnk nx w r) (hnd : r.Nodup) (hr : ∀ y ∈ r, 0 ≤ y ∧ y < many) : lsOf nx many w = (r, true) := by
  have hlen := nodup_room many.toNat r hnd (fun x hx => by have := hr x hx; omega)
  exact lnk_go nx many r [] w (many.toNat + 1) h (by simpa using hnd) hr (by omega)

section
variable {σ : Type} {M : PM σ} {who : Int} {n k : Nat} {t : σ} {s : St} {i v : Int}
theorem steps_sw {old : Int} (ha : M.ax t = some (axSw i old v)) (hi : 0 ≤ i ∧ i < n) (hold : s.f i.toNat = old) : ∃ s', M.steps who n (k + 1) (t, s) = M.steps who n k (M.nx t 1, s') ∧ s'.f = upd s.f i.toNat v ∧ s'.bad = s.bad := by
  have e1 : M.goT n t s = M.nx t 1 := by
    unfold PM.goT; rw [ha]
    simp [PM.ans, PM.asl, axSw, actA, Go.Proofs.Ytcjidigpdecdlaa.ans, hi, hold]
  refine ⟨M.goS who n t s, by show M.steps who n k (M.goT n t s, M.goS who n t s) = _; rw [e1], ?_⟩
  unfold PM.goS; rw [ha]
  simp [PM.asl, axSw, actS, stp, hi, hold]
end
theorem steps_add {σ : Type} (M : PM σ) (who : Int) (n : Nat) : ∀ (k m : Nat) (p : σ × St), M.steps who n (k + m) p = M.steps who n m (M.steps who n k p)
  | 0, m, p => by rw [Nat.zero_add]; rfl
  | k + 1, m, p => by
    rw [show k + 1 + m = (k + m) + 1 by omega]
    show M.steps who n (k + m) _ = M.steps who n m (M.steps who n k _)
    exact steps_add M who n k m _
end Go.Proofs.Ytcjidigpdecdlaa
