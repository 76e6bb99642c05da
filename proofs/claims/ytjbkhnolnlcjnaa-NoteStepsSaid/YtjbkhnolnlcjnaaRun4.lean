/- The reference's routine that acquires a lock. -/
import Derived.Test.YtjbkhnolnlcjnaaRun2
import Derived.Test.YtjbkhnolnlcjnaaLock1
namespace Go.Proofs.Ytjbkhnolnlcjnaa
open Go Go.RowKit
set_option linter.unusedVariables false
set_option maxRecDepth 100000
set_option linter.unusedSimpArgs false

/-- How far the wait for a turn goes. -/
def acqGo (m : Nat) (g : Nat → Int) (lk who t : Int) : Nat → Rn → Rn
  | 0, r => r
  | f + 1, r => if r.stop = true then r else if doV m g r = t ∧ (doS m r 1 (3 * lk + 1) 0 0).stop = false then doS m (doS m r 1 (3 * lk + 1) 0 0) 2 (3 * lk + 2) 0 (who + 1) else acqGo m g lk who t f (doS m r 1 (3 * lk + 1) 0 0)

/-- How many rounds a routine may take. -/
def left' (m x : Nat) (w : World) : Nat := match w.cell? ⟨x, 1, none⟩, w.cell? ⟨x, 2, none⟩ with
  | some (.int _ u), some (.bool st) => (m - u.toNat) + (if st = true then 0 else 1)
  | _, _ => 0
theorem RunOn.left {w : World} {x : Nat} {A : Option Addr} {cap m : Nat} {g : Nat → Int} {r : Rn} (h : RunOn w x A cap m g r) : left' m x w = (m - r.used) + (if r.stop = true then 0 else 1) := by
  unfold left'
  rw [h.blk.cell 1 (v := .int .i64 r.used) rfl, h.blk.cell 2 (v := .bool r.stop) rfl]
  simp
theorem left_less {m : Nat} {r : Rn} {k i old new : Int} (hu : r.used ≤ m) (hs : r.stop = false) : (m - (doS m r k i old new).used) + (if (doS m r k i old new).stop = true then 0 else 1) < (m - r.used) + 1 := by
  by_cases h : r.used < m
  · have e : doS m r k i old new = { r with used := r.used + 1 } := by simp [doS, hs, h]
    rw [e]
    dsimp only
    rw [hs]
    simp
    omega
  · have e : doS m r k i old new = { r with stop := true, k := k, i := i, old := old, new := new } := by simp [doS, hs, h]
    rw [e]
    simp

set_option maxHeartbeats 2000000 in
theorem racq_on (w : World) (x : Nat) (A : Option Addr) (cap m : Nat) (g : Nat → Int) (r : Rn) (h : RunOn w x A cap m g r) (lk who : Int) (hlk : 0 ≤ lk ∧ lk ≤ 1) (hwho : 0 ≤ who ∧ who ≤ 300) (hg : 0 ≤ doV m g r ∧ doV m g r ≤ 4294967295) :
    Calls Try.prog 35 #[.pointer (some ⟨x, 0, none⟩), .int .i64 lk, .int .i64 who] w fun e w' => e = .returned (.int .u64 (turnOf (doV m g r))) ∧ RunOn w' x A cap m g (acqGo m g lk who (turnOf (doV m g r)) (m + 2) (doS m r 4 (3 * lk) 0 1)) ∧ But [x] w w' := by
  have hA := radd_on w x A cap m g r h (3 * lk) 1
  have hu0 := doS_used (m := m) (r := r) (k := 4) (i := 3 * lk) (old := 0) (new := 1) h.used
  have hz : (doV m g r + 4294967295).tmod 4294967296 = turnOf (doV m g r) := by
    unfold turnOf
    exact Int.tmod_eq_emod_of_nonneg (by omega)
  clear h
  generalize doV m g r = a at *
  generalize doS m r 4 (3 * lk) 0 1 = r1 at *
  have w1' : IntKind.u64.wrap who = who := wrap_u64 (by omega)
  have w2' : IntKind.u64.wrap (who + 1) = who + 1 := wrap_u64 (by omega)
  generalize turnOf a = t at *
  go_enter Try.func35, Try.ntmps35
  go_wp2_with fail
  go_at_call 68; refine hA.mono ?_; rintro e w2 ⟨rfl, hR2, hB2⟩
  have HR2 : Hid (RunOn w2 x A cap m g r1) := hR2
  have HB2 : Hid (But [x] w w2) := hB2
  clear hA hR2 hB2
  go_wp2_with fail
  go_loopw [18] (fun _ wr => ∃ (f : Nat) (q : Rn), Hid (RunOn wr x A cap m g q) ∧ Hid (But [x] w wr) ∧ Hid (acqGo m g lk who t f q = acqGo m g lk who t (m + 2) r1) ∧ (q.stop = false → m - q.used + 1 ≤ f)) (fun _ wr => left' m x wr)
  case atStart => exact ⟨m + 2, r1, HR2, HB2, rfl, fun _ => by omega⟩
  case round =>
    clear HR2 HB2
    obtain ⟨f, q, HR, HB, HE, hf⟩ := hrel
    have c2 := HR.out.blk.cell 2 (v := .bool q.stop) rfl
    cases hst : q.stop
    · rw [hst] at c2
      obtain ⟨f', rfl⟩ : ∃ f', f = f' + 1 := ⟨f - 1, by have := hf hst; omega⟩
      have hL := rload_on wr x A cap m g q HR.out (3 * lk + 1)
      have hul := HR.out.used
      have hml := HR.out.left
      have hless := left_less (k := 1) (i := 3 * lk + 1) (old := 0) (new := 0) hul hst
      have HQ : Hid (acqGo m g lk who t (f' + 1) q = if doV m g q = t ∧ (doS m q 1 (3 * lk + 1) 0 0).stop = false then doS m (doS m q 1 (3 * lk + 1) 0 0) 2 (3 * lk + 2) 0 (who + 1) else acqGo m g lk who t f' (doS m q 1 (3 * lk + 1) 0 0)) := by
        show acqGo m g lk who t (f' + 1) q = _
        rw [acqGo, if_neg (by simp [hst])]
      rw [hst] at hml
      have hml' : left' m x wr = m - q.used + 1 := by simpa using hml
      have HML : Hid (left' m x wr = m - q.used + 1) := hml'
      clear hml'
      have HLS : Hid (m - (doS m q 1 (3 * lk + 1) 0 0).used + (if (doS m q 1 (3 * lk + 1) 0 0).stop = true then 0 else 1) < m - q.used + 1) := hless
      have hff : m - q.used + 1 ≤ f' + 1 := hf hst
      clear hf hst hml hless
      generalize doV m g q = v at *
      generalize doS m q 1 (3 * lk + 1) 0 0 = q1 at *
      go_wp2_with fail
      go_at_call 65; refine hL.mono ?_; rintro e w3 ⟨rfl, hR3, hB3⟩
      have HR3 : Hid (RunOn w3 x A cap m g q1) := hR3
      have HB3 : Hid (But [x] w w3) := HB.out.trans hB3
      have k2 := HR3.out.blk.cell 2 (v := .bool q1.stop) rfl
      clear hL hR3 hB3 c2 HR HB
      by_cases hv : v = t
      · subst hv
        cases hs1 : q1.stop
        · rw [hs1] at k2
          have HQ2 : Hid (acqGo m g lk who v (m + 2) r1 = doS m q1 2 (3 * lk + 2) 0 (who + 1)) := by
            have := HQ.out
            rw [if_pos ⟨rfl, hs1⟩] at this
            exact HE.out.symm.trans this
          have hS := rstore_on w3 x A cap m g q1 HR3.out (3 * lk + 2) (who + 1)
          clear hs1 HQ HE
          go_wp2_with fail
          go_at_call 66; refine hS.mono ?_; rintro e w4 ⟨⟨v4, rfl⟩, hR4, hB4⟩
          have HB4 := HB3.out.trans hB4
          clear hS hB4
          go_wp2_with fail
          go_ret
          exact ⟨rfl, by rw [HQ2.out]; exact hR4, HB4⟩
        · rw [hs1] at k2
          have HQ2 : Hid (acqGo m g lk who v (f' + 1) q = acqGo m g lk who v f' q1) := by
            have := HQ.out
            rw [if_neg (fun h => by rw [hs1] at h; cases h.2)] at this
            exact this
          have HS1 : Hid (q1.stop = true) := hs1
          clear hs1 HQ
          go_wp2_with fail
          go_roundw
          case rel => exact ⟨f', q1, HR3, HB3, HQ2.out.symm.trans HE.out, fun h => by rw [HS1.out] at h; cases h⟩
          case measure => rw [HR3.out.left, HML.out]; exact HLS.out
      · have hd : decide (v = t) = false := decide_eq_false hv
        have HQ2 : Hid (acqGo m g lk who t (f' + 1) q = acqGo m g lk who t f' q1) := by
          have := HQ.out
          rw [if_neg (fun h => hv h.1)] at this
          exact this
        clear HQ
        go_wp2_with fail
        go_roundw
        case rel =>
          refine ⟨f', q1, HR3, HB3, HQ2.out.symm.trans HE.out, fun h => ?_⟩
          have := HLS.out
          rw [h] at this
          simp at this
          omega
        case measure => rw [HR3.out.left, HML.out]; exact HLS.out
    · rw [hst] at c2
      have HQ2 : Hid (acqGo m g lk who t (m + 2) r1 = q) := by
        have : acqGo m g lk who t f q = q := by cases f <;> simp [acqGo, hst]
        exact HE.out.symm.trans this
      clear hf hst HE
      go_wp2_with fail
      go_ret
      exact ⟨rfl, by rw [HQ2.out]; exact HR.out, HB.out⟩
end Go.Proofs.Ytjbkhnolnlcjnaa
