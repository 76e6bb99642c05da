/- The reference's Wait, and its routine of a sleep. -/
import Derived.Test.YtlnjjcfkcoaceaaRun4
import Derived.Test.YtlnjjcfkcoaceaaRun3
namespace Go.Proofs.Ytlnjjcfkcoaceaa
open Go Go.RowKit
set_option linter.unusedVariables false
set_option maxRecDepth 100000
set_option linter.unusedSimpArgs false

/-- A routine that is told whether it would sleep. -/
def sleepS (r : Rn) (first : Bool) : Rn := if r.stop = true then { r with sleep := !first } else r
/-- How far a wait for a word goes. -/
def waitGo (m : Nat) (g : Nat → Int) (i : Int) : Nat → Int → Bool → Rn → Int × Rn
  | 0, v, _, r => (v, r)
  | f + 1, v, first, r => if v = 0 ∧ r.stop = false then waitGo m g i f (doV m g r) false (sleepS (doS m r 1 i 0 0) first) else (v, r)

theorem RunOn.slept {w : World} {x : Nat} {A : Option Addr} {cap m : Nat} {g : Nat → Int} {r : Rn} (h : RunOn w x A cap m g r) (b : Bool) : RunOn (w.setCell ⟨x, 9, none⟩ (.bool b)) x A cap m g { r with sleep := b } :=
  ⟨h.blk.set 9 _, h.got.but ((But.refl [x] w).set (g := x) (.inl (by simp)) 9 _) h.far, h.far, h.le, h.used⟩

set_option maxHeartbeats 2000000 in
theorem rwait_on (w : World) (x : Nat) (A : Option Addr) (cap m : Nat) (g : Nat → Int) (r : Rn) (h : RunOn w x A cap m g r) (i : Int) :
    Calls Try.prog 77 #[.pointer (some ⟨x, 0, none⟩), .int .i64 i] w fun e w' => e = .returned (.int .u64 (waitGo m g i (m + 2) 0 true r).1) ∧ RunOn w' x A cap m g (waitGo m g i (m + 2) 0 true r).2 ∧ But [x] w w' := by
  have HR0 : Hid (RunOn w x A cap m g r) := h
  clear h
  go_enter Try.func77, Try.ntmps77
  go_wp2_with fail
  go_loopw [5, 6] (fun u1 u2 wr => ∃ (f : Nat) (v : Int) (b : Bool) (q : Rn), u1 = .int .u64 v ∧ u2 = .bool b ∧ Hid (RunOn wr x A cap m g q) ∧ Hid (But [x] w wr) ∧ Hid (waitGo m g i f v b q = waitGo m g i (m + 2) 0 true r) ∧ (v = 0 → q.stop = false → m - q.used + 1 ≤ f)) (fun _ _ wr => left' m x wr)
  case atStart => exact ⟨m + 2, 0, true, r, rfl, rfl, HR0, But.refl _ _, rfl, fun _ _ => by omega⟩
  case round =>
    clear HR0
    obtain ⟨f, v, b, q, rfl, rfl, HR, HB, HE, hf⟩ := hrel
    by_cases hv : v = 0
    · subst hv
      have c2 := HR.out.blk.cell 2 (v := .bool q.stop) rfl
      cases hst : q.stop
      · rw [hst] at c2
        obtain ⟨f', rfl⟩ : ∃ f', f = f' + 1 := ⟨f - 1, by have := hf rfl hst; omega⟩
        have hL := rload_on wr x A cap m g q HR.out i
        have hml := HR.out.left
        have hless := left_less (k := 1) (i := i) (old := 0) (new := 0) HR.out.used hst
        have HQ : Hid (waitGo m g i (f' + 1) 0 b q = waitGo m g i f' (doV m g q) false (sleepS (doS m q 1 i 0 0) b)) := by
          show waitGo m g i (f' + 1) 0 b q = _
          rw [waitGo, if_pos ⟨rfl, hst⟩]
        rw [hst] at hml
        have hml' : left' m x wr = m - q.used + 1 := by simpa using hml
        have HML : Hid (left' m x wr = m - q.used + 1) := hml'
        have HLS : Hid (m - (doS m q 1 i 0 0).used + (if (doS m q 1 i 0 0).stop = true then 0 else 1) < m - q.used + 1) := hless
        have hff : m - q.used + 1 ≤ f' + 1 := hf rfl hst
        clear hf hst hml hless hml'
        generalize doV m g q = v1 at *
        generalize doS m q 1 i 0 0 = q1 at *
        go_wp2_with fail
        go_at_call 78; refine hL.mono ?_; rintro e w3 ⟨rfl, hR3, hB3⟩
        have HR3 : Hid (RunOn w3 x A cap m g q1) := hR3
        have HB3 : Hid (But [x] w w3) := HB.out.trans hB3
        have k2 := HR3.out.blk.cell 2 (v := .bool q1.stop) rfl
        have k9 := HR3.out.blk.cell 9 (v := .bool q1.sleep) rfl
        have f9 := HR3.out.blk.fro 9
        clear hL hR3 hB3 c2 HR HB
        cases hs1 : q1.stop
        · rw [hs1] at k2
          have HQ2 : Hid (waitGo m g i (f' + 1) 0 b q = waitGo m g i f' v1 false q1) := by
            have := HQ.out
            rw [show sleepS q1 b = q1 by simp [sleepS, hs1]] at this
            exact this
          have HS1 : Hid (q1.stop = false) := hs1
          clear hs1 HQ k9 f9
          go_wp2_with fail
          go_roundw
          case rel =>
            refine ⟨f', v1, false, q1, rfl, rfl, HR3, HB3, HQ2.out.symm.trans HE.out, fun _ _ => ?_⟩
            have := HLS.out
            rw [HS1.out] at this
            simp at this
            omega
          case measure => rw [HR3.out.left, HML.out]; exact HLS.out
        · rw [hs1] at k2
          have HQ2 : Hid (waitGo m g i (f' + 1) 0 b q = waitGo m g i f' v1 false { q1 with sleep := !b }) := by
            have := HQ.out
            rw [show sleepS q1 b = { q1 with sleep := !b } by simp [sleepS, hs1]] at this
            exact this
          have HR4 : Hid (RunOn (w3.setCell ⟨x, 9, none⟩ (.bool (!b))) x A cap m g { q1 with sleep := !b }) := HR3.out.slept _
          have HB4 : Hid (But [x] w (w3.setCell ⟨x, 9, none⟩ (.bool (!b)))) := HB3.out.set (g := x) (.inl (by simp)) 9 _
          have HS1 : Hid (q1.stop = true) := hs1
          clear hs1 HQ
          go_wp2_with fail
          go_roundw
          case rel =>
            refine ⟨f', v1, false, { q1 with sleep := !b }, rfl, rfl, HR4, HB4, HQ2.out.symm.trans HE.out, fun _ h => ?_⟩
            have := HS1.out
            dsimp only at h
            rw [this] at h
            cases h
          case measure =>
            have h1 := HR4.out.left
            rw [h1, HML.out]
            have := HLS.out
            simpa using this
      · rw [hst] at c2
        have HQ2 : Hid (waitGo m g i (m + 2) 0 true r = (0, q)) := by
          have : waitGo m g i f 0 b q = (0, q) := by cases f <;> simp [waitGo, hst]
          exact HE.out.symm.trans this
        clear hf hst HE
        go_wp2_with fail
        go_ret
        rw [HQ2.out]
        exact ⟨rfl, HR.out, HB.out⟩
    · have hd : decide (v = 0) = false := decide_eq_false hv
      have HQ2 : Hid (waitGo m g i (m + 2) 0 true r = (v, q)) := by
        have : waitGo m g i f v b q = (v, q) := by
          cases f
          · rfl
          · rw [waitGo, if_neg (fun h => hv h.1)]
        exact HE.out.symm.trans this
      clear hf HE
      go_wp2_with fail
      go_ret
      rw [HQ2.out]
      exact ⟨rfl, HR.out, HB.out⟩

/-- What was answered to a sleep. -/
structure SlpGot (m : Nat) (g : Nat → Int) (ph : Nat) (asl : Bool) : Prop where
  h : (ph = 0 ∧ asl = false ∧ m = 0) ∨ (ph = 0 ∧ asl = true ∧ m = 1 ∧ g 0 = 0) ∨ (ph = 1 ∧ asl = false ∧ ((m = 1 ∧ g 0 ≠ 0) ∨ (m = 2 ∧ g 0 = 0 ∧ g 1 ≠ 0))) ∨ (ph = 2 ∧ asl = false ∧ ((m = 2 ∧ g 0 ≠ 0) ∨ (m = 3 ∧ g 0 = 0 ∧ g 1 ≠ 0)))
def slpRn (nt : Int) (m ph : Nat) (asl : Bool) : Rn := if ph = 0 then ⟨m, true, 1, nt, 0, 0, asl⟩ else if ph = 1 then ⟨m, true, 2, nt, 0, 0, false⟩ else ⟨m, false, 0, 0, 0, 0, false⟩
theorem SlpGot.run {m : Nat} {g : Nat → Int} {ph : Nat} {asl : Bool} (h : SlpGot m g ph asl) (nt : Int) : doS m (waitGo m g nt (m + 2) 0 true rn0).2 2 nt 0 0 = slpRn nt m ph asl := by
  rcases h.h with ⟨rfl, rfl, rfl⟩ | ⟨rfl, rfl, rfl, h0⟩ | ⟨rfl, rfl, ⟨rfl, h0⟩ | ⟨rfl, h0, h1⟩⟩ | ⟨rfl, rfl, ⟨rfl, h0⟩ | ⟨rfl, h0, h1⟩⟩
  · simp [waitGo, doS, doV, rn0, sleepS, slpRn]
  · simp [waitGo, doS, doV, rn0, sleepS, slpRn, h0]
  · simp [waitGo, doS, doV, rn0, sleepS, slpRn, h0]
  · simp [waitGo, doS, doV, rn0, sleepS, slpRn, h0, h1]
  · simp [waitGo, doS, doV, rn0, sleepS, slpRn, h0]
  · simp [waitGo, doS, doV, rn0, sleepS, slpRn, h0, h1]
end Go.Proofs.Ytlnjjcfkcoaceaa
