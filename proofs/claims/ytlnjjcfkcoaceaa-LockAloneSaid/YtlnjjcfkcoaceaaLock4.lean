/- Machines of locks together with the memory they step on; the page's example. -/
import Derived.Test.YtlnjjcfkcoaceaaLock2
import Derived.Test.YtlnjjcfkcoaceaaLock3
import Derived.Test.YtlnjjcfkcoaceaaGnd2
namespace Go.Proofs.Ytlnjjcfkcoaceaa
open Go Go.RowKit
set_option linter.unusedVariables false
set_option maxRecDepth 100000
set_option linter.unusedSimpArgs false

theorem acqS_low {s : St} {m : Int} (h : Low s m) (who tk sv ow : Int) (n ph : Nat) : Low (acqS who tk sv ow n ph s) (m + 1) := by
  unfold acqS
  split
  · exact stp_low h _ _ _ _ _ _
  split
  · exact stp_low h _ _ _ _ _ _
  split
  · exact stp_low h _ _ _ _ _ _
  · exact h.more (by omega)
theorem relS_low {s : St} {m : Int} (h : Low s m) (who sv ow : Int) (n ph : Nat) : Low (relS who sv ow n ph s) (m + 1) := by
  unfold relS
  split
  · exact stp_low h _ _ _ _ _ _
  split
  · exact stp_low h _ _ _ _ _ _
  · exact h.more (by omega)

/-- A machine's blocks lie apart from the memory's. -/
structure Far (x q g cm b : Nat) : Prop where
  h : x ≠ cm ∧ x ≠ b ∧ q ≠ cm ∧ q ≠ b ∧ g ≠ cm ∧ g ≠ b
theorem Far.next {x q g cm b q' g' N : Nat} (h : Far x q g cm b) (hc : cm < N) (hb : b < N) (h1 : q' = x ∨ N ≤ q') (h2 : g' = x ∨ N ≤ g') : Far x q' g' cm b := by
  obtain ⟨a1, a2, a3, a4, a5, a6⟩ := h.h
  rcases h1 with rfl | h1 <;> rcases h2 with rfl | h2 <;> exact ⟨by omega, by omega, by omega, by omega, by omega, by omega⟩

theorem acq_on (w : World) (A : Option Addr) (cp cm b n : Nat) (s : St) (x q g ph : Nat) (who tk sv ow t : Int) (hI : Is w 122 A cp cm b n s) (hn : n ≤ 1000000) (hl : Low s 1000000) (hw : 0 ≤ who ∧ who ≤ 1000000) (h : Acq w x who tk sv ow q g ph t) (hf : Far x q g cm b) :
    Calls Try.prog 34 #[.pointer (some ⟨x, 0, none⟩), .pointer (some ⟨cm, 0, none⟩)] w fun e w' => ∃ q' g', e = .returned (.bool (decide (acqP tk sv n ph t s = 3))) ∧ Acq w' x who tk sv ow q' g' (acqP tk sv n ph t s) (acqT tk n ph t s) ∧ Is w' 122 A cp cm b n (acqS who tk sv ow n ph s) ∧ But [cm, b, x] w w' ∧ Far x q' g' cm b ∧ (q' = x ∨ w.heap.size ≤ q') ∧ (g' = x ∨ w.heap.size ≤ g') := by
  obtain ⟨a1, a2, a3, a4, a5, a6⟩ := hf.h
  refine (acq_goes w A cp cm b n s hI hn hl x q g ph who tk sv ow t hw h a1 a2 a3 a4 a5 a6).mono ?_
  rintro e w' ⟨q', g', rfl, h1, h2, h3, h4⟩
  exact ⟨q', g', rfl, h1, h2.mem, h2.but, hf.next hI.lt hI.bl h3 h4, h3, h4⟩
theorem rel_on (w : World) (A : Option Addr) (cp cm b n : Nat) (s : St) (x q g ph : Nat) (who sv ow : Int) (hI : Is w 122 A cp cm b n s) (hn : n ≤ 1000000) (hl : Low s 1000000) (h : Rel w x who sv ow q g ph) (hf : Far x q g cm b) :
    Calls Try.prog 33 #[.pointer (some ⟨x, 0, none⟩), .pointer (some ⟨cm, 0, none⟩)] w fun e w' => ∃ q' g', e = .returned (.bool (decide (relP ph = 2))) ∧ Rel w' x who sv ow q' g' (relP ph) ∧ Is w' 122 A cp cm b n (relS who sv ow n ph s) ∧ But [cm, b, x] w w' ∧ Far x q' g' cm b ∧ (q' = x ∨ w.heap.size ≤ q') ∧ (g' = x ∨ w.heap.size ≤ g') := by
  obtain ⟨a1, a2, a3, a4, a5, a6⟩ := hf.h
  refine (rel_goes w A cp cm b n s hI hn hl x q g ph who sv ow h a1 a2 a3 a4 a5 a6).mono ?_
  rintro e w' ⟨q', g', rfl, h1, h2, h3, h4⟩
  exact ⟨q', g', rfl, h1, h2.mem, h2.but, hf.next hI.lt hI.bl h3 h4, h3, h4⟩

theorem laid_ground {w w' : World} {P T G : Int} {n : Nat} {f : Nat → Int} {cl : Nat} {A A' : Option Addr} {cap cap' c b c' b' : Nat} (h : Laid w w' P T G n f cl A A' cap cap' c b c' b') : c < w'.heap.size ∧ b < w'.heap.size ∧ c' < w'.heap.size ∧ b' < w'.heap.size ∧ cl < w'.heap.size :=
  ⟨h.two.m.lt, h.two.m.bl, h.two.r.lt, h.two.r.bl, h.lay.lt⟩

/-- The page's example. -/
def ls0 : St := fresh (fun _ => 0)
def ls1 : St := acqS 1 3 4 5 292 0 ls0
def ls2 : St := acqS 1 3 4 5 292 1 ls1
def ls3 : St := acqS 1 3 4 5 292 2 ls2

theorem lock_awake (w : World) : Calls Try.prog 29 #[] w fun e w' => e = .returned (.bool true) ∧ Below w.heap.size w w' := by
  have hL := lay_some 1 2 1 none 0 0 292 (fun _ => 0) (fun _ => 0) w (by omega) ⟨⟨by omega⟩, by omega, by omega, by omega⟩ (by omega) (fun h => absurd h (by omega)) (fun i h => absurd h (by omega))
  go_enter Try.func29, Try.ntmps29
  go_wp2_with fail
  go_at_call 30; refine hL.mono ?_; rintro e w1 ⟨cl, A, A', cap, cap', c, b, c', b', rfl, hLd⟩
  have HL : Hid (Laid w w1 1 2 1 292 (fun _ => 0) cl A A' cap cap' c b c' b') := hLd
  have hN := lock_new w1 cl 1 1
  clear hL hLd
  go_wp2_with fail
  go_at_call 32; refine hN.mono ?_; rintro e w2 ⟨x, q, rfl, hx, hq, hb, h1, h2, h3⟩
  have hA0 : Acq w2 x 1 3 4 5 q x 0 0 := .fresh q hx hq (by omega)
  obtain ⟨l1, l2, l3, l4, l5⟩ := laid_ground HL.out
  have hI0 : Is w2 122 A cap c b 292 ls0 := HL.out.two.m.below hb
  have hF0 : Far x q x c b := ⟨by omega, by omega, by omega, by omega, by omega, by omega⟩
  have HB2 : Hid (Below w.heap.size w w2) := seq HL.out.below hb
  have hup := HL.out.up
  have hs1 := HL.out.below.size
  have k0 := acq_on w2 A cap c b 292 ls0 x q x 0 1 3 4 5 0 hI0 (by omega) ((low_fresh _).more (by omega)) (by omega) hA0 hF0
  rw [show acqP 3 4 292 0 0 ls0 = 1 from rfl, show acqT 3 292 0 0 ls0 = 0 by decide] at k0
  clear hN hx hq hb hA0 hI0 hF0
  go_wp2_with fail
  go_at_call 34; refine k0.mono ?_; rintro e w3 ⟨q3, g3, rfl, hA, hI, hB, hF, -, -⟩
  have HB3 : Hid (But [c, b, x] w2 w3) := hB
  have k1 := acq_on w3 A cap c b 292 ls1 x q3 g3 1 1 3 4 5 0 hI (by omega) ((acqS_low (low_fresh _) _ _ _ _ _ _).more (by omega)) (by omega) hA hF
  rw [show acqP 3 4 292 1 0 ls1 = 2 by decide, show acqT 3 292 1 0 ls1 = 0 by decide] at k1
  clear k0 hA hI hB hF
  go_wp2_with fail
  go_at_call 34; refine k1.mono ?_; rintro e w4 ⟨q4, g4, rfl, hA, hI, hB, hF, -, -⟩
  have HB4 : Hid (But [c, b, x] w2 w4) := HB3.out.trans hB
  have k2 := acq_on w4 A cap c b 292 ls2 x q4 g4 2 1 3 4 5 0 hI (by omega) ((acqS_low (acqS_low (low_fresh _) _ _ _ _ _ _) _ _ _ _ _ _).more (by omega)) (by omega) hA hF
  rw [show acqP 3 4 292 2 0 ls2 = 3 by decide, show acqT 3 292 2 0 ls2 = 0 by decide] at k2
  clear k1 hA hI hB hF HB3
  go_wp2_with fail
  go_at_call 34; refine k2.mono ?_; rintro e w5 ⟨q5, g5, rfl, hA, hI, hB, hF, -, -⟩
  have HB5 : Hid (But [c, b, x] w2 w5) := HB4.out.trans hB
  have hP := peek_any w5 A cap c b 292 ls3 5 hI (by omega)
  obtain ⟨nx, hnx, hnn⟩ := hA.next
  have hD := acq_done w5 x nx hnx
  rw [hnn] at hD
  rw [show peekT 292 ls3 5 = 2 by decide] at hP
  clear k2 hA hI hB hF HB4
  go_wp2_with fail
  go_at_call 36; refine hP.mono ?_; rintro e w6 ⟨rfl, rfl⟩
  go_wp2_with fail
  go_at_call 85; refine hD.mono ?_; rintro e w6 ⟨rfl, rfl⟩
  go_wp2_with fail
  go_ret
  refine ⟨rfl, HB2.out.trans (HB5.out.below ?_ HB2.out.size)⟩
  intro k hk
  simp at hk
  omega
end Go.Proofs.Ytlnjjcfkcoaceaa
