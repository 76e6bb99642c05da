/- A sleep at a note, on a ground; the page's example. -/
import Derived.Test.YtjbkhnolnlcjnaaNote2
namespace Go.Proofs.Ytjbkhnolnlcjnaa
open Go Go.RowKit
set_option linter.unusedVariables false
set_option maxRecDepth 100000
set_option linter.unusedSimpArgs false

/-- A ground, two memories, and a sleep: all of the call's own. -/
structure NoteOn (w0 w : World) (cl : Nat) (P T G : Int) (A A' : Option Addr) (cap cap' c b c' b' n : Nat) (s s2 : St) (x q g ph : Nat) (t : Int) (asl : Bool) : Prop where
  lay : Lay w cl P T G
  may : May P T G
  mem : Is w 101 A cap c b n s
  ref : Is w 54 A' cap' c' b' n s2
  slp : Slp w x t (noteAt P T t) q g ph asl
  ne : c ≠ c' ∧ c ≠ b' ∧ b ≠ c' ∧ b ≠ b'
  far : Far x q g c b
  far2 : Far x q g c' b'
  cne : cl ≠ c ∧ cl ≠ b ∧ cl ≠ c' ∧ cl ≠ b' ∧ cl ≠ x ∧ cl ≠ q ∧ cl ≠ g
  below : Below w0.heap.size w0 w
  up : w0.heap.size ≤ cl ∧ w0.heap.size ≤ c ∧ w0.heap.size ≤ b ∧ w0.heap.size ≤ c' ∧ w0.heap.size ≤ b' ∧ w0.heap.size ≤ x ∧ w0.heap.size ≤ q ∧ w0.heap.size ≤ g

theorem Far.next3 {x q g cm b q' g' N : Nat} (h : Far x q g cm b) (hc : cm < N) (hb : b < N) (h1 : q' = x ∨ q' = q ∨ N ≤ q') (h2 : g' = x ∨ N ≤ g') : Far x q' g' cm b := by
  obtain ⟨a1, a2, a3, a4, a5, a6⟩ := h.h
  have k1 : q' ≠ cm := by rcases h1 with rfl | rfl | h1; exact a1; exact a3; omega
  have k2 : q' ≠ b := by rcases h1 with rfl | rfl | h1; exact a2; exact a4; omega
  have k3 : g' ≠ cm := by rcases h2 with rfl | h2; exact a1; omega
  have k4 : g' ≠ b := by rcases h2 with rfl | h2; exact a2; omega
  exact ⟨a1, a2, k1, k2, k3, k4⟩
theorem up3 {B x q N q' : Nat} (hx : B ≤ x) (hq : B ≤ q) (hN : B ≤ N) (h : q' = x ∨ q' = q ∨ N ≤ q') : B ≤ q' := by omega
theorem ne3 {k x q N q' : Nat} (hx : k ≠ x) (hq : k ≠ q) (hN : k < N) (h : q' = x ∨ q' = q ∨ N ≤ q') : k ≠ q' := by omega

section
variable {w0 w w' : World} {cl : Nat} {P T G : Int} {A A' : Option Addr} {cap cap' c b c' b' n : Nat} {s s' s2 : St} {x q g ph : Nat} {t : Int} {asl : Bool}
theorem NoteOn.turn (h : NoteOn w0 w cl P T G A A' cap cap' c b c' b' n s s2 x q g ph t asl) {l : List Nat} (hI : Is w' 101 A cap c b n s') (hB : But l w w') (h1 : cl ∉ l) (h2 : c' ∉ l) (h3 : b' ∉ l) (h4 : x ∉ l) (h5 : q ∉ l) (h6 : g ∉ l) (hl : ∀ k ∈ l, w0.heap.size ≤ k) :
    NoteOn w0 w' cl P T G A A' cap cap' c b c' b' n s' s2 x q g ph t asl :=
  ⟨(hB.block _ h.lay.lt h1).trans h.lay, h.may, hI, h.ref.but hB h2 h3, h.slp.but hB h4 h5 h6, h.ne, h.far, h.far2, h.cne, h.below.trans (hB.below hl h.below.size), h.up⟩
theorem NoteOn.still (h : NoteOn w0 w cl P T G A A' cap cap' c b c' b' n s s2 x q g ph t asl) (hB : Below w.heap.size w w') : NoteOn w0 w' cl P T G A A' cap cap' c b c' b' n s s2 x q g ph t asl :=
  h.turn (l := []) (h.mem.below hB) (But.of_below hB) (by simp) (by simp) (by simp) (by simp) (by simp) (by simp) (by simp)

theorem NoteOn.step (h : NoteOn w0 w cl P T G A A' cap cap' c b c' b' n s s2 x q g ph t asl) (hn : n ≤ 1000000) (hl : Low s 1000000) :
    Calls Try.prog 51 #[.pointer (some ⟨x, 0, none⟩), .pointer (some ⟨c, 0, none⟩)] w fun e w' => ∃ q' g', e = .returned (.bool (decide (slpP (noteAt P T t) n ph s = 2))) ∧ NoteOn w0 w' cl P T G A A' cap cap' c b c' b' n (slpS t (noteAt P T t) n ph asl s) s2 x q' g' (slpP (noteAt P T t) n ph s) t (slpA (noteAt P T t) n ph s) ∧ (q' = x ∨ q' = q ∨ w.heap.size ≤ q') ∧ (g' = x ∨ w.heap.size ≤ g') ∧ But [c, b, x, q] w w' := by
  refine (slp_on w A cap c b n s x q g ph t (noteAt P T t) asl h.mem hn hl h.slp h.far).mono ?_
  rintro e w' ⟨q', g', rfl, h1, h2, h3, h4, h5, h6⟩
  obtain ⟨n1, n2, n3, n4⟩ := h.ne
  obtain ⟨f1, f2, f3, f4, f5, f6⟩ := h.far2.h
  obtain ⟨c1, c2, c3, c4, c5, c6, c7⟩ := h.cne
  obtain ⟨u1, u2, u3, u4, u5, u6, u7, u8⟩ := h.up
  have hr1 := h.ref.lt
  have hr2 := h.ref.bl
  have hcl := h.lay.lt
  have hsz := h.below.size
  have h6' : g' = x ∨ g' = x ∨ w.heap.size ≤ g' := by rcases h6 with h6 | h6; exact .inl h6; exact .inr (.inr h6)
  exact ⟨q', g', rfl, ⟨(h3.block _ h.lay.lt (by simp [c1, c2, c5, c6])).trans h.lay, h.may, h2, h.ref.but h3 (by simp [Ne.symm n1, Ne.symm n3, Ne.symm f1, Ne.symm f3]) (by simp [Ne.symm n2, Ne.symm n4, Ne.symm f2, Ne.symm f4]), h1, h.ne, h4, h.far2.next3 hr1 hr2 h5 h6, ⟨c1, c2, c3, c4, c5, ne3 c5 c6 hcl h5, ne3 c5 c5 hcl h6'⟩, h.below.trans (h3.below (by simp [u2, u3, u6, u7]) h.below.size), ⟨u1, u2, u3, u4, u5, u6, up3 u6 u7 hsz h5, up3 u6 u6 hsz h6'⟩⟩, h5, h6, h3⟩
theorem NoteOn.ask (h : NoteOn w0 w cl P T G A A' cap cap' c b c' b' n s s2 x q g ph t asl) (hn : n ≤ 1000000) :
    Calls Try.prog 49 #[.pointer (some ⟨x, 0, none⟩), .pointer (some ⟨c, 0, none⟩)] w fun e w' => e = .returned (.bool (asl && decide (peekT n s (noteAt P T t) = 0))) ∧ NoteOn w0 w' cl P T G A A' cap cap' c b c' b' n s s2 x q g ph t asl ∧ Below w.heap.size w w' := by
  refine (slp_asl w A cap c b n s x q g ph t (noteAt P T t) asl h.mem hn h.slp).mono ?_
  rintro e w' ⟨rfl, hb⟩
  exact ⟨rfl, h.still hb, hb⟩
theorem NoteOn.awake (h : NoteOn w0 w cl P T G A A' cap cap' c b c' b' n s s2 x q g ph t asl) (hn : n ≤ 1000000) :
    Calls Try.prog 50 #[.pointer (some ⟨cl, 0, none⟩), .pointer (some ⟨c, 0, none⟩), .int .i64 t] w fun e w' => e = .returned (.bool (decide (peekT n s (noteAt P T t) ≠ 0))) ∧ NoteOn w0 w' cl P T G A A' cap cap' c b c' b' n s s2 x q g ph t asl ∧ Below w.heap.size w w' := by
  refine (awake_note w cl P T G t A cap c b n s h.lay h.may h.mem hn).mono ?_
  rintro e w' ⟨rfl, hb⟩
  exact ⟨rfl, h.still hb, hb⟩
theorem NoteOn.isdone (h : NoteOn w0 w cl P T G A A' cap cap' c b c' b' n s s2 x q g ph t asl) :
    Calls Try.prog 48 #[.pointer (some ⟨x, 0, none⟩)] w fun e w' => e = .returned (.bool (decide (ph = 2))) ∧ w = w' := by
  obtain ⟨nx, hx, hn⟩ := h.slp.next
  rw [← hn]
  exact slp_done w x nx hx

theorem lay_ne {T' : TypeId} (hL : Lay w cl P T G) (hT : T' ≠ 152) (hI : Is w T' A cap c b n s) (hn : 0 < n) : cl ≠ c ∧ cl ≠ b := by
  have h1 : w.heap[cl]? = some (.cells #[.int .i64 P, .int .i64 T, .int .i64 G] 152 (0, 0)) := hL
  constructor
  · rintro rfl
    have h2 := hI.main
    rw [h1] at h2
    simp at h2
    exact hT h2.2.symm
  · rintro rfl
    obtain ⟨_, _, cs, h2, _⟩ := hI.wds hn
    rw [h1] at h2
    simp at h2
/-- A sleep is made. -/
theorem note_begin {f : Nat → Int} (hn0 : 0 < n) (hG : Laid w0 w P T G n f cl A A' cap cap' c b c' b') (hM : May P T G) (t : Int) :
    Calls Try.prog 46 #[.pointer (some ⟨cl, 0, none⟩), .int .i64 t] w fun e w' => ∃ x q, e = .returned (.pointer (some ⟨x, 0, none⟩)) ∧ NoteOn w0 w' cl P T G A A' cap cap' c b c' b' n (fresh f) (fresh f) x q x 0 t false := by
  refine (note_new w cl P T G t hG.lay hM).mono ?_
  rintro e w' ⟨x, q, rfl, h1, h2, h3, h4, h5⟩
  obtain ⟨l1, l2, l3, l4, l5⟩ := laid_ground hG
  obtain ⟨u1, u2, u3, u4, u5⟩ := hG.up
  have hsz := hG.below.size
  refine ⟨x, q, rfl, hG.lay.below h3 hG.lay.lt, hM, hG.two.m.below h3, hG.two.r.below h3, .fresh q false h1 h2 (by omega), hG.two.ne, ?_, ?_, ?_, seq hG.below h3, ?_⟩
  · exact ⟨by omega, by omega, by omega, by omega, by omega, by omega⟩
  · exact ⟨by omega, by omega, by omega, by omega, by omega, by omega⟩
  · obtain ⟨m1, m2⟩ := lay_ne hG.lay (by decide) hG.two.m hn0
    obtain ⟨m3, m4⟩ := lay_ne hG.lay (by decide) hG.two.r hn0
    exact ⟨m1, m2, m3, m4, by omega, by omega, by omega⟩
  · exact ⟨by omega, by omega, by omega, by omega, by omega, by omega, by omega, by omega⟩

/-- A wake, not done. -/
structure Wk (w : World) (y qy gy : Nat) (who nt : Int) : Prop where
  main : Blk w y (slpCells who (some ⟨qy, 0, none⟩) nt) 137
  com : Blk w qy (comCells 2 0 nt 0 1 false .nilIface (.func (.func 118) #[] #[.pointer (some ⟨gy, 0, none⟩)]) false false) 150
  box : Blk w gy #[.nilFunc] 1
  h1 : y < qy
  h2 : y < gy
theorem NoteOn.waker (h : NoteOn w0 w cl P T G A A' cap cap' c b c' b' n s s2 x q g ph t asl) (who : Int) :
    Calls Try.prog 54 #[.pointer (some ⟨cl, 0, none⟩), .int .i64 t, .int .i64 who] w fun e w' => ∃ y qy gy, e = .returned (.pointer (some ⟨y, 0, none⟩)) ∧ NoteOn w0 w' cl P T G A A' cap cap' c b c' b' n s s2 x q g ph t asl ∧ Wk w' y qy gy who (noteAt P T t) ∧ (cl < y ∧ c < y ∧ b < y ∧ c' < y ∧ b' < y ∧ x < y ∧ q < y ∧ g < y) := by
  refine (wake_new w cl P T G t who h.lay h.may).mono ?_
  rintro e w' ⟨y, qy, gy, rfl, h1, h2, h3, h4, h5, h6, h7⟩
  obtain ⟨x1, x2, x3⟩ := h.slp.lt
  exact ⟨y, qy, gy, rfl, h.still h4, ⟨h1, h2, h3, h6, h7⟩, Nat.lt_of_lt_of_le h.lay.lt h5, Nat.lt_of_lt_of_le h.mem.lt h5, Nat.lt_of_lt_of_le h.mem.bl h5, Nat.lt_of_lt_of_le h.ref.lt h5, Nat.lt_of_lt_of_le h.ref.bl h5, Nat.lt_of_lt_of_le x1 h5, Nat.lt_of_lt_of_le x2 h5, Nat.lt_of_lt_of_le x3 h5⟩
theorem NoteOn.wakes {y qy gy : Nat} {who nt : Int} (h : NoteOn w0 w cl P T G A A' cap cap' c b c' b' n s s2 x q g ph t asl) (hn : n ≤ 1000000) (hl : Low s 1000000) (k : Wk w y qy gy who nt) (hy : cl < y ∧ c < y ∧ b < y ∧ c' < y ∧ b' < y ∧ x < y ∧ q < y ∧ g < y) :
    Calls Try.prog 53 #[.pointer (some ⟨y, 0, none⟩), .pointer (some ⟨c, 0, none⟩)] w fun e w' => e = .returned (.bool true) ∧ NoteOn w0 w' cl P T G A A' cap cap' c b c' b' n (stp 2 who nt 0 1 n s) s2 x q g ph t asl := by
  obtain ⟨y1, y2, y3, y4, y5, y6, y7, y8⟩ := hy
  have hf : Far y qy gy c b := by have := k.h1; have := k.h2; exact ⟨Nat.ne_of_gt y2, Nat.ne_of_gt y3, by omega, by omega, by omega, by omega⟩
  refine (wake_on w A cap c b n s y qy gy who nt h.mem hn hl k.main k.com k.box k.h1 k.h2 hf).mono ?_
  rintro e w' ⟨rfl, h1, h2, h3⟩
  obtain ⟨n1, n2, n3, n4⟩ := h.ne
  obtain ⟨a1, a2, a3, a4, a5, a6⟩ := h.far.h
  obtain ⟨c1, c2, c3, c4, c5, c6, c7⟩ := h.cne
  obtain ⟨u1, u2, u3, u4, u5, u6, u7, u8⟩ := h.up
  exact ⟨rfl, h.turn h2 h3 (by simp [c1, c2, Nat.ne_of_lt y1]) (by simp [Ne.symm n1, Ne.symm n3, Nat.ne_of_lt y4]) (by simp [Ne.symm n2, Ne.symm n4, Nat.ne_of_lt y5]) (by simp [a1, a2, Nat.ne_of_lt y6]) (by simp [a3, a4, Nat.ne_of_lt y7]) (by simp [a5, a6, Nat.ne_of_lt y8]) (by simp [u2, u3]; exact Nat.le_of_lt (Nat.lt_of_le_of_lt u2 y2))⟩
end

/-- The page's example. -/
def ns1 : St := slpS 0 284 289 0 false (fresh (fun _ => 0))
def ns2 : St := stp 2 0 284 0 1 289 ns1
def ns3 : St := slpS 0 284 289 0 true ns2
def ns4 : St := slpS 0 284 289 1 false ns3
theorem note_awake (w : World) : Calls Try.prog 44 #[] w fun e w' => e = .returned (.bool true) ∧ Below w.heap.size w w' := by
  have hM : May 1 1 1 := ⟨by omega⟩
  have hL := lay_some 1 1 1 none 0 0 289 (fun _ => 0) (fun _ => 0) w (by omega) ⟨hM, by omega, by omega, by omega⟩ (by omega) (fun h => absurd h (by omega)) (fun i h => absurd h (by omega))
  go_enter Try.func44, Try.ntmps44
  go_wp2_with fail
  go_at_call 32; refine hL.mono ?_; rintro e w1 ⟨cl, A, A', cap, cap', c, b, c', b', rfl, hLd⟩
  have hN := note_begin (by omega) hLd hM 0
  clear hL hLd
  go_wp2_with fail
  go_at_call 46; refine hN.mono ?_; rintro e w2 ⟨x, q, rfl, hO⟩
  have k0 := hO.step (by omega) ((low_fresh _).more (by omega))
  rw [show slpP (noteAt 1 1 0) 289 0 (fresh (putF (fun _ => 0) (fun _ => 0) 289 0)) = 0 from rfl, show slpA (noteAt 1 1 0) 289 0 (fresh (putF (fun _ => 0) (fun _ => 0) 289 0)) = true from rfl, show slpS 0 (noteAt 1 1 0) 289 0 false (fresh (putF (fun _ => 0) (fun _ => 0) 289 0)) = ns1 from rfl] at k0
  clear hN hO
  go_wp2_with fail
  go_at_call 51; refine k0.mono ?_; rintro e w3 ⟨q3, g3, rfl, hO, -⟩
  have hA := hO.ask (by omega)
  rw [show (true && decide (peekT 289 ns1 (noteAt 1 1 0) = 0)) = true by decide] at hA
  clear k0 hO
  go_wp2_with fail
  go_at_call 49; refine hA.mono ?_; rintro e w4 ⟨rfl, hO, -⟩
  have hW := hO.waker 0
  clear hA hO
  go_wp2_with fail
  go_at_call 54; refine hW.mono ?_; rintro e w5 ⟨y, qy, gy, rfl, hO, hk, hy⟩
  have l1 : Low ns1 1000 := (slpS_low (low_fresh _) _ _ _ _ _).more (by omega)
  have hS := hO.wakes (by omega) (l1.more (by omega)) hk hy
  rw [show stp 2 0 (noteAt 1 1 0) 0 1 289 ns1 = ns2 from rfl] at hS
  have l2 : Low ns2 1001 := stp_low l1 _ _ _ _ _ _
  clear hW hO hk hy
  go_wp2_with fail
  go_at_call 53; refine hS.mono ?_; rintro e w6 ⟨rfl, hO⟩
  have hA := hO.awake (by omega)
  rw [show decide (peekT 289 ns2 (noteAt 1 1 0) ≠ 0) = true by decide] at hA
  clear hS hO
  go_wp2_with fail
  go_at_call 50; refine hA.mono ?_; rintro e w7 ⟨rfl, hO, -⟩
  have hB := hO.ask (by omega)
  rw [show (true && decide (peekT 289 ns2 (noteAt 1 1 0) = 0)) = false by decide] at hB
  clear hA hO
  go_wp2_with fail
  go_at_call 49; refine hB.mono ?_; rintro e w8 ⟨rfl, hO, -⟩
  have k1 := hO.step (by omega) (l2.more (by omega))
  rw [show slpP (noteAt 1 1 0) 289 0 ns2 = 1 by decide, show slpA (noteAt 1 1 0) 289 0 ns2 = false by decide, show slpS 0 (noteAt 1 1 0) 289 0 true ns2 = ns3 from rfl] at k1
  have l3 : Low ns3 1002 := slpS_low l2 _ _ _ _ _
  clear hB hO
  go_wp2_with fail
  go_at_call 51; refine k1.mono ?_; rintro e w9 ⟨q4, g4, rfl, hO, -⟩
  have k2 := hO.step (by omega) (l3.more (by omega))
  rw [show slpP (noteAt 1 1 0) 289 1 ns3 = 2 by decide, show slpA (noteAt 1 1 0) 289 1 ns3 = false by decide, show slpS 0 (noteAt 1 1 0) 289 1 false ns3 = ns4 from rfl] at k2
  clear k1 hO
  go_wp2_with fail
  go_at_call 51; refine k2.mono ?_; rintro e wa ⟨q5, g5, rfl, hO, -⟩
  have hA := hO.awake (by omega)
  rw [show decide (peekT 289 ns4 (noteAt 1 1 0) ≠ 0) = false by decide] at hA
  clear k2 hO
  go_wp2_with fail
  go_at_call 50; refine hA.mono ?_; rintro e wb ⟨rfl, hO, -⟩
  have hb := hO.below
  clear hA hO
  go_wp2_with fail
  go_ret
  exact ⟨rfl, hb⟩
end Go.Proofs.Ytjbkhnolnlcjnaa
