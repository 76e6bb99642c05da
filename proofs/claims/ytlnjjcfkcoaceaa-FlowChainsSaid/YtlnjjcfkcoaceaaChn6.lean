/- Chains: a step at which one sleeps, and whether one is asleep. -/
import Derived.Test.YtlnjjcfkcoaceaaChn5
namespace Go.Proofs.Ytlnjjcfkcoaceaa
open Go Go.RowKit
set_option linter.unusedVariables false
set_option maxRecDepth 100000
set_option linter.unusedSimpArgs false

section
variable (w : World) (A : Option Addr) (cp cm b n : Nat) (s : St) (hI : Is w 122 A cp cm b n s) (hn : n ≤ 1000000) (x : Nat) (who : Int) (ba N : Nat) (L : Nat → Acc) (r q : Nat) (asl : Bool) (Ag : Option Addr) (capg : Nat) (g : Nat → Int)
    (h : CS w x who ba N L r q asl Ag capg g)
include hI hn h

set_option maxHeartbeats 1000000 in
/-- A step at a word that is not 0. -/
theorem chain_wake (hl : Low s 1000000) (hr : r < N) (hN : N ≤ 1000) (hk : (L r).k = 0) (hv : peekT n s (L r).i ≠ 0)
    (fx : x ≠ cm ∧ x ≠ b) (fq : q ≠ cm ∧ q ≠ b) (fb : ba ≠ cm ∧ ba ≠ b) (fg : GotFar Ag [cm, b]) :
    Calls Try.prog 21 #[.pointer (some ⟨x, 0, none⟩), .pointer (some ⟨cm, 0, none⟩)] w fun e w' => e = .returned (.bool (decide (r + 1 = N))) ∧ ∃ q' gb capg', CS w' x who ba N L (r + 1) q' false (some ⟨gb, 0, none⟩) capg' (gsnoc g r (peekT n s (L r).i)) ∧ Is w' 122 A cp cm b n (stp 1 who (L r).i 0 0 n s) ∧ But (cm :: b :: q :: x :: gotL Ag) w w' ∧ (q' = x ∨ w.heap.size ≤ q') ∧ (Ag = some ⟨gb, 0, none⟩ ∨ w.heap.size ≤ gb) := by
  cases h with
  | over Ag capg g av parts hM hG hf => omega
  | next r q n' asl Ag capg g e hC hq hqx hqb hgq =>
    obtain ⟨av, B, cb, hA, hM⟩ := hC.main
    have hgL := gotL_not hC.got hC.far (k := x) (by simp)
    have hgc := gotL_not hC.got fg (k := cm) (by simp)
    have hgb := gotL_not hC.got fg (k := b) (by simp)
    unfold comAs at hq
    rw [hk] at hq
    refine (chain_step _ x _ (fun z w' => z = decide (r + 1 = N) ∧ ∃ q' gb capg', CS w' x who ba N L (r + 1) q' false (some ⟨gb, 0, none⟩) capg' (gsnoc g r (peekT n s (L r).i)) ∧ Is w' 122 A cp cm b n (stp 1 who (L r).i 0 0 n s) ∧ But (cm :: b :: q :: x :: gotL Ag) w w' ∧ (q' = x ∨ w.heap.size ≤ q') ∧ (Ag = some ⟨gb, 0, none⟩ ∨ w.heap.size ≤ gb))
      ((step_wake w A cp cm b n s hI hn x q 119 _ #[.pointer (some ⟨x, 0, none⟩)] #[] 128 who (L r).p (L r).i (L r).o (L r).v (L r).z asl false hM rfl rfl hq hqx fx.1 fx.2 fq.1 fq.2 hl hv (fun nx w' => nx.isNone = decide (r + 1 = N) ∧ ∃ q' gb capg', CS w' x who ba N L (r + 1) q' false (some ⟨gb, 0, none⟩) capg' (gsnoc g r (peekT n s (L r).i)) ∧ Is w' 122 A cp cm b n (stp 1 who (L r).i 0 0 n s) ∧ But (cm :: b :: q :: x :: gotL Ag) w w' ∧ (q' = x ∨ w.heap.size ≤ q') ∧ (Ag = some ⟨gb, 0, none⟩ ∨ w.heap.size ≤ gb)) (fun w => ent119 _ w) ?_).mono ?_)).mono ?_
    · intro W hIW hB hx1
      have fg3 : GotFar Ag [cm, b, q] := fun k e => by
        have h1 := fg k e
        have h2 := hgq k e
        simp at h1 h2
        simp [h1, h2]
      have hT := hC.taken hB (by simp [fx, Ne.symm hqx]) (by simp [fb, Ne.symm hqb]) fg3
      have hIs : Is (W.setCell ⟨x, 1, none⟩ (.pointer none)) 122 A cp cm b n (stp 1 who (L r).i 0 0 n s) := hIW.keep (by rw [size_set]; exact Nat.le_refl _) (heap_set_ne _ (Ne.symm fx.1) _ _) (fun _ => heap_set_ne _ (Ne.symm fx.2) _ _)
      have hBs : But (cm :: b :: q :: x :: gotL Ag) w (W.setCell ⟨x, 1, none⟩ (.pointer none)) := (hB.more (by intro k _ hk; simp at hk; rcases hk with rfl | rfl | rfl <;> simp)).set (g := x) (.inl (by simp)) 1 _
      have hsz : w.heap.size ≤ (W.setCell ⟨x, 1, none⟩ (.pointer none)).heap.size := hBs.size
      refine (keep_any _ x who none ba (r + 1) n' L Ag capg r g (peekT n s (L r).i) hT (by omega) (by omega)).mono ?_
      rintro e w' ⟨hv, hK⟩
      cases hK with
      | last gb cap2 h0 hC2 hB2 hg2 =>
        obtain ⟨av2, B2, cb2, hA2, hM2⟩ := hC2.main
        obtain rfl : N = r + 1 := by omega
        refine ⟨hv, none, hM2.cell 1 rfl, by simp, x, gb, cap2, .over _ _ _ av2 _ hM2 hC2.got (fun k e => by have := hC2.far k e; simp at this; simp [this]), hIs.but hB2 (by simp [Ne.symm fx.1, hgc]) (by simp [Ne.symm fx.2, hgb]), hBs.trans (hB2.more (by intro k _ hk; simp at hk; rcases hk with rfl | hk <;> simp [*])), .inl rfl, ?_⟩
        rcases hg2 with e | e
        · exact .inl e
        · exact .inr (by omega)
      | more q2 gb cap2 n2 hn2 hq2 hQ2 hqg hC2 hB2 hg2 =>
        obtain ⟨av2, B2, cb2, hA2, hM2⟩ := hC2.main
        have hxl := hT.main
        have hlt := hT.lt
        refine ⟨hv, some ⟨q2, 0, none⟩, hM2.cell 1 rfl, (decide_eq_false (show ¬ r + 1 = N by omega)).symm, q2, gb, cap2, .next _ _ n2 _ _ _ _ (by omega) hC2 hQ2 ?_ (by omega) (fun k e => by cases e; simp; exact fun h => hqg h.symm), hIs.but hB2 (by simp [Ne.symm fx.1, hgc]) (by simp [Ne.symm fx.2, hgb]), hBs.trans (hB2.more (by intro k _ hk; simp at hk; rcases hk with rfl | hk <;> simp [*])), .inr (by omega), ?_⟩
        · have := hx1.lt
          rw [size_set] at hq2
          omega
        · rcases hg2 with e | e
          · exact .inl e
          · exact .inr (by omega)
    · rintro e w' ⟨z, rfl, nx, rfl, h1, h2⟩
      exact ⟨_, rfl, h1, h2⟩
    · rintro e w' ⟨z, rfl, rfl, h2⟩
      exact ⟨rfl, h2⟩

/-- .. at a word that is 0, for the first time. -/
theorem chain_doze (hl : Low s 1000000) (hr : r < N) (hk : (L r).k = 0) (hv : peekT n s (L r).i = 0) (ha : asl = false)
    (fx : x ≠ cm ∧ x ≠ b) (fq : q ≠ cm ∧ q ≠ b) (fb : ba ≠ cm ∧ ba ≠ b) (fg : GotFar Ag [cm, b]) :
    Calls Try.prog 21 #[.pointer (some ⟨x, 0, none⟩), .pointer (some ⟨cm, 0, none⟩)] w fun e w' => e = .returned (.bool false) ∧ CS w' x who ba N L r q true Ag capg g ∧ Is w' 122 A cp cm b n (stp 1 who (L r).i 0 0 n s) ∧ But [cm, b, q] w w' := by
  cases h with
  | over Ag capg g av parts hM hG hf => omega
  | next r q n' asl Ag capg g e hC hq hqx hqb hgq =>
    obtain ⟨av, B, cb, hA, hM⟩ := hC.main
    unfold comAs at hq
    rw [hk] at hq
    have fg3 : GotFar Ag [cm, b, q] := fun k e => by
      have h1 := fg k e
      have h2 := hgq k e
      simp at h1 h2
      simp [h1, h2]
    refine (chain_step _ x _ (fun z w' => z = false ∧ CS w' x who ba N L r q true Ag capg g ∧ Is w' 122 A cp cm b n (stp 1 who (L r).i 0 0 n s) ∧ But [cm, b, q] w w')
      ((step_doze w A cp cm b n s hI hn x q 119 _ #[.pointer (some ⟨x, 0, none⟩)] #[] 128 who (L r).p (L r).i (L r).o (L r).v (L r).z asl false hM rfl rfl hq hqx fx.1 fx.2 fq.1 fq.2 hl hv ha).mono ?_)).mono ?_
    · rintro e w' ⟨rfl, hI2, hq2, hB⟩
      refine ⟨false, rfl, rfl, .next r q n' true Ag capg g e ⟨⟨av, B, cb, hA, hM.but hB (by simp [fx, Ne.symm hqx])⟩, hC.sees.but hB (by simp [fb, Ne.symm hqb]) hC.lt, hC.got.but hB fg3, Nat.lt_of_lt_of_le hC.lt hB.size, hC.ne, hC.far⟩ ?_ hqx hqb hgq, hI2, hB⟩
      unfold comAs
      rw [hk]
      exact hq2
    · rintro e w' ⟨z, rfl, rfl, h2⟩
      exact ⟨rfl, h2⟩

/-- .. at a word that is 0 still. -/
theorem chain_still (hr : r < N) (hk : (L r).k = 0) (hv : peekT n s (L r).i = 0) (ha : asl = true) :
    Calls Try.prog 21 #[.pointer (some ⟨x, 0, none⟩), .pointer (some ⟨cm, 0, none⟩)] w fun e w' => e = .returned (.bool false) ∧ Below w.heap.size w w' := by
  cases h with
  | over Ag capg g av parts hM hG hf => omega
  | next r q n' asl Ag capg g e hC hq hqx hqb hgq =>
    obtain ⟨av, B, cb, hA, hM⟩ := hC.main
    unfold comAs at hq
    rw [hk] at hq
    refine (chain_step _ x _ (fun z w' => z = false ∧ Below w.heap.size w w')
      ((step_still w A cp cm b n s hI hn x q 119 _ #[.pointer (some ⟨x, 0, none⟩)] #[] 128 who (L r).p (L r).i (L r).o (L r).v (L r).z asl false hM rfl rfl hq hv ha).mono ?_)).mono ?_
    · rintro e w' ⟨rfl, hB⟩
      exact ⟨false, rfl, rfl, hB⟩
    · rintro e w' ⟨z, rfl, rfl, h2⟩
      exact ⟨rfl, h2⟩

omit hI hn in
/-- .. that is done. -/
theorem chain_over (hr : r = N) :
    Calls Try.prog 21 #[.pointer (some ⟨x, 0, none⟩), .pointer (some ⟨cm, 0, none⟩)] w fun e w' => e = .returned (.bool true) ∧ w = w' := by
  obtain ⟨nx, h1, h2⟩ := h.nxt
  rw [decide_eq_true hr] at h2
  obtain rfl : nx = none := by cases nx with | none => rfl | some _ => cases h2
  refine (chain_step w x _ (fun z w' => z = true ∧ w = w') ((step_none w x cm h1).mono ?_)).mono ?_
  · rintro e w' ⟨rfl, rfl⟩; exact ⟨true, rfl, rfl, rfl⟩
  · rintro e w' ⟨z, rfl, rfl, rfl⟩; exact ⟨rfl, rfl⟩

/-- Whether it is asleep. -/
theorem chain_sleeps :
    Calls Try.prog 19 #[.pointer (some ⟨x, 0, none⟩), .pointer (some ⟨cm, 0, none⟩)] w fun e w' => e = .returned (.bool (asl && decide (peekT n s (L r).i = 0))) ∧ Below w.heap.size w w' := by
  cases h with
  | next r q n' asl Ag capg g e hC hq hqx hqb hgq =>
    obtain ⟨av, B, cb, hA, hM⟩ := hC.main
    exact chain_asleep w x _ _ (fun w' => Below w.heap.size w w') (asleep_some w x q cm _ (fun w' => Below w.heap.size w w') (hM.cell 1 rfl) (sleeps_any w A cp cm b n s q _ _ _ _ _ _ _ asl false hI hn hq))
  | over Ag capg g av parts hM hG hf => exact chain_asleep w x _ _ (fun w' => Below w.heap.size w w') ((asleep_none w x _ (hM.cell 1 rfl)).mono fun e w' h => ⟨h.1, by rw [← h.2]; exact Below.refl _ _⟩)
end
end Go.Proofs.Ytlnjjcfkcoaceaa
