/- The steps of the machines of notes. -/
import Derived.Test.YtjbkhnolnlcjnaaNote1
import Derived.Test.YtjbkhnolnlcjnaaFlow7
import Derived.Test.YtjbkhnolnlcjnaaLock4
namespace Go.Proofs.Ytjbkhnolnlcjnaa
open Go Go.RowKit
set_option linter.unusedVariables false
set_option maxRecDepth 100000
set_option linter.unusedSimpArgs false

/-- A sleep at a note. -/
inductive Slp (w : World) (x : Nat) (who nt : Int) : Nat → Nat → Nat → Bool → Prop
  | fresh (q : Nat) (asl : Bool) : Blk w x (slpCells who (some ⟨q, 0, none⟩) nt) 133 → Blk w q (comCells 0 0 nt 0 0 false .nilIface (.func (.func 86) #[.pointer (some ⟨x, 0, none⟩)] #[]) asl false) 150 → q ≠ x → Slp w x who nt q x 0 asl
  | put (q g : Nat) : Blk w x (slpCells who (some ⟨q, 0, none⟩) nt) 133 → Blk w q (comCells 2 0 nt 0 0 false .nilIface (.func (.func 118) #[] #[.pointer (some ⟨g, 0, none⟩)]) false false) 150 → Blk w g #[.nilFunc] 1 → q ≠ x → g ≠ x → Slp w x who nt q g 1 false
  | over : Blk w x (slpCells who none nt) 133 → Slp w x who nt x x 2 false
theorem Slp.but {w w' : World} {x q g ph : Nat} {who nt : Int} {asl : Bool} {l : List Nat} (h : Slp w x who nt q g ph asl) (hb : But l w w') (hx : x ∉ l) (hq : q ∉ l) (hg : g ∉ l) : Slp w' x who nt q g ph asl := by
  cases h with
  | fresh _ _ a b c => exact .fresh _ _ (a.but hb hx) (b.but hb hq) c
  | put _ _ a b c d e => exact .put _ _ (a.but hb hx) (b.but hb hq) (c.but hb hg) d e
  | over a => exact .over (a.but hb hx)
theorem Slp.lt {w : World} {x q g ph : Nat} {who nt : Int} {asl : Bool} (h : Slp w x who nt q g ph asl) : x < w.heap.size ∧ q < w.heap.size ∧ g < w.heap.size := by
  cases h with
  | fresh _ _ a b c => exact ⟨a.lt, b.lt, a.lt⟩
  | put _ _ a b c d e => exact ⟨a.lt, b.lt, c.lt⟩
  | over a => exact ⟨a.lt, a.lt, a.lt⟩
theorem Slp.next {w : World} {x q g ph : Nat} {who nt : Int} {asl : Bool} (h : Slp w x who nt q g ph asl) : ∃ nx, w.cell? ⟨x, 1, none⟩ = some (.pointer nx) ∧ nx.isNone = decide (ph = 2) := by
  cases h with
  | fresh _ _ a b c => exact ⟨_, a.cell 1 rfl, rfl⟩
  | put _ _ a b c d e => exact ⟨_, a.cell 1 rfl, rfl⟩
  | over a => exact ⟨_, a.cell 1 rfl, rfl⟩
theorem Slp.below {w w' : World} {x q g ph : Nat} {who nt : Int} {asl : Bool} (h : Slp w x who nt q g ph asl) (hb : Below w.heap.size w w') : Slp w' x who nt q g ph asl := h.but (But.of_below (l := []) hb) (by simp) (by simp) (by simp)

def slpS (who nt : Int) (n ph : Nat) (asl : Bool) (s : St) : St := if ph = 0 then (if peekT n s nt = 0 ∧ asl = true then s else stp 1 who nt 0 0 n s) else if ph = 1 then stp 2 who nt 0 0 n s else s
def slpP (nt : Int) (n ph : Nat) (s : St) : Nat := if ph = 0 then (if peekT n s nt = 0 then 0 else 1) else 2
def slpA (nt : Int) (n ph : Nat) (s : St) : Bool := decide (ph = 0 ∧ peekT n s nt = 0)
theorem slpS_low {s : St} {m : Int} (h : Low s m) (who nt : Int) (n ph : Nat) (asl : Bool) : Low (slpS who nt n ph asl s) (m + 1) := by
  unfold slpS
  split
  · split
    · exact h.more (by omega)
    · exact stp_low h _ _ _ _ _ _
  split
  · exact stp_low h _ _ _ _ _ _
  · exact h.more (by omega)

theorem slp_on (w : World) (A : Option Addr) (cp cm b n : Nat) (s : St) (x q g ph : Nat) (who nt : Int) (asl : Bool) (hI : Is w 101 A cp cm b n s) (hn : n ≤ 1000000) (hl : Low s 1000000) (h : Slp w x who nt q g ph asl) (hf : Far x q g cm b) :
    Calls Try.prog 51 #[.pointer (some ⟨x, 0, none⟩), .pointer (some ⟨cm, 0, none⟩)] w fun e w' => ∃ q' g', e = .returned (.bool (decide (slpP nt n ph s = 2))) ∧ Slp w' x who nt q' g' (slpP nt n ph s) (slpA nt n ph s) ∧ Is w' 101 A cp cm b n (slpS who nt n ph asl s) ∧ But [cm, b, x, q] w w' ∧ Far x q' g' cm b ∧ (q' = x ∨ q' = q ∨ w.heap.size ≤ q') ∧ (g' = x ∨ w.heap.size ≤ g') := by
  obtain ⟨a1, a2, a3, a4, a5, a6⟩ := hf.h
  have hcm := hI.lt
  have hcb := hI.bl
  cases h with
  | fresh _ _ hx hq hne =>
    by_cases hv : peekT n s nt = 0
    · have eP : slpP nt n 0 s = 0 := by simp [slpP, hv]
      have eA : slpA nt n 0 s = true := by simp [slpA, hv]
      rw [eP, eA]
      cases asl
      · have eS : slpS who nt n 0 false s = stp 1 who nt 0 0 n s := by simp [slpS]
        rw [eS]
        refine (slp_step _ x _ (fun z w' => z = false ∧ Is w' 101 A cp cm b n (stp 1 who nt 0 0 n s) ∧ Blk w' q (comCells 0 0 nt 0 0 false .nilIface (.func (.func 86) #[.pointer (some ⟨x, 0, none⟩)] #[]) true false) 150 ∧ But [cm, b, q] w w') ((step_doze w A cp cm b n s hI hn x q 86 _ #[.pointer (some ⟨x, 0, none⟩)] #[] 133 who 0 nt 0 0 false false false hx rfl rfl hq hne a1 a2 a3 a4 hl hv rfl).mono ?_)).mono ?_
        · rintro e w' ⟨rfl, h1⟩; exact ⟨false, rfl, rfl, h1⟩
        · rintro e w' ⟨z, rfl, rfl, h1, h2, h3⟩
          exact ⟨q, x, rfl, .fresh q true (hx.but h3 (by simp [a1, a2, Ne.symm hne])) h2 hne, h1, h3.more (by intro k _ hk; simp at hk ⊢; omega), hf, .inr (.inl rfl), .inl rfl⟩
      · have eS : slpS who nt n 0 true s = s := by simp [slpS, hv]
        rw [eS]
        refine (slp_step _ x _ (fun z w' => z = false ∧ Below w.heap.size w w') ((step_still w A cp cm b n s hI hn x q 86 _ #[.pointer (some ⟨x, 0, none⟩)] #[] 133 who 0 nt 0 0 false true false hx rfl rfl hq hv rfl).mono ?_)).mono ?_
        · rintro e w' ⟨rfl, h1⟩; exact ⟨false, rfl, rfl, h1⟩
        · rintro e w' ⟨z, rfl, rfl, h1⟩
          exact ⟨q, x, rfl, (Slp.fresh q true hx hq hne).below h1, hI.below h1, But.of_below h1, hf, .inr (.inl rfl), .inl rfl⟩
    · have eP : slpP nt n 0 s = 1 := by simp [slpP, hv]
      have eA : slpA nt n 0 s = false := by simp [slpA, hv]
      have eS : slpS who nt n 0 asl s = stp 1 who nt 0 0 n s := by simp [slpS, hv]
      rw [eP, eA, eS]
      refine (slp_step _ x _ _ (step_wake w A cp cm b n s hI hn x q 86 _ #[.pointer (some ⟨x, 0, none⟩)] #[] 133 who 0 nt 0 0 false asl false hx rfl rfl hq hne a1 a2 a3 a4 hl hv (fun nx w' => ∃ q' g', nx = some ⟨q', 0, none⟩ ∧ Slp w' x who nt q' g' 1 false ∧ Is w' 101 A cp cm b n (stp 1 who nt 0 0 n s) ∧ But [cm, b, x, q] w w' ∧ w.heap.size ≤ q' ∧ w.heap.size ≤ g') (fun w => ent86 _ w) ?_)).mono ?_
      · intro W hM hB hx1
        refine (clear_any _ x who nt _ none (hx1.set 1 (.pointer none))).mono ?_
        rintro e w' ⟨hv, q', g', hC⟩
        have hf := hC.at'.fresh
        have hg := hC.fresh
        rw [size_set] at hf hg
        have hlt := hx1.lt
        have hk : Is (W.setCell ⟨x, 1, none⟩ (.pointer none)) 101 A cp cm b n (stp 1 who nt 0 0 n s) := hM.keep (by rw [size_set]; exact Nat.le_refl _) (heap_set_ne _ (Ne.symm a1) _ _) (fun _ => heap_set_ne _ (Ne.symm a2) _ _)
        exact ⟨hv, _, hC.at'.own.cell 1 rfl, q', g', rfl, .put q' g' hC.at'.own hC.at'.com hC.box (by omega) (by omega), hk.but hC.at'.but (by simpa using Ne.symm a1) (by simpa using Ne.symm a2), ((hB.more (l' := [cm, b, x, q]) (by intro k _ hk; simp at hk ⊢; omega)).set (g := x) (.inl (by simp)) _ _).trans (hC.at'.but.more (by intro k _ hk; simp at hk ⊢; omega)), Nat.le_trans hB.size hf, Nat.le_trans hB.size hg⟩
      · rintro e w' ⟨z, rfl, nx, rfl, q', g', rfl, h1, h2, h3, h4, h5⟩
        exact ⟨q', g', rfl, h1, h2, h3, hf.next hcm hcb (.inr h4) (.inr h5), .inr (.inr h4), .inr h5⟩
  | put _ _ hx hq hg hne hge =>
    refine (slp_step _ x _ _ (step_last w A cp cm b n s hI hn hl x q g _ 133 2 who 0 nt 0 0 false false false hx rfl rfl hq hg hne hge (by omega) (by omega) a1 a2 a3 a4 a5 a6)).mono ?_
    rintro e w' ⟨z, rfl, rfl, h1, h2⟩
    exact ⟨x, x, rfl, .over h1, h2.mem, h2.but.more (by intro k _ hk; simp at hk ⊢; omega), ⟨a1, a2, a1, a2, a1, a2⟩, .inl rfl, .inl rfl⟩
  | over hx =>
    refine (slp_step _ x _ (fun z w' => z = true ∧ w = w') ((step_none w x cm (hx.cell 1 rfl)).mono ?_)).mono ?_
    · rintro e w' ⟨rfl, rfl⟩; exact ⟨true, rfl, rfl, rfl⟩
    · rintro e w' ⟨z, rfl, rfl, rfl⟩
      exact ⟨x, x, rfl, .over hx, hI, But.refl _ _, hf, .inl rfl, .inl rfl⟩

theorem slp_asl (w : World) (A : Option Addr) (cp cm b n : Nat) (s : St) (x q g ph : Nat) (who nt : Int) (asl : Bool) (hI : Is w 101 A cp cm b n s) (hn : n ≤ 1000000) (h : Slp w x who nt q g ph asl) :
    Calls Try.prog 49 #[.pointer (some ⟨x, 0, none⟩), .pointer (some ⟨cm, 0, none⟩)] w fun e w' => e = .returned (.bool (asl && decide (peekT n s nt = 0))) ∧ Below w.heap.size w w' := by
  cases h with
  | fresh _ _ hx hq hne => exact slp_asleep w x _ _ (fun w' => Below w.heap.size w w') (asleep_some w x q cm _ (fun w' => Below w.heap.size w w') (hx.cell 1 rfl) (sleeps_any w A cp cm b n s q 0 0 nt 0 0 false _ asl false hI hn hq))
  | put _ _ hx hq hg hne hge =>
    exact slp_asleep w x _ _ (fun w' => Below w.heap.size w w') (asleep_some w x q cm _ (fun w' => Below w.heap.size w w') (hx.cell 1 rfl) (sleeps_any w A cp cm b n s q 2 0 nt 0 0 false _ false false hI hn hq))
  | over hx => exact slp_asleep w x _ _ (fun w' => Below w.heap.size w w') ((asleep_none w x _ (hx.cell 1 rfl)).mono fun e w' h => ⟨h.1, by rw [← h.2]; exact Below.refl _ _⟩)

/-- A wake's one step. -/
theorem wake_on (w : World) (A : Option Addr) (cp cm b n : Nat) (s : St) (x q g : Nat) (who nt : Int) (hI : Is w 101 A cp cm b n s) (hn : n ≤ 1000000) (hl : Low s 1000000) (hx : Blk w x (slpCells who (some ⟨q, 0, none⟩) nt) 137) (hq : Blk w q (comCells 2 0 nt 0 1 false .nilIface (.func (.func 118) #[] #[.pointer (some ⟨g, 0, none⟩)]) false false) 150) (hg : Blk w g #[.nilFunc] 1) (hne : x < q) (hge : x < g) (hf : Far x q g cm b) :
    Calls Try.prog 53 #[.pointer (some ⟨x, 0, none⟩), .pointer (some ⟨cm, 0, none⟩)] w fun e w' => e = .returned (.bool true) ∧ Blk w' x (slpCells who none nt) 137 ∧ Is w' 101 A cp cm b n (stp 2 who nt 0 1 n s) ∧ But [cm, b, x] w w' := by
  obtain ⟨a1, a2, a3, a4, a5, a6⟩ := hf.h
  refine (wk_step _ x _ _ (step_last w A cp cm b n s hI hn hl x q g _ 137 2 who 0 nt 0 1 false false false hx rfl rfl hq hg (by omega) (by omega) (by omega) (by omega) a1 a2 a3 a4 a5 a6)).mono ?_
  rintro e w' ⟨z, rfl, rfl, h1, h2⟩
  exact ⟨rfl, h1, h2.mem, h2.but⟩
end Go.Proofs.Ytjbkhnolnlcjnaa
