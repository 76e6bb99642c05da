/- The machine that puts goroutines behind the global queue. -/
import Derived.Test.YthhlklfioipmgaaGq3
namespace Go.Proofs.Ythhlklfioipmgaa
open Go Go.RowKit
set_option linter.unusedVariables false
set_option maxRecDepth 100000
set_option linter.unusedSimpArgs false

def Rd.row (g cap : Nat) (l : List Int) : Rd := ⟨[g], fun w => RowAt w g cap l, fun w w' lb h hb hk => h.but hb (hk g (by simp))⟩
inductive QpT where
  | ch (k : Nat)
  | ld
  | pt (t : Int)
  | tr
  | ct
  | over
  | done0
def qpPM (gl : Int → Int) (l : List Int) : PM QpT where
  ax := fun
    | .ch k => some (axSt (gl (l.getD k 0)) (if k + 1 < l.length then qwd (l.getD (k + 1) 0) else 0))
    | .ld => some (axLd 7)
    | .pt t => some (axSt (if t = 0 then 6 else gl (gw t)) (qwd (l.getD 0 0)))
    | .tr => some (axSt 7 (qwd (l.getD (l.length - 1) 0)))
    | .ct => some (axAd 8 l.length)
    | .over => none
    | .done0 => none
  nx := fun
    | .ch k, _ => if k + 1 < l.length then .ch (k + 1) else .ld
    | .ld, v => .pt v
    | .pt _, _ => .tr
    | .tr, _ => .ct
    | .ct, _ => .over
    | t, _ => t
def QpT.linked (n : Nat) : QpT → Nat
  | .ch k => k + 1
  | .done0 => 0
  | _ => n
def QpT.lies : QpT → Bool
  | .tr => true
  | .ct => true
  | .over => true
  | _ => false
def qpFl (who : Int) (cl : Nat) (sl : Value) (l : List Int) : Fl QpT where
  T := 78
  cells := fun t nx => qpCells who nx cl sl (t.linked l.length) t.lies
  fol := fun
    | .ch _ => .untold 36
    | .ld => .told 57
    | .pt _ => .untold 74
    | .tr => .untold 91
    | _ => .nil
  ok := fun
    | .ch k => k < l.length
    | _ => True
theorem ent_qp1 : Ent 36 := fun args w => by kernel_rfl
theorem ent_qp2 : Ent 57 := fun args w => by kernel_rfl
theorem ent_qp3 : Ent 74 := fun args w => by kernel_rfl
theorem ent_qp4 : Ent 91 := fun args w => by kernel_rfl
theorem getD_bd {l : List Int} (hb : ∀ y ∈ l, 0 ≤ y ∧ y ≤ 1000000) (j : Nat) : 0 ≤ l.getD j 0 ∧ l.getD j 0 ≤ 1000000 := by
  rw [List.getD_eq_getElem?_getD]
  rcases Nat.lt_or_ge j l.length with h | h
  · rw [List.getElem?_eq_getElem h]; exact hb _ (List.getElem_mem _)
  · rw [List.getElem?_eq_none h]; exact ⟨Int.le_refl _, by decide⟩
section
variable (who P T G : Int) (cl g cap : Nat) (l : List Int) (hp : 0 ≤ P ∧ P ≤ 64) (hT : 0 ≤ T ∧ T ≤ 65536) (hG : 0 ≤ G ∧ G ≤ 65536) (h0 : 0 < l.length) (hn : l.length ≤ 1000000)
include hp hT hG h0 hn
theorem qp_laws : (qpFl who cl (.slice (some ⟨g, 0, none⟩) l.length cap) l).Laws (qpPM (fun y => wd (20 + P * 264 + T * 3) G 2 y 1) l) ((Rd.lay cl P T G).and (Rd.row g cap l)) who where
  c0 := fun t nx => rfl
  c1 := fun t nx => rfl
  set := fun t nx nx' => rfl
  axok := fun t a hok h => by
    cases t with
    | ch k =>
      cases h
      have := qwd_bd (l.getD (k + 1) 0)
      refine axSt_ok _ _ ?_
      by_cases hk : k + 1 < l.length
      · rw [if_pos hk]; omega
      · rw [if_neg hk]; omega
    | ld => cases h; exact axLd_ok _
    | pt t => cases h; exact axSt_ok _ _ (qwd_bd _)
    | tr => cases h; exact axSt_ok _ _ (qwd_bd _)
    | ct => cases h; exact axAd_ok _ _ (by omega)
    | over => cases h
    | done0 => cases h
  ents := fun t a h => by
    cases t with
    | ch k => exact ent_qp1
    | ld => exact ent_qp2
    | pt t => exact ent_qp3
    | tr => exact ent_qp4
    | ct => exact trivial
    | over => exact trivial
    | done0 => exact trivial
  ok := fun t a v hok h hv => by
    cases t with
    | ch k => by_cases hk : k + 1 < l.length <;> simp [qpPM, qpFl, hk]
    | ld => exact trivial
    | pt t => exact trivial
    | tr => exact trivial
    | ct => exact trivial
    | over => exact trivial
    | done0 => exact trivial
  fol := fun W x t a v hok h hv hB hR hxR => by
    obtain ⟨hR1, hR2⟩ := hR
    have hcx : cl ≠ x := fun e => hxR (by rw [← e]; exact List.mem_append_left _ (List.mem_singleton.2 rfl))
    have hgx : g ≠ x := fun e => hxR (by rw [← e]; exact List.mem_append_right _ (List.mem_singleton.2 rfl))
    cases t with
    | ch k =>
      cases h
      by_cases hk : k + 1 < l.length
      · have e : (qpPM (fun y => wd (20 + P * 264 + T * 3) G 2 y 1) l).nx (.ch k) v = .ch (k + 1) := if_pos hk
        rw [e]
        by_cases hk2 : k + 1 + 1 < l.length
        · have H := qput_chain_more W x cl g cap who l none (k + 1) P T G false hB hR2 hgx hk2 hn hR1 hcx hp hT hG.2
          have e2 : (qpPM (fun y => wd (20 + P * 264 + T * 3) G 2 y 1) l).ax (.ch (k + 1)) = some (axSt (wd (20 + P * 264 + T * 3) G 2 (l.getD (k + 1) 0) 1) (qwd (l.getD (k + 1 + 1) 0))) := by
            show some (axSt _ (if k + 1 + 1 < l.length then _ else _)) = _
            rw [if_pos hk2]
          refine H.mono ?_
          rintro e' w' ⟨hu, hC⟩
          refine ⟨hu, ?_⟩
          unfold Fl.Landed
          rw [e2]
          exact hC
        · have H := qput_chain_last W x cl g cap who l none (k + 1) P T G false hB hR2 hgx (by omega) hn hR1 hcx hp hT hG.2
          have e2 : (qpPM (fun y => wd (20 + P * 264 + T * 3) G 2 y 1) l).ax (.ch (k + 1)) = some (axSt (wd (20 + P * 264 + T * 3) G 2 (l.getD (k + 1) 0) 1) 0) := by
            show some (axSt _ (if k + 1 + 1 < l.length then _ else _)) = _
            rw [if_neg hk2]
          refine H.mono ?_
          rintro e' w' ⟨hu, hC⟩
          refine ⟨hu, ?_⟩
          unfold Fl.Landed
          rw [e2]
          exact hC
      · have e : (qpPM (fun y => wd (20 + P * 264 + T * 3) G 2 y 1) l).nx (.ch k) v = .ld := if_neg hk
        have hkn : k + 1 = l.length := by have : k < l.length := hok; omega
        rw [e]
        have hB' : Blk W x (qpCells who none cl (.slice (some ⟨g, 0, none⟩) l.length cap) l.length false) 78 := by
          have hB1 : Blk W x (qpCells who none cl (.slice (some ⟨g, 0, none⟩) l.length cap) ((k + 1 : Nat) : Int) false) 78 := hB
          rw [hkn] at hB1
          exact hB1
        exact qput_chain_end W x cl g cap who l none false hB' hn
    | ld =>
      cases h
      by_cases hv0 : v = 0
      · subst hv0
        exact qput_lead_none W x cl g cap who l none l.length false hB hR2 h0 hn
      · have H := qput_lead_some W x cl g cap who l none l.length v P T G false hB hR2 h0 hn hv0 hR1 hp hT hG.2
        have e2 : (qpPM (fun y => wd (20 + P * 264 + T * 3) G 2 y 1) l).ax (.pt v) = some (axSt (wd (20 + P * 264 + T * 3) G 2 (gw v) 1) (qwd (l.getD 0 0))) := by
          show some (axSt (if v = 0 then _ else _) _) = _
          rw [if_neg hv0]
        refine H.mono ?_
        rintro e' w' ⟨hu, hC⟩
        refine ⟨hu, ?_⟩
        show Fl.Landed _ _ _ _ _ (QpT.pt v)
        unfold Fl.Landed
        rw [e2]
        exact hC
    | pt t => cases h; exact qput_trail W x cl g cap who l none l.length false hB hR2 hgx h0 hn
    | tr => cases h; exact qput_tell W x cl g cap who l none l.length true hB hn
    | ct => cases h; exact ⟨hB, But.refl _ _⟩
    | over => cases h
    | done0 => cases h
end

/-- How a machine that puts goroutines behind lies in memory: its row is its own. -/
def qpI (who : Int) (cl : Nat) (gl : Int → Int) (l : List Int) : MI QpT := fun w x t L =>
  (0 < l.length ∧ ∃ g cap L', L = g :: L' ∧ g ∉ L' ∧ RowAt w g cap l ∧ (qpFl who cl (.slice (some ⟨g, 0, none⟩) l.length cap) l).I (qpPM gl l) w x t L') ∨
  (l = [] ∧ t = .done0 ∧ ∃ A cap, (A = none → cap = 0) ∧ (qpFl who cl (.slice A 0 cap) []).I (qpPM gl []) w x .done0 L)
theorem qp_good (who P T G : Int) (cl : Nat) (l : List Int) (hp : 0 ≤ P ∧ P ≤ 64) (hT : 0 ≤ T ∧ T ≤ 65536) (hG : 0 ≤ G ∧ G ≤ 65536) (hn : l.length ≤ 1000000) : (qpI who cl (fun y => wd (20 + P * 264 + T * 3) G 2 y 1) l).Good (qpPM (fun y => wd (20 + P * 264 + T * 3) G 2 y 1) l) where
  keep := by
    rintro w w' x t L lb (⟨h0, g, cap, L', rfl, hg, hr, h⟩ | ⟨rfl, rfl, A, cap, ha, h⟩) hbt hk
    · exact .inl ⟨h0, g, cap, L', rfl, hg, hr.but hbt (hk g (by simp)), (Fl.good (qp_laws who P T G cl g cap l hp hT hG h0 hn)).keep h hbt (fun k hm => hk k (by simp [hm]))⟩
    · rw [Fl.at_none rfl] at h
      obtain ⟨h1, h2, rfl⟩ := h
      refine .inr ⟨rfl, rfl, A, cap, ha, ?_⟩
      rw [Fl.at_none rfl]
      exact ⟨h1, h2.but hbt (hk x (by simp)), rfl⟩
  lt := by
    rintro w x t L (⟨h0, g, cap, L', rfl, hg, hr, h⟩ | ⟨rfl, rfl, A, cap, ha, h⟩) k hk
    · simp at hk
      rcases hk with rfl | hk
      · exact hr.lt
      · exact (Fl.good (qp_laws who P T G cl g cap l hp hT hG h0 hn)).lt h k hk
    · rw [Fl.at_none rfl] at h
      obtain ⟨h1, h2, rfl⟩ := h
      simp at hk; subst hk; exact h2.lt
  mem := by
    rintro w x t L (⟨h0, g, cap, L', rfl, hg, hr, h⟩ | ⟨rfl, rfl, A, cap, ha, h⟩)
    · exact List.mem_cons_of_mem _ ((Fl.good (qp_laws who P T G cl g cap l hp hT hG h0 hn)).mem h)
    · rw [Fl.at_none rfl] at h
      obtain ⟨h1, h2, rfl⟩ := h
      simp
  next := by
    rintro w x t L (⟨h0, g, cap, L', rfl, hg, hr, h⟩ | ⟨rfl, rfl, A, cap, ha, h⟩)
    · exact (Fl.good (qp_laws who P T G cl g cap l hp hT hG h0 hn)).next h
    · rw [Fl.at_none rfl] at h
      obtain ⟨h1, h2, rfl⟩ := h
      exact ⟨none, h2.cell 1 rfl, rfl⟩
theorem qp_steps (who P T G : Int) (cl : Nat) (l : List Int) (hp : 0 ≤ P ∧ P ≤ 64) (hT : 0 ≤ T ∧ T ≤ 65536) (hG : 0 ≤ G ∧ G ≤ 65536) (hn : l.length ≤ 1000000) {K : Nat} (hK : StepBy K) : Steps (qpPM (fun y => wd (20 + P * 264 + T * 3) G 2 y 1) l) (qpI who cl (fun y => wd (20 + P * 264 + T * 3) G 2 y 1) l) (Rd.lay cl P T G) K who := by
  rintro w A cp cm b n s x t L (⟨h0, g, cap, L', rfl, hg, hr, h⟩ | ⟨rfl, rfl, A1, cap, ha, h⟩) hR hI hn1 hl hf hcb
  · have hgf := hf g (by simp)
    have hgd := Fl.good (qp_laws who P T G cl g cap l hp hT hG h0 hn)
    refine (Fl.steps (qp_laws who P T G cl g cap l hp hT hG h0 hn) hK w A cp cm b n s x t L' h ⟨hR, hr⟩ hI hn1 hl (fun k hk => ⟨(hf k (by simp [hk])).1, (hf k (by simp [hk])).2.1, fun hm => ?_⟩) ⟨fun hm => ?_, fun hm => ?_⟩).mono ?_
    · rcases List.mem_append.1 hm with hm | hm
      · exact (hf k (by simp [hk])).2.2 hm
      · exact hg ((List.mem_singleton.1 hm) ▸ hk)
    · rcases List.mem_append.1 hm with hm | hm
      · exact hcb.1 hm
      · exact hgf.1 (List.mem_singleton.1 hm).symm
    · rcases List.mem_append.1 hm with hm | hm
      · exact hcb.2 hm
      · exact hgf.2.1 (List.mem_singleton.1 hm).symm
    · rintro e w' ⟨rfl, L2, h1, h2, h3, h4⟩
      refine ⟨rfl, g :: L2, .inl ⟨h0, g, cap, L2, rfl, fun hm => ?_, hr.but h3 ?_, h1⟩, h2, h3.more (by intro k _ hk; simp at hk ⊢; rcases hk with h | h | h <;> simp [h]), fun k hk => ?_⟩
      · rcases h4 g hm with h5 | h5
        · exact hg h5
        · have := hr.lt; omega
      · simp only [List.mem_cons, not_or]
        exact ⟨hgf.1, hgf.2.1, hg⟩
      · simp at hk
        rcases hk with rfl | hk
        · exact .inl (by simp)
        · rcases h4 k hk with h5 | h5
          · exact .inl (by simp [h5])
          · exact .inr h5
  · have hI0 := h
    rw [Fl.at_none rfl] at h
    obtain ⟨h1, h2, rfl⟩ := h
    refine (hK w x _ (fun z w' => z = true ∧ w = w') ((step_none w x cm (h2.cell 1 rfl)).mono ?_)).mono ?_
    · rintro e w' ⟨rfl, rfl⟩; exact ⟨true, rfl, rfl, rfl⟩
    · rintro e w' ⟨z, rfl, rfl, rfl⟩
      exact ⟨rfl, [x], .inr ⟨rfl, rfl, A1, cap, ha, hI0⟩, hI, But.refl _ _, fun k hk => .inl hk⟩
end Go.Proofs.Ythhlklfioipmgaa
