/- The document's routine that puts into a ring: its words, and its states. -/
import Derived.Test.YtfdpikkinlljlaaGreatHNAG
import Derived.Test.YtfdpikkinlljlaaGreatHNA2
import Derived.Test.YtfdpikkinlljlaaGreatHMAA
import Derived.Test.YtfdpikkinlljlaaGreatHNAC
import Derived.Deep.RegionHeld3
import Derived.Test.YtfdpikkinlljlaaGreatHNA1
namespace Go.Proofs.YtfdpikkinlljlaaGreat
open Go Go.RowKit
set_option linter.unusedVariables false
set_option maxRecDepth 100000
set_option linter.unusedSimpArgs false

def Rd.row (g cap : Nat) (l : List Int) : Rd := ⟨[g], fun w => RowAt w g cap l, fun w w' lb h hb hk => h.but hb (hk g (by simp))⟩
inductive QpT where
  | ch (k : Nat)
  | ld
  | pt (t : Int)
  | tr
  | ct
  | over
  | done0
def qpPM (gl : Int → Int) (l : List Int) : PM QpT where
  ax := fun
    | .ch k => some (axSt (gl (l.getD k 0)) (if k + 1 < l.length then qwd (l.getD (k + 1) 0) else 0))
    | .ld => some (axLd 7)
    | .pt t => some (axSt (if t = 0 then 6 else gl (gw t)) (qwd (l.getD 0 0)))
    | .tr => some (axSt 7 (qwd (l.getD (l.length - 1) 0)))
    | .ct => some (axAd 8 l.length)
    | .over => none
    | .done0 => none
  nx := fun
    | .ch k, _ => if k + 1 < l.length then .ch (k + 1) else .ld
    | .ld, v => .pt v
    | .pt _, _ => .tr
    | .tr, _ => .ct
    | .ct, _ => .over
    | t, _ => t
def QpT.linked (n : Nat) : QpT → Nat
  | .ch k => k + 1
  | .done0 => 0
  | _ => n
def QpT.lies : QpT → Bool
  | .tr => true
  | .ct => true
  | .over => true
  | _ => false
def qpFl (who : Int) (cl : Nat) (sl : Value) (l : List Int) : Fl QpT where
  T := 239
  cells := fun t nx => qpCells who nx cl sl (t.linked l.length) t.lies
  fol := fun
    | .ch _ => .untold 182
    | .ld => .told 200
    | .pt _ => .untold 219
    | .tr => .untold 235
    | _ => .nil
  ok := fun
    | .ch k => k < l.length
    | _ => True
theorem ent_qp1 : Ent 182 := fun args w => by kernel_rfl
theorem ent_qp2 : Ent 200 := fun args w => by kernel_rfl
theorem ent_qp3 : Ent 219 := fun args w => by kernel_rfl
theorem ent_qp4 : Ent 235 := fun args w => by kernel_rfl
section
variable (who P T G : Int) (cl g cap : Nat) (l : List Int) (hp : 0 ≤ P ∧ P ≤ 64) (hT : 0 ≤ T ∧ T ≤ 65536) (hG : 0 ≤ G ∧ G ≤ 65536) (h0 : 0 < l.length) (hn : l.length ≤ 1000000)
include hp hT hG h0 hn
theorem qp_laws : (qpFl who cl (.slice (some ⟨g, 0, none⟩) l.length cap) l).Laws (qpPM (fun y => wd (20 + P * 264 + T * 3) G 2 y 1) l) ((Rd.lay cl P T G).and (Rd.row g cap l)) who where
  c0 := fun t nx => rfl
  c1 := fun t nx => rfl
  set := fun t nx nx' => rfl
  axok := fun t a hok h => by
    cases t with
    | ch k =>
      cases h
      have := qwd_bd (l.getD (k + 1) 0)
      refine axSt_ok _ _ ?_
      by_cases hk : k + 1 < l.length
      · rw [if_pos hk]; omega
      · rw [if_neg hk]; omega
    | ld => cases h; exact axLd_ok _
    | pt t => cases h; exact axSt_ok _ _ (qwd_bd _)
    | tr => cases h; exact axSt_ok _ _ (qwd_bd _)
    | ct => cases h; exact axAd_ok _ _ (by omega)
    | over => cases h
    | done0 => cases h
  ents := fun t a h => by
    cases t with
    | ch k => exact ent_qp1
    | ld => exact ent_qp2
    | pt t => exact ent_qp3
    | tr => exact ent_qp4
    | ct => exact trivial
    | over => exact trivial
    | done0 => exact trivial
  ok := fun t a v hok h hv => by
    cases t with
    | ch k => by_cases hk : k + 1 < l.length <;> simp [qpPM, qpFl, hk]
    | ld => exact trivial
    | pt t => exact trivial
    | tr => exact trivial
    | ct => exact trivial
    | over => exact trivial
    | done0 => exact trivial
  fol := fun W x t a v hok h hv hB hR hxR => by
    obtain ⟨hR1, hR2⟩ := hR
    have hcx : cl ≠ x := fun e => hxR (by rw [← e]; exact List.mem_append_left _ (List.mem_singleton.2 rfl))
    have hgx : g ≠ x := fun e => hxR (by rw [← e]; exact List.mem_append_right _ (List.mem_singleton.2 rfl))
    cases t with
    | ch k =>
      cases h
      by_cases hk : k + 1 < l.length
      · have e : (qpPM (fun y => wd (20 + P * 264 + T * 3) G 2 y 1) l).nx (.ch k) v = .ch (k + 1) := if_pos hk
        rw [e]
        by_cases hk2 : k + 1 + 1 < l.length
        · have H := qput_chain_more W x cl g cap who l none (k + 1) P T G false hB hR2 hgx hk2 hn hR1 hcx hp hT hG.2
          have e2 : (qpPM (fun y => wd (20 + P * 264 + T * 3) G 2 y 1) l).ax (.ch (k + 1)) = some (axSt (wd (20 + P * 264 + T * 3) G 2 (l.getD (k + 1) 0) 1) (qwd (l.getD (k + 1 + 1) 0))) := by
            show some (axSt _ (if k + 1 + 1 < l.length then _ else _)) = _
            rw [if_pos hk2]
          refine H.mono ?_
          rintro e' w' ⟨hu, hC⟩
          refine ⟨hu, ?_⟩
          unfold Fl.Landed
          rw [e2]
          exact hC
        · have H := qput_chain_last W x cl g cap who l none (k + 1) P T G false hB hR2 hgx (by omega) hn hR1 hcx hp hT hG.2
          have e2 : (qpPM (fun y => wd (20 + P * 264 + T * 3) G 2 y 1) l).ax (.ch (k + 1)) = some (axSt (wd (20 + P * 264 + T * 3) G 2 (l.getD (k + 1) 0) 1) 0) := by
            show some (axSt _ (if k + 1 + 1 < l.length then _ else _)) = _
            rw [if_neg hk2]
          refine H.mono ?_
          rintro e' w' ⟨hu, hC⟩
          refine ⟨hu, ?_⟩
          unfold Fl.Landed
          rw [e2]
          exact hC
      · have e : (qpPM (fun y => wd (20 + P * 264 + T * 3) G 2 y 1) l).nx (.ch k) v = .ld := if_neg hk
        have hkn : k + 1 = l.length := by have : k < l.length := hok; omega
        rw [e]
        have hB' : Blk W x (qpCells who none cl (.slice (some ⟨g, 0, none⟩) l.length cap) l.length false) 239 := by
          have hB1 : Blk W x (qpCells who none cl (.slice (some ⟨g, 0, none⟩) l.length cap) ((k + 1 : Nat) : Int) false) 239 := hB
          rw [hkn] at hB1
          exact hB1
        exact qput_chain_end W x cl g cap who l none false hB' hn
    | ld =>
      cases h
      by_cases hv0 : v = 0
      · subst hv0
        exact qput_lead_none W x cl g cap who l none l.length false hB hR2 h0 hn
      · have H := qput_lead_some W x cl g cap who l none l.length v P T G false hB hR2 h0 hn hv0 hR1 hp hT hG.2
        have e2 : (qpPM (fun y => wd (20 + P * 264 + T * 3) G 2 y 1) l).ax (.pt v) = some (axSt (wd (20 + P * 264 + T * 3) G 2 (gw v) 1) (qwd (l.getD 0 0))) := by
          show some (axSt (if v = 0 then _ else _) _) = _
          rw [if_neg hv0]
        refine H.mono ?_
        rintro e' w' ⟨hu, hC⟩
        refine ⟨hu, ?_⟩
        show Fl.Landed _ _ _ _ _ (QpT.pt v)
        unfold Fl.Landed
        rw [e2]
        exact hC
    | pt t => cases h; exact qput_trail W x cl g cap who l none l.length false hB hR2 hgx h0 hn
    | tr => cases h; exact qput_tell W x cl g cap who l none l.length true hB hn
    | ct => cases h; exact ⟨hB, But.refl _ _⟩
    | over => cases h
    | done0 => cases h
end

/-- How a machine that puts goroutines behind lies in memory: its row is its own. -/
def qpI (who : Int) (cl : Nat) (gl : Int → Int) (l : List Int) : MI QpT := fun w x t L =>
  (0 < l.length ∧ ∃ g cap L', L = g :: L' ∧ g ∉ L' ∧ RowAt w g cap l ∧ (qpFl who cl (.slice (some ⟨g, 0, none⟩) l.length cap) l).I (qpPM gl l) w x t L') ∨
  (l = [] ∧ t = .done0 ∧ ∃ A cap, (A = none → cap = 0) ∧ (qpFl who cl (.slice A 0 cap) []).I (qpPM gl []) w x .done0 L)
theorem qp_good (who P T G : Int) (cl : Nat) (l : List Int) (hp : 0 ≤ P ∧ P ≤ 64) (hT : 0 ≤ T ∧ T ≤ 65536) (hG : 0 ≤ G ∧ G ≤ 65536) (hn : l.length ≤ 1000000) : (qpI who cl (fun y => wd (20 + P * 264 + T * 3) G 2 y 1) l).Good (qpPM (fun y => wd (20 + P * 264 + T * 3) G 2 y 1) l) where
  keep := by
    rintro w w' x t L lb (⟨h0, g, cap, L', rfl, hg, hr, h⟩ | ⟨rfl, rfl, A, cap, ha, h⟩) hbt hk
    · exact .inl ⟨h0, g, cap, L', rfl, hg, hr.but hbt (hk g (by simp)), (Fl.good (qp_laws who P T G cl g cap l hp hT hG h0 hn)).keep h hbt (fun k hm => hk k (by simp [hm]))⟩
    · rw [Fl.at_none rfl] at h
      obtain ⟨h1, h2, rfl⟩ := h
      refine .inr ⟨rfl, rfl, A, cap, ha, ?_⟩
      rw [Fl.at_none rfl]
      exact ⟨h1, h2.but hbt (hk x (by simp)), rfl⟩
  lt := by
    rintro w x t L (⟨h0, g, cap, L', rfl, hg, hr, h⟩ | ⟨rfl, rfl, A, cap, ha, h⟩) k hk
    · simp at hk
      rcases hk with rfl | hk
      · exact hr.lt
      · exact (Fl.good (qp_laws who P T G cl g cap l hp hT hG h0 hn)).lt h k hk
    · rw [Fl.at_none rfl] at h
      obtain ⟨h1, h2, rfl⟩ := h
      simp at hk; subst hk; exact h2.lt
  mem := by
    rintro w x t L (⟨h0, g, cap, L', rfl, hg, hr, h⟩ | ⟨rfl, rfl, A, cap, ha, h⟩)
    · exact List.mem_cons_of_mem _ ((Fl.good (qp_laws who P T G cl g cap l hp hT hG h0 hn)).mem h)
    · rw [Fl.at_none rfl] at h
      obtain ⟨h1, h2, rfl⟩ := h
      simp
  next := by
    rintro w x t L (⟨h0, g, cap, L', rfl, hg, hr, h⟩ | ⟨rfl, rfl, A, cap, ha, h⟩)
    · exact (Fl.good (qp_laws who P T G cl g cap l hp hT hG h0 hn)).next h
    · rw [Fl.at_none rfl] at h
      obtain ⟨h1, h2, rfl⟩ := h
      exact ⟨none, h2.cell 1 rfl, rfl⟩
theorem qp_steps (who P T G : Int) (cl : Nat) (l : List Int) (hp : 0 ≤ P ∧ P ≤ 64) (hT : 0 ≤ T ∧ T ≤ 65536) (hG : 0 ≤ G ∧ G ≤ 65536) (hn : l.length ≤ 1000000) {K : Nat} (hK : StepBy K) : Steps (qpPM (fun y => wd (20 + P * 264 + T * 3) G 2 y 1) l) (qpI who cl (fun y => wd (20 + P * 264 + T * 3) G 2 y 1) l) (Rd.lay cl P T G) K who := by
  rintro w A cp cm b n s x t L (⟨h0, g, cap, L', rfl, hg, hr, h⟩ | ⟨rfl, rfl, A1, cap, ha, h⟩) hR hI hn1 hl hf hcb
  · have hgf := hf g (by simp)
    have hgd := Fl.good (qp_laws who P T G cl g cap l hp hT hG h0 hn)
    refine (Fl.steps (qp_laws who P T G cl g cap l hp hT hG h0 hn) hK w A cp cm b n s x t L' h ⟨hR, hr⟩ hI hn1 hl (fun k hk => ⟨(hf k (by simp [hk])).1, (hf k (by simp [hk])).2.1, fun hm => ?_⟩) ⟨fun hm => ?_, fun hm => ?_⟩).mono ?_
    · rcases List.mem_append.1 hm with hm | hm
      · exact (hf k (by simp [hk])).2.2 hm
      · exact hg ((List.mem_singleton.1 hm) ▸ hk)
    · rcases List.mem_append.1 hm with hm | hm
      · exact hcb.1 hm
      · exact hgf.1 (List.mem_singleton.1 hm).symm
    · rcases List.mem_append.1 hm with hm | hm
      · exact hcb.2 hm
      · exact hgf.2.1 (List.mem_singleton.1 hm).symm
    · rintro e w' ⟨rfl, L2, h1, h2, h3, h4⟩
      refine ⟨rfl, g :: L2, .inl ⟨h0, g, cap, L2, rfl, fun hm => ?_, hr.but h3 ?_, h1⟩, h2, h3.more (by intro k _ hk; simp at hk ⊢; rcases hk with h | h | h <;> simp [h]), fun k hk => ?_⟩
      · rcases h4 g hm with h5 | h5
        · exact hg h5
        · have := hr.lt; omega
      · simp only [List.mem_cons, not_or]
        exact ⟨hgf.1, hgf.2.1, hg⟩
      · simp at hk
        rcases hk with rfl | hk
        · exact .inl (by simp)
        · rcases h4 k hk with h5 | h5
          · exact .inl (by simp [h5])
          · exact .inr h5
  · have hI0 := h
    rw [Fl.at_none rfl] at h
    obtain ⟨h1, h2, rfl⟩ := h
    refine (hK w x _ (fun z w' => z = true ∧ w = w') ((step_none w x cm (h2.cell 1 rfl)).mono ?_)).mono ?_
    · rintro e w' ⟨rfl, rfl⟩; exact ⟨true, rfl, rfl, rfl⟩
    · rintro e w' ⟨z, rfl, rfl, rfl⟩
      exact ⟨rfl, [x], .inr ⟨rfl, rfl, A1, cap, ha, hI0⟩, hI, But.refl _ _, fun k hk => .inl hk⟩
end Go.Proofs.YtfdpikkinlljlaaGreat

namespace Go.Proofs.YtfdpikkinlljlaaGreat
open Go Go.RowKit
set_option linter.unusedVariables false
set_option maxRecDepth 100000
set_option linter.unusedSimpArgs false

theorem RowAt.sees {w : World} {g cap : Nat} {l : List Int} (h : RowAt w g cap l) : SeesL w (.slice (some ⟨g, 0, none⟩) l.length cap) l :=
  ⟨_, cap, rfl, (fun h => by cases h), fun _ => ⟨g, 0, rfl, h.lt, fun j hj => by rw [Nat.zero_add]; exact h.cell j hj⟩⟩
theorem qput_holds (w : World) (x cl : Nat) (who k : Int) (nx : Option Addr) (sl : Value) (l : List Int) (z : Bool) (h : Blk w x (qpCells who nx cl sl k z) 239) (hs : SeesL w sl l) (hn : l.length ≤ 1000000) :
    Calls Tryz.prog 145 #[.pointer (some ⟨x, 0, none⟩)] w fun e w' => ∃ v, e = .returned v ∧ IntsOn w' w.heap.size v (if z then [] else l) ∧ Below w.heap.size w w' := by
  have c3 := h.cell 3 (v := sl) rfl
  have c5 := h.cell 5 (v := .bool z) rfl
  have HC := lclone_any sl l w hn hs
  clear h hs
  cases z with
  | true =>
    clear HC c3
    go_enter Tryz.func145, Tryz.ntmps145
    go_wp2_with fail
    go_ret
    exact ⟨_, rfl, ⟨World.ownsRow_nil _ _ _ _⟩, Below.refl _ _⟩
  | false =>
    go_enter Tryz.func145, Tryz.ntmps145
    go_wp2_with fail
    go_at_call 180; refine HC.mono ?_; rintro e w1 ⟨v, rfl, h1, h2⟩
    clear HC c3 c5
    go_wp2_with fail
    go_ret
    exact ⟨_, rfl, h1, h2⟩
theorem qp_holds {who : Int} {cl : Nat} {gl : Int → Int} {l : List Int} {w : World} {x : Nat} {t : QpT} {L : List Nat} (h : qpI who cl gl l w x t L) (hn : l.length ≤ 1000000) :
    Calls Tryz.prog 145 #[.pointer (some ⟨x, 0, none⟩)] w fun e w' => ∃ v, e = .returned v ∧ IntsOn w' w.heap.size v (if t.lies then [] else l) ∧ Below w.heap.size w w' := by
  rcases h with ⟨h0, g, cap, L', rfl, hg, hr, h⟩ | ⟨rfl, rfl, A, cap, ha, h⟩
  · obtain ⟨nx, h1, -⟩ := Fl.blk h
    exact qput_holds w x cl who _ nx _ l t.lies h1 hr.sees hn
  · obtain ⟨nx, h1, -⟩ := Fl.blk h
    exact qput_holds w x cl who _ nx (.slice A 0 cap) [] false h1 ⟨A, cap, rfl, fun e => ⟨rfl, ha e⟩, fun e => absurd e (by simp)⟩ hn
def qpStart (l : List Int) : QpT := if l = [] then .done0 else .ch 0
theorem qp_new_some (w : World) (cl : Nat) (who P T G : Int) (sl : Value) (l : List Int) (hs : SeesL w sl l) (h0 : 0 < l.length) (hn : l.length ≤ 1000000) (hl : Lay w cl P T G) (hp : 0 ≤ P ∧ P ≤ 64) (hT : 0 ≤ T ∧ T ≤ 65536) (hG : 0 ≤ G ∧ G ≤ 65536) :
    Calls Tryz.prog 143 #[.pointer (some ⟨cl, 0, none⟩), .int .i64 who, sl] w fun e w' => ∃ x L, e = .returned (.pointer (some ⟨x, 0, none⟩)) ∧ qpI who cl (fun y => wd (20 + P * 264 + T * 3) G 2 y 1) l w' x (.ch 0) L ∧ Below w.heap.size w w' ∧ (∀ k ∈ L, w.heap.size ≤ k) ∧ w.heap.size ≤ x := by
  have HC := lclone_any sl l w hn hs
  obtain ⟨A0, cap0, rfl, -, -⟩ := hs
  have hd : (0 : Int) < (l.length : Int) := by omega
  have HCH : Hid (∀ (Y : World) (x g cap : Nat), Blk Y x (qpCells who none cl (.slice (some ⟨g, 0, none⟩) l.length cap) 0 false) 239 → RowAt Y g cap l → g ≠ x → Lay Y cl P T G → cl ≠ x → Calls Tryz.prog 182 #[.pointer (some ⟨x, 0, none⟩)] Y fun e w' => (∃ v, e = .returned v) ∧ (qpFl who cl (.slice (some ⟨g, 0, none⟩) l.length cap) l).Landed (qpPM (fun y => wd (20 + P * 264 + T * 3) G 2 y 1) l) Y w' x (.ch 0)) := by
    intro Y x g cap hB hr hgx hl hcx
    by_cases hk2 : 0 + 1 < l.length
    · have H := qput_chain_more Y x cl g cap who l none 0 P T G false hB hr hgx hk2 hn hl hcx hp hT hG.2
      have e2 : (qpPM (fun y => wd (20 + P * 264 + T * 3) G 2 y 1) l).ax (.ch 0) = some (axSt (wd (20 + P * 264 + T * 3) G 2 (l.getD 0 0) 1) (qwd (l.getD (0 + 1) 0))) := by
        show some (axSt _ (if 0 + 1 < l.length then _ else _)) = _
        rw [if_pos hk2]
      refine H.mono ?_
      rintro e' w' ⟨hu, hC⟩
      refine ⟨hu, ?_⟩
      unfold Fl.Landed
      rw [e2]
      exact hC
    · have H := qput_chain_last Y x cl g cap who l none 0 P T G false hB hr hgx (by omega) hn hl hcx hp hT hG.2
      have e2 : (qpPM (fun y => wd (20 + P * 264 + T * 3) G 2 y 1) l).ax (.ch 0) = some (axSt (wd (20 + P * 264 + T * 3) G 2 (l.getD 0 0) 1) 0) := by
        show some (axSt _ (if 0 + 1 < l.length then _ else _)) = _
        rw [if_neg hk2]
      refine H.mono ?_
      rintro e' w' ⟨hu, hC⟩
      refine ⟨hu, ?_⟩
      unfold Fl.Landed
      rw [e2]
      exact hC
  have HLW : Hid (qpFl who cl .nilIface l = qpFl who cl .nilIface l ∧ 0 < l.length ∧ Lay w cl P T G) := ⟨rfl, h0, hl⟩
  have HLL : Hid (∀ g cap, (qpFl who cl (.slice (some ⟨g, 0, none⟩) l.length cap) l).Laws (qpPM (fun y => wd (20 + P * 264 + T * 3) G 2 y 1) l) ((Rd.lay cl P T G).and (Rd.row g cap l)) who) := fun g cap => qp_laws who P T G cl g cap l hp hT hG h0 hn
  generalize (fun y => wd (20 + P * 264 + T * 3) G 2 y 1) = gl at *
  generalize hnn : l.length = n at *
  clear hp hT hG hl
  go_enter Tryz.func143, Tryz.ntmps143
  go_wp2_with fail
  go_at_call 180; refine HC.mono ?_; rintro e w1 ⟨v, rfl, h1, hb1⟩
  obtain ⟨g, cap, rfl, hg0, hr⟩ := h1.row (by omega)
  rw [hnn]
  have hB := Blk.new w1 #[.int .i64 0, .pointer none, .pointer none, .slice (some ⟨g, 0, none⟩) n cap, .int .i64 0, .bool false] 239
  have hO := q_of _ w1.heap.size cl who _ (qpCells who none cl (.slice (some ⟨g, 0, none⟩) n cap) 0 false) 239 hB (by simp) rfl
  have HH : Hid (Below w.heap.size w w1 ∧ RowAt w1 g cap l ∧ Below w.heap.size w (w1.alloc (.cells #[.int .i64 0, .pointer none, .pointer none, .slice (some ⟨g, 0, none⟩) n cap, .int .i64 0, .bool false] 239)) ∧ w.heap.size ≤ w1.heap.size ∧ w.heap.size ≤ g) := ⟨hb1, hr, seq hb1 ((Below.refl _ _).alloc (Nat.le_refl _) _), hb1.size, hg0⟩
  clear HC h1 hb1 hB hr
  go_wp2_with fail
  go_at_call 181; refine hO.mono ?_; rintro e w2 ⟨⟨v, rfl⟩, k1, k2, k3⟩
  have hb2 : Below w.heap.size w w2 := HH.out.2.2.1.trans (k2.below (by intro k hk; simp at hk; subst hk; first | exact HH.out.2 | exact HH.out.2.2.2.1) (by have := HH.out.2.2.2.1; rw [World.size_alloc]; omega))
  have hgl := HH.out.2.1.lt
  have hr2 : RowAt w2 g cap l := (HH.out.2.1.below ((Below.refl _ _).alloc (Nat.le_refl _) _)).but k2 (by simp; omega)
  have hll := HLW.out.2.2.lt
  have hsz := HH.out.2.2.2.1
  have hCh := HCH.out w2 w1.heap.size g cap k1 hr2 (by omega) (HLW.out.2.2.below hb2 hll) (by omega)
  have HF2 : Hid (Below w.heap.size w w2 ∧ RowAt w2 g cap l ∧ w1.heap.size < w2.heap.size ∧ g < w1.heap.size ∧ w.heap.size ≤ g) := ⟨hb2, hr2, k1.lt, hgl, HH.out.2.2.2.2⟩
  clear hO HH k1 k2 k3 hr2 hb2 HCH
  go_wp2_with fail
  go_at_call 182; refine hCh.mono ?_; rintro e w3 ⟨⟨v2, rfl⟩, hC⟩
  have HF : Hid (∃ L, qpI who cl gl l w3 w1.heap.size (.ch 0) L ∧ Below w.heap.size w w3 ∧ ∀ k ∈ L, w.heap.size ≤ k) := by
    obtain ⟨-, ⟨L', i1, i2⟩, i3⟩ := Fl.land (HLL.out g cap) hC (by show 0 < l.length; rw [hnn]; exact HLW.out.2.1) HF2.out.2.2.1
    refine ⟨g :: L', .inl ⟨by rw [hnn]; exact HLW.out.2.1, g, cap, L', rfl, fun hm => ?_, HF2.out.2.1.but i3 (by have := HF2.out.2.2.2.1; simp; omega), by rw [hnn]; exact i1⟩, HF2.out.1.trans (i3.below (by simp; omega) HF2.out.1.size), fun k hk => ?_⟩
    · have := HF2.out.2.2.2.1
      rcases i2 g hm with h | h
      · omega
      · have := HF2.out.2.2.1; omega
    · have h3 := HF2.out.1.size
      simp at hk
      rcases hk with rfl | hk
      · exact HF2.out.2.2.2.2
      · rcases i2 k hk with rfl | h
        · exact hsz
        · omega
  clear hCh hC HF2
  go_wp2_with fail
  go_ret
  obtain ⟨L, f1, f2, f3⟩ := HF.out
  exact ⟨_, L, rfl, f1, f2, f3, hsz⟩
end Go.Proofs.YtfdpikkinlljlaaGreat

namespace Go.Proofs.YtfdpikkinlljlaaGreat
open Go Go.RowKit
set_option linter.unusedVariables false
set_option maxRecDepth 100000
set_option linter.unusedSimpArgs false

/-- What it has: the goroutine, whether it is in the hand, the words that were loaded, what is given, how many were loaded. -/
structure RpD where
  g : Int
  has : Bool
  nt : Int
  hd : Int
  tl : Int
  gv : List Int
  ld : Int
inductive RpT where
  | nx (d : RpD)
  | sn (d : RpD)
  | hd (d : RpD)
  | tl (d : RpD)
  | st (d : RpD)
  | ln (d : RpD)
  | gl (d : RpD) (k : Nat)
  | sh (d : RpD)
  | acq (d : RpD) (p : AcqT)
  | que (d : RpD) (q : QpT)
  | rel (d : RpD) (q : QpT) (p : RelT)
  | over (d : RpD)
def RpD.all (d : RpD) : List Int := d.gv ++ [d.g]
def RpD.take1 (d : RpD) (k : Nat) (v : Int) : RpD := { d with gv := d.gv.set k (gw v), ld := ((k + 1 : Nat) : Int) }
def rpPM (who P p : Int) (gl : Int → Int) : PM RpT where
  ax := fun
    | .nx _ => some (axLd (wd 20 P 264 p 3))
    | .sn d => some (axSw (wd 20 P 264 p 3) d.nt (rpw d.g))
    | .hd _ => some (axLd (wd 20 P 264 p 1))
    | .tl _ => some (axLd (wd 20 P 264 p 2))
    | .st d => some (axSt (wd 20 P 264 p (8 + d.tl % 256)) (rpw d.g))
    | .ln d => some (axSt (wd 20 P 264 p 2) ((d.tl + 1) % 4294967296))
    | .gl d k => some (axLd (wd 20 P 264 p (8 + IntKind.u64.wrap (d.hd + k) % 256)))
    | .sh d => some (axSw (wd 20 P 264 p 1) d.hd ((d.hd + 128) % 4294967296))
    | .acq _ q => (acqPM (wd 0 2 3 0 0) (wd 0 2 3 0 1) (wd 0 2 3 0 2) who).ax q
    | .que d q => (qpPM gl d.all).ax q
    | .rel _ _ q => (relPM (wd 0 2 3 0 1) (wd 0 2 3 0 2)).ax q
    | .over _ => none
  nx := fun
    | .nx d, v => .sn { d with nt := v }
    | .sn d, v => if v = 0 then .nx d else if d.nt = 0 then .over { d with has := false } else .hd { d with g := gw d.nt }
    | .hd d, v => .tl { d with hd := v }
    | .tl d, v => if (v - d.hd) % 4294967296 < 256 then .st { d with tl := v } else .gl { d with tl := v, ld := 0 } 0
    | .st d, _ => .ln d
    | .ln d, _ => .over { d with has := false }
    | .gl d k, v => if k + 1 < 128 then .gl (d.take1 k v) (k + 1) else .sh (d.take1 k v)
    | .sh d, v => if v = 0 then .hd d else .acq d .fresh
    | .acq d q, v => ((acqPM (wd 0 2 3 0 0) (wd 0 2 3 0 1) (wd 0 2 3 0 2) who).nx q v).goes (.acq d) (.que d (.ch 0))
    | .que d q, v => if ((qpPM gl d.all).ax ((qpPM gl d.all).nx q v)).isSome = true then .que d ((qpPM gl d.all).nx q v) else .rel d ((qpPM gl d.all).nx q v) .fresh
    | .rel d q r, v => .rel d q ((relPM (wd 0 2 3 0 1) (wd 0 2 3 0 2)).nx r v)
    | t, _ => t
def RpT.d : RpT → RpD
  | .nx d => d
  | .sn d => d
  | .hd d => d
  | .tl d => d
  | .st d => d
  | .ln d => d
  | .gl d _ => d
  | .sh d => d
  | .acq d _ => d
  | .que d _ => d
  | .rel d _ _ => d
  | .over d => d
def RpT.full : RpT → Bool
  | .acq _ _ => true
  | .que _ _ => true
  | .rel _ _ _ => true
  | _ => false
/-- What is in its hand. -/
def RpT.holds : RpT → List Int
  | .acq d _ => if d.has then d.all else []
  | .que d q => if d.has then (if q.lies then [] else d.all) else []
  | .rel d q _ => if d.has then (if q.lies then [] else d.all) else []
  | t => if t.d.has then [t.d.g] else []
def rpAt (who p : Int) (cl : Nat) (t : RpT) (es : List Nat) (nx : Option Addr) : Array Value := rpCells who nx cl p t.d.g t.d.has t.d.nt t.d.hd t.d.tl (rpRest t.d.gv t.d.ld (if t.full = true then some ⟨es.getD 0 0, 0, none⟩ else none))
def rU64 (v : Int) : Prop := 0 ≤ v ∧ v ≤ 18446744073709551615
structure RpD.Ok (d : RpD) : Prop where
  len : d.gv.length = 128
  nt : rU64 d.nt
  hd : rU64 d.hd
  tl : rU64 d.tl
def qpSub (who : Int) (gl : Int → Int) (cl : Nat) (P T G : Int) (l : List Int) : Sub := ⟨QpT, qpPM gl l, qpI who cl gl l, Rd.lay cl P T G, 142, 335⟩
def rpExt (who : Int) (gl : Int → Int) (cl : Nat) (t : RpT) (es : List Nat) (w : World) (Le : List Nat) : Prop := match t with
  | .acq d _ => d.gv.length = 128 ∧ qpI who cl gl d.all w (es.getD 0 0) (.ch 0) Le
  | .rel d q _ => d.gv.length = 128 ∧ qpI who cl gl d.all w (es.getD 0 0) q Le
  | _ => Le = []
def rpCp (who : Int) (gl : Int → Int) (P T G p : Int) (cl : Nat) : Cp RpT where
  T := 249
  cells := rpAt who p cl
  kind := fun
    | .nx _ => .acc (axLd (wd 20 P 264 p 3)) (.told 215)
    | .sn d => .acc (axSw (wd 20 P 264 p 3) d.nt (rpw d.g)) (.swap 231)
    | .hd _ => .acc (axLd (wd 20 P 264 p 1)) (.told 216)
    | .tl _ => .acc (axLd (wd 20 P 264 p 2)) (.told 232)
    | .st d => .acc (axSt (wd 20 P 264 p (8 + d.tl % 256)) (rpw d.g)) (.untold 249)
    | .ln d => .acc (axSt (wd 20 P 264 p 2) ((d.tl + 1) % 4294967296)) (.untold 265)
    | .gl d k => .acc (axLd (wd 20 P 264 p (8 + IntKind.u64.wrap (d.hd + k) % 256))) (.told 267)
    | .sh d => .acc (axSw (wd 20 P 264 p 1) d.hd ((d.hd + 128) % 4294967296)) (.swap 266)
    | .acq _ q => .run (acqSub (wd 0 2 3 0 0) (wd 0 2 3 0 1) (wd 0 2 3 0 2) who) q (.fn 280)
    | .que d q => .run (qpSub who gl cl P T G d.all) q (.fn 292)
    | .rel _ _ .over => .over
    | .rel _ _ q => .run (relSub (wd 0 2 3 0 1) (wd 0 2 3 0 2) who) q .nil
    | .over _ => .over
  ok := fun
    | .gl d k => d.Ok ∧ k < 128 ∧ d.ld = k
    | .sh d => d.Ok ∧ d.ld = 128
    | .acq d q => d.Ok ∧ q.Live
    | .que d q => d.Ok ∧ ((qpPM gl d.all).ax q).isSome = true
    | t => t.d.Ok
  ext := rpExt who gl cl
  tie := fun t es y => match t with
    | .que _ _ => es.getD 0 0 = y
    | _ => True
theorem ent_rp1 : Ent 215 := fun args w => by kernel_rfl
theorem ent_rp2 : Ent 231 := fun args w => by kernel_rfl
theorem ent_rp3 : Ent 216 := fun args w => by kernel_rfl
theorem ent_rp4 : Ent 232 := fun args w => by kernel_rfl
theorem ent_rp5 : Ent 249 := fun args w => by kernel_rfl
theorem ent_rp6 : Ent 265 := fun args w => by kernel_rfl
theorem ent_rp7 : Ent 267 := fun args w => by kernel_rfl
theorem ent_rp8 : Ent 266 := fun args w => by kernel_rfl
theorem ent_rp9 : Ent 280 := fun args w => by kernel_rfl
theorem ent_rp10 : Ent 292 := fun args w => by kernel_rfl
theorem rpw_bd (g : Int) : 0 ≤ rpw g ∧ rpw g ≤ 18446744073709551615 := by
  unfold rpw
  generalize IntKind.u64.wrap g + 1 = z
  simp [IntKind.wrap, IntKind.bits, IntKind.signed]
  omega
theorem rp_acq_live {tk sv ow who v : Int} (p : AcqT) (h : ((acqPM tk sv ow who).ax ((acqPM tk sv ow who).nx p v)).isSome = true) : ((acqPM tk sv ow who).nx p v).Live := by
  cases hp : (acqPM tk sv ow who).nx p v with
  | over t => rw [hp] at h; cases h
  | fresh => trivial
  | wait t => trivial
  | has t => trivial
theorem rp_acq_goes {σ : Type} {f : AcqT → σ} {e : σ} : ∀ (p : AcqT), p.Live → p.goes f e = f p
  | .fresh, _ => rfl
  | .wait _, _ => rfl
  | .has _, _ => rfl
theorem rp_acq_over {σ : Type} {f : AcqT → σ} {e : σ} {tk sv ow who : Int} : ∀ (p : AcqT), (acqPM tk sv ow who).ax p = none → p.goes f e = e
  | .fresh, h => by cases h
  | .wait _, h => by cases h
  | .has _, h => by cases h
  | .over _, _ => rfl
theorem rp_acq_some {tk sv ow who : Int} : ∀ (p : AcqT), p.Live → ((acqPM tk sv ow who).ax p).isSome = true
  | .fresh, _ => rfl
  | .wait _, _ => rfl
  | .has _, _ => rfl

section
variable {who P T G p : Int} {gl : Int → Int} {cl : Nat} {W w' : World} {x : Nat} {t : RpT} {a : Ax} {f : Fol} {es Le Le' : List Nat}
theorem rp_land_acc (h : Came W w' x (rpAt who p cl t es none) 249 a f) (hok : (rpCp who gl P T G p cl).ok t) (hk : (rpCp who gl P T G p cl).kind t = .acc a f) (hx : x < W.heap.size) (he : rpExt who gl cl t es w' Le') (hxe : x ∉ Le') (hle : ∀ k ∈ Le', k ∈ Le ∧ k < W.heap.size) : (rpCp who gl P T G p cl).Land W w' x t Le := by
  obtain ⟨q, Lc, c1, c2, c3, c4⟩ := h
  refine ⟨c3, x :: (Lc ++ Le'), ⟨hok, es, Le', he, hxe, ?_⟩, fun k hm => by simp at hm; rcases hm with rfl | hm | hm; exact .inl rfl; exact .inr (.inr (c4 k hm)); exact .inr (.inl (hle k hm).1)⟩
  rw [hk]
  refine ⟨q, Lc, ?_, c2, fun hm => absurd (c4 x hm) (by omega), (fun k hm h => by have := c4 k hm; have := (hle k h).2; omega), rfl⟩
  have e : (rpAt who p cl t es none).setIfInBounds 1 (.pointer (some ⟨q, 0, none⟩)) = rpAt who p cl t es (some ⟨q, 0, none⟩) := rp_s1 _
  rw [e] at c1
  exact c1
theorem rp_land_over (h : Blk w' x (rpAt who p cl t es none) 249) (hb : But [x] W w') (hok : (rpCp who gl P T G p cl).ok t) (hk : (rpCp who gl P T G p cl).kind t = .over) (he : rpExt who gl cl t es w' Le') (hxe : x ∉ Le') (hle : ∀ k ∈ Le', k ∈ Le) : (rpCp who gl P T G p cl).Land W w' x t Le := by
  refine ⟨hb, x :: Le', ⟨hok, es, Le', he, hxe, ?_⟩, fun k hm => by simp at hm; rcases hm with rfl | hm; exact .inl rfl; exact .inr (.inl (hle k hm))⟩
  rw [hk]
  exact ⟨h, rfl⟩
theorem rp_land_run {S : Sub} {y q b : Nat} {L : List Nat} {af : After} {pt : S.τ} (hC : CameBox W w' x (rpAt who p cl t es none) 249 (fun v => comCells 0 0 0 0 0 false (.iface S.D (.pointer (some ⟨y, 0, none⟩))) v false false) (af.fol.box x) q b) (hM : S.I w' y pt L) (hxL : x ∉ L) (hL : ∀ k ∈ L, k ∈ Le ∨ W.heap.size ≤ k) (hq : q ∉ L) (hg : b ∉ L) (hok : (rpCp who gl P T G p cl).ok t) (hk : (rpCp who gl P T G p cl).kind t = .run S pt af) (htie : (rpCp who gl P T G p cl).tie t es y) (hx : x < W.heap.size) (he : rpExt who gl cl t es w' Le') (hxe : x ∉ Le') (hd : ∀ k ∈ L, k ∉ Le') (hqe : q ∉ Le' ∧ b ∉ Le') (hle : ∀ k ∈ Le', k ∈ Le ∨ W.heap.size ≤ k) : (rpCp who gl P T G p cl).Land W w' x t Le := by
  refine ⟨hC.at'.but, ?_⟩
  have hfq := hC.at'.fresh
  have hfb := hC.fresh
  refine ⟨x :: q :: b :: (L ++ Le'), ⟨hok, es, Le', he, hxe, ?_⟩, fun k hm => ?_⟩
  · rw [hk]
    refine ⟨q, y, b, L, RunAt.of hC (fun nx => rp_s1 _), hM, htie, ?_, hq, hg, fun k hm => ?_, rfl⟩
    · simp only [List.mem_cons, not_or]
      exact ⟨by omega, by omega, hxL⟩
    · simp only [List.mem_cons] at hm
      rcases hm with rfl | rfl | hm
      · exact hqe.1
      · exact hqe.2
      · exact hd k hm
  · simp only [List.mem_cons, List.mem_append] at hm
    rcases hm with rfl | rfl | rfl | hm | hm
    · exact .inl rfl
    · exact .inr (.inr hfq)
    · exact .inr (.inr hfb)
    · rcases hL k hm with h | h
      · exact .inr (.inl h)
      · exact .inr (.inr h)
    · rcases hle k hm with h | h
      · exact .inr (.inl h)
      · exact .inr (.inr h)
end
end Go.Proofs.YtfdpikkinlljlaaGreat

namespace Go.Proofs.YtfdpikkinlljlaaGreat
open Go Go.RowKit
set_option linter.unusedVariables false
set_option maxRecDepth 100000
set_option linter.unusedSimpArgs false

structure QpIn {σ : Type} (M : PM σ) (gl : Int → Int) (l : List Int) (emb : QpT → σ) : Prop where
  ch : ∀ k, M.ax (emb (.ch k)) = some (axSt (gl (l.getD k 0)) (if k + 1 < l.length then qwd (l.getD (k + 1) 0) else 0))
  ld : M.ax (emb .ld) = some (axLd 7)
  pt : ∀ t, M.ax (emb (.pt t)) = some (axSt (if t = 0 then 6 else gl (gw t)) (qwd (l.getD 0 0)))
  tr : M.ax (emb .tr) = some (axSt 7 (qwd (l.getD (l.length - 1) 0)))
  ct : M.ax (emb .ct) = some (axAd 8 l.length)
  n1 : ∀ k v, M.nx (emb (.ch k)) v = if k + 1 < l.length then emb (.ch (k + 1)) else emb .ld
  n2 : ∀ v, M.nx (emb .ld) v = emb (.pt v)
  n3 : ∀ t v, M.nx (emb (.pt t)) v = emb .tr
  n4 : ∀ v, M.nx (emb .tr) v = emb .ct
  n5 : ∀ v, M.nx (emb .ct) v = emb .over
def QpT.live : QpT → Bool
  | .over => false
  | .done0 => false
  | _ => true
/-- Where a put stopped, and what it holds there. -/
def QpQ {σ : Type} (Q : σ → Prop) (emb : QpT → σ) (l held : List Int) (q : σ) : Prop := (Q q ∧ held = l) ∨ ∃ p', QpT.live p' = true ∧ q = emb p' ∧ held = if p'.lies = true then [] else l
def QpE {σ : Type} (Q : σ → Prop) (emb : QpT → σ) (q : σ) : Prop := Q q ∨ ∃ p', QpT.live p' = true ∧ q = emb p' ∧ p'.lies = false
theorem QpE.q {σ : Type} {Q : σ → Prop} {emb : QpT → σ} {l : List Int} {q : σ} (h : QpE Q emb q) : QpQ Q emb l l q := by
  rcases h with h | ⟨p', h1, h2, h3⟩
  · exact .inl ⟨h, rfl⟩
  · exact .inr ⟨p', h1, h2, by rw [h3]; rfl⟩
theorem SeesL.but {w w' : World} {A : Option Addr} {n cap x : Nat} {l : List Int} (h : SeesL w (.slice A n cap) l) (hB : But [x] w w') (hx : ∀ b off : Nat, A = some ⟨b, off, none⟩ → b ≠ x) : SeesL w' (.slice A n cap) l := by
  obtain ⟨A', cap', e, h1, h2⟩ := h
  cases e
  refine ⟨_, _, rfl, h1, fun hn => ?_⟩
  obtain ⟨b, off, e1, h3, h4⟩ := h2 hn
  refine ⟨b, off, e1, Nat.lt_of_lt_of_le h3 hB.size, fun j hj => ?_⟩
  rw [← h4 j hj]
  have hk := hB.block b h3 (by simpa using hx b off e1)
  simp only [World.cell?]
  rw [hk]

/-- The same, and where what is answered lies. -/
def QpGotB (B : Option Addr) {σ : Type} (M : PM σ) (emb : QpT → σ) (l : List Int) (w : World) (x : Nat) (A : Option Addr) (cap m : Nat) (g : Nat → Int) (s0 : σ) (Q : σ → Prop) (j : Nat) (e : Ending) (w' : World) : Prop := ∃ (v : Value) (held : List Int) (j' : Nat) (p : QpT), e = .returned v ∧ SeesL w' v held ∧ RunOn w' x A cap m g (M.rj s0 g m j') ∧ Syn M s0 g m j' (emb p) (QpQ Q emb l held) ∧ p.live = false ∧ (j' ≤ m → held = if p.lies = true then [] else l) ∧ But [x] w w' ∧ j ≤ j' ∧ ∀ A1 (n1 c1 : Nat), v = .slice A1 n1 c1 → 0 < n1 → A1 = B
set_option maxHeartbeats 4000000 in
theorem syn_qputB {σ : Type} {M : PM σ} {P T G : Int} {l : List Int} {emb : QpT → σ} (hE : QpIn M (fun y => wd (20 + P * 264 + T * 3) G 2 y 1) l emb) (hp : 0 ≤ P ∧ P ≤ 64) (hT : 0 ≤ T ∧ T ≤ 65536) (hG : 0 ≤ G ∧ G ≤ 65536) (hn : l.length ≤ 1000000)
    {w : World} {x : Nat} {A B : Option Addr} {cap cp m : Nat} {g : Nat → Int} {s0 : σ} {j : Nat} {Q : σ → Prop} (hs : SeesL w (.slice B l.length cp) l) (hsx : 0 < l.length → ∀ b off : Nat, B = some ⟨b, off, none⟩ → b ≠ x) (hR : RunOn w x A cap m g (M.rj s0 g m j)) (hS : Syn M s0 g m j (emb (qpStart l)) Q) (hb : ∀ j, j < m → 0 ≤ g j ∧ g j ≤ 18446744073709551615) :
    Calls Tryz.prog 94 #[.pointer (some ⟨x, 0, none⟩), .agg #[.int .i64 P, .int .i64 T, .int .i64 G], .slice B l.length cp] w fun e w' => QpGotB B M emb l w x A cap m g s0 Q j e w' := by
  have hb0 : Below w.heap.size w (w.alloc (.cells #[.int .i64 P, .int .i64 T, .int .i64 G] 23)) := (Below.refl _ _).alloc (Nat.le_refl _) _
  have HX : Hid (Blk (w.alloc (.cells #[.int .i64 P, .int .i64 T, .int .i64 G] 23)) w.heap.size #[.int .i64 P, .int .i64 T, .int .i64 G] 23) := Blk.new _ _ _
  have hxw := hR.blk.lt
  have HB0 : Hid (But [x] w (w.alloc (.cells #[.int .i64 P, .int .i64 T, .int .i64 G] 23))) := But.of_below hb0
  have HGA : Hid (∀ y w, Calls Tryz.prog 76 #[.agg #[.int .i64 P, .int .i64 T, .int .i64 G], .int .i64 y, .int .i64 1] w fun e w' => e = .returned (.int .i64 (wd (20 + P * 264 + T * 3) G 2 y 1)) ∧ Below w.heap.size w w') := fun y w => refgAt_any P T G y 1 w hp hT hG.2 (by omega)
  have HE : Hid (QpIn M (fun y => wd (20 + P * 264 + T * 3) G 2 y 1) l emb) := hE
  have HBD : Hid (∀ j, j < m → 0 ≤ g j ∧ g j ≤ 18446744073709551615) := hb
  have HSL : Hid (SeesL w (.slice B l.length cp) l) := hs
  have HSX : Hid (0 < l.length → ∀ b off : Nat, B = some ⟨b, off, none⟩ → b ≠ x) := hsx
  have HR0 : Hid (RunOn (w.alloc (.cells #[.int .i64 P, .int .i64 T, .int .i64 G] 23)) x A cap m g (M.rj s0 g m j)) := hR.below hb0
  have HST : Hid (0 < l.length → Syn M s0 g m (j + 0) (emb (.ch 0)) (QpE Q emb)) := fun h0 => by
    have e : qpStart l = .ch 0 := if_neg (fun e => by rw [e] at h0; exact absurd h0 (by simp))
    rw [e] at hS
    exact hS.weak (fun r hr => .inl hr)
  have HS0 : Hid (Syn M s0 g m j (emb (qpStart l)) Q) := hS
  clear hR hS hE hb hb0 hp hT hG hs hsx
  go_enter Tryz.func94, Tryz.ntmps94
  go_wp2_with fail
  generalize w.alloc (.cells #[.int .i64 P, .int .i64 T, .int .i64 G] 23) = W at *
  by_cases hl0 : l.length = 0
  · have hle : l = [] := List.length_eq_zero_iff.1 hl0
    subst hle
    go_loopw [7] (fun i wr => i = .int .i64 0 ∧ wr = W) (fun i _ => 0)
    case atStart => exact ⟨rfl, rfl⟩
    case round =>
      obtain ⟨rfl, rfl⟩ := hrel
      go_wp2_with fail
      go_ret
      exact ⟨.slice none 0 0, [], j, .done0, rfl, ⟨none, 0, rfl, fun _ => ⟨rfl, rfl⟩, fun h => absurd h (by simp)⟩, HR0.out, HS0.out.weak (fun r hr => .inl ⟨hr, rfl⟩), rfl, fun _ => rfl, HB0.out, Nat.le_refl j, (fun _ _ _ e h => by cases e; exact absurd h (by omega))⟩
  · have h0 : 0 < l.length := by omega
    have HSS : Hid _ := HST.out h0
    clear HS0 HST
    obtain ⟨b, off, rfl, hbl, hcl⟩ : ∃ b off : Nat, B = some ⟨b, off, none⟩ ∧ b < w.heap.size ∧ ∀ j, j < l.length → w.cell? ⟨b, off + j, none⟩ = some (.int .i64 (l.getD j 0)) := by
      obtain ⟨A', cap', e, h1, h2⟩ := HSL.out
      cases e
      exact h2 h0
    have hbx : b ≠ x := HSX.out h0 b off rfl
    have HCL : Hid (∀ Y, But [x] w Y → ∀ j, j < l.length → Y.cell? ⟨b, off + j, none⟩ = some (.int .i64 (l.getD j 0))) := fun Y hY j hj => by
      rw [← hcl j hj]
      have hk := hY.block b hbl (by simpa using hbx)
      simp only [World.cell?]
      rw [hk]
    clear hcl
    go_loopw [7] (fun i wr => ∃ k : Nat, k ≤ l.length ∧ i = .int .i64 k ∧ Hid (RunOn wr x A cap m g (M.rj s0 g m (j + k))) ∧ Hid (Syn M s0 g m (j + k) (emb (if k < l.length then .ch k else .ld)) (QpE Q emb)) ∧ Hid (But [x] w wr) ∧ Hid (Blk wr w.heap.size #[.int .i64 P, .int .i64 T, .int .i64 G] 23)) (fun i _ => l.length - (intOf i).toNat)
    case atStart => exact ⟨0, Nat.zero_le _, rfl, HR0, (by rw [if_pos h0]; exact HSS.out : Syn _ _ _ _ _ _ _), HB0, HX⟩
    case round =>
      clear HR0 HSS HB0 HX
      obtain ⟨k, hk, rfl, HR, HS, HB, HX⟩ := hrel
      by_cases hlt : k < l.length
      · have HS1 : Hid (Syn M s0 g m (j + k) (emb (.ch k)) (QpE Q emb)) := by have := HS.out; rw [if_pos hlt] at this; exact this
        have hk0 : (0 : Int) ≤ (k : Int) := by omega
        have hk1 : (k : Int) < (l.length : Int) := by omega
        have cg := HCL.out wr HB.out k hlt
        have y0 := HX.out.cell 0 (v := .int .i64 P) rfl
        have y1 := HX.out.cell 1 (v := .int .i64 T) rfl
        have y2 := HX.out.cell 2 (v := .int .i64 G) rfl
        obtain ⟨nx, hnx⟩ : ∃ nx, (if k + 1 < l.length then qwd (l.getD (k + 1) 0) else 0) = nx := ⟨_, rfl⟩
        have HAX : Hid (M.ax (emb (.ch k)) = some (axSt (wd (20 + P * 264 + T * 3) G 2 (l.getD k 0) 1) nx)) := by
          have := HE.out.ch k
          rw [hnx] at this
          exact this
        have HLD : Hid _ := HGA.out (l.getD k 0)
        have HCY : Hid (∀ Y, But [x] w Y → Y.cell? ⟨b, off + k, none⟩ = some (.int .i64 (l.getD k 0))) := fun Y hY => HCL.out Y hY k hlt
        generalize l.getD k 0 = yk at *
        clear HS
        by_cases hk2 : k + 1 < l.length
        · have cg2 := HCL.out wr HB.out (k + 1) hk2
          have hk3 : (k : Int) + 1 < (l.length : Int) := by omega
          have hd3 : decide ((k : Int) + 1 < (l.length : Int)) = true := decide_eq_true hk3
          have ht : ((k : Int) + 1).toNat = k + 1 := by omega
          have hnx2 : qwd (l.getD (k + 1) 0) = nx := by rw [if_pos hk2] at hnx; exact hnx
          generalize l.getD (k + 1) 0 = y2' at *
          obtain ⟨y3, hy3⟩ : ∃ y3, IntKind.u64.wrap y2' = y3 := ⟨_, rfl⟩
          have e6 : IntKind.u64.wrap (y3 + 1) = nx := by rw [← hy3]; exact hnx2
          clear hnx hnx2
          obtain ⟨at', hat⟩ : ∃ at', wd (20 + P * 264 + T * 3) G 2 yk 1 = at' := ⟨_, rfl⟩
          rw [hat] at HAX HLD
          obtain ⟨QC, hQC⟩ : ∃ QC : World → Prop, QC = fun w' => RunOn w' x A cap m g (M.rj s0 g m (j + k + 1)) ∧ Syn M s0 g m (j + k + 1) (emb (.ch (k + 1))) (QpE Q emb) ∧ But [x] w w' ∧ Blk w' w.heap.size #[.int .i64 P, .int .i64 T, .int .i64 G] 23 := ⟨_, rfl⟩
          have HGAd := HLD.out wr.drew
          have HSt : Hid (∀ w4, Below wr.drew.heap.size wr.drew w4 → Calls Tryz.prog 92 #[.pointer (some ⟨x, 0, none⟩), .int .i64 at', .int .u64 nx] w4 fun e w' => (∃ u, e = .returned u) ∧ QC w') := fun w4 k4 => by
            have hb4 : Below wr.heap.size wr w4 := (show Below wr.heap.size wr wr.drew from (Below.refl _ _).drew).trans k4
            refine (syn_store (HR.out.below hb4) HS1.out HBD.out at' nx (fun _ => HAX.out)).mono ?_
            rintro e w' ⟨hu, v5, hK⟩
            refine ⟨hu, ?_⟩
            rw [hQC]
            refine ⟨hK.run, ?_, (HB.out.trans (But.of_below hb4)).trans hK.but, (HX.out.but (But.of_below (l := []) hb4) (by simp)).but hK.but (by simp; omega)⟩
            have h5 := hK.syn
            rw [HE.out.n1, if_pos hk2] at h5
            exact h5.weak (fun r hr => by rcases hr with rfl | hr; exact .inr ⟨.ch k, rfl, rfl, rfl⟩; exact hr)
          have HSC : Hid (∀ Y, But [x] w Y → Blk Y w.heap.size #[.int .i64 P, .int .i64 T, .int .i64 G] 23 → (Y.cell? ⟨w.heap.size, 0, none⟩ = some (.int .i64 P) ∧ Y.cell? ⟨w.heap.size, 1, none⟩ = some (.int .i64 T) ∧ Y.cell? ⟨w.heap.size, 2, none⟩ = some (.int .i64 G) ∧ Y.cell? ⟨b, off + k, none⟩ = some (.int .i64 yk))) := fun Y hY hBY => ⟨hBY.cell 0 rfl, hBY.cell 1 rfl, hBY.cell 2 rfl, HCY.out Y hY⟩
          have hH : Hid (wr.drew.cell? ⟨w.heap.size, 0, none⟩ = some (.int .i64 P) ∧ wr.drew.cell? ⟨w.heap.size, 1, none⟩ = some (.int .i64 T) ∧ wr.drew.cell? ⟨w.heap.size, 2, none⟩ = some (.int .i64 G) ∧ wr.drew.cell? ⟨b, off + k, none⟩ = some (.int .i64 yk)) := HSC.out _ HB.out.drew HX.out.drew
          have KB : Hid (∀ w4, Below wr.drew.heap.size wr.drew w4 → (w4.cell? ⟨w.heap.size, 0, none⟩ = some (.int .i64 P) ∧ w4.cell? ⟨w.heap.size, 1, none⟩ = some (.int .i64 T) ∧ w4.cell? ⟨w.heap.size, 2, none⟩ = some (.int .i64 G) ∧ w4.cell? ⟨b, off + k, none⟩ = some (.int .i64 yk))) := fun w4 k4 => by
            have hb4 : Below wr.heap.size wr w4 := (show Below wr.heap.size wr wr.drew from (Below.refl _ _).drew).trans k4
            exact HSC.out _ (HB.out.trans (But.of_below hb4)) (HX.out.but (But.of_below (l := []) hb4) (by simp))
          have KC : Hid (∀ w5, QC w5 → (w5.cell? ⟨w.heap.size, 0, none⟩ = some (.int .i64 P) ∧ w5.cell? ⟨w.heap.size, 1, none⟩ = some (.int .i64 T) ∧ w5.cell? ⟨w.heap.size, 2, none⟩ = some (.int .i64 G) ∧ w5.cell? ⟨b, off + k, none⟩ = some (.int .i64 yk))) := fun w5 hC => by
            rw [hQC] at hC
            exact HSC.out _ hC.2.2.1 hC.2.2.2
          have HQC : Hid (∀ w5, QC w5 → RunOn w5 x A cap m g (M.rj s0 g m (j + (k + 1))) ∧ Syn M s0 g m (j + (k + 1)) (emb (if k + 1 < l.length then .ch (k + 1) else .ld)) (QpE Q emb) ∧ But [x] w w5 ∧ Blk w5 w.heap.size #[.int .i64 P, .int .i64 T, .int .i64 G] 23) := fun w5 hC => by
            rw [hQC] at hC
            rw [if_pos hk2]
            exact hC
          clear hQC hat HLD HAX HR HS1 HB HX y0 y1 y2 cg
          go_wp2_with fail
          clear cg2
          go_region_held3 (fun w' => w'.cell? ⟨w.heap.size, 0, none⟩ = some (.int .i64 P) ∧ w'.cell? ⟨w.heap.size, 1, none⟩ = some (.int .i64 T) ∧ w'.cell? ⟨w.heap.size, 2, none⟩ = some (.int .i64 G) ∧ w'.cell? ⟨b, off + k, none⟩ = some (.int .i64 yk)) (first | exact hH.out | exact KB.out _ ‹_› | exact KC.out _ ‹_›) (first | (go_at_call 76; refine HGAd.mono ?_; rintro e w4 ⟨rfl, k4⟩) | (go_at_call 92; refine (HSt.out _ ‹_›).mono ?_; rintro e w5 ⟨⟨u, rfl⟩, hC⟩))
          all_goals
            have HF : Hid _ := HQC.out _ hC
            clear HGAd HSt HSC hH KB KC HQC hC
            go_wp2_with fail
            go_roundw
            case rel => exact ⟨k + 1, by omega, by go_num, HF.out.1, HF.out.2.1, HF.out.2.2.1, HF.out.2.2.2⟩
            case measure => simp [intOf]; omega
        · have hk3 : ¬ ((k : Int) + 1 < (l.length : Int)) := by omega
          have hd3 : decide ((k : Int) + 1 < (l.length : Int)) = false := decide_eq_false hk3
          have hnx2 : (0 : Int) = nx := by rw [if_neg hk2] at hnx; exact hnx
          clear hnx
          subst hnx2
          obtain ⟨at', hat⟩ : ∃ at', wd (20 + P * 264 + T * 3) G 2 yk 1 = at' := ⟨_, rfl⟩
          rw [hat] at HAX HLD
          obtain ⟨QC, hQC⟩ : ∃ QC : World → Prop, QC = fun w' => RunOn w' x A cap m g (M.rj s0 g m (j + k + 1)) ∧ Syn M s0 g m (j + k + 1) (emb (.ld)) (QpE Q emb) ∧ But [x] w w' ∧ Blk w' w.heap.size #[.int .i64 P, .int .i64 T, .int .i64 G] 23 := ⟨_, rfl⟩
          have HGAd := HLD.out wr.drew
          have HSt : Hid (∀ w4, Below wr.drew.heap.size wr.drew w4 → Calls Tryz.prog 92 #[.pointer (some ⟨x, 0, none⟩), .int .i64 at', .int .u64 0] w4 fun e w' => (∃ u, e = .returned u) ∧ QC w') := fun w4 k4 => by
            have hb4 : Below wr.heap.size wr w4 := (show Below wr.heap.size wr wr.drew from (Below.refl _ _).drew).trans k4
            refine (syn_store (HR.out.below hb4) HS1.out HBD.out at' 0 (fun _ => HAX.out)).mono ?_
            rintro e w' ⟨hu, v5, hK⟩
            refine ⟨hu, ?_⟩
            rw [hQC]
            refine ⟨hK.run, ?_, (HB.out.trans (But.of_below hb4)).trans hK.but, (HX.out.but (But.of_below (l := []) hb4) (by simp)).but hK.but (by simp; omega)⟩
            have h5 := hK.syn
            rw [HE.out.n1, if_neg hk2] at h5
            exact h5.weak (fun r hr => by rcases hr with rfl | hr; exact .inr ⟨.ch k, rfl, rfl, rfl⟩; exact hr)
          have HSC : Hid (∀ Y, But [x] w Y → Blk Y w.heap.size #[.int .i64 P, .int .i64 T, .int .i64 G] 23 → (Y.cell? ⟨w.heap.size, 0, none⟩ = some (.int .i64 P) ∧ Y.cell? ⟨w.heap.size, 1, none⟩ = some (.int .i64 T) ∧ Y.cell? ⟨w.heap.size, 2, none⟩ = some (.int .i64 G) ∧ Y.cell? ⟨b, off + k, none⟩ = some (.int .i64 yk))) := fun Y hY hBY => ⟨hBY.cell 0 rfl, hBY.cell 1 rfl, hBY.cell 2 rfl, HCY.out Y hY⟩
          have hH : Hid (wr.drew.cell? ⟨w.heap.size, 0, none⟩ = some (.int .i64 P) ∧ wr.drew.cell? ⟨w.heap.size, 1, none⟩ = some (.int .i64 T) ∧ wr.drew.cell? ⟨w.heap.size, 2, none⟩ = some (.int .i64 G) ∧ wr.drew.cell? ⟨b, off + k, none⟩ = some (.int .i64 yk)) := HSC.out _ HB.out.drew HX.out.drew
          have KB : Hid (∀ w4, Below wr.drew.heap.size wr.drew w4 → (w4.cell? ⟨w.heap.size, 0, none⟩ = some (.int .i64 P) ∧ w4.cell? ⟨w.heap.size, 1, none⟩ = some (.int .i64 T) ∧ w4.cell? ⟨w.heap.size, 2, none⟩ = some (.int .i64 G) ∧ w4.cell? ⟨b, off + k, none⟩ = some (.int .i64 yk))) := fun w4 k4 => by
            have hb4 : Below wr.heap.size wr w4 := (show Below wr.heap.size wr wr.drew from (Below.refl _ _).drew).trans k4
            exact HSC.out _ (HB.out.trans (But.of_below hb4)) (HX.out.but (But.of_below (l := []) hb4) (by simp))
          have KC : Hid (∀ w5, QC w5 → (w5.cell? ⟨w.heap.size, 0, none⟩ = some (.int .i64 P) ∧ w5.cell? ⟨w.heap.size, 1, none⟩ = some (.int .i64 T) ∧ w5.cell? ⟨w.heap.size, 2, none⟩ = some (.int .i64 G) ∧ w5.cell? ⟨b, off + k, none⟩ = some (.int .i64 yk))) := fun w5 hC => by
            rw [hQC] at hC
            exact HSC.out _ hC.2.2.1 hC.2.2.2
          have HQC : Hid (∀ w5, QC w5 → RunOn w5 x A cap m g (M.rj s0 g m (j + (k + 1))) ∧ Syn M s0 g m (j + (k + 1)) (emb (if k + 1 < l.length then .ch (k + 1) else .ld)) (QpE Q emb) ∧ But [x] w w5 ∧ Blk w5 w.heap.size #[.int .i64 P, .int .i64 T, .int .i64 G] 23) := fun w5 hC => by
            rw [hQC] at hC
            rw [if_neg hk2]
            exact hC
          clear hQC hat HLD HAX HR HS1 HB HX y0 y1 y2 cg
          go_wp2_with fail
          go_region_held3 (fun w' => w'.cell? ⟨w.heap.size, 0, none⟩ = some (.int .i64 P) ∧ w'.cell? ⟨w.heap.size, 1, none⟩ = some (.int .i64 T) ∧ w'.cell? ⟨w.heap.size, 2, none⟩ = some (.int .i64 G) ∧ w'.cell? ⟨b, off + k, none⟩ = some (.int .i64 yk)) (first | exact hH.out | exact KB.out _ ‹_› | exact KC.out _ ‹_›) (first | (go_at_call 76; refine HGAd.mono ?_; rintro e w4 ⟨rfl, k4⟩) | (go_at_call 92; refine (HSt.out _ ‹_›).mono ?_; rintro e w5 ⟨⟨u, rfl⟩, hC⟩))
          all_goals
            have HF : Hid _ := HQC.out _ hC
            clear HGAd HSt HSC hH KB KC HQC hC
            go_wp2_with fail
            go_roundw
            case rel => exact ⟨k + 1, by omega, by go_num, HF.out.1, HF.out.2.1, HF.out.2.2.1, HF.out.2.2.2⟩
            case measure => simp [intOf]; omega
      · obtain rfl : k = l.length := by omega
        have HS1 : Hid (Syn M s0 g m (j + l.length) (emb .ld) (QpE Q emb)) := by have := HS.out; rw [if_neg hlt] at this; exact this
        have hgd : decide ((l.length : Int) < (l.length : Int)) = false := by simp
        have hz0 : ((l.length : Int) == 0) = false := by rw [beq_eq_false_iff_ne]; omega
        have hz1 : decide ((l.length : Int) = 0) = false := decide_eq_false (by omega)
        have hL := syn_load HR.out HS1.out HBD.out 7 (fun _ => HE.out.ld)
        have HJ : Hid (∀ q : Nat, j ≤ j + l.length + q) := fun q => (by omega : j ≤ j + l.length + q)
        generalize j + l.length = j1 at *
        clear HS hlt hk HR HS1
        go_wp2_with fail
        go_at_call 75; refine hL.mono ?_; rintro e z2 ⟨t, rfl, hK⟩
        have htb := hK.bd
        have HR2 : Hid (RunOn z2 x A cap m g (M.rj s0 g m (j1 + 1))) := hK.run
        have HS2 : Hid (Syn M s0 g m (j1 + 1) (emb (.pt t)) (QpE Q emb)) := by
          have := hK.syn
          rw [HE.out.n2] at this
          exact this.weak (fun r hr => by rcases hr with rfl | hr; exact .inr ⟨.ld, rfl, rfl, rfl⟩; exact hr)
        have HB2 : Hid (But [x] w z2) := HB.out.trans hK.but
        have HX2 : Hid (Blk z2 w.heap.size #[.int .i64 P, .int .i64 T, .int .i64 G] 23) := HX.out.but hK.but (by simp; omega)
        clear hL hK HB HX
        have HC0 : Hid (∀ Y, But [x] w Y → Y.cell? ⟨b, off, none⟩ = some (.int .i64 (l.getD 0 0))) := fun Y hY => HCL.out Y hY 0 h0
        have HCN : Hid (∀ Y, But [x] w Y → Y.cell? ⟨b, off + (l.length - 1), none⟩ = some (.int .i64 (l.getD (l.length - 1) 0))) := fun Y hY => HCL.out Y hY (l.length - 1) (by omega)
        have HPT : Hid (∀ t, M.ax (emb (.pt t)) = some (axSt (if t = 0 then 6 else wd (20 + P * 264 + T * 3) G 2 (gw t) 1) (qwd (l.getD 0 0)))) := HE.out.pt
        have HTR : Hid (M.ax (emb .tr) = some (axSt 7 (qwd (l.getD (l.length - 1) 0)))) := HE.out.tr
        generalize l.getD 0 0 = ya at *
        generalize l.getD (l.length - 1) 0 = yz at *
        obtain ⟨ya1, hya1⟩ : ∃ a, IntKind.u64.wrap ya = a := ⟨_, rfl⟩
        obtain ⟨ya2, hya2⟩ : ∃ a, qwd ya = a := ⟨_, rfl⟩
        have e2 : IntKind.u64.wrap (ya1 + 1) = ya2 := by rw [← hya1]; exact hya2
        obtain ⟨yz1, hyz1⟩ : ∃ a, IntKind.u64.wrap yz = a := ⟨_, rfl⟩
        obtain ⟨yz2, hyz2⟩ : ∃ a, qwd yz = a := ⟨_, rfl⟩
        have e4 : IntKind.u64.wrap (yz1 + 1) = yz2 := by rw [← hyz1]; exact hyz2
        rw [hya2] at HPT
        rw [hyz2] at HTR
        clear hya2 hyz2
        have e5 : IntKind.u64.wrap (l.length : Int) = (l.length : Int) := wrap_u64 (by omega)
        have e6 : ((l.length : Int) - 1).toNat = l.length - 1 := by omega
        have e7 : (0 : Int) < (l.length : Int) := by omega
        have e8 : (l.length : Int) - 1 < (l.length : Int) := by omega
        have e9 : (0 : Int) ≤ (l.length : Int) - 1 := by omega
        by_cases t0 : t = 0
        · subst t0
          have cg := HC0.out z2 HB2.out
          have HP0 : Hid (M.ax (emb (.pt 0)) = some (axSt 6 ya2)) := by have := HPT.out 0; rw [if_pos rfl] at this; exact this
          have hSt := syn_store HR2.out HS2.out HBD.out 6 ya2 (fun _ => HP0.out)
          clear HPT HP0 htb
          go_wp2_with fail
          go_at_call 92; refine hSt.mono ?_; rintro e z4 ⟨⟨u4, rfl⟩, v4, hK⟩
          have HR4 : Hid (RunOn z4 x A cap m g (M.rj s0 g m (j1 + 1 + 1))) := hK.run
          have HS4 : Hid (Syn M s0 g m (j1 + 1 + 1) (emb .tr) (QpE Q emb)) := by
            have := hK.syn
            rw [HE.out.n3] at this
            exact this.weak (fun r hr => by rcases hr with rfl | hr; exact .inr ⟨.pt 0, rfl, rfl, rfl⟩; exact hr)
          have HB4 : Hid (But [x] w z4) := HB2.out.trans hK.but
          have s4 := HR4.out.blk.cell 2 (v := .bool (M.rj s0 g m (j1 + 1 + 1)).stop) rfl
          rw [rj_stop HS4.out] at s4
          have cz := HCN.out z4 HB4.out
          have hSt2 := syn_store HR4.out HS4.out HBD.out 7 yz2 (fun _ => HTR.out)
          clear hSt hK cg HB2 HR2 HS2
          by_cases hm4 : m < j1 + 1 + 1
          · rw [decide_eq_true hm4] at s4
            have HM : Hid (m < j1 + 1 + 1) := hm4
            clear hm4
            go_wp2_with fail
            go_at_call 92; refine hSt2.mono ?_; rintro e z5 ⟨⟨u5, rfl⟩, v5, hK⟩
            have HB5 : Hid (But [x] w z5) := HB4.out.trans hK.but
            have HS5 : Hid (Syn M s0 g m (j1 + 1 + 1 + 1) (emb .ct) (QpQ Q emb l l)) := ⟨fun h => absurd h (by have := HM.out; omega), fun h => ⟨(HS4.out.past HM.out).1.q, (HS4.out.past HM.out).2⟩⟩
            have hA := syn_add hK.run HS5.out HBD.out 8 (l.length : Int) (fun _ => HE.out.ct)
            clear hSt2 hK s4 cz
            go_wp2_with fail
            go_at_call 137; refine hA.mono ?_; rintro e z6 ⟨v6, rfl, hK⟩
            have HF : Hid (QpGotB (some ⟨b, off, none⟩) M emb l w x A cap m g s0 Q j (.returned (.slice (some ⟨b, off, none⟩) l.length cp)) z6) := ⟨_, l, j1 + 1 + 1 + 1 + 1, .over, rfl, HSL.out.but (HB5.out.trans hK.but) (HSX.out (by omega)), hK.run, ⟨fun h => absurd h (by have := HM.out; omega), fun h => ⟨(HS5.out.past (by have := HM.out; omega)).1, (HS5.out.past (by have := HM.out; omega)).2⟩⟩, rfl, fun h => absurd h (by have := HM.out; omega), HB5.out.trans hK.but, HJ.out 4, (fun _ _ _ e _ => by cases e; rfl)⟩
            clear hA hK
            go_wp2_with fail
            go_ret
            exact HF.out
          · rw [decide_eq_false hm4] at s4
            have HM : Hid (j1 + 1 + 1 ≤ m) := (by omega : j1 + 1 + 1 ≤ m)
            clear hm4
            go_wp2_with fail
            go_at_call 92; refine hSt2.mono ?_; rintro e z5 ⟨⟨u5, rfl⟩, v5, hK⟩
            have HB5 : Hid (But [x] w z5) := HB4.out.trans hK.but
            have HS5 : Hid (Syn M s0 g m (j1 + 1 + 1 + 1) (emb .ct) (QpQ Q emb l [])) := by
              have h5 := hK.syn
              rw [HE.out.n4] at h5
              refine ⟨h5.at', fun h => ⟨?_, (h5.past h).2⟩⟩
              have hmj : m = j1 + 1 + 1 := by have := HM.out; omega
              have h6 := HS4.out.at' HM.out
              rw [← hmj] at h6
              exact .inr ⟨.tr, rfl, h6, rfl⟩
            have hA := syn_add hK.run HS5.out HBD.out 8 (l.length : Int) (fun _ => HE.out.ct)
            clear hSt2 hK s4 cz
            go_wp2_with fail
            go_at_call 137; refine hA.mono ?_; rintro e z6 ⟨v6, rfl, hK⟩
            have HF : Hid (QpGotB (some ⟨b, off, none⟩) M emb l w x A cap m g s0 Q j (.returned (.slice none 0 0)) z6) := by
              have h7 := hK.syn
              rw [HE.out.n5] at h7
              exact ⟨_, [], j1 + 1 + 1 + 1 + 1, .over, rfl, ⟨none, 0, rfl, fun _ => ⟨rfl, rfl⟩, fun h => absurd h (by simp)⟩, hK.run, h7.weak (fun r hr => by rcases hr with rfl | hr; exact .inr ⟨.ct, rfl, rfl, rfl⟩; exact hr), rfl, fun _ => rfl, HB5.out.trans hK.but, HJ.out 4, (fun _ _ _ e h => by cases e; exact absurd h (by omega))⟩
            clear hA hK
            go_wp2_with fail
            go_ret
            exact HF.out
        · have ht0 : (t == 0) = false := by simpa using t0
          have ht1 : (t != 0) = true := by simpa using t0
          have HP0 : Hid (M.ax (emb (.pt t)) = some (axSt (wd (20 + P * 264 + T * 3) G 2 (gw t) 1) ya2)) := by have := HPT.out t; rw [if_neg t0] at this; exact this
          have hGA2 := HGA.out (gw t) z2
          have y0 := HX2.out.cell 0 (v := .int .i64 P) rfl
          have y1 := HX2.out.cell 1 (v := .int .i64 T) rfl
          have y2 := HX2.out.cell 2 (v := .int .i64 G) rfl
          have eg : wrap64 (IntKind.i64.wrap t - 1) = gw t := gw_eq t htb
          have HSt0 : Hid (∀ Y, Below z2.heap.size z2 Y → Calls Tryz.prog 92 #[.pointer (some ⟨x, 0, none⟩), .int .i64 (wd (20 + P * 264 + T * 3) G 2 (gw t) 1), .int .u64 ya2] Y fun e w' => (∃ v, e = .returned v) ∧ ∃ v, Kept' Y w' x A cap m g M s0 (j1 + 1) (emb (.pt t)) (QpE Q emb) v) := fun Y hY => syn_store (HR2.out.below hY) HS2.out HBD.out _ ya2 (fun _ => HP0.out)
          generalize wd (20 + P * 264 + T * 3) G 2 (gw t) 1 = at' at *
          generalize gw t = gt at *
          generalize hvv : IntKind.i64.wrap t = t' at *
          clear HPT HP0
          go_wp2_with fail
          go_at_call 76; refine hGA2.mono ?_; rintro e z3 ⟨rfl, k3⟩
          have hSt := HSt0.out z3 k3
          have HB2 : Hid (But [x] w z3) := HB2.out.trans (But.of_below k3)
          have cg := HC0.out z3 HB2.out
          clear hGA2 HSt0 k3 y0 y1 y2 HX2 eg hvv
          go_wp2_with fail
          go_at_call 92; refine hSt.mono ?_; rintro e z4 ⟨⟨u4, rfl⟩, v4, hK⟩
          have HR4 : Hid (RunOn z4 x A cap m g (M.rj s0 g m (j1 + 1 + 1))) := hK.run
          have HS4 : Hid (Syn M s0 g m (j1 + 1 + 1) (emb .tr) (QpE Q emb)) := by
            have := hK.syn
            rw [HE.out.n3] at this
            exact this.weak (fun r hr => by rcases hr with rfl | hr; exact .inr ⟨.pt t, rfl, rfl, rfl⟩; exact hr)
          have HB4 : Hid (But [x] w z4) := HB2.out.trans hK.but
          have s4 := HR4.out.blk.cell 2 (v := .bool (M.rj s0 g m (j1 + 1 + 1)).stop) rfl
          rw [rj_stop HS4.out] at s4
          have cz := HCN.out z4 HB4.out
          have hSt2 := syn_store HR4.out HS4.out HBD.out 7 yz2 (fun _ => HTR.out)
          clear hSt hK cg HB2 HR2 HS2
          by_cases hm4 : m < j1 + 1 + 1
          · rw [decide_eq_true hm4] at s4
            have HM : Hid (m < j1 + 1 + 1) := hm4
            clear hm4
            go_wp2_with fail
            go_at_call 92; refine hSt2.mono ?_; rintro e z5 ⟨⟨u5, rfl⟩, v5, hK⟩
            have HB5 : Hid (But [x] w z5) := HB4.out.trans hK.but
            have HS5 : Hid (Syn M s0 g m (j1 + 1 + 1 + 1) (emb .ct) (QpQ Q emb l l)) := ⟨fun h => absurd h (by have := HM.out; omega), fun h => ⟨(HS4.out.past HM.out).1.q, (HS4.out.past HM.out).2⟩⟩
            have hA := syn_add hK.run HS5.out HBD.out 8 (l.length : Int) (fun _ => HE.out.ct)
            clear hSt2 hK s4 cz
            go_wp2_with fail
            go_at_call 137; refine hA.mono ?_; rintro e z6 ⟨v6, rfl, hK⟩
            have HF : Hid (QpGotB (some ⟨b, off, none⟩) M emb l w x A cap m g s0 Q j (.returned (.slice (some ⟨b, off, none⟩) l.length cp)) z6) := ⟨_, l, j1 + 1 + 1 + 1 + 1, .over, rfl, HSL.out.but (HB5.out.trans hK.but) (HSX.out (by omega)), hK.run, ⟨fun h => absurd h (by have := HM.out; omega), fun h => ⟨(HS5.out.past (by have := HM.out; omega)).1, (HS5.out.past (by have := HM.out; omega)).2⟩⟩, rfl, fun h => absurd h (by have := HM.out; omega), HB5.out.trans hK.but, HJ.out 4, (fun _ _ _ e _ => by cases e; rfl)⟩
            clear hA hK
            go_wp2_with fail
            go_ret
            exact HF.out
          · rw [decide_eq_false hm4] at s4
            have HM : Hid (j1 + 1 + 1 ≤ m) := (by omega : j1 + 1 + 1 ≤ m)
            clear hm4
            go_wp2_with fail
            go_at_call 92; refine hSt2.mono ?_; rintro e z5 ⟨⟨u5, rfl⟩, v5, hK⟩
            have HB5 : Hid (But [x] w z5) := HB4.out.trans hK.but
            have HS5 : Hid (Syn M s0 g m (j1 + 1 + 1 + 1) (emb .ct) (QpQ Q emb l [])) := by
              have h5 := hK.syn
              rw [HE.out.n4] at h5
              refine ⟨h5.at', fun h => ⟨?_, (h5.past h).2⟩⟩
              have hmj : m = j1 + 1 + 1 := by have := HM.out; omega
              have h6 := HS4.out.at' HM.out
              rw [← hmj] at h6
              exact .inr ⟨.tr, rfl, h6, rfl⟩
            have hA := syn_add hK.run HS5.out HBD.out 8 (l.length : Int) (fun _ => HE.out.ct)
            clear hSt2 hK s4 cz
            go_wp2_with fail
            go_at_call 137; refine hA.mono ?_; rintro e z6 ⟨v6, rfl, hK⟩
            have HF : Hid (QpGotB (some ⟨b, off, none⟩) M emb l w x A cap m g s0 Q j (.returned (.slice none 0 0)) z6) := by
              have h7 := hK.syn
              rw [HE.out.n5] at h7
              exact ⟨_, [], j1 + 1 + 1 + 1 + 1, .over, rfl, ⟨none, 0, rfl, fun _ => ⟨rfl, rfl⟩, fun h => absurd h (by simp)⟩, hK.run, h7.weak (fun r hr => by rcases hr with rfl | hr; exact .inr ⟨.ct, rfl, rfl, rfl⟩; exact hr), rfl, fun _ => rfl, HB5.out.trans hK.but, HJ.out 4, (fun _ _ _ e h => by cases e; exact absurd h (by omega))⟩
            clear hA hK
            go_wp2_with fail
            go_ret
            exact HF.out
end Go.Proofs.YtfdpikkinlljlaaGreat

namespace Go.Proofs.YtfdpikkinlljlaaGreat
open Go Go.RowKit
set_option linter.unusedVariables false
set_option maxRecDepth 100000
set_option linter.unusedSimpArgs false

theorem qp_axok (gl : Int → Int) (l : List Int) (hn : l.length ≤ 1000000) : ∀ t a, (qpPM gl l).ax t = some a → a.Ok := by
  intro t a h
  cases t with
  | ch k =>
    cases h
    have := qwd_bd (l.getD (k + 1) 0)
    refine axSt_ok _ _ ?_
    split <;> omega
  | ld => cases h; exact axLd_ok _
  | pt t => cases h; exact axSt_ok _ _ (qwd_bd _)
  | tr => cases h; exact axSt_ok _ _ (qwd_bd _)
  | ct => cases h; exact axAd_ok _ _ (by omega)
  | over => cases h
  | done0 => cases h
end Go.Proofs.YtfdpikkinlljlaaGreat

namespace Go.Proofs.YtfdpikkinlljlaaGreat
open Go Go.RowKit
set_option linter.unusedVariables false
set_option maxRecDepth 100000
set_option linter.unusedSimpArgs false

theorem folC_swap {W : World} {x K : Nat} {v : Int} {M : World → Prop} (b : Bool) (hb : decide (v ≠ 0) = b) (h : Calls Tryz.prog K #[.pointer (some ⟨x, 0, none⟩), .bool b] W fun e w' => (∃ u, e = .returned u) ∧ M w') : FolC W x (.swap K) v M := by
  subst hb; exact h
theorem qp_keep1 {who P T G : Int} {cl : Nat} {l : List Int} (hp : 0 ≤ P ∧ P ≤ 64) (hT : 0 ≤ T ∧ T ≤ 65536) (hG : 0 ≤ G ∧ G ≤ 65536) (hn : l.length ≤ 1000000) {a b : World} {y x : Nat} {t : QpT} {L : List Nat} (h : qpI who cl (fun y => wd (20 + P * 264 + T * 3) G 2 y 1) l a y t L) (hb : But [x] a b) (hx : x ∉ L) : qpI who cl (fun y => wd (20 + P * 264 + T * 3) G 2 y 1) l b y t L :=
  (qp_good who P T G cl l hp hT hG hn).keep h hb (fun k hk hm => by simp at hm; exact hx (hm ▸ hk))
theorem RpD.all_len' {d : RpD} (h : d.gv.length = 128) : d.all.length = 129 := by
  unfold RpD.all
  rw [List.length_append, h]; rfl
theorem RpD.all_len {d : RpD} (h : d.Ok) : d.all.length = 129 := RpD.all_len' h.len
theorem RpD.take1_ok {d : RpD} (h : d.Ok) (k : Nat) (v : Int) : (d.take1 k v).Ok := ⟨by show (d.gv.set k _).length = 128; rw [List.length_set]; exact h.len, h.nt, h.hd, h.tl⟩
section
variable {who P T G p : Int} {cl : Nat}
theorem rp_on {gl : Int → Int} {v : Int} {t : RpT} {S : Sub} {q : S.τ} {af : After} (hok : (rpCp who gl P T G p cl).ok t) (hk : (rpCp who gl P T G p cl).kind t = .run S q af) (hs : (S.M.ax (S.M.nx q v)).isSome = true) :
    (rpCp who gl P T G p cl).ok ((rpPM who P p gl).nx t v) ∧ (rpCp who gl P T G p cl).kind ((rpPM who P p gl).nx t v) = .run S (S.M.nx q v) af ∧ (∀ es, (rpCp who gl P T G p cl).cells ((rpPM who P p gl).nx t v) es = (rpCp who gl P T G p cl).cells t es) ∧ (∀ es w Le, (rpCp who gl P T G p cl).ext t es w Le → (rpCp who gl P T G p cl).ext ((rpPM who P p gl).nx t v) es w Le) ∧ (∀ es y, (rpCp who gl P T G p cl).tie t es y → (rpCp who gl P T G p cl).tie ((rpPM who P p gl).nx t v) es y) := by
  cases t with
  | acq d q =>
    cases hk
    have hl := rp_acq_live q hs
    have e : (rpPM who P p gl).nx (.acq d q) v = .acq d ((acqPM (wd 0 2 3 0 0) (wd 0 2 3 0 1) (wd 0 2 3 0 2) who).nx q v) := rp_acq_goes _ hl
    rw [e]
    exact ⟨⟨hok.1, hl⟩, rfl, fun _ => rfl, fun _ _ _ h => h, fun _ _ h => h⟩
  | que d q =>
    cases hk
    have e : (rpPM who P p gl).nx (.que d q) v = .que d ((qpPM gl d.all).nx q v) := if_pos hs
    rw [e]
    exact ⟨⟨hok.1, hs⟩, rfl, fun _ => rfl, fun _ _ _ h => h, fun _ _ h => h⟩
  | rel d r q =>
    cases q with
    | over => cases hk
    | fresh => cases hk; exact ⟨hok, rfl, fun _ => rfl, fun _ _ _ h => h, fun _ _ h => h⟩
    | pass => cases hk; cases hs
  | _ => cases hk

set_option maxHeartbeats 4000000 in
theorem rp_laws (hw : 0 ≤ who ∧ who ≤ 1000000) (hp : 0 ≤ P ∧ P ≤ 64) (hT : 0 ≤ T ∧ T ≤ 65536) (hG : 0 ≤ G ∧ G ≤ 65536) :
    (rpCp who (fun y => wd (20 + P * 264 + T * 3) G 2 y 1) P T G p cl).Laws (rpPM who P p (fun y => wd (20 + P * 264 + T * 3) G 2 y 1)) (Rd.lay cl P T G) who where
  c0 := fun t es nx => rp_c0
  c1 := fun t es nx => rp_c1
  set := fun t es nx nx' => rp_s1 _
  k0 := fun t hok hk => by
    cases t with
    | rel d r q => cases q <;> first | rfl | cases hk
    | over d => rfl
    | _ => cases hk
  k1 := fun t a f hok hk => by
    cases t with
    | acq d q => cases hk
    | que d q => cases hk
    | rel d r q => cases q <;> cases hk
    | over d => cases hk
    | nx d => cases hk; exact ⟨rfl, axLd_ok _, ent_rp1⟩
    | sn d => cases hk; exact ⟨rfl, axSw_ok _ _ _ (rpw_bd _), ent_rp2⟩
    | hd d => cases hk; exact ⟨rfl, axLd_ok _, ent_rp3⟩
    | tl d => cases hk; exact ⟨rfl, axLd_ok _, ent_rp4⟩
    | st d => cases hk; exact ⟨rfl, axSt_ok _ _ (rpw_bd _), ent_rp5⟩
    | ln d => cases hk; exact ⟨rfl, axSt_ok _ _ (by omega), ent_rp6⟩
    | gl d k => cases hk; exact ⟨rfl, axLd_ok _, ent_rp7⟩
    | sh d => cases hk; exact ⟨rfl, axSw_ok _ _ _ (by omega), ent_rp8⟩
  k2 := fun t S q af hok hk => by
    cases t with
    | acq d q => cases hk; exact ⟨rfl, rp_acq_some _ hok.2, ent_rp9, fun a => (acq_laws _ _ _ who hw).axok _ a trivial⟩
    | que d q => cases hk; exact ⟨rfl, hok.2, ent_rp10, fun a ha => qp_axok (fun y => wd (20 + P * 264 + T * 3) G 2 y 1) d.all (by rw [RpD.all_len hok.1]; omega) q a ha⟩
    | rel d r q => cases q <;> cases hk <;> exact ⟨rfl, rfl, trivial, fun a => (rel_laws _ _ who).axok _ a trivial⟩
    | _ => cases hk
  sub := fun t S q af hok hk => by
    cases t with
    | acq d q => cases hk; exact acqSub_ok _ _ _ who hw _
    | que d q => cases hk; exact ⟨qp_steps who P T G cl _ hp hT hG (by rw [RpD.all_len hok.1]; omega) stepby_qput, qp_good who P T G cl _ hp hT hG (by rw [RpD.all_len hok.1]; omega), act_qput, fun w h => h, fun k h => h⟩
    | rel d r q => cases q <;> cases hk <;> exact relSub_ok _ _ who _
    | _ => cases hk
  on := fun t S q af v hok hk hv hs => rp_on hok hk hs
  ekeep := fun t es w w' ll Le he hb hk => by
    cases t with
    | acq d q => exact ⟨he.1, (qp_good who P T G cl _ hp hT hG (by rw [RpD.all_len' he.1]; omega)).keep he.2 hb hk⟩
    | rel d r q => exact ⟨he.1, (qp_good who P T G cl _ hp hT hG (by rw [RpD.all_len' he.1]; omega)).keep he.2 hb hk⟩
    | _ => exact he
  elt := fun t es w Le he k hk => by
    cases t with
    | acq d q => exact (qp_good who P T G cl _ hp hT hG (by rw [RpD.all_len' he.1]; omega)).lt he.2 k hk
    | rel d r q => exact (qp_good who P T G cl _ hp hT hG (by rw [RpD.all_len' he.1]; omega)).lt he.2 k hk
    | _ => rw [show Le = [] from he] at hk; cases hk
  fol := fun W x t a f v es Le hok hk hv hB he hxe hR hxR => by
    have hlt := hB.lt
    have hcx : cl ≠ x := fun e => hxR (by rw [e]; exact List.mem_singleton.2 rfl)
    cases t with
    | acq d q => cases hk
    | que d q => cases hk
    | rel d r q => cases q <;> cases hk
    | over d => cases hk
    | nx d =>
      cases hk
      obtain rfl : Le = [] := he
      refine (rp_replace W x cl who p d.g P T G d.nt d.hd d.tl d.has _ none hB hR hp v hcx).mono ?_
      rintro e w' ⟨hu, hC⟩
      exact ⟨hu, rp_land_acc (t := .sn { d with nt := v }) (es := es) (Le' := []) hC ⟨hok.len, hv, hok.hd, hok.tl⟩ rfl hlt rfl (by simp) (fun k hk => by cases hk)⟩
    | sn d =>
      cases hk
      obtain rfl : Le = [] := he
      by_cases h0 : v = 0
      · have e : (rpPM who P p (fun y => wd (20 + P * 264 + T * 3) G 2 y 1)).nx (.sn d) v = .nx d := if_pos h0
        rw [e]
        refine folC_swap false (decide_eq_false (fun h => h h0)) ((rp_replaced_no W x cl who p d.g P T G d.nt d.hd d.tl d.has _ none hB hR hp).mono ?_)
        rintro e w' ⟨hu, hC⟩
        exact ⟨hu, rp_land_acc (t := .nx d) (es := es) (Le' := []) hC hok rfl hlt rfl (by simp) (fun k hk => by cases hk)⟩
      · by_cases h1 : d.nt = 0
        · have e : (rpPM who P p (fun y => wd (20 + P * 264 + T * 3) G 2 y 1)).nx (.sn d) v = .over { d with has := false } := (if_neg h0).trans (if_pos h1)
          rw [e]
          refine folC_swap true (decide_eq_true h0) ((rp_replaced_none W x cl who p d.g d.nt d.hd d.tl d.has _ none hB h1).mono ?_)
          rintro e w' ⟨hu, hb, hbu⟩
          exact ⟨hu, rp_land_over (t := .over { d with has := false }) (es := es) (Le' := []) hb hbu ⟨hok.len, hok.nt, hok.hd, hok.tl⟩ rfl rfl (by simp) (fun k hk => by cases hk)⟩
        · have e : (rpPM who P p (fun y => wd (20 + P * 264 + T * 3) G 2 y 1)).nx (.sn d) v = .hd { d with g := gw d.nt } := (if_neg h0).trans (if_neg h1)
          rw [e]
          refine folC_swap true (decide_eq_true h0) ((rp_replaced_some W x cl who p d.g P T G d.nt d.hd d.tl d.has _ none hB hR hp h1 hcx).mono ?_)
          rintro e w' ⟨hu, hC⟩
          exact ⟨hu, rp_land_acc (t := .hd { d with g := gw d.nt }) (es := es) (Le' := []) hC ⟨hok.len, hok.nt, hok.hd, hok.tl⟩ rfl hlt rfl (by simp) (fun k hk => by cases hk)⟩
    | hd d =>
      cases hk
      obtain rfl : Le = [] := he
      refine (rp_lookTail W x cl who p d.g P T G d.nt d.hd d.tl d.has _ none hB hR hp v hcx).mono ?_
      rintro e w' ⟨hu, hC⟩
      exact ⟨hu, rp_land_acc (t := .tl { d with hd := v }) (es := es) (Le' := []) hC ⟨hok.len, hok.nt, hv, hok.tl⟩ rfl hlt rfl (by simp) (fun k hk => by cases hk)⟩
    | tl d =>
      cases hk
      obtain rfl : Le = [] := he
      by_cases h0 : (v - d.hd) % 4294967296 < 256
      · have e : (rpPM who P p (fun y => wd (20 + P * 264 + T * 3) G 2 y 1)).nx (.tl d) v = .st { d with tl := v } := if_pos h0
        rw [e]
        refine (rp_choose_room W x cl who p d.g P T G d.nt d.hd d.tl d.has d.gv d.ld none none hB hR hp v hcx hv hok.hd h0).mono ?_
        rintro e w' ⟨hu, hC⟩
        exact ⟨hu, rp_land_acc (t := .st { d with tl := v }) (es := es) (Le' := []) hC ⟨hok.len, hok.nt, hok.hd, hv⟩ rfl hlt rfl (by simp) (fun k hk => by cases hk)⟩
      · have e : (rpPM who P p (fun y => wd (20 + P * 264 + T * 3) G 2 y 1)).nx (.tl d) v = .gl { d with tl := v, ld := 0 } 0 := if_neg h0
        rw [e]
        refine (rp_choose_full W x cl who p d.g P T G d.nt d.hd d.tl d.has d.gv d.ld none none hB hR hp v hcx hok.len hv hok.hd h0).mono ?_
        rintro e w' ⟨hu, hC⟩
        exact ⟨hu, rp_land_acc (t := .gl { d with tl := v, ld := 0 } 0) (es := es) (Le' := []) hC ⟨⟨hok.len, hok.nt, hok.hd, hv⟩, by omega, rfl⟩ rfl hlt rfl (by simp) (fun k hk => by cases hk)⟩
    | st d =>
      cases hk
      obtain rfl : Le = [] := he
      refine (rp_lengthen W x cl who p d.g P T G d.nt d.hd d.tl d.has d.gv d.ld none none hB hR hp hok.tl).mono ?_
      rintro e w' ⟨hu, hC⟩
      exact ⟨hu, rp_land_acc (t := .ln d) (es := es) (Le' := []) hC hok rfl hlt rfl (by simp) (fun k hk => by cases hk)⟩
    | ln d =>
      cases hk
      obtain rfl : Le = [] := he
      refine (rp_leave W x cl who p d.g d.nt d.hd d.tl d.has _ none hB).mono ?_
      rintro e w' ⟨hu, hb, hbu⟩
      exact ⟨hu, rp_land_over (t := .over { d with has := false }) (es := es) (Le' := []) hb hbu ⟨hok.len, hok.nt, hok.hd, hok.tl⟩ rfl rfl (by simp) (fun k hk => by cases hk)⟩
    | gl d k =>
      cases hk
      obtain rfl : Le = [] := he
      obtain ⟨ho, hk1, hld⟩ := hok
      have hB' : Blk W x (rpCells who none cl p d.g d.has d.nt d.hd d.tl (rpRest d.gv k none)) 249 := by rw [← hld]; exact hB
      by_cases h0 : k + 1 < 128
      · have e : (rpPM who P p (fun y => wd (20 + P * 264 + T * 3) G 2 y 1)).nx (.gl d k) v = .gl (d.take1 k v) (k + 1) := if_pos h0
        rw [e]
        refine (rp_keep_on W x cl who p d.g P T G d.nt d.hd d.tl d.has d.gv k none none hB' hR hp hk1 ho.len hcx v h0).mono ?_
        rintro e w' ⟨hu, hC⟩
        exact ⟨hu, rp_land_acc (t := .gl (d.take1 k v) (k + 1)) (es := es) (Le' := []) hC ⟨RpD.take1_ok ho k v, h0, rfl⟩ rfl hlt rfl (by simp) (fun k hk => by cases hk)⟩
      · have e : (rpPM who P p (fun y => wd (20 + P * 264 + T * 3) G 2 y 1)).nx (.gl d k) v = .sh (d.take1 k v) := if_neg h0
        rw [e]
        refine (rp_keep_all W x cl who p d.g P T G d.nt d.hd d.tl d.has d.gv k none none hB' hR hp hk1 ho.len hcx v ho.hd (by omega)).mono ?_
        rintro e w' ⟨hu, hC⟩
        exact ⟨hu, rp_land_acc (t := .sh (d.take1 k v)) (es := es) (Le' := []) hC ⟨RpD.take1_ok ho k v, by show ((k + 1 : Nat) : Int) = 128; omega⟩ rfl hlt rfl (by simp) (fun k hk => by cases hk)⟩
    | sh d =>
      cases hk
      obtain rfl : Le = [] := he
      by_cases h0 : v = 0
      · have e : (rpPM who P p (fun y => wd (20 + P * 264 + T * 3) G 2 y 1)).nx (.sh d) v = .hd d := if_pos h0
        rw [e]
        refine folC_swap false (decide_eq_false (fun h => h h0)) ((rp_take_no W x cl who p d.g P T G d.nt d.hd d.tl d.has _ none hB hR hp).mono ?_)
        rintro e w' ⟨hu, hC⟩
        exact ⟨hu, rp_land_acc (t := .hd d) (es := es) (Le' := []) hC hok.1 rfl hlt rfl (by simp) (fun k hk => by cases hk)⟩
      · have e : (rpPM who P p (fun y => wd (20 + P * 264 + T * 3) G 2 y 1)).nx (.sh d) v = .acq d .fresh := if_neg h0
        rw [e]
        have hall := RpD.all_len hok.1
        refine folC_swap true (decide_eq_true h0) ((rp_take_yes W x cl who p d.g P T G d.nt d.hd d.tl d.has d.gv d.ld none none (fun w y L => qpI who cl (fun y => wd (20 + P * 264 + T * 3) G 2 y 1) d.all w y (.ch 0) L) hB hok.1.len hR hcx (fun a b y L h hb hx => qp_keep1 hp hT hG (by rw [hall]; omega) h hb hx) (fun Y v hY hs => ?_)).mono ?_)
        · refine (qp_new_some Y cl who P T G v d.all hs (by rw [hall]; omega) (by rw [hall]; omega) hY hp hT hG).mono ?_
          rintro e w' ⟨y, L, rfl, h1, h2, h3, h4⟩
          exact ⟨y, L, rfl, h1, h2, h3, (qp_good who P T G cl d.all hp hT hG (by rw [hall]; omega)).lt h1, h4⟩
        · rintro e w' ⟨hu, y, L, x2, q2, q, b, hC, hq, hM, f1, f2, f3, f4, f5⟩
          have o1 := hM.o1
          exact ⟨hu, rp_land_run (S := acqSub (wd 0 2 3 0 0) (wd 0 2 3 0 1) (wd 0 2 3 0 2) who) (t := .acq d .fresh) (es := [y]) (pt := AcqT.fresh) (af := .fn 280) (Le' := L) hC (acqSub_at hM) (by simp; omega) (fun k hk => .inr (by simp at hk; omega)) (by simp; omega) (by simp; omega) ⟨hok.1, trivial⟩ rfl trivial hlt ⟨hok.1.len, hq⟩ (fun hm => by have := f1 x hm; omega) (fun k hk hm => by have := f1 k hm; simp at hk; omega) ⟨fun hm => by have := f1 q hm; omega, fun hm => by have := f1 b hm; omega⟩ (fun k hk => .inr (f1 k hk).1)⟩
  aft := fun W x y t S q af v es Le Li hok hk hv hn hB hin hty he hxe hxi hd hR hxR => by
    have hlt := hB.lt
    cases t with
    | acq d q =>
      cases hk
      have e : (rpPM who P p (fun y => wd (20 + P * 264 + T * 3) G 2 y 1)).nx (.acq d q) v = .que d (.ch 0) := rp_acq_over _ hn
      rw [e]
      have hall := RpD.all_len hok.1
      have hgd := qp_good who P T G cl d.all hp hT hG (by rw [hall]; omega)
      have hq : qpI who cl (fun y => wd (20 + P * 264 + T * 3) G 2 y 1) d.all W (es.getD 0 0) (.ch 0) Le := he.2
      obtain ⟨nx, hc1, hnx⟩ := hgd.next hq
      cases nx with
      | none => cases hnx
      | some a =>
        refine (rp_move W x cl who p d.g d.nt d.hd d.tl d.has d.gv d.ld (es.getD 0 0) none a hB hok.1.len (fun h => hxe (h ▸ hgd.mem hq)) hc1).mono ?_
        rintro e w' ⟨hu, q1, b, hC⟩
        have hlq := hgd.lt hq
        have fq := hC.at'.fresh
        have fb := hC.fresh
        exact ⟨hu, rp_land_run (S := qpSub who (fun y => wd (20 + P * 264 + T * 3) G 2 y 1) cl P T G d.all) (t := .que d (.ch 0)) (es := es) (pt := QpT.ch 0) (af := .fn 292) (L := Le) (Le' := []) hC (qp_keep1 hp hT hG (by rw [hall]; omega) hq hC.at'.but hxe) hxe (fun k hk => .inl (List.mem_append_right _ hk)) (fun hm => by have := hlq q1 hm; omega) (fun hm => by have := hlq b hm; omega) ⟨hok.1, rfl⟩ rfl rfl hlt rfl (by simp) (by simp) (by simp) (fun k hk => by cases hk)⟩
    | que d q =>
      cases hk
      obtain rfl : Le = [] := he
      have hall := RpD.all_len hok.1
      have hgd := qp_good who P T G cl d.all hp hT hG (by rw [hall]; omega)
      have e : (rpPM who P p (fun y => wd (20 + P * 264 + T * 3) G 2 y 1)).nx (.que d q) v = .rel d ((qpPM (fun y => wd (20 + P * 264 + T * 3) G 2 y 1) d.all).nx q v) .fresh := if_neg (by rw [show (qpPM (fun y => wd (20 + P * 264 + T * 3) G 2 y 1) d.all).ax ((qpPM (fun y => wd (20 + P * 264 + T * 3) G 2 y 1) d.all).nx q v) = none from hn]; simp)
      rw [e]
      obtain rfl : es.getD 0 0 = y := hty
      have hlq := hgd.lt hin
      refine (rp_release W x cl who p d.g d.nt d.hd d.tl d.has d.gv d.ld none _ hB hok.1.len).mono ?_
      rintro e w' ⟨hu, x2, q2, g2, q1, b, hC, hM, f1, f2, f3, f4, f5⟩
      have o1 := hM.o1
      have o2 := hM.o2
      have fq := hC.at'.fresh
      have fb := hC.fresh
      exact ⟨hu, rp_land_run (S := relSub (wd 0 2 3 0 1) (wd 0 2 3 0 2) who) (t := .rel d ((qpPM (fun y => wd (20 + P * 264 + T * 3) G 2 y 1) d.all).nx q v) .fresh) (es := es) (pt := RelT.fresh) (af := .nil) (Le' := Li) hC (relSub_at hM) (by simp; omega) (fun k hk => .inr (by simp at hk; omega)) (by simp; omega) (by simp; omega) hok.1 rfl trivial hlt ⟨hok.1.len, qp_keep1 hp hT hG (by rw [hall]; omega) hin hC.at'.but hxi⟩ hxi (fun k hk hm => by have := hlq k hm; simp at hk; omega) ⟨fun hm => by have := hlq q1 hm; omega, fun hm => by have := hlq b hm; omega⟩ (fun k hk => .inl (List.mem_append_left _ hk))⟩
    | rel d r q =>
      cases q with
      | over => cases hk
      | fresh => cases hk; cases hn
      | pass =>
        cases hk
        exact rp_land_over (t := .rel d r .over) (es := es) (Le' := Le) hB (But.refl _ _) hok rfl he hxe (fun k hk => List.mem_append_right _ hk)
    | _ => cases hk
end
end Go.Proofs.YtfdpikkinlljlaaGreat

namespace Go.Proofs.YtfdpikkinlljlaaGreat
open Go Go.RowKit
set_option linter.unusedVariables false
set_option maxRecDepth 100000
set_option linter.unusedSimpArgs false

section
variable (w : World) (x cl : Nat) (who p g nt hd tl : Int) (gv : List Int) (ld : Int) (nx : Option Addr)
theorem rp_holds_no (qu : Option Addr) (hB : Blk w x (rpCells who nx cl p g false nt hd tl (rpRest gv ld qu)) 249) :
    Calls Tryz.prog 178 #[.pointer (some ⟨x, 0, none⟩)] w fun e w' => ∃ v, e = .returned v ∧ SeesL w' v [] ∧ Below w.heap.size w w' := by
  have c5 := hB.cell 5 rp_c5
  clear hB
  go_enter Tryz.func178, Tryz.ntmps178
  go_wp2_with fail
  go_ret
  exact ⟨_, rfl, ⟨none, 0, rfl, fun _ => ⟨rfl, rfl⟩, fun h => absurd h (by simp)⟩, Below.refl _ _⟩
theorem rp_holds_one (hB : Blk w x (rpCells who nx cl p g true nt hd tl (rpRest gv ld none)) 249) (hg : gv.length = 128) :
    Calls Tryz.prog 178 #[.pointer (some ⟨x, 0, none⟩)] w fun e w' => ∃ v, e = .returned v ∧ SeesL w' v [g] ∧ Below w.heap.size w w' := by
  have c5 := hB.cell 5 rp_c5
  have c4 := hB.cell 4 rp_c4
  have c138 := hB.cell 138 (rp_c138 hg)
  clear hB
  go_enter Tryz.func178, Tryz.ntmps178
  go_wp2_with fail
  go_ret
  have hb := (Below.refl w.heap.size w).alloc (Nat.le_refl _) (.cells #[.int .i64 g] 3)
  refine ⟨_, rfl, ⟨some ⟨w.heap.size, 0, none⟩, 1, rfl, (fun h => by cases h), fun _ => ⟨w.heap.size, 0, rfl, by rw [World.size_alloc]; omega, fun j hj => ?_⟩⟩, hb⟩
  have hB := Blk.new w #[.int .i64 g] 3
  simp at hj
  subst hj
  exact hB.cell 0 rfl
theorem rp_holds_many (y : Nat) (l : List Int) (hB : Blk w x (rpCells who nx cl p g true nt hd tl (rpRest gv ld (some ⟨y, 0, none⟩))) 249) (hg : gv.length = 128)
    (hH : Calls Tryz.prog 145 #[.pointer (some ⟨y, 0, none⟩)] w fun e w' => ∃ v, e = .returned v ∧ IntsOn w' w.heap.size v l ∧ Below w.heap.size w w') :
    Calls Tryz.prog 178 #[.pointer (some ⟨x, 0, none⟩)] w fun e w' => ∃ v, e = .returned v ∧ SeesL w' v l ∧ Below w.heap.size w w' := by
  have c5 := hB.cell 5 rp_c5
  have c138 := hB.cell 138 (rp_c138 hg)
  clear hB
  go_enter Tryz.func178, Tryz.ntmps178
  go_wp2_with fail
  go_at_call 145; refine hH.mono ?_; rintro e w1 ⟨v, rfl, h1, h2⟩
  clear hH c5 c138
  go_wp2_with fail
  go_ret
  exact ⟨_, rfl, h1.sees, h2⟩
end
theorem rp_blk {who P T G p : Int} {cl : Nat} {gl : Int → Int} {w : World} {x : Nat} {t : RpT} {es Le L : List Nat} (h : (rpCp who gl P T G p cl).Here w x t es Le L ((rpCp who gl P T G p cl).kind t)) : ∃ nx, Blk w x (rpAt who p cl t es nx) 249 := by
  cases hk : (rpCp who gl P T G p cl).kind t with
  | over => rw [hk] at h; exact ⟨none, h.1⟩
  | acc a f => rw [hk] at h; obtain ⟨q, Lc, h1, -⟩ := h; exact ⟨_, h1⟩
  | run S q af => rw [hk] at h; obtain ⟨q1, y, g, Li, h1, -⟩ := h; exact ⟨_, h1.hx⟩
theorem rp_holds_few (w : World) (x cl : Nat) (who p : Int) (d : RpD) (nx : Option Addr) (hB : Blk w x (rpCells who nx cl p d.g d.has d.nt d.hd d.tl (rpRest d.gv d.ld none)) 249) (hg : d.gv.length = 128) :
    Calls Tryz.prog 178 #[.pointer (some ⟨x, 0, none⟩)] w fun e w' => ∃ v, e = .returned v ∧ SeesL w' v (if d.has = true then [d.g] else []) ∧ Below w.heap.size w w' := by
  cases hh : d.has with
  | true => rw [hh] at hB; exact rp_holds_one w x cl who p d.g d.nt d.hd d.tl d.gv d.ld nx hB hg
  | false => rw [hh] at hB; exact rp_holds_no w x cl who p d.g d.nt d.hd d.tl d.gv d.ld nx _ hB
theorem rp_holds_queue (w : World) (x y cl : Nat) (who p : Int) (gl : Int → Int) (d : RpD) (q : QpT) (L : List Nat) (nx : Option Addr) (hB : Blk w x (rpCells who nx cl p d.g d.has d.nt d.hd d.tl (rpRest d.gv d.ld (some ⟨y, 0, none⟩))) 249) (hg : d.gv.length = 128) (hq : qpI who cl gl d.all w y q L) :
    Calls Tryz.prog 178 #[.pointer (some ⟨x, 0, none⟩)] w fun e w' => ∃ v, e = .returned v ∧ SeesL w' v (if d.has = true then (if q.lies = true then [] else d.all) else []) ∧ Below w.heap.size w w' := by
  have hn : d.all.length ≤ 1000000 := by have := RpD.all_len' hg; omega
  have hH := qp_holds hq hn
  cases hh : d.has with
  | true => rw [hh] at hB; exact rp_holds_many w x cl who p d.g d.nt d.hd d.tl d.gv d.ld nx y _ hB hg hH
  | false => rw [hh] at hB; exact rp_holds_no w x cl who p d.g d.nt d.hd d.tl d.gv d.ld nx _ hB
/-- What it holds. -/
theorem rp_holds {who P T G p : Int} {gl : Int → Int} {cl : Nat} {w : World} {x : Nat} {t : RpT} {L : List Nat} (h : (rpCp who gl P T G p cl).I w x t L) :
    Calls Tryz.prog 178 #[.pointer (some ⟨x, 0, none⟩)] w fun e w' => ∃ v, e = .returned v ∧ SeesL w' v t.holds ∧ Below w.heap.size w w' := by
  have hok := h.1
  obtain ⟨-, es, Le, he, hxe, hH⟩ := h
  obtain ⟨nx, hB⟩ := rp_blk hH
  cases t with
  | acq d q => exact rp_holds_queue w x (es.getD 0 0) cl who p gl d (.ch 0) Le nx hB hok.1.len he.2
  | que d q =>
    obtain ⟨q1, y, g, Li, h1, h2, h3, -⟩ := hH
    obtain rfl : es.getD 0 0 = y := h3
    exact rp_holds_queue w x (es.getD 0 0) cl who p gl d q Li nx hB hok.1.len h2
  | rel d q r => exact rp_holds_queue w x (es.getD 0 0) cl who p gl d q Le nx hB he.1 he.2
  | gl d k => exact rp_holds_few w x cl who p d nx hB hok.1.len
  | sh d => exact rp_holds_few w x cl who p d nx hB hok.1.len
  | nx d => exact rp_holds_few w x cl who p d nx hB hok.len
  | sn d => exact rp_holds_few w x cl who p d nx hB hok.len
  | hd d => exact rp_holds_few w x cl who p d nx hB hok.len
  | tl d => exact rp_holds_few w x cl who p d nx hB hok.len
  | st d => exact rp_holds_few w x cl who p d nx hB hok.len
  | ln d => exact rp_holds_few w x cl who p d nx hB hok.len
  | over d => exact rp_holds_few w x cl who p d nx hB hok.len
/-- How many it moved. -/
def RpT.moved (t : RpT) : Int := if t.full = true then 129 else 0
/-- Its beginning. -/
def rpD0 (g : Int) : RpD := ⟨g, true, 0, 0, 0, List.replicate 128 0, 0⟩
def rpStart (g : Int) (nxt : Bool) : RpT := if nxt = true then .nx (rpD0 g) else .hd (rpD0 g)
theorem rpD0_ok (g : Int) : (rpD0 g).Ok := ⟨by simp [rpD0], by constructor <;> simp [rpD0], by constructor <;> simp [rpD0], by constructor <;> simp [rpD0]⟩
theorem rp_new_at (w : World) (cl : Nat) (who p g P T G : Int) (gl : Int → Int) (nxt : Bool) (hl : Lay w cl P T G) (hP : 0 ≤ P ∧ P ≤ 64) :
    Calls Tryz.prog 177 #[.pointer (some ⟨cl, 0, none⟩), .int .i64 who, .int .i64 p, .int .i64 g, .bool nxt] w fun e w' => ∃ x L, e = .returned (.pointer (some ⟨x, 0, none⟩)) ∧ (rpCp who gl P T G p cl).I w' x (rpStart g nxt) L ∧ Below w.heap.size w w' ∧ (∀ k ∈ L, w.heap.size ≤ k) ∧ w.heap.size ≤ x := by
  refine (rp_new_step w cl who p g P T G nxt hl hP).mono ?_
  rintro e w' ⟨x, q, Lc, rfl, h1, h2, h3, h4, h5, h6⟩
  cases nxt with
  | true =>
    refine ⟨x, x :: (Lc ++ []), rfl, ⟨rpD0_ok g, [], [], rfl, by simp, q, Lc, h1, h2, h3, (fun k _ h => by cases h), rfl⟩, h4, ?_, h6⟩
    intro k hk; simp at hk; rcases hk with rfl | hk
    · exact h6
    · exact h5 k hk
  | false =>
    refine ⟨x, x :: (Lc ++ []), rfl, ⟨rpD0_ok g, [], [], rfl, by simp, q, Lc, h1, h2, h3, (fun k _ h => by cases h), rfl⟩, h4, ?_, h6⟩
    intro k hk; simp at hk; rcases hk with rfl | hk
    · exact h6
    · exact h5 k hk
end Go.Proofs.YtfdpikkinlljlaaGreat

namespace Go.Proofs.YtfdpikkinlljlaaGreat
open Go Go.RowKit
set_option linter.unusedVariables false
set_option maxRecDepth 100000
set_option linter.unusedSimpArgs false

def rpQue (d : RpD) : QpT → RpT
  | .over => .rel d .over .fresh
  | .done0 => .rel d .done0 .fresh
  | q => .que d q
def rpAcq (d : RpD) (p : AcqT) : RpT := p.goes (.acq d) (.que d (.ch 0))
/-- Where a slow put stopped, and what it holds there. -/
def RpQ (Q : RpT → Prop) (d : RpD) (held : List Int) (r : RpT) : Prop := (Q r ∧ held = d.all) ∨ (r.d = d ∧ r.full = true ∧ (d.has = true → held = r.holds))
theorem rpQue_live {d : RpD} : ∀ {q : QpT}, q.live = true → rpQue d q = .que d q
  | .ch _, _ => rfl
  | .ld, _ => rfl
  | .pt _, _ => rfl
  | .tr, _ => rfl
  | .ct, _ => rfl
theorem rpQue_over {d : RpD} : ∀ {q : QpT}, q.live = false → rpQue d q = .rel d q .fresh
  | .over, _ => rfl
  | .done0, _ => rfl
theorem sees_far {w : World} {A : Option Addr} {cap n : Nat} {l : List Int} (h : SeesL w (.slice A n cap) l) (hl : 0 < l.length → l.length = 129) {k : Nat} {cs : Array Value} {T : TypeId} (hB : Blk w k cs T) (hc : cs.size ≤ 100) (h0 : 0 < l.length) : ∀ b off : Nat, A = some ⟨b, off, none⟩ → b ≠ k := by
  rintro b off rfl rfl
  obtain ⟨A', c', e', -, h2⟩ := h
  injection e' with ea eb ec
  subst ea
  obtain ⟨b', off', e3, -, h4⟩ := h2 h0
  cases e3
  have h6 := h4 128 (by have := hl h0; omega)
  simp only [World.cell?, hB.heap] at h6
  rw [Array.getElem?_eq_none (by omega)] at h6
  cases h6
theorem SeesL.but2 {w w' : World} {A : Option Addr} {n cap k : Nat} {l : List Int} (h : SeesL w (.slice A n cap) l) (hB : But [k] w w') (hx : 0 < l.length → ∀ b off : Nat, A = some ⟨b, off, none⟩ → b ≠ k) : SeesL w' (.slice A n cap) l := by
  by_cases h0 : 0 < l.length
  · exact h.but hB (hx h0)
  · obtain ⟨A', c', e', h1, h2⟩ := h
    exact ⟨A', c', e', h1, fun h => absurd h h0⟩
theorem SeesL.but1 {w w' : World} {A : Option Addr} {n cap k : Nat} {l : List Int} (h : SeesL w (.slice A n cap) l) (hB : But [k] w w') (hx : ∀ b off : Nat, A = some ⟨b, off, none⟩ → b ≠ k) : SeesL w' (.slice A n cap) l := h.but hB hx
theorem But.low {w w1 w2 : World} {x k : Nat} (h : But [x] w w1) (h2 : But [k] w1 w2) (hk : w.heap.size ≤ k) : But [x] w w2 :=
  ⟨h2.os.trans h.os, h2.tape.trans h.tape, h2.output.trans h.output, Nat.le_trans h.size h2.size, fun i hi hc => (h2.block i (Nat.lt_of_lt_of_le hi h.size) (by simp; omega)).trans (h.block i hi hc)⟩
end Go.Proofs.YtfdpikkinlljlaaGreat

namespace Go.Proofs.YtfdpikkinlljlaaGreat
open Go Go.RowKit
set_option linter.unusedVariables false
set_option maxRecDepth 100000
set_option linter.unusedSimpArgs false

/-- What was loaded is told back as it was. -/
theorem rpw_gw (v : Int) (hv : 0 ≤ v ∧ v ≤ 18446744073709551615) : rpw (gw v) = v := by
  rw [← gw_eq v hv]
  unfold rpw
  simp [IntKind.wrap, IntKind.bits, IntKind.signed, wrap64]
  repeat' split
  all_goals omega
theorem rp_steps {who P T G p : Int} {cl : Nat} (hw : 0 ≤ who ∧ who ≤ 1000000) (hp : 0 ≤ P ∧ P ≤ 64) (hT : 0 ≤ T ∧ T ≤ 65536) (hG : 0 ≤ G ∧ G ≤ 65536) :
    Steps (rpPM who P p (fun y => wd (20 + P * 264 + T * 3) G 2 y 1)) (rpCp who (fun y => wd (20 + P * 264 + T * 3) G 2 y 1) P T G p cl).I (Rd.lay cl P T G) 350 who :=
  Cp.steps (rp_laws hw hp hT hG) stepby_rput
theorem rp_good {who P T G p : Int} {cl : Nat} (hw : 0 ≤ who ∧ who ≤ 1000000) (hp : 0 ≤ P ∧ P ≤ 64) (hT : 0 ≤ T ∧ T ≤ 65536) (hG : 0 ≤ G ∧ G ≤ 65536) :
    (rpCp who (fun y => wd (20 + P * 264 + T * 3) G 2 y 1) P T G p cl).I.Good (rpPM who P p (fun y => wd (20 + P * 264 + T * 3) G 2 y 1)) :=
  Cp.good (rp_laws hw hp hT hG)
end Go.Proofs.YtfdpikkinlljlaaGreat
