/- Machines of stage 10: their Step and Done ask their flow. -/
import Derived.Test.YtcjidigpdecdlaaGreatSIE
import Derived.Test.YtcjidigpdecdlaaGreatLkFl
import Derived.Deep.RegionHeld3
import Derived.Test.YtcjidigpdecdlaaGreatSIB
import Derived.Test.YtcjidigpdecdlaaGreatSIC
import Derived.Test.YtcjidigpdecdlaaGreatRun_qput
import Derived.Test.YtcjidigpdecdlaaGreatRM3
import Derived.Test.YtcjidigpdecdlaaGreatSIA
import Derived.Test.YtcjidigpdecdlaaGreatLay
import Derived.Test.YtcjidigpdecdlaaGreatRunD
namespace Go.Proofs.YtcjidigpdecdlaaGreat
open Go Go.RowKit
set_option linter.unusedVariables false
set_option maxRecDepth 100000
set_option linter.unusedSimpArgs false

def Rd.row (g cap : Nat) (l : List Int) : Rd := ⟨[g], fun w => RowAt w g cap l, fun w w' lb h hb hk => h.but hb (hk g (by simp))⟩
inductive QpT where
  | ch (k : Nat)
  | ld
  | pt (t : Int)
  | tr
  | ct
  | over
  | done0
def qpPM (gl : Int → Int) (l : List Int) : PM QpT where
  ax := fun
    | .ch k => some (axSt (gl (l.getD k 0)) (if k + 1 < l.length then qwd (l.getD (k + 1) 0) else 0))
    | .ld => some (axLd 7)
    | .pt t => some (axSt (if t = 0 then 6 else gl (gw t)) (qwd (l.getD 0 0)))
    | .tr => some (axSt 7 (qwd (l.getD (l.length - 1) 0)))
    | .ct => some (axAd 8 l.length)
    | .over => none
    | .done0 => none
  nx := fun
    | .ch k, _ => if k + 1 < l.length then .ch (k + 1) else .ld
    | .ld, v => .pt v
    | .pt _, _ => .tr
    | .tr, _ => .ct
    | .ct, _ => .over
    | t, _ => t
def QpT.linked (n : Nat) : QpT → Nat
  | .ch k => k + 1
  | .done0 => 0
  | _ => n
def QpT.lies : QpT → Bool
  | .tr => true
  | .ct => true
  | .over => true
  | _ => false
def qpFl (who : Int) (cl : Nat) (sl : Value) (l : List Int) : Fl QpT where
  T := 268
  cells := fun t nx => qpCells who nx cl sl (t.linked l.length) t.lies
  fol := fun
    | .ch _ => .untold 217
    | .ld => .told 239
    | .pt _ => .untold 260
    | .tr => .untold 272
    | _ => .nil
  ok := fun
    | .ch k => k < l.length
    | _ => True
theorem ent_qp1 : Ent 217 := fun args w => by kernel_rfl
theorem ent_qp2 : Ent 239 := fun args w => by kernel_rfl
theorem ent_qp3 : Ent 260 := fun args w => by kernel_rfl
theorem ent_qp4 : Ent 272 := fun args w => by kernel_rfl
theorem getD_bd {l : List Int} (hb : ∀ y ∈ l, 0 ≤ y ∧ y ≤ 1000000) (j : Nat) : 0 ≤ l.getD j 0 ∧ l.getD j 0 ≤ 1000000 := by
  rw [List.getD_eq_getElem?_getD]
  rcases Nat.lt_or_ge j l.length with h | h
  · rw [List.getElem?_eq_getElem h]; exact hb _ (List.getElem_mem _)
  · rw [List.getElem?_eq_none h]; exact ⟨Int.le_refl _, by decide⟩
section
variable (who P T G : Int) (cl g cap : Nat) (l : List Int) (hp : 0 ≤ P ∧ P ≤ 64) (hT : 0 ≤ T ∧ T ≤ 65536) (hG : 0 ≤ G ∧ G ≤ 65536) (h0 : 0 < l.length) (hn : l.length ≤ 1000000)
include hp hT hG h0 hn
theorem qp_laws : (qpFl who cl (.slice (some ⟨g, 0, none⟩) l.length cap) l).Laws (qpPM (fun y => wd (20 + P * 264 + T * 3) G 2 y 1) l) ((Rd.lay cl P T G).and (Rd.row g cap l)) who where
  c0 := fun t nx => rfl
  c1 := fun t nx => rfl
  set := fun t nx nx' => rfl
  axok := fun t a hok h => by
    cases t with
    | ch k =>
      cases h
      have := qwd_bd (l.getD (k + 1) 0)
      refine axSt_ok _ _ ?_
      by_cases hk : k + 1 < l.length
      · rw [if_pos hk]; omega
      · rw [if_neg hk]; omega
    | ld => cases h; exact axLd_ok _
    | pt t => cases h; exact axSt_ok _ _ (qwd_bd _)
    | tr => cases h; exact axSt_ok _ _ (qwd_bd _)
    | ct => cases h; exact axAd_ok _ _ (by omega)
    | over => cases h
    | done0 => cases h
  ents := fun t a h => by
    cases t with
    | ch k => exact ent_qp1
    | ld => exact ent_qp2
    | pt t => exact ent_qp3
    | tr => exact ent_qp4
    | ct => exact trivial
    | over => exact trivial
    | done0 => exact trivial
  ok := fun t a v hok h hv => by
    cases t with
    | ch k => by_cases hk : k + 1 < l.length <;> simp [qpPM, qpFl, hk]
    | ld => exact trivial
    | pt t => exact trivial
    | tr => exact trivial
    | ct => exact trivial
    | over => exact trivial
    | done0 => exact trivial
  fol := fun W x t a v hok h hv hB hR hxR => by
    obtain ⟨hR1, hR2⟩ := hR
    have hcx : cl ≠ x := fun e => hxR (by rw [← e]; exact List.mem_append_left _ (List.mem_singleton.2 rfl))
    have hgx : g ≠ x := fun e => hxR (by rw [← e]; exact List.mem_append_right _ (List.mem_singleton.2 rfl))
    cases t with
    | ch k =>
      cases h
      by_cases hk : k + 1 < l.length
      · have e : (qpPM (fun y => wd (20 + P * 264 + T * 3) G 2 y 1) l).nx (.ch k) v = .ch (k + 1) := if_pos hk
        rw [e]
        by_cases hk2 : k + 1 + 1 < l.length
        · have H := qput_chain_more W x cl g cap who l none (k + 1) P T G false hB hR2 hgx hk2 hn hR1 hcx hp hT hG.2
          have e2 : (qpPM (fun y => wd (20 + P * 264 + T * 3) G 2 y 1) l).ax (.ch (k + 1)) = some (axSt (wd (20 + P * 264 + T * 3) G 2 (l.getD (k + 1) 0) 1) (qwd (l.getD (k + 1 + 1) 0))) := by
            show some (axSt _ (if k + 1 + 1 < l.length then _ else _)) = _
            rw [if_pos hk2]
          refine H.mono ?_
          rintro e' w' ⟨hu, hC⟩
          refine ⟨hu, ?_⟩
          unfold Fl.Landed
          rw [e2]
          exact hC
        · have H := qput_chain_last W x cl g cap who l none (k + 1) P T G false hB hR2 hgx (by omega) hn hR1 hcx hp hT hG.2
          have e2 : (qpPM (fun y => wd (20 + P * 264 + T * 3) G 2 y 1) l).ax (.ch (k + 1)) = some (axSt (wd (20 + P * 264 + T * 3) G 2 (l.getD (k + 1) 0) 1) 0) := by
            show some (axSt _ (if k + 1 + 1 < l.length then _ else _)) = _
            rw [if_neg hk2]
          refine H.mono ?_
          rintro e' w' ⟨hu, hC⟩
          refine ⟨hu, ?_⟩
          unfold Fl.Landed
          rw [e2]
          exact hC
      · have e : (qpPM (fun y => wd (20 + P * 264 + T * 3) G 2 y 1) l).nx (.ch k) v = .ld := if_neg hk
        have hkn : k + 1 = l.length := by have : k < l.length := hok; omega
        rw [e]
        have hB' : Blk W x (qpCells who none cl (.slice (some ⟨g, 0, none⟩) l.length cap) l.length false) 268 := by
          have hB1 : Blk W x (qpCells who none cl (.slice (some ⟨g, 0, none⟩) l.length cap) ((k + 1 : Nat) : Int) false) 268 := hB
          rw [hkn] at hB1
          exact hB1
        exact qput_chain_end W x cl g cap who l none false hB' hn
    | ld =>
      cases h
      by_cases hv0 : v = 0
      · subst hv0
        exact qput_lead_none W x cl g cap who l none l.length false hB hR2 h0 hn
      · have H := qput_lead_some W x cl g cap who l none l.length v P T G false hB hR2 h0 hn hv0 hR1 hp hT hG.2
        have e2 : (qpPM (fun y => wd (20 + P * 264 + T * 3) G 2 y 1) l).ax (.pt v) = some (axSt (wd (20 + P * 264 + T * 3) G 2 (gw v) 1) (qwd (l.getD 0 0))) := by
          show some (axSt (if v = 0 then _ else _) _) = _
          rw [if_neg hv0]
        refine H.mono ?_
        rintro e' w' ⟨hu, hC⟩
        refine ⟨hu, ?_⟩
        show Fl.Landed _ _ _ _ _ (QpT.pt v)
        unfold Fl.Landed
        rw [e2]
        exact hC
    | pt t => cases h; exact qput_trail W x cl g cap who l none l.length false hB hR2 hgx h0 hn
    | tr => cases h; exact qput_tell W x cl g cap who l none l.length true hB hn
    | ct => cases h; exact ⟨hB, But.refl _ _⟩
    | over => cases h
    | done0 => cases h
end

/-- How a machine that puts goroutines behind lies in memory: its row is its own. -/
def qpI (who : Int) (cl : Nat) (gl : Int → Int) (l : List Int) : MI QpT := fun w x t L =>
  (0 < l.length ∧ ∃ g cap L', L = g :: L' ∧ g ∉ L' ∧ RowAt w g cap l ∧ (qpFl who cl (.slice (some ⟨g, 0, none⟩) l.length cap) l).I (qpPM gl l) w x t L') ∨
  (l = [] ∧ t = .done0 ∧ ∃ A cap, (A = none → cap = 0) ∧ (qpFl who cl (.slice A 0 cap) []).I (qpPM gl []) w x .done0 L)
theorem qp_good (who P T G : Int) (cl : Nat) (l : List Int) (hp : 0 ≤ P ∧ P ≤ 64) (hT : 0 ≤ T ∧ T ≤ 65536) (hG : 0 ≤ G ∧ G ≤ 65536) (hn : l.length ≤ 1000000) : (qpI who cl (fun y => wd (20 + P * 264 + T * 3) G 2 y 1) l).Good (qpPM (fun y => wd (20 + P * 264 + T * 3) G 2 y 1) l) where
  keep := by
    rintro w w' x t L lb (⟨h0, g, cap, L', rfl, hg, hr, h⟩ | ⟨rfl, rfl, A, cap, ha, h⟩) hbt hk
    · exact .inl ⟨h0, g, cap, L', rfl, hg, hr.but hbt (hk g (by simp)), (Fl.good (qp_laws who P T G cl g cap l hp hT hG h0 hn)).keep h hbt (fun k hm => hk k (by simp [hm]))⟩
    · rw [Fl.at_none rfl] at h
      obtain ⟨h1, h2, rfl⟩ := h
      refine .inr ⟨rfl, rfl, A, cap, ha, ?_⟩
      rw [Fl.at_none rfl]
      exact ⟨h1, h2.but hbt (hk x (by simp)), rfl⟩
  lt := by
    rintro w x t L (⟨h0, g, cap, L', rfl, hg, hr, h⟩ | ⟨rfl, rfl, A, cap, ha, h⟩) k hk
    · simp at hk
      rcases hk with rfl | hk
      · exact hr.lt
      · exact (Fl.good (qp_laws who P T G cl g cap l hp hT hG h0 hn)).lt h k hk
    · rw [Fl.at_none rfl] at h
      obtain ⟨h1, h2, rfl⟩ := h
      simp at hk; subst hk; exact h2.lt
  mem := by
    rintro w x t L (⟨h0, g, cap, L', rfl, hg, hr, h⟩ | ⟨rfl, rfl, A, cap, ha, h⟩)
    · exact List.mem_cons_of_mem _ ((Fl.good (qp_laws who P T G cl g cap l hp hT hG h0 hn)).mem h)
    · rw [Fl.at_none rfl] at h
      obtain ⟨h1, h2, rfl⟩ := h
      simp
  next := by
    rintro w x t L (⟨h0, g, cap, L', rfl, hg, hr, h⟩ | ⟨rfl, rfl, A, cap, ha, h⟩)
    · exact (Fl.good (qp_laws who P T G cl g cap l hp hT hG h0 hn)).next h
    · rw [Fl.at_none rfl] at h
      obtain ⟨h1, h2, rfl⟩ := h
      exact ⟨none, h2.cell 1 rfl, rfl⟩
theorem qp_steps (who P T G : Int) (cl : Nat) (l : List Int) (hp : 0 ≤ P ∧ P ≤ 64) (hT : 0 ≤ T ∧ T ≤ 65536) (hG : 0 ≤ G ∧ G ≤ 65536) (hn : l.length ≤ 1000000) {K : Nat} (hK : StepBy K) : Steps (qpPM (fun y => wd (20 + P * 264 + T * 3) G 2 y 1) l) (qpI who cl (fun y => wd (20 + P * 264 + T * 3) G 2 y 1) l) (Rd.lay cl P T G) K who := by
  rintro w A cp cm b n s x t L (⟨h0, g, cap, L', rfl, hg, hr, h⟩ | ⟨rfl, rfl, A1, cap, ha, h⟩) hR hI hn1 hl hf hcb
  · have hgf := hf g (by simp)
    have hgd := Fl.good (qp_laws who P T G cl g cap l hp hT hG h0 hn)
    refine (Fl.steps (qp_laws who P T G cl g cap l hp hT hG h0 hn) hK w A cp cm b n s x t L' h ⟨hR, hr⟩ hI hn1 hl (fun k hk => ⟨(hf k (by simp [hk])).1, (hf k (by simp [hk])).2.1, fun hm => ?_⟩) ⟨fun hm => ?_, fun hm => ?_⟩).mono ?_
    · rcases List.mem_append.1 hm with hm | hm
      · exact (hf k (by simp [hk])).2.2 hm
      · exact hg ((List.mem_singleton.1 hm) ▸ hk)
    · rcases List.mem_append.1 hm with hm | hm
      · exact hcb.1 hm
      · exact hgf.1 (List.mem_singleton.1 hm).symm
    · rcases List.mem_append.1 hm with hm | hm
      · exact hcb.2 hm
      · exact hgf.2.1 (List.mem_singleton.1 hm).symm
    · rintro e w' ⟨rfl, L2, h1, h2, h3, h4⟩
      refine ⟨rfl, g :: L2, .inl ⟨h0, g, cap, L2, rfl, fun hm => ?_, hr.but h3 ?_, h1⟩, h2, h3.more (by intro k _ hk; simp at hk ⊢; rcases hk with h | h | h <;> simp [h]), fun k hk => ?_⟩
      · rcases h4 g hm with h5 | h5
        · exact hg h5
        · have := hr.lt; omega
      · simp only [List.mem_cons, not_or]
        exact ⟨hgf.1, hgf.2.1, hg⟩
      · simp at hk
        rcases hk with rfl | hk
        · exact .inl (by simp)
        · rcases h4 k hk with h5 | h5
          · exact .inl (by simp [h5])
          · exact .inr h5
  · have hI0 := h
    rw [Fl.at_none rfl] at h
    obtain ⟨h1, h2, rfl⟩ := h
    refine (hK w x _ (fun z w' => z = true ∧ w = w') ((step_none w x cm (h2.cell 1 rfl)).mono ?_)).mono ?_
    · rintro e w' ⟨rfl, rfl⟩; exact ⟨true, rfl, rfl, rfl⟩
    · rintro e w' ⟨z, rfl, rfl, rfl⟩
      exact ⟨rfl, [x], .inr ⟨rfl, rfl, A1, cap, ha, hI0⟩, hI, But.refl _ _, fun k hk => .inl hk⟩
end Go.Proofs.YtcjidigpdecdlaaGreat

namespace Go.Proofs.YtcjidigpdecdlaaGreat
open Go Go.RowKit
set_option linter.unusedVariables false
set_option maxRecDepth 100000
set_option linter.unusedSimpArgs false

theorem RowAt.sees {w : World} {g cap : Nat} {l : List Int} (h : RowAt w g cap l) : SeesL w (.slice (some ⟨g, 0, none⟩) l.length cap) l :=
  ⟨_, cap, rfl, (fun h => by cases h), fun _ => ⟨g, 0, rfl, h.lt, fun j hj => by rw [Nat.zero_add]; exact h.cell j hj⟩⟩
theorem qput_holds (w : World) (x cl : Nat) (who k : Int) (nx : Option Addr) (sl : Value) (l : List Int) (z : Bool) (h : Blk w x (qpCells who nx cl sl k z) 268) (hs : SeesL w sl l) (hn : l.length ≤ 1000000) :
    Calls Tryz.prog 138 #[.pointer (some ⟨x, 0, none⟩)] w fun e w' => ∃ v, e = .returned v ∧ IntsOn w' w.heap.size v (if z then [] else l) ∧ Below w.heap.size w w' := by
  have c3 := h.cell 3 (v := sl) rfl
  have c5 := h.cell 5 (v := .bool z) rfl
  have HC := lclone_any sl l w hn hs
  clear h hs
  cases z with
  | true =>
    clear HC c3
    go_enter Tryz.func138, Tryz.ntmps138
    go_wp2_with fail
    go_ret
    exact ⟨_, rfl, ⟨World.ownsRow_nil _ _ _ _⟩, Below.refl _ _⟩
  | false =>
    go_enter Tryz.func138, Tryz.ntmps138
    go_wp2_with fail
    go_at_call 186; refine HC.mono ?_; rintro e w1 ⟨v, rfl, h1, h2⟩
    clear HC c3 c5
    go_wp2_with fail
    go_ret
    exact ⟨_, rfl, h1, h2⟩
theorem qput_holds_nil (w : World) : Calls Tryz.prog 138 #[.pointer none] w fun e w' => e = .returned (.slice none 0 0) ∧ w = w' := by
  go_enter Tryz.func138, Tryz.ntmps138
  go_wp2_with fail
  go_ret
  exact ⟨rfl, rfl⟩
theorem qp_holds {who : Int} {cl : Nat} {gl : Int → Int} {l : List Int} {w : World} {x : Nat} {t : QpT} {L : List Nat} (h : qpI who cl gl l w x t L) (hn : l.length ≤ 1000000) :
    Calls Tryz.prog 138 #[.pointer (some ⟨x, 0, none⟩)] w fun e w' => ∃ v, e = .returned v ∧ IntsOn w' w.heap.size v (if t.lies then [] else l) ∧ Below w.heap.size w w' := by
  rcases h with ⟨h0, g, cap, L', rfl, hg, hr, h⟩ | ⟨rfl, rfl, A, cap, ha, h⟩
  · obtain ⟨nx, h1, -⟩ := Fl.blk h
    exact qput_holds w x cl who _ nx _ l t.lies h1 hr.sees hn
  · obtain ⟨nx, h1, -⟩ := Fl.blk h
    exact qput_holds w x cl who _ nx (.slice A 0 cap) [] false h1 ⟨A, cap, rfl, fun e => ⟨rfl, ha e⟩, fun e => absurd e (by simp)⟩ hn
def qpStart (l : List Int) : QpT := if l = [] then .done0 else .ch 0
theorem qp_new_nil (w : World) (cl : Nat) (who : Int) (gl : Int → Int) (sl : Value) (hs : SeesL w sl []) :
    Calls Tryz.prog 181 #[.pointer (some ⟨cl, 0, none⟩), .int .i64 who, sl] w fun e w' => ∃ x L, e = .returned (.pointer (some ⟨x, 0, none⟩)) ∧ qpI who cl gl [] w' x .done0 L ∧ Below w.heap.size w w' ∧ (∀ k ∈ L, w.heap.size ≤ k) ∧ w.heap.size ≤ x := by
  have HC := lclone_any sl [] w (by simp) hs
  obtain ⟨A0, cap0, rfl, -, -⟩ := hs
  go_enter Tryz.func181, Tryz.ntmps181
  go_wp2_with fail
  go_at_call 186; refine HC.mono ?_; rintro e w1 ⟨v, rfl, h1, hb1⟩
  obtain ⟨A, cap, rfl, ha, -⟩ := h1.sees
  have hB := Blk.new w1 #[.int .i64 0, .pointer none, .pointer none, .slice A 0 cap, .int .i64 0, .bool false] 268
  have hO := q_of _ w1.heap.size cl who _ (qpCells who none cl (.slice A 0 cap) 0 false) 268 hB (by simp) rfl
  have HH : Hid (Below w.heap.size w (w1.alloc (.cells #[.int .i64 0, .pointer none, .pointer none, .slice A 0 cap, .int .i64 0, .bool false] 268)) ∧ w.heap.size ≤ w1.heap.size) := ⟨seq hb1 ((Below.refl _ _).alloc (Nat.le_refl _) _), hb1.size⟩
  clear HC h1 hb1 hB
  go_wp2_with fail
  go_at_call 216; refine hO.mono ?_; rintro e w2 ⟨⟨v, rfl⟩, k1, k2, k3⟩
  have HF : Hid (qpI who cl gl [] w2 w1.heap.size .done0 [w1.heap.size] ∧ Below w.heap.size w w2) := by
    refine ⟨.inr ⟨rfl, rfl, A, cap, fun e => (ha e).2, (Fl.at_none rfl).2 ⟨trivial, k1, rfl⟩⟩, ?_⟩
    exact HH.out.1.trans (k2.below (by intro k hk; simp at hk; subst hk; first | exact HH.out.2 | exact HH.out.2.2.2.1) (by have := HH.out.2; rw [World.size_alloc]; omega))
  have hsz := HH.out.2
  clear hO HH k1 k2 k3
  go_wp2_with fail
  go_ret
  exact ⟨_, _, rfl, HF.out.1, HF.out.2, fun k hk => by simp at hk; subst hk; exact hsz, hsz⟩
theorem qp_new_some (w : World) (cl : Nat) (who P T G : Int) (sl : Value) (l : List Int) (hs : SeesL w sl l) (h0 : 0 < l.length) (hn : l.length ≤ 1000000) (hl : Lay w cl P T G) (hp : 0 ≤ P ∧ P ≤ 64) (hT : 0 ≤ T ∧ T ≤ 65536) (hG : 0 ≤ G ∧ G ≤ 65536) :
    Calls Tryz.prog 181 #[.pointer (some ⟨cl, 0, none⟩), .int .i64 who, sl] w fun e w' => ∃ x L, e = .returned (.pointer (some ⟨x, 0, none⟩)) ∧ qpI who cl (fun y => wd (20 + P * 264 + T * 3) G 2 y 1) l w' x (.ch 0) L ∧ Below w.heap.size w w' ∧ (∀ k ∈ L, w.heap.size ≤ k) ∧ w.heap.size ≤ x := by
  have HC := lclone_any sl l w hn hs
  obtain ⟨A0, cap0, rfl, -, -⟩ := hs
  have hd : (0 : Int) < (l.length : Int) := by omega
  have HCH : Hid (∀ (Y : World) (x g cap : Nat), Blk Y x (qpCells who none cl (.slice (some ⟨g, 0, none⟩) l.length cap) 0 false) 268 → RowAt Y g cap l → g ≠ x → Lay Y cl P T G → cl ≠ x → Calls Tryz.prog 217 #[.pointer (some ⟨x, 0, none⟩)] Y fun e w' => (∃ v, e = .returned v) ∧ (qpFl who cl (.slice (some ⟨g, 0, none⟩) l.length cap) l).Landed (qpPM (fun y => wd (20 + P * 264 + T * 3) G 2 y 1) l) Y w' x (.ch 0)) := by
    intro Y x g cap hB hr hgx hl hcx
    by_cases hk2 : 0 + 1 < l.length
    · have H := qput_chain_more Y x cl g cap who l none 0 P T G false hB hr hgx hk2 hn hl hcx hp hT hG.2
      have e2 : (qpPM (fun y => wd (20 + P * 264 + T * 3) G 2 y 1) l).ax (.ch 0) = some (axSt (wd (20 + P * 264 + T * 3) G 2 (l.getD 0 0) 1) (qwd (l.getD (0 + 1) 0))) := by
        show some (axSt _ (if 0 + 1 < l.length then _ else _)) = _
        rw [if_pos hk2]
      refine H.mono ?_
      rintro e' w' ⟨hu, hC⟩
      refine ⟨hu, ?_⟩
      unfold Fl.Landed
      rw [e2]
      exact hC
    · have H := qput_chain_last Y x cl g cap who l none 0 P T G false hB hr hgx (by omega) hn hl hcx hp hT hG.2
      have e2 : (qpPM (fun y => wd (20 + P * 264 + T * 3) G 2 y 1) l).ax (.ch 0) = some (axSt (wd (20 + P * 264 + T * 3) G 2 (l.getD 0 0) 1) 0) := by
        show some (axSt _ (if 0 + 1 < l.length then _ else _)) = _
        rw [if_neg hk2]
      refine H.mono ?_
      rintro e' w' ⟨hu, hC⟩
      refine ⟨hu, ?_⟩
      unfold Fl.Landed
      rw [e2]
      exact hC
  have HLW : Hid (qpFl who cl .nilIface l = qpFl who cl .nilIface l ∧ 0 < l.length ∧ Lay w cl P T G) := ⟨rfl, h0, hl⟩
  have HLL : Hid (∀ g cap, (qpFl who cl (.slice (some ⟨g, 0, none⟩) l.length cap) l).Laws (qpPM (fun y => wd (20 + P * 264 + T * 3) G 2 y 1) l) ((Rd.lay cl P T G).and (Rd.row g cap l)) who) := fun g cap => qp_laws who P T G cl g cap l hp hT hG h0 hn
  generalize (fun y => wd (20 + P * 264 + T * 3) G 2 y 1) = gl at *
  generalize hnn : l.length = n at *
  clear hp hT hG hl
  go_enter Tryz.func181, Tryz.ntmps181
  go_wp2_with fail
  go_at_call 186; refine HC.mono ?_; rintro e w1 ⟨v, rfl, h1, hb1⟩
  obtain ⟨g, cap, rfl, hg0, hr⟩ := h1.row (by omega)
  rw [hnn]
  have hB := Blk.new w1 #[.int .i64 0, .pointer none, .pointer none, .slice (some ⟨g, 0, none⟩) n cap, .int .i64 0, .bool false] 268
  have hO := q_of _ w1.heap.size cl who _ (qpCells who none cl (.slice (some ⟨g, 0, none⟩) n cap) 0 false) 268 hB (by simp) rfl
  have HH : Hid (Below w.heap.size w w1 ∧ RowAt w1 g cap l ∧ Below w.heap.size w (w1.alloc (.cells #[.int .i64 0, .pointer none, .pointer none, .slice (some ⟨g, 0, none⟩) n cap, .int .i64 0, .bool false] 268)) ∧ w.heap.size ≤ w1.heap.size ∧ w.heap.size ≤ g) := ⟨hb1, hr, seq hb1 ((Below.refl _ _).alloc (Nat.le_refl _) _), hb1.size, hg0⟩
  clear HC h1 hb1 hB hr
  go_wp2_with fail
  go_at_call 216; refine hO.mono ?_; rintro e w2 ⟨⟨v, rfl⟩, k1, k2, k3⟩
  have hb2 : Below w.heap.size w w2 := HH.out.2.2.1.trans (k2.below (by intro k hk; simp at hk; subst hk; first | exact HH.out.2 | exact HH.out.2.2.2.1) (by have := HH.out.2.2.2.1; rw [World.size_alloc]; omega))
  have hgl := HH.out.2.1.lt
  have hr2 : RowAt w2 g cap l := (HH.out.2.1.below ((Below.refl _ _).alloc (Nat.le_refl _) _)).but k2 (by simp; omega)
  have hll := HLW.out.2.2.lt
  have hsz := HH.out.2.2.2.1
  have hCh := HCH.out w2 w1.heap.size g cap k1 hr2 (by omega) (HLW.out.2.2.below hb2 hll) (by omega)
  have HF2 : Hid (Below w.heap.size w w2 ∧ RowAt w2 g cap l ∧ w1.heap.size < w2.heap.size ∧ g < w1.heap.size ∧ w.heap.size ≤ g) := ⟨hb2, hr2, k1.lt, hgl, HH.out.2.2.2.2⟩
  clear hO HH k1 k2 k3 hr2 hb2 HCH
  go_wp2_with fail
  go_at_call 217; refine hCh.mono ?_; rintro e w3 ⟨⟨v2, rfl⟩, hC⟩
  have HF : Hid (∃ L, qpI who cl gl l w3 w1.heap.size (.ch 0) L ∧ Below w.heap.size w w3 ∧ ∀ k ∈ L, w.heap.size ≤ k) := by
    obtain ⟨-, ⟨L', i1, i2⟩, i3⟩ := Fl.land (HLL.out g cap) hC (by show 0 < l.length; rw [hnn]; exact HLW.out.2.1) HF2.out.2.2.1
    refine ⟨g :: L', .inl ⟨by rw [hnn]; exact HLW.out.2.1, g, cap, L', rfl, fun hm => ?_, HF2.out.2.1.but i3 (by have := HF2.out.2.2.2.1; simp; omega), by rw [hnn]; exact i1⟩, HF2.out.1.trans (i3.below (by simp; omega) HF2.out.1.size), fun k hk => ?_⟩
    · have := HF2.out.2.2.2.1
      rcases i2 g hm with h | h
      · omega
      · have := HF2.out.2.2.1; omega
    · have h3 := HF2.out.1.size
      simp at hk
      rcases hk with rfl | hk
      · exact HF2.out.2.2.2.2
      · rcases i2 k hk with rfl | h
        · exact hsz
        · omega
  clear hCh hC HF2
  go_wp2_with fail
  go_ret
  obtain ⟨L, f1, f2, f3⟩ := HF.out
  exact ⟨_, L, rfl, f1, f2, f3, hsz⟩
end Go.Proofs.YtcjidigpdecdlaaGreat

namespace Go.Proofs.YtcjidigpdecdlaaGreat
open Go Go.RowKit
set_option linter.unusedVariables false
set_option maxRecDepth 100000
set_option linter.unusedSimpArgs false

/-- A config as a value, and in a box of its own. -/
def cfgV (P T G : Int) : Value := .agg #[.int .i64 P, .int .i64 T, .int .i64 G]
def cfgA (P T G : Int) : Array Value := #[.int .i64 P, .int .i64 T, .int .i64 G]
theorem refg_any (P T G g f : Int) (w : World) (hp : 0 ≤ P ∧ P ≤ 64) (hT : 0 ≤ T ∧ T ≤ 65536) (hg : 0 ≤ g ∧ g ≤ 65536) (hf : 0 ≤ f ∧ f < 2) : Calls Tryz.prog 60 #[.agg #[.int .i64 P, .int .i64 T, .int .i64 G], .int .i64 g, .int .i64 f] w fun e w' => e = .returned (.int .i64 (20 + 264 * P + 3 * T + 2 * g + f)) ∧ Below w.heap.size w w' := by
  have hb : Below w.heap.size w (w.alloc (.cells #[.int .i64 P, .int .i64 T, .int .i64 G] 23)) := (Below.refl _ _).alloc (Nat.le_refl _) _
  go_enter Tryz.func60, Tryz.ntmps60
  go_wp2_with fail
  go_ret
  exact ⟨ret_int (by first | rfl | omega | (unfold wrap64; omega)), hb⟩
theorem refgAt_any (P T G g f : Int) (w : World) (hp : 0 ≤ P ∧ P ≤ 64) (hT : 0 ≤ T ∧ T ≤ 65536) (hG : G ≤ 65536) (hf : 0 ≤ f ∧ f < 2) :
    Calls Tryz.prog 97 #[.agg #[.int .i64 P, .int .i64 T, .int .i64 G], .int .i64 g, .int .i64 f] w fun e w' => e = .returned (.int .i64 (wd (20 + P * 264 + T * 3) G 2 g f)) ∧ Below w.heap.size w w' := by
  have hb : Below w.heap.size w (w.alloc (.cells #[.int .i64 P, .int .i64 T, .int .i64 G] 23)) := (Below.refl _ _).alloc (Nat.le_refl _) _
  by_cases hg : 0 ≤ g ∧ g < G
  · have e : 20 + 264 * P + 3 * T + 2 * g + f = wd (20 + P * 264 + T * 3) G 2 g f := by unfold wd; rw [if_pos ⟨hg.1, hg.2, by omega, by omega⟩]; omega
    have hT := refg_any P T G g f (w.alloc (.cells #[.int .i64 P, .int .i64 T, .int .i64 G] 23)) hp hT (by omega) hf
    rw [e] at hT
    generalize wd (20 + P * 264 + T * 3) G 2 g f = nt at *
    clear e
    have hX : Hid (Blk (w.alloc (.cells #[.int .i64 P, .int .i64 T, .int .i64 G] 23)) w.heap.size #[.int .i64 P, .int .i64 T, .int .i64 G] 23) := Blk.new _ _ _
    have HB : Hid (Below w.heap.size w (w.alloc (.cells #[.int .i64 P, .int .i64 T, .int .i64 G] 23))) := hb
    have hsz := World.size_alloc w (.cells #[.int .i64 P, .int .i64 T, .int .i64 G] 23)
    have d1 : decide (g < 0) = false := decide_eq_false (by omega)
    have d2 : decide (G ≤ g) = false := decide_eq_false (by omega)
    clear hb
    go_enter Tryz.func97, Tryz.ntmps97
    go_wp2_with fail
    go_at_call 60; refine hT.mono ?_; rintro e w1 ⟨rfl, h1⟩
    have h2 := HB.out.trans (h1.mono HB.out.size)
    clear hT h1
    go_wp2_with fail
    go_ret
    exact ⟨rfl, h2⟩
  · have e : wd (20 + P * 264 + T * 3) G 2 g f = -1 := by unfold wd; rw [if_neg (fun h => hg ⟨h.1, h.2.1⟩)]
    rw [e]
    by_cases h0 : g < 0
    · clear hg e
      go_enter Tryz.func97, Tryz.ntmps97
      go_wp2_with fail
      go_ret
      exact ⟨rfl, hb⟩
    · have d1 : decide (g < 0) = false := decide_eq_false h0
      have h1 : G ≤ g := by omega
      clear hg e
      go_enter Tryz.func97, Tryz.ntmps97
      go_wp2_with fail
      go_ret
      exact ⟨rfl, hb⟩
end Go.Proofs.YtcjidigpdecdlaaGreat

namespace Go.Proofs.YtcjidigpdecdlaaGreat
open Go Go.RowKit
set_option linter.unusedVariables false
set_option maxRecDepth 100000
set_option linter.unusedSimpArgs false

structure QpIn {σ : Type} (M : PM σ) (gl : Int → Int) (l : List Int) (emb : QpT → σ) : Prop where
  ch : ∀ k, M.ax (emb (.ch k)) = some (axSt (gl (l.getD k 0)) (if k + 1 < l.length then qwd (l.getD (k + 1) 0) else 0))
  ld : M.ax (emb .ld) = some (axLd 7)
  pt : ∀ t, M.ax (emb (.pt t)) = some (axSt (if t = 0 then 6 else gl (gw t)) (qwd (l.getD 0 0)))
  tr : M.ax (emb .tr) = some (axSt 7 (qwd (l.getD (l.length - 1) 0)))
  ct : M.ax (emb .ct) = some (axAd 8 l.length)
  n1 : ∀ k v, M.nx (emb (.ch k)) v = if k + 1 < l.length then emb (.ch (k + 1)) else emb .ld
  n2 : ∀ v, M.nx (emb .ld) v = emb (.pt v)
  n3 : ∀ t v, M.nx (emb (.pt t)) v = emb .tr
  n4 : ∀ v, M.nx (emb .tr) v = emb .ct
  n5 : ∀ v, M.nx (emb .ct) v = emb .over
def QpT.live : QpT → Bool
  | .over => false
  | .done0 => false
  | _ => true
theorem qp_in (gl : Int → Int) (l : List Int) : QpIn (qpPM gl l) gl l (fun p => p) where
  ch := fun _ => rfl
  ld := rfl
  pt := fun _ => rfl
  tr := rfl
  ct := rfl
  n1 := fun _ _ => rfl
  n2 := fun _ => rfl
  n3 := fun _ _ => rfl
  n4 := fun _ => rfl
  n5 := fun _ => rfl
/-- Where a put stopped, and what it holds there. -/
def QpQ {σ : Type} (Q : σ → Prop) (emb : QpT → σ) (l held : List Int) (q : σ) : Prop := (Q q ∧ held = l) ∨ ∃ p', QpT.live p' = true ∧ q = emb p' ∧ held = if p'.lies = true then [] else l
def QpE {σ : Type} (Q : σ → Prop) (emb : QpT → σ) (q : σ) : Prop := Q q ∨ ∃ p', QpT.live p' = true ∧ q = emb p' ∧ p'.lies = false
theorem QpE.q {σ : Type} {Q : σ → Prop} {emb : QpT → σ} {l : List Int} {q : σ} (h : QpE Q emb q) : QpQ Q emb l l q := by
  rcases h with h | ⟨p', h1, h2, h3⟩
  · exact .inl ⟨h, rfl⟩
  · exact .inr ⟨p', h1, h2, by rw [h3]; rfl⟩
def QpGot {σ : Type} (M : PM σ) (emb : QpT → σ) (l : List Int) (w : World) (x : Nat) (A : Option Addr) (cap m : Nat) (g : Nat → Int) (s0 : σ) (Q : σ → Prop) (j : Nat) (e : Ending) (w' : World) : Prop := ∃ (v : Value) (held : List Int) (j' : Nat) (p : QpT), e = .returned v ∧ SeesL w' v held ∧ RunOn w' x A cap m g (M.rj s0 g m j') ∧ Syn M s0 g m j' (emb p) (QpQ Q emb l held) ∧ p.live = false ∧ (j' ≤ m → held = if p.lies = true then [] else l) ∧ But [x] w w' ∧ j ≤ j'
theorem SeesL.but {w w' : World} {A : Option Addr} {n cap x : Nat} {l : List Int} (h : SeesL w (.slice A n cap) l) (hB : But [x] w w') (hx : ∀ b off : Nat, A = some ⟨b, off, none⟩ → b ≠ x) : SeesL w' (.slice A n cap) l := by
  obtain ⟨A', cap', e, h1, h2⟩ := h
  cases e
  refine ⟨_, _, rfl, h1, fun hn => ?_⟩
  obtain ⟨b, off, e1, h3, h4⟩ := h2 hn
  refine ⟨b, off, e1, Nat.lt_of_lt_of_le h3 hB.size, fun j hj => ?_⟩
  rw [← h4 j hj]
  have hk := hB.block b h3 (by simpa using hx b off e1)
  simp only [World.cell?]
  rw [hk]

/-- The same, and where what is answered lies. -/
def QpGotB (B : Option Addr) {σ : Type} (M : PM σ) (emb : QpT → σ) (l : List Int) (w : World) (x : Nat) (A : Option Addr) (cap m : Nat) (g : Nat → Int) (s0 : σ) (Q : σ → Prop) (j : Nat) (e : Ending) (w' : World) : Prop := ∃ (v : Value) (held : List Int) (j' : Nat) (p : QpT), e = .returned v ∧ SeesL w' v held ∧ RunOn w' x A cap m g (M.rj s0 g m j') ∧ Syn M s0 g m j' (emb p) (QpQ Q emb l held) ∧ p.live = false ∧ (j' ≤ m → held = if p.lies = true then [] else l) ∧ But [x] w w' ∧ j ≤ j' ∧ ∀ A1 (n1 c1 : Nat), v = .slice A1 n1 c1 → 0 < n1 → A1 = B
set_option maxHeartbeats 4000000 in
theorem syn_qputB {σ : Type} {M : PM σ} {P T G : Int} {l : List Int} {emb : QpT → σ} (hE : QpIn M (fun y => wd (20 + P * 264 + T * 3) G 2 y 1) l emb) (hp : 0 ≤ P ∧ P ≤ 64) (hT : 0 ≤ T ∧ T ≤ 65536) (hG : 0 ≤ G ∧ G ≤ 65536) (hn : l.length ≤ 1000000)
    {w : World} {x : Nat} {A B : Option Addr} {cap cp m : Nat} {g : Nat → Int} {s0 : σ} {j : Nat} {Q : σ → Prop} (hs : SeesL w (.slice B l.length cp) l) (hsx : 0 < l.length → ∀ b off : Nat, B = some ⟨b, off, none⟩ → b ≠ x) (hR : RunOn w x A cap m g (M.rj s0 g m j)) (hS : Syn M s0 g m j (emb (qpStart l)) Q) (hb : ∀ j, j < m → 0 ≤ g j ∧ g j ≤ 18446744073709551615) :
    Calls Tryz.prog 130 #[.pointer (some ⟨x, 0, none⟩), .agg #[.int .i64 P, .int .i64 T, .int .i64 G], .slice B l.length cp] w fun e w' => QpGotB B M emb l w x A cap m g s0 Q j e w' := by
  have hb0 : Below w.heap.size w (w.alloc (.cells #[.int .i64 P, .int .i64 T, .int .i64 G] 23)) := (Below.refl _ _).alloc (Nat.le_refl _) _
  have HX : Hid (Blk (w.alloc (.cells #[.int .i64 P, .int .i64 T, .int .i64 G] 23)) w.heap.size #[.int .i64 P, .int .i64 T, .int .i64 G] 23) := Blk.new _ _ _
  have hxw := hR.blk.lt
  have HB0 : Hid (But [x] w (w.alloc (.cells #[.int .i64 P, .int .i64 T, .int .i64 G] 23))) := But.of_below hb0
  have HGA : Hid (∀ y w, Calls Tryz.prog 97 #[.agg #[.int .i64 P, .int .i64 T, .int .i64 G], .int .i64 y, .int .i64 1] w fun e w' => e = .returned (.int .i64 (wd (20 + P * 264 + T * 3) G 2 y 1)) ∧ Below w.heap.size w w') := fun y w => refgAt_any P T G y 1 w hp hT hG.2 (by omega)
  have HE : Hid (QpIn M (fun y => wd (20 + P * 264 + T * 3) G 2 y 1) l emb) := hE
  have HBD : Hid (∀ j, j < m → 0 ≤ g j ∧ g j ≤ 18446744073709551615) := hb
  have HSL : Hid (SeesL w (.slice B l.length cp) l) := hs
  have HSX : Hid (0 < l.length → ∀ b off : Nat, B = some ⟨b, off, none⟩ → b ≠ x) := hsx
  have HR0 : Hid (RunOn (w.alloc (.cells #[.int .i64 P, .int .i64 T, .int .i64 G] 23)) x A cap m g (M.rj s0 g m j)) := hR.below hb0
  have HST : Hid (0 < l.length → Syn M s0 g m (j + 0) (emb (.ch 0)) (QpE Q emb)) := fun h0 => by
    have e : qpStart l = .ch 0 := if_neg (fun e => by rw [e] at h0; exact absurd h0 (by simp))
    rw [e] at hS
    exact hS.weak (fun r hr => .inl hr)
  have HS0 : Hid (Syn M s0 g m j (emb (qpStart l)) Q) := hS
  clear hR hS hE hb hb0 hp hT hG hs hsx
  go_enter Tryz.func130, Tryz.ntmps130
  go_wp2_with fail
  generalize w.alloc (.cells #[.int .i64 P, .int .i64 T, .int .i64 G] 23) = W at *
  by_cases hl0 : l.length = 0
  · have hle : l = [] := List.length_eq_zero_iff.1 hl0
    subst hle
    go_loopw [7] (fun i wr => i = .int .i64 0 ∧ wr = W) (fun i _ => 0)
    case atStart => exact ⟨rfl, rfl⟩
    case round =>
      obtain ⟨rfl, rfl⟩ := hrel
      go_wp2_with fail
      go_ret
      exact ⟨.slice none 0 0, [], j, .done0, rfl, ⟨none, 0, rfl, fun _ => ⟨rfl, rfl⟩, fun h => absurd h (by simp)⟩, HR0.out, HS0.out.weak (fun r hr => .inl ⟨hr, rfl⟩), rfl, fun _ => rfl, HB0.out, Nat.le_refl j, (fun _ _ _ e h => by cases e; exact absurd h (by omega))⟩
  · have h0 : 0 < l.length := by omega
    have HSS : Hid _ := HST.out h0
    clear HS0 HST
    obtain ⟨b, off, rfl, hbl, hcl⟩ : ∃ b off : Nat, B = some ⟨b, off, none⟩ ∧ b < w.heap.size ∧ ∀ j, j < l.length → w.cell? ⟨b, off + j, none⟩ = some (.int .i64 (l.getD j 0)) := by
      obtain ⟨A', cap', e, h1, h2⟩ := HSL.out
      cases e
      exact h2 h0
    have hbx : b ≠ x := HSX.out h0 b off rfl
    have HCL : Hid (∀ Y, But [x] w Y → ∀ j, j < l.length → Y.cell? ⟨b, off + j, none⟩ = some (.int .i64 (l.getD j 0))) := fun Y hY j hj => by
      rw [← hcl j hj]
      have hk := hY.block b hbl (by simpa using hbx)
      simp only [World.cell?]
      rw [hk]
    clear hcl
    go_loopw [7] (fun i wr => ∃ k : Nat, k ≤ l.length ∧ i = .int .i64 k ∧ Hid (RunOn wr x A cap m g (M.rj s0 g m (j + k))) ∧ Hid (Syn M s0 g m (j + k) (emb (if k < l.length then .ch k else .ld)) (QpE Q emb)) ∧ Hid (But [x] w wr) ∧ Hid (Blk wr w.heap.size #[.int .i64 P, .int .i64 T, .int .i64 G] 23)) (fun i _ => l.length - (intOf i).toNat)
    case atStart => exact ⟨0, Nat.zero_le _, rfl, HR0, (by rw [if_pos h0]; exact HSS.out : Syn _ _ _ _ _ _ _), HB0, HX⟩
    case round =>
      clear HR0 HSS HB0 HX
      obtain ⟨k, hk, rfl, HR, HS, HB, HX⟩ := hrel
      by_cases hlt : k < l.length
      · have HS1 : Hid (Syn M s0 g m (j + k) (emb (.ch k)) (QpE Q emb)) := by have := HS.out; rw [if_pos hlt] at this; exact this
        have hk0 : (0 : Int) ≤ (k : Int) := by omega
        have hk1 : (k : Int) < (l.length : Int) := by omega
        have cg := HCL.out wr HB.out k hlt
        have y0 := HX.out.cell 0 (v := .int .i64 P) rfl
        have y1 := HX.out.cell 1 (v := .int .i64 T) rfl
        have y2 := HX.out.cell 2 (v := .int .i64 G) rfl
        obtain ⟨nx, hnx⟩ : ∃ nx, (if k + 1 < l.length then qwd (l.getD (k + 1) 0) else 0) = nx := ⟨_, rfl⟩
        have HAX : Hid (M.ax (emb (.ch k)) = some (axSt (wd (20 + P * 264 + T * 3) G 2 (l.getD k 0) 1) nx)) := by
          have := HE.out.ch k
          rw [hnx] at this
          exact this
        have HLD : Hid _ := HGA.out (l.getD k 0)
        have HCY : Hid (∀ Y, But [x] w Y → Y.cell? ⟨b, off + k, none⟩ = some (.int .i64 (l.getD k 0))) := fun Y hY => HCL.out Y hY k hlt
        generalize l.getD k 0 = yk at *
        clear HS
        by_cases hk2 : k + 1 < l.length
        · have cg2 := HCL.out wr HB.out (k + 1) hk2
          have hk3 : (k : Int) + 1 < (l.length : Int) := by omega
          have hd3 : decide ((k : Int) + 1 < (l.length : Int)) = true := decide_eq_true hk3
          have ht : ((k : Int) + 1).toNat = k + 1 := by omega
          have hnx2 : qwd (l.getD (k + 1) 0) = nx := by rw [if_pos hk2] at hnx; exact hnx
          generalize l.getD (k + 1) 0 = y2' at *
          obtain ⟨y3, hy3⟩ : ∃ y3, IntKind.u64.wrap y2' = y3 := ⟨_, rfl⟩
          have e6 : IntKind.u64.wrap (y3 + 1) = nx := by rw [← hy3]; exact hnx2
          clear hnx hnx2
          obtain ⟨at', hat⟩ : ∃ at', wd (20 + P * 264 + T * 3) G 2 yk 1 = at' := ⟨_, rfl⟩
          rw [hat] at HAX HLD
          obtain ⟨QC, hQC⟩ : ∃ QC : World → Prop, QC = fun w' => RunOn w' x A cap m g (M.rj s0 g m (j + k + 1)) ∧ Syn M s0 g m (j + k + 1) (emb (.ch (k + 1))) (QpE Q emb) ∧ But [x] w w' ∧ Blk w' w.heap.size #[.int .i64 P, .int .i64 T, .int .i64 G] 23 := ⟨_, rfl⟩
          have HGAd := HLD.out wr.drew
          have HSt : Hid (∀ w4, Below wr.drew.heap.size wr.drew w4 → Calls Tryz.prog 96 #[.pointer (some ⟨x, 0, none⟩), .int .i64 at', .int .u64 nx] w4 fun e w' => (∃ u, e = .returned u) ∧ QC w') := fun w4 k4 => by
            have hb4 : Below wr.heap.size wr w4 := (show Below wr.heap.size wr wr.drew from (Below.refl _ _).drew).trans k4
            refine (syn_store (HR.out.below hb4) HS1.out HBD.out at' nx (fun _ => HAX.out)).mono ?_
            rintro e w' ⟨hu, v5, hK⟩
            refine ⟨hu, ?_⟩
            rw [hQC]
            refine ⟨hK.run, ?_, (HB.out.trans (But.of_below hb4)).trans hK.but, (HX.out.but (But.of_below (l := []) hb4) (by simp)).but hK.but (by simp; omega)⟩
            have h5 := hK.syn
            rw [HE.out.n1, if_pos hk2] at h5
            exact h5.weak (fun r hr => by rcases hr with rfl | hr; exact .inr ⟨.ch k, rfl, rfl, rfl⟩; exact hr)
          have HSC : Hid (∀ Y, But [x] w Y → Blk Y w.heap.size #[.int .i64 P, .int .i64 T, .int .i64 G] 23 → (Y.cell? ⟨w.heap.size, 0, none⟩ = some (.int .i64 P) ∧ Y.cell? ⟨w.heap.size, 1, none⟩ = some (.int .i64 T) ∧ Y.cell? ⟨w.heap.size, 2, none⟩ = some (.int .i64 G) ∧ Y.cell? ⟨b, off + k, none⟩ = some (.int .i64 yk))) := fun Y hY hBY => ⟨hBY.cell 0 rfl, hBY.cell 1 rfl, hBY.cell 2 rfl, HCY.out Y hY⟩
          have hH : Hid (wr.drew.cell? ⟨w.heap.size, 0, none⟩ = some (.int .i64 P) ∧ wr.drew.cell? ⟨w.heap.size, 1, none⟩ = some (.int .i64 T) ∧ wr.drew.cell? ⟨w.heap.size, 2, none⟩ = some (.int .i64 G) ∧ wr.drew.cell? ⟨b, off + k, none⟩ = some (.int .i64 yk)) := HSC.out _ HB.out.drew HX.out.drew
          have KB : Hid (∀ w4, Below wr.drew.heap.size wr.drew w4 → (w4.cell? ⟨w.heap.size, 0, none⟩ = some (.int .i64 P) ∧ w4.cell? ⟨w.heap.size, 1, none⟩ = some (.int .i64 T) ∧ w4.cell? ⟨w.heap.size, 2, none⟩ = some (.int .i64 G) ∧ w4.cell? ⟨b, off + k, none⟩ = some (.int .i64 yk))) := fun w4 k4 => by
            have hb4 : Below wr.heap.size wr w4 := (show Below wr.heap.size wr wr.drew from (Below.refl _ _).drew).trans k4
            exact HSC.out _ (HB.out.trans (But.of_below hb4)) (HX.out.but (But.of_below (l := []) hb4) (by simp))
          have KC : Hid (∀ w5, QC w5 → (w5.cell? ⟨w.heap.size, 0, none⟩ = some (.int .i64 P) ∧ w5.cell? ⟨w.heap.size, 1, none⟩ = some (.int .i64 T) ∧ w5.cell? ⟨w.heap.size, 2, none⟩ = some (.int .i64 G) ∧ w5.cell? ⟨b, off + k, none⟩ = some (.int .i64 yk))) := fun w5 hC => by
            rw [hQC] at hC
            exact HSC.out _ hC.2.2.1 hC.2.2.2
          have HQC : Hid (∀ w5, QC w5 → RunOn w5 x A cap m g (M.rj s0 g m (j + (k + 1))) ∧ Syn M s0 g m (j + (k + 1)) (emb (if k + 1 < l.length then .ch (k + 1) else .ld)) (QpE Q emb) ∧ But [x] w w5 ∧ Blk w5 w.heap.size #[.int .i64 P, .int .i64 T, .int .i64 G] 23) := fun w5 hC => by
            rw [hQC] at hC
            rw [if_pos hk2]
            exact hC
          clear hQC hat HLD HAX HR HS1 HB HX y0 y1 y2 cg
          go_wp2_with fail
          clear cg2
          go_region_held3 (fun w' => w'.cell? ⟨w.heap.size, 0, none⟩ = some (.int .i64 P) ∧ w'.cell? ⟨w.heap.size, 1, none⟩ = some (.int .i64 T) ∧ w'.cell? ⟨w.heap.size, 2, none⟩ = some (.int .i64 G) ∧ w'.cell? ⟨b, off + k, none⟩ = some (.int .i64 yk)) (first | exact hH.out | exact KB.out _ ‹_› | exact KC.out _ ‹_›) (first | (go_at_call 97; refine HGAd.mono ?_; rintro e w4 ⟨rfl, k4⟩) | (go_at_call 96; refine (HSt.out _ ‹_›).mono ?_; rintro e w5 ⟨⟨u, rfl⟩, hC⟩))
          all_goals
            have HF : Hid _ := HQC.out _ hC
            clear HGAd HSt HSC hH KB KC HQC hC
            go_wp2_with fail
            go_roundw
            case rel => exact ⟨k + 1, by omega, by go_num, HF.out.1, HF.out.2.1, HF.out.2.2.1, HF.out.2.2.2⟩
            case measure => simp [intOf]; omega
        · have hk3 : ¬ ((k : Int) + 1 < (l.length : Int)) := by omega
          have hd3 : decide ((k : Int) + 1 < (l.length : Int)) = false := decide_eq_false hk3
          have hnx2 : (0 : Int) = nx := by rw [if_neg hk2] at hnx; exact hnx
          clear hnx
          subst hnx2
          obtain ⟨at', hat⟩ : ∃ at', wd (20 + P * 264 + T * 3) G 2 yk 1 = at' := ⟨_, rfl⟩
          rw [hat] at HAX HLD
          obtain ⟨QC, hQC⟩ : ∃ QC : World → Prop, QC = fun w' => RunOn w' x A cap m g (M.rj s0 g m (j + k + 1)) ∧ Syn M s0 g m (j + k + 1) (emb (.ld)) (QpE Q emb) ∧ But [x] w w' ∧ Blk w' w.heap.size #[.int .i64 P, .int .i64 T, .int .i64 G] 23 := ⟨_, rfl⟩
          have HGAd := HLD.out wr.drew
          have HSt : Hid (∀ w4, Below wr.drew.heap.size wr.drew w4 → Calls Tryz.prog 96 #[.pointer (some ⟨x, 0, none⟩), .int .i64 at', .int .u64 0] w4 fun e w' => (∃ u, e = .returned u) ∧ QC w') := fun w4 k4 => by
            have hb4 : Below wr.heap.size wr w4 := (show Below wr.heap.size wr wr.drew from (Below.refl _ _).drew).trans k4
            refine (syn_store (HR.out.below hb4) HS1.out HBD.out at' 0 (fun _ => HAX.out)).mono ?_
            rintro e w' ⟨hu, v5, hK⟩
            refine ⟨hu, ?_⟩
            rw [hQC]
            refine ⟨hK.run, ?_, (HB.out.trans (But.of_below hb4)).trans hK.but, (HX.out.but (But.of_below (l := []) hb4) (by simp)).but hK.but (by simp; omega)⟩
            have h5 := hK.syn
            rw [HE.out.n1, if_neg hk2] at h5
            exact h5.weak (fun r hr => by rcases hr with rfl | hr; exact .inr ⟨.ch k, rfl, rfl, rfl⟩; exact hr)
          have HSC : Hid (∀ Y, But [x] w Y → Blk Y w.heap.size #[.int .i64 P, .int .i64 T, .int .i64 G] 23 → (Y.cell? ⟨w.heap.size, 0, none⟩ = some (.int .i64 P) ∧ Y.cell? ⟨w.heap.size, 1, none⟩ = some (.int .i64 T) ∧ Y.cell? ⟨w.heap.size, 2, none⟩ = some (.int .i64 G) ∧ Y.cell? ⟨b, off + k, none⟩ = some (.int .i64 yk))) := fun Y hY hBY => ⟨hBY.cell 0 rfl, hBY.cell 1 rfl, hBY.cell 2 rfl, HCY.out Y hY⟩
          have hH : Hid (wr.drew.cell? ⟨w.heap.size, 0, none⟩ = some (.int .i64 P) ∧ wr.drew.cell? ⟨w.heap.size, 1, none⟩ = some (.int .i64 T) ∧ wr.drew.cell? ⟨w.heap.size, 2, none⟩ = some (.int .i64 G) ∧ wr.drew.cell? ⟨b, off + k, none⟩ = some (.int .i64 yk)) := HSC.out _ HB.out.drew HX.out.drew
          have KB : Hid (∀ w4, Below wr.drew.heap.size wr.drew w4 → (w4.cell? ⟨w.heap.size, 0, none⟩ = some (.int .i64 P) ∧ w4.cell? ⟨w.heap.size, 1, none⟩ = some (.int .i64 T) ∧ w4.cell? ⟨w.heap.size, 2, none⟩ = some (.int .i64 G) ∧ w4.cell? ⟨b, off + k, none⟩ = some (.int .i64 yk))) := fun w4 k4 => by
            have hb4 : Below wr.heap.size wr w4 := (show Below wr.heap.size wr wr.drew from (Below.refl _ _).drew).trans k4
            exact HSC.out _ (HB.out.trans (But.of_below hb4)) (HX.out.but (But.of_below (l := []) hb4) (by simp))
          have KC : Hid (∀ w5, QC w5 → (w5.cell? ⟨w.heap.size, 0, none⟩ = some (.int .i64 P) ∧ w5.cell? ⟨w.heap.size, 1, none⟩ = some (.int .i64 T) ∧ w5.cell? ⟨w.heap.size, 2, none⟩ = some (.int .i64 G) ∧ w5.cell? ⟨b, off + k, none⟩ = some (.int .i64 yk))) := fun w5 hC => by
            rw [hQC] at hC
            exact HSC.out _ hC.2.2.1 hC.2.2.2
          have HQC : Hid (∀ w5, QC w5 → RunOn w5 x A cap m g (M.rj s0 g m (j + (k + 1))) ∧ Syn M s0 g m (j + (k + 1)) (emb (if k + 1 < l.length then .ch (k + 1) else .ld)) (QpE Q emb) ∧ But [x] w w5 ∧ Blk w5 w.heap.size #[.int .i64 P, .int .i64 T, .int .i64 G] 23) := fun w5 hC => by
            rw [hQC] at hC
            rw [if_neg hk2]
            exact hC
          clear hQC hat HLD HAX HR HS1 HB HX y0 y1 y2 cg
          go_wp2_with fail
          go_region_held3 (fun w' => w'.cell? ⟨w.heap.size, 0, none⟩ = some (.int .i64 P) ∧ w'.cell? ⟨w.heap.size, 1, none⟩ = some (.int .i64 T) ∧ w'.cell? ⟨w.heap.size, 2, none⟩ = some (.int .i64 G) ∧ w'.cell? ⟨b, off + k, none⟩ = some (.int .i64 yk)) (first | exact hH.out | exact KB.out _ ‹_› | exact KC.out _ ‹_›) (first | (go_at_call 97; refine HGAd.mono ?_; rintro e w4 ⟨rfl, k4⟩) | (go_at_call 96; refine (HSt.out _ ‹_›).mono ?_; rintro e w5 ⟨⟨u, rfl⟩, hC⟩))
          all_goals
            have HF : Hid _ := HQC.out _ hC
            clear HGAd HSt HSC hH KB KC HQC hC
            go_wp2_with fail
            go_roundw
            case rel => exact ⟨k + 1, by omega, by go_num, HF.out.1, HF.out.2.1, HF.out.2.2.1, HF.out.2.2.2⟩
            case measure => simp [intOf]; omega
      · obtain rfl : k = l.length := by omega
        have HS1 : Hid (Syn M s0 g m (j + l.length) (emb .ld) (QpE Q emb)) := by have := HS.out; rw [if_neg hlt] at this; exact this
        have hgd : decide ((l.length : Int) < (l.length : Int)) = false := by simp
        have hz0 : ((l.length : Int) == 0) = false := by rw [beq_eq_false_iff_ne]; omega
        have hz1 : decide ((l.length : Int) = 0) = false := decide_eq_false (by omega)
        have hL := syn_load HR.out HS1.out HBD.out 7 (fun _ => HE.out.ld)
        have HJ : Hid (∀ q : Nat, j ≤ j + l.length + q) := fun q => (by omega : j ≤ j + l.length + q)
        generalize j + l.length = j1 at *
        clear HS hlt hk HR HS1
        go_wp2_with fail
        go_at_call 122; refine hL.mono ?_; rintro e z2 ⟨t, rfl, hK⟩
        have htb := hK.bd
        have HR2 : Hid (RunOn z2 x A cap m g (M.rj s0 g m (j1 + 1))) := hK.run
        have HS2 : Hid (Syn M s0 g m (j1 + 1) (emb (.pt t)) (QpE Q emb)) := by
          have := hK.syn
          rw [HE.out.n2] at this
          exact this.weak (fun r hr => by rcases hr with rfl | hr; exact .inr ⟨.ld, rfl, rfl, rfl⟩; exact hr)
        have HB2 : Hid (But [x] w z2) := HB.out.trans hK.but
        have HX2 : Hid (Blk z2 w.heap.size #[.int .i64 P, .int .i64 T, .int .i64 G] 23) := HX.out.but hK.but (by simp; omega)
        clear hL hK HB HX
        have HC0 : Hid (∀ Y, But [x] w Y → Y.cell? ⟨b, off, none⟩ = some (.int .i64 (l.getD 0 0))) := fun Y hY => HCL.out Y hY 0 h0
        have HCN : Hid (∀ Y, But [x] w Y → Y.cell? ⟨b, off + (l.length - 1), none⟩ = some (.int .i64 (l.getD (l.length - 1) 0))) := fun Y hY => HCL.out Y hY (l.length - 1) (by omega)
        have HPT : Hid (∀ t, M.ax (emb (.pt t)) = some (axSt (if t = 0 then 6 else wd (20 + P * 264 + T * 3) G 2 (gw t) 1) (qwd (l.getD 0 0)))) := HE.out.pt
        have HTR : Hid (M.ax (emb .tr) = some (axSt 7 (qwd (l.getD (l.length - 1) 0)))) := HE.out.tr
        generalize l.getD 0 0 = ya at *
        generalize l.getD (l.length - 1) 0 = yz at *
        obtain ⟨ya1, hya1⟩ : ∃ a, IntKind.u64.wrap ya = a := ⟨_, rfl⟩
        obtain ⟨ya2, hya2⟩ : ∃ a, qwd ya = a := ⟨_, rfl⟩
        have e2 : IntKind.u64.wrap (ya1 + 1) = ya2 := by rw [← hya1]; exact hya2
        obtain ⟨yz1, hyz1⟩ : ∃ a, IntKind.u64.wrap yz = a := ⟨_, rfl⟩
        obtain ⟨yz2, hyz2⟩ : ∃ a, qwd yz = a := ⟨_, rfl⟩
        have e4 : IntKind.u64.wrap (yz1 + 1) = yz2 := by rw [← hyz1]; exact hyz2
        rw [hya2] at HPT
        rw [hyz2] at HTR
        clear hya2 hyz2
        have e5 : IntKind.u64.wrap (l.length : Int) = (l.length : Int) := wrap_u64 (by omega)
        have e6 : ((l.length : Int) - 1).toNat = l.length - 1 := by omega
        have e7 : (0 : Int) < (l.length : Int) := by omega
        have e8 : (l.length : Int) - 1 < (l.length : Int) := by omega
        have e9 : (0 : Int) ≤ (l.length : Int) - 1 := by omega
        by_cases t0 : t = 0
        · subst t0
          have cg := HC0.out z2 HB2.out
          have HP0 : Hid (M.ax (emb (.pt 0)) = some (axSt 6 ya2)) := by have := HPT.out 0; rw [if_pos rfl] at this; exact this
          have hSt := syn_store HR2.out HS2.out HBD.out 6 ya2 (fun _ => HP0.out)
          clear HPT HP0 htb
          go_wp2_with fail
          go_at_call 96; refine hSt.mono ?_; rintro e z4 ⟨⟨u4, rfl⟩, v4, hK⟩
          have HR4 : Hid (RunOn z4 x A cap m g (M.rj s0 g m (j1 + 1 + 1))) := hK.run
          have HS4 : Hid (Syn M s0 g m (j1 + 1 + 1) (emb .tr) (QpE Q emb)) := by
            have := hK.syn
            rw [HE.out.n3] at this
            exact this.weak (fun r hr => by rcases hr with rfl | hr; exact .inr ⟨.pt 0, rfl, rfl, rfl⟩; exact hr)
          have HB4 : Hid (But [x] w z4) := HB2.out.trans hK.but
          have s4 := HR4.out.blk.cell 2 (v := .bool (M.rj s0 g m (j1 + 1 + 1)).stop) rfl
          rw [rj_stop HS4.out] at s4
          have cz := HCN.out z4 HB4.out
          have hSt2 := syn_store HR4.out HS4.out HBD.out 7 yz2 (fun _ => HTR.out)
          clear hSt hK cg HB2 HR2 HS2
          by_cases hm4 : m < j1 + 1 + 1
          · rw [decide_eq_true hm4] at s4
            have HM : Hid (m < j1 + 1 + 1) := hm4
            clear hm4
            go_wp2_with fail
            go_at_call 96; refine hSt2.mono ?_; rintro e z5 ⟨⟨u5, rfl⟩, v5, hK⟩
            have HB5 : Hid (But [x] w z5) := HB4.out.trans hK.but
            have HS5 : Hid (Syn M s0 g m (j1 + 1 + 1 + 1) (emb .ct) (QpQ Q emb l l)) := ⟨fun h => absurd h (by have := HM.out; omega), fun h => ⟨(HS4.out.past HM.out).1.q, (HS4.out.past HM.out).2⟩⟩
            have hA := syn_add hK.run HS5.out HBD.out 8 (l.length : Int) (fun _ => HE.out.ct)
            clear hSt2 hK s4 cz
            go_wp2_with fail
            go_at_call 135; refine hA.mono ?_; rintro e z6 ⟨v6, rfl, hK⟩
            have HF : Hid (QpGotB (some ⟨b, off, none⟩) M emb l w x A cap m g s0 Q j (.returned (.slice (some ⟨b, off, none⟩) l.length cp)) z6) := ⟨_, l, j1 + 1 + 1 + 1 + 1, .over, rfl, HSL.out.but (HB5.out.trans hK.but) (HSX.out (by omega)), hK.run, ⟨fun h => absurd h (by have := HM.out; omega), fun h => ⟨(HS5.out.past (by have := HM.out; omega)).1, (HS5.out.past (by have := HM.out; omega)).2⟩⟩, rfl, fun h => absurd h (by have := HM.out; omega), HB5.out.trans hK.but, HJ.out 4, (fun _ _ _ e _ => by cases e; rfl)⟩
            clear hA hK
            go_wp2_with fail
            go_ret
            exact HF.out
          · rw [decide_eq_false hm4] at s4
            have HM : Hid (j1 + 1 + 1 ≤ m) := (by omega : j1 + 1 + 1 ≤ m)
            clear hm4
            go_wp2_with fail
            go_at_call 96; refine hSt2.mono ?_; rintro e z5 ⟨⟨u5, rfl⟩, v5, hK⟩
            have HB5 : Hid (But [x] w z5) := HB4.out.trans hK.but
            have HS5 : Hid (Syn M s0 g m (j1 + 1 + 1 + 1) (emb .ct) (QpQ Q emb l [])) := by
              have h5 := hK.syn
              rw [HE.out.n4] at h5
              refine ⟨h5.at', fun h => ⟨?_, (h5.past h).2⟩⟩
              have hmj : m = j1 + 1 + 1 := by have := HM.out; omega
              have h6 := HS4.out.at' HM.out
              rw [← hmj] at h6
              exact .inr ⟨.tr, rfl, h6, rfl⟩
            have hA := syn_add hK.run HS5.out HBD.out 8 (l.length : Int) (fun _ => HE.out.ct)
            clear hSt2 hK s4 cz
            go_wp2_with fail
            go_at_call 135; refine hA.mono ?_; rintro e z6 ⟨v6, rfl, hK⟩
            have HF : Hid (QpGotB (some ⟨b, off, none⟩) M emb l w x A cap m g s0 Q j (.returned (.slice none 0 0)) z6) := by
              have h7 := hK.syn
              rw [HE.out.n5] at h7
              exact ⟨_, [], j1 + 1 + 1 + 1 + 1, .over, rfl, ⟨none, 0, rfl, fun _ => ⟨rfl, rfl⟩, fun h => absurd h (by simp)⟩, hK.run, h7.weak (fun r hr => by rcases hr with rfl | hr; exact .inr ⟨.ct, rfl, rfl, rfl⟩; exact hr), rfl, fun _ => rfl, HB5.out.trans hK.but, HJ.out 4, (fun _ _ _ e h => by cases e; exact absurd h (by omega))⟩
            clear hA hK
            go_wp2_with fail
            go_ret
            exact HF.out
        · have ht0 : (t == 0) = false := by simpa using t0
          have ht1 : (t != 0) = true := by simpa using t0
          have HP0 : Hid (M.ax (emb (.pt t)) = some (axSt (wd (20 + P * 264 + T * 3) G 2 (gw t) 1) ya2)) := by have := HPT.out t; rw [if_neg t0] at this; exact this
          have hGA2 := HGA.out (gw t) z2
          have y0 := HX2.out.cell 0 (v := .int .i64 P) rfl
          have y1 := HX2.out.cell 1 (v := .int .i64 T) rfl
          have y2 := HX2.out.cell 2 (v := .int .i64 G) rfl
          have eg : wrap64 (IntKind.i64.wrap t - 1) = gw t := gw_eq t htb
          have HSt0 : Hid (∀ Y, Below z2.heap.size z2 Y → Calls Tryz.prog 96 #[.pointer (some ⟨x, 0, none⟩), .int .i64 (wd (20 + P * 264 + T * 3) G 2 (gw t) 1), .int .u64 ya2] Y fun e w' => (∃ v, e = .returned v) ∧ ∃ v, Kept' Y w' x A cap m g M s0 (j1 + 1) (emb (.pt t)) (QpE Q emb) v) := fun Y hY => syn_store (HR2.out.below hY) HS2.out HBD.out _ ya2 (fun _ => HP0.out)
          generalize wd (20 + P * 264 + T * 3) G 2 (gw t) 1 = at' at *
          generalize gw t = gt at *
          generalize hvv : IntKind.i64.wrap t = t' at *
          clear HPT HP0
          go_wp2_with fail
          go_at_call 97; refine hGA2.mono ?_; rintro e z3 ⟨rfl, k3⟩
          have hSt := HSt0.out z3 k3
          have HB2 : Hid (But [x] w z3) := HB2.out.trans (But.of_below k3)
          have cg := HC0.out z3 HB2.out
          clear hGA2 HSt0 k3 y0 y1 y2 HX2 eg hvv
          go_wp2_with fail
          go_at_call 96; refine hSt.mono ?_; rintro e z4 ⟨⟨u4, rfl⟩, v4, hK⟩
          have HR4 : Hid (RunOn z4 x A cap m g (M.rj s0 g m (j1 + 1 + 1))) := hK.run
          have HS4 : Hid (Syn M s0 g m (j1 + 1 + 1) (emb .tr) (QpE Q emb)) := by
            have := hK.syn
            rw [HE.out.n3] at this
            exact this.weak (fun r hr => by rcases hr with rfl | hr; exact .inr ⟨.pt t, rfl, rfl, rfl⟩; exact hr)
          have HB4 : Hid (But [x] w z4) := HB2.out.trans hK.but
          have s4 := HR4.out.blk.cell 2 (v := .bool (M.rj s0 g m (j1 + 1 + 1)).stop) rfl
          rw [rj_stop HS4.out] at s4
          have cz := HCN.out z4 HB4.out
          have hSt2 := syn_store HR4.out HS4.out HBD.out 7 yz2 (fun _ => HTR.out)
          clear hSt hK cg HB2 HR2 HS2
          by_cases hm4 : m < j1 + 1 + 1
          · rw [decide_eq_true hm4] at s4
            have HM : Hid (m < j1 + 1 + 1) := hm4
            clear hm4
            go_wp2_with fail
            go_at_call 96; refine hSt2.mono ?_; rintro e z5 ⟨⟨u5, rfl⟩, v5, hK⟩
            have HB5 : Hid (But [x] w z5) := HB4.out.trans hK.but
            have HS5 : Hid (Syn M s0 g m (j1 + 1 + 1 + 1) (emb .ct) (QpQ Q emb l l)) := ⟨fun h => absurd h (by have := HM.out; omega), fun h => ⟨(HS4.out.past HM.out).1.q, (HS4.out.past HM.out).2⟩⟩
            have hA := syn_add hK.run HS5.out HBD.out 8 (l.length : Int) (fun _ => HE.out.ct)
            clear hSt2 hK s4 cz
            go_wp2_with fail
            go_at_call 135; refine hA.mono ?_; rintro e z6 ⟨v6, rfl, hK⟩
            have HF : Hid (QpGotB (some ⟨b, off, none⟩) M emb l w x A cap m g s0 Q j (.returned (.slice (some ⟨b, off, none⟩) l.length cp)) z6) := ⟨_, l, j1 + 1 + 1 + 1 + 1, .over, rfl, HSL.out.but (HB5.out.trans hK.but) (HSX.out (by omega)), hK.run, ⟨fun h => absurd h (by have := HM.out; omega), fun h => ⟨(HS5.out.past (by have := HM.out; omega)).1, (HS5.out.past (by have := HM.out; omega)).2⟩⟩, rfl, fun h => absurd h (by have := HM.out; omega), HB5.out.trans hK.but, HJ.out 4, (fun _ _ _ e _ => by cases e; rfl)⟩
            clear hA hK
            go_wp2_with fail
            go_ret
            exact HF.out
          · rw [decide_eq_false hm4] at s4
            have HM : Hid (j1 + 1 + 1 ≤ m) := (by omega : j1 + 1 + 1 ≤ m)
            clear hm4
            go_wp2_with fail
            go_at_call 96; refine hSt2.mono ?_; rintro e z5 ⟨⟨u5, rfl⟩, v5, hK⟩
            have HB5 : Hid (But [x] w z5) := HB4.out.trans hK.but
            have HS5 : Hid (Syn M s0 g m (j1 + 1 + 1 + 1) (emb .ct) (QpQ Q emb l [])) := by
              have h5 := hK.syn
              rw [HE.out.n4] at h5
              refine ⟨h5.at', fun h => ⟨?_, (h5.past h).2⟩⟩
              have hmj : m = j1 + 1 + 1 := by have := HM.out; omega
              have h6 := HS4.out.at' HM.out
              rw [← hmj] at h6
              exact .inr ⟨.tr, rfl, h6, rfl⟩
            have hA := syn_add hK.run HS5.out HBD.out 8 (l.length : Int) (fun _ => HE.out.ct)
            clear hSt2 hK s4 cz
            go_wp2_with fail
            go_at_call 135; refine hA.mono ?_; rintro e z6 ⟨v6, rfl, hK⟩
            have HF : Hid (QpGotB (some ⟨b, off, none⟩) M emb l w x A cap m g s0 Q j (.returned (.slice none 0 0)) z6) := by
              have h7 := hK.syn
              rw [HE.out.n5] at h7
              exact ⟨_, [], j1 + 1 + 1 + 1 + 1, .over, rfl, ⟨none, 0, rfl, fun _ => ⟨rfl, rfl⟩, fun h => absurd h (by simp)⟩, hK.run, h7.weak (fun r hr => by rcases hr with rfl | hr; exact .inr ⟨.ct, rfl, rfl, rfl⟩; exact hr), rfl, fun _ => rfl, HB5.out.trans hK.but, HJ.out 4, (fun _ _ _ e h => by cases e; exact absurd h (by omega))⟩
            clear hA hK
            go_wp2_with fail
            go_ret
            exact HF.out
theorem syn_qput {σ : Type} {M : PM σ} {P T G : Int} {l : List Int} {emb : QpT → σ} (hE : QpIn M (fun y => wd (20 + P * 264 + T * 3) G 2 y 1) l emb) (hp : 0 ≤ P ∧ P ≤ 64) (hT : 0 ≤ T ∧ T ≤ 65536) (hG : 0 ≤ G ∧ G ≤ 65536) (hn : l.length ≤ 1000000)
    {w : World} {x : Nat} {A B : Option Addr} {cap cp m : Nat} {g : Nat → Int} {s0 : σ} {j : Nat} {Q : σ → Prop} (hs : SeesL w (.slice B l.length cp) l) (hsx : 0 < l.length → ∀ b off : Nat, B = some ⟨b, off, none⟩ → b ≠ x) (hR : RunOn w x A cap m g (M.rj s0 g m j)) (hS : Syn M s0 g m j (emb (qpStart l)) Q) (hb : ∀ j, j < m → 0 ≤ g j ∧ g j ≤ 18446744073709551615) :
    Calls Tryz.prog 130 #[.pointer (some ⟨x, 0, none⟩), .agg #[.int .i64 P, .int .i64 T, .int .i64 G], .slice B l.length cp] w fun e w' => QpGot M emb l w x A cap m g s0 Q j e w' :=
  (syn_qputB hE hp hT hG hn hs hsx hR hS hb).mono fun e w' ⟨v, held, j', p, a1, a2, a3, a4, a5, a6, a7, a8, _⟩ => ⟨v, held, j', p, a1, a2, a3, a4, a5, a6, a7, a8⟩
end Go.Proofs.YtcjidigpdecdlaaGreat

namespace Go.Proofs.YtcjidigpdecdlaaGreat
open Go Go.RowKit
set_option linter.unusedVariables false
set_option maxRecDepth 100000
set_option linter.unusedSimpArgs false

theorem rqput_on (w : World) (x : Nat) (A B : Option Addr) (cap cp m : Nat) (gf : Nat → Int) (P T G : Int) (l : List Int) (t : QpT) (h : RunOn w x A cap m gf rn0) (hh : Hist (qpPM (fun y => wd (20 + P * 264 + T * 3) G 2 y 1) l) (qpStart l) gf m t) (hp : 0 ≤ P ∧ P ≤ 64) (hT : 0 ≤ T ∧ T ≤ 65536) (hG : 0 ≤ G ∧ G ≤ 65536) (hn : l.length ≤ 1000000)
    (hs : SeesL w (.slice B l.length cp) l) (hsx : 0 < l.length → ∀ b off : Nat, B = some ⟨b, off, none⟩ → b ≠ x) :
    Calls Tryz.prog 130 #[.pointer (some ⟨x, 0, none⟩), .agg #[.int .i64 P, .int .i64 T, .int .i64 G], .slice B l.length cp] w fun e w' => ∃ v, e = .returned v ∧ SeesL w' v (if t.lies = true then [] else l) ∧ RunOn w' x A cap m gf ((qpPM (fun y => wd (20 + P * 264 + T * 3) G 2 y 1) l).rn t m) ∧ But [x] w w' := by
  rw [← rj_start (M := qpPM (fun y => wd (20 + P * 264 + T * 3) G 2 y 1) l) (s0 := qpStart l) (g := gf) (m := m)] at h
  refine (syn_qput (qp_in _ l) hp hT hG hn hs hsx h (Syn.start _ _ _ _) hh.bd).mono ?_
  rintro e w' ⟨v, held, j', p, rfl, h0, h1, h2, h3, h4, h5, -⟩
  have hn' : (qpPM (fun y => wd (20 + P * 264 + T * 3) G 2 y 1) l).ax p = none := by cases p <;> first | rfl | cases h3
  have hr : held = if t.lies = true then [] else l := by
    rcases h2.fin hh (fun _ => hn') with ⟨e1, e2⟩ | ⟨-, (⟨hf, -⟩ | ⟨p', -, e1, e2⟩)⟩
    · rw [e1]; exact h4 (by omega)
    · exact hf.elim
    · rw [e1]; exact e2
  rw [← hr]
  refine ⟨v, rfl, h0, ?_, h5⟩
  rw [← rj_end h2 hh (fun _ => hn')]
  exact h1
theorem qp_axok (gl : Int → Int) (l : List Int) (hn : l.length ≤ 1000000) : ∀ t a, (qpPM gl l).ax t = some a → a.Ok := by
  intro t a h
  cases t with
  | ch k =>
    cases h
    have := qwd_bd (l.getD (k + 1) 0)
    refine axSt_ok _ _ ?_
    split <;> omega
  | ld => cases h; exact axLd_ok _
  | pt t => cases h; exact axSt_ok _ _ (qwd_bd _)
  | tr => cases h; exact axSt_ok _ _ (qwd_bd _)
  | ct => cases h; exact axAd_ok _ _ (by omega)
  | over => cases h
  | done0 => cases h
theorem qp_new_any (w : World) (cl : Nat) (who P T G : Int) (sl : Value) (l : List Int) (hs : SeesL w sl l) (hn : l.length ≤ 1000000) (hl : Lay w cl P T G) (hp : 0 ≤ P ∧ P ≤ 64) (hT : 0 ≤ T ∧ T ≤ 65536) (hG : 0 ≤ G ∧ G ≤ 65536) :
    Calls Tryz.prog 181 #[.pointer (some ⟨cl, 0, none⟩), .int .i64 who, sl] w fun e w' => ∃ x L, e = .returned (.pointer (some ⟨x, 0, none⟩)) ∧ qpI who cl (fun y => wd (20 + P * 264 + T * 3) G 2 y 1) l w' x (qpStart l) L ∧ Below w.heap.size w w' ∧ (∀ k ∈ L, w.heap.size ≤ k) := by
  by_cases h0 : l = []
  · subst h0
    refine (qp_new_nil w cl who (fun y => wd (20 + P * 264 + T * 3) G 2 y 1) sl hs).mono ?_
    rintro e w' ⟨x, L, h1, h2, h3, h4, -⟩
    exact ⟨x, L, h1, h2, h3, h4⟩
  · refine (qp_new_some w cl who P T G sl l hs (List.length_pos_iff.2 h0) hn hl hp hT hG).mono ?_
    rintro e w' ⟨x, L, h1, h2, h3, h4, -⟩
    refine ⟨x, L, h1, ?_, h3, h4⟩
    rw [show qpStart l = .ch 0 from if_neg h0]
    exact h2
def knownL (G : Int) (l : List Int) : Bool := l.all (fun y => decide (0 ≤ y ∧ y < G))
end Go.Proofs.YtcjidigpdecdlaaGreat

namespace Go.Proofs.YtcjidigpdecdlaaGreat
open Go Go.RowKit
set_option linter.unusedVariables false
set_option maxRecDepth 100000
set_option linter.unusedSimpArgs false

theorem sc_of (w : World) (x c : Nat) (who p g : Int) (cs cs' : Array Value) (T : TypeId) (h : Blk w x cs T) (hs : 5 ≤ cs.size) (hcs : (((cs.setIfInBounds 2 (.pointer (some ⟨c, 0, none⟩))).setIfInBounds 3 (.int .i64 p)).setIfInBounds 4 (.int .i64 g)).setIfInBounds 0 (.int .i64 who) = cs') :
    Calls Tryz.prog 132 #[.pointer (some ⟨x, 0, none⟩), .pointer (some ⟨c, 0, none⟩), .int .i64 who, .int .i64 p, .int .i64 g] w fun e w' => (∃ v, e = .returned v) ∧ Blk w' x cs' T ∧ But [x] w w' ∧ w'.heap.size = w.heap.size := by
  have f2 := h.fro 2
  have f3 := h.fro 3
  have f4 := h.fro 4
  have hh2 := ((h.set 2 (.pointer (some ⟨c, 0, none⟩))).set 3 (.int .i64 p)).set 4 (.int .i64 g)
  obtain ⟨V, hV⟩ : ∃ V, ((w.setCell ⟨x, 2, none⟩ (.pointer (some ⟨c, 0, none⟩))).setCell ⟨x, 3, none⟩ (.int .i64 p)).setCell ⟨x, 4, none⟩ (.int .i64 g) = V := ⟨_, rfl⟩
  have hB0 : But [x] w V := by rw [← hV]; exact (((But.refl _ w).set (g := x) (.inl (by simp)) 2 _).set (g := x) (.inl (by simp)) 3 _).set (g := x) (.inl (by simp)) 4 _
  have hsz : V.heap.size = w.heap.size := by rw [← hV, size_set, size_set, size_set]
  rw [hV] at hh2
  have hF := fof_any V x _ T who hh2 (by simp; omega)
  obtain ⟨u2, hu2⟩ : ∃ u, w.cell? ⟨x, 2, none⟩ = some u := ⟨_, h.cell 2 (Array.getElem?_eq_getElem (by omega))⟩
  obtain ⟨u3, hu3⟩ : ∃ u, w.cell? ⟨x, 3, none⟩ = some u := ⟨_, h.cell 3 (Array.getElem?_eq_getElem (by omega))⟩
  obtain ⟨u4, hu4⟩ : ∃ u, w.cell? ⟨x, 4, none⟩ = some u := ⟨_, h.cell 4 (Array.getElem?_eq_getElem (by omega))⟩
  have HH : Hid (Blk V x _ T ∧ But [x] w V ∧ V.heap.size = w.heap.size) := ⟨hh2, hB0, hsz⟩
  clear h hh2 hB0 hs hsz
  go_enter Tryz.func132, Tryz.ntmps132
  go_wp2_with fail
  try rw [hV]
  go_at_call 153; refine hF.mono ?_; rintro e w3 ⟨⟨v, rfl⟩, hw3⟩
  have h3 : Blk w3 x cs' T := by rw [hw3, ← hcs]; exact HH.out.1.set 0 _
  have hB3 : But [x] w w3 := by rw [hw3]; exact HH.out.2.1.set (g := x) (.inl (by simp)) 0 _
  have hs3 : w3.heap.size = w.heap.size := by rw [hw3, size_set]; exact HH.out.2.2
  clear hF hw3 HH hcs hu2 hu3 hu4 f2 f3 f4 hV
  go_wp2_with fail
  go_end0
  exact ⟨⟨_, rfl⟩, h3, hB3, hs3⟩
section
variable (w : World) (x cl : Nat) (who p g : Int) (cs : Array Value) (T : TypeId) (h : Blk w x cs T) (hs : 5 ≤ cs.size) (h0 : cs[0]? = some (.int .i64 who)) (h2 : cs[2]? = some (.pointer (some ⟨cl, 0, none⟩)))
include h hs h2
theorem sc_tell (h4 : cs[4]? = some (.int .i64 g)) (what : Int) (K : Nat) (P T' G : Int) (hl : Lay w cl P T' G) (hp : 0 ≤ P ∧ P ≤ 64) (hT : 0 ≤ T' ∧ T' ≤ 65536) (hG : G ≤ 65536) :
    Calls Tryz.prog 133 #[.pointer (some ⟨x, 0, none⟩), .int .u64 what, .func (.func K) #[.pointer (some ⟨x, 0, none⟩)] #[]] w fun e w' => (∃ v, e = .returned v) ∧ Came w w' x cs T (axSt (wd (20 + P * 264 + T' * 3) G 2 g 0) what) (.untold K) := by
  have hD : Hid (Below w.heap.size w w.drew) := (Below.refl _ _).drew
  have hGw := g_word cl P T' G g 0 w.drew (hl.below hD.out hl.lt) hp hT hG
  have HS : Hid (∀ Y, Below w.drew.heap.size w.drew Y → Calls Tryz.prog 125 #[.pointer (some ⟨x, 0, none⟩), .int .i64 (wd (20 + P * 264 + T' * 3) G 2 g 0), .int .u64 what, .func (.func K) #[.pointer (some ⟨x, 0, none⟩)] #[]] Y fun e w' => (∃ v, e = .returned v) ∧ Came w w' x cs T (axSt (wd (20 + P * 264 + T' * 3) G 2 g 0) what) (.untold K)) := by
    intro Y hY
    refine (came_store Y x cs T (h.drew.but (But.of_below (l := []) hY) (by simp)) (by omega) _ what K).mono ?_
    rintro e w5 ⟨hv, hC⟩
    exact ⟨hv, hC.before (((But.refl [x] w).drew).trans (But.of_below hY))⟩
  generalize wd (20 + P * 264 + T' * 3) G 2 g 0 = at' at *
  have hH : Hid (w.drew.cell? ⟨x, 2, none⟩ = some (.pointer (some ⟨cl, 0, none⟩)) ∧ w.drew.cell? ⟨x, 4, none⟩ = some (.int .i64 g)) := ⟨h.drew.cell 2 h2, h.drew.cell 4 h4⟩
  have KB : Hid (∀ w4, Below w.drew.heap.size w.drew w4 → w4.cell? ⟨x, 2, none⟩ = some (.pointer (some ⟨cl, 0, none⟩)) ∧ w4.cell? ⟨x, 4, none⟩ = some (.int .i64 g)) := fun w4 k => ⟨(h.drew.but (But.of_below (l := []) k) (by simp)).cell 2 h2, (h.drew.but (But.of_below (l := []) k) (by simp)).cell 4 h4⟩
  have KC : Hid (∀ w5, Came w w5 x cs T (axSt at' what) (.untold K) → w5.cell? ⟨x, 2, none⟩ = some (.pointer (some ⟨cl, 0, none⟩)) ∧ w5.cell? ⟨x, 4, none⟩ = some (.int .i64 g)) := fun w5 hC => by
    obtain ⟨q, Lc, h1, -⟩ := hC
    exact ⟨h1.cell 2 (by rw [Array.getElem?_setIfInBounds, if_neg (by omega)]; exact h2), h1.cell 4 (by rw [Array.getElem?_setIfInBounds, if_neg (by omega)]; exact h4)⟩
  clear h hl hp hT hG hD hs h2 h4
  go_enter Tryz.func133, Tryz.ntmps133
  go_wp2_with fail
  go_region_held3 (fun w' => w'.cell? ⟨x, 2, none⟩ = some (.pointer (some ⟨cl, 0, none⟩)) ∧ w'.cell? ⟨x, 4, none⟩ = some (.int .i64 g)) (first | exact hH.out | exact KB.out _ ‹_› | exact KC.out _ ‹_›) (first | (go_at_call 145; refine hGw.mono ?_; rintro e x3 ⟨rfl, g3⟩) | (go_at_call 125; refine (HS.out _ ‹_›).mono ?_; rintro e x4 ⟨⟨u, rfl⟩, hC⟩))
  all_goals
    clear hGw HS hH KB KC
    go_wp2_with fail
    go_end0
    exact ⟨⟨_, rfl⟩, hC⟩
theorem sc_count (h3 : cs[3]? = some (.int .i64 p)) (K : Nat) (P T' G : Int) (hl : Lay w cl P T' G) (hp : 0 ≤ P ∧ P ≤ 64) :
    Calls Tryz.prog 184 #[.pointer (some ⟨x, 0, none⟩), .func (.func K) #[.pointer (some ⟨x, 0, none⟩)] #[]] w fun e w' => (∃ v, e = .returned v) ∧ Came w w' x cs T (axAd (wd 20 P 264 p 5) 1) (.told K) := by
  have hD : Hid (Below w.heap.size w w.drew) := (Below.refl _ _).drew
  have hGw := lprc_any _ P T' G p 5 w.drew (.some cl (hl.below hD.out hl.lt)) hp (by omega)
  have HS : Hid (∀ Y, Below w.drew.heap.size w.drew Y → Calls Tryz.prog 220 #[.pointer (some ⟨x, 0, none⟩), .int .i64 (wd 20 P 264 p 5), .int .u64 1, .func (.func K) #[.pointer (some ⟨x, 0, none⟩)] #[]] Y fun e w' => (∃ v, e = .returned v) ∧ Came w w' x cs T (axAd (wd 20 P 264 p 5) 1) (.told K)) := by
    intro Y hY
    refine (came_add Y x cs T (h.drew.but (But.of_below (l := []) hY) (by simp)) (by omega) _ 1 K).mono ?_
    rintro e w5 ⟨hv, hC⟩
    exact ⟨hv, hC.before (((But.refl [x] w).drew).trans (But.of_below hY))⟩
  generalize wd 20 P 264 p 5 = at' at *
  have hH : Hid (w.drew.cell? ⟨x, 2, none⟩ = some (.pointer (some ⟨cl, 0, none⟩)) ∧ w.drew.cell? ⟨x, 3, none⟩ = some (.int .i64 p)) := ⟨h.drew.cell 2 h2, h.drew.cell 3 h3⟩
  have KB : Hid (∀ w4, Below w.drew.heap.size w.drew w4 → w4.cell? ⟨x, 2, none⟩ = some (.pointer (some ⟨cl, 0, none⟩)) ∧ w4.cell? ⟨x, 3, none⟩ = some (.int .i64 p)) := fun w4 k => ⟨(h.drew.but (But.of_below (l := []) k) (by simp)).cell 2 h2, (h.drew.but (But.of_below (l := []) k) (by simp)).cell 3 h3⟩
  have KC : Hid (∀ w5, Came w w5 x cs T (axAd at' 1) (.told K) → w5.cell? ⟨x, 2, none⟩ = some (.pointer (some ⟨cl, 0, none⟩)) ∧ w5.cell? ⟨x, 3, none⟩ = some (.int .i64 p)) := fun w5 hC => by
    obtain ⟨q, Lc, h1, -⟩ := hC
    exact ⟨h1.cell 2 (by rw [Array.getElem?_setIfInBounds, if_neg (by omega)]; exact h2), h1.cell 3 (by rw [Array.getElem?_setIfInBounds, if_neg (by omega)]; exact h3)⟩
  clear h hl hp hD hs h2 h3
  go_enter Tryz.func184, Tryz.ntmps184
  go_wp2_with fail
  go_region_held3 (fun w' => w'.cell? ⟨x, 2, none⟩ = some (.pointer (some ⟨cl, 0, none⟩)) ∧ w'.cell? ⟨x, 3, none⟩ = some (.int .i64 p)) (first | exact hH.out | exact KB.out _ ‹_› | exact KC.out _ ‹_›) (first | (go_at_call 174; refine hGw.mono ?_; rintro e x3 ⟨rfl, g3⟩) | (go_at_call 220; refine (HS.out _ ‹_›).mono ?_; rintro e x4 ⟨⟨u, rfl⟩, hC⟩))
  all_goals
    clear hGw HS hH KB KC
    go_wp2_with fail
    go_end0
    exact ⟨⟨_, rfl⟩, hC⟩
omit hs in
theorem sc_status (q : Int) (P T' G : Int) (hl : Lay w cl P T' G) (hp : 0 ≤ P ∧ P ≤ 64) :
    Calls Tryz.prog 140 #[.pointer (some ⟨x, 0, none⟩), .int .i64 q] w fun e w' => e = .returned (.int .i64 (wd 20 P 264 q 0)) ∧ Below w.heap.size w w' := by
  have hGw := lprc_any _ P T' G q 0 w (.some cl hl) hp (by omega)
  have c2 := h.cell 2 h2
  clear h hl hp h2
  go_enter Tryz.func140, Tryz.ntmps140
  go_wp2_with fail
  go_at_call 174; refine hGw.mono ?_; rintro e w3 ⟨rfl, g3⟩
  clear hGw c2
  go_wp2_with fail
  go_ret
  exact ⟨rfl, g3⟩
end
/-- Going into a system call. -/
def siCells (who : Int) (nx : Option Addr) (cl : Nat) (p g : Int) (wt : Bool) : Array Value := #[.int .i64 who, .pointer nx, .pointer (some ⟨cl, 0, none⟩), .int .i64 p, .int .i64 g, .bool wt]
section
variable (w : World) (x cl : Nat) (who p g : Int) (wt : Bool) (nx : Option Addr) (h : Blk w x (siCells who nx cl p g wt) 199)
include h
theorem si_goIn (P T G : Int) (hl : Lay w cl P T G) (hxc : cl ≠ x) (hp : 0 ≤ P ∧ P ≤ 64) :
    Calls Tryz.prog 134 #[.pointer (some ⟨x, 0, none⟩)] w fun e w' => (∃ v, e = .returned v) ∧ Came w w' x (siCells who nx cl p g true) 199 (axAd (wd 20 P 264 p 5) 1) (.told 185) := by
  have c5 := h.cell 5 (v := .bool wt) rfl
  have f5 := h.fro 5
  have h' : Blk (w.setCell ⟨x, 5, none⟩ (.bool true)) x (siCells who nx cl p g true) 199 := h.set 5 (.bool true)
  have hB : But [x] w (w.setCell ⟨x, 5, none⟩ (.bool true)) := (But.refl _ w).set (g := x) (.inl (by simp)) 5 _
  have hl' : Lay (w.setCell ⟨x, 5, none⟩ (.bool true)) cl P T G := (hB.block cl hl.lt (by simpa using hxc)).trans hl
  generalize hV : (w.setCell ⟨x, 5, none⟩ (.bool true)) = V at h' hB hl'
  have H := sc_count V x cl p _ 199 h' (by simp [siCells]) rfl rfl 185 P T G hl' hp
  clear h h' hl hl' hp hxc
  go_enter Tryz.func134, Tryz.ntmps134
  go_wp2_with fail
  try rw [hV]
  clear hV c5 f5
  go_at_call 184; refine H.mono ?_; rintro e w1 ⟨⟨v, rfl⟩, hC⟩
  have hC2 := hC.before hB
  clear H hC hB
  go_wp2_with fail
  go_end0
  exact ⟨⟨_, rfl⟩, hC2⟩
theorem si_leave (u P T G : Int) (hl : Lay w cl P T G) (hp : 0 ≤ P ∧ P ≤ 64) :
    Calls Tryz.prog 185 #[.pointer (some ⟨x, 0, none⟩), .int .u64 u] w fun e w' => (∃ v, e = .returned v) ∧ Came w w' x (siCells who nx cl p g wt) 199 (axSt (wd 20 P 264 p 0) 2) .nil := by
  have hD : Hid (Below w.heap.size w w.drew) := (Below.refl _ _).drew
  have hGw := sc_status w.drew x cl _ 199 h.drew rfl p P T G (hl.below hD.out hl.lt) hp
  have HS : Hid (∀ Y, Below w.drew.heap.size w.drew Y → Calls Tryz.prog 125 #[.pointer (some ⟨x, 0, none⟩), .int .i64 (wd 20 P 264 p 0), .int .u64 2, .nilFunc] Y fun e w' => (∃ v, e = .returned v) ∧ Came w w' x (siCells who nx cl p g wt) 199 (axSt (wd 20 P 264 p 0) 2) .nil) := by
    intro Y hY
    refine (came_store_nil Y x _ 199 (h.drew.but (But.of_below (l := []) hY) (by simp)) (by simp [siCells]) _ 2).mono ?_
    rintro e w5 ⟨hv, hC⟩
    exact ⟨hv, hC.before (((But.refl [x] w).drew).trans (But.of_below hY))⟩
  generalize wd 20 P 264 p 0 = at' at *
  have hH : Hid (w.drew.cell? ⟨x, 3, none⟩ = some (.int .i64 p)) := h.drew.cell 3 (v := .int .i64 p) rfl
  have KB : Hid (∀ w4, Below w.drew.heap.size w.drew w4 → w4.cell? ⟨x, 3, none⟩ = some (.int .i64 p)) := fun w4 k => (h.drew.but (But.of_below (l := []) k) (by simp)).cell 3 rfl
  have KC : Hid (∀ w5, Came w w5 x (siCells who nx cl p g wt) 199 (axSt at' 2) .nil → w5.cell? ⟨x, 3, none⟩ = some (.int .i64 p)) := fun w5 hC => by
    obtain ⟨q, Lc, h1, -⟩ := hC
    exact h1.cell 3 rfl
  clear h hl hp hD
  go_enter Tryz.func185, Tryz.ntmps185
  go_wp2_with fail
  go_region_held3 (fun w' => w'.cell? ⟨x, 3, none⟩ = some (.int .i64 p)) (first | exact hH.out | exact KB.out _ ‹_› | exact KC.out _ ‹_›) (first | (go_at_call 140; refine hGw.mono ?_; rintro e x3 ⟨rfl, g3⟩) | (go_at_call 125; refine (HS.out _ ‹_›).mono ?_; rintro e x4 ⟨⟨u, rfl⟩, hC⟩))
  all_goals
    clear hGw HS hH KB KC
    go_wp2_with fail
    go_end0
    exact ⟨⟨_, rfl⟩, hC⟩
theorem si_went : Calls Tryz.prog 66 #[.pointer (some ⟨x, 0, none⟩)] w fun e w' => e = .returned (.bool wt) ∧ w = w' := by
  have c5 := h.cell 5 (v := .bool wt) rfl
  clear h
  go_enter Tryz.func66, Tryz.ntmps66
  go_wp2_with fail
  go_ret
  exact ⟨rfl, rfl⟩
end
theorem si_went_nil (w : World) : Calls Tryz.prog 66 #[.pointer none] w fun e w' => e = .returned (.bool false) ∧ w = w' := by
  go_enter Tryz.func66, Tryz.ntmps66
  go_wp2_with fail
  go_ret
  exact ⟨rfl, rfl⟩
inductive SiT where
  | a
  | b
  | c
  | over
def SiT.went : SiT → Bool
  | .a => false
  | _ => true
def siPM (P T G p g : Int) : PM SiT where
  ax := fun
    | .a => some (axSt (wd (20 + P * 264 + T * 3) G 2 g 0) 4)
    | .b => some (axAd (wd 20 P 264 p 5) 1)
    | .c => some (axSt (wd 20 P 264 p 0) 2)
    | .over => none
  nx := fun
    | .a, _ => .b
    | .b, _ => .c
    | _, _ => .over
def siFl (who p g : Int) (cl : Nat) : Fl SiT where
  T := 199
  cells := fun t nx => siCells who nx cl p g t.went
  fol := fun
    | .a => .untold 134
    | .b => .told 185
    | _ => .nil
  ok := fun _ => True
theorem ent_si1 : Ent 134 := fun args w => by kernel_rfl
theorem ent_si2 : Ent 185 := fun args w => by kernel_rfl
theorem si_laws (who P T G p g : Int) (cl : Nat) (hp : 0 ≤ P ∧ P ≤ 64) : (siFl who p g cl).Laws (siPM P T G p g) (Rd.lay cl P T G) who where
  c0 := fun t nx => rfl
  c1 := fun t nx => rfl
  set := fun t nx nx' => rfl
  axok := fun t a _ h => by
    cases t <;> cases h
    · exact axSt_ok _ _ (by omega)
    · exact axAd_ok _ _ (by omega)
    · exact axSt_ok _ _ (by omega)
  ents := fun t a h => by
    cases t <;> cases h
    · exact ent_si1
    · exact ent_si2
    · exact trivial
  ok := fun _ _ _ _ _ _ => trivial
  fol := fun W x t a v _ h hv hB hR hxR => by
    have hcx : cl ≠ x := fun e => hxR (by rw [e]; exact List.mem_singleton.2 rfl)
    cases t <;> cases h
    · exact si_goIn W x cl who p g false none hB P T G hR hcx hp
    · exact si_leave W x cl who p g true none hB v P T G hR hp
    · exact ⟨hB, But.refl _ _⟩
set_option maxHeartbeats 2000000 in
theorem si_new (w : World) (cl : Nat) (who P T G p g : Int) (hl : Lay w cl P T G) (hp : 0 ≤ P ∧ P ≤ 64) (hT : 0 ≤ T ∧ T ≤ 65536) (hG : G ≤ 65536) :
    Calls Tryz.prog 63 #[.pointer (some ⟨cl, 0, none⟩), .int .i64 who, .int .i64 p, .int .i64 g] w fun e w' => ∃ x L, e = .returned (.pointer (some ⟨x, 0, none⟩)) ∧ (siFl who p g cl).I (siPM P T G p g) w' x .a L ∧ Below w.heap.size w w' ∧ (∀ k ∈ L, w.heap.size ≤ k) ∧ w.heap.size ≤ x := by
  have hB := Blk.new w #[.int .i64 0, .pointer none, .pointer none, .int .i64 0, .int .i64 0, .bool false] 199
  have hb : Below w.heap.size w (w.alloc (.cells #[.int .i64 0, .pointer none, .pointer none, .int .i64 0, .int .i64 0, .bool false] 199)) := (Below.refl _ _).alloc (Nat.le_refl _) _
  have hO := sc_of _ w.heap.size cl who p g _ (siCells who none cl p g false) 199 hB (by simp) rfl
  have HH : Hid (Below w.heap.size w (w.alloc (.cells #[.int .i64 0, .pointer none, .pointer none, .int .i64 0, .int .i64 0, .bool false] 199)) ∧ Lay w cl P T G) := ⟨hb, hl⟩
  have hsz := World.size_alloc w (.cells #[.int .i64 0, .pointer none, .pointer none, .int .i64 0, .int .i64 0, .bool false] 199)
  have HP : Hid ((0 ≤ P ∧ P ≤ 64) ∧ (0 ≤ T ∧ T ≤ 65536) ∧ G ≤ 65536) := ⟨hp, hT, hG⟩
  clear hB hb hl hp hT hG
  go_enter Tryz.func63, Tryz.ntmps63
  go_wp2_with fail
  go_at_call 132; refine hO.mono ?_; rintro e w1 ⟨⟨v, rfl⟩, h1, h2, h3⟩
  have hb1 : Hid (Below w.heap.size w w1) := HH.out.1.trans (h2.below (by simp) (by rw [hsz]; omega))
  have hlt := h1.lt
  have hL := sc_tell w1 w.heap.size cl g _ 199 h1 (by simp [siCells]) rfl rfl 4 134 P T G (HH.out.2.below hb1.out HH.out.2.lt) HP.out.1 HP.out.2.1 HP.out.2.2
  clear hO h1 h2 h3 HH hsz
  go_wp2_with fail
  go_at_call 133; refine hL.mono ?_; rintro e w2 ⟨⟨v2, rfl⟩, hC⟩
  obtain ⟨q, Lc, c1, c2, c3, c4⟩ := hC
  have hF : Hid ((siFl who p g cl).I (siPM P T G p g) w2 w.heap.size .a (w.heap.size :: Lc) ∧ Below w.heap.size w w2 ∧ ∀ k ∈ w.heap.size :: Lc, w.heap.size ≤ k) := by
    refine ⟨⟨trivial, q, Lc, c1, c2, fun hm => by have := c4 _ hm; omega, rfl⟩, hb1.out.trans (c3.below (by simp) hb1.out.size), fun k hk => ?_⟩
    have := hb1.out.size
    simp at hk
    rcases hk with rfl | hk
    · exact Nat.le_refl _
    · have := c4 k hk; omega
  clear hL c1 c2 c3 c4 hb1 HP
  go_wp2_with fail
  go_ret
  exact ⟨w.heap.size, w.heap.size :: Lc, rfl, hF.out.1, hF.out.2.1, hF.out.2.2, Nat.le_refl _⟩
theorem si_tells {who p g P T G : Int} {cl : Nat} {w : World} {x : Nat} {t : SiT} {L : List Nat} (h : (siFl who p g cl).I (siPM P T G p g) w x t L) :
    Calls Tryz.prog 66 #[.pointer (some ⟨x, 0, none⟩)] w fun e w' => e = .returned (.bool t.went) ∧ w = w' := by
  obtain ⟨nx, h1, -⟩ := Fl.blk h
  exact si_went w x cl who p g t.went nx h1
end Go.Proofs.YtcjidigpdecdlaaGreat

namespace Go.Proofs.YtcjidigpdecdlaaGreat
open Go Go.RowKit
set_option linter.unusedVariables false
set_option maxRecDepth 100000
set_option linter.unusedSimpArgs false

theorem rbit_any (p : Int) (w : World) : Calls Tryz.prog 191 #[.int .i64 p] w fun e w' => e = .returned (.int .u64 (bitOf p)) ∧ w = w' := by
  by_cases h0 : p < 0
  · have e : bitOf p = 0 := by unfold bitOf; rw [if_neg (by omega)]
    rw [e]
    go_enter Tryz.func191, Tryz.ntmps191
    go_wp2_with fail
    go_ret
    exact ⟨rfl, rfl⟩
  · have d0 : decide (p < 0) = false := decide_eq_false h0
    by_cases h1 : 63 < p
    · have e : bitOf p = 0 := by unfold bitOf; rw [if_neg (by omega)]
      rw [e]
      clear h0
      go_enter Tryz.func191, Tryz.ntmps191
      go_wp2_with fail
      go_ret
      exact ⟨rfl, rfl⟩
    · have d1 : decide (63 < p) = false := decide_eq_false h1
      obtain ⟨n, rfl⟩ : ∃ n : Nat, p = n := ⟨p.toNat, by omega⟩
      have e : bitOf (n : Int) = ((2 ^ n : Nat) : Int) := by unfold bitOf; rw [if_pos (by omega)]; rfl
      have HN : Hid (n ≤ 63) := (by omega : n ≤ 63)
      rw [e]
      clear h0 h1 e
      go_enter Tryz.func191, Tryz.ntmps191
      go_wp2_with fail
      go_loopw [3, 4] (fun o i wr => ∃ k z : Nat, k ≤ n ∧ o = .int .u64 (z : Int) ∧ i = .int .i64 k ∧ wr = w ∧ Hid (z = 2 ^ k)) (fun _ i _ => n - (intOf i).toNat)
      case atStart => exact ⟨0, 1, Nat.zero_le _, rfl, rfl, rfl, rfl⟩
      case round =>
        obtain ⟨k, z, hk, rfl, rfl, rfl, HZ⟩ := hrel
        have hn63 := HN.out
        by_cases hlt : k < n
        · have hz : z ≤ 2 ^ 62 := by rw [HZ.out]; exact Nat.pow_le_pow_right (by omega) (by omega)
          have e2 : IntKind.u64.wrap (2 * (z : Int)) = ((2 * z : Nat) : Int) := by rw [wrap_u64 (by omega)]; omega
          have HZ2 : Hid (2 * z = 2 ^ (k + 1)) := (by rw [Nat.pow_succ, HZ.out]; omega : 2 * z = 2 ^ (k + 1))
          generalize 2 * z = z' at *
          have hk1 : (k : Int) < (n : Int) := by omega
          clear hz
          go_wp2_with fail
          go_roundw
          case rel => exact ⟨k + 1, z', by omega, rfl, by go_num, trivial, HZ2⟩
          case measure => simp [intOf]; omega
        · obtain rfl : k = n := by omega
          have hgd : decide ((k : Int) < (k : Int)) = false := by simp
          go_wp2_with fail
          go_ret
          rw [← HZ.out]
          exact ⟨rfl, rfl⟩
theorem rmasked_any (v p : Int) (w : World) (hv : 0 ≤ v ∧ v ≤ 18446744073709551615) : Calls Tryz.prog 190 #[.int .u64 v, .int .i64 p] w fun e w' => e = .returned (.bool (mskB v p)) ∧ w = w' := by
  have hB := fun W => rbit_any p W
  have hbd := bitOf_bd p
  unfold mskB
  by_cases h0 : bitOf p = 0
  · rw [h0] at hB ⊢
    clear h0 hbd
    go_enter Tryz.func190, Tryz.ntmps190
    go_wp2_with fail
    go_at_call 191; refine (hB _).mono ?_; rintro e w1 ⟨rfl, rfl⟩
    go_wp2_with fail
    go_ret
    exact ⟨rfl, rfl⟩
  · rw [decide_eq_true h0, Bool.true_and]
    have t1 : v.tdiv (bitOf p) = v / bitOf p := Int.tdiv_eq_ediv_of_nonneg hv.1
    have hq : 0 ≤ v / bitOf p := Int.ediv_nonneg hv.1 hbd.1
    have hq2 : v / bitOf p ≤ v := Int.ediv_le_self _ hv.1
    have t2 : (v / bitOf p).tmod 2 = v / bitOf p % 2 := Int.tmod_eq_emod_of_nonneg hq
    have t3 : IntKind.u64.wrap (v / bitOf p) = v / bitOf p := wrap_u64 (by omega)
    have t4 : IntKind.u64.wrap (v / bitOf p % 2) = v / bitOf p % 2 := wrap_u64 (by omega)
    have hd0 : (bitOf p == 0) = false := by simpa using h0
    generalize v / bitOf p = q at *
    generalize bitOf p = b at *
    have hr : 0 ≤ q % 2 := by omega
    generalize q % 2 = r at *
    have HH0 : Hid (b ≠ 0) := h0
    clear hbd hq hq2
    go_enter Tryz.func190, Tryz.ntmps190
    go_wp2_with fail
    go_at_call 191; refine (hB _).mono ?_; rintro e w1 ⟨rfl, rfl⟩
    go_wp2_with fail
    go_at_call 191; refine (hB _).mono ?_; rintro e w1 ⟨rfl, rfl⟩
    go_wp2_with fail
    go_ret
    have hb0 : (b != 0) = true := by simpa using HH0.out
    rw [← Bool.true_and (decide (r = 1)), ← hb0]
    exact ⟨rfl, rfl⟩
end Go.Proofs.YtcjidigpdecdlaaGreat

namespace Go.Proofs.YtcjidigpdecdlaaGreat
open Go Go.RowKit
set_option linter.unusedVariables false
set_option maxRecDepth 100000
set_option linter.unusedSimpArgs false

/-- Where it stopped, and whether it had gone in. -/
def SiQ {σ : Type} (Q : σ → Prop) (emb : SiT → σ) (P T G p g : Int) (c : Bool) (q : σ) : Prop := (Q q ∧ c = false) ∨ ∃ t a, (siPM P T G p g).ax t = some a ∧ q = emb t ∧ c = t.went
set_option maxHeartbeats 4000000 in
theorem syn_sin {σ : Type} {M : PM σ} {P T G p g : Int} {emb : SiT → σ} (hE : PmIn M (siPM P T G p g) emb) (hp : 0 ≤ P ∧ P ≤ 64) (hT : 0 ≤ T ∧ T ≤ 65536) (hG : 0 ≤ G ∧ G ≤ 65536)
    {w : World} {x : Nat} {A : Option Addr} {cap m : Nat} {gf : Nat → Int} {s0 : σ} {j : Nat} {Q : σ → Prop} (hR : RunOn w x A cap m gf (M.rj s0 gf m j)) (hS : Syn M s0 gf m j (emb .a) Q) (hb : ∀ j, j < m → 0 ≤ gf j ∧ gf j ≤ 18446744073709551615) :
    Calls Tryz.prog 64 #[.pointer (some ⟨x, 0, none⟩), .agg #[.int .i64 P, .int .i64 T, .int .i64 G], .int .i64 p, .int .i64 g] w fun e w' => ∃ c j', e = .returned (.bool c) ∧ RunOn w' x A cap m gf (M.rj s0 gf m j') ∧ Syn M s0 gf m j' (emb .over) (SiQ Q emb P T G p g c) ∧ (j' ≤ m → c = true) ∧ But [x] w w' ∧ j ≤ j' := by
  have hb0 : Below w.heap.size w (w.alloc (.cells #[.int .i64 P, .int .i64 T, .int .i64 G] 23)) := (Below.refl _ _).alloc (Nat.le_refl _) _
  have HX : Hid (Blk (w.alloc (.cells #[.int .i64 P, .int .i64 T, .int .i64 G] 23)) w.heap.size #[.int .i64 P, .int .i64 T, .int .i64 G] 23) := Blk.new _ _ _
  have hxw := hR.blk.lt
  have HB0 : Hid (But [x] w (w.alloc (.cells #[.int .i64 P, .int .i64 T, .int .i64 G] 23))) := But.of_below hb0
  have HBD : Hid (∀ j, j < m → 0 ≤ gf j ∧ gf j ≤ 18446744073709551615) := hb
  have HE : Hid (PmIn M (siPM P T G p g) emb) := hE
  have HPA : Hid (∀ f W, 0 ≤ f ∧ f < 8 → Calls Tryz.prog 136 #[.agg #[.int .i64 P, .int .i64 T, .int .i64 G], .int .i64 p, .int .i64 f] W fun e w' => e = .returned (.int .i64 (wd 20 P 264 p f)) ∧ Below W.heap.size W w') := fun f W hf => rprcAt_all P T G p f W hp.2 hf
  have hGA := fun W => refgAt_any P T G g 0 W hp hT hG.2 (by omega)
  have HRS : Hid (RunOn (w.alloc (.cells #[.int .i64 P, .int .i64 T, .int .i64 G] 23)) x A cap m gf (M.rj s0 gf m j) ∧ Syn M s0 gf m j (emb .a) Q) := ⟨hR.below hb0, hS⟩
  clear hR hS hb hb0 hp hT hG hE
  go_enter Tryz.func64, Tryz.ntmps64
  go_wp2_with fail
  generalize w.alloc (.cells #[.int .i64 P, .int .i64 T, .int .i64 G] 23) = W at *
  have k0 := HX.out.cell 0 (v := .int .i64 P) rfl
  have k1 := HX.out.cell 1 (v := .int .i64 T) rfl
  have k2 := HX.out.cell 2 (v := .int .i64 G) rfl
  have hGA2 := hGA W
  clear hGA
  go_wp2_with fail
  go_at_call 97; refine hGA2.mono ?_; rintro e y1 ⟨rfl, h1⟩
  have hA := syn_store (HRS.out.1.below h1) HRS.out.2 HBD.out (wd (20 + P * 264 + T * 3) G 2 g 0) 4 (fun _ => HE.out.ax .a _ rfl)
  have HB1 : Hid (But [x] w y1) := HB0.out.trans (But.of_below h1)
  have HX1 : Hid (Blk y1 w.heap.size #[.int .i64 P, .int .i64 T, .int .i64 G] 23) := HX.out.but (But.of_below (l := []) h1) (by simp)
  clear hGA2 h1 k0 k1 k2 HX HB0 HRS
  generalize wd (20 + P * 264 + T * 3) G 2 g 0 = at0 at *
  go_wp2_with fail
  go_at_call 96; refine hA.mono ?_; rintro e y2 ⟨⟨u2, rfl⟩, v2, hK⟩
  have HR2 : Hid (RunOn y2 x A cap m gf (M.rj s0 gf m (j + 1))) := hK.run
  have HS2 : Hid (Syn M s0 gf m (j + 1) (emb .b) (fun r => r = emb .a ∨ Q r)) := by
    have h := hK.syn
    rw [HE.out.nx .a _ _ rfl] at h
    exact h
  have HB2 : Hid (But [x] w y2) := HB1.out.trans hK.but
  have HX2 : Hid (Blk y2 w.heap.size #[.int .i64 P, .int .i64 T, .int .i64 G] 23) := HX1.out.but hK.but (by simp; omega)
  clear hA hK HB1 HX1
  have sc := HR2.out.blk.cell 2 (v := .bool (M.rj s0 gf m (j + 1)).stop) rfl
  rw [rj_stop HS2.out] at sc
  have hcase : ∃ c : Bool, decide (m < j + 1) = !c ∧ Syn M s0 gf m (j + 1) (emb .b) (SiQ Q emb P T G p g c) ∧ (j + 1 ≤ m → c = true) ∧ (c = true → j + 1 ≤ m) := by
    by_cases hst : m < j + 1
    · exact ⟨false, by simp [hst], HS2.out.weak (fun r hr => hr.elim (fun h => .inr ⟨.a, _, rfl, h, rfl⟩) (fun h => .inl ⟨h, rfl⟩)), fun h => absurd h (by omega), fun h => by cases h⟩
    · exact ⟨true, by simp [hst], ⟨HS2.out.at', fun h => absurd h hst⟩, fun _ => rfl, fun _ => by omega⟩
  obtain ⟨c, hc1, hc2, hc3, hc4⟩ := hcase
  rw [hc1] at sc
  have HC : Hid (Syn M s0 gf m (j + 1) (emb .b) (SiQ Q emb P T G p g c) ∧ (j + 1 ≤ m → c = true) ∧ (c = true → j + 1 ≤ m)) := ⟨hc2, hc3, hc4⟩
  clear hc1 hc2 hc3 hc4 HS2
  have hPA2 := HPA.out 5 y2 (by omega)
  have k0 := HX2.out.cell 0 (v := .int .i64 P) rfl
  have k1 := HX2.out.cell 1 (v := .int .i64 T) rfl
  have k2 := HX2.out.cell 2 (v := .int .i64 G) rfl
  have ec : (!(!c)) = c := by cases c <;> rfl
  go_wp2_with fail
  go_at_call 136; refine hPA2.mono ?_; rintro e y3 ⟨rfl, h3⟩
  have hA := syn_add (HR2.out.below h3) HC.out.1 HBD.out (wd 20 P 264 p 5) 1 (fun _ => HE.out.ax .b _ rfl)
  have HB3 : Hid (But [x] w y3) := HB2.out.trans (But.of_below h3)
  have HX3 : Hid (Blk y3 w.heap.size #[.int .i64 P, .int .i64 T, .int .i64 G] 23) := HX2.out.but (But.of_below (l := []) h3) (by simp)
  clear hPA2 h3 k0 k1 k2 HX2 HB2 HR2 sc
  generalize wd 20 P 264 p 5 = at1 at *
  go_wp2_with fail
  go_at_call 135; refine hA.mono ?_; rintro e y4 ⟨v4, rfl, hK⟩
  have HR4 : Hid (RunOn y4 x A cap m gf (M.rj s0 gf m (j + 1 + 1))) := hK.run
  have HS4 : Hid (Syn M s0 gf m (j + 1 + 1) (emb .c) (fun r => r = emb .b ∨ SiQ Q emb P T G p g c r)) := by
    have h := hK.syn
    rw [HE.out.nx .b _ _ rfl] at h
    exact h
  have HB4 : Hid (But [x] w y4) := HB3.out.trans hK.but
  have HX4 : Hid (Blk y4 w.heap.size #[.int .i64 P, .int .i64 T, .int .i64 G] 23) := HX3.out.but hK.but (by simp; omega)
  have hPA4 := HPA.out 0 y4 (by omega)
  have k0 := HX4.out.cell 0 (v := .int .i64 P) rfl
  have k1 := HX4.out.cell 1 (v := .int .i64 T) rfl
  have k2 := HX4.out.cell 2 (v := .int .i64 G) rfl
  clear hA hK HB3 HX3
  go_wp2_with fail
  go_at_call 136; refine hPA4.mono ?_; rintro e y5 ⟨rfl, h5⟩
  have hA := syn_store (HR4.out.below h5) HS4.out HBD.out (wd 20 P 264 p 0) 2 (fun _ => HE.out.ax .c _ rfl)
  have HB5 : Hid (But [x] w y5) := HB4.out.trans (But.of_below h5)
  clear hPA4 h5 k0 k1 k2 HX4 HB4 HR4
  generalize wd 20 P 264 p 0 = at2 at *
  go_wp2_with fail
  go_at_call 96; refine hA.mono ?_; rintro e y6 ⟨⟨u6, rfl⟩, v6, hK⟩
  have HF : Hid (RunOn y6 x A cap m gf (M.rj s0 gf m (j + 1 + 1 + 1)) ∧ Syn M s0 gf m (j + 1 + 1 + 1) (emb .over) (SiQ Q emb P T G p g c) ∧ But [x] w y6) := by
    have h := hK.syn
    rw [HE.out.nx .c _ _ rfl] at h
    refine ⟨hK.run, ⟨h.at', fun hm => ⟨?_, (h.past hm).2⟩⟩, HB5.out.trans hK.but⟩
    by_cases h1 : m < j + 1
    · exact (HC.out.1.past h1).1
    · have hc := HC.out.2.1 (by omega)
      rcases (h.past hm).1 with h2 | h2 | h2
      · exact .inr ⟨.c, _, rfl, h2, hc⟩
      · exact .inr ⟨.b, _, rfl, h2, hc⟩
      · exact h2
  clear hA hK HB5
  go_wp2_with fail
  go_ret
  exact ⟨c, j + 1 + 1 + 1, rfl, HF.out.1, HF.out.2.1, fun h => HC.out.2.1 (by omega), HF.out.2.2, by omega⟩
theorem rsin_on (w : World) (x : Nat) (A : Option Addr) (cap m : Nat) (gf : Nat → Int) (P T G p g : Int) (t : SiT) (h : RunOn w x A cap m gf rn0) (hh : Hist (siPM P T G p g) .a gf m t) (hp : 0 ≤ P ∧ P ≤ 64) (hT : 0 ≤ T ∧ T ≤ 65536) (hG : 0 ≤ G ∧ G ≤ 65536) :
    Calls Tryz.prog 64 #[.pointer (some ⟨x, 0, none⟩), .agg #[.int .i64 P, .int .i64 T, .int .i64 G], .int .i64 p, .int .i64 g] w fun e w' => e = .returned (.bool t.went) ∧ RunOn w' x A cap m gf ((siPM P T G p g).rn t m) ∧ But [x] w w' := by
  rw [← rj_start (M := siPM P T G p g) (s0 := SiT.a) (g := gf) (m := m)] at h
  refine (syn_sin (pm_in _) hp hT hG h (Syn.start _ _ _ _) hh.bd).mono ?_
  rintro e w' ⟨c, j', rfl, h1, h2, h3, h4, -⟩
  have hr : c = t.went := by
    rcases h2.fin hh (fun _ => rfl) with ⟨e1, e2⟩ | ⟨-, (⟨hf, -⟩ | ⟨s', a, -, e1, e2⟩)⟩
    · rw [e1]; exact h3 (by omega)
    · exact hf.elim
    · rw [e1]; exact e2
  refine ⟨by rw [hr], ?_, h4⟩
  rw [← rj_end h2 hh (fun _ => rfl)]
  exact h1
end Go.Proofs.YtcjidigpdecdlaaGreat

namespace Go.Proofs.YtcjidigpdecdlaaGreat
open Go Go.RowKit
set_option linter.unusedVariables false
set_option maxRecDepth 100000
set_option linter.unusedSimpArgs false

def SKn (P T G t p g : Int) : Prop := 0 ≤ t ∧ t < T ∧ 0 ≤ p ∧ p < P ∧ 0 ≤ g ∧ g < G
instance (P T G t p g : Int) : Decidable (SKn P T G t p g) := by unfold SKn; infer_instance
theorem sc_known (w : World) (P T G t p g : Int) : Calls Tryz.prog 61 #[.agg #[.int .i64 P, .int .i64 T, .int .i64 G], .agg #[.int .i64 t, .int .i64 p, .int .i64 g]] w fun e w' => e = .returned (.bool (decide (SKn P T G t p g))) ∧ Below w.heap.size w w' := by
  have hb : Below w.heap.size w ((w.alloc (.cells #[.int .i64 P, .int .i64 T, .int .i64 G] 23)).alloc (.cells #[.int .i64 t, .int .i64 p, .int .i64 g] 103)) := ((Below.refl _ _).alloc (Nat.le_refl _) _).alloc (by rw [World.size_alloc]; omega) _
  by_cases h : SKn P T G t p g
  · rw [decide_eq_true h]
    obtain ⟨a1, a2, a3, a4, a5, a6⟩ := h
    go_enter Tryz.func61, Tryz.ntmps61
    go_wp2_with fail
    go_ret
    exact ⟨ret_bool (by simp [*]), hb⟩
  · rw [decide_eq_false h]
    have hn : ¬ (0 ≤ t ∧ t < T ∧ 0 ≤ p ∧ p < P ∧ 0 ≤ g ∧ g < G) := h
    clear h
    go_enter Tryz.func61, Tryz.ntmps61
    go_wp2_with fail
    all_goals
      go_ret
      refine ⟨ret_bool ?_, hb⟩
      first | rfl | (simp; omega)
end Go.Proofs.YtcjidigpdecdlaaGreat

namespace Go.Proofs.YtcjidigpdecdlaaGreat
open Go Go.RowKit
set_option linter.unusedVariables false
set_option maxRecDepth 100000
set_option linter.unusedSimpArgs false

theorem stepby_sin : StepBy 67 := by
  intro w x mv M h
  go_enter Tryz.func67, Tryz.ntmps67
  go_wp2_with fail
  go_at_call 106; refine h.mono ?_; rintro e w1 ⟨z, rfl, h1⟩
  go_wp2_with fail
  go_ret
  exact ⟨z, rfl, h1⟩
theorem step_nil_sin (w : World) (mv : Value) : Calls Tryz.prog 67 #[.pointer none, mv] w fun e w' => e = .returned (.bool true) ∧ w = w' := by
  go_enter Tryz.func67, Tryz.ntmps67
  go_wp2_with fail
  go_ret
  exact ⟨rfl, rfl⟩
theorem done_sin (w : World) (x : Nat) (nx : Option Addr) (hc : w.cell? ⟨x, 1, none⟩ = some (.pointer nx)) :
    Calls Tryz.prog 65 #[.pointer (some ⟨x, 0, none⟩)] w fun e w' => e = .returned (.bool nx.isNone) ∧ w = w' := by
  have h := fdone_any w x nx hc
  go_enter Tryz.func65, Tryz.ntmps65
  go_wp2_with fail
  go_at_call 100; refine h.mono ?_; rintro e w1 ⟨rfl, rfl⟩
  go_wp2_with fail
  go_ret
  exact ⟨rfl, rfl⟩
theorem done_nil_sin (w : World) : Calls Tryz.prog 65 #[.pointer none] w fun e w' => e = .returned (.bool true) ∧ w = w' := by
  go_enter Tryz.func65, Tryz.ntmps65
  go_wp2_with fail
  go_ret
  exact ⟨rfl, rfl⟩
theorem stepby_sout : StepBy 69 := by
  intro w x mv M h
  go_enter Tryz.func69, Tryz.ntmps69
  go_wp2_with fail
  go_at_call 106; refine h.mono ?_; rintro e w1 ⟨z, rfl, h1⟩
  go_wp2_with fail
  go_ret
  exact ⟨z, rfl, h1⟩
theorem step_nil_sout (w : World) (mv : Value) : Calls Tryz.prog 69 #[.pointer none, mv] w fun e w' => e = .returned (.bool true) ∧ w = w' := by
  go_enter Tryz.func69, Tryz.ntmps69
  go_wp2_with fail
  go_ret
  exact ⟨rfl, rfl⟩
theorem done_sout (w : World) (x : Nat) (nx : Option Addr) (hc : w.cell? ⟨x, 1, none⟩ = some (.pointer nx)) :
    Calls Tryz.prog 68 #[.pointer (some ⟨x, 0, none⟩)] w fun e w' => e = .returned (.bool nx.isNone) ∧ w = w' := by
  have h := fdone_any w x nx hc
  go_enter Tryz.func68, Tryz.ntmps68
  go_wp2_with fail
  go_at_call 100; refine h.mono ?_; rintro e w1 ⟨rfl, rfl⟩
  go_wp2_with fail
  go_ret
  exact ⟨rfl, rfl⟩
theorem done_nil_sout (w : World) : Calls Tryz.prog 68 #[.pointer none] w fun e w' => e = .returned (.bool true) ∧ w = w' := by
  go_enter Tryz.func68, Tryz.ntmps68
  go_wp2_with fail
  go_ret
  exact ⟨rfl, rfl⟩
theorem stepby_spwn : StepBy 29 := by
  intro w x mv M h
  go_enter Tryz.func29, Tryz.ntmps29
  go_wp2_with fail
  go_at_call 106; refine h.mono ?_; rintro e w1 ⟨z, rfl, h1⟩
  go_wp2_with fail
  go_ret
  exact ⟨z, rfl, h1⟩
theorem step_nil_spwn (w : World) (mv : Value) : Calls Tryz.prog 29 #[.pointer none, mv] w fun e w' => e = .returned (.bool true) ∧ w = w' := by
  go_enter Tryz.func29, Tryz.ntmps29
  go_wp2_with fail
  go_ret
  exact ⟨rfl, rfl⟩
theorem done_spwn (w : World) (x : Nat) (nx : Option Addr) (hc : w.cell? ⟨x, 1, none⟩ = some (.pointer nx)) :
    Calls Tryz.prog 21 #[.pointer (some ⟨x, 0, none⟩)] w fun e w' => e = .returned (.bool nx.isNone) ∧ w = w' := by
  have h := fdone_any w x nx hc
  go_enter Tryz.func21, Tryz.ntmps21
  go_wp2_with fail
  go_at_call 100; refine h.mono ?_; rintro e w1 ⟨rfl, rfl⟩
  go_wp2_with fail
  go_ret
  exact ⟨rfl, rfl⟩
theorem done_nil_spwn (w : World) : Calls Tryz.prog 21 #[.pointer none] w fun e w' => e = .returned (.bool true) ∧ w = w' := by
  go_enter Tryz.func21, Tryz.ntmps21
  go_wp2_with fail
  go_ret
  exact ⟨rfl, rfl⟩
theorem stepby_send : StepBy 38 := by
  intro w x mv M h
  go_enter Tryz.func38, Tryz.ntmps38
  go_wp2_with fail
  go_at_call 106; refine h.mono ?_; rintro e w1 ⟨z, rfl, h1⟩
  go_wp2_with fail
  go_ret
  exact ⟨z, rfl, h1⟩
theorem step_nil_send (w : World) (mv : Value) : Calls Tryz.prog 38 #[.pointer none, mv] w fun e w' => e = .returned (.bool true) ∧ w = w' := by
  go_enter Tryz.func38, Tryz.ntmps38
  go_wp2_with fail
  go_ret
  exact ⟨rfl, rfl⟩
theorem done_send (w : World) (x : Nat) (nx : Option Addr) (hc : w.cell? ⟨x, 1, none⟩ = some (.pointer nx)) :
    Calls Tryz.prog 36 #[.pointer (some ⟨x, 0, none⟩)] w fun e w' => e = .returned (.bool nx.isNone) ∧ w = w' := by
  have h := fdone_any w x nx hc
  go_enter Tryz.func36, Tryz.ntmps36
  go_wp2_with fail
  go_at_call 100; refine h.mono ?_; rintro e w1 ⟨rfl, rfl⟩
  go_wp2_with fail
  go_ret
  exact ⟨rfl, rfl⟩
theorem done_nil_send (w : World) : Calls Tryz.prog 36 #[.pointer none] w fun e w' => e = .returned (.bool true) ∧ w = w' := by
  go_enter Tryz.func36, Tryz.ntmps36
  go_wp2_with fail
  go_ret
  exact ⟨rfl, rfl⟩
theorem stepby_rdy : StepBy 51 := by
  intro w x mv M h
  go_enter Tryz.func51, Tryz.ntmps51
  go_wp2_with fail
  go_at_call 106; refine h.mono ?_; rintro e w1 ⟨z, rfl, h1⟩
  go_wp2_with fail
  go_ret
  exact ⟨z, rfl, h1⟩
theorem step_nil_rdy (w : World) (mv : Value) : Calls Tryz.prog 51 #[.pointer none, mv] w fun e w' => e = .returned (.bool true) ∧ w = w' := by
  go_enter Tryz.func51, Tryz.ntmps51
  go_wp2_with fail
  go_ret
  exact ⟨rfl, rfl⟩
theorem done_rdy (w : World) (x : Nat) (nx : Option Addr) (hc : w.cell? ⟨x, 1, none⟩ = some (.pointer nx)) :
    Calls Tryz.prog 46 #[.pointer (some ⟨x, 0, none⟩)] w fun e w' => e = .returned (.bool nx.isNone) ∧ w = w' := by
  have h := fdone_any w x nx hc
  go_enter Tryz.func46, Tryz.ntmps46
  go_wp2_with fail
  go_at_call 100; refine h.mono ?_; rintro e w1 ⟨rfl, rfl⟩
  go_wp2_with fail
  go_ret
  exact ⟨rfl, rfl⟩
theorem done_nil_rdy (w : World) : Calls Tryz.prog 46 #[.pointer none] w fun e w' => e = .returned (.bool true) ∧ w = w' := by
  go_enter Tryz.func46, Tryz.ntmps46
  go_wp2_with fail
  go_ret
  exact ⟨rfl, rfl⟩
theorem stepby_give : StepBy 59 := by
  intro w x mv M h
  go_enter Tryz.func59, Tryz.ntmps59
  go_wp2_with fail
  go_at_call 106; refine h.mono ?_; rintro e w1 ⟨z, rfl, h1⟩
  go_wp2_with fail
  go_ret
  exact ⟨z, rfl, h1⟩
theorem step_nil_give (w : World) (mv : Value) : Calls Tryz.prog 59 #[.pointer none, mv] w fun e w' => e = .returned (.bool true) ∧ w = w' := by
  go_enter Tryz.func59, Tryz.ntmps59
  go_wp2_with fail
  go_ret
  exact ⟨rfl, rfl⟩
theorem done_give (w : World) (x : Nat) (nx : Option Addr) (hc : w.cell? ⟨x, 1, none⟩ = some (.pointer nx)) :
    Calls Tryz.prog 54 #[.pointer (some ⟨x, 0, none⟩)] w fun e w' => e = .returned (.bool nx.isNone) ∧ w = w' := by
  have h := fdone_any w x nx hc
  go_enter Tryz.func54, Tryz.ntmps54
  go_wp2_with fail
  go_at_call 100; refine h.mono ?_; rintro e w1 ⟨rfl, rfl⟩
  go_wp2_with fail
  go_ret
  exact ⟨rfl, rfl⟩
theorem done_nil_give (w : World) : Calls Tryz.prog 54 #[.pointer none] w fun e w' => e = .returned (.bool true) ∧ w = w' := by
  go_enter Tryz.func54, Tryz.ntmps54
  go_wp2_with fail
  go_ret
  exact ⟨rfl, rfl⟩
end Go.Proofs.YtcjidigpdecdlaaGreat
