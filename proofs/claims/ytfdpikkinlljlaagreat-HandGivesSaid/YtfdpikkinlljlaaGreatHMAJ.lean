/- The document's routine that puts into a ring: its words, and its states. -/
import Derived.Test.YtfdpikkinlljlaaGreatHMAG
import Derived.Test.YtfdpikkinlljlaaGreatHMAB
import Derived.Test.YtfdpikkinlljlaaGreatHMAA
import Derived.Test.YtfdpikkinlljlaaGreatHMAC
import Derived.Deep.RegionHeld3
namespace Go.Proofs.YtfdpikkinlljlaaGreat
open Go Go.RowKit
set_option linter.unusedVariables false
set_option maxRecDepth 100000
set_option linter.unusedSimpArgs false

def Rd.row (g cap : Nat) (l : List Int) : Rd := ⟨[g], fun w => RowAt w g cap l, fun w w' lb h hb hk => h.but hb (hk g (by simp))⟩
inductive QpT where
  | ch (k : Nat)
  | ld
  | pt (t : Int)
  | tr
  | ct
  | over
  | done0
def qpPM (gl : Int → Int) (l : List Int) : PM QpT where
  ax := fun
    | .ch k => some (axSt (gl (l.getD k 0)) (if k + 1 < l.length then qwd (l.getD (k + 1) 0) else 0))
    | .ld => some (axLd 7)
    | .pt t => some (axSt (if t = 0 then 6 else gl (gw t)) (qwd (l.getD 0 0)))
    | .tr => some (axSt 7 (qwd (l.getD (l.length - 1) 0)))
    | .ct => some (axAd 8 l.length)
    | .over => none
    | .done0 => none
  nx := fun
    | .ch k, _ => if k + 1 < l.length then .ch (k + 1) else .ld
    | .ld, v => .pt v
    | .pt _, _ => .tr
    | .tr, _ => .ct
    | .ct, _ => .over
    | t, _ => t
def QpT.linked (n : Nat) : QpT → Nat
  | .ch k => k + 1
  | .done0 => 0
  | _ => n
def QpT.lies : QpT → Bool
  | .tr => true
  | .ct => true
  | .over => true
  | _ => false
def qpFl (who : Int) (cl : Nat) (sl : Value) (l : List Int) : Fl QpT where
  T := 239
  cells := fun t nx => qpCells who nx cl sl (t.linked l.length) t.lies
  fol := fun
    | .ch _ => .untold 182
    | .ld => .told 200
    | .pt _ => .untold 219
    | .tr => .untold 235
    | _ => .nil
  ok := fun
    | .ch k => k < l.length
    | _ => True
theorem ent_qp1 : Ent 182 := fun args w => by kernel_rfl
theorem ent_qp2 : Ent 200 := fun args w => by kernel_rfl
theorem ent_qp3 : Ent 219 := fun args w => by kernel_rfl
theorem ent_qp4 : Ent 235 := fun args w => by kernel_rfl
theorem getD_bd {l : List Int} (hb : ∀ y ∈ l, 0 ≤ y ∧ y ≤ 1000000) (j : Nat) : 0 ≤ l.getD j 0 ∧ l.getD j 0 ≤ 1000000 := by
  rw [List.getD_eq_getElem?_getD]
  rcases Nat.lt_or_ge j l.length with h | h
  · rw [List.getElem?_eq_getElem h]; exact hb _ (List.getElem_mem _)
  · rw [List.getElem?_eq_none h]; exact ⟨Int.le_refl _, by decide⟩
section
variable (who P T G : Int) (cl g cap : Nat) (l : List Int) (hp : 0 ≤ P ∧ P ≤ 64) (hT : 0 ≤ T ∧ T ≤ 65536) (hG : 0 ≤ G ∧ G ≤ 65536) (h0 : 0 < l.length) (hn : l.length ≤ 1000000)
include hp hT hG h0 hn
theorem qp_laws : (qpFl who cl (.slice (some ⟨g, 0, none⟩) l.length cap) l).Laws (qpPM (fun y => wd (20 + P * 264 + T * 3) G 2 y 1) l) ((Rd.lay cl P T G).and (Rd.row g cap l)) who where
  c0 := fun t nx => rfl
  c1 := fun t nx => rfl
  set := fun t nx nx' => rfl
  axok := fun t a hok h => by
    cases t with
    | ch k =>
      cases h
      have := qwd_bd (l.getD (k + 1) 0)
      refine axSt_ok _ _ ?_
      by_cases hk : k + 1 < l.length
      · rw [if_pos hk]; omega
      · rw [if_neg hk]; omega
    | ld => cases h; exact axLd_ok _
    | pt t => cases h; exact axSt_ok _ _ (qwd_bd _)
    | tr => cases h; exact axSt_ok _ _ (qwd_bd _)
    | ct => cases h; exact axAd_ok _ _ (by omega)
    | over => cases h
    | done0 => cases h
  ents := fun t a h => by
    cases t with
    | ch k => exact ent_qp1
    | ld => exact ent_qp2
    | pt t => exact ent_qp3
    | tr => exact ent_qp4
    | ct => exact trivial
    | over => exact trivial
    | done0 => exact trivial
  ok := fun t a v hok h hv => by
    cases t with
    | ch k => by_cases hk : k + 1 < l.length <;> simp [qpPM, qpFl, hk]
    | ld => exact trivial
    | pt t => exact trivial
    | tr => exact trivial
    | ct => exact trivial
    | over => exact trivial
    | done0 => exact trivial
  fol := fun W x t a v hok h hv hB hR hxR => by
    obtain ⟨hR1, hR2⟩ := hR
    have hcx : cl ≠ x := fun e => hxR (by rw [← e]; exact List.mem_append_left _ (List.mem_singleton.2 rfl))
    have hgx : g ≠ x := fun e => hxR (by rw [← e]; exact List.mem_append_right _ (List.mem_singleton.2 rfl))
    cases t with
    | ch k =>
      cases h
      by_cases hk : k + 1 < l.length
      · have e : (qpPM (fun y => wd (20 + P * 264 + T * 3) G 2 y 1) l).nx (.ch k) v = .ch (k + 1) := if_pos hk
        rw [e]
        by_cases hk2 : k + 1 + 1 < l.length
        · have H := qput_chain_more W x cl g cap who l none (k + 1) P T G false hB hR2 hgx hk2 hn hR1 hcx hp hT hG.2
          have e2 : (qpPM (fun y => wd (20 + P * 264 + T * 3) G 2 y 1) l).ax (.ch (k + 1)) = some (axSt (wd (20 + P * 264 + T * 3) G 2 (l.getD (k + 1) 0) 1) (qwd (l.getD (k + 1 + 1) 0))) := by
            show some (axSt _ (if k + 1 + 1 < l.length then _ else _)) = _
            rw [if_pos hk2]
          refine H.mono ?_
          rintro e' w' ⟨hu, hC⟩
          refine ⟨hu, ?_⟩
          unfold Fl.Landed
          rw [e2]
          exact hC
        · have H := qput_chain_last W x cl g cap who l none (k + 1) P T G false hB hR2 hgx (by omega) hn hR1 hcx hp hT hG.2
          have e2 : (qpPM (fun y => wd (20 + P * 264 + T * 3) G 2 y 1) l).ax (.ch (k + 1)) = some (axSt (wd (20 + P * 264 + T * 3) G 2 (l.getD (k + 1) 0) 1) 0) := by
            show some (axSt _ (if k + 1 + 1 < l.length then _ else _)) = _
            rw [if_neg hk2]
          refine H.mono ?_
          rintro e' w' ⟨hu, hC⟩
          refine ⟨hu, ?_⟩
          unfold Fl.Landed
          rw [e2]
          exact hC
      · have e : (qpPM (fun y => wd (20 + P * 264 + T * 3) G 2 y 1) l).nx (.ch k) v = .ld := if_neg hk
        have hkn : k + 1 = l.length := by have : k < l.length := hok; omega
        rw [e]
        have hB' : Blk W x (qpCells who none cl (.slice (some ⟨g, 0, none⟩) l.length cap) l.length false) 239 := by
          have hB1 : Blk W x (qpCells who none cl (.slice (some ⟨g, 0, none⟩) l.length cap) ((k + 1 : Nat) : Int) false) 239 := hB
          rw [hkn] at hB1
          exact hB1
        exact qput_chain_end W x cl g cap who l none false hB' hn
    | ld =>
      cases h
      by_cases hv0 : v = 0
      · subst hv0
        exact qput_lead_none W x cl g cap who l none l.length false hB hR2 h0 hn
      · have H := qput_lead_some W x cl g cap who l none l.length v P T G false hB hR2 h0 hn hv0 hR1 hp hT hG.2
        have e2 : (qpPM (fun y => wd (20 + P * 264 + T * 3) G 2 y 1) l).ax (.pt v) = some (axSt (wd (20 + P * 264 + T * 3) G 2 (gw v) 1) (qwd (l.getD 0 0))) := by
          show some (axSt (if v = 0 then _ else _) _) = _
          rw [if_neg hv0]
        refine H.mono ?_
        rintro e' w' ⟨hu, hC⟩
        refine ⟨hu, ?_⟩
        show Fl.Landed _ _ _ _ _ (QpT.pt v)
        unfold Fl.Landed
        rw [e2]
        exact hC
    | pt t => cases h; exact qput_trail W x cl g cap who l none l.length false hB hR2 hgx h0 hn
    | tr => cases h; exact qput_tell W x cl g cap who l none l.length true hB hn
    | ct => cases h; exact ⟨hB, But.refl _ _⟩
    | over => cases h
    | done0 => cases h
end

/-- How a machine that puts goroutines behind lies in memory: its row is its own. -/
def qpI (who : Int) (cl : Nat) (gl : Int → Int) (l : List Int) : MI QpT := fun w x t L =>
  (0 < l.length ∧ ∃ g cap L', L = g :: L' ∧ g ∉ L' ∧ RowAt w g cap l ∧ (qpFl who cl (.slice (some ⟨g, 0, none⟩) l.length cap) l).I (qpPM gl l) w x t L') ∨
  (l = [] ∧ t = .done0 ∧ ∃ A cap, (A = none → cap = 0) ∧ (qpFl who cl (.slice A 0 cap) []).I (qpPM gl []) w x .done0 L)
theorem qp_good (who P T G : Int) (cl : Nat) (l : List Int) (hp : 0 ≤ P ∧ P ≤ 64) (hT : 0 ≤ T ∧ T ≤ 65536) (hG : 0 ≤ G ∧ G ≤ 65536) (hn : l.length ≤ 1000000) : (qpI who cl (fun y => wd (20 + P * 264 + T * 3) G 2 y 1) l).Good (qpPM (fun y => wd (20 + P * 264 + T * 3) G 2 y 1) l) where
  keep := by
    rintro w w' x t L lb (⟨h0, g, cap, L', rfl, hg, hr, h⟩ | ⟨rfl, rfl, A, cap, ha, h⟩) hbt hk
    · exact .inl ⟨h0, g, cap, L', rfl, hg, hr.but hbt (hk g (by simp)), (Fl.good (qp_laws who P T G cl g cap l hp hT hG h0 hn)).keep h hbt (fun k hm => hk k (by simp [hm]))⟩
    · rw [Fl.at_none rfl] at h
      obtain ⟨h1, h2, rfl⟩ := h
      refine .inr ⟨rfl, rfl, A, cap, ha, ?_⟩
      rw [Fl.at_none rfl]
      exact ⟨h1, h2.but hbt (hk x (by simp)), rfl⟩
  lt := by
    rintro w x t L (⟨h0, g, cap, L', rfl, hg, hr, h⟩ | ⟨rfl, rfl, A, cap, ha, h⟩) k hk
    · simp at hk
      rcases hk with rfl | hk
      · exact hr.lt
      · exact (Fl.good (qp_laws who P T G cl g cap l hp hT hG h0 hn)).lt h k hk
    · rw [Fl.at_none rfl] at h
      obtain ⟨h1, h2, rfl⟩ := h
      simp at hk; subst hk; exact h2.lt
  mem := by
    rintro w x t L (⟨h0, g, cap, L', rfl, hg, hr, h⟩ | ⟨rfl, rfl, A, cap, ha, h⟩)
    · exact List.mem_cons_of_mem _ ((Fl.good (qp_laws who P T G cl g cap l hp hT hG h0 hn)).mem h)
    · rw [Fl.at_none rfl] at h
      obtain ⟨h1, h2, rfl⟩ := h
      simp
  next := by
    rintro w x t L (⟨h0, g, cap, L', rfl, hg, hr, h⟩ | ⟨rfl, rfl, A, cap, ha, h⟩)
    · exact (Fl.good (qp_laws who P T G cl g cap l hp hT hG h0 hn)).next h
    · rw [Fl.at_none rfl] at h
      obtain ⟨h1, h2, rfl⟩ := h
      exact ⟨none, h2.cell 1 rfl, rfl⟩
theorem qp_steps (who P T G : Int) (cl : Nat) (l : List Int) (hp : 0 ≤ P ∧ P ≤ 64) (hT : 0 ≤ T ∧ T ≤ 65536) (hG : 0 ≤ G ∧ G ≤ 65536) (hn : l.length ≤ 1000000) {K : Nat} (hK : StepBy K) : Steps (qpPM (fun y => wd (20 + P * 264 + T * 3) G 2 y 1) l) (qpI who cl (fun y => wd (20 + P * 264 + T * 3) G 2 y 1) l) (Rd.lay cl P T G) K who := by
  rintro w A cp cm b n s x t L (⟨h0, g, cap, L', rfl, hg, hr, h⟩ | ⟨rfl, rfl, A1, cap, ha, h⟩) hR hI hn1 hl hf hcb
  · have hgf := hf g (by simp)
    have hgd := Fl.good (qp_laws who P T G cl g cap l hp hT hG h0 hn)
    refine (Fl.steps (qp_laws who P T G cl g cap l hp hT hG h0 hn) hK w A cp cm b n s x t L' h ⟨hR, hr⟩ hI hn1 hl (fun k hk => ⟨(hf k (by simp [hk])).1, (hf k (by simp [hk])).2.1, fun hm => ?_⟩) ⟨fun hm => ?_, fun hm => ?_⟩).mono ?_
    · rcases List.mem_append.1 hm with hm | hm
      · exact (hf k (by simp [hk])).2.2 hm
      · exact hg ((List.mem_singleton.1 hm) ▸ hk)
    · rcases List.mem_append.1 hm with hm | hm
      · exact hcb.1 hm
      · exact hgf.1 (List.mem_singleton.1 hm).symm
    · rcases List.mem_append.1 hm with hm | hm
      · exact hcb.2 hm
      · exact hgf.2.1 (List.mem_singleton.1 hm).symm
    · rintro e w' ⟨rfl, L2, h1, h2, h3, h4⟩
      refine ⟨rfl, g :: L2, .inl ⟨h0, g, cap, L2, rfl, fun hm => ?_, hr.but h3 ?_, h1⟩, h2, h3.more (by intro k _ hk; simp at hk ⊢; rcases hk with h | h | h <;> simp [h]), fun k hk => ?_⟩
      · rcases h4 g hm with h5 | h5
        · exact hg h5
        · have := hr.lt; omega
      · simp only [List.mem_cons, not_or]
        exact ⟨hgf.1, hgf.2.1, hg⟩
      · simp at hk
        rcases hk with rfl | hk
        · exact .inl (by simp)
        · rcases h4 k hk with h5 | h5
          · exact .inl (by simp [h5])
          · exact .inr h5
  · have hI0 := h
    rw [Fl.at_none rfl] at h
    obtain ⟨h1, h2, rfl⟩ := h
    refine (hK w x _ (fun z w' => z = true ∧ w = w') ((step_none w x cm (h2.cell 1 rfl)).mono ?_)).mono ?_
    · rintro e w' ⟨rfl, rfl⟩; exact ⟨true, rfl, rfl, rfl⟩
    · rintro e w' ⟨z, rfl, rfl, rfl⟩
      exact ⟨rfl, [x], .inr ⟨rfl, rfl, A1, cap, ha, hI0⟩, hI, But.refl _ _, fun k hk => .inl hk⟩
end Go.Proofs.YtfdpikkinlljlaaGreat

namespace Go.Proofs.YtfdpikkinlljlaaGreat
open Go Go.RowKit
set_option linter.unusedVariables false
set_option maxRecDepth 100000
set_option linter.unusedSimpArgs false

theorem RowAt.sees {w : World} {g cap : Nat} {l : List Int} (h : RowAt w g cap l) : SeesL w (.slice (some ⟨g, 0, none⟩) l.length cap) l :=
  ⟨_, cap, rfl, (fun h => by cases h), fun _ => ⟨g, 0, rfl, h.lt, fun j hj => by rw [Nat.zero_add]; exact h.cell j hj⟩⟩
theorem qput_holds (w : World) (x cl : Nat) (who k : Int) (nx : Option Addr) (sl : Value) (l : List Int) (z : Bool) (h : Blk w x (qpCells who nx cl sl k z) 239) (hs : SeesL w sl l) (hn : l.length ≤ 1000000) :
    Calls Tryz.prog 145 #[.pointer (some ⟨x, 0, none⟩)] w fun e w' => ∃ v, e = .returned v ∧ IntsOn w' w.heap.size v (if z then [] else l) ∧ Below w.heap.size w w' := by
  have c3 := h.cell 3 (v := sl) rfl
  have c5 := h.cell 5 (v := .bool z) rfl
  have HC := lclone_any sl l w hn hs
  clear h hs
  cases z with
  | true =>
    clear HC c3
    go_enter Tryz.func145, Tryz.ntmps145
    go_wp2_with fail
    go_ret
    exact ⟨_, rfl, ⟨World.ownsRow_nil _ _ _ _⟩, Below.refl _ _⟩
  | false =>
    go_enter Tryz.func145, Tryz.ntmps145
    go_wp2_with fail
    go_at_call 180; refine HC.mono ?_; rintro e w1 ⟨v, rfl, h1, h2⟩
    clear HC c3 c5
    go_wp2_with fail
    go_ret
    exact ⟨_, rfl, h1, h2⟩
theorem qput_holds_nil (w : World) : Calls Tryz.prog 145 #[.pointer none] w fun e w' => e = .returned (.slice none 0 0) ∧ w = w' := by
  go_enter Tryz.func145, Tryz.ntmps145
  go_wp2_with fail
  go_ret
  exact ⟨rfl, rfl⟩
theorem qp_holds {who : Int} {cl : Nat} {gl : Int → Int} {l : List Int} {w : World} {x : Nat} {t : QpT} {L : List Nat} (h : qpI who cl gl l w x t L) (hn : l.length ≤ 1000000) :
    Calls Tryz.prog 145 #[.pointer (some ⟨x, 0, none⟩)] w fun e w' => ∃ v, e = .returned v ∧ IntsOn w' w.heap.size v (if t.lies then [] else l) ∧ Below w.heap.size w w' := by
  rcases h with ⟨h0, g, cap, L', rfl, hg, hr, h⟩ | ⟨rfl, rfl, A, cap, ha, h⟩
  · obtain ⟨nx, h1, -⟩ := Fl.blk h
    exact qput_holds w x cl who _ nx _ l t.lies h1 hr.sees hn
  · obtain ⟨nx, h1, -⟩ := Fl.blk h
    exact qput_holds w x cl who _ nx (.slice A 0 cap) [] false h1 ⟨A, cap, rfl, fun e => ⟨rfl, ha e⟩, fun e => absurd e (by simp)⟩ hn
def qpStart (l : List Int) : QpT := if l = [] then .done0 else .ch 0
theorem qp_new_nil (w : World) (cl : Nat) (who : Int) (gl : Int → Int) (sl : Value) (hs : SeesL w sl []) :
    Calls Tryz.prog 143 #[.pointer (some ⟨cl, 0, none⟩), .int .i64 who, sl] w fun e w' => ∃ x L, e = .returned (.pointer (some ⟨x, 0, none⟩)) ∧ qpI who cl gl [] w' x .done0 L ∧ Below w.heap.size w w' ∧ (∀ k ∈ L, w.heap.size ≤ k) ∧ w.heap.size ≤ x := by
  have HC := lclone_any sl [] w (by simp) hs
  obtain ⟨A0, cap0, rfl, -, -⟩ := hs
  go_enter Tryz.func143, Tryz.ntmps143
  go_wp2_with fail
  go_at_call 180; refine HC.mono ?_; rintro e w1 ⟨v, rfl, h1, hb1⟩
  obtain ⟨A, cap, rfl, ha, -⟩ := h1.sees
  have hB := Blk.new w1 #[.int .i64 0, .pointer none, .pointer none, .slice A 0 cap, .int .i64 0, .bool false] 239
  have hO := q_of _ w1.heap.size cl who _ (qpCells who none cl (.slice A 0 cap) 0 false) 239 hB (by simp) rfl
  have HH : Hid (Below w.heap.size w (w1.alloc (.cells #[.int .i64 0, .pointer none, .pointer none, .slice A 0 cap, .int .i64 0, .bool false] 239)) ∧ w.heap.size ≤ w1.heap.size) := ⟨seq hb1 ((Below.refl _ _).alloc (Nat.le_refl _) _), hb1.size⟩
  clear HC h1 hb1 hB
  go_wp2_with fail
  go_at_call 181; refine hO.mono ?_; rintro e w2 ⟨⟨v, rfl⟩, k1, k2, k3⟩
  have HF : Hid (qpI who cl gl [] w2 w1.heap.size .done0 [w1.heap.size] ∧ Below w.heap.size w w2) := by
    refine ⟨.inr ⟨rfl, rfl, A, cap, fun e => (ha e).2, (Fl.at_none rfl).2 ⟨trivial, k1, rfl⟩⟩, ?_⟩
    exact HH.out.1.trans (k2.below (by intro k hk; simp at hk; subst hk; first | exact HH.out.2 | exact HH.out.2.2.2.1) (by have := HH.out.2; rw [World.size_alloc]; omega))
  have hsz := HH.out.2
  clear hO HH k1 k2 k3
  go_wp2_with fail
  go_ret
  exact ⟨_, _, rfl, HF.out.1, HF.out.2, fun k hk => by simp at hk; subst hk; exact hsz, hsz⟩
theorem qp_new_some (w : World) (cl : Nat) (who P T G : Int) (sl : Value) (l : List Int) (hs : SeesL w sl l) (h0 : 0 < l.length) (hn : l.length ≤ 1000000) (hl : Lay w cl P T G) (hp : 0 ≤ P ∧ P ≤ 64) (hT : 0 ≤ T ∧ T ≤ 65536) (hG : 0 ≤ G ∧ G ≤ 65536) :
    Calls Tryz.prog 143 #[.pointer (some ⟨cl, 0, none⟩), .int .i64 who, sl] w fun e w' => ∃ x L, e = .returned (.pointer (some ⟨x, 0, none⟩)) ∧ qpI who cl (fun y => wd (20 + P * 264 + T * 3) G 2 y 1) l w' x (.ch 0) L ∧ Below w.heap.size w w' ∧ (∀ k ∈ L, w.heap.size ≤ k) ∧ w.heap.size ≤ x := by
  have HC := lclone_any sl l w hn hs
  obtain ⟨A0, cap0, rfl, -, -⟩ := hs
  have hd : (0 : Int) < (l.length : Int) := by omega
  have HCH : Hid (∀ (Y : World) (x g cap : Nat), Blk Y x (qpCells who none cl (.slice (some ⟨g, 0, none⟩) l.length cap) 0 false) 239 → RowAt Y g cap l → g ≠ x → Lay Y cl P T G → cl ≠ x → Calls Tryz.prog 182 #[.pointer (some ⟨x, 0, none⟩)] Y fun e w' => (∃ v, e = .returned v) ∧ (qpFl who cl (.slice (some ⟨g, 0, none⟩) l.length cap) l).Landed (qpPM (fun y => wd (20 + P * 264 + T * 3) G 2 y 1) l) Y w' x (.ch 0)) := by
    intro Y x g cap hB hr hgx hl hcx
    by_cases hk2 : 0 + 1 < l.length
    · have H := qput_chain_more Y x cl g cap who l none 0 P T G false hB hr hgx hk2 hn hl hcx hp hT hG.2
      have e2 : (qpPM (fun y => wd (20 + P * 264 + T * 3) G 2 y 1) l).ax (.ch 0) = some (axSt (wd (20 + P * 264 + T * 3) G 2 (l.getD 0 0) 1) (qwd (l.getD (0 + 1) 0))) := by
        show some (axSt _ (if 0 + 1 < l.length then _ else _)) = _
        rw [if_pos hk2]
      refine H.mono ?_
      rintro e' w' ⟨hu, hC⟩
      refine ⟨hu, ?_⟩
      unfold Fl.Landed
      rw [e2]
      exact hC
    · have H := qput_chain_last Y x cl g cap who l none 0 P T G false hB hr hgx (by omega) hn hl hcx hp hT hG.2
      have e2 : (qpPM (fun y => wd (20 + P * 264 + T * 3) G 2 y 1) l).ax (.ch 0) = some (axSt (wd (20 + P * 264 + T * 3) G 2 (l.getD 0 0) 1) 0) := by
        show some (axSt _ (if 0 + 1 < l.length then _ else _)) = _
        rw [if_neg hk2]
      refine H.mono ?_
      rintro e' w' ⟨hu, hC⟩
      refine ⟨hu, ?_⟩
      unfold Fl.Landed
      rw [e2]
      exact hC
  have HLW : Hid (qpFl who cl .nilIface l = qpFl who cl .nilIface l ∧ 0 < l.length ∧ Lay w cl P T G) := ⟨rfl, h0, hl⟩
  have HLL : Hid (∀ g cap, (qpFl who cl (.slice (some ⟨g, 0, none⟩) l.length cap) l).Laws (qpPM (fun y => wd (20 + P * 264 + T * 3) G 2 y 1) l) ((Rd.lay cl P T G).and (Rd.row g cap l)) who) := fun g cap => qp_laws who P T G cl g cap l hp hT hG h0 hn
  generalize (fun y => wd (20 + P * 264 + T * 3) G 2 y 1) = gl at *
  generalize hnn : l.length = n at *
  clear hp hT hG hl
  go_enter Tryz.func143, Tryz.ntmps143
  go_wp2_with fail
  go_at_call 180; refine HC.mono ?_; rintro e w1 ⟨v, rfl, h1, hb1⟩
  obtain ⟨g, cap, rfl, hg0, hr⟩ := h1.row (by omega)
  rw [hnn]
  have hB := Blk.new w1 #[.int .i64 0, .pointer none, .pointer none, .slice (some ⟨g, 0, none⟩) n cap, .int .i64 0, .bool false] 239
  have hO := q_of _ w1.heap.size cl who _ (qpCells who none cl (.slice (some ⟨g, 0, none⟩) n cap) 0 false) 239 hB (by simp) rfl
  have HH : Hid (Below w.heap.size w w1 ∧ RowAt w1 g cap l ∧ Below w.heap.size w (w1.alloc (.cells #[.int .i64 0, .pointer none, .pointer none, .slice (some ⟨g, 0, none⟩) n cap, .int .i64 0, .bool false] 239)) ∧ w.heap.size ≤ w1.heap.size ∧ w.heap.size ≤ g) := ⟨hb1, hr, seq hb1 ((Below.refl _ _).alloc (Nat.le_refl _) _), hb1.size, hg0⟩
  clear HC h1 hb1 hB hr
  go_wp2_with fail
  go_at_call 181; refine hO.mono ?_; rintro e w2 ⟨⟨v, rfl⟩, k1, k2, k3⟩
  have hb2 : Below w.heap.size w w2 := HH.out.2.2.1.trans (k2.below (by intro k hk; simp at hk; subst hk; first | exact HH.out.2 | exact HH.out.2.2.2.1) (by have := HH.out.2.2.2.1; rw [World.size_alloc]; omega))
  have hgl := HH.out.2.1.lt
  have hr2 : RowAt w2 g cap l := (HH.out.2.1.below ((Below.refl _ _).alloc (Nat.le_refl _) _)).but k2 (by simp; omega)
  have hll := HLW.out.2.2.lt
  have hsz := HH.out.2.2.2.1
  have hCh := HCH.out w2 w1.heap.size g cap k1 hr2 (by omega) (HLW.out.2.2.below hb2 hll) (by omega)
  have HF2 : Hid (Below w.heap.size w w2 ∧ RowAt w2 g cap l ∧ w1.heap.size < w2.heap.size ∧ g < w1.heap.size ∧ w.heap.size ≤ g) := ⟨hb2, hr2, k1.lt, hgl, HH.out.2.2.2.2⟩
  clear hO HH k1 k2 k3 hr2 hb2 HCH
  go_wp2_with fail
  go_at_call 182; refine hCh.mono ?_; rintro e w3 ⟨⟨v2, rfl⟩, hC⟩
  have HF : Hid (∃ L, qpI who cl gl l w3 w1.heap.size (.ch 0) L ∧ Below w.heap.size w w3 ∧ ∀ k ∈ L, w.heap.size ≤ k) := by
    obtain ⟨-, ⟨L', i1, i2⟩, i3⟩ := Fl.land (HLL.out g cap) hC (by show 0 < l.length; rw [hnn]; exact HLW.out.2.1) HF2.out.2.2.1
    refine ⟨g :: L', .inl ⟨by rw [hnn]; exact HLW.out.2.1, g, cap, L', rfl, fun hm => ?_, HF2.out.2.1.but i3 (by have := HF2.out.2.2.2.1; simp; omega), by rw [hnn]; exact i1⟩, HF2.out.1.trans (i3.below (by simp; omega) HF2.out.1.size), fun k hk => ?_⟩
    · have := HF2.out.2.2.2.1
      rcases i2 g hm with h | h
      · omega
      · have := HF2.out.2.2.1; omega
    · have h3 := HF2.out.1.size
      simp at hk
      rcases hk with rfl | hk
      · exact HF2.out.2.2.2.2
      · rcases i2 k hk with rfl | h
        · exact hsz
        · omega
  clear hCh hC HF2
  go_wp2_with fail
  go_ret
  obtain ⟨L, f1, f2, f3⟩ := HF.out
  exact ⟨_, L, rfl, f1, f2, f3, hsz⟩
end Go.Proofs.YtfdpikkinlljlaaGreat

namespace Go.Proofs.YtfdpikkinlljlaaGreat
open Go Go.RowKit
set_option linter.unusedVariables false
set_option maxRecDepth 100000
set_option linter.unusedSimpArgs false

/-- What it has: the goroutine, whether it is in the hand, the words that were loaded, what is given, how many were loaded. -/
structure RpD where
  g : Int
  has : Bool
  nt : Int
  hd : Int
  tl : Int
  gv : List Int
  ld : Int
inductive RpT where
  | nx (d : RpD)
  | sn (d : RpD)
  | hd (d : RpD)
  | tl (d : RpD)
  | st (d : RpD)
  | ln (d : RpD)
  | gl (d : RpD) (k : Nat)
  | sh (d : RpD)
  | acq (d : RpD) (p : AcqT)
  | que (d : RpD) (q : QpT)
  | rel (d : RpD) (q : QpT) (p : RelT)
  | over (d : RpD)
def RpD.all (d : RpD) : List Int := d.gv ++ [d.g]
def RpD.take1 (d : RpD) (k : Nat) (v : Int) : RpD := { d with gv := d.gv.set k (gw v), ld := ((k + 1 : Nat) : Int) }
def rpPM (who P p : Int) (gl : Int → Int) : PM RpT where
  ax := fun
    | .nx _ => some (axLd (wd 20 P 264 p 3))
    | .sn d => some (axSw (wd 20 P 264 p 3) d.nt (rpw d.g))
    | .hd _ => some (axLd (wd 20 P 264 p 1))
    | .tl _ => some (axLd (wd 20 P 264 p 2))
    | .st d => some (axSt (wd 20 P 264 p (8 + d.tl % 256)) (rpw d.g))
    | .ln d => some (axSt (wd 20 P 264 p 2) ((d.tl + 1) % 4294967296))
    | .gl d k => some (axLd (wd 20 P 264 p (8 + IntKind.u64.wrap (d.hd + k) % 256)))
    | .sh d => some (axSw (wd 20 P 264 p 1) d.hd ((d.hd + 128) % 4294967296))
    | .acq _ q => (acqPM (wd 0 2 3 0 0) (wd 0 2 3 0 1) (wd 0 2 3 0 2) who).ax q
    | .que d q => (qpPM gl d.all).ax q
    | .rel _ _ q => (relPM (wd 0 2 3 0 1) (wd 0 2 3 0 2)).ax q
    | .over _ => none
  nx := fun
    | .nx d, v => .sn { d with nt := v }
    | .sn d, v => if v = 0 then .nx d else if d.nt = 0 then .over { d with has := false } else .hd { d with g := gw d.nt }
    | .hd d, v => .tl { d with hd := v }
    | .tl d, v => if (v - d.hd) % 4294967296 < 256 then .st { d with tl := v } else .gl { d with tl := v, ld := 0 } 0
    | .st d, _ => .ln d
    | .ln d, _ => .over { d with has := false }
    | .gl d k, v => if k + 1 < 128 then .gl (d.take1 k v) (k + 1) else .sh (d.take1 k v)
    | .sh d, v => if v = 0 then .hd d else .acq d .fresh
    | .acq d q, v => ((acqPM (wd 0 2 3 0 0) (wd 0 2 3 0 1) (wd 0 2 3 0 2) who).nx q v).goes (.acq d) (.que d (.ch 0))
    | .que d q, v => if ((qpPM gl d.all).ax ((qpPM gl d.all).nx q v)).isSome = true then .que d ((qpPM gl d.all).nx q v) else .rel d ((qpPM gl d.all).nx q v) .fresh
    | .rel d q r, v => .rel d q ((relPM (wd 0 2 3 0 1) (wd 0 2 3 0 2)).nx r v)
    | t, _ => t
def RpT.d : RpT → RpD
  | .nx d => d
  | .sn d => d
  | .hd d => d
  | .tl d => d
  | .st d => d
  | .ln d => d
  | .gl d _ => d
  | .sh d => d
  | .acq d _ => d
  | .que d _ => d
  | .rel d _ _ => d
  | .over d => d
def RpT.full : RpT → Bool
  | .acq _ _ => true
  | .que _ _ => true
  | .rel _ _ _ => true
  | _ => false
/-- What is in its hand. -/
def RpT.holds : RpT → List Int
  | .acq d _ => if d.has then d.all else []
  | .que d q => if d.has then (if q.lies then [] else d.all) else []
  | .rel d q _ => if d.has then (if q.lies then [] else d.all) else []
  | t => if t.d.has then [t.d.g] else []
def rpAt (who p : Int) (cl : Nat) (t : RpT) (es : List Nat) (nx : Option Addr) : Array Value := rpCells who nx cl p t.d.g t.d.has t.d.nt t.d.hd t.d.tl (rpRest t.d.gv t.d.ld (if t.full = true then some ⟨es.getD 0 0, 0, none⟩ else none))
def rU64 (v : Int) : Prop := 0 ≤ v ∧ v ≤ 18446744073709551615
structure RpD.Ok (d : RpD) : Prop where
  len : d.gv.length = 128
  nt : rU64 d.nt
  hd : rU64 d.hd
  tl : rU64 d.tl
def qpSub (who : Int) (gl : Int → Int) (cl : Nat) (P T G : Int) (l : List Int) : Sub := ⟨QpT, qpPM gl l, qpI who cl gl l, Rd.lay cl P T G, 142, 335⟩
def rpExt (who : Int) (gl : Int → Int) (cl : Nat) (t : RpT) (es : List Nat) (w : World) (Le : List Nat) : Prop := match t with
  | .acq d _ => d.gv.length = 128 ∧ qpI who cl gl d.all w (es.getD 0 0) (.ch 0) Le
  | .rel d q _ => d.gv.length = 128 ∧ qpI who cl gl d.all w (es.getD 0 0) q Le
  | _ => Le = []
def rpCp (who : Int) (gl : Int → Int) (P T G p : Int) (cl : Nat) : Cp RpT where
  T := 249
  cells := rpAt who p cl
  kind := fun
    | .nx _ => .acc (axLd (wd 20 P 264 p 3)) (.told 215)
    | .sn d => .acc (axSw (wd 20 P 264 p 3) d.nt (rpw d.g)) (.swap 231)
    | .hd _ => .acc (axLd (wd 20 P 264 p 1)) (.told 216)
    | .tl _ => .acc (axLd (wd 20 P 264 p 2)) (.told 232)
    | .st d => .acc (axSt (wd 20 P 264 p (8 + d.tl % 256)) (rpw d.g)) (.untold 249)
    | .ln d => .acc (axSt (wd 20 P 264 p 2) ((d.tl + 1) % 4294967296)) (.untold 265)
    | .gl d k => .acc (axLd (wd 20 P 264 p (8 + IntKind.u64.wrap (d.hd + k) % 256))) (.told 267)
    | .sh d => .acc (axSw (wd 20 P 264 p 1) d.hd ((d.hd + 128) % 4294967296)) (.swap 266)
    | .acq _ q => .run (acqSub (wd 0 2 3 0 0) (wd 0 2 3 0 1) (wd 0 2 3 0 2) who) q (.fn 280)
    | .que d q => .run (qpSub who gl cl P T G d.all) q (.fn 292)
    | .rel _ _ .over => .over
    | .rel _ _ q => .run (relSub (wd 0 2 3 0 1) (wd 0 2 3 0 2) who) q .nil
    | .over _ => .over
  ok := fun
    | .gl d k => d.Ok ∧ k < 128 ∧ d.ld = k
    | .sh d => d.Ok ∧ d.ld = 128
    | .acq d q => d.Ok ∧ q.Live
    | .que d q => d.Ok ∧ ((qpPM gl d.all).ax q).isSome = true
    | t => t.d.Ok
  ext := rpExt who gl cl
  tie := fun t es y => match t with
    | .que _ _ => es.getD 0 0 = y
    | _ => True
theorem ent_rp1 : Ent 215 := fun args w => by kernel_rfl
theorem ent_rp2 : Ent 231 := fun args w => by kernel_rfl
theorem ent_rp3 : Ent 216 := fun args w => by kernel_rfl
theorem ent_rp4 : Ent 232 := fun args w => by kernel_rfl
theorem ent_rp5 : Ent 249 := fun args w => by kernel_rfl
theorem ent_rp6 : Ent 265 := fun args w => by kernel_rfl
theorem ent_rp7 : Ent 267 := fun args w => by kernel_rfl
theorem ent_rp8 : Ent 266 := fun args w => by kernel_rfl
theorem ent_rp9 : Ent 280 := fun args w => by kernel_rfl
theorem ent_rp10 : Ent 292 := fun args w => by kernel_rfl
theorem rpw_bd (g : Int) : 0 ≤ rpw g ∧ rpw g ≤ 18446744073709551615 := by
  unfold rpw
  generalize IntKind.u64.wrap g + 1 = z
  simp [IntKind.wrap, IntKind.bits, IntKind.signed]
  omega
theorem rp_acq_live {tk sv ow who v : Int} (p : AcqT) (h : ((acqPM tk sv ow who).ax ((acqPM tk sv ow who).nx p v)).isSome = true) : ((acqPM tk sv ow who).nx p v).Live := by
  cases hp : (acqPM tk sv ow who).nx p v with
  | over t => rw [hp] at h; cases h
  | fresh => trivial
  | wait t => trivial
  | has t => trivial
theorem rp_acq_goes {σ : Type} {f : AcqT → σ} {e : σ} : ∀ (p : AcqT), p.Live → p.goes f e = f p
  | .fresh, _ => rfl
  | .wait _, _ => rfl
  | .has _, _ => rfl
theorem rp_acq_over {σ : Type} {f : AcqT → σ} {e : σ} {tk sv ow who : Int} : ∀ (p : AcqT), (acqPM tk sv ow who).ax p = none → p.goes f e = e
  | .fresh, h => by cases h
  | .wait _, h => by cases h
  | .has _, h => by cases h
  | .over _, _ => rfl
theorem rp_acq_some {tk sv ow who : Int} : ∀ (p : AcqT), p.Live → ((acqPM tk sv ow who).ax p).isSome = true
  | .fresh, _ => rfl
  | .wait _, _ => rfl
  | .has _, _ => rfl

section
variable {who P T G p : Int} {gl : Int → Int} {cl : Nat} {W w' : World} {x : Nat} {t : RpT} {a : Ax} {f : Fol} {es Le Le' : List Nat}
theorem rp_land_acc (h : Came W w' x (rpAt who p cl t es none) 249 a f) (hok : (rpCp who gl P T G p cl).ok t) (hk : (rpCp who gl P T G p cl).kind t = .acc a f) (hx : x < W.heap.size) (he : rpExt who gl cl t es w' Le') (hxe : x ∉ Le') (hle : ∀ k ∈ Le', k ∈ Le ∧ k < W.heap.size) : (rpCp who gl P T G p cl).Land W w' x t Le := by
  obtain ⟨q, Lc, c1, c2, c3, c4⟩ := h
  refine ⟨c3, x :: (Lc ++ Le'), ⟨hok, es, Le', he, hxe, ?_⟩, fun k hm => by simp at hm; rcases hm with rfl | hm | hm; exact .inl rfl; exact .inr (.inr (c4 k hm)); exact .inr (.inl (hle k hm).1)⟩
  rw [hk]
  refine ⟨q, Lc, ?_, c2, fun hm => absurd (c4 x hm) (by omega), (fun k hm h => by have := c4 k hm; have := (hle k h).2; omega), rfl⟩
  have e : (rpAt who p cl t es none).setIfInBounds 1 (.pointer (some ⟨q, 0, none⟩)) = rpAt who p cl t es (some ⟨q, 0, none⟩) := rp_s1 _
  rw [e] at c1
  exact c1
theorem rp_land_over (h : Blk w' x (rpAt who p cl t es none) 249) (hb : But [x] W w') (hok : (rpCp who gl P T G p cl).ok t) (hk : (rpCp who gl P T G p cl).kind t = .over) (he : rpExt who gl cl t es w' Le') (hxe : x ∉ Le') (hle : ∀ k ∈ Le', k ∈ Le) : (rpCp who gl P T G p cl).Land W w' x t Le := by
  refine ⟨hb, x :: Le', ⟨hok, es, Le', he, hxe, ?_⟩, fun k hm => by simp at hm; rcases hm with rfl | hm; exact .inl rfl; exact .inr (.inl (hle k hm))⟩
  rw [hk]
  exact ⟨h, rfl⟩
theorem rp_land_run {S : Sub} {y q b : Nat} {L : List Nat} {af : After} {pt : S.τ} (hC : CameBox W w' x (rpAt who p cl t es none) 249 (fun v => comCells 0 0 0 0 0 false (.iface S.D (.pointer (some ⟨y, 0, none⟩))) v false false) (af.fol.box x) q b) (hM : S.I w' y pt L) (hxL : x ∉ L) (hL : ∀ k ∈ L, k ∈ Le ∨ W.heap.size ≤ k) (hq : q ∉ L) (hg : b ∉ L) (hok : (rpCp who gl P T G p cl).ok t) (hk : (rpCp who gl P T G p cl).kind t = .run S pt af) (htie : (rpCp who gl P T G p cl).tie t es y) (hx : x < W.heap.size) (he : rpExt who gl cl t es w' Le') (hxe : x ∉ Le') (hd : ∀ k ∈ L, k ∉ Le') (hqe : q ∉ Le' ∧ b ∉ Le') (hle : ∀ k ∈ Le', k ∈ Le ∨ W.heap.size ≤ k) : (rpCp who gl P T G p cl).Land W w' x t Le := by
  refine ⟨hC.at'.but, ?_⟩
  have hfq := hC.at'.fresh
  have hfb := hC.fresh
  refine ⟨x :: q :: b :: (L ++ Le'), ⟨hok, es, Le', he, hxe, ?_⟩, fun k hm => ?_⟩
  · rw [hk]
    refine ⟨q, y, b, L, RunAt.of hC (fun nx => rp_s1 _), hM, htie, ?_, hq, hg, fun k hm => ?_, rfl⟩
    · simp only [List.mem_cons, not_or]
      exact ⟨by omega, by omega, hxL⟩
    · simp only [List.mem_cons] at hm
      rcases hm with rfl | rfl | hm
      · exact hqe.1
      · exact hqe.2
      · exact hd k hm
  · simp only [List.mem_cons, List.mem_append] at hm
    rcases hm with rfl | rfl | rfl | hm | hm
    · exact .inl rfl
    · exact .inr (.inr hfq)
    · exact .inr (.inr hfb)
    · rcases hL k hm with h | h
      · exact .inr (.inl h)
      · exact .inr (.inr h)
    · rcases hle k hm with h | h
      · exact .inr (.inl h)
      · exact .inr (.inr h)
end
end Go.Proofs.YtfdpikkinlljlaaGreat

namespace Go.Proofs.YtfdpikkinlljlaaGreat
open Go Go.RowKit
set_option linter.unusedVariables false
set_option maxRecDepth 100000
set_option linter.unusedSimpArgs false

structure QpIn {σ : Type} (M : PM σ) (gl : Int → Int) (l : List Int) (emb : QpT → σ) : Prop where
  ch : ∀ k, M.ax (emb (.ch k)) = some (axSt (gl (l.getD k 0)) (if k + 1 < l.length then qwd (l.getD (k + 1) 0) else 0))
  ld : M.ax (emb .ld) = some (axLd 7)
  pt : ∀ t, M.ax (emb (.pt t)) = some (axSt (if t = 0 then 6 else gl (gw t)) (qwd (l.getD 0 0)))
  tr : M.ax (emb .tr) = some (axSt 7 (qwd (l.getD (l.length - 1) 0)))
  ct : M.ax (emb .ct) = some (axAd 8 l.length)
  n1 : ∀ k v, M.nx (emb (.ch k)) v = if k + 1 < l.length then emb (.ch (k + 1)) else emb .ld
  n2 : ∀ v, M.nx (emb .ld) v = emb (.pt v)
  n3 : ∀ t v, M.nx (emb (.pt t)) v = emb .tr
  n4 : ∀ v, M.nx (emb .tr) v = emb .ct
  n5 : ∀ v, M.nx (emb .ct) v = emb .over
def QpT.live : QpT → Bool
  | .over => false
  | .done0 => false
  | _ => true
theorem qp_in (gl : Int → Int) (l : List Int) : QpIn (qpPM gl l) gl l (fun p => p) where
  ch := fun _ => rfl
  ld := rfl
  pt := fun _ => rfl
  tr := rfl
  ct := rfl
  n1 := fun _ _ => rfl
  n2 := fun _ => rfl
  n3 := fun _ _ => rfl
  n4 := fun _ => rfl
  n5 := fun _ => rfl
/-- Where a put stopped, and what it holds there. -/
def QpQ {σ : Type} (Q : σ → Prop) (emb : QpT → σ) (l held : List Int) (q : σ) : Prop := (Q q ∧ held = l) ∨ ∃ p', QpT.live p' = true ∧ q = emb p' ∧ held = if p'.lies = true then [] else l
def QpE {σ : Type} (Q : σ → Prop) (emb : QpT → σ) (q : σ) : Prop := Q q ∨ ∃ p', QpT.live p' = true ∧ q = emb p' ∧ p'.lies = false
theorem QpE.q {σ : Type} {Q : σ → Prop} {emb : QpT → σ} {l : List Int} {q : σ} (h : QpE Q emb q) : QpQ Q emb l l q := by
  rcases h with h | ⟨p', h1, h2, h3⟩
  · exact .inl ⟨h, rfl⟩
  · exact .inr ⟨p', h1, h2, by rw [h3]; rfl⟩
def QpGot {σ : Type} (M : PM σ) (emb : QpT → σ) (l : List Int) (w : World) (x : Nat) (A : Option Addr) (cap m : Nat) (g : Nat → Int) (s0 : σ) (Q : σ → Prop) (j : Nat) (e : Ending) (w' : World) : Prop := ∃ (v : Value) (held : List Int) (j' : Nat) (p : QpT), e = .returned v ∧ SeesL w' v held ∧ RunOn w' x A cap m g (M.rj s0 g m j') ∧ Syn M s0 g m j' (emb p) (QpQ Q emb l held) ∧ p.live = false ∧ (j' ≤ m → held = if p.lies = true then [] else l) ∧ But [x] w w' ∧ j ≤ j'
theorem SeesL.but {w w' : World} {A : Option Addr} {n cap x : Nat} {l : List Int} (h : SeesL w (.slice A n cap) l) (hB : But [x] w w') (hx : ∀ b off : Nat, A = some ⟨b, off, none⟩ → b ≠ x) : SeesL w' (.slice A n cap) l := by
  obtain ⟨A', cap', e, h1, h2⟩ := h
  cases e
  refine ⟨_, _, rfl, h1, fun hn => ?_⟩
  obtain ⟨b, off, e1, h3, h4⟩ := h2 hn
  refine ⟨b, off, e1, Nat.lt_of_lt_of_le h3 hB.size, fun j hj => ?_⟩
  rw [← h4 j hj]
  have hk := hB.block b h3 (by simpa using hx b off e1)
  simp only [World.cell?]
  rw [hk]

/-- The same, and where what is answered lies. -/
def QpGotB (B : Option Addr) {σ : Type} (M : PM σ) (emb : QpT → σ) (l : List Int) (w : World) (x : Nat) (A : Option Addr) (cap m : Nat) (g : Nat → Int) (s0 : σ) (Q : σ → Prop) (j : Nat) (e : Ending) (w' : World) : Prop := ∃ (v : Value) (held : List Int) (j' : Nat) (p : QpT), e = .returned v ∧ SeesL w' v held ∧ RunOn w' x A cap m g (M.rj s0 g m j') ∧ Syn M s0 g m j' (emb p) (QpQ Q emb l held) ∧ p.live = false ∧ (j' ≤ m → held = if p.lies = true then [] else l) ∧ But [x] w w' ∧ j ≤ j' ∧ ∀ A1 (n1 c1 : Nat), v = .slice A1 n1 c1 → 0 < n1 → A1 = B
set_option maxHeartbeats 4000000 in
theorem syn_qputB {σ : Type} {M : PM σ} {P T G : Int} {l : List Int} {emb : QpT → σ} (hE : QpIn M (fun y => wd (20 + P * 264 + T * 3) G 2 y 1) l emb) (hp : 0 ≤ P ∧ P ≤ 64) (hT : 0 ≤ T ∧ T ≤ 65536) (hG : 0 ≤ G ∧ G ≤ 65536) (hn : l.length ≤ 1000000)
    {w : World} {x : Nat} {A B : Option Addr} {cap cp m : Nat} {g : Nat → Int} {s0 : σ} {j : Nat} {Q : σ → Prop} (hs : SeesL w (.slice B l.length cp) l) (hsx : 0 < l.length → ∀ b off : Nat, B = some ⟨b, off, none⟩ → b ≠ x) (hR : RunOn w x A cap m g (M.rj s0 g m j)) (hS : Syn M s0 g m j (emb (qpStart l)) Q) (hb : ∀ j, j < m → 0 ≤ g j ∧ g j ≤ 18446744073709551615) :
    Calls Tryz.prog 94 #[.pointer (some ⟨x, 0, none⟩), .agg #[.int .i64 P, .int .i64 T, .int .i64 G], .slice B l.length cp] w fun e w' => QpGotB B M emb l w x A cap m g s0 Q j e w' := by
  have hb0 : Below w.heap.size w (w.alloc (.cells #[.int .i64 P, .int .i64 T, .int .i64 G] 23)) := (Below.refl _ _).alloc (Nat.le_refl _) _
  have HX : Hid (Blk (w.alloc (.cells #[.int .i64 P, .int .i64 T, .int .i64 G] 23)) w.heap.size #[.int .i64 P, .int .i64 T, .int .i64 G] 23) := Blk.new _ _ _
  have hxw := hR.blk.lt
  have HB0 : Hid (But [x] w (w.alloc (.cells #[.int .i64 P, .int .i64 T, .int .i64 G] 23))) := But.of_below hb0
  have HGA : Hid (∀ y w, Calls Tryz.prog 76 #[.agg #[.int .i64 P, .int .i64 T, .int .i64 G], .int .i64 y, .int .i64 1] w fun e w' => e = .returned (.int .i64 (wd (20 + P * 264 + T * 3) G 2 y 1)) ∧ Below w.heap.size w w') := fun y w => refgAt_any P T G y 1 w hp hT hG.2 (by omega)
  have HE : Hid (QpIn M (fun y => wd (20 + P * 264 + T * 3) G 2 y 1) l emb) := hE
  have HBD : Hid (∀ j, j < m → 0 ≤ g j ∧ g j ≤ 18446744073709551615) := hb
  have HSL : Hid (SeesL w (.slice B l.length cp) l) := hs
  have HSX : Hid (0 < l.length → ∀ b off : Nat, B = some ⟨b, off, none⟩ → b ≠ x) := hsx
  have HR0 : Hid (RunOn (w.alloc (.cells #[.int .i64 P, .int .i64 T, .int .i64 G] 23)) x A cap m g (M.rj s0 g m j)) := hR.below hb0
  have HST : Hid (0 < l.length → Syn M s0 g m (j + 0) (emb (.ch 0)) (QpE Q emb)) := fun h0 => by
    have e : qpStart l = .ch 0 := if_neg (fun e => by rw [e] at h0; exact absurd h0 (by simp))
    rw [e] at hS
    exact hS.weak (fun r hr => .inl hr)
  have HS0 : Hid (Syn M s0 g m j (emb (qpStart l)) Q) := hS
  clear hR hS hE hb hb0 hp hT hG hs hsx
  go_enter Tryz.func94, Tryz.ntmps94
  go_wp2_with fail
  generalize w.alloc (.cells #[.int .i64 P, .int .i64 T, .int .i64 G] 23) = W at *
  by_cases hl0 : l.length = 0
  · have hle : l = [] := List.length_eq_zero_iff.1 hl0
    subst hle
    go_loopw [7] (fun i wr => i = .int .i64 0 ∧ wr = W) (fun i _ => 0)
    case atStart => exact ⟨rfl, rfl⟩
    case round =>
      obtain ⟨rfl, rfl⟩ := hrel
      go_wp2_with fail
      go_ret
      exact ⟨.slice none 0 0, [], j, .done0, rfl, ⟨none, 0, rfl, fun _ => ⟨rfl, rfl⟩, fun h => absurd h (by simp)⟩, HR0.out, HS0.out.weak (fun r hr => .inl ⟨hr, rfl⟩), rfl, fun _ => rfl, HB0.out, Nat.le_refl j, (fun _ _ _ e h => by cases e; exact absurd h (by omega))⟩
  · have h0 : 0 < l.length := by omega
    have HSS : Hid _ := HST.out h0
    clear HS0 HST
    obtain ⟨b, off, rfl, hbl, hcl⟩ : ∃ b off : Nat, B = some ⟨b, off, none⟩ ∧ b < w.heap.size ∧ ∀ j, j < l.length → w.cell? ⟨b, off + j, none⟩ = some (.int .i64 (l.getD j 0)) := by
      obtain ⟨A', cap', e, h1, h2⟩ := HSL.out
      cases e
      exact h2 h0
    have hbx : b ≠ x := HSX.out h0 b off rfl
    have HCL : Hid (∀ Y, But [x] w Y → ∀ j, j < l.length → Y.cell? ⟨b, off + j, none⟩ = some (.int .i64 (l.getD j 0))) := fun Y hY j hj => by
      rw [← hcl j hj]
      have hk := hY.block b hbl (by simpa using hbx)
      simp only [World.cell?]
      rw [hk]
    clear hcl
    go_loopw [7] (fun i wr => ∃ k : Nat, k ≤ l.length ∧ i = .int .i64 k ∧ Hid (RunOn wr x A cap m g (M.rj s0 g m (j + k))) ∧ Hid (Syn M s0 g m (j + k) (emb (if k < l.length then .ch k else .ld)) (QpE Q emb)) ∧ Hid (But [x] w wr) ∧ Hid (Blk wr w.heap.size #[.int .i64 P, .int .i64 T, .int .i64 G] 23)) (fun i _ => l.length - (intOf i).toNat)
    case atStart => exact ⟨0, Nat.zero_le _, rfl, HR0, (by rw [if_pos h0]; exact HSS.out : Syn _ _ _ _ _ _ _), HB0, HX⟩
    case round =>
      clear HR0 HSS HB0 HX
      obtain ⟨k, hk, rfl, HR, HS, HB, HX⟩ := hrel
      by_cases hlt : k < l.length
      · have HS1 : Hid (Syn M s0 g m (j + k) (emb (.ch k)) (QpE Q emb)) := by have := HS.out; rw [if_pos hlt] at this; exact this
        have hk0 : (0 : Int) ≤ (k : Int) := by omega
        have hk1 : (k : Int) < (l.length : Int) := by omega
        have cg := HCL.out wr HB.out k hlt
        have y0 := HX.out.cell 0 (v := .int .i64 P) rfl
        have y1 := HX.out.cell 1 (v := .int .i64 T) rfl
        have y2 := HX.out.cell 2 (v := .int .i64 G) rfl
        obtain ⟨nx, hnx⟩ : ∃ nx, (if k + 1 < l.length then qwd (l.getD (k + 1) 0) else 0) = nx := ⟨_, rfl⟩
        have HAX : Hid (M.ax (emb (.ch k)) = some (axSt (wd (20 + P * 264 + T * 3) G 2 (l.getD k 0) 1) nx)) := by
          have := HE.out.ch k
          rw [hnx] at this
          exact this
        have HLD : Hid _ := HGA.out (l.getD k 0)
        have HCY : Hid (∀ Y, But [x] w Y → Y.cell? ⟨b, off + k, none⟩ = some (.int .i64 (l.getD k 0))) := fun Y hY => HCL.out Y hY k hlt
        generalize l.getD k 0 = yk at *
        clear HS
        by_cases hk2 : k + 1 < l.length
        · have cg2 := HCL.out wr HB.out (k + 1) hk2
          have hk3 : (k : Int) + 1 < (l.length : Int) := by omega
          have hd3 : decide ((k : Int) + 1 < (l.length : Int)) = true := decide_eq_true hk3
          have ht : ((k : Int) + 1).toNat = k + 1 := by omega
          have hnx2 : qwd (l.getD (k + 1) 0) = nx := by rw [if_pos hk2] at hnx; exact hnx
          generalize l.getD (k + 1) 0 = y2' at *
          obtain ⟨y3, hy3⟩ : ∃ y3, IntKind.u64.wrap y2' = y3 := ⟨_, rfl⟩
          have e6 : IntKind.u64.wrap (y3 + 1) = nx := by rw [← hy3]; exact hnx2
          clear hnx hnx2
          obtain ⟨at', hat⟩ : ∃ at', wd (20 + P * 264 + T * 3) G 2 yk 1 = at' := ⟨_, rfl⟩
          rw [hat] at HAX HLD
          obtain ⟨QC, hQC⟩ : ∃ QC : World → Prop, QC = fun w' => RunOn w' x A cap m g (M.rj s0 g m (j + k + 1)) ∧ Syn M s0 g m (j + k + 1) (emb (.ch (k + 1))) (QpE Q emb) ∧ But [x] w w' ∧ Blk w' w.heap.size #[.int .i64 P, .int .i64 T, .int .i64 G] 23 := ⟨_, rfl⟩
          have HGAd := HLD.out wr.drew
          have HSt : Hid (∀ w4, Below wr.drew.heap.size wr.drew w4 → Calls Tryz.prog 92 #[.pointer (some ⟨x, 0, none⟩), .int .i64 at', .int .u64 nx] w4 fun e w' => (∃ u, e = .returned u) ∧ QC w') := fun w4 k4 => by
            have hb4 : Below wr.heap.size wr w4 := (show Below wr.heap.size wr wr.drew from (Below.refl _ _).drew).trans k4
            refine (syn_store (HR.out.below hb4) HS1.out HBD.out at' nx (fun _ => HAX.out)).mono ?_
            rintro e w' ⟨hu, v5, hK⟩
            refine ⟨hu, ?_⟩
            rw [hQC]
            refine ⟨hK.run, ?_, (HB.out.trans (But.of_below hb4)).trans hK.but, (HX.out.but (But.of_below (l := []) hb4) (by simp)).but hK.but (by simp; omega)⟩
            have h5 := hK.syn
            rw [HE.out.n1, if_pos hk2] at h5
            exact h5.weak (fun r hr => by rcases hr with rfl | hr; exact .inr ⟨.ch k, rfl, rfl, rfl⟩; exact hr)
          have HSC : Hid (∀ Y, But [x] w Y → Blk Y w.heap.size #[.int .i64 P, .int .i64 T, .int .i64 G] 23 → (Y.cell? ⟨w.heap.size, 0, none⟩ = some (.int .i64 P) ∧ Y.cell? ⟨w.heap.size, 1, none⟩ = some (.int .i64 T) ∧ Y.cell? ⟨w.heap.size, 2, none⟩ = some (.int .i64 G) ∧ Y.cell? ⟨b, off + k, none⟩ = some (.int .i64 yk))) := fun Y hY hBY => ⟨hBY.cell 0 rfl, hBY.cell 1 rfl, hBY.cell 2 rfl, HCY.out Y hY⟩
          have hH : Hid (wr.drew.cell? ⟨w.heap.size, 0, none⟩ = some (.int .i64 P) ∧ wr.drew.cell? ⟨w.heap.size, 1, none⟩ = some (.int .i64 T) ∧ wr.drew.cell? ⟨w.heap.size, 2, none⟩ = some (.int .i64 G) ∧ wr.drew.cell? ⟨b, off + k, none⟩ = some (.int .i64 yk)) := HSC.out _ HB.out.drew HX.out.drew
          have KB : Hid (∀ w4, Below wr.drew.heap.size wr.drew w4 → (w4.cell? ⟨w.heap.size, 0, none⟩ = some (.int .i64 P) ∧ w4.cell? ⟨w.heap.size, 1, none⟩ = some (.int .i64 T) ∧ w4.cell? ⟨w.heap.size, 2, none⟩ = some (.int .i64 G) ∧ w4.cell? ⟨b, off + k, none⟩ = some (.int .i64 yk))) := fun w4 k4 => by
            have hb4 : Below wr.heap.size wr w4 := (show Below wr.heap.size wr wr.drew from (Below.refl _ _).drew).trans k4
            exact HSC.out _ (HB.out.trans (But.of_below hb4)) (HX.out.but (But.of_below (l := []) hb4) (by simp))
          have KC : Hid (∀ w5, QC w5 → (w5.cell? ⟨w.heap.size, 0, none⟩ = some (.int .i64 P) ∧ w5.cell? ⟨w.heap.size, 1, none⟩ = some (.int .i64 T) ∧ w5.cell? ⟨w.heap.size, 2, none⟩ = some (.int .i64 G) ∧ w5.cell? ⟨b, off + k, none⟩ = some (.int .i64 yk))) := fun w5 hC => by
            rw [hQC] at hC
            exact HSC.out _ hC.2.2.1 hC.2.2.2
          have HQC : Hid (∀ w5, QC w5 → RunOn w5 x A cap m g (M.rj s0 g m (j + (k + 1))) ∧ Syn M s0 g m (j + (k + 1)) (emb (if k + 1 < l.length then .ch (k + 1) else .ld)) (QpE Q emb) ∧ But [x] w w5 ∧ Blk w5 w.heap.size #[.int .i64 P, .int .i64 T, .int .i64 G] 23) := fun w5 hC => by
            rw [hQC] at hC
            rw [if_pos hk2]
            exact hC
          clear hQC hat HLD HAX HR HS1 HB HX y0 y1 y2 cg
          go_wp2_with fail
          clear cg2
          go_region_held3 (fun w' => w'.cell? ⟨w.heap.size, 0, none⟩ = some (.int .i64 P) ∧ w'.cell? ⟨w.heap.size, 1, none⟩ = some (.int .i64 T) ∧ w'.cell? ⟨w.heap.size, 2, none⟩ = some (.int .i64 G) ∧ w'.cell? ⟨b, off + k, none⟩ = some (.int .i64 yk)) (first | exact hH.out | exact KB.out _ ‹_› | exact KC.out _ ‹_›) (first | (go_at_call 76; refine HGAd.mono ?_; rintro e w4 ⟨rfl, k4⟩) | (go_at_call 92; refine (HSt.out _ ‹_›).mono ?_; rintro e w5 ⟨⟨u, rfl⟩, hC⟩))
          all_goals
            have HF : Hid _ := HQC.out _ hC
            clear HGAd HSt HSC hH KB KC HQC hC
            go_wp2_with fail
            go_roundw
            case rel => exact ⟨k + 1, by omega, by go_num, HF.out.1, HF.out.2.1, HF.out.2.2.1, HF.out.2.2.2⟩
            case measure => simp [intOf]; omega
        · have hk3 : ¬ ((k : Int) + 1 < (l.length : Int)) := by omega
          have hd3 : decide ((k : Int) + 1 < (l.length : Int)) = false := decide_eq_false hk3
          have hnx2 : (0 : Int) = nx := by rw [if_neg hk2] at hnx; exact hnx
          clear hnx
          subst hnx2
          obtain ⟨at', hat⟩ : ∃ at', wd (20 + P * 264 + T * 3) G 2 yk 1 = at' := ⟨_, rfl⟩
          rw [hat] at HAX HLD
          obtain ⟨QC, hQC⟩ : ∃ QC : World → Prop, QC = fun w' => RunOn w' x A cap m g (M.rj s0 g m (j + k + 1)) ∧ Syn M s0 g m (j + k + 1) (emb (.ld)) (QpE Q emb) ∧ But [x] w w' ∧ Blk w' w.heap.size #[.int .i64 P, .int .i64 T, .int .i64 G] 23 := ⟨_, rfl⟩
          have HGAd := HLD.out wr.drew
          have HSt : Hid (∀ w4, Below wr.drew.heap.size wr.drew w4 → Calls Tryz.prog 92 #[.pointer (some ⟨x, 0, none⟩), .int .i64 at', .int .u64 0] w4 fun e w' => (∃ u, e = .returned u) ∧ QC w') := fun w4 k4 => by
            have hb4 : Below wr.heap.size wr w4 := (show Below wr.heap.size wr wr.drew from (Below.refl _ _).drew).trans k4
            refine (syn_store (HR.out.below hb4) HS1.out HBD.out at' 0 (fun _ => HAX.out)).mono ?_
            rintro e w' ⟨hu, v5, hK⟩
            refine ⟨hu, ?_⟩
            rw [hQC]
            refine ⟨hK.run, ?_, (HB.out.trans (But.of_below hb4)).trans hK.but, (HX.out.but (But.of_below (l := []) hb4) (by simp)).but hK.but (by simp; omega)⟩
            have h5 := hK.syn
            rw [HE.out.n1, if_neg hk2] at h5
            exact h5.weak (fun r hr => by rcases hr with rfl | hr; exact .inr ⟨.ch k, rfl, rfl, rfl⟩; exact hr)
          have HSC : Hid (∀ Y, But [x] w Y → Blk Y w.heap.size #[.int .i64 P, .int .i64 T, .int .i64 G] 23 → (Y.cell? ⟨w.heap.size, 0, none⟩ = some (.int .i64 P) ∧ Y.cell? ⟨w.heap.size, 1, none⟩ = some (.int .i64 T) ∧ Y.cell? ⟨w.heap.size, 2, none⟩ = some (.int .i64 G) ∧ Y.cell? ⟨b, off + k, none⟩ = some (.int .i64 yk))) := fun Y hY hBY => ⟨hBY.cell 0 rfl, hBY.cell 1 rfl, hBY.cell 2 rfl, HCY.out Y hY⟩
          have hH : Hid (wr.drew.cell? ⟨w.heap.size, 0, none⟩ = some (.int .i64 P) ∧ wr.drew.cell? ⟨w.heap.size, 1, none⟩ = some (.int .i64 T) ∧ wr.drew.cell? ⟨w.heap.size, 2, none⟩ = some (.int .i64 G) ∧ wr.drew.cell? ⟨b, off + k, none⟩ = some (.int .i64 yk)) := HSC.out _ HB.out.drew HX.out.drew
          have KB : Hid (∀ w4, Below wr.drew.heap.size wr.drew w4 → (w4.cell? ⟨w.heap.size, 0, none⟩ = some (.int .i64 P) ∧ w4.cell? ⟨w.heap.size, 1, none⟩ = some (.int .i64 T) ∧ w4.cell? ⟨w.heap.size, 2, none⟩ = some (.int .i64 G) ∧ w4.cell? ⟨b, off + k, none⟩ = some (.int .i64 yk))) := fun w4 k4 => by
            have hb4 : Below wr.heap.size wr w4 := (show Below wr.heap.size wr wr.drew from (Below.refl _ _).drew).trans k4
            exact HSC.out _ (HB.out.trans (But.of_below hb4)) (HX.out.but (But.of_below (l := []) hb4) (by simp))
          have KC : Hid (∀ w5, QC w5 → (w5.cell? ⟨w.heap.size, 0, none⟩ = some (.int .i64 P) ∧ w5.cell? ⟨w.heap.size, 1, none⟩ = some (.int .i64 T) ∧ w5.cell? ⟨w.heap.size, 2, none⟩ = some (.int .i64 G) ∧ w5.cell? ⟨b, off + k, none⟩ = some (.int .i64 yk))) := fun w5 hC => by
            rw [hQC] at hC
            exact HSC.out _ hC.2.2.1 hC.2.2.2
          have HQC : Hid (∀ w5, QC w5 → RunOn w5 x A cap m g (M.rj s0 g m (j + (k + 1))) ∧ Syn M s0 g m (j + (k + 1)) (emb (if k + 1 < l.length then .ch (k + 1) else .ld)) (QpE Q emb) ∧ But [x] w w5 ∧ Blk w5 w.heap.size #[.int .i64 P, .int .i64 T, .int .i64 G] 23) := fun w5 hC => by
            rw [hQC] at hC
            rw [if_neg hk2]
            exact hC
          clear hQC hat HLD HAX HR HS1 HB HX y0 y1 y2 cg
          go_wp2_with fail
          go_region_held3 (fun w' => w'.cell? ⟨w.heap.size, 0, none⟩ = some (.int .i64 P) ∧ w'.cell? ⟨w.heap.size, 1, none⟩ = some (.int .i64 T) ∧ w'.cell? ⟨w.heap.size, 2, none⟩ = some (.int .i64 G) ∧ w'.cell? ⟨b, off + k, none⟩ = some (.int .i64 yk)) (first | exact hH.out | exact KB.out _ ‹_› | exact KC.out _ ‹_›) (first | (go_at_call 76; refine HGAd.mono ?_; rintro e w4 ⟨rfl, k4⟩) | (go_at_call 92; refine (HSt.out _ ‹_›).mono ?_; rintro e w5 ⟨⟨u, rfl⟩, hC⟩))
          all_goals
            have HF : Hid _ := HQC.out _ hC
            clear HGAd HSt HSC hH KB KC HQC hC
            go_wp2_with fail
            go_roundw
            case rel => exact ⟨k + 1, by omega, by go_num, HF.out.1, HF.out.2.1, HF.out.2.2.1, HF.out.2.2.2⟩
            case measure => simp [intOf]; omega
      · obtain rfl : k = l.length := by omega
        have HS1 : Hid (Syn M s0 g m (j + l.length) (emb .ld) (QpE Q emb)) := by have := HS.out; rw [if_neg hlt] at this; exact this
        have hgd : decide ((l.length : Int) < (l.length : Int)) = false := by simp
        have hz0 : ((l.length : Int) == 0) = false := by rw [beq_eq_false_iff_ne]; omega
        have hz1 : decide ((l.length : Int) = 0) = false := decide_eq_false (by omega)
        have hL := syn_load HR.out HS1.out HBD.out 7 (fun _ => HE.out.ld)
        have HJ : Hid (∀ q : Nat, j ≤ j + l.length + q) := fun q => (by omega : j ≤ j + l.length + q)
        generalize j + l.length = j1 at *
        clear HS hlt hk HR HS1
        go_wp2_with fail
        go_at_call 75; refine hL.mono ?_; rintro e z2 ⟨t, rfl, hK⟩
        have htb := hK.bd
        have HR2 : Hid (RunOn z2 x A cap m g (M.rj s0 g m (j1 + 1))) := hK.run
        have HS2 : Hid (Syn M s0 g m (j1 + 1) (emb (.pt t)) (QpE Q emb)) := by
          have := hK.syn
          rw [HE.out.n2] at this
          exact this.weak (fun r hr => by rcases hr with rfl | hr; exact .inr ⟨.ld, rfl, rfl, rfl⟩; exact hr)
        have HB2 : Hid (But [x] w z2) := HB.out.trans hK.but
        have HX2 : Hid (Blk z2 w.heap.size #[.int .i64 P, .int .i64 T, .int .i64 G] 23) := HX.out.but hK.but (by simp; omega)
        clear hL hK HB HX
        have HC0 : Hid (∀ Y, But [x] w Y → Y.cell? ⟨b, off, none⟩ = some (.int .i64 (l.getD 0 0))) := fun Y hY => HCL.out Y hY 0 h0
        have HCN : Hid (∀ Y, But [x] w Y → Y.cell? ⟨b, off + (l.length - 1), none⟩ = some (.int .i64 (l.getD (l.length - 1) 0))) := fun Y hY => HCL.out Y hY (l.length - 1) (by omega)
        have HPT : Hid (∀ t, M.ax (emb (.pt t)) = some (axSt (if t = 0 then 6 else wd (20 + P * 264 + T * 3) G 2 (gw t) 1) (qwd (l.getD 0 0)))) := HE.out.pt
        have HTR : Hid (M.ax (emb .tr) = some (axSt 7 (qwd (l.getD (l.length - 1) 0)))) := HE.out.tr
        generalize l.getD 0 0 = ya at *
        generalize l.getD (l.length - 1) 0 = yz at *
        obtain ⟨ya1, hya1⟩ : ∃ a, IntKind.u64.wrap ya = a := ⟨_, rfl⟩
        obtain ⟨ya2, hya2⟩ : ∃ a, qwd ya = a := ⟨_, rfl⟩
        have e2 : IntKind.u64.wrap (ya1 + 1) = ya2 := by rw [← hya1]; exact hya2
        obtain ⟨yz1, hyz1⟩ : ∃ a, IntKind.u64.wrap yz = a := ⟨_, rfl⟩
        obtain ⟨yz2, hyz2⟩ : ∃ a, qwd yz = a := ⟨_, rfl⟩
        have e4 : IntKind.u64.wrap (yz1 + 1) = yz2 := by rw [← hyz1]; exact hyz2
        rw [hya2] at HPT
        rw [hyz2] at HTR
        clear hya2 hyz2
        have e5 : IntKind.u64.wrap (l.length : Int) = (l.length : Int) := wrap_u64 (by omega)
        have e6 : ((l.length : Int) - 1).toNat = l.length - 1 := by omega
        have e7 : (0 : Int) < (l.length : Int) := by omega
        have e8 : (l.length : Int) - 1 < (l.length : Int) := by omega
        have e9 : (0 : Int) ≤ (l.length : Int) - 1 := by omega
        by_cases t0 : t = 0
        · subst t0
          have cg := HC0.out z2 HB2.out
          have HP0 : Hid (M.ax (emb (.pt 0)) = some (axSt 6 ya2)) := by have := HPT.out 0; rw [if_pos rfl] at this; exact this
          have hSt := syn_store HR2.out HS2.out HBD.out 6 ya2 (fun _ => HP0.out)
          clear HPT HP0 htb
          go_wp2_with fail
          go_at_call 92; refine hSt.mono ?_; rintro e z4 ⟨⟨u4, rfl⟩, v4, hK⟩
          have HR4 : Hid (RunOn z4 x A cap m g (M.rj s0 g m (j1 + 1 + 1))) := hK.run
          have HS4 : Hid (Syn M s0 g m (j1 + 1 + 1) (emb .tr) (QpE Q emb)) := by
            have := hK.syn
            rw [HE.out.n3] at this
            exact this.weak (fun r hr => by rcases hr with rfl | hr; exact .inr ⟨.pt 0, rfl, rfl, rfl⟩; exact hr)
          have HB4 : Hid (But [x] w z4) := HB2.out.trans hK.but
          have s4 := HR4.out.blk.cell 2 (v := .bool (M.rj s0 g m (j1 + 1 + 1)).stop) rfl
          rw [rj_stop HS4.out] at s4
          have cz := HCN.out z4 HB4.out
          have hSt2 := syn_store HR4.out HS4.out HBD.out 7 yz2 (fun _ => HTR.out)
          clear hSt hK cg HB2 HR2 HS2
          by_cases hm4 : m < j1 + 1 + 1
          · rw [decide_eq_true hm4] at s4
            have HM : Hid (m < j1 + 1 + 1) := hm4
            clear hm4
            go_wp2_with fail
            go_at_call 92; refine hSt2.mono ?_; rintro e z5 ⟨⟨u5, rfl⟩, v5, hK⟩
            have HB5 : Hid (But [x] w z5) := HB4.out.trans hK.but
            have HS5 : Hid (Syn M s0 g m (j1 + 1 + 1 + 1) (emb .ct) (QpQ Q emb l l)) := ⟨fun h => absurd h (by have := HM.out; omega), fun h => ⟨(HS4.out.past HM.out).1.q, (HS4.out.past HM.out).2⟩⟩
            have hA := syn_add hK.run HS5.out HBD.out 8 (l.length : Int) (fun _ => HE.out.ct)
            clear hSt2 hK s4 cz
            go_wp2_with fail
            go_at_call 137; refine hA.mono ?_; rintro e z6 ⟨v6, rfl, hK⟩
            have HF : Hid (QpGotB (some ⟨b, off, none⟩) M emb l w x A cap m g s0 Q j (.returned (.slice (some ⟨b, off, none⟩) l.length cp)) z6) := ⟨_, l, j1 + 1 + 1 + 1 + 1, .over, rfl, HSL.out.but (HB5.out.trans hK.but) (HSX.out (by omega)), hK.run, ⟨fun h => absurd h (by have := HM.out; omega), fun h => ⟨(HS5.out.past (by have := HM.out; omega)).1, (HS5.out.past (by have := HM.out; omega)).2⟩⟩, rfl, fun h => absurd h (by have := HM.out; omega), HB5.out.trans hK.but, HJ.out 4, (fun _ _ _ e _ => by cases e; rfl)⟩
            clear hA hK
            go_wp2_with fail
            go_ret
            exact HF.out
          · rw [decide_eq_false hm4] at s4
            have HM : Hid (j1 + 1 + 1 ≤ m) := (by omega : j1 + 1 + 1 ≤ m)
            clear hm4
            go_wp2_with fail
            go_at_call 92; refine hSt2.mono ?_; rintro e z5 ⟨⟨u5, rfl⟩, v5, hK⟩
            have HB5 : Hid (But [x] w z5) := HB4.out.trans hK.but
            have HS5 : Hid (Syn M s0 g m (j1 + 1 + 1 + 1) (emb .ct) (QpQ Q emb l [])) := by
              have h5 := hK.syn
              rw [HE.out.n4] at h5
              refine ⟨h5.at', fun h => ⟨?_, (h5.past h).2⟩⟩
              have hmj : m = j1 + 1 + 1 := by have := HM.out; omega
              have h6 := HS4.out.at' HM.out
              rw [← hmj] at h6
              exact .inr ⟨.tr, rfl, h6, rfl⟩
            have hA := syn_add hK.run HS5.out HBD.out 8 (l.length : Int) (fun _ => HE.out.ct)
            clear hSt2 hK s4 cz
            go_wp2_with fail
            go_at_call 137; refine hA.mono ?_; rintro e z6 ⟨v6, rfl, hK⟩
            have HF : Hid (QpGotB (some ⟨b, off, none⟩) M emb l w x A cap m g s0 Q j (.returned (.slice none 0 0)) z6) := by
              have h7 := hK.syn
              rw [HE.out.n5] at h7
              exact ⟨_, [], j1 + 1 + 1 + 1 + 1, .over, rfl, ⟨none, 0, rfl, fun _ => ⟨rfl, rfl⟩, fun h => absurd h (by simp)⟩, hK.run, h7.weak (fun r hr => by rcases hr with rfl | hr; exact .inr ⟨.ct, rfl, rfl, rfl⟩; exact hr), rfl, fun _ => rfl, HB5.out.trans hK.but, HJ.out 4, (fun _ _ _ e h => by cases e; exact absurd h (by omega))⟩
            clear hA hK
            go_wp2_with fail
            go_ret
            exact HF.out
        · have ht0 : (t == 0) = false := by simpa using t0
          have ht1 : (t != 0) = true := by simpa using t0
          have HP0 : Hid (M.ax (emb (.pt t)) = some (axSt (wd (20 + P * 264 + T * 3) G 2 (gw t) 1) ya2)) := by have := HPT.out t; rw [if_neg t0] at this; exact this
          have hGA2 := HGA.out (gw t) z2
          have y0 := HX2.out.cell 0 (v := .int .i64 P) rfl
          have y1 := HX2.out.cell 1 (v := .int .i64 T) rfl
          have y2 := HX2.out.cell 2 (v := .int .i64 G) rfl
          have eg : wrap64 (IntKind.i64.wrap t - 1) = gw t := gw_eq t htb
          have HSt0 : Hid (∀ Y, Below z2.heap.size z2 Y → Calls Tryz.prog 92 #[.pointer (some ⟨x, 0, none⟩), .int .i64 (wd (20 + P * 264 + T * 3) G 2 (gw t) 1), .int .u64 ya2] Y fun e w' => (∃ v, e = .returned v) ∧ ∃ v, Kept' Y w' x A cap m g M s0 (j1 + 1) (emb (.pt t)) (QpE Q emb) v) := fun Y hY => syn_store (HR2.out.below hY) HS2.out HBD.out _ ya2 (fun _ => HP0.out)
          generalize wd (20 + P * 264 + T * 3) G 2 (gw t) 1 = at' at *
          generalize gw t = gt at *
          generalize hvv : IntKind.i64.wrap t = t' at *
          clear HPT HP0
          go_wp2_with fail
          go_at_call 76; refine hGA2.mono ?_; rintro e z3 ⟨rfl, k3⟩
          have hSt := HSt0.out z3 k3
          have HB2 : Hid (But [x] w z3) := HB2.out.trans (But.of_below k3)
          have cg := HC0.out z3 HB2.out
          clear hGA2 HSt0 k3 y0 y1 y2 HX2 eg hvv
          go_wp2_with fail
          go_at_call 92; refine hSt.mono ?_; rintro e z4 ⟨⟨u4, rfl⟩, v4, hK⟩
          have HR4 : Hid (RunOn z4 x A cap m g (M.rj s0 g m (j1 + 1 + 1))) := hK.run
          have HS4 : Hid (Syn M s0 g m (j1 + 1 + 1) (emb .tr) (QpE Q emb)) := by
            have := hK.syn
            rw [HE.out.n3] at this
            exact this.weak (fun r hr => by rcases hr with rfl | hr; exact .inr ⟨.pt t, rfl, rfl, rfl⟩; exact hr)
          have HB4 : Hid (But [x] w z4) := HB2.out.trans hK.but
          have s4 := HR4.out.blk.cell 2 (v := .bool (M.rj s0 g m (j1 + 1 + 1)).stop) rfl
          rw [rj_stop HS4.out] at s4
          have cz := HCN.out z4 HB4.out
          have hSt2 := syn_store HR4.out HS4.out HBD.out 7 yz2 (fun _ => HTR.out)
          clear hSt hK cg HB2 HR2 HS2
          by_cases hm4 : m < j1 + 1 + 1
          · rw [decide_eq_true hm4] at s4
            have HM : Hid (m < j1 + 1 + 1) := hm4
            clear hm4
            go_wp2_with fail
            go_at_call 92; refine hSt2.mono ?_; rintro e z5 ⟨⟨u5, rfl⟩, v5, hK⟩
            have HB5 : Hid (But [x] w z5) := HB4.out.trans hK.but
            have HS5 : Hid (Syn M s0 g m (j1 + 1 + 1 + 1) (emb .ct) (QpQ Q emb l l)) := ⟨fun h => absurd h (by have := HM.out; omega), fun h => ⟨(HS4.out.past HM.out).1.q, (HS4.out.past HM.out).2⟩⟩
            have hA := syn_add hK.run HS5.out HBD.out 8 (l.length : Int) (fun _ => HE.out.ct)
            clear hSt2 hK s4 cz
            go_wp2_with fail
            go_at_call 137; refine hA.mono ?_; rintro e z6 ⟨v6, rfl, hK⟩
            have HF : Hid (QpGotB (some ⟨b, off, none⟩) M emb l w x A cap m g s0 Q j (.returned (.slice (some ⟨b, off, none⟩) l.length cp)) z6) := ⟨_, l, j1 + 1 + 1 + 1 + 1, .over, rfl, HSL.out.but (HB5.out.trans hK.but) (HSX.out (by omega)), hK.run, ⟨fun h => absurd h (by have := HM.out; omega), fun h => ⟨(HS5.out.past (by have := HM.out; omega)).1, (HS5.out.past (by have := HM.out; omega)).2⟩⟩, rfl, fun h => absurd h (by have := HM.out; omega), HB5.out.trans hK.but, HJ.out 4, (fun _ _ _ e _ => by cases e; rfl)⟩
            clear hA hK
            go_wp2_with fail
            go_ret
            exact HF.out
          · rw [decide_eq_false hm4] at s4
            have HM : Hid (j1 + 1 + 1 ≤ m) := (by omega : j1 + 1 + 1 ≤ m)
            clear hm4
            go_wp2_with fail
            go_at_call 92; refine hSt2.mono ?_; rintro e z5 ⟨⟨u5, rfl⟩, v5, hK⟩
            have HB5 : Hid (But [x] w z5) := HB4.out.trans hK.but
            have HS5 : Hid (Syn M s0 g m (j1 + 1 + 1 + 1) (emb .ct) (QpQ Q emb l [])) := by
              have h5 := hK.syn
              rw [HE.out.n4] at h5
              refine ⟨h5.at', fun h => ⟨?_, (h5.past h).2⟩⟩
              have hmj : m = j1 + 1 + 1 := by have := HM.out; omega
              have h6 := HS4.out.at' HM.out
              rw [← hmj] at h6
              exact .inr ⟨.tr, rfl, h6, rfl⟩
            have hA := syn_add hK.run HS5.out HBD.out 8 (l.length : Int) (fun _ => HE.out.ct)
            clear hSt2 hK s4 cz
            go_wp2_with fail
            go_at_call 137; refine hA.mono ?_; rintro e z6 ⟨v6, rfl, hK⟩
            have HF : Hid (QpGotB (some ⟨b, off, none⟩) M emb l w x A cap m g s0 Q j (.returned (.slice none 0 0)) z6) := by
              have h7 := hK.syn
              rw [HE.out.n5] at h7
              exact ⟨_, [], j1 + 1 + 1 + 1 + 1, .over, rfl, ⟨none, 0, rfl, fun _ => ⟨rfl, rfl⟩, fun h => absurd h (by simp)⟩, hK.run, h7.weak (fun r hr => by rcases hr with rfl | hr; exact .inr ⟨.ct, rfl, rfl, rfl⟩; exact hr), rfl, fun _ => rfl, HB5.out.trans hK.but, HJ.out 4, (fun _ _ _ e h => by cases e; exact absurd h (by omega))⟩
            clear hA hK
            go_wp2_with fail
            go_ret
            exact HF.out
theorem syn_qput {σ : Type} {M : PM σ} {P T G : Int} {l : List Int} {emb : QpT → σ} (hE : QpIn M (fun y => wd (20 + P * 264 + T * 3) G 2 y 1) l emb) (hp : 0 ≤ P ∧ P ≤ 64) (hT : 0 ≤ T ∧ T ≤ 65536) (hG : 0 ≤ G ∧ G ≤ 65536) (hn : l.length ≤ 1000000)
    {w : World} {x : Nat} {A B : Option Addr} {cap cp m : Nat} {g : Nat → Int} {s0 : σ} {j : Nat} {Q : σ → Prop} (hs : SeesL w (.slice B l.length cp) l) (hsx : 0 < l.length → ∀ b off : Nat, B = some ⟨b, off, none⟩ → b ≠ x) (hR : RunOn w x A cap m g (M.rj s0 g m j)) (hS : Syn M s0 g m j (emb (qpStart l)) Q) (hb : ∀ j, j < m → 0 ≤ g j ∧ g j ≤ 18446744073709551615) :
    Calls Tryz.prog 94 #[.pointer (some ⟨x, 0, none⟩), .agg #[.int .i64 P, .int .i64 T, .int .i64 G], .slice B l.length cp] w fun e w' => QpGot M emb l w x A cap m g s0 Q j e w' :=
  (syn_qputB hE hp hT hG hn hs hsx hR hS hb).mono fun e w' ⟨v, held, j', p, a1, a2, a3, a4, a5, a6, a7, a8, _⟩ => ⟨v, held, j', p, a1, a2, a3, a4, a5, a6, a7, a8⟩
end Go.Proofs.YtfdpikkinlljlaaGreat

namespace Go.Proofs.YtfdpikkinlljlaaGreat
open Go Go.RowKit
set_option linter.unusedVariables false
set_option maxRecDepth 100000
set_option linter.unusedSimpArgs false

theorem rqput_on (w : World) (x : Nat) (A B : Option Addr) (cap cp m : Nat) (gf : Nat → Int) (P T G : Int) (l : List Int) (t : QpT) (h : RunOn w x A cap m gf rn0) (hh : Hist (qpPM (fun y => wd (20 + P * 264 + T * 3) G 2 y 1) l) (qpStart l) gf m t) (hp : 0 ≤ P ∧ P ≤ 64) (hT : 0 ≤ T ∧ T ≤ 65536) (hG : 0 ≤ G ∧ G ≤ 65536) (hn : l.length ≤ 1000000)
    (hs : SeesL w (.slice B l.length cp) l) (hsx : 0 < l.length → ∀ b off : Nat, B = some ⟨b, off, none⟩ → b ≠ x) :
    Calls Tryz.prog 94 #[.pointer (some ⟨x, 0, none⟩), .agg #[.int .i64 P, .int .i64 T, .int .i64 G], .slice B l.length cp] w fun e w' => ∃ v, e = .returned v ∧ SeesL w' v (if t.lies = true then [] else l) ∧ RunOn w' x A cap m gf ((qpPM (fun y => wd (20 + P * 264 + T * 3) G 2 y 1) l).rn t m) ∧ But [x] w w' := by
  rw [← rj_start (M := qpPM (fun y => wd (20 + P * 264 + T * 3) G 2 y 1) l) (s0 := qpStart l) (g := gf) (m := m)] at h
  refine (syn_qput (qp_in _ l) hp hT hG hn hs hsx h (Syn.start _ _ _ _) hh.bd).mono ?_
  rintro e w' ⟨v, held, j', p, rfl, h0, h1, h2, h3, h4, h5, -⟩
  have hn' : (qpPM (fun y => wd (20 + P * 264 + T * 3) G 2 y 1) l).ax p = none := by cases p <;> first | rfl | cases h3
  have hr : held = if t.lies = true then [] else l := by
    rcases h2.fin hh (fun _ => hn') with ⟨e1, e2⟩ | ⟨-, (⟨hf, -⟩ | ⟨p', -, e1, e2⟩)⟩
    · rw [e1]; exact h4 (by omega)
    · exact hf.elim
    · rw [e1]; exact e2
  rw [← hr]
  refine ⟨v, rfl, h0, ?_, h5⟩
  rw [← rj_end h2 hh (fun _ => hn')]
  exact h1
theorem qp_axok (gl : Int → Int) (l : List Int) (hn : l.length ≤ 1000000) : ∀ t a, (qpPM gl l).ax t = some a → a.Ok := by
  intro t a h
  cases t with
  | ch k =>
    cases h
    have := qwd_bd (l.getD (k + 1) 0)
    refine axSt_ok _ _ ?_
    split <;> omega
  | ld => cases h; exact axLd_ok _
  | pt t => cases h; exact axSt_ok _ _ (qwd_bd _)
  | tr => cases h; exact axSt_ok _ _ (qwd_bd _)
  | ct => cases h; exact axAd_ok _ _ (by omega)
  | over => cases h
  | done0 => cases h
theorem qp_new_any (w : World) (cl : Nat) (who P T G : Int) (sl : Value) (l : List Int) (hs : SeesL w sl l) (hn : l.length ≤ 1000000) (hl : Lay w cl P T G) (hp : 0 ≤ P ∧ P ≤ 64) (hT : 0 ≤ T ∧ T ≤ 65536) (hG : 0 ≤ G ∧ G ≤ 65536) :
    Calls Tryz.prog 143 #[.pointer (some ⟨cl, 0, none⟩), .int .i64 who, sl] w fun e w' => ∃ x L, e = .returned (.pointer (some ⟨x, 0, none⟩)) ∧ qpI who cl (fun y => wd (20 + P * 264 + T * 3) G 2 y 1) l w' x (qpStart l) L ∧ Below w.heap.size w w' ∧ (∀ k ∈ L, w.heap.size ≤ k) := by
  by_cases h0 : l = []
  · subst h0
    refine (qp_new_nil w cl who (fun y => wd (20 + P * 264 + T * 3) G 2 y 1) sl hs).mono ?_
    rintro e w' ⟨x, L, h1, h2, h3, h4, -⟩
    exact ⟨x, L, h1, h2, h3, h4⟩
  · refine (qp_new_some w cl who P T G sl l hs (List.length_pos_iff.2 h0) hn hl hp hT hG).mono ?_
    rintro e w' ⟨x, L, h1, h2, h3, h4, -⟩
    refine ⟨x, L, h1, ?_, h3, h4⟩
    rw [show qpStart l = .ch 0 from if_neg h0]
    exact h2
def knownL (G : Int) (l : List Int) : Bool := l.all (fun y => decide (0 ≤ y ∧ y < G))
end Go.Proofs.YtfdpikkinlljlaaGreat

namespace Go.Proofs.YtfdpikkinlljlaaGreat
open Go Go.RowKit
set_option linter.unusedVariables false
set_option maxRecDepth 100000
set_option linter.unusedSimpArgs false

theorem folC_swap {W : World} {x K : Nat} {v : Int} {M : World → Prop} (b : Bool) (hb : decide (v ≠ 0) = b) (h : Calls Tryz.prog K #[.pointer (some ⟨x, 0, none⟩), .bool b] W fun e w' => (∃ u, e = .returned u) ∧ M w') : FolC W x (.swap K) v M := by
  subst hb; exact h
theorem qp_keep1 {who P T G : Int} {cl : Nat} {l : List Int} (hp : 0 ≤ P ∧ P ≤ 64) (hT : 0 ≤ T ∧ T ≤ 65536) (hG : 0 ≤ G ∧ G ≤ 65536) (hn : l.length ≤ 1000000) {a b : World} {y x : Nat} {t : QpT} {L : List Nat} (h : qpI who cl (fun y => wd (20 + P * 264 + T * 3) G 2 y 1) l a y t L) (hb : But [x] a b) (hx : x ∉ L) : qpI who cl (fun y => wd (20 + P * 264 + T * 3) G 2 y 1) l b y t L :=
  (qp_good who P T G cl l hp hT hG hn).keep h hb (fun k hk hm => by simp at hm; exact hx (hm ▸ hk))
theorem RpD.all_len' {d : RpD} (h : d.gv.length = 128) : d.all.length = 129 := by
  unfold RpD.all
  rw [List.length_append, h]; rfl
theorem RpD.all_len {d : RpD} (h : d.Ok) : d.all.length = 129 := RpD.all_len' h.len
theorem RpD.take1_ok {d : RpD} (h : d.Ok) (k : Nat) (v : Int) : (d.take1 k v).Ok := ⟨by show (d.gv.set k _).length = 128; rw [List.length_set]; exact h.len, h.nt, h.hd, h.tl⟩
section
variable {who P T G p : Int} {cl : Nat}
theorem rp_on {gl : Int → Int} {v : Int} {t : RpT} {S : Sub} {q : S.τ} {af : After} (hok : (rpCp who gl P T G p cl).ok t) (hk : (rpCp who gl P T G p cl).kind t = .run S q af) (hs : (S.M.ax (S.M.nx q v)).isSome = true) :
    (rpCp who gl P T G p cl).ok ((rpPM who P p gl).nx t v) ∧ (rpCp who gl P T G p cl).kind ((rpPM who P p gl).nx t v) = .run S (S.M.nx q v) af ∧ (∀ es, (rpCp who gl P T G p cl).cells ((rpPM who P p gl).nx t v) es = (rpCp who gl P T G p cl).cells t es) ∧ (∀ es w Le, (rpCp who gl P T G p cl).ext t es w Le → (rpCp who gl P T G p cl).ext ((rpPM who P p gl).nx t v) es w Le) ∧ (∀ es y, (rpCp who gl P T G p cl).tie t es y → (rpCp who gl P T G p cl).tie ((rpPM who P p gl).nx t v) es y) := by
  cases t with
  | acq d q =>
    cases hk
    have hl := rp_acq_live q hs
    have e : (rpPM who P p gl).nx (.acq d q) v = .acq d ((acqPM (wd 0 2 3 0 0) (wd 0 2 3 0 1) (wd 0 2 3 0 2) who).nx q v) := rp_acq_goes _ hl
    rw [e]
    exact ⟨⟨hok.1, hl⟩, rfl, fun _ => rfl, fun _ _ _ h => h, fun _ _ h => h⟩
  | que d q =>
    cases hk
    have e : (rpPM who P p gl).nx (.que d q) v = .que d ((qpPM gl d.all).nx q v) := if_pos hs
    rw [e]
    exact ⟨⟨hok.1, hs⟩, rfl, fun _ => rfl, fun _ _ _ h => h, fun _ _ h => h⟩
  | rel d r q =>
    cases q with
    | over => cases hk
    | fresh => cases hk; exact ⟨hok, rfl, fun _ => rfl, fun _ _ _ h => h, fun _ _ h => h⟩
    | pass => cases hk; cases hs
  | _ => cases hk

set_option maxHeartbeats 4000000 in
theorem rp_laws (hw : 0 ≤ who ∧ who ≤ 1000000) (hp : 0 ≤ P ∧ P ≤ 64) (hT : 0 ≤ T ∧ T ≤ 65536) (hG : 0 ≤ G ∧ G ≤ 65536) :
    (rpCp who (fun y => wd (20 + P * 264 + T * 3) G 2 y 1) P T G p cl).Laws (rpPM who P p (fun y => wd (20 + P * 264 + T * 3) G 2 y 1)) (Rd.lay cl P T G) who where
  c0 := fun t es nx => rp_c0
  c1 := fun t es nx => rp_c1
  set := fun t es nx nx' => rp_s1 _
  k0 := fun t hok hk => by
    cases t with
    | rel d r q => cases q <;> first | rfl | cases hk
    | over d => rfl
    | _ => cases hk
  k1 := fun t a f hok hk => by
    cases t with
    | acq d q => cases hk
    | que d q => cases hk
    | rel d r q => cases q <;> cases hk
    | over d => cases hk
    | nx d => cases hk; exact ⟨rfl, axLd_ok _, ent_rp1⟩
    | sn d => cases hk; exact ⟨rfl, axSw_ok _ _ _ (rpw_bd _), ent_rp2⟩
    | hd d => cases hk; exact ⟨rfl, axLd_ok _, ent_rp3⟩
    | tl d => cases hk; exact ⟨rfl, axLd_ok _, ent_rp4⟩
    | st d => cases hk; exact ⟨rfl, axSt_ok _ _ (rpw_bd _), ent_rp5⟩
    | ln d => cases hk; exact ⟨rfl, axSt_ok _ _ (by omega), ent_rp6⟩
    | gl d k => cases hk; exact ⟨rfl, axLd_ok _, ent_rp7⟩
    | sh d => cases hk; exact ⟨rfl, axSw_ok _ _ _ (by omega), ent_rp8⟩
  k2 := fun t S q af hok hk => by
    cases t with
    | acq d q => cases hk; exact ⟨rfl, rp_acq_some _ hok.2, ent_rp9, fun a => (acq_laws _ _ _ who hw).axok _ a trivial⟩
    | que d q => cases hk; exact ⟨rfl, hok.2, ent_rp10, fun a ha => qp_axok (fun y => wd (20 + P * 264 + T * 3) G 2 y 1) d.all (by rw [RpD.all_len hok.1]; omega) q a ha⟩
    | rel d r q => cases q <;> cases hk <;> exact ⟨rfl, rfl, trivial, fun a => (rel_laws _ _ who).axok _ a trivial⟩
    | _ => cases hk
  sub := fun t S q af hok hk => by
    cases t with
    | acq d q => cases hk; exact acqSub_ok _ _ _ who hw _
    | que d q => cases hk; exact ⟨qp_steps who P T G cl _ hp hT hG (by rw [RpD.all_len hok.1]; omega) stepby_qput, qp_good who P T G cl _ hp hT hG (by rw [RpD.all_len hok.1]; omega), act_qput, fun w h => h, fun k h => h⟩
    | rel d r q => cases q <;> cases hk <;> exact relSub_ok _ _ who _
    | _ => cases hk
  on := fun t S q af v hok hk hv hs => rp_on hok hk hs
  ekeep := fun t es w w' ll Le he hb hk => by
    cases t with
    | acq d q => exact ⟨he.1, (qp_good who P T G cl _ hp hT hG (by rw [RpD.all_len' he.1]; omega)).keep he.2 hb hk⟩
    | rel d r q => exact ⟨he.1, (qp_good who P T G cl _ hp hT hG (by rw [RpD.all_len' he.1]; omega)).keep he.2 hb hk⟩
    | _ => exact he
  elt := fun t es w Le he k hk => by
    cases t with
    | acq d q => exact (qp_good who P T G cl _ hp hT hG (by rw [RpD.all_len' he.1]; omega)).lt he.2 k hk
    | rel d r q => exact (qp_good who P T G cl _ hp hT hG (by rw [RpD.all_len' he.1]; omega)).lt he.2 k hk
    | _ => rw [show Le = [] from he] at hk; cases hk
  fol := fun W x t a f v es Le hok hk hv hB he hxe hR hxR => by
    have hlt := hB.lt
    have hcx : cl ≠ x := fun e => hxR (by rw [e]; exact List.mem_singleton.2 rfl)
    cases t with
    | acq d q => cases hk
    | que d q => cases hk
    | rel d r q => cases q <;> cases hk
    | over d => cases hk
    | nx d =>
      cases hk
      obtain rfl : Le = [] := he
      refine (rp_replace W x cl who p d.g P T G d.nt d.hd d.tl d.has _ none hB hR hp v hcx).mono ?_
      rintro e w' ⟨hu, hC⟩
      exact ⟨hu, rp_land_acc (t := .sn { d with nt := v }) (es := es) (Le' := []) hC ⟨hok.len, hv, hok.hd, hok.tl⟩ rfl hlt rfl (by simp) (fun k hk => by cases hk)⟩
    | sn d =>
      cases hk
      obtain rfl : Le = [] := he
      by_cases h0 : v = 0
      · have e : (rpPM who P p (fun y => wd (20 + P * 264 + T * 3) G 2 y 1)).nx (.sn d) v = .nx d := if_pos h0
        rw [e]
        refine folC_swap false (decide_eq_false (fun h => h h0)) ((rp_replaced_no W x cl who p d.g P T G d.nt d.hd d.tl d.has _ none hB hR hp).mono ?_)
        rintro e w' ⟨hu, hC⟩
        exact ⟨hu, rp_land_acc (t := .nx d) (es := es) (Le' := []) hC hok rfl hlt rfl (by simp) (fun k hk => by cases hk)⟩
      · by_cases h1 : d.nt = 0
        · have e : (rpPM who P p (fun y => wd (20 + P * 264 + T * 3) G 2 y 1)).nx (.sn d) v = .over { d with has := false } := (if_neg h0).trans (if_pos h1)
          rw [e]
          refine folC_swap true (decide_eq_true h0) ((rp_replaced_none W x cl who p d.g d.nt d.hd d.tl d.has _ none hB h1).mono ?_)
          rintro e w' ⟨hu, hb, hbu⟩
          exact ⟨hu, rp_land_over (t := .over { d with has := false }) (es := es) (Le' := []) hb hbu ⟨hok.len, hok.nt, hok.hd, hok.tl⟩ rfl rfl (by simp) (fun k hk => by cases hk)⟩
        · have e : (rpPM who P p (fun y => wd (20 + P * 264 + T * 3) G 2 y 1)).nx (.sn d) v = .hd { d with g := gw d.nt } := (if_neg h0).trans (if_neg h1)
          rw [e]
          refine folC_swap true (decide_eq_true h0) ((rp_replaced_some W x cl who p d.g P T G d.nt d.hd d.tl d.has _ none hB hR hp h1 hcx).mono ?_)
          rintro e w' ⟨hu, hC⟩
          exact ⟨hu, rp_land_acc (t := .hd { d with g := gw d.nt }) (es := es) (Le' := []) hC ⟨hok.len, hok.nt, hok.hd, hok.tl⟩ rfl hlt rfl (by simp) (fun k hk => by cases hk)⟩
    | hd d =>
      cases hk
      obtain rfl : Le = [] := he
      refine (rp_lookTail W x cl who p d.g P T G d.nt d.hd d.tl d.has _ none hB hR hp v hcx).mono ?_
      rintro e w' ⟨hu, hC⟩
      exact ⟨hu, rp_land_acc (t := .tl { d with hd := v }) (es := es) (Le' := []) hC ⟨hok.len, hok.nt, hv, hok.tl⟩ rfl hlt rfl (by simp) (fun k hk => by cases hk)⟩
    | tl d =>
      cases hk
      obtain rfl : Le = [] := he
      by_cases h0 : (v - d.hd) % 4294967296 < 256
      · have e : (rpPM who P p (fun y => wd (20 + P * 264 + T * 3) G 2 y 1)).nx (.tl d) v = .st { d with tl := v } := if_pos h0
        rw [e]
        refine (rp_choose_room W x cl who p d.g P T G d.nt d.hd d.tl d.has d.gv d.ld none none hB hR hp v hcx hv hok.hd h0).mono ?_
        rintro e w' ⟨hu, hC⟩
        exact ⟨hu, rp_land_acc (t := .st { d with tl := v }) (es := es) (Le' := []) hC ⟨hok.len, hok.nt, hok.hd, hv⟩ rfl hlt rfl (by simp) (fun k hk => by cases hk)⟩
      · have e : (rpPM who P p (fun y => wd (20 + P * 264 + T * 3) G 2 y 1)).nx (.tl d) v = .gl { d with tl := v, ld := 0 } 0 := if_neg h0
        rw [e]
        refine (rp_choose_full W x cl who p d.g P T G d.nt d.hd d.tl d.has d.gv d.ld none none hB hR hp v hcx hok.len hv hok.hd h0).mono ?_
        rintro e w' ⟨hu, hC⟩
        exact ⟨hu, rp_land_acc (t := .gl { d with tl := v, ld := 0 } 0) (es := es) (Le' := []) hC ⟨⟨hok.len, hok.nt, hok.hd, hv⟩, by omega, rfl⟩ rfl hlt rfl (by simp) (fun k hk => by cases hk)⟩
    | st d =>
      cases hk
      obtain rfl : Le = [] := he
      refine (rp_lengthen W x cl who p d.g P T G d.nt d.hd d.tl d.has d.gv d.ld none none hB hR hp hok.tl).mono ?_
      rintro e w' ⟨hu, hC⟩
      exact ⟨hu, rp_land_acc (t := .ln d) (es := es) (Le' := []) hC hok rfl hlt rfl (by simp) (fun k hk => by cases hk)⟩
    | ln d =>
      cases hk
      obtain rfl : Le = [] := he
      refine (rp_leave W x cl who p d.g d.nt d.hd d.tl d.has _ none hB).mono ?_
      rintro e w' ⟨hu, hb, hbu⟩
      exact ⟨hu, rp_land_over (t := .over { d with has := false }) (es := es) (Le' := []) hb hbu ⟨hok.len, hok.nt, hok.hd, hok.tl⟩ rfl rfl (by simp) (fun k hk => by cases hk)⟩
    | gl d k =>
      cases hk
      obtain rfl : Le = [] := he
      obtain ⟨ho, hk1, hld⟩ := hok
      have hB' : Blk W x (rpCells who none cl p d.g d.has d.nt d.hd d.tl (rpRest d.gv k none)) 249 := by rw [← hld]; exact hB
      by_cases h0 : k + 1 < 128
      · have e : (rpPM who P p (fun y => wd (20 + P * 264 + T * 3) G 2 y 1)).nx (.gl d k) v = .gl (d.take1 k v) (k + 1) := if_pos h0
        rw [e]
        refine (rp_keep_on W x cl who p d.g P T G d.nt d.hd d.tl d.has d.gv k none none hB' hR hp hk1 ho.len hcx v h0).mono ?_
        rintro e w' ⟨hu, hC⟩
        exact ⟨hu, rp_land_acc (t := .gl (d.take1 k v) (k + 1)) (es := es) (Le' := []) hC ⟨RpD.take1_ok ho k v, h0, rfl⟩ rfl hlt rfl (by simp) (fun k hk => by cases hk)⟩
      · have e : (rpPM who P p (fun y => wd (20 + P * 264 + T * 3) G 2 y 1)).nx (.gl d k) v = .sh (d.take1 k v) := if_neg h0
        rw [e]
        refine (rp_keep_all W x cl who p d.g P T G d.nt d.hd d.tl d.has d.gv k none none hB' hR hp hk1 ho.len hcx v ho.hd (by omega)).mono ?_
        rintro e w' ⟨hu, hC⟩
        exact ⟨hu, rp_land_acc (t := .sh (d.take1 k v)) (es := es) (Le' := []) hC ⟨RpD.take1_ok ho k v, by show ((k + 1 : Nat) : Int) = 128; omega⟩ rfl hlt rfl (by simp) (fun k hk => by cases hk)⟩
    | sh d =>
      cases hk
      obtain rfl : Le = [] := he
      by_cases h0 : v = 0
      · have e : (rpPM who P p (fun y => wd (20 + P * 264 + T * 3) G 2 y 1)).nx (.sh d) v = .hd d := if_pos h0
        rw [e]
        refine folC_swap false (decide_eq_false (fun h => h h0)) ((rp_take_no W x cl who p d.g P T G d.nt d.hd d.tl d.has _ none hB hR hp).mono ?_)
        rintro e w' ⟨hu, hC⟩
        exact ⟨hu, rp_land_acc (t := .hd d) (es := es) (Le' := []) hC hok.1 rfl hlt rfl (by simp) (fun k hk => by cases hk)⟩
      · have e : (rpPM who P p (fun y => wd (20 + P * 264 + T * 3) G 2 y 1)).nx (.sh d) v = .acq d .fresh := if_neg h0
        rw [e]
        have hall := RpD.all_len hok.1
        refine folC_swap true (decide_eq_true h0) ((rp_take_yes W x cl who p d.g P T G d.nt d.hd d.tl d.has d.gv d.ld none none (fun w y L => qpI who cl (fun y => wd (20 + P * 264 + T * 3) G 2 y 1) d.all w y (.ch 0) L) hB hok.1.len hR hcx (fun a b y L h hb hx => qp_keep1 hp hT hG (by rw [hall]; omega) h hb hx) (fun Y v hY hs => ?_)).mono ?_)
        · refine (qp_new_some Y cl who P T G v d.all hs (by rw [hall]; omega) (by rw [hall]; omega) hY hp hT hG).mono ?_
          rintro e w' ⟨y, L, rfl, h1, h2, h3, h4⟩
          exact ⟨y, L, rfl, h1, h2, h3, (qp_good who P T G cl d.all hp hT hG (by rw [hall]; omega)).lt h1, h4⟩
        · rintro e w' ⟨hu, y, L, x2, q2, q, b, hC, hq, hM, f1, f2, f3, f4, f5⟩
          have o1 := hM.o1
          exact ⟨hu, rp_land_run (S := acqSub (wd 0 2 3 0 0) (wd 0 2 3 0 1) (wd 0 2 3 0 2) who) (t := .acq d .fresh) (es := [y]) (pt := AcqT.fresh) (af := .fn 280) (Le' := L) hC (acqSub_at hM) (by simp; omega) (fun k hk => .inr (by simp at hk; omega)) (by simp; omega) (by simp; omega) ⟨hok.1, trivial⟩ rfl trivial hlt ⟨hok.1.len, hq⟩ (fun hm => by have := f1 x hm; omega) (fun k hk hm => by have := f1 k hm; simp at hk; omega) ⟨fun hm => by have := f1 q hm; omega, fun hm => by have := f1 b hm; omega⟩ (fun k hk => .inr (f1 k hk).1)⟩
  aft := fun W x y t S q af v es Le Li hok hk hv hn hB hin hty he hxe hxi hd hR hxR => by
    have hlt := hB.lt
    cases t with
    | acq d q =>
      cases hk
      have e : (rpPM who P p (fun y => wd (20 + P * 264 + T * 3) G 2 y 1)).nx (.acq d q) v = .que d (.ch 0) := rp_acq_over _ hn
      rw [e]
      have hall := RpD.all_len hok.1
      have hgd := qp_good who P T G cl d.all hp hT hG (by rw [hall]; omega)
      have hq : qpI who cl (fun y => wd (20 + P * 264 + T * 3) G 2 y 1) d.all W (es.getD 0 0) (.ch 0) Le := he.2
      obtain ⟨nx, hc1, hnx⟩ := hgd.next hq
      cases nx with
      | none => cases hnx
      | some a =>
        refine (rp_move W x cl who p d.g d.nt d.hd d.tl d.has d.gv d.ld (es.getD 0 0) none a hB hok.1.len (fun h => hxe (h ▸ hgd.mem hq)) hc1).mono ?_
        rintro e w' ⟨hu, q1, b, hC⟩
        have hlq := hgd.lt hq
        have fq := hC.at'.fresh
        have fb := hC.fresh
        exact ⟨hu, rp_land_run (S := qpSub who (fun y => wd (20 + P * 264 + T * 3) G 2 y 1) cl P T G d.all) (t := .que d (.ch 0)) (es := es) (pt := QpT.ch 0) (af := .fn 292) (L := Le) (Le' := []) hC (qp_keep1 hp hT hG (by rw [hall]; omega) hq hC.at'.but hxe) hxe (fun k hk => .inl (List.mem_append_right _ hk)) (fun hm => by have := hlq q1 hm; omega) (fun hm => by have := hlq b hm; omega) ⟨hok.1, rfl⟩ rfl rfl hlt rfl (by simp) (by simp) (by simp) (fun k hk => by cases hk)⟩
    | que d q =>
      cases hk
      obtain rfl : Le = [] := he
      have hall := RpD.all_len hok.1
      have hgd := qp_good who P T G cl d.all hp hT hG (by rw [hall]; omega)
      have e : (rpPM who P p (fun y => wd (20 + P * 264 + T * 3) G 2 y 1)).nx (.que d q) v = .rel d ((qpPM (fun y => wd (20 + P * 264 + T * 3) G 2 y 1) d.all).nx q v) .fresh := if_neg (by rw [show (qpPM (fun y => wd (20 + P * 264 + T * 3) G 2 y 1) d.all).ax ((qpPM (fun y => wd (20 + P * 264 + T * 3) G 2 y 1) d.all).nx q v) = none from hn]; simp)
      rw [e]
      obtain rfl : es.getD 0 0 = y := hty
      have hlq := hgd.lt hin
      refine (rp_release W x cl who p d.g d.nt d.hd d.tl d.has d.gv d.ld none _ hB hok.1.len).mono ?_
      rintro e w' ⟨hu, x2, q2, g2, q1, b, hC, hM, f1, f2, f3, f4, f5⟩
      have o1 := hM.o1
      have o2 := hM.o2
      have fq := hC.at'.fresh
      have fb := hC.fresh
      exact ⟨hu, rp_land_run (S := relSub (wd 0 2 3 0 1) (wd 0 2 3 0 2) who) (t := .rel d ((qpPM (fun y => wd (20 + P * 264 + T * 3) G 2 y 1) d.all).nx q v) .fresh) (es := es) (pt := RelT.fresh) (af := .nil) (Le' := Li) hC (relSub_at hM) (by simp; omega) (fun k hk => .inr (by simp at hk; omega)) (by simp; omega) (by simp; omega) hok.1 rfl trivial hlt ⟨hok.1.len, qp_keep1 hp hT hG (by rw [hall]; omega) hin hC.at'.but hxi⟩ hxi (fun k hk hm => by have := hlq k hm; simp at hk; omega) ⟨fun hm => by have := hlq q1 hm; omega, fun hm => by have := hlq b hm; omega⟩ (fun k hk => .inl (List.mem_append_left _ hk))⟩
    | rel d r q =>
      cases q with
      | over => cases hk
      | fresh => cases hk; cases hn
      | pass =>
        cases hk
        exact rp_land_over (t := .rel d r .over) (es := es) (Le' := Le) hB (But.refl _ _) hok rfl he hxe (fun k hk => List.mem_append_right _ hk)
    | _ => cases hk
end
end Go.Proofs.YtfdpikkinlljlaaGreat

namespace Go.Proofs.YtfdpikkinlljlaaGreat
open Go Go.RowKit
set_option linter.unusedVariables false
set_option maxRecDepth 100000
set_option linter.unusedSimpArgs false

section
variable (w : World) (x cl : Nat) (who p g nt hd tl : Int) (gv : List Int) (ld : Int) (nx : Option Addr)
theorem rp_holds_no (qu : Option Addr) (hB : Blk w x (rpCells who nx cl p g false nt hd tl (rpRest gv ld qu)) 249) :
    Calls Tryz.prog 178 #[.pointer (some ⟨x, 0, none⟩)] w fun e w' => ∃ v, e = .returned v ∧ SeesL w' v [] ∧ Below w.heap.size w w' := by
  have c5 := hB.cell 5 rp_c5
  clear hB
  go_enter Tryz.func178, Tryz.ntmps178
  go_wp2_with fail
  go_ret
  exact ⟨_, rfl, ⟨none, 0, rfl, fun _ => ⟨rfl, rfl⟩, fun h => absurd h (by simp)⟩, Below.refl _ _⟩
theorem rp_holds_one (hB : Blk w x (rpCells who nx cl p g true nt hd tl (rpRest gv ld none)) 249) (hg : gv.length = 128) :
    Calls Tryz.prog 178 #[.pointer (some ⟨x, 0, none⟩)] w fun e w' => ∃ v, e = .returned v ∧ SeesL w' v [g] ∧ Below w.heap.size w w' := by
  have c5 := hB.cell 5 rp_c5
  have c4 := hB.cell 4 rp_c4
  have c138 := hB.cell 138 (rp_c138 hg)
  clear hB
  go_enter Tryz.func178, Tryz.ntmps178
  go_wp2_with fail
  go_ret
  have hb := (Below.refl w.heap.size w).alloc (Nat.le_refl _) (.cells #[.int .i64 g] 3)
  refine ⟨_, rfl, ⟨some ⟨w.heap.size, 0, none⟩, 1, rfl, (fun h => by cases h), fun _ => ⟨w.heap.size, 0, rfl, by rw [World.size_alloc]; omega, fun j hj => ?_⟩⟩, hb⟩
  have hB := Blk.new w #[.int .i64 g] 3
  simp at hj
  subst hj
  exact hB.cell 0 rfl
theorem rp_holds_many (y : Nat) (l : List Int) (hB : Blk w x (rpCells who nx cl p g true nt hd tl (rpRest gv ld (some ⟨y, 0, none⟩))) 249) (hg : gv.length = 128)
    (hH : Calls Tryz.prog 145 #[.pointer (some ⟨y, 0, none⟩)] w fun e w' => ∃ v, e = .returned v ∧ IntsOn w' w.heap.size v l ∧ Below w.heap.size w w') :
    Calls Tryz.prog 178 #[.pointer (some ⟨x, 0, none⟩)] w fun e w' => ∃ v, e = .returned v ∧ SeesL w' v l ∧ Below w.heap.size w w' := by
  have c5 := hB.cell 5 rp_c5
  have c138 := hB.cell 138 (rp_c138 hg)
  clear hB
  go_enter Tryz.func178, Tryz.ntmps178
  go_wp2_with fail
  go_at_call 145; refine hH.mono ?_; rintro e w1 ⟨v, rfl, h1, h2⟩
  clear hH c5 c138
  go_wp2_with fail
  go_ret
  exact ⟨_, rfl, h1.sees, h2⟩
end
theorem rp_blk {who P T G p : Int} {cl : Nat} {gl : Int → Int} {w : World} {x : Nat} {t : RpT} {es Le L : List Nat} (h : (rpCp who gl P T G p cl).Here w x t es Le L ((rpCp who gl P T G p cl).kind t)) : ∃ nx, Blk w x (rpAt who p cl t es nx) 249 := by
  cases hk : (rpCp who gl P T G p cl).kind t with
  | over => rw [hk] at h; exact ⟨none, h.1⟩
  | acc a f => rw [hk] at h; obtain ⟨q, Lc, h1, -⟩ := h; exact ⟨_, h1⟩
  | run S q af => rw [hk] at h; obtain ⟨q1, y, g, Li, h1, -⟩ := h; exact ⟨_, h1.hx⟩
theorem rp_holds_few (w : World) (x cl : Nat) (who p : Int) (d : RpD) (nx : Option Addr) (hB : Blk w x (rpCells who nx cl p d.g d.has d.nt d.hd d.tl (rpRest d.gv d.ld none)) 249) (hg : d.gv.length = 128) :
    Calls Tryz.prog 178 #[.pointer (some ⟨x, 0, none⟩)] w fun e w' => ∃ v, e = .returned v ∧ SeesL w' v (if d.has = true then [d.g] else []) ∧ Below w.heap.size w w' := by
  cases hh : d.has with
  | true => rw [hh] at hB; exact rp_holds_one w x cl who p d.g d.nt d.hd d.tl d.gv d.ld nx hB hg
  | false => rw [hh] at hB; exact rp_holds_no w x cl who p d.g d.nt d.hd d.tl d.gv d.ld nx _ hB
theorem rp_holds_queue (w : World) (x y cl : Nat) (who p : Int) (gl : Int → Int) (d : RpD) (q : QpT) (L : List Nat) (nx : Option Addr) (hB : Blk w x (rpCells who nx cl p d.g d.has d.nt d.hd d.tl (rpRest d.gv d.ld (some ⟨y, 0, none⟩))) 249) (hg : d.gv.length = 128) (hq : qpI who cl gl d.all w y q L) :
    Calls Tryz.prog 178 #[.pointer (some ⟨x, 0, none⟩)] w fun e w' => ∃ v, e = .returned v ∧ SeesL w' v (if d.has = true then (if q.lies = true then [] else d.all) else []) ∧ Below w.heap.size w w' := by
  have hn : d.all.length ≤ 1000000 := by have := RpD.all_len' hg; omega
  have hH := qp_holds hq hn
  cases hh : d.has with
  | true => rw [hh] at hB; exact rp_holds_many w x cl who p d.g d.nt d.hd d.tl d.gv d.ld nx y _ hB hg hH
  | false => rw [hh] at hB; exact rp_holds_no w x cl who p d.g d.nt d.hd d.tl d.gv d.ld nx _ hB
/-- What it holds. -/
theorem rp_holds {who P T G p : Int} {gl : Int → Int} {cl : Nat} {w : World} {x : Nat} {t : RpT} {L : List Nat} (h : (rpCp who gl P T G p cl).I w x t L) :
    Calls Tryz.prog 178 #[.pointer (some ⟨x, 0, none⟩)] w fun e w' => ∃ v, e = .returned v ∧ SeesL w' v t.holds ∧ Below w.heap.size w w' := by
  have hok := h.1
  obtain ⟨-, es, Le, he, hxe, hH⟩ := h
  obtain ⟨nx, hB⟩ := rp_blk hH
  cases t with
  | acq d q => exact rp_holds_queue w x (es.getD 0 0) cl who p gl d (.ch 0) Le nx hB hok.1.len he.2
  | que d q =>
    obtain ⟨q1, y, g, Li, h1, h2, h3, -⟩ := hH
    obtain rfl : es.getD 0 0 = y := h3
    exact rp_holds_queue w x (es.getD 0 0) cl who p gl d q Li nx hB hok.1.len h2
  | rel d q r => exact rp_holds_queue w x (es.getD 0 0) cl who p gl d q Le nx hB he.1 he.2
  | gl d k => exact rp_holds_few w x cl who p d nx hB hok.1.len
  | sh d => exact rp_holds_few w x cl who p d nx hB hok.1.len
  | nx d => exact rp_holds_few w x cl who p d nx hB hok.len
  | sn d => exact rp_holds_few w x cl who p d nx hB hok.len
  | hd d => exact rp_holds_few w x cl who p d nx hB hok.len
  | tl d => exact rp_holds_few w x cl who p d nx hB hok.len
  | st d => exact rp_holds_few w x cl who p d nx hB hok.len
  | ln d => exact rp_holds_few w x cl who p d nx hB hok.len
  | over d => exact rp_holds_few w x cl who p d nx hB hok.len
/-- How many it moved. -/
def RpT.moved (t : RpT) : Int := if t.full = true then 129 else 0
/-- Its beginning. -/
def rpD0 (g : Int) : RpD := ⟨g, true, 0, 0, 0, List.replicate 128 0, 0⟩
def rpStart (g : Int) (nxt : Bool) : RpT := if nxt = true then .nx (rpD0 g) else .hd (rpD0 g)
theorem rpD0_ok (g : Int) : (rpD0 g).Ok := ⟨by simp [rpD0], by constructor <;> simp [rpD0], by constructor <;> simp [rpD0], by constructor <;> simp [rpD0]⟩
theorem rp_new_at (w : World) (cl : Nat) (who p g P T G : Int) (gl : Int → Int) (nxt : Bool) (hl : Lay w cl P T G) (hP : 0 ≤ P ∧ P ≤ 64) :
    Calls Tryz.prog 177 #[.pointer (some ⟨cl, 0, none⟩), .int .i64 who, .int .i64 p, .int .i64 g, .bool nxt] w fun e w' => ∃ x L, e = .returned (.pointer (some ⟨x, 0, none⟩)) ∧ (rpCp who gl P T G p cl).I w' x (rpStart g nxt) L ∧ Below w.heap.size w w' ∧ (∀ k ∈ L, w.heap.size ≤ k) ∧ w.heap.size ≤ x := by
  refine (rp_new_step w cl who p g P T G nxt hl hP).mono ?_
  rintro e w' ⟨x, q, Lc, rfl, h1, h2, h3, h4, h5, h6⟩
  cases nxt with
  | true =>
    refine ⟨x, x :: (Lc ++ []), rfl, ⟨rpD0_ok g, [], [], rfl, by simp, q, Lc, h1, h2, h3, (fun k _ h => by cases h), rfl⟩, h4, ?_, h6⟩
    intro k hk; simp at hk; rcases hk with rfl | hk
    · exact h6
    · exact h5 k hk
  | false =>
    refine ⟨x, x :: (Lc ++ []), rfl, ⟨rpD0_ok g, [], [], rfl, by simp, q, Lc, h1, h2, h3, (fun k _ h => by cases h), rfl⟩, h4, ?_, h6⟩
    intro k hk; simp at hk; rcases hk with rfl | hk
    · exact h6
    · exact h5 k hk
end Go.Proofs.YtfdpikkinlljlaaGreat

namespace Go.Proofs.YtfdpikkinlljlaaGreat
open Go Go.RowKit
set_option linter.unusedVariables false
set_option maxRecDepth 100000
set_option linter.unusedSimpArgs false

def rpQue (d : RpD) : QpT → RpT
  | .over => .rel d .over .fresh
  | .done0 => .rel d .done0 .fresh
  | q => .que d q
def rpAcq (d : RpD) (p : AcqT) : RpT := p.goes (.acq d) (.que d (.ch 0))
theorem rp_acqIn (who P p : Int) (gl : Int → Int) (d : RpD) : AcqIn (rpPM who P p gl) 0 who (rpAcq d) where
  f := rfl
  w := fun t => rfl
  h := fun t => rfl
  nf := fun v => rfl
  nw := fun t v => by
    show ((if v = t then AcqT.has t else AcqT.wait t)).goes (RpT.acq d) (.que d (.ch 0)) = _
    split <;> rfl
  nh := fun t v => rfl
theorem rp_relIn (who P p : Int) (gl : Int → Int) (d : RpD) (q : QpT) : RelIn (rpPM who P p gl) 0 (RpT.rel d q) where
  f := rfl
  p := rfl
  nf := fun v => rfl
  np := fun v => rfl
theorem rp_qpIn (who P p : Int) (gl : Int → Int) (d : RpD) : QpIn (rpPM who P p gl) gl d.all (rpQue d) where
  ch := fun _ => rfl
  ld := rfl
  pt := fun _ => rfl
  tr := rfl
  ct := rfl
  n1 := fun k v => by
    show (if ((qpPM gl d.all).ax (if k + 1 < d.all.length then QpT.ch (k + 1) else .ld)).isSome = true then RpT.que d (if k + 1 < d.all.length then QpT.ch (k + 1) else .ld) else .rel d (if k + 1 < d.all.length then QpT.ch (k + 1) else .ld) .fresh) = _
    split <;> (split <;> first | rfl | (rename_i h _; exact absurd rfl h) | (rename_i h; exact absurd rfl h))
  n2 := fun _ => rfl
  n3 := fun _ _ => rfl
  n4 := fun _ => rfl
  n5 := fun _ => rfl
/-- Where a slow put stopped, and what it holds there. -/
def RpQ (Q : RpT → Prop) (d : RpD) (held : List Int) (r : RpT) : Prop := (Q r ∧ held = d.all) ∨ (r.d = d ∧ r.full = true ∧ (d.has = true → held = r.holds))
def RpGot (M : PM RpT) (d : RpD) (w : World) (x : Nat) (A : Option Addr) (cap m : Nat) (g : Nat → Int) (s0 : RpT) (Q : RpT → Prop) (j : Nat) (e : Ending) (w' : World) : Prop := ∃ (v : Value) (held : List Int) (j' : Nat) (q : QpT), e = .returned (.agg #[v, .int .i64 129]) ∧ SeesL w' v held ∧ RunOn w' x A cap m g (M.rj s0 g m j') ∧ Syn M s0 g m j' (.rel d q .over) (RpQ Q d held) ∧ (j' ≤ m → held = if q.lies = true then [] else d.all) ∧ But [x] w w' ∧ j ≤ j'
theorem rpQ_acq {Q : RpT → Prop} {d : RpD} (p : AcqT) : RpQ Q d d.all (.acq d p) := .inr ⟨rfl, rfl, fun h => by show _ = if d.has = true then _ else _; rw [if_pos h]⟩
theorem rpQ_que {Q : RpT → Prop} {d : RpD} {held : List Int} (q : QpT) (h : held = if q.lies = true then [] else d.all) : RpQ Q d held (.que d q) := .inr ⟨rfl, rfl, fun h2 => by show _ = if d.has = true then _ else _; rw [if_pos h2]; exact h⟩
theorem rpQ_rel {Q : RpT → Prop} {d : RpD} {held : List Int} (q : QpT) (p : RelT) (h : held = if q.lies = true then [] else d.all) : RpQ Q d held (.rel d q p) := .inr ⟨rfl, rfl, fun h2 => by show _ = if d.has = true then _ else _; rw [if_pos h2]; exact h⟩
theorem rpQue_live {d : RpD} : ∀ {q : QpT}, q.live = true → rpQue d q = .que d q
  | .ch _, _ => rfl
  | .ld, _ => rfl
  | .pt _, _ => rfl
  | .tr, _ => rfl
  | .ct, _ => rfl
theorem rpQue_over {d : RpD} : ∀ {q : QpT}, q.live = false → rpQue d q = .rel d q .fresh
  | .over, _ => rfl
  | .done0, _ => rfl
theorem rpQ_qp {Q : RpT → Prop} {d : RpD} {held : List Int} {r : RpT} (h : QpQ (RpQ Q d d.all) (rpQue d) d.all held r) : RpQ Q d held r := by
  rcases h with ⟨h1, h2⟩ | ⟨p', h1, h2, h3⟩
  · rw [h2]; exact h1
  · rw [h2, rpQue_live h1]; exact rpQ_que p' h3
theorem qpQ_held {Q : RpT → Prop} {d : RpD} {held : List Int} {r : RpT} (h : QpQ (RpQ Q d d.all) (rpQue d) d.all held r) : held = d.all ∨ held = [] := by
  rcases h with ⟨h1, h2⟩ | ⟨p', h1, h2, h3⟩
  · exact .inl h2
  · rw [h3]; split <;> simp

theorem sees_far {w : World} {A : Option Addr} {cap n : Nat} {l : List Int} (h : SeesL w (.slice A n cap) l) (hl : 0 < l.length → l.length = 129) {k : Nat} {cs : Array Value} {T : TypeId} (hB : Blk w k cs T) (hc : cs.size ≤ 100) (h0 : 0 < l.length) : ∀ b off : Nat, A = some ⟨b, off, none⟩ → b ≠ k := by
  rintro b off rfl rfl
  obtain ⟨A', c', e', -, h2⟩ := h
  injection e' with ea eb ec
  subst ea
  obtain ⟨b', off', e3, -, h4⟩ := h2 h0
  cases e3
  have h6 := h4 128 (by have := hl h0; omega)
  simp only [World.cell?, hB.heap] at h6
  rw [Array.getElem?_eq_none (by omega)] at h6
  cases h6
theorem SeesL.but2 {w w' : World} {A : Option Addr} {n cap k : Nat} {l : List Int} (h : SeesL w (.slice A n cap) l) (hB : But [k] w w') (hx : 0 < l.length → ∀ b off : Nat, A = some ⟨b, off, none⟩ → b ≠ k) : SeesL w' (.slice A n cap) l := by
  by_cases h0 : 0 < l.length
  · exact h.but hB (hx h0)
  · obtain ⟨A', c', e', h1, h2⟩ := h
    exact ⟨A', c', e', h1, fun h => absurd h h0⟩
theorem SeesL.but1 {w w' : World} {A : Option Addr} {n cap k : Nat} {l : List Int} (h : SeesL w (.slice A n cap) l) (hB : But [k] w w') (hx : ∀ b off : Nat, A = some ⟨b, off, none⟩ → b ≠ k) : SeesL w' (.slice A n cap) l := h.but hB hx
theorem But.low {w w1 w2 : World} {x k : Nat} (h : But [x] w w1) (h2 : But [k] w1 w2) (hk : w.heap.size ≤ k) : But [x] w w2 :=
  ⟨h2.os.trans h.os, h2.tape.trans h.tape, h2.output.trans h.output, Nat.le_trans h.size h2.size, fun i hi hc => (h2.block i (Nat.lt_of_lt_of_le hi h.size) (by simp; omega)).trans (h.block i hi hc)⟩
set_option maxHeartbeats 4000000 in
theorem rpslow_on {who P T G p : Int} {d : RpD} (hd : d.gv.length = 128) (hp : 0 ≤ P ∧ P ≤ 64) (hT : 0 ≤ T ∧ T ≤ 65536) (hG : 0 ≤ G ∧ G ≤ 65536) (hw : 0 ≤ who ∧ who ≤ 300)
    {w : World} {x : Nat} {A B : Option Addr} {cap cp m : Nat} {g : Nat → Int} {s0 : RpT} {j : Nat} {Q : RpT → Prop} (hs : SeesL w (.slice B d.all.length cp) d.all) (hsx : ∀ b off : Nat, B = some ⟨b, off, none⟩ → b ≠ x) (hR : RunOn w x A cap m g ((rpPM who P p (fun y => wd (20 + P * 264 + T * 3) G 2 y 1)).rj s0 g m j)) (hS : Syn (rpPM who P p (fun y => wd (20 + P * 264 + T * 3) G 2 y 1)) s0 g m j (.acq d .fresh) Q) (hb : ∀ j, j < m → 0 ≤ g j ∧ g j ≤ 18446744073709551615) :
    Calls Tryz.prog 134 #[.pointer (some ⟨x, 0, none⟩), .agg #[.int .i64 P, .int .i64 T, .int .i64 G], .int .i64 who, .slice B d.all.length cp] w fun e w' => RpGot (rpPM who P p (fun y => wd (20 + P * 264 + T * 3) G 2 y 1)) d w x A cap m g s0 Q j e w' := by
  have hall := RpD.all_len' hd
  have hb2 : Below w.heap.size w ((w.alloc (.cells #[.int .i64 P, .int .i64 T, .int .i64 G] 23)).alloc (.cells #[.slice none 0 0, .int .i64 0] 135)) := ((Below.refl _ _).alloc (Nat.le_refl _) _).alloc (by rw [World.size_alloc]; omega) _
  have hB1 := Blk.new w #[.int .i64 P, .int .i64 T, .int .i64 G] 23
  have HX : Hid (Blk ((w.alloc (.cells #[.int .i64 P, .int .i64 T, .int .i64 G] 23)).alloc (.cells #[.slice none 0 0, .int .i64 0] 135)) w.heap.size #[.int .i64 P, .int .i64 T, .int .i64 G] 23) := hB1.but (l := []) (But.of_below ((Below.refl _ _).alloc (Nat.le_refl _) _)) (by simp)
  have HY : Hid (Blk ((w.alloc (.cells #[.int .i64 P, .int .i64 T, .int .i64 G] 23)).alloc (.cells #[.slice none 0 0, .int .i64 0] 135)) (w.heap.size + 1) #[.slice none 0 0, .int .i64 0] 135) := by
    have := Blk.new (w.alloc (.cells #[.int .i64 P, .int .i64 T, .int .i64 G] 23)) #[.slice none 0 0, .int .i64 0] 135
    rw [World.size_alloc] at this
    exact this
  have hxw := hR.blk.lt
  have HB0 : Hid (But [x] w ((w.alloc (.cells #[.int .i64 P, .int .i64 T, .int .i64 G] 23)).alloc (.cells #[.slice none 0 0, .int .i64 0] 135))) := But.of_below hb2
  have hA := syn_acquire (rp_acqIn who P p (fun y => wd (20 + P * 264 + T * 3) G 2 y 1) d) (by omega) hw (hR.below hb2) hS hb
  have HQI : Hid (QpIn (rpPM who P p (fun y => wd (20 + P * 264 + T * 3) G 2 y 1)) (fun y => wd (20 + P * 264 + T * 3) G 2 y 1) d.all (rpQue d)) := rp_qpIn _ _ _ _ _
  have HRI : Hid (∀ q, RelIn (rpPM who P p (fun y => wd (20 + P * 264 + T * 3) G 2 y 1)) 0 (RpT.rel d q)) := fun q => rp_relIn _ _ _ _ _ q
  have HSQ : Hid (∀ {M : PM RpT} {w : World} {j : Nat} {Q : RpT → Prop}, QpIn M (fun y => wd (20 + P * 264 + T * 3) G 2 y 1) d.all (rpQue d) → SeesL w (.slice B d.all.length cp) d.all → RunOn w x A cap m g (M.rj s0 g m j) → Syn M s0 g m j (rpQue d (qpStart d.all)) Q → Calls Tryz.prog 94 #[.pointer (some ⟨x, 0, none⟩), .agg #[.int .i64 P, .int .i64 T, .int .i64 G], .slice B d.all.length cp] w fun e w' => QpGot M (rpQue d) d.all w x A cap m g s0 Q j e w') := fun hE hs hR hS => syn_qput hE hp hT hG (by omega) hs (fun _ => hsx) hR hS hb
  have HBD : Hid (∀ j, j < m → 0 ≤ g j ∧ g j ≤ 18446744073709551615) := hb
  have HSE : Hid (SeesL ((w.alloc (.cells #[.int .i64 P, .int .i64 T, .int .i64 G] 23)).alloc (.cells #[.slice none 0 0, .int .i64 0] 135)) (.slice B d.all.length cp) d.all ∧ ∀ b off : Nat, B = some ⟨b, off, none⟩ → b ≠ x) := ⟨hs.below hb2, hsx⟩
  have HST0 : qpStart d.all = .ch 0 := if_neg (fun h => by rw [h] at hall; cases hall)
  generalize rpPM who P p (fun y => wd (20 + P * 264 + T * 3) G 2 y 1) = M at *
  generalize d.all.length = n at *
  subst hall
  have HGF : Hid (GotFar A [w.heap.size + 1]) := (fun b e hm => by
    simp at hm
    rcases hR.got.form with ⟨e0, _⟩ | ⟨gb, e0, hl⟩
    · rw [e0] at e; cases e
    · rw [e0] at e; cases e; omega)
  have HSF : Hid (∀ b off : Nat, B = some ⟨b, off, none⟩ → b ≠ w.heap.size + 1) := (fun b off e hm => by
    obtain ⟨A', cap', e', -, h2⟩ := hs
    injection e' with ea eb ec
    subst ea
    obtain ⟨b', off', e3, h3, -⟩ := h2 (by omega)
    rw [e3] at e; cases e; omega)
  clear hR hS hb hs hsx hp hT hG hb2 hB1
  go_enter Tryz.func134, Tryz.ntmps134
  go_wp2_with fail
  generalize (w.alloc (.cells #[.int .i64 P, .int .i64 T, .int .i64 G] 23)).alloc (.cells #[.slice none 0 0, .int .i64 0] 135) = W at *
  go_at_call 93; refine hA.mono ?_; rintro e y1 ⟨⟨u, rfl⟩, j1, tt, hR, hS, hB, hj1⟩
  have hX1 : Blk y1 w.heap.size #[.int .i64 P, .int .i64 T, .int .i64 G] 23 := HX.out.but hB (by simp; omega)
  have HY1 : Hid (Blk y1 (w.heap.size + 1) #[.slice none 0 0, .int .i64 0] 135) := HY.out.but hB (by simp; omega)
  have HB1 : Hid (But [x] w y1) := HB0.out.trans hB
  have HS1 : Hid (Syn M s0 g m j1 (.que d (.ch 0)) (RpQ Q d d.all)) := Syn.weak hS (fun r hr => by
    rcases hr with hr | ⟨p', hp', rfl⟩
    · exact .inl ⟨hr, rfl⟩
    · cases p' with
      | over t => exact absurd rfl (hp' t)
      | fresh => exact rpQ_acq _
      | wait t => exact rpQ_acq _
      | has t => exact rpQ_acq _)
  have HR1 : Hid (RunOn y1 x A cap m g (M.rj s0 g m j1)) := hR
  have HSE1 : Hid (SeesL y1 (.slice B 129 cp) d.all) := HSE.out.1.but hB HSE.out.2
  have sc := hR.blk.cell 2 (v := .bool (M.rj s0 g m j1).stop) rfl
  rw [rj_stop hS] at sc
  clear hA hR hS hB HX HY HB0
  have k0 := hX1.cell 0 (v := .int .i64 P) rfl
  have k1 := hX1.cell 1 (v := .int .i64 T) rfl
  have k2 := hX1.cell 2 (v := .int .i64 G) rfl
  clear hX1
  by_cases hst : m < j1
  · rw [decide_eq_true hst] at sc
    have HST : Hid (m < j1) := hst
    have hRl := syn_release (HRI.out .over) (by omega) HR1.out (HS1.out.as (t' := .rel d .over .fresh) (fun h => absurd hst (by omega))) HBD.out
    clear hst k0 k1 k2
    go_wp2_with fail
    go_at_call 95; refine hRl.mono ?_; rintro e y9 ⟨⟨u9, rfl⟩, j9, hR9, hS9, hB9, hj9⟩
    have hY9 := HY1.out.but hB9 (by simp; omega)
    have HF : Hid (SeesL y9 (.slice B 129 cp) d.all ∧ RunOn y9 x A cap m g (M.rj s0 g m j9) ∧ Syn M s0 g m j9 (.rel d .over .over) (RpQ Q d d.all) ∧ But [x] w y9 ∧ j ≤ j9 ∧ m < j9) := ⟨HSE1.out.but hB9 HSE.out.2, hR9, ⟨hS9.at', fun _ => HS1.out.past HST.out⟩, HB1.out.trans hB9, Nat.le_trans hj1 hj9, Nat.lt_of_lt_of_le HST.out hj9⟩
    have d0 := hY9.cell 0 (v := .slice none 0 0) rfl
    have d1 := hY9.cell 1 (v := .int .i64 0) rfl
    have e0 := hY9.fro 0
    have e1 := hY9.fro 1
    clear hRl hR9 hS9 hB9
    go_wp2_with fail
    have hU : But [w.heap.size + 1] y9 ((y9.setCell ⟨w.heap.size + 1, 0, none⟩ (.slice B 129 cp)).setCell ⟨w.heap.size + 1, 1, none⟩ (.int .i64 129)) := ((But.refl _ y9).set (g := w.heap.size + 1) (.inl (by simp)) 0 _).set (g := w.heap.size + 1) (.inl (by simp)) 1 _
    have hZ := (hY9.set 0 (.slice B 129 cp)).set 1 (.int .i64 129)
    have g0 := hZ.cell 0 (v := .slice B 129 cp) rfl
    have g1 := hZ.cell 1 (v := .int .i64 129) rfl
    have HU : Hid (But [w.heap.size + 1] y9 ((y9.setCell ⟨w.heap.size + 1, 0, none⟩ (.slice B 129 cp)).setCell ⟨w.heap.size + 1, 1, none⟩ (.int .i64 129))) := hU
    generalize (y9.setCell ⟨w.heap.size + 1, 0, none⟩ (.slice B 129 cp)).setCell ⟨w.heap.size + 1, 1, none⟩ (.int .i64 129) = z at *
    have hfr : z.heap[w.heap.size + 1]? = some (.cells #[.slice B 129 cp, .int .i64 129] 135 (0, 0)) := hZ.heap
    clear hU d0 d1 e0 e1 hY9
    refine bodyPost_ret (v := .agg #[.slice B 129 cp, .int .i64 129]) (results_cell_row rfl _ _ (w.heap.size + 1) 135 #[.slice B 129 cp, .int .i64 129] _ _ rfl hfr Tryz.underlying135 rfl (by kernel_rfl)) rfl ?_
    obtain ⟨f1, f2, f3, f4, f5, f6⟩ := HF.out
    exact ⟨.slice B 129 cp, d.all, j9, .over, rfl, f1.but1 HU.out HSF.out, f2.but HU.out (by simp; omega) HGF.out, f3, fun h => absurd h (by omega), But.low f4 HU.out (by omega), f5⟩
  · rw [decide_eq_false hst] at sc
    have HST : Hid (j1 ≤ m) := (by omega : j1 ≤ m)
    have hQ := HSQ.out HQI.out HSE1.out HR1.out (by rw [HST0]; exact HS1.out)
    clear hst
    go_wp2_with fail
    go_at_call 94; refine hQ.mono ?_; rintro e y5 ⟨v, held, j5, p5, rfl, q1, q2, q3, q4, q5, q6, q7⟩
    have hY5 := HY1.out.but q6 (by simp; omega)
    have hheld : held = d.all ∨ held = [] := by
      by_cases h5 : m < j5
      · exact qpQ_held (q3.past h5).1
      · rw [q5 (by omega)]; split <;> simp
    obtain ⟨B5, cp5, hv5⟩ : ∃ B5 cp5, v = .slice B5 held.length cp5 := by obtain ⟨A', c', e', -, -⟩ := q1; exact ⟨A', c', e'⟩
    subst hv5
    have hl129 : 0 < held.length → held.length = 129 := fun h0 => by
      rcases hheld with h | h
      · rw [h]; exact RpD.all_len' hd
      · rw [h] at h0; cases h0
    have HV5 : Hid ((0 < held.length → ∀ b off : Nat, B5 = some ⟨b, off, none⟩ → b ≠ w.heap.size + 1) ∧ (0 < held.length → ∀ b off : Nat, B5 = some ⟨b, off, none⟩ → b ≠ x)) := ⟨sees_far q1 hl129 hY5 (by simp), sees_far q1 hl129 q2.blk (by simp [runCells])⟩
    have hQQ : ∀ hm : m < j5, RpQ Q d held (M.run s0 g m) := fun hm => rpQ_qp (q3.past hm).1
    have hRl := syn_release (HRI.out p5) (by omega) q2 (q3.as (t' := .rel d p5 .fresh) (fun _ => rpQue_over q4)) HBD.out
    have HH5 : Hid (SeesL y5 (.slice B5 held.length cp5) held ∧ (∀ hm : m < j5, RpQ Q d held (M.run s0 g m)) ∧ (j5 ≤ m → held = if p5.lies = true then [] else d.all) ∧ But [x] w y5 ∧ j1 ≤ j5) := ⟨q1, hQQ, q5, HB1.out.trans q6, q7⟩
    clear hQ k0 k1 k2 sc q1 q2 q3 q5 q6 q7 hheld hQQ
    go_wp2_with fail
    go_at_call 95; refine hRl.mono ?_; rintro e y9 ⟨⟨u9, rfl⟩, j9, hR9, hS9, hB9, hj9⟩
    have hY9 := hY5.but hB9 (by simp; omega)
    have HF : Hid (SeesL y9 (.slice B5 held.length cp5) held ∧ RunOn y9 x A cap m g (M.rj s0 g m j9) ∧ Syn M s0 g m j9 (.rel d p5 .over) (RpQ Q d held) ∧ (j9 ≤ m → held = if p5.lies = true then [] else d.all) ∧ But [x] w y9 ∧ j ≤ j9) := by
      obtain ⟨q1, hQQ, q5, q6, q7⟩ := HH5.out
      refine ⟨q1.but2 hB9 HV5.out.2, hR9, ⟨hS9.at', fun hm => ⟨?_, (hS9.past hm).2⟩⟩, fun h => q5 (by omega), q6.trans hB9, by omega⟩
      by_cases h5 : m < j5
      · exact hQQ h5
      · have hh := q5 (by omega)
        rcases (hS9.past hm).1 with h | h | h
        · exact rpQ_qp h
        · rw [h]; exact rpQ_rel p5 _ hh
        · rw [h]; exact rpQ_rel p5 _ hh
    have d0 := hY9.cell 0 (v := .slice none 0 0) rfl
    have d1 := hY9.cell 1 (v := .int .i64 0) rfl
    have e0 := hY9.fro 0
    have e1 := hY9.fro 1
    generalize hnn : held.length = hn at *
    clear hRl hR9 hS9 hB9 HH5
    go_wp2_with fail
    have hU : But [w.heap.size + 1] y9 ((y9.setCell ⟨w.heap.size + 1, 0, none⟩ (.slice B5 hn cp5)).setCell ⟨w.heap.size + 1, 1, none⟩ (.int .i64 129)) := ((But.refl _ y9).set (g := w.heap.size + 1) (.inl (by simp)) 0 _).set (g := w.heap.size + 1) (.inl (by simp)) 1 _
    have hZ := (hY9.set 0 (.slice B5 hn cp5)).set 1 (.int .i64 129)
    have HU : Hid (But [w.heap.size + 1] y9 ((y9.setCell ⟨w.heap.size + 1, 0, none⟩ (.slice B5 hn cp5)).setCell ⟨w.heap.size + 1, 1, none⟩ (.int .i64 129))) := hU
    generalize (y9.setCell ⟨w.heap.size + 1, 0, none⟩ (.slice B5 hn cp5)).setCell ⟨w.heap.size + 1, 1, none⟩ (.int .i64 129) = z at *
    have hfr : z.heap[w.heap.size + 1]? = some (.cells #[.slice B5 hn cp5, .int .i64 129] 135 (0, 0)) := hZ.heap
    clear hU d0 d1 e0 e1 hY9
    refine bodyPost_ret (v := .agg #[.slice B5 hn cp5, .int .i64 129]) (results_cell_row rfl _ _ (w.heap.size + 1) 135 #[.slice B5 hn cp5, .int .i64 129] _ _ rfl hfr Tryz.underlying135 rfl (by kernel_rfl)) rfl ?_
    obtain ⟨f1, f2, f3, f4, f5, f6⟩ := HF.out
    exact ⟨.slice B5 hn cp5, held, j9, p5, rfl, f1.but2 HU.out (fun h0 => HV5.out.1 (by omega)), f2.but HU.out (by simp; omega) HGF.out, f3, f4, But.low f5 HU.out (by omega), f6⟩
end Go.Proofs.YtfdpikkinlljlaaGreat

namespace Go.Proofs.YtfdpikkinlljlaaGreat
open Go Go.RowKit
set_option linter.unusedVariables false
set_option maxRecDepth 100000
set_option linter.unusedSimpArgs false

/-- What was loaded is told back as it was. -/
theorem rpw_gw (v : Int) (hv : 0 ≤ v ∧ v ≤ 18446744073709551615) : rpw (gw v) = v := by
  rw [← gw_eq v hv]
  unfold rpw
  simp [IntKind.wrap, IntKind.bits, IntKind.signed, wrap64]
  repeat' split
  all_goals omega
theorem rp_steps {who P T G p : Int} {cl : Nat} (hw : 0 ≤ who ∧ who ≤ 1000000) (hp : 0 ≤ P ∧ P ≤ 64) (hT : 0 ≤ T ∧ T ≤ 65536) (hG : 0 ≤ G ∧ G ≤ 65536) :
    Steps (rpPM who P p (fun y => wd (20 + P * 264 + T * 3) G 2 y 1)) (rpCp who (fun y => wd (20 + P * 264 + T * 3) G 2 y 1) P T G p cl).I (Rd.lay cl P T G) 350 who :=
  Cp.steps (rp_laws hw hp hT hG) stepby_rput
theorem rp_good {who P T G p : Int} {cl : Nat} (hw : 0 ≤ who ∧ who ≤ 1000000) (hp : 0 ≤ P ∧ P ≤ 64) (hT : 0 ≤ T ∧ T ≤ 65536) (hG : 0 ≤ G ∧ G ≤ 65536) :
    (rpCp who (fun y => wd (20 + P * 264 + T * 3) G 2 y 1) P T G p cl).I.Good (rpPM who P p (fun y => wd (20 + P * 264 + T * 3) G 2 y 1)) :=
  Cp.good (rp_laws hw hp hT hG)
theorem rpQue_start (d : RpD) : rpQue d (qpStart d.all) = .que d (.ch 0) := by
  have e : qpStart d.all = .ch 0 := if_neg (by simp [RpD.all])
  rw [e]; rfl
end Go.Proofs.YtfdpikkinlljlaaGreat
