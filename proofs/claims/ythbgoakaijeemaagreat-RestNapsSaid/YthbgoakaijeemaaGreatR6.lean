/- asleep, as the document counts it. -/
import Derived.Test.YthbgoakaijeemaaGreatR5
namespace Go.Proofs.YthbgoakaijeemaaGreat
open Go Go.RowKit
set_option linter.unusedVariables false
set_option maxRecDepth 100000
set_option linter.unusedSimpArgs false

theorem Cp.okax' {σ : Type} {C : Cp σ} {M : PM σ} {R : Rd} {who : Int} (hL : C.Laws M R who) {t : σ} (hok : C.ok t) : ∀ a, M.ax t = some a → a.Ok := by
  intro a ha
  cases hk : C.kind t with
  | over => rw [hL.k0 t hok hk] at ha; cases ha
  | acc a' f =>
    obtain ⟨h1, h2, _⟩ := hL.k1 t a' f hok hk
    rw [h1] at ha
    cases ha
    exact h2
  | run S p af =>
    obtain ⟨h1, _, _, h4⟩ := hL.k2 t S p af hok hk
    exact h4 a (h1.symm.trans ha)
section
variable {P T G t : Int} {cl : Nat}
theorem igE_keep (hp : 0 ≤ P ∧ P ≤ 64) (hT : 0 ≤ T ∧ T ≤ 65536) {q : Option IgT} {y : Nat} {w w' : World} {L l : List Nat} (h : igE P t cl q y w L) (hb : But l w w') (hk : ∀ k ∈ L, k ∉ l) : igE P t cl q y w' L := by
  cases q with
  | none => exact h
  | some q => exact (Fl.good (ig_laws t P T 0 cl hp hT)).keep h hb hk
theorem igE_lt (hp : 0 ≤ P ∧ P ≤ 64) (hT : 0 ≤ T ∧ T ≤ 65536) {q : Option IgT} {y : Nat} {w : World} {L : List Nat} (h : igE P t cl q y w L) : ∀ k ∈ L, k < w.heap.size := by
  cases q with
  | none => rw [show L = [] from h]; intro k hk; cases hk
  | some q => exact (Fl.good (ig_laws t P T 0 cl hp hT)).lt h
theorem igE_got {q : Option IgT} {y : Nat} {w : World} {L : List Nat} (h : igE P t cl q y w L) : Calls Tryz.prog 98 #[.pointer (if q.isSome = true then some ⟨y, 0, none⟩ else none)] w fun e w' => e = .returned (.int .i64 (igO q)) ∧ w = w' := by
  cases q with
  | none => exact iget_p_nil w
  | some q => exact ig_got h
set_option maxHeartbeats 4000000 in
theorem re_laws (hw : 0 ≤ t ∧ t ≤ 1000000) (hp : 0 ≤ P ∧ P ≤ 64) (hT : 0 ≤ T ∧ T ≤ 65536) :
    (reCp P T G t cl).Laws (rePM P T t) (Rd.lay cl P T G) t where
  c0 := fun s es nx => rfl
  c1 := fun s es nx => rfl
  set := fun s es nx nx' => rfl
  k0 := fun s hok hk => by
    cases s with
    | done1 q => rfl
    | nap q n =>
      by_cases h : ((naPM P T t).ax n).isSome = true
      · rw [re_kind_at h] at hk; cases hk
      · show (naPM P T t).ax n = none
        cases hx : (naPM P T t).ax n with
        | none => rfl
        | some a => rw [hx] at h; exact absurd rfl h
    | _ => cases hk
  k1 := fun s a f hok hk => by
    cases s with
    | ld => cases hk; exact ⟨rfl, axLd_ok _, ent_re2⟩
    | run q => cases hk; exact ⟨rfl, axSt_ok _ _ (by omega), trivial⟩
    | nap q n =>
      by_cases h : ((naPM P T t).ax n).isSome = true
      · rw [re_kind_at h] at hk; cases hk
      · have e : (reCp P T G t cl).kind (.nap q n) = .over := if_neg h
        rw [e] at hk; cases hk
    | _ => cases hk
  k2 := fun s S q af hok hk => by
    cases s with
    | acq a => cases hk; exact ⟨rfl, hok, ent_re1, fun b => (acq_laws _ _ _ t hw).axok _ b trivial⟩
    | get q => cases hk; exact ⟨rfl, hok.1, ent_re3, fun a ha => (ig_laws t P T G cl hp hT).axok _ a hok.2 ha⟩
    | spn q c => cases hk; exact ⟨rfl, hok, ent_re4, fun a ha => (sp_laws t cl Rd.nil).axok _ a trivial ha⟩
    | rel1 q r => cases hk; exact ⟨rfl, hok, ent_re5, fun a => (rel_laws _ _ t).axok _ a trivial⟩
    | lie q m => cases hk; exact ⟨rfl, hok.1, ent_re6, fun a ha => (im_laws t P T G t cl hp hT).axok _ a hok.2 ha⟩
    | rel2 q r => cases hk; exact ⟨rfl, hok, ent_re7, fun a => (rel_laws _ _ t).axok _ a trivial⟩
    | nap q n =>
      have h1 := re_kind_nap hk
      rw [re_kind_at h1] at hk
      cases hk
      exact ⟨rfl, h1, trivial, fun a ha => Cp.okax' (na_laws (G := G) (cl := cl) hp hT) hok a ha⟩
    | _ => cases hk
  sub := fun s S q af hok hk => by
    cases s with
    | acq a => cases hk; exact acqSub_ok _ _ _ t hw _
    | get q => cases hk; exact ⟨Fl.steps (ig_laws t P T G cl hp hT) stepby_ipg, Fl.good (ig_laws t P T G cl hp hT), act_ipg, fun w h => h, fun k h => h⟩
    | spn q c => cases hk; exact ⟨Fl.steps (sp_laws t cl Rd.nil) stepby_rspn, Fl.good (sp_laws t cl Rd.nil), act_rspn, fun w h => trivial, fun k h => by cases h⟩
    | rel1 q r => cases hk; exact relSub_ok _ _ t _
    | lie q m => cases hk; exact ⟨Fl.steps (im_laws t P T G t cl hp hT) stepby_imp, Fl.good (im_laws t P T G t cl hp hT), act_imp, fun w h => h, fun k h => h⟩
    | rel2 q r => cases hk; exact relSub_ok _ _ t _
    | nap q n =>
      have h1 := re_kind_nap hk
      rw [re_kind_at h1] at hk
      cases hk
      exact ⟨Cp.steps (na_laws hp hT) stepby_rnap, Cp.good (na_laws hp hT), act_rnap, fun w h => h, fun k h => h⟩
    | _ => cases hk
  on := fun s S q af v hok hk hv hs => re_on hp hT hv hok hk hs
  ns := fun s a f hk => by
    cases s with
    | ld => cases hk; rfl
    | run q => cases hk; rfl
    | nap q n =>
      by_cases h : ((naPM P T t).ax n).isSome = true
      · rw [re_kind_at h] at hk; cases hk
      · have e : (reCp P T G t cl).kind (.nap q n) = .over := if_neg h
        rw [e] at hk; cases hk
    | _ => cases hk
  ekeep := fun s es w w' ll Le he hb hk => by
    have hgs : ((spFl t cl).I spPM).Good spPM := Fl.good (sp_laws t cl Rd.nil)
    have two : ∀ q, (∃ L1 L2, Le = L1 ++ L2 ∧ igE P t cl q (es.getD 0 0) w L1 ∧ (spFl t cl).I spPM w (es.getD 1 0) .over L2) → ∃ L1 L2, Le = L1 ++ L2 ∧ igE P t cl q (es.getD 0 0) w' L1 ∧ (spFl t cl).I spPM w' (es.getD 1 0) .over L2 := fun q ⟨L1, L2, e, h1, h2⟩ => by
      subst e
      exact ⟨L1, L2, rfl, igE_keep hp hT h1 hb (fun k h => hk k (List.mem_append_left _ h)), hgs.keep h2 hb (fun k h => hk k (List.mem_append_right _ h))⟩
    cases s with
    | spn q c => exact igE_keep hp hT (q := some q) he hb hk
    | rel1 q r => exact two (some q) he
    | run q => exact two (some q) he
    | done1 q => exact two (some q) he
    | lie q m => exact igE_keep hp hT (q := q) he hb hk
    | rel2 q r => exact igE_keep hp hT (q := q) he hb hk
    | nap q n =>
      have he' : (if ((naPM P T t).ax n).isSome = true then igE P t cl q (es.getD 0 0) w Le else ∃ L1 L2, Le = L1 ++ L2 ∧ igE P t cl q (es.getD 0 0) w L1 ∧ (naCp P T G t cl).I w (es.getD 2 0) n L2) := he
      show (if ((naPM P T t).ax n).isSome = true then igE P t cl q (es.getD 0 0) w' Le else ∃ L1 L2, Le = L1 ++ L2 ∧ igE P t cl q (es.getD 0 0) w' L1 ∧ (naCp P T G t cl).I w' (es.getD 2 0) n L2)
      split at he'
      · rename_i h; rw [if_pos h]; exact igE_keep hp hT he' hb hk
      · rename_i h; rw [if_neg h]
        obtain ⟨L1, L2, rfl, h1, h2⟩ := he'
        exact ⟨L1, L2, rfl, igE_keep hp hT h1 hb (fun k h => hk k (List.mem_append_left _ h)), (Cp.good (na_laws hp hT)).keep h2 hb (fun k h => hk k (List.mem_append_right _ h))⟩
    | _ => exact he
  elt := fun s es w Le he k hk => by
    have hgs : ((spFl t cl).I spPM).Good spPM := Fl.good (sp_laws t cl Rd.nil)
    have two : ∀ q, (∃ L1 L2, Le = L1 ++ L2 ∧ igE P t cl q (es.getD 0 0) w L1 ∧ (spFl t cl).I spPM w (es.getD 1 0) .over L2) → k < w.heap.size := fun q ⟨L1, L2, e, h1, h2⟩ => by
      subst e
      rcases List.mem_append.1 hk with h | h
      · exact igE_lt hp hT h1 k h
      · exact hgs.lt h2 k h
    cases s with
    | spn q c => exact igE_lt hp hT (q := some q) he k hk
    | rel1 q r => exact two (some q) he
    | run q => exact two (some q) he
    | done1 q => exact two (some q) he
    | lie q m => exact igE_lt hp hT (q := q) he k hk
    | rel2 q r => exact igE_lt hp hT (q := q) he k hk
    | nap q n =>
      have he' : (if ((naPM P T t).ax n).isSome = true then igE P t cl q (es.getD 0 0) w Le else ∃ L1 L2, Le = L1 ++ L2 ∧ igE P t cl q (es.getD 0 0) w L1 ∧ (naCp P T G t cl).I w (es.getD 2 0) n L2) := he
      split at he'
      · exact igE_lt hp hT he' k hk
      · obtain ⟨L1, L2, rfl, h1, h2⟩ := he'
        rcases List.mem_append.1 hk with h | h
        · exact igE_lt hp hT h1 k h
        · exact (Cp.good (na_laws hp hT)).lt h2 k h
    | acq a => rw [show Le = [] from he] at hk; cases hk
    | ld => rw [show Le = [] from he] at hk; cases hk
    | get q => rw [show Le = [] from he] at hk; cases hk
  fol := fun W x s a f v es Le hok hk hv hB he hxe hR hxR => by
    have hlt := hB.lt
    have hnm : ∀ k ∈ Le, k ∉ [x] := fun k hk => ws_notmem hxe hk
    cases s with
    | ld =>
      cases hk
      obtain rfl : Le = [] := he
      by_cases h0 : v = 0
      · subst h0
        refine (re_choose_lie W x cl t none none none none hB P T G hp hT).mono ?_
        rintro e w' ⟨hu, hC⟩
        exact ⟨hu, re_land_run (S := imSub t P T G t cl) (af := .fn 196) (pt := ImT.h0) (s := .lie none .h0) (es := es) (Le' := []) hC ⟨rfl, trivial⟩ rfl (fun _ => trivial) hlt rfl hxe (fun k hk => by cases hk)⟩
      · have e : (rePM P T t).nx .ld v = .get .ld := if_neg h0
        rw [e]
        refine (re_choose_get W x cl t none none none none hB v P T G h0 hp hT).mono ?_
        rintro e w' ⟨hu, y1, q1, b, L, hC, hI, hL, hq, hg⟩
        exact ⟨hu, re_land_run0 (S := reIg t P T G cl) (af := .fn 183) (pt := IgT.ld) (s := .get .ld) (es := [y1]) (Le' := []) hC hI hL hq hg ⟨rfl, by decide, trivial⟩ rfl rfl hlt rfl (by simp) (fun k hk => by cases hk)⟩
    | run q =>
      cases hk
      exact re_land_over (s := .done1 q) (es := es) (Le' := Le) hB (But.refl _ _) trivial rfl he hxe (fun k hk => hk)
    | nap q n =>
      by_cases h : ((naPM P T t).ax n).isSome = true
      · rw [re_kind_at h] at hk; cases hk
      · have e : (reCp P T G t cl).kind (.nap q n) = .over := if_neg h
        rw [e] at hk; cases hk
    | acq a => cases hk
    | get q => cases hk
    | spn q c => cases hk
    | rel1 q r => cases hk
    | done1 q => cases hk
    | lie q m => cases hk
    | rel2 q r => cases hk
  aft := fun W x y s S q af v es Le Li hok hk hv hn hB hin hty he hxe hxi hd hR hxR => by
    have hgd : ((igFl t cl).I (igPM P)).Good (igPM P) := Fl.good (ig_laws t P T G cl hp hT)
    have hgs : ((spFl t cl).I spPM).Good spPM := Fl.good (sp_laws t cl Rd.nil)
    have hlt := hB.lt
    have hnm : ∀ k ∈ Le, k ∉ [x] := fun k hk => ws_notmem hxe hk
    have hni : ∀ k ∈ Li, k ∉ [x] := fun k hk => ws_notmem hxi hk
    cases s with
    | acq a =>
      cases hk
      obtain rfl : Le = [] := he
      have e : (rePM P T t).nx (.acq a) v = .ld := if_neg (by rw [show (acqPM (wd 0 2 3 0 0) (wd 0 2 3 0 1) (wd 0 2 3 0 2) t).ax ((acqPM (wd 0 2 3 0 0) (wd 0 2 3 0 1) (wd 0 2 3 0 2) t).nx a v) = none from hn]; simp)
      rw [e]
      refine (re_look W x cl t none none none none hB).mono ?_
      rintro e w' ⟨hu, hC⟩
      exact ⟨hu, re_land_acc (s := .ld) (es := es) (Le' := []) hC trivial rfl hlt rfl (by simp) (fun k hk => by cases hk)⟩
    | get q =>
      cases hk
      obtain rfl : Le = [] := he
      obtain rfl : es.getD 0 0 = y := hty
      have hin' : (igFl t cl).I (igPM P) W (es.getD 0 0) ((igPM P).nx q v) Li := hin
      have hn' : ¬ ((igPM P).ax ((igPM P).nx q v)).isSome = true := by rw [show (igPM P).ax ((igPM P).nx q v) = none from hn]; simp
      by_cases h0 : ((igPM P).nx q v).obs = -1
      · have e : (rePM P T t).nx (.get q) v = .lie (some ((igPM P).nx q v)) .h0 := (if_neg hn').trans (if_pos h0)
        rw [e]
        have hT1 := ig_got hin'
        rw [h0] at hT1
        refine (re_serve_lie W x cl t _ none none none hB (es.getD 0 0) P T G rfl hT1 hp hT).mono ?_
        rintro e w' ⟨hu, hC⟩
        exact ⟨hu, re_land_run (S := imSub t P T G t cl) (af := .fn 196) (pt := ImT.h0) (s := .lie (some ((igPM P).nx q v)) .h0) (es := es) (Le' := Li) hC ⟨rfl, trivial⟩ rfl (fun _ => trivial) hlt (hgd.keep hin' hC.but hni) hxi (fun k hk => ⟨List.mem_append_left _ hk, hgd.lt hin' k hk⟩)⟩
      · have e : (rePM P T t).nx (.get q) v = .spn ((igPM P).nx q v) .ad := (if_neg hn').trans (if_neg h0)
        rw [e]
        refine (re_serve_spin W x cl t _ none none none hB (es.getD 0 0) ((igPM P).nx q v).obs rfl h0 (ig_got hin')).mono ?_
        rintro e w' ⟨hu, y1, q1, b, L, hC, hI, hL, hq, hg⟩
        exact ⟨hu, re_land_run0 (S := spSub t cl) (af := .fn 200) (pt := SpT.ad) (s := .spn ((igPM P).nx q v) .ad) (es := [es.getD 0 0, y1]) (Le' := Li) hC hI hL hq hg rfl rfl rfl hlt (hgd.keep hin' hC.at'.but hni) hxi (fun k hk => ⟨List.mem_append_left _ hk, hgd.lt hin' k hk⟩)⟩
    | spn q c =>
      cases hk
      obtain rfl : es.getD 1 0 = y := hty
      have hov : spPM.nx c v = .over := by
        have hn1 : spPM.ax (spPM.nx c v) = none := hn
        cases c <;> first | rfl | cases hn1
      have hin' : (spFl t cl).I spPM W (es.getD 1 0) .over Li := by rw [← hov]; exact hin
      have e : (rePM P T t).nx (.spn q c) v = .rel1 q .fresh := if_neg (by rw [show spPM.ax (spPM.nx c v) = none from hn]; simp)
      rw [e]
      have he' : igE P t cl (some q) (es.getD 0 0) W Le := he
      refine (re_leave W x cl t _ _ none none hB).mono ?_
      rintro e w' ⟨hu, hC⟩
      exact ⟨hu, re_land_run (S := (relSub (wd 0 2 3 0 1) (wd 0 2 3 0 2) t)) (af := .fn 209) (pt := RelT.fresh) (s := .rel1 q .fresh) (es := es) (Le' := Le ++ Li) hC rfl rfl (fun _ => trivial) hlt ⟨Le, Li, rfl, igE_keep hp hT he' hC.but hnm, hgs.keep hin' hC.but hni⟩ (fun hm => (List.mem_append.1 hm).elim hxe hxi) (fun k hk => (List.mem_append.1 hk).elim (fun h => ⟨List.mem_append_right _ h, igE_lt hp hT he' k h⟩) (fun h => ⟨List.mem_append_left _ h, hgs.lt hin' k h⟩))⟩
    | rel1 q r =>
      cases hk
      obtain ⟨L1, L2, rfl, h1, h2⟩ := he
      have e : (rePM P T t).nx (.rel1 q r) v = .run q := if_neg (by rw [show (relPM (wd 0 2 3 0 1) (wd 0 2 3 0 2)).ax ((relPM (wd 0 2 3 0 1) (wd 0 2 3 0 2)).nx r v) = none from hn]; simp)
      rw [e]
      have h1' : (igFl t cl).I (igPM P) W (es.getD 0 0) q L1 := h1
      refine (re_runGot W x cl t _ _ none none hB (es.getD 0 0) q.obs P T G rfl (fun Y hY => ig_got (hgd.keep h1' hY (fun k h => hnm k (List.mem_append_left _ h)))) hR hp).mono ?_
      rintro e w' ⟨hu, hC⟩
      exact ⟨hu, re_land_acc (s := .run q) (es := es) (Le' := L1 ++ L2) hC trivial rfl hlt ⟨L1, L2, rfl, igE_keep hp hT h1 hC.but (fun k h => hnm k (List.mem_append_left _ h)), hgs.keep h2 hC.but (fun k h => hnm k (List.mem_append_right _ h))⟩ hxe (fun k hk => ⟨List.mem_append_right _ hk, (List.mem_append.1 hk).elim (fun h => igE_lt hp hT h1 k h) (fun h => hgs.lt h2 k h)⟩)⟩
    | lie q m =>
      cases hk
      have he' : igE P t cl q (es.getD 0 0) W Le := he
      have e : (rePM P T t).nx (.lie q m) v = .rel2 q .fresh := if_neg (by rw [show (imPM P T t).ax ((imPM P T t).nx m v) = none from hn]; simp)
      rw [e]
      refine (re_sleep W x cl t _ none none none hB).mono ?_
      rintro e w' ⟨hu, hC⟩
      exact ⟨hu, re_land_run (S := (relSub (wd 0 2 3 0 1) (wd 0 2 3 0 2) t)) (af := .fn 206) (pt := RelT.fresh) (s := .rel2 q .fresh) (es := es) (Le' := Le) hC rfl rfl (fun _ => trivial) hlt (igE_keep hp hT he' hC.but hnm) hxe (fun k hk => ⟨List.mem_append_right _ hk, igE_lt hp hT he' k hk⟩)⟩
    | rel2 q r =>
      cases hk
      have he' : igE P t cl q (es.getD 0 0) W Le := he
      have e : (rePM P T t).nx (.rel2 q r) v = .nap q (.slp .s1) := if_neg (by rw [show (relPM (wd 0 2 3 0 1) (wd 0 2 3 0 2)).ax ((relPM (wd 0 2 3 0 1) (wd 0 2 3 0 2)).nx r v) = none from hn]; simp)
      rw [e]
      refine (re_begin W x cl t _ none none none hB P T G hR hp hT).mono ?_
      rintro e w' ⟨hu, y1, q1, b, L, hC, hI, hL, hq, hg⟩
      have hz : (0 : Int) ≤ 0 ∧ (0 : Int) ≤ 18446744073709551615 := by omega
      exact ⟨hu, re_land_run0 (S := naSub P T G t cl) (af := .nil) (pt := NaT.slp .s1) (s := .nap q (.slp .s1)) (es := [es.getD 0 0, 0, y1]) (Le' := Le) hC hI hL hq hg ⟨hz, rfl⟩ rfl rfl hlt (igE_keep hp hT he' hC.at'.but hnm) hxe (fun k hk => ⟨List.mem_append_right _ hk, igE_lt hp hT he' k hk⟩)⟩
    | nap q n =>
      have h1 := re_kind_nap hk
      rw [re_kind_at h1] at hk
      cases hk
      obtain rfl : es.getD 2 0 = y := hty
      have hn1 : (naPM P T t).ax ((naPM P T t).nx n v) = none := hn
      have hn' : ¬ ((naPM P T t).ax ((naPM P T t).nx n v)).isSome = true := by rw [hn1]; simp
      have he' : (if ((naPM P T t).ax n).isSome = true then igE P t cl q (es.getD 0 0) W Le else ∃ L1 L2, Le = L1 ++ L2 ∧ igE P t cl q (es.getD 0 0) W L1 ∧ (naCp P T G t cl).I W (es.getD 2 0) n L2) := he
      rw [if_pos h1] at he'
      obtain ⟨a, ha⟩ := Option.isSome_iff_exists.1 h1
      have hin' : (naCp P T G t cl).I W (es.getD 2 0) ((naPM P T t).nx n v) Li := hin
      refine re_land_over (s := .nap q ((naPM P T t).nx n v)) (es := es) (Le' := Le ++ Li) hB (But.refl _ _) (na_ok_next (G := G) (cl := cl) hok ha hv) (if_neg hn') ?_ (fun hm => (List.mem_append.1 hm).elim hxe hxi) (fun k hk => (List.mem_append.1 hk).elim (fun h => List.mem_append_right _ h) (fun h => List.mem_append_left _ h))
      show (if ((naPM P T t).ax ((naPM P T t).nx n v)).isSome = true then igE P t cl q (es.getD 0 0) W (Le ++ Li) else ∃ L1 L2, Le ++ Li = L1 ++ L2 ∧ igE P t cl q (es.getD 0 0) W L1 ∧ (naCp P T G t cl).I W (es.getD 2 0) ((naPM P T t).nx n v) L2)
      rw [if_neg hn']
      exact ⟨Le, Li, rfl, he', hin'⟩
    | ld => cases hk
    | run q => cases hk
    | done1 q => cases hk
theorem re_aslp (hw : 0 ≤ t ∧ t ≤ 1000000) (hp : 0 ≤ P ∧ P ≤ 64) (hT : 0 ≤ T ∧ T ≤ 65536) : Aslp (rePM P T t) (reCp P T G t cl).I 55 :=
  Cp.aslp (re_laws hw hp hT) (fun s S q af hok hk => by
    cases s with
    | acq a => cases hk; exact ⟨.inr ⟨slp_acq, (acq_laws _ _ _ t hw).ns⟩, Fl.good (acq_laws _ _ _ t hw)⟩
    | get q => cases hk; exact ⟨.inr ⟨slp_ipg, (ig_laws t P T G cl hp hT).ns⟩, Fl.good (ig_laws t P T G cl hp hT)⟩
    | spn q c => cases hk; exact ⟨.inr ⟨slp_rspn, (sp_laws t cl Rd.nil).ns⟩, Fl.good (sp_laws t cl Rd.nil)⟩
    | rel1 q r => cases hk; exact ⟨.inr ⟨slp_rel, (rel_laws _ _ t).ns⟩, Fl.good (rel_laws _ _ t)⟩
    | lie q m => cases hk; exact ⟨.inr ⟨slp_imp, (im_laws t P T G t cl hp hT).ns⟩, Fl.good (im_laws t P T G t cl hp hT)⟩
    | rel2 q r => cases hk; exact ⟨.inr ⟨slp_rel, (rel_laws _ _ t).ns⟩, Fl.good (rel_laws _ _ t)⟩
    | nap q n =>
      have h1 := re_kind_nap hk
      rw [re_kind_at h1] at hk
      cases hk
      exact ⟨.inl ⟨_, slp_rnap, na_aslp hp hT⟩, Cp.good (na_laws hp hT)⟩
    | _ => cases hk) (fun w x mv z M h => asleepby_rrst w x mv z M h)

variable {w : World} {x : Nat} {s : ReT} {L : List Nat}
theorem re_blk {es Le : List Nat} (h : (reCp P T G t cl).Here w x s es Le L ((reCp P T G t cl).kind s)) : ∃ nx, Blk w x (reAt t cl s es nx) 160 := by
  cases hk : (reCp P T G t cl).kind s with
  | over => rw [hk] at h; exact ⟨none, h.1⟩
  | acc a f => rw [hk] at h; obtain ⟨q, Lc, h1, -⟩ := h; exact ⟨_, h1⟩
  | run S q af => rw [hk] at h; obtain ⟨q1, y, g, Li, h1, -⟩ := h; exact ⟨_, h1.hx⟩
/-- Its block, and the machines that it has. -/
theorem re_parts (h : (reCp P T G t cl).I w x s L) : ∃ es nx, Blk w x (reAt t cl s es nx) 160 ∧ (∃ L1, igE P t cl s.pr (es.getD 0 0) w L1) ∧ (∀ c, s.sp = some c → ∃ L2, (spFl t cl).I spPM w (es.getD 1 0) c L2) ∧ (∀ n, s.na = some n → ∃ L3, (naCp P T G t cl).I w (es.getD 2 0) n L3) := by
  obtain ⟨-, es, Le, he, hxe, hH⟩ := h
  obtain ⟨nx, hB⟩ := re_blk hH
  cases s with
  | acq a => exact ⟨es, nx, hB, ⟨[], rfl⟩, (fun c h => by cases h), (fun n h => by cases h)⟩
  | ld => exact ⟨es, nx, hB, ⟨[], rfl⟩, (fun c h => by cases h), (fun n h => by cases h)⟩
  | get q =>
    obtain ⟨q1, y, g, Li, h1, h2, h3, -⟩ := hH
    obtain rfl : es.getD 0 0 = y := h3
    exact ⟨es, nx, hB, ⟨Li, h2⟩, (fun c h => by cases h), (fun n h => by cases h)⟩
  | spn q c =>
    obtain ⟨q1, y, g, Li, h1, h2, h3, -⟩ := hH
    obtain rfl : es.getD 1 0 = y := h3
    exact ⟨es, nx, hB, ⟨Le, he⟩, (fun c' h => by cases h; exact ⟨Li, h2⟩), (fun n h => by cases h)⟩
  | rel1 q r =>
    obtain ⟨L1, L2, -, h1, h2⟩ := he
    exact ⟨es, nx, hB, ⟨L1, h1⟩, (fun c h => by cases h; exact ⟨L2, h2⟩), (fun n h => by cases h)⟩
  | run q =>
    obtain ⟨L1, L2, -, h1, h2⟩ := he
    exact ⟨es, nx, hB, ⟨L1, h1⟩, (fun c h => by cases h; exact ⟨L2, h2⟩), (fun n h => by cases h)⟩
  | done1 q =>
    obtain ⟨L1, L2, -, h1, h2⟩ := he
    exact ⟨es, nx, hB, ⟨L1, h1⟩, (fun c h => by cases h; exact ⟨L2, h2⟩), (fun n h => by cases h)⟩
  | lie q m => exact ⟨es, nx, hB, ⟨Le, he⟩, (fun c h => by cases h), (fun n h => by cases h)⟩
  | rel2 q r => exact ⟨es, nx, hB, ⟨Le, he⟩, (fun c h => by cases h), (fun n h => by cases h)⟩
  | nap q n =>
    have he' : (if ((naPM P T t).ax n).isSome = true then igE P t cl q (es.getD 0 0) w Le else ∃ L1 L2, Le = L1 ++ L2 ∧ igE P t cl q (es.getD 0 0) w L1 ∧ (naCp P T G t cl).I w (es.getD 2 0) n L2) := he
    by_cases h : ((naPM P T t).ax n).isSome = true
    · rw [if_pos h] at he'
      rw [re_kind_at h] at hH
      obtain ⟨q1, y, g, Li, h1, h2, h3, -⟩ := hH
      obtain rfl : es.getD 2 0 = y := h3
      exact ⟨es, nx, hB, ⟨Le, he'⟩, (fun c h => by cases h), (fun n' h => by cases h; exact ⟨Li, h2⟩)⟩
    · rw [if_neg h] at he'
      obtain ⟨L1, L2, -, h1, h2⟩ := he'
      exact ⟨es, nx, hB, ⟨L1, h1⟩, (fun c h => by cases h), (fun n' h => by cases h; exact ⟨L2, h2⟩)⟩
theorem re_tells_P (h : (reCp P T G t cl).I w x s L) :
    Calls Tryz.prog 53 #[.pointer (some ⟨x, 0, none⟩)] w fun e w' => e = .returned (.int .i64 s.p) ∧ w = w' := by
  obtain ⟨es, nx, hB, ⟨L1, h1⟩, -, h3⟩ := re_parts h
  unfold ReT.p
  unfold reAt at hB
  cases hn : s.na with
  | none =>
    rw [hn] at hB
    exact re_P_proc w x cl t _ _ none nx hB _ rfl (igE_got h1)
  | some n =>
    rw [hn] at hB
    obtain ⟨L3, h3⟩ := h3 n hn
    exact re_P_nap w x cl t _ _ _ nx hB (es.getD 2 0) _ rfl (na_tells_P h3)
theorem re_tells_S (h : (reCp P T G t cl).I w x s L) :
    Calls Tryz.prog 54 #[.pointer (some ⟨x, 0, none⟩)] w fun e w' => e = .returned (.bool s.spins) ∧ w = w' := by
  obtain ⟨es, nx, hB, -, h2, h3⟩ := re_parts h
  unfold ReT.spins
  unfold reAt at hB
  have hS : Calls Tryz.prog 51 #[.pointer (if s.sp.isSome = true then some ⟨es.getD 1 0, 0, none⟩ else none)] w fun e w' => e = .returned (.bool (match s.sp with
      | some c => c.counts
      | none => false)) ∧ w = w' := by
    cases hc : s.sp with
    | none => exact sp_counts_nil w
    | some c => obtain ⟨L2, h2⟩ := h2 c hc; exact sp_tells h2
  have hN : Calls Tryz.prog 47 #[.pointer (if s.na.isSome = true then some ⟨es.getD 2 0, 0, none⟩ else none)] w fun e w' => e = .returned (.bool (match s.na with
      | some n => n.spins
      | none => false)) ∧ w = w' := by
    cases hc : s.na with
    | none => exact na_S_nil w
    | some n => obtain ⟨L3, h3⟩ := h3 n hc; exact na_tells_S h3
  exact re_S w x cl t _ _ _ nx hB _ _ hN hS
end
theorem re_new_at (w : World) (cl : Nat) (t P T G : Int) (hw : 0 ≤ t ∧ t ≤ 1000000) :
    Calls Tryz.prog 58 #[.pointer (some ⟨cl, 0, none⟩), .int .i64 t] w fun e w' => ∃ x L, e = .returned (.pointer (some ⟨x, 0, none⟩)) ∧ (reCp P T G t cl).I w' x (.acq .fresh) L ∧ Below w.heap.size w w' ∧ (∀ k ∈ L, w.heap.size ≤ k) ∧ w.heap.size ≤ x := by
  refine (re_new w cl t).mono ?_
  rintro e w' ⟨x, V, rfl, hR, hBl, hx, hV, hxV⟩
  obtain ⟨y, q, b, L, hC, hI, hL, hq, hb⟩ := hR hw
  have hfq := hC.at'.fresh
  have hfb := hC.fresh
  refine ⟨x, x :: q :: b :: (L ++ []), rfl, ⟨rfl, [], [], rfl, by simp, q, y, b, L, RunAt.of hC (fun nx => rfl), hI, trivial, ?_, hq, hb, (fun k _ h => by cases h), rfl⟩, hBl, fun k hk => ?_, hx⟩
  · simp only [List.mem_cons, not_or]
    exact ⟨by omega, by omega, fun hm => by have := hL x hm; omega⟩
  · simp at hk
    rcases hk with rfl | rfl | rfl | hk
    · exact hx
    · omega
    · omega
    · have := hL k hk; omega
end Go.Proofs.YthbgoakaijeemaaGreat

namespace Go.Proofs.YthbgoakaijeemaaGreat
open Go Go.RowKit
set_option linter.unusedVariables false
set_option maxRecDepth 100000
set_option linter.unusedSimpArgs false

theorem PM.aslp_eq {σ : Type} {M : PM σ} {t : σ} {m n : Nat} {s : St} {I : Int} (h : ∀ a, M.ax t = some a → a.sl = true → a.i = I) : M.aslp n t s = ((M.ax t).isSome && ((M.rn t m).sleep && decide (peekT n s I = 0))) := by
  unfold PM.aslp
  cases hx : M.ax t with
  | none => rfl
  | some a =>
    rw [PM.rn_some hx]
    show PM.asl n a s = (true && (a.sl && decide (peekT n s I = 0)))
    unfold PM.asl
    cases hs : a.sl with
    | false => rfl
    | true => rw [h a hx hs]; rfl
theorem wd_thr {P T t : Int} (ht : 0 ≤ t ∧ t < T) : wd (20 + P * 264) T 3 t 0 = 20 + 264 * P + 3 * t + 0 := by
  unfold wd
  rw [if_pos ⟨ht.1, ht.2, by omega, by omega⟩]
  omega
theorem na_slp {P T t : Int} {q : NaT} {a : Ax} (ht : 0 ≤ t ∧ t < T) (ha : (naPM P T t).ax q = some a) (hs : a.sl = true) : a.i = 20 + 264 * P + 3 * t + 0 := by
  rw [← wd_thr (P := P) ht]
  cases q with
  | slp r => cases r <;> first | (cases ha; rfl) | (cases ha; cases hs) | cases ha
  | ld => cases ha; cases hs
  | cl v => cases ha; cases hs
  | st v => cases ha; cases hs
  | over v => cases ha
theorem no_slp {a : Ax} (h : a.sl = false) (hs : a.sl = true) {X : Prop} : X := by rw [h] at hs; cases hs
theorem re_slp {P T t : Int} {q : ReT} {a : Ax} (hp : 0 ≤ P ∧ P ≤ 64) (hT : 0 ≤ T ∧ T ≤ 65536) (ht : 0 ≤ t ∧ t < T) (ha : (rePM P T t).ax q = some a) (hs : a.sl = true) : a.i = 20 + 264 * P + 3 * t + 0 := by
  cases q with
  | acq r => exact no_slp ((acq_laws (wd 0 2 3 0 0) (wd 0 2 3 0 1) (wd 0 2 3 0 2) t (by omega)).ns r a ha) hs
  | ld => cases ha; cases hs
  | get r => exact no_slp ((ig_laws t P T 0 0 hp hT).ns r a ha) hs
  | spn q r => exact no_slp ((sp_laws t 0 Rd.nil).ns r a ha) hs
  | rel1 q r => exact no_slp ((rel_laws (wd 0 2 3 0 1) (wd 0 2 3 0 2) t).ns r a ha) hs
  | run q => cases ha; cases hs
  | done1 q => cases ha
  | lie q m => exact no_slp ((im_laws t P T 0 t 0 hp hT).ns m a ha) hs
  | rel2 q r => exact no_slp ((rel_laws (wd 0 2 3 0 1) (wd 0 2 3 0 2) t).ns r a ha) hs
  | nap q n => exact na_slp ht ha hs
end Go.Proofs.YthbgoakaijeemaaGreat
