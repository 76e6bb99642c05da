/- Starting a thread: its beginning, and what it tells at each state. -/
import Derived.Test.YtfdpikkinlljlaaGreatHMAE
import Derived.Test.YtfdpikkinlljlaaGreatHMAB
namespace Go.Proofs.YtfdpikkinlljlaaGreat
open Go Go.RowKit
set_option linter.unusedVariables false
set_option maxRecDepth 100000
set_option linter.unusedSimpArgs false

def jgSub (who P T G : Int) (cl : Nat) : Sub := ⟨JgT, jgPM P T, (jgFl who T cl).I (jgPM P T), Rd.lay cl P T G, 216, 348⟩
def ipSub (who P T G p : Int) (cl : Nat) : Sub := ⟨IpT, ipPM P p, (ipFl who p cl).I (ipPM P p), Rd.lay cl P T G, 154, 341⟩
/-- What it has beside its own block: the thread's machine, and the one that gives the processor back. -/
def wsExt (who P T p : Int) (cl : Nat) (t : WsT) (es : List Nat) (w : World) (Le : List Nat) : Prop := match t with
  | .get _ => Le = []
  | .rel2 q (some b) _ => ∃ L1 L2, Le = L1 ++ L2 ∧ (jgFl who T cl).I (jgPM P T) w (es.getD 0 0) q L1 ∧ (ipFl who p cl).I (ipPM P p) w (es.getD 1 0) b L2
  | t => (jgFl who T cl).I (jgPM P T) w (es.getD 0 0) t.q Le
def wsAt (who p : Int) (sp lf : Bool) (cl : Nat) (t : WsT) (es : List Nat) (nx : Option Addr) : Array Value := wsCells who nx cl p sp lf t.has (es.getD 0 0) (if t.bk.isSome = true then some ⟨es.getD 1 0, 0, none⟩ else none)
def wsCp (who P T G p : Int) (sp lf : Bool) (cl : Nat) : Cp WsT where
  T := 218
  cells := wsAt who p sp lf cl
  kind := fun
    | .get q => .run (jgSub who P T G cl) q (.fn 224)
    | .rel1 _ r => .run (relSub (wd 0 2 3 0 1) (wd 0 2 3 0 2) who) r (.fn 243)
    | .give q => .acc (axSt (wd (20 + P * 264) T 3 q.obs 1) (wkWord p sp)) (.untold 261)
    | .note _ .over => .over
    | .note q n => .run (nwSub (wd (20 + P * 264) T 3 q.obs 0) who) n .nil
    | .need _ => .acc (axSt 14 1) (.untold 241)
    | .cnt _ => .acc (axAd 13 4294967295) (.told 258)
    | .lft _ => .acc (axSt (wd 20 P 264 p 0) 2) (.untold 273)
    | .back _ b => .run (ipSub who P T G p cl) b (.fn 275)
    | .rel2 _ _ .over => .over
    | .rel2 _ _ r => .run (relSub (wd 0 2 3 0 1) (wd 0 2 3 0 2) who) r .nil
  ok := fun
    | .get q => ((jgPM P T).ax q).isSome = true ∧ (jgFl who T cl).ok q
    | .rel1 q r => q.obs ≠ -1 ∧ ((relPM (wd 0 2 3 0 1) (wd 0 2 3 0 2)).ax r).isSome = true
    | .back _ b => ((ipPM P p).ax b).isSome = true ∧ (ipFl who p cl).ok b
    | _ => True
  ext := wsExt who P T p cl
  tie := fun t es y => match t with
    | .get _ => es.getD 0 0 = y
    | .back _ _ => es.getD 1 0 = y
    | _ => True
theorem ent_ws1 : Ent 224 := fun args w => by kernel_rfl
theorem ent_ws2 : Ent 243 := fun args w => by kernel_rfl
theorem ent_ws3 : Ent 261 := fun args w => by kernel_rfl
theorem ent_ws4 : Ent 241 := fun args w => by kernel_rfl
theorem ent_ws5 : Ent 258 := fun args w => by kernel_rfl
theorem ent_ws6 : Ent 273 := fun args w => by kernel_rfl
theorem ent_ws7 : Ent 275 := fun args w => by kernel_rfl
section
variable {who P T G p : Int} {sp lf : Bool} {cl : Nat} {W w' : World} {x : Nat} {t : WsT} {a : Ax} {f : Fol} {es Le Le' : List Nat}
theorem ws_s1 (nx' : Option Addr) : (wsAt who p sp lf cl t es none).setIfInBounds 1 (.pointer nx') = wsAt who p sp lf cl t es nx' := rfl
theorem ws_land_acc (h : Came W w' x (wsAt who p sp lf cl t es none) 218 a f) (hok : (wsCp who P T G p sp lf cl).ok t) (hk : (wsCp who P T G p sp lf cl).kind t = .acc a f) (hx : x < W.heap.size) (he : wsExt who P T p cl t es w' Le') (hxe : x ∉ Le') (hle : ∀ k ∈ Le', k ∈ Le ∧ k < W.heap.size) : (wsCp who P T G p sp lf cl).Land W w' x t Le := by
  obtain ⟨q, Lc, c1, c2, c3, c4⟩ := h
  refine ⟨c3, x :: (Lc ++ Le'), ⟨hok, es, Le', he, hxe, ?_⟩, fun k hm => by simp at hm; rcases hm with rfl | hm | hm; exact .inl rfl; exact .inr (.inr (c4 k hm)); exact .inr (.inl (hle k hm).1)⟩
  rw [hk]
  exact ⟨q, Lc, c1, c2, fun hm => absurd (c4 x hm) (by omega), (fun k hm h => by have := c4 k hm; have := (hle k h).2; omega), rfl⟩
theorem ws_land_over (h : Blk w' x (wsAt who p sp lf cl t es none) 218) (hb : But [x] W w') (hok : (wsCp who P T G p sp lf cl).ok t) (hk : (wsCp who P T G p sp lf cl).kind t = .over) (he : wsExt who P T p cl t es w' Le') (hxe : x ∉ Le') (hle : ∀ k ∈ Le', k ∈ Le) : (wsCp who P T G p sp lf cl).Land W w' x t Le := by
  refine ⟨hb, x :: Le', ⟨hok, es, Le', he, hxe, ?_⟩, fun k hm => by simp at hm; rcases hm with rfl | hm; exact .inl rfl; exact .inr (.inl (hle k hm))⟩
  rw [hk]
  exact ⟨h, rfl⟩
theorem ws_land_run0 {S : Sub} {af : After} {pt : S.τ} {y q b : Nat} {L : List Nat} (hC : CameBox W w' x (wsAt who p sp lf cl t es none) 218 (fun v => comCells 0 0 0 0 0 false (.iface S.D (.pointer (some ⟨y, 0, none⟩))) v false false) (af.fol.box x) q b) (hM : S.I w' y pt L) (hL : ∀ k ∈ L, W.heap.size ≤ k) (hq : q ∉ L) (hg : b ∉ L) (hok : (wsCp who P T G p sp lf cl).ok t) (hk : (wsCp who P T G p sp lf cl).kind t = .run S pt af) (htie : (wsCp who P T G p sp lf cl).tie t es y) (hx : x < W.heap.size) (he : wsExt who P T p cl t es w' Le') (hxe : x ∉ Le') (hle : ∀ k ∈ Le', k ∈ Le ∧ k < W.heap.size) : (wsCp who P T G p sp lf cl).Land W w' x t Le := by
  have hfq := hC.at'.fresh
  have hfb := hC.fresh
  refine ⟨hC.at'.but, x :: q :: b :: (L ++ Le'), ⟨hok, es, Le', he, hxe, ?_⟩, fun k hm => ?_⟩
  · rw [hk]
    refine ⟨q, y, b, L, RunAt.of hC (fun nx => rfl), hM, htie, ?_, hq, hg, fun k hm => ?_, rfl⟩
    · simp only [List.mem_cons, not_or]
      exact ⟨by omega, by omega, fun hm => by have := hL x hm; omega⟩
    · simp only [List.mem_cons] at hm
      intro hk'
      have h1 := (hle k hk').2
      rcases hm with rfl | rfl | hm
      · omega
      · omega
      · have := hL k hm; omega
  · simp only [List.mem_cons, List.mem_append] at hm
    rcases hm with rfl | rfl | rfl | hm | hm
    · exact .inl rfl
    · exact .inr (.inr hfq)
    · exact .inr (.inr hfb)
    · exact .inr (.inr (hL k hm))
    · exact .inr (.inl (hle k hm).1)
theorem ws_land_run {S : Sub} {af : After} {pt : S.τ} (hR : RunNew S pt W w' x (wsAt who p sp lf cl t es none) 218 (af.fol.box x)) (hok : (wsCp who P T G p sp lf cl).ok t) (hk : (wsCp who P T G p sp lf cl).kind t = .run S pt af) (htie : ∀ y, (wsCp who P T G p sp lf cl).tie t es y) (hx : x < W.heap.size) (he : wsExt who P T p cl t es w' Le') (hxe : x ∉ Le') (hle : ∀ k ∈ Le', k ∈ Le ∧ k < W.heap.size) : (wsCp who P T G p sp lf cl).Land W w' x t Le := by
  obtain ⟨y, q, b, L, hC, hM, hL, hq, hg⟩ := hR
  exact ws_land_run0 hC hM hL hq hg hok hk (htie y) hx he hxe hle
theorem ws_on {v : Int} {S : Sub} {q : S.τ} {af : After} (hp : 0 ≤ P ∧ P ≤ 64) (hT : 0 ≤ T ∧ T ≤ 65536) (hv : 0 ≤ v ∧ v ≤ 18446744073709551615) (hok : (wsCp who P T G p sp lf cl).ok t) (hk : (wsCp who P T G p sp lf cl).kind t = .run S q af) (hs : (S.M.ax (S.M.nx q v)).isSome = true) :
    (wsCp who P T G p sp lf cl).ok ((wsPM P T p sp lf).nx t v) ∧ (wsCp who P T G p sp lf cl).kind ((wsPM P T p sp lf).nx t v) = .run S (S.M.nx q v) af ∧ (∀ es, (wsCp who P T G p sp lf cl).cells ((wsPM P T p sp lf).nx t v) es = (wsCp who P T G p sp lf cl).cells t es) ∧ (∀ es w Le, (wsCp who P T G p sp lf cl).ext t es w Le → (wsCp who P T G p sp lf cl).ext ((wsPM P T p sp lf).nx t v) es w Le) ∧ (∀ es y, (wsCp who P T G p sp lf cl).tie t es y → (wsCp who P T G p sp lf cl).tie ((wsPM P T p sp lf).nx t v) es y) := by
  cases t with
  | get q =>
    cases hk
    have e : (wsPM P T p sp lf).nx (.get q) v = .get ((jgPM P T).nx q v) := if_pos hs
    rw [e]
    obtain ⟨h1, h2⟩ := hok
    obtain ⟨a, ha⟩ := Option.isSome_iff_exists.1 h1
    exact ⟨⟨hs, (jg_laws who P T G cl hp hT).ok q a v h2 ha hv⟩, rfl, fun _ => rfl, fun _ _ _ h => h, fun _ _ h => h⟩
  | rel1 q r =>
    cases hk
    have e : (wsPM P T p sp lf).nx (.rel1 q r) v = .rel1 q ((relPM (wd 0 2 3 0 1) (wd 0 2 3 0 2)).nx r v) := if_pos hs
    rw [e]
    exact ⟨⟨hok.1, hs⟩, rfl, fun _ => rfl, fun _ _ _ h => h, fun _ _ h => h⟩
  | note q n =>
    cases n with
    | over => cases hk
    | fresh => cases hk; cases hs
  | back q b =>
    cases hk
    have e : (wsPM P T p sp lf).nx (.back q b) v = .back q ((ipPM P p).nx b v) := if_pos hs
    rw [e]
    obtain ⟨h1, h2⟩ := hok
    obtain ⟨a, ha⟩ := Option.isSome_iff_exists.1 h1
    exact ⟨⟨hs, (ip_laws who P T G p cl hp hT).ok b a v h2 ha hv⟩, rfl, fun _ => rfl, fun _ _ _ h => h, fun _ _ h => h⟩
  | rel2 q b r =>
    cases r with
    | over => cases hk
    | fresh =>
      cases hk
      exact ⟨trivial, rfl, fun _ => by cases b <;> rfl, fun _ _ _ h => by cases b <;> exact h, fun _ _ h => h⟩
    | pass => cases hk; cases hs
  | _ => cases hk
end
end Go.Proofs.YtfdpikkinlljlaaGreat

namespace Go.Proofs.YtfdpikkinlljlaaGreat
open Go Go.RowKit
set_option linter.unusedVariables false
set_option maxRecDepth 100000
set_option linter.unusedSimpArgs false

section
variable {who P T G p : Int} {sp lf : Bool} {cl : Nat}
/-- Behind the count: the processor goes back. -/
theorem ws_back_land (hp : 0 ≤ P ∧ P ≤ 64) (hT : 0 ≤ T ∧ T ≤ 65536) {W : World} {x th : Nat} {q : JgT} {Le : List Nat} (hB : Blk W x (wsCells who none cl p sp lf true th none) 218) (hl : Lay W cl P T G) (he : (jgFl who T cl).I (jgPM P T) W th q Le) (hxe : x ∉ Le) :
    Calls Tryz.prog 259 #[.pointer (some ⟨x, 0, none⟩)] W fun e w' => (∃ u, e = .returned u) ∧ (wsCp who P T G p sp lf cl).Land W w' x (wsPut lf q) Le := by
  have hgd : ((jgFl who T cl).I (jgPM P T)).Good (jgPM P T) := Fl.good (jg_laws who P T G cl hp hT)
  have hlt := hB.lt
  cases hf : lf with
  | true =>
    subst hf
    refine (ws_putBack_left W x cl th who p sp true true none none hB P T G hl hp rfl).mono ?_
    rintro e w' ⟨hu, hC⟩
    have hbu : But [x] W w' := by obtain ⟨_, _, _, _, h, _⟩ := hC; exact h
    exact ⟨hu, ws_land_acc (t := .lft q) (es := [th]) (Le' := Le) hC trivial rfl hlt (hgd.keep he hbu (fun k hk => ws_notmem hxe hk)) hxe (fun k hk => ⟨hk, hgd.lt he k hk⟩)⟩
  | false =>
    subst hf
    refine (ws_putBack_new W x cl th who p sp false true none none hB P T G hp hT rfl).mono ?_
    rintro e w' ⟨hu, y, q1, b, L, hC, hI, hL, hq, hg⟩
    exact ⟨hu, ws_land_run0 (S := ipSub who P T G p cl) (af := .fn 275) (pt := IpT.m0) (t := .back q .m0) (es := [th, y]) (Le' := Le) hC hI hL hq hg ⟨rfl, trivial⟩ rfl rfl hlt (hgd.keep he hC.at'.but (fun k hk => ws_notmem hxe hk)) hxe (fun k hk => ⟨hk, hgd.lt he k hk⟩)⟩
set_option maxHeartbeats 4000000 in
theorem ws_laws (hw : 0 ≤ who ∧ who ≤ 1000000) (hp : 0 ≤ P ∧ P ≤ 64) (hT : 0 ≤ T ∧ T ≤ 65536) :
    (wsCp who P T G p sp lf cl).Laws (wsPM P T p sp lf) (Rd.lay cl P T G) who where
  c0 := fun t es nx => rfl
  c1 := fun t es nx => rfl
  set := fun t es nx nx' => rfl
  k0 := fun t hok hk => by
    cases t with
    | note q n => cases n <;> first | rfl | cases hk
    | rel2 q b r => cases r <;> first | rfl | cases hk
    | _ => cases hk
  k1 := fun t a f hok hk => by
    cases t with
    | give q => cases hk; exact ⟨rfl, axSt_ok _ _ (wkWord_bd _ _), ent_ws3⟩
    | need q => cases hk; exact ⟨rfl, axSt_ok _ _ (by omega), ent_ws4⟩
    | cnt q => cases hk; exact ⟨rfl, axAd_ok _ _ (by omega), ent_ws5⟩
    | lft q => cases hk; exact ⟨rfl, axSt_ok _ _ (by omega), ent_ws6⟩
    | note q n => cases n <;> cases hk
    | rel2 q b r => cases r <;> cases hk
    | get q => cases hk
    | rel1 q r => cases hk
    | back q b => cases hk
  k2 := fun t S q af hok hk => by
    cases t with
    | get q => cases hk; exact ⟨rfl, hok.1, ent_ws1, fun a ha => (jg_laws who P T G cl hp hT).axok _ a hok.2 ha⟩
    | rel1 q r => cases hk; exact ⟨rfl, hok.2, ent_ws2, fun a => (rel_laws _ _ who).axok _ a trivial⟩
    | back q b => cases hk; exact ⟨rfl, hok.1, ent_ws7, fun a ha => (ip_laws who P T G p cl hp hT).axok _ a hok.2 ha⟩
    | note q n => cases n <;> cases hk <;> exact ⟨rfl, rfl, trivial, fun a => (nw_laws who _).axok _ a trivial⟩
    | rel2 q b r => cases r <;> cases hk <;> exact ⟨rfl, rfl, trivial, fun a => (rel_laws _ _ who).axok _ a trivial⟩
    | _ => cases hk
  sub := fun t S q af hok hk => by
    cases t with
    | get q => cases hk; exact ⟨Fl.steps (jg_laws who P T G cl hp hT) stepby_img, Fl.good (jg_laws who P T G cl hp hT), act_img, fun w h => h, fun k h => h⟩
    | rel1 q r => cases hk; exact relSub_ok _ _ who _
    | back q b => cases hk; exact ⟨Fl.steps (ip_laws who P T G p cl hp hT) stepby_ipp, Fl.good (ip_laws who P T G p cl hp hT), act_ipp, fun w h => h, fun k h => h⟩
    | note q n => cases n <;> cases hk <;> exact nwSub_ok _ who _
    | rel2 q b r => cases r <;> cases hk <;> exact relSub_ok _ _ who _
    | _ => cases hk
  on := fun t S q af v hok hk hv hs => ws_on hp hT hv hok hk hs
  ekeep := fun t es w w' ll Le he hb hk => by
    have hgd : ((jgFl who T cl).I (jgPM P T)).Good (jgPM P T) := Fl.good (jg_laws who P T G cl hp hT)
    have hgi : ((ipFl who p cl).I (ipPM P p)).Good (ipPM P p) := Fl.good (ip_laws who P T G p cl hp hT)
    cases t with
    | get q => exact he
    | rel2 q b r =>
      cases b with
      | none => exact hgd.keep he hb hk
      | some b =>
        obtain ⟨L1, L2, rfl, h1, h2⟩ := he
        exact ⟨L1, L2, rfl, hgd.keep h1 hb (fun k h => hk k (List.mem_append_left _ h)), hgi.keep h2 hb (fun k h => hk k (List.mem_append_right _ h))⟩
    | _ => exact hgd.keep he hb hk
  elt := fun t es w Le he k hk => by
    have hgd : ((jgFl who T cl).I (jgPM P T)).Good (jgPM P T) := Fl.good (jg_laws who P T G cl hp hT)
    have hgi : ((ipFl who p cl).I (ipPM P p)).Good (ipPM P p) := Fl.good (ip_laws who P T G p cl hp hT)
    cases t with
    | get q => rw [show Le = [] from he] at hk; cases hk
    | rel2 q b r =>
      cases b with
      | none => exact hgd.lt he k hk
      | some b =>
        obtain ⟨L1, L2, rfl, h1, h2⟩ := he
        rcases List.mem_append.1 hk with h | h
        · exact hgd.lt h1 k h
        · exact hgi.lt h2 k h
    | _ => exact hgd.lt he k hk
  fol := fun W x t a f v es Le hok hk hv hB he hxe hR hxR => by
    have hgd : ((jgFl who T cl).I (jgPM P T)).Good (jgPM P T) := Fl.good (jg_laws who P T G cl hp hT)
    have hlt := hB.lt
    have hcx : cl ≠ x := fun e => hxR (by rw [e]; exact List.mem_singleton.2 rfl)
    have hnm : ∀ k ∈ Le, k ∉ [x] := fun k hk => ws_notmem hxe hk
    cases t with
    | get q => cases hk
    | rel1 q r => cases hk
    | back q b => cases hk
    | note q n => cases n <;> cases hk
    | rel2 q b r => cases r <;> cases hk
    | give q =>
      cases hk
      have he' : (jgFl who T cl).I (jgPM P T) W (es.getD 0 0) q Le := he
      refine (ws_wake W x cl (es.getD 0 0) who p sp lf true none none hB q.obs P T G (fun Y hY => jg_got (hgd.keep he' hY hnm)) hR hp hT hcx).mono ?_
      rintro e w' ⟨hu, hC⟩
      exact ⟨hu, ws_land_run (S := nwSub (wd (20 + P * 264) T 3 q.obs 0) who) (af := .nil) (pt := NwT.fresh) (t := .note q .fresh) (es := es) (Le' := Le) hC trivial rfl (fun _ => trivial) hlt (hgd.keep he' hC.but hnm) hxe (fun k hk => ⟨hk, hgd.lt he' k hk⟩)⟩
    | need q =>
      cases hk
      have he' : (jgFl who T cl).I (jgPM P T) W (es.getD 0 0) q Le := he
      cases hs : sp with
      | true =>
        subst hs
        refine (ws_countBack_yes W x cl (es.getD 0 0) who p true lf true none none hB rfl).mono ?_
        rintro e w' ⟨hu, hC⟩
        exact ⟨hu, ws_land_acc (t := .cnt q) (es := es) (Le' := Le) hC trivial rfl hlt (hgd.keep he' hC.but hnm) hxe (fun k hk => ⟨hk, hgd.lt he' k hk⟩)⟩
      | false =>
        subst hs
        exact ws_countBack_no W x cl (es.getD 0 0) who p false lf true none none hB _ rfl (ws_back_land hp hT hB hR he' hxe)
    | cnt q =>
      cases hk
      have he' : (jgFl who T cl).I (jgPM P T) W (es.getD 0 0) q Le := he
      exact ws_counted W x _ v (ws_back_land hp hT hB hR he' hxe)
    | lft q =>
      cases hk
      have he' : (jgFl who T cl).I (jgPM P T) W (es.getD 0 0) q Le := he
      refine (ws_leave W x cl (es.getD 0 0) who p sp lf true none none hB).mono ?_
      rintro e w' ⟨hu, hC⟩
      exact ⟨hu, ws_land_run (S := relSub (wd 0 2 3 0 1) (wd 0 2 3 0 2) who) (af := .nil) (pt := RelT.fresh) (t := .rel2 q none .fresh) (es := es) (Le' := Le) hC trivial rfl (fun _ => trivial) hlt (hgd.keep he' hC.but hnm) hxe (fun k hk => ⟨hk, hgd.lt he' k hk⟩)⟩
  aft := fun W x y t S q af v es Le Li hok hk hv hn hB hin hty he hxe hxi hd hR hxR => by
    have hgd : ((jgFl who T cl).I (jgPM P T)).Good (jgPM P T) := Fl.good (jg_laws who P T G cl hp hT)
    have hgi : ((ipFl who p cl).I (ipPM P p)).Good (ipPM P p) := Fl.good (ip_laws who P T G p cl hp hT)
    have hlt := hB.lt
    have hnm : ∀ k ∈ Le, k ∉ [x] := fun k hk => ws_notmem hxe hk
    have hni : ∀ k ∈ Li, k ∉ [x] := fun k hk => ws_notmem hxi hk
    cases t with
    | get q =>
      cases hk
      obtain rfl : Le = [] := he
      obtain rfl : es.getD 0 0 = y := hty
      have hin' : (jgFl who T cl).I (jgPM P T) W (es.getD 0 0) ((jgPM P T).nx q v) Li := hin
      have hT1 := ws_T W x cl (es.getD 0 0) who p sp lf true none none hB _ (jg_got hin')
      have hn' : ¬ ((jgPM P T).ax ((jgPM P T).nx q v)).isSome = true := by rw [show (jgPM P T).ax ((jgPM P T).nx q v) = none from hn]; simp
      by_cases h0 : ((jgPM P T).nx q v).obs = -1
      · have e : (wsPM P T p sp lf).nx (.get q) v = .need ((jgPM P T).nx q v) := (if_neg hn').trans (if_pos h0)
        rw [e]
        rw [h0] at hT1
        refine (ws_choose_none W x cl (es.getD 0 0) who p sp lf true none none hB hT1).mono ?_
        rintro e w' ⟨hu, hC⟩
        exact ⟨hu, ws_land_acc (t := .need ((jgPM P T).nx q v)) (es := es) (Le' := Li) hC trivial rfl hlt (hgd.keep hin' hC.but hni) hxi (fun k hk => ⟨List.mem_append_left _ hk, hgd.lt hin' k hk⟩)⟩
      · have e : (wsPM P T p sp lf).nx (.get q) v = .rel1 ((jgPM P T).nx q v) .fresh := (if_neg hn').trans (if_neg h0)
        rw [e]
        refine (ws_choose_some W x cl (es.getD 0 0) who p sp lf true none none hB _ h0 hT1).mono ?_
        rintro e w' ⟨hu, hC⟩
        exact ⟨hu, ws_land_run (S := relSub (wd 0 2 3 0 1) (wd 0 2 3 0 2) who) (af := .fn 243) (pt := RelT.fresh) (t := .rel1 ((jgPM P T).nx q v) .fresh) (es := es) (Le' := Li) hC ⟨h0, rfl⟩ rfl (fun _ => trivial) hlt (hgd.keep hin' hC.but hni) hxi (fun k hk => ⟨List.mem_append_left _ hk, hgd.lt hin' k hk⟩)⟩
    | rel1 q r =>
      cases hk
      have he' : (jgFl who T cl).I (jgPM P T) W (es.getD 0 0) q Le := he
      have e : (wsPM P T p sp lf).nx (.rel1 q r) v = .give q := if_neg (by rw [show (relPM (wd 0 2 3 0 1) (wd 0 2 3 0 2)).ax ((relPM (wd 0 2 3 0 1) (wd 0 2 3 0 2)).nx r v) = none from hn]; simp)
      rw [e]
      refine (ws_give W x cl (es.getD 0 0) who p sp lf true none none hB q.obs P T G (fun Y hY => ws_T Y x cl (es.getD 0 0) who p sp lf true none none (hB.but (But.of_below (l := []) hY) (by simp)) _ (jg_got (hgd.below he' hY))) hR hp hT).mono ?_
      rintro e w' ⟨hu, hC⟩
      exact ⟨hu, ws_land_acc (t := .give q) (es := es) (Le' := Le) hC trivial rfl hlt (hgd.keep he' hC.but hnm) hxe (fun k hk => ⟨List.mem_append_right _ hk, hgd.lt he' k hk⟩)⟩
    | note q n =>
      cases n with
      | over => cases hk
      | fresh =>
        cases hk
        exact ws_land_over (t := .note q .over) (es := es) (Le' := Le) hB (But.refl _ _) trivial rfl he hxe (fun k hk => List.mem_append_right _ hk)
    | back q b =>
      cases hk
      obtain rfl : es.getD 1 0 = y := hty
      have he' : (jgFl who T cl).I (jgPM P T) W (es.getD 0 0) q Le := he
      have hin' : (ipFl who p cl).I (ipPM P p) W (es.getD 1 0) ((ipPM P p).nx b v) Li := hin
      have e : (wsPM P T p sp lf).nx (.back q b) v = .rel2 q (some ((ipPM P p).nx b v)) .fresh := if_neg (by rw [show (ipPM P p).ax ((ipPM P p).nx b v) = none from hn]; simp)
      rw [e]
      refine (wk_end W x cl who _ 218 hB (by simp [wsCp, wsAt, wsCells]) rfl rfl).mono ?_
      rintro e w' ⟨hu, hC⟩
      exact ⟨hu, ws_land_run (S := relSub (wd 0 2 3 0 1) (wd 0 2 3 0 2) who) (af := .nil) (pt := RelT.fresh) (t := .rel2 q (some ((ipPM P p).nx b v)) .fresh) (es := es) (Le' := Le ++ Li) hC trivial rfl (fun _ => trivial) hlt ⟨Le, Li, rfl, hgd.keep he' hC.but hnm, hgi.keep hin' hC.but hni⟩ (fun hm => (List.mem_append.1 hm).elim hxe hxi) (fun k hk => (List.mem_append.1 hk).elim (fun h => ⟨List.mem_append_right _ h, hgd.lt he' k h⟩) (fun h => ⟨List.mem_append_left _ h, hgi.lt hin' k h⟩))⟩
    | rel2 q b r =>
      cases r with
      | over => cases hk
      | fresh => cases hk; cases hn
      | pass =>
        cases hk
        exact ws_land_over (t := .rel2 q b .over) (es := es) (Le' := Le) (by cases b <;> exact hB) (But.refl _ _) trivial rfl (by cases b <;> exact he) hxe (fun k hk => List.mem_append_right _ hk)
    | _ => cases hk
end
end Go.Proofs.YtfdpikkinlljlaaGreat

namespace Go.Proofs.YtfdpikkinlljlaaGreat
open Go Go.RowKit
set_option linter.unusedVariables false
set_option maxRecDepth 100000
set_option linter.unusedSimpArgs false

section
variable {who P T G p : Int} {sp lf : Bool} {cl : Nat} {w : World} {x : Nat} {t : WsT} {L : List Nat}
theorem ws_blk {es Le : List Nat} (h : (wsCp who P T G p sp lf cl).Here w x t es Le L ((wsCp who P T G p sp lf cl).kind t)) : ∃ nx, Blk w x (wsAt who p sp lf cl t es nx) 218 := by
  cases hk : (wsCp who P T G p sp lf cl).kind t with
  | over => rw [hk] at h; exact ⟨none, h.1⟩
  | acc a f => rw [hk] at h; obtain ⟨q, Lc, h1, -⟩ := h; exact ⟨_, h1⟩
  | run S q af => rw [hk] at h; obtain ⟨q1, y, g, Li, h1, -⟩ := h; exact ⟨_, h1.hx⟩
/-- Its block, the thread's machine, and the one that gives the processor back. -/
theorem ws_parts (h : (wsCp who P T G p sp lf cl).I w x t L) : ∃ es nx L1, Blk w x (wsAt who p sp lf cl t es nx) 218 ∧ (jgFl who T cl).I (jgPM P T) w (es.getD 0 0) t.q L1 ∧ (∀ b, t.bk = some b → ∃ L2, (ipFl who p cl).I (ipPM P p) w (es.getD 1 0) b L2) := by
  obtain ⟨-, es, Le, he, hxe, hH⟩ := h
  obtain ⟨nx, hB⟩ := ws_blk hH
  cases t with
  | get q =>
    obtain ⟨q1, y, g, Li, h1, h2, h3, -⟩ := hH
    obtain rfl : es.getD 0 0 = y := h3
    exact ⟨es, nx, Li, hB, h2, fun b h => by cases h⟩
  | back q b =>
    obtain ⟨q1, y, g, Li, h1, h2, h3, -⟩ := hH
    obtain rfl : es.getD 1 0 = y := h3
    exact ⟨es, nx, Le, hB, he, fun b' h => by cases h; exact ⟨Li, h2⟩⟩
  | rel2 q b r =>
    cases b with
    | none => exact ⟨es, nx, Le, hB, he, fun b' h => by cases h⟩
    | some b =>
      obtain ⟨L1, L2, rfl, h1, h2⟩ := he
      exact ⟨es, nx, L1, hB, h1, fun b' h => by cases h; exact ⟨L2, h2⟩⟩
  | rel1 q r => exact ⟨es, nx, Le, hB, he, fun b h => by cases h⟩
  | give q => exact ⟨es, nx, Le, hB, he, fun b h => by cases h⟩
  | note q n => exact ⟨es, nx, Le, hB, he, fun b h => by cases h⟩
  | need q => exact ⟨es, nx, Le, hB, he, fun b h => by cases h⟩
  | cnt q => exact ⟨es, nx, Le, hB, he, fun b h => by cases h⟩
  | lft q => exact ⟨es, nx, Le, hB, he, fun b h => by cases h⟩
/-- The thread. -/
theorem ws_tells_T (h : (wsCp who P T G p sp lf cl).I w x t L) :
    Calls Tryz.prog 239 #[.pointer (some ⟨x, 0, none⟩)] w fun e w' => e = .returned (.int .i64 t.q.obs) ∧ w = w' := by
  obtain ⟨es, nx, L1, hB, hI, -⟩ := ws_parts h
  exact ws_T w x cl (es.getD 0 0) who p sp lf t.has _ nx hB _ (jg_got hI)
/-- The processor in its hand. -/
theorem ws_tells_P (h : (wsCp who P T G p sp lf cl).I w x t L) :
    Calls Tryz.prog 103 #[.pointer (some ⟨x, 0, none⟩)] w fun e w' => e = .returned (.int .i64 (t.holds p)) ∧ w = w' := by
  obtain ⟨es, nx, L1, hB, -, hb⟩ := ws_parts h
  unfold WsT.holds
  unfold wsAt at hB
  cases hh : t.has with
  | false =>
    rw [hh] at hB
    exact ws_holds_no w x cl (es.getD 0 0) who p sp lf false _ nx hB rfl
  | true =>
    rw [hh] at hB
    cases hk : t.bk with
    | none =>
      rw [hk] at hB
      exact ws_holds_one w x cl (es.getD 0 0) who p sp lf true none nx hB rfl rfl
    | some b =>
      obtain ⟨L2, h2⟩ := hb b hk
      rw [hk] at hB
      exact ws_holds_back w x cl (es.getD 0 0) who p sp lf true _ nx hB (es.getD 1 0) _ rfl rfl (ip_holds h2)
end
theorem ws_new_at (w : World) (cl : Nat) (who p P T G : Int) (sp lf : Bool) (hp : 0 ≤ P ∧ P ≤ 64) (hTT : 0 ≤ T ∧ T ≤ 65536) :
    Calls Tryz.prog 207 #[.pointer (some ⟨cl, 0, none⟩), .int .i64 who, .int .i64 p, .bool sp, .bool lf] w fun e w' => ∃ x L, e = .returned (.pointer (some ⟨x, 0, none⟩)) ∧ (wsCp who P T G p sp lf cl).I w' x (.get .ld) L ∧ Below w.heap.size w w' ∧ (∀ k ∈ L, w.heap.size ≤ k) ∧ w.heap.size ≤ x := by
  refine (ws_new w cl who p P T G sp lf hp hTT).mono ?_
  rintro e w' ⟨x, th, q, b, L, V, rfl, hC, hI, hL, hq, hb, hB, hx, hxV⟩
  have hfq := hC.at'.fresh
  have hfb := hC.fresh
  refine ⟨x, x :: q :: b :: (L ++ []), rfl, ⟨⟨rfl, trivial⟩, [th], [], rfl, by simp, q, th, b, L, RunAt.of hC (fun nx => rfl), hI, rfl, ?_, hq, hb, (fun k _ h => by cases h), rfl⟩, hB, fun k hk => ?_, hx⟩
  · simp only [List.mem_cons, not_or]
    exact ⟨by omega, by omega, fun hm => (hL x hm).2 rfl⟩
  · simp at hk
    rcases hk with rfl | rfl | rfl | hk
    · exact hx
    · omega
    · omega
    · exact (hL k hk).1
end Go.Proofs.YtfdpikkinlljlaaGreat
