/- Readying: the page's example. -/
import Derived.Test.YtfdpikkinlljlaaGreatHNAU
import Derived.Test.YtfdpikkinlljlaaGreatHNAO
import Derived.Test.YtfdpikkinlljlaaGreatHNAC
import Derived.Test.YtfdpikkinlljlaaGreatHNAT
import Derived.Test.YtfdpikkinlljlaaGreatHNAD
namespace Go.Proofs.YtfdpikkinlljlaaGreat
open Go Go.RowKit
set_option linter.unusedVariables false
set_option maxRecDepth 100000
set_option linter.unusedSimpArgs false
set_option linter.unusedSectionVars false

/-- Giving way, as plain data: q is what the machine that puts into the ring is in, u the one that puts into the global queue, z the one that wakes some thread. -/
inductive GvT where
  | st
  | park
  | put (q : RpT)
  | wkP (q : RpT) (z : WwT)
  | ovP (q : RpT) (z : WwT)
  | acq (a : AcqT)
  | que (u : QpT)
  | rel (u : QpT) (r : RelT)
  | wkQ (u : QpT) (z : WwT)
  | ovQ (u : QpT) (z : WwT)
def GvT.gave : GvT → Bool
  | .st => false
  | _ => true
def GvT.q : GvT → Option RpT
  | .put q => some q
  | .wkP q _ => some q
  | .ovP q _ => some q
  | _ => none
def GvT.u : GvT → Option QpT
  | .acq _ => some (.ch 0)
  | .que u => some u
  | .rel u _ => some u
  | .wkQ u _ => some u
  | .ovQ u _ => some u
  | _ => none
def GvT.z : GvT → Option WwT
  | .wkP _ z => some z
  | .ovP _ z => some z
  | .wkQ _ z => some z
  | .ovQ _ z => some z
  | _ => none
/-- What is in the hand, and what the machine that wakes tells. -/
def GvT.holds (g : Int) (s : GvT) : List Int := match s.q with
  | some q => q.holds
  | none => match s.u with
    | some u => if u.lies then [] else [g]
    | none => []
def GvT.hand (s : GvT) : Int := match s.z with
  | some z => z.holds
  | none => -1
def GvT.counts (s : GvT) : Bool := match s.z with
  | some z => z.counts
  | none => false
def gvPM (P T G t p g hw : Int) : PM GvT where
  ax := fun
    | .st => some (axSt (wd (20 + P * 264 + T * 3) G 2 g 0) (gvWhat hw))
    | .park => none
    | .put q => (rpPM t P p (fun y => wd (20 + P * 264 + T * 3) G 2 y 1)).ax q
    | .wkP _ z => (wwPM P T t).ax z
    | .ovP _ _ => none
    | .acq a => (acqPM (wd 0 2 3 0 0) (wd 0 2 3 0 1) (wd 0 2 3 0 2) t).ax a
    | .que u => (qpPM (fun y => wd (20 + P * 264 + T * 3) G 2 y 1) [g]).ax u
    | .rel _ r => (relPM (wd 0 2 3 0 1) (wd 0 2 3 0 2)).ax r
    | .wkQ _ z => (wwPM P T t).ax z
    | .ovQ _ _ => none
  nx := fun
    | .st, _ => if hw = 0 then .put (rpStart g false) else if hw = 1 then .acq .fresh else .park
    | .put q, v => if ((rpPM t P p (fun y => wd (20 + P * 264 + T * 3) G 2 y 1)).ax ((rpPM t P p (fun y => wd (20 + P * 264 + T * 3) G 2 y 1)).nx q v)).isSome = true then .put ((rpPM t P p (fun y => wd (20 + P * 264 + T * 3) G 2 y 1)).nx q v) else .wkP ((rpPM t P p (fun y => wd (20 + P * 264 + T * 3) G 2 y 1)).nx q v) .ld
    | .wkP q z, v => if ((wwPM P T t).ax ((wwPM P T t).nx z v)).isSome = true then .wkP q ((wwPM P T t).nx z v) else .ovP q ((wwPM P T t).nx z v)
    | .acq a, v => if ((acqPM (wd 0 2 3 0 0) (wd 0 2 3 0 1) (wd 0 2 3 0 2) t).ax ((acqPM (wd 0 2 3 0 0) (wd 0 2 3 0 1) (wd 0 2 3 0 2) t).nx a v)).isSome = true then .acq ((acqPM (wd 0 2 3 0 0) (wd 0 2 3 0 1) (wd 0 2 3 0 2) t).nx a v) else .que (.ch 0)
    | .que u, v => if ((qpPM (fun y => wd (20 + P * 264 + T * 3) G 2 y 1) [g]).ax ((qpPM (fun y => wd (20 + P * 264 + T * 3) G 2 y 1) [g]).nx u v)).isSome = true then .que ((qpPM (fun y => wd (20 + P * 264 + T * 3) G 2 y 1) [g]).nx u v) else .rel ((qpPM (fun y => wd (20 + P * 264 + T * 3) G 2 y 1) [g]).nx u v) .fresh
    | .rel u r, v => if ((relPM (wd 0 2 3 0 1) (wd 0 2 3 0 2)).ax ((relPM (wd 0 2 3 0 1) (wd 0 2 3 0 2)).nx r v)).isSome = true then .rel u ((relPM (wd 0 2 3 0 1) (wd 0 2 3 0 2)).nx r v) else .wkQ u .ld
    | .wkQ u z, v => if ((wwPM P T t).ax ((wwPM P T t).nx z v)).isSome = true then .wkQ u ((wwPM P T t).nx z v) else .ovQ u ((wwPM P T t).nx z v)
    | s, _ => s
def gvExt (P T G t p g : Int) (cl : Nat) (s : GvT) (es : List Nat) (w : World) (Le : List Nat) : Prop := match s with
  | .wkP q _ => (rpCp t (fun y => wd (20 + P * 264 + T * 3) G 2 y 1) P T G p cl).I w (es.getD 0 0) q Le
  | .ovP q z => ∃ L1 L2, Le = L1 ++ L2 ∧ (rpCp t (fun y => wd (20 + P * 264 + T * 3) G 2 y 1) P T G p cl).I w (es.getD 0 0) q L1 ∧ (wwCp t P T G cl).I w (es.getD 1 0) z L2
  | .acq _ => (qpI t cl (fun y => wd (20 + P * 264 + T * 3) G 2 y 1) [g]) w (es.getD 0 0) (.ch 0) Le
  | .rel u _ => (qpI t cl (fun y => wd (20 + P * 264 + T * 3) G 2 y 1) [g]) w (es.getD 0 0) u Le
  | .wkQ u _ => (qpI t cl (fun y => wd (20 + P * 264 + T * 3) G 2 y 1) [g]) w (es.getD 0 0) u Le
  | .ovQ u z => ∃ L1 L2, Le = L1 ++ L2 ∧ (qpI t cl (fun y => wd (20 + P * 264 + T * 3) G 2 y 1) [g]) w (es.getD 0 0) u L1 ∧ (wwCp t P T G cl).I w (es.getD 1 0) z L2
  | _ => Le = []
def gvHv (s : GvT) (es : List Nat) : Value := if s.q.isSome = true then .func (.func 178) #[.pointer (some ⟨es.getD 0 0, 0, none⟩)] #[] else if s.u.isSome = true then .func (.func 145) #[.pointer (some ⟨es.getD 0 0, 0, none⟩)] #[] else .nilFunc
def gvAt (t p g hw : Int) (cl : Nat) (s : GvT) (es : List Nat) (nx : Option Addr) : Array Value := gvCells t nx cl p g (gvHv s es) (if s.z.isSome = true then some ⟨es.getD 1 0, 0, none⟩ else none) hw s.gave (if s.u.isSome = true then some ⟨es.getD 0 0, 0, none⟩ else none)
def gvCp (P T G t p g hw : Int) (cl : Nat) : Cp GvT where
  T := 144
  cells := gvAt t p g hw cl
  kind := fun
    | .st => .acc (axSt (wd (20 + P * 264 + T * 3) G 2 g 0) (gvWhat hw)) (.untold 91)
    | .park => .over
    | .put q => .run (ryPSub t P T G p cl) q (.fn 179)
    | .wkP _ z => .run (ryWSub t P T G cl) z .nil
    | .ovP _ _ => .over
    | .acq a => .run (acqSub (wd 0 2 3 0 0) (wd 0 2 3 0 1) (wd 0 2 3 0 2) t) a (.fn 147)
    | .que u => .run (gvQSub t (fun y => wd (20 + P * 264 + T * 3) G 2 y 1) cl P T G [g]) u (.fn 188)
    | .rel _ r => .run (relSub (wd 0 2 3 0 1) (wd 0 2 3 0 2) t) r (.fn 179)
    | .wkQ _ z => .run (ryWSub t P T G cl) z .nil
    | .ovQ _ _ => .over
  ok := fun
    | .put q => ((rpPM t P p (fun y => wd (20 + P * 264 + T * 3) G 2 y 1)).ax q).isSome = true ∧ (rpCp t (fun y => wd (20 + P * 264 + T * 3) G 2 y 1) P T G p cl).ok q
    | .wkP _ z => ((wwPM P T t).ax z).isSome = true ∧ (wwCp t P T G cl).ok z
    | .acq a => ((acqPM (wd 0 2 3 0 0) (wd 0 2 3 0 1) (wd 0 2 3 0 2) t).ax a).isSome = true
    | .que u => ((qpPM (fun y => wd (20 + P * 264 + T * 3) G 2 y 1) [g]).ax u).isSome = true
    | .rel _ r => ((relPM (wd 0 2 3 0 1) (wd 0 2 3 0 2)).ax r).isSome = true
    | .wkQ _ z => ((wwPM P T t).ax z).isSome = true ∧ (wwCp t P T G cl).ok z
    | _ => True
  ext := gvExt P T G t p g cl
  tie := fun s es y => match s with
    | .put _ => es.getD 0 0 = y
    | .wkP _ _ => es.getD 1 0 = y
    | .que _ => es.getD 0 0 = y
    | .wkQ _ _ => es.getD 1 0 = y
    | _ => True
theorem ent_gv1 : Ent 91 := fun args w => by kernel_rfl
theorem ent_gv2 : Ent 147 := fun args w => by kernel_rfl
theorem ent_gv3 : Ent 188 := fun args w => by kernel_rfl
theorem ent_gv4 : Ent 179 := fun args w => by kernel_rfl
section
variable {P T G t p g hw : Int} {cl : Nat}
theorem gv_on {s : GvT} {v : Int} {S : Sub} {q : S.τ} {af : After} (hp : 0 ≤ P ∧ P ≤ 64) (hT : 0 ≤ T ∧ T ≤ 65536) (hv : 0 ≤ v ∧ v ≤ 18446744073709551615) (hok : (gvCp P T G t p g hw cl).ok s) (hk : (gvCp P T G t p g hw cl).kind s = .run S q af) (hs : (S.M.ax (S.M.nx q v)).isSome = true) :
    (gvCp P T G t p g hw cl).ok ((gvPM P T G t p g hw).nx s v) ∧ (gvCp P T G t p g hw cl).kind ((gvPM P T G t p g hw).nx s v) = .run S (S.M.nx q v) af ∧ (∀ es, (gvCp P T G t p g hw cl).cells ((gvPM P T G t p g hw).nx s v) es = (gvCp P T G t p g hw cl).cells s es) ∧ (∀ es w Le, (gvCp P T G t p g hw cl).ext s es w Le → (gvCp P T G t p g hw cl).ext ((gvPM P T G t p g hw).nx s v) es w Le) ∧ (∀ es y, (gvCp P T G t p g hw cl).tie s es y → (gvCp P T G t p g hw cl).tie ((gvPM P T G t p g hw).nx s v) es y) := by
  cases s with
  | put q =>
    cases hk
    have e : (gvPM P T G t p g hw).nx (.put q) v = .put ((rpPM t P p (fun y => wd (20 + P * 264 + T * 3) G 2 y 1)).nx q v) := if_pos hs
    rw [e]
    exact ⟨⟨hs, rp_ok_next hok.2 hv⟩, rfl, fun _ => rfl, fun _ _ _ h => h, fun _ _ h => h⟩
  | wkP q z =>
    cases hk
    have e : (gvPM P T G t p g hw).nx (.wkP q z) v = .wkP q ((wwPM P T t).nx z v) := if_pos hs
    rw [e]
    obtain ⟨a, ha⟩ := Option.isSome_iff_exists.1 hok.1
    exact ⟨⟨hs, ww_ok_next hp hT hok.2 ha hv⟩, rfl, fun _ => rfl, fun _ _ _ h => h, fun _ _ h => h⟩
  | acq a =>
    cases hk
    have e : (gvPM P T G t p g hw).nx (.acq a) v = .acq ((acqPM (wd 0 2 3 0 0) (wd 0 2 3 0 1) (wd 0 2 3 0 2) t).nx a v) := if_pos hs
    rw [e]
    exact ⟨hs, rfl, fun _ => rfl, fun _ _ _ h => h, fun _ _ h => h⟩
  | que u =>
    cases hk
    have e : (gvPM P T G t p g hw).nx (.que u) v = .que ((qpPM (fun y => wd (20 + P * 264 + T * 3) G 2 y 1) [g]).nx u v) := if_pos hs
    rw [e]
    exact ⟨hs, rfl, fun _ => rfl, fun _ _ _ h => h, fun _ _ h => h⟩
  | rel u r =>
    cases hk
    have e : (gvPM P T G t p g hw).nx (.rel u r) v = .rel u ((relPM (wd 0 2 3 0 1) (wd 0 2 3 0 2)).nx r v) := if_pos hs
    rw [e]
    exact ⟨hs, rfl, fun _ => rfl, fun _ _ _ h => h, fun _ _ h => h⟩
  | wkQ u z =>
    cases hk
    have e : (gvPM P T G t p g hw).nx (.wkQ u z) v = .wkQ u ((wwPM P T t).nx z v) := if_pos hs
    rw [e]
    obtain ⟨a, ha⟩ := Option.isSome_iff_exists.1 hok.1
    exact ⟨⟨hs, ww_ok_next hp hT hok.2 ha hv⟩, rfl, fun _ => rfl, fun _ _ _ h => h, fun _ _ h => h⟩
  | st => cases hk
  | park => cases hk
  | ovP q z => cases hk
  | ovQ u z => cases hk
set_option maxHeartbeats 4000000 in
theorem gv_laws (hw' : 0 ≤ t ∧ t ≤ 1000000) (hp : 0 ≤ P ∧ P ≤ 64) (hT : 0 ≤ T ∧ T ≤ 65536) (hG : 0 ≤ G ∧ G ≤ 65536) :
    (gvCp P T G t p g hw cl).Laws (gvPM P T G t p g hw) (Rd.lay cl P T G) t where
  c0 := fun s es nx => rfl
  c1 := fun s es nx => rfl
  set := fun s es nx nx' => rfl
  k0 := fun s hok hk => by
    cases s <;> first | rfl | cases hk
  k1 := fun s a f hok hk => by
    cases s with
    | st => cases hk; exact ⟨rfl, axSt_ok _ _ (by unfold gvWhat; split <;> omega), ent_gv1⟩
    | _ => cases hk
  k2 := fun s S q af hok hk => by
    cases s with
    | put q => cases hk; exact ⟨rfl, hok.1, ent_gv4, Cp.okax (rp_laws hw' hp hT hG) hok.2⟩
    | wkP q z => cases hk; exact ⟨rfl, hok.1, trivial, Cp.okax (ww_laws hw' hp hT) hok.2⟩
    | acq a => cases hk; exact ⟨rfl, hok, ent_gv2, fun b => (acq_laws _ _ _ t hw').axok _ b trivial⟩
    | que u => cases hk; exact ⟨rfl, hok, ent_gv3, fun a ha => qp_axok (fun y => wd (20 + P * 264 + T * 3) G 2 y 1) [g] (by simp) u a ha⟩
    | rel u r => cases hk; exact ⟨rfl, hok, ent_gv4, fun a => (rel_laws _ _ t).axok _ a trivial⟩
    | wkQ u z => cases hk; exact ⟨rfl, hok.1, trivial, Cp.okax (ww_laws hw' hp hT) hok.2⟩
    | _ => cases hk
  sub := fun s S q af hok hk => by
    cases s with
    | put q => cases hk; exact ⟨rp_steps hw' hp hT hG, rp_good hw' hp hT hG, act_rput, fun w h => h, fun k h => h⟩
    | wkP q z => cases hk; exact ⟨Cp.steps (ww_laws hw' hp hT) stepby_wwk, Cp.good (ww_laws hw' hp hT), act_wwk, fun w h => h, fun k h => h⟩
    | acq a => cases hk; exact acqSub_ok _ _ _ t hw' _
    | que u => cases hk; exact ⟨qp_steps t P T G cl [g] hp hT hG (by simp) stepby_qput, qp_good t P T G cl [g] hp hT hG (by simp), act_qput, fun w h => h, fun k h => h⟩
    | rel u r => cases hk; exact relSub_ok _ _ t _
    | wkQ u z => cases hk; exact ⟨Cp.steps (ww_laws hw' hp hT) stepby_wwk, Cp.good (ww_laws hw' hp hT), act_wwk, fun w h => h, fun k h => h⟩
    | _ => cases hk
  on := fun s S q af v hok hk hv hs => gv_on hp hT hv hok hk hs
  ns := fun s a f hk => by
    cases s <;> cases hk <;> rfl
  ekeep := fun s es w w' ll Le he hb hk => by
    have hgq : (qpI t cl (fun y => wd (20 + P * 264 + T * 3) G 2 y 1) [g]).Good (qpPM (fun y => wd (20 + P * 264 + T * 3) G 2 y 1) [g]) := qp_good t P T G cl [g] hp hT hG (by simp)
    cases s with
    | wkP q z => exact (rp_good hw' hp hT hG).keep he hb hk
    | ovP q z =>
      obtain ⟨L1, L2, e, h1, h2⟩ := he
      subst e
      exact ⟨L1, L2, rfl, (rp_good hw' hp hT hG).keep h1 hb (fun k h => hk k (List.mem_append_left _ h)), (Cp.good (ww_laws hw' hp hT)).keep h2 hb (fun k h => hk k (List.mem_append_right _ h))⟩
    | acq a => exact hgq.keep he hb hk
    | rel u r => exact hgq.keep he hb hk
    | wkQ u z => exact hgq.keep he hb hk
    | ovQ u z =>
      obtain ⟨L1, L2, e, h1, h2⟩ := he
      subst e
      exact ⟨L1, L2, rfl, hgq.keep h1 hb (fun k h => hk k (List.mem_append_left _ h)), (Cp.good (ww_laws hw' hp hT)).keep h2 hb (fun k h => hk k (List.mem_append_right _ h))⟩
    | _ => exact he
  elt := fun s es w Le he k hk => by
    have hgq : (qpI t cl (fun y => wd (20 + P * 264 + T * 3) G 2 y 1) [g]).Good (qpPM (fun y => wd (20 + P * 264 + T * 3) G 2 y 1) [g]) := qp_good t P T G cl [g] hp hT hG (by simp)
    cases s with
    | wkP q z => exact (rp_good hw' hp hT hG).lt he k hk
    | ovP q z =>
      obtain ⟨L1, L2, e, h1, h2⟩ := he
      subst e
      rcases List.mem_append.1 hk with h | h
      · exact (rp_good hw' hp hT hG).lt h1 k h
      · exact (Cp.good (ww_laws hw' hp hT)).lt h2 k h
    | acq a => exact hgq.lt he k hk
    | rel u r => exact hgq.lt he k hk
    | wkQ u z => exact hgq.lt he k hk
    | ovQ u z =>
      obtain ⟨L1, L2, e, h1, h2⟩ := he
      subst e
      rcases List.mem_append.1 hk with h | h
      · exact hgq.lt h1 k h
      · exact (Cp.good (ww_laws hw' hp hT)).lt h2 k h
    | _ => rw [show Le = [] from he] at hk; cases hk
  fol := fun W x s a f v es Le hok hk hv hB he hxe hR hxR => by
    have hlt := hB.lt
    have hcx : cl ≠ x := fun e => hxR (by rw [e]; exact List.mem_singleton.2 rfl)
    cases s with
    | st =>
      cases hk
      obtain rfl : Le = [] := he
      by_cases h0 : hw = 0
      · have e : (gvPM P T G t p g hw).nx .st v = .put (rpStart g false) := if_pos h0
        rw [e]
        refine (gv_give_yield W x cl t p g _ _ _ hw false _ hB h0 P T G hw' hcx hR hp hT hG).mono ?_
        rintro e w' ⟨hu, y1, q1, b, L, hC, hI, hL, hq, hg⟩
        exact ⟨hu, Cp.lnd_run0 (C := (gvCp P T G t p g hw cl)) (S := (ryPSub t P T G p cl)) (af := .fn 179) (pt := rpStart g false) (s := .put (rpStart g false)) (es := [y1]) (Le' := []) hC (fun _ => rfl) hI hL hq hg ⟨rfl, rpD0_ok g⟩ rfl rfl hlt rfl (by simp) (fun k hk => by cases hk)⟩
      · by_cases h1 : hw = 1
        · have e : (gvPM P T G t p g hw).nx .st v = .acq .fresh := (if_neg h0).trans (if_pos h1)
          rw [e]
          refine (gv_give_pre W x cl t p g _ _ _ hw false _ hB h1 P T G hw' hcx hR hp hT hG).mono ?_
          rintro e w' ⟨hu, y1, L1, hI1, hL1, hy1, V, hBV, hL1V, hRN⟩
          obtain ⟨y, q, b, L, hC, hI, hL, hq, hg⟩ := hRN
          have hsV := hBV.size
          have hfq := hC.at'.fresh
          have hfb := hC.fresh
          refine ⟨hu, Cp.lnd_run1 (C := (gvCp P T G t p g hw cl)) (S := (acqSub (wd 0 2 3 0 0) (wd 0 2 3 0 1) (wd 0 2 3 0 2) t)) (af := .fn 147) (pt := AcqT.fresh) (s := .acq .fresh) (es := [y1]) (Le' := L1) (hC.before hBV) (fun _ => rfl) hI (fun k hk => Nat.le_trans hsV (hL k hk)) hq hg rfl rfl trivial hlt hI1 (fun hm => by have := (hL1 x hm).1; omega) (fun k hk => .inr (hL1 k hk).1) (fun k hm hk' => ?_)⟩
          have h2 := hL1V k hk'
          simp only [List.mem_cons] at hm
          rcases hm with rfl | rfl | hm
          · omega
          · omega
          · have := hL k hm; omega
        · have e : (gvPM P T G t p g hw).nx .st v = .park := (if_neg h0).trans (if_neg h1)
          rw [e]
          refine (gv_give_park W x cl t p g _ _ _ hw false _ hB h0 h1).mono ?_
          rintro e w' ⟨hu, h1', h2'⟩
          exact ⟨hu, Cp.lnd_over (C := (gvCp P T G t p g hw cl)) (s := .park) (es := es) (Le' := []) h1' h2' trivial rfl rfl (by simp) (fun k hk => by cases hk)⟩
    | _ => cases hk
  aft := fun W x y s S q af v es Le Li hok hk hv hn' hB hin hty he hxe hxi hdl hR hxR => by
    have hlt := hB.lt
    have hgq : (qpI t cl (fun y => wd (20 + P * 264 + T * 3) G 2 y 1) [g]).Good (qpPM (fun y => wd (20 + P * 264 + T * 3) G 2 y 1) [g]) := qp_good t P T G cl [g] hp hT hG (by simp)
    have hni : ∀ k ∈ Li, k ∉ [x] := fun k hk hm => by simp at hm; exact hxi (hm ▸ hk)
    have hne : ∀ k ∈ Le, k ∉ [x] := fun k hk hm => by simp at hm; exact hxe (hm ▸ hk)
    cases s with
    | put q =>
      cases hk
      obtain rfl : Le = [] := he
      obtain rfl : es.getD 0 0 = y := hty
      have hin' : (rpCp t (fun y => wd (20 + P * 264 + T * 3) G 2 y 1) P T G p cl).I W (es.getD 0 0) ((rpPM t P p (fun y => wd (20 + P * 264 + T * 3) G 2 y 1)).nx q v) Li := hin
      have e : (gvPM P T G t p g hw).nx (.put q) v = .wkP ((rpPM t P p (fun y => wd (20 + P * 264 + T * 3) G 2 y 1)).nx q v) .ld := nx_off hn'
      rw [e]
      refine (ry_wakeSome W x cl t _ 144 hB (by simp [gvAt, gvCp, gvCells]) rfl rfl P T G hw' hp hT).mono ?_
      rintro e w' ⟨hu, y1, q1, b, L, hC, hI, hL, hq, hg⟩
      exact ⟨hu, Cp.lnd_run0 (C := (gvCp P T G t p g hw cl)) (S := (ryWSub t P T G cl)) (af := .nil) (pt := WwT.ld) (s := .wkP ((rpPM t P p (fun y => wd (20 + P * 264 + T * 3) G 2 y 1)).nx q v) .ld) (es := [es.getD 0 0, y1]) (Le' := Li) hC (fun _ => rfl) hI hL hq hg ⟨rfl, trivial⟩ rfl rfl hlt ((rp_good hw' hp hT hG).keep hin' hC.at'.but hni) hxi (fun k hk => ⟨List.mem_append_left _ hk, (rp_good hw' hp hT hG).lt hin' k hk⟩)⟩
    | wkP q z =>
      cases hk
      obtain rfl : es.getD 1 0 = y := hty
      have hin' : (wwCp t P T G cl).I W (es.getD 1 0) ((wwPM P T t).nx z v) Li := hin
      have e : (gvPM P T G t p g hw).nx (.wkP q z) v = .ovP q ((wwPM P T t).nx z v) := nx_off hn'
      rw [e]
      exact Cp.lnd_over (C := (gvCp P T G t p g hw cl)) (s := .ovP q ((wwPM P T t).nx z v)) (es := es) (Le' := Le ++ Li) hB (But.refl _ _) trivial rfl ⟨Le, Li, rfl, he, hin'⟩ (fun hm => (List.mem_append.1 hm).elim hxe hxi) (fun k hk => (List.mem_append.1 hk).elim (List.mem_append_right _) (List.mem_append_left _))
    | acq a =>
      cases hk
      have he' : (qpI t cl (fun y => wd (20 + P * 264 + T * 3) G 2 y 1) [g]) W (es.getD 0 0) (.ch 0) Le := he
      have e : (gvPM P T G t p g hw).nx (.acq a) v = .que (.ch 0) := nx_off hn'
      rw [e]
      obtain ⟨a', ha'⟩ : ∃ a', W.cell? ⟨es.getD 0 0, 1, none⟩ = some (.pointer (some a')) := by
        obtain ⟨nx, q1, q2⟩ := hgq.next he'
        cases nx with
        | none => cases q2
        | some a' => exact ⟨a', q1⟩
      have hyx : es.getD 0 0 ≠ x := fun e => hxe (e ▸ hgq.mem he')
      refine (gv_enqueue W x cl t p g _ _ _ hw true _ hB (es.getD 0 0) rfl a' hyx ha').mono ?_
      rintro e w' ⟨hu, q1, b, hC⟩
      have hlL := hgq.lt he'
      have f1 := hC.at'.fresh
      have f2 := hC.fresh
      have hI2 := hgq.keep he' hC.at'.but hne
      refine ⟨hu, hC.at'.but, x :: q1 :: b :: (Le ++ []), ⟨rfl, es, [], rfl, by simp, ?_⟩, fun k hm => ?_⟩
      · refine ⟨q1, es.getD 0 0, b, Le, RunAt.of hC (fun _ => rfl), hI2, rfl, ?_, fun hm => by have := hlL q1 hm; omega, fun hm => by have := hlL b hm; omega, (fun k hm h => by cases h), rfl⟩
        simp only [List.mem_cons, not_or]
        exact ⟨by omega, by omega, hxe⟩
      · simp only [List.mem_cons, List.mem_append] at hm
        rcases hm with rfl | rfl | rfl | hm | hm
        · exact .inl rfl
        · exact .inr (.inr f1)
        · exact .inr (.inr f2)
        · exact .inr (.inl (List.mem_append_right _ hm))
        · cases hm
    | que u =>
      cases hk
      obtain rfl : Le = [] := he
      obtain rfl : es.getD 0 0 = y := hty
      have hin' : (qpI t cl (fun y => wd (20 + P * 264 + T * 3) G 2 y 1) [g]) W (es.getD 0 0) ((qpPM (fun y => wd (20 + P * 264 + T * 3) G 2 y 1) [g]).nx u v) Li := hin
      have e : (gvPM P T G t p g hw).nx (.que u) v = .rel ((qpPM (fun y => wd (20 + P * 264 + T * 3) G 2 y 1) [g]).nx u v) .fresh := nx_off hn'
      rw [e]
      refine (gv_release W x cl t p g _ _ _ hw true _ hB).mono ?_
      rintro e w' ⟨hu, hC⟩
      exact ⟨hu, Cp.lnd_run (C := (gvCp P T G t p g hw cl)) (S := (relSub (wd 0 2 3 0 1) (wd 0 2 3 0 2) t)) (af := .fn 179) (pt := RelT.fresh) (s := .rel ((qpPM (fun y => wd (20 + P * 264 + T * 3) G 2 y 1) [g]).nx u v) .fresh) (es := es) (Le' := Li) hC (fun _ => rfl) rfl rfl (fun _ => trivial) hlt (hgq.keep hin' hC.but hni) hxi (fun k hk => ⟨List.mem_append_left _ hk, hgq.lt hin' k hk⟩)⟩
    | rel u r =>
      cases hk
      have he' : (qpI t cl (fun y => wd (20 + P * 264 + T * 3) G 2 y 1) [g]) W (es.getD 0 0) u Le := he
      have e : (gvPM P T G t p g hw).nx (.rel u r) v = .wkQ u .ld := nx_off hn'
      rw [e]
      refine (ry_wakeSome W x cl t _ 144 hB (by simp [gvAt, gvCp, gvCells]) rfl rfl P T G hw' hp hT).mono ?_
      rintro e w' ⟨hu, y1, q1, b, L, hC, hI, hL, hq, hg⟩
      exact ⟨hu, Cp.lnd_run0 (C := (gvCp P T G t p g hw cl)) (S := (ryWSub t P T G cl)) (af := .nil) (pt := WwT.ld) (s := .wkQ u .ld) (es := [es.getD 0 0, y1]) (Le' := Le) hC (fun _ => rfl) hI hL hq hg ⟨rfl, trivial⟩ rfl rfl hlt (hgq.keep he' hC.at'.but hne) hxe (fun k hk => ⟨List.mem_append_right _ hk, hgq.lt he' k hk⟩)⟩
    | wkQ u z =>
      cases hk
      obtain rfl : es.getD 1 0 = y := hty
      have hin' : (wwCp t P T G cl).I W (es.getD 1 0) ((wwPM P T t).nx z v) Li := hin
      have e : (gvPM P T G t p g hw).nx (.wkQ u z) v = .ovQ u ((wwPM P T t).nx z v) := nx_off hn'
      rw [e]
      exact Cp.lnd_over (C := (gvCp P T G t p g hw cl)) (s := .ovQ u ((wwPM P T t).nx z v)) (es := es) (Le' := Le ++ Li) hB (But.refl _ _) trivial rfl ⟨Le, Li, rfl, he, hin'⟩ (fun hm => (List.mem_append.1 hm).elim hxe hxi) (fun k hk => (List.mem_append.1 hk).elim (List.mem_append_right _) (List.mem_append_left _))
    | _ => cases hk
variable {w : World} {x : Nat} {s : GvT} {L : List Nat}
/-- Its block, and the machines that it has. -/
theorem gv_parts (h : (gvCp P T G t p g hw cl).I w x s L) : ∃ es nx, Blk w x (gvAt t p g hw cl s es nx) 144 ∧ (∀ q, s.q = some q → ∃ L1, (rpCp t (fun y => wd (20 + P * 264 + T * 3) G 2 y 1) P T G p cl).I w (es.getD 0 0) q L1) ∧ (∀ u, s.u = some u → ∃ L1, (qpI t cl (fun y => wd (20 + P * 264 + T * 3) G 2 y 1) [g]) w (es.getD 0 0) u L1) ∧ (∀ z, s.z = some z → ∃ L2, (wwCp t P T G cl).I w (es.getD 1 0) z L2) := by
  obtain ⟨-, es, Le, he, hxe, hH⟩ := h
  obtain ⟨nx, hB⟩ := Cp.blk' hH
  have hB' : Blk w x (gvAt t p g hw cl s es nx) 144 := hB
  cases s with
  | put q =>
    obtain ⟨q1, y, g1, Li, h1, h2, h3, -⟩ := hH
    obtain rfl : es.getD 0 0 = y := h3
    exact ⟨es, nx, hB', (fun c h => by cases h; exact ⟨Li, h2⟩), (fun c h => by cases h), (fun c h => by cases h)⟩
  | wkP q z =>
    obtain ⟨q1, y, g1, Li, h1, h2, h3, -⟩ := hH
    obtain rfl : es.getD 1 0 = y := h3
    exact ⟨es, nx, hB', (fun c h => by cases h; exact ⟨Le, he⟩), (fun c h => by cases h), (fun c h => by cases h; exact ⟨Li, h2⟩)⟩
  | ovP q z =>
    obtain ⟨L1, L2, -, h1, h2⟩ := he
    exact ⟨es, nx, hB', (fun c h => by cases h; exact ⟨L1, h1⟩), (fun c h => by cases h), (fun c h => by cases h; exact ⟨L2, h2⟩)⟩
  | acq a => exact ⟨es, nx, hB', (fun c h => by cases h), (fun c h => by cases h; exact ⟨Le, he⟩), (fun c h => by cases h)⟩
  | que u =>
    obtain ⟨q1, y, g1, Li, h1, h2, h3, -⟩ := hH
    obtain rfl : es.getD 0 0 = y := h3
    exact ⟨es, nx, hB', (fun c h => by cases h), (fun c h => by cases h; exact ⟨Li, h2⟩), (fun c h => by cases h)⟩
  | rel u r => exact ⟨es, nx, hB', (fun c h => by cases h), (fun c h => by cases h; exact ⟨Le, he⟩), (fun c h => by cases h)⟩
  | wkQ u z =>
    obtain ⟨q1, y, g1, Li, h1, h2, h3, -⟩ := hH
    obtain rfl : es.getD 1 0 = y := h3
    exact ⟨es, nx, hB', (fun c h => by cases h), (fun c h => by cases h; exact ⟨Le, he⟩), (fun c h => by cases h; exact ⟨Li, h2⟩)⟩
  | ovQ u z =>
    obtain ⟨L1, L2, -, h1, h2⟩ := he
    exact ⟨es, nx, hB', (fun c h => by cases h), (fun c h => by cases h; exact ⟨L1, h1⟩), (fun c h => by cases h; exact ⟨L2, h2⟩)⟩
  | _ => exact ⟨es, nx, hB', (fun c h => by cases h), (fun c h => by cases h), (fun c h => by cases h)⟩
theorem gv_tells_G (h : (gvCp P T G t p g hw cl).I w x s L) : Calls Tryz.prog 28 #[.pointer (some ⟨x, 0, none⟩)] w fun e w' => e = .returned (.bool s.gave) ∧ w = w' := by
  obtain ⟨es, nx, hB, -⟩ := gv_parts h
  exact gv_Gave w x cl t p g _ _ nx hw _ _ hB
theorem gv_tells_H (h : (gvCp P T G t p g hw cl).I w x s L) : Calls Tryz.prog 29 #[.pointer (some ⟨x, 0, none⟩)] w fun e w' => ∃ v, e = .returned v ∧ SeesL w' v (s.holds g) ∧ Below w.heap.size w w' := by
  obtain ⟨es, nx, hB, h1, h2, -⟩ := gv_parts h
  refine gv_Holds w x cl t p g _ _ nx hw _ _ hB _ ?_
  unfold GvT.holds
  unfold gvAt gvHv at hB
  cases hk : s.q with
  | some q =>
    rw [hk] at hB
    obtain ⟨L1, h1⟩ := h1 q hk
    exact ry_held_rput w x _ _ hB (es.getD 0 0) q.holds rfl (rp_holds h1)
  | none =>
    rw [hk] at hB
    cases hu : s.u with
    | some u =>
      rw [hu] at hB
      obtain ⟨L1, h2⟩ := h2 u hu
      refine ry_held_globq w x _ _ hB (es.getD 0 0) _ rfl ((qp_holds h2 (by simp)).mono ?_)
      rintro e w' ⟨v, hv, hi, hb⟩
      exact ⟨v, hv, hi.sees, hb⟩
    | none =>
      rw [hu] at hB
      refine (ry_held_nil w x _ _ hB rfl).mono ?_
      rintro e w' ⟨rfl, rfl⟩
      exact ⟨_, rfl, ⟨none, 0, rfl, fun _ => ⟨rfl, rfl⟩, fun h => absurd h (by simp)⟩, Below.refl _ _⟩
theorem gv_tells_P (h : (gvCp P T G t p g hw cl).I w x s L) : Calls Tryz.prog 30 #[.pointer (some ⟨x, 0, none⟩)] w fun e w' => e = .returned (.int .i64 s.hand) ∧ w = w' := by
  obtain ⟨es, nx, hB, -, -, h2⟩ := gv_parts h
  unfold GvT.hand
  unfold gvAt at hB
  cases hk : s.z with
  | none => rw [hk] at hB; exact gv_Hand w x cl t p g _ none nx hw _ _ hB (-1) (ww_holds_nil w)
  | some u =>
    rw [hk] at hB
    obtain ⟨L2, h2⟩ := h2 u hk
    exact gv_Hand w x cl t p g _ (some ⟨es.getD 1 0, 0, none⟩) nx hw _ _ hB u.holds (ww_tells_P h2)
theorem gv_tells_C (h : (gvCp P T G t p g hw cl).I w x s L) : Calls Tryz.prog 31 #[.pointer (some ⟨x, 0, none⟩)] w fun e w' => e = .returned (.bool s.counts) ∧ w = w' := by
  obtain ⟨es, nx, hB, -, -, h2⟩ := gv_parts h
  unfold GvT.counts
  unfold gvAt at hB
  cases hk : s.z with
  | none => rw [hk] at hB; exact gv_Counts w x cl t p g _ none nx hw _ _ hB false (ww_counts_nil w)
  | some u =>
    rw [hk] at hB
    obtain ⟨L2, h2⟩ := h2 u hk
    exact gv_Counts w x cl t p g _ (some ⟨es.getD 1 0, 0, none⟩) nx hw _ _ hB u.counts (ww_tells_C h2)
end
set_option maxHeartbeats 2000000 in
theorem gv_new (w : World) (cl : Nat) (t p g hw P T G : Int) (hl : Lay w cl P T G) (hp : 0 ≤ P ∧ P ≤ 64) (hT : 0 ≤ T ∧ T ≤ 65536) (hG : 0 ≤ G ∧ G ≤ 65536) :
    Calls Tryz.prog 25 #[.pointer (some ⟨cl, 0, none⟩), .int .i64 t, .int .i64 p, .int .i64 g, .int .i64 hw] w fun e w' => ∃ x L, e = .returned (.pointer (some ⟨x, 0, none⟩)) ∧ (gvCp P T G t p g hw cl).I w' x .st L ∧ Below w.heap.size w w' ∧ (∀ k ∈ L, w.heap.size ≤ k) ∧ w.heap.size ≤ x := by
  have hB := Blk.new w #[.int .i64 0, .pointer none, .pointer none, .int .i64 0, .int .i64 0, .nilFunc, .pointer none, .int .i64 hw, .bool false, .pointer none] 144
  have hb : Below w.heap.size w (w.alloc (.cells #[.int .i64 0, .pointer none, .pointer none, .int .i64 0, .int .i64 0, .nilFunc, .pointer none, .int .i64 hw, .bool false, .pointer none] 144)) := (Below.refl _ _).alloc (Nat.le_refl _) _
  have hO := ry_of _ w.heap.size cl t p _ (gvCells t none cl p 0 .nilFunc none hw false none) 144 hB (by simp) rfl
  have HH : Hid (Below w.heap.size w (w.alloc (.cells #[.int .i64 0, .pointer none, .pointer none, .int .i64 0, .int .i64 0, .nilFunc, .pointer none, .int .i64 hw, .bool false, .pointer none] 144)) ∧ Lay w cl P T G) := ⟨hb, hl⟩
  have hsz := World.size_alloc w (.cells #[.int .i64 0, .pointer none, .pointer none, .int .i64 0, .int .i64 0, .nilFunc, .pointer none, .int .i64 hw, .bool false, .pointer none] 144)
  clear hB hb hl
  go_enter Tryz.func25, Tryz.ntmps25
  go_wp2_with fail
  go_at_call 66; refine hO.mono ?_; rintro e w1 ⟨⟨v, rfl⟩, h1, h2, h3⟩
  have hb1 : Hid (Below w.heap.size w w1) := HH.out.1.trans (h2.below (by simp) (by rw [hsz]; omega))
  have hlt := h1.lt
  have hL1 : Lay w1 cl P T G := HH.out.2.below hb1.out HH.out.2.lt
  have c4 := h1.cell 4 (v := .int .i64 0) rfl
  have f4 := h1.fro 4
  obtain ⟨V, hV⟩ : ∃ V, (w1.setCell ⟨w.heap.size, 4, none⟩ (.int .i64 g)) = V := ⟨_, rfl⟩
  have h5 : Blk V w.heap.size (gvCells t none cl p g .nilFunc none hw false none) 144 := by rw [← hV]; exact h1.set 4 (.int .i64 g)
  have hBV : But [w.heap.size] w1 V := by rw [← hV]; exact (But.refl _ w1).set (g := w.heap.size) (.inl (by simp)) 4 _
  have hbV : Hid (Below w.heap.size w V) := hb1.out.trans (hBV.below (by simp) hb1.out.size)
  have hLV : Lay V cl P T G := HH.out.2.below hbV.out HH.out.2.lt
  have HBL : Hid (∀ Y, Below V.drew.heap.size V.drew Y → Blk Y w.heap.size (gvCells t none cl p g .nilFunc none hw false none) 144) := fun Y hY => h5.drew.but (But.of_below (l := []) hY) (by simp)
  have HGw : Hid (∀ Y, Below V.drew.heap.size V.drew Y → Calls Tryz.prog 89 #[.pointer (some ⟨w.heap.size, 0, none⟩)] Y fun e w' => e = .returned (.int .i64 (wd (20 + P * 264 + T * 3) G 2 g 0)) ∧ Below Y.heap.size Y w') := fun Y hY => ry_status Y w.heap.size cl g _ 144 (HBL.out Y hY) rfl rfl P T G ((hLV.below (Below.refl _ _).drew hLV.lt).below hY (by have := hLV.lt; exact this)) hp hT hG
  have HWh : Hid (∀ Y, Below V.drew.heap.size V.drew Y → Calls Tryz.prog 90 #[.pointer (some ⟨w.heap.size, 0, none⟩)] Y fun e w' => e = .returned (.int .u64 (gvWhat hw)) ∧ Y = w') := fun Y hY => gv_what Y w.heap.size cl t p g _ _ _ hw _ _ (HBL.out Y hY)
  have HS : Hid (∀ Y, Below V.drew.heap.size V.drew Y → Calls Tryz.prog 88 #[.pointer (some ⟨w.heap.size, 0, none⟩), .int .i64 (wd (20 + P * 264 + T * 3) G 2 g 0), .int .u64 (gvWhat hw), .func (.func 91) #[.pointer (some ⟨w.heap.size, 0, none⟩)] #[]] Y fun e w' => (∃ v, e = .returned v) ∧ Came V w' w.heap.size (gvCells t none cl p g .nilFunc none hw false none) 144 (axSt (wd (20 + P * 264 + T * 3) G 2 g 0) (gvWhat hw)) (.untold 91)) := by
    intro Y hY
    refine (came_store Y w.heap.size _ 144 (HBL.out Y hY) (by simp [gvCells]) _ (gvWhat hw) 91).mono ?_
    rintro e w5 ⟨hv, hC⟩
    exact ⟨hv, hC.before (((But.refl [w.heap.size] V).drew).trans (But.of_below hY))⟩
  have HCE : Hid (∀ w2, Came V w2 w.heap.size (gvCells t none cl p g .nilFunc none hw false none) 144 (axSt (wd (20 + P * 264 + T * 3) G 2 g 0) (gvWhat hw)) (.untold 91) → ∃ L, (gvCp P T G t p g hw cl).I w2 w.heap.size .st L ∧ Below w.heap.size w w2 ∧ ∀ k ∈ L, w.heap.size ≤ k) := by
    rintro w2 ⟨q, Lc, c1, c2, c3, c4⟩
    refine ⟨w.heap.size :: (Lc ++ []), ⟨trivial, [], [], rfl, by simp, q, Lc, c1, c2, fun hm => by have := c4 _ hm; have := h5.lt; omega, (fun k hm h => by cases h), rfl⟩, hbV.out.trans (c3.below (by simp) hbV.out.size), fun k hk => ?_⟩
    have := hbV.out.size
    simp at hk
    rcases hk with rfl | hk
    · exact Nat.le_refl _
    · have := c4 k hk; omega
  generalize wd (20 + P * 264 + T * 3) G 2 g 0 = at' at *
  generalize gvWhat hw = ww at *
  have HB0 : Hid (Below V.drew.heap.size V.drew V.drew) := Below.refl _ _
  clear hO h1 h2 h3 HH hsz hL1 hp HBL h5 hBV hbV hLV
  go_wp2_with fail
  try rw [hV]
  clear hV c4 f4
  go_wp2_with fail
  go_region_with (first | (go_at_call 90; first | (refine (HWh.out _ HB0.out).mono ?_; rintro e x2 ⟨rfl, rfl⟩) | (refine (HWh.out _ g3).mono ?_; rintro e x2 ⟨rfl, rfl⟩)) | (go_at_call 89; refine (HGw.out _ HB0.out).mono ?_; rintro e x3 ⟨rfl, g3⟩) | (go_at_call 88; refine (HS.out _ g3).mono ?_; rintro e x4 ⟨⟨u, rfl⟩, hC⟩))
  all_goals
    have hF : Hid _ := HCE.out _ hC
    clear HGw HWh HS HCE hC hb1 HB0
    go_wp2_with fail
    go_ret
    obtain ⟨L, f1, f2, f3⟩ := hF.out
    exact ⟨_, L, rfl, f1, f2, f3, Nat.le_refl _⟩
end Go.Proofs.YtfdpikkinlljlaaGreat

namespace Go.Proofs.YtfdpikkinlljlaaGreat
open Go Go.RowKit
set_option linter.unusedVariables false
set_option maxRecDepth 100000
set_option linter.unusedSimpArgs false

theorem Solo.swap {σ τ : Type} {I : MI σ} {J : MI τ} {M : PM σ} {N : PM τ} {R : Rd} {W0 w : World} {A : Option Addr} {cap c b n : Nat} {s : St} {x y : Nat} {t : σ} {u : τ} {L K : List Nat} (hGI : I.Good M) (hGJ : J.Good N) (h : Solo I (R.and (Rd.mach hGJ y u K)) W0 w A cap c b n s x t L) (hd : ∀ k ∈ K, k ∉ R.B ∧ W0.heap.size ≤ k) : Solo J (R.and (Rd.mach hGI x t L)) W0 w A cap c b n s y u K := by
  refine ⟨h.mem, h.rd.2, ⟨h.rd.1, h.mach⟩, fun k hk => ⟨fun e => h.rfar.1 (List.mem_append_right _ (e ▸ hk)), fun e => h.rfar.2 (List.mem_append_right _ (e ▸ hk)), fun hm => ?_⟩, ⟨fun hm => ?_, fun hm => ?_⟩, ⟨h.up.1, h.up.2.1, fun k hk => (hd k hk).2⟩, fun k hk => ?_, h.below⟩
  · rcases List.mem_append.1 hm with h1 | h1
    · exact (hd k hk).1 h1
    · exact (h.far k h1).2.2 (List.mem_append_right _ hk)
  · rcases List.mem_append.1 hm with h1 | h1
    · exact h.rfar.1 (List.mem_append_left _ h1)
    · exact (h.far c h1).1 rfl
  · rcases List.mem_append.1 hm with h1 | h1
    · exact h.rfar.2 (List.mem_append_left _ h1)
    · exact (h.far b h1).2.1 rfl
  · rcases List.mem_append.1 hk with h1 | h1
    · exact h.rlt k (List.mem_append_left _ h1)
    · exact hGI.lt h.mach k h1
/-- What a machine has is apart from what is read. -/
theorem Solo.apart {σ τ : Type} {I : MI σ} {J : MI τ} {N : PM τ} {R : Rd} {W0 w : World} {A : Option Addr} {cap c b n : Nat} {s : St} {x y : Nat} {t : σ} {u : τ} {L K : List Nat} {hGJ : J.Good N} (h : Solo I (R.and (Rd.mach hGJ y u K)) W0 w A cap c b n s x t L) : ∀ k ∈ L, k ∉ R.B ∧ W0.heap.size ≤ k := fun k hk => ⟨fun hm => (h.far k hk).2.2 (List.mem_append_left _ hm), h.up.2.2 k hk⟩
def raG : PM GvT := gvPM 1 2 2 0 0 1 2
def raA : PM RyT := ryPM 1 2 2 0 0 3
def raB : PM RyT := ryPM 1 2 2 1 0 1
def raS0 : St := fresh (putF (fun _ => 17) (fun _ => 2) 294 1)
def raS1 : St := raG.goS 0 294 .st raS0
def raGT : GvT := raG.goT 294 .st raS0
def raP : Nat → RyT × RyT × St
  | 0 => (.ld, .ld, raS1)
  | k + 1 => (raA.goT 294 (raP k).1 (raP k).2.2, raB.goT 294 (raP k).2.1 (raA.goS 0 294 (raP k).1 (raP k).2.2), raB.goS 1 294 (raP k).2.1 (raA.goS 0 294 (raP k).1 (raP k).2.2))
theorem raP_low : ∀ k : Nat, Low (raP k).2.2 (1 + 2 * (k : Int))
  | 0 => by
    have h : Low raS1 (0 + 1) := PM.goS_low (low_fresh _)
    exact h.more (by omega)
  | k + 1 => by
    have h := PM.goS_low (M := raB) (who := 1) (n := 294) (t := (raP k).2.1) (PM.goS_low (M := raA) (who := 0) (n := 294) (t := (raP k).1) (raP_low k))
    exact h.more (by omega)
def raA2 : RyT := (raP 2).1
def raB2 : RyT := (raP 2).2.1
def raS2 : St := (raP 2).2.2
def raSA : St := (raA.steps 0 294 30 (raA2, raS2)).2
def raTA : RyT := (raA.steps 0 294 30 (raA2, raS2)).1
def raSB : St := (raB.steps 1 294 30 (raB2, raSA)).2
def raTB : RyT := (raB.steps 1 294 30 (raB2, raSA)).1
theorem ra_mk2 {I : MI RyT} {R : Rd} {w0 w : World} {A : Option Addr} {cap c b xa : Nat} {L : List Nat} (h : Hid (Solo I R w0 w A cap c b 294 (raB.steps 1 294 30 (raB2, raSA)).2 xa (raB.steps 1 294 30 (raB2, raSA)).1 L)) : Hid (Solo I R w0 w A cap c b 294 raSB xa raTB L) := by
  unfold raSB raTB
  exact h
theorem ra_mkb {I : MI RyT} {R : Rd} {w0 w : World} {A : Option Addr} {cap c b xa : Nat} {L : List Nat} (h : Hid (Solo I R w0 w A cap c b 294 raSA xa raB2 L)) : Hid (Solo I R w0 w A cap c b 294 (raB.steps 1 294 0 (raB2, raSA)).2 xa (raB.steps 1 294 0 (raB2, raSA)).1 L) := by
  revert h
  generalize raSA = s
  generalize raB2 = t
  intro h
  exact h
theorem ra_mk {I : MI RyT} {R : Rd} {w0 w : World} {A : Option Addr} {cap c b xa : Nat} {L : List Nat} (h : Hid (Solo I R w0 w A cap c b 294 (raA.steps 0 294 30 (raA2, raS2)).2 xa (raA.steps 0 294 30 (raA2, raS2)).1 L)) : Hid (Solo I R w0 w A cap c b 294 raSA xa raTA L) := by
  unfold raSA raTA
  exact h
theorem ra_gv : (raG.ax (raG.goT 294 .st raS0)).isNone = true ∧ raGT.gave = true := by decide +kernel
theorem ra_a : (raA.ax raTA).isNone = true ∧ raTA.obs = 1 := by decide +kernel
theorem ra_b : (raB.ax raTB).isNone = true ∧ raTB.obs = -1 := by decide +kernel
theorem ra_gs : gsL 2 (rgsL 1 2 0 294 raSB) = [1] ∧ (decide (rMany 1 0 294 raSB ≤ 256) && (rgsL 1 2 0 294 raSB).all (gsOk 2)) = true := by decide +kernel
theorem ra_low2 : Low raS2 5 := raP_low 2
theorem ra_lowA : Low raSA 35 := (PM.steps_low raA 0 294 30 (raA2, raS2) ra_low2).more (by omega)
theorem ra_lowA0 (q : Nat) (hq : q ≤ 30) : Low (raA.steps 0 294 q (raA2, raS2)).2 1000000 := by
  have h0 := ra_low2
  revert h0
  generalize raS2 = s
  generalize raA2 = t
  intro h0
  exact (PM.steps_low raA 0 294 q (t, s) h0).more (by omega)
theorem ra_lowB0 (q : Nat) (hq : q ≤ 30) : Low (raB.steps 1 294 q (raB2, raSA)).2 1000000 := by
  have h0 := ra_lowA
  revert h0
  generalize raSA = s
  generalize raB2 = t
  intro h0
  exact (PM.steps_low raB 1 294 q (t, s) h0).more (by omega)

set_option maxHeartbeats 16000000 in
theorem ready_awake (w : World) : Calls Tryz.prog 10 #[] w fun e w' => e = .returned (.bool true) ∧ Below w.heap.size w w' := by
  have hX1 := Blk.new w #[.int .i64 17, .int .u64 2] 80
  have hb1 : Below w.heap.size w (w.alloc (.cells #[.int .i64 17, .int .u64 2] 80)) := (Below.refl _ _).alloc (Nat.le_refl _) _
  have hb2 : Below w.heap.size w (w.alloc (.cells #[.int .i64 17, .int .u64 2] 80)) := hb1
  have hX : Blk (w.alloc (.cells #[.int .i64 17, .int .u64 2] 80)) w.heap.size #[.int .i64 17, .int .u64 2] 80 := hX1
  have hL := lay_some 1 2 2 (some ⟨w.heap.size, 0, none⟩) 1 1 294 (fun _ => 17) (fun _ => 2) (w.alloc (.cells #[.int .i64 17, .int .u64 2] 80)) (by omega) ⟨⟨by omega⟩, by omega, by omega, by omega⟩ (by omega) (fun _ => ⟨w.heap.size, 0, rfl, hX.lt, fun j hj => by
    obtain rfl : j = 0 := by omega
    exact ⟨hX.cell 0 rfl, hX.cell 1 rfl⟩⟩) (fun i hi => ⟨by show (0 : Int) ≤ 2; omega, by show (2 : Int) ≤ 18446744073709551615; omega⟩)
  have HB0 : Hid (Below w.heap.size w (w.alloc (.cells #[.int .i64 17, .int .u64 2] 80))) := hb2
  clear hX1 hb1 hb2 hX
  go_enter Tryz.func10, Tryz.ntmps10
  go_wp2_with fail
  generalize (w.alloc (.cells #[.int .i64 17, .int .u64 2] 80)) = W at *
  go_at_call 9; refine hL.mono ?_; rintro e w1 ⟨cl, A, A', cap, cap', c, b, c', b', rfl, hLd⟩
  have hszW := HB0.out.size
  have HB1 : Hid (Below w.heap.size w w1) := HB0.out.trans (hLd.below.mono hszW)
  have HI1 : Hid (Is w1 141 A cap c b 294 raS0) := hLd.two.m
  have HY1 : Hid (Lay w1 cl 1 2 2) := hLd.lay
  have hne : Hid (cl ≠ c ∧ cl ≠ b) := lay_ne hLd.lay (by decide) hLd.two.m (by omega)
  have hup : Hid (w.heap.size ≤ c ∧ w.heap.size ≤ b) := ⟨by have := hLd.up.2.1; omega, by have := hLd.up.2.2.1; omega⟩
  have hLG : (gvCp 1 2 2 0 0 1 2 cl).Laws (gvPM 1 2 2 0 0 1 2) (Rd.lay cl 1 2 2) 0 := gv_laws (by omega) (by omega) (by omega) (by omega)
  have hGG : ((gvCp 1 2 2 0 0 1 2 cl).I).Good raG := Cp.good hLG
  have hLA : (ryCp 1 2 2 0 0 3 cl).Laws (ryPM 1 2 2 0 0 3) (Rd.lay cl 1 2 2) 0 := ry_laws (by omega) (by omega) (by omega) (by omega) (by omega)
  have hGA : ((ryCp 1 2 2 0 0 3 cl).I).Good raA := Cp.good hLA
  have hLB : (ryCp 1 2 2 1 0 1 cl).Laws (ryPM 1 2 2 1 0 1) (Rd.lay cl 1 2 2) 1 := ry_laws (by omega) (by omega) (by omega) (by omega) (by omega)
  have hGB : ((ryCp 1 2 2 1 0 1 cl).I).Good raB := Cp.good hLB
  have HST : Hid (Steps raG ((gvCp 1 2 2 0 0 1 2 cl).I) (Rd.lay cl 1 2 2) 32 0 ∧ Steps raA ((ryCp 1 2 2 0 0 3 cl).I) (Rd.lay cl 1 2 2) 21 0 ∧ Steps raB ((ryCp 1 2 2 1 0 1 cl).I) (Rd.lay cl 1 2 2) 21 1) := ⟨Cp.steps hLG stepby_give, Cp.steps hLA stepby_rdy, Cp.steps hLB stepby_rdy⟩
  have HRF : Hid (c ∉ (Rd.lay cl 1 2 2).B ∧ b ∉ (Rd.lay cl 1 2 2).B) := ⟨fun h => hne.out.1 (List.mem_singleton.1 h).symm, fun h => hne.out.2 (List.mem_singleton.1 h).symm⟩
  have hN := gv_new w1 cl 0 0 1 2 1 2 2 hLd.lay (by omega) (by omega) (by omega)
  clear hL hLd hne hszW HB0 hLG hLA hLB
  go_wp2_with fail
  go_at_call 25; refine hN.mono ?_; rintro e w2 ⟨xg, Lg0, rfl, ha1, ha2, ha3, -⟩
  have HSG : Hid (Solo ((gvCp 1 2 2 0 0 1 2 cl).I) (Rd.lay cl 1 2 2) w w2 A cap c b 294 raS0 xg GvT.st Lg0) := Solo.begin HI1.out ha2 HB1.out hup.out ha1 ha3 HY1.out (fun k hk => by obtain rfl : k = cl := List.mem_singleton.1 hk; exact HY1.out.lt) HRF.out
  clear hN ha1 ha2 ha3 HI1 HY1 HB1
  have hSt := HSG.out.step hGG HST.out.1 (fun Y h => h) (fun k hk => hk) (by omega) ((low_fresh _).more (by omega))
  rw [ra_gv.1] at hSt
  go_wp2_with fail
  go_at_call 32; refine hSt.mono ?_; rintro e w3 ⟨rfl, Lg, hS'⟩
  have HS1 : Hid (Solo ((gvCp 1 2 2 0 0 1 2 cl).I) (Rd.lay cl 1 2 2) w w3 A cap c b 294 raS1 xg raGT Lg) := hS'
  clear hSt hS' HSG
  have HRG : Hid (((Rd.lay cl 1 2 2).and (Rd.mach hGG xg raGT Lg)).P w3 ∧ (∀ k ∈ ((Rd.lay cl 1 2 2).and (Rd.mach hGG xg raGT Lg)).B, k < w3.heap.size) ∧ c ∉ ((Rd.lay cl 1 2 2).and (Rd.mach hGG xg raGT Lg)).B ∧ b ∉ ((Rd.lay cl 1 2 2).and (Rd.mach hGG xg raGT Lg)).B) := by
    refine ⟨⟨HS1.out.rd, HS1.out.mach⟩, fun k hk => ?_, fun hm => ?_, fun hm => ?_⟩
    · rcases List.mem_append.1 hk with h | h
      · exact HS1.out.rlt k h
      · exact hGG.lt HS1.out.mach k h
    · rcases List.mem_append.1 hm with h | h
      · exact HS1.out.rfar.1 h
      · exact (HS1.out.far c h).1 rfl
    · rcases List.mem_append.1 hm with h | h
      · exact HS1.out.rfar.2 h
      · exact (HS1.out.far b h).2.1 rfl
  have hN := ry_new w3 cl 0 0 3 1 2 2 HS1.out.rd
  go_wp2_with fail
  go_at_call 11; refine hN.mono ?_; rintro e w4 ⟨xa, La, rfl, a1, a2, a3, -⟩
  have HA4 : Hid (((ryCp 1 2 2 0 0 3 cl).I) w4 xa .ld La ∧ Below w3.heap.size w3 w4 ∧ (∀ k ∈ La, w3.heap.size ≤ k) ∧ ((Rd.lay cl 1 2 2).and (Rd.mach hGG xg raGT Lg)).P w4) := ⟨a1, a2, a3, ((Rd.lay cl 1 2 2).and (Rd.mach hGG xg raGT Lg)).below HRG.out.1 a2⟩
  have hN2 := ry_new w4 cl 1 0 1 1 2 2 HA4.out.2.2.2.1
  clear hN a1 a2 a3
  go_wp2_with fail
  go_at_call 11; refine hN2.mono ?_; rintro e w5 ⟨xb, Lb, rfl, b1, b2, b3, -⟩
  have HB0 : Hid (∀ k ∈ Lb, k ∉ ((Rd.lay cl 1 2 2).and (Rd.mach hGG xg raGT Lg)).B ∧ w.heap.size ≤ k) := fun k hk => ⟨fun hm => by have h1 := HRG.out.2.1 k hm; have h2 := b3 k hk; have h3 := HA4.out.2.1.size; omega, by have h2 := b3 k hk; have h3 := HA4.out.2.1.size; have h4 := HS1.out.below.size; omega⟩
  have HSA : Hid (Solo ((ryCp 1 2 2 0 0 3 cl).I) (((Rd.lay cl 1 2 2).and (Rd.mach hGG xg raGT Lg)).and (Rd.mach hGB xb (raP 0).2.1 Lb)) w w5 A cap c b 294 (raP 0).2.2 xa (raP 0).1 La) := by
    have l1 := HS1.out.mem.lt
    have l2 := HS1.out.mem.bl
    have s1 := HS1.out.below.size
    have s2 := HA4.out.2.1.size
    have ltA := hGA.lt HA4.out.1
    have ltB := hGB.lt b1
    refine ⟨HS1.out.mem.below (seq HA4.out.2.1 b2), hGA.below HA4.out.1 b2, ⟨((Rd.lay cl 1 2 2).and (Rd.mach hGG xg raGT Lg)).below HA4.out.2.2.2 b2, b1⟩, fun k hk => ⟨by have := HA4.out.2.2.1 k hk; omega, by have := HA4.out.2.2.1 k hk; omega, fun hm => ?_⟩, ⟨fun hm => ?_, fun hm => ?_⟩, ⟨hup.out.1, hup.out.2, fun k hk => by have := HA4.out.2.2.1 k hk; omega⟩, fun k hk => ?_, HS1.out.below.trans ((seq HA4.out.2.1 b2).mono s1)⟩
    · rcases List.mem_append.1 hm with h | h
      · have := HRG.out.2.1 k h; have := HA4.out.2.2.1 k hk; omega
      · have := b3 k h; have := ltA k hk; omega
    · rcases List.mem_append.1 hm with h | h
      · exact HRG.out.2.2.1 h
      · have := b3 c h; omega
    · rcases List.mem_append.1 hm with h | h
      · exact HRG.out.2.2.2 h
      · have := b3 b h; omega
    · rcases List.mem_append.1 hk with h | h
      · have := HRG.out.2.1 k h; have := b2.size; omega
      · exact ltB k h
  clear hN2 b1 b2 b3 HA4 HRG HS1
  go_wp2_with fail
  have HLP : Hid (∀ q : Nat, q ≤ 2 → Low (raP q).2.2 1000000 ∧ Low (raA.goS 0 294 (raP q).1 (raP q).2.2) 1000000) := fun q hq => ⟨(raP_low q).more (by omega), (PM.goS_low (raP_low q)).more (by omega)⟩
  go_loopw [9] (fun k wi => ∃ (q : Nat) (La Lb : List Nat), q ≤ 2 ∧ k = .int .i64 q ∧ Hid (Solo ((ryCp 1 2 2 0 0 3 cl).I) (((Rd.lay cl 1 2 2).and (Rd.mach hGG xg raGT Lg)).and (Rd.mach hGB xb (raP q).2.1 Lb)) w wi A cap c b 294 (raP q).2.2 xa (raP q).1 La) ∧ Hid (∀ k ∈ Lb, k ∉ ((Rd.lay cl 1 2 2).and (Rd.mach hGG xg raGT Lg)).B ∧ w.heap.size ≤ k)) (fun k _ => 2 - (intOf k).toNat)
  case atStart => exact ⟨0, _, _, by omega, rfl, HSA, HB0⟩
  case round =>
    clear HSA HB0
    obtain ⟨q, La, Lb, hq, rfl, HS, HLb⟩ := hrel
    by_cases hq9 : q < 2
    · have hSt := HS.out.step hGA HST.out.2.1 (fun Y h => by exact h.1.1) (fun k hk => List.mem_append_left _ (List.mem_append_left _ hk)) (by omega) (HLP.out q hq).1
      have hq1 : (q : Int) < 2 := by omega
      have hq0 : (0 : Int) ≤ (q : Int) := by omega
      clear HS
      go_wp2_with fail
      go_at_call 21; refine hSt.mono ?_; rintro e w6 ⟨rfl, La', hS'⟩
      have HLa : Hid (∀ k ∈ La', k ∉ ((Rd.lay cl 1 2 2).and (Rd.mach hGG xg raGT Lg)).B ∧ w.heap.size ≤ k) := hS'.apart
      have HS2 : Hid _ := Solo.swap hGA hGB hS' HLb.out
      have hSt2 := HS2.out.step hGB HST.out.2.2 (fun Y h => by exact h.1.1) (fun k hk => List.mem_append_left _ (List.mem_append_left _ hk)) (by omega) (HLP.out q hq).2
      clear hSt hS' HS2 HLb
      go_wp2_with fail
      go_at_call 21; refine hSt2.mono ?_; rintro e w7 ⟨rfl, Lb', hS'⟩
      have HLb' : Hid (∀ k ∈ Lb', k ∉ ((Rd.lay cl 1 2 2).and (Rd.mach hGG xg raGT Lg)).B ∧ w.heap.size ≤ k) := hS'.apart
      have HS3 : Hid (Solo ((ryCp 1 2 2 0 0 3 cl).I) (((Rd.lay cl 1 2 2).and (Rd.mach hGG xg raGT Lg)).and (Rd.mach hGB xb (raP (q + 1)).2.1 Lb')) w w7 A cap c b 294 (raP (q + 1)).2.2 xa (raP (q + 1)).1 La') := Solo.swap hGB hGA hS' HLa.out
      clear hSt2 hS' HLa
      go_wp2_with fail
      go_roundw
      case rel => exact ⟨q + 1, La', Lb', by omega, by go_num, HS3, HLb'⟩
      case measure => simp [intOf]; omega
    · obtain rfl : q = 2 := by omega
      clear HLP
      rw [show ((2 : Nat) : Int) = 2 from rfl]
      have HSC : Hid (Solo ((ryCp 1 2 2 0 0 3 cl).I) (((Rd.lay cl 1 2 2).and (Rd.mach hGG xg raGT Lg)).and (Rd.mach hGB xb raB2 Lb)) w wr A cap c b 294 (raA.steps 0 294 0 (raA2, raS2)).2 xa (raA.steps 0 294 0 (raA2, raS2)).1 La) := HS.out
      clear HS
      go_wp2_with fail
      have HLO : Hid (∀ q : Nat, q ≤ 30 → Low (raA.steps 0 294 q (raA2, raS2)).2 1000000) := ra_lowA0
      go_loopw [10] (fun k wi => ∃ (q : Nat) (L : List Nat), q ≤ 30 ∧ k = .int .i64 q ∧ Hid (Solo ((ryCp 1 2 2 0 0 3 cl).I) (((Rd.lay cl 1 2 2).and (Rd.mach hGG xg raGT Lg)).and (Rd.mach hGB xb raB2 Lb)) w wi A cap c b 294 (raA.steps 0 294 q (raA2, raS2)).2 xa (raA.steps 0 294 q (raA2, raS2)).1 L)) (fun k _ => 30 - (intOf k).toNat)
      case atStart => exact ⟨0, _, by omega, rfl, HSC⟩
      case round =>
        clear HSC
        obtain ⟨q, La, hq, rfl, HS⟩ := hrel
        by_cases hq9 : q < 30
        · have hSt := HS.out.step hGA HST.out.2.1 (fun Y h => by exact h.1.1) (fun k hk => List.mem_append_left _ (List.mem_append_left _ hk)) (by omega) (HLO.out q hq)
          rw [show raA.goS 0 294 (raA.steps 0 294 q (raA2, raS2)).1 (raA.steps 0 294 q (raA2, raS2)).2 = (raA.steps 0 294 (q + 1) (raA2, raS2)).2 by rw [PM.steps_succ], show raA.goT 294 (raA.steps 0 294 q (raA2, raS2)).1 (raA.steps 0 294 q (raA2, raS2)).2 = (raA.steps 0 294 (q + 1) (raA2, raS2)).1 by rw [PM.steps_succ]] at hSt
          have hq1 : (q : Int) < 30 := by omega
          have hq0 : (0 : Int) ≤ (q : Int) := by omega
          clear HS
          go_wp2_with fail
          go_at_call 21; refine hSt.mono ?_; rintro e w8 ⟨rfl, L', hS'⟩
          have HS' : Hid _ := hS'
          clear hSt hS'
          go_wp2_with fail
          go_roundw
          case rel => exact ⟨q + 1, L', by omega, by go_num, HS'⟩
          case measure => simp [intOf]; omega
        · obtain rfl : q = 30 := by omega
          clear HLO
          rw [show ((30 : Nat) : Int) = 30 from rfl]
          have HLa : Hid (∀ k ∈ La, k ∉ ((Rd.lay cl 1 2 2).and (Rd.mach hGG xg raGT Lg)).B ∧ w.heap.size ≤ k) := HS.out.apart
          have HSX : Hid (Solo ((ryCp 1 2 2 0 0 3 cl).I) (((Rd.lay cl 1 2 2).and (Rd.mach hGG xg raGT Lg)).and (Rd.mach hGB xb raB2 Lb)) w wr A cap c b 294 raSA xa raTA La) := ra_mk HS
          have HSY : Hid (Solo ((ryCp 1 2 2 1 0 1 cl).I) (((Rd.lay cl 1 2 2).and (Rd.mach hGG xg raGT Lg)).and (Rd.mach hGA xa raTA La)) w wr A cap c b 294 raSA xb raB2 Lb) := Solo.swap hGA hGB HSX.out HLb.out
          have HSD : Hid (Solo ((ryCp 1 2 2 1 0 1 cl).I) (((Rd.lay cl 1 2 2).and (Rd.mach hGG xg raGT Lg)).and (Rd.mach hGA xa raTA La)) w wr A cap c b 294 (raB.steps 1 294 0 (raB2, raSA)).2 xb (raB.steps 1 294 0 (raB2, raSA)).1 Lb) := ra_mkb HSY
          clear HSX HSY
          clear HS HLa HLb
          go_wp2_with fail
          have HLO : Hid (∀ q : Nat, q ≤ 30 → Low (raB.steps 1 294 q (raB2, raSA)).2 1000000) := ra_lowB0
          go_loopw [11] (fun k wi => ∃ (q : Nat) (L : List Nat), q ≤ 30 ∧ k = .int .i64 q ∧ Hid (Solo ((ryCp 1 2 2 1 0 1 cl).I) (((Rd.lay cl 1 2 2).and (Rd.mach hGG xg raGT Lg)).and (Rd.mach hGA xa raTA La)) w wi A cap c b 294 (raB.steps 1 294 q (raB2, raSA)).2 xb (raB.steps 1 294 q (raB2, raSA)).1 L)) (fun k _ => 30 - (intOf k).toNat)
          case atStart => exact ⟨0, _, by omega, rfl, HSD⟩
          case round =>
            clear HSD
            obtain ⟨q, Lb, hq, rfl, HS⟩ := hrel
            by_cases hq9 : q < 30
            · have hSt := HS.out.step hGB HST.out.2.2 (fun Y h => by exact h.1.1) (fun k hk => List.mem_append_left _ (List.mem_append_left _ hk)) (by omega) (HLO.out q hq)
              rw [show raB.goS 1 294 (raB.steps 1 294 q (raB2, raSA)).1 (raB.steps 1 294 q (raB2, raSA)).2 = (raB.steps 1 294 (q + 1) (raB2, raSA)).2 by rw [PM.steps_succ], show raB.goT 294 (raB.steps 1 294 q (raB2, raSA)).1 (raB.steps 1 294 q (raB2, raSA)).2 = (raB.steps 1 294 (q + 1) (raB2, raSA)).1 by rw [PM.steps_succ]] at hSt
              have hq1 : (q : Int) < 30 := by omega
              have hq0 : (0 : Int) ≤ (q : Int) := by omega
              clear HS
              go_wp2_with fail
              go_at_call 21; refine hSt.mono ?_; rintro e w8 ⟨rfl, L', hS'⟩
              have HS' : Hid _ := hS'
              clear hSt hS'
              go_wp2_with fail
              go_roundw
              case rel => exact ⟨q + 1, L', by omega, by go_num, HS'⟩
              case measure => simp [intOf]; omega
            · obtain rfl : q = 30 := by omega
              clear HLO
              rw [show ((30 : Nat) : Int) = 30 from rfl]
              have HS : Hid _ := ra_mk2 HS
              have HMB : Hid (∀ Y, Below wr.heap.size wr Y → ((ryCp 1 2 2 1 0 1 cl).I) Y xb raTB Lb) := fun Y hY => hGB.below HS.out.mach hY
              have HMA : Hid (∀ Y, Below wr.heap.size wr Y → ((ryCp 1 2 2 0 0 3 cl).I) Y xa raTA La) := fun Y hY => hGA.below HS.out.rd.2 hY
              have HMG : Hid (∀ Y, Below wr.heap.size wr Y → ((gvCp 1 2 2 0 0 1 2 cl).I) Y xg raGT Lg) := fun Y hY => hGG.below HS.out.rd.1.2 hY
              have hGs := rgs_any wr cl 1 2 2 0 A cap c b 294 raSB HS.out.rd.1.1 (by omega) (by omega) HS.out.mem (by omega)
              rw [ra_gs.1, ra_gs.2] at hGs
              have HBF : Hid (Below w.heap.size w wr) := HS.out.below
              clear HS
              go_wp2_with fail
              go_at_call 65; refine hGs.mono ?_; rintro e w9 ⟨vg, rfl, hv9, hb9⟩
              have HB9 : Hid (Below wr.heap.size wr w9) := hb9
              have HG9 : Hid (RI.SeesL w9 vg [1]) := hv9.sees
              have t0 : Calls Tryz.prog 28 #[.pointer (some ⟨xg, 0, none⟩)] w9 fun e w' => e = .returned (.bool true) ∧ w9 = w' := by
                have h := gv_tells_G (HMG.out w9 hb9)
                rw [ra_gv.2] at h
                exact h
              clear hGs hv9 hb9
              go_wp2_with fail
              go_at_call 28; refine t0.mono ?_; rintro e w10 ⟨rfl, rfl⟩
              clear t0
              have hS2 := RI.lsame_any (w9.alloc (.cells #[.int .i64 1] 3)) vg _ [1] (by decide) (HG9.out.below ((Below.refl _ _).alloc (Nat.le_refl _) _)) (lit1_sees w9 1)
              have HA9 : Hid (Below w9.heap.size w9 (w9.alloc (.cells #[.int .i64 1] 3))) := (Below.refl _ _).alloc (Nat.le_refl _) _
              go_wp2_with fail
              go_at_call 16; refine hS2.mono ?_; rintro e w11 ⟨rfl, hb11⟩
              have HB11 : Hid (Below wr.heap.size wr w11) := seq (seq HB9.out HA9.out) hb11
              have t1 : Calls Tryz.prog 14 #[.pointer (some ⟨xa, 0, none⟩)] w11 fun e w' => e = .returned (.bool true) ∧ w11 = w' := by
                obtain ⟨nx, hx1, hx2⟩ := hGA.next (HMA.out w11 HB11.out)
                rw [ra_a.1] at hx2
                rw [← hx2]
                exact done_rdy w11 xa nx hx1
              have t2 : Calls Tryz.prog 14 #[.pointer (some ⟨xb, 0, none⟩)] w11 fun e w' => e = .returned (.bool true) ∧ w11 = w' := by
                obtain ⟨nx, hx1, hx2⟩ := hGB.next (HMB.out w11 HB11.out)
                rw [ra_b.1] at hx2
                rw [← hx2]
                exact done_rdy w11 xb nx hx1
              have t3 : Calls Tryz.prog 15 #[.pointer (some ⟨xa, 0, none⟩)] w11 fun e w' => e = .returned (.int .i64 1) ∧ w11 = w' := by
                have h := ry_tells_G (HMA.out w11 HB11.out)
                rw [ra_a.2] at h
                exact h
              have t4 : Calls Tryz.prog 15 #[.pointer (some ⟨xb, 0, none⟩)] w11 fun e w' => e = .returned (.int .i64 (-1)) ∧ w11 = w' := by
                have h := ry_tells_G (HMB.out w11 HB11.out)
                rw [ra_b.2] at h
                exact h
              have HFF : Hid (Below w.heap.size w w11) := seq HBF.out HB11.out
              clear hS2 hb11 HA9 HB9 HG9 HB11 HMA HMB HMG HBF
              go_wp2_with fail
              go_at_call 14; refine t1.mono ?_; rintro e w12 ⟨rfl, rfl⟩
              clear t1
              go_wp2_with fail
              go_at_call 14; refine t2.mono ?_; rintro e w12 ⟨rfl, rfl⟩
              clear t2
              go_wp2_with fail
              go_at_call 15; refine t3.mono ?_; rintro e w12 ⟨rfl, rfl⟩
              clear t3
              go_wp2_with fail
              go_at_call 15; refine t4.mono ?_; rintro e w12 ⟨rfl, rfl⟩
              clear t4
              go_wp2_with fail
              go_ret
              exact ⟨rfl, HFF.out⟩
end Go.Proofs.YtfdpikkinlljlaaGreat
