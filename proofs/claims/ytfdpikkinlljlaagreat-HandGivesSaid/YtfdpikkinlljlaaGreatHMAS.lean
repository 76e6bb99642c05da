/- Handing over: the page's example. -/
import Derived.Test.YtfdpikkinlljlaaGreatHMAP
import Derived.Test.YtfdpikkinlljlaaGreatHMAN
import Derived.Test.YtfdpikkinlljlaaGreatHMAA
import Derived.Test.YtfdpikkinlljlaaGreatHMAB
import Derived.Test.YtfdpikkinlljlaaGreatHMAO
import Derived.Test.YtfdpikkinlljlaaGreatHMAC
namespace Go.Proofs.YtfdpikkinlljlaaGreat
open Go Go.RowKit
set_option linter.unusedVariables false
set_option maxRecDepth 100000
set_option linter.unusedSimpArgs false
set_option linter.unusedSectionVars false

/-- Handing a processor over, as plain data. -/
inductive HvT where
  | lk (l : LoT)
  | gs
  | sp
  | ip
  | sw
  | nd
  | acqP (a : AcqT)
  | acqS (a : AcqT)
  | acqL (a : AcqT)
  | gs2
  | ne
  | ad
  | nd2
  | runP (s : WsT)
  | ovP (s : WsT)
  | runS (s : WsT)
  | ovS (s : WsT)
  | put (q : IpT)
  | rel (q : IpT) (r : RelT)
  | ovR (q : IpT)
/-- The processor in its hand, and whether it counts by itself. -/
def HvT.holds (p : Int) : HvT → Int
  | .runP s => s.holds p
  | .ovP s => s.holds p
  | .runS s => s.holds p
  | .ovS s => s.holds p
  | .put q => q.obs p
  | .rel q _ => q.obs p
  | .ovR q => q.obs p
  | _ => p
def HvT.counts : HvT → Bool
  | .nd => true
  | .acqS _ => true
  | .nd2 => true
  | _ => false
def HvT.hasS : HvT → Bool
  | .runP _ => true
  | .ovP _ => true
  | .runS _ => true
  | .ovS _ => true
  | _ => false
def HvT.hasI : HvT → Bool
  | .put _ => true
  | .rel _ _ => true
  | .ovR _ => true
  | _ => false
def hvPM (P T who p : Int) : PM HvT where
  ax := fun
    | .lk l => (loPM P p).ax l
    | .gs => some (axLd 8)
    | .sp => some (axLd 13)
    | .ip => some (axLd 10)
    | .sw => some (axSw 13 0 1)
    | .nd => some (axSt 14 0)
    | .acqP a => (acqPM (wd 0 2 3 0 0) (wd 0 2 3 0 1) (wd 0 2 3 0 2) who).ax a
    | .acqS a => (acqPM (wd 0 2 3 0 0) (wd 0 2 3 0 1) (wd 0 2 3 0 2) who).ax a
    | .acqL a => (acqPM (wd 0 2 3 0 0) (wd 0 2 3 0 1) (wd 0 2 3 0 2) who).ax a
    | .gs2 => some (axLd 8)
    | .ne => some (axLd 14)
    | .ad => some (axAd 13 1)
    | .nd2 => some (axSt 14 0)
    | .runP s => (wsPM P T p false true).ax s
    | .ovP _ => none
    | .runS s => (wsPM P T p true true).ax s
    | .ovS _ => none
    | .put q => (ipPM P p).ax q
    | .rel _ r => (relPM (wd 0 2 3 0 1) (wd 0 2 3 0 2)).ax r
    | .ovR _ => none
  nx := fun
    | .lk l, v => if ((loPM P p).ax ((loPM P p).nx l v)).isSome = true then .lk ((loPM P p).nx l v) else if ((loPM P p).nx l v).e = true then .gs else .acqP .fresh
    | .gs, v => if v = 0 then .sp else .acqP .fresh
    | .sp, v => if v = 0 then .ip else .acqL .fresh
    | .ip, v => if v = 0 then .sw else .acqL .fresh
    | .sw, v => if v = 0 then .acqL .fresh else .nd
    | .nd, _ => .acqS .fresh
    | .acqP a, v => if ((acqPM (wd 0 2 3 0 0) (wd 0 2 3 0 1) (wd 0 2 3 0 2) who).ax ((acqPM (wd 0 2 3 0 0) (wd 0 2 3 0 1) (wd 0 2 3 0 2) who).nx a v)).isSome = true then .acqP ((acqPM (wd 0 2 3 0 0) (wd 0 2 3 0 1) (wd 0 2 3 0 2) who).nx a v) else .runP (.get .ld)
    | .acqS a, v => if ((acqPM (wd 0 2 3 0 0) (wd 0 2 3 0 1) (wd 0 2 3 0 2) who).ax ((acqPM (wd 0 2 3 0 0) (wd 0 2 3 0 1) (wd 0 2 3 0 2) who).nx a v)).isSome = true then .acqS ((acqPM (wd 0 2 3 0 0) (wd 0 2 3 0 1) (wd 0 2 3 0 2) who).nx a v) else .runS (.get .ld)
    | .acqL a, v => if ((acqPM (wd 0 2 3 0 0) (wd 0 2 3 0 1) (wd 0 2 3 0 2) who).ax ((acqPM (wd 0 2 3 0 0) (wd 0 2 3 0 1) (wd 0 2 3 0 2) who).nx a v)).isSome = true then .acqL ((acqPM (wd 0 2 3 0 0) (wd 0 2 3 0 1) (wd 0 2 3 0 2) who).nx a v) else .gs2
    | .gs2, v => if v = 0 then .ne else .runP (.get .ld)
    | .ne, v => if v = 0 then .put .m0 else .ad
    | .ad, _ => .nd2
    | .nd2, _ => .runS (.get .ld)
    | .runP s, v => if ((wsPM P T p false true).ax ((wsPM P T p false true).nx s v)).isSome = true then .runP ((wsPM P T p false true).nx s v) else .ovP ((wsPM P T p false true).nx s v)
    | .runS s, v => if ((wsPM P T p true true).ax ((wsPM P T p true true).nx s v)).isSome = true then .runS ((wsPM P T p true true).nx s v) else .ovS ((wsPM P T p true true).nx s v)
    | .put q, v => if ((ipPM P p).ax ((ipPM P p).nx q v)).isSome = true then .put ((ipPM P p).nx q v) else .rel ((ipPM P p).nx q v) .fresh
    | .rel q r, v => if ((relPM (wd 0 2 3 0 1) (wd 0 2 3 0 2)).ax ((relPM (wd 0 2 3 0 1) (wd 0 2 3 0 2)).nx r v)).isSome = true then .rel q ((relPM (wd 0 2 3 0 1) (wd 0 2 3 0 2)).nx r v) else .ovR q
    | s, _ => s
def hvExt (who P T G p : Int) (cl : Nat) (s : HvT) (es : List Nat) (w : World) (Le : List Nat) : Prop := match s with
  | .ovP s => (wsCp who P T G p false true cl).I w (es.getD 1 0) s Le
  | .ovS s => (wsCp who P T G p true true cl).I w (es.getD 1 0) s Le
  | .rel q _ => (ipFl who p cl).I (ipPM P p) w (es.getD 1 0) q Le
  | .ovR q => (ipFl who p cl).I (ipPM P p) w (es.getD 1 0) q Le
  | _ => Le = []
def hvAt (who p : Int) (cl : Nat) (s : HvT) (es : List Nat) (nx : Option Addr) : Array Value := hvCells who nx cl p (some ⟨es.getD 0 0, 0, none⟩) (if s.hasS = true then some ⟨es.getD 1 0, 0, none⟩ else none) (if s.hasI = true then some ⟨es.getD 1 0, 0, none⟩ else none) s.counts
def hvCp (who P T G p : Int) (cl : Nat) : Cp HvT where
  T := 156
  cells := hvAt who p cl
  kind := fun
    | .lk l => .run (hvLk who P T G p cl) l (.fn 99)
    | .gs => .acc (axLd 8) (.told 155)
    | .sp => .acc (axLd 13) (.told 191)
    | .ip => .acc (axLd 10) (.told 209)
    | .sw => .acc (axSw 13 0 1) (.swap 226)
    | .nd => .acc (axSt 14 0) (.untold 246)
    | .acqP a => .run (acqSub (wd 0 2 3 0 0) (wd 0 2 3 0 1) (wd 0 2 3 0 2) who) a (.fn 153)
    | .acqS a => .run (acqSub (wd 0 2 3 0 0) (wd 0 2 3 0 1) (wd 0 2 3 0 2) who) a (.fn 263)
    | .acqL a => .run (acqSub (wd 0 2 3 0 0) (wd 0 2 3 0 1) (wd 0 2 3 0 2) who) a (.fn 225)
    | .gs2 => .acc (axLd 8) (.told 244)
    | .ne => .acc (axLd 14) (.told 262)
    | .ad => .acc (axAd 13 1) (.told 278)
    | .nd2 => .acc (axSt 14 0) (.untold 263)
    | .runP s => .run (hvSt who P T G p false cl) s .nil
    | .ovP _ => .over
    | .runS s => .run (hvSt who P T G p true cl) s .nil
    | .ovS _ => .over
    | .put q => .run (hvIp who P T G p cl) q (.fn 289)
    | .rel _ r => .run (relSub (wd 0 2 3 0 1) (wd 0 2 3 0 2) who) r .nil
    | .ovR _ => .over
  ok := fun
    | .lk l => ((loPM P p).ax l).isSome = true
    | .acqP a => ((acqPM (wd 0 2 3 0 0) (wd 0 2 3 0 1) (wd 0 2 3 0 2) who).ax a).isSome = true
    | .acqS a => ((acqPM (wd 0 2 3 0 0) (wd 0 2 3 0 1) (wd 0 2 3 0 2) who).ax a).isSome = true
    | .acqL a => ((acqPM (wd 0 2 3 0 0) (wd 0 2 3 0 1) (wd 0 2 3 0 2) who).ax a).isSome = true
    | .runP s => ((wsPM P T p false true).ax s).isSome = true ∧ (wsCp who P T G p false true cl).ok s
    | .runS s => ((wsPM P T p true true).ax s).isSome = true ∧ (wsCp who P T G p true true cl).ok s
    | .put q => ((ipPM P p).ax q).isSome = true ∧ (ipFl who p cl).ok q
    | .rel _ r => ((relPM (wd 0 2 3 0 1) (wd 0 2 3 0 2)).ax r).isSome = true
    | _ => True
  ext := hvExt who P T G p cl
  tie := fun s es y => match s with
    | .lk _ => es.getD 0 0 = y
    | .runP _ => es.getD 1 0 = y
    | .runS _ => es.getD 1 0 = y
    | .put _ => es.getD 1 0 = y
    | _ => True
theorem ent_hv_judge : Ent 99 := fun args w => by kernel_rfl
theorem ent_hv_seek : Ent 155 := fun args w => by kernel_rfl
theorem ent_hv_consider : Ent 191 := fun args w => by kernel_rfl
theorem ent_hv_count : Ent 209 := fun args w => by kernel_rfl
theorem ent_hv_counted : Ent 226 := fun args w => by kernel_rfl
theorem ent_hv_acquireForSpinning : Ent 246 := fun args w => by kernel_rfl
theorem ent_hv_startPlain : Ent 153 := fun args w => by kernel_rfl
theorem ent_hv_startSpinning : Ent 263 := fun args w => by kernel_rfl
theorem ent_hv_loadAgain : Ent 225 := fun args w => by kernel_rfl
theorem ent_hv_judgeAgain : Ent 244 := fun args w => by kernel_rfl
theorem ent_hv_serve : Ent 262 := fun args w => by kernel_rfl
theorem ent_hv_served : Ent 278 := fun args w => by kernel_rfl
theorem ent_hv_release : Ent 289 := fun args w => by kernel_rfl
section
variable {who P T G p : Int} {cl : Nat}
theorem hv_on {s : HvT} {v : Int} {S : Sub} {q : S.τ} {af : After} (hp : 0 ≤ P ∧ P ≤ 64) (hT : 0 ≤ T ∧ T ≤ 65536) (hv : 0 ≤ v ∧ v ≤ 18446744073709551615) (hok : (hvCp who P T G p cl).ok s) (hk : (hvCp who P T G p cl).kind s = .run S q af) (hs : (S.M.ax (S.M.nx q v)).isSome = true) :
    (hvCp who P T G p cl).ok ((hvPM P T who p).nx s v) ∧ (hvCp who P T G p cl).kind ((hvPM P T who p).nx s v) = .run S (S.M.nx q v) af ∧ (∀ es, (hvCp who P T G p cl).cells ((hvPM P T who p).nx s v) es = (hvCp who P T G p cl).cells s es) ∧ (∀ es w Le, (hvCp who P T G p cl).ext s es w Le → (hvCp who P T G p cl).ext ((hvPM P T who p).nx s v) es w Le) ∧ (∀ es y, (hvCp who P T G p cl).tie s es y → (hvCp who P T G p cl).tie ((hvPM P T who p).nx s v) es y) := by
  cases s with
  | lk l =>
    cases hk
    have e : (hvPM P T who p).nx (.lk l) v = .lk ((loPM P p).nx l v) := if_pos hs
    rw [e]
    exact ⟨hs, rfl, fun _ => rfl, fun _ _ _ h => h, fun _ _ h => h⟩
  | acqP a =>
    cases hk
    have e : (hvPM P T who p).nx (.acqP a) v = .acqP ((acqPM (wd 0 2 3 0 0) (wd 0 2 3 0 1) (wd 0 2 3 0 2) who).nx a v) := if_pos hs
    rw [e]
    exact ⟨hs, rfl, fun _ => rfl, fun _ _ _ h => h, fun _ _ h => h⟩
  | acqS a =>
    cases hk
    have e : (hvPM P T who p).nx (.acqS a) v = .acqS ((acqPM (wd 0 2 3 0 0) (wd 0 2 3 0 1) (wd 0 2 3 0 2) who).nx a v) := if_pos hs
    rw [e]
    exact ⟨hs, rfl, fun _ => rfl, fun _ _ _ h => h, fun _ _ h => h⟩
  | acqL a =>
    cases hk
    have e : (hvPM P T who p).nx (.acqL a) v = .acqL ((acqPM (wd 0 2 3 0 0) (wd 0 2 3 0 1) (wd 0 2 3 0 2) who).nx a v) := if_pos hs
    rw [e]
    exact ⟨hs, rfl, fun _ => rfl, fun _ _ _ h => h, fun _ _ h => h⟩
  | runP s =>
    cases hk
    have e : (hvPM P T who p).nx (.runP s) v = .runP ((wsPM P T p false true).nx s v) := if_pos hs
    rw [e]
    obtain ⟨a, ha⟩ := Option.isSome_iff_exists.1 hok.1
    exact ⟨⟨hs, ws_ok_next hp hT hok.2 ha hv⟩, rfl, fun _ => rfl, fun _ _ _ h => h, fun _ _ h => h⟩
  | runS s =>
    cases hk
    have e : (hvPM P T who p).nx (.runS s) v = .runS ((wsPM P T p true true).nx s v) := if_pos hs
    rw [e]
    obtain ⟨a, ha⟩ := Option.isSome_iff_exists.1 hok.1
    exact ⟨⟨hs, ws_ok_next hp hT hok.2 ha hv⟩, rfl, fun _ => rfl, fun _ _ _ h => h, fun _ _ h => h⟩
  | put q =>
    cases hk
    have e : (hvPM P T who p).nx (.put q) v = .put ((ipPM P p).nx q v) := if_pos hs
    rw [e]
    obtain ⟨a, ha⟩ := Option.isSome_iff_exists.1 hok.1
    exact ⟨⟨hs, (ip_laws who P T G p cl hp hT).ok q a v hok.2 ha hv⟩, rfl, fun _ => rfl, fun _ _ _ h => h, fun _ _ h => h⟩
  | rel q r =>
    cases hk
    have e : (hvPM P T who p).nx (.rel q r) v = .rel q ((relPM (wd 0 2 3 0 1) (wd 0 2 3 0 2)).nx r v) := if_pos hs
    rw [e]
    exact ⟨hs, rfl, fun _ => rfl, fun _ _ _ h => h, fun _ _ h => h⟩
  | gs => cases hk
  | sp => cases hk
  | ip => cases hk
  | sw => cases hk
  | nd => cases hk
  | gs2 => cases hk
  | ne => cases hk
  | ad => cases hk
  | nd2 => cases hk
  | ovP _ => cases hk
  | ovS _ => cases hk
  | ovR _ => cases hk
set_option maxHeartbeats 8000000 in
theorem hv_laws (hw : 0 ≤ who ∧ who ≤ 1000000) (hp : 0 ≤ P ∧ P ≤ 64) (hT : 0 ≤ T ∧ T ≤ 65536) :
    (hvCp who P T G p cl).Laws (hvPM P T who p) (Rd.lay cl P T G) who where
  c0 := fun s es nx => rfl
  c1 := fun s es nx => rfl
  set := fun s es nx nx' => rfl
  k0 := fun s hok hk => by
    cases s <;> first | rfl | cases hk
  k1 := fun s a f hok hk => by
    cases s with
    | gs => cases hk; exact ⟨rfl, axLd_ok _, ent_hv_seek⟩
    | sp => cases hk; exact ⟨rfl, axLd_ok _, ent_hv_consider⟩
    | ip => cases hk; exact ⟨rfl, axLd_ok _, ent_hv_count⟩
    | sw => cases hk; exact ⟨rfl, axSw_ok _ _ _ (by omega), ent_hv_counted⟩
    | nd => cases hk; exact ⟨rfl, axSt_ok _ _ (by omega), ent_hv_acquireForSpinning⟩
    | gs2 => cases hk; exact ⟨rfl, axLd_ok _, ent_hv_judgeAgain⟩
    | ne => cases hk; exact ⟨rfl, axLd_ok _, ent_hv_serve⟩
    | ad => cases hk; exact ⟨rfl, axAd_ok _ _ (by omega), ent_hv_served⟩
    | nd2 => cases hk; exact ⟨rfl, axSt_ok _ _ (by omega), ent_hv_startSpinning⟩
    | _ => cases hk
  k2 := fun s S q af hok hk => by
    cases s with
    | lk l => cases hk; exact ⟨rfl, hok, ent_hv_judge, fun b => (lo_laws who P T G p cl hp).axok _ b trivial⟩
    | acqP a => cases hk; exact ⟨rfl, hok, ent_hv_startPlain, fun b => (acq_laws _ _ _ who hw).axok _ b trivial⟩
    | acqS a => cases hk; exact ⟨rfl, hok, ent_hv_startSpinning, fun b => (acq_laws _ _ _ who hw).axok _ b trivial⟩
    | acqL a => cases hk; exact ⟨rfl, hok, ent_hv_loadAgain, fun b => (acq_laws _ _ _ who hw).axok _ b trivial⟩
    | runP s => cases hk; exact ⟨rfl, hok.1, trivial, fun a ha => Cp.okax (ws_laws (G := G) (cl := cl) hw hp hT) hok.2 a ha⟩
    | runS s => cases hk; exact ⟨rfl, hok.1, trivial, fun a ha => Cp.okax (ws_laws (G := G) (cl := cl) hw hp hT) hok.2 a ha⟩
    | put q => cases hk; exact ⟨rfl, hok.1, ent_hv_release, fun a ha => (ip_laws who P T G p cl hp hT).axok _ a hok.2 ha⟩
    | rel q r => cases hk; exact ⟨rfl, hok, trivial, fun a => (rel_laws _ _ who).axok _ a trivial⟩
    | _ => cases hk
  sub := fun s S q af hok hk => by
    cases s with
    | lk l => cases hk; exact ⟨Fl.steps (lo_laws who P T G p cl hp) stepby_look, Fl.good (lo_laws who P T G p cl hp), act_look, fun w h => h, fun k h => h⟩
    | acqP a => cases hk; exact acqSub_ok _ _ _ who hw _
    | acqS a => cases hk; exact acqSub_ok _ _ _ who hw _
    | acqL a => cases hk; exact acqSub_ok _ _ _ who hw _
    | runP s => cases hk; exact ⟨Cp.steps (ws_laws hw hp hT) stepby_wst, Cp.good (ws_laws hw hp hT), act_wst, fun w h => h, fun k h => h⟩
    | runS s => cases hk; exact ⟨Cp.steps (ws_laws hw hp hT) stepby_wst, Cp.good (ws_laws hw hp hT), act_wst, fun w h => h, fun k h => h⟩
    | put q => cases hk; exact ⟨Fl.steps (ip_laws who P T G p cl hp hT) stepby_ipp, Fl.good (ip_laws who P T G p cl hp hT), act_ipp, fun w h => h, fun k h => h⟩
    | rel q r => cases hk; exact relSub_ok _ _ who _
    | _ => cases hk
  on := fun s S q af v hok hk hv hs => hv_on hp hT hv hok hk hs
  ns := fun s a f hk => by
    cases s <;> cases hk <;> rfl
  ekeep := fun s es w w' ll Le he hb hk => by
    cases s with
    | ovP s => exact (Cp.good (ws_laws hw hp hT)).keep he hb hk
    | ovS s => exact (Cp.good (ws_laws hw hp hT)).keep he hb hk
    | rel q r => exact (Fl.good (ip_laws who P T G p cl hp hT)).keep he hb hk
    | ovR q => exact (Fl.good (ip_laws who P T G p cl hp hT)).keep he hb hk
    | _ => exact he
  elt := fun s es w Le he k hk => by
    cases s with
    | ovP s => exact (Cp.good (ws_laws hw hp hT)).lt he k hk
    | ovS s => exact (Cp.good (ws_laws hw hp hT)).lt he k hk
    | rel q r => exact (Fl.good (ip_laws who P T G p cl hp hT)).lt he k hk
    | ovR q => exact (Fl.good (ip_laws who P T G p cl hp hT)).lt he k hk
    | _ => rw [show Le = [] from he] at hk; cases hk
  fol := fun W x s a f v es Le hok hk hv hB he hxe hR hxR => by
    have hlt := hB.lt
    have hcx : cl ≠ x := fun e => hxR (by rw [e]; exact List.mem_singleton.2 rfl)
    cases s with
    | gs =>
      cases hk
      obtain rfl : Le = [] := he
      by_cases h0 : v = 0
      · subst h0
        have e : (hvPM P T who p).nx .gs 0 = .sp := rfl
        rw [e]
        refine (hv_seek_no W x cl who p (some ⟨es.getD 0 0, 0, none⟩) none none none false hB ).mono ?_
        rintro e w' ⟨hu, hC⟩
        exact ⟨hu, Cp.lnd_acc (C := (hvCp who P T G p cl)) (s := .sp) (es := es) (Le' := []) hC (fun _ => rfl) trivial rfl hlt rfl (by simp) (fun k hk => by cases hk)⟩
      · have e : (hvPM P T who p).nx .gs v = .acqP .fresh := if_neg h0
        rw [e]
        refine (hv_seek_yes W x cl who p (some ⟨es.getD 0 0, 0, none⟩) none none none false hB v h0 hw).mono ?_
        rintro e w' ⟨hu, hC⟩
        exact ⟨hu, Cp.lnd_run (C := (hvCp who P T G p cl)) (S := (acqSub (wd 0 2 3 0 0) (wd 0 2 3 0 1) (wd 0 2 3 0 2) who)) (af := .fn 153) (pt := AcqT.fresh) (s := .acqP .fresh) (es := es) (Le' := []) hC (fun _ => rfl) rfl rfl (fun _ => trivial) hlt rfl (by simp) (fun k hk => by cases hk)⟩
    | sp =>
      cases hk
      obtain rfl : Le = [] := he
      by_cases h0 : v = 0
      · subst h0
        have e : (hvPM P T who p).nx .sp 0 = .ip := rfl
        rw [e]
        refine (hv_consider_no W x cl who p (some ⟨es.getD 0 0, 0, none⟩) none none none false hB ).mono ?_
        rintro e w' ⟨hu, hC⟩
        exact ⟨hu, Cp.lnd_acc (C := (hvCp who P T G p cl)) (s := .ip) (es := es) (Le' := []) hC (fun _ => rfl) trivial rfl hlt rfl (by simp) (fun k hk => by cases hk)⟩
      · have e : (hvPM P T who p).nx .sp v = .acqL .fresh := if_neg h0
        rw [e]
        refine (hv_consider_yes W x cl who p (some ⟨es.getD 0 0, 0, none⟩) none none none false hB v h0 hw).mono ?_
        rintro e w' ⟨hu, hC⟩
        exact ⟨hu, Cp.lnd_run (C := (hvCp who P T G p cl)) (S := (acqSub (wd 0 2 3 0 0) (wd 0 2 3 0 1) (wd 0 2 3 0 2) who)) (af := .fn 225) (pt := AcqT.fresh) (s := .acqL .fresh) (es := es) (Le' := []) hC (fun _ => rfl) rfl rfl (fun _ => trivial) hlt rfl (by simp) (fun k hk => by cases hk)⟩
    | ip =>
      cases hk
      obtain rfl : Le = [] := he
      by_cases h0 : v = 0
      · subst h0
        have e : (hvPM P T who p).nx .ip 0 = .sw := rfl
        rw [e]
        refine (hv_count_no W x cl who p (some ⟨es.getD 0 0, 0, none⟩) none none none false hB ).mono ?_
        rintro e w' ⟨hu, hC⟩
        exact ⟨hu, Cp.lnd_acc (C := (hvCp who P T G p cl)) (s := .sw) (es := es) (Le' := []) hC (fun _ => rfl) trivial rfl hlt rfl (by simp) (fun k hk => by cases hk)⟩
      · have e : (hvPM P T who p).nx .ip v = .acqL .fresh := if_neg h0
        rw [e]
        refine (hv_count_yes W x cl who p (some ⟨es.getD 0 0, 0, none⟩) none none none false hB v h0 hw).mono ?_
        rintro e w' ⟨hu, hC⟩
        exact ⟨hu, Cp.lnd_run (C := (hvCp who P T G p cl)) (S := (acqSub (wd 0 2 3 0 0) (wd 0 2 3 0 1) (wd 0 2 3 0 2) who)) (af := .fn 225) (pt := AcqT.fresh) (s := .acqL .fresh) (es := es) (Le' := []) hC (fun _ => rfl) rfl rfl (fun _ => trivial) hlt rfl (by simp) (fun k hk => by cases hk)⟩
    | sw =>
      cases hk
      obtain rfl : Le = [] := he
      by_cases h0 : v = 0
      · have e : (hvPM P T who p).nx .sw v = .acqL .fresh := if_pos h0
        rw [e]
        refine folC_sw false (decide_eq_false (fun h => h h0)) ((hv_counted_no W x cl who p (some ⟨es.getD 0 0, 0, none⟩) none none none false hB hw).mono ?_)
        rintro e w' ⟨hu, hC⟩
        exact ⟨hu, Cp.lnd_run (C := (hvCp who P T G p cl)) (S := (acqSub (wd 0 2 3 0 0) (wd 0 2 3 0 1) (wd 0 2 3 0 2) who)) (af := .fn 225) (pt := AcqT.fresh) (s := .acqL .fresh) (es := es) (Le' := []) hC (fun _ => rfl) rfl rfl (fun _ => trivial) hlt rfl (by simp) (fun k hk => by cases hk)⟩
      · have e : (hvPM P T who p).nx .sw v = .nd := if_neg h0
        rw [e]
        refine folC_sw true (decide_eq_true h0) ((hv_counted_yes W x cl who p (some ⟨es.getD 0 0, 0, none⟩) none none none false hB ).mono ?_)
        rintro e w' ⟨hu, hC⟩
        exact ⟨hu, Cp.lnd_acc (C := (hvCp who P T G p cl)) (s := .nd) (es := es) (Le' := []) hC (fun _ => rfl) trivial rfl hlt rfl (by simp) (fun k hk => by cases hk)⟩
    | nd =>
      cases hk
      obtain rfl : Le = [] := he
      have e : (hvPM P T who p).nx .nd v = .acqS .fresh := rfl
      rw [e]
      refine (hv_acquireForSpinning W x cl who p (some ⟨es.getD 0 0, 0, none⟩) none none none true hB hw).mono ?_
      rintro e w' ⟨hu, hC⟩
      exact ⟨hu, Cp.lnd_run (C := (hvCp who P T G p cl)) (S := (acqSub (wd 0 2 3 0 0) (wd 0 2 3 0 1) (wd 0 2 3 0 2) who)) (af := .fn 263) (pt := AcqT.fresh) (s := .acqS .fresh) (es := es) (Le' := []) hC (fun _ => rfl) rfl rfl (fun _ => trivial) hlt rfl (by simp) (fun k hk => by cases hk)⟩
    | gs2 =>
      cases hk
      obtain rfl : Le = [] := he
      by_cases h0 : v = 0
      · subst h0
        have e : (hvPM P T who p).nx .gs2 0 = .ne := rfl
        rw [e]
        refine (hv_judgeAgain_no W x cl who p (some ⟨es.getD 0 0, 0, none⟩) none none none false hB ).mono ?_
        rintro e w' ⟨hu, hC⟩
        exact ⟨hu, Cp.lnd_acc (C := (hvCp who P T G p cl)) (s := .ne) (es := es) (Le' := []) hC (fun _ => rfl) trivial rfl hlt rfl (by simp) (fun k hk => by cases hk)⟩
      · have e : (hvPM P T who p).nx .gs2 v = .runP (.get .ld) := if_neg h0
        rw [e]
        refine (hv_judgeAgain_yes W x cl who p (some ⟨es.getD 0 0, 0, none⟩) none none none false hB v h0 P T G hw hp hT).mono ?_
        rintro e w' ⟨hu, y1, q1, b, L, hC, hI, hL, hq, hg⟩
        exact ⟨hu, Cp.lnd_run0 (C := (hvCp who P T G p cl)) (S := (hvSt who P T G p false cl)) (af := .nil) (pt := WsT.get .ld) (s := .runP (.get .ld)) (es := [es.getD 0 0, y1]) (Le' := []) hC (fun _ => rfl) hI hL hq hg ⟨rfl, rfl, trivial⟩ rfl rfl hlt rfl (by simp) (fun k hk => by cases hk)⟩
    | ne =>
      cases hk
      obtain rfl : Le = [] := he
      by_cases h0 : v = 0
      · subst h0
        have e : (hvPM P T who p).nx .ne 0 = .put .m0 := rfl
        rw [e]
        refine (hv_serve_no W x cl who p (some ⟨es.getD 0 0, 0, none⟩) none none none false hB P T G hp hT).mono ?_
        rintro e w' ⟨hu, y1, q1, b, L, hC, hI, hL, hq, hg⟩
        exact ⟨hu, Cp.lnd_run0 (C := (hvCp who P T G p cl)) (S := (hvIp who P T G p cl)) (af := .fn 289) (pt := IpT.m0) (s := .put .m0) (es := [es.getD 0 0, y1]) (Le' := []) hC (fun _ => rfl) hI hL hq hg ⟨rfl, trivial⟩ rfl rfl hlt rfl (by simp) (fun k hk => by cases hk)⟩
      · have e : (hvPM P T who p).nx .ne v = .ad := if_neg h0
        rw [e]
        refine (hv_serve_yes W x cl who p (some ⟨es.getD 0 0, 0, none⟩) none none none false hB v h0).mono ?_
        rintro e w' ⟨hu, hC⟩
        exact ⟨hu, Cp.lnd_acc (C := (hvCp who P T G p cl)) (s := .ad) (es := es) (Le' := []) hC (fun _ => rfl) trivial rfl hlt rfl (by simp) (fun k hk => by cases hk)⟩
    | ad =>
      cases hk
      obtain rfl : Le = [] := he
      have e : (hvPM P T who p).nx .ad v = .nd2 := rfl
      rw [e]
      refine (hv_served W x cl who p (some ⟨es.getD 0 0, 0, none⟩) none none none false hB v).mono ?_
      rintro e w' ⟨hu, hC⟩
      exact ⟨hu, Cp.lnd_acc (C := (hvCp who P T G p cl)) (s := .nd2) (es := es) (Le' := []) hC (fun _ => rfl) trivial rfl hlt rfl (by simp) (fun k hk => by cases hk)⟩
    | nd2 =>
      cases hk
      obtain rfl : Le = [] := he
      have e : (hvPM P T who p).nx .nd2 v = .runS (.get .ld) := rfl
      rw [e]
      refine (hv_startSpinning W x cl who p (some ⟨es.getD 0 0, 0, none⟩) none none none true hB P T G hw hp hT).mono ?_
      rintro e w' ⟨hu, y1, q1, b, L, hC, hI, hL, hq, hg⟩
      exact ⟨hu, Cp.lnd_run0 (C := (hvCp who P T G p cl)) (S := (hvSt who P T G p true cl)) (af := .nil) (pt := WsT.get .ld) (s := .runS (.get .ld)) (es := [es.getD 0 0, y1]) (Le' := []) hC (fun _ => rfl) hI hL hq hg ⟨rfl, rfl, trivial⟩ rfl rfl hlt rfl (by simp) (fun k hk => by cases hk)⟩
    | _ => cases hk
  aft := fun W x y s S q af v es Le Li hok hk hv hn' hB hin hty he hxe hxi hdl hR hxR => by
    have hlt := hB.lt
    have hni : ∀ k ∈ Li, k ∉ [x] := fun k hk hm => by simp at hm; exact hxi (hm ▸ hk)
    cases s with
    | lk l =>
      cases hk
      obtain rfl : Le = [] := he
      obtain rfl : es.getD 0 0 = y := hty
      have hin' : (loFl who p cl).I (loPM P p) W (es.getD 0 0) ((loPM P p).nx l v) Li := hin
      have hE := lo_tells hin'
      by_cases h0 : ((loPM P p).nx l v).e = true
      · have e : (hvPM P T who p).nx (.lk l) v = .gs := (nx_off hn').trans (if_pos h0)
        rw [h0] at hE
        rw [e]
        refine (hv_judge_yes W x cl who p (some ⟨es.getD 0 0, 0, none⟩) none none none false hB _ rfl hE).mono ?_
        rintro e w' ⟨hu, hC⟩
        exact ⟨hu, Cp.lnd_acc (C := (hvCp who P T G p cl)) (s := .gs) (es := es) (Le' := []) hC (fun _ => rfl) trivial rfl hlt rfl (by simp) (fun k hk => by cases hk)⟩
      · have e : (hvPM P T who p).nx (.lk l) v = .acqP .fresh := (nx_off hn').trans (if_neg h0)
        rw [Bool.not_eq_true _ |>.mp h0] at hE
        rw [e]
        refine (hv_judge_no W x cl who p (some ⟨es.getD 0 0, 0, none⟩) none none none false hB hw _ rfl hE).mono ?_
        rintro e w' ⟨hu, hC⟩
        exact ⟨hu, Cp.lnd_run (C := (hvCp who P T G p cl)) (S := (acqSub (wd 0 2 3 0 0) (wd 0 2 3 0 1) (wd 0 2 3 0 2) who)) (af := .fn 153) (pt := AcqT.fresh) (s := .acqP .fresh) (es := es) (Le' := []) hC (fun _ => rfl) rfl rfl (fun _ => trivial) hlt rfl (by simp) (fun k hk => by cases hk)⟩
    | acqP a =>
      cases hk
      obtain rfl : Le = [] := he
      have e : (hvPM P T who p).nx (.acqP a) v = .runP (.get .ld) := nx_off hn'
      rw [e]
      refine (hv_startPlain W x cl who p (some ⟨es.getD 0 0, 0, none⟩) none none none false hB P T G hw hp hT).mono ?_
      rintro e w' ⟨hu, y1, q1, b, L, hC, hI, hL, hq, hg⟩
      exact ⟨hu, Cp.lnd_run0 (C := (hvCp who P T G p cl)) (S := (hvSt who P T G p false cl)) (af := .nil) (pt := WsT.get .ld) (s := .runP (.get .ld)) (es := [es.getD 0 0, y1]) (Le' := []) hC (fun _ => rfl) hI hL hq hg ⟨rfl, rfl, trivial⟩ rfl rfl hlt rfl (by simp) (fun k hk => by cases hk)⟩
    | acqS a =>
      cases hk
      obtain rfl : Le = [] := he
      have e : (hvPM P T who p).nx (.acqS a) v = .runS (.get .ld) := nx_off hn'
      rw [e]
      refine (hv_startSpinning W x cl who p (some ⟨es.getD 0 0, 0, none⟩) none none none true hB P T G hw hp hT).mono ?_
      rintro e w' ⟨hu, y1, q1, b, L, hC, hI, hL, hq, hg⟩
      exact ⟨hu, Cp.lnd_run0 (C := (hvCp who P T G p cl)) (S := (hvSt who P T G p true cl)) (af := .nil) (pt := WsT.get .ld) (s := .runS (.get .ld)) (es := [es.getD 0 0, y1]) (Le' := []) hC (fun _ => rfl) hI hL hq hg ⟨rfl, rfl, trivial⟩ rfl rfl hlt rfl (by simp) (fun k hk => by cases hk)⟩
    | acqL a =>
      cases hk
      obtain rfl : Le = [] := he
      have e : (hvPM P T who p).nx (.acqL a) v = .gs2 := nx_off hn'
      rw [e]
      refine (hv_loadAgain W x cl who p (some ⟨es.getD 0 0, 0, none⟩) none none none false hB ).mono ?_
      rintro e w' ⟨hu, hC⟩
      exact ⟨hu, Cp.lnd_acc (C := (hvCp who P T G p cl)) (s := .gs2) (es := es) (Le' := []) hC (fun _ => rfl) trivial rfl hlt rfl (by simp) (fun k hk => by cases hk)⟩
    | runP s =>
      cases hk
      obtain rfl : Le = [] := he
      obtain rfl : es.getD 1 0 = y := hty
      have hin' : (wsCp who P T G p false true cl).I W (es.getD 1 0) ((wsPM P T p false true).nx s v) Li := hin
      have e : (hvPM P T who p).nx (.runP s) v = .ovP ((wsPM P T p false true).nx s v) := nx_off hn'
      rw [e]
      exact Cp.lnd_over (C := (hvCp who P T G p cl)) (s := .ovP ((wsPM P T p false true).nx s v)) (es := es) (Le' := Li) hB (But.refl _ _) trivial rfl hin' hxi (fun k hk => List.mem_append_left _ hk)
    | runS s =>
      cases hk
      obtain rfl : Le = [] := he
      obtain rfl : es.getD 1 0 = y := hty
      have hin' : (wsCp who P T G p true true cl).I W (es.getD 1 0) ((wsPM P T p true true).nx s v) Li := hin
      have e : (hvPM P T who p).nx (.runS s) v = .ovS ((wsPM P T p true true).nx s v) := nx_off hn'
      rw [e]
      exact Cp.lnd_over (C := (hvCp who P T G p cl)) (s := .ovS ((wsPM P T p true true).nx s v)) (es := es) (Le' := Li) hB (But.refl _ _) trivial rfl hin' hxi (fun k hk => List.mem_append_left _ hk)
    | put q =>
      cases hk
      obtain rfl : Le = [] := he
      obtain rfl : es.getD 1 0 = y := hty
      have hin' : (ipFl who p cl).I (ipPM P p) W (es.getD 1 0) ((ipPM P p).nx q v) Li := hin
      have e : (hvPM P T who p).nx (.put q) v = .rel ((ipPM P p).nx q v) .fresh := nx_off hn'
      rw [e]
      refine (hv_release W x cl who p (some ⟨es.getD 0 0, 0, none⟩) none (some ⟨es.getD 1 0, 0, none⟩) none false hB).mono ?_
      rintro e w' ⟨hu, hC⟩
      exact ⟨hu, Cp.lnd_run (C := (hvCp who P T G p cl)) (S := (relSub (wd 0 2 3 0 1) (wd 0 2 3 0 2) who)) (af := .nil) (pt := RelT.fresh) (s := .rel ((ipPM P p).nx q v) .fresh) (es := es) (Le' := Li) hC (fun _ => rfl) rfl rfl (fun _ => trivial) hlt ((Fl.good (ip_laws who P T G p cl hp hT)).keep hin' hC.but hni) hxi (fun k hk => ⟨List.mem_append_left _ hk, (Fl.good (ip_laws who P T G p cl hp hT)).lt hin' k hk⟩)⟩
    | rel q r =>
      cases hk
      have e : (hvPM P T who p).nx (.rel q r) v = .ovR q := nx_off hn'
      rw [e]
      exact Cp.lnd_over (C := (hvCp who P T G p cl)) (s := .ovR q) (es := es) (Le' := Le) hB (But.refl _ _) trivial rfl he hxe (fun k hk => List.mem_append_right _ hk)
    | _ => cases hk
variable {w : World} {x : Nat} {s : HvT} {L : List Nat}
theorem hv_tells_P (h : (hvCp who P T G p cl).I w x s L) : Calls Tryz.prog 37 #[.pointer (some ⟨x, 0, none⟩)] w fun e w' => e = .returned (.int .i64 (s.holds p)) ∧ w = w' := by
  obtain ⟨-, es, Le, he, hxe, hH⟩ := h
  obtain ⟨nx, hB⟩ := Cp.blk' hH
  have hB' : Blk w x (hvAt who p cl s es nx) 156 := hB
  cases s with
  | runP s =>
    obtain ⟨q1, y, g1, Li, h1, h2, h3, -⟩ := hH
    obtain rfl : es.getD 1 0 = y := h3
    exact hv_holds_st w x cl who p _ _ _ nx _ hB' _ _ _ rfl rfl (ws_tells_P h2)
  | runS s =>
    obtain ⟨q1, y, g1, Li, h1, h2, h3, -⟩ := hH
    obtain rfl : es.getD 1 0 = y := h3
    exact hv_holds_st w x cl who p _ _ _ nx _ hB' _ _ _ rfl rfl (ws_tells_P h2)
  | ovP s => exact hv_holds_st w x cl who p _ _ _ nx _ hB' _ _ _ rfl rfl (ws_tells_P he)
  | ovS s => exact hv_holds_st w x cl who p _ _ _ nx _ hB' _ _ _ rfl rfl (ws_tells_P he)
  | put q =>
    obtain ⟨q1, y, g1, Li, h1, h2, h3, -⟩ := hH
    obtain rfl : es.getD 1 0 = y := h3
    exact hv_holds_id w x cl who p _ _ _ nx _ hB' _ _ _ rfl rfl rfl (ip_holds h2)
  | rel q r => exact hv_holds_id w x cl who p _ _ _ nx _ hB' _ _ _ rfl rfl rfl (ip_holds he)
  | ovR q => exact hv_holds_id w x cl who p _ _ _ nx _ hB' _ _ _ rfl rfl rfl (ip_holds he)
  | _ => exact hv_holds_p w x cl who p _ _ _ nx _ hB' _ rfl rfl rfl
theorem hv_tells_C (h : (hvCp who P T G p cl).I w x s L) : Calls Tryz.prog 38 #[.pointer (some ⟨x, 0, none⟩)] w fun e w' => e = .returned (.bool s.counts) ∧ w = w' := by
  obtain ⟨-, es, Le, he, hxe, hH⟩ := h
  obtain ⟨nx, hB⟩ := Cp.blk' hH
  have hB' : Blk w x (hvAt who p cl s es nx) 156 := hB
  exact hv_counts w x cl who p _ _ _ nx _ hB'
end
set_option maxHeartbeats 4000000 in
theorem hv_new (w : World) (cl : Nat) (who p P T G : Int) (hl : Lay w cl P T G) (hp : 0 ≤ P ∧ P ≤ 64) :
    Calls Tryz.prog 34 #[.pointer (some ⟨cl, 0, none⟩), .int .i64 who, .int .i64 p] w fun e w' => ∃ x L, e = .returned (.pointer (some ⟨x, 0, none⟩)) ∧ (hvCp who P T G p cl).I w' x (.lk .hd) L ∧ Below w.heap.size w w' ∧ (∀ k ∈ L, w.heap.size ≤ k) ∧ w.heap.size ≤ x := by
  have hN := lo_new w cl P T G who p hl hp
  have HG : Hid (((loFl who p cl).I (loPM P p)).Good (loPM P p)) := Fl.good (lo_laws who P T G p cl hp)
  clear hl hp
  go_enter Tryz.func34, Tryz.ntmps34
  go_wp2_with fail
  go_at_call 96; refine hN.mono ?_; rintro e w1 ⟨y, L, rfl, k1, k2, k3, k4⟩
  have hlL := HG.out.lt k1
  have hyL := hlL y (HG.out.mem k1)
  have hB := Blk.new w1 (hvCells 0 none cl p (some ⟨y, 0, none⟩) none none false) 156
  have hO := fof_any _ w1.heap.size _ 156 who hB (by simp [hvCells])
  have HH : Hid (Blk (w1.alloc (.cells (hvCells 0 none cl p (some ⟨y, 0, none⟩) none none false) 156)) w1.heap.size (hvCells 0 none cl p (some ⟨y, 0, none⟩) none none false) 156 ∧ (loFl who p cl).I (loPM P p) w1 y .hd L ∧ (∀ k ∈ L, w.heap.size ≤ k ∧ k < w1.heap.size) ∧ Below w.heap.size w w1 ∧ y < w1.heap.size ∧ w.heap.size ≤ w1.heap.size) := ⟨hB, k1, fun k hk => ⟨k3 k hk, hlL k hk⟩, k2, hyL, k2.size⟩
  clear hN hB k1 k2 k3 k4 hlL hyL
  unfold hvCells at hO
  go_wp2_with fail
  go_at_call 97; refine hO.mono ?_; rintro e w3 ⟨⟨v, rfl⟩, hw3⟩
  have h3 : Blk w3 w1.heap.size (hvCells who none cl p (some ⟨y, 0, none⟩) none none false) 156 := by rw [hw3]; exact HH.out.1.set 0 _
  have hB3 : But [w1.heap.size] w1 w3 := by rw [hw3]; exact ((But.refl _ w1).alloc _).set (g := w1.heap.size) (.inl (by simp)) 0 _
  have hI3 := HG.out.keep HH.out.2.1 hB3 (fun k hk => by have := (HH.out.2.2.1 k hk).2; simp; omega)
  have H3 : Hid (Blk w3 w1.heap.size (hvCells who none cl p (some ⟨y, 0, none⟩) none none false) 156 ∧ (loFl who p cl).I (loPM P p) w3 y .hd L ∧ Below w.heap.size w w3) := ⟨h3, hI3, HH.out.2.2.2.1.trans (hB3.below (by simpa using HH.out.2.2.2.2.2) HH.out.2.2.2.2.2)⟩
  have HK : Hid ((∀ k ∈ L, w.heap.size ≤ k ∧ k < w1.heap.size) ∧ y < w1.heap.size ∧ w.heap.size ≤ w1.heap.size) := ⟨HH.out.2.2.1, HH.out.2.2.2.2.1, HH.out.2.2.2.2.2⟩
  have hyx : y ≠ w1.heap.size := by have := HK.out.2.1; omega
  generalize w1.heap.size = x at *
  clear hO HH hw3 h3 hB3 hI3
  have hlt := H3.out.1.lt
  obtain ⟨a, ha⟩ : ∃ a, w3.cell? ⟨y, 1, none⟩ = some (.pointer (some a)) := by
    obtain ⟨nx, q1, q2⟩ := HG.out.next H3.out.2.1
    cases nx with
    | none => cases q2
    | some a => exact ⟨a, q1⟩
  have c4 := H3.out.1.cell 4 (v := .pointer (some ⟨y, 0, none⟩)) rfl
  have hf := frun_look w3.drew x y _ 156 (.func (.func 99) #[.pointer (some ⟨x, 0, none⟩)] #[]) a H3.out.1.drew (by simp [hvCells]) (.some _ _ _) hyx (by simpa using ha)
  clear ha
  go_wp2_with fail
  go_region_with (first | (go_at_call 98; refine hf.mono ?_; rintro e w5 ⟨⟨v, rfl⟩, q, g, hC⟩))
  all_goals
    have hlL := HG.out.lt H3.out.2.1
    have f1 : w3.heap.size ≤ q := hC.at'.fresh
    have f2 : w3.heap.size ≤ g := hC.fresh
    have hI6 := HG.out.keep H3.out.2.1 (((But.refl [x] w3).drew).trans hC.at'.but) (fun k hk => by have := HK.out.1 k hk; simp; omega)
    have hC6 := hC.before ((But.refl [x] w3).drew)
    have hF : Hid ((hvCp who P T G p cl).I w5 x (.lk .hd) (x :: q :: g :: (L ++ [])) ∧ Below w.heap.size w w5 ∧ ∀ k ∈ x :: q :: g :: (L ++ []), w.heap.size ≤ k) := by
      refine ⟨⟨rfl, [y], [], rfl, by simp, q, y, g, L, RunAt.of hC6 (fun nx => rfl), hI6, rfl, ?_, (fun hm => by have := hlL q hm; omega), (fun hm => by have := hlL g hm; omega), (fun k _ h => by cases h), rfl⟩, H3.out.2.2.trans (hC6.at'.but.below (by simp; exact HK.out.2.2) H3.out.2.2.size), fun k hk => ?_⟩
      · simp only [List.mem_cons, not_or]
        exact ⟨by omega, by omega, fun hm => by have := (HK.out.1 x hm).2; omega⟩
      · have := HK.out.2.2
        have := H3.out.2.2.size
        simp at hk
        rcases hk with rfl | rfl | rfl | hk
        · omega
        · omega
        · omega
        · exact (HK.out.1 k hk).1
    have hxw : Hid (w.heap.size ≤ x) := HK.out.2.2
    clear hf hC hC6 hI6 c4 HG hlL f1 f2 HK H3
    go_wp2_with fail
    go_ret
    exact ⟨x, _, rfl, hF.out.1, hF.out.2.1, hF.out.2.2, hxw.out⟩
end Go.Proofs.YtfdpikkinlljlaaGreat

namespace Go.Proofs.YtfdpikkinlljlaaGreat
open Go Go.RowKit
set_option linter.unusedVariables false
set_option maxRecDepth 100000
set_option linter.unusedSimpArgs false

def haA (i : Nat) : Int := if i = 0 then 15 else if i = 1 then 22 else 28
def haV (i : Nat) : Int := if i = 2 then 4 else 1
def haM : PM HvT := hvPM 1 2 2 0
def haS0 : St := fresh (putF haA haV 298 3)
def haS : St := (haM.steps 2 298 30 (.lk .hd, haS0)).2
def haT : HvT := (haM.steps 2 298 30 (.lk .hd, haS0)).1
theorem ha_done : (haM.ax haT).isNone = true := by decide +kernel
theorem ha_holds : haT.holds 0 = -1 := by decide +kernel
theorem ha_given : peekT 298 haS (wd (20 + 1 * 264) 2 3 1 1) = 1 := by decide +kernel

set_option maxHeartbeats 8000000 in
theorem hand_awake (w : World) : Calls Tryz.prog 33 #[] w fun e w' => e = .returned (.bool true) ∧ Below w.heap.size w w' := by
  have hX1 := Blk.new w #[.int .i64 15, .int .u64 1, .int .i64 22, .int .u64 1, .int .i64 28, .int .u64 4] 80
  have hb1 : Below w.heap.size w (w.alloc (.cells #[.int .i64 15, .int .u64 1, .int .i64 22, .int .u64 1, .int .i64 28, .int .u64 4] 80)) := (Below.refl _ _).alloc (Nat.le_refl _) _
  have hb2 : Below w.heap.size w (w.alloc (.cells #[.int .i64 15, .int .u64 1, .int .i64 22, .int .u64 1, .int .i64 28, .int .u64 4] 80)) := hb1
  have hX : Blk (w.alloc (.cells #[.int .i64 15, .int .u64 1, .int .i64 22, .int .u64 1, .int .i64 28, .int .u64 4] 80)) w.heap.size #[.int .i64 15, .int .u64 1, .int .i64 22, .int .u64 1, .int .i64 28, .int .u64 4] 80 := hX1
  have hL := lay_some 1 2 4 (some ⟨w.heap.size, 0, none⟩) 3 3 298 haA haV (w.alloc (.cells #[.int .i64 15, .int .u64 1, .int .i64 22, .int .u64 1, .int .i64 28, .int .u64 4] 80)) (by omega) ⟨⟨by omega⟩, by omega, by omega, by omega⟩ (by omega) (fun _ => ⟨w.heap.size, 0, rfl, hX.lt, fun j hj => by
    rcases (by omega : j = 0 ∨ j = 1 ∨ j = 2) with rfl | rfl | rfl
    · exact ⟨hX.cell 0 rfl, hX.cell 1 rfl⟩
    · exact ⟨hX.cell 2 rfl, hX.cell 3 rfl⟩
    · exact ⟨hX.cell 4 rfl, hX.cell 5 rfl⟩⟩) (fun i hi => by unfold haV; split <;> omega)
  have HB0 : Hid (Below w.heap.size w (w.alloc (.cells #[.int .i64 15, .int .u64 1, .int .i64 22, .int .u64 1, .int .i64 28, .int .u64 4] 80))) := hb2
  clear hX1 hb1 hb2 hX
  go_enter Tryz.func33, Tryz.ntmps33
  go_wp2_with fail
  generalize (w.alloc (.cells #[.int .i64 15, .int .u64 1, .int .i64 22, .int .u64 1, .int .i64 28, .int .u64 4] 80)) = W at *
  go_at_call 9; refine hL.mono ?_; rintro e w1 ⟨cl, A, A', cap, cap', c, b, c', b', rfl, hLd⟩
  have hszW := HB0.out.size
  have HB1 : Hid (Below w.heap.size w w1) := HB0.out.trans (hLd.below.mono hszW)
  have HI1 : Hid (Is w1 141 A cap c b 298 haS0) := hLd.two.m
  have HY1 : Hid (Lay w1 cl 1 2 4) := hLd.lay
  have hne : Hid (cl ≠ c ∧ cl ≠ b) := lay_ne hLd.lay (by decide) hLd.two.m (by omega)
  have hup : Hid (w.heap.size ≤ c ∧ w.heap.size ≤ b) := ⟨by have := hLd.up.2.1; omega, by have := hLd.up.2.2.1; omega⟩
  have hLM : (hvCp 2 1 2 4 0 cl).Laws (hvPM 1 2 2 0) (Rd.lay cl 1 2 4) 2 := hv_laws (by omega) (by omega) (by omega)
  have hGM : ((hvCp 2 1 2 4 0 cl).I).Good haM := Cp.good hLM
  have HST : Hid (Steps haM ((hvCp 2 1 2 4 0 cl).I) (Rd.lay cl 1 2 4) 39 2) := Cp.steps hLM stepby_over
  have HRF : Hid (c ∉ ((Rd.lay cl 1 2 4)).B ∧ b ∉ ((Rd.lay cl 1 2 4)).B) := ⟨fun h => hne.out.1 (List.mem_singleton.1 h).symm, fun h => hne.out.2 (List.mem_singleton.1 h).symm⟩
  have hN := hv_new w1 cl 2 0 1 2 4 hLd.lay (by omega)
  clear hL hLd hne hszW HB0 hLM
  go_wp2_with fail
  go_at_call 34; refine hN.mono ?_; rintro e w2 ⟨x, L, rfl, ha1, ha2, ha3, -⟩
  have HSA : Hid (Solo ((hvCp 2 1 2 4 0 cl).I) (Rd.lay cl 1 2 4) w w2 A cap c b 298 (haM.steps 2 298 0 (.lk .hd, haS0)).2 x (haM.steps 2 298 0 (.lk .hd, haS0)).1 L) := Solo.begin HI1.out ha2 HB1.out hup.out ha1 ha3 HY1.out (fun k hk => by obtain rfl : k = cl := List.mem_singleton.1 hk; exact HY1.out.lt) HRF.out
  clear hN ha1 ha2 ha3 HI1 HY1 HB1
  go_wp2_with fail
  have HLO : Hid (∀ q : Nat, q ≤ 30 → Low (haM.steps 2 298 q (.lk .hd, haS0)).2 1000000) := fun q hq => (PM.steps_low haM 2 298 q (.lk .hd, haS0) (low_fresh _)).more (by omega)
  go_loopw [6] (fun k wi => ∃ (q : Nat) (L : List Nat), q ≤ 30 ∧ k = .int .i64 q ∧ Hid (Solo ((hvCp 2 1 2 4 0 cl).I) (Rd.lay cl 1 2 4) w wi A cap c b 298 (haM.steps 2 298 q (.lk .hd, haS0)).2 x (haM.steps 2 298 q (.lk .hd, haS0)).1 L)) (fun k _ => 30 - (intOf k).toNat)
  case atStart => exact ⟨0, _, by omega, rfl, HSA⟩
  case round =>
    clear HSA
    obtain ⟨q, L, hq, rfl, HS⟩ := hrel
    by_cases hq9 : q < 30
    · have hSt := HS.out.step hGM HST.out (fun Y h => h) (fun k hk => hk) (by omega) (HLO.out q hq)
      rw [show haM.goS 2 298 (haM.steps 2 298 q (.lk .hd, haS0)).1 (haM.steps 2 298 q (.lk .hd, haS0)).2 = (haM.steps 2 298 (q + 1) (.lk .hd, haS0)).2 by rw [PM.steps_succ], show haM.goT 298 (haM.steps 2 298 q (.lk .hd, haS0)).1 (haM.steps 2 298 q (.lk .hd, haS0)).2 = (haM.steps 2 298 (q + 1) (.lk .hd, haS0)).1 by rw [PM.steps_succ]] at hSt
      have hq1 : (q : Int) < 30 := by omega
      have hq0 : (0 : Int) ≤ (q : Int) := by omega
      clear HS
      go_wp2_with fail
      go_at_call 39; refine hSt.mono ?_; rintro e w4 ⟨rfl, L', hS'⟩
      have HS' : Hid _ := hS'
      clear hSt hS'
      go_wp2_with fail
      go_roundw
      case rel => exact ⟨q + 1, L', by omega, by go_num, HS'⟩
      case measure => simp [intOf]; omega
    · obtain rfl : q = 30 := by omega
      clear HLO
      rw [show ((30 : Nat) : Int) = 30 from rfl]
      have HI6 : Hid (Is wr 141 A cap c b 298 haS) := HS.out.mem
      have HMX : Hid (∀ Y, Below wr.heap.size wr Y → ((hvCp 2 1 2 4 0 cl).I) Y x haT L) := fun Y hY => hGM.below HS.out.mach hY
      have HBF : Hid (Below w.heap.size w wr) := HS.out.below
      have hT1 := lthr_any (some ⟨cl, 0, none⟩) 1 2 4 1 1 wr (.some cl HS.out.rd) (by omega) (by omega)
      clear HS
      go_wp2_with fail
      go_at_call 44; refine hT1.mono ?_; rintro e w4 ⟨rfl, hb4⟩
      have HB4 : Hid (Below wr.heap.size wr w4) := hb4
      have hP1 := peek_any w4 A cap c b 298 haS (wd (20 + 1 * 264) 2 3 1 1) (HI6.out.below hb4) (by omega)
      rw [ha_given] at hP1
      clear hT1 hb4
      go_wp2_with fail
      go_at_call 43; refine hP1.mono ?_; rintro e w5 ⟨rfl, rfl⟩
      clear hP1
      have hGv := wk_given w4 1 (by omega)
      rw [show ((1 : Int) % 4294967296 - 1) = 0 from rfl, show decide ((4294967296 : Int) ≤ 1) = false from rfl] at hGv
      go_wp2_with fail
      go_at_call 45; refine hGv.mono ?_; rintro e w5 ⟨rfl, rfl⟩
      clear hGv
      have HM4 : Hid _ := HMX.out w4 HB4.out
      have hD : Calls Tryz.prog 36 #[.pointer (some ⟨x, 0, none⟩)] w4 fun e w' => e = .returned (.bool true) ∧ w4 = w' := by
        obtain ⟨nx, q1, q2⟩ := hGM.next HM4.out
        rw [ha_done] at q2
        rw [← q2]
        exact done_over w4 x nx q1
      have hH := hv_tells_P HM4.out
      rw [ha_holds] at hH
      have HFF : Hid (Below w.heap.size w w4) := seq HBF.out HB4.out
      clear HB4 HBF HMX HI6 HM4
      go_wp2_with fail
      go_at_call 36; refine hD.mono ?_; rintro e w7 ⟨rfl, rfl⟩
      clear hD
      go_wp2_with fail
      go_at_call 37; refine hH.mono ?_; rintro e w7 ⟨rfl, rfl⟩
      clear hH
      go_wp2_with fail
      go_ret
      exact ⟨rfl, HFF.out⟩
end Go.Proofs.YtfdpikkinlljlaaGreat
