/- Coming to rest: Rest as plain data, and in memory. -/
import Derived.Test.YthbgoakaijeemaaGreatRs4
import Derived.Test.YthbgoakaijeemaaGreatRs5
namespace Go.Proofs.YthbgoakaijeemaaGreat
open Go Go.RowKit
set_option linter.unusedVariables false
set_option maxRecDepth 100000
set_option linter.unusedSimpArgs false

section
variable (w : World) (x cl : Nat) (who : Int) (pr sp na nx : Option Addr) (h : Blk w x (reCells who nx cl pr sp na) 160)
include h
theorem re_P_proc (v : Int) (hn : na = none) (hP : Calls Tryz.prog 98 #[.pointer pr] w fun e w' => e = .returned (.int .i64 v) ∧ w = w') :
    Calls Tryz.prog 53 #[.pointer (some ⟨x, 0, none⟩)] w fun e w' => e = .returned (.int .i64 v) ∧ w = w' := by
  subst hn
  have c3 := h.cell 3 (v := .pointer pr) rfl
  have c5 := h.cell 5 (v := .pointer none) rfl
  clear h
  go_enter Tryz.func53, Tryz.ntmps53
  go_wp2_with fail
  go_at_call 98; refine hP.mono ?_; rintro e w1 ⟨rfl, rfl⟩
  clear hP
  go_wp2_with fail
  go_ret
  exact ⟨rfl, rfl⟩
theorem re_P_nap (y : Nat) (v : Int) (hn : na = some ⟨y, 0, none⟩) (hP : Calls Tryz.prog 46 #[.pointer (some ⟨y, 0, none⟩)] w fun e w' => e = .returned (.int .i64 v) ∧ w = w') :
    Calls Tryz.prog 53 #[.pointer (some ⟨x, 0, none⟩)] w fun e w' => e = .returned (.int .i64 v) ∧ w = w' := by
  subst hn
  have c5 := h.cell 5 (v := .pointer (some ⟨y, 0, none⟩)) rfl
  clear h
  go_enter Tryz.func53, Tryz.ntmps53
  go_wp2_with fail
  go_at_call 46; refine hP.mono ?_; rintro e w1 ⟨rfl, rfl⟩
  clear hP
  go_wp2_with fail
  go_ret
  exact ⟨rfl, rfl⟩
theorem re_S (a b : Bool) (hN : Calls Tryz.prog 47 #[.pointer na] w fun e w' => e = .returned (.bool a) ∧ w = w') (hS : Calls Tryz.prog 51 #[.pointer sp] w fun e w' => e = .returned (.bool b) ∧ w = w') :
    Calls Tryz.prog 54 #[.pointer (some ⟨x, 0, none⟩)] w fun e w' => e = .returned (.bool (a || b)) ∧ w = w' := by
  have c4 := h.cell 4 (v := .pointer sp) rfl
  have c5 := h.cell 5 (v := .pointer na) rfl
  clear h
  cases a with
  | true =>
    clear hS
    go_enter Tryz.func54, Tryz.ntmps54
    go_wp2_with fail
    go_at_call 47; refine hN.mono ?_; rintro e w1 ⟨rfl, rfl⟩
    clear hN
    go_wp2_with fail
    go_ret
    exact ⟨rfl, rfl⟩
  | false =>
    go_enter Tryz.func54, Tryz.ntmps54
    go_wp2_with fail
    go_at_call 47; refine hN.mono ?_; rintro e w1 ⟨rfl, rfl⟩
    clear hN
    go_wp2_with fail
    go_at_call 51; refine hS.mono ?_; rintro e w1 ⟨rfl, rfl⟩
    clear hS
    go_wp2_with fail
    go_ret
    exact ⟨rfl, rfl⟩
end
theorem re_P_nil (w : World) : Calls Tryz.prog 53 #[.pointer none] w fun e w' => e = .returned (.int .i64 (-1)) ∧ w = w' := by
  go_enter Tryz.func53, Tryz.ntmps53
  go_wp2_with fail
  go_ret
  exact ⟨rfl, rfl⟩
theorem re_S_nil (w : World) : Calls Tryz.prog 54 #[.pointer none] w fun e w' => e = .returned (.bool false) ∧ w = w' := by
  go_enter Tryz.func54, Tryz.ntmps54
  go_wp2_with fail
  go_ret
  exact ⟨rfl, rfl⟩
set_option maxHeartbeats 2000000 in
theorem re_new (w : World) (cl : Nat) (t : Int) :
    Calls Tryz.prog 58 #[.pointer (some ⟨cl, 0, none⟩), .int .i64 t] w fun e w' => ∃ x V, e = .returned (.pointer (some ⟨x, 0, none⟩)) ∧ ((0 ≤ t ∧ t ≤ 1000000) → RunNew (acqSub (wd 0 2 3 0 0) (wd 0 2 3 0 1) (wd 0 2 3 0 2) t) AcqT.fresh V w' x (reCells t none cl none none none) 160 (.func (.func 114) #[.pointer (some ⟨x, 0, none⟩)] #[])) ∧ Below w.heap.size w w' ∧ w.heap.size ≤ x ∧ w.heap.size ≤ V.heap.size ∧ x < V.heap.size := by
  have hB := Blk.new w #[.int .i64 0, .pointer none, .pointer none, .pointer none, .pointer none, .pointer none] 160
  have hb : Below w.heap.size w (w.alloc (.cells #[.int .i64 0, .pointer none, .pointer none, .pointer none, .pointer none, .pointer none] 160)) := (Below.refl _ _).alloc (Nat.le_refl _) _
  have hO := rs_of _ w.heap.size cl t _ (reCells t none cl none none none) 160 hB (by simp) rfl
  have HH : Hid (Below w.heap.size w (w.alloc (.cells #[.int .i64 0, .pointer none, .pointer none, .pointer none, .pointer none, .pointer none] 160))) := hb
  have hsz := World.size_alloc w (.cells #[.int .i64 0, .pointer none, .pointer none, .pointer none, .pointer none, .pointer none] 160)
  clear hB hb
  go_enter Tryz.func58, Tryz.ntmps58
  go_wp2_with fail
  go_at_call 108; refine hO.mono ?_; rintro e w1 ⟨⟨v, rfl⟩, h1, h2, h3⟩
  have hb1 : Hid (Below w.heap.size w w1) := HH.out.trans (h2.below (by simp) (by rw [hsz]; omega))
  have hlt := h1.lt
  have HX : Hid (Blk w1 w.heap.size (reCells t none cl none none none) 160) := h1
  have hN2 := lock_fresh w1.drew cl 0 t
  clear hO h1 h2 h3 HH hsz
  go_wp2_with fail
  go_region_with (first | (go_at_call 113; refine hN2.mono ?_; rintro e w4 ⟨y, L, rfl, k1, k4, k5, k6, a, k7⟩; have hB4 : But [w.heap.size] w1 w4 := ((But.refl [w.heap.size] w1).drew).trans (But.of_below k4); have hf := frun_acq w4 w.heap.size y _ 160 (.func (.func 114) #[.pointer (some ⟨w.heap.size, 0, none⟩)] #[]) a (HX.out.but (But.of_below (l := []) (show Below w1.heap.size w1 w4 from (Below.refl _ _).drew.trans k4)) (by simp)) (by simp [reCells]) (.some _ _ _) (by have : w1.heap.size ≤ y := k5; omega) k7) | (go_at_call 70; refine hf.mono ?_; rintro e w5 ⟨⟨v, rfl⟩, q, g, hC⟩))
  all_goals
    have k6' : ∀ k ∈ L, w1.heap.size ≤ k := k6
    have hF : Hid (((0 ≤ t ∧ t ≤ 1000000) → RunNew (acqSub (wd 0 2 3 0 0) (wd 0 2 3 0 1) (wd 0 2 3 0 2) t) AcqT.fresh w1 w5 w.heap.size (reCells t none cl none none none) 160 (.func (.func 114) #[.pointer (some ⟨w.heap.size, 0, none⟩)] #[])) ∧ Below w.heap.size w w5) := ⟨fun hw => RunNew.mk (S := acqSub (wd 0 2 3 0 0) (wd 0 2 3 0 1) (wd 0 2 3 0 2) t) (W := w1) (Fl.good (acq_laws _ _ _ t hw)) k1 k6' hlt hB4 hC, hb1.out.trans ((hB4.trans hC.at'.but).below (by simp) hb1.out.size)⟩
    have hle := hb1.out.size
    clear hN2 hf k1 k4 k5 k6 k6' k7 hC hB4 HX
    go_wp2_with fail
    go_ret
    exact ⟨w.heap.size, w1, rfl, hF.out.1, hF.out.2, Nat.le_refl _, hle, hlt⟩
end Go.Proofs.YthbgoakaijeemaaGreat

namespace Go.Proofs.YthbgoakaijeemaaGreat
open Go Go.RowKit
set_option linter.unusedVariables false
set_option maxRecDepth 100000
set_option linter.unusedSimpArgs false

/-- Coming to rest, as plain data: q is what the processor's machine is in. -/
inductive ReT where
  | acq (a : AcqT)
  | ld
  | get (q : IgT)
  | spn (q : IgT) (s : SpT)
  | rel1 (q : IgT) (r : RelT)
  | run (q : IgT)
  | done1 (q : IgT)
  | lie (q : Option IgT) (m : ImT)
  | rel2 (q : Option IgT) (r : RelT)
  | nap (q : Option IgT) (n : NaT)
def ReT.pr : ReT → Option IgT
  | .get q => some q
  | .spn q _ => some q
  | .rel1 q _ => some q
  | .run q => some q
  | .done1 q => some q
  | .lie q _ => q
  | .rel2 q _ => q
  | .nap q _ => q
  | _ => none
def ReT.sp : ReT → Option SpT
  | .spn _ s => some s
  | .rel1 _ _ => some .over
  | .run _ => some .over
  | .done1 _ => some .over
  | _ => none
def ReT.na : ReT → Option NaT
  | .nap _ n => some n
  | _ => none
def igO (q : Option IgT) : Int := match q with
  | some q => q.obs
  | none => -1
/-- The processor in its hand, and whether it spins. -/
def ReT.p (s : ReT) : Int := match s.na with
  | some n => n.p
  | none => igO s.pr
def ReT.spins (s : ReT) : Bool := (match s.na with
  | some n => n.spins
  | none => false) || (match s.sp with
  | some c => c.counts
  | none => false)
def rePM (P T t : Int) : PM ReT where
  ax := fun
    | .acq a => (acqPM (wd 0 2 3 0 0) (wd 0 2 3 0 1) (wd 0 2 3 0 2) t).ax a
    | .ld => some (axLd 14)
    | .get q => (igPM P).ax q
    | .spn _ s => spPM.ax s
    | .rel1 _ r => (relPM (wd 0 2 3 0 1) (wd 0 2 3 0 2)).ax r
    | .run q => some (axSt (wd 20 P 264 q.obs 0) 1)
    | .done1 _ => none
    | .lie _ m => (imPM P T t).ax m
    | .rel2 _ r => (relPM (wd 0 2 3 0 1) (wd 0 2 3 0 2)).ax r
    | .nap _ n => (naPM P T t).ax n
  nx := fun
    | .acq a, v => if ((acqPM (wd 0 2 3 0 0) (wd 0 2 3 0 1) (wd 0 2 3 0 2) t).ax ((acqPM (wd 0 2 3 0 0) (wd 0 2 3 0 1) (wd 0 2 3 0 2) t).nx a v)).isSome = true then .acq ((acqPM (wd 0 2 3 0 0) (wd 0 2 3 0 1) (wd 0 2 3 0 2) t).nx a v) else .ld
    | .ld, v => if v = 0 then .lie none .h0 else .get .ld
    | .get q, v => if ((igPM P).ax ((igPM P).nx q v)).isSome = true then .get ((igPM P).nx q v) else if ((igPM P).nx q v).obs = -1 then .lie (some ((igPM P).nx q v)) .h0 else .spn ((igPM P).nx q v) .ad
    | .spn q s, v => if (spPM.ax (spPM.nx s v)).isSome = true then .spn q (spPM.nx s v) else .rel1 q .fresh
    | .rel1 q r, v => if ((relPM (wd 0 2 3 0 1) (wd 0 2 3 0 2)).ax ((relPM (wd 0 2 3 0 1) (wd 0 2 3 0 2)).nx r v)).isSome = true then .rel1 q ((relPM (wd 0 2 3 0 1) (wd 0 2 3 0 2)).nx r v) else .run q
    | .run q, _ => .done1 q
    | .done1 q, _ => .done1 q
    | .lie q m, v => if ((imPM P T t).ax ((imPM P T t).nx m v)).isSome = true then .lie q ((imPM P T t).nx m v) else .rel2 q .fresh
    | .rel2 q r, v => if ((relPM (wd 0 2 3 0 1) (wd 0 2 3 0 2)).ax ((relPM (wd 0 2 3 0 1) (wd 0 2 3 0 2)).nx r v)).isSome = true then .rel2 q ((relPM (wd 0 2 3 0 1) (wd 0 2 3 0 2)).nx r v) else .nap q (.slp .s1)
    | .nap q n, v => .nap q ((naPM P T t).nx n v)
def igE (P : Int) (who : Int) (cl : Nat) (q : Option IgT) (y : Nat) (w : World) (L : List Nat) : Prop := match q with
  | some q => (igFl who cl).I (igPM P) w y q L
  | none => L = []
/-- What it has beside its own block, and beside the machine that it runs. -/
def reExt (P T G t : Int) (cl : Nat) (s : ReT) (es : List Nat) (w : World) (Le : List Nat) : Prop := match s with
  | .acq _ => Le = []
  | .ld => Le = []
  | .get _ => Le = []
  | .spn q _ => igE P t cl (some q) (es.getD 0 0) w Le
  | .rel1 q _ => ∃ L1 L2, Le = L1 ++ L2 ∧ igE P t cl (some q) (es.getD 0 0) w L1 ∧ (spFl t cl).I spPM w (es.getD 1 0) .over L2
  | .run q => ∃ L1 L2, Le = L1 ++ L2 ∧ igE P t cl (some q) (es.getD 0 0) w L1 ∧ (spFl t cl).I spPM w (es.getD 1 0) .over L2
  | .done1 q => ∃ L1 L2, Le = L1 ++ L2 ∧ igE P t cl (some q) (es.getD 0 0) w L1 ∧ (spFl t cl).I spPM w (es.getD 1 0) .over L2
  | .lie q _ => igE P t cl q (es.getD 0 0) w Le
  | .rel2 q _ => igE P t cl q (es.getD 0 0) w Le
  | .nap q n => if ((naPM P T t).ax n).isSome = true then igE P t cl q (es.getD 0 0) w Le else ∃ L1 L2, Le = L1 ++ L2 ∧ igE P t cl q (es.getD 0 0) w L1 ∧ (naCp P T G t cl).I w (es.getD 2 0) n L2
def reAt (t : Int) (cl : Nat) (s : ReT) (es : List Nat) (nx : Option Addr) : Array Value := reCells t nx cl (if s.pr.isSome = true then some ⟨es.getD 0 0, 0, none⟩ else none) (if s.sp.isSome = true then some ⟨es.getD 1 0, 0, none⟩ else none) (if s.na.isSome = true then some ⟨es.getD 2 0, 0, none⟩ else none)
def reCp (P T G t : Int) (cl : Nat) : Cp ReT where
  T := 160
  cells := reAt t cl
  kind := fun
    | .acq a => .run (acqSub (wd 0 2 3 0 0) (wd 0 2 3 0 1) (wd 0 2 3 0 2) t) a (.fn 114)
    | .ld => .acc (axLd 14) (.told 158)
    | .get q => .run (reIg t P T G cl) q (.fn 183)
    | .spn _ s => .run (spSub t cl) s (.fn 200)
    | .rel1 _ r => .run (relSub (wd 0 2 3 0 1) (wd 0 2 3 0 2) t) r (.fn 209)
    | .run q => .acc (axSt (wd 20 P 264 q.obs 0) 1) .nil
    | .done1 _ => .over
    | .lie _ m => .run (imSub t P T G t cl) m (.fn 196)
    | .rel2 _ r => .run (relSub (wd 0 2 3 0 1) (wd 0 2 3 0 2) t) r (.fn 206)
    | .nap _ n => if ((naPM P T t).ax n).isSome = true then .run (naSub P T G t cl) n .nil else .over
  ok := fun
    | .acq a => ((acqPM (wd 0 2 3 0 0) (wd 0 2 3 0 1) (wd 0 2 3 0 2) t).ax a).isSome = true
    | .get q => ((igPM P).ax q).isSome = true ∧ (igFl t cl).ok q
    | .spn _ s => (spPM.ax s).isSome = true
    | .rel1 _ r => ((relPM (wd 0 2 3 0 1) (wd 0 2 3 0 2)).ax r).isSome = true
    | .lie _ m => ((imPM P T t).ax m).isSome = true ∧ (imFl t t cl).ok m
    | .rel2 _ r => ((relPM (wd 0 2 3 0 1) (wd 0 2 3 0 2)).ax r).isSome = true
    | .nap _ n => (naCp P T G t cl).ok n
    | _ => True
  ext := reExt P T G t cl
  tie := fun s es y => match s with
    | .get _ => es.getD 0 0 = y
    | .spn _ _ => es.getD 1 0 = y
    | .nap _ _ => es.getD 2 0 = y
    | _ => True
theorem ent_re1 : Ent 114 := fun args w => by kernel_rfl
theorem ent_re2 : Ent 158 := fun args w => by kernel_rfl
theorem ent_re3 : Ent 183 := fun args w => by kernel_rfl
theorem ent_re4 : Ent 200 := fun args w => by kernel_rfl
theorem ent_re5 : Ent 209 := fun args w => by kernel_rfl
theorem ent_re6 : Ent 196 := fun args w => by kernel_rfl
theorem ent_re7 : Ent 206 := fun args w => by kernel_rfl
section
variable {P T G t : Int} {cl : Nat} {W w' : World} {x : Nat} {s : ReT} {a : Ax} {f : Fol} {es Le Le' : List Nat}
theorem re_land_acc (h : Came W w' x (reAt t cl s es none) 160 a f) (hok : (reCp P T G t cl).ok s) (hk : (reCp P T G t cl).kind s = .acc a f) (hx : x < W.heap.size) (he : reExt P T G t cl s es w' Le') (hxe : x ∉ Le') (hle : ∀ k ∈ Le', k ∈ Le ∧ k < W.heap.size) : (reCp P T G t cl).Land W w' x s Le := by
  obtain ⟨q, Lc, c1, c2, c3, c4⟩ := h
  refine ⟨c3, x :: (Lc ++ Le'), ⟨hok, es, Le', he, hxe, ?_⟩, fun k hm => by simp at hm; rcases hm with rfl | hm | hm; exact .inl rfl; exact .inr (.inr (c4 k hm)); exact .inr (.inl (hle k hm).1)⟩
  rw [hk]
  exact ⟨q, Lc, c1, c2, fun hm => absurd (c4 x hm) (by omega), (fun k hm h => by have := c4 k hm; have := (hle k h).2; omega), rfl⟩
theorem re_land_over (h : Blk w' x (reAt t cl s es none) 160) (hb : But [x] W w') (hok : (reCp P T G t cl).ok s) (hk : (reCp P T G t cl).kind s = .over) (he : reExt P T G t cl s es w' Le') (hxe : x ∉ Le') (hle : ∀ k ∈ Le', k ∈ Le) : (reCp P T G t cl).Land W w' x s Le := by
  refine ⟨hb, x :: Le', ⟨hok, es, Le', he, hxe, ?_⟩, fun k hm => by simp at hm; rcases hm with rfl | hm; exact .inl rfl; exact .inr (.inl (hle k hm))⟩
  rw [hk]
  exact ⟨h, rfl⟩
theorem re_land_run0 {S : Sub} {af : After} {pt : S.τ} {y q b : Nat} {L : List Nat} (hC : CameBox W w' x (reAt t cl s es none) 160 (fun v => comCells 0 0 0 0 0 false (.iface S.D (.pointer (some ⟨y, 0, none⟩))) v false false) (af.fol.box x) q b) (hM : S.I w' y pt L) (hL : ∀ k ∈ L, W.heap.size ≤ k) (hq : q ∉ L) (hg : b ∉ L) (hok : (reCp P T G t cl).ok s) (hk : (reCp P T G t cl).kind s = .run S pt af) (htie : (reCp P T G t cl).tie s es y) (hx : x < W.heap.size) (he : reExt P T G t cl s es w' Le') (hxe : x ∉ Le') (hle : ∀ k ∈ Le', k ∈ Le ∧ k < W.heap.size) : (reCp P T G t cl).Land W w' x s Le := by
  have hfq := hC.at'.fresh
  have hfb := hC.fresh
  refine ⟨hC.at'.but, x :: q :: b :: (L ++ Le'), ⟨hok, es, Le', he, hxe, ?_⟩, fun k hm => ?_⟩
  · rw [hk]
    refine ⟨q, y, b, L, RunAt.of hC (fun nx => rfl), hM, htie, ?_, hq, hg, fun k hm => ?_, rfl⟩
    · simp only [List.mem_cons, not_or]
      exact ⟨by omega, by omega, fun hm => by have := hL x hm; omega⟩
    · simp only [List.mem_cons] at hm
      intro hk'
      have h1 := (hle k hk').2
      rcases hm with rfl | rfl | hm
      · omega
      · omega
      · have := hL k hm; omega
  · simp only [List.mem_cons, List.mem_append] at hm
    rcases hm with rfl | rfl | rfl | hm | hm
    · exact .inl rfl
    · exact .inr (.inr hfq)
    · exact .inr (.inr hfb)
    · exact .inr (.inr (hL k hm))
    · exact .inr (.inl (hle k hm).1)
theorem re_land_run {S : Sub} {af : After} {pt : S.τ} (hR : RunNew S pt W w' x (reAt t cl s es none) 160 (af.fol.box x)) (hok : (reCp P T G t cl).ok s) (hk : (reCp P T G t cl).kind s = .run S pt af) (htie : ∀ y, (reCp P T G t cl).tie s es y) (hx : x < W.heap.size) (he : reExt P T G t cl s es w' Le') (hxe : x ∉ Le') (hle : ∀ k ∈ Le', k ∈ Le ∧ k < W.heap.size) : (reCp P T G t cl).Land W w' x s Le := by
  obtain ⟨y, q, b, L, hC, hM, hL, hq, hg⟩ := hR
  exact re_land_run0 hC hM hL hq hg hok hk (htie y) hx he hxe hle
theorem re_kind_nap {q : Option IgT} {n : NaT} {S : Sub} {p : S.τ} {af : After} (hk : (reCp P T G t cl).kind (.nap q n) = .run S p af) : ((naPM P T t).ax n).isSome = true := by
  by_cases h : ((naPM P T t).ax n).isSome = true
  · exact h
  · have e : (reCp P T G t cl).kind (.nap q n) = .over := if_neg h
    rw [e] at hk; cases hk
theorem re_kind_at {q : Option IgT} {n : NaT} (h : ((naPM P T t).ax n).isSome = true) : (reCp P T G t cl).kind (.nap q n) = .run (naSub P T G t cl) n .nil := if_pos h
theorem na_ok_next {n : NaT} {a : Ax} {v : Int} (hok : (naCp P T G t cl).ok n) (ha : (naPM P T t).ax n = some a) (hv : 0 ≤ v ∧ v ≤ 18446744073709551615) : (naCp P T G t cl).ok ((naPM P T t).nx n v) := by
  have z : (0 : Int) ≤ 0 ∧ (0 : Int) ≤ 18446744073709551615 := by omega
  cases n with
  | slp q =>
    show (naCp P T G t cl).ok (if ((nsPM (wd (20 + P * 264) T 3 t 0)).ax ((nsPM (wd (20 + P * 264) T 3 t 0)).nx q v)).isSome = true then .slp ((nsPM (wd (20 + P * 264) T 3 t 0)).nx q v) else .ld)
    split
    · rename_i h; exact ⟨z, h⟩
    · exact ⟨z, trivial⟩
  | ld => exact ⟨hv, trivial⟩
  | cl u => exact ⟨hok.1, trivial⟩
  | st u => exact ⟨hok.1, trivial⟩
  | over u => cases ha
theorem re_on {v : Int} {S : Sub} {q : S.τ} {af : After} (hp : 0 ≤ P ∧ P ≤ 64) (hT : 0 ≤ T ∧ T ≤ 65536) (hv : 0 ≤ v ∧ v ≤ 18446744073709551615) (hok : (reCp P T G t cl).ok s) (hk : (reCp P T G t cl).kind s = .run S q af) (hs : (S.M.ax (S.M.nx q v)).isSome = true) :
    (reCp P T G t cl).ok ((rePM P T t).nx s v) ∧ (reCp P T G t cl).kind ((rePM P T t).nx s v) = .run S (S.M.nx q v) af ∧ (∀ es, (reCp P T G t cl).cells ((rePM P T t).nx s v) es = (reCp P T G t cl).cells s es) ∧ (∀ es w Le, (reCp P T G t cl).ext s es w Le → (reCp P T G t cl).ext ((rePM P T t).nx s v) es w Le) ∧ (∀ es y, (reCp P T G t cl).tie s es y → (reCp P T G t cl).tie ((rePM P T t).nx s v) es y) := by
  cases s with
  | acq a =>
    cases hk
    have e : (rePM P T t).nx (.acq a) v = .acq ((acqPM (wd 0 2 3 0 0) (wd 0 2 3 0 1) (wd 0 2 3 0 2) t).nx a v) := if_pos hs
    rw [e]
    exact ⟨hs, rfl, fun _ => rfl, fun _ _ _ h => h, fun _ _ h => h⟩
  | get q =>
    cases hk
    have e : (rePM P T t).nx (.get q) v = .get ((igPM P).nx q v) := if_pos hs
    rw [e]
    obtain ⟨h1, h2⟩ := hok
    obtain ⟨a, ha⟩ := Option.isSome_iff_exists.1 h1
    exact ⟨⟨hs, (ig_laws t P T G cl hp hT).ok q a v h2 ha hv⟩, rfl, fun _ => rfl, fun _ _ _ h => h, fun _ _ h => h⟩
  | spn q c =>
    cases hk
    have e : (rePM P T t).nx (.spn q c) v = .spn q (spPM.nx c v) := if_pos hs
    rw [e]
    exact ⟨hs, rfl, fun _ => rfl, fun _ _ _ h => h, fun _ _ h => h⟩
  | rel1 q r =>
    cases hk
    have e : (rePM P T t).nx (.rel1 q r) v = .rel1 q ((relPM (wd 0 2 3 0 1) (wd 0 2 3 0 2)).nx r v) := if_pos hs
    rw [e]
    exact ⟨hs, rfl, fun _ => rfl, fun _ _ _ h => h, fun _ _ h => h⟩
  | lie q m =>
    cases hk
    have e : (rePM P T t).nx (.lie q m) v = .lie q ((imPM P T t).nx m v) := if_pos hs
    rw [e]
    obtain ⟨h1, h2⟩ := hok
    obtain ⟨a, ha⟩ := Option.isSome_iff_exists.1 h1
    exact ⟨⟨hs, (im_laws t P T G t cl hp hT).ok m a v h2 ha hv⟩, rfl, fun _ => rfl, fun _ _ _ h => h, fun _ _ h => h⟩
  | rel2 q r =>
    cases hk
    have e : (rePM P T t).nx (.rel2 q r) v = .rel2 q ((relPM (wd 0 2 3 0 1) (wd 0 2 3 0 2)).nx r v) := if_pos hs
    rw [e]
    exact ⟨hs, rfl, fun _ => rfl, fun _ _ _ h => h, fun _ _ h => h⟩
  | nap q n =>
    have h1 := re_kind_nap hk
    rw [re_kind_at h1] at hk
    cases hk
    obtain ⟨a, ha⟩ := Option.isSome_iff_exists.1 h1
    have hs' : ((naPM P T t).ax ((naPM P T t).nx n v)).isSome = true := hs
    refine ⟨na_ok_next (G := G) (cl := cl) hok ha hv, re_kind_at hs', fun _ => rfl, fun es w Le h => ?_, fun _ _ h => h⟩
    have h' : (if ((naPM P T t).ax n).isSome = true then igE P t cl q (es.getD 0 0) w Le else ∃ L1 L2, Le = L1 ++ L2 ∧ igE P t cl q (es.getD 0 0) w L1 ∧ (naCp P T G t cl).I w (es.getD 2 0) n L2) := h
    rw [if_pos h1] at h'
    show (if ((naPM P T t).ax ((naPM P T t).nx n v)).isSome = true then igE P t cl q (es.getD 0 0) w Le else ∃ L1 L2, Le = L1 ++ L2 ∧ igE P t cl q (es.getD 0 0) w L1 ∧ (naCp P T G t cl).I w (es.getD 2 0) ((naPM P T t).nx n v) L2)
    rw [if_pos hs']
    exact h'
  | ld => cases hk
  | run q => cases hk
  | done1 q => cases hk
end
end Go.Proofs.YthbgoakaijeemaaGreat
