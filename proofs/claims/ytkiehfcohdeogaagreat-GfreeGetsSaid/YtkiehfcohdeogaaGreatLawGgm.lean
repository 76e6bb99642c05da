/- GfreeGets: each step of getting a goroutine, over any memory, whatever others do between: its access, which one it is, and when; the list; for every ground, every thread, and all pokes; no condition. -/
import Derived.Test.YtkiehfcohdeogaaGreatCp
import Derived.Test.YtkiehfcohdeogaaGreatRM5
import Derived.Test.YtkiehfcohdeogaaGreatRM7
import Derived.Test.YtkiehfcohdeogaaGreatRM8
import Derived.Test.YtkiehfcohdeogaaGreatRM9
import Derived.Test.YtkiehfcohdeogaaGreatLinks
import Derived.Test.YtkiehfcohdeogaaGreatLkFl
import Derived.Test.YtkiehfcohdeogaaGreatLaw
import Derived.Test.YtkiehfcohdeogaaGreatGfL
import Derived.Test.YtkiehfcohdeogaaGreatOpen
import Derived.Test.YtkiehfcohdeogaaGreatFrame
import Derived.ProofKit
import Derived.OpenShut
import Derived.Lib.SmallJoins
namespace Go.Proofs.YtkiehfcohdeogaaGreat
open Go Go.RowKit
set_option linter.unusedVariables false
set_option maxRecDepth 100000
set_option linter.unusedSimpArgs false

def acqSub (tk sv ow who : Int) : Sub := ⟨AcqT, acqPM tk sv ow who, (acqFl who sv ow).I (acqPM tk sv ow who), Rd.nil, 164, 210⟩
def relSub (sv ow who : Int) : Sub := ⟨RelT, relPM sv ow, (relFl who sv).I (relPM sv ow), Rd.nil, 201, 213⟩
theorem acqSub_ok (tk sv ow who : Int) (hw : 0 ≤ who ∧ who ≤ 1000000) (R : Rd) : Steps (acqPM tk sv ow who) ((acqFl who sv ow).I (acqPM tk sv ow who)) Rd.nil 210 who ∧ MI.Good ((acqFl who sv ow).I (acqPM tk sv ow who)) (acqPM tk sv ow who) ∧ ActRun 164 210 ∧ (∀ w, R.P w → Rd.nil.P w) ∧ (∀ k ∈ Rd.nil.B, k ∈ R.B) :=
  ⟨Fl.steps (acq_laws _ _ _ who hw) stepby_acq, Fl.good (acq_laws _ _ _ who hw), act_acq, fun _ _ => trivial, fun k hk => by cases hk⟩
theorem relSub_ok (sv ow who : Int) (R : Rd) : Steps (relPM sv ow) ((relFl who sv).I (relPM sv ow)) Rd.nil 213 who ∧ MI.Good ((relFl who sv).I (relPM sv ow)) (relPM sv ow) ∧ ActRun 201 213 ∧ (∀ w, R.P w → Rd.nil.P w) ∧ (∀ k ∈ Rd.nil.B, k ∈ R.B) :=
  ⟨Fl.steps (rel_laws _ _ who) stepby_rel, Fl.good (rel_laws _ _ who), act_rel, fun _ _ => trivial, fun k hk => by cases hk⟩
theorem acqSub_at {w : World} {y q : Nat} {tk sv ow who : Int} (h : AcqM w y q who tk sv ow) : ((acqFl who sv ow).I (acqPM tk sv ow who)) w y AcqT.fresh [y, q] :=
  ⟨trivial, q, [q], h.m, .told _ h.com, by have := h.o1; simp; omega, rfl⟩
theorem relSub_at {w : World} {y q g : Nat} {sv ow who : Int} (h : RelM w y q g who sv ow) : ((relFl who sv).I (relPM sv ow)) w y RelT.fresh [y, q, g] :=
  ⟨trivial, q, [q, g], h.m, .box _ g (fun _ h => by cases h) h.com h.box h.ne, by have := h.o1; have := h.o2; simp; omega, rfl⟩

/-- Getting a lock, and what is so behind it. -/
def AcqT.goes {σ : Type} (f : AcqT → σ) (e : σ) : AcqT → σ
  | .over _ => e
  | p => f p

/-- The machine that gives a goroutine back; gl is the place of its GLink. -/
inductive GpT where
  | acq (p : AcqT)
  | ld
  | ln (f : Int)
  | st
  | rel (p : RelT)
def gpPM (who g gl : Int) : PM GpT where
  ax := fun
    | .acq p => (acqPM 3 4 5 who).ax p
    | .ld => some (axLd 16)
    | .ln f => some (axSt gl f)
    | .st => some (axSt 16 (g + 1))
    | .rel p => (relPM 4 5).ax p
  nx := fun
    | .acq p, v => ((acqPM 3 4 5 who).nx p v).goes .acq .ld
    | .ld, v => .ln v
    | .ln _, _ => .st
    | .st, _ => .rel .fresh
    | .rel p, v => .rel ((relPM 4 5).nx p v)
def AcqT.Live : AcqT → Prop
  | .over _ => False
  | _ => True
def gpCp (who g gl : Int) (cl : Nat) : Cp GpT where
  T := 131
  cells := fun _ _ nx => putCells who nx cl g
  kind := fun
    | .acq p => .run (acqSub 3 4 5 who) p (.fn 85)
    | .ld => .acc (axLd 16) (.told 123)
    | .ln f => .acc (axSt gl f) (.untold 154)
    | .st => .acc (axSt 16 (g + 1)) (.untold 169)
    | .rel .over => .over
    | .rel p => .run (relSub 4 5 who) p .nil
  ok := fun
    | .acq p => p.Live
    | .ln f => 0 ≤ f ∧ f ≤ 18446744073709551615
    | _ => True
  ext := fun _ _ _ Le => Le = []
  tie := fun _ _ _ => True
theorem acq_nx_live {who v : Int} (p : AcqT) (h : ((acqPM 3 4 5 who).ax ((acqPM 3 4 5 who).nx p v)).isSome = true) : ((acqPM 3 4 5 who).nx p v).Live := by
  cases hp : (acqPM 3 4 5 who).nx p v with
  | over t => rw [hp] at h; cases h
  | fresh => trivial
  | wait t => trivial
  | has t => trivial
theorem acq_then_live {σ : Type} {f : AcqT → σ} {e : σ} : ∀ (p : AcqT), p.Live → p.goes f e = f p
  | .fresh, _ => rfl
  | .wait _, _ => rfl
  | .has _, _ => rfl
theorem acq_then_over {σ : Type} {f : AcqT → σ} {e : σ} {who : Int} : ∀ (p : AcqT), (acqPM 3 4 5 who).ax p = none → p.goes f e = e
  | .fresh, h => by cases h
  | .wait _, h => by cases h
  | .has _, h => by cases h
  | .over _, _ => rfl
theorem acq_live_some {who : Int} : ∀ (p : AcqT), p.Live → ((acqPM 3 4 5 who).ax p).isSome = true
  | .fresh, _ => rfl
  | .wait _, _ => rfl
  | .has _, _ => rfl
theorem ent_pk1 : Ent 85 := fun args w => by kernel_rfl
theorem ent_pk2 : Ent 123 := fun args w => by kernel_rfl
theorem ent_pk3 : Ent 154 := fun args w => by kernel_rfl
theorem ent_pk4 : Ent 169 := fun args w => by kernel_rfl

theorem gp_on {who g gl v : Int} {cl : Nat} {t : GpT} {S : Sub} {p : S.τ} {af : After} (hok : (gpCp who g gl cl).ok t) (hk : (gpCp who g gl cl).kind t = .run S p af) (hs : (S.M.ax (S.M.nx p v)).isSome = true) :
    (gpCp who g gl cl).ok ((gpPM who g gl).nx t v) ∧ (gpCp who g gl cl).kind ((gpPM who g gl).nx t v) = .run S (S.M.nx p v) af := by
  cases t with
  | acq q =>
    cases hk
    have hl : ((acqPM 3 4 5 who).nx q v).Live := acq_nx_live q hs
    have e : (gpPM who g gl).nx (.acq q) v = .acq ((acqPM 3 4 5 who).nx q v) := acq_then_live _ hl
    rw [e]
    exact ⟨hl, rfl⟩
  | rel q =>
    cases q with
    | over => cases hk
    | fresh => cases hk; exact ⟨trivial, rfl⟩
    | pass => cases hk; cases hs
  | ld => cases hk
  | ln f => cases hk
  | st => cases hk

theorem gp_laws (who g P T G : Int) (cl : Nat) (hw : 0 ≤ who ∧ who ≤ 1000000) (hg : 0 ≤ g ∧ g ≤ 1000000) (hp : 0 ≤ P ∧ P ≤ 64) (hT : 0 ≤ T ∧ T ≤ 65536) (hG : G ≤ 65536) :
    (gpCp who g (wd (20 + P * 264 + T * 3) G 2 g 1) cl).Laws (gpPM who g (wd (20 + P * 264 + T * 3) G 2 g 1)) (Rd.lay cl P T G) who where
  c0 := fun t es nx => rfl
  c1 := fun t es nx => rfl
  set := fun t es nx nx' => rfl
  k0 := fun t hok hk => by
    cases t with
    | rel q => cases q <;> first | rfl | cases hk
    | _ => cases hk
  k1 := fun t a f hok hk => by
    cases t with
    | acq q => cases hk
    | rel q => cases q <;> cases hk
    | ld => cases hk; exact ⟨rfl, axLd_ok _, ent_pk2⟩
    | ln f => cases hk; exact ⟨rfl, axSt_ok _ _ hok, ent_pk3⟩
    | st => cases hk; exact ⟨rfl, axSt_ok _ _ (by omega), ent_pk4⟩
  k2 := fun t S p af hok hk => by
    cases t with
    | acq q => cases hk; exact ⟨rfl, acq_live_some _ hok, ent_pk1, fun a => (acq_laws 3 4 5 who hw).axok _ a trivial⟩
    | rel q => cases q <;> cases hk <;> exact ⟨rfl, rfl, trivial, fun a => (rel_laws 4 5 who).axok _ a trivial⟩
    | _ => cases hk
  sub := fun t S p af hok hk => by
    cases t with
    | acq q => cases hk; exact acqSub_ok 3 4 5 who hw _
    | rel q => cases q <;> cases hk <;> exact relSub_ok 4 5 who _
    | _ => cases hk
  on := fun t S p af v hok hk hv hs => ⟨(gp_on hok hk hs).1, (gp_on hok hk hs).2, fun _ => rfl, fun _ _ _ h => h, fun _ _ h => h⟩
  ekeep := fun t es w w' l Le he _ _ => he
  elt := fun t es w Le he k hk => by
    have e : Le = [] := he
    rw [e] at hk; cases hk
  fol := fun W x t a f v es Le hok hk hv hB he hxe hR hxR => by
    obtain rfl : Le = [] := he
    cases t with
    | acq q => cases hk
    | rel q => cases q <;> cases hk
    | ld =>
      cases hk
      refine (put_link W x cl who g P T G v none hB hR hp hT hG).mono ?_
      rintro e w' ⟨hu, q, b, hC⟩
      obtain ⟨hb, h1⟩ : But [x] W w' ∧ Came W w' x (putCells who none cl g) 131 (axSt (wd (20 + P * 264 + T * 3) G 2 g 1) v) (.untold 154) := ⟨hC.at'.but, Came.of_box hC (fun _ h => by cases h) rfl rfl rfl⟩
      refine ⟨hu, hb, ?_⟩
      obtain ⟨q, Lc, c1, c2, c3, c4⟩ := h1
      have hlt := hB.lt
      exact ⟨x :: (Lc ++ []), ⟨hv, [], [], rfl, by simp, q, Lc, c1, c2, fun hm => absurd (c4 x hm) (by omega), (fun k _ h => by cases h), rfl⟩, fun k hm => by simp at hm; rcases hm with rfl | hm; exact .inl rfl; exact .inr (.inr (c4 k hm))⟩
    | ln f =>
      cases hk
      refine (put_lead W x cl who g none hB hg).mono ?_
      rintro e w' ⟨hu, q, b, hC⟩
      obtain ⟨hb, h1⟩ : But [x] W w' ∧ Came W w' x (putCells who none cl g) 131 (axSt 16 (g + 1)) (.untold 169) := ⟨hC.at'.but, Came.of_box hC (fun _ h => by cases h) rfl rfl rfl⟩
      refine ⟨hu, hb, ?_⟩
      obtain ⟨q, Lc, c1, c2, c3, c4⟩ := h1
      have hlt := hB.lt
      exact ⟨x :: (Lc ++ []), ⟨trivial, [], [], rfl, by simp, q, Lc, c1, c2, fun hm => absurd (c4 x hm) (by omega), (fun k _ h => by cases h), rfl⟩, fun k hm => by simp at hm; rcases hm with rfl | hm; exact .inl rfl; exact .inr (.inr (c4 k hm))⟩
    | st =>
      cases hk
      refine (release_any W x cl who _ 131 hB (by simp [gpCp, putCells]) rfl rfl).mono ?_
      rintro e w' ⟨hu, x2, q2, g2, q, b, hC, hM, f1, f2, f3, f4, f5⟩
      refine ⟨hu, hC.at'.but, ?_⟩
      have hlt := hB.lt
      have hfq := hC.at'.fresh
      have hfb := hC.fresh
      have o1 := hM.o1
      have o2 := hM.o2
      refine ⟨x :: q :: b :: ([x2, q2, g2] ++ []), ⟨trivial, [], [], rfl, by simp, q, x2, b, [x2, q2, g2], RunAt.of hC (fun nx => rfl), relSub_at hM, trivial, by simp; omega, by simp; omega, by simp; omega, (fun k _ h => by cases h), rfl⟩, fun k hm => ?_⟩
      simp at hm
      omega
  aft := fun W x y t S p af v es Le Li hok hk hv hn hB hin hty he hxe hxi hd hR hxR => by
    obtain rfl : Le = [] := he
    cases t with
    | acq q =>
      cases hk
      have e : (gpPM who g (wd (20 + P * 264 + T * 3) G 2 g 1)).nx (.acq q) v = .ld := acq_then_over _ hn
      rw [e]
      refine (put_look W x cl who g none hB).mono ?_
      rintro e w' ⟨hu, q, hC⟩
      obtain ⟨hb, h1⟩ : But [x] W w' ∧ Came W w' x (putCells who none cl g) 131 (axLd 16) (.told 123) := ⟨hC.but, Came.of_at hC⟩
      refine ⟨hu, hb, ?_⟩
      obtain ⟨q, Lc, c1, c2, c3, c4⟩ := h1
      have hlt := hB.lt
      exact ⟨x :: (Lc ++ []), ⟨trivial, [], [], rfl, by simp, q, Lc, c1, c2, fun hm => absurd (c4 x hm) (by omega), (fun k _ h => by cases h), rfl⟩, fun k hm => by simp at hm; rcases hm with rfl | hm; exact .inl rfl; exact .inr (.inr (c4 k hm))⟩
    | rel q =>
      cases q with
      | over => cases hk
      | fresh => cases hk; cases hn
      | pass =>
        cases hk
        exact ⟨But.refl _ _, x :: [], ⟨trivial, [], [], rfl, by simp, hB, rfl⟩, fun k hm => by simp at hm; exact .inl hm⟩
    | ld => cases hk
    | ln f => cases hk
    | st => cases hk
end Go.Proofs.YtkiehfcohdeogaaGreat

namespace Go.Proofs.YtkiehfcohdeogaaGreat
open Go Go.RowKit
set_option linter.unusedVariables false
set_option maxRecDepth 100000
set_option linter.unusedSimpArgs false

theorem gp_fresh (w : World) (cl : Nat) (who g gl : Int) :
    Calls Tryz.prog 23 #[.pointer (some ⟨cl, 0, none⟩), .int .i64 who, .int .i64 g] w fun e w' => ∃ x L, e = .returned (.pointer (some ⟨x, 0, none⟩)) ∧ (gpCp who g gl cl).I w' x (GpT.acq .fresh) L ∧ Below w.heap.size w w' ∧ (∀ k ∈ L, w.heap.size ≤ k) := by
  refine (put_new w cl who g).mono ?_
  rintro e w' ⟨x, x2, q2, q, b, rfl, hb, h1, h2, h3, h4, h5, hx, hq, hbx, hM⟩
  have o1 := hM.o1
  refine ⟨x, x :: q :: b :: ([x2, q2] ++ []), rfl, ⟨trivial, [], [], rfl, by simp, q, x2, b, [x2, q2], ⟨hx, hq, hbx, h5.symm⟩, acqSub_at hM, trivial, by simp; omega, by simp; omega, by simp; omega, (fun k _ h => by cases h), rfl⟩, hb, ?_⟩
  intro k hk
  simp at hk
  omega
theorem get_g_nil (w : World) : Calls Tryz.prog 15 #[.pointer none] w fun e w' => e = .returned (.int .i64 (-1)) ∧ w = w' := by
  go_enter Tryz.func15, Tryz.ntmps15
  go_wp2_with fail
  go_ret
  exact ⟨rfl, rfl⟩
end Go.Proofs.YtkiehfcohdeogaaGreat

namespace Go.Proofs.YtkiehfcohdeogaaGreat
open Go Go.RowKit
set_option linter.unusedVariables false
set_option maxRecDepth 100000
set_option linter.unusedSimpArgs false

/-- The goroutine that a word names. -/
def gw (v : Int) : Int := IntKind.i64.wrap (IntKind.u64.wrap (v - 1))
inductive GgT where
  | acq (p : AcqT)
  | ld
  | lnk (y : Int)
  | un (y l : Int)
  | ldG
  | mk (n : Int)
  | rel (r : Option Int) (p : RelT)
/-- gl tells the place of a goroutine's GLink, G how many there may be. -/
def ggPM (who : Int) (gl : Int → Int) (G : Int) : PM GgT where
  ax := fun
    | .acq p => (acqPM 3 4 5 who).ax p
    | .ld => some (axLd 16)
    | .lnk y => some (axLd (gl y))
    | .un _ l => some (axSt 16 l)
    | .ldG => some (axLd 17)
    | .mk n => some (axSt 17 (n + 1))
    | .rel _ p => (relPM 4 5).ax p
  nx := fun
    | .acq p, v => ((acqPM 3 4 5 who).nx p v).goes .acq .ld
    | .ld, v => if v = 0 then .ldG else .lnk (gw v)
    | .lnk y, v => .un y v
    | .un y _, _ => .rel (some y) .fresh
    | .ldG, v => if v < G then .mk v else .rel none .fresh
    | .mk n, _ => .rel (some n) .fresh
    | .rel r p, v => .rel r ((relPM 4 5).nx p v)
def GgT.g : GgT → Int
  | .lnk y => y
  | .un y _ => y
  | .mk n => n
  | .rel (some y) _ => y
  | _ => 0
def GgT.got : GgT → Bool
  | .rel (some _) _ => true
  | _ => false
def ggCp (who : Int) (gl : Int → Int) (G : Int) (cl : Nat) : Cp GgT where
  T := 110
  cells := fun t _ nx => getCells who nx cl t.g t.got
  kind := fun
    | .acq p => .run (acqSub 3 4 5 who) p (.fn 62)
    | .ld => .acc (axLd 16) (.told 112)
    | .lnk y => .acc (axLd (gl y)) (.told 148)
    | .un _ l => .acc (axSt 16 l) (.untold 170)
    | .ldG => .acc (axLd 17) (.told 147)
    | .mk n => .acc (axSt 17 (n + 1)) (.untold 170)
    | .rel _ .over => .over
    | .rel _ p => .run (relSub 4 5 who) p .nil
  ok := fun
    | .acq p => p.Live
    | .un _ l => 0 ≤ l ∧ l ≤ 18446744073709551615
    | .mk n => 0 ≤ n ∧ n < G
    | _ => True
  ext := fun _ _ _ Le => Le = []
  tie := fun _ _ _ => True
theorem ent_gk1 : Ent 62 := fun args w => by kernel_rfl
theorem ent_gk2 : Ent 112 := fun args w => by kernel_rfl
theorem ent_gk3 : Ent 148 := fun args w => by kernel_rfl
theorem ent_gk4 : Ent 170 := fun args w => by kernel_rfl
theorem ent_gk5 : Ent 147 := fun args w => by kernel_rfl

theorem gg_on {who G v : Int} {gl : Int → Int} {cl : Nat} {t : GgT} {S : Sub} {p : S.τ} {af : After} (hok : (ggCp who gl G cl).ok t) (hk : (ggCp who gl G cl).kind t = .run S p af) (hs : (S.M.ax (S.M.nx p v)).isSome = true) :
    (ggCp who gl G cl).ok ((ggPM who gl G).nx t v) ∧ (ggCp who gl G cl).kind ((ggPM who gl G).nx t v) = .run S (S.M.nx p v) af ∧ ∀ es, (ggCp who gl G cl).cells ((ggPM who gl G).nx t v) es = (ggCp who gl G cl).cells t es := by
  cases t with
  | acq q =>
    cases hk
    have hl : ((acqPM 3 4 5 who).nx q v).Live := acq_nx_live q hs
    have e : (ggPM who gl G).nx (.acq q) v = .acq ((acqPM 3 4 5 who).nx q v) := acq_then_live _ hl
    rw [e]
    exact ⟨hl, rfl, fun _ => rfl⟩
  | rel r q =>
    cases q with
    | over => cases hk
    | fresh => cases hk; cases r <;> exact ⟨trivial, rfl, fun _ => rfl⟩
    | pass => cases hk; cases hs
  | _ => cases hk

section
variable {who G : Int} {gl : Int → Int} {cl : Nat} {W w' : World} {x : Nat} {t : GgT} {a : Ax} {f : Fol}
theorem gg_land (h : Came W w' x ((ggCp who gl G cl).cells t [] none) 110 a f) (hok : (ggCp who gl G cl).ok t) (hk : (ggCp who gl G cl).kind t = .acc a f) (hx : x < W.heap.size) : (ggCp who gl G cl).Land W w' x t [] := by
  obtain ⟨q, Lc, c1, c2, c3, c4⟩ := h
  refine ⟨c3, x :: (Lc ++ []), ⟨hok, [], [], rfl, by simp, ?_⟩, fun k hm => by simp at hm; rcases hm with rfl | hm; exact .inl rfl; exact .inr (.inr (c4 k hm))⟩
  rw [hk]
  exact ⟨q, Lc, c1, c2, fun hm => absurd (c4 x hm) (by omega), (fun k _ h => by cases h), rfl⟩
theorem gg_land_rel {r : Option Int} {x2 q2 g2 q b : Nat} (hC : CameBox W w' x (getCells who none cl (GgT.rel r .fresh).g (GgT.rel r .fresh).got) 110 (fun v => comCells 0 0 0 0 0 false (.iface 201 (.pointer (some ⟨x2, 0, none⟩))) v false false) .nilFunc q b) (hM : RelM w' x2 q2 g2 who 4 5) (f1 : W.heap.size ≤ x2) (f2 : q2 < q) (f3 : q2 < b) (f4 : g2 < q) (f5 : g2 < b) (hlt : x < W.heap.size) : (ggCp who gl G cl).Land W w' x (.rel r .fresh) [] := by
  refine ⟨hC.at'.but, ?_⟩
  have hfq := hC.at'.fresh
  have hfb := hC.fresh
  have o1 := hM.o1
  have o2 := hM.o2
  refine ⟨x :: q :: b :: ([x2, q2, g2] ++ []), ⟨trivial, [], [], rfl, by simp, q, x2, b, [x2, q2, g2], RunAt.of hC (fun nx => rfl), relSub_at hM, trivial, by simp; omega, by simp; omega, by simp; omega, (fun k _ h => by cases h), rfl⟩, fun k hm => ?_⟩
  simp at hm
  omega
end

theorem gg_laws (who P T G : Int) (cl : Nat) (hw : 0 ≤ who ∧ who ≤ 1000000) (hp : 0 ≤ P ∧ P ≤ 64) (hT : 0 ≤ T ∧ T ≤ 65536) (hG : 0 ≤ G ∧ G ≤ 65536) :
    (ggCp who (fun y => wd (20 + P * 264 + T * 3) G 2 y 1) G cl).Laws (ggPM who (fun y => wd (20 + P * 264 + T * 3) G 2 y 1) G) (Rd.lay cl P T G) who where
  c0 := fun t es nx => rfl
  c1 := fun t es nx => rfl
  set := fun t es nx nx' => rfl
  k0 := fun t hok hk => by
    cases t with
    | rel r q => cases q <;> first | rfl | cases hk
    | _ => cases hk
  k1 := fun t a f hok hk => by
    cases t with
    | acq q => cases hk
    | rel r q => cases q <;> cases hk
    | ld => cases hk; exact ⟨rfl, axLd_ok _, ent_gk2⟩
    | lnk y => cases hk; exact ⟨rfl, axLd_ok _, ent_gk3⟩
    | un y l => cases hk; exact ⟨rfl, axSt_ok _ _ hok, ent_gk4⟩
    | ldG => cases hk; exact ⟨rfl, axLd_ok _, ent_gk5⟩
    | mk n => cases hk; exact ⟨rfl, axSt_ok _ _ (by have : 0 ≤ n ∧ n < G := hok; omega), ent_gk4⟩
  k2 := fun t S p af hok hk => by
    cases t with
    | acq q => cases hk; exact ⟨rfl, acq_live_some _ hok, ent_gk1, fun a => (acq_laws 3 4 5 who hw).axok _ a trivial⟩
    | rel r q => cases q <;> cases hk <;> exact ⟨rfl, rfl, trivial, fun a => (rel_laws 4 5 who).axok _ a trivial⟩
    | _ => cases hk
  sub := fun t S p af hok hk => by
    cases t with
    | acq q => cases hk; exact acqSub_ok 3 4 5 who hw _
    | rel r q => cases q <;> cases hk <;> exact relSub_ok 4 5 who _
    | _ => cases hk
  on := fun t S p af v hok hk hv hs => ⟨(gg_on hok hk hs).1, (gg_on hok hk hs).2.1, (gg_on hok hk hs).2.2, fun _ _ _ h => h, fun _ _ h => h⟩
  ekeep := fun t es w w' l Le he _ _ => he
  elt := fun t es w Le he k hk => by
    have e : Le = [] := he
    rw [e] at hk; cases hk
  fol := fun W x t a f v es Le hok hk hv hB he hxe hR hxR => by
    obtain rfl : Le = [] := he
    have hlt := hB.lt
    have hcx : cl ≠ x := fun e => hxR (by rw [e]; exact List.mem_singleton.2 rfl)
    cases t with
    | acq q => cases hk
    | rel r q => cases q <;> cases hk
    | ld =>
      cases hk
      by_cases h0 : v = 0
      · subst h0
        refine (get_none W x cl who 0 false none hB).mono ?_
        rintro e w' ⟨hu, q, hC⟩
        exact ⟨hu, gg_land (t := .ldG) (a := axLd 17) (f := .told 147) (Came.of_at hC) trivial rfl hlt⟩
      · have e : (ggPM who (fun y => wd (20 + P * 264 + T * 3) G 2 y 1) G).nx .ld v = .lnk (gw v) := if_neg h0
        rw [e]
        refine (get_some W x cl who 0 P T G v _ _ false none hB hR hcx hp hT hG.2 h0 rfl rfl).mono ?_
        rintro e w' ⟨hu, q, hC⟩
        exact ⟨hu, gg_land (t := .lnk (gw v)) (a := axLd (wd (20 + P * 264 + T * 3) G 2 (gw v) 1)) (f := .told 148) (Came.of_at hC) trivial rfl hlt⟩
    | lnk y =>
      cases hk
      refine (get_unlink W x cl who y v false none hB).mono ?_
      rintro e w' ⟨hu, q, b, hC⟩
      exact ⟨hu, gg_land (t := .un y v) (a := axSt 16 v) (f := .untold 170) (Came.of_box hC (fun _ h => by cases h) rfl rfl rfl) hv rfl hlt⟩
    | un y l =>
      cases hk
      refine (get_have W x cl who y false none hB).mono ?_
      rintro e w' ⟨hu, x2, q2, g2, q, b, hC, hM, f1, f2, f3, f4, f5⟩
      exact ⟨hu, gg_land_rel (r := some y) hC hM f1 f2 f3 f4 f5 hlt⟩
    | ldG =>
      cases hk
      by_cases h0 : v < G
      · have e : (ggPM who (fun y => wd (20 + P * 264 + T * 3) G 2 y 1) G).nx .ldG v = .mk v := if_pos h0
        rw [e]
        refine (get_fresh W x cl who 0 P T G v false none hB hR hG h0 hv.1).mono ?_
        rintro e w' ⟨hu, q, b, hC⟩
        exact ⟨hu, gg_land (t := .mk v) (a := axSt 17 (v + 1)) (f := .untold 170) (Came.of_box hC (fun _ h => by cases h) rfl rfl rfl) ⟨hv.1, h0⟩ rfl hlt⟩
      · have e : (ggPM who (fun y => wd (20 + P * 264 + T * 3) G 2 y 1) G).nx .ldG v = .rel none .fresh := if_neg h0
        rw [e]
        refine (get_full W x cl who 0 P T G v false none hB hR hG (by omega)).mono ?_
        rintro e w' ⟨hu, x2, q2, g2, q, b, hC, hM, f1, f2, f3, f4, f5⟩
        exact ⟨hu, gg_land_rel (r := none) hC hM f1 f2 f3 f4 f5 hlt⟩
    | mk n =>
      cases hk
      refine (get_have W x cl who n false none hB).mono ?_
      rintro e w' ⟨hu, x2, q2, g2, q, b, hC, hM, f1, f2, f3, f4, f5⟩
      exact ⟨hu, gg_land_rel (r := some n) hC hM f1 f2 f3 f4 f5 hlt⟩
  aft := fun W x y t S p af v es Le Li hok hk hv hn hB hin hty he hxe hxi hd hR hxR => by
    obtain rfl : Le = [] := he
    have hlt := hB.lt
    cases t with
    | acq q =>
      cases hk
      have e : (ggPM who (fun y => wd (20 + P * 264 + T * 3) G 2 y 1) G).nx (.acq q) v = .ld := acq_then_over _ hn
      rw [e]
      refine (get_look W x cl who 0 false none hB).mono ?_
      rintro e w' ⟨hu, q, hC⟩
      obtain ⟨h1, L', h2, h3⟩ := gg_land (gl := fun y => wd (20 + P * 264 + T * 3) G 2 y 1) (G := G) (t := .ld) (a := axLd 16) (f := .told 112) (Came.of_at hC) trivial rfl hlt
      exact ⟨hu, h1, L', h2, fun k hk => by rcases h3 k hk with h | h | h; exact .inl h; cases h; exact .inr (.inr h)⟩
    | rel r q =>
      cases q with
      | over => cases hk
      | fresh => cases hk; cases hn
      | pass =>
        cases hk
        exact ⟨But.refl _ _, x :: [], ⟨trivial, [], [], rfl, by simp, (by cases r <;> exact hB), rfl⟩, fun k hm => by simp at hm; exact .inl hm⟩
    | _ => cases hk

/-- What it got. -/
def GgT.obs : GgT → Int
  | .rel (some y) _ => y
  | _ => -1
theorem gg_fresh (w : World) (cl : Nat) (who : Int) (gl : Int → Int) (G : Int) :
    Calls Tryz.prog 11 #[.pointer (some ⟨cl, 0, none⟩), .int .i64 who] w fun e w' => ∃ x L, e = .returned (.pointer (some ⟨x, 0, none⟩)) ∧ (ggCp who gl G cl).I w' x (GgT.acq .fresh) L ∧ Below w.heap.size w w' ∧ (∀ k ∈ L, w.heap.size ≤ k) := by
  refine (get_new w cl who).mono ?_
  rintro e w' ⟨x, x2, q2, q, b, rfl, hb, h1, h2, h3, h4, h5, hx, hq, hbx, hM⟩
  have o1 := hM.o1
  refine ⟨x, x :: q :: b :: ([x2, q2] ++ []), rfl, ⟨trivial, [], [], rfl, by simp, q, x2, b, [x2, q2], ⟨hx, hq, hbx, h5.symm⟩, acqSub_at hM, trivial, by simp; omega, by simp; omega, by simp; omega, (fun k _ h => by cases h), rfl⟩, hb, ?_⟩
  intro k hk
  simp at hk
  omega
theorem gg_g {who P T G : Int} {cl : Nat} {w : World} {x : Nat} {t : GgT} {L : List Nat} (hL : (ggCp who (fun y => wd (20 + P * 264 + T * 3) G 2 y 1) G cl).Laws (ggPM who (fun y => wd (20 + P * 264 + T * 3) G 2 y 1) G) (Rd.lay cl P T G) who) (h : (ggCp who (fun y => wd (20 + P * 264 + T * 3) G 2 y 1) G cl).I w x t L) :
    Calls Tryz.prog 15 #[.pointer (some ⟨x, 0, none⟩)] w fun e w' => e = .returned (.int .i64 t.obs) ∧ ∃ m, w' = w.drewN m := by
  obtain ⟨es, Le, nx, h1, -, -, -⟩ := Cp.blk hL h
  have := get_g w x cl who t.g t.got nx h1
  rw [show (if t.got = true then t.g else -1) = t.obs by cases t <;> first | rfl | (rename_i r p; cases r <;> rfl)] at this
  exact this
end Go.Proofs.YtkiehfcohdeogaaGreat

namespace Go.Proofs.YtkiehfcohdeogaaGreat
open Go Go.RowKit
set_option linter.unusedVariables false
set_option maxRecDepth 100000
set_option linter.unusedSimpArgs false

theorem gw_eq (v : Int) (h : 0 ≤ v ∧ v ≤ 18446744073709551615) : wrap64 (IntKind.i64.wrap v - 1) = gw v := by
  simp [gw, wrap64, IntKind.wrap, IntKind.bits, IntKind.signed]
  split <;> split <;> omega
theorem gw_one (v : Int) (h : 0 ≤ v ∧ v ≤ 1000000) : gw (v + 1) = v := by
  simp [gw, IntKind.wrap, IntKind.bits, IntKind.signed]
  omega
theorem is_word (P T G : Int) (n : Nat) (v : Int) (hn : (n : Int) = 20 + 264 * P + 3 * T + 2 * G) (hp : 0 ≤ P ∧ P ≤ 64) (hT : 0 ≤ T ∧ T ≤ 65536) (hG : 0 ≤ G ∧ G ≤ 65536) (hv : 0 ≤ v ∧ v ≤ 18446744073709551615) (h0 : v ≠ 0) :
    (v ≤ G → gw v = v - 1) ∧ decide (0 ≤ wd (20 + P * 264 + T * 3) G 2 (gw v) 1 ∧ wd (20 + P * 264 + T * 3) G 2 (gw v) 1 < n) = decide (v ≤ G) := by
  have h1 : v ≤ G → gw v = v - 1 := fun h => by
    have := gw_one (v - 1) (by omega)
    rw [show v - 1 + 1 = v by omega] at this
    exact this
  refine ⟨h1, ?_⟩
  by_cases h : v ≤ G
  · rw [decide_eq_true h, h1 h, decide_eq_true]
    unfold wd
    rw [if_pos ⟨by omega, by omega, by omega, by omega⟩]
    omega
  · rw [decide_eq_false h, decide_eq_false]
    have hg : ¬ (0 ≤ gw v ∧ gw v < G) := by
      simp [gw, IntKind.wrap, IntKind.bits, IntKind.signed]
      split <;> omega
    unfold wd
    rw [if_neg (fun hh => hg ⟨hh.1, hh.2.1⟩)]
    omega
theorem lists_len {w : World} {base : Nat} {e : TypeId} {size : Nat} {v : Value} {n : Nat} {xs : List Value} (h : w.ownsRow base e size v n xs) : n ≤ maxLen := by
  rcases h.2 with ⟨e0, h0⟩ | ⟨gb, cp, cur, e0, hb, hh, hnc, hcm, rest⟩
  · omega
  · omega
theorem IntsOn.cell {w : World} {base : Nat} {v : Value} {l : List Int} (h : IntsOn w base v l) {j : Nat} (hj : j < l.length) : ∃ gb cap, v = .slice (some ⟨gb, 0, none⟩) l.length cap ∧ w.cell? ⟨gb, j, none⟩ = some (.int .i64 (l.getD j 0)) := by
  rcases h.own.2 with ⟨e, h0⟩ | ⟨gb, cp, cur, e, hb, hh, hnc, hcm, hcs, htk⟩
  · omega
  · subst e
    refine ⟨gb, cp, rfl, ?_⟩
    have hc := h.own.cellAt j (by omega)
    rw [List.getElem?_map, List.getElem?_eq_getElem hj] at hc
    rw [List.getD_eq_getElem?_getD, List.getElem?_eq_getElem hj]
    exact hc
end Go.Proofs.YtkiehfcohdeogaaGreat

namespace Go.Proofs.YtkiehfcohdeogaaGreat
open Go Go.RowKit
set_option linter.unusedVariables false
set_option maxRecDepth 100000
set_option linter.unusedSimpArgs false

/-- A config as a value, and in a box of its own. -/
def cfgV (P T G : Int) : Value := .agg #[.int .i64 P, .int .i64 T, .int .i64 G]
def cfgA (P T G : Int) : Array Value := #[.int .i64 P, .int .i64 T, .int .i64 G]
theorem refg_any (P T G g f : Int) (w : World) (hp : 0 ≤ P ∧ P ≤ 64) (hT : 0 ≤ T ∧ T ≤ 65536) (hg : 0 ≤ g ∧ g ≤ 65536) (hf : 0 ≤ f ∧ f < 2) : Calls Tryz.prog 119 #[.agg #[.int .i64 P, .int .i64 T, .int .i64 G], .int .i64 g, .int .i64 f] w fun e w' => e = .returned (.int .i64 (20 + 264 * P + 3 * T + 2 * g + f)) ∧ Below w.heap.size w w' := by
  have hb : Below w.heap.size w (w.alloc (.cells #[.int .i64 P, .int .i64 T, .int .i64 G] 23)) := (Below.refl _ _).alloc (Nat.le_refl _) _
  go_enter Tryz.func119, Tryz.ntmps119
  go_wp2_with fail
  go_ret
  exact ⟨ret_int (by first | rfl | omega | (unfold wrap64; omega)), hb⟩
theorem refgAt_any (P T G g f : Int) (w : World) (hp : 0 ≤ P ∧ P ≤ 64) (hT : 0 ≤ T ∧ T ≤ 65536) (hG : G ≤ 65536) (hf : 0 ≤ f ∧ f < 2) :
    Calls Tryz.prog 70 #[.agg #[.int .i64 P, .int .i64 T, .int .i64 G], .int .i64 g, .int .i64 f] w fun e w' => e = .returned (.int .i64 (wd (20 + P * 264 + T * 3) G 2 g f)) ∧ Below w.heap.size w w' := by
  have hb : Below w.heap.size w (w.alloc (.cells #[.int .i64 P, .int .i64 T, .int .i64 G] 23)) := (Below.refl _ _).alloc (Nat.le_refl _) _
  by_cases hg : 0 ≤ g ∧ g < G
  · have e : 20 + 264 * P + 3 * T + 2 * g + f = wd (20 + P * 264 + T * 3) G 2 g f := by unfold wd; rw [if_pos ⟨hg.1, hg.2, by omega, by omega⟩]; omega
    have hT := refg_any P T G g f (w.alloc (.cells #[.int .i64 P, .int .i64 T, .int .i64 G] 23)) hp hT (by omega) hf
    rw [e] at hT
    generalize wd (20 + P * 264 + T * 3) G 2 g f = nt at *
    clear e
    have hX : Hid (Blk (w.alloc (.cells #[.int .i64 P, .int .i64 T, .int .i64 G] 23)) w.heap.size #[.int .i64 P, .int .i64 T, .int .i64 G] 23) := Blk.new _ _ _
    have HB : Hid (Below w.heap.size w (w.alloc (.cells #[.int .i64 P, .int .i64 T, .int .i64 G] 23))) := hb
    have hsz := World.size_alloc w (.cells #[.int .i64 P, .int .i64 T, .int .i64 G] 23)
    have d1 : decide (g < 0) = false := decide_eq_false (by omega)
    have d2 : decide (G ≤ g) = false := decide_eq_false (by omega)
    clear hb
    go_enter Tryz.func70, Tryz.ntmps70
    go_wp2_with fail
    go_at_call 119; refine hT.mono ?_; rintro e w1 ⟨rfl, h1⟩
    have h2 := HB.out.trans (h1.mono HB.out.size)
    clear hT h1
    go_wp2_with fail
    go_ret
    exact ⟨rfl, h2⟩
  · have e : wd (20 + P * 264 + T * 3) G 2 g f = -1 := by unfold wd; rw [if_neg (fun h => hg ⟨h.1, h.2.1⟩)]
    rw [e]
    by_cases h0 : g < 0
    · clear hg e
      go_enter Tryz.func70, Tryz.ntmps70
      go_wp2_with fail
      go_ret
      exact ⟨rfl, hb⟩
    · have d1 : decide (g < 0) = false := decide_eq_false h0
      have h1 : G ≤ g := by omega
      clear hg e
      go_enter Tryz.func70, Tryz.ntmps70
      go_wp2_with fail
      go_ret
      exact ⟨rfl, hb⟩
end Go.Proofs.YtkiehfcohdeogaaGreat

namespace Go.Proofs.YtkiehfcohdeogaaGreat
open Go Go.RowKit
set_option linter.unusedVariables false
set_option maxRecDepth 100000
set_option linter.unusedSimpArgs false

theorem gg_acqIn (who G : Int) (gl : Int → Int) : AcqIn (ggPM who gl G) 1 who (fun p => p.goes .acq .ld) where
  f := rfl
  w := fun t => rfl
  h := fun t => rfl
  nf := fun v => rfl
  nw := fun t v => by
    show ((if v = t then AcqT.has t else AcqT.wait t)).goes GgT.acq GgT.ld = _
    split <;> rfl
  nh := fun t v => rfl
theorem gg_relIn (who G : Int) (gl : Int → Int) (r : Option Int) : RelIn (ggPM who gl G) 1 (GgT.rel r) where
  f := rfl
  p := rfl
  nf := fun v => rfl
  np := fun v => rfl

/-- What the reference answers: a word, and whether it was got. -/
structure GgAns (t : GgT) (wv : Int) (hd : Bool) : Prop where
  yes : hd = true → wrap64 (IntKind.i64.wrap wv - 1) = t.obs
  no : hd = false → t.obs = -1
  bd : 0 ≤ wv ∧ wv ≤ 18446744073709551615

theorem gg_stay {who G : Int} {gl : Int → Int} {s0 : GgT} {g : Nat → Int} {r : Option Int} {j : Nat} {p : RelT} (h : (ggPM who gl G).run s0 g j = .rel r p) : ∀ d, ∃ p, (ggPM who gl G).run s0 g (j + d) = .rel r p
  | 0 => ⟨p, h⟩
  | d + 1 => by
    obtain ⟨q, hq⟩ := gg_stay h d
    refine ⟨(relPM 4 5).nx q (g (j + d)), ?_⟩
    show (ggPM who gl G).nx ((ggPM who gl G).run s0 g (j + d)) (g (j + d)) = _
    rw [hq]
    rfl
def GgT.Early : GgT → Prop
  | .rel _ _ => False
  | _ => True
theorem GgT.Early.obs {t : GgT} (h : t.Early) : t.obs = -1 := by
  cases t <;> first | rfl | cases h
/-- What is answered, when all is done but the release. -/
theorem gg_ans {who G : Int} {gl : Int → Int} {g : Nat → Int} {m j : Nat} {t : GgT} {r : Option Int} (hS : Syn (ggPM who gl G) (.acq .fresh) g m j (.rel r .fresh) GgT.Early) (hh : Hist (ggPM who gl G) (.acq .fresh) g m t) :
    (j ≤ m → t.obs = (GgT.rel r .fresh).obs) ∧ (m < j → t.obs = -1) := by
  refine ⟨fun hj => ?_, fun hj => ?_⟩
  · obtain ⟨p, hp⟩ := gg_stay (hS.at' hj) (m - j)
    rw [show j + (m - j) = m by omega, hh.at'] at hp
    rw [hp]
    cases r <;> rfl
  · have := (hS.past hj).1
    rw [hh.at'] at this
    exact this.obs

set_option maxHeartbeats 2000000 in
theorem rgget_on (w : World) (x : Nat) (A : Option Addr) (cap m : Nat) (gf : Nat → Int) (who P T G : Int) (t : GgT) (h : RunOn w x A cap m gf rn0) (hh : Hist (ggPM who (fun y => wd (20 + P * 264 + T * 3) G 2 y 1) G) (.acq .fresh) gf m t) (hp : 0 ≤ P ∧ P ≤ 64) (hT : 0 ≤ T ∧ T ≤ 65536) (hG : 0 ≤ G ∧ G ≤ 65536) (hw : 0 ≤ who ∧ who ≤ 300) :
    Calls Tryz.prog 13 #[.pointer (some ⟨x, 0, none⟩), .agg #[.int .i64 P, .int .i64 T, .int .i64 G], .int .i64 who] w fun e w' => ∃ wv hd, e = .returned (.tuple #[.int .u64 wv, .bool hd]) ∧ GgAns t wv hd ∧ RunOn w' x A cap m gf ((ggPM who (fun y => wd (20 + P * 264 + T * 3) G 2 y 1) G).rn t m) ∧ But [x] w w' := by
  have hb : Below w.heap.size w (w.alloc (.cells #[.int .i64 P, .int .i64 T, .int .i64 G] 23)) := (Below.refl _ _).alloc (Nat.le_refl _) _
  have HX : Hid (Blk (w.alloc (.cells #[.int .i64 P, .int .i64 T, .int .i64 G] 23)) w.heap.size #[.int .i64 P, .int .i64 T, .int .i64 G] 23) := Blk.new _ _ _
  have hxw := h.blk.lt
  have HB0 : Hid (But [x] w (w.alloc (.cells #[.int .i64 P, .int .i64 T, .int .i64 G] 23))) := But.of_below hb
  have hGA := fun y w => refgAt_any P T G y 1 w hp hT hG.2 (by omega)
  have hbd := hh.bd
  have hstay := fun (gg : Nat → Int) (j : Nat) (r : Option Int) (t : GgT) (hS : Syn (ggPM who (fun y => wd (20 + P * 264 + T * 3) G 2 y 1) G) (.acq .fresh) gg m j (.rel r .fresh) GgT.Early) (hh : Hist (ggPM who (fun y => wd (20 + P * 264 + T * 3) G 2 y 1) G) (.acq .fresh) gg m t) => gg_ans hS hh
  rw [← rj_start (M := ggPM who (fun y => wd (20 + P * 264 + T * 3) G 2 y 1) G) (s0 := GgT.acq .fresh) (g := gf) (m := m)] at h
  have hA := syn_acquire (gg_acqIn who G (fun y => wd (20 + P * 264 + T * 3) G 2 y 1)) (by omega) hw (h.below hb) (Syn.start _ (GgT.acq .fresh) gf m) hbd
  have HH : Hid (Hist (ggPM who (fun y => wd (20 + P * 264 + T * 3) G 2 y 1) G) (.acq .fresh) gf m t) := hh
  have HRI : Hid (∀ r, RelIn (ggPM who (fun y => wd (20 + P * 264 + T * 3) G 2 y 1) G) 1 (GgT.rel r)) := fun r => gg_relIn _ _ _ r
  have HBD : Hid (∀ j, j < m → 0 ≤ gf j ∧ gf j ≤ 18446744073709551615) := hbd
  have HAN : Hid _ := hstay
  have a1 : (ggPM who (fun y => wd (20 + P * 264 + T * 3) G 2 y 1) G).ax .ld = some (axLd 16) := rfl
  have a2 : ∀ y, (ggPM who (fun y => wd (20 + P * 264 + T * 3) G 2 y 1) G).ax (.lnk y) = some (axLd (wd (20 + P * 264 + T * 3) G 2 y 1)) := fun _ => rfl
  have a3 : ∀ y l, (ggPM who (fun y => wd (20 + P * 264 + T * 3) G 2 y 1) G).ax (.un y l) = some (axSt 16 l) := fun _ _ => rfl
  have a4 : (ggPM who (fun y => wd (20 + P * 264 + T * 3) G 2 y 1) G).ax .ldG = some (axLd 17) := rfl
  have a5 : ∀ n, (ggPM who (fun y => wd (20 + P * 264 + T * 3) G 2 y 1) G).ax (.mk n) = some (axSt 17 (n + 1)) := fun _ => rfl
  have a6 : ∀ r, (ggPM who (fun y => wd (20 + P * 264 + T * 3) G 2 y 1) G).ax (.rel r .over) = none := fun _ => rfl
  have n1 : ∀ v, (ggPM who (fun y => wd (20 + P * 264 + T * 3) G 2 y 1) G).nx .ld v = if v = 0 then .ldG else .lnk (gw v) := fun _ => rfl
  have n2 : ∀ y v, (ggPM who (fun y => wd (20 + P * 264 + T * 3) G 2 y 1) G).nx (.lnk y) v = .un y v := fun _ _ => rfl
  have n3 : ∀ y l v, (ggPM who (fun y => wd (20 + P * 264 + T * 3) G 2 y 1) G).nx (.un y l) v = .rel (some y) .fresh := fun _ _ _ => rfl
  have n4 : ∀ v, (ggPM who (fun y => wd (20 + P * 264 + T * 3) G 2 y 1) G).nx .ldG v = if v < G then .mk v else .rel none .fresh := fun _ => rfl
  have n5 : ∀ n v, (ggPM who (fun y => wd (20 + P * 264 + T * 3) G 2 y 1) G).nx (.mk n) v = .rel (some n) .fresh := fun _ _ => rfl
  have HAX : Hid _ := And.intro a1 (And.intro a2 (And.intro a3 (And.intro a4 (And.intro a5 (And.intro a6 (And.intro n1 (And.intro n2 (And.intro n3 (And.intro n4 n5)))))))))
  generalize hM : ggPM who (fun y => wd (20 + P * 264 + T * 3) G 2 y 1) G = M at *
  have wG : IntKind.u64.wrap G = G := wrap_u64 (by omega)
  clear h hh hbd hb hp hT hstay a1 a2 a3 a4 a5 a6 n1 n2 n3 n4 n5 hM
  go_enter Tryz.func13, Tryz.ntmps13
  go_wp2_with fail
  generalize w.alloc (.cells #[.int .i64 P, .int .i64 T, .int .i64 G] 23) = W at *
  go_at_call 68; refine hA.mono ?_; rintro e y1 ⟨⟨u, rfl⟩, j1, tt, hR, hS, hB, -⟩
  have HE1 : Hid (Syn M (.acq .fresh) gf m j1 .ld GgT.Early) := hS.weak (fun r hr => by
    rcases hr with hr | ⟨p, hp, rfl⟩
    · exact hr.elim
    · cases p with
      | over t => exact absurd rfl (hp t)
      | _ => trivial)
  have hL := syn_load hR HE1.out HBD.out 16 (fun _ => HAX.out.1)
  have HX1 : Hid (Blk y1 w.heap.size #[.int .i64 P, .int .i64 T, .int .i64 G] 23) := HX.out.but hB (by simp; omega)
  have HB1 : Hid (But [x] w y1) := HB0.out.trans hB
  clear hA hR hS hB HX HB0
  go_wp2_with fail
  go_at_call 69; refine hL.mono ?_; rintro e y2 ⟨v, rfl, hK⟩
  have HR2 : Hid (RunOn y2 x A cap m gf (M.rj (.acq .fresh) gf m (j1 + 1))) := hK.run
  have hvb := hK.bd
  have HS2 : Hid (Syn M (.acq .fresh) gf m (j1 + 1) (if v = 0 then .ldG else .lnk (gw v)) GgT.Early) := by
    have := hK.syn
    rw [HAX.out.2.2.2.2.2.2.1] at this
    exact this.weak (fun r hr => by rcases hr with rfl | hr; exact trivial; exact hr)
  have HX2 : Hid (Blk y2 w.heap.size #[.int .i64 P, .int .i64 T, .int .i64 G] 23) := HX1.out.but hK.but (by simp; omega)
  have HB2 : Hid (But [x] w y2) := HB1.out.trans hK.but
  have k0 := HX2.out.cell 0 (v := .int .i64 P) rfl
  have k1 := HX2.out.cell 1 (v := .int .i64 T) rfl
  have k2 := HX2.out.cell 2 (v := .int .i64 G) rfl
  have hxb := HX2.out.lt
  clear hL hK HX1 HB1 HE1
  by_cases h0 : v = 0
  · subst h0
    have hL2 := syn_load HR2.out (HS2.out.as (fun _ => if_pos rfl)) HBD.out 17 (fun _ => HAX.out.2.2.2.1)
    clear HS2 HR2 k0 k1 k2 hGA
    go_wp2_with fail
    go_at_call 69; refine hL2.mono ?_; rintro e y3 ⟨n, rfl, hK⟩
    have HR3 : Hid (RunOn y3 x A cap m gf (M.rj (.acq .fresh) gf m (j1 + 1 + 1))) := hK.run
    have hnb := hK.bd
    have HS3 : Hid (Syn M (.acq .fresh) gf m (j1 + 1 + 1) (if n < G then .mk n else .rel none .fresh) GgT.Early) := by
      have := hK.syn
      rw [HAX.out.2.2.2.2.2.2.2.2.2.1] at this
      exact this.weak (fun r hr => by rcases hr with rfl | hr; exact trivial; exact hr)
    have HX3 : Hid (Blk y3 w.heap.size #[.int .i64 P, .int .i64 T, .int .i64 G] 23) := HX2.out.but hK.but (by simp; omega)
    have HB3 : Hid (But [x] w y3) := HB2.out.trans hK.but
    have k2 := HX3.out.cell 2 (v := .int .i64 G) rfl
    clear hL2 hK HX2 HB2
    by_cases hlt : n < G
    · have hSt := syn_store HR3.out (HS3.out.as (fun _ => if_pos hlt)) HBD.out 17 (n + 1) (fun _ => HAX.out.2.2.2.2.1 n)
      have w1 : IntKind.u64.wrap (n + 1) = n + 1 := wrap_u64 (by omega)
      have HNB : Hid (0 ≤ n ∧ n < G) := ⟨hnb.1, hlt⟩
      have hgot : (n + 1 != 0) = true := by simp; omega
      have hgn : n + 1 ≠ 0 := by omega
      have HGB : Hid (0 ≤ n + 1 ∧ n + 1 ≤ 18446744073709551615) := ⟨by omega, by omega⟩
      have HYES : Hid (wrap64 (IntKind.i64.wrap (n + 1) - 1) = n) := by rw [gw_eq _ (by omega), gw_one n (by omega)]; rfl
      clear HS3 HR3
      go_wp2_with fail
      go_at_call 71; refine hSt.mono ?_; rintro e y4 ⟨⟨u4, rfl⟩, v4, hK⟩
      have HR4 : Hid (RunOn y4 x A cap m gf (M.rj (.acq .fresh) gf m (j1 + 1 + 1 + 1))) := hK.run
      have HS4 : Hid (Syn M (.acq .fresh) gf m (j1 + 1 + 1 + 1) (.rel (some n) .fresh) GgT.Early) := by
        have := hK.syn
        rw [HAX.out.2.2.2.2.2.2.2.2.2.2] at this
        exact this.weak (fun r hr => by rcases hr with rfl | hr; exact trivial; exact hr)
      have HB4 : Hid (But [x] w y4) := HB3.out.trans hK.but
      clear hSt hK HX3 HB3 k2
      by_cases hst : m < j1 + 1 + 1 + 1
      · have HST : Hid (m < j1 + 1 + 1 + 1) := hst
        have sc := HR4.out.blk.cell 2 (v := .bool (M.rj (.acq .fresh) gf m (j1 + 1 + 1 + 1)).stop) rfl
        rw [rj_stop HS4.out, decide_eq_true hst] at sc
        have HANS : Hid _ := HAN.out gf (j1 + 1 + 1 + 1) _ t HS4.out HH.out
        have hRl := syn_release (HRI.out _) (by omega) HR4.out HS4.out HBD.out
        clear hst
        go_wp2_with fail
        go_at_call 72; refine hRl.mono ?_; rintro e y9 ⟨⟨u9, rfl⟩, j9, hR9, hS9, hB9, -⟩
        have hF : RunOn y9 x A cap m gf (M.rn t m) := by
          rw [← rj_end hS9 HH.out (fun _ => HAX.out.2.2.2.2.2.1 _)]
          exact hR9
        have HF : Hid (RunOn y9 x A cap m gf (M.rn t m) ∧ But [x] w y9) := ⟨hF, HB4.out.trans hB9⟩
        clear hRl hR9 hS9 hB9 hF sc
        go_wp2_with fail
        go_returns
        exact ⟨n + 1, false, rfl, ⟨(fun h => by cases h), fun _ => HANS.out.2 HST.out, HGB.out⟩, HF.out⟩
      · have HST : Hid (j1 + 1 + 1 + 1 ≤ m) := (by omega : j1 + 1 + 1 + 1 ≤ m)
        have sc := HR4.out.blk.cell 2 (v := .bool (M.rj (.acq .fresh) gf m (j1 + 1 + 1 + 1)).stop) rfl
        rw [rj_stop HS4.out, decide_eq_false hst] at sc
        have HANS : Hid _ := HAN.out gf (j1 + 1 + 1 + 1) _ t HS4.out HH.out
        have hRl := syn_release (HRI.out _) (by omega) HR4.out HS4.out HBD.out
        clear hst
        go_wp2_with fail
        go_at_call 72; refine hRl.mono ?_; rintro e y9 ⟨⟨u9, rfl⟩, j9, hR9, hS9, hB9, -⟩
        have hF : RunOn y9 x A cap m gf (M.rn t m) := by
          rw [← rj_end hS9 HH.out (fun _ => HAX.out.2.2.2.2.2.1 _)]
          exact hR9
        have HF : Hid (RunOn y9 x A cap m gf (M.rn t m) ∧ But [x] w y9) := ⟨hF, HB4.out.trans hB9⟩
        clear hRl hR9 hS9 hB9 hF sc
        go_wp2_with fail
        go_returns
        exact ⟨n + 1, true, rfl, ⟨fun _ => by rw [HANS.out.1 HST.out]; exact HYES.out, (fun h => by cases h), HGB.out⟩, HF.out⟩
    · have HS3' : Hid (Syn M (.acq .fresh) gf m (j1 + 1 + 1) (.rel none .fresh) GgT.Early) := HS3.out.as (fun _ => if_neg hlt)
      have hd : decide (n < G) = false := decide_eq_false hlt
      clear HS3
      by_cases hst : m < j1 + 1 + 1
      · have HST : Hid (m < j1 + 1 + 1) := hst
        have sc := HR3.out.blk.cell 2 (v := .bool (M.rj (.acq .fresh) gf m (j1 + 1 + 1)).stop) rfl
        rw [rj_stop HS3'.out, decide_eq_true hst] at sc
        have HANS : Hid _ := HAN.out gf (j1 + 1 + 1) _ t HS3'.out HH.out
        have hRl := syn_release (HRI.out _) (by omega) HR3.out HS3'.out HBD.out
        clear hst
        go_wp2_with fail
        go_at_call 72; refine hRl.mono ?_; rintro e y9 ⟨⟨u9, rfl⟩, j9, hR9, hS9, hB9, -⟩
        have hF : RunOn y9 x A cap m gf (M.rn t m) := by
          rw [← rj_end hS9 HH.out (fun _ => HAX.out.2.2.2.2.2.1 _)]
          exact hR9
        have HF : Hid (RunOn y9 x A cap m gf (M.rn t m) ∧ But [x] w y9) := ⟨hF, HB3.out.trans hB9⟩
        clear hRl hR9 hS9 hB9 hF sc
        go_wp2_with fail
        go_returns
        exact ⟨0, false, rfl, ⟨(fun h => by cases h), fun _ => HANS.out.2 HST.out, by omega⟩, HF.out⟩
      · have HST : Hid (j1 + 1 + 1 ≤ m) := (by omega : j1 + 1 + 1 ≤ m)
        have sc := HR3.out.blk.cell 2 (v := .bool (M.rj (.acq .fresh) gf m (j1 + 1 + 1)).stop) rfl
        rw [rj_stop HS3'.out, decide_eq_false hst] at sc
        have HANS : Hid _ := HAN.out gf (j1 + 1 + 1) _ t HS3'.out HH.out
        have hRl := syn_release (HRI.out _) (by omega) HR3.out HS3'.out HBD.out
        clear hst
        go_wp2_with fail
        go_at_call 72; refine hRl.mono ?_; rintro e y9 ⟨⟨u9, rfl⟩, j9, hR9, hS9, hB9, -⟩
        have hF : RunOn y9 x A cap m gf (M.rn t m) := by
          rw [← rj_end hS9 HH.out (fun _ => HAX.out.2.2.2.2.2.1 _)]
          exact hR9
        have HF : Hid (RunOn y9 x A cap m gf (M.rn t m) ∧ But [x] w y9) := ⟨hF, HB3.out.trans hB9⟩
        clear hRl hR9 hS9 hB9 hF sc
        go_wp2_with fail
        go_returns
        exact ⟨0, false, rfl, ⟨(fun h => by cases h), fun _ => HANS.out.1 HST.out, by omega⟩, HF.out⟩
  · have hd0 : (v == 0) = false := by simpa using h0
    have hd1 : (v != 0) = true := by simpa using h0
    have hL2 := fun Y (hY : Below y2.heap.size y2 Y) => syn_load (HR2.out.below hY) (HS2.out.as (fun _ => if_neg h0)) HBD.out (wd (20 + P * 264 + T * 3) G 2 (gw v) 1) (fun _ => HAX.out.2.1 (gw v))
    have HL2 : Hid _ := hL2
    have hGA2 := hGA (gw v) y2
    have e1 : wrap64 (IntKind.i64.wrap v - 1) = gw v := gw_eq v hvb
    have HYES : Hid (wrap64 (IntKind.i64.wrap v - 1) = gw v) := e1
    have HGB : Hid (0 ≤ v ∧ v ≤ 18446744073709551615) := hvb
    generalize hyy : gw v = y at *
    generalize hvv : IntKind.i64.wrap v = v' at *
    clear hL2 hGA HS2 HR2 hyy
    go_wp2_with fail
    go_at_call 70; refine hGA2.mono ?_; rintro e y3 ⟨rfl, h3⟩
    have hL3 := HL2.out y3 h3
    have HB3 : Hid (But [x] w y3) := HB2.out.trans (But.of_below h3)
    clear hGA2 h3 k0 k1 k2 HX2 HB2 HL2
    go_wp2_with fail
    go_at_call 69; refine hL3.mono ?_; rintro e y4 ⟨l, rfl, hK⟩
    have hS4 : Syn M (.acq .fresh) gf m (j1 + 1 + 1) (.un y l) GgT.Early := by
      have := hK.syn
      rw [HAX.out.2.2.2.2.2.2.2.1] at this
      exact this.weak (fun r hr => by rcases hr with rfl | hr; exact trivial; exact hr)
    have hSt := syn_store hK.run hS4 HBD.out 16 l (fun _ => HAX.out.2.2.1 y l)
    have HB4a : Hid (But [x] w y4) := HB3.out.trans hK.but
    clear hL3 hK hS4 HB3
    go_wp2_with fail
    go_at_call 71; refine hSt.mono ?_; rintro e y5 ⟨⟨u5, rfl⟩, v5, hK⟩
    have HR4 : Hid (RunOn y5 x A cap m gf (M.rj (.acq .fresh) gf m (j1 + 1 + 1 + 1))) := hK.run
    have HS4 : Hid (Syn M (.acq .fresh) gf m (j1 + 1 + 1 + 1) (.rel (some y) .fresh) GgT.Early) := by
      have := hK.syn
      rw [HAX.out.2.2.2.2.2.2.2.2.1] at this
      exact this.weak (fun r hr => by rcases hr with rfl | hr; exact trivial; exact hr)
    have HB4 : Hid (But [x] w y5) := HB4a.out.trans hK.but
    clear hSt hK HB4a
    by_cases hst : m < j1 + 1 + 1 + 1
    · have HST : Hid (m < j1 + 1 + 1 + 1) := hst
      have sc := HR4.out.blk.cell 2 (v := .bool (M.rj (.acq .fresh) gf m (j1 + 1 + 1 + 1)).stop) rfl
      rw [rj_stop HS4.out, decide_eq_true hst] at sc
      have HANS : Hid _ := HAN.out gf (j1 + 1 + 1 + 1) _ t HS4.out HH.out
      have hRl := syn_release (HRI.out _) (by omega) HR4.out HS4.out HBD.out
      clear hst
      go_wp2_with fail
      go_at_call 72; refine hRl.mono ?_; rintro e y9 ⟨⟨u9, rfl⟩, j9, hR9, hS9, hB9, -⟩
      have hF : RunOn y9 x A cap m gf (M.rn t m) := by
        rw [← rj_end hS9 HH.out (fun _ => HAX.out.2.2.2.2.2.1 _)]
        exact hR9
      have HF : Hid (RunOn y9 x A cap m gf (M.rn t m) ∧ But [x] w y9) := ⟨hF, HB4.out.trans hB9⟩
      clear hRl hR9 hS9 hB9 hF sc
      go_wp2_with fail
      go_returns
      exact ⟨v, false, rfl, ⟨(fun h => by cases h), fun _ => HANS.out.2 HST.out, HGB.out⟩, HF.out⟩
    · have HST : Hid (j1 + 1 + 1 + 1 ≤ m) := (by omega : j1 + 1 + 1 + 1 ≤ m)
      have sc := HR4.out.blk.cell 2 (v := .bool (M.rj (.acq .fresh) gf m (j1 + 1 + 1 + 1)).stop) rfl
      rw [rj_stop HS4.out, decide_eq_false hst] at sc
      have HANS : Hid _ := HAN.out gf (j1 + 1 + 1 + 1) _ t HS4.out HH.out
      have hRl := syn_release (HRI.out _) (by omega) HR4.out HS4.out HBD.out
      clear hst
      go_wp2_with fail
      go_at_call 72; refine hRl.mono ?_; rintro e y9 ⟨⟨u9, rfl⟩, j9, hR9, hS9, hB9, -⟩
      have hF : RunOn y9 x A cap m gf (M.rn t m) := by
        rw [← rj_end hS9 HH.out (fun _ => HAX.out.2.2.2.2.2.1 _)]
        exact hR9
      have HF : Hid (RunOn y9 x A cap m gf (M.rn t m) ∧ But [x] w y9) := ⟨hF, HB4.out.trans hB9⟩
      clear hRl hR9 hS9 hB9 hF sc
      go_wp2_with fail
      go_returns
      exact ⟨v, true, rfl, ⟨fun _ => by rw [HANS.out.1 HST.out]; exact (by rw [hvv]; exact HYES.out), (fun h => by cases h), HGB.out⟩, HF.out⟩
end Go.Proofs.YtkiehfcohdeogaaGreat

namespace Go.Proofs.YtkiehfcohdeogaaGreat
open Go Go.RowKit
set_option linter.unusedVariables false
set_option maxRecDepth 100000
set_option linter.unusedSimpArgs false

set_option maxHeartbeats 4000000 in
theorem rlist11_any (w : World) (A : Option Addr) (cap c b n : Nat) (s : St) (P T G : Int) (hI : Is w 61 A cap c b n s) (hn : (n : Int) = 20 + 264 * P + 3 * T + 2 * G) (hp : 0 ≤ P ∧ P ≤ 64) (hT : 0 ≤ T ∧ T ≤ 65536) (hG : 0 ≤ G ∧ G ≤ 65536) :
    Calls Tryz.prog 20 #[.agg #[.int .i64 P, .int .i64 T, .int .i64 G], .pointer (some ⟨c, 0, none⟩)] w fun e w' => ∃ v, e = .returned (.tuple #[v, .bool (lsOf (fun g => peekT n s (wd (20 + P * 264 + T * 3) G 2 g 1)) G (peekT n s 16)).2]) ∧ IntsOn w' (w.heap.size + 1) v (lsOf (fun g => peekT n s (wd (20 + P * 264 + T * 3) G 2 g 1)) G (peekT n s 16)).1 ∧ Below w.heap.size w w' := by
  obtain ⟨i0, hi, hz0, hz1, hz2⟩ := info_parts lists_info3
  have hn6 : n ≤ 1000000 := by omega
  have hb0 : Below w.heap.size w (w.alloc (.cells #[.int .i64 P, .int .i64 T, .int .i64 G] 23)) := (Below.refl _ _).alloc (Nat.le_refl _) _
  have HX : Hid (Blk (w.alloc (.cells #[.int .i64 P, .int .i64 T, .int .i64 G] 23)) w.heap.size #[.int .i64 P, .int .i64 T, .int .i64 G] 23) := Blk.new _ _ _
  have HI : Hid (∀ W, Below w.heap.size w W → Is W 61 A cap c b n s) := fun W h => hI.below h
  have HPB : Hid (∀ i, 0 ≤ peekT n s i ∧ peekT n s i ≤ 18446744073709551615) := fun i => by
    unfold peekT
    split
    · exact hI.bd _ (by omega)
    · omega
  have HGA : Hid (∀ g W, Calls Tryz.prog 70 #[.agg #[.int .i64 P, .int .i64 T, .int .i64 G], .int .i64 g, .int .i64 1] W fun e w' => e = .returned (.int .i64 (wd (20 + P * 264 + T * 3) G 2 g 1)) ∧ Below W.heap.size W w') := fun g W => refgAt_any P T G g 1 W hp hT hG.2 (by omega)
  have HIS : Hid (∀ v, 0 ≤ v ∧ v ≤ 18446744073709551615 → v ≠ 0 → (v ≤ G → gw v = v - 1) ∧ decide (0 ≤ wd (20 + P * 264 + T * 3) G 2 (gw v) 1 ∧ wd (20 + P * 264 + T * 3) G 2 (gw v) 1 < n) = decide (v ≤ G)) := fun v hv h0 => is_word P T G n v hn hp hT hG hv h0
  have HB0 : Hid _ := hb0
  have hP1 := rpeek_any (w.alloc (.cells #[.int .i64 P, .int .i64 T, .int .i64 G] 23)) A cap c b n s 16 hn6 (hI.below hb0)
  have HR : Hid (∃ r, lsOf (fun g => peekT n s (wd (20 + P * 264 + T * 3) G 2 g 1)) G (peekT n s 16) = r) := ⟨_, rfl⟩
  obtain ⟨r, hr⟩ := HR.out
  rw [hr]
  have HNX : Hid (∃ pl : Int → Int, (fun g => wd (20 + P * 264 + T * 3) G 2 g 1) = pl) := ⟨_, rfl⟩
  obtain ⟨pl, hpl⟩ := HNX.out
  have hplg : ∀ g, wd (20 + P * 264 + T * 3) G 2 g 1 = pl g := fun g => congrFun hpl g
  simp only [hplg] at HGA HIS hr
  clear hI HR HNX hb0 hp hT hpl hplg hn
  go_enter Tryz.func20, Tryz.ntmps20
  go_wp2_with fail
  have hsz : (w.alloc (.cells #[.int .i64 P, .int .i64 T, .int .i64 G] 23)).heap.size = w.heap.size + 1 := World.size_alloc _ _
  generalize w.alloc (.cells #[.int .i64 P, .int .i64 T, .int .i64 G] 23) = W at *
  go_at_call 74; refine hP1.mono ?_; rintro e w2 ⟨rfl, hw2⟩
  subst hw2
  have HW0 : Hid (0 ≤ peekT n s 16 ∧ peekT n s 16 ≤ 18446744073709551615) := HPB.out 16
  have HR0 : Hid (lsGo (fun g => peekT n s (pl g)) G (G.toNat + 1) [] (peekT n s 16) = r) := hr
  generalize peekT n s 16 = fw at *
  clear hP1 hr
  go_wp2_with fail
  go_loopw [6, 7, 9] (fun v x k wr => ∃ (acc : List Int) (wv : Int), x = .int .u64 wv ∧ k = .int .i64 acc.length ∧ Hid (0 ≤ wv ∧ wv ≤ 18446744073709551615) ∧ Hid (wr.ownsRow (w.heap.size + 1) 3 1 v acc.length (acc.map (Value.int .i64))) ∧
      Hid (Below w.heap.size w wr) ∧ w.heap.size + 1 ≤ wr.heap.size ∧ Hid (Blk wr w.heap.size #[.int .i64 P, .int .i64 T, .int .i64 G] 23) ∧ Hid (acc.Nodup ∧ ∀ y ∈ acc, 0 ≤ y ∧ y < G) ∧ acc.length ≤ G.toNat ∧ Hid (lsGo (fun g => peekT n s (pl g)) G (G.toNat + 1 - acc.length) acc wv = r))
    (fun _ _ k _ => G.toNat + 1 - (intOf k).toNat)
  case atStart => exact ⟨[], fw, rfl, rfl, HW0, World.ownsRow_nil _ _ _ _, HB0, by omega, HX, ⟨List.nodup_nil, by simp⟩, by simp, HR0⟩
  case round =>
    clear HW0 HR0 HB0 HX
    obtain ⟨acc, wv, rfl, rfl, HWB, HO, HB, hsz2, HK, HN, hlen, HRR⟩ := hrel
    have k2 := HK.out.cell 2 (v := .int .i64 G) rfl
    have hlG : (acc.length : Int) ≤ G := by omega
    by_cases h0 : wv = 0
    · subst h0
      have HE : Hid (r = (acc, true)) := by
        have := HRR.out
        obtain ⟨f, hf⟩ : ∃ f, G.toNat + 1 - acc.length = f + 1 := ⟨G.toNat - acc.length, by omega⟩
        rw [hf] at this
        exact this.symm.trans (if_pos rfl)
      clear HRR
      go_wp2_with fail
      go_returns
      rw [HE.out]
      exact ⟨_, rfl, ⟨HO.out⟩, HB.out⟩
    · have hd0 : (wv == 0) = false := by simpa using h0
      have hd1 : (wv != 0) = true := by simpa using h0
      obtain ⟨q1, q2⟩ := HIS.out wv HWB.out h0
      have e1 : wrap64 (IntKind.i64.wrap wv - 1) = gw wv := gw_eq wv HWB.out
      have hGA := HGA.out (gw wv)
      have HQ1 : Hid (wv ≤ G → gw wv = wv - 1) := q1
      have HH0 : Hid (wv ≠ 0) := h0
      have k0 := HK.out.cell 0 (v := .int .i64 P) rfl
      have k1 := HK.out.cell 1 (v := .int .i64 T) rfl
      generalize hgg : gw wv = gv at *
      have HGG : Hid (gw wv = gv) := hgg
      clear q1 hgg
      generalize hii : IntKind.i64.wrap wv = iv at *
      go_wp2_with fail
      go_at_call 70; refine (hGA _).mono ?_; rintro e w3 ⟨rfl, h3⟩
      have HB3 : Hid (Below w.heap.size w w3) := seq HB.out h3
      have HO3 : Hid (w3.ownsRow (w.heap.size + 1) 3 1 _ acc.length (acc.map (Value.int .i64))) := row_below HO.out h3
      have HK3 : Hid (Blk w3 w.heap.size #[.int .i64 P, .int .i64 T, .int .i64 G] 23) := HK.out.but (But.of_below (l := []) h3) (by simp)
      have hs3 : w.heap.size + 1 ≤ w3.heap.size := Nat.le_trans hsz2 h3.size
      have hP := rpeek_any w3 A cap c b n s (pl gv) hn6 (HI.out w3 HB3.out)
      rw [q2] at hP
      clear hGA h3 HB HO HK k0 k1 k2 q2
      by_cases hle : wv ≤ G
      · rw [decide_eq_true hle] at hP
        have HLE : Hid (wv ≤ G) := hle
        have hgv : gv = wv - 1 := HQ1.out hle
        have HGV : Hid (gv = wv - 1) := hgv
        have HPV : Hid (0 ≤ peekT n s (pl gv) ∧ peekT n s (pl gv) ≤ 18446744073709551615) := HPB.out _
        have HNXT : Hid (∀ f, (wv - 1) ∉ acc → lsGo (fun g => peekT n s (pl g)) G (f + 1) acc wv = lsGo (fun g => peekT n s (pl g)) G f (acc ++ [gv]) (peekT n s (pl gv))) := fun f hf => by
          rw [lsGo, if_neg HH0.out, if_neg (fun h => by rcases h with h | h; exact hf h; have := HLE.out; omega), ← HGV.out]
        generalize peekT n s (pl gv) = nv at *
        clear hle hgv
        go_wp2_with fail
        go_at_call 74; refine hP.mono ?_; rintro e w4 ⟨rfl, hw4⟩
        subst hw4
        clear hP
        go_wp2_with fail
        go_loopw [13] (fun i wi => ∃ j : Nat, j ≤ acc.length ∧ i = .int .i64 j ∧ wi = w3 ∧ Hid (∀ q, q < j → acc.getD q 0 ≠ gv)) (fun i _ => acc.length - (intOf i).toNat)
        case atStart => exact ⟨0, Nat.zero_le _, rfl, rfl, fun q hq => absurd hq (Nat.not_lt_zero q)⟩
        case round =>
          obtain ⟨j, hj, rfl, rfl, HNE⟩ := hrel
          obtain ⟨Ao, co, hvo⟩ := lists_slice HO3.out
          by_cases hlt : j < acc.length
          · obtain ⟨gb, cp, hv2, hc2⟩ := IntsOn.cell ⟨HO3.out⟩ hlt
            subst hv2
            have hj0 : (0 : Int) ≤ (j : Int) := by omega
            have hj1 : (j : Int) < (acc.length : Int) := by omega
            have HMEM : Hid (acc.getD j 0 ∈ acc) := by
              rw [List.getD_eq_getElem?_getD, List.getElem?_eq_getElem hlt]
              exact List.getElem_mem _
            have HJ : Hid (∃ o, acc.getD j 0 = o) := ⟨_, rfl⟩
            obtain ⟨o, ho⟩ := HJ.out
            rw [ho] at hc2
            have HOO : Hid (acc.getD j 0 = o) := ho
            clear ho HJ hvo
            by_cases heq : o = gv
            · subst heq
              have HE : Hid (r = (acc, false)) := by
                have h1 := HRR.out
                obtain ⟨f, hf⟩ : ∃ f, G.toNat + 1 - acc.length = f + 1 := ⟨G.toNat - acc.length, by omega⟩
                rw [hf, lsGo, if_neg HH0.out, if_pos (.inl (by rw [← HGV.out, ← HOO.out]; exact HMEM.out))] at h1
                exact h1.symm
              clear HRR
              go_wp2_with fail
              go_returns
              rw [HE.out]
              exact ⟨_, rfl, ⟨HO3.out⟩, HB3.out⟩
            · have hdq : decide (o = gv) = false := decide_eq_false heq
              have HNE2 : Hid (∀ q, q < j + 1 → acc.getD q 0 ≠ gv) := fun q hq => by
                by_cases h : q < j
                · exact HNE.out q h
                · obtain rfl : q = j := by omega
                  rw [HOO.out]; exact heq
              clear HNE
              go_wp2_with fail
              go_roundw
              case rel => exact ⟨j + 1, by omega, by go_num, trivial, HNE2⟩
              case measure => simp [intOf]; omega
          · obtain rfl : j = acc.length := by omega
            have hnin : (wv - 1) ∉ acc := fun hm => by
              obtain ⟨q, hq, he⟩ := List.mem_iff_getElem.1 hm
              refine HNE.out q hq ?_
              rw [List.getD_eq_getElem?_getD, List.getElem?_eq_getElem hq]
              simp only [Option.getD_some]
              rw [he, HGV.out]
            have hN2 : (acc ++ [gv]).Nodup ∧ ∀ y ∈ acc ++ [gv], 0 ≤ y ∧ y < G := by
              have h1 := HGV.out
              have h2 := HLE.out
              have h3 := HWB.out
              have h4 := HH0.out
              refine ⟨List.nodup_append.2 ⟨HN.out.1, by simp, ?_⟩, fun y hy => ?_⟩
              · intro a ha b hb
                simp at hb
                rintro rfl
                exact hnin (by rw [← h1, ← hb]; exact ha)
              · rcases List.mem_append.1 hy with hy | hy
                · exact HN.out.2 y hy
                · simp at hy; omega
            have hlen2 : acc.length + 1 ≤ G.toNat := by
              have := nodup_room G.toNat _ hN2.1 (fun x hx => by have := hN2.2 x hx; omega)
              simpa using this
            have HN2 : Hid _ := hN2
            have HE : Hid (lsGo (fun g => peekT n s (pl g)) G (G.toNat + 1 - (acc.length + 1)) (acc ++ [gv]) nv = r) := by
              have h1 := HRR.out
              rw [show G.toNat + 1 - acc.length = (G.toNat + 1 - (acc.length + 1)) + 1 by omega, HNXT.out _ hnin] at h1
              exact h1
            have hml : acc.length + 1 < maxLen := by unfold maxLen; omega
            have hO3 := HO3.out
            have hd9 : decide ((acc.length : Int) < (acc.length : Int)) = false := by simp
            clear HNE hnin hN2 HNXT HRR
            go_wp2_with (at_builtin; refine wpList_append_own _ rfl _ _ 54 rfl (w.heap.size + 1) 3 i0 (.int .i64 0) 1 8 Tryz.underlying54 hi hz0 hz1 hz2 rfl (by decide) _ _ _ rfl (hO3.alloc _) ⟨_, 0, none⟩ 1 1 [.int .i64 gv] rfl rfl (cell_one_new _ _ _) (ints_oneCell .i64 [gv]) (by unfold maxLen; omega) (by omega) (by simp; omega) ?_; intro v' w5 hown' hgrow2 hnil2)
            have s2 := hgrow2.size
            simp at s2
            have HO5 : Hid (w5.ownsRow (w.heap.size + 1) 3 1 v' (acc.length + 1) (List.map (Value.int .i64) acc ++ [Value.int .i64 gv])) := hown'
            have HB5 : Hid (Below w.heap.size w w5) := (HB3.out.alloc HB3.out.size _).grown hgrow2 (by simp; omega) (fun j hj => Nat.le_trans (Nat.le_succ _) (hO3.lt j hj).1)
            have HK5 : Hid (Blk w5 w.heap.size #[.int .i64 P, .int .i64 T, .int .i64 G] 23) := (HK3.out.al _).keep (hgrow2.block _ (by have := HK3.out.lt; simp; omega) (fun e => by have := (hO3.lt _ e.symm).1; omega))
            have hs5 : w.heap.size + 1 ≤ w5.heap.size := by omega
            clear hown' hgrow2 hnil2 s2 hO3 HO3 HB3 HK3 hvo
            go_wp2_with fail
            go_roundw
            case rel =>
              refine ⟨acc ++ [gv], nv, rfl, by rw [List.length_append]; go_num, HPV, ?_, HB5, hs5, HK5, HN2, by simpa using hlen2, by rw [List.length_append]; exact HE.out⟩
              have := HO5.out
              rw [List.length_append, List.map_append]
              exact this
            case measure => simp [intOf]; omega
      · rw [decide_eq_false hle] at hP
        have HE : Hid (r = (acc, false)) := by
          have h1 := HRR.out
          obtain ⟨f, hf⟩ : ∃ f, G.toNat + 1 - acc.length = f + 1 := ⟨G.toNat - acc.length, by omega⟩
          rw [hf, lsGo, if_neg h0, if_pos (.inr (by omega))] at h1
          exact h1.symm
        clear HRR hle
        generalize peekT n s (pl gv) = nv at *
        go_wp2_with fail
        go_at_call 74; refine hP.mono ?_; rintro e w4 ⟨rfl, hw4⟩
        subst hw4
        clear hP
        go_wp2_with fail
        go_returns
        rw [HE.out]
        exact ⟨_, rfl, ⟨HO3.out⟩, HB3.out⟩
end Go.Proofs.YtkiehfcohdeogaaGreat

namespace Go.Proofs.YtkiehfcohdeogaaGreat
open Go Go.RowKit
set_option linter.unusedVariables false
set_option maxRecDepth 100000
set_option linter.unusedSimpArgs false

/-- So many steps of a machine. -/
def PM.steps {σ : Type} (M : PM σ) (who : Int) (n : Nat) : Nat → σ × St → σ × St
  | 0, p => p
  | k + 1, p => PM.steps M who n k (M.goT n p.1 p.2, M.goS who n p.1 p.2)
theorem PM.steps_succ {σ : Type} (M : PM σ) (who : Int) (n : Nat) : ∀ (k : Nat) (p : σ × St), M.steps who n (k + 1) p = (M.goT n (M.steps who n k p).1 (M.steps who n k p).2, M.goS who n (M.steps who n k p).1 (M.steps who n k p).2)
  | 0, p => rfl
  | k + 1, p => PM.steps_succ M who n k (M.goT n p.1 p.2, M.goS who n p.1 p.2)
theorem PM.steps_low {σ : Type} (M : PM σ) (who : Int) (n : Nat) {m : Int} : ∀ (k : Nat) (p : σ × St), Low p.2 m → Low (M.steps who n k p).2 (m + k)
  | 0, p, h => h.more (by omega)
  | k + 1, p, h => (PM.steps_low M who n k (M.goT n p.1 p.2, M.goS who n p.1 p.2) (PM.goS_low h)).more (by omega)

/-- A machine over a memory, apart, with what is only read. -/
structure Solo {σ : Type} (I : MI σ) (R : Rd) (W0 w : World) (A : Option Addr) (cap c b n : Nat) (s : St) (x : Nat) (t : σ) (L : List Nat) : Prop where
  mem : Is w 129 A cap c b n s
  mach : I w x t L
  rd : R.P w
  far : ∀ k ∈ L, k ≠ c ∧ k ≠ b ∧ k ∉ R.B
  rfar : c ∉ R.B ∧ b ∉ R.B
  up : W0.heap.size ≤ c ∧ W0.heap.size ≤ b ∧ ∀ k ∈ L, W0.heap.size ≤ k
  rlt : ∀ k ∈ R.B, k < w.heap.size
  below : Below W0.heap.size W0 w
section
variable {σ : Type} {I : MI σ} {M : PM σ} {R Rm : Rd} {W0 w w' : World} {A : Option Addr} {cap c b n : Nat} {s : St} {x : Nat} {t : σ} {L : List Nat}
theorem Solo.still (hG : I.Good M) (h : Solo I R W0 w A cap c b n s x t L) (hb : Below w.heap.size w w') : Solo I R W0 w' A cap c b n s x t L :=
  ⟨h.mem.below hb, hG.below h.mach hb, R.below h.rd hb, h.far, h.rfar, h.up, fun k hk => Nat.lt_of_lt_of_le (h.rlt k hk) hb.size, h.below.trans (hb.mono h.below.size)⟩
theorem Solo.step (hG : I.Good M) {F : Nat} {who : Int} (hS : Steps M I Rm F who) (hRm : ∀ w, R.P w → Rm.P w) (hRb : ∀ k ∈ Rm.B, k ∈ R.B) (h : Solo I R W0 w A cap c b n s x t L) (hn : n ≤ 1000000) (hl : Low s 1000000) :
    Calls Tryz.prog F #[.pointer (some ⟨x, 0, none⟩), .pointer (some ⟨c, 0, none⟩)] w fun e w' => (e = .returned (.bool (M.ax (M.goT n t s)).isNone)) ∧ ∃ L', Solo I R W0 w' A cap c b n (M.goS who n t s) x (M.goT n t s) L' := by
  refine (hS w A cap c b n s x t L h.mach (hRm w h.rd) h.mem hn hl (fun k hk => ⟨(h.far k hk).1, (h.far k hk).2.1, fun hr => (h.far k hk).2.2 (hRb k hr)⟩) ⟨fun hr => h.rfar.1 (hRb c hr), fun hr => h.rfar.2 (hRb b hr)⟩).mono ?_
  rintro e w' ⟨rfl, L', a1, a2, a3, a4⟩
  have hsz := h.below.size
  have k1 := h.mem.lt
  have k2 := h.mem.bl
  refine ⟨rfl, L', a2, a1, R.keep _ _ _ h.rd a3 (fun k hk => ?_), fun k hk => ?_, h.rfar, ⟨h.up.1, h.up.2.1, fun k hk => ?_⟩, fun k hk => Nat.lt_of_lt_of_le (h.rlt k hk) a3.size, h.below.trans (a3.below ?_ hsz)⟩
  · simp only [List.mem_cons, not_or]
    exact ⟨fun e => h.rfar.1 (e ▸ hk), fun e => h.rfar.2 (e ▸ hk), fun hm => (h.far k hm).2.2 hk⟩
  · rcases a4 k hk with h1 | h1
    · exact h.far k h1
    · exact ⟨by omega, by omega, fun hr => by have := h.rlt k hr; omega⟩
  · rcases a4 k hk with h1 | h1
    · exact h.up.2.2 k h1
    · omega
  · intro k hk
    simp only [List.mem_cons] at hk
    rcases hk with rfl | rfl | hk
    · exact h.up.1
    · exact h.up.2.1
    · exact h.up.2.2 k hk
/-- How it begins. -/
theorem Solo.begin {w2 w3 : World} (hm : Is w2 129 A cap c b n s) (hb : Below w2.heap.size w2 w3) (hB2 : Below W0.heap.size W0 w2) (hup : W0.heap.size ≤ c ∧ W0.heap.size ≤ b) (hi : I w3 x t L) (hL : ∀ k ∈ L, w2.heap.size ≤ k) (hr : R.P w2) (hrl : ∀ k ∈ R.B, k < w2.heap.size) (hrf : c ∉ R.B ∧ b ∉ R.B) : Solo I R W0 w3 A cap c b n s x t L := by
  have k1 := hm.lt
  have k2 := hm.bl
  have hsz := hB2.size
  refine ⟨hm.below hb, hi, R.below hr hb, fun k hk => ?_, hrf, ⟨hup.1, hup.2, fun k hk => Nat.le_trans hsz (hL k hk)⟩, fun k hk => Nat.lt_of_lt_of_le (hrl k hk) hb.size, hB2.trans (hb.mono hsz)⟩
  have h1 := hL k hk
  exact ⟨by omega, by omega, fun hr => by have := hrl k hr; omega⟩
end
end Go.Proofs.YtkiehfcohdeogaaGreat

namespace Go.Proofs.YtkiehfcohdeogaaGreat
open Go Go.RowKit
set_option linter.unusedVariables false
set_option maxRecDepth 100000
set_option linter.unusedSimpArgs false

def gaM : PM GgT := ggPM 0 (fun y => wd (20 + 1 * 264 + 1 * 3) 2 2 y 1) 2
def gaC (cl : Nat) : Cp GgT := ggCp 0 (fun y => wd (20 + 1 * 264 + 1 * 3) 2 2 y 1) 2 cl
def gaN : PM GpT := gpPM 0 0 (wd (20 + 1 * 264 + 1 * 3) 2 2 0 1)
def gaD (cl : Nat) : Cp GpT := gpCp 0 0 (wd (20 + 1 * 264 + 1 * 3) 2 2 0 1) cl
def gaAt : Nat → St
  | 0 => fresh (fun _ => 0)
  | i + 1 => (gaM.steps 0 291 9 (.acq .fresh, gaAt i)).2
def gaT (j : Nat) : GgT := (gaM.steps 0 291 9 (.acq .fresh, gaAt j)).1
def gaW (j : Nat) : Int := if j = 0 then 0 else if j = 1 then 1 else -1
def gaP : St := (gaN.steps 0 291 9 (.acq .fresh, gaAt 3)).2
theorem gaT_obs : ∀ j, j < 3 → (gaT j).obs = gaW j ∧ (gaM.ax (gaT j)).isNone = true := by
  intro j hj
  rcases (by omega : j = 0 ∨ j = 1 ∨ j = 2) with rfl | rfl | rfl
  · exact ⟨by decide +kernel, by decide +kernel⟩
  · exact ⟨by decide +kernel, by decide +kernel⟩
  · exact ⟨by decide +kernel, by decide +kernel⟩
theorem gaP_list : lsOf (fun g => peekT 291 gaP (wd (20 + 1 * 264 + 1 * 3) 2 2 g 1)) 2 (peekT 291 gaP 16) = ([0], true) := by decide +kernel
theorem gaAt_low : ∀ j, Low (gaAt j) (9 * j)
  | 0 => low_fresh _
  | j + 1 => (PM.steps_low gaM 0 291 9 (.acq .fresh, gaAt j) (gaAt_low j)).more (by omega)

set_option maxHeartbeats 4000000 in
theorem gfree_awake (w : World) : Calls Tryz.prog 10 #[] w fun e w' => e = .returned (.bool true) ∧ Below w.heap.size w w' := by
  have hL := lay_some 1 1 2 none 0 0 291 (fun _ => 0) (fun _ => 0) w (by omega) ⟨⟨by omega⟩, by omega, by omega, by omega⟩ (by omega) (fun h => absurd h (by omega)) (fun i h => absurd h (by omega))
  have HLM : Hid (∀ cl, (gaC cl).Laws gaM (Rd.lay cl 1 1 2) 0) := fun cl => gg_laws 0 1 1 2 cl (by omega) (by omega) (by omega) (by omega)
  have HLN : Hid (∀ cl, (gaD cl).Laws gaN (Rd.lay cl 1 1 2) 0) := fun cl => gp_laws 0 0 1 1 2 cl (by omega) (by omega) (by omega) (by omega) (by omega)
  go_enter Tryz.func10, Tryz.ntmps10
  go_wp2_with fail
  go_at_call 9; refine hL.mono ?_; rintro e w1 ⟨cl, A, A', cap, cap', c, b, c', b', rfl, hLd⟩
  have HL : Hid (Laid w w1 1 1 2 291 (fun _ => 0) cl A A' cap cap' c b c' b') := hLd
  have hne : Hid (cl ≠ c ∧ cl ≠ b) := lay_ne hLd.lay (by decide) hLd.two.m (by omega)
  have hup : Hid (w.heap.size ≤ c ∧ w.heap.size ≤ b) := ⟨hLd.up.2.1, hLd.up.2.2.1⟩
  clear hL hLd
  go_wp2_with fail
  have HI0 : Hid (Is (w1.alloc (.cells #[.int .i64 0, .int .i64 1, .int .i64 (-1)] 3)) 129 A cap c b 291 (gaAt 0)) := HL.out.two.m.below ((Below.refl _ _).alloc (Nat.le_refl _) _)
  have HY0 : Hid (Lay (w1.alloc (.cells #[.int .i64 0, .int .i64 1, .int .i64 (-1)] 3)) cl 1 1 2) := HL.out.lay.below ((Below.refl _ _).alloc (Nat.le_refl _) _) HL.out.lay.lt
  have HB0 : Hid (Below w.heap.size w (w1.alloc (.cells #[.int .i64 0, .int .i64 1, .int .i64 (-1)] 3))) := seq HL.out.below ((Below.refl _ _).alloc (Nat.le_refl _) _)
  have HK0 : Hid (Blk (w1.alloc (.cells #[.int .i64 0, .int .i64 1, .int .i64 (-1)] 3)) w1.heap.size #[.int .i64 0, .int .i64 1, .int .i64 (-1)] 3) := Blk.new _ _ _
  have hwb : Hid (w1.heap.size ≠ c ∧ w1.heap.size ≠ b) := ⟨by have := HL.out.two.m.lt; omega, by have := HL.out.two.m.bl; omega⟩
  generalize w1.alloc (.cells #[.int .i64 0, .int .i64 1, .int .i64 (-1)] 3) = w2 at *
  generalize w1.heap.size = wb at *
  clear HL
  go_loopw [6] (fun i wr => ∃ j : Nat, j ≤ 3 ∧ i = .int .i64 j ∧ Hid (Is wr 129 A cap c b 291 (gaAt j)) ∧ Hid (Lay wr cl 1 1 2) ∧ Hid (Below w.heap.size w wr) ∧ Hid (Blk wr wb #[.int .i64 0, .int .i64 1, .int .i64 (-1)] 3)) (fun i _ => 3 - (intOf i).toNat)
  case atStart => exact ⟨0, by omega, rfl, HI0, HY0, HB0, HK0⟩
  case round =>
    clear HI0 HY0 HB0 HK0
    obtain ⟨j, hj, rfl, HI, HY, HB, HK⟩ := hrel
    by_cases hlt : j < 3
    · have hN := gg_fresh wr cl 0 (fun y => wd (20 + 1 * 264 + 1 * 3) 2 2 y 1) 2
      have hk1 : (j : Int) < 3 := by omega
      have hk0 : (0 : Int) ≤ (j : Int) := by omega
      go_wp2_with fail
      go_at_call 11; refine hN.mono ?_; rintro e w3 ⟨x, L0, rfl, hi0, hb3, hu1⟩
      have HLA := HLM.out cl
      have HS0 : Hid (Solo (gaC cl).I ((Rd.lay cl 1 1 2).and (Rd.blk wb #[.int .i64 0, .int .i64 1, .int .i64 (-1)] 3)) w w3 A cap c b 291 (gaM.steps 0 291 0 (.acq .fresh, gaAt j)).2 x (gaM.steps 0 291 0 (.acq .fresh, gaAt j)).1 L0) := Solo.begin HI.out hb3 HB.out hup.out hi0 hu1 ⟨HY.out, HK.out⟩ (fun k hk => by
        rcases List.mem_append.1 hk with hk | hk
        · have : k = cl := List.mem_singleton.1 hk
          rw [this]; exact HY.out.lt
        · have : k = wb := List.mem_singleton.1 hk
          rw [this]; exact HK.out.lt) ⟨fun hm => by
          rcases List.mem_append.1 hm with hm | hm
          · exact hne.out.1 (List.mem_singleton.1 hm).symm
          · exact hwb.out.1 (List.mem_singleton.1 hm).symm, fun hm => by
          rcases List.mem_append.1 hm with hm | hm
          · exact hne.out.2 (List.mem_singleton.1 hm).symm
          · exact hwb.out.2 (List.mem_singleton.1 hm).symm⟩
      have hG : Hid ((gaC cl).I.Good gaM ∧ Steps gaM (gaC cl).I (Rd.lay cl 1 1 2) 17 0) := ⟨Cp.good HLA, Cp.steps HLA stepby_gget⟩
      have HLO : Hid (∀ q : Nat, q ≤ 9 → Low (gaM.steps 0 291 q (.acq .fresh, gaAt j)).2 1000000) := fun q hq => (PM.steps_low gaM 0 291 q (.acq .fresh, gaAt j) (gaAt_low j)).more (by omega)
      clear hN hi0 hb3 hu1 HI HY HB HK HLA
      go_wp2_with fail
      go_loopw [8] (fun k wi => ∃ (q : Nat) (L : List Nat), q ≤ 9 ∧ k = .int .i64 q ∧ Hid (Solo (gaC cl).I ((Rd.lay cl 1 1 2).and (Rd.blk wb #[.int .i64 0, .int .i64 1, .int .i64 (-1)] 3)) w wi A cap c b 291 (gaM.steps 0 291 q (.acq .fresh, gaAt j)).2 x (gaM.steps 0 291 q (.acq .fresh, gaAt j)).1 L)) (fun k _ => 9 - (intOf k).toNat)
      case atStart => exact ⟨0, L0, by omega, rfl, HS0⟩
      case round =>
        clear HS0
        obtain ⟨q, L, hq, rfl, HS⟩ := hrel
        by_cases hq9 : q < 9
        · have hSt := HS.out.step hG.out.1 hG.out.2 (fun Y (h : ((Rd.lay cl 1 1 2).and (Rd.blk wb #[.int .i64 0, .int .i64 1, .int .i64 (-1)] 3)).P Y) => h.1) (fun k hk => List.mem_append_left _ hk) (by omega) (HLO.out q hq)
          rw [show gaM.goS 0 291 (gaM.steps 0 291 q (.acq .fresh, gaAt j)).1 (gaM.steps 0 291 q (.acq .fresh, gaAt j)).2 = (gaM.steps 0 291 (q + 1) (.acq .fresh, gaAt j)).2 by rw [PM.steps_succ], show gaM.goT 291 (gaM.steps 0 291 q (.acq .fresh, gaAt j)).1 (gaM.steps 0 291 q (.acq .fresh, gaAt j)).2 = (gaM.steps 0 291 (q + 1) (.acq .fresh, gaAt j)).1 by rw [PM.steps_succ]] at hSt
          have hq1 : (q : Int) < 9 := by omega
          have hq0 : (0 : Int) ≤ (q : Int) := by omega
          clear HS
          go_wp2_with fail
          go_at_call 17; refine hSt.mono ?_; rintro e w4 ⟨rfl, L', hS'⟩
          have HS' : Hid _ := hS'
          clear hSt hS'
          go_wp2_with fail
          go_roundw
          case rel => exact ⟨q + 1, L', by omega, by go_num, HS'⟩
          case measure => simp [intOf]; omega
        · obtain rfl : q = 9 := by omega
          have HT : Hid ((gaM.steps 0 291 9 (.acq .fresh, gaAt j)).1.obs = gaW j ∧ (gaM.ax (gaM.steps 0 291 9 (.acq .fresh, gaAt j)).1).isNone = true) := gaT_obs j hlt
          have HD : Hid (∀ Y, Below wr.heap.size wr Y → Calls Tryz.prog 14 #[.pointer (some ⟨x, 0, none⟩)] Y fun e w' => e = .returned (.bool true) ∧ Y = w') := fun Y hY => by
            obtain ⟨nx, hx1, hx2⟩ := hG.out.1.next (hG.out.1.below HS.out.mach hY)
            rw [HT.out.2] at hx2
            rw [← hx2]
            exact done_gget Y x nx hx1
          have HGv : Hid (∀ Y, Below wr.heap.size wr Y → Calls Tryz.prog 15 #[.pointer (some ⟨x, 0, none⟩)] Y fun e w' => e = .returned (.int .i64 (gaW j)) ∧ Below Y.heap.size Y w') := fun Y hY => by
            refine (gg_g (HLM.out cl) (hG.out.1.below HS.out.mach hY)).mono ?_
            rintro e w' ⟨rfl, m, rfl⟩
            rw [HT.out.1]
            exact ⟨rfl, Below.drewN' (Below.refl _ _) m⟩
          have HCl : Hid (∀ Y, Below wr.heap.size wr Y → Y.cell? ⟨wb, j, none⟩ = some (.int .i64 (gaW j))) := fun Y hY => by
            have hB : Blk Y wb #[.int .i64 0, .int .i64 1, .int .i64 (-1)] 3 := (HS.out.rd.2 : Blk _ wb _ 3).but (But.of_below (l := []) hY) (by simp)
            rcases (by omega : j = 0 ∨ j = 1 ∨ j = 2) with rfl | rfl | rfl
            · exact hB.cell 0 rfl
            · exact hB.cell 1 rfl
            · exact hB.cell 2 rfl
          have HSB : Hid (∀ Y, Below wr.heap.size wr Y → Is Y 129 A cap c b 291 (gaAt (j + 1)) ∧ Lay Y cl 1 1 2 ∧ Below w.heap.size w Y ∧ Blk Y wb #[.int .i64 0, .int .i64 1, .int .i64 (-1)] 3) := fun Y hY => ⟨HS.out.mem.below hY, (HS.out.rd.1 : Lay wr cl 1 1 2).below hY (HS.out.rd.1 : Lay wr cl 1 1 2).lt, HS.out.below.trans (hY.mono HS.out.below.size), (HS.out.rd.2 : Blk wr wb _ 3).but (But.of_below (l := []) hY) (by simp)⟩
          generalize gaW j = gv at *
          have hH : Hid (wr.drew.cell? ⟨wb, j, none⟩ = some (.int .i64 gv) ∧ Below wr.heap.size wr wr.drew) := ⟨HCl.out _ (Below.refl _ _).drew, (Below.refl _ _).drew⟩
          have KEEP : Hid (∀ X w' : World, (X.cell? ⟨wb, j, none⟩ = some (.int .i64 gv) ∧ Below wr.heap.size wr X) → Below X.heap.size X w' → (w'.cell? ⟨wb, j, none⟩ = some (.int .i64 gv) ∧ Below wr.heap.size wr w')) := fun X w' h k => ⟨HCl.out _ (h.2.trans (k.mono h.2.size)), h.2.trans (k.mono h.2.size)⟩
          clear HS HT
          go_wp2_with fail
          go_region_held3 (fun w' => w'.cell? ⟨wb, j, none⟩ = some (.int .i64 gv) ∧ Below wr.heap.size wr w') (first | exact hH.out | assumption | exact KEEP.out _ _ ‹_› ‹_›) (first | (go_at_call 14; refine (HD.out _ (by simp only [*])).mono ?_; rintro e x1 ⟨rfl, rfl⟩) | (go_at_call 15; refine (HGv.out _ (by simp only [*])).mono ?_; rintro e x2 ⟨rfl, g2⟩))
          all_goals
            rename_i hHeld
            have HF : Hid _ := HSB.out _ hHeld.2
            clear HD HGv HCl HSB hH KEEP hHeld
            go_wp2_with fail
            go_roundw
            case rel => exact ⟨j + 1, by omega, by go_num, HF.out.1, HF.out.2.1, HF.out.2.2.1, HF.out.2.2.2⟩
            case measure => simp [intOf]; omega
    · obtain rfl : j = 3 := by omega
      have hN := gp_fresh wr cl 0 0 (wd (20 + 1 * 264 + 1 * 3) 2 2 0 1)
      go_wp2_with fail
      go_at_call 23; refine hN.mono ?_; rintro e w3 ⟨x, L0, rfl, hi0, hb3, hu1⟩
      have HLA := HLN.out cl
      have HS0 : Hid (Solo (gaD cl).I (Rd.lay cl 1 1 2) w w3 A cap c b 291 (gaN.steps 0 291 0 (.acq .fresh, gaAt 3)).2 x (gaN.steps 0 291 0 (.acq .fresh, gaAt 3)).1 L0) := Solo.begin HI.out hb3 HB.out hup.out hi0 hu1 HY.out (fun k hk => by
          have : k = cl := List.mem_singleton.1 hk
          rw [this]; exact HY.out.lt) ⟨fun hm => hne.out.1 (List.mem_singleton.1 hm).symm, fun hm => hne.out.2 (List.mem_singleton.1 hm).symm⟩
      have hG : Hid ((gaD cl).I.Good gaN ∧ Steps gaN (gaD cl).I (Rd.lay cl 1 1 2) 26 0) := ⟨Cp.good HLA, Cp.steps HLA stepby_gput⟩
      have HLO : Hid (∀ q : Nat, q ≤ 9 → Low (gaN.steps 0 291 q (.acq .fresh, gaAt 3)).2 1000000) := fun q hq => (PM.steps_low gaN 0 291 q (.acq .fresh, gaAt 3) (gaAt_low 3)).more (by omega)
      clear hN hi0 hb3 hu1 HI HY HB HK HLA
      go_wp2_with fail
      go_loopw [10] (fun k wi => ∃ (q : Nat) (L : List Nat), q ≤ 9 ∧ k = .int .i64 q ∧ Hid (Solo (gaD cl).I (Rd.lay cl 1 1 2) w wi A cap c b 291 (gaN.steps 0 291 q (.acq .fresh, gaAt 3)).2 x (gaN.steps 0 291 q (.acq .fresh, gaAt 3)).1 L)) (fun k _ => 9 - (intOf k).toNat)
      case atStart => exact ⟨0, L0, by omega, rfl, HS0⟩
      case round =>
        clear HS0
        obtain ⟨q, L, hq, rfl, HS⟩ := hrel
        by_cases hq9 : q < 9
        · have hSt := HS.out.step hG.out.1 hG.out.2 (fun Y h => h) (fun k hk => hk) (by omega) (HLO.out q hq)
          rw [show gaN.goS 0 291 (gaN.steps 0 291 q (.acq .fresh, gaAt 3)).1 (gaN.steps 0 291 q (.acq .fresh, gaAt 3)).2 = (gaN.steps 0 291 (q + 1) (.acq .fresh, gaAt 3)).2 by rw [PM.steps_succ], show gaN.goT 291 (gaN.steps 0 291 q (.acq .fresh, gaAt 3)).1 (gaN.steps 0 291 q (.acq .fresh, gaAt 3)).2 = (gaN.steps 0 291 (q + 1) (.acq .fresh, gaAt 3)).1 by rw [PM.steps_succ]] at hSt
          have hq1 : (q : Int) < 9 := by omega
          have hq0 : (0 : Int) ≤ (q : Int) := by omega
          clear HS
          go_wp2_with fail
          go_at_call 26; refine hSt.mono ?_; rintro e w4 ⟨rfl, L', hS'⟩
          have HS' : Hid _ := hS'
          clear hSt hS'
          go_wp2_with fail
          go_roundw
          case rel => exact ⟨q + 1, L', by omega, by go_num, HS'⟩
          case measure => simp [intOf]; omega
        · obtain rfl : q = 9 := by omega
          have hLs := glist_any wr A cap c b 291 cl gaP 1 1 2 HS.out.mem (by omega) HS.out.rd (by omega) (by omega) (by omega)
          rw [gaP_list] at hLs
          have HBF : Hid (Below w.heap.size w wr) := HS.out.below
          clear HS
          go_wp2_with fail
          go_at_call 19; refine hLs.mono ?_; rintro e w4 ⟨v, rfl, hv, hb4⟩
          obtain ⟨gb, cp, rfl, hc0⟩ := hv.cell (j := 0) (by simp)
          have hc1 : w4.cell? ⟨gb, 0, none⟩ = some (.int .i64 0) := hc0
          have HB4 := seq HBF.out hb4
          clear hLs hv hc0 hb4
          go_wp2_with fail
          go_ret
          exact ⟨rfl, HB4⟩
end Go.Proofs.YtkiehfcohdeogaaGreat

namespace Go.Proofs.YtkiehfcohdeogaaGreat
open Go Go.RowKit
set_option linter.unusedVariables false
set_option maxRecDepth 100000
set_option linter.unusedSimpArgs false

theorem gfreeGets_bad (P T G x0 : Int) (E F : Option Addr) (m cp mp cq : Nat) (a v : Nat → Int) (w : World) (hAw : ∀ w, Calls Tryz.prog 10 #[] w fun e w' => e = .returned (.bool true) ∧ Below w.heap.size w w') (hm : m ≤ 9223372036854775807) (hmp : mp ≤ 9223372036854775807) (hs : SeesP w w.heap.size E m a v) (hv : ∀ i, i < m → 0 ≤ v i ∧ v i ≤ 18446744073709551615) (h : (¬ FewC P T G ∨ 400 < m) ∨ 100 < mp ∨ x0 < 0 ∨ 300 < x0) :
    Calls Tryz.prog 3 #[.agg #[.int .i64 P, .int .i64 T, .int .i64 G, .slice E m cp], .int .i64 x0, .slice F mp cq] w fun e w' => e = .returned (.bool true) ∧ Below w.heap.size w w' := by
  have hsz : (w.alloc (.cells #[.int .i64 P, .int .i64 T, .int .i64 G, .slice E m cp] 26)).heap.size = w.heap.size + 1 := by simp
  have HB : Hid (Below w.heap.size w (w.alloc (.cells #[.int .i64 P, .int .i64 T, .int .i64 G, .slice E m cp] 26))) := (Below.refl _ _).alloc (Nat.le_refl _) _
  have hX0 : Hid (Blk (w.alloc (.cells #[.int .i64 P, .int .i64 T, .int .i64 G, .slice E m cp] 26)) w.heap.size #[.int .i64 P, .int .i64 T, .int .i64 G, .slice E m cp] 26) := (Blk.new w #[.int .i64 P, .int .i64 T, .int .i64 G, .slice E m cp] 26)
  have HAW : Hid (∀ w, Calls Tryz.prog 10 #[] w fun e w' => e = .returned (.bool true) ∧ Below w.heap.size w w') := hAw
  clear hAw
  by_cases hf : ¬ FewC P T G ∨ 400 < m
  · have hL := lay_none P T G E m cp (w.alloc (.cells #[.int .i64 P, .int .i64 T, .int .i64 G, .slice E m cp] 26)) hm hf
    clear h hf hs hv
    go_enter Tryz.func3, Tryz.ntmps3
    go_wp2_with fail
    generalize (w.alloc (.cells #[.int .i64 P, .int .i64 T, .int .i64 G, .slice E m cp] 26)) = W at *
    go_at_call 9; refine hL.mono ?_; rintro e w1 ⟨rfl, hLd⟩
    have hbl : Below W.heap.size W w1 := hLd
    have HB1 : Hid (Below w.heap.size w w1) := HB.out.trans (hbl.mono (by omega))
    have hY0 := hX0.out.but (But.of_below (l := []) hbl) (by simp)
    clear hL hbl hLd hY0
    go_wp2_with fail
    go_at_call 10; refine (HAW.out _).mono ?_; rintro e w2 ⟨rfl, h2⟩
    have h3 := seq HB1.out h2
    go_wp2_with fail
    go_ret
    exact ⟨rfl, h3⟩
  · have hF : FewC P T G := Decidable.byContradiction fun h => hf (.inl h)
    have hm4 : m ≤ 400 := by omega
    have hM := hF.h.1.h
    obtain ⟨n, hn⟩ : ∃ n : Nat, (n : Int) = 20 + 264 * P + 3 * T + 2 * G := ⟨(20 + 264 * P + 3 * T + 2 * G).toNat, by omega⟩
    have hL := lay_some P T G E m cp n a v _ hm4 hF hn (hs.up (.cells #[.int .i64 P, .int .i64 T, .int .i64 G, .slice E m cp] 26)) hv
    have htt : 100 < mp ∨ x0 < 0 ∨ 300 < x0 := by rcases h with h | h; exact absurd h hf; exact h
    clear h hf hs hv hn hF hM
    by_cases q1 : 100 < mp
    · clear htt
      have e1 : decide ((100 : Int) < (mp : Int)) = true := decide_eq_true (by omega)
      go_enter Tryz.func3, Tryz.ntmps3
      go_wp2_with fail
      generalize (w.alloc (.cells #[.int .i64 P, .int .i64 T, .int .i64 G, .slice E m cp] 26)) = W at *
      go_at_call 9; refine hL.mono ?_; rintro e w1 ⟨cl, A, A', cap, cap', c, b, c', b', rfl, hLd⟩
      have hbl : Below W.heap.size W w1 := hLd.below
      have HB1 : Hid (Below w.heap.size w w1) := HB.out.trans (hbl.mono (by omega))
      have hY0 := hX0.out.but (But.of_below (l := []) hbl) (by simp)
      clear hL hbl hLd hY0
      go_wp2_with fail
      go_at_call 10; refine (HAW.out _).mono ?_; rintro e w2 ⟨rfl, h2⟩
      have h3 := seq HB1.out h2
      go_wp2_with fail
      go_ret
      exact ⟨rfl, h3⟩
    have d1 : decide ((100 : Int) < (mp : Int)) = false := decide_eq_false (by omega)
    by_cases q2 : x0 < 0
    · clear htt
      go_enter Tryz.func3, Tryz.ntmps3
      go_wp2_with fail
      generalize (w.alloc (.cells #[.int .i64 P, .int .i64 T, .int .i64 G, .slice E m cp] 26)) = W at *
      go_at_call 9; refine hL.mono ?_; rintro e w1 ⟨cl, A, A', cap, cap', c, b, c', b', rfl, hLd⟩
      have hbl : Below W.heap.size W w1 := hLd.below
      have HB1 : Hid (Below w.heap.size w w1) := HB.out.trans (hbl.mono (by omega))
      have hY0 := hX0.out.but (But.of_below (l := []) hbl) (by simp)
      clear hL hbl hLd hY0
      go_wp2_with fail
      go_at_call 10; refine (HAW.out _).mono ?_; rintro e w2 ⟨rfl, h2⟩
      have h3 := seq HB1.out h2
      go_wp2_with fail
      go_ret
      exact ⟨rfl, h3⟩
    have d2 : decide (x0 < 0) = false := decide_eq_false (by omega)
    have q3 : 300 < x0 := by omega
    clear htt
    go_enter Tryz.func3, Tryz.ntmps3
    go_wp2_with fail
    generalize (w.alloc (.cells #[.int .i64 P, .int .i64 T, .int .i64 G, .slice E m cp] 26)) = W at *
    go_at_call 9; refine hL.mono ?_; rintro e w1 ⟨cl, A, A', cap, cap', c, b, c', b', rfl, hLd⟩
    have hbl : Below W.heap.size W w1 := hLd.below
    have HB1 : Hid (Below w.heap.size w w1) := HB.out.trans (hbl.mono (by omega))
    have hY0 := hX0.out.but (But.of_below (l := []) hbl) (by simp)
    clear hL hbl hLd hY0
    go_wp2_with fail
    go_at_call 10; refine (HAW.out _).mono ?_; rintro e w2 ⟨rfl, h2⟩
    have h3 := seq HB1.out h2
    go_wp2_with fail
    go_ret
    exact ⟨rfl, h3⟩

set_option maxHeartbeats 4000000 in
theorem gfreeGets_ok (P T G x0 : Int) (E F : Option Addr) (m cp mp cq : Nat) (a v : Nat → Int) (Pks : Nat → Pk) (w : World) (hAw : ∀ w, Calls Tryz.prog 10 #[] w fun e w' => e = .returned (.bool true) ∧ Below w.heap.size w w') (hm : m ≤ 400) (hF : FewC P T G) (hmp : mp ≤ 100) (hs : SeesP w w.heap.size E m a v) (hv : ∀ i, i < m → 0 ≤ v i ∧ v i ≤ 18446744073709551615) (hP : SeesC w w.heap.size F mp 6 (pkC Pks)) (hpv : ∀ j, j < mp → 0 ≤ (Pks j).v ∧ (Pks j).v ≤ 18446744073709551615) (hx0 : 0 ≤ x0 ∧ x0 ≤ 300) :
    Calls Tryz.prog 3 #[.agg #[.int .i64 P, .int .i64 T, .int .i64 G, .slice E m cp], .int .i64 x0, .slice F mp cq] w fun e w' => e = .returned (.bool true) ∧ Below w.heap.size w w' := by
  have hsz : (w.alloc (.cells #[.int .i64 P, .int .i64 T, .int .i64 G, .slice E m cp] 26)).heap.size = w.heap.size + 1 := by simp
  have HB : Hid (Below w.heap.size w (w.alloc (.cells #[.int .i64 P, .int .i64 T, .int .i64 G, .slice E m cp] 26))) := (Below.refl _ _).alloc (Nat.le_refl _) _
  have hX0 : Hid (Blk (w.alloc (.cells #[.int .i64 P, .int .i64 T, .int .i64 G, .slice E m cp] 26)) w.heap.size #[.int .i64 P, .int .i64 T, .int .i64 G, .slice E m cp] 26) := (Blk.new w #[.int .i64 P, .int .i64 T, .int .i64 G, .slice E m cp] 26)
  have HAW : Hid (∀ w, Calls Tryz.prog 10 #[] w fun e w' => e = .returned (.bool true) ∧ Below w.heap.size w w') := hAw
  have hM := hF.h.1.h
  have hFF := hF.h
  have hP64 : 0 ≤ P ∧ P ≤ 64 := by omega
  obtain ⟨n, hn⟩ : ∃ n : Nat, (n : Int) = 20 + 264 * P + 3 * T + 2 * G := ⟨(20 + 264 * P + 3 * T + 2 * G).toNat, by omega⟩
  have hn0 : 0 < n := by omega
  have hn6 : n ≤ 1000000 := by omega
  have hL := lay_some P T G E m cp n a v _ hm hF hn (hs.up (.cells #[.int .i64 P, .int .i64 T, .int .i64 G, .slice E m cp] 26)) hv
  have d1 : decide ((100 : Int) < (mp : Int)) = false := decide_eq_false (by omega)
  have d2 : decide (x0 < 0) = false := decide_eq_false (by omega)
  have d3 : decide (300 < x0) = false := decide_eq_false (by omega)
  have HP : Hid (SeesC w w.heap.size F mp 6 (pkC Pks)) := hP
  have HPV : Hid (∀ j, j < mp → 0 ≤ (Pks j).v ∧ (Pks j).v ≤ 18446744073709551615) := hpv
  have HTG : Hid ((0 ≤ T ∧ T ≤ 65536) ∧ (0 ≤ G ∧ G ≤ 65536)) := ⟨by omega, by omega⟩
  have HNN : Hid ((n : Int) = 20 + 264 * P + 3 * T + 2 * G) := hn
  obtain ⟨gl, hgl⟩ : ∃ gl : Int → Int, (fun y => wd (20 + P * 264 + T * 3) G 2 y 1) = gl := ⟨_, rfl⟩
  have HLAW : Hid (∀ cl, (ggCp x0 gl G cl).Laws (ggPM x0 gl G) (Rd.lay cl P T G) x0) := fun cl => by rw [← hgl]; exact gg_laws x0 P T G cl (by omega) hP64 (by omega) (by omega)
  have HGOT : Hid (∀ cl (w : World) (x : Nat) (t : GgT) (L : List Nat), (ggCp x0 gl G cl).I w x t L → Calls Tryz.prog 15 #[.pointer (some ⟨x, 0, none⟩)] w fun e w' => e = .returned (.int .i64 t.obs) ∧ ∃ m, w' = w.drewN m) := fun cl w x t L h => by subst hgl; exact gg_g (gg_laws x0 P T G cl (by omega) hP64 (by omega) (by omega)) h
  have HREF : Hid (∀ (w : World) (x : Nat) (A : Option Addr) (cap m : Nat) (gf : Nat → Int) (t : GgT), RunOn w x A cap m gf rn0 → Hist (ggPM x0 gl G) (.acq .fresh) gf m t → Calls Tryz.prog 13 #[.pointer (some ⟨x, 0, none⟩), .agg #[.int .i64 P, .int .i64 T, .int .i64 G], .int .i64 x0] w fun e w' => ∃ wv hd, e = .returned (.tuple #[.int .u64 wv, .bool hd]) ∧ GgAns t wv hd ∧ RunOn w' x A cap m gf ((ggPM x0 gl G).rn t m) ∧ But [x] w w') := fun w x A cap m gf t h hh => by subst hgl; exact rgget_on w x A cap m gf x0 P T G t h hh hP64 (by omega) (by omega) hx0
  clear hgl hx0
  clear hAw hs hv hn hF hM hFF hP hpv
  go_enter Tryz.func3, Tryz.ntmps3
  go_wp2_with fail
  generalize (w.alloc (.cells #[.int .i64 P, .int .i64 T, .int .i64 G, .slice E m cp] 26)) = W at *
  go_at_call 9; refine hL.mono ?_; rintro e w1 ⟨cl, A, A', cap, cap', c, b, c', b', rfl, hLd⟩
  have HL : Hid (Laid W w1 P T G n (putF a v n m) cl A A' cap cap' c b c' b') := hLd
  have hbl := hLd.below
  have HB1 : Hid (Below w.heap.size w w1) := HB.out.trans (hbl.mono (by omega))
  have hY0 := hX0.out.but (But.of_below (l := []) hbl) (by simp)
  have HXb : Hid (∀ k, Blk (w1.drewN k) w.heap.size #[.int .i64 P, .int .i64 T, .int .i64 G, .slice E m cp] 26) := fun k => hY0.drewN k
  have HXw : Hid (Blk w1 w.heap.size #[.int .i64 P, .int .i64 T, .int .i64 G, .slice E m cp] 26) := hY0
  clear hL hLd hbl hY0
  go_wp2_with fail
  have hT1 : Hid (Two w1 A A' cap cap' c b c' b' n (fresh (putF a v n m))) := HL.out.two
  have HB2 : Hid (Below w.heap.size w w1) := HB1.out
  have HLy2 : Hid (Lay w1 cl P T G) := HL.out.lay
  have HX2 : Hid (Blk w1 w.heap.size #[.int .i64 P, .int .i64 T, .int .i64 G, .slice E m cp] 26) := HXw.out
  obtain ⟨u1, u2, u3, u4, u5⟩ := HL.out.up
  have hup : Hid (w.heap.size ≤ c ∧ w.heap.size ≤ b ∧ w.heap.size ≤ c' ∧ w.heap.size ≤ b') := ⟨by omega, by omega, by omega, by omega⟩
  have hbx : Hid (w.heap.size ≠ c ∧ w.heap.size ≠ b ∧ w.heap.size ≠ c' ∧ w.heap.size ≠ b' ∧ w.heap.size ≠ cl) := ⟨by omega, by omega, by omega, by omega, by omega⟩
  have hclup : Hid (w.heap.size ≤ cl) := (by omega : w.heap.size ≤ cl)
  generalize hw2 : w1 = w2 at *
  have z0 := HX2.out.cell 0 (v := .int .i64 P) rfl
  have z1 := HX2.out.cell 1 (v := .int .i64 T) rfl
  have z2 := HX2.out.cell 2 (v := .int .i64 G) rfl
  clear HL HB1 HXb HXw u1 u2 u3 u4 u5 hw2 hX0 HB hsz 
  have hne : Hid (cl ≠ c ∧ cl ≠ b) := lay_ne HLy2.out (by decide) hT1.out.m hn0
  have hne2 : Hid (cl ≠ c' ∧ cl ≠ b') := lay_ne HLy2.out (by decide) hT1.out.r hn0
  have HLW : Hid ((ggCp x0 gl G cl).I.Good (ggPM x0 gl G) ∧ Steps (ggPM x0 gl G) (ggCp x0 gl G cl).I (Rd.lay cl P T G) 17 x0) := ⟨Cp.good (HLAW.out cl), Cp.steps (HLAW.out cl) stepby_gget⟩
  have HGD : Hid ((ggCp x0 gl G cl).I.Good (ggPM x0 gl G)) := HLW.out.1
  have hN := gg_fresh w2 cl x0 gl G
  go_wp2_with fail
  go_at_call 11; refine hN.mono ?_; rintro e w3 ⟨x, L0, rfl, hi0, hb3, hu1⟩
  have HO0 : Hid (LawOn (ggCp x0 gl G cl).I ((Rd.lay cl P T G).and (Rd.blk w.heap.size #[.int .i64 P, .int .i64 T, .int .i64 G, .slice E m cp] 26)) w w3 A A' cap cap' c b c' b' n (fresh (putF a v n m)) (fresh (putF a v n m)) none 0 0 (fun _ => 0) x (GgT.acq .fresh) L0 [cl, w.heap.size]) := LawOn.begin hT1.out hb3 HB2.out hup.out hi0 HGD.out hu1 ⟨HLy2.out.below hb3 HLy2.out.lt, HX2.out.but (But.of_below (l := []) hb3) (by simp)⟩ (fun k hk => hk) (by
    obtain ⟨n1, n2⟩ := hne.out; obtain ⟨n3, n4⟩ := hne2.out; obtain ⟨n5, n6, n7, n8, n9⟩ := hbx.out
    intro k hk
    simp only [List.mem_cons, List.not_mem_nil, or_false] at hk
    rcases hk with rfl | rfl
    · exact ⟨⟨n1, n2, n3, n4⟩, HLy2.out.lt, hclup.out⟩
    · exact ⟨⟨n5, n6, n7, n8⟩, HX2.out.lt, Nat.le_refl _⟩)
  clear hN hi0 hb3 hu1 hT1 HB2 HX2 HLy2 z0 z1 z2 hup hbx hclup hne hne2
  go_wp2_with fail
  go_loopw [12, 13] (fun gv i wr => ∃ (k : Nat) (s : St) (Ag : Option Addr) (capg mg : Nat) (gf : Nat → Int) (t : GgT) (L : List Nat), k ≤ mp ∧ i = .int .i64 k ∧ gv = .slice Ag mg capg ∧ mg ≤ k ∧ Hid (LawOn (ggCp x0 gl G cl).I ((Rd.lay cl P T G).and (Rd.blk w.heap.size #[.int .i64 P, .int .i64 T, .int .i64 G, .slice E m cp] 26)) w wr A A' cap cap' c b c' b' n s s Ag capg mg gf x t L [cl, w.heap.size]) ∧ Hid (Low s (k : Int)) ∧ Hid (Hist (ggPM x0 gl G) (GgT.acq .fresh) gf mg t)) (fun _ i _ => mp - (intOf i).toNat)
  case atStart => exact ⟨0, _, none, 0, 0, _, (GgT.acq .fresh), L0, Nat.zero_le _, rfl, rfl, Nat.le_refl _, HO0, low_fresh _, Hist.start _ _ _⟩
  case round =>
    clear HO0
    obtain ⟨k, s, Ag, capg, mg, gf, t, L, hk, rfl, rfl, hmg, HO, HLo, HH⟩ := hrel
    by_cases hlt : k < mp
    · obtain ⟨fb, foff, rfl, hfb, hcell⟩ := HP.out (by omega)
      have hcw : Hid (∀ i u, (pkC Pks k)[i]? = some u → wr.cell? ⟨fb, foff + k * 6 + i, none⟩ = some u) := fun i u hu => (HO.out.poke.below.cell (p := ⟨fb, foff + k * 6 + i, none⟩) hfb).trans (hcell k hlt i u hu)
      have pz := hcw.out 0 (.bool (Pks k).z) rfl
      have hk0 : (0 : Int) ≤ (k : Int) := Int.natCast_nonneg _
      have hk1 : (k : Int) < (mp : Int) := by omega
      clear hcell
      rw [Nat.add_zero] at pz
      cases hz : (Pks k).z
      · rw [hz] at pz
        have HRA : Hid (wr.rangeAt fb (foff + k * 6 + 1) [.int .i64 (Pks k).k, .int .i64 (Pks k).p, .int .i64 (Pks k).i, .int .u64 (Pks k).o, .int .u64 (Pks k).v]) := fun j u hu => by
          have := hcw.out (1 + j) u (by rw [show pkC Pks k = .bool (Pks k).z :: [.int .i64 (Pks k).k, .int .i64 (Pks k).p, .int .i64 (Pks k).i, .int .u64 (Pks k).o, .int .u64 (Pks k).v] from rfl, Nat.add_comm 1 j, List.getElem?_cons_succ]; exact hu)
          rw [← Nat.add_assoc] at this
          exact this
        clear hz hcw
        go_wp2_with (refine wpList_load_mid rfl 39 _ rfl fb (foff + k * 6 + 1) rfl [.int .i64 (Pks k).k, .int .i64 (Pks k).p, .int .i64 (Pks k).i, .int .u64 (Pks k).o, .int .u64 (Pks k).v] _ HRA.out Tryz.underlying39 rfl (by kernel_rfl) ?_)
        go_at_call 12; refine (HO.out.pokes HGD.out hn6 (HLo.out.more (by omega)) (Pks k).k (Pks k).p (Pks k).i (Pks k).o (Pks k).v (HPV.out k hlt)).mono ?_; rintro e w9 ⟨rfl, hO⟩
        have HO9 : Hid _ := hO
        have HLo9 : Hid (Low (actS (Pks k).k (Pks k).p (Pks k).i (Pks k).o (Pks k).v n s) (((k + 1 : Nat)) : Int)) := (actS_low HLo.out _ _ _ _ _ _).more (by omega)
        clear hO HO HRA pz
        go_wp2_with fail
        go_roundw
        case rel => exact ⟨k + 1, _, Ag, capg, mg, gf, t, L, by omega, by go_num, rfl, by omega, HO9, HLo9, HH⟩
        case measure => simp [intOf]; omega
      · rw [hz] at pz
        clear hz hcw
        have hR0 : Hid (RunOn (wr.alloc (.cells (runL (.slice Ag mg capg) rn0).toArray 46)) wr.heap.size Ag capg mg gf rn0) := run_starts HO.out.poke.got (by omega)
        have hb0 : Hid (Below wr.heap.size wr (wr.alloc (.cells (runL (.slice Ag mg capg) rn0).toArray 46))) := (Below.refl _ _).alloc (Nat.le_refl _) _
        have hRR := HREF.out _ _ Ag capg mg gf t hR0.out HH.out
        have y0 := HO.out.rd.2.cell 0 (v := .int .i64 P) rfl
        have y1 := HO.out.rd.2.cell 1 (v := .int .i64 T) rfl
        have y2 := HO.out.rd.2.cell 2 (v := .int .i64 G) rfl
        have hbl : w.heap.size < wr.heap.size := HO.out.rd.2.lt
        go_wp2_with fail
        go_at_call 13; refine hRR.mono ?_; rintro e w4 ⟨wv, hd, rfl, hAns, hR4, hB4⟩
        have hb4 : Below wr.heap.size wr w4 := hb0.out.trans (hB4.below (by simp) (by simp))
        have HO4 : Hid (LawOn (ggCp x0 gl G cl).I ((Rd.lay cl P T G).and (Rd.blk w.heap.size #[.int .i64 P, .int .i64 T, .int .i64 G, .slice E m cp] 26)) w w4 A A' cap cap' c b c' b' n s s Ag capg mg gf x t L [cl, w.heap.size]) := HO.out.still HGD.out hb4
        have HR4 : Hid (RunOn w4 wr.heap.size Ag capg mg gf ((ggPM x0 gl G).rn t mg)) := hR4
        have hs4 : wr.heap.size < w4.heap.size := hR4.blk.lt
        have s2 := HR4.out.blk.cell 2 (v := .bool ((ggPM x0 gl G).rn t mg).stop) rfl
        rw [PM.rn_stop] at s2
        clear hRR hR4 hB4 hR0 hb0 hb4 HO pz y0 y1 y2 hbl
        have HOK : Hid (∀ a, (ggPM x0 gl G).ax t = some a → a.Ok) := fun a ha => Cp.axok (HLAW.out cl) HO4.out.mach a ha
        have HD : Hid (∀ Y, Below w4.heap.size w4 Y → Calls Tryz.prog 14 #[.pointer (some ⟨x, 0, none⟩)] Y fun e w' => e = .returned (.bool ((ggPM x0 gl G).ax t).isNone) ∧ Y = w') := fun Y hY => by
          obtain ⟨nx, hx1, hx2⟩ := HGD.out.next (HGD.out.below HO4.out.mach hY)
          rw [← hx2]
          exact done_gget Y x nx hx1
        have HGv : Hid (∀ Y, Below w4.heap.size w4 Y → Calls Tryz.prog 15 #[.pointer (some ⟨x, 0, none⟩)] Y fun e w' => e = .returned (.int .i64 t.obs) ∧ Below Y.heap.size Y w') := fun Y hY => by
          refine (HGOT.out cl Y x t L (HGD.out.below HO4.out.mach hY)).mono ?_
          rintro e w' ⟨rfl, q, rfl⟩
          exact ⟨rfl, Below.drewN' (Below.refl _ _) q⟩
        have HANS : Hid (GgAns t wv hd) := hAns
        clear hAns
        cases hst : ((ggPM x0 gl G).ax t).isSome
        · rw [hst] at s2
          have hin : ((ggPM x0 gl G).ax t).isNone = true := by cases h : (ggPM x0 gl G).ax t <;> rw [h] at hst <;> first | rfl | cases hst
          rw [hin] at HD
          clear hin
          cases hd
          · have eo : t.obs = -1 := HANS.out.no rfl
            rw [eo] at HGv
            clear eo HANS
            have hH : Hid (w4.drew.cell? ⟨wr.heap.size, 2, none⟩ = some (.bool false) ∧ Below w4.heap.size w4 w4.drew) := ⟨s2, (Below.refl _ _).drew⟩
            have KEEP : Hid (∀ X w' : World, (X.cell? ⟨wr.heap.size, 2, none⟩ = some (.bool false) ∧ Below w4.heap.size w4 X) → Below X.heap.size X w' → (w'.cell? ⟨wr.heap.size, 2, none⟩ = some (.bool false) ∧ Below w4.heap.size w4 w')) := fun X w' h k => ⟨(k.cell (p := ⟨wr.heap.size, 2, none⟩) (Nat.lt_of_lt_of_le hs4 h.2.size)).trans h.1, h.2.trans (k.mono h.2.size)⟩
            go_wp2_with fail
            go_region_held3 (fun w' => w'.cell? ⟨wr.heap.size, 2, none⟩ = some (.bool false) ∧ Below w4.heap.size w4 w') (first | exact hH.out | assumption | exact KEEP.out _ _ ‹_› ‹_›) (first | (go_at_call 14; refine (HD.out _ (by simp only [*])).mono ?_; rintro e x1 ⟨rfl, rfl⟩) | (go_at_call 15; refine (HGv.out _ (by simp only [*])).mono ?_; rintro e x2 ⟨rfl, g2⟩))
            all_goals
              rename_i hHeld
              have HO5 : Hid _ := HO4.out.still HGD.out hHeld.2
              have HRg : Hid _ := (HR4.out.below hHeld.2).range
              have hTu := HO5.out.turn HGD.out HOK.out hn6 (HLo.out.more (by omega)) (by omega) x0
              rw [show runCells (.slice Ag mg capg) ((ggPM x0 gl G).rn t mg) = (runL (.slice Ag mg capg) ((ggPM x0 gl G).rn t mg)).toArray from rfl] at hTu
              generalize (ggPM x0 gl G).rn t mg = RN at *
              simp only [runL] at hTu
              clear HD KEEP hH HO4 HR4 s2 hHeld HGv
              go_wp2_with (refine wpList_load_mid rfl 46 _ rfl wr.heap.size 0 rfl (runL (.slice Ag mg capg) RN) _ HRg.out Tryz.underlying46 rfl (by kernel_rfl) ?_; clear HRg)
              go_at_call 16; refine hTu.mono ?_; rintro e w6 ⟨Ag', capg', rfl, hO6⟩
              have HO6 : Hid _ := hO6
              have hSt := HO6.out.step HGD.out HLW.out.2 (fun Y (h : ((Rd.lay cl P T G).and (Rd.blk w.heap.size #[.int .i64 P, .int .i64 T, .int .i64 G, .slice E m cp] 26)).P Y) => h.1) (fun k hk => List.mem_append_left _ hk) hn6 (HLo.out.more (by omega))
              have HHn : Hid _ := HH.out.next n s (fun k i old new => actA_bd HO6.out.poke.mem k i old new)
              have HLo7 : Hid (Low ((ggPM x0 gl G).goS x0 n t s) ((k + 1 : Nat) : Int)) := PM.goS_low HLo.out
              have hml : (ggPM x0 gl G).goM t mg ≤ k + 1 := by unfold PM.goM; split <;> omega
              clear hTu hO6 HO5
              go_wp2_with fail
              go_at_call 17; refine hSt.mono ?_; rintro e w7 ⟨⟨zz, rfl⟩, L7, hO7⟩
              have HO7 : Hid _ := hO7
              clear hSt hO7 HO6 HH HLo
              generalize (ggPM x0 gl G).goS x0 n t s = s' at *
              generalize (ggPM x0 gl G).goG n t s gf mg = g' at *
              generalize (ggPM x0 gl G).goM t mg = m' at *
              generalize (ggPM x0 gl G).goT n t s = t' at *
              have hAl := alike_any w7 A A' cap cap' c b c' b' n s' hn6 HO7.out.poke.two
              go_wp2_with fail
              go_at_call 18; refine hAl.mono ?_; rintro e w8 ⟨rfl, hb8⟩
              have HO8 : Hid _ := HO7.out.still HGD.out hb8
              clear hAl hb8 HO7
              go_wp2_with fail
              go_roundw
              case rel => exact ⟨k + 1, s', Ag', capg', m', g', t', L7, by omega, by go_num, rfl, hml, HO8.out, HLo7, HHn.out⟩
              case measure => simp [intOf]; omega
          · have eo : wrap64 (IntKind.i64.wrap wv - 1) = t.obs := HANS.out.yes rfl
            generalize hwv : IntKind.i64.wrap wv = wv' at *
            generalize t.obs = to at *
            clear HANS
            have hH : Hid (w4.drew.cell? ⟨wr.heap.size, 2, none⟩ = some (.bool false) ∧ Below w4.heap.size w4 w4.drew) := ⟨s2, (Below.refl _ _).drew⟩
            have KEEP : Hid (∀ X w' : World, (X.cell? ⟨wr.heap.size, 2, none⟩ = some (.bool false) ∧ Below w4.heap.size w4 X) → Below X.heap.size X w' → (w'.cell? ⟨wr.heap.size, 2, none⟩ = some (.bool false) ∧ Below w4.heap.size w4 w')) := fun X w' h k => ⟨(k.cell (p := ⟨wr.heap.size, 2, none⟩) (Nat.lt_of_lt_of_le hs4 h.2.size)).trans h.1, h.2.trans (k.mono h.2.size)⟩
            go_wp2_with fail
            go_region_held3 (fun w' => w'.cell? ⟨wr.heap.size, 2, none⟩ = some (.bool false) ∧ Below w4.heap.size w4 w') (first | exact hH.out | assumption | exact KEEP.out _ _ ‹_› ‹_›) (first | (go_at_call 14; refine (HD.out _ (by simp only [*])).mono ?_; rintro e x1 ⟨rfl, rfl⟩) | (go_at_call 15; refine (HGv.out _ (by simp only [*])).mono ?_; rintro e x2 ⟨rfl, g2⟩))
            all_goals
              rename_i hHeld
              have HO5 : Hid _ := HO4.out.still HGD.out hHeld.2
              have HRg : Hid _ := (HR4.out.below hHeld.2).range
              have hTu := HO5.out.turn HGD.out HOK.out hn6 (HLo.out.more (by omega)) (by omega) x0
              rw [show runCells (.slice Ag mg capg) ((ggPM x0 gl G).rn t mg) = (runL (.slice Ag mg capg) ((ggPM x0 gl G).rn t mg)).toArray from rfl] at hTu
              generalize (ggPM x0 gl G).rn t mg = RN at *
              simp only [runL] at hTu
              clear HD KEEP hH HO4 HR4 s2 hHeld HGv
              go_wp2_with (refine wpList_load_mid rfl 46 _ rfl wr.heap.size 0 rfl (runL (.slice Ag mg capg) RN) _ HRg.out Tryz.underlying46 rfl (by kernel_rfl) ?_; clear HRg)
              go_at_call 16; refine hTu.mono ?_; rintro e w6 ⟨Ag', capg', rfl, hO6⟩
              have HO6 : Hid _ := hO6
              have hSt := HO6.out.step HGD.out HLW.out.2 (fun Y (h : ((Rd.lay cl P T G).and (Rd.blk w.heap.size #[.int .i64 P, .int .i64 T, .int .i64 G, .slice E m cp] 26)).P Y) => h.1) (fun k hk => List.mem_append_left _ hk) hn6 (HLo.out.more (by omega))
              have HHn : Hid _ := HH.out.next n s (fun k i old new => actA_bd HO6.out.poke.mem k i old new)
              have HLo7 : Hid (Low ((ggPM x0 gl G).goS x0 n t s) ((k + 1 : Nat) : Int)) := PM.goS_low HLo.out
              have hml : (ggPM x0 gl G).goM t mg ≤ k + 1 := by unfold PM.goM; split <;> omega
              clear hTu hO6 HO5
              go_wp2_with fail
              go_at_call 17; refine hSt.mono ?_; rintro e w7 ⟨⟨zz, rfl⟩, L7, hO7⟩
              have HO7 : Hid _ := hO7
              clear hSt hO7 HO6 HH HLo
              generalize (ggPM x0 gl G).goS x0 n t s = s' at *
              generalize (ggPM x0 gl G).goG n t s gf mg = g' at *
              generalize (ggPM x0 gl G).goM t mg = m' at *
              generalize (ggPM x0 gl G).goT n t s = t' at *
              have hAl := alike_any w7 A A' cap cap' c b c' b' n s' hn6 HO7.out.poke.two
              go_wp2_with fail
              go_at_call 18; refine hAl.mono ?_; rintro e w8 ⟨rfl, hb8⟩
              have HO8 : Hid _ := HO7.out.still HGD.out hb8
              clear hAl hb8 HO7
              go_wp2_with fail
              go_roundw
              case rel => exact ⟨k + 1, s', Ag', capg', m', g', t', L7, by omega, by go_num, rfl, hml, HO8.out, HLo7, HHn.out⟩
              case measure => simp [intOf]; omega
        · rw [hst] at s2
          have hin : ((ggPM x0 gl G).ax t).isNone = false := by cases h : (ggPM x0 gl G).ax t <;> rw [h] at hst <;> first | rfl | cases hst
          rw [hin] at HD
          clear hin
          cases hd
          · have eo : t.obs = -1 := HANS.out.no rfl
            rw [eo] at HGv
            clear eo HANS
            have hH : Hid (w4.drew.cell? ⟨wr.heap.size, 2, none⟩ = some (.bool true) ∧ Below w4.heap.size w4 w4.drew) := ⟨s2, (Below.refl _ _).drew⟩
            have KEEP : Hid (∀ X w' : World, (X.cell? ⟨wr.heap.size, 2, none⟩ = some (.bool true) ∧ Below w4.heap.size w4 X) → Below X.heap.size X w' → (w'.cell? ⟨wr.heap.size, 2, none⟩ = some (.bool true) ∧ Below w4.heap.size w4 w')) := fun X w' h k => ⟨(k.cell (p := ⟨wr.heap.size, 2, none⟩) (Nat.lt_of_lt_of_le hs4 h.2.size)).trans h.1, h.2.trans (k.mono h.2.size)⟩
            go_wp2_with fail
            go_region_held3 (fun w' => w'.cell? ⟨wr.heap.size, 2, none⟩ = some (.bool true) ∧ Below w4.heap.size w4 w') (first | exact hH.out | assumption | exact KEEP.out _ _ ‹_› ‹_›) (first | (go_at_call 14; refine (HD.out _ (by simp only [*])).mono ?_; rintro e x1 ⟨rfl, rfl⟩) | (go_at_call 15; refine (HGv.out _ (by simp only [*])).mono ?_; rintro e x2 ⟨rfl, g2⟩))
            all_goals
              rename_i hHeld
              have HO5 : Hid _ := HO4.out.still HGD.out hHeld.2
              have HRg : Hid _ := (HR4.out.below hHeld.2).range
              have hTu := HO5.out.turn HGD.out HOK.out hn6 (HLo.out.more (by omega)) (by omega) x0
              rw [show runCells (.slice Ag mg capg) ((ggPM x0 gl G).rn t mg) = (runL (.slice Ag mg capg) ((ggPM x0 gl G).rn t mg)).toArray from rfl] at hTu
              generalize (ggPM x0 gl G).rn t mg = RN at *
              simp only [runL] at hTu
              clear HD KEEP hH HO4 HR4 s2 hHeld HGv
              go_wp2_with (refine wpList_load_mid rfl 46 _ rfl wr.heap.size 0 rfl (runL (.slice Ag mg capg) RN) _ HRg.out Tryz.underlying46 rfl (by kernel_rfl) ?_; clear HRg)
              go_at_call 16; refine hTu.mono ?_; rintro e w6 ⟨Ag', capg', rfl, hO6⟩
              have HO6 : Hid _ := hO6
              have hSt := HO6.out.step HGD.out HLW.out.2 (fun Y (h : ((Rd.lay cl P T G).and (Rd.blk w.heap.size #[.int .i64 P, .int .i64 T, .int .i64 G, .slice E m cp] 26)).P Y) => h.1) (fun k hk => List.mem_append_left _ hk) hn6 (HLo.out.more (by omega))
              have HHn : Hid _ := HH.out.next n s (fun k i old new => actA_bd HO6.out.poke.mem k i old new)
              have HLo7 : Hid (Low ((ggPM x0 gl G).goS x0 n t s) ((k + 1 : Nat) : Int)) := PM.goS_low HLo.out
              have hml : (ggPM x0 gl G).goM t mg ≤ k + 1 := by unfold PM.goM; split <;> omega
              clear hTu hO6 HO5
              go_wp2_with fail
              go_at_call 17; refine hSt.mono ?_; rintro e w7 ⟨⟨zz, rfl⟩, L7, hO7⟩
              have HO7 : Hid _ := hO7
              clear hSt hO7 HO6 HH HLo
              generalize (ggPM x0 gl G).goS x0 n t s = s' at *
              generalize (ggPM x0 gl G).goG n t s gf mg = g' at *
              generalize (ggPM x0 gl G).goM t mg = m' at *
              generalize (ggPM x0 gl G).goT n t s = t' at *
              have hAl := alike_any w7 A A' cap cap' c b c' b' n s' hn6 HO7.out.poke.two
              go_wp2_with fail
              go_at_call 18; refine hAl.mono ?_; rintro e w8 ⟨rfl, hb8⟩
              have HO8 : Hid _ := HO7.out.still HGD.out hb8
              clear hAl hb8 HO7
              go_wp2_with fail
              go_roundw
              case rel => exact ⟨k + 1, s', Ag', capg', m', g', t', L7, by omega, by go_num, rfl, hml, HO8.out, HLo7, HHn.out⟩
              case measure => simp [intOf]; omega
          · have eo : wrap64 (IntKind.i64.wrap wv - 1) = t.obs := HANS.out.yes rfl
            generalize hwv : IntKind.i64.wrap wv = wv' at *
            generalize t.obs = to at *
            clear HANS
            have hH : Hid (w4.drew.cell? ⟨wr.heap.size, 2, none⟩ = some (.bool true) ∧ Below w4.heap.size w4 w4.drew) := ⟨s2, (Below.refl _ _).drew⟩
            have KEEP : Hid (∀ X w' : World, (X.cell? ⟨wr.heap.size, 2, none⟩ = some (.bool true) ∧ Below w4.heap.size w4 X) → Below X.heap.size X w' → (w'.cell? ⟨wr.heap.size, 2, none⟩ = some (.bool true) ∧ Below w4.heap.size w4 w')) := fun X w' h k => ⟨(k.cell (p := ⟨wr.heap.size, 2, none⟩) (Nat.lt_of_lt_of_le hs4 h.2.size)).trans h.1, h.2.trans (k.mono h.2.size)⟩
            go_wp2_with fail
            go_region_held3 (fun w' => w'.cell? ⟨wr.heap.size, 2, none⟩ = some (.bool true) ∧ Below w4.heap.size w4 w') (first | exact hH.out | assumption | exact KEEP.out _ _ ‹_› ‹_›) (first | (go_at_call 14; refine (HD.out _ (by simp only [*])).mono ?_; rintro e x1 ⟨rfl, rfl⟩) | (go_at_call 15; refine (HGv.out _ (by simp only [*])).mono ?_; rintro e x2 ⟨rfl, g2⟩))
            all_goals
              rename_i hHeld
              have HO5 : Hid _ := HO4.out.still HGD.out hHeld.2
              have HRg : Hid _ := (HR4.out.below hHeld.2).range
              have hTu := HO5.out.turn HGD.out HOK.out hn6 (HLo.out.more (by omega)) (by omega) x0
              rw [show runCells (.slice Ag mg capg) ((ggPM x0 gl G).rn t mg) = (runL (.slice Ag mg capg) ((ggPM x0 gl G).rn t mg)).toArray from rfl] at hTu
              generalize (ggPM x0 gl G).rn t mg = RN at *
              simp only [runL] at hTu
              clear HD KEEP hH HO4 HR4 s2 hHeld HGv
              go_wp2_with (refine wpList_load_mid rfl 46 _ rfl wr.heap.size 0 rfl (runL (.slice Ag mg capg) RN) _ HRg.out Tryz.underlying46 rfl (by kernel_rfl) ?_; clear HRg)
              go_at_call 16; refine hTu.mono ?_; rintro e w6 ⟨Ag', capg', rfl, hO6⟩
              have HO6 : Hid _ := hO6
              have hSt := HO6.out.step HGD.out HLW.out.2 (fun Y (h : ((Rd.lay cl P T G).and (Rd.blk w.heap.size #[.int .i64 P, .int .i64 T, .int .i64 G, .slice E m cp] 26)).P Y) => h.1) (fun k hk => List.mem_append_left _ hk) hn6 (HLo.out.more (by omega))
              have HHn : Hid _ := HH.out.next n s (fun k i old new => actA_bd HO6.out.poke.mem k i old new)
              have HLo7 : Hid (Low ((ggPM x0 gl G).goS x0 n t s) ((k + 1 : Nat) : Int)) := PM.goS_low HLo.out
              have hml : (ggPM x0 gl G).goM t mg ≤ k + 1 := by unfold PM.goM; split <;> omega
              clear hTu hO6 HO5
              go_wp2_with fail
              go_at_call 17; refine hSt.mono ?_; rintro e w7 ⟨⟨zz, rfl⟩, L7, hO7⟩
              have HO7 : Hid _ := hO7
              clear hSt hO7 HO6 HH HLo
              generalize (ggPM x0 gl G).goS x0 n t s = s' at *
              generalize (ggPM x0 gl G).goG n t s gf mg = g' at *
              generalize (ggPM x0 gl G).goM t mg = m' at *
              generalize (ggPM x0 gl G).goT n t s = t' at *
              have hAl := alike_any w7 A A' cap cap' c b c' b' n s' hn6 HO7.out.poke.two
              go_wp2_with fail
              go_at_call 18; refine hAl.mono ?_; rintro e w8 ⟨rfl, hb8⟩
              have HO8 : Hid _ := HO7.out.still HGD.out hb8
              clear hAl hb8 HO7
              go_wp2_with fail
              go_roundw
              case rel => exact ⟨k + 1, s', Ag', capg', m', g', t', L7, by omega, by go_num, rfl, hml, HO8.out, HLo7, HHn.out⟩
              case measure => simp [intOf]; omega
    · obtain rfl : k = mp := by omega
      have hgd : decide ((k : Int) < (k : Int)) = false := by simp
      have HT : Hid (∀ Y, Below wr.heap.size wr Y → Two Y A A' cap cap' c b c' b' n s) := fun Y hY => HO.out.poke.two.below hY
      have hLs := glist_any wr A cap c b n cl s P T G HO.out.poke.mem hn6 HO.out.rd.1 hP64 HTG.out.1 HTG.out.2
      have HRL : Hid (∀ Y, Below wr.heap.size wr Y → _) := fun Y (hY : Below wr.heap.size wr Y) => rlist11_any Y A' cap' c' b' n s P T G (HT.out Y hY).r HNN.out hP64 HTG.out.1 HTG.out.2
      have HGr : Hid (∀ Y, Below wr.heap.size wr Y → Blk Y w.heap.size #[.int .i64 P, .int .i64 T, .int .i64 G, .slice E m cp] 26) := fun Y hY => (HO.out.rd.2 : Blk wr w.heap.size _ _).but (But.of_below (l := []) hY) (by simp)
      have HB9 : Hid (Below w.heap.size w wr) := HO.out.poke.below
      obtain ⟨r, hr⟩ : ∃ r, lsOf (fun g => peekT n s (wd (20 + P * 264 + T * 3) G 2 g 1)) G (peekT n s 16) = r := ⟨_, rfl⟩
      rw [hr] at hLs
      simp only [hr] at HRL
      clear HO HLo HH hr
      go_wp2_with fail
      go_at_call 19; refine hLs.mono ?_; rintro e wa ⟨va, rfl, hva, hba⟩
      obtain ⟨Aa, ca, rfl⟩ := lists_slice hva.own
      have hG9 := HGr.out wa hba
      have y0 := hG9.cell 0 (v := .int .i64 P) rfl
      have y1 := hG9.cell 1 (v := .int .i64 T) rfl
      have y2 := hG9.cell 2 (v := .int .i64 G) rfl
      have hRl := HRL.out wa hba
      have HVA : Hid (IntsOn wa _ (.slice Aa r.1.length ca) r.1) := hva
      have HBA : Hid (Below wr.heap.size wr wa) := hba
      clear hLs hva hba HGr HRL hG9
      go_wp2_with fail
      go_at_call 20; refine hRl.mono ?_; rintro e wc ⟨vb, rfl, hvb, hbb⟩
      obtain ⟨Ab, cb, rfl⟩ := lists_slice hvb.own
      have HVA2 : Hid (IntsOn wc _ (.slice Aa r.1.length ca) r.1) := ⟨row_below HVA.out.own hbb⟩
      have HVB : Hid (IntsOn wc _ (.slice Ab r.1.length cb) r.1) := hvb
      have HBC : Hid (Below wr.heap.size wr wc) := seq HBA.out hbb
      clear hRl hvb hbb HVA HBA y0 y1 y2
      have hl63 : r.1.length ≤ 9223372036854775807 := by have := lists_len HVB.out.own; unfold maxLen at this; omega
      generalize r.1 = l at *
      generalize r.2 = rz at *
      have HT2 : Hid (∀ Y, Below wc.heap.size wc Y → Two Y A A' cap cap' c b c' b' n s) := fun Y hY => HT.out Y (seq HBC.out hY)
      have HB10 : Hid (Below w.heap.size w wc) := seq HB9.out HBC.out
      clear HT HBC HB9
      have FINH : Hid (∀ k, Below w.heap.size w (wc.drewN k)) := fun k => Below.drewN' HB10.out k
      go_wp2_with fail
      go_loopw [22] (fun i wi => ∃ j q : Nat, j ≤ l.length ∧ i = .int .i64 j ∧ wi = wc.drewN q) (fun i _ => l.length - (intOf i).toNat)
      case atStart => exact ⟨0, 0, Nat.zero_le _, rfl, rfl⟩
      case round =>
        obtain ⟨j, q, hj, rfl, rfl⟩ := hrel
        by_cases hlt : j < l.length
        · obtain ⟨ga, cpa, ha1, ha2⟩ := HVA2.out.cell hlt
          obtain ⟨gb, cpb, hb1, hb2⟩ := HVB.out.cell hlt
          injection ha1 with ha1 ha3 ha4
          injection hb1 with hb1 hb3 hb4
          subst ha1 hb1
          have hj0 : (0 : Int) ≤ (j : Int) := by omega
          have hj1 : (j : Int) < (l.length : Int) := by omega
          generalize l.getD j 0 = o at ha2 hb2
          clear ha3 ha4 hb3 hb4 HVA2 HVB
          go_wp2_with fail
          go_quiet (fail)
          go_wp2_with fail
          go_roundw
          case rel => exact ⟨j + 1, _, by omega, by go_num, rfl⟩
          case measure => simp [intOf]; omega
        · obtain rfl : j = l.length := by omega
          have hgd2 : decide ((l.length : Int) < (l.length : Int)) = false := by simp
          have HTW := HT2.out (wc.drewN q) (Below.drewN' (Below.refl _ _) q)
          have HTS : Hid (∀ Y, Below (wc.drewN q).heap.size (wc.drewN q) Y → Two Y A A' cap cap' c b c' b' n s) := fun Y hY => HTW.below hY
          have HBF := FINH.out q
          generalize wc.drewN q = wd' at *
          have hH : Hid (wd'.drew.cell? ⟨c', 0, none⟩ = some (.slice A' n cap') ∧ Below wd'.heap.size wd' wd'.drew) := ⟨HTW.r.cells.1, (Below.refl _ _).drew⟩
          have KEEP : Hid (∀ X w' : World, (X.cell? ⟨c', 0, none⟩ = some (.slice A' n cap') ∧ Below wd'.heap.size wd' X) → Below X.heap.size X w' → (w'.cell? ⟨c', 0, none⟩ = some (.slice A' n cap') ∧ Below wd'.heap.size wd' w')) := fun X w' h k => ⟨(HTS.out _ (h.2.trans (k.mono h.2.size))).r.cells.1, h.2.trans (k.mono h.2.size)⟩
          have HB9 : Hid (Below w.heap.size w wd') := HBF
          clear HTW HBF HVA2 HVB HT2 HB10 FINH
          go_wp2_with fail
          go_region_held3 (fun w' => w'.cell? ⟨c', 0, none⟩ = some (.slice A' n cap') ∧ Below wd'.heap.size wd' w') (first | exact hH.out | assumption | exact KEEP.out _ _ ‹_› ‹_›) (first | (go_at_call 10; refine (HAW.out _).mono ?_; rintro e x1 ⟨rfl, g1⟩) | (go_at_call 22; refine (words_any _ A cap c b n s (HTS.out _ (by simp only [*])).m hn6).mono ?_; rintro e x5 ⟨A4, cap4, rfl, hs4, g5⟩) | (go_at_call 21; refine (sameB_any _ A4 A' n cap4 cap' s.f hn6 hs4 (HTS.out _ (by simp only [*])).r.sees).mono ?_; rintro e x6 ⟨rfl, g6⟩))
          all_goals
            rename_i hHeld
            have hbF := HB9.out.trans (hHeld.2.mono HB9.out.size)
            go_wp2_with fail
            go_ret
            exact ⟨rfl, hbF⟩

theorem gfreeGets_walk (P T G x0 : Int) (E F : Option Addr) (m cp mp cq : Nat) (a v : Nat → Int) (Pks : Nat → Pk) (w : World) (hAw : ∀ w, Calls Tryz.prog 10 #[] w fun e w' => e = .returned (.bool true) ∧ Below w.heap.size w w') (hm : m ≤ 9223372036854775807) (hmp : mp ≤ 9223372036854775807) (hs : SeesP w w.heap.size E m a v) (hv : ∀ i, i < m → 0 ≤ v i ∧ v i ≤ 18446744073709551615) (hP : SeesC w w.heap.size F mp 6 (pkC Pks)) (hpv : ∀ j, j < mp → 0 ≤ (Pks j).v ∧ (Pks j).v ≤ 18446744073709551615) :
    Calls Tryz.prog 3 #[.agg #[.int .i64 P, .int .i64 T, .int .i64 G, .slice E m cp], .int .i64 x0, .slice F mp cq] w fun e w' => e = .returned (.bool true) ∧ Below w.heap.size w w' := by
  by_cases h : (¬ FewC P T G ∨ 400 < m) ∨ 100 < mp ∨ x0 < 0 ∨ 300 < x0
  · exact gfreeGets_bad P T G x0 E F m cp mp cq a v w hAw hm hmp hs hv h
  · exact gfreeGets_ok P T G x0 E F m cp mp cq a v Pks w hAw (by omega) (Decidable.byContradiction fun hf => h (.inl (.inl hf))) (by omega) hs hv hP hpv (by omega)
end Go.Proofs.YtkiehfcohdeogaaGreat

namespace Go.Proofs.YtkiehfcohdeogaaGreat
open Go Go.ChangeShapes Go.WideShapes Go.ChangeAt Go.RowKit Go.Joins
set_option linter.unusedVariables false
set_option linter.unusedSimpArgs false

theorem own_gfreeGets : ownKnob Tryz.prog.godebug = none := by kernel_rfl
theorem laidOut_gfreeGets : laidOutB Tryz.prog = true := by kernel_rfl

set_option maxRecDepth 100000 in
theorem lifted_gfreeGets (os : Os) (started : os.Started) (H : Type) (enc : TypeId × Value → H) :
    ReturnsInHanded {} Tryz.checked os 3 .any (Rows.gfreeGetsSpec.pre6 enc Tryz.prog Tryz.f3 Rows.gfreeGetsRow.domain false) (Rows.gfreeGetsSpec.post enc Tryz.prog Tryz.f3 false true false false) := by
  refine returnsInHanded_of_change (C := Tryz.checked) own_gfreeGets started (by kernel_rfl) Tryz.func3
    (ChangeSpec.witness6 (enc := enc) (C := Tryz.checked) false ⟨#[], #[.agg #[.int .i64 0, .int .i64 0, .int .i64 0, .slice none 0 0], .int .i64 0, .slice none 0 0], []⟩ 8 (by kernel_rfl) (by kernel_rfl) (by kernel_rfl) (by kernel_rfl)) ?_
  intro W base args ds gs before hval0 hW hcnd _
  have hval : ∀ (j : Nat) t v, Tryz.f3.params[j]? = some t → args[j]? = some v → Value.okWide Tryz.prog W .any base t v := hval0
  have hW' := hW
  obtain ⟨p, q, hA0, hV, rfl, hfz, hnd⟩ := hW
  have hA : DataW.TrodAll enc Tryz.prog W 0 (fun _ => true) true Tryz.f3.params.toList args.toList ds p := hA0
  rw [Tryz.params3] at hA hval
  obtain ⟨v0, vs0, d0, ds0, p0, q0, hargs, rfl, rfl, h0, r0⟩ := trodAll_cons hA
  obtain ⟨v1, vs1, d1, ds1, p1, q1, rfl, rfl, rfl, h1, r1⟩ := trodAll_cons r0
  obtain ⟨v2, vs2, d2, ds2, p2, q2, rfl, rfl, rfl, h2, r2⟩ := trodAll_cons r1
  obtain ⟨rfl, rfl, rfl⟩ := trodAll_nil r2
  obtain rfl : args = #[v0, v1, v2] := by cases args; simp_all
  obtain ⟨P, T, G, E, m, cp, a, x, rfl, hm, hs, hx⟩ := open_ground (hval 0 26 v0 rfl rfl) h0
  unfold maxLen at hm
  obtain ⟨x0, rfl, rfl, rfl, wx0⟩ := open_int Tryz.underlying3 (hval 1 3 v1 rfl rfl) h1
  obtain ⟨F, mp, cq, Pks, rfl, hmp, hP, hpv⟩ := open_pokes (hval 2 27 v2 rfl rfl) h2
  unfold maxLen at hmp
  clear hA0 hval0
  refine (gfreeGets_walk P T G x0 E F m cp mp cq a x Pks W gfree_awake (by omega) (by omega) hs hx hP hpv).mono fun e W' ⟨he, hb⟩ => ?_
  subst he
  exact ⟨_, rfl, law_post laidOut_gfreeGets rfl Tryz.underlying4 (by kernel_rfl) rfl rfl rfl rfl hW' hb⟩

theorem gfreeGets_holds : Rows.GfreeGetsSaid :=
  OpenClaim.holds_of_wide 3 Tryz.f3 rfl rfl rfl rfl rfl rfl rfl ⟨rfl, rfl, rfl, rfl, rfl⟩ rfl rfl rfl rfl rfl (by kernel_rfl) Tryz.func3 (by kernel_rfl)
    (of_decide_eq_true (by kernel_rfl)) (by unfold Func.isWrapper; first | (rw [if_pos (by decide +kernel)]; kernel_rfl) | (rw [if_neg (by decide +kernel)]; exact ⟨rfl, rfl⟩))
    (fun os started H enc _ => lifted_gfreeGets os started H enc)
#print axioms gfreeGets_holds
end Go.Proofs.YtkiehfcohdeogaaGreat
