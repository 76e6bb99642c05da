/- The reference's routine that puts goroutines behind, by itself; and the machine's laws, for any list. -/
import Derived.Test.YtggbohakpkplkaaGreatRM3
import Derived.Test.YtggbohakpkplkaaGreatCp
import Derived.Test.YtggbohakpkplkaaGreatLkFl
import Derived.Test.YtggbohakpkplkaaGreatGq3
import Derived.Deep.RegionHeld3
namespace Go.Proofs.YtggbohakpkplkaaGreat
open Go Go.RowKit
set_option linter.unusedVariables false
set_option maxRecDepth 100000
set_option linter.unusedSimpArgs false


/-- A release that is to be run. -/
structure RelM (w : World) (x q g : Nat) (who sv ow : Int) : Prop where
  m : Blk w x (relCells who (some ⟨q, 0, none⟩) sv) 215
  com : Blk w q (comCells 2 0 ow 0 0 false .nilIface (.func (.func 146) #[] #[.pointer (some ⟨g, 0, none⟩)]) false false) 177
  box : Blk w g #[.func (.func 170) #[.pointer (some ⟨x, 0, none⟩)] #[]] 1
  o1 : x < q
  o2 : x < g
  ne : g ≠ q
/-- An acquire that is to be run. -/
structure AcqM (w : World) (x q : Nat) (who tk sv ow : Int) : Prop where
  m : Blk w x (acqCells who (some ⟨q, 0, none⟩) sv ow 0 false) 219
  com : Blk w q (comCells 4 0 tk 0 1 false .nilIface (.func (.func 173) #[.pointer (some ⟨x, 0, none⟩)] #[]) false false) 177
  o1 : x < q
theorem RelM.but {w w' : World} {x q g c : Nat} {who sv ow : Int} (h : RelM w x q g who sv ow) (hb : But [c] w w') (h1 : c < x) : RelM w' x q g who sv ow :=
  ⟨h.m.but hb (by simp; omega), h.com.but hb (by have := h.o1; simp; omega), h.box.but hb (by have := h.o2; simp; omega), h.o1, h.o2, h.ne⟩
theorem AcqM.but {w w' : World} {x q c : Nat} {who tk sv ow : Int} (h : AcqM w x q who tk sv ow) (hb : But [c] w w') (h1 : c < x) : AcqM w' x q who tk sv ow :=
  ⟨h.m.but hb (by simp; omega), h.com.but hb (by have := h.o1; simp; omega), h.o1⟩
theorem CameBox.before {a w w' : World} {c q g : Nat} {cs : Array Value} {com : Value → Array Value} {fv : Value} {T : TypeId} (h : CameBox w w' c cs T com fv q g) (hb : But [c] a w) : CameBox a w' c cs T com fv q g :=
  ⟨⟨Nat.le_trans hb.size h.at'.fresh, h.at'.own, h.at'.com, hb.trans h.at'.but⟩, Nat.le_trans hb.size h.fresh, h.box, h.ne⟩

end Go.Proofs.YtggbohakpkplkaaGreat

namespace Go.Proofs.YtggbohakpkplkaaGreat
open Go Go.RowKit
set_option linter.unusedVariables false
set_option maxRecDepth 100000
set_option linter.unusedSimpArgs false


def putCells (who : Int) (nx : Option Addr) (c : Nat) (g : Int) : Array Value := #[.int .i64 who, .pointer nx, .pointer (some ⟨c, 0, none⟩), .int .i64 g]

end Go.Proofs.YtggbohakpkplkaaGreat

namespace Go.Proofs.YtggbohakpkplkaaGreat
open Go Go.RowKit
set_option linter.unusedVariables false
set_option maxRecDepth 100000
set_option linter.unusedSimpArgs false


def getCells (who : Int) (nx : Option Addr) (c : Nat) (g : Int) (got : Bool) : Array Value := #[.int .i64 who, .pointer nx, .pointer (some ⟨c, 0, none⟩), .int .i64 g, .bool got]

theorem glob_word17 (w : World) (c : Nat) : Calls Tryz.prog 85 #[.pointer (some ⟨c, 0, none⟩), .int .i64 17] w fun e w' => e = .returned (.int .i64 17) ∧ w = w' := by
  go_enter Tryz.func85, Tryz.ntmps85
  go_wp2_with fail
  go_ret
  exact ⟨rfl, rfl⟩

end Go.Proofs.YtggbohakpkplkaaGreat

namespace Go.Proofs.YtggbohakpkplkaaGreat
open Go Go.RowKit
set_option linter.unusedVariables false
set_option maxRecDepth 100000
set_option linter.unusedSimpArgs false


end Go.Proofs.YtggbohakpkplkaaGreat

namespace Go.Proofs.YtggbohakpkplkaaGreat
open Go Go.RowKit
set_option linter.unusedVariables false
set_option maxRecDepth 100000
set_option linter.unusedSimpArgs false


end Go.Proofs.YtggbohakpkplkaaGreat

namespace Go.Proofs.YtggbohakpkplkaaGreat
open Go Go.RowKit
set_option linter.unusedVariables false
set_option maxRecDepth 100000
set_option linter.unusedSimpArgs false


end Go.Proofs.YtggbohakpkplkaaGreat

namespace Go.Proofs.YtggbohakpkplkaaGreat
open Go Go.RowKit
set_option linter.unusedVariables false
set_option maxRecDepth 100000
set_option linter.unusedSimpArgs false

def acqSub (tk sv ow who : Int) : Sub := ⟨AcqT, acqPM tk sv ow who, (acqFl who sv ow).I (acqPM tk sv ow who), Rd.nil, 207, 249⟩
def relSub (sv ow who : Int) : Sub := ⟨RelT, relPM sv ow, (relFl who sv).I (relPM sv ow), Rd.nil, 205, 247⟩
theorem acqSub_ok (tk sv ow who : Int) (hw : 0 ≤ who ∧ who ≤ 1000000) (R : Rd) : Steps (acqPM tk sv ow who) ((acqFl who sv ow).I (acqPM tk sv ow who)) Rd.nil 249 who ∧ MI.Good ((acqFl who sv ow).I (acqPM tk sv ow who)) (acqPM tk sv ow who) ∧ ActRun 207 249 ∧ (∀ w, R.P w → Rd.nil.P w) ∧ (∀ k ∈ Rd.nil.B, k ∈ R.B) :=
  ⟨Fl.steps (acq_laws _ _ _ who hw) stepby_acq, Fl.good (acq_laws _ _ _ who hw), act_acq, fun _ _ => trivial, fun k hk => by cases hk⟩
theorem relSub_ok (sv ow who : Int) (R : Rd) : Steps (relPM sv ow) ((relFl who sv).I (relPM sv ow)) Rd.nil 247 who ∧ MI.Good ((relFl who sv).I (relPM sv ow)) (relPM sv ow) ∧ ActRun 205 247 ∧ (∀ w, R.P w → Rd.nil.P w) ∧ (∀ k ∈ Rd.nil.B, k ∈ R.B) :=
  ⟨Fl.steps (rel_laws _ _ who) stepby_rel, Fl.good (rel_laws _ _ who), act_rel, fun _ _ => trivial, fun k hk => by cases hk⟩
theorem acqSub_at {w : World} {y q : Nat} {tk sv ow who : Int} (h : AcqM w y q who tk sv ow) : ((acqFl who sv ow).I (acqPM tk sv ow who)) w y AcqT.fresh [y, q] :=
  ⟨trivial, q, [q], h.m, .told _ h.com, by have := h.o1; simp; omega, rfl⟩
theorem relSub_at {w : World} {y q g : Nat} {sv ow who : Int} (h : RelM w y q g who sv ow) : ((relFl who sv).I (relPM sv ow)) w y RelT.fresh [y, q, g] :=
  ⟨trivial, q, [q, g], h.m, .box _ g (fun _ h => by cases h) h.com h.box h.ne, by have := h.o1; have := h.o2; simp; omega, rfl⟩

/-- Getting a lock, and what is so behind it. -/
def AcqT.goes {σ : Type} (f : AcqT → σ) (e : σ) : AcqT → σ
  | .over _ => e
  | p => f p

/-- The machine that gives a goroutine back; gl is the place of its GLink. -/
inductive GpT where
  | acq (p : AcqT)
  | ld
  | ln (f : Int)
  | st
  | rel (p : RelT)
def gpPM (who g gl : Int) : PM GpT where
  ax := fun
    | .acq p => (acqPM 3 4 5 who).ax p
    | .ld => some (axLd 16)
    | .ln f => some (axSt gl f)
    | .st => some (axSt 16 (g + 1))
    | .rel p => (relPM 4 5).ax p
  nx := fun
    | .acq p, v => ((acqPM 3 4 5 who).nx p v).goes .acq .ld
    | .ld, v => .ln v
    | .ln _, _ => .st
    | .st, _ => .rel .fresh
    | .rel p, v => .rel ((relPM 4 5).nx p v)
def AcqT.Live : AcqT → Prop
  | .over _ => False
  | _ => True
theorem acq_nx_live {who v : Int} (p : AcqT) (h : ((acqPM 3 4 5 who).ax ((acqPM 3 4 5 who).nx p v)).isSome = true) : ((acqPM 3 4 5 who).nx p v).Live := by
  cases hp : (acqPM 3 4 5 who).nx p v with
  | over t => rw [hp] at h; cases h
  | fresh => trivial
  | wait t => trivial
  | has t => trivial
theorem acq_then_live {σ : Type} {f : AcqT → σ} {e : σ} : ∀ (p : AcqT), p.Live → p.goes f e = f p
  | .fresh, _ => rfl
  | .wait _, _ => rfl
  | .has _, _ => rfl
theorem acq_then_over {σ : Type} {f : AcqT → σ} {e : σ} {who : Int} : ∀ (p : AcqT), (acqPM 3 4 5 who).ax p = none → p.goes f e = e
  | .fresh, h => by cases h
  | .wait _, h => by cases h
  | .has _, h => by cases h
  | .over _, _ => rfl
theorem acq_live_some {who : Int} : ∀ (p : AcqT), p.Live → ((acqPM 3 4 5 who).ax p).isSome = true
  | .fresh, _ => rfl
  | .wait _, _ => rfl
  | .has _, _ => rfl
end Go.Proofs.YtggbohakpkplkaaGreat

namespace Go.Proofs.YtggbohakpkplkaaGreat
open Go Go.RowKit
set_option linter.unusedVariables false
set_option maxRecDepth 100000
set_option linter.unusedSimpArgs false

/-- A config as a value, and in a box of its own. -/
def cfgV (P T G : Int) : Value := .agg #[.int .i64 P, .int .i64 T, .int .i64 G]
def cfgA (P T G : Int) : Array Value := #[.int .i64 P, .int .i64 T, .int .i64 G]
theorem refg_any (P T G g f : Int) (w : World) (hp : 0 ≤ P ∧ P ≤ 64) (hT : 0 ≤ T ∧ T ≤ 65536) (hg : 0 ≤ g ∧ g ≤ 65536) (hf : 0 ≤ f ∧ f < 2) : Calls Tryz.prog 159 #[.agg #[.int .i64 P, .int .i64 T, .int .i64 G], .int .i64 g, .int .i64 f] w fun e w' => e = .returned (.int .i64 (20 + 264 * P + 3 * T + 2 * g + f)) ∧ Below w.heap.size w w' := by
  have hb : Below w.heap.size w (w.alloc (.cells #[.int .i64 P, .int .i64 T, .int .i64 G] 23)) := (Below.refl _ _).alloc (Nat.le_refl _) _
  go_enter Tryz.func159, Tryz.ntmps159
  go_wp2_with fail
  go_ret
  exact ⟨ret_int (by first | rfl | omega | (unfold wrap64; omega)), hb⟩
theorem refgAt_any (P T G g f : Int) (w : World) (hp : 0 ≤ P ∧ P ≤ 64) (hT : 0 ≤ T ∧ T ≤ 65536) (hG : G ≤ 65536) (hf : 0 ≤ f ∧ f < 2) :
    Calls Tryz.prog 139 #[.agg #[.int .i64 P, .int .i64 T, .int .i64 G], .int .i64 g, .int .i64 f] w fun e w' => e = .returned (.int .i64 (wd (20 + P * 264 + T * 3) G 2 g f)) ∧ Below w.heap.size w w' := by
  have hb : Below w.heap.size w (w.alloc (.cells #[.int .i64 P, .int .i64 T, .int .i64 G] 23)) := (Below.refl _ _).alloc (Nat.le_refl _) _
  by_cases hg : 0 ≤ g ∧ g < G
  · have e : 20 + 264 * P + 3 * T + 2 * g + f = wd (20 + P * 264 + T * 3) G 2 g f := by unfold wd; rw [if_pos ⟨hg.1, hg.2, by omega, by omega⟩]; omega
    have hT := refg_any P T G g f (w.alloc (.cells #[.int .i64 P, .int .i64 T, .int .i64 G] 23)) hp hT (by omega) hf
    rw [e] at hT
    generalize wd (20 + P * 264 + T * 3) G 2 g f = nt at *
    clear e
    have hX : Hid (Blk (w.alloc (.cells #[.int .i64 P, .int .i64 T, .int .i64 G] 23)) w.heap.size #[.int .i64 P, .int .i64 T, .int .i64 G] 23) := Blk.new _ _ _
    have HB : Hid (Below w.heap.size w (w.alloc (.cells #[.int .i64 P, .int .i64 T, .int .i64 G] 23))) := hb
    have hsz := World.size_alloc w (.cells #[.int .i64 P, .int .i64 T, .int .i64 G] 23)
    have d1 : decide (g < 0) = false := decide_eq_false (by omega)
    have d2 : decide (G ≤ g) = false := decide_eq_false (by omega)
    clear hb
    go_enter Tryz.func139, Tryz.ntmps139
    go_wp2_with fail
    go_at_call 159; refine hT.mono ?_; rintro e w1 ⟨rfl, h1⟩
    have h2 := HB.out.trans (h1.mono HB.out.size)
    clear hT h1
    go_wp2_with fail
    go_ret
    exact ⟨rfl, h2⟩
  · have e : wd (20 + P * 264 + T * 3) G 2 g f = -1 := by unfold wd; rw [if_neg (fun h => hg ⟨h.1, h.2.1⟩)]
    rw [e]
    by_cases h0 : g < 0
    · clear hg e
      go_enter Tryz.func139, Tryz.ntmps139
      go_wp2_with fail
      go_ret
      exact ⟨rfl, hb⟩
    · have d1 : decide (g < 0) = false := decide_eq_false h0
      have h1 : G ≤ g := by omega
      clear hg e
      go_enter Tryz.func139, Tryz.ntmps139
      go_wp2_with fail
      go_ret
      exact ⟨rfl, hb⟩
end Go.Proofs.YtggbohakpkplkaaGreat

namespace Go.Proofs.YtggbohakpkplkaaGreat
open Go Go.RowKit
set_option linter.unusedVariables false
set_option maxRecDepth 100000
set_option linter.unusedSimpArgs false

def Rd.row (g cap : Nat) (l : List Int) : Rd := ⟨[g], fun w => RowAt w g cap l, fun w w' lb h hb hk => h.but hb (hk g (by simp))⟩
inductive QpT where
  | ch (k : Nat)
  | ld
  | pt (t : Int)
  | tr
  | ct
  | over
  | done0
def qpPM (gl : Int → Int) (l : List Int) : PM QpT where
  ax := fun
    | .ch k => some (axSt (gl (l.getD k 0)) (if k + 1 < l.length then qwd (l.getD (k + 1) 0) else 0))
    | .ld => some (axLd 7)
    | .pt t => some (axSt (if t = 0 then 6 else gl (gw t)) (qwd (l.getD 0 0)))
    | .tr => some (axSt 7 (qwd (l.getD (l.length - 1) 0)))
    | .ct => some (axAd 8 l.length)
    | .over => none
    | .done0 => none
  nx := fun
    | .ch k, _ => if k + 1 < l.length then .ch (k + 1) else .ld
    | .ld, v => .pt v
    | .pt _, _ => .tr
    | .tr, _ => .ct
    | .ct, _ => .over
    | t, _ => t
def QpT.linked (n : Nat) : QpT → Nat
  | .ch k => k + 1
  | .done0 => 0
  | _ => n
def QpT.lies : QpT → Bool
  | .tr => true
  | .ct => true
  | .over => true
  | _ => false
def qpFl (who : Int) (cl : Nat) (sl : Value) (l : List Int) : Fl QpT where
  T := 171
  cells := fun t nx => qpCells who nx cl sl (t.linked l.length) t.lies
  fol := fun
    | .ch _ => .untold 201
    | .ld => .told 206
    | .pt _ => .untold 211
    | .tr => .untold 216
    | _ => .nil
  ok := fun
    | .ch k => k < l.length
    | _ => True
theorem ent_qp1 : Ent 201 := fun args w => by kernel_rfl
theorem ent_qp2 : Ent 206 := fun args w => by kernel_rfl
theorem ent_qp3 : Ent 211 := fun args w => by kernel_rfl
theorem ent_qp4 : Ent 216 := fun args w => by kernel_rfl
theorem getD_bd {l : List Int} (hb : ∀ y ∈ l, 0 ≤ y ∧ y ≤ 1000000) (j : Nat) : 0 ≤ l.getD j 0 ∧ l.getD j 0 ≤ 1000000 := by
  rw [List.getD_eq_getElem?_getD]
  rcases Nat.lt_or_ge j l.length with h | h
  · rw [List.getElem?_eq_getElem h]; exact hb _ (List.getElem_mem _)
  · rw [List.getElem?_eq_none h]; exact ⟨Int.le_refl _, by decide⟩
section
variable (who P T G : Int) (cl g cap : Nat) (l : List Int) (hp : 0 ≤ P ∧ P ≤ 64) (hT : 0 ≤ T ∧ T ≤ 65536) (hG : 0 ≤ G ∧ G ≤ 65536) (h0 : 0 < l.length) (hn : l.length ≤ 1000000)
include hp hT hG h0 hn
theorem qp_laws : (qpFl who cl (.slice (some ⟨g, 0, none⟩) l.length cap) l).Laws (qpPM (fun y => wd (20 + P * 264 + T * 3) G 2 y 1) l) ((Rd.lay cl P T G).and (Rd.row g cap l)) who where
  c0 := fun t nx => rfl
  c1 := fun t nx => rfl
  set := fun t nx nx' => rfl
  axok := fun t a hok h => by
    cases t with
    | ch k =>
      cases h
      have := qwd_bd (l.getD (k + 1) 0)
      refine axSt_ok _ _ ?_
      by_cases hk : k + 1 < l.length
      · rw [if_pos hk]; omega
      · rw [if_neg hk]; omega
    | ld => cases h; exact axLd_ok _
    | pt t => cases h; exact axSt_ok _ _ (qwd_bd _)
    | tr => cases h; exact axSt_ok _ _ (qwd_bd _)
    | ct => cases h; exact axAd_ok _ _ (by omega)
    | over => cases h
    | done0 => cases h
  ents := fun t a h => by
    cases t with
    | ch k => exact ent_qp1
    | ld => exact ent_qp2
    | pt t => exact ent_qp3
    | tr => exact ent_qp4
    | ct => exact trivial
    | over => exact trivial
    | done0 => exact trivial
  ok := fun t a v hok h hv => by
    cases t with
    | ch k => by_cases hk : k + 1 < l.length <;> simp [qpPM, qpFl, hk]
    | ld => exact trivial
    | pt t => exact trivial
    | tr => exact trivial
    | ct => exact trivial
    | over => exact trivial
    | done0 => exact trivial
  fol := fun W x t a v hok h hv hB hR hxR => by
    obtain ⟨hR1, hR2⟩ := hR
    have hcx : cl ≠ x := fun e => hxR (by rw [← e]; exact List.mem_append_left _ (List.mem_singleton.2 rfl))
    have hgx : g ≠ x := fun e => hxR (by rw [← e]; exact List.mem_append_right _ (List.mem_singleton.2 rfl))
    cases t with
    | ch k =>
      cases h
      by_cases hk : k + 1 < l.length
      · have e : (qpPM (fun y => wd (20 + P * 264 + T * 3) G 2 y 1) l).nx (.ch k) v = .ch (k + 1) := if_pos hk
        rw [e]
        by_cases hk2 : k + 1 + 1 < l.length
        · have H := qput_chain_more W x cl g cap who l none (k + 1) P T G false hB hR2 hgx hk2 hn hR1 hcx hp hT hG.2
          have e2 : (qpPM (fun y => wd (20 + P * 264 + T * 3) G 2 y 1) l).ax (.ch (k + 1)) = some (axSt (wd (20 + P * 264 + T * 3) G 2 (l.getD (k + 1) 0) 1) (qwd (l.getD (k + 1 + 1) 0))) := by
            show some (axSt _ (if k + 1 + 1 < l.length then _ else _)) = _
            rw [if_pos hk2]
          refine H.mono ?_
          rintro e' w' ⟨hu, hC⟩
          refine ⟨hu, ?_⟩
          unfold Fl.Landed
          rw [e2]
          exact hC
        · have H := qput_chain_last W x cl g cap who l none (k + 1) P T G false hB hR2 hgx (by omega) hn hR1 hcx hp hT hG.2
          have e2 : (qpPM (fun y => wd (20 + P * 264 + T * 3) G 2 y 1) l).ax (.ch (k + 1)) = some (axSt (wd (20 + P * 264 + T * 3) G 2 (l.getD (k + 1) 0) 1) 0) := by
            show some (axSt _ (if k + 1 + 1 < l.length then _ else _)) = _
            rw [if_neg hk2]
          refine H.mono ?_
          rintro e' w' ⟨hu, hC⟩
          refine ⟨hu, ?_⟩
          unfold Fl.Landed
          rw [e2]
          exact hC
      · have e : (qpPM (fun y => wd (20 + P * 264 + T * 3) G 2 y 1) l).nx (.ch k) v = .ld := if_neg hk
        have hkn : k + 1 = l.length := by have : k < l.length := hok; omega
        rw [e]
        have hB' : Blk W x (qpCells who none cl (.slice (some ⟨g, 0, none⟩) l.length cap) l.length false) 171 := by
          have hB1 : Blk W x (qpCells who none cl (.slice (some ⟨g, 0, none⟩) l.length cap) ((k + 1 : Nat) : Int) false) 171 := hB
          rw [hkn] at hB1
          exact hB1
        exact qput_chain_end W x cl g cap who l none false hB' hn
    | ld =>
      cases h
      by_cases hv0 : v = 0
      · subst hv0
        exact qput_lead_none W x cl g cap who l none l.length false hB hR2 h0 hn
      · have H := qput_lead_some W x cl g cap who l none l.length v P T G false hB hR2 h0 hn hv0 hR1 hp hT hG.2
        have e2 : (qpPM (fun y => wd (20 + P * 264 + T * 3) G 2 y 1) l).ax (.pt v) = some (axSt (wd (20 + P * 264 + T * 3) G 2 (gw v) 1) (qwd (l.getD 0 0))) := by
          show some (axSt (if v = 0 then _ else _) _) = _
          rw [if_neg hv0]
        refine H.mono ?_
        rintro e' w' ⟨hu, hC⟩
        refine ⟨hu, ?_⟩
        show Fl.Landed _ _ _ _ _ (QpT.pt v)
        unfold Fl.Landed
        rw [e2]
        exact hC
    | pt t => cases h; exact qput_trail W x cl g cap who l none l.length false hB hR2 hgx h0 hn
    | tr => cases h; exact qput_tell W x cl g cap who l none l.length true hB hn
    | ct => cases h; exact ⟨hB, But.refl _ _⟩
    | over => cases h
    | done0 => cases h
end

/-- How a machine that puts goroutines behind lies in memory: its row is its own. -/
def qpI (who : Int) (cl : Nat) (gl : Int → Int) (l : List Int) : MI QpT := fun w x t L =>
  (0 < l.length ∧ ∃ g cap L', L = g :: L' ∧ g ∉ L' ∧ RowAt w g cap l ∧ (qpFl who cl (.slice (some ⟨g, 0, none⟩) l.length cap) l).I (qpPM gl l) w x t L') ∨
  (l = [] ∧ t = .done0 ∧ ∃ A cap, (A = none → cap = 0) ∧ (qpFl who cl (.slice A 0 cap) []).I (qpPM gl []) w x .done0 L)
theorem qp_good (who P T G : Int) (cl : Nat) (l : List Int) (hp : 0 ≤ P ∧ P ≤ 64) (hT : 0 ≤ T ∧ T ≤ 65536) (hG : 0 ≤ G ∧ G ≤ 65536) (hn : l.length ≤ 1000000) : (qpI who cl (fun y => wd (20 + P * 264 + T * 3) G 2 y 1) l).Good (qpPM (fun y => wd (20 + P * 264 + T * 3) G 2 y 1) l) where
  keep := by
    rintro w w' x t L lb (⟨h0, g, cap, L', rfl, hg, hr, h⟩ | ⟨rfl, rfl, A, cap, ha, h⟩) hbt hk
    · exact .inl ⟨h0, g, cap, L', rfl, hg, hr.but hbt (hk g (by simp)), (Fl.good (qp_laws who P T G cl g cap l hp hT hG h0 hn)).keep h hbt (fun k hm => hk k (by simp [hm]))⟩
    · rw [Fl.at_none rfl] at h
      obtain ⟨h1, h2, rfl⟩ := h
      refine .inr ⟨rfl, rfl, A, cap, ha, ?_⟩
      rw [Fl.at_none rfl]
      exact ⟨h1, h2.but hbt (hk x (by simp)), rfl⟩
  lt := by
    rintro w x t L (⟨h0, g, cap, L', rfl, hg, hr, h⟩ | ⟨rfl, rfl, A, cap, ha, h⟩) k hk
    · simp at hk
      rcases hk with rfl | hk
      · exact hr.lt
      · exact (Fl.good (qp_laws who P T G cl g cap l hp hT hG h0 hn)).lt h k hk
    · rw [Fl.at_none rfl] at h
      obtain ⟨h1, h2, rfl⟩ := h
      simp at hk; subst hk; exact h2.lt
  mem := by
    rintro w x t L (⟨h0, g, cap, L', rfl, hg, hr, h⟩ | ⟨rfl, rfl, A, cap, ha, h⟩)
    · exact List.mem_cons_of_mem _ ((Fl.good (qp_laws who P T G cl g cap l hp hT hG h0 hn)).mem h)
    · rw [Fl.at_none rfl] at h
      obtain ⟨h1, h2, rfl⟩ := h
      simp
  next := by
    rintro w x t L (⟨h0, g, cap, L', rfl, hg, hr, h⟩ | ⟨rfl, rfl, A, cap, ha, h⟩)
    · exact (Fl.good (qp_laws who P T G cl g cap l hp hT hG h0 hn)).next h
    · rw [Fl.at_none rfl] at h
      obtain ⟨h1, h2, rfl⟩ := h
      exact ⟨none, h2.cell 1 rfl, rfl⟩
theorem qp_steps (who P T G : Int) (cl : Nat) (l : List Int) (hp : 0 ≤ P ∧ P ≤ 64) (hT : 0 ≤ T ∧ T ≤ 65536) (hG : 0 ≤ G ∧ G ≤ 65536) (hn : l.length ≤ 1000000) {K : Nat} (hK : StepBy K) : Steps (qpPM (fun y => wd (20 + P * 264 + T * 3) G 2 y 1) l) (qpI who cl (fun y => wd (20 + P * 264 + T * 3) G 2 y 1) l) (Rd.lay cl P T G) K who := by
  rintro w A cp cm b n s x t L (⟨h0, g, cap, L', rfl, hg, hr, h⟩ | ⟨rfl, rfl, A1, cap, ha, h⟩) hR hI hn1 hl hf hcb
  · have hgf := hf g (by simp)
    have hgd := Fl.good (qp_laws who P T G cl g cap l hp hT hG h0 hn)
    refine (Fl.steps (qp_laws who P T G cl g cap l hp hT hG h0 hn) hK w A cp cm b n s x t L' h ⟨hR, hr⟩ hI hn1 hl (fun k hk => ⟨(hf k (by simp [hk])).1, (hf k (by simp [hk])).2.1, fun hm => ?_⟩) ⟨fun hm => ?_, fun hm => ?_⟩).mono ?_
    · rcases List.mem_append.1 hm with hm | hm
      · exact (hf k (by simp [hk])).2.2 hm
      · exact hg ((List.mem_singleton.1 hm) ▸ hk)
    · rcases List.mem_append.1 hm with hm | hm
      · exact hcb.1 hm
      · exact hgf.1 (List.mem_singleton.1 hm).symm
    · rcases List.mem_append.1 hm with hm | hm
      · exact hcb.2 hm
      · exact hgf.2.1 (List.mem_singleton.1 hm).symm
    · rintro e w' ⟨rfl, L2, h1, h2, h3, h4⟩
      refine ⟨rfl, g :: L2, .inl ⟨h0, g, cap, L2, rfl, fun hm => ?_, hr.but h3 ?_, h1⟩, h2, h3.more (by intro k _ hk; simp at hk ⊢; rcases hk with h | h | h <;> simp [h]), fun k hk => ?_⟩
      · rcases h4 g hm with h5 | h5
        · exact hg h5
        · have := hr.lt; omega
      · simp only [List.mem_cons, not_or]
        exact ⟨hgf.1, hgf.2.1, hg⟩
      · simp at hk
        rcases hk with rfl | hk
        · exact .inl (by simp)
        · rcases h4 k hk with h5 | h5
          · exact .inl (by simp [h5])
          · exact .inr h5
  · have hI0 := h
    rw [Fl.at_none rfl] at h
    obtain ⟨h1, h2, rfl⟩ := h
    refine (hK w x _ (fun z w' => z = true ∧ w = w') ((step_none w x cm (h2.cell 1 rfl)).mono ?_)).mono ?_
    · rintro e w' ⟨rfl, rfl⟩; exact ⟨true, rfl, rfl, rfl⟩
    · rintro e w' ⟨z, rfl, rfl, rfl⟩
      exact ⟨rfl, [x], .inr ⟨rfl, rfl, A1, cap, ha, hI0⟩, hI, But.refl _ _, fun k hk => .inl hk⟩
end Go.Proofs.YtggbohakpkplkaaGreat

namespace Go.Proofs.YtggbohakpkplkaaGreat
open Go Go.RowKit
set_option linter.unusedVariables false
set_option maxRecDepth 100000
set_option linter.unusedSimpArgs false

theorem RowAt.sees {w : World} {g cap : Nat} {l : List Int} (h : RowAt w g cap l) : SeesL w (.slice (some ⟨g, 0, none⟩) l.length cap) l :=
  ⟨_, cap, rfl, (fun h => by cases h), fun _ => ⟨g, 0, rfl, h.lt, fun j hj => by rw [Nat.zero_add]; exact h.cell j hj⟩⟩
theorem qput_holds (w : World) (x cl : Nat) (who k : Int) (nx : Option Addr) (sl : Value) (l : List Int) (z : Bool) (h : Blk w x (qpCells who nx cl sl k z) 171) (hs : SeesL w sl l) (hn : l.length ≤ 1000000) :
    Calls Tryz.prog 66 #[.pointer (some ⟨x, 0, none⟩)] w fun e w' => ∃ v, e = .returned v ∧ IntsOn w' w.heap.size v (if z then [] else l) ∧ Below w.heap.size w w' := by
  have c3 := h.cell 3 (v := sl) rfl
  have c5 := h.cell 5 (v := .bool z) rfl
  have HC := lclone_any sl l w hn hs
  clear h hs
  cases z with
  | true =>
    clear HC c3
    go_enter Tryz.func66, Tryz.ntmps66
    go_wp2_with fail
    go_ret
    exact ⟨_, rfl, ⟨World.ownsRow_nil _ _ _ _⟩, Below.refl _ _⟩
  | false =>
    go_enter Tryz.func66, Tryz.ntmps66
    go_wp2_with fail
    go_at_call 111; refine HC.mono ?_; rintro e w1 ⟨v, rfl, h1, h2⟩
    clear HC c3 c5
    go_wp2_with fail
    go_ret
    exact ⟨_, rfl, h1, h2⟩
theorem qput_holds_nil (w : World) : Calls Tryz.prog 66 #[.pointer none] w fun e w' => e = .returned (.slice none 0 0) ∧ w = w' := by
  go_enter Tryz.func66, Tryz.ntmps66
  go_wp2_with fail
  go_ret
  exact ⟨rfl, rfl⟩
theorem qp_holds {who : Int} {cl : Nat} {gl : Int → Int} {l : List Int} {w : World} {x : Nat} {t : QpT} {L : List Nat} (h : qpI who cl gl l w x t L) (hn : l.length ≤ 1000000) :
    Calls Tryz.prog 66 #[.pointer (some ⟨x, 0, none⟩)] w fun e w' => ∃ v, e = .returned v ∧ IntsOn w' w.heap.size v (if t.lies then [] else l) ∧ Below w.heap.size w w' := by
  rcases h with ⟨h0, g, cap, L', rfl, hg, hr, h⟩ | ⟨rfl, rfl, A, cap, ha, h⟩
  · obtain ⟨nx, h1, -⟩ := Fl.blk h
    exact qput_holds w x cl who _ nx _ l t.lies h1 hr.sees hn
  · obtain ⟨nx, h1, -⟩ := Fl.blk h
    exact qput_holds w x cl who _ nx (.slice A 0 cap) [] false h1 ⟨A, cap, rfl, fun e => ⟨rfl, ha e⟩, fun e => absurd e (by simp)⟩ hn
def qpStart (l : List Int) : QpT := if l = [] then .done0 else .ch 0
theorem qp_new_nil (w : World) (cl : Nat) (who : Int) (gl : Int → Int) (sl : Value) (hs : SeesL w sl []) :
    Calls Tryz.prog 191 #[.pointer (some ⟨cl, 0, none⟩), .int .i64 who, sl] w fun e w' => ∃ x L, e = .returned (.pointer (some ⟨x, 0, none⟩)) ∧ qpI who cl gl [] w' x .done0 L ∧ Below w.heap.size w w' ∧ (∀ k ∈ L, w.heap.size ≤ k) ∧ w.heap.size ≤ x := by
  have HC := lclone_any sl [] w (by simp) hs
  obtain ⟨A0, cap0, rfl, -, -⟩ := hs
  go_enter Tryz.func191, Tryz.ntmps191
  go_wp2_with fail
  go_at_call 111; refine HC.mono ?_; rintro e w1 ⟨v, rfl, h1, hb1⟩
  obtain ⟨A, cap, rfl, ha, -⟩ := h1.sees
  have hB := Blk.new w1 #[.int .i64 0, .pointer none, .pointer none, .slice A 0 cap, .int .i64 0, .bool false] 171
  have hO := q_of _ w1.heap.size cl who _ (qpCells who none cl (.slice A 0 cap) 0 false) 171 hB (by simp) rfl
  have HH : Hid (Below w.heap.size w (w1.alloc (.cells #[.int .i64 0, .pointer none, .pointer none, .slice A 0 cap, .int .i64 0, .bool false] 171)) ∧ w.heap.size ≤ w1.heap.size) := ⟨seq hb1 ((Below.refl _ _).alloc (Nat.le_refl _) _), hb1.size⟩
  clear HC h1 hb1 hB
  go_wp2_with fail
  go_at_call 200; refine hO.mono ?_; rintro e w2 ⟨⟨v, rfl⟩, k1, k2, k3⟩
  have HF : Hid (qpI who cl gl [] w2 w1.heap.size .done0 [w1.heap.size] ∧ Below w.heap.size w w2) := by
    refine ⟨.inr ⟨rfl, rfl, A, cap, fun e => (ha e).2, (Fl.at_none rfl).2 ⟨trivial, k1, rfl⟩⟩, ?_⟩
    exact HH.out.1.trans (k2.below (by intro k hk; simp at hk; subst hk; first | exact HH.out.2 | exact HH.out.2.2.2.1) (by have := HH.out.2; rw [World.size_alloc]; omega))
  have hsz := HH.out.2
  clear hO HH k1 k2 k3
  go_wp2_with fail
  go_ret
  exact ⟨_, _, rfl, HF.out.1, HF.out.2, fun k hk => by simp at hk; subst hk; exact hsz, hsz⟩
theorem qp_new_some (w : World) (cl : Nat) (who P T G : Int) (sl : Value) (l : List Int) (hs : SeesL w sl l) (h0 : 0 < l.length) (hn : l.length ≤ 1000000) (hl : Lay w cl P T G) (hp : 0 ≤ P ∧ P ≤ 64) (hT : 0 ≤ T ∧ T ≤ 65536) (hG : 0 ≤ G ∧ G ≤ 65536) :
    Calls Tryz.prog 191 #[.pointer (some ⟨cl, 0, none⟩), .int .i64 who, sl] w fun e w' => ∃ x L, e = .returned (.pointer (some ⟨x, 0, none⟩)) ∧ qpI who cl (fun y => wd (20 + P * 264 + T * 3) G 2 y 1) l w' x (.ch 0) L ∧ Below w.heap.size w w' ∧ (∀ k ∈ L, w.heap.size ≤ k) ∧ w.heap.size ≤ x := by
  have HC := lclone_any sl l w hn hs
  obtain ⟨A0, cap0, rfl, -, -⟩ := hs
  have hd : (0 : Int) < (l.length : Int) := by omega
  have HCH : Hid (∀ (Y : World) (x g cap : Nat), Blk Y x (qpCells who none cl (.slice (some ⟨g, 0, none⟩) l.length cap) 0 false) 171 → RowAt Y g cap l → g ≠ x → Lay Y cl P T G → cl ≠ x → Calls Tryz.prog 201 #[.pointer (some ⟨x, 0, none⟩)] Y fun e w' => (∃ v, e = .returned v) ∧ (qpFl who cl (.slice (some ⟨g, 0, none⟩) l.length cap) l).Landed (qpPM (fun y => wd (20 + P * 264 + T * 3) G 2 y 1) l) Y w' x (.ch 0)) := by
    intro Y x g cap hB hr hgx hl hcx
    by_cases hk2 : 0 + 1 < l.length
    · have H := qput_chain_more Y x cl g cap who l none 0 P T G false hB hr hgx hk2 hn hl hcx hp hT hG.2
      have e2 : (qpPM (fun y => wd (20 + P * 264 + T * 3) G 2 y 1) l).ax (.ch 0) = some (axSt (wd (20 + P * 264 + T * 3) G 2 (l.getD 0 0) 1) (qwd (l.getD (0 + 1) 0))) := by
        show some (axSt _ (if 0 + 1 < l.length then _ else _)) = _
        rw [if_pos hk2]
      refine H.mono ?_
      rintro e' w' ⟨hu, hC⟩
      refine ⟨hu, ?_⟩
      unfold Fl.Landed
      rw [e2]
      exact hC
    · have H := qput_chain_last Y x cl g cap who l none 0 P T G false hB hr hgx (by omega) hn hl hcx hp hT hG.2
      have e2 : (qpPM (fun y => wd (20 + P * 264 + T * 3) G 2 y 1) l).ax (.ch 0) = some (axSt (wd (20 + P * 264 + T * 3) G 2 (l.getD 0 0) 1) 0) := by
        show some (axSt _ (if 0 + 1 < l.length then _ else _)) = _
        rw [if_neg hk2]
      refine H.mono ?_
      rintro e' w' ⟨hu, hC⟩
      refine ⟨hu, ?_⟩
      unfold Fl.Landed
      rw [e2]
      exact hC
  have HLW : Hid (qpFl who cl .nilIface l = qpFl who cl .nilIface l ∧ 0 < l.length ∧ Lay w cl P T G) := ⟨rfl, h0, hl⟩
  have HLL : Hid (∀ g cap, (qpFl who cl (.slice (some ⟨g, 0, none⟩) l.length cap) l).Laws (qpPM (fun y => wd (20 + P * 264 + T * 3) G 2 y 1) l) ((Rd.lay cl P T G).and (Rd.row g cap l)) who) := fun g cap => qp_laws who P T G cl g cap l hp hT hG h0 hn
  generalize (fun y => wd (20 + P * 264 + T * 3) G 2 y 1) = gl at *
  generalize hnn : l.length = n at *
  clear hp hT hG hl
  go_enter Tryz.func191, Tryz.ntmps191
  go_wp2_with fail
  go_at_call 111; refine HC.mono ?_; rintro e w1 ⟨v, rfl, h1, hb1⟩
  obtain ⟨g, cap, rfl, hg0, hr⟩ := h1.row (by omega)
  rw [hnn]
  have hB := Blk.new w1 #[.int .i64 0, .pointer none, .pointer none, .slice (some ⟨g, 0, none⟩) n cap, .int .i64 0, .bool false] 171
  have hO := q_of _ w1.heap.size cl who _ (qpCells who none cl (.slice (some ⟨g, 0, none⟩) n cap) 0 false) 171 hB (by simp) rfl
  have HH : Hid (Below w.heap.size w w1 ∧ RowAt w1 g cap l ∧ Below w.heap.size w (w1.alloc (.cells #[.int .i64 0, .pointer none, .pointer none, .slice (some ⟨g, 0, none⟩) n cap, .int .i64 0, .bool false] 171)) ∧ w.heap.size ≤ w1.heap.size ∧ w.heap.size ≤ g) := ⟨hb1, hr, seq hb1 ((Below.refl _ _).alloc (Nat.le_refl _) _), hb1.size, hg0⟩
  clear HC h1 hb1 hB hr
  go_wp2_with fail
  go_at_call 200; refine hO.mono ?_; rintro e w2 ⟨⟨v, rfl⟩, k1, k2, k3⟩
  have hb2 : Below w.heap.size w w2 := HH.out.2.2.1.trans (k2.below (by intro k hk; simp at hk; subst hk; first | exact HH.out.2 | exact HH.out.2.2.2.1) (by have := HH.out.2.2.2.1; rw [World.size_alloc]; omega))
  have hgl := HH.out.2.1.lt
  have hr2 : RowAt w2 g cap l := (HH.out.2.1.below ((Below.refl _ _).alloc (Nat.le_refl _) _)).but k2 (by simp; omega)
  have hll := HLW.out.2.2.lt
  have hsz := HH.out.2.2.2.1
  have hCh := HCH.out w2 w1.heap.size g cap k1 hr2 (by omega) (HLW.out.2.2.below hb2 hll) (by omega)
  have HF2 : Hid (Below w.heap.size w w2 ∧ RowAt w2 g cap l ∧ w1.heap.size < w2.heap.size ∧ g < w1.heap.size ∧ w.heap.size ≤ g) := ⟨hb2, hr2, k1.lt, hgl, HH.out.2.2.2.2⟩
  clear hO HH k1 k2 k3 hr2 hb2 HCH
  go_wp2_with fail
  go_at_call 201; refine hCh.mono ?_; rintro e w3 ⟨⟨v2, rfl⟩, hC⟩
  have HF : Hid (∃ L, qpI who cl gl l w3 w1.heap.size (.ch 0) L ∧ Below w.heap.size w w3 ∧ ∀ k ∈ L, w.heap.size ≤ k) := by
    obtain ⟨-, ⟨L', i1, i2⟩, i3⟩ := Fl.land (HLL.out g cap) hC (by show 0 < l.length; rw [hnn]; exact HLW.out.2.1) HF2.out.2.2.1
    refine ⟨g :: L', .inl ⟨by rw [hnn]; exact HLW.out.2.1, g, cap, L', rfl, fun hm => ?_, HF2.out.2.1.but i3 (by have := HF2.out.2.2.2.1; simp; omega), by rw [hnn]; exact i1⟩, HF2.out.1.trans (i3.below (by simp; omega) HF2.out.1.size), fun k hk => ?_⟩
    · have := HF2.out.2.2.2.1
      rcases i2 g hm with h | h
      · omega
      · have := HF2.out.2.2.1; omega
    · have h3 := HF2.out.1.size
      simp at hk
      rcases hk with rfl | hk
      · exact HF2.out.2.2.2.2
      · rcases i2 k hk with rfl | h
        · exact hsz
        · omega
  clear hCh hC HF2
  go_wp2_with fail
  go_ret
  obtain ⟨L, f1, f2, f3⟩ := HF.out
  exact ⟨_, L, rfl, f1, f2, f3, hsz⟩
end Go.Proofs.YtggbohakpkplkaaGreat

namespace Go.Proofs.YtggbohakpkplkaaGreat
open Go Go.RowKit
set_option linter.unusedVariables false
set_option maxRecDepth 100000
set_option linter.unusedSimpArgs false

structure QpIn {σ : Type} (M : PM σ) (gl : Int → Int) (l : List Int) (emb : QpT → σ) : Prop where
  ch : ∀ k, M.ax (emb (.ch k)) = some (axSt (gl (l.getD k 0)) (if k + 1 < l.length then qwd (l.getD (k + 1) 0) else 0))
  ld : M.ax (emb .ld) = some (axLd 7)
  pt : ∀ t, M.ax (emb (.pt t)) = some (axSt (if t = 0 then 6 else gl (gw t)) (qwd (l.getD 0 0)))
  tr : M.ax (emb .tr) = some (axSt 7 (qwd (l.getD (l.length - 1) 0)))
  ct : M.ax (emb .ct) = some (axAd 8 l.length)
  n1 : ∀ k v, M.nx (emb (.ch k)) v = if k + 1 < l.length then emb (.ch (k + 1)) else emb .ld
  n2 : ∀ v, M.nx (emb .ld) v = emb (.pt v)
  n3 : ∀ t v, M.nx (emb (.pt t)) v = emb .tr
  n4 : ∀ v, M.nx (emb .tr) v = emb .ct
  n5 : ∀ v, M.nx (emb .ct) v = emb .over
def QpT.live : QpT → Bool
  | .over => false
  | .done0 => false
  | _ => true
theorem qp_in (gl : Int → Int) (l : List Int) : QpIn (qpPM gl l) gl l (fun p => p) where
  ch := fun _ => rfl
  ld := rfl
  pt := fun _ => rfl
  tr := rfl
  ct := rfl
  n1 := fun _ _ => rfl
  n2 := fun _ => rfl
  n3 := fun _ _ => rfl
  n4 := fun _ => rfl
  n5 := fun _ => rfl
/-- Where a put stopped, and what it holds there. -/
def QpQ {σ : Type} (Q : σ → Prop) (emb : QpT → σ) (l held : List Int) (q : σ) : Prop := (Q q ∧ held = l) ∨ ∃ p', QpT.live p' = true ∧ q = emb p' ∧ held = if p'.lies = true then [] else l
def QpE {σ : Type} (Q : σ → Prop) (emb : QpT → σ) (q : σ) : Prop := Q q ∨ ∃ p', QpT.live p' = true ∧ q = emb p' ∧ p'.lies = false
theorem QpE.q {σ : Type} {Q : σ → Prop} {emb : QpT → σ} {l : List Int} {q : σ} (h : QpE Q emb q) : QpQ Q emb l l q := by
  rcases h with h | ⟨p', h1, h2, h3⟩
  · exact .inl ⟨h, rfl⟩
  · exact .inr ⟨p', h1, h2, by rw [h3]; rfl⟩
def QpGot {σ : Type} (M : PM σ) (emb : QpT → σ) (l : List Int) (w : World) (x : Nat) (A : Option Addr) (cap m : Nat) (g : Nat → Int) (s0 : σ) (Q : σ → Prop) (j : Nat) (e : Ending) (w' : World) : Prop := ∃ (v : Value) (held : List Int) (j' : Nat) (p : QpT), e = .returned v ∧ SeesL w' v held ∧ RunOn w' x A cap m g (M.rj s0 g m j') ∧ Syn M s0 g m j' (emb p) (QpQ Q emb l held) ∧ p.live = false ∧ (j' ≤ m → held = if p.lies = true then [] else l) ∧ But [x] w w' ∧ j ≤ j'
theorem SeesL.but {w w' : World} {A : Option Addr} {n cap x : Nat} {l : List Int} (h : SeesL w (.slice A n cap) l) (hB : But [x] w w') (hx : ∀ b off : Nat, A = some ⟨b, off, none⟩ → b ≠ x) : SeesL w' (.slice A n cap) l := by
  obtain ⟨A', cap', e, h1, h2⟩ := h
  cases e
  refine ⟨_, _, rfl, h1, fun hn => ?_⟩
  obtain ⟨b, off, e1, h3, h4⟩ := h2 hn
  refine ⟨b, off, e1, Nat.lt_of_lt_of_le h3 hB.size, fun j hj => ?_⟩
  rw [← h4 j hj]
  have hk := hB.block b h3 (by simpa using hx b off e1)
  simp only [World.cell?]
  rw [hk]

set_option maxHeartbeats 4000000 in
theorem syn_qput {σ : Type} {M : PM σ} {P T G : Int} {l : List Int} {emb : QpT → σ} (hE : QpIn M (fun y => wd (20 + P * 264 + T * 3) G 2 y 1) l emb) (hp : 0 ≤ P ∧ P ≤ 64) (hT : 0 ≤ T ∧ T ≤ 65536) (hG : 0 ≤ G ∧ G ≤ 65536) (hn : l.length ≤ 1000000)
    {w : World} {x : Nat} {A B : Option Addr} {cap cp m : Nat} {g : Nat → Int} {s0 : σ} {j : Nat} {Q : σ → Prop} (hs : SeesL w (.slice B l.length cp) l) (hsx : 0 < l.length → ∀ b off : Nat, B = some ⟨b, off, none⟩ → b ≠ x) (hR : RunOn w x A cap m g (M.rj s0 g m j)) (hS : Syn M s0 g m j (emb (qpStart l)) Q) (hb : ∀ j, j < m → 0 ≤ g j ∧ g j ≤ 18446744073709551615) :
    Calls Tryz.prog 110 #[.pointer (some ⟨x, 0, none⟩), .agg #[.int .i64 P, .int .i64 T, .int .i64 G], .slice B l.length cp] w fun e w' => QpGot M emb l w x A cap m g s0 Q j e w' := by
  have hb0 : Below w.heap.size w (w.alloc (.cells #[.int .i64 P, .int .i64 T, .int .i64 G] 23)) := (Below.refl _ _).alloc (Nat.le_refl _) _
  have HX : Hid (Blk (w.alloc (.cells #[.int .i64 P, .int .i64 T, .int .i64 G] 23)) w.heap.size #[.int .i64 P, .int .i64 T, .int .i64 G] 23) := Blk.new _ _ _
  have hxw := hR.blk.lt
  have HB0 : Hid (But [x] w (w.alloc (.cells #[.int .i64 P, .int .i64 T, .int .i64 G] 23))) := But.of_below hb0
  have HGA : Hid (∀ y w, Calls Tryz.prog 139 #[.agg #[.int .i64 P, .int .i64 T, .int .i64 G], .int .i64 y, .int .i64 1] w fun e w' => e = .returned (.int .i64 (wd (20 + P * 264 + T * 3) G 2 y 1)) ∧ Below w.heap.size w w') := fun y w => refgAt_any P T G y 1 w hp hT hG.2 (by omega)
  have HE : Hid (QpIn M (fun y => wd (20 + P * 264 + T * 3) G 2 y 1) l emb) := hE
  have HBD : Hid (∀ j, j < m → 0 ≤ g j ∧ g j ≤ 18446744073709551615) := hb
  have HSL : Hid (SeesL w (.slice B l.length cp) l) := hs
  have HSX : Hid (0 < l.length → ∀ b off : Nat, B = some ⟨b, off, none⟩ → b ≠ x) := hsx
  have HR0 : Hid (RunOn (w.alloc (.cells #[.int .i64 P, .int .i64 T, .int .i64 G] 23)) x A cap m g (M.rj s0 g m j)) := hR.below hb0
  have HST : Hid (0 < l.length → Syn M s0 g m (j + 0) (emb (.ch 0)) (QpE Q emb)) := fun h0 => by
    have e : qpStart l = .ch 0 := if_neg (fun e => by rw [e] at h0; exact absurd h0 (by simp))
    rw [e] at hS
    exact hS.weak (fun r hr => .inl hr)
  have HS0 : Hid (Syn M s0 g m j (emb (qpStart l)) Q) := hS
  clear hR hS hE hb hb0 hp hT hG hs hsx
  go_enter Tryz.func110, Tryz.ntmps110
  go_wp2_with fail
  generalize w.alloc (.cells #[.int .i64 P, .int .i64 T, .int .i64 G] 23) = W at *
  by_cases hl0 : l.length = 0
  · have hle : l = [] := List.length_eq_zero_iff.1 hl0
    subst hle
    go_loopw [7] (fun i wr => i = .int .i64 0 ∧ wr = W) (fun i _ => 0)
    case atStart => exact ⟨rfl, rfl⟩
    case round =>
      obtain ⟨rfl, rfl⟩ := hrel
      go_wp2_with fail
      go_ret
      exact ⟨.slice none 0 0, [], j, .done0, rfl, ⟨none, 0, rfl, fun _ => ⟨rfl, rfl⟩, fun h => absurd h (by simp)⟩, HR0.out, HS0.out.weak (fun r hr => .inl ⟨hr, rfl⟩), rfl, fun _ => rfl, HB0.out, Nat.le_refl j⟩
  · have h0 : 0 < l.length := by omega
    have HSS : Hid _ := HST.out h0
    clear HS0 HST
    obtain ⟨b, off, rfl, hbl, hcl⟩ : ∃ b off : Nat, B = some ⟨b, off, none⟩ ∧ b < w.heap.size ∧ ∀ j, j < l.length → w.cell? ⟨b, off + j, none⟩ = some (.int .i64 (l.getD j 0)) := by
      obtain ⟨A', cap', e, h1, h2⟩ := HSL.out
      cases e
      exact h2 h0
    have hbx : b ≠ x := HSX.out h0 b off rfl
    have HCL : Hid (∀ Y, But [x] w Y → ∀ j, j < l.length → Y.cell? ⟨b, off + j, none⟩ = some (.int .i64 (l.getD j 0))) := fun Y hY j hj => by
      rw [← hcl j hj]
      have hk := hY.block b hbl (by simpa using hbx)
      simp only [World.cell?]
      rw [hk]
    clear hcl
    go_loopw [7] (fun i wr => ∃ k : Nat, k ≤ l.length ∧ i = .int .i64 k ∧ Hid (RunOn wr x A cap m g (M.rj s0 g m (j + k))) ∧ Hid (Syn M s0 g m (j + k) (emb (if k < l.length then .ch k else .ld)) (QpE Q emb)) ∧ Hid (But [x] w wr) ∧ Hid (Blk wr w.heap.size #[.int .i64 P, .int .i64 T, .int .i64 G] 23)) (fun i _ => l.length - (intOf i).toNat)
    case atStart => exact ⟨0, Nat.zero_le _, rfl, HR0, (by rw [if_pos h0]; exact HSS.out : Syn _ _ _ _ _ _ _), HB0, HX⟩
    case round =>
      clear HR0 HSS HB0 HX
      obtain ⟨k, hk, rfl, HR, HS, HB, HX⟩ := hrel
      by_cases hlt : k < l.length
      · have HS1 : Hid (Syn M s0 g m (j + k) (emb (.ch k)) (QpE Q emb)) := by have := HS.out; rw [if_pos hlt] at this; exact this
        have hk0 : (0 : Int) ≤ (k : Int) := by omega
        have hk1 : (k : Int) < (l.length : Int) := by omega
        have cg := HCL.out wr HB.out k hlt
        have y0 := HX.out.cell 0 (v := .int .i64 P) rfl
        have y1 := HX.out.cell 1 (v := .int .i64 T) rfl
        have y2 := HX.out.cell 2 (v := .int .i64 G) rfl
        obtain ⟨nx, hnx⟩ : ∃ nx, (if k + 1 < l.length then qwd (l.getD (k + 1) 0) else 0) = nx := ⟨_, rfl⟩
        have HAX : Hid (M.ax (emb (.ch k)) = some (axSt (wd (20 + P * 264 + T * 3) G 2 (l.getD k 0) 1) nx)) := by
          have := HE.out.ch k
          rw [hnx] at this
          exact this
        have HLD : Hid _ := HGA.out (l.getD k 0)
        have HCY : Hid (∀ Y, But [x] w Y → Y.cell? ⟨b, off + k, none⟩ = some (.int .i64 (l.getD k 0))) := fun Y hY => HCL.out Y hY k hlt
        generalize l.getD k 0 = yk at *
        clear HS
        by_cases hk2 : k + 1 < l.length
        · have cg2 := HCL.out wr HB.out (k + 1) hk2
          have hk3 : (k : Int) + 1 < (l.length : Int) := by omega
          have hd3 : decide ((k : Int) + 1 < (l.length : Int)) = true := decide_eq_true hk3
          have ht : ((k : Int) + 1).toNat = k + 1 := by omega
          have hnx2 : qwd (l.getD (k + 1) 0) = nx := by rw [if_pos hk2] at hnx; exact hnx
          generalize l.getD (k + 1) 0 = y2' at *
          obtain ⟨y3, hy3⟩ : ∃ y3, IntKind.u64.wrap y2' = y3 := ⟨_, rfl⟩
          have e6 : IntKind.u64.wrap (y3 + 1) = nx := by rw [← hy3]; exact hnx2
          clear hnx hnx2
          obtain ⟨at', hat⟩ : ∃ at', wd (20 + P * 264 + T * 3) G 2 yk 1 = at' := ⟨_, rfl⟩
          rw [hat] at HAX HLD
          obtain ⟨QC, hQC⟩ : ∃ QC : World → Prop, QC = fun w' => RunOn w' x A cap m g (M.rj s0 g m (j + k + 1)) ∧ Syn M s0 g m (j + k + 1) (emb (.ch (k + 1))) (QpE Q emb) ∧ But [x] w w' ∧ Blk w' w.heap.size #[.int .i64 P, .int .i64 T, .int .i64 G] 23 := ⟨_, rfl⟩
          have HGAd := HLD.out wr.drew
          have HSt : Hid (∀ w4, Below wr.drew.heap.size wr.drew w4 → Calls Tryz.prog 62 #[.pointer (some ⟨x, 0, none⟩), .int .i64 at', .int .u64 nx] w4 fun e w' => (∃ u, e = .returned u) ∧ QC w') := fun w4 k4 => by
            have hb4 : Below wr.heap.size wr w4 := (show Below wr.heap.size wr wr.drew from (Below.refl _ _).drew).trans k4
            refine (syn_store (HR.out.below hb4) HS1.out HBD.out at' nx (fun _ => HAX.out)).mono ?_
            rintro e w' ⟨hu, v5, hK⟩
            refine ⟨hu, ?_⟩
            rw [hQC]
            refine ⟨hK.run, ?_, (HB.out.trans (But.of_below hb4)).trans hK.but, (HX.out.but (But.of_below (l := []) hb4) (by simp)).but hK.but (by simp; omega)⟩
            have h5 := hK.syn
            rw [HE.out.n1, if_pos hk2] at h5
            exact h5.weak (fun r hr => by rcases hr with rfl | hr; exact .inr ⟨.ch k, rfl, rfl, rfl⟩; exact hr)
          have HSC : Hid (∀ Y, But [x] w Y → Blk Y w.heap.size #[.int .i64 P, .int .i64 T, .int .i64 G] 23 → (Y.cell? ⟨w.heap.size, 0, none⟩ = some (.int .i64 P) ∧ Y.cell? ⟨w.heap.size, 1, none⟩ = some (.int .i64 T) ∧ Y.cell? ⟨w.heap.size, 2, none⟩ = some (.int .i64 G) ∧ Y.cell? ⟨b, off + k, none⟩ = some (.int .i64 yk))) := fun Y hY hBY => ⟨hBY.cell 0 rfl, hBY.cell 1 rfl, hBY.cell 2 rfl, HCY.out Y hY⟩
          have hH : Hid (wr.drew.cell? ⟨w.heap.size, 0, none⟩ = some (.int .i64 P) ∧ wr.drew.cell? ⟨w.heap.size, 1, none⟩ = some (.int .i64 T) ∧ wr.drew.cell? ⟨w.heap.size, 2, none⟩ = some (.int .i64 G) ∧ wr.drew.cell? ⟨b, off + k, none⟩ = some (.int .i64 yk)) := HSC.out _ HB.out.drew HX.out.drew
          have KB : Hid (∀ w4, Below wr.drew.heap.size wr.drew w4 → (w4.cell? ⟨w.heap.size, 0, none⟩ = some (.int .i64 P) ∧ w4.cell? ⟨w.heap.size, 1, none⟩ = some (.int .i64 T) ∧ w4.cell? ⟨w.heap.size, 2, none⟩ = some (.int .i64 G) ∧ w4.cell? ⟨b, off + k, none⟩ = some (.int .i64 yk))) := fun w4 k4 => by
            have hb4 : Below wr.heap.size wr w4 := (show Below wr.heap.size wr wr.drew from (Below.refl _ _).drew).trans k4
            exact HSC.out _ (HB.out.trans (But.of_below hb4)) (HX.out.but (But.of_below (l := []) hb4) (by simp))
          have KC : Hid (∀ w5, QC w5 → (w5.cell? ⟨w.heap.size, 0, none⟩ = some (.int .i64 P) ∧ w5.cell? ⟨w.heap.size, 1, none⟩ = some (.int .i64 T) ∧ w5.cell? ⟨w.heap.size, 2, none⟩ = some (.int .i64 G) ∧ w5.cell? ⟨b, off + k, none⟩ = some (.int .i64 yk))) := fun w5 hC => by
            rw [hQC] at hC
            exact HSC.out _ hC.2.2.1 hC.2.2.2
          have HQC : Hid (∀ w5, QC w5 → RunOn w5 x A cap m g (M.rj s0 g m (j + (k + 1))) ∧ Syn M s0 g m (j + (k + 1)) (emb (if k + 1 < l.length then .ch (k + 1) else .ld)) (QpE Q emb) ∧ But [x] w w5 ∧ Blk w5 w.heap.size #[.int .i64 P, .int .i64 T, .int .i64 G] 23) := fun w5 hC => by
            rw [hQC] at hC
            rw [if_pos hk2]
            exact hC
          clear hQC hat HLD HAX HR HS1 HB HX y0 y1 y2 cg
          go_wp2_with fail
          clear cg2
          go_region_held3 (fun w' => w'.cell? ⟨w.heap.size, 0, none⟩ = some (.int .i64 P) ∧ w'.cell? ⟨w.heap.size, 1, none⟩ = some (.int .i64 T) ∧ w'.cell? ⟨w.heap.size, 2, none⟩ = some (.int .i64 G) ∧ w'.cell? ⟨b, off + k, none⟩ = some (.int .i64 yk)) (first | exact hH.out | exact KB.out _ ‹_› | exact KC.out _ ‹_›) (first | (go_at_call 139; refine HGAd.mono ?_; rintro e w4 ⟨rfl, k4⟩) | (go_at_call 62; refine (HSt.out _ ‹_›).mono ?_; rintro e w5 ⟨⟨u, rfl⟩, hC⟩))
          all_goals
            have HF : Hid _ := HQC.out _ hC
            clear HGAd HSt HSC hH KB KC HQC hC
            go_wp2_with fail
            go_roundw
            case rel => exact ⟨k + 1, by omega, by go_num, HF.out.1, HF.out.2.1, HF.out.2.2.1, HF.out.2.2.2⟩
            case measure => simp [intOf]; omega
        · have hk3 : ¬ ((k : Int) + 1 < (l.length : Int)) := by omega
          have hd3 : decide ((k : Int) + 1 < (l.length : Int)) = false := decide_eq_false hk3
          have hnx2 : (0 : Int) = nx := by rw [if_neg hk2] at hnx; exact hnx
          clear hnx
          subst hnx2
          obtain ⟨at', hat⟩ : ∃ at', wd (20 + P * 264 + T * 3) G 2 yk 1 = at' := ⟨_, rfl⟩
          rw [hat] at HAX HLD
          obtain ⟨QC, hQC⟩ : ∃ QC : World → Prop, QC = fun w' => RunOn w' x A cap m g (M.rj s0 g m (j + k + 1)) ∧ Syn M s0 g m (j + k + 1) (emb (.ld)) (QpE Q emb) ∧ But [x] w w' ∧ Blk w' w.heap.size #[.int .i64 P, .int .i64 T, .int .i64 G] 23 := ⟨_, rfl⟩
          have HGAd := HLD.out wr.drew
          have HSt : Hid (∀ w4, Below wr.drew.heap.size wr.drew w4 → Calls Tryz.prog 62 #[.pointer (some ⟨x, 0, none⟩), .int .i64 at', .int .u64 0] w4 fun e w' => (∃ u, e = .returned u) ∧ QC w') := fun w4 k4 => by
            have hb4 : Below wr.heap.size wr w4 := (show Below wr.heap.size wr wr.drew from (Below.refl _ _).drew).trans k4
            refine (syn_store (HR.out.below hb4) HS1.out HBD.out at' 0 (fun _ => HAX.out)).mono ?_
            rintro e w' ⟨hu, v5, hK⟩
            refine ⟨hu, ?_⟩
            rw [hQC]
            refine ⟨hK.run, ?_, (HB.out.trans (But.of_below hb4)).trans hK.but, (HX.out.but (But.of_below (l := []) hb4) (by simp)).but hK.but (by simp; omega)⟩
            have h5 := hK.syn
            rw [HE.out.n1, if_neg hk2] at h5
            exact h5.weak (fun r hr => by rcases hr with rfl | hr; exact .inr ⟨.ch k, rfl, rfl, rfl⟩; exact hr)
          have HSC : Hid (∀ Y, But [x] w Y → Blk Y w.heap.size #[.int .i64 P, .int .i64 T, .int .i64 G] 23 → (Y.cell? ⟨w.heap.size, 0, none⟩ = some (.int .i64 P) ∧ Y.cell? ⟨w.heap.size, 1, none⟩ = some (.int .i64 T) ∧ Y.cell? ⟨w.heap.size, 2, none⟩ = some (.int .i64 G) ∧ Y.cell? ⟨b, off + k, none⟩ = some (.int .i64 yk))) := fun Y hY hBY => ⟨hBY.cell 0 rfl, hBY.cell 1 rfl, hBY.cell 2 rfl, HCY.out Y hY⟩
          have hH : Hid (wr.drew.cell? ⟨w.heap.size, 0, none⟩ = some (.int .i64 P) ∧ wr.drew.cell? ⟨w.heap.size, 1, none⟩ = some (.int .i64 T) ∧ wr.drew.cell? ⟨w.heap.size, 2, none⟩ = some (.int .i64 G) ∧ wr.drew.cell? ⟨b, off + k, none⟩ = some (.int .i64 yk)) := HSC.out _ HB.out.drew HX.out.drew
          have KB : Hid (∀ w4, Below wr.drew.heap.size wr.drew w4 → (w4.cell? ⟨w.heap.size, 0, none⟩ = some (.int .i64 P) ∧ w4.cell? ⟨w.heap.size, 1, none⟩ = some (.int .i64 T) ∧ w4.cell? ⟨w.heap.size, 2, none⟩ = some (.int .i64 G) ∧ w4.cell? ⟨b, off + k, none⟩ = some (.int .i64 yk))) := fun w4 k4 => by
            have hb4 : Below wr.heap.size wr w4 := (show Below wr.heap.size wr wr.drew from (Below.refl _ _).drew).trans k4
            exact HSC.out _ (HB.out.trans (But.of_below hb4)) (HX.out.but (But.of_below (l := []) hb4) (by simp))
          have KC : Hid (∀ w5, QC w5 → (w5.cell? ⟨w.heap.size, 0, none⟩ = some (.int .i64 P) ∧ w5.cell? ⟨w.heap.size, 1, none⟩ = some (.int .i64 T) ∧ w5.cell? ⟨w.heap.size, 2, none⟩ = some (.int .i64 G) ∧ w5.cell? ⟨b, off + k, none⟩ = some (.int .i64 yk))) := fun w5 hC => by
            rw [hQC] at hC
            exact HSC.out _ hC.2.2.1 hC.2.2.2
          have HQC : Hid (∀ w5, QC w5 → RunOn w5 x A cap m g (M.rj s0 g m (j + (k + 1))) ∧ Syn M s0 g m (j + (k + 1)) (emb (if k + 1 < l.length then .ch (k + 1) else .ld)) (QpE Q emb) ∧ But [x] w w5 ∧ Blk w5 w.heap.size #[.int .i64 P, .int .i64 T, .int .i64 G] 23) := fun w5 hC => by
            rw [hQC] at hC
            rw [if_neg hk2]
            exact hC
          clear hQC hat HLD HAX HR HS1 HB HX y0 y1 y2 cg
          go_wp2_with fail
          go_region_held3 (fun w' => w'.cell? ⟨w.heap.size, 0, none⟩ = some (.int .i64 P) ∧ w'.cell? ⟨w.heap.size, 1, none⟩ = some (.int .i64 T) ∧ w'.cell? ⟨w.heap.size, 2, none⟩ = some (.int .i64 G) ∧ w'.cell? ⟨b, off + k, none⟩ = some (.int .i64 yk)) (first | exact hH.out | exact KB.out _ ‹_› | exact KC.out _ ‹_›) (first | (go_at_call 139; refine HGAd.mono ?_; rintro e w4 ⟨rfl, k4⟩) | (go_at_call 62; refine (HSt.out _ ‹_›).mono ?_; rintro e w5 ⟨⟨u, rfl⟩, hC⟩))
          all_goals
            have HF : Hid _ := HQC.out _ hC
            clear HGAd HSt HSC hH KB KC HQC hC
            go_wp2_with fail
            go_roundw
            case rel => exact ⟨k + 1, by omega, by go_num, HF.out.1, HF.out.2.1, HF.out.2.2.1, HF.out.2.2.2⟩
            case measure => simp [intOf]; omega
      · obtain rfl : k = l.length := by omega
        have HS1 : Hid (Syn M s0 g m (j + l.length) (emb .ld) (QpE Q emb)) := by have := HS.out; rw [if_neg hlt] at this; exact this
        have hgd : decide ((l.length : Int) < (l.length : Int)) = false := by simp
        have hz0 : ((l.length : Int) == 0) = false := by rw [beq_eq_false_iff_ne]; omega
        have hz1 : decide ((l.length : Int) = 0) = false := decide_eq_false (by omega)
        have hL := syn_load HR.out HS1.out HBD.out 7 (fun _ => HE.out.ld)
        have HJ : Hid (∀ q : Nat, j ≤ j + l.length + q) := fun q => (by omega : j ≤ j + l.length + q)
        generalize j + l.length = j1 at *
        clear HS hlt hk HR HS1
        go_wp2_with fail
        go_at_call 59; refine hL.mono ?_; rintro e z2 ⟨t, rfl, hK⟩
        have htb := hK.bd
        have HR2 : Hid (RunOn z2 x A cap m g (M.rj s0 g m (j1 + 1))) := hK.run
        have HS2 : Hid (Syn M s0 g m (j1 + 1) (emb (.pt t)) (QpE Q emb)) := by
          have := hK.syn
          rw [HE.out.n2] at this
          exact this.weak (fun r hr => by rcases hr with rfl | hr; exact .inr ⟨.ld, rfl, rfl, rfl⟩; exact hr)
        have HB2 : Hid (But [x] w z2) := HB.out.trans hK.but
        have HX2 : Hid (Blk z2 w.heap.size #[.int .i64 P, .int .i64 T, .int .i64 G] 23) := HX.out.but hK.but (by simp; omega)
        clear hL hK HB HX
        have HC0 : Hid (∀ Y, But [x] w Y → Y.cell? ⟨b, off, none⟩ = some (.int .i64 (l.getD 0 0))) := fun Y hY => HCL.out Y hY 0 h0
        have HCN : Hid (∀ Y, But [x] w Y → Y.cell? ⟨b, off + (l.length - 1), none⟩ = some (.int .i64 (l.getD (l.length - 1) 0))) := fun Y hY => HCL.out Y hY (l.length - 1) (by omega)
        have HPT : Hid (∀ t, M.ax (emb (.pt t)) = some (axSt (if t = 0 then 6 else wd (20 + P * 264 + T * 3) G 2 (gw t) 1) (qwd (l.getD 0 0)))) := HE.out.pt
        have HTR : Hid (M.ax (emb .tr) = some (axSt 7 (qwd (l.getD (l.length - 1) 0)))) := HE.out.tr
        generalize l.getD 0 0 = ya at *
        generalize l.getD (l.length - 1) 0 = yz at *
        obtain ⟨ya1, hya1⟩ : ∃ a, IntKind.u64.wrap ya = a := ⟨_, rfl⟩
        obtain ⟨ya2, hya2⟩ : ∃ a, qwd ya = a := ⟨_, rfl⟩
        have e2 : IntKind.u64.wrap (ya1 + 1) = ya2 := by rw [← hya1]; exact hya2
        obtain ⟨yz1, hyz1⟩ : ∃ a, IntKind.u64.wrap yz = a := ⟨_, rfl⟩
        obtain ⟨yz2, hyz2⟩ : ∃ a, qwd yz = a := ⟨_, rfl⟩
        have e4 : IntKind.u64.wrap (yz1 + 1) = yz2 := by rw [← hyz1]; exact hyz2
        rw [hya2] at HPT
        rw [hyz2] at HTR
        clear hya2 hyz2
        have e5 : IntKind.u64.wrap (l.length : Int) = (l.length : Int) := wrap_u64 (by omega)
        have e6 : ((l.length : Int) - 1).toNat = l.length - 1 := by omega
        have e7 : (0 : Int) < (l.length : Int) := by omega
        have e8 : (l.length : Int) - 1 < (l.length : Int) := by omega
        have e9 : (0 : Int) ≤ (l.length : Int) - 1 := by omega
        by_cases t0 : t = 0
        · subst t0
          have cg := HC0.out z2 HB2.out
          have HP0 : Hid (M.ax (emb (.pt 0)) = some (axSt 6 ya2)) := by have := HPT.out 0; rw [if_pos rfl] at this; exact this
          have hSt := syn_store HR2.out HS2.out HBD.out 6 ya2 (fun _ => HP0.out)
          clear HPT HP0 htb
          go_wp2_with fail
          go_at_call 62; refine hSt.mono ?_; rintro e z4 ⟨⟨u4, rfl⟩, v4, hK⟩
          have HR4 : Hid (RunOn z4 x A cap m g (M.rj s0 g m (j1 + 1 + 1))) := hK.run
          have HS4 : Hid (Syn M s0 g m (j1 + 1 + 1) (emb .tr) (QpE Q emb)) := by
            have := hK.syn
            rw [HE.out.n3] at this
            exact this.weak (fun r hr => by rcases hr with rfl | hr; exact .inr ⟨.pt 0, rfl, rfl, rfl⟩; exact hr)
          have HB4 : Hid (But [x] w z4) := HB2.out.trans hK.but
          have s4 := HR4.out.blk.cell 2 (v := .bool (M.rj s0 g m (j1 + 1 + 1)).stop) rfl
          rw [rj_stop HS4.out] at s4
          have cz := HCN.out z4 HB4.out
          have hSt2 := syn_store HR4.out HS4.out HBD.out 7 yz2 (fun _ => HTR.out)
          clear hSt hK cg HB2 HR2 HS2
          by_cases hm4 : m < j1 + 1 + 1
          · rw [decide_eq_true hm4] at s4
            have HM : Hid (m < j1 + 1 + 1) := hm4
            clear hm4
            go_wp2_with fail
            go_at_call 62; refine hSt2.mono ?_; rintro e z5 ⟨⟨u5, rfl⟩, v5, hK⟩
            have HB5 : Hid (But [x] w z5) := HB4.out.trans hK.but
            have HS5 : Hid (Syn M s0 g m (j1 + 1 + 1 + 1) (emb .ct) (QpQ Q emb l l)) := ⟨fun h => absurd h (by have := HM.out; omega), fun h => ⟨(HS4.out.past HM.out).1.q, (HS4.out.past HM.out).2⟩⟩
            have hA := syn_add hK.run HS5.out HBD.out 8 (l.length : Int) (fun _ => HE.out.ct)
            clear hSt2 hK s4 cz
            go_wp2_with fail
            go_at_call 77; refine hA.mono ?_; rintro e z6 ⟨v6, rfl, hK⟩
            have HF : Hid (QpGot M emb l w x A cap m g s0 Q j (.returned (.slice (some ⟨b, off, none⟩) l.length cp)) z6) := ⟨_, l, j1 + 1 + 1 + 1 + 1, .over, rfl, HSL.out.but (HB5.out.trans hK.but) (HSX.out (by omega)), hK.run, ⟨fun h => absurd h (by have := HM.out; omega), fun h => ⟨(HS5.out.past (by have := HM.out; omega)).1, (HS5.out.past (by have := HM.out; omega)).2⟩⟩, rfl, fun h => absurd h (by have := HM.out; omega), HB5.out.trans hK.but, HJ.out 4⟩
            clear hA hK
            go_wp2_with fail
            go_ret
            exact HF.out
          · rw [decide_eq_false hm4] at s4
            have HM : Hid (j1 + 1 + 1 ≤ m) := (by omega : j1 + 1 + 1 ≤ m)
            clear hm4
            go_wp2_with fail
            go_at_call 62; refine hSt2.mono ?_; rintro e z5 ⟨⟨u5, rfl⟩, v5, hK⟩
            have HB5 : Hid (But [x] w z5) := HB4.out.trans hK.but
            have HS5 : Hid (Syn M s0 g m (j1 + 1 + 1 + 1) (emb .ct) (QpQ Q emb l [])) := by
              have h5 := hK.syn
              rw [HE.out.n4] at h5
              refine ⟨h5.at', fun h => ⟨?_, (h5.past h).2⟩⟩
              have hmj : m = j1 + 1 + 1 := by have := HM.out; omega
              have h6 := HS4.out.at' HM.out
              rw [← hmj] at h6
              exact .inr ⟨.tr, rfl, h6, rfl⟩
            have hA := syn_add hK.run HS5.out HBD.out 8 (l.length : Int) (fun _ => HE.out.ct)
            clear hSt2 hK s4 cz
            go_wp2_with fail
            go_at_call 77; refine hA.mono ?_; rintro e z6 ⟨v6, rfl, hK⟩
            have HF : Hid (QpGot M emb l w x A cap m g s0 Q j (.returned (.slice none 0 0)) z6) := by
              have h7 := hK.syn
              rw [HE.out.n5] at h7
              exact ⟨_, [], j1 + 1 + 1 + 1 + 1, .over, rfl, ⟨none, 0, rfl, fun _ => ⟨rfl, rfl⟩, fun h => absurd h (by simp)⟩, hK.run, h7.weak (fun r hr => by rcases hr with rfl | hr; exact .inr ⟨.ct, rfl, rfl, rfl⟩; exact hr), rfl, fun _ => rfl, HB5.out.trans hK.but, HJ.out 4⟩
            clear hA hK
            go_wp2_with fail
            go_ret
            exact HF.out
        · have ht0 : (t == 0) = false := by simpa using t0
          have ht1 : (t != 0) = true := by simpa using t0
          have HP0 : Hid (M.ax (emb (.pt t)) = some (axSt (wd (20 + P * 264 + T * 3) G 2 (gw t) 1) ya2)) := by have := HPT.out t; rw [if_neg t0] at this; exact this
          have hGA2 := HGA.out (gw t) z2
          have y0 := HX2.out.cell 0 (v := .int .i64 P) rfl
          have y1 := HX2.out.cell 1 (v := .int .i64 T) rfl
          have y2 := HX2.out.cell 2 (v := .int .i64 G) rfl
          have eg : wrap64 (IntKind.i64.wrap t - 1) = gw t := gw_eq t htb
          have HSt0 : Hid (∀ Y, Below z2.heap.size z2 Y → Calls Tryz.prog 62 #[.pointer (some ⟨x, 0, none⟩), .int .i64 (wd (20 + P * 264 + T * 3) G 2 (gw t) 1), .int .u64 ya2] Y fun e w' => (∃ v, e = .returned v) ∧ ∃ v, Kept' Y w' x A cap m g M s0 (j1 + 1) (emb (.pt t)) (QpE Q emb) v) := fun Y hY => syn_store (HR2.out.below hY) HS2.out HBD.out _ ya2 (fun _ => HP0.out)
          generalize wd (20 + P * 264 + T * 3) G 2 (gw t) 1 = at' at *
          generalize gw t = gt at *
          generalize hvv : IntKind.i64.wrap t = t' at *
          clear HPT HP0
          go_wp2_with fail
          go_at_call 139; refine hGA2.mono ?_; rintro e z3 ⟨rfl, k3⟩
          have hSt := HSt0.out z3 k3
          have HB2 : Hid (But [x] w z3) := HB2.out.trans (But.of_below k3)
          have cg := HC0.out z3 HB2.out
          clear hGA2 HSt0 k3 y0 y1 y2 HX2 eg hvv
          go_wp2_with fail
          go_at_call 62; refine hSt.mono ?_; rintro e z4 ⟨⟨u4, rfl⟩, v4, hK⟩
          have HR4 : Hid (RunOn z4 x A cap m g (M.rj s0 g m (j1 + 1 + 1))) := hK.run
          have HS4 : Hid (Syn M s0 g m (j1 + 1 + 1) (emb .tr) (QpE Q emb)) := by
            have := hK.syn
            rw [HE.out.n3] at this
            exact this.weak (fun r hr => by rcases hr with rfl | hr; exact .inr ⟨.pt t, rfl, rfl, rfl⟩; exact hr)
          have HB4 : Hid (But [x] w z4) := HB2.out.trans hK.but
          have s4 := HR4.out.blk.cell 2 (v := .bool (M.rj s0 g m (j1 + 1 + 1)).stop) rfl
          rw [rj_stop HS4.out] at s4
          have cz := HCN.out z4 HB4.out
          have hSt2 := syn_store HR4.out HS4.out HBD.out 7 yz2 (fun _ => HTR.out)
          clear hSt hK cg HB2 HR2 HS2
          by_cases hm4 : m < j1 + 1 + 1
          · rw [decide_eq_true hm4] at s4
            have HM : Hid (m < j1 + 1 + 1) := hm4
            clear hm4
            go_wp2_with fail
            go_at_call 62; refine hSt2.mono ?_; rintro e z5 ⟨⟨u5, rfl⟩, v5, hK⟩
            have HB5 : Hid (But [x] w z5) := HB4.out.trans hK.but
            have HS5 : Hid (Syn M s0 g m (j1 + 1 + 1 + 1) (emb .ct) (QpQ Q emb l l)) := ⟨fun h => absurd h (by have := HM.out; omega), fun h => ⟨(HS4.out.past HM.out).1.q, (HS4.out.past HM.out).2⟩⟩
            have hA := syn_add hK.run HS5.out HBD.out 8 (l.length : Int) (fun _ => HE.out.ct)
            clear hSt2 hK s4 cz
            go_wp2_with fail
            go_at_call 77; refine hA.mono ?_; rintro e z6 ⟨v6, rfl, hK⟩
            have HF : Hid (QpGot M emb l w x A cap m g s0 Q j (.returned (.slice (some ⟨b, off, none⟩) l.length cp)) z6) := ⟨_, l, j1 + 1 + 1 + 1 + 1, .over, rfl, HSL.out.but (HB5.out.trans hK.but) (HSX.out (by omega)), hK.run, ⟨fun h => absurd h (by have := HM.out; omega), fun h => ⟨(HS5.out.past (by have := HM.out; omega)).1, (HS5.out.past (by have := HM.out; omega)).2⟩⟩, rfl, fun h => absurd h (by have := HM.out; omega), HB5.out.trans hK.but, HJ.out 4⟩
            clear hA hK
            go_wp2_with fail
            go_ret
            exact HF.out
          · rw [decide_eq_false hm4] at s4
            have HM : Hid (j1 + 1 + 1 ≤ m) := (by omega : j1 + 1 + 1 ≤ m)
            clear hm4
            go_wp2_with fail
            go_at_call 62; refine hSt2.mono ?_; rintro e z5 ⟨⟨u5, rfl⟩, v5, hK⟩
            have HB5 : Hid (But [x] w z5) := HB4.out.trans hK.but
            have HS5 : Hid (Syn M s0 g m (j1 + 1 + 1 + 1) (emb .ct) (QpQ Q emb l [])) := by
              have h5 := hK.syn
              rw [HE.out.n4] at h5
              refine ⟨h5.at', fun h => ⟨?_, (h5.past h).2⟩⟩
              have hmj : m = j1 + 1 + 1 := by have := HM.out; omega
              have h6 := HS4.out.at' HM.out
              rw [← hmj] at h6
              exact .inr ⟨.tr, rfl, h6, rfl⟩
            have hA := syn_add hK.run HS5.out HBD.out 8 (l.length : Int) (fun _ => HE.out.ct)
            clear hSt2 hK s4 cz
            go_wp2_with fail
            go_at_call 77; refine hA.mono ?_; rintro e z6 ⟨v6, rfl, hK⟩
            have HF : Hid (QpGot M emb l w x A cap m g s0 Q j (.returned (.slice none 0 0)) z6) := by
              have h7 := hK.syn
              rw [HE.out.n5] at h7
              exact ⟨_, [], j1 + 1 + 1 + 1 + 1, .over, rfl, ⟨none, 0, rfl, fun _ => ⟨rfl, rfl⟩, fun h => absurd h (by simp)⟩, hK.run, h7.weak (fun r hr => by rcases hr with rfl | hr; exact .inr ⟨.ct, rfl, rfl, rfl⟩; exact hr), rfl, fun _ => rfl, HB5.out.trans hK.but, HJ.out 4⟩
            clear hA hK
            go_wp2_with fail
            go_ret
            exact HF.out
end Go.Proofs.YtggbohakpkplkaaGreat

namespace Go.Proofs.YtggbohakpkplkaaGreat
open Go Go.RowKit
set_option linter.unusedVariables false
set_option maxRecDepth 100000
set_option linter.unusedSimpArgs false

theorem rqput_on (w : World) (x : Nat) (A B : Option Addr) (cap cp m : Nat) (gf : Nat → Int) (P T G : Int) (l : List Int) (t : QpT) (h : RunOn w x A cap m gf rn0) (hh : Hist (qpPM (fun y => wd (20 + P * 264 + T * 3) G 2 y 1) l) (qpStart l) gf m t) (hp : 0 ≤ P ∧ P ≤ 64) (hT : 0 ≤ T ∧ T ≤ 65536) (hG : 0 ≤ G ∧ G ≤ 65536) (hn : l.length ≤ 1000000)
    (hs : SeesL w (.slice B l.length cp) l) (hsx : 0 < l.length → ∀ b off : Nat, B = some ⟨b, off, none⟩ → b ≠ x) :
    Calls Tryz.prog 110 #[.pointer (some ⟨x, 0, none⟩), .agg #[.int .i64 P, .int .i64 T, .int .i64 G], .slice B l.length cp] w fun e w' => ∃ v, e = .returned v ∧ SeesL w' v (if t.lies = true then [] else l) ∧ RunOn w' x A cap m gf ((qpPM (fun y => wd (20 + P * 264 + T * 3) G 2 y 1) l).rn t m) ∧ But [x] w w' := by
  rw [← rj_start (M := qpPM (fun y => wd (20 + P * 264 + T * 3) G 2 y 1) l) (s0 := qpStart l) (g := gf) (m := m)] at h
  refine (syn_qput (qp_in _ l) hp hT hG hn hs hsx h (Syn.start _ _ _ _) hh.bd).mono ?_
  rintro e w' ⟨v, held, j', p, rfl, h0, h1, h2, h3, h4, h5, -⟩
  have hn' : (qpPM (fun y => wd (20 + P * 264 + T * 3) G 2 y 1) l).ax p = none := by cases p <;> first | rfl | cases h3
  have hr : held = if t.lies = true then [] else l := by
    rcases h2.fin hh (fun _ => hn') with ⟨e1, e2⟩ | ⟨-, (⟨hf, -⟩ | ⟨p', -, e1, e2⟩)⟩
    · rw [e1]; exact h4 (by omega)
    · exact hf.elim
    · rw [e1]; exact e2
  rw [← hr]
  refine ⟨v, rfl, h0, ?_, h5⟩
  rw [← rj_end h2 hh (fun _ => hn')]
  exact h1
theorem qp_axok (gl : Int → Int) (l : List Int) (hn : l.length ≤ 1000000) : ∀ t a, (qpPM gl l).ax t = some a → a.Ok := by
  intro t a h
  cases t with
  | ch k =>
    cases h
    have := qwd_bd (l.getD (k + 1) 0)
    refine axSt_ok _ _ ?_
    split <;> omega
  | ld => cases h; exact axLd_ok _
  | pt t => cases h; exact axSt_ok _ _ (qwd_bd _)
  | tr => cases h; exact axSt_ok _ _ (qwd_bd _)
  | ct => cases h; exact axAd_ok _ _ (by omega)
  | over => cases h
  | done0 => cases h
theorem qp_new_any (w : World) (cl : Nat) (who P T G : Int) (sl : Value) (l : List Int) (hs : SeesL w sl l) (hn : l.length ≤ 1000000) (hl : Lay w cl P T G) (hp : 0 ≤ P ∧ P ≤ 64) (hT : 0 ≤ T ∧ T ≤ 65536) (hG : 0 ≤ G ∧ G ≤ 65536) :
    Calls Tryz.prog 191 #[.pointer (some ⟨cl, 0, none⟩), .int .i64 who, sl] w fun e w' => ∃ x L, e = .returned (.pointer (some ⟨x, 0, none⟩)) ∧ qpI who cl (fun y => wd (20 + P * 264 + T * 3) G 2 y 1) l w' x (qpStart l) L ∧ Below w.heap.size w w' ∧ (∀ k ∈ L, w.heap.size ≤ k) := by
  by_cases h0 : l = []
  · subst h0
    refine (qp_new_nil w cl who (fun y => wd (20 + P * 264 + T * 3) G 2 y 1) sl hs).mono ?_
    rintro e w' ⟨x, L, h1, h2, h3, h4, -⟩
    exact ⟨x, L, h1, h2, h3, h4⟩
  · refine (qp_new_some w cl who P T G sl l hs (List.length_pos_iff.2 h0) hn hl hp hT hG).mono ?_
    rintro e w' ⟨x, L, h1, h2, h3, h4, -⟩
    refine ⟨x, L, h1, ?_, h3, h4⟩
    rw [show qpStart l = .ch 0 from if_neg h0]
    exact h2
def knownL (G : Int) (l : List Int) : Bool := l.all (fun y => decide (0 ≤ y ∧ y < G))
end Go.Proofs.YtggbohakpkplkaaGreat
