/- Bits of a word; the scheduler's words; places of threads and processors. -/
import Derived.Test.YtcjidigpdecdlaaGreatSIA
import Derived.Test.YtcjidigpdecdlaaGreatCp
import Derived.Test.YtcjidigpdecdlaaGreatPoke
import Derived.Test.YtcjidigpdecdlaaGreatLinks
import Derived.Test.YtcjidigpdecdlaaGreatLaw
import Derived.Test.YtcjidigpdecdlaaGreatLock1
import Derived.Deep.RegionHeld3
import Derived.Laws.BitsAllLaws
namespace Go.Proofs.YtcjidigpdecdlaaGreat
open Go Go.RowKit
set_option linter.unusedVariables false
set_option maxRecDepth 100000
set_option linter.unusedSimpArgs false


set_option maxHeartbeats 4000000 in
theorem get_some (w : World) (x c : Nat) (who g P T G f z y : Int) (got : Bool) (nx : Option Addr) (h : Blk w x (getCells who nx c g got) 221) (hl : Lay w c P T G) (hxc : c ≠ x) (hp : 0 ≤ P ∧ P ≤ 64) (hT : 0 ≤ T ∧ T ≤ 65536) (hG : G ≤ 65536) (hf : f ≠ 0) (hz : IntKind.u64.wrap (f - 1) = z) (hy : IntKind.i64.wrap z = y) :
    Calls Tryz.prog 196 #[.pointer (some ⟨x, 0, none⟩), .int .u64 f] w fun e w' => (∃ v, e = .returned v) ∧ ∃ q, CameAt w w' x (getCells who nx c y got) 221 (comCells 1 0 (wd (20 + P * 264 + T * 3) G 2 y 1) 0 0 false .nilIface (.func (.func 231) #[.pointer (some ⟨x, 0, none⟩)] #[]) false false) q := by
  have c3 := h.cell 3 (v := .int .i64 g) rfl
  have f3 := h.fro 3
  have hlt := h.lt
  have h' : Blk _ x (getCells who nx c y got) 221 := h.set 3 (.int .i64 y)
  have hB : But [x] w (w.setCell ⟨x, 3, none⟩ (.int .i64 y)) := (But.refl _ w).set (g := x) (.inl (by simp)) 3 _
  have hl' : Lay (w.setCell ⟨x, 3, none⟩ (.int .i64 y)) c P T G := (hB.block c hl.lt (by simpa using hxc)).trans hl
  have hd : (f == 0) = false := by simpa using hf
  generalize hV : w.setCell ⟨x, 3, none⟩ (.int .i64 y) = V at h' hB hl'
  have d2 := h'.cell 2 (v := .pointer (some ⟨c, 0, none⟩)) rfl
  have d3 := h'.cell 3 (v := .int .i64 y) rfl
  have hW := g_word c P T G y 1 V.drew (hl'.below ((Below.refl _ _).drew) hl'.lt) hp hT hG
  have HS : Hid (∀ w4, Below V.drew.heap.size V.drew w4 → Calls Tryz.prog 119 #[.pointer (some ⟨x, 0, none⟩), .int .i64 (wd (20 + P * 264 + T * 3) G 2 y 1), .func (.func 231) #[.pointer (some ⟨x, 0, none⟩)] #[]] w4 fun e w' => (∃ v, e = .returned v) ∧ ∃ q, CameAt w w' x (getCells who nx c y got) 221 (comCells 1 0 (wd (20 + P * 264 + T * 3) G 2 y 1) 0 0 false .nilIface (.func (.func 231) #[.pointer (some ⟨x, 0, none⟩)] #[]) false false) q) := by
    intro w4 k
    have hB4 : But [x] w w4 := hB.trans (((But.refl [x] V).drew).trans (But.of_below k))
    have h4 : Blk w4 x (getCells who nx c y got) 221 := h'.drew.but (But.of_below (l := []) k) (by simp)
    refine (load_come w4 x _ 221 _ h4 (by simp [getCells]) 231 #[.pointer (some ⟨x, 0, none⟩)] #[]).mono ?_
    rintro e w5 ⟨hv, q, hC⟩
    exact ⟨hv, q, Nat.le_trans hB4.size hC.fresh, hC.own, hC.com, hB4.trans hC.but⟩
  generalize wd (20 + P * 264 + T * 3) G 2 y 1 = at' at *
  clear h h' hB hl hl' hp hT hG hxc hf
  go_enter Tryz.func196, Tryz.ntmps196
  go_wp2_with fail
  try rw [hV]
  clear hV c3 f3
  go_region_with (first | (go_at_call 145; refine hW.mono ?_; rintro e w4 ⟨rfl, k⟩) | (go_at_call 119; refine (HS.out _ k).mono ?_; rintro e w5 ⟨⟨v, rfl⟩, q, hC⟩))
  all_goals
    clear hW k HS d2 d3
    go_wp2_with fail
    go_end0
    exact ⟨⟨_, rfl⟩, q, hC⟩

end Go.Proofs.YtcjidigpdecdlaaGreat

namespace Go.Proofs.YtcjidigpdecdlaaGreat
open Go Go.RowKit
set_option linter.unusedVariables false
set_option maxRecDepth 100000
set_option linter.unusedSimpArgs false


theorem get_full (w : World) (x c : Nat) (who g P T G u : Int) (got : Bool) (nx : Option Addr) (h : Blk w x (getCells who nx c g got) 221) (hl : Lay w c P T G) (hG : 0 ≤ G ∧ G ≤ 65536) (hu : G ≤ u) :
    Calls Tryz.prog 230 #[.pointer (some ⟨x, 0, none⟩), .int .u64 u] w fun e w' => (∃ v, e = .returned v) ∧ ∃ x2 q2 g2 q b, CameBox w w' x (getCells who nx c g got) 221 (fun v => comCells 0 0 0 0 0 false (.iface 301 (.pointer (some ⟨x2, 0, none⟩))) v false false) .nilFunc q b ∧ RelM w' x2 q2 g2 who (wd 0 2 3 1 1) (wd 0 2 3 1 2) ∧ w.heap.size ≤ x2 ∧ q2 < q ∧ q2 < b ∧ g2 < q ∧ g2 < b := by
  have c2 := h.cell 2 (v := .pointer (some ⟨c, 0, none⟩)) rfl
  have hC := config_any _ P T G w (.some c hl)
  have hfc := field_c2
  have w1 : IntKind.u64.wrap G = G := wrap_u64 (by omega)
  have hd : decide (G ≤ u) = true := by simpa using hu
  have HH : Hid (Blk w x (getCells who nx c g got) 221) := h
  have HR : Hid (∀ W, Blk W x (getCells who nx c g got) 221 → Calls Tryz.prog 249 #[.pointer (some ⟨x, 0, none⟩)] W fun e w' => (∃ v, e = .returned v) ∧ ∃ x2 q2 g2 q b, CameBox W w' x (getCells who nx c g got) 221 (fun v => comCells 0 0 0 0 0 false (.iface 301 (.pointer (some ⟨x2, 0, none⟩))) v false false) .nilFunc q b ∧ RelM w' x2 q2 g2 who (wd 0 2 3 1 1) (wd 0 2 3 1 2) ∧ W.heap.size ≤ x2 ∧ q2 < q ∧ q2 < b ∧ g2 < q ∧ g2 < b) := fun W hW => release_any W x c who _ 221 hW (by simp [getCells]) rfl rfl
  generalize wd 0 2 3 1 1 = sv at *
  generalize wd 0 2 3 1 2 = ow at *
  clear h hl
  go_enter Tryz.func230, Tryz.ntmps230
  go_wp2_with fail
  go_at_call 117; refine hC.mono ?_; rintro e w1 ⟨rfl, k⟩
  have hB : But [x] w w1 := But.of_below k
  have hk := k.size
  have H := HR.out w1 (HH.out.but (But.of_below (l := []) k) (by simp))
  clear HR HH k hC
  go_wp2_with fail
  go_at_call 249; refine H.mono ?_; rintro e w2 ⟨⟨v, rfl⟩, x2, q2, g2, q, b, hC, hM, h1, h2, h3, h4, h5⟩
  have hC5 := hC.before hB
  clear H hC hB c2
  go_wp2_with fail
  refine bodyPost_ret (results_none rfl _ _ _) rfl ?_
  exact ⟨⟨_, rfl⟩, x2, q2, g2, q, b, hC5, hM, by omega, h2, h3, h4, h5⟩

set_option maxHeartbeats 4000000 in
theorem get_fresh (w : World) (x c : Nat) (who g P T G u : Int) (got : Bool) (nx : Option Addr) (h : Blk w x (getCells who nx c g got) 221) (hl : Lay w c P T G) (hG : 0 ≤ G ∧ G ≤ 65536) (hu : u < G) (hu0 : 0 ≤ u) :
    Calls Tryz.prog 230 #[.pointer (some ⟨x, 0, none⟩), .int .u64 u] w fun e w' => (∃ v, e = .returned v) ∧ ∃ q b, CameBox w w' x (getCells who nx c u got) 221 (fun v => comCells 2 0 17 0 (u + 1) false .nilIface v false false) (.func (.func 250) #[.pointer (some ⟨x, 0, none⟩)] #[]) q b := by
  have c2 := h.cell 2 (v := .pointer (some ⟨c, 0, none⟩)) rfl
  have hC := config_any _ P T G w (.some c hl)
  have hfc := field_c2
  have w1 : IntKind.u64.wrap G = G := wrap_u64 (by omega)
  have w2 : IntKind.u64.wrap (u + 1) = u + 1 := wrap_u64 (by omega)
  have w3 : IntKind.i64.wrap u = u := by simp [IntKind.wrap, IntKind.bits, IntKind.signed]; omega
  have hd : decide (G ≤ u) = false := by simpa using hu
  have HH : Hid (Blk w x (getCells who nx c g got) 221) := h
  have hlt := h.lt
  have HS : Hid (∀ W V, But [x] w W → Blk W x (getCells who nx c g got) 221 → V = W.setCell ⟨x, 3, none⟩ (.int .i64 u) → V.cell? ⟨x, 2, none⟩ = some (.pointer (some ⟨c, 0, none⟩)) ∧ Calls Tryz.prog 125 #[.pointer (some ⟨x, 0, none⟩), .int .i64 17, .int .u64 (u + 1), .func (.func 250) #[.pointer (some ⟨x, 0, none⟩)] #[]] V.drew fun e w' => (∃ v, e = .returned v) ∧ ∃ q b, CameBox w w' x (getCells who nx c u got) 221 (fun v => comCells 2 0 17 0 (u + 1) false .nilIface v false false) (.func (.func 250) #[.pointer (some ⟨x, 0, none⟩)] #[]) q b) := by
    rintro W V hB hW rfl
    have h3 : Blk _ x (getCells who nx c u got) 221 := hW.set 3 (.int .i64 u)
    have hB3 : But [x] w (W.setCell ⟨x, 3, none⟩ (.int .i64 u)) := hB.set (g := x) (.inl (by simp)) 3 _
    refine ⟨h3.cell 2 rfl, (store_come _ x _ 221 17 (u + 1) h3.drew (by simp [getCells]) (.func (.func 250) #[.pointer (some ⟨x, 0, none⟩)] #[]) (.some _ _ _)).mono ?_⟩
    rintro e w5 ⟨hv, q, b, hC⟩
    exact ⟨hv, q, b, hC.before hB3.drew⟩
  clear h hl hu
  go_enter Tryz.func230, Tryz.ntmps230
  go_wp2_with fail
  go_at_call 117; refine hC.mono ?_; rintro e w1 ⟨rfl, k⟩
  have hB : But [x] w w1 := But.of_below k
  have hk := k.size
  have h1 := HH.out.but (But.of_below (l := []) k) (by simp)
  have c3 := h1.cell 3 (v := .int .i64 g) rfl
  have f3 := h1.fro 3
  obtain ⟨d2, H⟩ := HS.out w1 _ hB h1 rfl
  have hW := glob_word17 (w1.setCell ⟨x, 3, none⟩ (.int .i64 u)).drew c
  generalize hV : w1.setCell ⟨x, 3, none⟩ (.int .i64 u) = V at d2 H hW
  clear HS HH k hC hB h1 c2
  go_wp2_with fail
  try rw [hV]
  clear hV c3 f3
  go_region_with (first | (go_at_call 120; refine hW.mono ?_; rintro e w3 ⟨rfl, rfl⟩) | (go_at_call 125; refine H.mono ?_; rintro e w1 ⟨⟨v, rfl⟩, q, b, hC⟩))
  all_goals
    clear hW H d2 w2 w3
    go_wp2_with fail
    go_end0
    exact ⟨⟨_, rfl⟩, q, b, hC⟩

end Go.Proofs.YtcjidigpdecdlaaGreat

namespace Go.Proofs.YtcjidigpdecdlaaGreat
open Go Go.RowKit
set_option linter.unusedVariables false
set_option maxRecDepth 100000
set_option linter.unusedSimpArgs false


theorem get_new (w : World) (c : Nat) (who : Int) :
    Calls Tryz.prog 86 #[.pointer (some ⟨c, 0, none⟩), .int .i64 who] w fun e w' => ∃ x x2 q2 q b, e = .returned (.pointer (some ⟨x, 0, none⟩)) ∧ Below w.heap.size w w' ∧ w.heap.size ≤ x ∧ x < x2 ∧ q2 < q ∧ q2 < b ∧ b ≠ q ∧ Blk w' x (getCells who (some ⟨q, 0, none⟩) c 0 false) 221 ∧ Blk w' q (comCells 0 0 0 0 0 false (.iface 257 (.pointer (some ⟨x2, 0, none⟩))) (.func (.func 197) #[] #[.pointer (some ⟨b, 0, none⟩)]) false false) 231 ∧ Blk w' b #[.func (.func 152) #[.pointer (some ⟨x, 0, none⟩)] #[]] 1 ∧ AcqM w' x2 q2 who (wd 0 2 3 1 0) (wd 0 2 3 1 1) (wd 0 2 3 1 2) := by
  have hB := Blk.new w #[.int .i64 0, .pointer none, .pointer none, .int .i64 0, .bool false] 221
  have hA := acquire_any _ w.heap.size c 152 who (getCells who none c 0 false) _ #[.pointer (some ⟨w.heap.size, 0, none⟩)] #[] 221 hB (by simp) rfl
  clear hB
  generalize wd 0 2 3 1 0 = tk at *
  generalize wd 0 2 3 1 1 = sv at *
  generalize wd 0 2 3 1 2 = ow at *
  have hs := World.size_alloc w (.cells #[.int .i64 0, .pointer none, .pointer none, .int .i64 0, .bool false] 221)
  have hb : Below w.heap.size w (w.alloc (.cells #[.int .i64 0, .pointer none, .pointer none, .int .i64 0, .bool false] 221)) := (Below.refl _ _).alloc (Nat.le_refl _) _
  have HH : Hid (Below w.heap.size w (w.alloc (.cells #[.int .i64 0, .pointer none, .pointer none, .int .i64 0, .bool false] 221)) ∧ (w.alloc (.cells #[.int .i64 0, .pointer none, .pointer none, .int .i64 0, .bool false] 221)).heap.size = w.heap.size + 1) := ⟨hb, hs⟩
  clear hb hs
  go_enter Tryz.func86, Tryz.ntmps86
  go_wp2_with fail
  go_at_call 151; refine hA.mono ?_; rintro e w1 ⟨⟨v, rfl⟩, x2, q2, q, b, hC, hM, h1, h2, h3⟩
  have hC1 := hC.at'.own
  have hC2 := hC.at'.com
  have hC3 := hC.box
  have hC4 := hC.ne
  have hb := HH.out.1.trans (hC.at'.but.below (by simp) (by rw [HH.out.2]; omega))
  have hx : w.heap.size < x2 := by rw [HH.out.2] at h1; omega
  clear hA hC HH h1
  go_wp2_with fail
  go_ret
  exact ⟨w.heap.size, x2, q2, q, b, rfl, hb, Nat.le_refl _, hx, h2, h3, hC4, hC1, hC2, hC3, hM⟩

theorem get_g (w : World) (x c : Nat) (who g : Int) (got : Bool) (nx : Option Addr) (h : Blk w x (getCells who nx c g got) 221) :
    Calls Tryz.prog 101 #[.pointer (some ⟨x, 0, none⟩)] w fun e w' => e = .returned (.int .i64 (if got then g else -1)) ∧ ∃ m, w' = w.drewN m := by
  have c3 := h.cell 3 (v := .int .i64 g) rfl
  have c4 := h.cell 4 (v := .bool got) rfl
  clear h
  cases got with
  | false =>
    go_enter Tryz.func101, Tryz.ntmps101
    go_wp2_with fail
    go_ret
    exact ⟨rfl, 0, rfl⟩
  | true =>
    go_enter Tryz.func101, Tryz.ntmps101
    go_wp2_with fail
    go_ret
    exact ⟨rfl, 0, rfl⟩

end Go.Proofs.YtcjidigpdecdlaaGreat

namespace Go.Proofs.YtcjidigpdecdlaaGreat
open Go Go.RowKit
set_option linter.unusedVariables false
set_option maxRecDepth 100000
set_option linter.unusedSimpArgs false

def acqSub (tk sv ow who : Int) : Sub := ⟨AcqT, acqPM tk sv ow who, (acqFl who sv ow).I (acqPM tk sv ow who), Rd.nil, 257, 377⟩
def relSub (sv ow who : Int) : Sub := ⟨RelT, relPM sv ow, (relFl who sv).I (relPM sv ow), Rd.nil, 301, 383⟩
theorem acqSub_ok (tk sv ow who : Int) (hw : 0 ≤ who ∧ who ≤ 1000000) (R : Rd) : Steps (acqPM tk sv ow who) ((acqFl who sv ow).I (acqPM tk sv ow who)) Rd.nil 377 who ∧ MI.Good ((acqFl who sv ow).I (acqPM tk sv ow who)) (acqPM tk sv ow who) ∧ ActRun 257 377 ∧ (∀ w, R.P w → Rd.nil.P w) ∧ (∀ k ∈ Rd.nil.B, k ∈ R.B) :=
  ⟨Fl.steps (acq_laws _ _ _ who hw) stepby_acq, Fl.good (acq_laws _ _ _ who hw), act_acq, fun _ _ => trivial, fun k hk => by cases hk⟩
theorem relSub_ok (sv ow who : Int) (R : Rd) : Steps (relPM sv ow) ((relFl who sv).I (relPM sv ow)) Rd.nil 383 who ∧ MI.Good ((relFl who sv).I (relPM sv ow)) (relPM sv ow) ∧ ActRun 301 383 ∧ (∀ w, R.P w → Rd.nil.P w) ∧ (∀ k ∈ Rd.nil.B, k ∈ R.B) :=
  ⟨Fl.steps (rel_laws _ _ who) stepby_rel, Fl.good (rel_laws _ _ who), act_rel, fun _ _ => trivial, fun k hk => by cases hk⟩
theorem acqSub_at {w : World} {y q : Nat} {tk sv ow who : Int} (h : AcqM w y q who tk sv ow) : ((acqFl who sv ow).I (acqPM tk sv ow who)) w y AcqT.fresh [y, q] :=
  ⟨trivial, q, [q], h.m, .told _ h.com, by have := h.o1; simp; omega, rfl⟩
theorem relSub_at {w : World} {y q g : Nat} {sv ow who : Int} (h : RelM w y q g who sv ow) : ((relFl who sv).I (relPM sv ow)) w y RelT.fresh [y, q, g] :=
  ⟨trivial, q, [q, g], h.m, .box _ g (fun _ h => by cases h) h.com h.box h.ne, by have := h.o1; have := h.o2; simp; omega, rfl⟩

/-- Getting a lock, and what is so behind it. -/
def AcqT.goes {σ : Type} (f : AcqT → σ) (e : σ) : AcqT → σ
  | .over _ => e
  | p => f p

/-- The machine that gives a goroutine back; gl is the place of its GLink. -/
inductive GpT where
  | acq (p : AcqT)
  | ld
  | ln (f : Int)
  | st
  | rel (p : RelT)
def gpPM (who g gl : Int) : PM GpT where
  ax := fun
    | .acq p => (acqPM 3 4 5 who).ax p
    | .ld => some (axLd 16)
    | .ln f => some (axSt gl f)
    | .st => some (axSt 16 (g + 1))
    | .rel p => (relPM 4 5).ax p
  nx := fun
    | .acq p, v => ((acqPM 3 4 5 who).nx p v).goes .acq .ld
    | .ld, v => .ln v
    | .ln _, _ => .st
    | .st, _ => .rel .fresh
    | .rel p, v => .rel ((relPM 4 5).nx p v)
def AcqT.Live : AcqT → Prop
  | .over _ => False
  | _ => True
def gpCp (who g gl : Int) (cl : Nat) : Cp GpT where
  T := 292
  cells := fun _ _ nx => putCells who nx cl g
  kind := fun
    | .acq p => .run (acqSub 3 4 5 who) p (.fn 212)
    | .ld => .acc (axLd 16) (.told 237)
    | .ln f => .acc (axSt gl f) (.untold 259)
    | .st => .acc (axSt 16 (g + 1)) (.untold 249)
    | .rel .over => .over
    | .rel p => .run (relSub 4 5 who) p .nil
  ok := fun
    | .acq p => p.Live
    | .ln f => 0 ≤ f ∧ f ≤ 18446744073709551615
    | _ => True
  ext := fun _ _ _ Le => Le = []
  tie := fun _ _ _ => True
theorem acq_nx_live {who v : Int} (p : AcqT) (h : ((acqPM 3 4 5 who).ax ((acqPM 3 4 5 who).nx p v)).isSome = true) : ((acqPM 3 4 5 who).nx p v).Live := by
  cases hp : (acqPM 3 4 5 who).nx p v with
  | over t => rw [hp] at h; cases h
  | fresh => trivial
  | wait t => trivial
  | has t => trivial
theorem acq_then_live {σ : Type} {f : AcqT → σ} {e : σ} : ∀ (p : AcqT), p.Live → p.goes f e = f p
  | .fresh, _ => rfl
  | .wait _, _ => rfl
  | .has _, _ => rfl
theorem acq_then_over {σ : Type} {f : AcqT → σ} {e : σ} {who : Int} : ∀ (p : AcqT), (acqPM 3 4 5 who).ax p = none → p.goes f e = e
  | .fresh, h => by cases h
  | .wait _, h => by cases h
  | .has _, h => by cases h
  | .over _, _ => rfl
theorem acq_live_some {who : Int} : ∀ (p : AcqT), p.Live → ((acqPM 3 4 5 who).ax p).isSome = true
  | .fresh, _ => rfl
  | .wait _, _ => rfl
  | .has _, _ => rfl
theorem ent_pk1 : Ent 212 := fun args w => by kernel_rfl
theorem ent_pk2 : Ent 237 := fun args w => by kernel_rfl
theorem ent_pk3 : Ent 259 := fun args w => by kernel_rfl
theorem ent_pk4 : Ent 249 := fun args w => by kernel_rfl

theorem gp_on {who g gl v : Int} {cl : Nat} {t : GpT} {S : Sub} {p : S.τ} {af : After} (hok : (gpCp who g gl cl).ok t) (hk : (gpCp who g gl cl).kind t = .run S p af) (hs : (S.M.ax (S.M.nx p v)).isSome = true) :
    (gpCp who g gl cl).ok ((gpPM who g gl).nx t v) ∧ (gpCp who g gl cl).kind ((gpPM who g gl).nx t v) = .run S (S.M.nx p v) af := by
  cases t with
  | acq q =>
    cases hk
    have hl : ((acqPM 3 4 5 who).nx q v).Live := acq_nx_live q hs
    have e : (gpPM who g gl).nx (.acq q) v = .acq ((acqPM 3 4 5 who).nx q v) := acq_then_live _ hl
    rw [e]
    exact ⟨hl, rfl⟩
  | rel q =>
    cases q with
    | over => cases hk
    | fresh => cases hk; exact ⟨trivial, rfl⟩
    | pass => cases hk; cases hs
  | ld => cases hk
  | ln f => cases hk
  | st => cases hk

theorem gp_laws (who g P T G : Int) (cl : Nat) (hw : 0 ≤ who ∧ who ≤ 1000000) (hg : 0 ≤ g ∧ g ≤ 1000000) (hp : 0 ≤ P ∧ P ≤ 64) (hT : 0 ≤ T ∧ T ≤ 65536) (hG : G ≤ 65536) :
    (gpCp who g (wd (20 + P * 264 + T * 3) G 2 g 1) cl).Laws (gpPM who g (wd (20 + P * 264 + T * 3) G 2 g 1)) (Rd.lay cl P T G) who where
  c0 := fun t es nx => rfl
  c1 := fun t es nx => rfl
  set := fun t es nx nx' => rfl
  k0 := fun t hok hk => by
    cases t with
    | rel q => cases q <;> first | rfl | cases hk
    | _ => cases hk
  k1 := fun t a f hok hk => by
    cases t with
    | acq q => cases hk
    | rel q => cases q <;> cases hk
    | ld => cases hk; exact ⟨rfl, axLd_ok _, ent_pk2⟩
    | ln f => cases hk; exact ⟨rfl, axSt_ok _ _ hok, ent_pk3⟩
    | st => cases hk; exact ⟨rfl, axSt_ok _ _ (by omega), ent_pk4⟩
  k2 := fun t S p af hok hk => by
    cases t with
    | acq q => cases hk; exact ⟨rfl, acq_live_some _ hok, ent_pk1, fun a => (acq_laws 3 4 5 who hw).axok _ a trivial⟩
    | rel q => cases q <;> cases hk <;> exact ⟨rfl, rfl, trivial, fun a => (rel_laws 4 5 who).axok _ a trivial⟩
    | _ => cases hk
  sub := fun t S p af hok hk => by
    cases t with
    | acq q => cases hk; exact acqSub_ok 3 4 5 who hw _
    | rel q => cases q <;> cases hk <;> exact relSub_ok 4 5 who _
    | _ => cases hk
  on := fun t S p af v hok hk hv hs => ⟨(gp_on hok hk hs).1, (gp_on hok hk hs).2, fun _ => rfl, fun _ _ _ h => h, fun _ _ h => h⟩
  ekeep := fun t es w w' l Le he _ _ => he
  elt := fun t es w Le he k hk => by
    have e : Le = [] := he
    rw [e] at hk; cases hk
  fol := fun W x t a f v es Le hok hk hv hB he hxe hR hxR => by
    obtain rfl : Le = [] := he
    cases t with
    | acq q => cases hk
    | rel q => cases q <;> cases hk
    | ld =>
      cases hk
      refine (put_link W x cl who g P T G v none hB hR hp hT hG).mono ?_
      rintro e w' ⟨hu, q, b, hC⟩
      obtain ⟨hb, h1⟩ : But [x] W w' ∧ Came W w' x (putCells who none cl g) 292 (axSt (wd (20 + P * 264 + T * 3) G 2 g 1) v) (.untold 259) := ⟨hC.at'.but, Came.of_box hC (fun _ h => by cases h) rfl rfl rfl⟩
      refine ⟨hu, hb, ?_⟩
      obtain ⟨q, Lc, c1, c2, c3, c4⟩ := h1
      have hlt := hB.lt
      exact ⟨x :: (Lc ++ []), ⟨hv, [], [], rfl, by simp, q, Lc, c1, c2, fun hm => absurd (c4 x hm) (by omega), (fun k _ h => by cases h), rfl⟩, fun k hm => by simp at hm; rcases hm with rfl | hm; exact .inl rfl; exact .inr (.inr (c4 k hm))⟩
    | ln f =>
      cases hk
      refine (put_lead W x cl who g none hB hg).mono ?_
      rintro e w' ⟨hu, q, b, hC⟩
      obtain ⟨hb, h1⟩ : But [x] W w' ∧ Came W w' x (putCells who none cl g) 292 (axSt 16 (g + 1)) (.untold 249) := ⟨hC.at'.but, Came.of_box hC (fun _ h => by cases h) rfl rfl rfl⟩
      refine ⟨hu, hb, ?_⟩
      obtain ⟨q, Lc, c1, c2, c3, c4⟩ := h1
      have hlt := hB.lt
      exact ⟨x :: (Lc ++ []), ⟨trivial, [], [], rfl, by simp, q, Lc, c1, c2, fun hm => absurd (c4 x hm) (by omega), (fun k _ h => by cases h), rfl⟩, fun k hm => by simp at hm; rcases hm with rfl | hm; exact .inl rfl; exact .inr (.inr (c4 k hm))⟩
    | st =>
      cases hk
      refine (release_any W x cl who _ 292 hB (by simp [gpCp, putCells]) rfl rfl).mono ?_
      rintro e w' ⟨hu, x2, q2, g2, q, b, hC, hM, f1, f2, f3, f4, f5⟩
      refine ⟨hu, hC.at'.but, ?_⟩
      have hlt := hB.lt
      have hfq := hC.at'.fresh
      have hfb := hC.fresh
      have o1 := hM.o1
      have o2 := hM.o2
      refine ⟨x :: q :: b :: ([x2, q2, g2] ++ []), ⟨trivial, [], [], rfl, by simp, q, x2, b, [x2, q2, g2], RunAt.of hC (fun nx => rfl), relSub_at hM, trivial, by simp; omega, by simp; omega, by simp; omega, (fun k _ h => by cases h), rfl⟩, fun k hm => ?_⟩
      simp at hm
      omega
  aft := fun W x y t S p af v es Le Li hok hk hv hn hB hin hty he hxe hxi hd hR hxR => by
    obtain rfl : Le = [] := he
    cases t with
    | acq q =>
      cases hk
      have e : (gpPM who g (wd (20 + P * 264 + T * 3) G 2 g 1)).nx (.acq q) v = .ld := acq_then_over _ hn
      rw [e]
      refine (put_look W x cl who g none hB).mono ?_
      rintro e w' ⟨hu, q, hC⟩
      obtain ⟨hb, h1⟩ : But [x] W w' ∧ Came W w' x (putCells who none cl g) 292 (axLd 16) (.told 237) := ⟨hC.but, Came.of_at hC⟩
      refine ⟨hu, hb, ?_⟩
      obtain ⟨q, Lc, c1, c2, c3, c4⟩ := h1
      have hlt := hB.lt
      exact ⟨x :: (Lc ++ []), ⟨trivial, [], [], rfl, by simp, q, Lc, c1, c2, fun hm => absurd (c4 x hm) (by omega), (fun k _ h => by cases h), rfl⟩, fun k hm => by simp at hm; rcases hm with rfl | hm; exact .inl rfl; exact .inr (.inr (c4 k hm))⟩
    | rel q =>
      cases q with
      | over => cases hk
      | fresh => cases hk; cases hn
      | pass =>
        cases hk
        exact ⟨But.refl _ _, x :: [], ⟨trivial, [], [], rfl, by simp, hB, rfl⟩, fun k hm => by simp at hm; exact .inl hm⟩
    | ld => cases hk
    | ln f => cases hk
    | st => cases hk
end Go.Proofs.YtcjidigpdecdlaaGreat

namespace Go.Proofs.YtcjidigpdecdlaaGreat
open Go Go.RowKit
set_option linter.unusedVariables false
set_option maxRecDepth 100000
set_option linter.unusedSimpArgs false

/-- A machine was made, and runs. -/
def RunNew (S : Sub) (pt : S.τ) (W w' : World) (x : Nat) (cs : Array Value) (T : TypeId) (fv : Value) : Prop := ∃ y q b L, CameBox W w' x cs T (fun v => comCells 0 0 0 0 0 false (.iface S.D (.pointer (some ⟨y, 0, none⟩))) v false false) fv q b ∧ S.I w' y pt L ∧ (∀ k ∈ L, W.heap.size ≤ k) ∧ q ∉ L ∧ b ∉ L
theorem RunNew.mk {S : Sub} {pt : S.τ} {W w4 w5 : World} {x y q b : Nat} {L : List Nat} {cs : Array Value} {T : TypeId} {fv : Value} (hG : S.I.Good S.M) (hI : S.I w4 y pt L) (hL : ∀ k ∈ L, W.heap.size ≤ k) (hx : x < W.heap.size) (hB : But [x] W w4) (hC : CameBox w4 w5 x cs T (fun v => comCells 0 0 0 0 0 false (.iface S.D (.pointer (some ⟨y, 0, none⟩))) v false false) fv q b) : RunNew S pt W w5 x cs T fv := by
  have hlt := hG.lt hI
  refine ⟨y, q, b, L, hC.before hB, hG.keep hI hC.at'.but (fun k hk => ?_), hL, fun hm => ?_, fun hm => ?_⟩
  · have := hL k hk; simp; omega
  · have := hlt q hm; have := hC.at'.fresh; omega
  · have := hlt b hm; have := hC.fresh; omega

theorem RunNew.before {S : Sub} {pt : S.τ} {a W w' : World} {x : Nat} {cs : Array Value} {T : TypeId} {fv : Value} (h : RunNew S pt W w' x cs T fv) (hb : But [x] a W) : RunNew S pt a w' x cs T fv := by
  obtain ⟨y, q, b, L, h1, h2, h3, h4, h5⟩ := h
  exact ⟨y, q, b, L, h1.before hb, h2, fun k hk => Nat.le_trans hb.size (h3 k hk), h4, h5⟩
theorem ws_notmem {l : List Nat} {x k : Nat} (h : x ∉ l) (hk : k ∈ l) : k ∉ [x] := fun hm => h ((List.mem_singleton.1 hm) ▸ hk)
theorem RunNew.but {S : Sub} {pt : S.τ} {W w' : World} {x : Nat} {cs : Array Value} {T : TypeId} {fv : Value} (h : RunNew S pt W w' x cs T fv) : But [x] W w' := by
  obtain ⟨y, q, b, L, h1, -⟩ := h
  exact h1.at'.but
theorem Came.but {W w' : World} {x : Nat} {cs : Array Value} {T : TypeId} {a : Ax} {f : Fol} (h : Came W w' x cs T a f) : But [x] W w' := by
  obtain ⟨_, _, _, _, h, _⟩ := h
  exact h
end Go.Proofs.YtcjidigpdecdlaaGreat

namespace Go.Proofs.YtcjidigpdecdlaaGreat
open Go Go.RowKit

/-- The goroutine that a word names. -/
def gw (v : Int) : Int := IntKind.i64.wrap (IntKind.u64.wrap (v - 1))
end Go.Proofs.YtcjidigpdecdlaaGreat

namespace Go.Proofs.YtcjidigpdecdlaaGreat
open Go Go.RowKit
set_option linter.unusedVariables false
set_option maxRecDepth 100000
set_option linter.unusedSimpArgs false

theorem gw_eq (v : Int) (h : 0 ≤ v ∧ v ≤ 18446744073709551615) : wrap64 (IntKind.i64.wrap v - 1) = gw v := by
  simp [gw, wrap64, IntKind.wrap, IntKind.bits, IntKind.signed]
  split <;> split <;> omega
theorem gw_one (v : Int) (h : 0 ≤ v ∧ v ≤ 1000000) : gw (v + 1) = v := by
  simp [gw, IntKind.wrap, IntKind.bits, IntKind.signed]
  omega
theorem is_word (P T G : Int) (n : Nat) (v : Int) (hn : (n : Int) = 20 + 264 * P + 3 * T + 2 * G) (hp : 0 ≤ P ∧ P ≤ 64) (hT : 0 ≤ T ∧ T ≤ 65536) (hG : 0 ≤ G ∧ G ≤ 65536) (hv : 0 ≤ v ∧ v ≤ 18446744073709551615) (h0 : v ≠ 0) :
    (v ≤ G → gw v = v - 1) ∧ decide (0 ≤ wd (20 + P * 264 + T * 3) G 2 (gw v) 1 ∧ wd (20 + P * 264 + T * 3) G 2 (gw v) 1 < n) = decide (v ≤ G) := by
  have h1 : v ≤ G → gw v = v - 1 := fun h => by
    have := gw_one (v - 1) (by omega)
    rw [show v - 1 + 1 = v by omega] at this
    exact this
  refine ⟨h1, ?_⟩
  by_cases h : v ≤ G
  · rw [decide_eq_true h, h1 h, decide_eq_true]
    unfold wd
    rw [if_pos ⟨by omega, by omega, by omega, by omega⟩]
    omega
  · rw [decide_eq_false h, decide_eq_false]
    have hg : ¬ (0 ≤ gw v ∧ gw v < G) := by
      simp [gw, IntKind.wrap, IntKind.bits, IntKind.signed]
      split <;> omega
    unfold wd
    rw [if_neg (fun hh => hg ⟨hh.1, hh.2.1⟩)]
    omega
theorem lists_len {w : World} {base : Nat} {e : TypeId} {size : Nat} {v : Value} {n : Nat} {xs : List Value} (h : w.ownsRow base e size v n xs) : n ≤ maxLen := by
  rcases h.2 with ⟨e0, h0⟩ | ⟨gb, cp, cur, e0, hb, hh, hnc, hcm, rest⟩
  · omega
  · omega
theorem IntsOn.cell {w : World} {base : Nat} {v : Value} {l : List Int} (h : IntsOn w base v l) {j : Nat} (hj : j < l.length) : ∃ gb cap, v = .slice (some ⟨gb, 0, none⟩) l.length cap ∧ w.cell? ⟨gb, j, none⟩ = some (.int .i64 (l.getD j 0)) := by
  rcases h.own.2 with ⟨e, h0⟩ | ⟨gb, cp, cur, e, hb, hh, hnc, hcm, hcs, htk⟩
  · omega
  · subst e
    refine ⟨gb, cp, rfl, ?_⟩
    have hc := h.own.cellAt j (by omega)
    rw [List.getElem?_map, List.getElem?_eq_getElem hj] at hc
    rw [List.getD_eq_getElem?_getD, List.getElem?_eq_getElem hj]
    exact hc
end Go.Proofs.YtcjidigpdecdlaaGreat

namespace Go.Proofs.YtcjidigpdecdlaaGreat
open Go Go.RowKit
set_option linter.unusedVariables false
set_option maxRecDepth 100000
set_option linter.unusedSimpArgs false

theorem mny_any (h t : Int) (w : World) (hh : 0 ≤ h ∧ h ≤ 18446744073709551615) (ht : 0 ≤ t ∧ t ≤ 18446744073709551615) :
    Calls Tryz.prog 175 #[.int .u64 h, .int .u64 t] w fun e w' => e = .returned (.int .u64 ((t - h) % 4294967296)) ∧ w = w' := by
  have e1 : IntKind.u64.wrap (t - h) = (t - h) % 18446744073709551616 := by simp [IntKind.wrap, IntKind.bits, IntKind.signed]
  have hb : 0 ≤ (t - h) % 18446744073709551616 := Int.emod_nonneg _ (by omega)
  have e2 : Int.tmod ((t - h) % 18446744073709551616) 4294967296 = (t - h) % 4294967296 := by
    rw [Int.tmod_eq_emod_of_nonneg hb]
    omega
  have e3 : IntKind.u64.wrap ((t - h) % 4294967296) = (t - h) % 4294967296 := wrap_u64 (by omega)
  go_enter Tryz.func175, Tryz.ntmps175
  go_wp2_with fail
  go_ret
  first
    | exact ⟨rfl, rfl⟩
    | exact ⟨by rw [e1, e2, e3], rfl⟩
    | exact ⟨by rw [e1, e2], rfl⟩

theorem rmny_any (h t : Int) (w : World) (hh : 0 ≤ h ∧ h ≤ 18446744073709551615) (ht : 0 ≤ t ∧ t ≤ 18446744073709551615) :
    Calls Tryz.prog 164 #[.int .u64 h, .int .u64 t] w fun e w' => e = .returned (.int .u64 ((t - h) % 4294967296)) ∧ w = w' := by
  have e1 : Int.tmod h 4294967296 = h % 4294967296 := Int.tmod_eq_emod_of_nonneg hh.1
  have e2 : Int.tmod t 4294967296 = t % 4294967296 := Int.tmod_eq_emod_of_nonneg ht.1
  have e3 : IntKind.u64.wrap (h % 4294967296) = h % 4294967296 := wrap_u64 (by omega)
  have e4 : IntKind.u64.wrap (t % 4294967296) = t % 4294967296 := wrap_u64 (by omega)
  by_cases hlt : t % 4294967296 < h % 4294967296
  · have e5 : IntKind.u64.wrap (t % 4294967296 + 4294967296) = t % 4294967296 + 4294967296 := wrap_u64 (by omega)
    have e6 : IntKind.u64.wrap (t % 4294967296 + 4294967296 - h % 4294967296) = (t - h) % 4294967296 := by rw [wrap_u64 (by omega)]; omega
    go_enter Tryz.func164, Tryz.ntmps164
    go_wp2_with fail
    go_ret
    first
      | exact ⟨rfl, rfl⟩
      | exact ⟨by rw [← e6], rfl⟩
  · have d : decide (t % 4294967296 < h % 4294967296) = false := decide_eq_false hlt
    have e6 : IntKind.u64.wrap (t % 4294967296 - h % 4294967296) = (t - h) % 4294967296 := by rw [wrap_u64 (by omega)]; omega
    clear hlt
    go_enter Tryz.func164, Tryz.ntmps164
    go_wp2_with fail
    go_ret
    first
      | exact ⟨rfl, rfl⟩
      | exact ⟨by rw [← e6], rfl⟩

theorem lprc_any (o : Option Addr) (P T G n f : Int) (w : World) (h : LayO w P T G o) (hp : 0 ≤ P ∧ P ≤ 64) (hf : 0 ≤ f ∧ f < 8) : Calls Tryz.prog 174 #[.pointer o, .int .i64 n, .int .i64 f] w fun e w' => e = .returned (.int .i64 (wd 20 P 264 n f)) ∧ Below w.heap.size w w' := by
  have HL : Hid _ := h
  have d1 : decide (8 ≤ f) = false := decide_eq_false (by omega)
  clear h
  go_enter Tryz.func174, Tryz.ntmps174
  go_wp2_with fail
  go_at_call 213; refine (procs_any o P T G _ HL.out).mono ?_; rintro e w1 ⟨rfl, h1⟩
  go_wp2_with fail
  go_at_call 193; refine (word_any 20 P 264 n f _ (by omega) (by omega) (by omega)).mono ?_; rintro e w2 ⟨rfl, h2⟩
  have hb := seq h1 h2
  go_wp2_with fail
  go_ret
  exact ⟨rfl, hb⟩

theorem lrng_any (o : Option Addr) (P T G n i : Int) (w : World) (h : LayO w P T G o) (hp : 0 ≤ P ∧ P ≤ 64) (hi : 0 ≤ i ∧ i ≤ 18446744073709551615) : Calls Tryz.prog 176 #[.pointer o, .int .i64 n, .int .u64 i] w fun e w' => e = .returned (.int .i64 (wd 20 P 264 n (8 + i % 256))) ∧ Below w.heap.size w w' := by
  have HL : Hid _ := h
  have e1 : i.tmod 256 = i % 256 := Int.tmod_eq_emod_of_nonneg (by omega)
  generalize hz : i % 256 = z at *
  have e2 : IntKind.i64.wrap z = z := by simp [IntKind.wrap, IntKind.bits, IntKind.signed]; omega
  have e3 : IntKind.i64.wrap (8 + z) = 8 + z := by simp [IntKind.wrap, IntKind.bits, IntKind.signed]; omega
  have hzb : 0 ≤ z ∧ z < 256 := by omega
  clear h hz hi
  go_enter Tryz.func176, Tryz.ntmps176
  go_wp2_with fail
  go_at_call 213; refine (procs_any o P T G _ HL.out).mono ?_; rintro e w1 ⟨rfl, h1⟩
  go_wp2_with fail
  go_at_call 193; refine (word_any 20 P 264 n (8 + z) _ (by omega) (by omega) (by omega)).mono ?_; rintro e w2 ⟨rfl, h2⟩
  have hb := seq h1 h2
  go_wp2_with fail
  go_ret
  exact ⟨rfl, hb⟩


theorem rprc_any (p f : Int) (w : World) (hp : 0 ≤ p ∧ p ≤ 64) (hf : 0 ≤ f ∧ f < 8) : Calls Tryz.prog 76 #[.int .i64 p, .int .i64 f] w fun e w' => e = .returned (.int .i64 (20 + 264 * p + f)) ∧ w = w' := by
  go_enter Tryz.func76, Tryz.ntmps76
  go_wp2_with fail
  go_ret
  exact ⟨ret_int (by first | rfl | omega | (unfold wrap64; omega)), rfl⟩
theorem rprcAt_any (P T G p f : Int) (w : World) (hp : 0 ≤ p ∧ p < P) (hP : P ≤ 64) (hf : 0 ≤ f ∧ f < 8) :
    Calls Tryz.prog 136 #[.agg #[.int .i64 P, .int .i64 T, .int .i64 G], .int .i64 p, .int .i64 f] w fun e w' => e = .returned (.int .i64 (wd 20 P 264 p f)) ∧ Below w.heap.size w w' := by
  have hb : Below w.heap.size w (w.alloc (.cells #[.int .i64 P, .int .i64 T, .int .i64 G] 23)) := (Below.refl _ _).alloc (Nat.le_refl _) _
  have hT := rprc_any p f (w.alloc (.cells #[.int .i64 P, .int .i64 T, .int .i64 G] 23)) (by omega) hf
  have e : 20 + 264 * p + f = wd 20 P 264 p f := by unfold wd; rw [if_pos ⟨hp.1, hp.2, by omega, by omega⟩]; omega
  rw [e] at hT
  generalize wd 20 P 264 p f = nt at *
  clear e
  have d1 : decide (p < 0) = false := decide_eq_false (by omega)
  have d2 : decide (P ≤ p) = false := decide_eq_false (by omega)
  go_enter Tryz.func136, Tryz.ntmps136
  go_wp2_with fail
  go_at_call 76; refine hT.mono ?_; rintro e w1 ⟨rfl, rfl⟩
  go_wp2_with fail
  go_ret
  exact ⟨rfl, hb⟩

theorem rrng_any (p i : Int) (w : World) (hp : 0 ≤ p ∧ p ≤ 64) (hi : 0 ≤ i ∧ i ≤ 18446744073709551615) : Calls Tryz.prog 201 #[.int .i64 p, .int .u64 i] w fun e w' => e = .returned (.int .i64 (28 + 264 * p + i % 256)) ∧ w = w' := by
  have e1 : i.tmod 256 = i % 256 := Int.tmod_eq_emod_of_nonneg (by omega)
  generalize hz : i % 256 = z at *
  have e2 : IntKind.i64.wrap z = z := by simp [IntKind.wrap, IntKind.bits, IntKind.signed] <;> omega
  have hzb : 0 ≤ z ∧ z < 256 := by omega
  clear hz hi
  go_enter Tryz.func201, Tryz.ntmps201
  go_wp2_with fail
  go_ret
  exact ⟨ret_int (by first | rfl | omega | (unfold wrap64; omega)), rfl⟩
theorem rrngAt_any (P T G p i : Int) (w : World) (hp : 0 ≤ p ∧ p < P) (hP : P ≤ 64) (hi : 0 ≤ i ∧ i ≤ 18446744073709551615) :
    Calls Tryz.prog 165 #[.agg #[.int .i64 P, .int .i64 T, .int .i64 G], .int .i64 p, .int .u64 i] w fun e w' => e = .returned (.int .i64 (wd 20 P 264 p (8 + i % 256))) ∧ Below w.heap.size w w' := by
  have hb : Below w.heap.size w (w.alloc (.cells #[.int .i64 P, .int .i64 T, .int .i64 G] 23)) := (Below.refl _ _).alloc (Nat.le_refl _) _
  have hT := rrng_any p i (w.alloc (.cells #[.int .i64 P, .int .i64 T, .int .i64 G] 23)) (by omega) hi
  have e : 28 + 264 * p + i % 256 = wd 20 P 264 p (8 + i % 256) := by unfold wd; rw [if_pos ⟨hp.1, hp.2, by omega, by omega⟩]; omega
  rw [e] at hT
  generalize wd 20 P 264 p (8 + i % 256) = nt at *
  clear e
  have d1 : decide (p < 0) = false := decide_eq_false (by omega)
  have d2 : decide (P ≤ p) = false := decide_eq_false (by omega)
  go_enter Tryz.func165, Tryz.ntmps165
  go_wp2_with fail
  go_at_call 201; refine hT.mono ?_; rintro e w1 ⟨rfl, rfl⟩
  go_wp2_with fail
  go_ret
  exact ⟨rfl, hb⟩
end Go.Proofs.YtcjidigpdecdlaaGreat

namespace Go.Proofs.YtcjidigpdecdlaaGreat
open Go Go.RowKit
set_option linter.unusedVariables false
set_option maxRecDepth 100000
set_option linter.unusedSimpArgs false

theorem il_and_bit (w i : Nat) (h : ¬ w / 2 ^ i % 2 = 1) : w &&& 2 ^ i = 0 := by
  apply Nat.eq_of_testBit_eq
  intro j
  rw [Nat.testBit_and, Nat.testBit_two_pow, Nat.zero_testBit]
  by_cases e : i = j
  · subst e
    have : w.testBit i = false := by rw [Nat.testBit_eq_decide_div_mod_eq]; exact decide_eq_false h
    simp [this]
  · simp [e]
theorem il_or_out (w i : Nat) (hi : i < 64) (hw : w < 18446744073709551616) (h : ¬ w / 2 ^ i % 2 = 1) : w ||| 2 ^ i = w + 2 ^ i := by
  have hp : 2 ^ i ≤ 2 ^ 63 := Nat.pow_le_pow_right (by omega) (by omega)
  have e := congrArg BitVec.toNat (BitVec.add_eq_or_of_and_eq_zero (BitVec.ofNat 65 w) (BitVec.ofNat 65 (2 ^ i)) (by
    apply BitVec.eq_of_toNat_eq
    rw [BitVec.toNat_and, BitVec.toNat_ofNat, BitVec.toNat_ofNat, Nat.mod_eq_of_lt (by omega), Nat.mod_eq_of_lt (by omega), il_and_bit w i h]
    rfl))
  rw [BitVec.toNat_add, BitVec.toNat_or, BitVec.toNat_ofNat, BitVec.toNat_ofNat, Nat.mod_eq_of_lt (a := w) (by omega), Nat.mod_eq_of_lt (a := 2 ^ i) (by omega), Nat.mod_eq_of_lt (by omega)] at e
  exact e.symm
theorem il_or_in (w i : Nat) (h : w / 2 ^ i % 2 = 1) : w ||| 2 ^ i = w := by
  apply Nat.eq_of_testBit_eq
  intro j
  rw [Nat.testBit_or, Nat.testBit_two_pow]
  by_cases e : i = j
  · subst e
    have : w.testBit i = true := by rw [Nat.testBit_eq_decide_div_mod_eq]; exact decide_eq_true h
    simp [this]
  · simp [e]
theorem il_not_bit (i j : Nat) (hi : i < 64) : (18446744073709551615 - 2 ^ i).testBit j = (decide (j < 64) && !decide (i = j)) := by
  have hp : 2 ^ i < 2 ^ 64 := Nat.pow_lt_pow_right (by omega) hi
  rw [show 18446744073709551615 - 2 ^ i = 2 ^ 64 - (2 ^ i + 1) by omega, Nat.testBit_two_pow_sub_succ hp, Nat.testBit_two_pow]
theorem il_an_out (w i : Nat) (hi : i < 64) (hw : w < 18446744073709551616) (h : ¬ w / 2 ^ i % 2 = 1) : w &&& (18446744073709551615 - 2 ^ i) = w := by
  apply Nat.eq_of_testBit_eq
  intro j
  rw [Nat.testBit_and, il_not_bit i j hi]
  by_cases hj : j < 64
  · by_cases e : i = j
    · subst e
      have : w.testBit i = false := by rw [Nat.testBit_eq_decide_div_mod_eq]; exact decide_eq_false h
      simp [this]
    · simp [e, hj]
  · have : w.testBit j = false := Nat.testBit_lt_two_pow (Nat.lt_of_lt_of_le hw (show (2 : Nat) ^ 64 ≤ 2 ^ j from Nat.pow_le_pow_right (by omega) (by omega)))
    simp [this]
theorem il_an_in (w i : Nat) (hi : i < 64) (hw : w < 18446744073709551616) (h : w / 2 ^ i % 2 = 1) : w &&& (18446744073709551615 - 2 ^ i) = w - 2 ^ i := by
  have hz : w &&& (18446744073709551615 - 2 ^ i) ≤ w := Nat.and_le_left
  have h0 : ¬ (w &&& (18446744073709551615 - 2 ^ i)) / 2 ^ i % 2 = 1 := by
    have : (w &&& (18446744073709551615 - 2 ^ i)).testBit i = false := by rw [Nat.testBit_and, il_not_bit i i hi]; simp
    rw [Nat.testBit_eq_decide_div_mod_eq] at this
    exact of_decide_eq_false this
  have h1 := il_or_out _ i hi (Nat.lt_of_le_of_lt hz hw) h0
  have h2 : (w &&& (18446744073709551615 - 2 ^ i)) ||| 2 ^ i = w := by
    apply Nat.eq_of_testBit_eq
    intro j
    rw [Nat.testBit_or, Nat.testBit_and, il_not_bit i j hi, Nat.testBit_two_pow]
    by_cases e : i = j
    · subst e
      have : w.testBit i = true := by rw [Nat.testBit_eq_decide_div_mod_eq]; exact decide_eq_true h
      simp [this]
    · by_cases hj : j < 64
      · simp [e, hj]
      · have : w.testBit j = false := Nat.testBit_lt_two_pow (Nat.lt_of_lt_of_le hw (show (2 : Nat) ^ 64 ≤ 2 ^ j from Nat.pow_le_pow_right (by omega) (by omega)))
        simp [e, this]
  omega

/-- A processor's bit. -/
def bitOf (p : Int) : Int := if 0 ≤ p ∧ p < 64 then ((2 ^ p.toNat : Nat) : Int) else 0
/-- Has a word it? -/
def mskB (w p : Int) : Bool := decide (bitOf p ≠ 0) && decide (w / bitOf p % 2 = 1)
def mskIn (w p : Int) : Int := if mskB w p then w else w + bitOf p
def mskOut (w p : Int) : Int := if mskB w p then w - bitOf p else w
theorem bitOf_bd (p : Int) : 0 ≤ bitOf p ∧ bitOf p ≤ 9223372036854775808 := by
  unfold bitOf
  split
  · have h1 : 2 ^ p.toNat ≤ 2 ^ 63 := Nat.pow_le_pow_right (by omega) (by omega)
    generalize 2 ^ p.toNat = z at *
    omega
  · omega
theorem mskB_nat (w i : Nat) (hi : i < 64) : mskB w (i : Int) = decide (w / 2 ^ i % 2 = 1) := by
  have hp : 0 < 2 ^ i := Nat.two_pow_pos i
  have e : bitOf (i : Int) = ((2 ^ i : Nat) : Int) := by unfold bitOf; rw [if_pos (by omega)]; rfl
  unfold mskB
  rw [e]
  have h1 : decide (((2 ^ i : Nat) : Int) ≠ 0) = true := decide_eq_true (by omega)
  rw [h1, Bool.true_and]
  apply Bool.eq_iff_iff.2
  rw [decide_eq_true_iff, decide_eq_true_iff]
  rw [← Int.natCast_ediv]
  omega
theorem mskB_far {w p : Int} (h : ¬ (0 ≤ p ∧ p < 64)) : mskB w p = false := by
  unfold mskB bitOf
  rw [if_neg h]
  rfl
theorem or_bit (w p : Int) (hw : 0 ≤ w ∧ w ≤ 18446744073709551615) : bits .or .u64 w (bitOf p) = mskIn w p ∧ 0 ≤ mskIn w p ∧ mskIn w p ≤ 18446744073709551615 := by
  obtain ⟨W, rfl⟩ := Int.eq_ofNat_of_zero_le hw.1
  by_cases h : 0 ≤ p ∧ p < 64
  · obtain ⟨i, rfl⟩ := Int.eq_ofNat_of_zero_le h.1
    have hi : i < 64 := by omega
    have hp : 2 ^ i ≤ 2 ^ 63 := Nat.pow_le_pow_right (by omega) (by omega)
    have hlt : W ||| 2 ^ i < 2 ^ 64 := Nat.or_lt_two_pow (by omega) (by omega)
    have e : bitOf (i : Int) = ((2 ^ i : Nat) : Int) := by unfold bitOf; rw [if_pos h]; rfl
    unfold mskIn
    rw [mskB_nat W i hi, e, u64_or_nat W (2 ^ i) (by omega) (by omega)]
    by_cases hb : W / 2 ^ i % 2 = 1
    · rw [decide_eq_true hb, if_pos rfl, il_or_in W i hb]
      exact ⟨rfl, hw⟩
    · rw [decide_eq_false hb, if_neg (by simp)]
      have h3 := il_or_out W i hi (by omega) hb
      rw [h3]
      rw [h3] at hlt
      clear e h3 hb hp
      generalize 2 ^ i = z at *
      omega
  · have e : bitOf p = ((0 : Nat) : Int) := by unfold bitOf; rw [if_neg h]; rfl
    unfold mskIn
    rw [mskB_far h, e, u64_or_nat W 0 (by omega) (by omega)]
    simp
    omega
theorem an_bit (w p : Int) (hw : 0 ≤ w ∧ w ≤ 18446744073709551615) : bits .andNot .u64 w (bitOf p) = mskOut w p ∧ 0 ≤ mskOut w p ∧ mskOut w p ≤ 18446744073709551615 := by
  obtain ⟨W, rfl⟩ := Int.eq_ofNat_of_zero_le hw.1
  by_cases h : 0 ≤ p ∧ p < 64
  · obtain ⟨i, rfl⟩ := Int.eq_ofNat_of_zero_le h.1
    have hi : i < 64 := by omega
    have hp : 2 ^ i ≤ 2 ^ 63 := Nat.pow_le_pow_right (by omega) (by omega)
    have e : bitOf (i : Int) = ((2 ^ i : Nat) : Int) := by unfold bitOf; rw [if_pos h]; rfl
    unfold mskOut
    rw [mskB_nat W i hi, e, u64_andNot_nat W (2 ^ i) (by omega) (by omega)]
    by_cases hb : W / 2 ^ i % 2 = 1
    · rw [decide_eq_true hb, if_pos rfl, il_an_in W i hi (by omega) hb]
      have hge : 2 ^ i ≤ W := by
        apply Decidable.byContradiction
        intro hlt
        rw [Nat.div_eq_of_lt (by omega)] at hb
        omega
      clear e hb hp
      generalize 2 ^ i = z at *
      omega
    · rw [decide_eq_false hb, if_neg (by simp), il_an_out W i hi (by omega) hb]
      exact ⟨rfl, hw⟩
  · have e : bitOf p = ((0 : Nat) : Int) := by unfold bitOf; rw [if_neg h]; rfl
    unfold mskOut
    rw [mskB_far h, e, u64_andNot_nat W 0 (by omega) (by omega)]
    have : W &&& (18446744073709551615 - 0) = W := by
      have := Nat.and_two_pow_sub_one_eq_mod W 64
      rw [show 18446744073709551615 - 0 = 2 ^ 64 - 1 by omega, this]
      omega
    rw [this]
    simp
    omega
theorem and_bit (w p : Int) (hw : 0 ≤ w ∧ w ≤ 18446744073709551615) : decide (bits .and .u64 w (bitOf p) ≠ 0) = mskB w p := by
  obtain ⟨W, rfl⟩ := Int.eq_ofNat_of_zero_le hw.1
  by_cases h : 0 ≤ p ∧ p < 64
  · obtain ⟨i, rfl⟩ := Int.eq_ofNat_of_zero_le h.1
    have hi : i < 64 := by omega
    have hp : 2 ^ i ≤ 2 ^ 63 := Nat.pow_le_pow_right (by omega) (by omega)
    have hp0 : 0 < 2 ^ i := Nat.two_pow_pos i
    have e : bitOf (i : Int) = ((2 ^ i : Nat) : Int) := by unfold bitOf; rw [if_pos h]; rfl
    rw [mskB_nat W i hi, e, u64_and_nat W (2 ^ i) (by omega) (by omega)]
    by_cases hb : W / 2 ^ i % 2 = 1
    · rw [decide_eq_true hb, Go.nat_bit, hb]
      exact decide_eq_true (by omega)
    · rw [decide_eq_false hb, il_and_bit W i hb]
      rfl
  · have e : bitOf p = ((0 : Nat) : Int) := by unfold bitOf; rw [if_neg h]; rfl
    rw [mskB_far h, e, u64_and_nat W 0 (by omega) (by omega)]
    simp

theorem il_word (w : World) (c : Nat) (i : Int) (h : 6 ≤ i ∧ i ≤ 19) : Calls Tryz.prog 120 #[.pointer (some ⟨c, 0, none⟩), .int .i64 i] w fun e w' => e = .returned (.int .i64 i) ∧ w = w' := by
  have d1 : decide (i < 6) = false := decide_eq_false (by omega)
  have d2 : decide (19 < i) = false := decide_eq_false (by omega)
  clear h
  go_enter Tryz.func120, Tryz.ntmps120
  go_wp2_with fail
  go_ret
  exact ⟨rfl, rfl⟩
theorem lthr_any (o : Option Addr) (P T G n f : Int) (w : World) (h : LayO w P T G o) (hp : 0 ≤ P ∧ P ≤ 64) (hT : 0 ≤ T ∧ T ≤ 65536) : Calls Tryz.prog 319 #[.pointer o, .int .i64 n, .int .i64 f] w fun e w' => e = .returned (.int .i64 (wd (20 + P * 264) T 3 n f)) ∧ Below w.heap.size w w' := by
  have hs := threads_any o P T G w h hp
  clear h
  go_enter Tryz.func319, Tryz.ntmps319
  go_wp2_with fail
  go_at_call 228; refine hs.mono ?_; rintro e w1 ⟨rfl, h1⟩
  clear hs
  go_wp2_with fail
  go_at_call 193; refine (word_any _ T 3 n f _ (by omega) (by omega) (by omega)).mono ?_; rintro e w2 ⟨rfl, h2⟩
  have hb := seq h1 h2
  go_wp2_with fail
  go_ret
  exact ⟨rfl, hb⟩
theorem rprcAt_all (P T G p f : Int) (w : World) (hP : P ≤ 64) (hf : 0 ≤ f ∧ f < 8) :
    Calls Tryz.prog 136 #[.agg #[.int .i64 P, .int .i64 T, .int .i64 G], .int .i64 p, .int .i64 f] w fun e w' => e = .returned (.int .i64 (wd 20 P 264 p f)) ∧ Below w.heap.size w w' := by
  by_cases h : 0 ≤ p ∧ p < P
  · exact rprcAt_any P T G p f w h hP hf
  · have hb : Below w.heap.size w (w.alloc (.cells #[.int .i64 P, .int .i64 T, .int .i64 G] 23)) := (Below.refl _ _).alloc (Nat.le_refl _) _
    have e : wd 20 P 264 p f = -1 := by unfold wd; rw [if_neg (fun hh => h ⟨hh.1, hh.2.1⟩)]
    rw [e]
    by_cases h0 : p < 0
    · clear h e
      go_enter Tryz.func136, Tryz.ntmps136
      go_wp2_with fail
      go_ret
      exact ⟨rfl, hb⟩
    · have d1 : decide (p < 0) = false := decide_eq_false h0
      have h1 : P ≤ p := by omega
      clear h e
      go_enter Tryz.func136, Tryz.ntmps136
      go_wp2_with fail
      go_ret
      exact ⟨rfl, hb⟩
theorem rthr_any (P T G t f : Int) (w : World) (hp : 0 ≤ P ∧ P ≤ 64) (ht : 0 ≤ t ∧ t ≤ 65536) (hf : 0 ≤ f ∧ f < 3) : Calls Tryz.prog 235 #[.agg #[.int .i64 P, .int .i64 T, .int .i64 G], .int .i64 t, .int .i64 f] w fun e w' => e = .returned (.int .i64 (20 + 264 * P + 3 * t + f)) ∧ Below w.heap.size w w' := by
  have hb : Below w.heap.size w (w.alloc (.cells #[.int .i64 P, .int .i64 T, .int .i64 G] 23)) := (Below.refl _ _).alloc (Nat.le_refl _) _
  go_enter Tryz.func235, Tryz.ntmps235
  go_wp2_with fail
  go_ret
  exact ⟨ret_int (by first | rfl | omega | (unfold wrap64; omega)), hb⟩
theorem rthrAt_all (P T G t f : Int) (w : World) (hp : 0 ≤ P ∧ P ≤ 64) (hT : T ≤ 65536) (hf : 0 ≤ f ∧ f < 3) :
    Calls Tryz.prog 204 #[.agg #[.int .i64 P, .int .i64 T, .int .i64 G], .int .i64 t, .int .i64 f] w fun e w' => e = .returned (.int .i64 (wd (20 + P * 264) T 3 t f)) ∧ Below w.heap.size w w' := by
  have hb : Below w.heap.size w (w.alloc (.cells #[.int .i64 P, .int .i64 T, .int .i64 G] 23)) := (Below.refl _ _).alloc (Nat.le_refl _) _
  by_cases hg : 0 ≤ t ∧ t < T
  · have e : 20 + 264 * P + 3 * t + f = wd (20 + P * 264) T 3 t f := by unfold wd; rw [if_pos ⟨hg.1, hg.2, by omega, by omega⟩]; omega
    have hT := rthr_any P T G t f (w.alloc (.cells #[.int .i64 P, .int .i64 T, .int .i64 G] 23)) hp (by omega) hf
    rw [e] at hT
    generalize wd (20 + P * 264) T 3 t f = nt at *
    clear e
    have hX : Hid (Blk (w.alloc (.cells #[.int .i64 P, .int .i64 T, .int .i64 G] 23)) w.heap.size #[.int .i64 P, .int .i64 T, .int .i64 G] 23) := Blk.new _ _ _
    have HB : Hid (Below w.heap.size w (w.alloc (.cells #[.int .i64 P, .int .i64 T, .int .i64 G] 23))) := hb
    have hsz := World.size_alloc w (.cells #[.int .i64 P, .int .i64 T, .int .i64 G] 23)
    have d1 : decide (t < 0) = false := decide_eq_false (by omega)
    have d2 : decide (T ≤ t) = false := decide_eq_false (by omega)
    clear hb
    go_enter Tryz.func204, Tryz.ntmps204
    go_wp2_with fail
    go_at_call 235; refine hT.mono ?_; rintro e w1 ⟨rfl, h1⟩
    have h2 := HB.out.trans (h1.mono HB.out.size)
    clear hT h1
    go_wp2_with fail
    go_ret
    exact ⟨rfl, h2⟩
  · have e : wd (20 + P * 264) T 3 t f = -1 := by unfold wd; rw [if_neg (fun h => hg ⟨h.1, h.2.1⟩)]
    rw [e]
    by_cases h0 : t < 0
    · clear hg e
      go_enter Tryz.func204, Tryz.ntmps204
      go_wp2_with fail
      go_ret
      exact ⟨rfl, hb⟩
    · have d1 : decide (t < 0) = false := decide_eq_false h0
      have h1 : T ≤ t := by omega
      clear hg e
      go_enter Tryz.func204, Tryz.ntmps204
      go_wp2_with fail
      go_ret
      exact ⟨rfl, hb⟩
/-- A processor or a thread as a word. -/
def ilw (p : Int) : Int := IntKind.u64.wrap (IntKind.u64.wrap p + 1)
theorem ilw_bd (g : Int) : 0 ≤ ilw g ∧ ilw g ≤ 18446744073709551615 := by
  unfold ilw
  generalize IntKind.u64.wrap g + 1 = z
  simp [IntKind.wrap, IntKind.bits, IntKind.signed]
  omega
theorem ilw_small (g : Int) (h : 0 ≤ g ∧ g ≤ 1000000) : ilw g = g + 1 := by
  unfold ilw
  simp [IntKind.wrap, IntKind.bits, IntKind.signed]
  omega
end Go.Proofs.YtcjidigpdecdlaaGreat
