/- The machines of locks, as plain data and in memory; the reference's routines of locks. -/
import Derived.Test.YtcjidigpdecdlaaGreatRun_acq
import Derived.Test.YtcjidigpdecdlaaGreatRun_rel
import Derived.Test.YtcjidigpdecdlaaGreatLock2
namespace Go.Proofs.YtcjidigpdecdlaaGreat
open Go Go.RowKit
set_option linter.unusedVariables false
set_option maxRecDepth 100000
set_option linter.unusedSimpArgs false

/-- A machine that acquires a lock. -/
inductive AcqT where
  | fresh
  | wait (t : Int)
  | has (t : Int)
  | over (t : Int)
def acqPM (tk sv ow who : Int) : PM AcqT where
  ax := fun
    | .fresh => some (axAd tk 1)
    | .wait _ => some (axLd sv)
    | .has _ => some (axSt ow (who + 1))
    | .over _ => none
  nx := fun
    | .fresh, v => .wait (turnOf v)
    | .wait t, v => if v = t then .has t else .wait t
    | .has t, _ => .over t
    | .over t, _ => .over t
def AcqT.turn : AcqT → Int
  | .fresh => 0
  | .wait t => t
  | .has t => t
  | .over t => t
def AcqT.known : AcqT → Bool
  | .fresh => false
  | _ => true
def acqFl (who sv ow : Int) : Fl AcqT where
  T := 294
  cells := fun t nx => acqCells who nx sv ow t.turn t.known
  fol := fun
    | .fresh => .told 222
    | .wait _ => .told 261
    | .has _ => .nil
    | .over _ => .nil
  ok := fun _ => True
theorem ent_draw : Ent 222 := fun args w => by kernel_rfl
theorem ent_serve : Ent 261 := fun args w => by kernel_rfl
theorem ent_pass : Ent 262 := fun args w => by kernel_rfl
theorem acq_laws (tk sv ow who : Int) (hw : 0 ≤ who ∧ who ≤ 1000000) : (acqFl who sv ow).Laws (acqPM tk sv ow who) Rd.nil who where
  c0 := fun t nx => rfl
  c1 := fun t nx => rfl
  set := fun t nx nx' => rfl
  axok := fun t a _ h => by
    cases t <;> cases h
    · exact axAd_ok _ _ (by omega)
    · exact axLd_ok _
    · exact axSt_ok _ _ (by omega)
  ents := fun t a h => by
    cases t <;> cases h
    · exact ent_draw
    · exact ent_serve
    · exact trivial
  ok := fun _ _ _ _ _ _ => trivial
  fol := fun W x t a v _ h hv hB _ _ => by
    cases t <;> cases h
    · refine (draw_any W x who sv ow 0 v none false hB hv).mono ?_
      rintro e w' ⟨hu, q, hC⟩
      exact ⟨hu, Came.of_at hC⟩
    · rename_i t _
      by_cases he : v = t
      · subst he
        have : (acqPM tk sv ow who).nx (.wait v) v = .has v := if_pos rfl
        rw [this]
        refine (serve_has W x who sv ow v none true hB hw).mono ?_
        rintro e w' ⟨hu, q, g, hC⟩
        exact ⟨hu, Came.of_box hC (fun _ h => by cases h) rfl rfl rfl⟩
      · have : (acqPM tk sv ow who).nx (.wait t) v = .wait t := if_neg he
        rw [this]
        refine (serve_not W x who sv ow t v none true hB he).mono ?_
        rintro e w' ⟨hu, q, hC⟩
        exact ⟨hu, Came.of_at hC⟩
    · exact ⟨hB, But.refl _ _⟩

/-- A machine that releases a lock. -/
inductive RelT where
  | fresh
  | pass
  | over
def relPM (sv ow : Int) : PM RelT where
  ax := fun
    | .fresh => some (axSt ow 0)
    | .pass => some (axAd sv 1)
    | .over => none
  nx := fun
    | .fresh, _ => .pass
    | .pass, _ => .over
    | .over, _ => .over
def relFl (who sv : Int) : Fl RelT where
  T := 305
  cells := fun t nx => relCells who nx sv
  fol := fun
    | .fresh => .untold 262
    | .pass => .nil
    | .over => .nil
  ok := fun _ => True
theorem rel_laws (sv ow who : Int) : (relFl who sv).Laws (relPM sv ow) Rd.nil who where
  c0 := fun t nx => rfl
  c1 := fun t nx => rfl
  set := fun t nx nx' => rfl
  axok := fun t a _ h => by
    cases t <;> cases h
    · exact axSt_ok _ _ (by omega)
    · exact axAd_ok _ _ (by omega)
  ents := fun t a h => by
    cases t <;> cases h
    · exact ent_pass
    · exact trivial
  ok := fun _ _ _ _ _ _ => trivial
  fol := fun W x t a v _ h hv hB _ _ => by
    cases t <;> cases h
    · refine (pass_any W x who sv none hB).mono ?_
      rintro e w' ⟨hu, q, g, hC⟩
      exact ⟨hu, Came.of_box hC (fun _ h => by cases h) rfl rfl rfl⟩
    · exact ⟨hB, But.refl _ _⟩

theorem lock_fresh (w : World) (c : Nat) (lk who : Int) :
    Calls Tryz.prog 182 #[.pointer (some ⟨c, 0, none⟩), .int .i64 lk, .int .i64 who] w fun e w' => ∃ x L, e = .returned (.pointer (some ⟨x, 0, none⟩)) ∧ ((acqFl who (wd 0 2 3 lk 1) (wd 0 2 3 lk 2)).I (acqPM (wd 0 2 3 lk 0) (wd 0 2 3 lk 1) (wd 0 2 3 lk 2) who)) w' x .fresh L ∧ Below w.heap.size w w' ∧ w.heap.size ≤ x ∧ (∀ k ∈ L, w.heap.size ≤ k) ∧ ∃ a, w'.cell? ⟨x, 1, none⟩ = some (.pointer (some a)) := by
  refine (lock_new w c lk who).mono ?_
  rintro e w' ⟨x, q, rfl, h1, h2, h3, h4, h5, h6⟩
  exact ⟨x, [x, q], rfl, ⟨trivial, q, [q], h1, .told _ h2, by simp; omega, rfl⟩, h3, h4, by intro k hk; simp at hk; omega, _, h1.cell 1 rfl⟩
theorem rel_fresh (w : World) (c : Nat) (lk who : Int) :
    Calls Tryz.prog 244 #[.pointer (some ⟨c, 0, none⟩), .int .i64 lk, .int .i64 who] w fun e w' => ∃ x L, e = .returned (.pointer (some ⟨x, 0, none⟩)) ∧ ((relFl who (wd 0 2 3 lk 1)).I (relPM (wd 0 2 3 lk 1) (wd 0 2 3 lk 2))) w' x .fresh L ∧ Below w.heap.size w w' ∧ w.heap.size ≤ x ∧ (∀ k ∈ L, w.heap.size ≤ k) ∧ ∃ a, w'.cell? ⟨x, 1, none⟩ = some (.pointer (some a)) := by
  refine (rel_new w c lk who).mono ?_
  rintro e w' ⟨x, q, g, rfl, h1, h2, h3, h4, h5, h6, h7, h8, h9⟩
  exact ⟨x, [x, q, g], rfl, ⟨trivial, q, [q, g], h1, .box _ g (fun _ h => by cases h) h2 h3 h9, by simp; omega, rfl⟩, h4, h5, by intro k hk; simp at hk; omega, _, h1.cell 1 rfl⟩

/-- How many rounds a routine may take. -/
def left' (m x : Nat) (w : World) : Nat := match w.cell? ⟨x, 1, none⟩, w.cell? ⟨x, 2, none⟩ with
  | some (.int _ u), some (.bool st) => (m - u.toNat) + (if st = true then 0 else 1)
  | _, _ => 0
theorem RunOn.left {w : World} {x : Nat} {A : Option Addr} {cap m : Nat} {g : Nat → Int} {r : Rn} (h : RunOn w x A cap m g r) : left' m x w = (m - r.used) + (if r.stop = true then 0 else 1) := by
  unfold left'
  rw [h.blk.cell 1 (v := .int .i64 r.used) rfl, h.blk.cell 2 (v := .bool r.stop) rfl]
  simp
/-- A routine that keeps step: how many rounds it may take. -/
theorem rj_left {w : World} {x : Nat} {A : Option Addr} {cap m : Nat} {g : Nat → Int} {σ : Type} {M : PM σ} {s0 t : σ} {j : Nat} {Q : σ → Prop} (h : RunOn w x A cap m g (M.rj s0 g m j)) (hS : Syn M s0 g m j t Q) : left' m x w = m + 1 - j := by
  rw [h.left]
  rw [rj_stop hS]
  by_cases hj : j ≤ m
  · have : (M.rj s0 g m j).used = j := by unfold PM.rj; rw [if_pos hj]
    rw [this]
    simp [show ¬ m < j by omega]
    omega
  · have : (M.rj s0 g m j).used = m := by unfold PM.rj; rw [if_neg hj]; unfold PM.rn; cases M.ax (M.run s0 g m) <;> rfl
    rw [this]
    simp [show m < j by omega]
    omega

/-- A part of a machine that acquires a lock. -/
structure AcqIn {σ : Type} (M : PM σ) (lk who : Int) (emb : AcqT → σ) : Prop where
  f : M.ax (emb .fresh) = some (axAd (3 * lk) 1)
  w : ∀ t, M.ax (emb (.wait t)) = some (axLd (3 * lk + 1))
  h : ∀ t, M.ax (emb (.has t)) = some (axSt (3 * lk + 2) (who + 1))
  nf : ∀ v, M.nx (emb .fresh) v = emb (.wait (turnOf v))
  nw : ∀ t v, M.nx (emb (.wait t)) v = if v = t then emb (.has t) else emb (.wait t)
  nh : ∀ t v, M.nx (emb (.has t)) v = emb (.over t)

set_option maxHeartbeats 2000000 in
theorem syn_acquire {σ : Type} {M : PM σ} {lk who : Int} {emb : AcqT → σ} (hE : AcqIn M lk who emb) (hlk : 0 ≤ lk ∧ lk ≤ 1) (hwho : 0 ≤ who ∧ who ≤ 300)
    {w : World} {x : Nat} {A : Option Addr} {cap m : Nat} {g : Nat → Int} {s0 : σ} {j : Nat} {Q : σ → Prop} (hR : RunOn w x A cap m g (M.rj s0 g m j)) (hS : Syn M s0 g m j (emb .fresh) Q) (hb : ∀ j, j < m → 0 ≤ g j ∧ g j ≤ 18446744073709551615) :
    Calls Tryz.prog 129 #[.pointer (some ⟨x, 0, none⟩), .int .i64 lk, .int .i64 who] w fun e w' => (∃ u, e = .returned u) ∧ ∃ j' t, RunOn w' x A cap m g (M.rj s0 g m j') ∧ Syn M s0 g m j' (emb (.over t)) (fun r => Q r ∨ ∃ p, (∀ t, p ≠ .over t) ∧ r = emb p) ∧ But [x] w w' ∧ j ≤ j' := by
  have hA := syn_add hR hS hb (3 * lk) 1 (fun _ => hE.f)
  have w1' : IntKind.u64.wrap who = who := wrap_u64 (by omega)
  have w2' : IntKind.u64.wrap (who + 1) = who + 1 := wrap_u64 (by omega)
  have HE : Hid (AcqIn M lk who emb) := hE
  have HBD : Hid (∀ j, j < m → 0 ≤ g j ∧ g j ≤ 18446744073709551615) := hb
  have HT : Hid (∀ a : Int, 0 ≤ a ∧ a ≤ 18446744073709551615 → (IntKind.u64.wrap (a + 4294967295)).tmod 4294967296 = turnOf a) := fun a ha => by
    have e1 : IntKind.u64.wrap (a + 4294967295) = (a + 4294967295) % 18446744073709551616 := by simp [IntKind.wrap, IntKind.bits, IntKind.signed]
    rw [e1, Int.tmod_eq_emod_of_nonneg (by omega)]
    unfold turnOf
    omega
  clear hR hS hE hb
  go_enter Tryz.func129, Tryz.ntmps129
  go_wp2_with fail
  go_at_call 135; refine hA.mono ?_; rintro e w2 ⟨a, rfl, hK⟩
  have HR2 : Hid (RunOn w2 x A cap m g (M.rj s0 g m (j + 1))) := hK.run
  have HS2 : Hid (Syn M s0 g m (j + 1) (emb (.wait (turnOf a))) (fun r => Q r ∨ ∃ p, (∀ t, p ≠ .over t) ∧ r = emb p)) := by
    have := hK.syn
    rw [HE.out.nf] at this
    exact this.weak (fun r hr => by rcases hr with rfl | hr; exact .inr ⟨_, (fun t h => by cases h), rfl⟩; exact .inl hr)
  have HB2 : Hid (But [x] w w2) := hK.but
  have ht := HT.out a hK.bd
  generalize hz : IntKind.u64.wrap (a + 4294967295) = z at *
  have hzb : 0 ≤ z := by
    have e1 : IntKind.u64.wrap (a + 4294967295) = (a + 4294967295) % 18446744073709551616 := by simp [IntKind.wrap, IntKind.bits, IntKind.signed]
    rw [← hz, e1]; omega
  have hzc : z.tmod 4294967296 = turnOf a := ht
  generalize turnOf a = t at *
  clear hA hK ht HT
  go_wp2_with fail
  go_loopw [18] (fun _ wr => ∃ (k : Nat), Hid (RunOn wr x A cap m g (M.rj s0 g m k)) ∧ Hid (Syn M s0 g m k (emb (.wait t)) (fun r => Q r ∨ ∃ p, (∀ t, p ≠ .over t) ∧ r = emb p)) ∧ Hid (But [x] w wr) ∧ Hid (j ≤ k)) (fun _ wr => left' m x wr)
  case atStart => exact ⟨j + 1, HR2, HS2, HB2, (Nat.le_succ j : j ≤ j + 1)⟩
  case round =>
    clear HR2 HS2 HB2
    obtain ⟨k, HR, HS, HB, HJ⟩ := hrel
    have c2 := HR.out.blk.cell 2 (v := .bool (M.rj s0 g m k).stop) rfl
    rw [rj_stop HS.out] at c2
    by_cases hk : m < k
    · rw [decide_eq_true hk] at c2
      have HX : Hid (m < k) := hk
      clear hk
      go_wp2_with fail
      go_ret
      exact ⟨⟨_, rfl⟩, k, t, HR.out, HS.out.as (fun h => absurd HX.out (by omega)), HB.out, HJ.out⟩
    · rw [decide_eq_false hk] at c2
      have HX : Hid (k ≤ m) := (by omega : k ≤ m)
      have hL := syn_load HR.out HS.out HBD.out (3 * lk + 1) (fun _ => HE.out.w t)
      have HLF : Hid (left' m x wr = m + 1 - k) := rj_left HR.out HS.out
      clear hk
      go_wp2_with fail
      go_at_call 122; refine hL.mono ?_; rintro e w3 ⟨v, rfl, hK⟩
      have HR3 : Hid (RunOn w3 x A cap m g (M.rj s0 g m (k + 1))) := hK.run
      have HS3 : Hid (Syn M s0 g m (k + 1) (if v = t then emb (.has t) else emb (.wait t)) (fun r => Q r ∨ ∃ p, (∀ t, p ≠ .over t) ∧ r = emb p)) := by
        have := hK.syn
        rw [HE.out.nw] at this
        exact this.weak (fun r hr => by rcases hr with rfl | hr; exact .inr ⟨_, (fun t h => by cases h), rfl⟩; exact hr)
      have HB3 : Hid (But [x] w w3) := HB.out.trans hK.but
      have k2 := HR3.out.blk.cell 2 (v := .bool (M.rj s0 g m (k + 1)).stop) rfl
      rw [rj_stop HS3.out] at k2
      clear hL hK c2 HR HS HB
      by_cases hv : v = t
      · subst hv
        have HS4 : Hid (Syn M s0 g m (k + 1) (emb (.has v)) (fun r => Q r ∨ ∃ p, (∀ t, p ≠ .over t) ∧ r = emb p)) := by have := HS3.out; rw [if_pos rfl] at this; exact this
        by_cases hm : m < k + 1
        · rw [decide_eq_true hm] at k2
          have HX2 : Hid (m < k + 1) := hm
          clear hm HS3
          go_wp2_with fail
          go_roundw
          case rel => exact ⟨k + 1, HR3, HS4.out.as (fun h => absurd HX2.out (by omega)), HB3, (Nat.le_succ_of_le HJ.out : j ≤ k + 1)⟩
          case measure => have hx := HX.out; rw [rj_left HR3.out HS4.out, HLF.out]; omega
        · rw [decide_eq_false hm] at k2
          have hSt := syn_store HR3.out HS4.out HBD.out (3 * lk + 2) (who + 1) (fun _ => HE.out.h v)
          clear hm HS3
          go_wp2_with fail
          go_at_call 96; refine hSt.mono ?_; rintro e w4 ⟨⟨u, rfl⟩, v4, hK⟩
          have HF : Hid (RunOn w4 x A cap m g (M.rj s0 g m (k + 1 + 1)) ∧ Syn M s0 g m (k + 1 + 1) (emb (.over v)) (fun r => Q r ∨ ∃ p, (∀ t, p ≠ .over t) ∧ r = emb p) ∧ But [x] w w4) := by
            refine ⟨hK.run, ?_, HB3.out.trans hK.but⟩
            have := hK.syn
            rw [HE.out.nh] at this
            exact this.weak (fun r hr => by rcases hr with rfl | hr; exact .inr ⟨_, (fun t h => by cases h), rfl⟩; exact hr)
          clear hSt hK k2
          go_wp2_with fail
          go_ret
          exact ⟨⟨_, rfl⟩, k + 1 + 1, v, HF.out.1, HF.out.2.1, HF.out.2.2, by have := HJ.out; omega⟩
      · have hd : decide (v = t) = false := decide_eq_false hv
        have HS4 : Hid (Syn M s0 g m (k + 1) (emb (.wait t)) (fun r => Q r ∨ ∃ p, (∀ t, p ≠ .over t) ∧ r = emb p)) := by have := HS3.out; rw [if_neg hv] at this; exact this
        generalize decide (m < k + 1) = zz at k2
        clear HS3
        go_wp2_with fail
        go_roundw
        case rel => exact ⟨k + 1, HR3, HS4, HB3, (Nat.le_succ_of_le HJ.out : j ≤ k + 1)⟩
        case measure => have hx := HX.out; rw [rj_left HR3.out HS4.out, HLF.out]; omega

/-- A part of a machine that releases a lock. -/
structure RelIn {σ : Type} (M : PM σ) (lk : Int) (emb : RelT → σ) : Prop where
  f : M.ax (emb .fresh) = some (axSt (3 * lk + 2) 0)
  p : M.ax (emb .pass) = some (axAd (3 * lk + 1) 1)
  nf : ∀ v, M.nx (emb .fresh) v = emb .pass
  np : ∀ v, M.nx (emb .pass) v = emb .over
theorem syn_release {σ : Type} {M : PM σ} {lk : Int} {emb : RelT → σ} (hE : RelIn M lk emb) (hlk : 0 ≤ lk ∧ lk ≤ 1)
    {w : World} {x : Nat} {A : Option Addr} {cap m : Nat} {g : Nat → Int} {s0 : σ} {j : Nat} {Q : σ → Prop} (hR : RunOn w x A cap m g (M.rj s0 g m j)) (hS : Syn M s0 g m j (emb .fresh) Q) (hb : ∀ j, j < m → 0 ≤ g j ∧ g j ≤ 18446744073709551615) :
    Calls Tryz.prog 131 #[.pointer (some ⟨x, 0, none⟩), .int .i64 lk] w fun e w' => (∃ u, e = .returned u) ∧ ∃ j', RunOn w' x A cap m g (M.rj s0 g m j') ∧ Syn M s0 g m j' (emb .over) (fun r => Q r ∨ r = emb .fresh ∨ r = emb .pass) ∧ But [x] w w' ∧ j ≤ j' := by
  have hA := syn_store hR hS hb (3 * lk + 2) 0 (fun _ => hE.f)
  have HE : Hid (RelIn M lk emb) := hE
  have HBD : Hid (∀ j, j < m → 0 ≤ g j ∧ g j ≤ 18446744073709551615) := hb
  clear hR hS hE hb
  go_enter Tryz.func131, Tryz.ntmps131
  go_wp2_with fail
  go_at_call 96; refine hA.mono ?_; rintro e w2 ⟨⟨u, rfl⟩, v2, hK⟩
  have hS2 := hK.syn
  rw [HE.out.nf] at hS2
  have hA2 := syn_add hK.run hS2 HBD.out (3 * lk + 1) 1 (fun _ => HE.out.p)
  have HB2 : Hid (But [x] w w2) := hK.but
  clear hA hK hS2
  go_wp2_with fail
  go_at_call 135; refine hA2.mono ?_; rintro e w3 ⟨v3, rfl, hK⟩
  have HF : Hid (RunOn w3 x A cap m g (M.rj s0 g m (j + 1 + 1)) ∧ Syn M s0 g m (j + 1 + 1) (emb .over) (fun r => Q r ∨ r = emb .fresh ∨ r = emb .pass) ∧ But [x] w w3) := by
    refine ⟨hK.run, ?_, HB2.out.trans hK.but⟩
    have := hK.syn
    rw [HE.out.np] at this
    exact this.weak (fun r hr => by rcases hr with rfl | rfl | hr; exact .inr (.inr rfl); exact .inr (.inl rfl); exact .inl hr)
  clear hA2 hK
  go_wp2_with fail
  go_end0
  exact ⟨⟨_, rfl⟩, j + 1 + 1, HF.out.1, HF.out.2.1, HF.out.2.2, by omega⟩
end Go.Proofs.YtcjidigpdecdlaaGreat
