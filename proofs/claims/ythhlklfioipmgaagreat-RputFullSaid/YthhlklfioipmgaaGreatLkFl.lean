/- The machines of locks, as plain data and in memory; the reference's routines of locks. -/
import Derived.Test.YthhlklfioipmgaaGreatRun_acq
import Derived.Test.YthhlklfioipmgaaGreatRun_rel
import Derived.Test.YthhlklfioipmgaaGreatLock2
namespace Go.Proofs.YthhlklfioipmgaaGreat
open Go Go.RowKit
set_option linter.unusedVariables false
set_option maxRecDepth 100000
set_option linter.unusedSimpArgs false

/-- A machine that acquires a lock. -/
inductive AcqT where
  | fresh
  | wait (t : Int)
  | has (t : Int)
  | over (t : Int)
def acqPM (tk sv ow who : Int) : PM AcqT where
  ax := fun
    | .fresh => some (axAd tk 1)
    | .wait _ => some (axLd sv)
    | .has _ => some (axSt ow (who + 1))
    | .over _ => none
  nx := fun
    | .fresh, v => .wait (turnOf v)
    | .wait t, v => if v = t then .has t else .wait t
    | .has t, _ => .over t
    | .over t, _ => .over t
def AcqT.turn : AcqT → Int
  | .fresh => 0
  | .wait t => t
  | .has t => t
  | .over t => t
def AcqT.known : AcqT → Bool
  | .fresh => false
  | _ => true
def acqFl (who sv ow : Int) : Fl AcqT where
  T := 211
  cells := fun t nx => acqCells who nx sv ow t.turn t.known
  fol := fun
    | .fresh => .told 192
    | .wait _ => .told 216
    | .has _ => .nil
    | .over _ => .nil
  ok := fun _ => True
theorem ent_draw : Ent 192 := fun args w => by kernel_rfl
theorem ent_serve : Ent 216 := fun args w => by kernel_rfl
theorem ent_pass : Ent 248 := fun args w => by kernel_rfl
theorem acq_laws (tk sv ow who : Int) (hw : 0 ≤ who ∧ who ≤ 1000000) : (acqFl who sv ow).Laws (acqPM tk sv ow who) Rd.nil who where
  c0 := fun t nx => rfl
  c1 := fun t nx => rfl
  set := fun t nx nx' => rfl
  axok := fun t a _ h => by
    cases t <;> cases h
    · exact axAd_ok _ _ (by omega)
    · exact axLd_ok _
    · exact axSt_ok _ _ (by omega)
  ents := fun t a h => by
    cases t <;> cases h
    · exact ent_draw
    · exact ent_serve
    · exact trivial
  ok := fun _ _ _ _ _ _ => trivial
  fol := fun W x t a v _ h hv hB _ _ => by
    cases t <;> cases h
    · refine (draw_any W x who sv ow 0 v none false hB hv).mono ?_
      rintro e w' ⟨hu, q, hC⟩
      exact ⟨hu, Came.of_at hC⟩
    · rename_i t _
      by_cases he : v = t
      · subst he
        have : (acqPM tk sv ow who).nx (.wait v) v = .has v := if_pos rfl
        rw [this]
        refine (serve_has W x who sv ow v none true hB hw).mono ?_
        rintro e w' ⟨hu, q, g, hC⟩
        exact ⟨hu, Came.of_box hC (fun _ h => by cases h) rfl rfl rfl⟩
      · have : (acqPM tk sv ow who).nx (.wait t) v = .wait t := if_neg he
        rw [this]
        refine (serve_not W x who sv ow t v none true hB he).mono ?_
        rintro e w' ⟨hu, q, hC⟩
        exact ⟨hu, Came.of_at hC⟩
    · exact ⟨hB, But.refl _ _⟩

/-- A machine that releases a lock. -/
inductive RelT where
  | fresh
  | pass
  | over
def relPM (sv ow : Int) : PM RelT where
  ax := fun
    | .fresh => some (axSt ow 0)
    | .pass => some (axAd sv 1)
    | .over => none
  nx := fun
    | .fresh, _ => .pass
    | .pass, _ => .over
    | .over, _ => .over
def relFl (who sv : Int) : Fl RelT where
  T := 236
  cells := fun t nx => relCells who nx sv
  fol := fun
    | .fresh => .untold 248
    | .pass => .nil
    | .over => .nil
  ok := fun _ => True
theorem rel_laws (sv ow who : Int) : (relFl who sv).Laws (relPM sv ow) Rd.nil who where
  c0 := fun t nx => rfl
  c1 := fun t nx => rfl
  set := fun t nx nx' => rfl
  axok := fun t a _ h => by
    cases t <;> cases h
    · exact axSt_ok _ _ (by omega)
    · exact axAd_ok _ _ (by omega)
  ents := fun t a h => by
    cases t <;> cases h
    · exact ent_pass
    · exact trivial
  ok := fun _ _ _ _ _ _ => trivial
  fol := fun W x t a v _ h hv hB _ _ => by
    cases t <;> cases h
    · refine (pass_any W x who sv none hB).mono ?_
      rintro e w' ⟨hu, q, g, hC⟩
      exact ⟨hu, Came.of_box hC (fun _ h => by cases h) rfl rfl rfl⟩
    · exact ⟨hB, But.refl _ _⟩

theorem lock_fresh (w : World) (c : Nat) (lk who : Int) :
    Calls Tryz.prog 174 #[.pointer (some ⟨c, 0, none⟩), .int .i64 lk, .int .i64 who] w fun e w' => ∃ x L, e = .returned (.pointer (some ⟨x, 0, none⟩)) ∧ ((acqFl who (wd 0 2 3 lk 1) (wd 0 2 3 lk 2)).I (acqPM (wd 0 2 3 lk 0) (wd 0 2 3 lk 1) (wd 0 2 3 lk 2) who)) w' x .fresh L ∧ Below w.heap.size w w' ∧ w.heap.size ≤ x ∧ (∀ k ∈ L, w.heap.size ≤ k) ∧ ∃ a, w'.cell? ⟨x, 1, none⟩ = some (.pointer (some a)) := by
  refine (lock_new w c lk who).mono ?_
  rintro e w' ⟨x, q, rfl, h1, h2, h3, h4, h5, h6⟩
  exact ⟨x, [x, q], rfl, ⟨trivial, q, [q], h1, .told _ h2, by simp; omega, rfl⟩, h3, h4, by intro k hk; simp at hk; omega, _, h1.cell 1 rfl⟩
theorem rel_fresh (w : World) (c : Nat) (lk who : Int) :
    Calls Tryz.prog 236 #[.pointer (some ⟨c, 0, none⟩), .int .i64 lk, .int .i64 who] w fun e w' => ∃ x L, e = .returned (.pointer (some ⟨x, 0, none⟩)) ∧ ((relFl who (wd 0 2 3 lk 1)).I (relPM (wd 0 2 3 lk 1) (wd 0 2 3 lk 2))) w' x .fresh L ∧ Below w.heap.size w w' ∧ w.heap.size ≤ x ∧ (∀ k ∈ L, w.heap.size ≤ k) ∧ ∃ a, w'.cell? ⟨x, 1, none⟩ = some (.pointer (some a)) := by
  refine (rel_new w c lk who).mono ?_
  rintro e w' ⟨x, q, g, rfl, h1, h2, h3, h4, h5, h6, h7, h8, h9⟩
  exact ⟨x, [x, q, g], rfl, ⟨trivial, q, [q, g], h1, .box _ g (fun _ h => by cases h) h2 h3 h9, by simp; omega, rfl⟩, h4, h5, by intro k hk; simp at hk; omega, _, h1.cell 1 rfl⟩

/-- How many rounds a routine may take. -/
def left' (m x : Nat) (w : World) : Nat := match w.cell? ⟨x, 1, none⟩, w.cell? ⟨x, 2, none⟩ with
  | some (.int _ u), some (.bool st) => (m - u.toNat) + (if st = true then 0 else 1)
  | _, _ => 0
theorem RunOn.left {w : World} {x : Nat} {A : Option Addr} {cap m : Nat} {g : Nat → Int} {r : Rn} (h : RunOn w x A cap m g r) : left' m x w = (m - r.used) + (if r.stop = true then 0 else 1) := by
  unfold left'
  rw [h.blk.cell 1 (v := .int .i64 r.used) rfl, h.blk.cell 2 (v := .bool r.stop) rfl]
  simp
/-- A routine that keeps step: how many rounds it may take. -/
theorem rj_left {w : World} {x : Nat} {A : Option Addr} {cap m : Nat} {g : Nat → Int} {σ : Type} {M : PM σ} {s0 t : σ} {j : Nat} {Q : σ → Prop} (h : RunOn w x A cap m g (M.rj s0 g m j)) (hS : Syn M s0 g m j t Q) : left' m x w = m + 1 - j := by
  rw [h.left]
  rw [rj_stop hS]
  by_cases hj : j ≤ m
  · have : (M.rj s0 g m j).used = j := by unfold PM.rj; rw [if_pos hj]
    rw [this]
    simp [show ¬ m < j by omega]
    omega
  · have : (M.rj s0 g m j).used = m := by unfold PM.rj; rw [if_neg hj]; unfold PM.rn; cases M.ax (M.run s0 g m) <;> rfl
    rw [this]
    simp [show m < j by omega]
    omega

/-- A part of a machine that acquires a lock. -/
structure AcqIn {σ : Type} (M : PM σ) (lk who : Int) (emb : AcqT → σ) : Prop where
  f : M.ax (emb .fresh) = some (axAd (3 * lk) 1)
  w : ∀ t, M.ax (emb (.wait t)) = some (axLd (3 * lk + 1))
  h : ∀ t, M.ax (emb (.has t)) = some (axSt (3 * lk + 2) (who + 1))
  nf : ∀ v, M.nx (emb .fresh) v = emb (.wait (turnOf v))
  nw : ∀ t v, M.nx (emb (.wait t)) v = if v = t then emb (.has t) else emb (.wait t)
  nh : ∀ t v, M.nx (emb (.has t)) v = emb (.over t)

/-- A part of a machine that releases a lock. -/
structure RelIn {σ : Type} (M : PM σ) (lk : Int) (emb : RelT → σ) : Prop where
  f : M.ax (emb .fresh) = some (axSt (3 * lk + 2) 0)
  p : M.ax (emb .pass) = some (axAd (3 * lk + 1) 1)
  nf : ∀ v, M.nx (emb .fresh) v = emb .pass
  np : ∀ v, M.nx (emb .pass) v = emb .over
end Go.Proofs.YthhlklfioipmgaaGreat
