/- The machines of locks, as plain data and in memory; the reference's routines of locks. -/
import Derived.Test.YthhlklfioipmgaaRun_acq
import Derived.Test.YthhlklfioipmgaaRun_rel
import Derived.Test.YthhlklfioipmgaaLock2
namespace Go.Proofs.Ythhlklfioipmgaa
open Go Go.RowKit
set_option linter.unusedVariables false
set_option maxRecDepth 100000
set_option linter.unusedSimpArgs false

/-- A machine that acquires a lock. -/
inductive AcqT where
  | fresh
  | wait (t : Int)
  | has (t : Int)
  | over (t : Int)
def acqPM (tk sv ow who : Int) : PM AcqT where
  ax := fun
    | .fresh => some (axAd tk 1)
    | .wait _ => some (axLd sv)
    | .has _ => some (axSt ow (who + 1))
    | .over _ => none
  nx := fun
    | .fresh, v => .wait (turnOf v)
    | .wait t, v => if v = t then .has t else .wait t
    | .has t, _ => .over t
    | .over t, _ => .over t
def AcqT.turn : AcqT → Int
  | .fresh => 0
  | .wait t => t
  | .has t => t
  | .over t => t
def AcqT.known : AcqT → Bool
  | .fresh => false
  | _ => true
/-- A machine that releases a lock. -/
inductive RelT where
  | fresh
  | pass
  | over
def relPM (sv ow : Int) : PM RelT where
  ax := fun
    | .fresh => some (axSt ow 0)
    | .pass => some (axAd sv 1)
    | .over => none
  nx := fun
    | .fresh, _ => .pass
    | .pass, _ => .over
    | .over, _ => .over
/-- How many rounds a routine may take. -/
def left' (m x : Nat) (w : World) : Nat := match w.cell? ⟨x, 1, none⟩, w.cell? ⟨x, 2, none⟩ with
  | some (.int _ u), some (.bool st) => (m - u.toNat) + (if st = true then 0 else 1)
  | _, _ => 0
/-- A part of a machine that acquires a lock. -/
structure AcqIn {σ : Type} (M : PM σ) (lk who : Int) (emb : AcqT → σ) : Prop where
  f : M.ax (emb .fresh) = some (axAd (3 * lk) 1)
  w : ∀ t, M.ax (emb (.wait t)) = some (axLd (3 * lk + 1))
  h : ∀ t, M.ax (emb (.has t)) = some (axSt (3 * lk + 2) (who + 1))
  nf : ∀ v, M.nx (emb .fresh) v = emb (.wait (turnOf v))
  nw : ∀ t v, M.nx (emb (.wait t)) v = if v = t then emb (.has t) else emb (.wait t)
  nh : ∀ t v, M.nx (emb (.has t)) v = emb (.over t)

/-- A part of a machine that releases a lock. -/
structure RelIn {σ : Type} (M : PM σ) (lk : Int) (emb : RelT → σ) : Prop where
  f : M.ax (emb .fresh) = some (axSt (3 * lk + 2) 0)
  p : M.ax (emb .pass) = some (axAd (3 * lk + 1) 1)
  nf : ∀ v, M.nx (emb .fresh) v = emb .pass
  np : ∀ v, M.nx (emb .pass) v = emb .over
end Go.Proofs.Ythhlklfioipmgaa
