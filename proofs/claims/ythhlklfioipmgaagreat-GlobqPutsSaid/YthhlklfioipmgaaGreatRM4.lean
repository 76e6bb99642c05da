/- The machines that get a goroutine and give one back: how the lock is had and given back, and the machine that gives one back. -/
import Derived.Test.YthhlklfioipmgaaGreatRM3
namespace Go.Proofs.YthhlklfioipmgaaGreat
open Go Go.RowKit
set_option linter.unusedVariables false
set_option maxRecDepth 100000
set_option linter.unusedSimpArgs false


/-- A release that is to be run. -/
structure RelM (w : World) (x q g : Nat) (who sv ow : Int) : Prop where
  m : Blk w x (relCells who (some ⟨q, 0, none⟩) sv) 236
  com : Blk w q (comCells 2 0 ow 0 0 false .nilIface (.func (.func 180) #[] #[.pointer (some ⟨g, 0, none⟩)]) false false) 183
  box : Blk w g #[.func (.func 248) #[.pointer (some ⟨x, 0, none⟩)] #[]] 1
  o1 : x < q
  o2 : x < g
  ne : g ≠ q
/-- An acquire that is to be run. -/
structure AcqM (w : World) (x q : Nat) (who tk sv ow : Int) : Prop where
  m : Blk w x (acqCells who (some ⟨q, 0, none⟩) sv ow 0 false) 211
  com : Blk w q (comCells 4 0 tk 0 1 false .nilIface (.func (.func 192) #[.pointer (some ⟨x, 0, none⟩)] #[]) false false) 183
  o1 : x < q
theorem RelM.but {w w' : World} {x q g c : Nat} {who sv ow : Int} (h : RelM w x q g who sv ow) (hb : But [c] w w') (h1 : c < x) : RelM w' x q g who sv ow :=
  ⟨h.m.but hb (by simp; omega), h.com.but hb (by have := h.o1; simp; omega), h.box.but hb (by have := h.o2; simp; omega), h.o1, h.o2, h.ne⟩
theorem AcqM.but {w w' : World} {x q c : Nat} {who tk sv ow : Int} (h : AcqM w x q who tk sv ow) (hb : But [c] w w') (h1 : c < x) : AcqM w' x q who tk sv ow :=
  ⟨h.m.but hb (by simp; omega), h.com.but hb (by have := h.o1; simp; omega), h.o1⟩
theorem CameBox.before {a w w' : World} {c q g : Nat} {cs : Array Value} {com : Value → Array Value} {fv : Value} {T : TypeId} (h : CameBox w w' c cs T com fv q g) (hb : But [c] a w) : CameBox a w' c cs T com fv q g :=
  ⟨⟨Nat.le_trans hb.size h.at'.fresh, h.at'.own, h.at'.com, hb.trans h.at'.but⟩, Nat.le_trans hb.size h.fresh, h.box, h.ne⟩

end Go.Proofs.YthhlklfioipmgaaGreat
