/- What the listed tables give the walks: the words of kinds and of instructions, the kinds of words, the powers of ten. -/
import Derived.Test.YtemdhcegelddlaaDoorSh
import Derived.Lib.LaidTab
import Derived.ProofKit
import Derived.LaidMore
import Derived.OpenShut
import Derived.Stop.Joined
namespace Go.Proofs.YtemdhcegelddlaaDoor
open Go Go.ChangeShapes Go.WideShapes Go.ChangeAt Go.WideMaps Go.WideElems Go.RowKit
set_option linter.unusedVariables false
set_option linter.unusedSimpArgs false

/-- The tables, as the program's text lays them. -/
structure Tab (w : World) : Prop where
  i0 : w.cell? ⟨0, 0, none⟩ = some (.string ⟨#[101, 120, 105, 116]⟩)
  i1 : w.cell? ⟨0, 1, none⟩ = some (.string ⟨#[99, 111, 109, 112, 117, 116, 101]⟩)
  i2 : w.cell? ⟨0, 2, none⟩ = some (.string ⟨#[115, 112, 97, 119, 110]⟩)
  i3 : w.cell? ⟨0, 3, none⟩ = some (.string ⟨#[121, 105, 101, 108, 100]⟩)
  i4 : w.cell? ⟨0, 4, none⟩ = some (.string ⟨#[112, 97, 114, 107]⟩)
  i5 : w.cell? ⟨0, 5, none⟩ = some (.string ⟨#[114, 101, 97, 100, 121]⟩)
  i6 : w.cell? ⟨0, 6, none⟩ = some (.string ⟨#[115, 121, 115, 99, 97, 108, 108]⟩)
  k1 : w.cell? ⟨1, 1, none⟩ = some (.string ⟨#[115, 116, 101, 112]⟩)
  k3 : w.cell? ⟨1, 3, none⟩ = some (.string ⟨#[116, 105, 99, 107]⟩)
  c0 : w.cell? ⟨2, 0, none⟩ = some (.int .i64 1)
  c1 : w.cell? ⟨2, 1, none⟩ = some (.int .i64 1)
  c2 : w.cell? ⟨2, 2, none⟩ = some (.int .i64 1)
  c3 : w.cell? ⟨2, 3, none⟩ = some (.int .i64 1)
  c4 : w.cell? ⟨2, 4, none⟩ = some (.int .i64 2)
  c5 : w.cell? ⟨2, 5, none⟩ = some (.int .i64 3)
  c6 : w.cell? ⟨2, 6, none⟩ = some (.int .i64 4)
  c7 : w.cell? ⟨2, 7, none⟩ = some (.int .i64 2)
  p10 : Lib.TabIs Tryd.prog w pow10 .u64 Lib.pow10Tab

def theLaid : List (String × DataW Unit) := Rows.scriptInstrRow.laid
theorem own : ownKnob Tryd.prog.godebug = none := by kernel_rfl
theorem gInstr : Tryd.prog.globalNamed "turnspit/script.instrs" = some 0 := by kernel_rfl
theorem tInstr : (Tryd.prog.globals[0]?).map (·.type) = some 60 := by kernel_rfl
theorem gKinds : Tryd.prog.globalNamed "turnspit/script.kinds" = some 1 := by kernel_rfl
theorem tKinds : (Tryd.prog.globals[1]?).map (·.type) = some 98 := by kernel_rfl
theorem gWord : Tryd.prog.globalNamed "turnspit/word.kinds" = some 2 := by kernel_rfl
theorem tWord : (Tryd.prog.globals[2]?).map (·.type) = some 130 := by kernel_rfl
theorem gPow : Tryd.prog.globalNamed pow10 = some 3 := by kernel_rfl
theorem tPow : (Tryd.prog.globals[3]?).map (·.type) = some 135 := by kernel_rfl
theorem cells3 : Tryd.prog.cellsOf 3 = 1 := by kernel_rfl
theorem cells9 : Tryd.prog.cellsOf 9 = 1 := by kernel_rfl
theorem cells26 : Tryd.prog.cellsOf 26 = 1 := by kernel_rfl
theorem cells60 : Tryd.prog.cellsOf 60 = 7 := by kernel_rfl
theorem cells98 : Tryd.prog.cellsOf 98 = 5 := by kernel_rfl
theorem cells130 : Tryd.prog.cellsOf 130 = 8 := by kernel_rfl
theorem cells135 : Tryd.prog.cellsOf 135 = 20 := by kernel_rfl
theorem laidOut : laidOutB Tryd.prog = true := by kernel_rfl

set_option maxRecDepth 100000 in
theorem door_met (os : Os) (args : Array Value) : laidMetH Tryd.prog theLaid ((World.doorLaid Tryd.prog 400 os).forCall (fun _ _ => 0) ⟨#[], args, []⟩).memory :=
  laidMetH_of_parts3 (fuel := 8) (laidMet_of_run' 8 (by kernel_rfl) (by kernel_rfl)) (by kernel_rfl) (by kernel_rfl)

/-- a listed table of words: its cells -/
theorem str_cells {H : Type} {enc : TypeId × Value → H} {w W : World} {base : Nat} {sp : Nat → Bool} {b : Bool} {name : String} {g t n fuel : Nat} {cs : Array Value} {p : List MemPlace} {l : List (DataW H)}
    (hg : Tryd.prog.globalNamed name = some g) (hv : W.var? Tryd.prog name = some cs) (ht : Tryd.prog.underlying t = some (.array n 9)) (hc : Tryd.prog.cellsOf t = n)
    (hd : DataW.trod enc Tryd.prog w base sp b fuel t cs.toList = some (.agg l, p)) (i : Nat) (s : List UInt8) (hi : l[i]? = some (.lit (.string s))) (h8 : i < n) : W.cell? ⟨g, i, none⟩ = some (.string ⟨s.toArray⟩) := by
  obtain ⟨xs, m1, rfl, hx1, hlen, hn3, hel⟩ := DataW.trod_array ht hd
  simp only [Prod.mk.injEq, DataW.agg.injEq] at hx1
  obtain ⟨hxs, _⟩ := hx1
  rw [cells9] at hel
  have hiel := hel i h8
  rw [hxs, List.getElem?_map] at hi
  cases hx : xs[i]? with
  | none => rw [hx] at hi; simp at hi
  | some y =>
    rw [hx] at hi hiel
    obtain ⟨k, e1, e2, _⟩ := DataW.trod_string Tryd.underlying9 hiel
    have hk : k.data.toList = s := by rw [e2] at hi; simpa using hi
    rw [World.var?_cell hg hv i]
    have e3 : cs.toList[i]? = some (.string k) := by
      have := congrArg (·[0]?) e1
      simpa [List.getElem?_take, List.getElem?_drop] using this
    have hk2 : k = ⟨s.toArray⟩ := by rw [← hk]
    rw [hk2] at e3
    simpa using e3

/-- a listed table of numbers: its cells -/
theorem int_cells {H : Type} {enc : TypeId × Value → H} {w W : World} {base : Nat} {sp : Nat → Bool} {b : Bool} {name : String} {g t n fuel : Nat} {cs : Array Value} {p : List MemPlace} {l : List (DataW H)}
    (hg : Tryd.prog.globalNamed name = some g) (hv : W.var? Tryd.prog name = some cs) (ht : Tryd.prog.underlying t = some (.array n 3)) (hc : Tryd.prog.cellsOf t = n)
    (hd : DataW.trod enc Tryd.prog w base sp b fuel t cs.toList = some (.agg l, p)) (i : Nat) (s : Int) (hi : l[i]? = some (.lit (.int .i64 s))) (h8 : i < n) : W.cell? ⟨g, i, none⟩ = some (.int .i64 s) := by
  obtain ⟨xs, m1, rfl, hx1, hlen, hn3, hel⟩ := DataW.trod_array ht hd
  simp only [Prod.mk.injEq, DataW.agg.injEq] at hx1
  obtain ⟨hxs, _⟩ := hx1
  rw [cells3] at hel
  have hiel := hel i h8
  rw [hxs, List.getElem?_map] at hi
  cases hx : xs[i]? with
  | none => rw [hx] at hi; simp at hi
  | some y =>
    rw [hx] at hi hiel
    obtain ⟨k, e1, e2, _⟩ := DataW.trod_int Tryd.underlying3 hiel
    have hk : k = s := by rw [e2] at hi; simpa using hi
    rw [World.var?_cell hg hv i]
    have e3 : cs.toList[i]? = some (.int .i64 k) := by
      have := congrArg (·[0]?) e1
      simpa [List.getElem?_take, List.getElem?_drop] using this
    rw [hk] at e3
    simpa using e3

set_option maxRecDepth 100000 in
theorem of_laid {W : World} (h : laidMetH Tryd.prog theLaid W) : Tab W := by
  rw [MakeChecks.laidMetH_plain _ _ _ (by kernel_rfl)] at h
  obtain ⟨ps, h1, _⟩ := h
  obtain ⟨ga, ta, ca, fa, pa, qa, hga, hta, hva, hda, h2, _⟩ := h1
  obtain ⟨gb, tb, cb, fb, pb, qb, hgb, htb, hvb, hdb, h3, _⟩ := h2
  obtain ⟨gc, tc, cc, fc, pc, qc, hgc, htc, hvc, hdc, h4, _⟩ := h3
  obtain ⟨gd, td, cd, fd, pd, qd, hgd, htd, hvd, hdd, h5, _⟩ := h4
  obtain ⟨ge, te, ce, fe, pe, qe, hge, hte, hve, hde, h6, _⟩ := h5
  obtain ⟨gf, tf, cf, ff, pf, qf, hgf, htf, hvf, hdf, h7, _⟩ := h6
  obtain rfl := Option.some.inj (gPow.symm.trans hgc)
  obtain rfl := Option.some.inj (tPow.symm.trans htc)
  obtain rfl := Option.some.inj (gWord.symm.trans hgd)
  obtain rfl := Option.some.inj (tWord.symm.trans htd)
  obtain rfl := Option.some.inj (gKinds.symm.trans hge)
  obtain rfl := Option.some.inj (tKinds.symm.trans hte)
  obtain rfl := Option.some.inj (gInstr.symm.trans hgf)
  obtain rfl := Option.some.inj (tInstr.symm.trans htf)
  have I := str_cells gInstr hvf Tryd.underlying60 cells60 hdf
  have K := str_cells gKinds hve Tryd.underlying98 cells98 hde
  have C := int_cells gWord hvd Tryd.underlying130 cells130 hdd
  refine ⟨I 0 _ rfl (by decide), I 1 _ rfl (by decide), I 2 _ rfl (by decide), I 3 _ rfl (by decide), I 4 _ rfl (by decide), I 5 _ rfl (by decide), I 6 _ rfl (by decide), K 1 _ rfl (by decide), K 3 _ rfl (by decide),
    C 0 _ rfl (by decide), C 1 _ rfl (by decide), C 2 _ rfl (by decide), C 3 _ rfl (by decide), C 4 _ rfl (by decide), C 5 _ rfl (by decide), C 6 _ rfl (by decide), C 7 _ rfl (by decide), ?_⟩
  unfold Lib.TabIs
  refine Eq.trans hvc ?_
  rw [← Lib.cells_of_tab (zs := Lib.pow10Tab) (k := .u64) Tryd.underlying135 Tryd.underlying26 cells26 cells135 hdc]

theorem Tab.below {w w' : World} {B : Nat} (h : Tab w) (hb : Below B w w') (hB : 3 < B) : Tab w' := by
  have b0 : 0 < B := by omega
  have b1 : 1 < B := by omega
  have b2 : 2 < B := by omega
  refine ⟨(hb.cell b0).trans h.i0, (hb.cell b0).trans h.i1, (hb.cell b0).trans h.i2, (hb.cell b0).trans h.i3, (hb.cell b0).trans h.i4, (hb.cell b0).trans h.i5, (hb.cell b0).trans h.i6,
    (hb.cell b1).trans h.k1, (hb.cell b1).trans h.k3,
    (hb.cell b2).trans h.c0, (hb.cell b2).trans h.c1, (hb.cell b2).trans h.c2, (hb.cell b2).trans h.c3, (hb.cell b2).trans h.c4, (hb.cell b2).trans h.c5, (hb.cell b2).trans h.c6, (hb.cell b2).trans h.c7, ?_⟩
  have e := h.p10
  unfold Lib.TabIs at e ⊢
  rw [← e]
  unfold World.var?
  rw [gPow]
  simp only [Option.bind_some]
  rw [hb.block 3 hB]
end Go.Proofs.YtemdhcegelddlaaDoor
