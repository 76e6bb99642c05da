/- What the listed tables give the walks: the words of kinds, the kinds of words, the powers of ten, the library's two errors. -/
import Derived.Test.YtemdhcegelddlaaDoorSh
import Derived.Lib.LaidTab
import Derived.ProofKit
import Derived.LaidMore
import Derived.OpenShut
import Derived.Stop.Joined
import Derived.Stop.LaidErr
import Derived.Shelf.Vars
import Derived.Lay
namespace Go.Proofs.YtemdhcegelddlaaDoor
open Go Go.ChangeShapes Go.WideShapes Go.ChangeAt Go.WideMaps Go.WideElems Go.RowKit
set_option linter.unusedVariables false
set_option linter.unusedSimpArgs false

/-- the kinds' words -/
def kwB : Nat → List UInt8
  | 0 => []
  | 1 => [115, 116, 101, 112]
  | 2 => [109, 111, 110]
  | 3 => [116, 105, 99, 107]
  | _ => [114, 101, 116, 117, 114, 110]
def pow10 : String := Rows.scriptWritesRow.named.getD 2 ""
/-- The tables, as the program's text lays them. -/
structure Tab (w : World) : Prop where
  word : ∀ i, i < 5 → w.cell? ⟨1, i, none⟩ = some (.string ⟨(kwB i).toArray⟩)
  c0 : w.cell? ⟨2, 0, none⟩ = some (.int .i64 1)
  c1 : w.cell? ⟨2, 1, none⟩ = some (.int .i64 1)
  c2 : w.cell? ⟨2, 2, none⟩ = some (.int .i64 1)
  c3 : w.cell? ⟨2, 3, none⟩ = some (.int .i64 1)
  c4 : w.cell? ⟨2, 4, none⟩ = some (.int .i64 2)
  c5 : w.cell? ⟨2, 5, none⟩ = some (.int .i64 3)
  c6 : w.cell? ⟨2, 6, none⟩ = some (.int .i64 4)
  c7 : w.cell? ⟨2, 7, none⟩ = some (.int .i64 2)
  p10 : Lib.TabIs Tryd.prog w pow10 .u64 Lib.pow10Tab
  mx : ∃ m, w.cell? ⟨4, 0, none⟩ = some (.int .i64 m)
  es : ∃ te pe, w.cell? ⟨5, 0, none⟩ = some (.iface te pe)
  er : ∃ te pe, w.cell? ⟨6, 0, none⟩ = some (.iface te pe)

def theLaid : List (String × DataW Unit) := Rows.scriptWritesRow.laid
theorem own : ownKnob Tryd.prog.godebug = none := by kernel_rfl
theorem gKinds : Tryd.prog.globalNamed "turnspit/script.kinds" = some 1 := by kernel_rfl
theorem tKinds : (Tryd.prog.globals[1]?).map (·.type) = some 98 := by kernel_rfl
theorem gWord : Tryd.prog.globalNamed "turnspit/word.kinds" = some 2 := by kernel_rfl
theorem tWord : (Tryd.prog.globals[2]?).map (·.type) = some 130 := by kernel_rfl
theorem gPow : Tryd.prog.globalNamed pow10 = some 3 := by kernel_rfl
theorem tPow : (Tryd.prog.globals[3]?).map (·.type) = some 135 := by kernel_rfl
theorem gSyn : Tryd.prog.globalNamed "strconv.ErrSyntax" = some 5 := by kernel_rfl
theorem tSyn : (Tryd.prog.globals[5]?).map (·.type) = some 78 := by kernel_rfl
theorem gRan : Tryd.prog.globalNamed "strconv.ErrRange" = some 6 := by kernel_rfl
theorem tRan : (Tryd.prog.globals[6]?).map (·.type) = some 78 := by kernel_rfl
theorem cells3 : Tryd.prog.cellsOf 3 = 1 := by kernel_rfl
theorem cells9 : Tryd.prog.cellsOf 9 = 1 := by kernel_rfl
theorem cells26 : Tryd.prog.cellsOf 26 = 1 := by kernel_rfl
theorem cells98 : Tryd.prog.cellsOf 98 = 5 := by kernel_rfl
theorem cells130 : Tryd.prog.cellsOf 130 = 8 := by kernel_rfl
theorem cells135 : Tryd.prog.cellsOf 135 = 20 := by kernel_rfl
theorem cellsEI : Tryd.prog.cellsOf 157 = 1 := by kernel_rfl
theorem laidOut : laidOutB Tryd.prog = true := by kernel_rfl
theorem star : "*" ++ "errors.errorString" = "*errors.errorString" := by decide
theorem rowES (u : TypeId) (h : Tryd.prog.typeName? 3 u = some "*errors.errorString") : u = 155 :=
  typeName_ptr_named (nm := "errors.errorString") (by rw [star]; kernel_rfl) (by kernel_rfl) (by decide) u (by rw [star]; exact h)

theorem door_met (os : Os) (args : Array Value) : laidMetH Tryd.prog theLaid ((World.laidAll Tryd.prog os theLaid).forCall (fun _ _ => 0) ⟨#[], args, []⟩).memory := by
  rw [MakeChecks.laidMetH_plain _ _ _ (by kernel_rfl)]
  exact laidMet_laidAll _ (by kernel_rfl) (by kernel_rfl)

/-- a listed table of words: its cells -/
theorem str_cells {H : Type} {enc : TypeId × Value → H} {w W : World} {base : Nat} {sp : Nat → Bool} {b : Bool} {name : String} {g t n fuel : Nat} {cs : Array Value} {p : List MemPlace} {l : List (DataW H)}
    (hg : Tryd.prog.globalNamed name = some g) (hv : W.var? Tryd.prog name = some cs) (ht : Tryd.prog.underlying t = some (.array n 9)) (hc : Tryd.prog.cellsOf t = n)
    (hd : DataW.trod enc Tryd.prog w base sp b fuel t cs.toList = some (.agg l, p)) (i : Nat) (s : List UInt8) (hi : l[i]? = some (.lit (.string s))) (h8 : i < n) : W.cell? ⟨g, i, none⟩ = some (.string ⟨s.toArray⟩) := by
  obtain ⟨xs, m1, rfl, hx1, hlen, hn3, hel⟩ := DataW.trod_array ht hd
  simp only [Prod.mk.injEq, DataW.agg.injEq] at hx1
  obtain ⟨hxs, _⟩ := hx1
  rw [cells9] at hel
  have hiel := hel i h8
  rw [hxs, List.getElem?_map] at hi
  cases hx : xs[i]? with
  | none => rw [hx] at hi; simp at hi
  | some y =>
    rw [hx] at hi hiel
    obtain ⟨k, e1, e2, _⟩ := DataW.trod_string Tryd.underlying9 hiel
    have hk : k.data.toList = s := by rw [e2] at hi; simpa using hi
    rw [World.var?_cell hg hv i]
    have e3 : cs.toList[i]? = some (.string k) := by
      have := congrArg (·[0]?) e1
      simpa [List.getElem?_take, List.getElem?_drop] using this
    have hk2 : k = ⟨s.toArray⟩ := by rw [← hk]
    rw [hk2] at e3
    simpa using e3


/-- a listed table of numbers: its cells -/
theorem int_cells {H : Type} {enc : TypeId × Value → H} {w W : World} {base : Nat} {sp : Nat → Bool} {b : Bool} {name : String} {g t n fuel : Nat} {cs : Array Value} {p : List MemPlace} {l : List (DataW H)}
    (hg : Tryd.prog.globalNamed name = some g) (hv : W.var? Tryd.prog name = some cs) (ht : Tryd.prog.underlying t = some (.array n 3)) (hc : Tryd.prog.cellsOf t = n)
    (hd : DataW.trod enc Tryd.prog w base sp b fuel t cs.toList = some (.agg l, p)) (i : Nat) (s : Int) (hi : l[i]? = some (.lit (.int .i64 s))) (h8 : i < n) : W.cell? ⟨g, i, none⟩ = some (.int .i64 s) := by
  obtain ⟨xs, m1, rfl, hx1, hlen, hn3, hel⟩ := DataW.trod_array ht hd
  simp only [Prod.mk.injEq, DataW.agg.injEq] at hx1
  obtain ⟨hxs, _⟩ := hx1
  rw [cells3] at hel
  have hiel := hel i h8
  rw [hxs, List.getElem?_map] at hi
  cases hx : xs[i]? with
  | none => rw [hx] at hi; simp at hi
  | some y =>
    rw [hx] at hi hiel
    obtain ⟨k, e1, e2, _⟩ := DataW.trod_int Tryd.underlying3 hiel
    have hk : k = s := by rw [e2] at hi; simpa using hi
    rw [World.var?_cell hg hv i]
    have e3 : cs.toList[i]? = some (.int .i64 k) := by
      have := congrArg (·[0]?) e1
      simpa [List.getElem?_take, List.getElem?_drop] using this
    rw [hk] at e3
    simpa using e3

set_option maxRecDepth 100000 in
theorem of_laid {W : World} (h : laidMetH Tryd.prog theLaid W) (hs : W.ShapedOpen Tryd.prog) : Tab W := by
  rw [MakeChecks.laidMetH_plain _ _ _ (by kernel_rfl)] at h
  have h5 := h.tail.tail.tail.tail
  obtain ⟨aR, sR, hvR, _, _, _⟩ := laid_sentinel h5 gRan tRan Tryd.underlying78 rowES Tryd.underlying155 Tryd.underlying157 rfl rfl Tryd.underlying9 cellsEI cells9
  obtain ⟨aS, sS, hvS, _, _, _⟩ := laid_sentinel h5.tail gSyn tSyn Tryd.underlying78 rowES Tryd.underlying155 Tryd.underlying157 rfl rfl Tryd.underlying9 cellsEI cells9
  obtain ⟨ps, h1, _⟩ := h
  obtain ⟨ga, ta, ca, fa, pa, qa, hga, hta, hva, hda, h2, _⟩ := h1
  obtain ⟨gb, tb, cb, fb, pb, qb, hgb, htb, hvb, hdb, h3, _⟩ := h2
  obtain ⟨gc, tc, cc, fc, pc, qc, hgc, htc, hvc, hdc, h4, _⟩ := h3
  obtain ⟨gd, td, cd, fd, pd, qd, hgd, htd, hvd, hdd, h5', _⟩ := h4
  obtain ⟨ge, te, ce, fe, pe, qe, hge, hte, hve, hde, h6, _⟩ := h5'
  obtain ⟨gf, tf, cf, ff, pf, qf, hgf, htf, hvf, hdf, h7, _⟩ := h6
  obtain ⟨gg, tg, cg, fg, pg, qg, hgg, htg, hvg, hdg, h8, _⟩ := h7
  obtain rfl := Option.some.inj (gPow.symm.trans hgc)
  obtain rfl := Option.some.inj (tPow.symm.trans htc)
  obtain rfl := Option.some.inj (gWord.symm.trans hgd)
  obtain rfl := Option.some.inj (tWord.symm.trans htd)
  obtain rfl := Option.some.inj (gKinds.symm.trans hgg)
  obtain rfl := Option.some.inj (tKinds.symm.trans htg)
  have K := str_cells gKinds hvg Tryd.underlying98 cells98 hdg
  have C := int_cells gWord hvd Tryd.underlying130 cells130 hdd
  refine ⟨?_, C 0 _ rfl (by decide), C 1 _ rfl (by decide), C 2 _ rfl (by decide), C 3 _ rfl (by decide), C 4 _ rfl (by decide), C 5 _ rfl (by decide), C 6 _ rfl (by decide), C 7 _ rfl (by decide), ?_, ?_, ⟨_, _, by simpa using World.var?_cell gSyn hvS 0⟩, ⟨_, _, by simpa using World.var?_cell gRan hvR 0⟩⟩
  · intro i hi
    obtain rfl | rfl | rfl | rfl | rfl : i = 0 ∨ i = 1 ∨ i = 2 ∨ i = 3 ∨ i = 4 := by omega
    all_goals exact K _ _ rfl hi
  · unfold Lib.TabIs
    refine Eq.trans hvc ?_
    rw [← Lib.cells_of_tab (zs := Lib.pow10Tab) (k := .u64) Tryd.underlying135 Tryd.underlying26 cells26 cells135 hdc]
  · exact Go.Proofs.cell_of_shapedOpen_int (zero := #[.int .i64 0]) (t := 3) hs (of_decide_eq_true (by kernel_rfl)) (by kernel_rfl) rfl (by kernel_rfl) (by kernel_rfl) Tryd.underlying3

theorem Tab.below {w w' : World} {B : Nat} (h : Tab w) (hb : Below B w w') (hB : 6 < B) : Tab w' := by
  have c : ∀ k i, k < B → w'.cell? ⟨k, i, none⟩ = w.cell? ⟨k, i, none⟩ := fun k i hk => hb.cell hk
  refine ⟨fun i hi => (c 1 i (by omega)).trans (h.word i hi), (c 2 _ (by omega)).trans h.c0, (c 2 _ (by omega)).trans h.c1, (c 2 _ (by omega)).trans h.c2, (c 2 _ (by omega)).trans h.c3, (c 2 _ (by omega)).trans h.c4, (c 2 _ (by omega)).trans h.c5, (c 2 _ (by omega)).trans h.c6, (c 2 _ (by omega)).trans h.c7, ?_, ?_, ?_, ?_⟩
  · have e := h.p10
    unfold Lib.TabIs at e ⊢
    rw [← e]
    unfold World.var?
    rw [gPow]
    simp only [Option.bind_some]
    rw [hb.block 3 (by omega)]
  · rw [c 4 0 (by omega)]; exact h.mx
  · rw [c 5 0 (by omega)]; exact h.es
  · rw [c 6 0 (by omega)]; exact h.er
theorem Tab.size {w : World} (h : Tab w) : 6 < w.heap.size := by
  obtain ⟨_, _, h⟩ := h.er
  exact Nat.lt_of_not_le fun hn => by simp [World.cell?, Array.getElem?_eq_none hn] at h
end Go.Proofs.YtemdhcegelddlaaDoor
