/- What the listed tables give the walks: the events' words, the powers of ten, the library's two errors. -/
import Derived.Test.YtalilnnjpemmlaaDoorSh
import Derived.Lib.LaidTab
import Derived.ProofKit
import Derived.LaidMore
import Derived.OpenShut
import Derived.Stop.Joined
import Derived.Stop.LaidErr
import Derived.Shelf.Vars
import Derived.Lay
namespace Go.Proofs.YtalilnnjpemmlaaDoor
open Go Go.ChangeShapes Go.WideShapes Go.ChangeAt Go.WideMaps Go.WideElems Go.RowKit
set_option linter.unusedVariables false
set_option linter.unusedSimpArgs false

/-- the events' words, by their kinds -/
def kw : Nat → List UInt8
  | 0 => []
  | 1 => [115, 116, 97, 114, 116]
  | 2 => [115, 112, 97, 119, 110]
  | 3 => [114, 101, 102, 117, 115, 101, 100]
  | 4 => [121, 105, 101, 108, 100]
  | 5 => [112, 114, 101, 101, 109, 112, 116]
  | 6 => [112, 97, 114, 107]
  | 7 => [114, 101, 97, 100, 121]
  | 8 => [101, 110, 116, 101, 114]
  | 9 => [114, 101, 116, 117, 114, 110]
  | 10 => [113, 117, 101, 117, 101]
  | _ => [101, 120, 105, 116]
/-- a string of bytes -/
def str (l : List UInt8) : Value := .string ⟨l.toArray⟩
def pow10 : String := Rows.reportOfRow.named.getD 6 ""
/-- The tables, as the program's text lays them. -/
structure Tab (w : World) : Prop where
  word : ∀ i, i < 12 → w.cell? ⟨0, i, none⟩ = some (str (kw i))
  p10 : Lib.TabIs Tryd.prog w pow10 .u64 Lib.pow10Tab
  mx : ∃ m, w.cell? ⟨2, 0, none⟩ = some (.int .i64 m)
  es : ∃ te pe, w.cell? ⟨3, 0, none⟩ = some (.iface te pe)
  er : ∃ te pe, w.cell? ⟨4, 0, none⟩ = some (.iface te pe)

def theLaid : List (String × DataW Unit) := Rows.reportOfRow.laid
theorem own : ownKnob Tryd.prog.godebug = none := by kernel_rfl
theorem gWords : Tryd.prog.globalNamed "turnspit/report.words" = some 0 := by kernel_rfl
theorem tWords : (Tryd.prog.globals[0]?).map (·.type) = some 44 := by kernel_rfl
theorem gPow : Tryd.prog.globalNamed pow10 = some 1 := by kernel_rfl
theorem tPow : (Tryd.prog.globals[1]?).map (·.type) = some 94 := by kernel_rfl
theorem gSyn : Tryd.prog.globalNamed "strconv.ErrSyntax" = some 3 := by kernel_rfl
theorem tSyn : (Tryd.prog.globals[3]?).map (·.type) = some 57 := by kernel_rfl
theorem gRan : Tryd.prog.globalNamed "strconv.ErrRange" = some 4 := by kernel_rfl
theorem tRan : (Tryd.prog.globals[4]?).map (·.type) = some 57 := by kernel_rfl
theorem cells3 : Tryd.prog.cellsOf 3 = 1 := by kernel_rfl
theorem cells9 : Tryd.prog.cellsOf 9 = 1 := by kernel_rfl
theorem cells79 : Tryd.prog.cellsOf 79 = 1 := by kernel_rfl
theorem cells44 : Tryd.prog.cellsOf 44 = 12 := by kernel_rfl
theorem cells94 : Tryd.prog.cellsOf 94 = 20 := by kernel_rfl
theorem cells116 : Tryd.prog.cellsOf 116 = 1 := by kernel_rfl
theorem laidOut : laidOutB Tryd.prog = true := by kernel_rfl
theorem star : "*" ++ "errors.errorString" = "*errors.errorString" := by decide
theorem row114 (u : TypeId) (h : Tryd.prog.typeName? 3 u = some "*errors.errorString") : u = 114 :=
  typeName_ptr_named (nm := "errors.errorString") (by rw [star]; kernel_rfl) (by kernel_rfl) (by decide) u (by rw [star]; exact h)

theorem door_met (os : Os) (args : Array Value) : laidMetH Tryd.prog theLaid ((World.laidAll Tryd.prog os theLaid).forCall (fun _ _ => 0) ⟨#[], args, []⟩).memory := by
  rw [MakeChecks.laidMetH_plain _ _ _ (by kernel_rfl)]
  exact laidMet_laidAll _ (by kernel_rfl) (by kernel_rfl)

/-- a listed table of words: its cells -/
theorem str_cells {H : Type} {enc : TypeId × Value → H} {w W : World} {base : Nat} {sp : Nat → Bool} {b : Bool} {name : String} {g t n fuel : Nat} {cs : Array Value} {p : List MemPlace} {l : List (DataW H)}
    (hg : Tryd.prog.globalNamed name = some g) (hv : W.var? Tryd.prog name = some cs) (ht : Tryd.prog.underlying t = some (.array n 9)) (hc : Tryd.prog.cellsOf t = n)
    (hd : DataW.trod enc Tryd.prog w base sp b fuel t cs.toList = some (.agg l, p)) (i : Nat) (s : List UInt8) (hi : l[i]? = some (.lit (.string s))) (h8 : i < n) : W.cell? ⟨g, i, none⟩ = some (.string ⟨s.toArray⟩) := by
  obtain ⟨xs, m1, rfl, hx1, hlen, hn3, hel⟩ := DataW.trod_array ht hd
  simp only [Prod.mk.injEq, DataW.agg.injEq] at hx1
  obtain ⟨hxs, _⟩ := hx1
  rw [cells9] at hel
  have hiel := hel i h8
  rw [hxs, List.getElem?_map] at hi
  cases hx : xs[i]? with
  | none => rw [hx] at hi; simp at hi
  | some y =>
    rw [hx] at hi hiel
    obtain ⟨k, e1, e2, _⟩ := DataW.trod_string Tryd.underlying9 hiel
    have hk : k.data.toList = s := by rw [e2] at hi; simpa using hi
    rw [World.var?_cell hg hv i]
    have e3 : cs.toList[i]? = some (.string k) := by
      have := congrArg (·[0]?) e1
      simpa [List.getElem?_take, List.getElem?_drop] using this
    have hk2 : k = ⟨s.toArray⟩ := by rw [← hk]
    rw [hk2] at e3
    simpa using e3


set_option maxRecDepth 100000 in
theorem of_laid {W : World} (h : laidMetH Tryd.prog theLaid W) (hs : W.ShapedOpen Tryd.prog) : Tab W := by
  rw [MakeChecks.laidMetH_plain _ _ _ (by kernel_rfl)] at h
  have h5 := h.tail.tail.tail.tail
  obtain ⟨aR, sR, hvR, _, _, _⟩ := laid_sentinel h5 gRan tRan Tryd.underlying57 row114 Tryd.underlying114 Tryd.underlying116 rfl rfl Tryd.underlying9 cells116 cells9
  obtain ⟨aS, sS, hvS, _, _, _⟩ := laid_sentinel h5.tail gSyn tSyn Tryd.underlying57 row114 Tryd.underlying114 Tryd.underlying116 rfl rfl Tryd.underlying9 cells116 cells9
  obtain ⟨ps, h1, _⟩ := h
  obtain ⟨ga, ta, ca, fa, pa, qa, hga, hta, hva, hda, h2, _⟩ := h1
  obtain ⟨gb, tb, cb, fb, pb, qb, hgb, htb, hvb, hdb, h3, _⟩ := h2
  obtain ⟨gc, tc, cc, fc, pc, qc, hgc, htc, hvc, hdc, h4, _⟩ := h3
  obtain ⟨gd, td, cd, fd, pd, qd, hgd, htd, hvd, hdd, h5', _⟩ := h4
  obtain ⟨ge, te, ce, fe, pe, qe, hge, hte, hve, hde, h6, _⟩ := h5'
  obtain ⟨gf, tf, cf, ff, pf, qf, hgf, htf, hvf, hdf, h7, _⟩ := h6
  obtain ⟨gg, tg, cg, fg, pg, qg, hgg, htg, hvg, hdg, h8, _⟩ := h7
  obtain rfl := Option.some.inj (gPow.symm.trans hgc)
  obtain rfl := Option.some.inj (tPow.symm.trans htc)
  obtain rfl := Option.some.inj (gWords.symm.trans hgg)
  obtain rfl := Option.some.inj (tWords.symm.trans htg)
  have I := str_cells gWords hvg Tryd.underlying44 cells44 hdg
  refine ⟨?_, ?_, ?_, ⟨_, _, by simpa using World.var?_cell gSyn hvS 0⟩, ⟨_, _, by simpa using World.var?_cell gRan hvR 0⟩⟩
  · intro i hi
    obtain rfl | rfl | rfl | rfl | rfl | rfl | rfl | rfl | rfl | rfl | rfl | rfl : i = 0 ∨ i = 1 ∨ i = 2 ∨ i = 3 ∨ i = 4 ∨ i = 5 ∨ i = 6 ∨ i = 7 ∨ i = 8 ∨ i = 9 ∨ i = 10 ∨ i = 11 := by omega
    all_goals exact I _ _ rfl hi
  · unfold Lib.TabIs
    refine Eq.trans hvc ?_
    rw [← Lib.cells_of_tab (zs := Lib.pow10Tab) (k := .u64) Tryd.underlying94 Tryd.underlying79 cells79 cells94 hdc]
  · exact Go.Proofs.cell_of_shapedOpen_int (zero := #[.int .i64 0]) (t := 3) hs (of_decide_eq_true (by kernel_rfl)) (by kernel_rfl) rfl (by kernel_rfl) (by kernel_rfl) Tryd.underlying3

theorem Tab.below {w w' : World} {B : Nat} (h : Tab w) (hb : Below B w w') (hB : 4 < B) : Tab w' := by
  have c : ∀ k i, k < B → w'.cell? ⟨k, i, none⟩ = w.cell? ⟨k, i, none⟩ := fun k i hk => hb.cell hk
  refine ⟨fun i hi => (c 0 i (by omega)).trans (h.word i hi), ?_, ?_, ?_, ?_⟩
  · have e := h.p10
    unfold Lib.TabIs at e ⊢
    rw [← e]
    unfold World.var?
    rw [gPow]
    simp only [Option.bind_some]
    rw [hb.block 1 (by omega)]
  · rw [c 2 0 (by omega)]; exact h.mx
  · rw [c 3 0 (by omega)]; exact h.es
  · rw [c 4 0 (by omega)]; exact h.er
theorem Tab.size {w : World} (h : Tab w) : 4 < w.heap.size := by
  obtain ⟨_, _, h⟩ := h.er
  exact Nat.lt_of_not_le fun hn => by simp [World.cell?, Array.getElem?_eq_none hn] at h
end Go.Proofs.YtalilnnjpemmlaaDoor
