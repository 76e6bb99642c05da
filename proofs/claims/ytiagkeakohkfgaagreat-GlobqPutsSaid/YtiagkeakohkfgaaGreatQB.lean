/- The walk of the law GlobqPulls. -/
import Derived.Test.YtiagkeakohkfgaaGreatLkFl
import Derived.Test.YtiagkeakohkfgaaGreatRunD
import Derived.Stop.Asserts
import Derived.Test.YtiagkeakohkfgaaGreatQA
import Derived.Laws.Cover1
import Derived.Deep.RegionHeld3
import Derived.Test.YtiagkeakohkfgaaGreatLaw
namespace Go.Proofs.YtiagkeakohkfgaaGreat
open Go Go.RowKit
set_option linter.unusedVariables false
set_option maxRecDepth 100000
set_option linter.unusedSimpArgs false

/-- A config as a value, and in a box of its own. -/
def cfgV (P T G : Int) : Value := .agg #[.int .i64 P, .int .i64 T, .int .i64 G]
def cfgA (P T G : Int) : Array Value := #[.int .i64 P, .int .i64 T, .int .i64 G]
theorem refg_any (P T G g f : Int) (w : World) (hp : 0 ≤ P ∧ P ≤ 64) (hT : 0 ≤ T ∧ T ≤ 65536) (hg : 0 ≤ g ∧ g ≤ 65536) (hf : 0 ≤ f ∧ f < 2) : Calls Tryz.prog 121 #[.agg #[.int .i64 P, .int .i64 T, .int .i64 G], .int .i64 g, .int .i64 f] w fun e w' => e = .returned (.int .i64 (20 + 264 * P + 3 * T + 2 * g + f)) ∧ Below w.heap.size w w' := by
  have hb : Below w.heap.size w (w.alloc (.cells #[.int .i64 P, .int .i64 T, .int .i64 G] 23)) := (Below.refl _ _).alloc (Nat.le_refl _) _
  go_enter Tryz.func121, Tryz.ntmps121
  go_wp2_with fail
  go_ret
  exact ⟨ret_int (by first | rfl | omega | (unfold wrap64; omega)), hb⟩
theorem refgAt_any (P T G g f : Int) (w : World) (hp : 0 ≤ P ∧ P ≤ 64) (hT : 0 ≤ T ∧ T ≤ 65536) (hG : G ≤ 65536) (hf : 0 ≤ f ∧ f < 2) :
    Calls Tryz.prog 71 #[.agg #[.int .i64 P, .int .i64 T, .int .i64 G], .int .i64 g, .int .i64 f] w fun e w' => e = .returned (.int .i64 (wd (20 + P * 264 + T * 3) G 2 g f)) ∧ Below w.heap.size w w' := by
  have hb : Below w.heap.size w (w.alloc (.cells #[.int .i64 P, .int .i64 T, .int .i64 G] 23)) := (Below.refl _ _).alloc (Nat.le_refl _) _
  by_cases hg : 0 ≤ g ∧ g < G
  · have e : 20 + 264 * P + 3 * T + 2 * g + f = wd (20 + P * 264 + T * 3) G 2 g f := by unfold wd; rw [if_pos ⟨hg.1, hg.2, by omega, by omega⟩]; omega
    have hT := refg_any P T G g f (w.alloc (.cells #[.int .i64 P, .int .i64 T, .int .i64 G] 23)) hp hT (by omega) hf
    rw [e] at hT
    generalize wd (20 + P * 264 + T * 3) G 2 g f = nt at *
    clear e
    have hX : Hid (Blk (w.alloc (.cells #[.int .i64 P, .int .i64 T, .int .i64 G] 23)) w.heap.size #[.int .i64 P, .int .i64 T, .int .i64 G] 23) := Blk.new _ _ _
    have HB : Hid (Below w.heap.size w (w.alloc (.cells #[.int .i64 P, .int .i64 T, .int .i64 G] 23))) := hb
    have hsz := World.size_alloc w (.cells #[.int .i64 P, .int .i64 T, .int .i64 G] 23)
    have d1 : decide (g < 0) = false := decide_eq_false (by omega)
    have d2 : decide (G ≤ g) = false := decide_eq_false (by omega)
    clear hb
    go_enter Tryz.func71, Tryz.ntmps71
    go_wp2_with fail
    go_at_call 121; refine hT.mono ?_; rintro e w1 ⟨rfl, h1⟩
    have h2 := HB.out.trans (h1.mono HB.out.size)
    clear hT h1
    go_wp2_with fail
    go_ret
    exact ⟨rfl, h2⟩
  · have e : wd (20 + P * 264 + T * 3) G 2 g f = -1 := by unfold wd; rw [if_neg (fun h => hg ⟨h.1, h.2.1⟩)]
    rw [e]
    by_cases h0 : g < 0
    · clear hg e
      go_enter Tryz.func71, Tryz.ntmps71
      go_wp2_with fail
      go_ret
      exact ⟨rfl, hb⟩
    · have d1 : decide (g < 0) = false := decide_eq_false h0
      have h1 : G ≤ g := by omega
      clear hg e
      go_enter Tryz.func71, Tryz.ntmps71
      go_wp2_with fail
      go_ret
      exact ⟨rfl, hb⟩
end Go.Proofs.YtiagkeakohkfgaaGreat

namespace Go.Proofs.YtiagkeakohkfgaaGreat
open Go Go.RowKit
set_option linter.unusedVariables false
set_option maxRecDepth 100000
set_option linter.unusedSimpArgs false

theorem isD_qpull (v : Value) (xT : TypeId) (w : World) : (Instr.typeAssert (.iface 64 v) xT 195 true).run Tryz.prog w = .ok (.tuple #[.iface 64 v, .bool true]) w := run_typeAssert_hasB Tryz.underlying195 (by kernel_rfl) v xT w
theorem eqIIn_qpull (w : World) (fuel : Nat) (v : Value) : (Op.equalIn (fuel + 1) 172 (.iface 64 v) .nilIface).run Tryz.prog w = .ok false w := by
  simp only [Op.equalIn, Sem.run_bind, run_underlying Tryz.underlying172, Result.andThen_ok]
  rfl
theorem eqI_qpull (v : Value) (w : World) : (binOp .eql 172 (.iface 64 v) .nilIface).run Tryz.prog w = .ok (.bool false) w := by
  have h := eqIIn_qpull w 9999 v
  simp only [binOp]
  simp [Op.equal, Op.maxDepth, h]
theorem neqI_qpull (v : Value) (w : World) : (binOp .neq 172 (.iface 64 v) .nilIface).run Tryz.prog w = .ok (.bool true) w := by
  have h := eqIIn_qpull w 9999 v
  simp only [binOp]
  simp [Op.equal, Op.maxDepth, h]
theorem isdone_qpull (w : World) (x : Nat) (nx : Option Addr) (hc : w.cell? ⟨x, 1, none⟩ = some (.pointer nx)) :
    Calls Tryz.prog 164 #[.iface 64 (.pointer (some ⟨x, 0, none⟩))] w fun e w' => e = .returned (.bool nx.isNone) ∧ w = w' := by
  have h1 := isD_qpull
  have h2 := eqI_qpull
  have hD := done_qpull w x nx hc
  go_enter Tryz.func164, Tryz.ntmps164
  go_wp2_with fail
  go_at_call 27; refine hD.mono ?_; rintro e w1 ⟨rfl, rfl⟩
  go_wp2_with fail
  go_ret
  exact ⟨rfl, rfl⟩

theorem frun0_qpull (w : World) (c x : Nat) (cs : Array Value) (T : TypeId) (fv : Value) (nx : Addr) (h : Blk w c cs T) (hs : 2 ≤ cs.size) (hf : Fv fv) (hxc : x ≠ c) (hx : w.cell? ⟨x, 1, none⟩ = some (.pointer (some nx))) :
    Calls Tryz.prog 144 #[.pointer (some ⟨c, 0, none⟩), .iface 64 (.pointer (some ⟨x, 0, none⟩)), fv] w fun e w' => (∃ v, e = .returned v) ∧ ∃ q g, CameBox w w' c cs T (fun v => comCells 0 0 0 0 0 false (.iface 64 (.pointer (some ⟨x, 0, none⟩))) v false false) fv q g := by
  have c1 := h.cell 1 (Array.getElem?_eq_getElem (by omega))
  have f1 := h.fro 1
  have hlt := h.lt
  have h1 := h.set 1 (.pointer none)
  have c2 := h1.cell 1 (v := .pointer none) (by rw [Array.getElem?_setIfInBounds, if_pos rfl, if_pos (by omega)])
  have f2 := h1.fro 1
  have hB1 : But [c] w (w.setCell ⟨c, 1, none⟩ (.pointer none)) := (But.refl _ w).set (g := c) (.inl (by simp)) 1 _
  have hsz : (w.setCell ⟨c, 1, none⟩ (.pointer none)).heap.size = w.heap.size := size_set _ _ _
  have hD := isdone_qpull (w.setCell ⟨c, 1, none⟩ (.pointer none)) x (some nx) (by
    rw [show (w.setCell ⟨c, 1, none⟩ (.pointer none)).cell? ⟨x, 1, none⟩ = w.cell? ⟨x, 1, none⟩ by simp only [World.cell?]; rw [heap_set_ne w hxc 1 _]]
    exact hx)
  have hU := fun w => untold_any w fv hf
  have HH : Hid (Blk (w.setCell ⟨c, 1, none⟩ (.pointer none)) c (cs.setIfInBounds 1 (.pointer none)) T ∧ But [c] w (w.setCell ⟨c, 1, none⟩ (.pointer none))) := ⟨h1, hB1⟩
  clear h h1 hB1 hx
  go_enter Tryz.func144, Tryz.ntmps144
  go_wp2_with fail
  generalize w.setCell ⟨c, 1, none⟩ (.pointer none) = W at *
  go_at_call 164; refine hD.mono ?_; rintro e w1 ⟨rfl, rfl⟩
  go_wp2_with fail
  go_at_call 148; refine (hU _).mono ?_; rintro e w2 ⟨rfl, rfl⟩
  have hg := Blk.new W #[fv] 1
  have hW2 : Blk (W.alloc (.cells #[fv] 1)) c (cs.setIfInBounds 1 (.pointer none)) T := HH.out.1.al _
  have hsz2 : Hid ((W.alloc (.cells #[fv] 1)).heap.size = w.heap.size + 1) := (by rw [World.size_alloc, hsz] : (W.alloc (.cells #[fv] 1)).heap.size = w.heap.size + 1)
  have hB2 : But [c] w (W.alloc (.cells #[fv] 1)) := HH.out.2.alloc _
  rw [hsz] at hg ⊢
  have HG : Hid (Blk (W.alloc (.cells #[fv] 1)) w.heap.size #[fv] 1 ∧ Blk (W.alloc (.cells #[fv] 1)) c (cs.setIfInBounds 1 (.pointer none)) T ∧ But [c] w (W.alloc (.cells #[fv] 1))) := ⟨hg, hW2, hB2⟩
  have c3 := hW2.cell 1 (v := .pointer none) (by rw [Array.getElem?_setIfInBounds, if_pos rfl, if_pos (by omega)])
  have f3 := hW2.fro 1
  clear hD hU c1 f1 c2 f2 hg hW2 hB2
  generalize W.alloc (.cells #[fv] 1) = W2 at *
  have hlt2 : c < W2.heap.size := by have := hsz2.out; omega
  clear hsz HH
  go_wp2_with fail
  go_end0
  obtain ⟨g1, g2, g3⟩ := HG.out
  have hsz2 := hsz2.out
  refine ⟨⟨_, rfl⟩, W2.heap.size, w.heap.size, ⟨⟨by omega, ?_, ?_, ?_⟩, Nat.le_refl _, ?_, by omega⟩⟩
  · have := (g2.set 1 (.pointer (some ⟨W2.heap.size, 0, none⟩))).al (.cells (comCells 0 0 0 0 0 false (.iface 64 (.pointer (some ⟨x, 0, none⟩))) (.func (.func 167) #[] #[.pointer (some ⟨w.heap.size, 0, none⟩)]) false false) 174)
    rw [set_twice] at this
    exact this
  · have := Blk.new (W2.setCell ⟨c, 1, none⟩ (.pointer (some ⟨W2.heap.size, 0, none⟩))) (comCells 0 0 0 0 0 false (.iface 64 (.pointer (some ⟨x, 0, none⟩))) (.func (.func 167) #[] #[.pointer (some ⟨w.heap.size, 0, none⟩)]) false false) 174
    rw [size_set] at this
    exact this
  · exact (g3.set (g := c) (.inl (by simp)) 1 _).alloc _
  · exact (g1.setne (by omega) 1 _).al _

theorem act0_qpull (w : World) (q cm x : Nat) (who : Int) (thn : Value) (z : Bool) (Mw : World → Prop) (hq : Blk w q (comCells 0 0 0 0 0 false (.iface 64 (.pointer (some ⟨x, 0, none⟩))) thn false false) 174)
    (hS : ∀ W, But [q] w W → Blk W q (comCells 0 0 0 0 0 false (.iface 64 (.pointer (some ⟨x, 0, none⟩))) thn false true) 174 → Calls Tryz.prog 29 #[.pointer (some ⟨x, 0, none⟩), .pointer (some ⟨cm, 0, none⟩)] W fun e w' => e = .returned (.bool z) ∧ Blk w' q (comCells 0 0 0 0 0 false (.iface 64 (.pointer (some ⟨x, 0, none⟩))) thn false true) 174 ∧ Mw w') :
    Calls Tryz.prog 122 #[.pointer (some ⟨q, 0, none⟩), .int .i64 who, .pointer (some ⟨cm, 0, none⟩)] w fun e w' => e = .returned (.tuple #[.int .u64 0, .bool z]) ∧ ∃ w1, Mw w1 ∧ Blk w1 q (comCells 0 0 0 0 0 false (.iface 64 (.pointer (some ⟨x, 0, none⟩))) thn false true) 174 ∧ w' = w1.setCell ⟨q, 9, none⟩ (.bool false) := by
  have hn := neqI_qpull
  have hbm := Blk.new w #[.pointer (some ⟨cm, 0, none⟩)] 30
  have hq1 := hq.al (.cells #[.pointer (some ⟨cm, 0, none⟩)] 30)
  have hqlt := hq.lt
  have k6 := hq1.cell 6 (v := .iface 64 (.pointer (some ⟨x, 0, none⟩))) rfl
  have hask : Calls Tryz.prog 149 #[.pointer (some ⟨q, 0, none⟩), .func (.func 150) #[] #[.pointer (some ⟨w.heap.size, 0, none⟩)]] (w.alloc (.cells #[.pointer (some ⟨cm, 0, none⟩)] 30)) fun e w' => e = .returned (.bool z) ∧ ∃ w1, Mw w1 ∧ Blk w1 q (comCells 0 0 0 0 0 false (.iface 64 (.pointer (some ⟨x, 0, none⟩))) thn false true) 174 ∧ w' = w1.setCell ⟨q, 9, none⟩ (.bool false) := by
    have hne : w.heap.size ≠ q := by omega
    have k9 := hq1.cell 9 (v := .bool false) rfl
    have f9 := hq1.fro 9
    have hq2 := hq1.set 9 (.bool true)
    have l6 := hq2.cell 6 (v := .iface 64 (.pointer (some ⟨x, 0, none⟩))) rfl
    have hb2 := hbm.setne hne 9 (.bool true)
    have b0 := hb2.cell 0 (v := .pointer (some ⟨cm, 0, none⟩)) rfl
    have hst := hS ((w.alloc (.cells #[.pointer (some ⟨cm, 0, none⟩)] 30)).setCell ⟨q, 9, none⟩ (.bool true)) (((But.refl [q] w).alloc _).set (g := q) (.inl (by simp)) 9 _) hq2
    have hrun : Calls Tryz.prog 150 #[.iface 64 (.pointer (some ⟨x, 0, none⟩)), .pointer (some ⟨w.heap.size, 0, none⟩)] ((w.alloc (.cells #[.pointer (some ⟨cm, 0, none⟩)] 30)).setCell ⟨q, 9, none⟩ (.bool true)) fun e w' => e = .returned (.bool z) ∧ Blk w' q (comCells 0 0 0 0 0 false (.iface 64 (.pointer (some ⟨x, 0, none⟩))) thn false true) 174 ∧ Mw w' := by
      clear hS hq hbm hq1 k6 k9 f9 hq2 l6 hb2 hqlt hne
      generalize (w.alloc (.cells #[.pointer (some ⟨cm, 0, none⟩)] 30)).setCell ⟨q, 9, none⟩ (.bool true) = W at *
      go_enter Tryz.func150, Tryz.ntmps150
      go_wp2_with fail
      go_at_call 29; refine hst.mono ?_; rintro e w1 ⟨rfl, h1, h2⟩
      go_wp2_with fail
      go_ret
      exact ⟨rfl, h1, h2⟩
    clear hS hq hbm hq1 hq2 hb2 hst b0 hqlt
    go_enter Tryz.func149, Tryz.ntmps149
    go_wp2_with fail
    generalize (w.alloc (.cells #[.pointer (some ⟨cm, 0, none⟩)] 30)).setCell ⟨q, 9, none⟩ (.bool true) = W at *
    go_at_call 150; refine hrun.mono ?_; rintro e w1 ⟨rfl, h1, h2⟩
    have m9 := h1.cell 9 (v := .bool true) rfl
    have g9 := h1.fro 9
    clear hrun l6 k9 f9 k6
    go_wp2_with fail
    go_ret
    exact ⟨rfl, w1, h2, h1, rfl⟩
  clear hS hq hq1 hbm
  go_enter Tryz.func122, Tryz.ntmps122
  go_wp2_with fail
  generalize w.alloc (.cells #[.pointer (some ⟨cm, 0, none⟩)] 30) = W at *
  go_at_call 149; refine hask.mono ?_; rintro e w1 ⟨rfl, h1⟩
  clear hask k6
  go_wp2_with fail
  go_returns
  exact ⟨rfl, h1⟩

theorem frun_qpull : RunCome 64 := fun w c y cs T fv nx h hs hf hyc hx => frun0_qpull w c y cs T fv nx h hs hf hyc hx
theorem act_qpull : ActRun 64 29 := fun w q cm y g who z Mw hq hS => act0_qpull w q cm y who _ z Mw hq hS
end Go.Proofs.YtiagkeakohkfgaaGreat

namespace Go.Proofs.YtiagkeakohkfgaaGreat
open Go Go.RowKit
set_option linter.unusedVariables false
set_option maxRecDepth 100000
set_option linter.unusedSimpArgs false

inductive PlT where
  | ld
  | lnk (y : Int)
  | un (y l : Int)
  | tl (y : Int)
  | ct (y l : Int)
  | none'
  | over (y l : Int)
def plPM (gl : Int → Int) : PM PlT where
  ax := fun
    | .ld => some (axLd 6)
    | .lnk y => some (axLd (gl y))
    | .un _ l => some (axSt 6 l)
    | .tl _ => some (axSt 7 0)
    | .ct _ _ => some (axAd 8 4294967295)
    | .none' => none
    | .over _ _ => none
  nx := fun
    | .ld, v => if v = 0 then .none' else .lnk (gw v)
    | .lnk y, v => .un y v
    | .un y l, _ => if l = 0 then .tl y else .ct y l
    | .tl y, _ => .ct y 0
    | .ct y l, _ => .over y l
    | t, _ => t
def PlT.g : PlT → Int
  | .lnk y => y
  | .un y _ => y
  | .tl y => y
  | .ct y _ => y
  | .over y _ => y
  | _ => 0
def PlT.l : PlT → Int
  | .un _ l => l
  | .ct _ l => l
  | .over _ l => l
  | _ => 0
def PlT.pulled : PlT → Bool
  | .tl _ => true
  | .ct _ _ => true
  | .over _ _ => true
  | _ => false
/-- Which one was pulled. -/
def PlT.obs (t : PlT) : Int := if t.pulled then t.g else -1
def plCells (who : Int) (nx : Option Addr) (cl : Nat) (g l : Int) (z : Bool) : Array Value := #[.int .i64 who, .pointer nx, .pointer (some ⟨cl, 0, none⟩), .int .i64 g, .int .u64 l, .bool z]
def plFl (who : Int) (cl : Nat) : Fl PlT where
  T := 137
  cells := fun t nx => plCells who nx cl t.g t.l t.pulled
  fol := fun
    | .ld => .told 86
    | .lnk _ => .told 126
    | .un _ _ => .untold 155
    | .tl _ => .untold 169
    | .ct _ _ => .nil
    | _ => .nil
  ok := fun
    | .un _ l => 0 ≤ l ∧ l ≤ 18446744073709551615
    | _ => True
theorem ent_pl1 : Ent 86 := fun args w => by kernel_rfl
theorem ent_pl2 : Ent 126 := fun args w => by kernel_rfl
theorem ent_pl3 : Ent 155 := fun args w => by kernel_rfl
theorem ent_pl4 : Ent 169 := fun args w => by kernel_rfl

theorem pull_tell (w : World) (x cl : Nat) (who g l : Int) (z : Bool) (nx : Option Addr) (h : Blk w x (plCells who nx cl g l z) 137) :
    Calls Tryz.prog 169 #[.pointer (some ⟨x, 0, none⟩)] w fun e w' => (∃ v, e = .returned v) ∧ Came w w' x (plCells who nx cl g l z) 137 (axAd 8 4294967295) .nil := by
  have H := q_count w x cl _ 137 4294967295 h (by simp [plCells]) rfl
  clear h
  go_enter Tryz.func169, Tryz.ntmps169
  go_wp2_with fail
  go_at_call 177; refine H.mono ?_; rintro e w1 ⟨⟨v, rfl⟩, hC⟩
  clear H
  go_wp2_with fail
  go_end0
  exact ⟨⟨_, rfl⟩, hC⟩
theorem pull_unlink (w : World) (x cl : Nat) (who g l v : Int) (z : Bool) (nx : Option Addr) (h : Blk w x (plCells who nx cl g l z) 137) :
    Calls Tryz.prog 126 #[.pointer (some ⟨x, 0, none⟩), .int .u64 v] w fun e w' => (∃ v, e = .returned v) ∧ Came w w' x (plCells who nx cl g v z) 137 (axSt 6 v) (.untold 155) := by
  have c4 := h.cell 4 (v := .int .u64 l) rfl
  have f4 := h.fro 4
  have hlt := h.lt
  have h' : Blk _ x (plCells who nx cl g v z) 137 := h.set 4 (.int .u64 v)
  have hB : But [x] w (w.setCell ⟨x, 4, none⟩ (.int .u64 v)) := (But.refl _ w).set (g := x) (.inl (by simp)) 4 _
  have H := q_store6 _ x cl 155 _ 137 v h' (by simp [plCells]) rfl
  clear h h'
  go_enter Tryz.func126, Tryz.ntmps126
  go_wp2_with fail
  go_at_call 154; refine H.mono ?_; rintro e w1 ⟨⟨u, rfl⟩, hC⟩
  have hC2 := hC.before hB
  clear H hC hB c4 f4
  go_wp2_with fail
  go_end0
  exact ⟨⟨_, rfl⟩, hC2⟩
theorem pull_have_last (w : World) (x cl : Nat) (who g : Int) (z : Bool) (nx : Option Addr) (h : Blk w x (plCells who nx cl g 0 z) 137) :
    Calls Tryz.prog 155 #[.pointer (some ⟨x, 0, none⟩)] w fun e w' => (∃ v, e = .returned v) ∧ Came w w' x (plCells who nx cl g 0 true) 137 (axSt 7 0) (.untold 169) := by
  have c5 := h.cell 5 (v := .bool z) rfl
  have f5 := h.fro 5
  have hlt := h.lt
  have h' : Blk _ x (plCells who nx cl g 0 true) 137 := h.set 5 (.bool true)
  have hB : But [x] w (w.setCell ⟨x, 5, none⟩ (.bool true)) := (But.refl _ w).set (g := x) (.inl (by simp)) 5 _
  have H := q_store7 _ x cl 169 _ 137 0 h' (by simp [plCells]) rfl
  have k4 := h'.cell 4 (v := .int .u64 0) rfl
  clear h h'
  go_enter Tryz.func155, Tryz.ntmps155
  go_wp2_with fail
  go_at_call 154; refine H.mono ?_; rintro e w1 ⟨⟨u, rfl⟩, hC⟩
  have hC2 := hC.before hB
  clear H hC hB c5 f5 k4
  go_wp2_with fail
  refine bodyPost_ret (results_none rfl _ _ _) rfl ?_
  exact ⟨⟨_, rfl⟩, hC2⟩
theorem pull_have_more (w : World) (x cl : Nat) (who g l : Int) (z : Bool) (nx : Option Addr) (h : Blk w x (plCells who nx cl g l z) 137) (hl : l ≠ 0) :
    Calls Tryz.prog 155 #[.pointer (some ⟨x, 0, none⟩)] w fun e w' => (∃ v, e = .returned v) ∧ Came w w' x (plCells who nx cl g l true) 137 (axAd 8 4294967295) .nil := by
  have c5 := h.cell 5 (v := .bool z) rfl
  have f5 := h.fro 5
  have hlt := h.lt
  have h' : Blk _ x (plCells who nx cl g l true) 137 := h.set 5 (.bool true)
  have hB : But [x] w (w.setCell ⟨x, 5, none⟩ (.bool true)) := (But.refl _ w).set (g := x) (.inl (by simp)) 5 _
  have H := pull_tell _ x cl who g l true nx h'
  have k4 := h'.cell 4 (v := .int .u64 l) rfl
  have hd : (l == 0) = false := by simpa using hl
  clear h h'
  go_enter Tryz.func155, Tryz.ntmps155
  go_wp2_with fail
  go_at_call 169; refine H.mono ?_; rintro e w1 ⟨⟨u, rfl⟩, hC⟩
  have hC2 := hC.before hB
  clear H hC hB c5 f5 k4
  go_wp2_with fail
  go_end0
  exact ⟨⟨_, rfl⟩, hC2⟩
theorem pull_choose_none (w : World) (x : Nat) :
    Calls Tryz.prog 86 #[.pointer (some ⟨x, 0, none⟩), .int .u64 0] w fun e w' => (∃ v, e = .returned v) ∧ w = w' := by
  go_enter Tryz.func86, Tryz.ntmps86
  go_wp2_with fail
  refine bodyPost_ret (results_none rfl _ _ _) rfl ?_
  exact ⟨⟨_, rfl⟩, rfl⟩
set_option maxHeartbeats 4000000 in
theorem pull_choose (w : World) (x cl : Nat) (who g l v P T G : Int) (z : Bool) (nx : Option Addr) (h : Blk w x (plCells who nx cl g l z) 137) (hl : Lay w cl P T G) (hxc : cl ≠ x) (hp : 0 ≤ P ∧ P ≤ 64) (hT : 0 ≤ T ∧ T ≤ 65536) (hG : G ≤ 65536) (hv : v ≠ 0) :
    Calls Tryz.prog 86 #[.pointer (some ⟨x, 0, none⟩), .int .u64 v] w fun e w' => (∃ v, e = .returned v) ∧ Came w w' x (plCells who nx cl (gw v) l z) 137 (axLd (wd (20 + P * 264 + T * 3) G 2 (gw v) 1)) (.told 126) := by
  have c3 := h.cell 3 (v := .int .i64 g) rfl
  have f3 := h.fro 3
  have hlt := h.lt
  obtain ⟨zz, hz⟩ : ∃ zz, IntKind.u64.wrap (v - 1) = zz := ⟨_, rfl⟩
  obtain ⟨y, hy⟩ : ∃ y, IntKind.i64.wrap zz = y := ⟨_, rfl⟩
  have hgw : gw v = y := by unfold gw; rw [hz, hy]
  rw [hgw]
  have h' : Blk _ x (plCells who nx cl y l z) 137 := h.set 3 (.int .i64 y)
  have hB : But [x] w (w.setCell ⟨x, 3, none⟩ (.int .i64 y)) := (But.refl _ w).set (g := x) (.inl (by simp)) 3 _
  have hl' : Lay (w.setCell ⟨x, 3, none⟩ (.int .i64 y)) cl P T G := (hB.block cl hl.lt (by simpa using hxc)).trans hl
  have hd : (v == 0) = false := by simpa using hv
  generalize hV : w.setCell ⟨x, 3, none⟩ (.int .i64 y) = V at h' hB hl'
  have d3 := h'.cell 3 (v := .int .i64 y) rfl
  have hW := q_link V.drew x cl _ 137 P T G y h'.drew rfl (hl'.below ((Below.refl _ _).drew) hl'.lt) hp hT hG
  have HS : Hid (∀ w4, Below V.drew.heap.size V.drew w4 → Calls Tryz.prog 125 #[.pointer (some ⟨x, 0, none⟩), .int .i64 (wd (20 + P * 264 + T * 3) G 2 y 1), .func (.func 126) #[.pointer (some ⟨x, 0, none⟩)] #[]] w4 fun e w' => (∃ v, e = .returned v) ∧ Came w w' x (plCells who nx cl y l z) 137 (axLd (wd (20 + P * 264 + T * 3) G 2 y 1)) (.told 126)) := by
    intro w4 k
    have hB4 : But [x] w w4 := hB.trans (((But.refl [x] V).drew).trans (But.of_below k))
    have h4 : Blk w4 x (plCells who nx cl y l z) 137 := h'.drew.but (But.of_below (l := []) k) (by simp)
    refine (came_load w4 x _ 137 h4 (by simp [plCells]) _ 126).mono ?_
    rintro e w5 ⟨hv, hC⟩
    exact ⟨hv, hC.before hB4⟩
  generalize wd (20 + P * 264 + T * 3) G 2 y 1 = at' at *
  clear h h' hB hl hl' hp hT hG hxc hv hgw
  go_enter Tryz.func86, Tryz.ntmps86
  go_wp2_with fail
  try rw [hV]
  clear hV c3 f3
  go_region_with (first | (go_at_call 114; refine hW.mono ?_; rintro e w4 ⟨rfl, k⟩) | (go_at_call 125; refine (HS.out _ k).mono ?_; rintro e w5 ⟨⟨v, rfl⟩, hC⟩))
  all_goals
    clear hW k HS d3
    go_wp2_with fail
    go_end0
    exact ⟨⟨_, rfl⟩, hC⟩

theorem pl_laws (who P T G : Int) (cl : Nat) (hp : 0 ≤ P ∧ P ≤ 64) (hT : 0 ≤ T ∧ T ≤ 65536) (hG : 0 ≤ G ∧ G ≤ 65536) : (plFl who cl).Laws (plPM (fun y => wd (20 + P * 264 + T * 3) G 2 y 1)) (Rd.lay cl P T G) who where
  c0 := fun t nx => rfl
  c1 := fun t nx => rfl
  set := fun t nx nx' => rfl
  axok := fun t a hok h => by
    cases t with
    | ld => cases h; exact axLd_ok _
    | lnk y => cases h; exact axLd_ok _
    | un y l => cases h; exact axSt_ok _ _ hok
    | tl y => cases h; exact axSt_ok _ _ (by omega)
    | ct y l => cases h; exact axAd_ok _ _ (by omega)
    | none' => cases h
    | over y l => cases h
  ents := fun t a h => by
    cases t with
    | ld => exact ent_pl1
    | lnk y => exact ent_pl2
    | un y l => exact ent_pl3
    | tl y => exact ent_pl4
    | ct y l => exact trivial
    | none' => exact trivial
    | over y l => exact trivial
  ok := fun t a v hok h hv => by
    cases t with
    | ld => by_cases h0 : v = 0 <;> simp [plPM, plFl, h0]
    | lnk y => exact hv
    | un y l => by_cases h0 : l = 0 <;> simp [plPM, plFl, h0]
    | tl y => exact trivial
    | ct y l => exact trivial
    | none' => exact trivial
    | over y l => exact trivial
  fol := fun W x t a v hok h hv hB hR hxR => by
    have hcx : cl ≠ x := fun e => hxR (by rw [e]; exact List.mem_singleton.2 rfl)
    cases t with
    | ld =>
      cases h
      by_cases h0 : v = 0
      · subst h0
        refine (pull_choose_none W x).mono ?_
        rintro e w' ⟨hu, rfl⟩
        exact ⟨hu, hB, But.refl _ _⟩
      · have e : (plPM (fun y => wd (20 + P * 264 + T * 3) G 2 y 1)).nx .ld v = .lnk (gw v) := if_neg h0
        rw [e]
        exact pull_choose W x cl who 0 0 v P T G false none hB hR hcx hp hT hG.2 h0
    | lnk y => cases h; exact pull_unlink W x cl who y 0 v false none hB
    | un y l =>
      cases h
      by_cases h0 : l = 0
      · subst h0
        exact pull_have_last W x cl who y false none hB
      · have e : (plPM (fun y => wd (20 + P * 264 + T * 3) G 2 y 1)).nx (.un y l) v = .ct y l := if_neg h0
        rw [e]
        exact pull_have_more W x cl who y l false none hB h0
    | tl y => cases h; exact pull_tell W x cl who y 0 true none hB
    | ct y l => cases h; exact ⟨hB, But.refl _ _⟩
    | none' => cases h
    | over y l => cases h

theorem pl_new (w : World) (cl : Nat) (who : Int) (gl : Int → Int) :
    Calls Tryz.prog 25 #[.pointer (some ⟨cl, 0, none⟩), .int .i64 who] w fun e w' => ∃ x L, e = .returned (.pointer (some ⟨x, 0, none⟩)) ∧ (plFl who cl).I (plPM gl) w' x .ld L ∧ Below w.heap.size w w' ∧ (∀ k ∈ L, w.heap.size ≤ k) ∧ w.heap.size ≤ x := by
  have hB := Blk.new w #[.int .i64 0, .pointer none, .pointer none, .int .i64 0, .int .u64 0, .bool false] 137
  have hb : Below w.heap.size w (w.alloc (.cells #[.int .i64 0, .pointer none, .pointer none, .int .i64 0, .int .u64 0, .bool false] 137)) := (Below.refl _ _).alloc (Nat.le_refl _) _
  have hO := q_of _ w.heap.size cl who _ (plCells who none cl 0 0 false) 137 hB (by simp) rfl
  have HH : Hid (Below w.heap.size w (w.alloc (.cells #[.int .i64 0, .pointer none, .pointer none, .int .i64 0, .int .u64 0, .bool false] 137))) := hb
  have hsz := World.size_alloc w (.cells #[.int .i64 0, .pointer none, .pointer none, .int .i64 0, .int .u64 0, .bool false] 137)
  clear hB hb
  go_enter Tryz.func25, Tryz.ntmps25
  go_wp2_with fail
  go_at_call 63; refine hO.mono ?_; rintro e w1 ⟨⟨v, rfl⟩, h1, h2, h3⟩
  have hb1 : Hid (Below w.heap.size w w1) := HH.out.trans (h2.below (by simp) (by rw [hsz]; omega))
  have hL := q_load6 w1 w.heap.size cl 86 _ 137 h1 (by simp [plCells]) rfl
  have hlt := h1.lt
  clear hO h2 HH
  go_wp2_with fail
  go_at_call 85; refine hL.mono ?_; rintro e w2 ⟨⟨v2, rfl⟩, hC⟩
  obtain ⟨q, Lc, c1, c2, c3, c4⟩ := hC
  have hF : Hid ((plFl who cl).I (plPM gl) w2 w.heap.size .ld (w.heap.size :: Lc) ∧ Below w.heap.size w w2 ∧ ∀ k ∈ w.heap.size :: Lc, w.heap.size ≤ k) := by
    refine ⟨⟨trivial, q, Lc, c1, c2, fun hm => by have := c4 _ hm; omega, rfl⟩, hb1.out.trans (c3.below (by simp) hb1.out.size), fun k hk => ?_⟩
    simp at hk
    rcases hk with rfl | hk
    · exact Nat.le_refl _
    · have := c4 k hk; omega
  clear hL c1 c2 c3 c4
  go_wp2_with fail
  go_ret
  exact ⟨w.heap.size, w.heap.size :: Lc, rfl, hF.out.1, hF.out.2.1, hF.out.2.2, Nat.le_refl _⟩
theorem pull_g (w : World) (x cl : Nat) (who g l : Int) (z : Bool) (nx : Option Addr) (h : Blk w x (plCells who nx cl g l z) 137) :
    Calls Tryz.prog 28 #[.pointer (some ⟨x, 0, none⟩)] w fun e w' => e = .returned (.int .i64 (if z then g else -1)) ∧ w = w' := by
  have c3 := h.cell 3 (v := .int .i64 g) rfl
  have c5 := h.cell 5 (v := .bool z) rfl
  clear h
  cases z with
  | false =>
    go_enter Tryz.func28, Tryz.ntmps28
    go_wp2_with fail
    go_ret
    exact ⟨rfl, rfl⟩
  | true =>
    go_enter Tryz.func28, Tryz.ntmps28
    go_wp2_with fail
    go_ret
    exact ⟨rfl, rfl⟩
theorem pull_g_nil (w : World) : Calls Tryz.prog 28 #[.pointer none] w fun e w' => e = .returned (.int .i64 (-1)) ∧ w = w' := by
  go_enter Tryz.func28, Tryz.ntmps28
  go_wp2_with fail
  go_ret
  exact ⟨rfl, rfl⟩
theorem pl_g {who : Int} {cl : Nat} {gl : Int → Int} {w : World} {x : Nat} {t : PlT} {L : List Nat} (h : (plFl who cl).I (plPM gl) w x t L) :
    Calls Tryz.prog 28 #[.pointer (some ⟨x, 0, none⟩)] w fun e w' => e = .returned (.int .i64 t.obs) ∧ w = w' := by
  obtain ⟨nx, h1, -⟩ := Fl.blk h
  exact pull_g w x cl who t.g t.l t.pulled nx h1
end Go.Proofs.YtiagkeakohkfgaaGreat

namespace Go.Proofs.YtiagkeakohkfgaaGreat
open Go Go.RowKit
set_option linter.unusedVariables false
set_option maxRecDepth 100000
set_option linter.unusedSimpArgs false

structure PullIn {σ : Type} (M : PM σ) (gl : Int → Int) (emb : PlT → σ) : Prop where
  ld : M.ax (emb .ld) = some (axLd 6)
  lk : ∀ y, M.ax (emb (.lnk y)) = some (axLd (gl y))
  un : ∀ y l, M.ax (emb (.un y l)) = some (axSt 6 l)
  tl : ∀ y, M.ax (emb (.tl y)) = some (axSt 7 0)
  ct : ∀ y l, M.ax (emb (.ct y l)) = some (axAd 8 4294967295)
  n1 : ∀ v, M.nx (emb .ld) v = if v = 0 then emb .none' else emb (.lnk (gw v))
  n2 : ∀ y v, M.nx (emb (.lnk y)) v = emb (.un y v)
  n3 : ∀ y l v, M.nx (emb (.un y l)) v = if l = 0 then emb (.tl y) else emb (.ct y l)
  n4 : ∀ y v, M.nx (emb (.tl y)) v = emb (.ct y 0)
  n5 : ∀ y l v, M.nx (emb (.ct y l)) v = emb (.over y l)
def PlT.live : PlT → Bool
  | .none' => false
  | .over _ _ => false
  | _ => true
/-- Where a pull stopped, and what it answered. -/
def PlQ {σ : Type} (Q : σ → Prop) (emb : PlT → σ) (r : Int) (q : σ) : Prop := (Q q ∧ r = -1) ∨ ∃ p', PlT.live p' = true ∧ q = emb p' ∧ r = p'.obs
theorem pl_in (gl : Int → Int) : PullIn (plPM gl) gl (fun p => p) where
  ld := rfl
  lk := fun _ => rfl
  un := fun _ _ => rfl
  tl := fun _ => rfl
  ct := fun _ _ => rfl
  n1 := fun _ => rfl
  n2 := fun _ _ => rfl
  n3 := fun _ _ _ => rfl
  n4 := fun _ _ => rfl
  n5 := fun _ _ _ => rfl

set_option maxHeartbeats 2000000 in
theorem syn_pull {σ : Type} {M : PM σ} {P T G : Int} {emb : PlT → σ} (hE : PullIn M (fun y => wd (20 + P * 264 + T * 3) G 2 y 1) emb) (hp : 0 ≤ P ∧ P ≤ 64) (hT : 0 ≤ T ∧ T ≤ 65536) (hG : 0 ≤ G ∧ G ≤ 65536)
    {w : World} {x : Nat} {A : Option Addr} {cap m : Nat} {g : Nat → Int} {s0 : σ} {j : Nat} {Q : σ → Prop} (hR : RunOn w x A cap m g (M.rj s0 g m j)) (hS : Syn M s0 g m j (emb .ld) Q) (hb : ∀ j, j < m → 0 ≤ g j ∧ g j ≤ 18446744073709551615) :
    Calls Tryz.prog 26 #[.pointer (some ⟨x, 0, none⟩), .agg #[.int .i64 P, .int .i64 T, .int .i64 G]] w fun e w' => ∃ r j' p, e = .returned (.int .i64 r) ∧ RunOn w' x A cap m g (M.rj s0 g m j') ∧ Syn M s0 g m j' (emb p) (PlQ Q emb r) ∧ p.live = false ∧ (j' ≤ m → r = p.obs) ∧ But [x] w w' ∧ j ≤ j' := by
  have hb0 : Below w.heap.size w (w.alloc (.cells #[.int .i64 P, .int .i64 T, .int .i64 G] 23)) := (Below.refl _ _).alloc (Nat.le_refl _) _
  have HX : Hid (Blk (w.alloc (.cells #[.int .i64 P, .int .i64 T, .int .i64 G] 23)) w.heap.size #[.int .i64 P, .int .i64 T, .int .i64 G] 23) := Blk.new _ _ _
  have hxw := hR.blk.lt
  have HB0 : Hid (But [x] w (w.alloc (.cells #[.int .i64 P, .int .i64 T, .int .i64 G] 23))) := But.of_below hb0
  have hGA := fun y w => refgAt_any P T G y 1 w hp hT hG.2 (by omega)
  have HE : Hid (PullIn M (fun y => wd (20 + P * 264 + T * 3) G 2 y 1) emb) := hE
  have HBD : Hid (∀ j, j < m → 0 ≤ g j ∧ g j ≤ 18446744073709551615) := hb
  have hL := syn_load (hR.below hb0) hS hb 6 (fun _ => hE.ld)
  clear hR hS hE hb hb0 hp hT hG
  go_enter Tryz.func26, Tryz.ntmps26
  go_wp2_with fail
  generalize w.alloc (.cells #[.int .i64 P, .int .i64 T, .int .i64 G] 23) = W at *
  go_at_call 72; refine hL.mono ?_; rintro e y2 ⟨v, rfl, hK⟩
  have HR2 : Hid (RunOn y2 x A cap m g (M.rj s0 g m (j + 1))) := hK.run
  have hvb := hK.bd
  have HS2 : Hid (Syn M s0 g m (j + 1) (if v = 0 then emb .none' else emb (.lnk (gw v))) (fun q => Q q ∨ ∃ p', p'.live = true ∧ q = emb p' ∧ p'.obs = -1)) := by
    have := hK.syn
    rw [HE.out.n1] at this
    exact this.weak (fun r hr => by rcases hr with rfl | hr; exact .inr ⟨.ld, rfl, rfl, rfl⟩; exact .inl hr)
  have HX2 : Hid (Blk y2 w.heap.size #[.int .i64 P, .int .i64 T, .int .i64 G] 23) := HX.out.but hK.but (by simp; omega)
  have HB2 : Hid (But [x] w y2) := HB0.out.trans hK.but
  have k0 := HX2.out.cell 0 (v := .int .i64 P) rfl
  have k1 := HX2.out.cell 1 (v := .int .i64 T) rfl
  have k2 := HX2.out.cell 2 (v := .int .i64 G) rfl
  have hxb := HX2.out.lt
  clear hL hK HX HB0
  by_cases h0 : v = 0
  · subst h0
    clear k0 k1 k2 hGA
    go_wp2_with fail
    go_ret
    refine ⟨-1, j + 1, .none', rfl, HR2.out, (HS2.out.as (t' := emb .none') (fun _ => by simp)).weak ?_, rfl, fun _ => rfl, HB2.out, Nat.le_succ j⟩
    rintro q (hq | ⟨p', h1, h2, h3⟩)
    · exact .inl ⟨hq, rfl⟩
    · exact .inr ⟨p', h1, h2, h3.symm⟩
  · have hd0 : (v == 0) = false := by simpa using h0
    have HL2 : Hid _ := fun Y (hY : Below y2.heap.size y2 Y) => syn_load (HR2.out.below hY) (HS2.out.as (fun _ => if_neg h0)) HBD.out (wd (20 + P * 264 + T * 3) G 2 (gw v) 1) (fun _ => HE.out.lk (gw v))
    have hGA2 := hGA (gw v) y2
    have e1 : wrap64 (IntKind.i64.wrap v - 1) = gw v := gw_eq v hvb
    generalize hyy : gw v = y at *
    generalize hvv : IntKind.i64.wrap v = v' at *
    clear hGA HS2 HR2 hyy
    go_wp2_with fail
    go_at_call 71; refine hGA2.mono ?_; rintro e y3 ⟨rfl, h3⟩
    have hL3 := HL2.out y3 h3
    have HB3 : Hid (But [x] w y3) := HB2.out.trans (But.of_below h3)
    clear hGA2 h3 k0 k1 k2 HX2 HB2 HL2
    go_wp2_with fail
    go_at_call 72; refine hL3.mono ?_; rintro e y4 ⟨l, rfl, hK⟩
    have hS4 : Syn M s0 g m (j + 1 + 1) (emb (.un y l)) (fun q => Q q ∨ ∃ p', p'.live = true ∧ q = emb p' ∧ p'.obs = -1) := by
      have := hK.syn
      rw [HE.out.n2] at this
      exact this.weak (fun r hr => by rcases hr with rfl | hr; exact .inr ⟨.lnk y, rfl, rfl, rfl⟩; exact hr)
    have hSt := syn_store hK.run hS4 HBD.out 6 l (fun _ => HE.out.un y l)
    have HB4 : Hid (But [x] w y4) := HB3.out.trans hK.but
    clear hL3 hK hS4 HB3
    go_wp2_with fail
    go_at_call 70; refine hSt.mono ?_; rintro e y5 ⟨⟨u5, rfl⟩, v5, hK⟩
    have HR5 : Hid (RunOn y5 x A cap m g (M.rj s0 g m (j + 1 + 1 + 1))) := hK.run
    have HS5 : Hid (Syn M s0 g m (j + 1 + 1 + 1) (if l = 0 then emb (.tl y) else emb (.ct y l)) (fun q => Q q ∨ ∃ p', p'.live = true ∧ q = emb p' ∧ p'.obs = -1)) := by
      have := hK.syn
      rw [HE.out.n3] at this
      exact this.weak (fun r hr => by rcases hr with rfl | hr; exact .inr ⟨.un y l, rfl, rfl, rfl⟩; exact hr)
    have HB5 : Hid (But [x] w y5) := HB4.out.trans hK.but
    have sc := HR5.out.blk.cell 2 (v := .bool (M.rj s0 g m (j + 1 + 1 + 1)).stop) rfl
    rw [rj_stop HS5.out] at sc
    clear hSt hK HB4
    by_cases hst : m < j + 1 + 1 + 1
    · have HST : Hid (m < j + 1 + 1 + 1) := hst
      have HPAST : Hid (PlQ Q emb (-1) (M.run s0 g m)) := by
        rcases (HS5.out.past hst).1 with hq | ⟨p', h1, h2, h3⟩
        · exact .inl ⟨hq, rfl⟩
        · exact .inr ⟨p', h1, h2, h3.symm⟩
      rw [decide_eq_true hst] at sc
      clear hst
      by_cases hl0 : l = 0
      · subst hl0
        have hS6 := syn_store HR5.out (HS5.out.as (t' := emb (.tl y)) (fun _ => by simp)) HBD.out 7 0 (fun _ => HE.out.tl y)
        go_wp2_with fail
        go_at_call 70; refine hS6.mono ?_; rintro e y6 ⟨⟨u6, rfl⟩, v6, hK⟩
        have HS6 : Hid (Syn M s0 g m (j + 1 + 1 + 1 + 1) (emb (.ct y 0)) (PlQ Q emb (-1))) := ⟨fun h => absurd h (by have := HST.out; omega), fun h => ⟨HPAST.out, (HS5.out.past HST.out).2⟩⟩
        have HB6 : Hid (But [x] w y6) := HB5.out.trans hK.but
        have hA := syn_add hK.run HS6.out HBD.out 8 4294967295 (fun _ => HE.out.ct y 0)
        clear hS6 hK sc
        go_wp2_with fail
        go_at_call 73; refine hA.mono ?_; rintro e y7 ⟨v7, rfl, hK⟩
        have HF : Hid (RunOn y7 x A cap m g (M.rj s0 g m (j + 1 + 1 + 1 + 1 + 1)) ∧ Syn M s0 g m (j + 1 + 1 + 1 + 1 + 1) (emb (.over y 0)) (PlQ Q emb (-1)) ∧ But [x] w y7) := by
          exact ⟨hK.run, ⟨fun h => absurd h (by have := HST.out; omega), fun h => ⟨HPAST.out, (HS5.out.past HST.out).2⟩⟩, HB6.out.trans hK.but⟩
        clear hA hK
        go_wp2_with fail
        go_ret
        exact ⟨(-1), j + 1 + 1 + 1 + 1 + 1, .over y 0, rfl, HF.out.1, HF.out.2.1, rfl, fun h => absurd h (by have := HST.out; omega), HF.out.2.2, by omega⟩
      · have hdl : (l == 0) = false := by simpa using hl0
        have hA := syn_add HR5.out (HS5.out.as (fun _ => if_neg hl0)) HBD.out 8 4294967295 (fun _ => HE.out.ct y l)
        go_wp2_with fail
        go_at_call 73; refine hA.mono ?_; rintro e y7 ⟨v7, rfl, hK⟩
        have HF : Hid (RunOn y7 x A cap m g (M.rj s0 g m (j + 1 + 1 + 1 + 1)) ∧ Syn M s0 g m (j + 1 + 1 + 1 + 1) (emb (.over y l)) (PlQ Q emb (-1)) ∧ But [x] w y7) := by
          exact ⟨hK.run, ⟨fun h => absurd h (by have := HST.out; omega), fun h => ⟨HPAST.out, (HS5.out.past HST.out).2⟩⟩, HB5.out.trans hK.but⟩
        clear hA hK
        go_wp2_with fail
        go_ret
        exact ⟨(-1), j + 1 + 1 + 1 + 1, .over y l, rfl, HF.out.1, HF.out.2.1, rfl, fun h => absurd h (by have := HST.out; omega), HF.out.2.2, by omega⟩
    · have HST : Hid (j + 1 + 1 + 1 ≤ m) := (by omega : j + 1 + 1 + 1 ≤ m)
      rw [decide_eq_false hst] at sc
      clear hst
      by_cases hl0 : l = 0
      · subst hl0
        have hS6 := syn_store HR5.out (HS5.out.as (t' := emb (.tl y)) (fun _ => by simp)) HBD.out 7 0 (fun _ => HE.out.tl y)
        go_wp2_with fail
        go_at_call 70; refine hS6.mono ?_; rintro e y6 ⟨⟨u6, rfl⟩, v6, hK⟩
        have HS6 : Hid (Syn M s0 g m (j + 1 + 1 + 1 + 1) (emb (.ct y 0)) (PlQ Q emb y)) := by
          have := (hK.syn)
          rw [HE.out.n4] at this
          refine ⟨this.at', fun h => ⟨?_, (this.past h).2⟩⟩
          have hm : m = j + 1 + 1 + 1 := by have := HST.out; omega
          have h2 := (HS5.out.as (t' := emb (.tl y)) (fun _ => by simp)).at' HST.out
          rw [← hm] at h2
          exact .inr ⟨.tl y, rfl, h2, rfl⟩
        have HB6 : Hid (But [x] w y6) := HB5.out.trans hK.but
        have hA := syn_add hK.run HS6.out HBD.out 8 4294967295 (fun _ => HE.out.ct y 0)
        clear hS6 hK sc
        go_wp2_with fail
        go_at_call 73; refine hA.mono ?_; rintro e y7 ⟨v7, rfl, hK⟩
        have HF : Hid (RunOn y7 x A cap m g (M.rj s0 g m (j + 1 + 1 + 1 + 1 + 1)) ∧ Syn M s0 g m (j + 1 + 1 + 1 + 1 + 1) (emb (.over y 0)) (PlQ Q emb y) ∧ But [x] w y7) := by
          have := hK.syn
          rw [HE.out.n5] at this
          exact ⟨hK.run, this.weak (fun r hr => by rcases hr with rfl | hr; exact .inr ⟨.ct y 0, rfl, rfl, rfl⟩; exact hr), HB6.out.trans hK.but⟩
        clear hA hK
        go_wp2_with fail
        go_ret
        exact ⟨y, j + 1 + 1 + 1 + 1 + 1, .over y 0, rfl, HF.out.1, HF.out.2.1, rfl, fun _ => rfl, HF.out.2.2, by omega⟩
      · have hdl : (l == 0) = false := by simpa using hl0
        have hA := syn_add HR5.out (HS5.out.as (fun _ => if_neg hl0)) HBD.out 8 4294967295 (fun _ => HE.out.ct y l)
        go_wp2_with fail
        go_at_call 73; refine hA.mono ?_; rintro e y7 ⟨v7, rfl, hK⟩
        have HF : Hid (RunOn y7 x A cap m g (M.rj s0 g m (j + 1 + 1 + 1 + 1)) ∧ Syn M s0 g m (j + 1 + 1 + 1 + 1) (emb (.over y l)) (PlQ Q emb y) ∧ But [x] w y7) := by
          have := hK.syn
          rw [HE.out.n5] at this
          refine ⟨hK.run, ⟨this.at', fun h => ⟨?_, (this.past h).2⟩⟩, HB5.out.trans hK.but⟩
          have hm : m = j + 1 + 1 + 1 := by have := HST.out; omega
          have h2 := (HS5.out.as (fun _ => if_neg hl0)).at' HST.out
          rw [← hm] at h2
          exact .inr ⟨.ct y l, rfl, h2, rfl⟩
        clear hA hK
        go_wp2_with fail
        go_ret
        exact ⟨y, j + 1 + 1 + 1 + 1, .over y l, rfl, HF.out.1, HF.out.2.1, rfl, fun _ => rfl, HF.out.2.2, by omega⟩

theorem rgpull_on (w : World) (x : Nat) (A : Option Addr) (cap m : Nat) (gf : Nat → Int) (P T G : Int) (t : PlT) (h : RunOn w x A cap m gf rn0) (hh : Hist (plPM (fun y => wd (20 + P * 264 + T * 3) G 2 y 1)) .ld gf m t) (hp : 0 ≤ P ∧ P ≤ 64) (hT : 0 ≤ T ∧ T ≤ 65536) (hG : 0 ≤ G ∧ G ≤ 65536) :
    Calls Tryz.prog 26 #[.pointer (some ⟨x, 0, none⟩), .agg #[.int .i64 P, .int .i64 T, .int .i64 G]] w fun e w' => e = .returned (.int .i64 t.obs) ∧ RunOn w' x A cap m gf ((plPM (fun y => wd (20 + P * 264 + T * 3) G 2 y 1)).rn t m) ∧ But [x] w w' := by
  rw [← rj_start (M := plPM (fun y => wd (20 + P * 264 + T * 3) G 2 y 1)) (s0 := PlT.ld) (g := gf) (m := m)] at h
  refine (syn_pull (pl_in _) hp hT hG h (Syn.start _ _ _ _) hh.bd).mono ?_
  rintro e w' ⟨r, j', p, rfl, h1, h2, h3, h4, h5, -⟩
  have hn : (plPM (fun y => wd (20 + P * 264 + T * 3) G 2 y 1)).ax p = none := by cases p <;> first | rfl | cases h3
  have hr : r = t.obs := by
    rcases h2.fin hh (fun _ => hn) with ⟨e1, e2⟩ | ⟨-, (⟨hf, -⟩ | ⟨p', -, e1, e2⟩)⟩
    · rw [e1]; exact h4 (by omega)
    · exact hf.elim
    · rw [e1]; exact e2
  rw [hr]
  refine ⟨rfl, ?_, h5⟩
  rw [← rj_end h2 hh (fun _ => hn)]
  exact h1
end Go.Proofs.YtiagkeakohkfgaaGreat

namespace Go.Proofs.YtiagkeakohkfgaaGreat
open Go Go.RowKit
set_option linter.unusedVariables false
set_option maxRecDepth 100000
set_option linter.unusedSimpArgs false

def tkCells (who : Int) (nx : Option Addr) (cl : Nat) (p most left : Int) (f o : Option Addr) (tl : Int) : Array Value := #[.int .i64 who, .pointer nx, .pointer (some ⟨cl, 0, none⟩), .int .i64 p, .int .i64 most, .int .u64 left, .pointer f, .pointer o, .int .u64 tl]
theorem layproc2_any (o : Option Addr) (P T G n f : Int) (w : World) (h : LayO w P T G o) (hp : 0 ≤ P ∧ P ≤ 64) (hf : 0 ≤ f ∧ f < 8) : Calls Tryz.prog 134 #[.pointer o, .int .i64 n, .int .i64 f] w fun e w' => e = .returned (.int .i64 (wd 20 P 264 n f)) ∧ Below w.heap.size w w' := by
  have HL : Hid _ := h
  have d1 : decide (8 ≤ f) = false := decide_eq_false (by omega)
  clear h
  go_enter Tryz.func134, Tryz.ntmps134
  go_wp2_with fail
  go_at_call 136; refine (procs_any o P T G _ HL.out).mono ?_; rintro e w1 ⟨rfl, h1⟩
  go_wp2_with fail
  go_at_call 124; refine (word_any 20 P 264 n f _ (by omega) (by omega) (by omega)).mono ?_; rintro e w2 ⟨rfl, h2⟩
  have hb := seq h1 h2
  go_wp2_with fail
  go_ret
  exact ⟨rfl, hb⟩

theorem layring_any (o : Option Addr) (P T G n i : Int) (w : World) (h : LayO w P T G o) (hp : 0 ≤ P ∧ P ≤ 64) (hi : 0 ≤ i ∧ i ≤ 18446744073709551615) : Calls Tryz.prog 97 #[.pointer o, .int .i64 n, .int .u64 i] w fun e w' => e = .returned (.int .i64 (wd 20 P 264 n (8 + i % 256))) ∧ Below w.heap.size w w' := by
  have HL : Hid _ := h
  have e1 : i.tmod 256 = i % 256 := Int.tmod_eq_emod_of_nonneg (by omega)
  generalize hz : i % 256 = z at *
  have e2 : IntKind.i64.wrap z = z := by simp [IntKind.wrap, IntKind.bits, IntKind.signed]; omega
  have e3 : IntKind.i64.wrap (8 + z) = 8 + z := by simp [IntKind.wrap, IntKind.bits, IntKind.signed]; omega
  have hzb : 0 ≤ z ∧ z < 256 := by omega
  clear h hz hi
  go_enter Tryz.func97, Tryz.ntmps97
  go_wp2_with fail
  go_at_call 136; refine (procs_any o P T G _ HL.out).mono ?_; rintro e w1 ⟨rfl, h1⟩
  go_wp2_with fail
  go_at_call 124; refine (word_any 20 P 264 n (8 + z) _ (by omega) (by omega) (by omega)).mono ?_; rintro e w2 ⟨rfl, h2⟩
  have hb := seq h1 h2
  go_wp2_with fail
  go_ret
  exact ⟨rfl, hb⟩


/-- How many are taken of so many. -/
def shareOf (P most v : Int) : Int := if 0 < most then (if most < (if 128 < (if IntKind.u64.wrap (v / P + 1) < v then IntKind.u64.wrap (v / P + 1) else v) then 128 else (if IntKind.u64.wrap (v / P + 1) < v then IntKind.u64.wrap (v / P + 1) else v)) then most else (if 128 < (if IntKind.u64.wrap (v / P + 1) < v then IntKind.u64.wrap (v / P + 1) else v) then 128 else (if IntKind.u64.wrap (v / P + 1) < v then IntKind.u64.wrap (v / P + 1) else v))) else (if 128 < (if IntKind.u64.wrap (v / P + 1) < v then IntKind.u64.wrap (v / P + 1) else v) then 128 else (if IntKind.u64.wrap (v / P + 1) < v then IntKind.u64.wrap (v / P + 1) else v))
theorem take_share (w : World) (x cl : Nat) (who p most left tl P T G v : Int) (nx f o : Option Addr) (h : Blk w x (tkCells who nx cl p most left f o tl) 141) (hl : Lay w cl P T G) (hp : 1 ≤ P ∧ P ≤ 64) (hv : 0 ≤ v ∧ v ≤ 18446744073709551615) (hm : -9223372036854775808 ≤ most ∧ most ≤ 9223372036854775807) :
    Calls Tryz.prog 142 #[.pointer (some ⟨x, 0, none⟩), .int .u64 v] w fun e w' => e = .returned (.int .u64 (shareOf P most v)) ∧ Below w.heap.size w w' := by
  have c2 := h.cell 2 (v := .pointer (some ⟨cl, 0, none⟩)) rfl
  have c4 := h.cell 4 (v := .int .i64 most) rfl
  have hC := fun Y (hY : Below w.heap.size w Y) => config_any (some ⟨cl, 0, none⟩) P T G Y (.some cl (hl.below hY hl.lt))
  have HC : Hid _ := hC
  have e1 : IntKind.u64.wrap P = P := wrap_u64 (by omega)
  have e2 : (P == 0) = false := by simp; omega
  clear h hl hC
  go_enter Tryz.func142, Tryz.ntmps142
  go_wp2_with fail
  go_at_call 81; refine (HC.out w (Below.refl _ _)).mono ?_; rintro e w1 ⟨rfl, k1⟩
  have hf := field_c0
  clear HC c2
  have c4 : w1.cell? ⟨x, 4, none⟩ = some (.int .i64 most) := by
    rw [k1.cell (p := ⟨x, 4, none⟩) (cell_lt c4)]; exact c4
  go_wp2_with fail
  all_goals
    go_ret
    refine ⟨congrArg (fun z => Ending.returned (Value.int .u64 z)) ?_, k1⟩
    unfold shareOf
    (repeat' split) <;> first | rfl | omega

theorem take_more_end (w : World) (x cl : Nat) (who p most left tl : Int) (nx f o : Option Addr) (h : Blk w x (tkCells who nx cl p most left f o tl) 141) (hl : left ≤ 1) :
    Calls Tryz.prog 145 #[.pointer (some ⟨x, 0, none⟩)] w fun e w' => (∃ v, e = .returned v) ∧ Blk w' x (tkCells who nx cl p most left f none tl) 141 ∧ But [x] w w' := by
  have c7 := h.cell 7 (v := .pointer o) rfl
  have f7 := h.fro 7
  have hlt := h.lt
  have h' : Blk _ x (tkCells who nx cl p most left f none tl) 141 := h.set 7 (.pointer none)
  have hB : But [x] w (w.setCell ⟨x, 7, none⟩ (.pointer none)) := (But.refl _ w).set (g := x) (.inl (by simp)) 7 _
  have HF : Hid _ := And.intro h' hB
  have k5 := h'.cell 5 (v := .int .u64 left) rfl
  have hd : decide (left ≤ 1) = true := decide_eq_true hl
  clear h h' hB
  go_enter Tryz.func145, Tryz.ntmps145
  go_wp2_with fail
  refine bodyPost_ret (results_none rfl _ _ _) rfl ?_
  exact ⟨⟨_, rfl⟩, HF.out⟩
set_option maxHeartbeats 4000000 in
theorem take_more_on (w : World) (x cl : Nat) (who p most left tl P T G : Int) (nx f o : Option Addr) (hp : 0 ≤ P ∧ P ≤ 64) (hT : 0 ≤ T ∧ T ≤ 65536) (hG : 0 ≤ G ∧ G ≤ 65536) (h : Blk w x (tkCells who nx cl p most left f o tl) 141) (hl : 1 < left ∧ left ≤ 18446744073709551615) :
    Calls Tryz.prog 145 #[.pointer (some ⟨x, 0, none⟩)] w fun e w' => (∃ v, e = .returned v) ∧ ∃ y L q g, CameBox w w' x (tkCells who nx cl p most (left - 1) f (some ⟨y, 0, none⟩) tl) 141 (fun v => comCells 0 0 0 0 0 false (.iface 64 (.pointer (some ⟨y, 0, none⟩))) v false false) (.func (.func 165) #[.pointer (some ⟨x, 0, none⟩)] #[]) q g ∧ (plFl who cl).I (plPM (fun y => wd (20 + P * 264 + T * 3) G 2 y 1)) w' y .ld L ∧ (∀ k ∈ L, w.heap.size ≤ k) ∧ q ∉ L ∧ g ∉ L := by
  have HGD : Hid (((plFl who cl).I (plPM (fun y => wd (20 + P * 264 + T * 3) G 2 y 1))).Good (plPM (fun y => wd (20 + P * 264 + T * 3) G 2 y 1))) := Fl.good (pl_laws who P T G cl hp hT hG)
  generalize (fun y => wd (20 + P * 264 + T * 3) G 2 y 1) = gl at *
  clear hp hT hG
  have c7 := h.cell 7 (v := .pointer o) rfl
  have f7 := h.fro 7
  have hlt := h.lt
  have h' : Blk _ x (tkCells who nx cl p most left f none tl) 141 := h.set 7 (.pointer none)
  have hB : But [x] w (w.setCell ⟨x, 7, none⟩ (.pointer none)) := (But.refl _ w).set (g := x) (.inl (by simp)) 7 _
  generalize hV : w.setCell ⟨x, 7, none⟩ (.pointer none) = V at h' hB
  have k5 := h'.cell 5 (v := .int .u64 left) rfl
  have f5 := h'.fro 5
  have h2' : Blk _ x (tkCells who nx cl p most (left - 1) f none tl) 141 := h'.set 5 (.int .u64 (left - 1))
  have hB2 : But [x] w (V.setCell ⟨x, 5, none⟩ (.int .u64 (left - 1))) := hB.set (g := x) (.inl (by simp)) 5 _
  have e1 : IntKind.u64.wrap (left - 1) = left - 1 := wrap_u64 (by omega)
  have hd : decide (left ≤ 1) = false := decide_eq_false (by omega)
  have hltV := h'.lt
  generalize hV2 : V.setCell ⟨x, 5, none⟩ (.int .u64 (left - 1)) = V2 at h2' hB2
  have HF : Hid _ := And.intro h2' hB2
  clear h h' hB h2' hB2
  go_enter Tryz.func145, Tryz.ntmps145
  go_wp2_with fail
  clear hV hV2 c7 f7 k5 f5
  have hWho := who_any V2.drew x who (HF.out.1.drew.cell 0 rfl)
  have hN := pl_new V2.drew cl who gl
  have c2 := HF.out.1.cell 2 (v := .pointer (some ⟨cl, 0, none⟩)) rfl
  have HS : Hid (∀ w4, Below V2.drew.heap.size V2.drew w4 → w4.cell? ⟨x, 7, none⟩ = some (.pointer none) ∧ w4.frozen? ⟨x, 7, none⟩ = false ∧ x < w4.heap.size) := fun w4 k => by
    have h4 := HF.out.1.drew.but (But.of_below (l := []) k) (by simp)
    exact ⟨h4.cell 7 rfl, h4.fro 7, h4.lt⟩
  go_region_with (first | (go_at_call 143; refine hWho.mono ?_; rintro e w3 ⟨rfl, rfl⟩) | (go_at_call 25; refine hN.mono ?_; rintro e w4 ⟨y, L, rfl, i1, i2, i3, i4⟩; obtain ⟨d7, g7, l7⟩ := HS.out w4 i2))
  all_goals
    have h5 : Blk _ x (tkCells who nx cl p most (left - 1) f (some ⟨y, 0, none⟩) tl) 141 := (HF.out.1.drew.but (But.of_below (l := []) i2) (by simp)).set 7 (.pointer (some ⟨y, 0, none⟩))
    have hB5 : But [x] w (w4.setCell ⟨x, 7, none⟩ (.pointer (some ⟨y, 0, none⟩))) := (HF.out.2.drew.trans (But.of_below i2)).set (g := x) (.inl (by simp)) 7 _
    have hsz : w.heap.size ≤ V2.drew.heap.size := HF.out.2.drew.size
    have hxL : x ∉ L := fun hm => absurd (i3 x hm) (by omega)
    have hi5 : (plFl who cl).I (plPM gl) (w4.setCell ⟨x, 7, none⟩ (.pointer (some ⟨y, 0, none⟩))) y .ld L := HGD.out.keep i1 ((But.refl [x] w4).set (g := x) (.inl (by simp)) 7 _) (fun k hk => by simp; rintro rfl; exact hxL hk)
    have hyx : y ≠ x := by omega
    generalize w4.setCell ⟨x, 7, none⟩ (.pointer (some ⟨y, 0, none⟩)) = W5 at *
    obtain ⟨ny, n1, n2⟩ := HGD.out.next hi5
    obtain ⟨a, rfl⟩ : ∃ a, ny = some a := by cases ny with | none => cases n2 | some a => exact ⟨a, rfl⟩
    have hf := frun_qpull W5.drew x y _ 141 (.func (.func 165) #[.pointer (some ⟨x, 0, none⟩)] #[]) a h5.drew (by simp [tkCells]) (.some _ _ _) hyx n1
    have c7 := h5.cell 7 (v := .pointer (some ⟨y, 0, none⟩)) rfl
    have HE : Hid (But [x] w W5.drew ∧ (plFl who cl).I (plPM gl) W5.drew y .ld L ∧ (∀ k ∈ L, w.heap.size ≤ k) ∧ (∀ k ∈ L, k < W5.drew.heap.size) ∧ x ∉ L) := ⟨hB5.drew, HGD.out.below hi5 (Below.refl _ _).drew, fun k hk => Nat.le_trans hsz (i3 k hk), fun k hk => HGD.out.lt hi5 k hk, hxL⟩
    clear h5 hB5 hi5 n1 n2 i1 i2 i3 i4 d7 g7 l7 HS hN hWho c2 HF hxL hsz
    go_wp2_with fail
    go_region_with (first | (go_at_call 144; refine hf.mono ?_; rintro e w6 ⟨⟨v, rfl⟩, q, g, hC⟩))
    all_goals
      have HZ : Hid (CameBox w w6 x (tkCells who nx cl p most (left - 1) f (some ⟨y, 0, none⟩) tl) 141 (fun v => comCells 0 0 0 0 0 false (.iface 64 (.pointer (some ⟨y, 0, none⟩))) v false false) (.func (.func 165) #[.pointer (some ⟨x, 0, none⟩)] #[]) q g ∧ (plFl who cl).I (plPM gl) w6 y .ld L ∧ (∀ k ∈ L, w.heap.size ≤ k) ∧ q ∉ L ∧ g ∉ L) := by
        have q1 : W5.drew.heap.size ≤ q := hC.at'.fresh
        have g1 : W5.drew.heap.size ≤ g := hC.fresh
        exact ⟨hC.before HE.out.1, HGD.out.keep HE.out.2.1 hC.at'.but (fun k hk => by simp; rintro rfl; exact HE.out.2.2.2.2 hk), HE.out.2.2.1, fun hm => absurd (HE.out.2.2.2.1 q hm) (by omega), fun hm => absurd (HE.out.2.2.2.1 g hm) (by omega)⟩
      clear hf hC c7 HE
      go_wp2_with fail
      go_end0
      exact ⟨⟨_, rfl⟩, y, L, q, g, HZ.out⟩
end Go.Proofs.YtiagkeakohkfgaaGreat

namespace Go.Proofs.YtiagkeakohkfgaaGreat
open Go Go.RowKit
set_option linter.unusedVariables false
set_option maxRecDepth 100000
set_option linter.unusedSimpArgs false

section
variable (w : World) (x cl : Nat) (who p most left tl P T G : Int) (nx f o : Option Addr) (h : Blk w x (tkCells who nx cl p most left f o tl) 141) (hl : Lay w cl P T G) (hp : 0 ≤ P ∧ P ≤ 64)
include h hl hp
theorem take_lengthen (htl : 0 ≤ tl ∧ tl ≤ 18446744073709551615) : Calls Tryz.prog 185 #[.pointer (some ⟨x, 0, none⟩)] w fun e w' => (∃ v, e = .returned v) ∧ Came w w' x (tkCells who nx cl p most left f o tl) 141 (axSt (wd 20 P 264 p 2) (IntKind.u64.wrap (tl + 1) % 4294967296)) (.untold 145) := by
  have c2 := h.cell 2 (v := .pointer (some ⟨cl, 0, none⟩)) rfl
  have c3 := h.cell 3 (v := .int .i64 p) rfl
  have c8 := h.cell 8 (v := .int .u64 tl) rfl
  have hlt := h.lt
  have hPr := layproc2_any (some ⟨cl, 0, none⟩) P T G p 2 w.drew (.some cl hl) hp (by omega)
  obtain ⟨z, hz⟩ : ∃ z, IntKind.u64.wrap (tl + 1) = z := ⟨_, rfl⟩
  have hzb : 0 ≤ z := by rw [← hz]; simp [IntKind.wrap, IntKind.bits, IntKind.signed]; omega
  have ht : z.tmod 4294967296 = z % 4294967296 := Int.tmod_eq_emod_of_nonneg hzb
  rw [hz]
  generalize z % 4294967296 = u at *
  have HS : Hid (∀ w4, Below w.drew.heap.size w.drew w4 → w4.cell? ⟨x, 8, none⟩ = some (.int .u64 tl) ∧ Calls Tryz.prog 113 #[.pointer (some ⟨x, 0, none⟩), .int .i64 (wd 20 P 264 p 2), .int .u64 u, .func (.func 145) #[.pointer (some ⟨x, 0, none⟩)] #[]] w4 fun e w' => (∃ v, e = .returned v) ∧ Came w w' x (tkCells who nx cl p most left f o tl) 141 (axSt (wd 20 P 264 p 2) u) (.untold 145)) := by
    intro w4 k
    have h4 : Blk w4 x (tkCells who nx cl p most left f o tl) 141 := h.drew.but (But.of_below (l := []) k) (by simp)
    refine ⟨h4.cell 8 rfl, (came_store w4 x _ 141 h4 (by simp [tkCells]) _ _ _).mono ?_⟩
    rintro e w5 ⟨hv, hC⟩
    exact ⟨hv, hC.before ((But.refl [x] w).drew.trans (But.of_below k))⟩
  generalize wd 20 P 264 p 2 = at' at *
  have hH : Hid (w.drew.cell? ⟨x, 2, none⟩ = some (.pointer (some ⟨cl, 0, none⟩)) ∧ w.drew.cell? ⟨x, 3, none⟩ = some (.int .i64 p) ∧ w.drew.cell? ⟨x, 8, none⟩ = some (.int .u64 tl)) := ⟨c2, c3, c8⟩
  have KB : Hid (∀ w4, Below w.drew.heap.size w.drew w4 → w4.cell? ⟨x, 2, none⟩ = some (.pointer (some ⟨cl, 0, none⟩)) ∧ w4.cell? ⟨x, 3, none⟩ = some (.int .i64 p) ∧ w4.cell? ⟨x, 8, none⟩ = some (.int .u64 tl)) := fun w4 k => by
    have h4 : Blk w4 x (tkCells who nx cl p most left f o tl) 141 := h.drew.but (But.of_below (l := []) k) (by simp)
    exact ⟨h4.cell 2 rfl, h4.cell 3 rfl, h4.cell 8 rfl⟩
  have KC : Hid (∀ w5, Came w w5 x (tkCells who nx cl p most left f o tl) 141 (axSt at' u) (.untold 145) → w5.cell? ⟨x, 2, none⟩ = some (.pointer (some ⟨cl, 0, none⟩)) ∧ w5.cell? ⟨x, 3, none⟩ = some (.int .i64 p) ∧ w5.cell? ⟨x, 8, none⟩ = some (.int .u64 tl)) := fun w5 hC => by
    obtain ⟨q, Lc, h1, -⟩ := hC
    exact ⟨h1.cell 2 rfl, h1.cell 3 rfl, h1.cell 8 rfl⟩
  clear h hl hp htl
  go_enter Tryz.func185, Tryz.ntmps185
  go_wp2_with fail
  go_region_held3 (fun w' => w'.cell? ⟨x, 2, none⟩ = some (.pointer (some ⟨cl, 0, none⟩)) ∧ w'.cell? ⟨x, 3, none⟩ = some (.int .i64 p) ∧ w'.cell? ⟨x, 8, none⟩ = some (.int .u64 tl)) (first | exact hH.out | exact KB.out _ ‹_› | exact KC.out _ ‹_›) (first | (go_at_call 134; refine hPr.mono ?_; rintro e w4 ⟨rfl, k⟩) | (go_at_call 113; refine (HS.out _ ‹_›).2.mono ?_; rintro e w5 ⟨⟨v, rfl⟩, hC⟩))
  all_goals
    clear hPr k HS c2 c3 c8 hH KB KC
    go_wp2_with fail
    go_end0
    exact ⟨⟨_, rfl⟩, hC⟩
omit hl hp in
theorem take_look_none (hg : ∀ Y, Below w.heap.size w Y → Calls Tryz.prog 28 #[.pointer o] Y fun e w' => e = .returned (.int .i64 (-1)) ∧ Y = w') : Calls Tryz.prog 165 #[.pointer (some ⟨x, 0, none⟩)] w fun e w' => (∃ v, e = .returned v) ∧ w = w' := by
  have c7 := h.cell 7 (v := .pointer o) rfl
  have H := hg w (Below.refl _ _)
  clear h hg
  go_enter Tryz.func165, Tryz.ntmps165
  go_wp2_with fail
  go_at_call 28; refine H.mono ?_; rintro e w1 ⟨rfl, rfl⟩
  clear H c7
  go_wp2_with fail
  refine bodyPost_ret (results_none rfl _ _ _) rfl ?_
  exact ⟨⟨_, rfl⟩, rfl⟩
theorem take_look_some (g : Int) (hg1 : g ≠ -1) (hg : ∀ Y, Below w.heap.size w Y → Calls Tryz.prog 28 #[.pointer o] Y fun e w' => e = .returned (.int .i64 g) ∧ Y = w') : Calls Tryz.prog 165 #[.pointer (some ⟨x, 0, none⟩)] w fun e w' => (∃ v, e = .returned v) ∧ Came w w' x (tkCells who nx cl p most left f o tl) 141 (axLd (wd 20 P 264 p 2)) (.told 176) := by
  have c7 := h.cell 7 (v := .pointer o) rfl
  have c2 := h.cell 2 (v := .pointer (some ⟨cl, 0, none⟩)) rfl
  have c3 := h.cell 3 (v := .int .i64 p) rfl
  have H := hg w (Below.refl _ _)
  have hPr := layproc2_any (some ⟨cl, 0, none⟩) P T G p 2 w.drew (.some cl hl) hp (by omega)
  have HS : Hid (∀ w4, Below w.drew.heap.size w.drew w4 → Calls Tryz.prog 125 #[.pointer (some ⟨x, 0, none⟩), .int .i64 (wd 20 P 264 p 2), .func (.func 176) #[.pointer (some ⟨x, 0, none⟩)] #[]] w4 fun e w' => (∃ v, e = .returned v) ∧ Came w w' x (tkCells who nx cl p most left f o tl) 141 (axLd (wd 20 P 264 p 2)) (.told 176)) := by
    intro w4 k
    have h4 : Blk w4 x (tkCells who nx cl p most left f o tl) 141 := h.drew.but (But.of_below (l := []) k) (by simp)
    refine (came_load w4 x _ 141 h4 (by simp [tkCells]) _ _).mono ?_
    rintro e w5 ⟨hv, hC⟩
    exact ⟨hv, hC.before ((But.refl [x] w).drew.trans (But.of_below k))⟩
  have hd : (g == -1) = false := by simpa using hg1
  generalize wd 20 P 264 p 2 = at' at *
  have hH : Hid (w.drew.cell? ⟨x, 2, none⟩ = some (.pointer (some ⟨cl, 0, none⟩)) ∧ w.drew.cell? ⟨x, 3, none⟩ = some (.int .i64 p)) := ⟨c2, c3⟩
  have KB : Hid (∀ w4, Below w.drew.heap.size w.drew w4 → w4.cell? ⟨x, 2, none⟩ = some (.pointer (some ⟨cl, 0, none⟩)) ∧ w4.cell? ⟨x, 3, none⟩ = some (.int .i64 p)) := fun w4 k => by
    have h4 : Blk w4 x (tkCells who nx cl p most left f o tl) 141 := h.drew.but (But.of_below (l := []) k) (by simp)
    exact ⟨h4.cell 2 rfl, h4.cell 3 rfl⟩
  have KC : Hid (∀ w5, Came w w5 x (tkCells who nx cl p most left f o tl) 141 (axLd at') (.told 176) → w5.cell? ⟨x, 2, none⟩ = some (.pointer (some ⟨cl, 0, none⟩)) ∧ w5.cell? ⟨x, 3, none⟩ = some (.int .i64 p)) := fun w5 hC => by
    obtain ⟨q, Lc, h1, -⟩ := hC
    exact ⟨h1.cell 2 rfl, h1.cell 3 rfl⟩
  clear h hl hp hg hg1
  go_enter Tryz.func165, Tryz.ntmps165
  go_wp2_with fail
  go_at_call 28; refine H.mono ?_; rintro e w1 ⟨rfl, rfl⟩
  clear H c7
  go_wp2_with fail
  go_region_held3 (fun w' => w'.cell? ⟨x, 2, none⟩ = some (.pointer (some ⟨cl, 0, none⟩)) ∧ w'.cell? ⟨x, 3, none⟩ = some (.int .i64 p)) (first | exact hH.out | exact KB.out _ ‹_› | exact KC.out _ ‹_›) (first | (go_at_call 134; refine hPr.mono ?_; rintro e w4 ⟨rfl, k⟩) | (go_at_call 125; refine (HS.out _ ‹_›).mono ?_; rintro e w5 ⟨⟨v, rfl⟩, hC⟩))
  all_goals
    clear hPr k HS c2 c3 hH KB KC
    go_wp2_with fail
    go_end0
    exact ⟨⟨_, rfl⟩, hC⟩
theorem take_lay (v0 g : Int) (hv : 0 ≤ v0 ∧ v0 ≤ 18446744073709551615) (hgb : 0 ≤ g ∧ g ≤ 1000000) (hxc : cl ≠ x) (hg : ∀ Y, But [x] w Y → Calls Tryz.prog 28 #[.pointer o] Y fun e w' => e = .returned (.int .i64 g) ∧ Y = w') : Calls Tryz.prog 176 #[.pointer (some ⟨x, 0, none⟩), .int .u64 v0] w fun e w' => (∃ v, e = .returned v) ∧ Came w w' x (tkCells who nx cl p most left f o v0) 141 (axSt (wd 20 P 264 p (8 + v0 % 256)) (g + 1)) (.untold 185) := by
  have c8 := h.cell 8 (v := .int .u64 tl) rfl
  have f8 := h.fro 8
  have hlt := h.lt
  have h' : Blk _ x (tkCells who nx cl p most left f o v0) 141 := h.set 8 (.int .u64 v0)
  have hB : But [x] w (w.setCell ⟨x, 8, none⟩ (.int .u64 v0)) := (But.refl _ w).set (g := x) (.inl (by simp)) 8 _
  have hl' : Lay (w.setCell ⟨x, 8, none⟩ (.int .u64 v0)) cl P T G := (hB.block cl hl.lt (by simpa using hxc)).trans hl
  generalize hV : w.setCell ⟨x, 8, none⟩ (.int .u64 v0) = V at h' hB hl'
  have c2 := h'.cell 2 (v := .pointer (some ⟨cl, 0, none⟩)) rfl
  have c3 := h'.cell 3 (v := .int .i64 p) rfl
  have c7 := h'.cell 7 (v := .pointer o) rfl
  have HR : Hid (∀ Y, Below V.drew.heap.size V.drew Y → Calls Tryz.prog 97 #[.pointer (some ⟨cl, 0, none⟩), .int .i64 p, .int .u64 v0] Y fun e w' => e = .returned (.int .i64 (wd 20 P 264 p (8 + v0 % 256))) ∧ Below V.drew.heap.size V.drew w') := fun Y k => (layring_any (some ⟨cl, 0, none⟩) P T G p v0 Y (.some cl (Lay.below (w := V.drew) hl' k hl'.lt)) hp hv).mono fun e w' hh => ⟨hh.1, k.trans (hh.2.mono k.size)⟩
  have HG : Hid (∀ Y, Below V.drew.heap.size V.drew Y → Calls Tryz.prog 28 #[.pointer o] Y fun e w' => e = .returned (.int .i64 g) ∧ Y = w') := fun Y k => hg Y (hB.drew.trans (But.of_below k))
  have HQ : Hid (∀ Y, Calls Tryz.prog 112 #[.int .i64 g] Y fun e w' => e = .returned (.int .u64 (g + 1)) ∧ Y = w') := fun Y => q_word Y g hgb
  have HS : Hid (∀ w4, Below V.drew.heap.size V.drew w4 → Calls Tryz.prog 113 #[.pointer (some ⟨x, 0, none⟩), .int .i64 (wd 20 P 264 p (8 + v0 % 256)), .int .u64 (g + 1), .func (.func 185) #[.pointer (some ⟨x, 0, none⟩)] #[]] w4 fun e w' => (∃ v, e = .returned v) ∧ Came w w' x (tkCells who nx cl p most left f o v0) 141 (axSt (wd 20 P 264 p (8 + v0 % 256)) (g + 1)) (.untold 185)) := by
    intro w4 k
    have h4 : Blk w4 x (tkCells who nx cl p most left f o v0) 141 := h'.drew.but (But.of_below (l := []) k) (by simp)
    refine (came_store w4 x _ 141 h4 (by simp [tkCells]) _ _ _).mono ?_
    rintro e w5 ⟨hv, hC⟩
    exact ⟨hv, hC.before (hB.drew.trans (But.of_below k))⟩
  generalize wd 20 P 264 p (8 + v0 % 256) = at' at *
  have hD : Hid (Below V.drew.heap.size V.drew V.drew) := Below.refl _ _
  have hH : Hid (V.drew.cell? ⟨x, 2, none⟩ = some (.pointer (some ⟨cl, 0, none⟩)) ∧ V.drew.cell? ⟨x, 3, none⟩ = some (.int .i64 p) ∧ V.drew.cell? ⟨x, 7, none⟩ = some (.pointer o)) := ⟨c2, c3, c7⟩
  have KB : Hid (∀ w4, Below V.drew.heap.size V.drew w4 → w4.cell? ⟨x, 2, none⟩ = some (.pointer (some ⟨cl, 0, none⟩)) ∧ w4.cell? ⟨x, 3, none⟩ = some (.int .i64 p) ∧ w4.cell? ⟨x, 7, none⟩ = some (.pointer o)) := fun w4 k => by
    have h4 : Blk w4 x (tkCells who nx cl p most left f o v0) 141 := h'.drew.but (But.of_below (l := []) k) (by simp)
    exact ⟨h4.cell 2 rfl, h4.cell 3 rfl, h4.cell 7 rfl⟩
  have KC : Hid (∀ w5, Came w w5 x (tkCells who nx cl p most left f o v0) 141 (axSt at' (g + 1)) (.untold 185) → w5.cell? ⟨x, 2, none⟩ = some (.pointer (some ⟨cl, 0, none⟩)) ∧ w5.cell? ⟨x, 3, none⟩ = some (.int .i64 p) ∧ w5.cell? ⟨x, 7, none⟩ = some (.pointer o)) := fun w5 hC => by
    obtain ⟨q, Lc, h1, -⟩ := hC
    exact ⟨h1.cell 2 rfl, h1.cell 3 rfl, h1.cell 7 rfl⟩
  clear h h' hB hl hl' hp hv hg hgb hxc
  go_enter Tryz.func176, Tryz.ntmps176
  go_wp2_with fail
  try rw [hV]
  clear hV c8 f8
  go_region_held3 (fun w' => w'.cell? ⟨x, 2, none⟩ = some (.pointer (some ⟨cl, 0, none⟩)) ∧ w'.cell? ⟨x, 3, none⟩ = some (.int .i64 p) ∧ w'.cell? ⟨x, 7, none⟩ = some (.pointer o)) (first | exact hH.out | exact KB.out _ ‹_› | exact KC.out _ ‹_›) (first | (go_at_call 97; refine (HR.out _ hD.out).mono ?_; rintro e w4 ⟨rfl, k⟩) | (go_at_call 28; refine (HG.out _ ‹_›).mono ?_; rintro e w5 ⟨rfl, rfl⟩) | (go_at_call 112; refine (HQ.out _).mono ?_; rintro e w6 ⟨rfl, rfl⟩) | (go_at_call 113; refine (HS.out _ ‹_›).mono ?_; rintro e w7 ⟨⟨v, rfl⟩, hC⟩))
  all_goals
    clear HR HG HQ HS c2 c3 c7 hH KB KC hD
    go_wp2_with fail
    go_end0
    exact ⟨⟨_, rfl⟩, hC⟩
end
end Go.Proofs.YtiagkeakohkfgaaGreat

namespace Go.Proofs.YtiagkeakohkfgaaGreat
open Go Go.RowKit
set_option linter.unusedVariables false
set_option maxRecDepth 100000
set_option linter.unusedSimpArgs false

set_option maxHeartbeats 4000000 in
theorem take_begin (w : World) (x cl : Nat) (who p most left tl P T G v0 : Int) (nx f o : Option Addr) (hp : 1 ≤ P ∧ P ≤ 64) (hlay : Lay w cl P T G) (hv : 0 ≤ v0 ∧ v0 ≤ 18446744073709551615) (hm : -9223372036854775808 ≤ most ∧ most ≤ 9223372036854775807) (hT : 0 ≤ T ∧ T ≤ 65536) (hG : 0 ≤ G ∧ G ≤ 65536) (h : Blk w x (tkCells who nx cl p most left f o tl) 141) (hv0 : v0 ≠ 0) :
    Calls Tryz.prog 110 #[.pointer (some ⟨x, 0, none⟩), .int .u64 v0] w fun e w' => (∃ v, e = .returned v) ∧ ∃ y L q g, CameBox w w' x (tkCells who nx cl p most (shareOf P most v0) (some ⟨y, 0, none⟩) o tl) 141 (fun v => comCells 0 0 0 0 0 false (.iface 64 (.pointer (some ⟨y, 0, none⟩))) v false false) (.func (.func 145) #[.pointer (some ⟨x, 0, none⟩)] #[]) q g ∧ (plFl who cl).I (plPM (fun y => wd (20 + P * 264 + T * 3) G 2 y 1)) w' y .ld L ∧ (∀ k ∈ L, w.heap.size ≤ k) ∧ q ∉ L ∧ g ∉ L := by
  have HGD : Hid (((plFl who cl).I (plPM (fun y => wd (20 + P * 264 + T * 3) G 2 y 1))).Good (plPM (fun y => wd (20 + P * 264 + T * 3) G 2 y 1))) := Fl.good (pl_laws who P T G cl ⟨by omega, hp.2⟩ hT hG)
  generalize (fun y => wd (20 + P * 264 + T * 3) G 2 y 1) = gl at *
  clear hT hG
  have hSh := take_share w x cl who p most left tl P T G v0 nx f o h hlay hp hv hm
  have hlt := h.lt
  have hd : (v0 == 0) = false := by simpa using hv0
  have HH : Hid (∀ Y, Below w.heap.size w Y → Blk Y x (tkCells who nx cl p most left f o tl) 141) := fun Y k => h.but (But.of_below (l := []) k) (by simp)
  have HQ : Hid (∀ Y, Below w.heap.size w Y → Y.cell? ⟨x, 5, none⟩ = some (.int .u64 left) ∧ Y.frozen? ⟨x, 5, none⟩ = false ∧ x < Y.heap.size) := fun Y k => ⟨(HH.out Y k).cell 5 rfl, (HH.out Y k).fro 5, (HH.out Y k).lt⟩
  generalize shareOf P most v0 = n at *
  clear h hlay hv hm hv0
  go_enter Tryz.func110, Tryz.ntmps110
  go_wp2_with fail
  go_at_call 142; refine hSh.mono ?_; rintro e w1 ⟨rfl, k1⟩
  obtain ⟨d5, g5, l5⟩ := HQ.out w1 k1
  have h2' : Blk _ x (tkCells who nx cl p most n f o tl) 141 := (HH.out w1 k1).set 5 (.int .u64 n)
  have hB2 : But [x] w (w1.setCell ⟨x, 5, none⟩ (.int .u64 n)) := (But.of_below k1).set (g := x) (.inl (by simp)) 5 _
  generalize hV2 : w1.setCell ⟨x, 5, none⟩ (.int .u64 n) = V2 at h2' hB2
  have HF : Hid _ := And.intro h2' hB2
  clear h2' hB2 HH HQ hSh k1
  go_wp2_with fail
  clear hV2 d5 g5 l5
  have hWho := who_any V2.drew x who (HF.out.1.drew.cell 0 rfl)
  have hN := pl_new V2.drew cl who gl
  have c2 := HF.out.1.cell 2 (v := .pointer (some ⟨cl, 0, none⟩)) rfl
  have HS : Hid (∀ w4, Below V2.drew.heap.size V2.drew w4 → w4.cell? ⟨x, 6, none⟩ = some (.pointer f) ∧ w4.frozen? ⟨x, 6, none⟩ = false ∧ x < w4.heap.size) := fun w4 k => by
    have h4 := HF.out.1.drew.but (But.of_below (l := []) k) (by simp)
    exact ⟨h4.cell 6 rfl, h4.fro 6, h4.lt⟩
  go_region_with (first | (go_at_call 143; refine hWho.mono ?_; rintro e w3 ⟨rfl, rfl⟩) | (go_at_call 25; refine hN.mono ?_; rintro e w4 ⟨y, L, rfl, i1, i2, i3, i4⟩; obtain ⟨d7, g7, l7⟩ := HS.out w4 i2))
  all_goals
    have h5 : Blk _ x (tkCells who nx cl p most n (some ⟨y, 0, none⟩) o tl) 141 := (HF.out.1.drew.but (But.of_below (l := []) i2) (by simp)).set 6 (.pointer (some ⟨y, 0, none⟩))
    have hB5 : But [x] w (w4.setCell ⟨x, 6, none⟩ (.pointer (some ⟨y, 0, none⟩))) := (HF.out.2.drew.trans (But.of_below i2)).set (g := x) (.inl (by simp)) 6 _
    have hsz : w.heap.size ≤ V2.drew.heap.size := HF.out.2.drew.size
    have hxL : x ∉ L := fun hm => absurd (i3 x hm) (by omega)
    have hi5 : (plFl who cl).I (plPM gl) (w4.setCell ⟨x, 6, none⟩ (.pointer (some ⟨y, 0, none⟩))) y .ld L := HGD.out.keep i1 ((But.refl [x] w4).set (g := x) (.inl (by simp)) 6 _) (fun k hk => by simp; rintro rfl; exact hxL hk)
    have hyx : y ≠ x := by omega
    generalize w4.setCell ⟨x, 6, none⟩ (.pointer (some ⟨y, 0, none⟩)) = W5 at *
    obtain ⟨ny, n1, n2⟩ := HGD.out.next hi5
    obtain ⟨a, rfl⟩ : ∃ a, ny = some a := by cases ny with | none => cases n2 | some a => exact ⟨a, rfl⟩
    have hf := frun_qpull W5.drew x y _ 141 (.func (.func 145) #[.pointer (some ⟨x, 0, none⟩)] #[]) a h5.drew (by simp [tkCells]) (.some _ _ _) hyx n1
    have c7 := h5.cell 6 (v := .pointer (some ⟨y, 0, none⟩)) rfl
    have HE : Hid (But [x] w W5.drew ∧ (plFl who cl).I (plPM gl) W5.drew y .ld L ∧ (∀ k ∈ L, w.heap.size ≤ k) ∧ (∀ k ∈ L, k < W5.drew.heap.size) ∧ x ∉ L) := ⟨hB5.drew, HGD.out.below hi5 (Below.refl _ _).drew, fun k hk => Nat.le_trans hsz (i3 k hk), fun k hk => HGD.out.lt hi5 k hk, hxL⟩
    clear h5 hB5 hi5 n1 n2 i1 i2 i3 i4 d7 g7 l7 HS hN hWho c2 HF hxL hsz
    go_wp2_with fail
    go_region_with (first | (go_at_call 144; refine hf.mono ?_; rintro e w6 ⟨⟨v, rfl⟩, q, g, hC⟩))
    all_goals
      have HZ : Hid (CameBox w w6 x (tkCells who nx cl p most n (some ⟨y, 0, none⟩) o tl) 141 (fun v => comCells 0 0 0 0 0 false (.iface 64 (.pointer (some ⟨y, 0, none⟩))) v false false) (.func (.func 145) #[.pointer (some ⟨x, 0, none⟩)] #[]) q g ∧ (plFl who cl).I (plPM gl) w6 y .ld L ∧ (∀ k ∈ L, w.heap.size ≤ k) ∧ q ∉ L ∧ g ∉ L) := by
        have q1 : W5.drew.heap.size ≤ q := hC.at'.fresh
        have g1 : W5.drew.heap.size ≤ g := hC.fresh
        exact ⟨hC.before HE.out.1, HGD.out.keep HE.out.2.1 hC.at'.but (fun k hk => by simp; rintro rfl; exact HE.out.2.2.2.2 hk), HE.out.2.2.1, fun hm => absurd (HE.out.2.2.2.1 q hm) (by omega), fun hm => absurd (HE.out.2.2.2.1 g hm) (by omega)⟩
      clear hf hC c7 HE
      go_wp2_with fail
      go_end0
      exact ⟨⟨_, rfl⟩, y, L, q, g, HZ.out⟩
end Go.Proofs.YtiagkeakohkfgaaGreat

namespace Go.Proofs.YtiagkeakohkfgaaGreat
open Go Go.RowKit
set_option linter.unusedVariables false
set_option maxRecDepth 100000
set_option linter.unusedSimpArgs false

theorem take_begin_none (w : World) (x : Nat) :
    Calls Tryz.prog 110 #[.pointer (some ⟨x, 0, none⟩), .int .u64 0] w fun e w' => (∃ v, e = .returned v) ∧ w = w' := by
  go_enter Tryz.func110, Tryz.ntmps110
  go_wp2_with fail
  refine bodyPost_ret (results_none rfl _ _ _) rfl ?_
  exact ⟨⟨_, rfl⟩, rfl⟩
theorem take_g (w : World) (x cl : Nat) (who p most left tl g : Int) (nx f o : Option Addr) (h : Blk w x (tkCells who nx cl p most left f o tl) 141) (hg : Calls Tryz.prog 28 #[.pointer f] w fun e w' => e = .returned (.int .i64 g) ∧ w = w') :
    Calls Tryz.prog 32 #[.pointer (some ⟨x, 0, none⟩)] w fun e w' => e = .returned (.int .i64 g) ∧ w = w' := by
  have c6 := h.cell 6 (v := .pointer f) rfl
  clear h
  go_enter Tryz.func32, Tryz.ntmps32
  go_wp2_with fail
  go_at_call 28; refine hg.mono ?_; rintro e w1 ⟨rfl, rfl⟩
  clear hg c6
  go_wp2_with fail
  go_ret
  exact ⟨rfl, rfl⟩
theorem take_g_nil (w : World) : Calls Tryz.prog 32 #[.pointer none] w fun e w' => e = .returned (.int .i64 (-1)) ∧ w = w' := by
  go_enter Tryz.func32, Tryz.ntmps32
  go_wp2_with fail
  go_ret
  exact ⟨rfl, rfl⟩
theorem take_holds_nil (w : World) : Calls Tryz.prog 33 #[.pointer none] w fun e w' => e = .returned (.slice none 0 0) ∧ Below w.heap.size w w' := by
  go_enter Tryz.func33, Tryz.ntmps33
  go_wp2_with fail
  go_ret
  exact ⟨rfl, Below.refl _ _⟩
theorem take_new (w : World) (cl : Nat) (who p most : Int) :
    Calls Tryz.prog 61 #[.pointer (some ⟨cl, 0, none⟩), .int .i64 who, .int .i64 p, .int .i64 most] w fun e w' => ∃ x q Lc, e = .returned (.pointer (some ⟨x, 0, none⟩)) ∧ Blk w' x (tkCells who (some ⟨q, 0, none⟩) cl p most 0 none none 0) 141 ∧ Com w' x q (axLd 8) (.told 110) Lc ∧ x ∉ Lc ∧ Below w.heap.size w w' ∧ (∀ k ∈ Lc, w.heap.size ≤ k) ∧ w.heap.size ≤ x := by
  have hB := Blk.new w #[.int .i64 0, .pointer none, .pointer none, .int .i64 p, .int .i64 most, .int .u64 0, .pointer none, .pointer none, .int .u64 0] 141
  have hb : Below w.heap.size w (w.alloc (.cells #[.int .i64 0, .pointer none, .pointer none, .int .i64 p, .int .i64 most, .int .u64 0, .pointer none, .pointer none, .int .u64 0] 141)) := (Below.refl _ _).alloc (Nat.le_refl _) _
  have hO := q_of _ w.heap.size cl who _ (tkCells who none cl p most 0 none none 0) 141 hB (by simp) rfl
  have HH : Hid (Below w.heap.size w (w.alloc (.cells #[.int .i64 0, .pointer none, .pointer none, .int .i64 p, .int .i64 most, .int .u64 0, .pointer none, .pointer none, .int .u64 0] 141))) := hb
  have hsz := World.size_alloc w (.cells #[.int .i64 0, .pointer none, .pointer none, .int .i64 p, .int .i64 most, .int .u64 0, .pointer none, .pointer none, .int .u64 0] 141)
  clear hB hb
  go_enter Tryz.func61, Tryz.ntmps61
  go_wp2_with fail
  go_at_call 63; refine hO.mono ?_; rintro e w1 ⟨⟨v, rfl⟩, h1, h2, h3⟩
  have hb1 : Hid (Below w.heap.size w w1) := HH.out.trans (h2.below (by simp) (by rw [hsz]; omega))
  have hL := q_load8 w1 w.heap.size cl 110 _ 141 h1 (by simp [tkCells]) rfl
  have hlt := h1.lt
  clear hO h2 HH
  go_wp2_with fail
  go_at_call 85; refine hL.mono ?_; rintro e w2 ⟨⟨v2, rfl⟩, hC⟩
  obtain ⟨q, Lc, c1, c2, c3, c4⟩ := hC
  have HF : Hid (Blk w2 w.heap.size (tkCells who (some ⟨q, 0, none⟩) cl p most 0 none none 0) 141 ∧ Com w2 w.heap.size q (axLd 8) (.told 110) Lc ∧ w.heap.size ∉ Lc ∧ Below w.heap.size w w2 ∧ ∀ k ∈ Lc, w.heap.size ≤ k) :=
    ⟨c1, c2, fun hm => by have := c4 _ hm; omega, hb1.out.trans (c3.below (by simp) hb1.out.size), fun k hk => by have := c4 k hk; omega⟩
  clear hL c1 c2 c3 c4
  go_wp2_with fail
  go_ret
  exact ⟨w.heap.size, q, Lc, rfl, HF.out.1, HF.out.2.1, HF.out.2.2.1, HF.out.2.2.2.1, HF.out.2.2.2.2, Nat.le_refl _⟩
end Go.Proofs.YtiagkeakohkfgaaGreat

namespace Go.Proofs.YtiagkeakohkfgaaGreat
open Go Go.RowKit
set_option linter.unusedVariables false
set_option maxRecDepth 100000
set_option linter.unusedSimpArgs false

theorem globqPulls_bad (P T G who : Int) (E F : Option Addr) (m cp mp cq : Nat) (a v : Nat → Int) (w : World) (hAw : ∀ w, Calls Tryz.prog 11 #[] w fun e w' => e = .returned (.bool true) ∧ Below w.heap.size w w') (hm : m ≤ 9223372036854775807) (hmp : mp ≤ 9223372036854775807) (hs : SeesP w w.heap.size E m a v) (hv : ∀ i, i < m → 0 ≤ v i ∧ v i ≤ 18446744073709551615) (h : (¬ FewC P T G ∨ 400 < m) ∨ 100 < mp) :
    Calls Tryz.prog 4 #[.agg #[.int .i64 P, .int .i64 T, .int .i64 G, .slice E m cp], .int .i64 who, .slice F mp cq] w fun e w' => e = .returned (.bool true) ∧ Below w.heap.size w w' := by
  have hsz : (w.alloc (.cells #[.int .i64 P, .int .i64 T, .int .i64 G, .slice E m cp] 26)).heap.size = w.heap.size + 1 := by simp
  have HB : Hid (Below w.heap.size w (w.alloc (.cells #[.int .i64 P, .int .i64 T, .int .i64 G, .slice E m cp] 26))) := (Below.refl _ _).alloc (Nat.le_refl _) _
  have hX0 : Hid (Blk (w.alloc (.cells #[.int .i64 P, .int .i64 T, .int .i64 G, .slice E m cp] 26)) w.heap.size #[.int .i64 P, .int .i64 T, .int .i64 G, .slice E m cp] 26) := (Blk.new w #[.int .i64 P, .int .i64 T, .int .i64 G, .slice E m cp] 26)
  have HAW : Hid (∀ w, Calls Tryz.prog 11 #[] w fun e w' => e = .returned (.bool true) ∧ Below w.heap.size w w') := hAw
  clear hAw
  by_cases hf : ¬ FewC P T G ∨ 400 < m
  · have hL := lay_none P T G E m cp (w.alloc (.cells #[.int .i64 P, .int .i64 T, .int .i64 G, .slice E m cp] 26)) hm hf
    clear h hf hs hv
    go_enter Tryz.func4, Tryz.ntmps4
    go_wp2_with fail
    generalize (w.alloc (.cells #[.int .i64 P, .int .i64 T, .int .i64 G, .slice E m cp] 26)) = W at *
    go_at_call 9; refine hL.mono ?_; rintro e w1 ⟨rfl, hLd⟩
    have hbl : Below W.heap.size W w1 := hLd
    have HB1 : Hid (Below w.heap.size w w1) := HB.out.trans (hbl.mono (by omega))
    have hY0 := hX0.out.but (But.of_below (l := []) hbl) (by simp)
    clear hL hbl hLd hY0
    go_wp2_with fail
    go_at_call 11; refine (HAW.out _).mono ?_; rintro e w2 ⟨rfl, h2⟩
    have h3 := seq HB1.out h2
    go_wp2_with fail
    go_ret
    exact ⟨rfl, h3⟩
  · have hF : FewC P T G := Decidable.byContradiction fun h => hf (.inl h)
    have hm4 : m ≤ 400 := by omega
    have hM := hF.h.1.h
    obtain ⟨n, hn⟩ : ∃ n : Nat, (n : Int) = 20 + 264 * P + 3 * T + 2 * G := ⟨(20 + 264 * P + 3 * T + 2 * G).toNat, by omega⟩
    have hL := lay_some P T G E m cp n a v _ hm4 hF hn (hs.up (.cells #[.int .i64 P, .int .i64 T, .int .i64 G, .slice E m cp] 26)) hv
    have htt : 100 < mp := by rcases h with h | h; exact absurd h hf; exact h
    clear h hf hs hv hn hF hM
    have q1 : 100 < mp := by omega
    clear htt
    go_enter Tryz.func4, Tryz.ntmps4
    go_wp2_with fail
    generalize (w.alloc (.cells #[.int .i64 P, .int .i64 T, .int .i64 G, .slice E m cp] 26)) = W at *
    go_at_call 9; refine hL.mono ?_; rintro e w1 ⟨cl, A, A', cap, cap', c, b, c', b', rfl, hLd⟩
    have hbl : Below W.heap.size W w1 := hLd.below
    have HB1 : Hid (Below w.heap.size w w1) := HB.out.trans (hbl.mono (by omega))
    have hY0 := hX0.out.but (But.of_below (l := []) hbl) (by simp)
    clear hL hbl hLd hY0
    go_wp2_with fail
    go_at_call 11; refine (HAW.out _).mono ?_; rintro e w2 ⟨rfl, h2⟩
    have h3 := seq HB1.out h2
    go_wp2_with fail
    go_ret
    exact ⟨rfl, h3⟩

set_option maxHeartbeats 4000000 in
theorem globqPulls_ok (P T G who : Int) (E F : Option Addr) (m cp mp cq : Nat) (a v : Nat → Int) (Pks : Nat → Pk) (w : World) (hAw : ∀ w, Calls Tryz.prog 11 #[] w fun e w' => e = .returned (.bool true) ∧ Below w.heap.size w w') (hm : m ≤ 400) (hF : FewC P T G) (hmp : mp ≤ 100) (hs : SeesP w w.heap.size E m a v) (hv : ∀ i, i < m → 0 ≤ v i ∧ v i ≤ 18446744073709551615) (hP : SeesC w w.heap.size F mp 6 (pkC Pks)) (hpv : ∀ j, j < mp → 0 ≤ (Pks j).v ∧ (Pks j).v ≤ 18446744073709551615)  :
    Calls Tryz.prog 4 #[.agg #[.int .i64 P, .int .i64 T, .int .i64 G, .slice E m cp], .int .i64 who, .slice F mp cq] w fun e w' => e = .returned (.bool true) ∧ Below w.heap.size w w' := by
  have hsz : (w.alloc (.cells #[.int .i64 P, .int .i64 T, .int .i64 G, .slice E m cp] 26)).heap.size = w.heap.size + 1 := by simp
  have HB : Hid (Below w.heap.size w (w.alloc (.cells #[.int .i64 P, .int .i64 T, .int .i64 G, .slice E m cp] 26))) := (Below.refl _ _).alloc (Nat.le_refl _) _
  have hX0 : Hid (Blk (w.alloc (.cells #[.int .i64 P, .int .i64 T, .int .i64 G, .slice E m cp] 26)) w.heap.size #[.int .i64 P, .int .i64 T, .int .i64 G, .slice E m cp] 26) := (Blk.new w #[.int .i64 P, .int .i64 T, .int .i64 G, .slice E m cp] 26)
  have HAW : Hid (∀ w, Calls Tryz.prog 11 #[] w fun e w' => e = .returned (.bool true) ∧ Below w.heap.size w w') := hAw
  have hM := hF.h.1.h
  have hFF := hF.h
  have hP64 : 0 ≤ P ∧ P ≤ 64 := by omega
  obtain ⟨n, hn⟩ : ∃ n : Nat, (n : Int) = 20 + 264 * P + 3 * T + 2 * G := ⟨(20 + 264 * P + 3 * T + 2 * G).toNat, by omega⟩
  have hn0 : 0 < n := by omega
  have hn6 : n ≤ 1000000 := by omega
  have hL := lay_some P T G E m cp n a v _ hm hF hn (hs.up (.cells #[.int .i64 P, .int .i64 T, .int .i64 G, .slice E m cp] 26)) hv
  have d1 : decide ((100 : Int) < (mp : Int)) = false := decide_eq_false (by omega)
  have HP : Hid (SeesC w w.heap.size F mp 6 (pkC Pks)) := hP
  have HPV : Hid (∀ j, j < mp → 0 ≤ (Pks j).v ∧ (Pks j).v ≤ 18446744073709551615) := hpv
  obtain ⟨gl, hgl⟩ : ∃ gl : Int → Int, (fun y => wd (20 + P * 264 + T * 3) G 2 y 1) = gl := ⟨_, rfl⟩
  have HLAW : Hid (∀ cl, (plFl who cl).Laws (plPM gl) (Rd.lay cl P T G) who) := fun cl => by rw [← hgl]; exact pl_laws who P T G cl hP64 (by omega) (by omega)
  have HREF : Hid (∀ (w : World) (x : Nat) (A : Option Addr) (cap m : Nat) (gf : Nat → Int) (t : PlT), RunOn w x A cap m gf rn0 → Hist (plPM gl) .ld gf m t → Calls Tryz.prog 26 #[.pointer (some ⟨x, 0, none⟩), .agg #[.int .i64 P, .int .i64 T, .int .i64 G]] w fun e w' => e = .returned (.int .i64 t.obs) ∧ RunOn w' x A cap m gf ((plPM gl).rn t m) ∧ But [x] w w') := fun w x A cap m gf t h hh => by subst hgl; exact rgpull_on w x A cap m gf P T G t h hh hP64 (by omega) (by omega)
  have HNEW : Hid (∀ cl (w : World), Calls Tryz.prog 25 #[.pointer (some ⟨cl, 0, none⟩), .int .i64 who] w fun e w' => ∃ x L, e = .returned (.pointer (some ⟨x, 0, none⟩)) ∧ (plFl who cl).I (plPM gl) w' x .ld L ∧ Below w.heap.size w w' ∧ (∀ k ∈ L, w.heap.size ≤ k)) := fun cl w => (pl_new w cl who gl).mono fun e w' ⟨x, L, h1, h2, h3, h4, _⟩ => ⟨x, L, h1, h2, h3, h4⟩
  clear hgl
  clear hAw hs hv hn hF hM hFF hP hpv
  go_enter Tryz.func4, Tryz.ntmps4
  go_wp2_with fail
  generalize (w.alloc (.cells #[.int .i64 P, .int .i64 T, .int .i64 G, .slice E m cp] 26)) = W at *
  go_at_call 9; refine hL.mono ?_; rintro e w1 ⟨cl, A, A', cap, cap', c, b, c', b', rfl, hLd⟩
  have HL : Hid (Laid W w1 P T G n (putF a v n m) cl A A' cap cap' c b c' b') := hLd
  have hbl := hLd.below
  have HB1 : Hid (Below w.heap.size w w1) := HB.out.trans (hbl.mono (by omega))
  have hY0 := hX0.out.but (But.of_below (l := []) hbl) (by simp)
  have HXb : Hid (∀ k, Blk (w1.drewN k) w.heap.size #[.int .i64 P, .int .i64 T, .int .i64 G, .slice E m cp] 26) := fun k => hY0.drewN k
  have HXw : Hid (Blk w1 w.heap.size #[.int .i64 P, .int .i64 T, .int .i64 G, .slice E m cp] 26) := hY0
  clear hL hLd hbl hY0
  go_wp2_with fail
  have hT1 : Hid (Two w1 A A' cap cap' c b c' b' n (fresh (putF a v n m))) := HL.out.two
  have HB2 : Hid (Below w.heap.size w w1) := HB1.out
  have HLy2 : Hid (Lay w1 cl P T G) := HL.out.lay
  have HX2 : Hid (Blk w1 w.heap.size #[.int .i64 P, .int .i64 T, .int .i64 G, .slice E m cp] 26) := HXw.out
  obtain ⟨u1, u2, u3, u4, u5⟩ := HL.out.up
  have hup : Hid (w.heap.size ≤ c ∧ w.heap.size ≤ b ∧ w.heap.size ≤ c' ∧ w.heap.size ≤ b') := ⟨by omega, by omega, by omega, by omega⟩
  have hbx : Hid (w.heap.size ≠ c ∧ w.heap.size ≠ b ∧ w.heap.size ≠ c' ∧ w.heap.size ≠ b' ∧ w.heap.size ≠ cl) := ⟨by omega, by omega, by omega, by omega, by omega⟩
  have hclup : Hid (w.heap.size ≤ cl) := (by omega : w.heap.size ≤ cl)
  generalize hw2 : w1 = w2 at *
  have z0 := HX2.out.cell 0 (v := .int .i64 P) rfl
  have z1 := HX2.out.cell 1 (v := .int .i64 T) rfl
  have z2 := HX2.out.cell 2 (v := .int .i64 G) rfl
  clear HL HB1 HXb HXw u1 u2 u3 u4 u5 hw2 hX0 HB hsz 
  have hne : Hid (cl ≠ c ∧ cl ≠ b) := lay_ne HLy2.out (by decide) hT1.out.m hn0
  have hne2 : Hid (cl ≠ c' ∧ cl ≠ b') := lay_ne HLy2.out (by decide) hT1.out.r hn0
  have HLW : Hid (((plFl who cl).I (plPM gl)).Good (plPM gl) ∧ Steps (plPM gl) ((plFl who cl).I (plPM gl)) (Rd.lay cl P T G) 29 who) := ⟨Fl.good (HLAW.out cl), Fl.steps (HLAW.out cl) stepby_qpull⟩
  have HGD : Hid (((plFl who cl).I (plPM gl)).Good (plPM gl)) := HLW.out.1
  have hN := HNEW.out cl w2
  go_wp2_with fail
  go_at_call 25; refine hN.mono ?_; rintro e w3 ⟨x, L0, rfl, hi0, hb3, hu1⟩
  have HO0 : Hid (LawOn ((plFl who cl).I (plPM gl)) ((Rd.lay cl P T G).and (Rd.blk w.heap.size #[.int .i64 P, .int .i64 T, .int .i64 G, .slice E m cp] 26)) w w3 A A' cap cap' c b c' b' n (fresh (putF a v n m)) (fresh (putF a v n m)) none 0 0 (fun _ => 0) x PlT.ld L0 [cl, w.heap.size]) := LawOn.begin hT1.out hb3 HB2.out hup.out hi0 HGD.out hu1 ⟨HLy2.out.below hb3 HLy2.out.lt, HX2.out.but (But.of_below (l := []) hb3) (by simp)⟩ (fun k hk => hk) (by
    obtain ⟨n1, n2⟩ := hne.out; obtain ⟨n3, n4⟩ := hne2.out; obtain ⟨n5, n6, n7, n8, n9⟩ := hbx.out
    intro k hk
    simp only [List.mem_cons, List.not_mem_nil, or_false] at hk
    rcases hk with rfl | rfl
    · exact ⟨⟨n1, n2, n3, n4⟩, HLy2.out.lt, hclup.out⟩
    · exact ⟨⟨n5, n6, n7, n8⟩, HX2.out.lt, Nat.le_refl _⟩)
  clear hN hi0 hb3 hu1 hT1 HB2 HX2 HLy2 z0 z1 z2 hup hbx hclup hne hne2
  go_wp2_with fail
  go_loopw [12, 13] (fun gv i wr => ∃ (k : Nat) (s : St) (Ag : Option Addr) (capg mg : Nat) (gf : Nat → Int) (t : PlT) (L : List Nat), k ≤ mp ∧ i = .int .i64 k ∧ gv = .slice Ag mg capg ∧ mg ≤ k ∧ Hid (LawOn ((plFl who cl).I (plPM gl)) ((Rd.lay cl P T G).and (Rd.blk w.heap.size #[.int .i64 P, .int .i64 T, .int .i64 G, .slice E m cp] 26)) w wr A A' cap cap' c b c' b' n s s Ag capg mg gf x t L [cl, w.heap.size]) ∧ Hid (Low s (k : Int)) ∧ Hid (Hist (plPM gl) PlT.ld gf mg t)) (fun _ i _ => mp - (intOf i).toNat)
  case atStart => exact ⟨0, _, none, 0, 0, _, PlT.ld, L0, Nat.zero_le _, rfl, rfl, Nat.le_refl _, HO0, low_fresh _, Hist.start _ _ _⟩
  case round =>
    clear HO0
    obtain ⟨k, s, Ag, capg, mg, gf, t, L, hk, rfl, rfl, hmg, HO, HLo, HH⟩ := hrel
    by_cases hlt : k < mp
    · obtain ⟨fb, foff, rfl, hfb, hcell⟩ := HP.out (by omega)
      have hcw : Hid (∀ i u, (pkC Pks k)[i]? = some u → wr.cell? ⟨fb, foff + k * 6 + i, none⟩ = some u) := fun i u hu => (HO.out.poke.below.cell (p := ⟨fb, foff + k * 6 + i, none⟩) hfb).trans (hcell k hlt i u hu)
      have pz := hcw.out 0 (.bool (Pks k).z) rfl
      have hk0 : (0 : Int) ≤ (k : Int) := Int.natCast_nonneg _
      have hk1 : (k : Int) < (mp : Int) := by omega
      clear hcell
      rw [Nat.add_zero] at pz
      cases hz : (Pks k).z
      · rw [hz] at pz
        have HRA : Hid (wr.rangeAt fb (foff + k * 6 + 1) [.int .i64 (Pks k).k, .int .i64 (Pks k).p, .int .i64 (Pks k).i, .int .u64 (Pks k).o, .int .u64 (Pks k).v]) := fun j u hu => by
          have := hcw.out (1 + j) u (by rw [show pkC Pks k = .bool (Pks k).z :: [.int .i64 (Pks k).k, .int .i64 (Pks k).p, .int .i64 (Pks k).i, .int .u64 (Pks k).o, .int .u64 (Pks k).v] from rfl, Nat.add_comm 1 j, List.getElem?_cons_succ]; exact hu)
          rw [← Nat.add_assoc] at this
          exact this
        clear hz hcw
        go_wp2_with (refine wpList_load_mid rfl 41 _ rfl fb (foff + k * 6 + 1) rfl [.int .i64 (Pks k).k, .int .i64 (Pks k).p, .int .i64 (Pks k).i, .int .u64 (Pks k).o, .int .u64 (Pks k).v] _ HRA.out Tryz.underlying41 rfl (by kernel_rfl) ?_)
        go_at_call 13; refine (HO.out.pokes HGD.out hn6 (HLo.out.more (by omega)) (Pks k).k (Pks k).p (Pks k).i (Pks k).o (Pks k).v (HPV.out k hlt)).mono ?_; rintro e w9 ⟨rfl, hO⟩
        have HO9 : Hid _ := hO
        have HLo9 : Hid (Low (actS (Pks k).k (Pks k).p (Pks k).i (Pks k).o (Pks k).v n s) (((k + 1 : Nat)) : Int)) := (actS_low HLo.out _ _ _ _ _ _).more (by omega)
        clear hO HO HRA pz
        go_wp2_with fail
        go_roundw
        case rel => exact ⟨k + 1, _, Ag, capg, mg, gf, t, L, by omega, by go_num, rfl, by omega, HO9, HLo9, HH⟩
        case measure => simp [intOf]; omega
      · rw [hz] at pz
        clear hz hcw
        have hR0 : Hid (RunOn (wr.alloc (.cells (runL (.slice Ag mg capg) rn0).toArray 48)) wr.heap.size Ag capg mg gf rn0) := run_starts HO.out.poke.got (by omega)
        have hb0 : Hid (Below wr.heap.size wr (wr.alloc (.cells (runL (.slice Ag mg capg) rn0).toArray 48))) := (Below.refl _ _).alloc (Nat.le_refl _) _
        have hRR := HREF.out _ _ Ag capg mg gf t hR0.out HH.out
        have y0 := HO.out.rd.2.cell 0 (v := .int .i64 P) rfl
        have y1 := HO.out.rd.2.cell 1 (v := .int .i64 T) rfl
        have y2 := HO.out.rd.2.cell 2 (v := .int .i64 G) rfl
        have hbl : w.heap.size < wr.heap.size := HO.out.rd.2.lt
        go_wp2_with fail
        go_at_call 26; refine hRR.mono ?_; rintro e w4 ⟨rfl, hR4, hB4⟩
        have hb4 : Below wr.heap.size wr w4 := hb0.out.trans (hB4.below (by simp) (by simp))
        have HO4 : Hid (LawOn ((plFl who cl).I (plPM gl)) ((Rd.lay cl P T G).and (Rd.blk w.heap.size #[.int .i64 P, .int .i64 T, .int .i64 G, .slice E m cp] 26)) w w4 A A' cap cap' c b c' b' n s s Ag capg mg gf x t L [cl, w.heap.size]) := HO.out.still HGD.out hb4
        have HR4 : Hid (RunOn w4 wr.heap.size Ag capg mg gf ((plPM gl).rn t mg)) := hR4
        have hs4 : wr.heap.size < w4.heap.size := hR4.blk.lt
        have s2 := HR4.out.blk.cell 2 (v := .bool ((plPM gl).rn t mg).stop) rfl
        rw [PM.rn_stop] at s2
        clear hRR hR4 hB4 hR0 hb0 hb4 HO pz y0 y1 y2 hbl
        have HOK : Hid (∀ a, (plPM gl).ax t = some a → a.Ok) := fun a ha => (HLAW.out cl).axok t a HO4.out.mach.1 ha
        have HD : Hid (∀ Y, Below w4.heap.size w4 Y → Calls Tryz.prog 27 #[.pointer (some ⟨x, 0, none⟩)] Y fun e w' => e = .returned (.bool ((plPM gl).ax t).isNone) ∧ Y = w') := fun Y hY => by
          obtain ⟨nx, hx1, hx2⟩ := HGD.out.next (HGD.out.below HO4.out.mach hY)
          rw [← hx2]
          exact done_qpull Y x nx hx1
        have HGv : Hid (∀ Y, Below w4.heap.size w4 Y → Calls Tryz.prog 28 #[.pointer (some ⟨x, 0, none⟩)] Y fun e w' => e = .returned (.int .i64 t.obs) ∧ Y = w') := fun Y hY => pl_g (HGD.out.below HO4.out.mach hY)
        cases hst : ((plPM gl).ax t).isSome
        · rw [hst] at s2
          have hin : ((plPM gl).ax t).isNone = true := by cases h : (plPM gl).ax t <;> rw [h] at hst <;> first | rfl | cases hst
          rw [hin] at HD
          clear hin
          generalize t.obs = to at *
          have hH : Hid (w4.drew.cell? ⟨wr.heap.size, 2, none⟩ = some (.bool false) ∧ Below w4.heap.size w4 w4.drew) := ⟨s2, (Below.refl _ _).drew⟩
          have KEEP : Hid (∀ X w' : World, (X.cell? ⟨wr.heap.size, 2, none⟩ = some (.bool false) ∧ Below w4.heap.size w4 X) → Below X.heap.size X w' → (w'.cell? ⟨wr.heap.size, 2, none⟩ = some (.bool false) ∧ Below w4.heap.size w4 w')) := fun X w' h k => ⟨(k.cell (p := ⟨wr.heap.size, 2, none⟩) (Nat.lt_of_lt_of_le hs4 h.2.size)).trans h.1, h.2.trans (k.mono h.2.size)⟩
          go_wp2_with fail
          go_region_held3 (fun w' => w'.cell? ⟨wr.heap.size, 2, none⟩ = some (.bool false) ∧ Below w4.heap.size w4 w') (first | exact hH.out | assumption | exact KEEP.out _ _ ‹_› ‹_›) (first | (go_at_call 27; refine (HD.out _ (by simp only [*])).mono ?_; rintro e x1 ⟨rfl, rfl⟩) | (go_at_call 28; refine (HGv.out _ (by simp only [*])).mono ?_; rintro e x2 ⟨rfl, rfl⟩))
          all_goals
            rename_i hHeld
            have HO5 : Hid _ := HO4.out.still HGD.out hHeld.2
            have HRg : Hid _ := (HR4.out.below hHeld.2).range
            have hTu := HO5.out.turn HGD.out HOK.out hn6 (HLo.out.more (by omega)) (by omega) who
            rw [show runCells (.slice Ag mg capg) ((plPM gl).rn t mg) = (runL (.slice Ag mg capg) ((plPM gl).rn t mg)).toArray from rfl] at hTu
            generalize (plPM gl).rn t mg = RN at *
            simp only [runL] at hTu
            clear HD KEEP hH HO4 HR4 s2 hHeld HGv
            go_wp2_with (refine wpList_load_mid rfl 48 _ rfl wr.heap.size 0 rfl (runL (.slice Ag mg capg) RN) _ HRg.out Tryz.underlying48 rfl (by kernel_rfl) ?_; clear HRg)
            go_at_call 18; refine hTu.mono ?_; rintro e w6 ⟨Ag', capg', rfl, hO6⟩
            have HO6 : Hid _ := hO6
            have hSt := HO6.out.step HGD.out HLW.out.2 (fun Y (h : ((Rd.lay cl P T G).and (Rd.blk w.heap.size #[.int .i64 P, .int .i64 T, .int .i64 G, .slice E m cp] 26)).P Y) => h.1) (fun k hk => List.mem_append_left _ hk) hn6 (HLo.out.more (by omega))
            have HHn : Hid _ := HH.out.next n s (fun k i old new => actA_bd HO6.out.poke.mem k i old new)
            have HLo7 : Hid (Low ((plPM gl).goS who n t s) ((k + 1 : Nat) : Int)) := PM.goS_low HLo.out
            have hml : (plPM gl).goM t mg ≤ k + 1 := by unfold PM.goM; split <;> omega
            clear hTu hO6 HO5
            go_wp2_with fail
            go_at_call 29; refine hSt.mono ?_; rintro e w7 ⟨⟨zz, rfl⟩, L7, hO7⟩
            have HO7 : Hid _ := hO7
            clear hSt hO7 HO6 HH HLo
            generalize (plPM gl).goS who n t s = s' at *
            generalize (plPM gl).goG n t s gf mg = g' at *
            generalize (plPM gl).goM t mg = m' at *
            generalize (plPM gl).goT n t s = t' at *
            have hAl := alike_any w7 A A' cap cap' c b c' b' n s' hn6 HO7.out.poke.two
            go_wp2_with fail
            go_at_call 20; refine hAl.mono ?_; rintro e w8 ⟨rfl, hb8⟩
            have HO8 : Hid _ := HO7.out.still HGD.out hb8
            clear hAl hb8 HO7
            go_wp2_with fail
            go_roundw
            case rel => exact ⟨k + 1, s', Ag', capg', m', g', t', L7, by omega, by go_num, rfl, hml, HO8.out, HLo7, HHn.out⟩
            case measure => simp [intOf]; omega
        · rw [hst] at s2
          have hin : ((plPM gl).ax t).isNone = false := by cases h : (plPM gl).ax t <;> rw [h] at hst <;> first | rfl | cases hst
          rw [hin] at HD
          clear hin
          generalize t.obs = to at *
          have hH : Hid (w4.drew.cell? ⟨wr.heap.size, 2, none⟩ = some (.bool true) ∧ Below w4.heap.size w4 w4.drew) := ⟨s2, (Below.refl _ _).drew⟩
          have KEEP : Hid (∀ X w' : World, (X.cell? ⟨wr.heap.size, 2, none⟩ = some (.bool true) ∧ Below w4.heap.size w4 X) → Below X.heap.size X w' → (w'.cell? ⟨wr.heap.size, 2, none⟩ = some (.bool true) ∧ Below w4.heap.size w4 w')) := fun X w' h k => ⟨(k.cell (p := ⟨wr.heap.size, 2, none⟩) (Nat.lt_of_lt_of_le hs4 h.2.size)).trans h.1, h.2.trans (k.mono h.2.size)⟩
          go_wp2_with fail
          go_region_held3 (fun w' => w'.cell? ⟨wr.heap.size, 2, none⟩ = some (.bool true) ∧ Below w4.heap.size w4 w') (first | exact hH.out | assumption | exact KEEP.out _ _ ‹_› ‹_›) (first | (go_at_call 27; refine (HD.out _ (by simp only [*])).mono ?_; rintro e x1 ⟨rfl, rfl⟩) | (go_at_call 28; refine (HGv.out _ (by simp only [*])).mono ?_; rintro e x2 ⟨rfl, rfl⟩))
          all_goals
            rename_i hHeld
            have HO5 : Hid _ := HO4.out.still HGD.out hHeld.2
            have HRg : Hid _ := (HR4.out.below hHeld.2).range
            have hTu := HO5.out.turn HGD.out HOK.out hn6 (HLo.out.more (by omega)) (by omega) who
            rw [show runCells (.slice Ag mg capg) ((plPM gl).rn t mg) = (runL (.slice Ag mg capg) ((plPM gl).rn t mg)).toArray from rfl] at hTu
            generalize (plPM gl).rn t mg = RN at *
            simp only [runL] at hTu
            clear HD KEEP hH HO4 HR4 s2 hHeld HGv
            go_wp2_with (refine wpList_load_mid rfl 48 _ rfl wr.heap.size 0 rfl (runL (.slice Ag mg capg) RN) _ HRg.out Tryz.underlying48 rfl (by kernel_rfl) ?_; clear HRg)
            go_at_call 18; refine hTu.mono ?_; rintro e w6 ⟨Ag', capg', rfl, hO6⟩
            have HO6 : Hid _ := hO6
            have hSt := HO6.out.step HGD.out HLW.out.2 (fun Y (h : ((Rd.lay cl P T G).and (Rd.blk w.heap.size #[.int .i64 P, .int .i64 T, .int .i64 G, .slice E m cp] 26)).P Y) => h.1) (fun k hk => List.mem_append_left _ hk) hn6 (HLo.out.more (by omega))
            have HHn : Hid _ := HH.out.next n s (fun k i old new => actA_bd HO6.out.poke.mem k i old new)
            have HLo7 : Hid (Low ((plPM gl).goS who n t s) ((k + 1 : Nat) : Int)) := PM.goS_low HLo.out
            have hml : (plPM gl).goM t mg ≤ k + 1 := by unfold PM.goM; split <;> omega
            clear hTu hO6 HO5
            go_wp2_with fail
            go_at_call 29; refine hSt.mono ?_; rintro e w7 ⟨⟨zz, rfl⟩, L7, hO7⟩
            have HO7 : Hid _ := hO7
            clear hSt hO7 HO6 HH HLo
            generalize (plPM gl).goS who n t s = s' at *
            generalize (plPM gl).goG n t s gf mg = g' at *
            generalize (plPM gl).goM t mg = m' at *
            generalize (plPM gl).goT n t s = t' at *
            have hAl := alike_any w7 A A' cap cap' c b c' b' n s' hn6 HO7.out.poke.two
            go_wp2_with fail
            go_at_call 20; refine hAl.mono ?_; rintro e w8 ⟨rfl, hb8⟩
            have HO8 : Hid _ := HO7.out.still HGD.out hb8
            clear hAl hb8 HO7
            go_wp2_with fail
            go_roundw
            case rel => exact ⟨k + 1, s', Ag', capg', m', g', t', L7, by omega, by go_num, rfl, hml, HO8.out, HLo7, HHn.out⟩
            case measure => simp [intOf]; omega
    · obtain rfl : k = mp := by omega
      have hgd : decide ((k : Int) < (k : Int)) = false := by simp
      have HT := HO.out.poke.two
      have HTS : Hid (∀ Y, Below wr.heap.size wr Y → Two Y A A' cap cap' c b c' b' n s) := fun Y hY => HT.below hY
      have hH : Hid (wr.drew.cell? ⟨c', 0, none⟩ = some (.slice A' n cap') ∧ Below wr.heap.size wr wr.drew) := ⟨HT.r.cells.1, (Below.refl _ _).drew⟩
      have KEEP : Hid (∀ X w' : World, (X.cell? ⟨c', 0, none⟩ = some (.slice A' n cap') ∧ Below wr.heap.size wr X) → Below X.heap.size X w' → (w'.cell? ⟨c', 0, none⟩ = some (.slice A' n cap') ∧ Below wr.heap.size wr w')) := fun X w' h k => ⟨(HTS.out _ (h.2.trans (k.mono h.2.size))).r.cells.1, h.2.trans (k.mono h.2.size)⟩
      have HB9 : Hid (Below w.heap.size w wr) := HO.out.poke.below
      clear HT HO HLo HH
      go_wp2_with fail
      go_region_held3 (fun w' => w'.cell? ⟨c', 0, none⟩ = some (.slice A' n cap') ∧ Below wr.heap.size wr w') (first | exact hH.out | assumption | exact KEEP.out _ _ ‹_› ‹_›) (first | (go_at_call 11; refine (HAW.out _).mono ?_; rintro e x1 ⟨rfl, g1⟩) | (go_at_call 24; refine (words_any _ A cap c b n s (HTS.out _ (by simp only [*])).m hn6).mono ?_; rintro e x5 ⟨A4, cap4, rfl, hs4, g5⟩) | (go_at_call 23; refine (sameB_any _ A4 A' n cap4 cap' s.f hn6 hs4 (HTS.out _ (by simp only [*])).r.sees).mono ?_; rintro e x6 ⟨rfl, g6⟩) | (go_at_call 15; refine (done_nil_qput _).mono ?_; rintro e x7 ⟨rfl, rfl⟩) | (go_at_call 19; refine (step_nil_qput _ _).mono ?_; rintro e x7 ⟨rfl, rfl⟩) | (go_at_call 17; refine (qput_holds_nil _).mono ?_; rintro e x7 ⟨rfl, rfl⟩) | (go_at_call 27; refine (done_nil_qpull _).mono ?_; rintro e x7 ⟨rfl, rfl⟩) | (go_at_call 29; refine (step_nil_qpull _ _).mono ?_; rintro e x7 ⟨rfl, rfl⟩) | (go_at_call 28; refine (pull_g_nil _).mono ?_; rintro e x7 ⟨rfl, rfl⟩) | (go_at_call 30; refine (done_nil_qtake _).mono ?_; rintro e x7 ⟨rfl, rfl⟩) | (go_at_call 31; refine (step_nil_qtake _ _).mono ?_; rintro e x7 ⟨rfl, rfl⟩) | (go_at_call 32; refine (take_g_nil _).mono ?_; rintro e x7 ⟨rfl, rfl⟩) | (go_at_call 33; refine (take_holds_nil _).mono ?_; rintro e x8 ⟨rfl, g8⟩))
      all_goals
        rename_i hHeld
        have hbF := HB9.out.trans (hHeld.2.mono HB9.out.size)
        go_wp2_with fail
        go_ret
        exact ⟨rfl, hbF⟩

theorem globqPulls_walk (P T G who : Int) (E F : Option Addr) (m cp mp cq : Nat) (a v : Nat → Int) (Pks : Nat → Pk) (w : World) (hAw : ∀ w, Calls Tryz.prog 11 #[] w fun e w' => e = .returned (.bool true) ∧ Below w.heap.size w w') (hm : m ≤ 9223372036854775807) (hmp : mp ≤ 9223372036854775807) (hs : SeesP w w.heap.size E m a v) (hv : ∀ i, i < m → 0 ≤ v i ∧ v i ≤ 18446744073709551615) (hP : SeesC w w.heap.size F mp 6 (pkC Pks)) (hpv : ∀ j, j < mp → 0 ≤ (Pks j).v ∧ (Pks j).v ≤ 18446744073709551615) :
    Calls Tryz.prog 4 #[.agg #[.int .i64 P, .int .i64 T, .int .i64 G, .slice E m cp], .int .i64 who, .slice F mp cq] w fun e w' => e = .returned (.bool true) ∧ Below w.heap.size w w' := by
  by_cases h : (¬ FewC P T G ∨ 400 < m) ∨ 100 < mp
  · exact globqPulls_bad P T G who E F m cp mp cq a v w hAw hm hmp hs hv h
  · exact globqPulls_ok P T G who E F m cp mp cq a v Pks w hAw (by omega) (Decidable.byContradiction fun hf => h (.inl (.inl hf))) (by omega) hs hv hP hpv 
end Go.Proofs.YtiagkeakohkfgaaGreat
