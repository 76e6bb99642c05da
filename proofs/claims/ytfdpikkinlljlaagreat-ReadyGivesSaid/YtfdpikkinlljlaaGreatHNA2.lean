/- The machine that puts into a ring: it has what a full ring gave. -/
import Derived.Test.YtfdpikkinlljlaaGreatHMAA
import Derived.Stop.Asserts
import Derived.BigRegion
import Derived.Test.YtfdpikkinlljlaaGreatHNA1
import Derived.Deep.RegionHeldLaw
import Derived.Deep.RegionLawGrows
import Derived.Maps.AppendAt
import Derived.OwnWalk
namespace Go.Proofs.YtfdpikkinlljlaaGreat
open Go Go.RowKit
set_option linter.unusedVariables false
set_option maxRecDepth 100000
set_option linter.unusedSimpArgs false

def wsFresh (who : Int) (nx lo : Option Addr) (p : Int) (sp lf : Bool) : Array Value := #[.int .i64 who, .pointer nx, .pointer lo, .int .i64 p, .bool sp, .bool lf, .bool true, .pointer none, .pointer none]
set_option maxHeartbeats 2000000 in
theorem ws_new (w : World) (cl : Nat) (who p P T G : Int) (sp lf : Bool) (hp : 0 ≤ P ∧ P ≤ 64) (hTT : 0 ≤ T ∧ T ≤ 65536) :
    Calls Tryz.prog 207 #[.pointer (some ⟨cl, 0, none⟩), .int .i64 who, .int .i64 p, .bool sp, .bool lf] w fun e w' => ∃ x th q b L V, e = .returned (.pointer (some ⟨x, 0, none⟩)) ∧ CameBox V w' x (wsCells who none cl p sp lf true th none) 218 (fun v => comCells 0 0 0 0 0 false (.iface 216 (.pointer (some ⟨th, 0, none⟩))) v false false) (.func (.func 224) #[.pointer (some ⟨x, 0, none⟩)] #[]) q b ∧ (jgFl who T cl).I (jgPM P T) w' th .ld L ∧ (∀ k ∈ L, w.heap.size ≤ k ∧ k ≠ x) ∧ q ∉ L ∧ b ∉ L ∧ Below w.heap.size w w' ∧ w.heap.size ≤ x ∧ x < V.heap.size := by
  have hB := Blk.new w (wsFresh 0 none none p sp lf) 218
  have hb : Below w.heap.size w (w.alloc (.cells (wsFresh 0 none none p sp lf) 218)) := (Below.refl _ _).alloc (Nat.le_refl _) _
  have hO := wk_of _ w.heap.size cl who _ (wsFresh who none (some ⟨cl, 0, none⟩) p sp lf) 218 hB (by simp [wsFresh]) rfl
  have HH : Hid (Below w.heap.size w (w.alloc (.cells (wsFresh 0 none none p sp lf) 218))) := hb
  have hsz := World.size_alloc w (.cells (wsFresh 0 none none p sp lf) 218)
  have HG : Hid (((jgFl who T cl).I (jgPM P T)).Good (jgPM P T)) := Fl.good (jg_laws who P T G cl hp hTT)
  clear hB hb hp hTT
  unfold wsFresh at hO HH hsz
  go_enter Tryz.func207, Tryz.ntmps207
  go_wp2_with fail
  go_at_call 217; refine hO.mono ?_; rintro e w1 ⟨⟨v, rfl⟩, h1, h2, h3⟩
  have h1lt := h1.lt
  have hb1 : Hid (Below w.heap.size w w1) := HH.out.trans (h2.below (by simp) (by rw [hsz]; omega))
  have H1 : Hid (Blk w1 w.heap.size (wsFresh who none (some ⟨cl, 0, none⟩) p sp lf) 218) := h1
  have hN := jg_new w1 cl who P T
  clear hO h1 h2 h3 HH hsz
  go_wp2_with fail
  go_at_call 223; refine hN.mono ?_; rintro e w2 ⟨th, L, rfl, k1, k2, k3, k4⟩
  have h12 : Blk w2 w.heap.size (wsFresh who none (some ⟨cl, 0, none⟩) p sp lf) 218 := H1.out.but (But.of_below (l := []) k2) (by simp)
  have c7 := h12.cell 7 (v := .pointer none) rfl
  have f7 := h12.fro 7
  have h5 : Blk (w2.setCell ⟨w.heap.size, 7, none⟩ (.pointer (some ⟨th, 0, none⟩))) w.heap.size (wsCells who none cl p sp lf true th none) 218 := h12.set 7 _
  have k3' : ∀ k ∈ L, w.heap.size < k := fun k hk => Nat.lt_of_lt_of_le h1lt (k3 k hk)
  have hI5 : (jgFl who T cl).I (jgPM P T) (w2.setCell ⟨w.heap.size, 7, none⟩ (.pointer (some ⟨th, 0, none⟩))) th .ld L := HG.out.keep k1 ((But.refl [w.heap.size] w2).set (g := w.heap.size) (.inl (by simp)) 7 _) (fun k hk => by have := k3' k hk; simp; omega)
  have hb5 : Hid (Below w.heap.size w (w2.setCell ⟨w.heap.size, 7, none⟩ (.pointer (some ⟨th, 0, none⟩)))) := (seq hb1.out k2).setCell (p := ⟨w.heap.size, 7, none⟩) (Nat.le_refl _) _
  have HH5 : Hid (Blk _ w.heap.size (wsCells who none cl p sp lf true th none) 218 ∧ (jgFl who T cl).I (jgPM P T) _ th .ld L) := ⟨h5, hI5⟩
  have hthx : Hid (th ≠ w.heap.size) := by have : w1.heap.size ≤ th := k4; exact (by omega : th ≠ w.heap.size)
  have K3 : Hid (∀ k ∈ L, w.heap.size < k) := k3'
  clear hN h12 h5 hI5 k1 k2 k3 k3' k4 H1 hb1 h1lt
  go_wp2_with fail
  clear c7 f7
  generalize (w2.setCell ⟨w.heap.size, 7, none⟩ (.pointer (some ⟨th, 0, none⟩))) = V at *
  have hlt := HH5.out.1.lt
  obtain ⟨a, ha⟩ : ∃ a, V.cell? ⟨th, 1, none⟩ = some (.pointer (some a)) := by
    obtain ⟨nx, q1, q2⟩ := HG.out.next HH5.out.2
    cases nx with
    | none => cases q2
    | some a => exact ⟨a, q1⟩
  have c7 := HH5.out.1.cell 7 (v := .pointer (some ⟨th, 0, none⟩)) rfl
  have hf := frun_img V.drew w.heap.size th _ 218 (.func (.func 224) #[.pointer (some ⟨w.heap.size, 0, none⟩)] #[]) a HH5.out.1.drew (by simp [wsCells]) (.some _ _ _) hthx.out (by simpa using ha)
  clear ha
  go_region_with (first | (go_at_call 98; refine hf.mono ?_; rintro e w5 ⟨⟨v, rfl⟩, q, g, hC⟩))
  all_goals
    have hlL := HG.out.lt HH5.out.2
    have f1 : V.heap.size ≤ q := hC.at'.fresh
    have f2 : V.heap.size ≤ g := hC.fresh
    have hI6 := HG.out.keep HH5.out.2 (((But.refl [w.heap.size] V).drew).trans hC.at'.but) (fun k hk => by have := K3.out k hk; simp; omega)
    have hC6 := hC.before ((But.refl [w.heap.size] V).drew)
    have hF : Hid (CameBox V w5 w.heap.size (wsCells who none cl p sp lf true th none) 218 (fun v => comCells 0 0 0 0 0 false (.iface 216 (.pointer (some ⟨th, 0, none⟩))) v false false) (.func (.func 224) #[.pointer (some ⟨w.heap.size, 0, none⟩)] #[]) q g ∧ (jgFl who T cl).I (jgPM P T) w5 th .ld L ∧ (∀ k ∈ L, w.heap.size ≤ k ∧ k ≠ w.heap.size) ∧ q ∉ L ∧ g ∉ L ∧ Below w.heap.size w w5) := ⟨hC6, hI6, fun k hk => ⟨by have := K3.out k hk; omega, by have := K3.out k hk; omega⟩, fun hm => by have := hlL q hm; omega, fun hm => by have := hlL g hm; omega, hb5.out.trans (hC6.at'.but.below (by simp) hb5.out.size)⟩
    clear hf hC hC6 hI6 c7 HG hlL f1 f2 K3 hthx HH5 hb5
    go_wp2_with fail
    go_ret
    exact ⟨w.heap.size, th, q, g, L, V, rfl, hF.out.1, hF.out.2.1, hF.out.2.2.1, hF.out.2.2.2.1, hF.out.2.2.2.2.1, hF.out.2.2.2.2.2, Nat.le_refl _, hlt⟩
section
variable (w : World) (x cl th : Nat) (who p : Int) (sp lf has : Bool) (bk nx : Option Addr) (h : Blk w x (wsCells who nx cl p sp lf has th bk) 218)
include h
theorem ws_holds_no (hs : has = false) :
    Calls Tryz.prog 103 #[.pointer (some ⟨x, 0, none⟩)] w fun e w' => e = .returned (.int .i64 (-1)) ∧ w = w' := by
  subst hs
  have c6 := h.cell 6 (v := .bool false) rfl
  clear h
  go_enter Tryz.func103, Tryz.ntmps103
  go_wp2_with fail
  go_ret
  exact ⟨rfl, rfl⟩
theorem ws_holds_one (hs : has = true) (hb : bk = none) :
    Calls Tryz.prog 103 #[.pointer (some ⟨x, 0, none⟩)] w fun e w' => e = .returned (.int .i64 p) ∧ w = w' := by
  subst hs hb
  have c6 := h.cell 6 (v := .bool true) rfl
  have c8 := h.cell 8 (v := .pointer none) rfl
  have c3 := h.cell 3 (v := .int .i64 p) rfl
  clear h
  go_enter Tryz.func103, Tryz.ntmps103
  go_wp2_with fail
  go_ret
  exact ⟨rfl, rfl⟩
theorem ws_holds_back (y : Nat) (v : Int) (hs : has = true) (hb : bk = some ⟨y, 0, none⟩) (hY : Calls Tryz.prog 104 #[.pointer (some ⟨y, 0, none⟩)] w fun e w' => e = .returned (.int .i64 v) ∧ w = w') :
    Calls Tryz.prog 103 #[.pointer (some ⟨x, 0, none⟩)] w fun e w' => e = .returned (.int .i64 v) ∧ w = w' := by
  subst hs hb
  have c6 := h.cell 6 (v := .bool true) rfl
  have c8 := h.cell 8 (v := .pointer (some ⟨y, 0, none⟩)) rfl
  clear h
  go_enter Tryz.func103, Tryz.ntmps103
  go_wp2_with fail
  go_at_call 104; refine hY.mono ?_; rintro e w1 ⟨rfl, rfl⟩
  clear hY
  go_wp2_with fail
  go_ret
  exact ⟨rfl, rfl⟩
end
/-- Starting a thread, as plain data: q is what the thread's machine is in, b the one that gives the processor back. -/
inductive WsT where
  | get (q : JgT)
  | rel1 (q : JgT) (r : RelT)
  | give (q : JgT)
  | note (q : JgT) (n : NwT)
  | need (q : JgT)
  | cnt (q : JgT)
  | lft (q : JgT)
  | back (q : JgT) (b : IpT)
  | rel2 (q : JgT) (b : Option IpT) (r : RelT)
def WsT.q : WsT → JgT
  | .get q => q
  | .rel1 q _ => q
  | .give q => q
  | .note q _ => q
  | .need q => q
  | .cnt q => q
  | .lft q => q
  | .back q _ => q
  | .rel2 q _ _ => q
def WsT.has : WsT → Bool
  | .note _ _ => false
  | .rel2 _ none _ => false
  | _ => true
def WsT.bk : WsT → Option IpT
  | .back _ b => some b
  | .rel2 _ b _ => b
  | _ => none
/-- The processor in its hand. -/
def WsT.holds (p : Int) (t : WsT) : Int := if t.has then (match t.bk with | some b => b.obs p | none => p) else -1
def wsPut (lf : Bool) (q : JgT) : WsT := if lf then .lft q else .back q .m0
def wsPM (P T p : Int) (sp lf : Bool) : PM WsT where
  ax := fun
    | .get q => (jgPM P T).ax q
    | .rel1 _ r => (relPM (wd 0 2 3 0 1) (wd 0 2 3 0 2)).ax r
    | .give q => some (axSt (wd (20 + P * 264) T 3 q.obs 1) (wkWord p sp))
    | .note q n => (nwPM (wd (20 + P * 264) T 3 q.obs 0)).ax n
    | .need _ => some (axSt 14 1)
    | .cnt _ => some (axAd 13 4294967295)
    | .lft _ => some (axSt (wd 20 P 264 p 0) 2)
    | .back _ b => (ipPM P p).ax b
    | .rel2 _ _ r => (relPM (wd 0 2 3 0 1) (wd 0 2 3 0 2)).ax r
  nx := fun
    | .get q, v => if ((jgPM P T).ax ((jgPM P T).nx q v)).isSome = true then .get ((jgPM P T).nx q v) else if ((jgPM P T).nx q v).obs = -1 then .need ((jgPM P T).nx q v) else .rel1 ((jgPM P T).nx q v) .fresh
    | .rel1 q r, v => if ((relPM (wd 0 2 3 0 1) (wd 0 2 3 0 2)).ax ((relPM (wd 0 2 3 0 1) (wd 0 2 3 0 2)).nx r v)).isSome = true then .rel1 q ((relPM (wd 0 2 3 0 1) (wd 0 2 3 0 2)).nx r v) else .give q
    | .give q, _ => .note q .fresh
    | .note q n, v => .note q ((nwPM (wd (20 + P * 264) T 3 q.obs 0)).nx n v)
    | .need q, _ => if sp then .cnt q else wsPut lf q
    | .cnt q, _ => wsPut lf q
    | .lft q, _ => .rel2 q none .fresh
    | .back q b, v => if ((ipPM P p).ax ((ipPM P p).nx b v)).isSome = true then .back q ((ipPM P p).nx b v) else .rel2 q (some ((ipPM P p).nx b v)) .fresh
    | .rel2 q b r, v => .rel2 q b ((relPM (wd 0 2 3 0 1) (wd 0 2 3 0 2)).nx r v)
end Go.Proofs.YtfdpikkinlljlaaGreat

namespace Go.Proofs.YtfdpikkinlljlaaGreat
open Go Go.RowKit
set_option linter.unusedVariables false
set_option maxRecDepth 100000
set_option linter.unusedSimpArgs false

theorem isD_ipg (v : Value) (xT : TypeId) (w : World) : (Instr.typeAssert (.iface 198 v) xT 245 true).run Tryz.prog w = .ok (.tuple #[.iface 198 v, .bool true]) w := run_typeAssert_hasB Tryz.underlying245 (by kernel_rfl) v xT w
theorem eqIIn_ipg (w : World) (fuel : Nat) (v : Value) : (Op.equalIn (fuel + 1) 203 (.iface 198 v) .nilIface).run Tryz.prog w = .ok false w := by
  simp only [Op.equalIn, Sem.run_bind, run_underlying Tryz.underlying203, Result.andThen_ok]
  rfl
theorem eqI_ipg (v : Value) (w : World) : (binOp .eql 203 (.iface 198 v) .nilIface).run Tryz.prog w = .ok (.bool false) w := by
  have h := eqIIn_ipg w 9999 v
  simp only [binOp]
  simp [Op.equal, Op.maxDepth, h]
theorem neqI_ipg (v : Value) (w : World) : (binOp .neq 203 (.iface 198 v) .nilIface).run Tryz.prog w = .ok (.bool true) w := by
  have h := eqIIn_ipg w 9999 v
  simp only [binOp]
  simp [Op.equal, Op.maxDepth, h]
theorem isdone_ipg (w : World) (x : Nat) (nx : Option Addr) (hc : w.cell? ⟨x, 1, none⟩ = some (.pointer nx)) :
    Calls Tryz.prog 150 #[.iface 198 (.pointer (some ⟨x, 0, none⟩))] w fun e w' => e = .returned (.bool nx.isNone) ∧ w = w' := by
  have h1 := isD_ipg
  have h2 := eqI_ipg
  have hD := done_ipg w x nx hc
  go_enter Tryz.func150, Tryz.ntmps150
  go_wp2_with fail
  go_at_call 343; refine hD.mono ?_; rintro e w1 ⟨rfl, rfl⟩
  go_wp2_with fail
  go_ret
  exact ⟨rfl, rfl⟩

theorem frun0_ipg (w : World) (c x : Nat) (cs : Array Value) (T : TypeId) (fv : Value) (nx : Addr) (h : Blk w c cs T) (hs : 2 ≤ cs.size) (hf : Fv fv) (hxc : x ≠ c) (hx : w.cell? ⟨x, 1, none⟩ = some (.pointer (some nx))) :
    Calls Tryz.prog 98 #[.pointer (some ⟨c, 0, none⟩), .iface 198 (.pointer (some ⟨x, 0, none⟩)), fv] w fun e w' => (∃ v, e = .returned v) ∧ ∃ q g, CameBox w w' c cs T (fun v => comCells 0 0 0 0 0 false (.iface 198 (.pointer (some ⟨x, 0, none⟩))) v false false) fv q g := by
  have c1 := h.cell 1 (Array.getElem?_eq_getElem (by omega))
  have f1 := h.fro 1
  have hlt := h.lt
  have h1 := h.set 1 (.pointer none)
  have c2 := h1.cell 1 (v := .pointer none) (by rw [Array.getElem?_setIfInBounds, if_pos rfl, if_pos (by omega)])
  have f2 := h1.fro 1
  have hB1 : But [c] w (w.setCell ⟨c, 1, none⟩ (.pointer none)) := (But.refl _ w).set (g := c) (.inl (by simp)) 1 _
  have hsz : (w.setCell ⟨c, 1, none⟩ (.pointer none)).heap.size = w.heap.size := size_set _ _ _
  have hD := isdone_ipg (w.setCell ⟨c, 1, none⟩ (.pointer none)) x (some nx) (by
    rw [show (w.setCell ⟨c, 1, none⟩ (.pointer none)).cell? ⟨x, 1, none⟩ = w.cell? ⟨x, 1, none⟩ by simp only [World.cell?]; rw [heap_set_ne w hxc 1 _]]
    exact hx)
  have hU := fun w => untold_any w fv hf
  have HH : Hid (Blk (w.setCell ⟨c, 1, none⟩ (.pointer none)) c (cs.setIfInBounds 1 (.pointer none)) T ∧ But [c] w (w.setCell ⟨c, 1, none⟩ (.pointer none))) := ⟨h1, hB1⟩
  clear h h1 hB1 hx
  go_enter Tryz.func98, Tryz.ntmps98
  go_wp2_with fail
  generalize w.setCell ⟨c, 1, none⟩ (.pointer none) = W at *
  go_at_call 150; refine hD.mono ?_; rintro e w1 ⟨rfl, rfl⟩
  go_wp2_with fail
  go_at_call 140; refine (hU _).mono ?_; rintro e w2 ⟨rfl, rfl⟩
  have hg := Blk.new W #[fv] 1
  have hW2 : Blk (W.alloc (.cells #[fv] 1)) c (cs.setIfInBounds 1 (.pointer none)) T := HH.out.1.al _
  have hsz2 : Hid ((W.alloc (.cells #[fv] 1)).heap.size = w.heap.size + 1) := (by rw [World.size_alloc, hsz] : (W.alloc (.cells #[fv] 1)).heap.size = w.heap.size + 1)
  have hB2 : But [c] w (W.alloc (.cells #[fv] 1)) := HH.out.2.alloc _
  rw [hsz] at hg ⊢
  have HG : Hid (Blk (W.alloc (.cells #[fv] 1)) w.heap.size #[fv] 1 ∧ Blk (W.alloc (.cells #[fv] 1)) c (cs.setIfInBounds 1 (.pointer none)) T ∧ But [c] w (W.alloc (.cells #[fv] 1))) := ⟨hg, hW2, hB2⟩
  have c3 := hW2.cell 1 (v := .pointer none) (by rw [Array.getElem?_setIfInBounds, if_pos rfl, if_pos (by omega)])
  have f3 := hW2.fro 1
  clear hD hU c1 f1 c2 f2 hg hW2 hB2
  generalize W.alloc (.cells #[fv] 1) = W2 at *
  have hlt2 : c < W2.heap.size := by have := hsz2.out; omega
  clear hsz HH
  go_wp2_with fail
  go_end0
  obtain ⟨g1, g2, g3⟩ := HG.out
  have hsz2 := hsz2.out
  refine ⟨⟨_, rfl⟩, W2.heap.size, w.heap.size, ⟨⟨by omega, ?_, ?_, ?_⟩, Nat.le_refl _, ?_, by omega⟩⟩
  · have := (g2.set 1 (.pointer (some ⟨W2.heap.size, 0, none⟩))).al (.cells (comCells 0 0 0 0 0 false (.iface 198 (.pointer (some ⟨x, 0, none⟩))) (.func (.func 175) #[] #[.pointer (some ⟨w.heap.size, 0, none⟩)]) false false) 205)
    rw [set_twice] at this
    exact this
  · have := Blk.new (W2.setCell ⟨c, 1, none⟩ (.pointer (some ⟨W2.heap.size, 0, none⟩))) (comCells 0 0 0 0 0 false (.iface 198 (.pointer (some ⟨x, 0, none⟩))) (.func (.func 175) #[] #[.pointer (some ⟨w.heap.size, 0, none⟩)]) false false) 205
    rw [size_set] at this
    exact this
  · exact (g3.set (g := c) (.inl (by simp)) 1 _).alloc _
  · exact (g1.setne (by omega) 1 _).al _

theorem act0_ipg (w : World) (q cm x : Nat) (who : Int) (thn : Value) (z : Bool) (Mw : World → Prop) (hq : Blk w q (comCells 0 0 0 0 0 false (.iface 198 (.pointer (some ⟨x, 0, none⟩))) thn false false) 205)
    (hS : ∀ W, But [q] w W → Blk W q (comCells 0 0 0 0 0 false (.iface 198 (.pointer (some ⟨x, 0, none⟩))) thn false true) 205 → Calls Tryz.prog 344 #[.pointer (some ⟨x, 0, none⟩), .pointer (some ⟨cm, 0, none⟩)] W fun e w' => e = .returned (.bool z) ∧ Blk w' q (comCells 0 0 0 0 0 false (.iface 198 (.pointer (some ⟨x, 0, none⟩))) thn false true) 205 ∧ Mw w') :
    Calls Tryz.prog 139 #[.pointer (some ⟨q, 0, none⟩), .int .i64 who, .pointer (some ⟨cm, 0, none⟩)] w fun e w' => e = .returned (.tuple #[.int .u64 0, .bool z]) ∧ ∃ w1, Mw w1 ∧ Blk w1 q (comCells 0 0 0 0 0 false (.iface 198 (.pointer (some ⟨x, 0, none⟩))) thn false true) 205 ∧ w' = w1.setCell ⟨q, 9, none⟩ (.bool false) := by
  have hn := neqI_ipg
  have hbm := Blk.new w #[.pointer (some ⟨cm, 0, none⟩)] 31
  have hq1 := hq.al (.cells #[.pointer (some ⟨cm, 0, none⟩)] 31)
  have hqlt := hq.lt
  have k6 := hq1.cell 6 (v := .iface 198 (.pointer (some ⟨x, 0, none⟩))) rfl
  have hask : Calls Tryz.prog 172 #[.pointer (some ⟨q, 0, none⟩), .func (.func 173) #[] #[.pointer (some ⟨w.heap.size, 0, none⟩)]] (w.alloc (.cells #[.pointer (some ⟨cm, 0, none⟩)] 31)) fun e w' => e = .returned (.bool z) ∧ ∃ w1, Mw w1 ∧ Blk w1 q (comCells 0 0 0 0 0 false (.iface 198 (.pointer (some ⟨x, 0, none⟩))) thn false true) 205 ∧ w' = w1.setCell ⟨q, 9, none⟩ (.bool false) := by
    have hne : w.heap.size ≠ q := by omega
    have k9 := hq1.cell 9 (v := .bool false) rfl
    have f9 := hq1.fro 9
    have hq2 := hq1.set 9 (.bool true)
    have l6 := hq2.cell 6 (v := .iface 198 (.pointer (some ⟨x, 0, none⟩))) rfl
    have hb2 := hbm.setne hne 9 (.bool true)
    have b0 := hb2.cell 0 (v := .pointer (some ⟨cm, 0, none⟩)) rfl
    have hst := hS ((w.alloc (.cells #[.pointer (some ⟨cm, 0, none⟩)] 31)).setCell ⟨q, 9, none⟩ (.bool true)) (((But.refl [q] w).alloc _).set (g := q) (.inl (by simp)) 9 _) hq2
    have hrun : Calls Tryz.prog 173 #[.iface 198 (.pointer (some ⟨x, 0, none⟩)), .pointer (some ⟨w.heap.size, 0, none⟩)] ((w.alloc (.cells #[.pointer (some ⟨cm, 0, none⟩)] 31)).setCell ⟨q, 9, none⟩ (.bool true)) fun e w' => e = .returned (.bool z) ∧ Blk w' q (comCells 0 0 0 0 0 false (.iface 198 (.pointer (some ⟨x, 0, none⟩))) thn false true) 205 ∧ Mw w' := by
      clear hS hq hbm hq1 k6 k9 f9 hq2 l6 hb2 hqlt hne
      generalize (w.alloc (.cells #[.pointer (some ⟨cm, 0, none⟩)] 31)).setCell ⟨q, 9, none⟩ (.bool true) = W at *
      go_enter Tryz.func173, Tryz.ntmps173
      go_wp2_with fail
      go_at_call 344; refine hst.mono ?_; rintro e w1 ⟨rfl, h1, h2⟩
      go_wp2_with fail
      go_ret
      exact ⟨rfl, h1, h2⟩
    clear hS hq hbm hq1 hq2 hb2 hst b0 hqlt
    go_enter Tryz.func172, Tryz.ntmps172
    go_wp2_with fail
    generalize (w.alloc (.cells #[.pointer (some ⟨cm, 0, none⟩)] 31)).setCell ⟨q, 9, none⟩ (.bool true) = W at *
    go_at_call 173; refine hrun.mono ?_; rintro e w1 ⟨rfl, h1, h2⟩
    have m9 := h1.cell 9 (v := .bool true) rfl
    have g9 := h1.fro 9
    clear hrun l6 k9 f9 k6
    go_wp2_with fail
    go_ret
    exact ⟨rfl, w1, h2, h1, rfl⟩
  clear hS hq hq1 hbm
  go_enter Tryz.func139, Tryz.ntmps139
  go_wp2_with fail
  generalize w.alloc (.cells #[.pointer (some ⟨cm, 0, none⟩)] 31) = W at *
  go_at_call 172; refine hask.mono ?_; rintro e w1 ⟨rfl, h1⟩
  clear hask k6
  go_wp2_with fail
  go_returns
  exact ⟨rfl, h1⟩

theorem frun_ipg : RunCome 198 := fun w c y cs T fv nx h hs hf hyc hx => frun0_ipg w c y cs T fv nx h hs hf hyc hx
theorem act_ipg : ActRun 198 344 := fun w q cm y g who z Mw hq hS => act0_ipg w q cm y who _ z Mw hq hS
end Go.Proofs.YtfdpikkinlljlaaGreat

namespace Go.Proofs.YtfdpikkinlljlaaGreat
open Go Go.RowKit
set_option linter.unusedVariables false
set_option maxRecDepth 100000
set_option linter.unusedSimpArgs false

theorem isD_wst (v : Value) (xT : TypeId) (w : World) : (Instr.typeAssert (.iface 153 v) xT 245 true).run Tryz.prog w = .ok (.tuple #[.iface 153 v, .bool true]) w := run_typeAssert_hasB Tryz.underlying245 (by kernel_rfl) v xT w
theorem eqIIn_wst (w : World) (fuel : Nat) (v : Value) : (Op.equalIn (fuel + 1) 203 (.iface 153 v) .nilIface).run Tryz.prog w = .ok false w := by
  simp only [Op.equalIn, Sem.run_bind, run_underlying Tryz.underlying203, Result.andThen_ok]
  rfl
theorem eqI_wst (v : Value) (w : World) : (binOp .eql 203 (.iface 153 v) .nilIface).run Tryz.prog w = .ok (.bool false) w := by
  have h := eqIIn_wst w 9999 v
  simp only [binOp]
  simp [Op.equal, Op.maxDepth, h]
theorem neqI_wst (v : Value) (w : World) : (binOp .neq 203 (.iface 153 v) .nilIface).run Tryz.prog w = .ok (.bool true) w := by
  have h := eqIIn_wst w 9999 v
  simp only [binOp]
  simp [Op.equal, Op.maxDepth, h]
theorem isdone_wst (w : World) (x : Nat) (nx : Option Addr) (hc : w.cell? ⟨x, 1, none⟩ = some (.pointer nx)) :
    Calls Tryz.prog 150 #[.iface 153 (.pointer (some ⟨x, 0, none⟩))] w fun e w' => e = .returned (.bool nx.isNone) ∧ w = w' := by
  have h1 := isD_wst
  have h2 := eqI_wst
  have hD := done_wst w x nx hc
  go_enter Tryz.func150, Tryz.ntmps150
  go_wp2_with fail
  go_at_call 338; refine hD.mono ?_; rintro e w1 ⟨rfl, rfl⟩
  go_wp2_with fail
  go_ret
  exact ⟨rfl, rfl⟩

theorem frun0_wst (w : World) (c x : Nat) (cs : Array Value) (T : TypeId) (fv : Value) (nx : Addr) (h : Blk w c cs T) (hs : 2 ≤ cs.size) (hf : Fv fv) (hxc : x ≠ c) (hx : w.cell? ⟨x, 1, none⟩ = some (.pointer (some nx))) :
    Calls Tryz.prog 98 #[.pointer (some ⟨c, 0, none⟩), .iface 153 (.pointer (some ⟨x, 0, none⟩)), fv] w fun e w' => (∃ v, e = .returned v) ∧ ∃ q g, CameBox w w' c cs T (fun v => comCells 0 0 0 0 0 false (.iface 153 (.pointer (some ⟨x, 0, none⟩))) v false false) fv q g := by
  have c1 := h.cell 1 (Array.getElem?_eq_getElem (by omega))
  have f1 := h.fro 1
  have hlt := h.lt
  have h1 := h.set 1 (.pointer none)
  have c2 := h1.cell 1 (v := .pointer none) (by rw [Array.getElem?_setIfInBounds, if_pos rfl, if_pos (by omega)])
  have f2 := h1.fro 1
  have hB1 : But [c] w (w.setCell ⟨c, 1, none⟩ (.pointer none)) := (But.refl _ w).set (g := c) (.inl (by simp)) 1 _
  have hsz : (w.setCell ⟨c, 1, none⟩ (.pointer none)).heap.size = w.heap.size := size_set _ _ _
  have hD := isdone_wst (w.setCell ⟨c, 1, none⟩ (.pointer none)) x (some nx) (by
    rw [show (w.setCell ⟨c, 1, none⟩ (.pointer none)).cell? ⟨x, 1, none⟩ = w.cell? ⟨x, 1, none⟩ by simp only [World.cell?]; rw [heap_set_ne w hxc 1 _]]
    exact hx)
  have hU := fun w => untold_any w fv hf
  have HH : Hid (Blk (w.setCell ⟨c, 1, none⟩ (.pointer none)) c (cs.setIfInBounds 1 (.pointer none)) T ∧ But [c] w (w.setCell ⟨c, 1, none⟩ (.pointer none))) := ⟨h1, hB1⟩
  clear h h1 hB1 hx
  go_enter Tryz.func98, Tryz.ntmps98
  go_wp2_with fail
  generalize w.setCell ⟨c, 1, none⟩ (.pointer none) = W at *
  go_at_call 150; refine hD.mono ?_; rintro e w1 ⟨rfl, rfl⟩
  go_wp2_with fail
  go_at_call 140; refine (hU _).mono ?_; rintro e w2 ⟨rfl, rfl⟩
  have hg := Blk.new W #[fv] 1
  have hW2 : Blk (W.alloc (.cells #[fv] 1)) c (cs.setIfInBounds 1 (.pointer none)) T := HH.out.1.al _
  have hsz2 : Hid ((W.alloc (.cells #[fv] 1)).heap.size = w.heap.size + 1) := (by rw [World.size_alloc, hsz] : (W.alloc (.cells #[fv] 1)).heap.size = w.heap.size + 1)
  have hB2 : But [c] w (W.alloc (.cells #[fv] 1)) := HH.out.2.alloc _
  rw [hsz] at hg ⊢
  have HG : Hid (Blk (W.alloc (.cells #[fv] 1)) w.heap.size #[fv] 1 ∧ Blk (W.alloc (.cells #[fv] 1)) c (cs.setIfInBounds 1 (.pointer none)) T ∧ But [c] w (W.alloc (.cells #[fv] 1))) := ⟨hg, hW2, hB2⟩
  have c3 := hW2.cell 1 (v := .pointer none) (by rw [Array.getElem?_setIfInBounds, if_pos rfl, if_pos (by omega)])
  have f3 := hW2.fro 1
  clear hD hU c1 f1 c2 f2 hg hW2 hB2
  generalize W.alloc (.cells #[fv] 1) = W2 at *
  have hlt2 : c < W2.heap.size := by have := hsz2.out; omega
  clear hsz HH
  go_wp2_with fail
  go_end0
  obtain ⟨g1, g2, g3⟩ := HG.out
  have hsz2 := hsz2.out
  refine ⟨⟨_, rfl⟩, W2.heap.size, w.heap.size, ⟨⟨by omega, ?_, ?_, ?_⟩, Nat.le_refl _, ?_, by omega⟩⟩
  · have := (g2.set 1 (.pointer (some ⟨W2.heap.size, 0, none⟩))).al (.cells (comCells 0 0 0 0 0 false (.iface 153 (.pointer (some ⟨x, 0, none⟩))) (.func (.func 175) #[] #[.pointer (some ⟨w.heap.size, 0, none⟩)]) false false) 205)
    rw [set_twice] at this
    exact this
  · have := Blk.new (W2.setCell ⟨c, 1, none⟩ (.pointer (some ⟨W2.heap.size, 0, none⟩))) (comCells 0 0 0 0 0 false (.iface 153 (.pointer (some ⟨x, 0, none⟩))) (.func (.func 175) #[] #[.pointer (some ⟨w.heap.size, 0, none⟩)]) false false) 205
    rw [size_set] at this
    exact this
  · exact (g3.set (g := c) (.inl (by simp)) 1 _).alloc _
  · exact (g1.setne (by omega) 1 _).al _

theorem act0_wst (w : World) (q cm x : Nat) (who : Int) (thn : Value) (z : Bool) (Mw : World → Prop) (hq : Blk w q (comCells 0 0 0 0 0 false (.iface 153 (.pointer (some ⟨x, 0, none⟩))) thn false false) 205)
    (hS : ∀ W, But [q] w W → Blk W q (comCells 0 0 0 0 0 false (.iface 153 (.pointer (some ⟨x, 0, none⟩))) thn false true) 205 → Calls Tryz.prog 339 #[.pointer (some ⟨x, 0, none⟩), .pointer (some ⟨cm, 0, none⟩)] W fun e w' => e = .returned (.bool z) ∧ Blk w' q (comCells 0 0 0 0 0 false (.iface 153 (.pointer (some ⟨x, 0, none⟩))) thn false true) 205 ∧ Mw w') :
    Calls Tryz.prog 139 #[.pointer (some ⟨q, 0, none⟩), .int .i64 who, .pointer (some ⟨cm, 0, none⟩)] w fun e w' => e = .returned (.tuple #[.int .u64 0, .bool z]) ∧ ∃ w1, Mw w1 ∧ Blk w1 q (comCells 0 0 0 0 0 false (.iface 153 (.pointer (some ⟨x, 0, none⟩))) thn false true) 205 ∧ w' = w1.setCell ⟨q, 9, none⟩ (.bool false) := by
  have hn := neqI_wst
  have hbm := Blk.new w #[.pointer (some ⟨cm, 0, none⟩)] 31
  have hq1 := hq.al (.cells #[.pointer (some ⟨cm, 0, none⟩)] 31)
  have hqlt := hq.lt
  have k6 := hq1.cell 6 (v := .iface 153 (.pointer (some ⟨x, 0, none⟩))) rfl
  have hask : Calls Tryz.prog 172 #[.pointer (some ⟨q, 0, none⟩), .func (.func 173) #[] #[.pointer (some ⟨w.heap.size, 0, none⟩)]] (w.alloc (.cells #[.pointer (some ⟨cm, 0, none⟩)] 31)) fun e w' => e = .returned (.bool z) ∧ ∃ w1, Mw w1 ∧ Blk w1 q (comCells 0 0 0 0 0 false (.iface 153 (.pointer (some ⟨x, 0, none⟩))) thn false true) 205 ∧ w' = w1.setCell ⟨q, 9, none⟩ (.bool false) := by
    have hne : w.heap.size ≠ q := by omega
    have k9 := hq1.cell 9 (v := .bool false) rfl
    have f9 := hq1.fro 9
    have hq2 := hq1.set 9 (.bool true)
    have l6 := hq2.cell 6 (v := .iface 153 (.pointer (some ⟨x, 0, none⟩))) rfl
    have hb2 := hbm.setne hne 9 (.bool true)
    have b0 := hb2.cell 0 (v := .pointer (some ⟨cm, 0, none⟩)) rfl
    have hst := hS ((w.alloc (.cells #[.pointer (some ⟨cm, 0, none⟩)] 31)).setCell ⟨q, 9, none⟩ (.bool true)) (((But.refl [q] w).alloc _).set (g := q) (.inl (by simp)) 9 _) hq2
    have hrun : Calls Tryz.prog 173 #[.iface 153 (.pointer (some ⟨x, 0, none⟩)), .pointer (some ⟨w.heap.size, 0, none⟩)] ((w.alloc (.cells #[.pointer (some ⟨cm, 0, none⟩)] 31)).setCell ⟨q, 9, none⟩ (.bool true)) fun e w' => e = .returned (.bool z) ∧ Blk w' q (comCells 0 0 0 0 0 false (.iface 153 (.pointer (some ⟨x, 0, none⟩))) thn false true) 205 ∧ Mw w' := by
      clear hS hq hbm hq1 k6 k9 f9 hq2 l6 hb2 hqlt hne
      generalize (w.alloc (.cells #[.pointer (some ⟨cm, 0, none⟩)] 31)).setCell ⟨q, 9, none⟩ (.bool true) = W at *
      go_enter Tryz.func173, Tryz.ntmps173
      go_wp2_with fail
      go_at_call 339; refine hst.mono ?_; rintro e w1 ⟨rfl, h1, h2⟩
      go_wp2_with fail
      go_ret
      exact ⟨rfl, h1, h2⟩
    clear hS hq hbm hq1 hq2 hb2 hst b0 hqlt
    go_enter Tryz.func172, Tryz.ntmps172
    go_wp2_with fail
    generalize (w.alloc (.cells #[.pointer (some ⟨cm, 0, none⟩)] 31)).setCell ⟨q, 9, none⟩ (.bool true) = W at *
    go_at_call 173; refine hrun.mono ?_; rintro e w1 ⟨rfl, h1, h2⟩
    have m9 := h1.cell 9 (v := .bool true) rfl
    have g9 := h1.fro 9
    clear hrun l6 k9 f9 k6
    go_wp2_with fail
    go_ret
    exact ⟨rfl, w1, h2, h1, rfl⟩
  clear hS hq hq1 hbm
  go_enter Tryz.func139, Tryz.ntmps139
  go_wp2_with fail
  generalize w.alloc (.cells #[.pointer (some ⟨cm, 0, none⟩)] 31) = W at *
  go_at_call 172; refine hask.mono ?_; rintro e w1 ⟨rfl, h1⟩
  clear hask k6
  go_wp2_with fail
  go_returns
  exact ⟨rfl, h1⟩

theorem frun_wst : RunCome 153 := fun w c y cs T fv nx h hs hf hyc hx => frun0_wst w c y cs T fv nx h hs hf hyc hx
theorem act_wst : ActRun 153 339 := fun w q cm y g who z Mw hq hS => act0_wst w q cm y who _ z Mw hq hS
end Go.Proofs.YtfdpikkinlljlaaGreat

namespace Go.Proofs.YtfdpikkinlljlaaGreat
open Go Go.RowKit
set_option linter.unusedVariables false
set_option maxRecDepth 100000
set_option linter.unusedSimpArgs false

def rpCells (who : Int) (nx : Option Addr) (cl : Nat) (p g : Int) (has : Bool) (nt hd tl : Int) (rest : List Value) : Array Value := (.int .i64 who :: .pointer nx :: .pointer (some ⟨cl, 0, none⟩) :: .int .i64 p :: .int .i64 g :: .bool has :: .int .u64 nt :: .int .u64 hd :: .int .u64 tl :: rest).toArray
def rpw (g : Int) : Int := IntKind.u64.wrap (IntKind.u64.wrap g + 1)
section
variable {who : Int} {nx : Option Addr} {cl : Nat} {p g : Int} {has : Bool} {nt hd tl : Int} {rest : List Value}
theorem rp_size : 2 ≤ (rpCells who nx cl p g has nt hd tl rest).size := by simp [rpCells]
theorem rp_c0 : (rpCells who nx cl p g has nt hd tl rest)[0]? = some (.int .i64 who) := by simp [rpCells]
theorem rp_c1 : (rpCells who nx cl p g has nt hd tl rest)[1]? = some (.pointer nx) := by simp [rpCells]
theorem rp_c2 : (rpCells who nx cl p g has nt hd tl rest)[2]? = some (.pointer (some ⟨cl, 0, none⟩)) := by simp [rpCells]
theorem rp_c3 : (rpCells who nx cl p g has nt hd tl rest)[3]? = some (.int .i64 p) := by simp [rpCells]
theorem rp_c4 : (rpCells who nx cl p g has nt hd tl rest)[4]? = some (.int .i64 g) := by simp [rpCells]
theorem rp_c5 : (rpCells who nx cl p g has nt hd tl rest)[5]? = some (.bool has) := by simp [rpCells]
theorem rp_c6 : (rpCells who nx cl p g has nt hd tl rest)[6]? = some (.int .u64 nt) := by simp [rpCells]
theorem rp_c7 : (rpCells who nx cl p g has nt hd tl rest)[7]? = some (.int .u64 hd) := by simp [rpCells]
theorem rp_c8 : (rpCells who nx cl p g has nt hd tl rest)[8]? = some (.int .u64 tl) := by simp [rpCells]
theorem rp_s1 (nx' : Option Addr) : (rpCells who nx cl p g has nt hd tl rest).setIfInBounds 1 (.pointer nx') = (rpCells who nx' cl p g has nt hd tl rest) := by simp [rpCells]
theorem rp_s4 (g' : Int) : (rpCells who nx cl p g has nt hd tl rest).setIfInBounds 4 (.int .i64 g') = (rpCells who nx cl p g' has nt hd tl rest) := by simp [rpCells]
theorem rp_s5 (h' : Bool) : (rpCells who nx cl p g has nt hd tl rest).setIfInBounds 5 (.bool h') = (rpCells who nx cl p g h' nt hd tl rest) := by simp [rpCells]
theorem rp_s6 (v' : Int) : (rpCells who nx cl p g has nt hd tl rest).setIfInBounds 6 (.int .u64 v') = (rpCells who nx cl p g has v' hd tl rest) := by simp [rpCells]
theorem rp_s7 (v' : Int) : (rpCells who nx cl p g has nt hd tl rest).setIfInBounds 7 (.int .u64 v') = (rpCells who nx cl p g has nt v' tl rest) := by simp [rpCells]
theorem rp_s8 (v' : Int) : (rpCells who nx cl p g has nt hd tl rest).setIfInBounds 8 (.int .u64 v') = (rpCells who nx cl p g has nt hd v' rest) := by simp [rpCells]
end
section
variable (w : World) (x cl : Nat) (who p g P T G nt hd tl : Int) (has : Bool) (rest : List Value) (nx : Option Addr) (hB : Blk w x (rpCells who nx cl p g has nt hd tl rest) 249) (hl : Lay w cl P T G) (hp : 0 ≤ P ∧ P ≤ 64)
include hB hl hp
theorem rp_proc (f : Int) (hf : 0 ≤ f ∧ f < 8) : Calls Tryz.prog 214 #[.pointer (some ⟨x, 0, none⟩), .int .i64 f] w fun e w' => e = .returned (.int .i64 (wd 20 P 264 p f)) ∧ Below w.heap.size w w' := by
  have c2 := hB.cell 2 rp_c2
  have c3 := hB.cell 3 rp_c3
  have hPr := lprc_any (some ⟨cl, 0, none⟩) P T G p f w.drew (.some cl (hl.below ((Below.refl _ _).drew) hl.lt)) hp hf
  have hD : Hid (Below w.heap.size w w.drew) := (Below.refl _ _).drew
  generalize wd 20 P 264 p f = at' at *
  clear hB hl hp hf
  go_enter Tryz.func214, Tryz.ntmps214
  go_wp2_with fail
  go_region_with (first | (go_at_call 108; refine hPr.mono ?_; rintro e w4 ⟨rfl, k⟩))
  all_goals
    have hF : Hid (Below w.heap.size w w4) := hD.out.trans (k.mono hD.out.size)
    clear hPr k c2 c3
    go_wp2_with fail
    go_ret
    exact ⟨rfl, hF.out⟩
omit hl hp in
theorem rp_word : Calls Tryz.prog 230 #[.pointer (some ⟨x, 0, none⟩)] w fun e w' => e = .returned (.int .u64 (rpw g)) ∧ w = w' := by
  have c4 := hB.cell 4 rp_c4
  clear hB
  go_enter Tryz.func230, Tryz.ntmps230
  go_wp2_with fail
  go_ret
  exact ⟨rfl, rfl⟩
theorem rp_lookNext : Calls Tryz.prog 196 #[.pointer (some ⟨x, 0, none⟩)] w fun e w' => (∃ v, e = .returned v) ∧ Came w w' x (rpCells who nx cl p g has nt hd tl rest) 249 (axLd (wd 20 P 264 p 3)) (.told 215) := by
  have hPr := rp_proc w.drew x cl who p g P T G nt hd tl has rest nx hB.drew (hl.below ((Below.refl _ _).drew) hl.lt) hp 3 (by omega)
  have HS : Hid (∀ w4, Below w.drew.heap.size w.drew w4 → Calls Tryz.prog 67 #[.pointer (some ⟨x, 0, none⟩), .int .i64 (wd 20 P 264 p 3), .func (.func 215) #[.pointer (some ⟨x, 0, none⟩)] #[]] w4 fun e w' => (∃ v, e = .returned v) ∧ Came w w' x (rpCells who nx cl p g has nt hd tl rest) 249 (axLd (wd 20 P 264 p 3)) (.told 215)) := by
    intro w4 k
    have h4 : Blk w4 x (rpCells who nx cl p g has nt hd tl rest) 249 := hB.drew.but (But.of_below (l := []) k) (by simp)
    refine (came_load w4 x _ 249 h4 rp_size _ _).mono ?_
    rintro e w5 ⟨hv, hC⟩
    exact ⟨hv, hC.before ((But.refl [x] w).drew.trans (But.of_below k))⟩
  generalize wd 20 P 264 p 3 = at' at *
  clear hB hl hp
  go_enter Tryz.func196, Tryz.ntmps196
  go_wp2_with fail
  go_region_with (first | (go_at_call 214; refine hPr.mono ?_; rintro e w4 ⟨rfl, k⟩) | (go_at_call 67; refine (HS.out _ k).mono ?_; rintro e w5 ⟨⟨v, rfl⟩, hC⟩))
  all_goals
    clear hPr k HS
    go_wp2_with fail
    go_end0
    exact ⟨⟨_, rfl⟩, hC⟩
theorem rp_lookHead : Calls Tryz.prog 197 #[.pointer (some ⟨x, 0, none⟩)] w fun e w' => (∃ v, e = .returned v) ∧ Came w w' x (rpCells who nx cl p g has nt hd tl rest) 249 (axLd (wd 20 P 264 p 1)) (.told 216) := by
  have hPr := rp_proc w.drew x cl who p g P T G nt hd tl has rest nx hB.drew (hl.below ((Below.refl _ _).drew) hl.lt) hp 1 (by omega)
  have HS : Hid (∀ w4, Below w.drew.heap.size w.drew w4 → Calls Tryz.prog 67 #[.pointer (some ⟨x, 0, none⟩), .int .i64 (wd 20 P 264 p 1), .func (.func 216) #[.pointer (some ⟨x, 0, none⟩)] #[]] w4 fun e w' => (∃ v, e = .returned v) ∧ Came w w' x (rpCells who nx cl p g has nt hd tl rest) 249 (axLd (wd 20 P 264 p 1)) (.told 216)) := by
    intro w4 k
    have h4 : Blk w4 x (rpCells who nx cl p g has nt hd tl rest) 249 := hB.drew.but (But.of_below (l := []) k) (by simp)
    refine (came_load w4 x _ 249 h4 rp_size _ _).mono ?_
    rintro e w5 ⟨hv, hC⟩
    exact ⟨hv, hC.before ((But.refl [x] w).drew.trans (But.of_below k))⟩
  generalize wd 20 P 264 p 1 = at' at *
  clear hB hl hp
  go_enter Tryz.func197, Tryz.ntmps197
  go_wp2_with fail
  go_region_with (first | (go_at_call 214; refine hPr.mono ?_; rintro e w4 ⟨rfl, k⟩) | (go_at_call 67; refine (HS.out _ k).mono ?_; rintro e w5 ⟨⟨v, rfl⟩, hC⟩))
  all_goals
    clear hPr k HS
    go_wp2_with fail
    go_end0
    exact ⟨⟨_, rfl⟩, hC⟩
theorem rp_lookTail (v : Int) (hxc : cl ≠ x) : Calls Tryz.prog 216 #[.pointer (some ⟨x, 0, none⟩), .int .u64 v] w fun e w' => (∃ v, e = .returned v) ∧ Came w w' x (rpCells who nx cl p g has nt v tl rest) 249 (axLd (wd 20 P 264 p 2)) (.told 232) := by
  have c7 := hB.cell 7 rp_c7
  have hlt := hB.lt
  have f7 := hB.fro 7
  have hB' : Blk (w.setCell ⟨x, 7, none⟩ (.int .u64 v)) x (rpCells who nx cl p g has nt v tl rest) 249 := by
    have := hB.set 7 (.int .u64 v)
    rw [rp_s7] at this
    exact this
  have hU : But [x] w (w.setCell ⟨x, 7, none⟩ (.int .u64 v)) := (But.refl _ w).set (g := x) (.inl (by simp)) 7 _
  have hl' : Lay (w.setCell ⟨x, 7, none⟩ (.int .u64 v)) cl P T G := (hU.block cl hl.lt (by simpa using hxc)).trans hl
  generalize hV : w.setCell ⟨x, 7, none⟩ (.int .u64 v) = V at hB' hU hl'
  have hPr := rp_proc V.drew x cl who p g P T G nt v tl has rest nx hB'.drew (hl'.below ((Below.refl _ _).drew) hl'.lt) hp 2 (by omega)
  have HS : Hid (∀ w4, Below V.drew.heap.size V.drew w4 → Calls Tryz.prog 67 #[.pointer (some ⟨x, 0, none⟩), .int .i64 (wd 20 P 264 p 2), .func (.func 232) #[.pointer (some ⟨x, 0, none⟩)] #[]] w4 fun e w' => (∃ v, e = .returned v) ∧ Came w w' x (rpCells who nx cl p g has nt v tl rest) 249 (axLd (wd 20 P 264 p 2)) (.told 232)) := by
    intro w4 k
    have h4 : Blk w4 x (rpCells who nx cl p g has nt v tl rest) 249 := hB'.drew.but (But.of_below (l := []) k) (by simp)
    refine (came_load w4 x _ 249 h4 rp_size _ _).mono ?_
    rintro e w5 ⟨hv, hC⟩
    exact ⟨hv, hC.before (hU.drew.trans (But.of_below k))⟩
  generalize wd 20 P 264 p 2 = at' at *
  clear hB hB' hU hl' hl hp hxc
  go_enter Tryz.func216, Tryz.ntmps216
  go_wp2_with fail
  try rw [hV]
  clear hV c7 f7
  go_region_with (first | (go_at_call 214; refine hPr.mono ?_; rintro e w4 ⟨rfl, k⟩) | (go_at_call 67; refine (HS.out _ k).mono ?_; rintro e w5 ⟨⟨v, rfl⟩, hC⟩))
  all_goals
    clear hPr k HS
    go_wp2_with fail
    go_end0
    exact ⟨⟨_, rfl⟩, hC⟩
set_option maxHeartbeats 2000000 in
theorem rp_replace (v : Int) (hxc : cl ≠ x) : Calls Tryz.prog 215 #[.pointer (some ⟨x, 0, none⟩), .int .u64 v] w fun e w' => (∃ v, e = .returned v) ∧ Came w w' x (rpCells who nx cl p g has v hd tl rest) 249 (axSw (wd 20 P 264 p 3) v (rpw g)) (.swap 231) := by
  have c6 := hB.cell 6 rp_c6
  have hlt := hB.lt
  have f6 := hB.fro 6
  have hB' : Blk (w.setCell ⟨x, 6, none⟩ (.int .u64 v)) x (rpCells who nx cl p g has v hd tl rest) 249 := by
    have := hB.set 6 (.int .u64 v)
    rw [rp_s6] at this
    exact this
  have hU : But [x] w (w.setCell ⟨x, 6, none⟩ (.int .u64 v)) := (But.refl _ w).set (g := x) (.inl (by simp)) 6 _
  have hl' : Lay (w.setCell ⟨x, 6, none⟩ (.int .u64 v)) cl P T G := (hU.block cl hl.lt (by simpa using hxc)).trans hl
  generalize hV : w.setCell ⟨x, 6, none⟩ (.int .u64 v) = V at hB' hU hl'
  have HPr : Hid (∀ Y, Below V.drew.heap.size V.drew Y → Calls Tryz.prog 214 #[.pointer (some ⟨x, 0, none⟩), .int .i64 3] Y fun e w' => e = .returned (.int .i64 (wd 20 P 264 p 3)) ∧ Below V.drew.heap.size V.drew w') := fun Y k => (rp_proc Y x cl who p g P T G v hd tl has rest nx (hB'.drew.but (But.of_below (l := []) k) (by simp)) (Lay.below (w := V.drew) hl' k hl'.lt) hp 3 (by omega)).mono fun e w' hh => ⟨hh.1, k.trans (hh.2.mono k.size)⟩
  have HW : Hid (∀ Y, Below V.drew.heap.size V.drew Y → Calls Tryz.prog 230 #[.pointer (some ⟨x, 0, none⟩)] Y fun e w' => e = .returned (.int .u64 (rpw g)) ∧ Y = w') := fun Y k => rp_word Y x cl who p g v hd tl has rest nx (hB'.drew.but (But.of_below (l := []) k) (by simp))
  have HS : Hid (∀ w4, Below V.drew.heap.size V.drew w4 → Calls Tryz.prog 164 #[.pointer (some ⟨x, 0, none⟩), .int .i64 (wd 20 P 264 p 3), .int .u64 v, .int .u64 (rpw g), .func (.func 231) #[.pointer (some ⟨x, 0, none⟩)] #[]] w4 fun e w' => (∃ v, e = .returned v) ∧ Came w w' x (rpCells who nx cl p g has v hd tl rest) 249 (axSw (wd 20 P 264 p 3) v (rpw g)) (.swap 231)) := by
    intro w4 k
    have h4 : Blk w4 x (rpCells who nx cl p g has v hd tl rest) 249 := hB'.drew.but (But.of_below (l := []) k) (by simp)
    refine (came_swap w4 x _ 249 h4 rp_size _ _ _ _).mono ?_
    rintro e w5 ⟨hv, hC⟩
    exact ⟨hv, hC.before (hU.drew.trans (But.of_below k))⟩
  have hD : Hid (Below V.drew.heap.size V.drew V.drew) := Below.refl _ _
  generalize wd 20 P 264 p 3 = at' at *
  generalize rpw g = gv at *
  clear hB hB' hU hl' hl hp hxc
  go_enter Tryz.func215, Tryz.ntmps215
  go_wp2_with fail
  try rw [hV]
  clear hV c6 f6
  go_region_with (first | (go_at_call 214; refine (HPr.out _ hD.out).mono ?_; rintro e w4 ⟨rfl, k⟩) | (go_at_call 230; refine (HW.out _ (by first | exact k | exact hD.out)).mono ?_; rintro e w6 ⟨rfl, rfl⟩) | (go_at_call 164; refine (HS.out _ k).mono ?_; rintro e w5 ⟨⟨v, rfl⟩, hC⟩))
  all_goals
    clear HPr HW k HS hD
    go_wp2_with fail
    go_end0
    exact ⟨⟨_, rfl⟩, hC⟩
theorem rp_replaced_no : Calls Tryz.prog 231 #[.pointer (some ⟨x, 0, none⟩), .bool false] w fun e w' => (∃ v, e = .returned v) ∧ Came w w' x (rpCells who nx cl p g has nt hd tl rest) 249 (axLd (wd 20 P 264 p 3)) (.told 215) := by
  have H := rp_lookNext w x cl who p g P T G nt hd tl has rest nx hB hl hp
  clear hB hl hp
  go_enter Tryz.func231, Tryz.ntmps231
  go_wp2_with fail
  go_at_call 196; refine H.mono ?_; rintro e w1 ⟨⟨v, rfl⟩, hC⟩
  clear H
  go_wp2_with fail
  go_end0
  exact ⟨⟨_, rfl⟩, hC⟩
omit hl hp in
theorem rp_replaced_none (h0 : nt = 0) : Calls Tryz.prog 231 #[.pointer (some ⟨x, 0, none⟩), .bool true] w fun e w' => (∃ v, e = .returned v) ∧ Blk w' x (rpCells who nx cl p g false nt hd tl rest) 249 ∧ But [x] w w' := by
  have c6 := hB.cell 6 rp_c6
  rw [h0] at c6
  have c5 := hB.cell 5 rp_c5
  have f5 := hB.fro 5
  have hlt := hB.lt
  have HF : Hid (Blk (w.setCell ⟨x, 5, none⟩ (.bool false)) x (rpCells who nx cl p g false nt hd tl rest) 249 ∧ But [x] w (w.setCell ⟨x, 5, none⟩ (.bool false))) := ⟨by
    have := hB.set 5 (.bool false)
    rw [rp_s5] at this
    exact this, (But.refl [x] w).set (g := x) (.inl (by simp)) 5 (.bool false)⟩
  clear hB
  go_enter Tryz.func231, Tryz.ntmps231
  go_wp2_with fail
  go_end0
  exact ⟨⟨_, rfl⟩, HF.out⟩
theorem rp_replaced_some (h0 : nt ≠ 0) (hxc : cl ≠ x) : Calls Tryz.prog 231 #[.pointer (some ⟨x, 0, none⟩), .bool true] w fun e w' => (∃ v, e = .returned v) ∧ Came w w' x (rpCells who nx cl p (gw nt) has nt hd tl rest) 249 (axLd (wd 20 P 264 p 1)) (.told 216) := by
  have hd0 : (nt == 0) = false := by simpa using h0
  have c6 := hB.cell 6 rp_c6
  have c4 := hB.cell 4 rp_c4
  obtain ⟨y, hy⟩ : ∃ y, IntKind.u64.wrap (nt - 1) = y := ⟨_, rfl⟩
  obtain ⟨gx, hgx⟩ : ∃ gx, IntKind.i64.wrap y = gx := ⟨_, rfl⟩
  have hgw : gw nt = gx := by unfold gw; rw [hy, hgx]
  rw [hgw]
  have hlt := hB.lt
  have f4 := hB.fro 4
  have hB' : Blk (w.setCell ⟨x, 4, none⟩ (.int .i64 gx)) x (rpCells who nx cl p gx has nt hd tl rest) 249 := by
    have := hB.set 4 (.int .i64 gx)
    rw [rp_s4] at this
    exact this
  have hU : But [x] w (w.setCell ⟨x, 4, none⟩ (.int .i64 gx)) := (But.refl _ w).set (g := x) (.inl (by simp)) 4 _
  have hl' : Lay (w.setCell ⟨x, 4, none⟩ (.int .i64 gx)) cl P T G := (hU.block cl hl.lt (by simpa using hxc)).trans hl
  generalize hV : w.setCell ⟨x, 4, none⟩ (.int .i64 gx) = V at hB' hU hl'
  have H := rp_lookHead V x cl who p gx P T G nt hd tl has rest nx hB' hl' hp
  have HU : Hid (But [x] w V) := hU
  clear hB hB' hl' hl hp hxc hU hgw
  go_enter Tryz.func231, Tryz.ntmps231
  go_wp2_with fail
  try rw [hV]
  clear hV c4 c6 f4
  go_at_call 197; refine H.mono ?_; rintro e w1 ⟨⟨v, rfl⟩, hC⟩
  have hCb := hC.before HU.out
  clear H hC
  go_wp2_with fail
  go_end0
  exact ⟨⟨_, rfl⟩, hCb⟩
omit hl hp in
theorem rp_leave : Calls Tryz.prog 265 #[.pointer (some ⟨x, 0, none⟩)] w fun e w' => (∃ v, e = .returned v) ∧ Blk w' x (rpCells who nx cl p g false nt hd tl rest) 249 ∧ But [x] w w' := by
  have c5 := hB.cell 5 rp_c5
  have f5 := hB.fro 5
  have hlt := hB.lt
  have HF : Hid (Blk (w.setCell ⟨x, 5, none⟩ (.bool false)) x (rpCells who nx cl p g false nt hd tl rest) 249 ∧ But [x] w (w.setCell ⟨x, 5, none⟩ (.bool false))) := ⟨by
    have := hB.set 5 (.bool false)
    rw [rp_s5] at this
    exact this, (But.refl [x] w).set (g := x) (.inl (by simp)) 5 (.bool false)⟩
  clear hB
  go_enter Tryz.func265, Tryz.ntmps265
  go_wp2_with fail
  go_end0
  exact ⟨⟨_, rfl⟩, HF.out⟩
end
end Go.Proofs.YtfdpikkinlljlaaGreat

namespace Go.Proofs.YtfdpikkinlljlaaGreat
open Go Go.RowKit
set_option linter.unusedVariables false
set_option maxRecDepth 100000
set_option linter.unusedSimpArgs false

/-- The cells behind Tail: what is given, how many are loaded, what puts them. -/
def rpRest (gv : List Int) (ld : Int) (qu : Option Addr) : List Value := gv.map (Value.int .i64) ++ [.int .i64 ld, .pointer qu]
section
variable {who : Int} {nx : Option Addr} {cl : Nat} {p g : Int} {has : Bool} {nt hd tl : Int} {gv : List Int} {ld : Int} {qu : Option Addr} (h : gv.length = 128)
include h
theorem rp_c137 : (rpCells who nx cl p g has nt hd tl (rpRest gv ld qu))[137]? = some (.int .i64 ld) := by
  unfold rpCells
  rw [List.getElem?_toArray]
  show (rpRest gv ld qu)[128]? = _
  unfold rpRest
  rw [List.getElem?_append_right (by simp [h])]
  simp [h]
theorem rp_c138 : (rpCells who nx cl p g has nt hd tl (rpRest gv ld qu))[138]? = some (.pointer qu) := by
  unfold rpCells
  rw [List.getElem?_toArray]
  show (rpRest gv ld qu)[129]? = _
  unfold rpRest
  rw [List.getElem?_append_right (by simp [h])]
  simp [h]
theorem rp_given (k : Nat) (hk : k < 128) : (rpCells who nx cl p g has nt hd tl (rpRest gv ld qu))[9 + k]? = some (.int .i64 (gv.getD k 0)) := by
  unfold rpCells
  rw [List.getElem?_toArray, Nat.add_comm]
  show (rpRest gv ld qu)[k]? = _
  unfold rpRest
  rw [List.getElem?_append_left (by simp [h]; omega), List.getElem?_map, List.getElem?_eq_getElem (by omega), List.getD_eq_getElem?_getD, List.getElem?_eq_getElem (by omega)]
  rfl
theorem rp_s137 (l' : Int) : (rpCells who nx cl p g has nt hd tl (rpRest gv ld qu)).setIfInBounds 137 (.int .i64 l') = (rpCells who nx cl p g has nt hd tl (rpRest gv l' qu)) := by
  unfold rpCells
  rw [List.setIfInBounds_toArray]
  congr 1
  show _ :: _ :: _ :: _ :: _ :: _ :: _ :: _ :: _ :: (rpRest gv ld qu).set 128 _ = _
  unfold rpRest
  rw [List.set_append_right _ _ (by simp [h])]
  simp [h]
theorem rp_s138 (q' : Option Addr) : (rpCells who nx cl p g has nt hd tl (rpRest gv ld qu)).setIfInBounds 138 (.pointer q') = (rpCells who nx cl p g has nt hd tl (rpRest gv ld q')) := by
  unfold rpCells
  rw [List.setIfInBounds_toArray]
  congr 1
  show _ :: _ :: _ :: _ :: _ :: _ :: _ :: _ :: _ :: (rpRest gv ld qu).set 129 _ = _
  unfold rpRest
  rw [List.set_append_right _ _ (by simp [h])]
  simp [h]
theorem rp_sgiven (k : Nat) (hk : k < 128) (v : Int) : (rpCells who nx cl p g has nt hd tl (rpRest gv ld qu)).setIfInBounds (9 + k) (.int .i64 v) = (rpCells who nx cl p g has nt hd tl (rpRest (gv.set k v) ld qu)) := by
  unfold rpCells
  rw [List.setIfInBounds_toArray, Nat.add_comm 9 k]
  congr 1
  show _ :: _ :: _ :: _ :: _ :: _ :: _ :: _ :: _ :: (rpRest gv ld qu).set k _ = _
  unfold rpRest
  rw [List.set_append_left _ _ (by simp [h]; omega), List.map_set]
end
section
variable (w : World) (x cl : Nat) (who p g P T G nt hd tl : Int) (has : Bool) (gv : List Int) (ld : Int) (qu nx : Option Addr) (hB : Blk w x (rpCells who nx cl p g has nt hd tl (rpRest gv ld qu)) 249) (hl : Lay w cl P T G) (hp : 0 ≤ P ∧ P ≤ 64)
include hB hl hp
set_option maxHeartbeats 2000000 in
theorem rp_lengthen (htb : 0 ≤ tl ∧ tl ≤ 18446744073709551615) : Calls Tryz.prog 249 #[.pointer (some ⟨x, 0, none⟩)] w fun e w' => (∃ v, e = .returned v) ∧ Came w w' x (rpCells who nx cl p g has nt hd tl (rpRest gv ld qu)) 249 (axSt (wd 20 P 264 p 2) ((tl + 1) % 4294967296)) (.untold 265) := by
  have c8 := hB.cell 8 rp_c8
  obtain ⟨a, ha⟩ : ∃ a, IntKind.u64.wrap (tl + 1) = a := ⟨_, rfl⟩
  have ha0 : 0 ≤ a ∧ a ≤ 18446744073709551615 := by rw [← ha]; simp [IntKind.wrap, IntKind.bits, IntKind.signed] <;> omega
  have e1 : a.tmod 4294967296 = (tl + 1) % 4294967296 := by
    rw [Int.tmod_eq_emod_of_nonneg ha0.1, ← ha]; simp [IntKind.wrap, IntKind.bits, IntKind.signed] <;> omega
  have e2 : IntKind.u64.wrap ((tl + 1) % 4294967296) = (tl + 1) % 4294967296 := wrap_u64 (by omega)
  have hPr := rp_proc w.drew x cl who p g P T G nt hd tl has (rpRest gv ld qu) nx hB.drew (hl.below ((Below.refl _ _).drew) hl.lt) hp 2 (by omega)
  generalize hh1 : (tl + 1) % 4294967296 = h1 at *
  have HS : Hid (∀ w4, Below w.drew.heap.size w.drew w4 → Calls Tryz.prog 88 #[.pointer (some ⟨x, 0, none⟩), .int .i64 (wd 20 P 264 p 2), .int .u64 h1, .func (.func 265) #[.pointer (some ⟨x, 0, none⟩)] #[]] w4 fun e w' => (∃ v, e = .returned v) ∧ Came w w' x (rpCells who nx cl p g has nt hd tl (rpRest gv ld qu)) 249 (axSt (wd 20 P 264 p 2) h1) (.untold 265)) := by
    intro w4 k
    have h4 : Blk w4 x (rpCells who nx cl p g has nt hd tl (rpRest gv ld qu)) 249 := hB.drew.but (But.of_below (l := []) k) (by simp)
    refine (came_store w4 x _ 249 h4 rp_size _ _ _).mono ?_
    rintro e w5 ⟨hv, hC⟩
    exact ⟨hv, hC.before ((But.refl [x] w).drew.trans (But.of_below k))⟩
  have hH : Hid (w.drew.cell? ⟨x, 8, none⟩ = some (.int .u64 tl)) := c8
  have KB : Hid (∀ w4, Below w.drew.heap.size w.drew w4 → w4.cell? ⟨x, 8, none⟩ = some (.int .u64 tl)) := fun w4 k => (hB.drew.but (But.of_below (l := []) k) (by simp)).cell 8 rp_c8
  generalize wd 20 P 264 p 2 = at' at *
  have KC : Hid (∀ w5, Came w w5 x (rpCells who nx cl p g has nt hd tl (rpRest gv ld qu)) 249 (axSt at' h1) (.untold 265) → w5.cell? ⟨x, 8, none⟩ = some (.int .u64 tl)) := fun w5 hC => by
    obtain ⟨q, Lc, g1, -⟩ := hC
    rw [rp_s1] at g1
    exact g1.cell 8 rp_c8
  clear hB hl hp hh1 ha0 htb
  go_enter Tryz.func249, Tryz.ntmps249
  go_wp2_with fail
  go_region_held3 (fun w' => w'.cell? ⟨x, 8, none⟩ = some (.int .u64 tl)) (first | exact hH.out | exact KB.out _ ‹_› | exact KC.out _ ‹_›) (first | (go_at_call 214; refine hPr.mono ?_; rintro e w4 ⟨rfl, k⟩) | (go_at_call 88; refine (HS.out _ ‹_›).mono ?_; rintro e w5 ⟨⟨v, rfl⟩, hC⟩))
  all_goals
    clear hPr k HS hH KB KC c8
    go_wp2_with fail
    go_end0
    exact ⟨⟨_, rfl⟩, hC⟩
set_option maxHeartbeats 4000000 in
theorem rp_choose_room (t : Int) (hxc : cl ≠ x) (ht : 0 ≤ t ∧ t ≤ 18446744073709551615) (hh : 0 ≤ hd ∧ hd ≤ 18446744073709551615) (hm : (t - hd) % 4294967296 < 256) : Calls Tryz.prog 232 #[.pointer (some ⟨x, 0, none⟩), .int .u64 t] w fun e w' => (∃ v, e = .returned v) ∧ Came w w' x (rpCells who nx cl p g has nt hd t (rpRest gv ld qu)) 249 (axSt (wd 20 P 264 p (8 + t % 256)) (rpw g)) (.untold 249) := by
  have c8 := hB.cell 8 rp_c8
  have hlt := hB.lt
  have f8 := hB.fro 8
  have hB' : Blk (w.setCell ⟨x, 8, none⟩ (.int .u64 t)) x (rpCells who nx cl p g has nt hd t (rpRest gv ld qu)) 249 := by
    have := hB.set 8 (.int .u64 t)
    rw [rp_s8] at this
    exact this
  have hU : But [x] w (w.setCell ⟨x, 8, none⟩ (.int .u64 t)) := (But.refl _ w).set (g := x) (.inl (by simp)) 8 _
  have hl' : Lay (w.setCell ⟨x, 8, none⟩ (.int .u64 t)) cl P T G := (hU.block cl hl.lt (by simpa using hxc)).trans hl
  generalize hV : w.setCell ⟨x, 8, none⟩ (.int .u64 t) = V at hB' hU hl'
  have c2 := hB'.cell 2 rp_c2
  have c3 := hB'.cell 3 rp_c3
  have c7 := hB'.cell 7 rp_c7
  have hM := fun w => mny_any hd t w hh ht
  have hd1 : decide ((t - hd) % 4294967296 < 256) = true := decide_eq_true hm
  have HRG : Hid (∀ Y, Below V.drew.heap.size V.drew Y → Calls Tryz.prog 163 #[.pointer (some ⟨cl, 0, none⟩), .int .i64 p, .int .u64 t] Y fun e w' => e = .returned (.int .i64 (wd 20 P 264 p (8 + t % 256))) ∧ Below V.drew.heap.size V.drew w') := fun Y k => (lrng_any (some ⟨cl, 0, none⟩) P T G p t Y (.some cl (Lay.below (w := V.drew) hl' k hl'.lt)) hp ht).mono fun e w' hh => ⟨hh.1, k.trans (hh.2.mono k.size)⟩
  have HW : Hid (∀ Y, Below V.drew.heap.size V.drew Y → Calls Tryz.prog 230 #[.pointer (some ⟨x, 0, none⟩)] Y fun e w' => e = .returned (.int .u64 (rpw g)) ∧ Y = w') := fun Y k => rp_word Y x cl who p g nt hd t has (rpRest gv ld qu) nx (hB'.drew.but (But.of_below (l := []) k) (by simp))
  have HS : Hid (∀ w4, Below V.drew.heap.size V.drew w4 → Calls Tryz.prog 88 #[.pointer (some ⟨x, 0, none⟩), .int .i64 (wd 20 P 264 p (8 + t % 256)), .int .u64 (rpw g), .func (.func 249) #[.pointer (some ⟨x, 0, none⟩)] #[]] w4 fun e w' => (∃ v, e = .returned v) ∧ Came w w' x (rpCells who nx cl p g has nt hd t (rpRest gv ld qu)) 249 (axSt (wd 20 P 264 p (8 + t % 256)) (rpw g)) (.untold 249)) := by
    intro w4 k
    have h4 : Blk w4 x (rpCells who nx cl p g has nt hd t (rpRest gv ld qu)) 249 := hB'.drew.but (But.of_below (l := []) k) (by simp)
    refine (came_store w4 x _ 249 h4 rp_size _ _ _).mono ?_
    rintro e w5 ⟨hv, hC⟩
    exact ⟨hv, hC.before (hU.drew.trans (But.of_below k))⟩
  generalize wd 20 P 264 p (8 + t % 256) = at' at *
  generalize (t - hd) % 4294967296 = mm at *
  generalize rpw g = gw' at *
  have hD : Hid (Below V.drew.heap.size V.drew V.drew) := Below.refl _ _
  have hH : Hid (V.drew.cell? ⟨x, 2, none⟩ = some (.pointer (some ⟨cl, 0, none⟩)) ∧ V.drew.cell? ⟨x, 3, none⟩ = some (.int .i64 p)) := ⟨c2, c3⟩
  have KB : Hid (∀ w4, Below V.drew.heap.size V.drew w4 → w4.cell? ⟨x, 2, none⟩ = some (.pointer (some ⟨cl, 0, none⟩)) ∧ w4.cell? ⟨x, 3, none⟩ = some (.int .i64 p)) := fun w4 k => by
    have h4 : Blk w4 x (rpCells who nx cl p g has nt hd t (rpRest gv ld qu)) 249 := hB'.drew.but (But.of_below (l := []) k) (by simp)
    exact ⟨h4.cell 2 rp_c2, h4.cell 3 rp_c3⟩
  have KC : Hid (∀ w5, Came w w5 x (rpCells who nx cl p g has nt hd t (rpRest gv ld qu)) 249 (axSt at' gw') (.untold 249) → w5.cell? ⟨x, 2, none⟩ = some (.pointer (some ⟨cl, 0, none⟩)) ∧ w5.cell? ⟨x, 3, none⟩ = some (.int .i64 p)) := fun w5 hC => by
    obtain ⟨q, Lc, h1, -⟩ := hC
    rw [rp_s1] at h1
    exact ⟨h1.cell 2 rp_c2, h1.cell 3 rp_c3⟩
  clear hB hB' hU hl' hl hp hxc ht hh hm
  go_enter Tryz.func232, Tryz.ntmps232
  go_wp2_with fail
  try rw [hV]
  clear hV c8 f8
  go_at_call 162; refine (hM _).mono ?_; rintro e w1 ⟨rfl, rfl⟩
  clear hM c7
  go_wp2_with fail
  go_region_held3 (fun w' => w'.cell? ⟨x, 2, none⟩ = some (.pointer (some ⟨cl, 0, none⟩)) ∧ w'.cell? ⟨x, 3, none⟩ = some (.int .i64 p)) (first | exact hH.out | exact KB.out _ ‹_› | exact KC.out _ ‹_›) (first | (go_at_call 163; refine (HRG.out _ hD.out).mono ?_; rintro e w4 ⟨rfl, k⟩) | (go_at_call 230; refine (HW.out _ ‹_›).mono ?_; rintro e w6 ⟨rfl, rfl⟩) | (go_at_call 88; refine (HS.out _ ‹_›).mono ?_; rintro e w7 ⟨⟨v, rfl⟩, hC⟩))
  all_goals
    clear HRG HW HS c2 c3 hH KB KC hD
    go_wp2_with fail
    refine bodyPost_ret (results_none rfl _ _ _) rfl ?_
    exact ⟨⟨_, rfl⟩, hC⟩
set_option maxHeartbeats 4000000 in
theorem rp_gather_swap (h128 : ld = 128) (hg : gv.length = 128) (hh : 0 ≤ hd ∧ hd ≤ 18446744073709551615) : Calls Tryz.prog 250 #[.pointer (some ⟨x, 0, none⟩)] w fun e w' => (∃ v, e = .returned v) ∧ Came w w' x (rpCells who nx cl p g has nt hd tl (rpRest gv ld qu)) 249 (axSw (wd 20 P 264 p 1) hd ((hd + 128) % 4294967296)) (.swap 266) := by
  have c137 := hB.cell 137 (rp_c137 hg)
  rw [h128] at c137
  have c7 := hB.cell 7 rp_c7
  obtain ⟨a, ha⟩ : ∃ a, IntKind.u64.wrap (hd + 128) = a := ⟨_, rfl⟩
  have ha0 : 0 ≤ a ∧ a ≤ 18446744073709551615 := by rw [← ha]; simp [IntKind.wrap, IntKind.bits, IntKind.signed] <;> omega
  have e1 : a.tmod 4294967296 = (hd + 128) % 4294967296 := by
    rw [Int.tmod_eq_emod_of_nonneg ha0.1, ← ha]; simp [IntKind.wrap, IntKind.bits, IntKind.signed] <;> omega
  have e2 : IntKind.u64.wrap ((hd + 128) % 4294967296) = (hd + 128) % 4294967296 := wrap_u64 (by omega)
  have hPr := rp_proc w.drew x cl who p g P T G nt hd tl has (rpRest gv ld qu) nx hB.drew (hl.below ((Below.refl _ _).drew) hl.lt) hp 1 (by omega)
  generalize hh1 : (hd + 128) % 4294967296 = h1 at *
  have HS : Hid (∀ w4, Below w.drew.heap.size w.drew w4 → Calls Tryz.prog 164 #[.pointer (some ⟨x, 0, none⟩), .int .i64 (wd 20 P 264 p 1), .int .u64 hd, .int .u64 h1, .func (.func 266) #[.pointer (some ⟨x, 0, none⟩)] #[]] w4 fun e w' => (∃ v, e = .returned v) ∧ Came w w' x (rpCells who nx cl p g has nt hd tl (rpRest gv ld qu)) 249 (axSw (wd 20 P 264 p 1) hd h1) (.swap 266)) := by
    intro w4 k
    have h4 : Blk w4 x (rpCells who nx cl p g has nt hd tl (rpRest gv ld qu)) 249 := hB.drew.but (But.of_below (l := []) k) (by simp)
    refine (came_swap w4 x _ 249 h4 rp_size _ _ _ _).mono ?_
    rintro e w5 ⟨hv, hC⟩
    exact ⟨hv, hC.before ((But.refl [x] w).drew.trans (But.of_below k))⟩
  have hH : Hid (w.drew.cell? ⟨x, 7, none⟩ = some (.int .u64 hd)) := c7
  have KB : Hid (∀ w4, Below w.drew.heap.size w.drew w4 → w4.cell? ⟨x, 7, none⟩ = some (.int .u64 hd)) := fun w4 k => (hB.drew.but (But.of_below (l := []) k) (by simp)).cell 7 rp_c7
  generalize wd 20 P 264 p 1 = at' at *
  have KC : Hid (∀ w5, Came w w5 x (rpCells who nx cl p g has nt hd tl (rpRest gv ld qu)) 249 (axSw at' hd h1) (.swap 266) → w5.cell? ⟨x, 7, none⟩ = some (.int .u64 hd)) := fun w5 hC => by
    obtain ⟨q, Lc, g1, -⟩ := hC
    rw [rp_s1] at g1
    exact g1.cell 7 rp_c7
  clear hB hl hp hh1 ha0 hh h128 hg
  go_enter Tryz.func250, Tryz.ntmps250
  go_wp2_with fail
  go_region_held3 (fun w' => w'.cell? ⟨x, 7, none⟩ = some (.int .u64 hd)) (first | exact hH.out | exact KB.out _ ‹_› | exact KC.out _ ‹_›) (first | (go_at_call 214; refine hPr.mono ?_; rintro e w4 ⟨rfl, k⟩) | (go_at_call 164; refine (HS.out _ ‹_›).mono ?_; rintro e w5 ⟨⟨v, rfl⟩, hC⟩))
  all_goals
    clear hPr k HS hH KB KC c7 c137
    go_wp2_with fail
    refine bodyPost_ret (results_none rfl _ _ _) rfl ?_
    exact ⟨⟨_, rfl⟩, hC⟩
set_option maxHeartbeats 4000000 in
theorem rp_gather_load (k : Nat) (hk : k < 128) (hld : ld = k) (hg : gv.length = 128) : Calls Tryz.prog 250 #[.pointer (some ⟨x, 0, none⟩)] w fun e w' => (∃ v, e = .returned v) ∧ Came w w' x (rpCells who nx cl p g has nt hd tl (rpRest gv ld qu)) 249 (axLd (wd 20 P 264 p (8 + IntKind.u64.wrap (hd + k) % 256))) (.told 267) := by
  have c137 := hB.cell 137 (rp_c137 hg)
  subst hld
  have c2 := hB.cell 2 rp_c2
  have c3 := hB.cell 3 rp_c3
  have c7 := hB.cell 7 rp_c7
  obtain ⟨z, hz⟩ : ∃ z, IntKind.u64.wrap (hd + k) = z := ⟨_, rfl⟩
  have hzb : 0 ≤ z ∧ z ≤ 18446744073709551615 := by rw [← hz]; generalize hd + (k : Int) = y; simp [IntKind.wrap, IntKind.bits, IntKind.signed]; omega
  rw [hz]
  have e0 : IntKind.u64.wrap (k : Int) = (k : Int) := wrap_u64 (by omega)
  have hk1 : decide ((k : Int) = 128) = false := decide_eq_false (by omega)
  have hk2 : ((k : Int) == 128) = false := by rw [beq_eq_false_iff_ne]; omega
  have hPr := lrng_any (some ⟨cl, 0, none⟩) P T G p z w.drew (.some cl (hl.below ((Below.refl _ _).drew) hl.lt)) hp hzb
  have HS : Hid (∀ w4, Below w.drew.heap.size w.drew w4 → Calls Tryz.prog 67 #[.pointer (some ⟨x, 0, none⟩), .int .i64 (wd 20 P 264 p (8 + z % 256)), .func (.func 267) #[.pointer (some ⟨x, 0, none⟩)] #[]] w4 fun e w' => (∃ v, e = .returned v) ∧ Came w w' x (rpCells who nx cl p g has nt hd tl (rpRest gv k qu)) 249 (axLd (wd 20 P 264 p (8 + z % 256))) (.told 267)) := by
    intro w4 k
    have h4 := hB.drew.but (But.of_below (l := []) k) (by simp)
    refine (came_load w4 x _ 249 h4 rp_size _ _).mono ?_
    rintro e w5 ⟨hv, hC⟩
    exact ⟨hv, hC.before ((But.refl [x] w).drew.trans (But.of_below k))⟩
  generalize wd 20 P 264 p (8 + z % 256) = at' at *
  have hH : Hid (w.drew.cell? ⟨x, 2, none⟩ = some (.pointer (some ⟨cl, 0, none⟩)) ∧ w.drew.cell? ⟨x, 3, none⟩ = some (.int .i64 p) ∧ w.drew.cell? ⟨x, 7, none⟩ = some (.int .u64 hd) ∧ w.drew.cell? ⟨x, 137, none⟩ = some (.int .i64 k)) := ⟨c2, c3, c7, c137⟩
  have KB : Hid (∀ w4, Below w.drew.heap.size w.drew w4 → (w4.cell? ⟨x, 2, none⟩ = some (.pointer (some ⟨cl, 0, none⟩)) ∧ w4.cell? ⟨x, 3, none⟩ = some (.int .i64 p) ∧ w4.cell? ⟨x, 7, none⟩ = some (.int .u64 hd) ∧ w4.cell? ⟨x, 137, none⟩ = some (.int .i64 k))) := fun w4 k4 => by
    have h4 := hB.drew.but (But.of_below (l := []) k4) (by simp)
    exact ⟨h4.cell 2 rp_c2, h4.cell 3 rp_c3, h4.cell 7 rp_c7, h4.cell 137 (rp_c137 hg)⟩
  have KC : Hid (∀ w5, Came w w5 x (rpCells who nx cl p g has nt hd tl (rpRest gv k qu)) 249 (axLd at') (.told 267) → (w5.cell? ⟨x, 2, none⟩ = some (.pointer (some ⟨cl, 0, none⟩)) ∧ w5.cell? ⟨x, 3, none⟩ = some (.int .i64 p) ∧ w5.cell? ⟨x, 7, none⟩ = some (.int .u64 hd) ∧ w5.cell? ⟨x, 137, none⟩ = some (.int .i64 k))) := fun w5 hC => by
    obtain ⟨q, Lc, h1, -⟩ := hC
    rw [rp_s1] at h1
    exact ⟨h1.cell 2 rp_c2, h1.cell 3 rp_c3, h1.cell 7 rp_c7, h1.cell 137 (rp_c137 hg)⟩
  clear hB hl hp hg hzb
  go_enter Tryz.func250, Tryz.ntmps250
  go_wp2_with fail
  go_region_held3 (fun w' => w'.cell? ⟨x, 2, none⟩ = some (.pointer (some ⟨cl, 0, none⟩)) ∧ w'.cell? ⟨x, 3, none⟩ = some (.int .i64 p) ∧ w'.cell? ⟨x, 7, none⟩ = some (.int .u64 hd) ∧ w'.cell? ⟨x, 137, none⟩ = some (.int .i64 k)) (first | exact hH.out | exact KB.out _ ‹_› | exact KC.out _ ‹_›) (first | (go_at_call 163; refine hPr.mono ?_; rintro e w4 ⟨rfl, k4⟩) | (go_at_call 67; refine (HS.out _ ‹_›).mono ?_; rintro e w5 ⟨⟨v, rfl⟩, hC⟩))
  all_goals
    clear hPr k4 HS hH KB KC c2 c3 c7 c137
    go_wp2_with fail
    go_end0
    exact ⟨⟨_, rfl⟩, hC⟩
end
end Go.Proofs.YtfdpikkinlljlaaGreat

namespace Go.Proofs.YtfdpikkinlljlaaGreat
open Go Go.RowKit
set_option linter.unusedVariables false
set_option maxRecDepth 100000
set_option linter.unusedSimpArgs false

section
variable (w : World) (x cl : Nat) (who p g P T G nt hd tl : Int) (has : Bool) (gv : List Int) (ld : Int) (qu nx : Option Addr) (hB : Blk w x (rpCells who nx cl p g has nt hd tl (rpRest gv ld qu)) 249) (hl : Lay w cl P T G) (hp : 0 ≤ P ∧ P ≤ 64)
include hB hl hp
set_option maxHeartbeats 4000000 in
theorem rp_choose_full (t : Int) (hxc : cl ≠ x) (hg : gv.length = 128) (ht : 0 ≤ t ∧ t ≤ 18446744073709551615) (hh : 0 ≤ hd ∧ hd ≤ 18446744073709551615) (hm : ¬ (t - hd) % 4294967296 < 256) : Calls Tryz.prog 232 #[.pointer (some ⟨x, 0, none⟩), .int .u64 t] w fun e w' => (∃ v, e = .returned v) ∧ Came w w' x (rpCells who nx cl p g has nt hd t (rpRest gv 0 qu)) 249 (axLd (wd 20 P 264 p (8 + IntKind.u64.wrap (hd + 0) % 256))) (.told 267) := by
  have c8 := hB.cell 8 rp_c8
  have f8 := hB.fro 8
  have hlt := hB.lt
  have hB1 : Blk (w.setCell ⟨x, 8, none⟩ (.int .u64 t)) x (rpCells who nx cl p g has nt hd t (rpRest gv ld qu)) 249 := by
    have := hB.set 8 (.int .u64 t)
    rw [rp_s8] at this
    exact this
  have c7 := hB1.cell 7 rp_c7
  have c137 := hB1.cell 137 (rp_c137 hg)
  have f137 := hB1.fro 137
  have hB2 : Blk ((w.setCell ⟨x, 8, none⟩ (.int .u64 t)).setCell ⟨x, 137, none⟩ (.int .i64 0)) x (rpCells who nx cl p g has nt hd t (rpRest gv 0 qu)) 249 := by
    have := hB1.set 137 (.int .i64 0)
    rw [rp_s137 hg] at this
    exact this
  have hU : But [x] w ((w.setCell ⟨x, 8, none⟩ (.int .u64 t)).setCell ⟨x, 137, none⟩ (.int .i64 0)) := ((But.refl _ w).set (g := x) (.inl (by simp)) 8 _).set (g := x) (.inl (by simp)) 137 _
  have hl2 := (hU.block cl hl.lt (by simpa using hxc)).trans hl
  have H := rp_gather_load _ x cl who p g P T G nt hd t has gv 0 qu nx hB2 hl2 hp 0 (by omega) rfl hg
  have HU : Hid (But [x] w ((w.setCell ⟨x, 8, none⟩ (.int .u64 t)).setCell ⟨x, 137, none⟩ (.int .i64 0))) := hU
  have hM := fun w => mny_any hd t w hh ht
  have hd1 : decide ((t - hd) % 4294967296 < 256) = false := decide_eq_false hm
  generalize (t - hd) % 4294967296 = mm at *
  generalize hV : w.setCell ⟨x, 8, none⟩ (.int .u64 t) = V at *
  generalize hV2 : V.setCell ⟨x, 137, none⟩ (.int .i64 0) = V2 at *
  have hltV : x < V.heap.size := hB1.lt
  clear hB hB1 hB2 hU hl hl2 hp hxc ht hh hm
  go_enter Tryz.func232, Tryz.ntmps232
  go_wp2_with fail
  try rw [hV]
  go_at_call 162; refine (hM _).mono ?_; rintro e w1 ⟨rfl, rfl⟩
  clear hM
  go_wp2_with fail
  try rw [hV2]
  go_at_call 250; refine H.mono ?_; rintro e w1 ⟨⟨v, rfl⟩, hC⟩
  have hCb := hC.before HU.out
  clear H hC hV hV2 c7 c8 f8 c137 f137
  go_wp2_with fail
  go_end0
  exact ⟨⟨_, rfl⟩, hCb⟩
end
section
variable (w : World) (x cl : Nat) (who p g P T G nt hd tl : Int) (has : Bool) (gv : List Int) (k : Nat) (qu nx : Option Addr) (hB : Blk w x (rpCells who nx cl p g has nt hd tl (rpRest gv k qu)) 249) (hl : Lay w cl P T G) (hp : 0 ≤ P ∧ P ≤ 64) (hk : k < 128) (hg : gv.length = 128) (hxc : cl ≠ x)
include hB hl hp hk hg hxc
omit hp in
/-- The world in which one more is kept. -/
theorem rp_kept (v : Int) : Blk (((w.setCell ⟨x, 9 + k, none⟩ (.int .i64 (gw v))).drew).setCell ⟨x, 137, none⟩ (.int .i64 ((k + 1 : Nat) : Int))) x (rpCells who nx cl p g has nt hd tl (rpRest (gv.set k (gw v)) ((k + 1 : Nat) : Int) qu)) 249 ∧ But [x] w (((w.setCell ⟨x, 9 + k, none⟩ (.int .i64 (gw v))).drew).setCell ⟨x, 137, none⟩ (.int .i64 ((k + 1 : Nat) : Int))) ∧ Lay (((w.setCell ⟨x, 9 + k, none⟩ (.int .i64 (gw v))).drew).setCell ⟨x, 137, none⟩ (.int .i64 ((k + 1 : Nat) : Int))) cl P T G := by
  have hU : But [x] w (((w.setCell ⟨x, 9 + k, none⟩ (.int .i64 (gw v))).drew).setCell ⟨x, 137, none⟩ (.int .i64 ((k + 1 : Nat) : Int))) := ((But.refl _ w).set (g := x) (.inl (by simp)) (9 + k) _).drew.set (g := x) (.inl (by simp)) 137 _
  refine ⟨?_, hU, (hU.block cl hl.lt (by simpa using hxc)).trans hl⟩
  have h1 := hB.set (9 + k) (.int .i64 (gw v))
  rw [rp_sgiven hg k hk] at h1
  have h2 := h1.drew.set 137 (.int .i64 ((k + 1 : Nat) : Int))
  rw [rp_s137 (by rw [List.length_set]; exact hg)] at h2
  exact h2
set_option maxHeartbeats 4000000 in
theorem rp_keep_on (v : Int) (hk2 : k + 1 < 128) : Calls Tryz.prog 267 #[.pointer (some ⟨x, 0, none⟩), .int .u64 v] w fun e w' => (∃ v, e = .returned v) ∧ Came w w' x (rpCells who nx cl p g has nt hd tl (rpRest (gv.set k (gw v)) ((k + 1 : Nat) : Int) qu)) 249 (axLd (wd 20 P 264 p (8 + IntKind.u64.wrap (hd + ((k + 1 : Nat) : Int)) % 256))) (.told 267) := by
  obtain ⟨h1, h2, h3⟩ := rp_kept w x cl who p g P T G nt hd tl has gv k qu nx hB hl hk hg hxc v
  have H := rp_gather_load _ x cl who p g P T G nt hd tl has (gv.set k (gw v)) _ qu nx h1 h3 hp (k + 1) hk2 rfl (by rw [List.length_set]; exact hg)
  have HU : Hid (But [x] w (((w.setCell ⟨x, 9 + k, none⟩ (.int .i64 (gw v))).drew).setCell ⟨x, 137, none⟩ (.int .i64 ((k + 1 : Nat) : Int)))) := h2
  have c137 := hB.cell 137 (rp_c137 hg)
  have ck := hB.cell (9 + k) (rp_given hg k hk)
  have fk := hB.fro (9 + k)
  have hlt := hB.lt
  obtain ⟨y, hy⟩ : ∃ y, IntKind.u64.wrap (v - 1) = y := ⟨_, rfl⟩
  obtain ⟨gx, hgx⟩ : ∃ gx, IntKind.i64.wrap y = gx := ⟨_, rfl⟩
  have hgw : gw v = gx := by unfold gw; rw [hy, hgx]
  rw [hgw] at h1 h2 h3 H HU ⊢
  have hk0 : (0 : Int) ≤ (k : Int) := by omega
  have hk1 : (k : Int) < 128 := by omega
  have e5 : wrap64 ((k : Int) + 1) = (k : Int) + 1 := by unfold wrap64; omega
  have HB1 : Hid (Blk ((w.setCell ⟨x, 9 + k, none⟩ (.int .i64 gx)).drew) x (rpCells who nx cl p g has nt hd tl (rpRest (gv.set k gx) k qu)) 249) := by
    have h4 := hB.set (9 + k) (.int .i64 gx)
    rw [rp_sgiven hg k hk] at h4
    exact h4.drew
  have hg2 : Hid ((gv.set k gx).length = 128) := (by rw [List.length_set]; exact hg : (gv.set k gx).length = 128)
  have hcast : ((k + 1 : Nat) : Int) = (k : Int) + 1 := by omega
  rw [hcast] at H HU ⊢
  clear hB hl hp hg h1 h2 h3 hgw hxc
  go_enter Tryz.func267, Tryz.ntmps267
  go_wp2_with fail
  go_region
  generalize (w.setCell ⟨x, 9 + k, none⟩ (.int .i64 gx)).drew = V at *
  have d137 := HB1.out.cell 137 (rp_c137 hg2.out)
  have f137 := HB1.out.fro 137
  have hltV := HB1.out.lt
  clear c137 ck fk HB1 hlt
  go_wp2_with fail
  generalize V.setCell ⟨x, 137, none⟩ (.int .i64 ((k : Int) + 1)) = V2 at *
  go_at_call 250; refine H.mono ?_; rintro e w1 ⟨⟨v, rfl⟩, hC⟩
  have hCb := hC.before HU.out
  clear H hC d137 f137
  go_wp2_with fail
  go_end0
  exact ⟨⟨_, rfl⟩, hCb⟩
set_option maxHeartbeats 4000000 in
theorem rp_keep_all (v : Int) (hh : 0 ≤ hd ∧ hd ≤ 18446744073709551615) (hk2 : k + 1 = 128) : Calls Tryz.prog 267 #[.pointer (some ⟨x, 0, none⟩), .int .u64 v] w fun e w' => (∃ v, e = .returned v) ∧ Came w w' x (rpCells who nx cl p g has nt hd tl (rpRest (gv.set k (gw v)) ((k + 1 : Nat) : Int) qu)) 249 (axSw (wd 20 P 264 p 1) hd ((hd + 128) % 4294967296)) (.swap 266) := by
  obtain ⟨h1, h2, h3⟩ := rp_kept w x cl who p g P T G nt hd tl has gv k qu nx hB hl hk hg hxc v
  have H := rp_gather_swap _ x cl who p g P T G nt hd tl has (gv.set k (gw v)) _ qu nx h1 h3 hp (by omega) (by rw [List.length_set]; exact hg) hh
  have HU : Hid (But [x] w (((w.setCell ⟨x, 9 + k, none⟩ (.int .i64 (gw v))).drew).setCell ⟨x, 137, none⟩ (.int .i64 ((k + 1 : Nat) : Int)))) := h2
  have c137 := hB.cell 137 (rp_c137 hg)
  have ck := hB.cell (9 + k) (rp_given hg k hk)
  have fk := hB.fro (9 + k)
  have hlt := hB.lt
  obtain ⟨y, hy⟩ : ∃ y, IntKind.u64.wrap (v - 1) = y := ⟨_, rfl⟩
  obtain ⟨gx, hgx⟩ : ∃ gx, IntKind.i64.wrap y = gx := ⟨_, rfl⟩
  have hgw : gw v = gx := by unfold gw; rw [hy, hgx]
  rw [hgw] at h1 h2 h3 H HU ⊢
  have hk0 : (0 : Int) ≤ (k : Int) := by omega
  have hk1 : (k : Int) < 128 := by omega
  have e5 : wrap64 ((k : Int) + 1) = (k : Int) + 1 := by unfold wrap64; omega
  have HB1 : Hid (Blk ((w.setCell ⟨x, 9 + k, none⟩ (.int .i64 gx)).drew) x (rpCells who nx cl p g has nt hd tl (rpRest (gv.set k gx) k qu)) 249) := by
    have h4 := hB.set (9 + k) (.int .i64 gx)
    rw [rp_sgiven hg k hk] at h4
    exact h4.drew
  have hg2 : Hid ((gv.set k gx).length = 128) := (by rw [List.length_set]; exact hg : (gv.set k gx).length = 128)
  have hcast : ((k + 1 : Nat) : Int) = (k : Int) + 1 := by omega
  rw [hcast] at H HU ⊢
  clear hB hl hp hg h1 h2 h3 hgw hxc
  go_enter Tryz.func267, Tryz.ntmps267
  go_wp2_with fail
  go_region
  generalize (w.setCell ⟨x, 9 + k, none⟩ (.int .i64 gx)).drew = V at *
  have d137 := HB1.out.cell 137 (rp_c137 hg2.out)
  have f137 := HB1.out.fro 137
  have hltV := HB1.out.lt
  clear c137 ck fk HB1 hlt
  go_wp2_with fail
  generalize V.setCell ⟨x, 137, none⟩ (.int .i64 ((k : Int) + 1)) = V2 at *
  go_at_call 250; refine H.mono ?_; rintro e w1 ⟨⟨v, rfl⟩, hC⟩
  have hCb := hC.before HU.out
  clear H hC d137 f137
  go_wp2_with fail
  go_end0
  exact ⟨⟨_, rfl⟩, hCb⟩
end
end Go.Proofs.YtfdpikkinlljlaaGreat

namespace Go.Proofs.YtfdpikkinlljlaaGreat
open Go Go.RowKit
set_option linter.unusedVariables false
set_option maxRecDepth 100000
set_option linter.unusedSimpArgs false

/-- The cells of a machine that begins. -/
def rpZ (nx : Option Addr) (who p g : Int) (cl : Nat) : Array Value := rpCells who nx cl p g true 0 0 0 (rpRest (List.replicate 128 0) 0 none)
def RpNew (w : World) (cl : Nat) (who p g P : Int) (nxt : Bool) (e : Ending) (w' : World) : Prop := ∃ (x q : Nat) (Lc : List Nat), e = .returned (.pointer (some ⟨x, 0, none⟩)) ∧ Blk w' x (rpZ (some ⟨q, 0, none⟩) who p g cl) 249 ∧ Com w' x q (axLd (wd 20 P 264 p (if nxt = true then 3 else 1))) (if nxt = true then .told 215 else .told 216) Lc ∧ x ∉ Lc ∧ Below w.heap.size w w' ∧ (∀ k ∈ Lc, w.heap.size ≤ k) ∧ w.heap.size ≤ x
theorem rp_zero (who p g : Int) (cl : Nat) : (((Tryz.zeroCells249.setIfInBounds 2 (.pointer (some ⟨cl, 0, none⟩))).setIfInBounds 3 (.int .i64 p)).setIfInBounds 4 (.int .i64 g)).setIfInBounds 5 (.bool true) = rpZ none 0 p g cl := by kernel_rfl
theorem rp_zset (who p g : Int) (cl : Nat) (nx : Option Addr) (v : Value) : (rpZ nx 0 p g cl).setIfInBounds 0 (.int .i64 who) = rpZ nx who p g cl := by simp [rpZ, rpCells]
theorem rp_new_step (w : World) (cl : Nat) (who p g P T G : Int) (nxt : Bool) (hl : Lay w cl P T G) (hP : 0 ≤ P ∧ P ≤ 64) :
    Calls Tryz.prog 177 #[.pointer (some ⟨cl, 0, none⟩), .int .i64 who, .int .i64 p, .int .i64 g, .bool nxt] w fun e w' => RpNew w cl who p g P nxt e w' := by
  have hB : Blk (w.alloc (.cells (rpZ none 0 p g cl) 249)) w.heap.size (rpZ none 0 p g cl) 249 := Blk.new _ _ _
  have hb : Below w.heap.size w (w.alloc (.cells (rpZ none 0 p g cl) 249)) := (Below.refl _ _).alloc (Nat.le_refl _) _
  have hF := fof_any _ w.heap.size _ 249 who hB (by simp [rpZ, rpCells])
  have HH : Hid (Blk _ w.heap.size _ 249 ∧ Below w.heap.size w _) := ⟨hB, hb⟩
  have hsz := World.size_alloc w (.cells (rpZ none 0 p g cl) 249)
  have HLY : Hid (Lay w cl P T G) := hl
  clear hB hb hl
  go_enter Tryz.func177, Tryz.ntmps177
  go_wp2_with fail
  rw [rp_zero who p g cl]
  generalize w.alloc (.cells (rpZ none 0 p g cl) 249) = W at *
  go_at_call 97; refine hF.mono ?_; rintro e w3 ⟨⟨v, rfl⟩, hw3⟩
  have h3 : Blk w3 w.heap.size (rpZ none who p g cl) 249 := by
    rw [hw3]
    have := HH.out.1.set 0 (.int .i64 who)
    rw [rp_zset who p g cl none (.int .i64 0)] at this
    exact this
  have hb3 : Hid (Below w.heap.size w w3) := by rw [hw3]; exact HH.out.2.trans (((But.refl [w.heap.size] W).set (g := w.heap.size) (.inl (by simp)) 0 _).below (by simp) (by rw [hsz]; omega))
  have hlt := h3.lt
  cases nxt with
  | true =>
    have hL := rp_lookNext w3 w.heap.size cl who p g P T G 0 0 0 true (rpRest (List.replicate 128 0) 0 none) none h3 (HLY.out.below hb3.out HLY.out.lt) hP
    clear hF hw3 HH h3 HLY
    go_wp2_with fail
    go_at_call 196; refine hL.mono ?_; rintro e w2 ⟨⟨v2, rfl⟩, hC⟩
    obtain ⟨q, Lc, c1, c2, c3, c4⟩ := hC
    rw [rp_s1] at c1
    have hF : Hid (Below w.heap.size w w2 ∧ (∀ k ∈ Lc, w.heap.size ≤ k) ∧ w.heap.size ∉ Lc) := ⟨hb3.out.trans (c3.below (by simp) hb3.out.size), fun k hk => by have := c4 k hk; omega, fun hm => by have := c4 _ hm; omega⟩
    have HC : Hid (Blk w2 w.heap.size (rpZ (some ⟨q, 0, none⟩) who p g cl) 249 ∧ Com w2 w.heap.size q (axLd (wd 20 P 264 p 3)) (.told 215) Lc) := ⟨c1, c2⟩
    clear hL c1 c2 c3 c4
    go_wp2_with fail
    go_ret
    exact ⟨w.heap.size, q, Lc, rfl, HC.out.1, HC.out.2, hF.out.2.2, hF.out.1, hF.out.2.1, Nat.le_refl _⟩
  | false =>
    have hL := rp_lookHead w3 w.heap.size cl who p g P T G 0 0 0 true (rpRest (List.replicate 128 0) 0 none) none h3 (HLY.out.below hb3.out HLY.out.lt) hP
    clear hF hw3 HH h3 HLY
    go_wp2_with fail
    go_at_call 197; refine hL.mono ?_; rintro e w2 ⟨⟨v2, rfl⟩, hC⟩
    obtain ⟨q, Lc, c1, c2, c3, c4⟩ := hC
    rw [rp_s1] at c1
    have hF : Hid (Below w.heap.size w w2 ∧ (∀ k ∈ Lc, w.heap.size ≤ k) ∧ w.heap.size ∉ Lc) := ⟨hb3.out.trans (c3.below (by simp) hb3.out.size), fun k hk => by have := c4 k hk; omega, fun hm => by have := c4 _ hm; omega⟩
    have HC : Hid (Blk w2 w.heap.size (rpZ (some ⟨q, 0, none⟩) who p g cl) 249 ∧ Com w2 w.heap.size q (axLd (wd 20 P 264 p 1)) (.told 216) Lc) := ⟨c1, c2⟩
    clear hL c1 c2 c3 c4
    go_wp2_with fail
    go_ret
    exact ⟨w.heap.size, q, Lc, rfl, HC.out.1, HC.out.2, hF.out.2.2, hF.out.1, hF.out.2.1, Nat.le_refl _⟩
theorem rp_take_no (w : World) (x cl : Nat) (who p g P T G nt hd tl : Int) (has : Bool) (rest : List Value) (nx : Option Addr) (hB : Blk w x (rpCells who nx cl p g has nt hd tl rest) 249) (hl : Lay w cl P T G) (hp : 0 ≤ P ∧ P ≤ 64) :
    Calls Tryz.prog 266 #[.pointer (some ⟨x, 0, none⟩), .bool false] w fun e w' => (∃ v, e = .returned v) ∧ Came w w' x (rpCells who nx cl p g has nt hd tl rest) 249 (axLd (wd 20 P 264 p 1)) (.told 216) := by
  have H := rp_lookHead w x cl who p g P T G nt hd tl has rest nx hB hl hp
  clear hB hl hp
  go_enter Tryz.func266, Tryz.ntmps266
  go_wp2_with fail
  go_at_call 197; refine H.mono ?_; rintro e w1 ⟨⟨v, rfl⟩, hC⟩
  clear H
  go_wp2_with fail
  refine bodyPost_ret (results_none rfl _ _ _) rfl ?_
  exact ⟨⟨_, rfl⟩, hC⟩
end Go.Proofs.YtfdpikkinlljlaaGreat

namespace Go.Proofs.YtfdpikkinlljlaaGreat
open Go Go.RowKit
set_option linter.unusedVariables false
set_option maxRecDepth 100000
set_option linter.unusedSimpArgs false

section
variable (w : World) (x cl : Nat) (who p g nt hd tl : Int) (has : Bool) (gv : List Int) (ld : Int)
set_option maxHeartbeats 2000000 in
theorem rp_move (y : Nat) (nx : Option Addr) (a : Addr) (hB : Blk w x (rpCells who nx cl p g has nt hd tl (rpRest gv ld (some ⟨y, 0, none⟩))) 249) (hg : gv.length = 128) (hyx : y ≠ x) (hny : w.cell? ⟨y, 1, none⟩ = some (.pointer (some a))) :
    Calls Tryz.prog 280 #[.pointer (some ⟨x, 0, none⟩)] w fun e w' => (∃ v, e = .returned v) ∧ ∃ q b, CameBox w w' x (rpCells who nx cl p g has nt hd tl (rpRest gv ld (some ⟨y, 0, none⟩))) 249 (fun v => comCells 0 0 0 0 0 false (.iface 142 (.pointer (some ⟨y, 0, none⟩))) v false false) (.func (.func 292) #[.pointer (some ⟨x, 0, none⟩)] #[]) q b := by
  have c138 := hB.cell 138 (rp_c138 hg)
  have hf := frun_qput w.drew x y _ 249 (.func (.func 292) #[.pointer (some ⟨x, 0, none⟩)] #[]) a hB.drew rp_size (.some _ _ _) hyx hny
  have HU : Hid (But [x] w w.drew) := (But.refl [x] w).drew
  clear hB hny
  go_enter Tryz.func280, Tryz.ntmps280
  go_wp2_with fail
  go_region_with (first | (go_at_call 98; refine hf.mono ?_; rintro e w6 ⟨⟨v, rfl⟩, q, b, hC⟩))
  all_goals
    have HZ : Hid (CameBox w w6 x _ 249 _ _ q b) := hC.before HU.out
    clear hf hC c138 HU
    go_wp2_with fail
    go_end0
    exact ⟨⟨_, rfl⟩, q, b, HZ.out⟩
set_option maxHeartbeats 2000000 in
theorem rp_release (nx qu : Option Addr) (hB : Blk w x (rpCells who nx cl p g has nt hd tl (rpRest gv ld qu)) 249) (hg : gv.length = 128) :
    Calls Tryz.prog 292 #[.pointer (some ⟨x, 0, none⟩)] w fun e w' => (∃ v, e = .returned v) ∧ ∃ x2 q2 g2 q b, CameBox w w' x (rpCells who nx cl p g has nt hd tl (rpRest gv ld qu)) 249 (fun v => comCells 0 0 0 0 0 false (.iface 252 (.pointer (some ⟨x2, 0, none⟩))) v false false) .nilFunc q b ∧ RelM w' x2 q2 g2 who (wd 0 2 3 0 1) (wd 0 2 3 0 2) ∧ w.heap.size ≤ x2 ∧ q2 < q ∧ q2 < b ∧ g2 < q ∧ g2 < b := by
  have hlt := hB.lt
  have c2 := hB.cell 2 rp_c2
  have hO := who_any w.drew x who (hB.drew.cell 0 rp_c0)
  have hR := rel_new w.drew cl 0 who
  generalize wd 0 2 3 0 1 = sv at *
  generalize wd 0 2 3 0 2 = ow at *
  have HH : Hid (Blk w x (rpCells who nx cl p g has nt hd tl (rpRest gv ld qu)) 249) := hB
  clear hB hg
  go_enter Tryz.func292, Tryz.ntmps292
  go_wp2_with fail
  go_region_with (first | (go_at_call 144; refine hO.mono ?_; rintro e w3 ⟨rfl, rfl⟩) | (go_at_call 205; refine hR.mono ?_; rintro e w4 ⟨x2, q2, g2, rfl, k1, k2, k3, k4, k5, k6, k7, k8, k9⟩; have hB4 : But [x] w w4 := ((But.refl [x] w).drew).trans (But.of_below k4); have hf := frun_rel w4 x x2 _ 249 .nilFunc ⟨q2, 0, none⟩ (HH.out.but (But.of_below (l := []) (show Below w.heap.size w w4 from (Below.refl _ _).drew.trans k4)) (by simp)) rp_size .none (by have : w.heap.size ≤ x2 := k5; omega) (k1.cell 1 rfl)) | (go_at_call 98; refine hf.mono ?_; rintro e w5 ⟨⟨v, rfl⟩, q, b, hC⟩))
  all_goals
    have k5' : w.heap.size ≤ x2 := k5
    have hM : RelM w4 x2 q2 g2 who sv ow := ⟨k1, k2, k3, k7, k8, k9⟩
    have hM5 := hM.but hC.at'.but (by omega)
    have hq2 := hM.com.lt
    have hg2 := hM.box.lt
    have hC5 := hC.before hB4
    have f1 := hC.at'.fresh
    have f2 := hC.fresh
    clear hO hR c2 hf k1 k2 k3 k4 k5 k6 k7 k8 k9 hC hB4 hM HH
    go_wp2_with fail
    go_end0
    exact ⟨⟨_, rfl⟩, x2, q2, g2, q, b, hC5, hM5, k5', by omega, by omega, by omega, by omega⟩
end
end Go.Proofs.YtfdpikkinlljlaaGreat

namespace Go.Proofs.YtfdpikkinlljlaaGreat
open Go Go.RowKit Go.Maps
set_option linter.unusedVariables false
set_option maxRecDepth 100000
set_option linter.unusedSimpArgs false

/-- What take leaves: the queue's machine, and the lock's, which is run. -/
def RpTook (w : World) (x cl : Nat) (who p g nt hd tl : Int) (has : Bool) (gv : List Int) (ld : Int) (nx : Option Addr) (QP : World → Nat → List Nat → Prop) (e : Ending) (w' : World) : Prop := (∃ v, e = .returned v) ∧ ∃ (y : Nat) (L : List Nat) (x2 q2 q b : Nat), CameBox w w' x (rpCells who nx cl p g has nt hd tl (rpRest gv ld (some ⟨y, 0, none⟩))) 249 (fun v => comCells 0 0 0 0 0 false (.iface 209 (.pointer (some ⟨x2, 0, none⟩))) v false false) (.func (.func 280) #[.pointer (some ⟨x, 0, none⟩)] #[]) q b ∧ QP w' y L ∧ AcqM w' x2 q2 who (wd 0 2 3 0 0) (wd 0 2 3 0 1) (wd 0 2 3 0 2) ∧ (∀ k ∈ L, w.heap.size ≤ k ∧ k < x2) ∧ w.heap.size ≤ x2 ∧ q2 < q ∧ q2 < b ∧ w.heap.size ≤ y
set_option maxHeartbeats 4000000 in
theorem rp_take_yes (w : World) (x cl : Nat) (who p g P T G nt hd tl : Int) (has : Bool) (gv : List Int) (ld : Int) (qu nx : Option Addr) (QP : World → Nat → List Nat → Prop)
    (hB : Blk w x (rpCells who nx cl p g has nt hd tl (rpRest gv ld qu)) 249) (hg : gv.length = 128) (hl : Lay w cl P T G) (hxc : cl ≠ x)
    (hK : ∀ (a b : World) (y : Nat) (L : List Nat), QP a y L → But [x] a b → x ∉ L → QP b y L)
    (hN : ∀ (Y : World) (v : Value), Lay Y cl P T G → SeesL Y v (gv ++ [g]) → Calls Tryz.prog 143 #[.pointer (some ⟨cl, 0, none⟩), .int .i64 who, v] Y fun e w' => ∃ y L, e = .returned (.pointer (some ⟨y, 0, none⟩)) ∧ QP w' y L ∧ Below Y.heap.size Y w' ∧ (∀ k ∈ L, Y.heap.size ≤ k) ∧ (∀ k ∈ L, k < w'.heap.size) ∧ Y.heap.size ≤ y) :
    Calls Tryz.prog 266 #[.pointer (some ⟨x, 0, none⟩), .bool true] w fun e w' => RpTook w x cl who p g nt hd tl has gv ld nx QP e w' := by
  obtain ⟨i3, hi3, hz03, hz13, hz23⟩ := info_parts lists_info3
  have hlt := hB.lt
  have hO := who_any w x who (hB.cell 0 rp_c0)
  have c2 := hB.cell 2 rp_c2
  have c4 := hB.cell 4 rp_c4
  have HGV : Hid (∀ X, Blk X x (rpCells who nx cl p g has nt hd tl (rpRest gv ld qu)) 249 → ∀ j u, (gv.map (Value.int .i64))[j]? = some u → X.cell? ((⟨x, 9, none⟩ : Addr).add j) = some u) := fun X hX j u hu => by
    rw [List.getElem?_map] at hu
    by_cases hj : j < 128
    · rw [List.getElem?_eq_getElem (by omega)] at hu
      have h1 := hX.cell (9 + j) (rp_given hg j hj)
      rw [List.getD_eq_getElem?_getD, List.getElem?_eq_getElem (by omega)] at h1
      simp at hu
      rw [← hu]
      by_cases h0 : j = 0
      · subst h0; simpa [Addr.add] using h1
      · simpa [Addr.add, h0] using h1
    · rw [List.getElem?_eq_none (by omega)] at hu
      cases hu
  have HH : Hid (Blk w.drew x (rpCells who nx cl p g has nt hd tl (rpRest gv ld qu)) 249 ∧ Lay w.drew cl P T G) := ⟨hB.drew, hl.below ((Below.refl _ _).drew) hl.lt⟩
  have hA : Hid (Blk (w.drew.alloc (.cells #[.int .i64 g] 3)) x (rpCells who nx cl p g has nt hd tl (rpRest gv ld qu)) 249) := HH.out.1.al _
  clear hB hl
  go_enter Tryz.func266, Tryz.ntmps266
  go_wp2_with fail
  go_at_call 144; refine hO.mono ?_; rintro e w3 ⟨rfl, rfl⟩
  clear hO
  go_wp2_with fail
  have hH : Hid (w.drew.cell? ⟨x, 2, none⟩ = some (.pointer (some ⟨cl, 0, none⟩)) ∧ w.drew.cell? ⟨x, 4, none⟩ = some (.int .i64 g)) := ⟨HH.out.1.cell 2 rp_c2, HH.out.1.cell 4 rp_c4⟩
  have hHA : Hid ((w.drew.alloc (.cells #[.int .i64 g] 3)).cell? ⟨x, 2, none⟩ = some (.pointer (some ⟨cl, 0, none⟩)) ∧ (w.drew.alloc (.cells #[.int .i64 g] 3)).cell? ⟨x, 4, none⟩ = some (.int .i64 g)) := ⟨hA.out.cell 2 rp_c2, hA.out.cell 4 rp_c4⟩
  have HL1 : Hid (Lay (w.drew.alloc (.cells #[.int .i64 g] 3)) cl P T G) := HH.out.2.below ((Below.refl _ _).alloc (Nat.le_refl _) _) HH.out.2.lt
  have HNN : Hid (∀ (Y : World) (v : Value), Lay Y cl P T G → SeesL Y v (gv ++ [g]) → Calls Tryz.prog 143 #[.pointer (some ⟨cl, 0, none⟩), .int .i64 who, v] Y fun e w' => ∃ y L, e = .returned (.pointer (some ⟨y, 0, none⟩)) ∧ QP w' y L ∧ Below Y.heap.size Y w' ∧ (∀ k ∈ L, Y.heap.size ≤ k) ∧ (∀ k ∈ L, k < w'.heap.size) ∧ Y.heap.size ≤ y) := hN
  have HSN : Hid (∀ X : World, Blk X x (rpCells who nx cl p g has nt hd tl (rpRest gv ld qu)) 249 → X.cell? ⟨x, 2, none⟩ = some (.pointer (some ⟨cl, 0, none⟩)) ∧ X.cell? ⟨x, 4, none⟩ = some (.int .i64 g)) := fun X h => ⟨h.cell 2 rp_c2, h.cell 4 rp_c4⟩
  have HST : Hid (∀ (X : World) (u : Value), Blk X x (rpCells who nx cl p g has nt hd tl (rpRest gv ld qu)) 249 → (X.setCell ⟨x, 138, none⟩ u).cell? ⟨x, 2, none⟩ = some (.pointer (some ⟨cl, 0, none⟩)) ∧ (X.setCell ⟨x, 138, none⟩ u).cell? ⟨x, 4, none⟩ = some (.int .i64 g)) := fun X u h => by
    have h2 := h.set 138 u
    refine ⟨h2.cell 2 ?_, h2.cell 4 ?_⟩
    · rw [Array.getElem?_setIfInBounds_ne (by decide)]; exact rp_c2
    · rw [Array.getElem?_setIfInBounds_ne (by decide)]; exact rp_c4
  have HGR : Hid (∀ (w1 : World) (v' : Value), w1.ownsRow (w.drew.alloc (.cells #[.int .i64 g] 3)).heap.size 3 1 v' 129 (gv.map (Value.int .i64) ++ [.int .i64 g]) → (w.drew.alloc (.cells #[.int .i64 g] 3)).grownBy w1 none → Blk w1 x (rpCells who nx cl p g has nt hd tl (rpRest gv ld qu)) 249 ∧ Lay w1 cl P T G ∧ SeesL w1 v' (gv ++ [g]) ∧ But [x] w w1) := fun w1 v' hown hgrow => by
    have hb1 : Below (w.drew.alloc (.cells #[.int .i64 g] 3)).heap.size (w.drew.alloc (.cells #[.int .i64 g] 3)) w1 := (Below.refl _ _).grown hgrow (Nat.le_refl _) (fun k h => by cases h)
    refine ⟨hA.out.but (But.of_below (l := []) hb1) (by simp), HL1.out.below hb1 HL1.out.lt, IntsOn.sees (base := (w.drew.alloc (.cells #[.int .i64 g] 3)).heap.size) ⟨by rw [List.map_append, List.length_append, hg]; exact hown⟩, ((But.refl [x] w).drew.alloc _).trans (But.of_below hb1)⟩
  clear c2 c4 hN
  go_region_held_law (fun X => X.cell? ⟨x, 2, none⟩ = some (.pointer (some ⟨cl, 0, none⟩)) ∧ X.cell? ⟨x, 4, none⟩ = some (.int .i64 g)) (first | exact hH.out | exact hHA.out | exact HST.out _ _ ‹_› | assumption) (first | (refine step_append_grows rfl (.tmp 22) (.tmp 27) 49 rfl 3 i3 (.int .i64 0) 1 8 Tryz.underlying49 hi3 hz03 hz13 hz23 rfl (by decide) (some ⟨x, 9, none⟩) 128 128 (gv.map (Value.int .i64)) (by rfl) (fun h => by cases h) (by simp [hg]) (fun b e => by cases e; exact HGV.out _ hA.out) ⟨w.drew.heap.size, 0, none⟩ 1 1 [.int .i64 g] (by rfl) (by rfl) (cell_one_new _ _ _) (ints_oneCell .i64 [g]) (by omega) (by unfold maxLen; omega) (by omega) ?_; intro v' w1 hown hgrow; obtain ⟨hb1, hl1, hs1, hu1⟩ := HGR.out w1 v' hown hgrow; have q1 := HSN.out w1 hb1) | (go_at_call 143; refine (HNN.out _ _ hl1 hs1).mono ?_; rintro e w2 ⟨y, L, rfl, y1, y2, y3, y4, y5⟩; have hb2 := hb1.but (But.of_below (l := []) y2) (by simp); have q2 := HSN.out w2 hb2; have s138 := hb2.cell 138 (rp_c138 hg); have t138 := hb2.fro 138; have u138 := hb2.lt))
  all_goals
    have h5 : Blk (w2.setCell ⟨x, 138, none⟩ (.pointer (some ⟨y, 0, none⟩))) x (rpCells who nx cl p g has nt hd tl (rpRest gv ld (some ⟨y, 0, none⟩))) 249 := by
      have h4 := hb2.set 138 (.pointer (some ⟨y, 0, none⟩))
      rw [rp_s138 hg] at h4
      exact h4
    have hs1w : w.heap.size ≤ w1.heap.size := hu1.size
    have hxL : x ∉ L := fun hm => absurd (y3 x hm) (by omega)
    have hq5 : QP (w2.setCell ⟨x, 138, none⟩ (.pointer (some ⟨y, 0, none⟩))) y L := hK _ _ _ _ y1 ((But.refl [x] w2).set (g := x) (.inl (by simp)) 138 _) hxL
    have hB5 : But [x] w (w2.setCell ⟨x, 138, none⟩ (.pointer (some ⟨y, 0, none⟩))) := (hu1.trans (But.of_below y2)).set (g := x) (.inl (by simp)) 138 _
    have hL5 : Hid ((∀ k ∈ L, w.heap.size ≤ k ∧ k < (w2.setCell ⟨x, 138, none⟩ (.pointer (some ⟨y, 0, none⟩))).heap.size) ∧ w.heap.size ≤ y ∧ x ∉ L) := ⟨fun k hk => ⟨Nat.le_trans hs1w (y3 k hk), by rw [size_set]; exact y4 k hk⟩, Nat.le_trans hs1w y5, hxL⟩
    generalize w2.setCell ⟨x, 138, none⟩ (.pointer (some ⟨y, 0, none⟩)) = V at *
    have H5 : Hid (Blk V x (rpCells who nx cl p g has nt hd tl (rpRest gv ld (some ⟨y, 0, none⟩))) 249 ∧ QP V y L ∧ But [x] w V) := ⟨h5, hq5, hB5⟩
    have c2 := h5.cell 2 rp_c2
    have hszV := hB5.size
    clear h5 hq5 hB5 q1 q2 s138 t138 u138 hb1 hl1 hs1 hb2 y1 y2 y3 y4 y5 hown hgrow HGR HST HSN HNN HL1 hHA hH hA HH HGV hu1 hxL hs1w
    have hR := fun w => lock_new w cl 0 who
    have hR := hR V.drew
    go_wp2_with fail
    go_region_with (first | (go_at_call 146; refine hR.mono ?_; rintro e w4 ⟨x2, q2, rfl, k1, k2, k4, k5, k6, k7⟩; have hB4 : But [x] w w4 := H5.out.2.2.trans (((But.refl [x] V).drew).trans (But.of_below k4)); have hf := frun_acq w4 x x2 _ 249 (.func (.func 280) #[.pointer (some ⟨x, 0, none⟩)] #[]) ⟨q2, 0, none⟩ (H5.out.1.but (But.of_below (l := []) (show Below V.heap.size V w4 from (Below.refl _ _).drew.trans k4)) (by simp)) rp_size (.some _ _ _) (by have : V.heap.size ≤ x2 := k5; omega) (k1.cell 1 rfl)) | (go_at_call 98; refine hf.mono ?_; rintro e w5 ⟨⟨v, rfl⟩, q, b, hC⟩))
    all_goals
      have k5' : V.heap.size ≤ x2 := k5
      have hM : AcqM w4 x2 q2 who (wd 0 2 3 0 0) (wd 0 2 3 0 1) (wd 0 2 3 0 2) := ⟨k1, k2, k7⟩
      have hM5 := hM.but hC.at'.but (by omega)
      have hq2 := hM.com.lt
      have hC5 := hC.before hB4
      have f1 := hC.at'.fresh
      have f2 := hC.fresh
      have hq9 : QP w5 y L := hK _ _ _ _ H5.out.2.1 ((But.of_below (show Below V.heap.size V w4 from (Below.refl _ _).drew.trans k4)).trans hC.at'.but) hL5.out.2.2
      have HZ : Hid (RpTook w x cl who p g nt hd tl has gv ld nx QP (.returned v) w5) := ⟨⟨_, rfl⟩, y, L, x2, q2, q, b, hC5, hq9, hM5, fun k hk => ⟨(hL5.out.1 k hk).1, Nat.lt_of_lt_of_le (hL5.out.1 k hk).2 k5'⟩, Nat.le_trans hszV k5', by omega, by omega, hL5.out.2.1⟩
      clear hR hf k1 k2 k4 k5 k6 k7 hC hB4 hM H5 hq9 hC5 hM5 c2
      go_wp2_with fail
      go_end0
      exact ⟨⟨_, rfl⟩, HZ.out.2⟩
end Go.Proofs.YtfdpikkinlljlaaGreat
