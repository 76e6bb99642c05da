/- The machine that puts into a ring: it has what a full ring gave. -/
import Derived.Test.YtfdpikkinlljlaaGreatHMAA
import Derived.Stop.Asserts
import Derived.Test.YtfdpikkinlljlaaGreatGnd2
import Derived.Test.YtfdpikkinlljlaaGreatFl
import Derived.Test.YtfdpikkinlljlaaGreatCp
import Derived.BigRegion
import Derived.Deep.RegionHeldLaw
import Derived.Deep.RegionLawGrows
import Derived.Maps.AppendAt
import Derived.OwnWalk
namespace Go.Proofs.YtfdpikkinlljlaaGreat
open Go Go.RowKit
set_option linter.unusedVariables false
set_option maxRecDepth 100000
set_option linter.unusedSimpArgs false

def wsFresh (who : Int) (nx lo : Option Addr) (p : Int) (sp lf : Bool) : Array Value := #[.int .i64 who, .pointer nx, .pointer lo, .int .i64 p, .bool sp, .bool lf, .bool true, .pointer none, .pointer none]
set_option maxHeartbeats 2000000 in
theorem ws_new (w : World) (cl : Nat) (who p P T G : Int) (sp lf : Bool) (hp : 0 ≤ P ∧ P ≤ 64) (hTT : 0 ≤ T ∧ T ≤ 65536) :
    Calls Tryz.prog 207 #[.pointer (some ⟨cl, 0, none⟩), .int .i64 who, .int .i64 p, .bool sp, .bool lf] w fun e w' => ∃ x th q b L V, e = .returned (.pointer (some ⟨x, 0, none⟩)) ∧ CameBox V w' x (wsCells who none cl p sp lf true th none) 218 (fun v => comCells 0 0 0 0 0 false (.iface 216 (.pointer (some ⟨th, 0, none⟩))) v false false) (.func (.func 224) #[.pointer (some ⟨x, 0, none⟩)] #[]) q b ∧ (jgFl who T cl).I (jgPM P T) w' th .ld L ∧ (∀ k ∈ L, w.heap.size ≤ k ∧ k ≠ x) ∧ q ∉ L ∧ b ∉ L ∧ Below w.heap.size w w' ∧ w.heap.size ≤ x ∧ x < V.heap.size := by
  have hB := Blk.new w (wsFresh 0 none none p sp lf) 218
  have hb : Below w.heap.size w (w.alloc (.cells (wsFresh 0 none none p sp lf) 218)) := (Below.refl _ _).alloc (Nat.le_refl _) _
  have hO := wk_of _ w.heap.size cl who _ (wsFresh who none (some ⟨cl, 0, none⟩) p sp lf) 218 hB (by simp [wsFresh]) rfl
  have HH : Hid (Below w.heap.size w (w.alloc (.cells (wsFresh 0 none none p sp lf) 218))) := hb
  have hsz := World.size_alloc w (.cells (wsFresh 0 none none p sp lf) 218)
  have HG : Hid (((jgFl who T cl).I (jgPM P T)).Good (jgPM P T)) := Fl.good (jg_laws who P T G cl hp hTT)
  clear hB hb hp hTT
  unfold wsFresh at hO HH hsz
  go_enter Tryz.func207, Tryz.ntmps207
  go_wp2_with fail
  go_at_call 217; refine hO.mono ?_; rintro e w1 ⟨⟨v, rfl⟩, h1, h2, h3⟩
  have h1lt := h1.lt
  have hb1 : Hid (Below w.heap.size w w1) := HH.out.trans (h2.below (by simp) (by rw [hsz]; omega))
  have H1 : Hid (Blk w1 w.heap.size (wsFresh who none (some ⟨cl, 0, none⟩) p sp lf) 218) := h1
  have hN := jg_new w1 cl who P T
  clear hO h1 h2 h3 HH hsz
  go_wp2_with fail
  go_at_call 223; refine hN.mono ?_; rintro e w2 ⟨th, L, rfl, k1, k2, k3, k4⟩
  have h12 : Blk w2 w.heap.size (wsFresh who none (some ⟨cl, 0, none⟩) p sp lf) 218 := H1.out.but (But.of_below (l := []) k2) (by simp)
  have c7 := h12.cell 7 (v := .pointer none) rfl
  have f7 := h12.fro 7
  have h5 : Blk (w2.setCell ⟨w.heap.size, 7, none⟩ (.pointer (some ⟨th, 0, none⟩))) w.heap.size (wsCells who none cl p sp lf true th none) 218 := h12.set 7 _
  have k3' : ∀ k ∈ L, w.heap.size < k := fun k hk => Nat.lt_of_lt_of_le h1lt (k3 k hk)
  have hI5 : (jgFl who T cl).I (jgPM P T) (w2.setCell ⟨w.heap.size, 7, none⟩ (.pointer (some ⟨th, 0, none⟩))) th .ld L := HG.out.keep k1 ((But.refl [w.heap.size] w2).set (g := w.heap.size) (.inl (by simp)) 7 _) (fun k hk => by have := k3' k hk; simp; omega)
  have hb5 : Hid (Below w.heap.size w (w2.setCell ⟨w.heap.size, 7, none⟩ (.pointer (some ⟨th, 0, none⟩)))) := (seq hb1.out k2).setCell (p := ⟨w.heap.size, 7, none⟩) (Nat.le_refl _) _
  have HH5 : Hid (Blk _ w.heap.size (wsCells who none cl p sp lf true th none) 218 ∧ (jgFl who T cl).I (jgPM P T) _ th .ld L) := ⟨h5, hI5⟩
  have hthx : Hid (th ≠ w.heap.size) := by have : w1.heap.size ≤ th := k4; exact (by omega : th ≠ w.heap.size)
  have K3 : Hid (∀ k ∈ L, w.heap.size < k) := k3'
  clear hN h12 h5 hI5 k1 k2 k3 k3' k4 H1 hb1 h1lt
  go_wp2_with fail
  clear c7 f7
  generalize (w2.setCell ⟨w.heap.size, 7, none⟩ (.pointer (some ⟨th, 0, none⟩))) = V at *
  have hlt := HH5.out.1.lt
  obtain ⟨a, ha⟩ : ∃ a, V.cell? ⟨th, 1, none⟩ = some (.pointer (some a)) := by
    obtain ⟨nx, q1, q2⟩ := HG.out.next HH5.out.2
    cases nx with
    | none => cases q2
    | some a => exact ⟨a, q1⟩
  have c7 := HH5.out.1.cell 7 (v := .pointer (some ⟨th, 0, none⟩)) rfl
  have hf := frun_img V.drew w.heap.size th _ 218 (.func (.func 224) #[.pointer (some ⟨w.heap.size, 0, none⟩)] #[]) a HH5.out.1.drew (by simp [wsCells]) (.some _ _ _) hthx.out (by simpa using ha)
  clear ha
  go_region_with (first | (go_at_call 98; refine hf.mono ?_; rintro e w5 ⟨⟨v, rfl⟩, q, g, hC⟩))
  all_goals
    have hlL := HG.out.lt HH5.out.2
    have f1 : V.heap.size ≤ q := hC.at'.fresh
    have f2 : V.heap.size ≤ g := hC.fresh
    have hI6 := HG.out.keep HH5.out.2 (((But.refl [w.heap.size] V).drew).trans hC.at'.but) (fun k hk => by have := K3.out k hk; simp; omega)
    have hC6 := hC.before ((But.refl [w.heap.size] V).drew)
    have hF : Hid (CameBox V w5 w.heap.size (wsCells who none cl p sp lf true th none) 218 (fun v => comCells 0 0 0 0 0 false (.iface 216 (.pointer (some ⟨th, 0, none⟩))) v false false) (.func (.func 224) #[.pointer (some ⟨w.heap.size, 0, none⟩)] #[]) q g ∧ (jgFl who T cl).I (jgPM P T) w5 th .ld L ∧ (∀ k ∈ L, w.heap.size ≤ k ∧ k ≠ w.heap.size) ∧ q ∉ L ∧ g ∉ L ∧ Below w.heap.size w w5) := ⟨hC6, hI6, fun k hk => ⟨by have := K3.out k hk; omega, by have := K3.out k hk; omega⟩, fun hm => by have := hlL q hm; omega, fun hm => by have := hlL g hm; omega, hb5.out.trans (hC6.at'.but.below (by simp) hb5.out.size)⟩
    clear hf hC hC6 hI6 c7 HG hlL f1 f2 K3 hthx HH5 hb5
    go_wp2_with fail
    go_ret
    exact ⟨w.heap.size, th, q, g, L, V, rfl, hF.out.1, hF.out.2.1, hF.out.2.2.1, hF.out.2.2.2.1, hF.out.2.2.2.2.1, hF.out.2.2.2.2.2, Nat.le_refl _, hlt⟩
section
variable (w : World) (x cl th : Nat) (who p : Int) (sp lf has : Bool) (bk nx : Option Addr) (h : Blk w x (wsCells who nx cl p sp lf has th bk) 218)
include h
theorem ws_holds_no (hs : has = false) :
    Calls Tryz.prog 103 #[.pointer (some ⟨x, 0, none⟩)] w fun e w' => e = .returned (.int .i64 (-1)) ∧ w = w' := by
  subst hs
  have c6 := h.cell 6 (v := .bool false) rfl
  clear h
  go_enter Tryz.func103, Tryz.ntmps103
  go_wp2_with fail
  go_ret
  exact ⟨rfl, rfl⟩
theorem ws_holds_one (hs : has = true) (hb : bk = none) :
    Calls Tryz.prog 103 #[.pointer (some ⟨x, 0, none⟩)] w fun e w' => e = .returned (.int .i64 p) ∧ w = w' := by
  subst hs hb
  have c6 := h.cell 6 (v := .bool true) rfl
  have c8 := h.cell 8 (v := .pointer none) rfl
  have c3 := h.cell 3 (v := .int .i64 p) rfl
  clear h
  go_enter Tryz.func103, Tryz.ntmps103
  go_wp2_with fail
  go_ret
  exact ⟨rfl, rfl⟩
theorem ws_holds_back (y : Nat) (v : Int) (hs : has = true) (hb : bk = some ⟨y, 0, none⟩) (hY : Calls Tryz.prog 104 #[.pointer (some ⟨y, 0, none⟩)] w fun e w' => e = .returned (.int .i64 v) ∧ w = w') :
    Calls Tryz.prog 103 #[.pointer (some ⟨x, 0, none⟩)] w fun e w' => e = .returned (.int .i64 v) ∧ w = w' := by
  subst hs hb
  have c6 := h.cell 6 (v := .bool true) rfl
  have c8 := h.cell 8 (v := .pointer (some ⟨y, 0, none⟩)) rfl
  clear h
  go_enter Tryz.func103, Tryz.ntmps103
  go_wp2_with fail
  go_at_call 104; refine hY.mono ?_; rintro e w1 ⟨rfl, rfl⟩
  clear hY
  go_wp2_with fail
  go_ret
  exact ⟨rfl, rfl⟩
end
theorem ws_holds_nil (w : World) : Calls Tryz.prog 103 #[.pointer none] w fun e w' => e = .returned (.int .i64 (-1)) ∧ w = w' := by
  go_enter Tryz.func103, Tryz.ntmps103
  go_wp2_with fail
  go_ret
  exact ⟨rfl, rfl⟩
theorem ws_T_nil (w : World) : Calls Tryz.prog 239 #[.pointer none] w fun e w' => e = .returned (.int .i64 (-1)) ∧ w = w' := by
  go_enter Tryz.func239, Tryz.ntmps239
  go_wp2_with fail
  go_ret
  exact ⟨rfl, rfl⟩

/-- Starting a thread, as plain data: q is what the thread's machine is in, b the one that gives the processor back. -/
inductive WsT where
  | get (q : JgT)
  | rel1 (q : JgT) (r : RelT)
  | give (q : JgT)
  | note (q : JgT) (n : NwT)
  | need (q : JgT)
  | cnt (q : JgT)
  | lft (q : JgT)
  | back (q : JgT) (b : IpT)
  | rel2 (q : JgT) (b : Option IpT) (r : RelT)
def WsT.q : WsT → JgT
  | .get q => q
  | .rel1 q _ => q
  | .give q => q
  | .note q _ => q
  | .need q => q
  | .cnt q => q
  | .lft q => q
  | .back q _ => q
  | .rel2 q _ _ => q
def WsT.has : WsT → Bool
  | .note _ _ => false
  | .rel2 _ none _ => false
  | _ => true
def WsT.bk : WsT → Option IpT
  | .back _ b => some b
  | .rel2 _ b _ => b
  | _ => none
/-- The processor in its hand. -/
def WsT.holds (p : Int) (t : WsT) : Int := if t.has then (match t.bk with | some b => b.obs p | none => p) else -1
def wsPut (lf : Bool) (q : JgT) : WsT := if lf then .lft q else .back q .m0
def wsPM (P T p : Int) (sp lf : Bool) : PM WsT where
  ax := fun
    | .get q => (jgPM P T).ax q
    | .rel1 _ r => (relPM (wd 0 2 3 0 1) (wd 0 2 3 0 2)).ax r
    | .give q => some (axSt (wd (20 + P * 264) T 3 q.obs 1) (wkWord p sp))
    | .note q n => (nwPM (wd (20 + P * 264) T 3 q.obs 0)).ax n
    | .need _ => some (axSt 14 1)
    | .cnt _ => some (axAd 13 4294967295)
    | .lft _ => some (axSt (wd 20 P 264 p 0) 2)
    | .back _ b => (ipPM P p).ax b
    | .rel2 _ _ r => (relPM (wd 0 2 3 0 1) (wd 0 2 3 0 2)).ax r
  nx := fun
    | .get q, v => if ((jgPM P T).ax ((jgPM P T).nx q v)).isSome = true then .get ((jgPM P T).nx q v) else if ((jgPM P T).nx q v).obs = -1 then .need ((jgPM P T).nx q v) else .rel1 ((jgPM P T).nx q v) .fresh
    | .rel1 q r, v => if ((relPM (wd 0 2 3 0 1) (wd 0 2 3 0 2)).ax ((relPM (wd 0 2 3 0 1) (wd 0 2 3 0 2)).nx r v)).isSome = true then .rel1 q ((relPM (wd 0 2 3 0 1) (wd 0 2 3 0 2)).nx r v) else .give q
    | .give q, _ => .note q .fresh
    | .note q n, v => .note q ((nwPM (wd (20 + P * 264) T 3 q.obs 0)).nx n v)
    | .need q, _ => if sp then .cnt q else wsPut lf q
    | .cnt q, _ => wsPut lf q
    | .lft q, _ => .rel2 q none .fresh
    | .back q b, v => if ((ipPM P p).ax ((ipPM P p).nx b v)).isSome = true then .back q ((ipPM P p).nx b v) else .rel2 q (some ((ipPM P p).nx b v)) .fresh
    | .rel2 q b r, v => .rel2 q b ((relPM (wd 0 2 3 0 1) (wd 0 2 3 0 2)).nx r v)
end Go.Proofs.YtfdpikkinlljlaaGreat

namespace Go.Proofs.YtfdpikkinlljlaaGreat
open Go Go.RowKit
set_option linter.unusedVariables false
set_option maxRecDepth 100000
set_option linter.unusedSimpArgs false

theorem isD_ipg (v : Value) (xT : TypeId) (w : World) : (Instr.typeAssert (.iface 198 v) xT 245 true).run Tryz.prog w = .ok (.tuple #[.iface 198 v, .bool true]) w := run_typeAssert_hasB Tryz.underlying245 (by kernel_rfl) v xT w
theorem eqIIn_ipg (w : World) (fuel : Nat) (v : Value) : (Op.equalIn (fuel + 1) 203 (.iface 198 v) .nilIface).run Tryz.prog w = .ok false w := by
  simp only [Op.equalIn, Sem.run_bind, run_underlying Tryz.underlying203, Result.andThen_ok]
  rfl
theorem eqI_ipg (v : Value) (w : World) : (binOp .eql 203 (.iface 198 v) .nilIface).run Tryz.prog w = .ok (.bool false) w := by
  have h := eqIIn_ipg w 9999 v
  simp only [binOp]
  simp [Op.equal, Op.maxDepth, h]
theorem neqI_ipg (v : Value) (w : World) : (binOp .neq 203 (.iface 198 v) .nilIface).run Tryz.prog w = .ok (.bool true) w := by
  have h := eqIIn_ipg w 9999 v
  simp only [binOp]
  simp [Op.equal, Op.maxDepth, h]
theorem isdone_ipg (w : World) (x : Nat) (nx : Option Addr) (hc : w.cell? ⟨x, 1, none⟩ = some (.pointer nx)) :
    Calls Tryz.prog 150 #[.iface 198 (.pointer (some ⟨x, 0, none⟩))] w fun e w' => e = .returned (.bool nx.isNone) ∧ w = w' := by
  have h1 := isD_ipg
  have h2 := eqI_ipg
  have hD := done_ipg w x nx hc
  go_enter Tryz.func150, Tryz.ntmps150
  go_wp2_with fail
  go_at_call 343; refine hD.mono ?_; rintro e w1 ⟨rfl, rfl⟩
  go_wp2_with fail
  go_ret
  exact ⟨rfl, rfl⟩

theorem frun0_ipg (w : World) (c x : Nat) (cs : Array Value) (T : TypeId) (fv : Value) (nx : Addr) (h : Blk w c cs T) (hs : 2 ≤ cs.size) (hf : Fv fv) (hxc : x ≠ c) (hx : w.cell? ⟨x, 1, none⟩ = some (.pointer (some nx))) :
    Calls Tryz.prog 98 #[.pointer (some ⟨c, 0, none⟩), .iface 198 (.pointer (some ⟨x, 0, none⟩)), fv] w fun e w' => (∃ v, e = .returned v) ∧ ∃ q g, CameBox w w' c cs T (fun v => comCells 0 0 0 0 0 false (.iface 198 (.pointer (some ⟨x, 0, none⟩))) v false false) fv q g := by
  have c1 := h.cell 1 (Array.getElem?_eq_getElem (by omega))
  have f1 := h.fro 1
  have hlt := h.lt
  have h1 := h.set 1 (.pointer none)
  have c2 := h1.cell 1 (v := .pointer none) (by rw [Array.getElem?_setIfInBounds, if_pos rfl, if_pos (by omega)])
  have f2 := h1.fro 1
  have hB1 : But [c] w (w.setCell ⟨c, 1, none⟩ (.pointer none)) := (But.refl _ w).set (g := c) (.inl (by simp)) 1 _
  have hsz : (w.setCell ⟨c, 1, none⟩ (.pointer none)).heap.size = w.heap.size := size_set _ _ _
  have hD := isdone_ipg (w.setCell ⟨c, 1, none⟩ (.pointer none)) x (some nx) (by
    rw [show (w.setCell ⟨c, 1, none⟩ (.pointer none)).cell? ⟨x, 1, none⟩ = w.cell? ⟨x, 1, none⟩ by simp only [World.cell?]; rw [heap_set_ne w hxc 1 _]]
    exact hx)
  have hU := fun w => untold_any w fv hf
  have HH : Hid (Blk (w.setCell ⟨c, 1, none⟩ (.pointer none)) c (cs.setIfInBounds 1 (.pointer none)) T ∧ But [c] w (w.setCell ⟨c, 1, none⟩ (.pointer none))) := ⟨h1, hB1⟩
  clear h h1 hB1 hx
  go_enter Tryz.func98, Tryz.ntmps98
  go_wp2_with fail
  generalize w.setCell ⟨c, 1, none⟩ (.pointer none) = W at *
  go_at_call 150; refine hD.mono ?_; rintro e w1 ⟨rfl, rfl⟩
  go_wp2_with fail
  go_at_call 140; refine (hU _).mono ?_; rintro e w2 ⟨rfl, rfl⟩
  have hg := Blk.new W #[fv] 1
  have hW2 : Blk (W.alloc (.cells #[fv] 1)) c (cs.setIfInBounds 1 (.pointer none)) T := HH.out.1.al _
  have hsz2 : Hid ((W.alloc (.cells #[fv] 1)).heap.size = w.heap.size + 1) := (by rw [World.size_alloc, hsz] : (W.alloc (.cells #[fv] 1)).heap.size = w.heap.size + 1)
  have hB2 : But [c] w (W.alloc (.cells #[fv] 1)) := HH.out.2.alloc _
  rw [hsz] at hg ⊢
  have HG : Hid (Blk (W.alloc (.cells #[fv] 1)) w.heap.size #[fv] 1 ∧ Blk (W.alloc (.cells #[fv] 1)) c (cs.setIfInBounds 1 (.pointer none)) T ∧ But [c] w (W.alloc (.cells #[fv] 1))) := ⟨hg, hW2, hB2⟩
  have c3 := hW2.cell 1 (v := .pointer none) (by rw [Array.getElem?_setIfInBounds, if_pos rfl, if_pos (by omega)])
  have f3 := hW2.fro 1
  clear hD hU c1 f1 c2 f2 hg hW2 hB2
  generalize W.alloc (.cells #[fv] 1) = W2 at *
  have hlt2 : c < W2.heap.size := by have := hsz2.out; omega
  clear hsz HH
  go_wp2_with fail
  go_end0
  obtain ⟨g1, g2, g3⟩ := HG.out
  have hsz2 := hsz2.out
  refine ⟨⟨_, rfl⟩, W2.heap.size, w.heap.size, ⟨⟨by omega, ?_, ?_, ?_⟩, Nat.le_refl _, ?_, by omega⟩⟩
  · have := (g2.set 1 (.pointer (some ⟨W2.heap.size, 0, none⟩))).al (.cells (comCells 0 0 0 0 0 false (.iface 198 (.pointer (some ⟨x, 0, none⟩))) (.func (.func 175) #[] #[.pointer (some ⟨w.heap.size, 0, none⟩)]) false false) 205)
    rw [set_twice] at this
    exact this
  · have := Blk.new (W2.setCell ⟨c, 1, none⟩ (.pointer (some ⟨W2.heap.size, 0, none⟩))) (comCells 0 0 0 0 0 false (.iface 198 (.pointer (some ⟨x, 0, none⟩))) (.func (.func 175) #[] #[.pointer (some ⟨w.heap.size, 0, none⟩)]) false false) 205
    rw [size_set] at this
    exact this
  · exact (g3.set (g := c) (.inl (by simp)) 1 _).alloc _
  · exact (g1.setne (by omega) 1 _).al _

theorem act0_ipg (w : World) (q cm x : Nat) (who : Int) (thn : Value) (z : Bool) (Mw : World → Prop) (hq : Blk w q (comCells 0 0 0 0 0 false (.iface 198 (.pointer (some ⟨x, 0, none⟩))) thn false false) 205)
    (hS : ∀ W, But [q] w W → Blk W q (comCells 0 0 0 0 0 false (.iface 198 (.pointer (some ⟨x, 0, none⟩))) thn false true) 205 → Calls Tryz.prog 344 #[.pointer (some ⟨x, 0, none⟩), .pointer (some ⟨cm, 0, none⟩)] W fun e w' => e = .returned (.bool z) ∧ Blk w' q (comCells 0 0 0 0 0 false (.iface 198 (.pointer (some ⟨x, 0, none⟩))) thn false true) 205 ∧ Mw w') :
    Calls Tryz.prog 139 #[.pointer (some ⟨q, 0, none⟩), .int .i64 who, .pointer (some ⟨cm, 0, none⟩)] w fun e w' => e = .returned (.tuple #[.int .u64 0, .bool z]) ∧ ∃ w1, Mw w1 ∧ Blk w1 q (comCells 0 0 0 0 0 false (.iface 198 (.pointer (some ⟨x, 0, none⟩))) thn false true) 205 ∧ w' = w1.setCell ⟨q, 9, none⟩ (.bool false) := by
  have hn := neqI_ipg
  have hbm := Blk.new w #[.pointer (some ⟨cm, 0, none⟩)] 31
  have hq1 := hq.al (.cells #[.pointer (some ⟨cm, 0, none⟩)] 31)
  have hqlt := hq.lt
  have k6 := hq1.cell 6 (v := .iface 198 (.pointer (some ⟨x, 0, none⟩))) rfl
  have hask : Calls Tryz.prog 172 #[.pointer (some ⟨q, 0, none⟩), .func (.func 173) #[] #[.pointer (some ⟨w.heap.size, 0, none⟩)]] (w.alloc (.cells #[.pointer (some ⟨cm, 0, none⟩)] 31)) fun e w' => e = .returned (.bool z) ∧ ∃ w1, Mw w1 ∧ Blk w1 q (comCells 0 0 0 0 0 false (.iface 198 (.pointer (some ⟨x, 0, none⟩))) thn false true) 205 ∧ w' = w1.setCell ⟨q, 9, none⟩ (.bool false) := by
    have hne : w.heap.size ≠ q := by omega
    have k9 := hq1.cell 9 (v := .bool false) rfl
    have f9 := hq1.fro 9
    have hq2 := hq1.set 9 (.bool true)
    have l6 := hq2.cell 6 (v := .iface 198 (.pointer (some ⟨x, 0, none⟩))) rfl
    have hb2 := hbm.setne hne 9 (.bool true)
    have b0 := hb2.cell 0 (v := .pointer (some ⟨cm, 0, none⟩)) rfl
    have hst := hS ((w.alloc (.cells #[.pointer (some ⟨cm, 0, none⟩)] 31)).setCell ⟨q, 9, none⟩ (.bool true)) (((But.refl [q] w).alloc _).set (g := q) (.inl (by simp)) 9 _) hq2
    have hrun : Calls Tryz.prog 173 #[.iface 198 (.pointer (some ⟨x, 0, none⟩)), .pointer (some ⟨w.heap.size, 0, none⟩)] ((w.alloc (.cells #[.pointer (some ⟨cm, 0, none⟩)] 31)).setCell ⟨q, 9, none⟩ (.bool true)) fun e w' => e = .returned (.bool z) ∧ Blk w' q (comCells 0 0 0 0 0 false (.iface 198 (.pointer (some ⟨x, 0, none⟩))) thn false true) 205 ∧ Mw w' := by
      clear hS hq hbm hq1 k6 k9 f9 hq2 l6 hb2 hqlt hne
      generalize (w.alloc (.cells #[.pointer (some ⟨cm, 0, none⟩)] 31)).setCell ⟨q, 9, none⟩ (.bool true) = W at *
      go_enter Tryz.func173, Tryz.ntmps173
      go_wp2_with fail
      go_at_call 344; refine hst.mono ?_; rintro e w1 ⟨rfl, h1, h2⟩
      go_wp2_with fail
      go_ret
      exact ⟨rfl, h1, h2⟩
    clear hS hq hbm hq1 hq2 hb2 hst b0 hqlt
    go_enter Tryz.func172, Tryz.ntmps172
    go_wp2_with fail
    generalize (w.alloc (.cells #[.pointer (some ⟨cm, 0, none⟩)] 31)).setCell ⟨q, 9, none⟩ (.bool true) = W at *
    go_at_call 173; refine hrun.mono ?_; rintro e w1 ⟨rfl, h1, h2⟩
    have m9 := h1.cell 9 (v := .bool true) rfl
    have g9 := h1.fro 9
    clear hrun l6 k9 f9 k6
    go_wp2_with fail
    go_ret
    exact ⟨rfl, w1, h2, h1, rfl⟩
  clear hS hq hq1 hbm
  go_enter Tryz.func139, Tryz.ntmps139
  go_wp2_with fail
  generalize w.alloc (.cells #[.pointer (some ⟨cm, 0, none⟩)] 31) = W at *
  go_at_call 172; refine hask.mono ?_; rintro e w1 ⟨rfl, h1⟩
  clear hask k6
  go_wp2_with fail
  go_returns
  exact ⟨rfl, h1⟩

theorem frun_ipg : RunCome 198 := fun w c y cs T fv nx h hs hf hyc hx => frun0_ipg w c y cs T fv nx h hs hf hyc hx
theorem act_ipg : ActRun 198 344 := fun w q cm y g who z Mw hq hS => act0_ipg w q cm y who _ z Mw hq hS
end Go.Proofs.YtfdpikkinlljlaaGreat

namespace Go.Proofs.YtfdpikkinlljlaaGreat
open Go Go.RowKit
set_option linter.unusedVariables false
set_option maxRecDepth 100000
set_option linter.unusedSimpArgs false

theorem isD_wst (v : Value) (xT : TypeId) (w : World) : (Instr.typeAssert (.iface 153 v) xT 245 true).run Tryz.prog w = .ok (.tuple #[.iface 153 v, .bool true]) w := run_typeAssert_hasB Tryz.underlying245 (by kernel_rfl) v xT w
theorem eqIIn_wst (w : World) (fuel : Nat) (v : Value) : (Op.equalIn (fuel + 1) 203 (.iface 153 v) .nilIface).run Tryz.prog w = .ok false w := by
  simp only [Op.equalIn, Sem.run_bind, run_underlying Tryz.underlying203, Result.andThen_ok]
  rfl
theorem eqI_wst (v : Value) (w : World) : (binOp .eql 203 (.iface 153 v) .nilIface).run Tryz.prog w = .ok (.bool false) w := by
  have h := eqIIn_wst w 9999 v
  simp only [binOp]
  simp [Op.equal, Op.maxDepth, h]
theorem neqI_wst (v : Value) (w : World) : (binOp .neq 203 (.iface 153 v) .nilIface).run Tryz.prog w = .ok (.bool true) w := by
  have h := eqIIn_wst w 9999 v
  simp only [binOp]
  simp [Op.equal, Op.maxDepth, h]
theorem isdone_wst (w : World) (x : Nat) (nx : Option Addr) (hc : w.cell? ⟨x, 1, none⟩ = some (.pointer nx)) :
    Calls Tryz.prog 150 #[.iface 153 (.pointer (some ⟨x, 0, none⟩))] w fun e w' => e = .returned (.bool nx.isNone) ∧ w = w' := by
  have h1 := isD_wst
  have h2 := eqI_wst
  have hD := done_wst w x nx hc
  go_enter Tryz.func150, Tryz.ntmps150
  go_wp2_with fail
  go_at_call 338; refine hD.mono ?_; rintro e w1 ⟨rfl, rfl⟩
  go_wp2_with fail
  go_ret
  exact ⟨rfl, rfl⟩

theorem frun0_wst (w : World) (c x : Nat) (cs : Array Value) (T : TypeId) (fv : Value) (nx : Addr) (h : Blk w c cs T) (hs : 2 ≤ cs.size) (hf : Fv fv) (hxc : x ≠ c) (hx : w.cell? ⟨x, 1, none⟩ = some (.pointer (some nx))) :
    Calls Tryz.prog 98 #[.pointer (some ⟨c, 0, none⟩), .iface 153 (.pointer (some ⟨x, 0, none⟩)), fv] w fun e w' => (∃ v, e = .returned v) ∧ ∃ q g, CameBox w w' c cs T (fun v => comCells 0 0 0 0 0 false (.iface 153 (.pointer (some ⟨x, 0, none⟩))) v false false) fv q g := by
  have c1 := h.cell 1 (Array.getElem?_eq_getElem (by omega))
  have f1 := h.fro 1
  have hlt := h.lt
  have h1 := h.set 1 (.pointer none)
  have c2 := h1.cell 1 (v := .pointer none) (by rw [Array.getElem?_setIfInBounds, if_pos rfl, if_pos (by omega)])
  have f2 := h1.fro 1
  have hB1 : But [c] w (w.setCell ⟨c, 1, none⟩ (.pointer none)) := (But.refl _ w).set (g := c) (.inl (by simp)) 1 _
  have hsz : (w.setCell ⟨c, 1, none⟩ (.pointer none)).heap.size = w.heap.size := size_set _ _ _
  have hD := isdone_wst (w.setCell ⟨c, 1, none⟩ (.pointer none)) x (some nx) (by
    rw [show (w.setCell ⟨c, 1, none⟩ (.pointer none)).cell? ⟨x, 1, none⟩ = w.cell? ⟨x, 1, none⟩ by simp only [World.cell?]; rw [heap_set_ne w hxc 1 _]]
    exact hx)
  have hU := fun w => untold_any w fv hf
  have HH : Hid (Blk (w.setCell ⟨c, 1, none⟩ (.pointer none)) c (cs.setIfInBounds 1 (.pointer none)) T ∧ But [c] w (w.setCell ⟨c, 1, none⟩ (.pointer none))) := ⟨h1, hB1⟩
  clear h h1 hB1 hx
  go_enter Tryz.func98, Tryz.ntmps98
  go_wp2_with fail
  generalize w.setCell ⟨c, 1, none⟩ (.pointer none) = W at *
  go_at_call 150; refine hD.mono ?_; rintro e w1 ⟨rfl, rfl⟩
  go_wp2_with fail
  go_at_call 140; refine (hU _).mono ?_; rintro e w2 ⟨rfl, rfl⟩
  have hg := Blk.new W #[fv] 1
  have hW2 : Blk (W.alloc (.cells #[fv] 1)) c (cs.setIfInBounds 1 (.pointer none)) T := HH.out.1.al _
  have hsz2 : Hid ((W.alloc (.cells #[fv] 1)).heap.size = w.heap.size + 1) := (by rw [World.size_alloc, hsz] : (W.alloc (.cells #[fv] 1)).heap.size = w.heap.size + 1)
  have hB2 : But [c] w (W.alloc (.cells #[fv] 1)) := HH.out.2.alloc _
  rw [hsz] at hg ⊢
  have HG : Hid (Blk (W.alloc (.cells #[fv] 1)) w.heap.size #[fv] 1 ∧ Blk (W.alloc (.cells #[fv] 1)) c (cs.setIfInBounds 1 (.pointer none)) T ∧ But [c] w (W.alloc (.cells #[fv] 1))) := ⟨hg, hW2, hB2⟩
  have c3 := hW2.cell 1 (v := .pointer none) (by rw [Array.getElem?_setIfInBounds, if_pos rfl, if_pos (by omega)])
  have f3 := hW2.fro 1
  clear hD hU c1 f1 c2 f2 hg hW2 hB2
  generalize W.alloc (.cells #[fv] 1) = W2 at *
  have hlt2 : c < W2.heap.size := by have := hsz2.out; omega
  clear hsz HH
  go_wp2_with fail
  go_end0
  obtain ⟨g1, g2, g3⟩ := HG.out
  have hsz2 := hsz2.out
  refine ⟨⟨_, rfl⟩, W2.heap.size, w.heap.size, ⟨⟨by omega, ?_, ?_, ?_⟩, Nat.le_refl _, ?_, by omega⟩⟩
  · have := (g2.set 1 (.pointer (some ⟨W2.heap.size, 0, none⟩))).al (.cells (comCells 0 0 0 0 0 false (.iface 153 (.pointer (some ⟨x, 0, none⟩))) (.func (.func 175) #[] #[.pointer (some ⟨w.heap.size, 0, none⟩)]) false false) 205)
    rw [set_twice] at this
    exact this
  · have := Blk.new (W2.setCell ⟨c, 1, none⟩ (.pointer (some ⟨W2.heap.size, 0, none⟩))) (comCells 0 0 0 0 0 false (.iface 153 (.pointer (some ⟨x, 0, none⟩))) (.func (.func 175) #[] #[.pointer (some ⟨w.heap.size, 0, none⟩)]) false false) 205
    rw [size_set] at this
    exact this
  · exact (g3.set (g := c) (.inl (by simp)) 1 _).alloc _
  · exact (g1.setne (by omega) 1 _).al _

theorem act0_wst (w : World) (q cm x : Nat) (who : Int) (thn : Value) (z : Bool) (Mw : World → Prop) (hq : Blk w q (comCells 0 0 0 0 0 false (.iface 153 (.pointer (some ⟨x, 0, none⟩))) thn false false) 205)
    (hS : ∀ W, But [q] w W → Blk W q (comCells 0 0 0 0 0 false (.iface 153 (.pointer (some ⟨x, 0, none⟩))) thn false true) 205 → Calls Tryz.prog 339 #[.pointer (some ⟨x, 0, none⟩), .pointer (some ⟨cm, 0, none⟩)] W fun e w' => e = .returned (.bool z) ∧ Blk w' q (comCells 0 0 0 0 0 false (.iface 153 (.pointer (some ⟨x, 0, none⟩))) thn false true) 205 ∧ Mw w') :
    Calls Tryz.prog 139 #[.pointer (some ⟨q, 0, none⟩), .int .i64 who, .pointer (some ⟨cm, 0, none⟩)] w fun e w' => e = .returned (.tuple #[.int .u64 0, .bool z]) ∧ ∃ w1, Mw w1 ∧ Blk w1 q (comCells 0 0 0 0 0 false (.iface 153 (.pointer (some ⟨x, 0, none⟩))) thn false true) 205 ∧ w' = w1.setCell ⟨q, 9, none⟩ (.bool false) := by
  have hn := neqI_wst
  have hbm := Blk.new w #[.pointer (some ⟨cm, 0, none⟩)] 31
  have hq1 := hq.al (.cells #[.pointer (some ⟨cm, 0, none⟩)] 31)
  have hqlt := hq.lt
  have k6 := hq1.cell 6 (v := .iface 153 (.pointer (some ⟨x, 0, none⟩))) rfl
  have hask : Calls Tryz.prog 172 #[.pointer (some ⟨q, 0, none⟩), .func (.func 173) #[] #[.pointer (some ⟨w.heap.size, 0, none⟩)]] (w.alloc (.cells #[.pointer (some ⟨cm, 0, none⟩)] 31)) fun e w' => e = .returned (.bool z) ∧ ∃ w1, Mw w1 ∧ Blk w1 q (comCells 0 0 0 0 0 false (.iface 153 (.pointer (some ⟨x, 0, none⟩))) thn false true) 205 ∧ w' = w1.setCell ⟨q, 9, none⟩ (.bool false) := by
    have hne : w.heap.size ≠ q := by omega
    have k9 := hq1.cell 9 (v := .bool false) rfl
    have f9 := hq1.fro 9
    have hq2 := hq1.set 9 (.bool true)
    have l6 := hq2.cell 6 (v := .iface 153 (.pointer (some ⟨x, 0, none⟩))) rfl
    have hb2 := hbm.setne hne 9 (.bool true)
    have b0 := hb2.cell 0 (v := .pointer (some ⟨cm, 0, none⟩)) rfl
    have hst := hS ((w.alloc (.cells #[.pointer (some ⟨cm, 0, none⟩)] 31)).setCell ⟨q, 9, none⟩ (.bool true)) (((But.refl [q] w).alloc _).set (g := q) (.inl (by simp)) 9 _) hq2
    have hrun : Calls Tryz.prog 173 #[.iface 153 (.pointer (some ⟨x, 0, none⟩)), .pointer (some ⟨w.heap.size, 0, none⟩)] ((w.alloc (.cells #[.pointer (some ⟨cm, 0, none⟩)] 31)).setCell ⟨q, 9, none⟩ (.bool true)) fun e w' => e = .returned (.bool z) ∧ Blk w' q (comCells 0 0 0 0 0 false (.iface 153 (.pointer (some ⟨x, 0, none⟩))) thn false true) 205 ∧ Mw w' := by
      clear hS hq hbm hq1 k6 k9 f9 hq2 l6 hb2 hqlt hne
      generalize (w.alloc (.cells #[.pointer (some ⟨cm, 0, none⟩)] 31)).setCell ⟨q, 9, none⟩ (.bool true) = W at *
      go_enter Tryz.func173, Tryz.ntmps173
      go_wp2_with fail
      go_at_call 339; refine hst.mono ?_; rintro e w1 ⟨rfl, h1, h2⟩
      go_wp2_with fail
      go_ret
      exact ⟨rfl, h1, h2⟩
    clear hS hq hbm hq1 hq2 hb2 hst b0 hqlt
    go_enter Tryz.func172, Tryz.ntmps172
    go_wp2_with fail
    generalize (w.alloc (.cells #[.pointer (some ⟨cm, 0, none⟩)] 31)).setCell ⟨q, 9, none⟩ (.bool true) = W at *
    go_at_call 173; refine hrun.mono ?_; rintro e w1 ⟨rfl, h1, h2⟩
    have m9 := h1.cell 9 (v := .bool true) rfl
    have g9 := h1.fro 9
    clear hrun l6 k9 f9 k6
    go_wp2_with fail
    go_ret
    exact ⟨rfl, w1, h2, h1, rfl⟩
  clear hS hq hq1 hbm
  go_enter Tryz.func139, Tryz.ntmps139
  go_wp2_with fail
  generalize w.alloc (.cells #[.pointer (some ⟨cm, 0, none⟩)] 31) = W at *
  go_at_call 172; refine hask.mono ?_; rintro e w1 ⟨rfl, h1⟩
  clear hask k6
  go_wp2_with fail
  go_returns
  exact ⟨rfl, h1⟩

theorem frun_wst : RunCome 153 := fun w c y cs T fv nx h hs hf hyc hx => frun0_wst w c y cs T fv nx h hs hf hyc hx
theorem act_wst : ActRun 153 339 := fun w q cm y g who z Mw hq hS => act0_wst w q cm y who _ z Mw hq hS
end Go.Proofs.YtfdpikkinlljlaaGreat

namespace Go.Proofs.YtfdpikkinlljlaaGreat
open Go Go.RowKit
set_option linter.unusedVariables false
set_option maxRecDepth 100000
set_option linter.unusedSimpArgs false

/-- A machine that acquires a lock: what comes next lies at block q, what follows in block g. -/
inductive Acq (w : World) (x : Nat) (who tk sv ow : Int) : Nat → Nat → Nat → Int → Prop
  | fresh (q : Nat) : Blk w x (acqCells who (some ⟨q, 0, none⟩) sv ow 0 false) 242 → Blk w q (comCells 4 0 tk 0 1 false .nilIface (.func (.func 187) #[.pointer (some ⟨x, 0, none⟩)] #[]) false false) 205 → q ≠ x → Acq w x who tk sv ow q x 0 0
  | wait (q : Nat) (t : Int) : Blk w x (acqCells who (some ⟨q, 0, none⟩) sv ow t true) 242 → Blk w q (comCells 1 0 sv 0 0 false .nilIface (.func (.func 220) #[.pointer (some ⟨x, 0, none⟩)] #[]) false false) 205 → q ≠ x → Acq w x who tk sv ow q x 1 t
  | has (q g : Nat) (t : Int) : Blk w x (acqCells who (some ⟨q, 0, none⟩) sv ow t true) 242 → Blk w q (comCells 2 0 ow 0 (who + 1) false .nilIface (.func (.func 175) #[] #[.pointer (some ⟨g, 0, none⟩)]) false false) 205 → Blk w g #[.nilFunc] 1 → q ≠ x → g ≠ x → Acq w x who tk sv ow q g 2 t
  | over (t : Int) : Blk w x (acqCells who none sv ow t true) 242 → Acq w x who tk sv ow x x 3 t
theorem Acq.but {w w' : World} {x q g ph : Nat} {who tk sv ow t : Int} {l : List Nat} (h : Acq w x who tk sv ow q g ph t) (hb : But l w w') (hx : x ∉ l) (hq : q ∉ l) (hg : g ∉ l) : Acq w' x who tk sv ow q g ph t := by
  cases h with
  | fresh _ a b c => exact .fresh _ (a.but hb hx) (b.but hb hq) c
  | wait _ _ a b c => exact .wait _ _ (a.but hb hx) (b.but hb hq) c
  | has _ _ _ a b c d e => exact .has _ _ _ (a.but hb hx) (b.but hb hq) (c.but hb hg) d e
  | over _ a => exact .over _ (a.but hb hx)
theorem Acq.lt {w : World} {x q g ph : Nat} {who tk sv ow t : Int} (h : Acq w x who tk sv ow q g ph t) : x < w.heap.size ∧ q < w.heap.size ∧ g < w.heap.size := by
  cases h with
  | fresh _ a b c => exact ⟨a.lt, b.lt, a.lt⟩
  | wait _ _ a b c => exact ⟨a.lt, b.lt, a.lt⟩
  | has _ _ _ a b c d e => exact ⟨a.lt, b.lt, c.lt⟩
  | over _ a => exact ⟨a.lt, a.lt, a.lt⟩
/-- Which phase is the last one, and what comes next. -/
theorem Acq.next {w : World} {x q g ph : Nat} {who tk sv ow t : Int} (h : Acq w x who tk sv ow q g ph t) : ∃ nx, w.cell? ⟨x, 1, none⟩ = some (.pointer nx) ∧ nx.isNone = decide (ph = 3) := by
  cases h with
  | fresh _ a b c => exact ⟨_, a.cell 1 rfl, rfl⟩
  | wait _ _ a b c => exact ⟨_, a.cell 1 rfl, rfl⟩
  | has _ _ _ a b c d e => exact ⟨_, a.cell 1 rfl, rfl⟩
  | over _ a => exact ⟨_, a.cell 1 rfl, rfl⟩
theorem Acq.cells {w : World} {x q g ph : Nat} {who tk sv ow t : Int} (h : Acq w x who tk sv ow q g ph t) : ∃ nx, Blk w x (acqCells who nx sv ow t (decide (ph ≠ 0))) 242 := by
  cases h with
  | fresh _ a b c => exact ⟨_, a⟩
  | wait _ _ a b c => exact ⟨_, a⟩
  | has _ _ _ a b c d e => exact ⟨_, a⟩
  | over _ a => exact ⟨_, a⟩

/-- A machine that releases a lock. -/
inductive Rel (w : World) (x : Nat) (who sv ow : Int) : Nat → Nat → Nat → Prop
  | fresh (q g : Nat) : Blk w x (relCells who (some ⟨q, 0, none⟩) sv) 257 → Blk w q (comCells 2 0 ow 0 0 false .nilIface (.func (.func 175) #[] #[.pointer (some ⟨g, 0, none⟩)]) false false) 205 → Blk w g #[.func (.func 221) #[.pointer (some ⟨x, 0, none⟩)] #[]] 1 → q ≠ x → g ≠ x → Rel w x who sv ow q g 0
  | pass (q g : Nat) : Blk w x (relCells who (some ⟨q, 0, none⟩) sv) 257 → Blk w q (comCells 4 0 sv 0 1 false .nilIface (.func (.func 175) #[] #[.pointer (some ⟨g, 0, none⟩)]) false false) 205 → Blk w g #[.nilFunc] 1 → q ≠ x → g ≠ x → Rel w x who sv ow q g 1
  | over : Blk w x (relCells who none sv) 257 → Rel w x who sv ow x x 2
theorem Rel.but {w w' : World} {x q g ph : Nat} {who sv ow : Int} {l : List Nat} (h : Rel w x who sv ow q g ph) (hb : But l w w') (hx : x ∉ l) (hq : q ∉ l) (hg : g ∉ l) : Rel w' x who sv ow q g ph := by
  cases h with
  | fresh _ _ a b c d e => exact .fresh _ _ (a.but hb hx) (b.but hb hq) (c.but hb hg) d e
  | pass _ _ a b c d e => exact .pass _ _ (a.but hb hx) (b.but hb hq) (c.but hb hg) d e
  | over a => exact .over (a.but hb hx)
theorem Rel.lt {w : World} {x q g ph : Nat} {who sv ow : Int} (h : Rel w x who sv ow q g ph) : x < w.heap.size ∧ q < w.heap.size ∧ g < w.heap.size := by
  cases h with
  | fresh _ _ a b c d e => exact ⟨a.lt, b.lt, c.lt⟩
  | pass _ _ a b c d e => exact ⟨a.lt, b.lt, c.lt⟩
  | over a => exact ⟨a.lt, a.lt, a.lt⟩
theorem Rel.next {w : World} {x q g ph : Nat} {who sv ow : Int} (h : Rel w x who sv ow q g ph) : ∃ nx, w.cell? ⟨x, 1, none⟩ = some (.pointer nx) ∧ nx.isNone = decide (ph = 2) := by
  cases h with
  | fresh _ _ a b c d e => exact ⟨_, a.cell 1 rfl, rfl⟩
  | pass _ _ a b c d e => exact ⟨_, a.cell 1 rfl, rfl⟩
  | over a => exact ⟨_, a.cell 1 rfl, rfl⟩
def relS (who sv ow : Int) (n ph : Nat) (s : St) : St := if ph = 0 then stp 2 who ow 0 0 n s else if ph = 1 then stp 4 who sv 0 1 n s else s
def relP (ph : Nat) : Nat := if ph = 0 then 1 else 2

def acqS (who tk sv ow : Int) (n ph : Nat) (s : St) : St := if ph = 0 then stp 4 who tk 0 1 n s else if ph = 1 then stp 1 who sv 0 0 n s else if ph = 2 then stp 2 who ow 0 (who + 1) n s else s
def acqP (tk sv : Int) (n ph : Nat) (t : Int) (s : St) : Nat := if ph = 0 then 1 else if ph = 1 then (if ans 1 sv 0 0 n s = t then 2 else 1) else 3
def acqT (tk : Int) (n ph : Nat) (t : Int) (s : St) : Int := if ph = 0 then turnOf (ans 4 tk 0 1 n s) else t

theorem ans_add_bd (i new : Int) (n : Nat) (s : St) : 0 ≤ ans 4 i 0 new n s ∧ ans 4 i 0 new n s ≤ 4294967295 := by
  unfold ans
  split
  · simp only [show ((4 : Int) = 1) = False by simp, show ((4 : Int) = 3) = False by simp, if_true, if_false]; omega
  · omega

/-- How a step of a machine leaves memory and heap. -/
structure Went (w w' : World) (A : Option Addr) (cp cm b n : Nat) (s' : St) (x : Nat) : Prop where
  mem : Is w' 141 A cp cm b n s'
  but : But [cm, b, x] w w'
theorem Went.of {w W w' : World} {A : Option Addr} {cp cm b n : Nat} {s' : St} {x : Nat} {u : Value} (hI : Is W 141 A cp cm b n s') (hB : But [cm, b] w W) (hB2 : But [x] (W.setCell ⟨x, 1, none⟩ u) w') (h1 : x ≠ cm) (h2 : x ≠ b) : Went w w' A cp cm b n s' x := by
  have hk : Is (W.setCell ⟨x, 1, none⟩ u) 141 A cp cm b n s' := hI.keep (by rw [size_set]; exact Nat.le_refl _) (heap_set_ne _ (Ne.symm h1) _ _) (fun _ => heap_set_ne _ (Ne.symm h2) _ _)
  exact ⟨hk.but hB2 (by simpa using Ne.symm h1) (by simpa using Ne.symm h2), ((hB.more (l' := [cm, b, x]) (by intro k _ hk; simp at hk ⊢; omega)).set (g := x) (.inl (by simp)) _ _).trans (hB2.more (by intro k _ hk; simp at hk ⊢; omega))⟩
theorem Went.still {w W : World} {A : Option Addr} {cp cm b n : Nat} {s' : St} {x : Nat} {u : Value} (hI : Is W 141 A cp cm b n s') (hB : But [cm, b] w W) (h1 : x ≠ cm) (h2 : x ≠ b) : Went w (W.setCell ⟨x, 1, none⟩ u) A cp cm b n s' x :=
  Went.of hI hB (But.refl _ _) h1 h2

section
variable (w : World) (A : Option Addr) (cp cm b n : Nat) (s : St) (hI : Is w 141 A cp cm b n s) (hn : n ≤ 1000000) (hl : Low s 1000000)
include hI hn hl

/-- A step of a machine at which an access is to come, and a function is to follow. -/
theorem step_acc (x q K : Nat) (cs first cap : Array Value) (T : TypeId) (k who ao i old new : Int) (d asl asked : Bool) (Post : Option Addr → World → Prop) (hx : Blk w x cs T) (h0 : cs[0]? = some (.int .i64 who)) (h1 : cs[1]? = some (.pointer (some ⟨q, 0, none⟩)))
    (hq : Blk w q (comCells k ao i old new d .nilIface (.func (.func K) first cap) asl asked) 205) (hne : q ≠ x) (hk : 1 ≤ k ∧ k ≤ 4) (hnb : 0 ≤ new ∧ new ≤ 18446744073709551615) (hxc : x ≠ cm) (hxb : x ≠ b) (hqc : q ≠ cm) (hqb : q ≠ b)
    (hent : ∀ w, (callFunc K (first.push (.int .u64 (actA k i old new n s)) ++ cap)).run Tryz.prog w = .ok (.enter K (first.push (.int .u64 (actA k i old new n s)) ++ cap)) w)
    (hthen : ∀ W, Is W 141 A cp cm b n (actS k who i old new n s) → But [cm, b] w W → Blk W x cs T → Calls Tryz.prog K (first.push (.int .u64 (actA k i old new n s)) ++ cap) (W.setCell ⟨x, 1, none⟩ (.pointer none)) fun e w' => (∃ v, e = .returned v) ∧ ∃ nx, w'.cell? ⟨x, 1, none⟩ = some (.pointer nx) ∧ Post nx w') :
    Calls Tryz.prog 85 #[.pointer (some ⟨x, 0, none⟩), .pointer (some ⟨cm, 0, none⟩)] w fun e w' => ∃ z, e = .returned (.bool z) ∧ ∃ nx, z = nx.isNone ∧ Post nx w' := by
  have hA := act_any w A cp cm b n s q k who ao i old new d _ asl asked hk hI hn hl hnb hq
  refine (step_over w x q cm K cs first cap T who (actA k i old new n s) (comCells k ao i old new d .nilIface (.func (.func K) first cap) asl asked) (fun W => Is W 141 A cp cm b n (actS k who i old new n s) ∧ But [cm, b] w W) Post hx h0 h1 hne hA hent rfl ?_).mono ?_
  · rintro W ⟨hM, hB⟩
    have hx1 := hx.but hB (by simp [hxc, hxb])
    exact ⟨hx1, hq.but hB (by simp [hqc, hqb]), hthen W hM hB hx1⟩
  · rintro e w' ⟨nx, rfl, hP⟩
    exact ⟨_, rfl, nx, rfl, hP⟩

/-- A step of a machine at which an access is to come, and nothing is to follow. -/
theorem step_last (x q g : Nat) (cs : Array Value) (T : TypeId) (k who ao i old new : Int) (d asl asked : Bool) (hx : Blk w x cs T) (h0 : cs[0]? = some (.int .i64 who)) (h1 : cs[1]? = some (.pointer (some ⟨q, 0, none⟩)))
    (hq : Blk w q (comCells k ao i old new d .nilIface (.func (.func 175) #[] #[.pointer (some ⟨g, 0, none⟩)]) asl asked) 205) (hg : Blk w g #[.nilFunc] 1) (hne : q ≠ x) (hge : g ≠ x) (hk : 1 ≤ k ∧ k ≤ 4) (hnb : 0 ≤ new ∧ new ≤ 18446744073709551615) (hxc : x ≠ cm) (hxb : x ≠ b) (hqc : q ≠ cm) (hqb : q ≠ b) (hgc : g ≠ cm) (hgb : g ≠ b) :
    Calls Tryz.prog 85 #[.pointer (some ⟨x, 0, none⟩), .pointer (some ⟨cm, 0, none⟩)] w fun e w' => ∃ z, e = .returned (.bool z) ∧ z = true ∧ Blk w' x (cs.setIfInBounds 1 (.pointer none)) T ∧ Went w w' A cp cm b n (actS k who i old new n s) x := by
  have hs : 1 < cs.size := by
    rcases Nat.lt_or_ge 1 cs.size with h | h
    · exact h
    · rw [Array.getElem?_eq_none h] at h1; cases h1
  refine (step_acc w A cp cm b n s hI hn hl x q 175 cs #[] #[.pointer (some ⟨g, 0, none⟩)] T k who ao i old new d asl asked (fun nx w' => nx = none ∧ Blk w' x (cs.setIfInBounds 1 (.pointer none)) T ∧ Went w w' A cp cm b n (actS k who i old new n s) x) hx h0 h1 hq hne hk hnb hxc hxb hqc hqb (fun w => ent175 _ w) ?_).mono ?_
  · intro W hM hB hx1
    refine (run_untold_nil _ g _ ((hg.but hB (by simp [hgc, hgb])).setne hge 1 _)).mono ?_
    rintro e w' ⟨hv, rfl⟩
    have hx2 := hx1.set 1 (.pointer none)
    exact ⟨hv, none, hx2.cell 1 (by simp [hs]), rfl, hx2, Went.still hM hB hxc hxb⟩
  · rintro e w' ⟨z, rfl, nx, rfl, rfl, h3, h4⟩
    exact ⟨true, rfl, rfl, h3, h4⟩

theorem acq_goes (x q g ph : Nat) (who tk sv ow t : Int) (hw : 0 ≤ who ∧ who ≤ 1000000) (h : Acq w x who tk sv ow q g ph t) (hxc : x ≠ cm) (hxb : x ≠ b) (hqc : q ≠ cm) (hqb : q ≠ b) (hgc : g ≠ cm) (hgb : g ≠ b) :
    Calls Tryz.prog 346 #[.pointer (some ⟨x, 0, none⟩), .pointer (some ⟨cm, 0, none⟩)] w fun e w' => ∃ q' g', e = .returned (.bool (decide (acqP tk sv n ph t s = 3))) ∧ Acq w' x who tk sv ow q' g' (acqP tk sv n ph t s) (acqT tk n ph t s) ∧ Went w w' A cp cm b n (acqS who tk sv ow n ph s) x ∧ (q' = x ∨ w.heap.size ≤ q') ∧ (g' = x ∨ w.heap.size ≤ g') := by
  cases h with
  | fresh _ hx hq hne =>
    have hbd := ans_add_bd tk 1 n s
    refine (acq_step _ x _ _ (step_acc w A cp cm b n s hI hn hl x q 187 _ #[.pointer (some ⟨x, 0, none⟩)] #[] 242 4 who 0 tk 0 1 false false false (fun nx w' => ∃ q', nx = some ⟨q', 0, none⟩ ∧ Acq w' x who tk sv ow q' x 1 (turnOf (ans 4 tk 0 1 n s)) ∧ Went w w' A cp cm b n (stp 4 who tk 0 1 n s) x ∧ w.heap.size ≤ q') hx rfl rfl hq hne (by omega) (by omega) hxc hxb hqc hqb (fun w => ent187 _ w) ?_)).mono ?_
    · intro W hM hB hx1
      refine (draw_any _ x who sv ow 0 (ans 4 tk 0 1 n s) none false (hx1.set 1 (.pointer none)) ⟨hbd.1, by have := hbd.2; omega⟩).mono ?_
      rintro e w' ⟨hv, q', hC⟩
      have hf := hC.fresh
      rw [size_set] at hf
      have hlt := hx1.lt
      exact ⟨hv, _, hC.own.cell 1 rfl, q', rfl, .wait q' _ hC.own hC.com (by omega), Went.of hM hB hC.but hxc hxb, Nat.le_trans hB.size hf⟩
    · rintro e w' ⟨z, rfl, nx, rfl, q', rfl, h1, h2, h3⟩
      exact ⟨q', x, rfl, h1, h2, .inr h3, .inl rfl⟩
  | wait _ _ hx hq hne =>
    by_cases ht : ans 1 sv 0 0 n s = t
    · have eP : acqP tk sv n 1 t s = 2 := by simp [acqP, ht]
      rw [eP]
      refine (acq_step _ x _ _ (step_acc w A cp cm b n s hI hn hl x q 220 _ #[.pointer (some ⟨x, 0, none⟩)] #[] 242 1 who 0 sv 0 0 false false false (fun nx w' => ∃ q' g', nx = some ⟨q', 0, none⟩ ∧ Acq w' x who tk sv ow q' g' 2 t ∧ Went w w' A cp cm b n (stp 1 who sv 0 0 n s) x ∧ w.heap.size ≤ q' ∧ w.heap.size ≤ g') hx rfl rfl hq hne (by omega) (by omega) hxc hxb hqc hqb (fun w => ent220 _ w) ?_)).mono ?_
      · intro W hM hB hx1
        refine Calls.mono (show Calls Tryz.prog 220 #[.pointer (some ⟨x, 0, none⟩), .int .u64 (ans 1 sv 0 0 n s)] _ _ by rw [ht]; exact serve_has _ x who sv ow t none true (hx1.set 1 (.pointer none)) hw) ?_
        rintro e w' ⟨hv, q', g', hC⟩
        have hf := hC.at'.fresh
        have hg := hC.fresh
        rw [size_set] at hf hg
        have hlt := hx1.lt
        exact ⟨hv, _, hC.at'.own.cell 1 rfl, q', g', rfl, .has q' g' _ hC.at'.own hC.at'.com hC.box (by omega) (by omega), Went.of hM hB hC.at'.but hxc hxb, Nat.le_trans hB.size hf, Nat.le_trans hB.size hg⟩
      · rintro e w' ⟨z, rfl, nx, rfl, q', g', rfl, h1, h2, h3, h4⟩
        exact ⟨q', g', rfl, h1, h2, .inr h3, .inr h4⟩
    · have eP : acqP tk sv n 1 t s = 1 := by simp [acqP, ht]
      rw [eP]
      refine (acq_step _ x _ _ (step_acc w A cp cm b n s hI hn hl x q 220 _ #[.pointer (some ⟨x, 0, none⟩)] #[] 242 1 who 0 sv 0 0 false false false (fun nx w' => ∃ q', nx = some ⟨q', 0, none⟩ ∧ Acq w' x who tk sv ow q' x 1 t ∧ Went w w' A cp cm b n (stp 1 who sv 0 0 n s) x ∧ w.heap.size ≤ q') hx rfl rfl hq hne (by omega) (by omega) hxc hxb hqc hqb (fun w => ent220 _ w) ?_)).mono ?_
      · intro W hM hB hx1
        refine (serve_not _ x who sv ow t (ans 1 sv 0 0 n s) none true (hx1.set 1 (.pointer none)) ht).mono ?_
        rintro e w' ⟨hv, q', hC⟩
        have hf := hC.fresh
        rw [size_set] at hf
        have hlt := hx1.lt
        exact ⟨hv, _, hC.own.cell 1 rfl, q', rfl, .wait q' _ hC.own hC.com (by omega), Went.of hM hB hC.but hxc hxb, Nat.le_trans hB.size hf⟩
      · rintro e w' ⟨z, rfl, nx, rfl, q', rfl, h1, h2, h3⟩
        exact ⟨q', x, rfl, h1, h2, .inr h3, .inl rfl⟩
  | has _ _ _ hx hq hg hne hge =>
    refine (acq_step _ x _ _ (step_last w A cp cm b n s hI hn hl x q g _ 242 2 who 0 ow 0 (who + 1) false false false hx rfl rfl hq hg hne hge (by omega) (by omega) hxc hxb hqc hqb hgc hgb)).mono ?_
    rintro e w' ⟨z, rfl, rfl, h1, h2⟩
    exact ⟨x, x, rfl, .over _ h1, h2, .inl rfl, .inl rfl⟩
  | over _ hx =>
    refine (acq_step _ x _ (fun z w' => z = true ∧ w = w') ((step_none w x cm (hx.cell 1 rfl)).mono ?_)).mono ?_
    · rintro e w' ⟨rfl, rfl⟩; exact ⟨true, rfl, rfl, rfl⟩
    · rintro e w' ⟨z, rfl, rfl, rfl⟩
      exact ⟨x, x, rfl, .over _ hx, ⟨hI, But.refl _ _⟩, .inl rfl, .inl rfl⟩

theorem rel_goes (x q g ph : Nat) (who sv ow : Int) (h : Rel w x who sv ow q g ph) (hxc : x ≠ cm) (hxb : x ≠ b) (hqc : q ≠ cm) (hqb : q ≠ b) (hgc : g ≠ cm) (hgb : g ≠ b) :
    Calls Tryz.prog 352 #[.pointer (some ⟨x, 0, none⟩), .pointer (some ⟨cm, 0, none⟩)] w fun e w' => ∃ q' g', e = .returned (.bool (decide (relP ph = 2))) ∧ Rel w' x who sv ow q' g' (relP ph) ∧ Went w w' A cp cm b n (relS who sv ow n ph s) x ∧ (q' = x ∨ w.heap.size ≤ q') ∧ (g' = x ∨ w.heap.size ≤ g') := by
  cases h with
  | fresh _ _ hx hq hg hne hge =>
    refine (rel_step _ x _ _ (step_acc w A cp cm b n s hI hn hl x q 175 _ #[] #[.pointer (some ⟨g, 0, none⟩)] 257 2 who 0 ow 0 0 false false false (fun nx w' => ∃ q' g', nx = some ⟨q', 0, none⟩ ∧ Rel w' x who sv ow q' g' 1 ∧ Went w w' A cp cm b n (stp 2 who ow 0 0 n s) x ∧ w.heap.size ≤ q' ∧ w.heap.size ≤ g') hx rfl rfl hq hne (by omega) (by omega) hxc hxb hqc hqb (fun w => ent175 _ w) ?_)).mono ?_
    · intro W hM hB hx1
      refine (run_untold _ g 221 _ #[.pointer (some ⟨x, 0, none⟩)] #[] (fun w' => ∃ nx, w'.cell? ⟨x, 1, none⟩ = some (.pointer nx) ∧ ∃ q' g', nx = some ⟨q', 0, none⟩ ∧ Rel w' x who sv ow q' g' 1 ∧ Went w w' A cp cm b n (stp 2 who ow 0 0 n s) x ∧ w.heap.size ≤ q' ∧ w.heap.size ≤ g') ((hg.but hB (by simp [hgc, hgb])).setne hge 1 _) (fun w => ent221 _ w) ?_)
      refine (pass_any _ x who sv none (hx1.set 1 (.pointer none))).mono ?_
      rintro e w' ⟨hv, q', g', hC⟩
      have hf := hC.at'.fresh
      have hg := hC.fresh
      rw [size_set] at hf hg
      have hlt := hx1.lt
      exact ⟨hv, _, hC.at'.own.cell 1 rfl, q', g', rfl, .pass q' g' hC.at'.own hC.at'.com hC.box (by omega) (by omega), Went.of hM hB hC.at'.but hxc hxb, Nat.le_trans hB.size hf, Nat.le_trans hB.size hg⟩
    · rintro e w' ⟨z, rfl, nx, rfl, q', g', rfl, h1, h2, h3, h4⟩
      exact ⟨q', g', rfl, h1, h2, .inr h3, .inr h4⟩
  | pass _ _ hx hq hg hne hge =>
    refine (rel_step _ x _ _ (step_last w A cp cm b n s hI hn hl x q g _ 257 4 who 0 sv 0 1 false false false hx rfl rfl hq hg hne hge (by omega) (by omega) hxc hxb hqc hqb hgc hgb)).mono ?_
    rintro e w' ⟨z, rfl, rfl, h1, h2⟩
    exact ⟨x, x, rfl, .over h1, h2, .inl rfl, .inl rfl⟩
  | over hx =>
    refine (rel_step _ x _ (fun z w' => z = true ∧ w = w') ((step_none w x cm (hx.cell 1 rfl)).mono ?_)).mono ?_
    · rintro e w' ⟨rfl, rfl⟩; exact ⟨true, rfl, rfl, rfl⟩
    · rintro e w' ⟨z, rfl, rfl, rfl⟩
      exact ⟨x, x, rfl, .over hx, ⟨hI, But.refl _ _⟩, .inl rfl, .inl rfl⟩
end
end Go.Proofs.YtfdpikkinlljlaaGreat

namespace Go.Proofs.YtfdpikkinlljlaaGreat
open Go Go.RowKit
set_option linter.unusedVariables false
set_option maxRecDepth 100000
set_option linter.unusedSimpArgs false

theorem ans_peek (i : Int) (n : Nat) (s : St) : ans 1 i 0 0 n s = peekT n s i := by
  unfold ans peekT
  split <;> simp

section
variable (w : World) (A : Option Addr) (cp cm b n : Nat) (s : St) (hI : Is w 141 A cp cm b n s) (hn : n ≤ 1000000) (hl : Low s 1000000)
include hI hn

section
variable (x q K : Nat) (cs first cap : Array Value) (T : TypeId) (who ao i old new : Int) (d asl asked : Bool) (hx : Blk w x cs T) (h0 : cs[0]? = some (.int .i64 who)) (h1 : cs[1]? = some (.pointer (some ⟨q, 0, none⟩)))
    (hq : Blk w q (comCells 0 ao i old new d .nilIface (.func (.func K) first cap) asl asked) 205) (hne : q ≠ x) (hxc : x ≠ cm) (hxb : x ≠ b) (hqc : q ≠ cm) (hqb : q ≠ b)
include hx h0 h1 hq hne hxc hxb hqc hqb

/-- A step of a machine that sleeps at a word that is not 0: what follows follows. -/
theorem step_wake (hl : Low s 1000000) (hv : peekT n s i ≠ 0) (Post : Option Addr → World → Prop)
    (hent : ∀ w, (callFunc K (first.push (.int .u64 (peekT n s i)) ++ cap)).run Tryz.prog w = .ok (.enter K (first.push (.int .u64 (peekT n s i)) ++ cap)) w)
    (hthen : ∀ W, Is W 141 A cp cm b n (stp 1 who i 0 0 n s) → But [cm, b, q] w W → Blk W x cs T → Calls Tryz.prog K (first.push (.int .u64 (peekT n s i)) ++ cap) (W.setCell ⟨x, 1, none⟩ (.pointer none)) fun e w' => (∃ v, e = .returned v) ∧ ∃ nx, w'.cell? ⟨x, 1, none⟩ = some (.pointer nx) ∧ Post nx w') :
    Calls Tryz.prog 85 #[.pointer (some ⟨x, 0, none⟩), .pointer (some ⟨cm, 0, none⟩)] w fun e w' => ∃ z, e = .returned (.bool z) ∧ ∃ nx, z = nx.isNone ∧ Post nx w' := by
  have hA := act_sleep w A cp cm b n s q 0 who ao i old new d _ asl asked hI hn hq rfl hl hqc hqb (by simp [hv])
  rw [ans_peek, decide_eq_true hv, decide_eq_false hv] at hA
  refine (step_over w x q cm K cs first cap T who (peekT n s i) (comCells 0 ao i old new d .nilIface (.func (.func K) first cap) false asked) (fun W => Is W 141 A cp cm b n (stp 1 who i 0 0 n s) ∧ Blk W q (comCells 0 ao i old new d .nilIface (.func (.func K) first cap) false asked) 205 ∧ But [cm, b, q] w W) Post hx h0 h1 hne hA hent rfl ?_).mono ?_
  · rintro W ⟨hM, hQ, hB⟩
    have hx1 := hx.but hB (by simp [hxc, hxb, Ne.symm hne])
    exact ⟨hx1, hQ, hthen W hM hB hx1⟩
  · rintro e w' ⟨nx, rfl, hP⟩
    exact ⟨_, rfl, nx, rfl, hP⟩
/-- .. at a word that is 0, for the first time. -/
theorem step_doze (hl : Low s 1000000) (hv : peekT n s i = 0) (ha : asl = false) :
    Calls Tryz.prog 85 #[.pointer (some ⟨x, 0, none⟩), .pointer (some ⟨cm, 0, none⟩)] w fun e w' => e = .returned (.bool false) ∧ Is w' 141 A cp cm b n (stp 1 who i 0 0 n s) ∧ Blk w' q (comCells 0 ao i old new d .nilIface (.func (.func K) first cap) true asked) 205 ∧ But [cm, b, q] w w' := by
  have hA := act_sleep w A cp cm b n s q 0 who ao i old new d _ asl asked hI hn hq rfl hl hqc hqb (by simp [ha])
  rw [ans_peek, hv] at hA
  exact step_on w x q cm cs T who 0 (fun w' => Is w' 141 A cp cm b n (stp 1 who i 0 0 n s) ∧ Blk w' q (comCells 0 ao i old new d .nilIface (.func (.func K) first cap) true asked) 205 ∧ But [cm, b, q] w w') hx h0 h1 hA (fun W hM => hx.but hM.2.2 (by simp [hxc, hxb, Ne.symm hne]))
omit hne hxc hxb hqc hqb in
/-- .. that is 0 still. -/
theorem step_still (hv : peekT n s i = 0) (ha : asl = true) :
    Calls Tryz.prog 85 #[.pointer (some ⟨x, 0, none⟩), .pointer (some ⟨cm, 0, none⟩)] w fun e w' => e = .returned (.bool false) ∧ Below w.heap.size w w' :=
  step_on w x q cm cs T who 0 (fun w' => Below w.heap.size w w') hx h0 h1 (act_still w A cp cm b n s q 0 who ao i old new d _ asl asked hI hn hq rfl ha hv) (fun W hM => hx.but (But.of_below (l := []) hM) (by simp))
end
end
end Go.Proofs.YtfdpikkinlljlaaGreat

namespace Go.Proofs.YtfdpikkinlljlaaGreat
open Go Go.RowKit
set_option linter.unusedVariables false
set_option maxRecDepth 100000
set_option linter.unusedSimpArgs false


/-- The cells of a machine that looks at a ring. -/
def lookCells (who : Int) (nx : Option Addr) (cl : Nat) (p hd tl nt : Int) (em : Bool) : Array Value := #[.int .i64 who, .pointer nx, .pointer (some ⟨cl, 0, none⟩), .int .i64 p, .int .u64 hd, .int .u64 tl, .int .u64 nt, .bool em]

theorem layproc_any (o : Option Addr) (P T G n f : Int) (w : World) (h : LayO w P T G o) (hp : 0 ≤ P ∧ P ≤ 64) (hf : 0 ≤ f ∧ f < 8) : Calls Tryz.prog 108 #[.pointer o, .int .i64 n, .int .i64 f] w fun e w' => e = .returned (.int .i64 (wd 20 P 264 n f)) ∧ Below w.heap.size w w' := by
  have HL : Hid _ := h
  have d1 : decide (8 ≤ f) = false := decide_eq_false (by omega)
  clear h
  go_enter Tryz.func108, Tryz.ntmps108
  go_wp2_with fail
  go_at_call 157; refine (procs_any o P T G _ HL.out).mono ?_; rintro e w1 ⟨rfl, h1⟩
  go_wp2_with fail
  go_at_call 111; refine (word_any 20 P 264 n f _ (by omega) (by omega) (by omega)).mono ?_; rintro e w2 ⟨rfl, h2⟩
  have hb := seq h1 h2
  go_wp2_with fail
  go_ret
  exact ⟨rfl, hb⟩

theorem look_load (w : World) (x cl K : Nat) (P T G who p hd tl nt f : Int) (nx : Option Addr) (em : Bool) (first cap : Array Value) (h : Blk w x (lookCells who nx cl p hd tl nt em) 212) (hL : Lay w cl P T G) (hp : 0 ≤ P ∧ P ≤ 64) (hf : 0 ≤ f ∧ f < 8) :
    Calls Tryz.prog 148 #[.pointer (some ⟨x, 0, none⟩), .int .i64 f, .func (.func K) first cap] w fun e w' => (∃ v, e = .returned v) ∧ ∃ q, CameAt w w' x (lookCells who nx cl p hd tl nt em) 212 (comCells 1 0 (wd 20 P 264 p f) 0 0 false .nilIface (.func (.func K) first cap) false false) q := by
  have c2 := h.cell 2 (v := .pointer (some ⟨cl, 0, none⟩)) rfl
  have c3 := h.cell 3 (v := .int .i64 p) rfl
  have hLd : Lay w.drew cl P T G := hL
  have hP := layproc_any (some ⟨cl, 0, none⟩) P T G p f w.drew (.some cl hLd) hp hf
  have HX : Hid (Blk w x (lookCells who nx cl p hd tl nt em) 212) := h
  generalize wd 20 P 264 p f = i at *
  clear h hL
  go_enter Tryz.func148, Tryz.ntmps148
  go_wp2_with fail
  go_region_with (first | (go_at_call 108; refine hP.mono ?_; rintro e w4 ⟨rfl, h4⟩; have h5 : Blk w4 x (lookCells who nx cl p hd tl nt em) 212 := HX.out.drew.but (But.of_below (l := []) h4) (by simp)) | (go_at_call 67; refine (load_come w4 x _ 212 i h5 (by simp [lookCells]) K first cap).mono ?_; rintro e w5 ⟨⟨v2, rfl⟩, q, hC⟩))
  all_goals
    have hq := hC.fresh
    have hsz := h4.size
    have hB : But [x] w w5 := ((But.refl [x] w).drew.trans (But.of_below (l := [x]) h4)).trans hC.but
    have h1 := hC.own
    have h2 := hC.com
    clear hP h5 hC c2 c3 h4
    go_wp2_with fail
    go_end0
    exact ⟨⟨_, rfl⟩, q, Nat.le_trans hsz hq, h1, h2, hB⟩

end Go.Proofs.YtfdpikkinlljlaaGreat

namespace Go.Proofs.YtfdpikkinlljlaaGreat
open Go Go.RowKit
set_option linter.unusedVariables false
set_option maxRecDepth 100000
set_option linter.unusedSimpArgs false


theorem look_new (w : World) (cl : Nat) (P T G who p : Int) (hL : Lay w cl P T G) (hp : 0 ≤ P ∧ P ≤ 64) :
    Calls Tryz.prog 96 #[.pointer (some ⟨cl, 0, none⟩), .int .i64 who, .int .i64 p] w fun e w' => ∃ x q, e = .returned (.pointer (some ⟨x, 0, none⟩)) ∧ Blk w' x (lookCells who (some ⟨q, 0, none⟩) cl p 0 0 0 false) 212 ∧ Blk w' q (comCells 1 0 (wd 20 P 264 p 1) 0 0 false .nilIface (.func (.func 149) #[.pointer (some ⟨x, 0, none⟩)] #[]) false false) 205 ∧ Below w.heap.size w w' ∧ w.heap.size ≤ x ∧ x < q := by
  have hB := Blk.new w (lookCells 0 none cl p 0 0 0 false) 212
  have hF := fof_any _ w.heap.size _ 212 who hB (by simp [lookCells])
  have hb0 : Below w.heap.size w (w.alloc (.cells (lookCells 0 none cl p 0 0 0 false) 212)) := (Below.refl _ _).alloc (Nat.le_refl _) _
  have HL : Hid (Lay w cl P T G) := hL
  have hlt := hL.lt
  clear hL
  go_enter Tryz.func96, Tryz.ntmps96
  go_wp2_with fail
  go_at_call 97; refine hF.mono ?_; rintro e w3 ⟨⟨v, rfl⟩, hw3⟩
  have h3 : Blk w3 w.heap.size (lookCells who none cl p 0 0 0 false) 212 := by rw [hw3]; exact hB.set 0 _
  have hb3 : Below w.heap.size w w3 := by rw [hw3]; exact hb0.setCell (p := ⟨w.heap.size, 0, none⟩) (Nat.le_refl _) _
  have hL3 : Lay w3 cl P T G := HL.out.below hb3 hlt
  have hN := look_load w3 w.heap.size cl 149 P T G who p 0 0 0 1 none false #[.pointer (some ⟨w.heap.size, 0, none⟩)] #[] h3 hL3 hp (by omega)
  have hx3 := h3.lt
  clear hF hB hw3 hb0 HL hL3 h3
  go_wp2_with fail
  go_at_call 148; refine hN.mono ?_; rintro e w5 ⟨⟨v2, rfl⟩, q, hC⟩
  have h1 := hC.own
  have h2 := hC.com
  have hq := hC.fresh
  have hb5 : Below w.heap.size w w5 := hb3.trans (hC.but.below (by simp) hb3.size)
  clear hN hC
  go_wp2_with fail
  go_ret
  exact ⟨_, q, rfl, h1, h2, hb5, Nat.le_refl _, by omega⟩


theorem seeHead_any (w : World) (x cl : Nat) (P T G who p hd tl nt a : Int) (nx : Option Addr) (em : Bool) (h : Blk w x (lookCells who nx cl p hd tl nt em) 212) (hL : Lay w cl P T G) (hne : cl ≠ x) (hp : 0 ≤ P ∧ P ≤ 64) :
    Calls Tryz.prog 149 #[.pointer (some ⟨x, 0, none⟩), .int .u64 a] w fun e w' => (∃ v, e = .returned v) ∧ ∃ q, CameAt w w' x (lookCells who nx cl p a tl nt em) 212 (comCells 1 0 (wd 20 P 264 p 2) 0 0 false .nilIface (.func (.func 189) #[.pointer (some ⟨x, 0, none⟩)] #[]) false false) q := by
  have c := h.cell 4 (v := .int .u64 hd) rfl
  have f := h.fro 4
  have hs : Blk (w.setCell ⟨x, 4, none⟩ (.int .u64 a)) x (lookCells who nx cl p a tl nt em) 212 := h.set 4 (.int .u64 a)
  have hB : But [x] w (w.setCell ⟨x, 4, none⟩ (.int .u64 a)) := (But.refl _ w).set (g := x) (.inl (by simp)) 4 _
  have hL2 : Lay (w.setCell ⟨x, 4, none⟩ (.int .u64 a)) cl P T G := (heap_set_ne w hne _ _).trans hL
  have hN := look_load _ x cl 189 P T G who p a tl nt 2 nx em #[.pointer (some ⟨x, 0, none⟩)] #[] hs hL2 hp (by omega)
  have HB : Hid _ := hB
  clear h hL hs hL2 hB
  go_enter Tryz.func149, Tryz.ntmps149
  go_wp2_with fail
  go_at_call 148; refine hN.mono ?_; rintro e w5 ⟨⟨v2, rfl⟩, q, hC⟩
  have hC2 : CameAt w w5 x (lookCells who nx cl p a tl nt em) 212 (comCells 1 0 (wd 20 P 264 p 2) 0 0 false .nilIface (.func (.func 189) #[.pointer (some ⟨x, 0, none⟩)] #[]) false false) q := ⟨Nat.le_trans HB.out.size hC.fresh, hC.own, hC.com, HB.out.trans hC.but⟩
  clear hN hC c f HB
  go_wp2_with fail
  go_end0
  exact ⟨⟨_, rfl⟩, q, hC2⟩

theorem seeTail_any (w : World) (x cl : Nat) (P T G who p hd tl nt a : Int) (nx : Option Addr) (em : Bool) (h : Blk w x (lookCells who nx cl p hd tl nt em) 212) (hL : Lay w cl P T G) (hne : cl ≠ x) (hp : 0 ≤ P ∧ P ≤ 64) :
    Calls Tryz.prog 189 #[.pointer (some ⟨x, 0, none⟩), .int .u64 a] w fun e w' => (∃ v, e = .returned v) ∧ ∃ q, CameAt w w' x (lookCells who nx cl p hd a nt em) 212 (comCells 1 0 (wd 20 P 264 p 3) 0 0 false .nilIface (.func (.func 206) #[.pointer (some ⟨x, 0, none⟩)] #[]) false false) q := by
  have c := h.cell 5 (v := .int .u64 tl) rfl
  have f := h.fro 5
  have hs : Blk (w.setCell ⟨x, 5, none⟩ (.int .u64 a)) x (lookCells who nx cl p hd a nt em) 212 := h.set 5 (.int .u64 a)
  have hB : But [x] w (w.setCell ⟨x, 5, none⟩ (.int .u64 a)) := (But.refl _ w).set (g := x) (.inl (by simp)) 5 _
  have hL2 : Lay (w.setCell ⟨x, 5, none⟩ (.int .u64 a)) cl P T G := (heap_set_ne w hne _ _).trans hL
  have hN := look_load _ x cl 206 P T G who p hd a nt 3 nx em #[.pointer (some ⟨x, 0, none⟩)] #[] hs hL2 hp (by omega)
  have HB : Hid _ := hB
  clear h hL hs hL2 hB
  go_enter Tryz.func189, Tryz.ntmps189
  go_wp2_with fail
  go_at_call 148; refine hN.mono ?_; rintro e w5 ⟨⟨v2, rfl⟩, q, hC⟩
  have hC2 : CameAt w w5 x (lookCells who nx cl p hd a nt em) 212 (comCells 1 0 (wd 20 P 264 p 3) 0 0 false .nilIface (.func (.func 206) #[.pointer (some ⟨x, 0, none⟩)] #[]) false false) q := ⟨Nat.le_trans HB.out.size hC.fresh, hC.own, hC.com, HB.out.trans hC.but⟩
  clear hN hC c f HB
  go_wp2_with fail
  go_end0
  exact ⟨⟨_, rfl⟩, q, hC2⟩

theorem seeNext_any (w : World) (x cl : Nat) (P T G who p hd tl nt a : Int) (nx : Option Addr) (em : Bool) (h : Blk w x (lookCells who nx cl p hd tl nt em) 212) (hL : Lay w cl P T G) (hne : cl ≠ x) (hp : 0 ≤ P ∧ P ≤ 64) :
    Calls Tryz.prog 206 #[.pointer (some ⟨x, 0, none⟩), .int .u64 a] w fun e w' => (∃ v, e = .returned v) ∧ ∃ q, CameAt w w' x (lookCells who nx cl p hd tl a em) 212 (comCells 1 0 (wd 20 P 264 p 2) 0 0 false .nilIface (.func (.func 222) #[.pointer (some ⟨x, 0, none⟩)] #[]) false false) q := by
  have c := h.cell 6 (v := .int .u64 nt) rfl
  have f := h.fro 6
  have hs : Blk (w.setCell ⟨x, 6, none⟩ (.int .u64 a)) x (lookCells who nx cl p hd tl a em) 212 := h.set 6 (.int .u64 a)
  have hB : But [x] w (w.setCell ⟨x, 6, none⟩ (.int .u64 a)) := (But.refl _ w).set (g := x) (.inl (by simp)) 6 _
  have hL2 : Lay (w.setCell ⟨x, 6, none⟩ (.int .u64 a)) cl P T G := (heap_set_ne w hne _ _).trans hL
  have hN := look_load _ x cl 222 P T G who p hd tl a 2 nx em #[.pointer (some ⟨x, 0, none⟩)] #[] hs hL2 hp (by omega)
  have HB : Hid _ := hB
  clear h hL hs hL2 hB
  go_enter Tryz.func206, Tryz.ntmps206
  go_wp2_with fail
  go_at_call 148; refine hN.mono ?_; rintro e w5 ⟨⟨v2, rfl⟩, q, hC⟩
  have hC2 : CameAt w w5 x (lookCells who nx cl p hd tl a em) 212 (comCells 1 0 (wd 20 P 264 p 2) 0 0 false .nilIface (.func (.func 222) #[.pointer (some ⟨x, 0, none⟩)] #[]) false false) q := ⟨Nat.le_trans HB.out.size hC.fresh, hC.own, hC.com, HB.out.trans hC.but⟩
  clear hN hC c f HB
  go_wp2_with fail
  go_end0
  exact ⟨⟨_, rfl⟩, q, hC2⟩

theorem judge_any (w : World) (x cl : Nat) (who p hd tl nt a : Int) (nx : Option Addr) (em : Bool) (h : Blk w x (lookCells who nx cl p hd tl nt em) 212) :
    Calls Tryz.prog 222 #[.pointer (some ⟨x, 0, none⟩), .int .u64 a] w fun e w' => (∃ v, e = .returned v) ∧ Blk w' x (lookCells who nx cl p hd tl nt (decide (a = tl ∧ a = hd ∧ nt = 0))) 212 ∧ But [x] w w' := by
  have c4 := h.cell 4 (v := .int .u64 hd) rfl
  have c5 := h.cell 5 (v := .int .u64 tl) rfl
  have c6 := h.cell 6 (v := .int .u64 nt) rfl
  have c7 := h.cell 7 (v := .bool em) rfl
  have f7 := h.fro 7
  have H : ∀ z, Hid (Blk (w.setCell ⟨x, 7, none⟩ (.bool z)) x (lookCells who nx cl p hd tl nt z) 212 ∧ But [x] w (w.setCell ⟨x, 7, none⟩ (.bool z))) := fun z => ⟨h.set 7 (.bool z), (But.refl _ w).set (g := x) (.inl (by simp)) 7 _⟩
  have H2 : Hid (∀ z, z = decide (a = tl ∧ a = hd ∧ nt = 0) → Blk (w.setCell ⟨x, 7, none⟩ (.bool z)) x (lookCells who nx cl p hd tl nt (decide (a = tl ∧ a = hd ∧ nt = 0))) 212 ∧ But [x] w (w.setCell ⟨x, 7, none⟩ (.bool z))) := fun z e => by rw [← e]; exact (H z).out
  clear h H
  go_enter Tryz.func222, Tryz.ntmps222
  go_wp2_with fail
  all_goals
    go_end0
    exact ⟨⟨_, rfl⟩, H2.out _ (by rw [Bool.eq_iff_iff]; simp [*])⟩

end Go.Proofs.YtfdpikkinlljlaaGreat

namespace Go.Proofs.YtfdpikkinlljlaaGreat
open Go Go.RowKit
set_option linter.unusedVariables false
set_option maxRecDepth 100000
set_option linter.unusedSimpArgs false

theorem acqS_low {s : St} {m : Int} (h : Low s m) (who tk sv ow : Int) (n ph : Nat) : Low (acqS who tk sv ow n ph s) (m + 1) := by
  unfold acqS
  split
  · exact stp_low h _ _ _ _ _ _
  split
  · exact stp_low h _ _ _ _ _ _
  split
  · exact stp_low h _ _ _ _ _ _
  · exact h.more (by omega)
theorem relS_low {s : St} {m : Int} (h : Low s m) (who sv ow : Int) (n ph : Nat) : Low (relS who sv ow n ph s) (m + 1) := by
  unfold relS
  split
  · exact stp_low h _ _ _ _ _ _
  split
  · exact stp_low h _ _ _ _ _ _
  · exact h.more (by omega)

/-- A machine's blocks lie apart from the memory's. -/
structure Far (x q g cm b : Nat) : Prop where
  h : x ≠ cm ∧ x ≠ b ∧ q ≠ cm ∧ q ≠ b ∧ g ≠ cm ∧ g ≠ b
theorem Far.next {x q g cm b q' g' N : Nat} (h : Far x q g cm b) (hc : cm < N) (hb : b < N) (h1 : q' = x ∨ N ≤ q') (h2 : g' = x ∨ N ≤ g') : Far x q' g' cm b := by
  obtain ⟨a1, a2, a3, a4, a5, a6⟩ := h.h
  rcases h1 with rfl | h1 <;> rcases h2 with rfl | h2 <;> exact ⟨by omega, by omega, by omega, by omega, by omega, by omega⟩

theorem acq_on (w : World) (A : Option Addr) (cp cm b n : Nat) (s : St) (x q g ph : Nat) (who tk sv ow t : Int) (hI : Is w 141 A cp cm b n s) (hn : n ≤ 1000000) (hl : Low s 1000000) (hw : 0 ≤ who ∧ who ≤ 1000000) (h : Acq w x who tk sv ow q g ph t) (hf : Far x q g cm b) :
    Calls Tryz.prog 346 #[.pointer (some ⟨x, 0, none⟩), .pointer (some ⟨cm, 0, none⟩)] w fun e w' => ∃ q' g', e = .returned (.bool (decide (acqP tk sv n ph t s = 3))) ∧ Acq w' x who tk sv ow q' g' (acqP tk sv n ph t s) (acqT tk n ph t s) ∧ Is w' 141 A cp cm b n (acqS who tk sv ow n ph s) ∧ But [cm, b, x] w w' ∧ Far x q' g' cm b ∧ (q' = x ∨ w.heap.size ≤ q') ∧ (g' = x ∨ w.heap.size ≤ g') := by
  obtain ⟨a1, a2, a3, a4, a5, a6⟩ := hf.h
  refine (acq_goes w A cp cm b n s hI hn hl x q g ph who tk sv ow t hw h a1 a2 a3 a4 a5 a6).mono ?_
  rintro e w' ⟨q', g', rfl, h1, h2, h3, h4⟩
  exact ⟨q', g', rfl, h1, h2.mem, h2.but, hf.next hI.lt hI.bl h3 h4, h3, h4⟩
theorem rel_on (w : World) (A : Option Addr) (cp cm b n : Nat) (s : St) (x q g ph : Nat) (who sv ow : Int) (hI : Is w 141 A cp cm b n s) (hn : n ≤ 1000000) (hl : Low s 1000000) (h : Rel w x who sv ow q g ph) (hf : Far x q g cm b) :
    Calls Tryz.prog 352 #[.pointer (some ⟨x, 0, none⟩), .pointer (some ⟨cm, 0, none⟩)] w fun e w' => ∃ q' g', e = .returned (.bool (decide (relP ph = 2))) ∧ Rel w' x who sv ow q' g' (relP ph) ∧ Is w' 141 A cp cm b n (relS who sv ow n ph s) ∧ But [cm, b, x] w w' ∧ Far x q' g' cm b ∧ (q' = x ∨ w.heap.size ≤ q') ∧ (g' = x ∨ w.heap.size ≤ g') := by
  obtain ⟨a1, a2, a3, a4, a5, a6⟩ := hf.h
  refine (rel_goes w A cp cm b n s hI hn hl x q g ph who sv ow h a1 a2 a3 a4 a5 a6).mono ?_
  rintro e w' ⟨q', g', rfl, h1, h2, h3, h4⟩
  exact ⟨q', g', rfl, h1, h2.mem, h2.but, hf.next hI.lt hI.bl h3 h4, h3, h4⟩

theorem laid_ground {w w' : World} {P T G : Int} {n : Nat} {f : Nat → Int} {cl : Nat} {A A' : Option Addr} {cap cap' c b c' b' : Nat} (h : Laid w w' P T G n f cl A A' cap cap' c b c' b') : c < w'.heap.size ∧ b < w'.heap.size ∧ c' < w'.heap.size ∧ b' < w'.heap.size ∧ cl < w'.heap.size :=
  ⟨h.two.m.lt, h.two.m.bl, h.two.r.lt, h.two.r.bl, h.lay.lt⟩

/-- The page's example. -/
def ls0 : St := fresh (fun _ => 0)
def ls1 : St := acqS 1 3 4 5 292 0 ls0
def ls2 : St := acqS 1 3 4 5 292 1 ls1
def ls3 : St := acqS 1 3 4 5 292 2 ls2

end Go.Proofs.YtfdpikkinlljlaaGreat

namespace Go.Proofs.YtfdpikkinlljlaaGreat
open Go Go.RowKit
set_option linter.unusedVariables false
set_option maxRecDepth 100000
set_option linter.unusedSimpArgs false


theorem look_step (w : World) (x : Nat) (mv : Value) (M : Bool → World → Prop) (h : Calls Tryz.prog 85 #[.pointer (some ⟨x, 0, none⟩), mv] w fun e w' => ∃ z, e = .returned (.bool z) ∧ M z w') :
    Calls Tryz.prog 337 #[.pointer (some ⟨x, 0, none⟩), mv] w fun e w' => ∃ z, e = .returned (.bool z) ∧ M z w' := by
  go_enter Tryz.func337, Tryz.ntmps337
  go_wp2_with fail
  go_at_call 85; refine h.mono ?_; rintro e w1 ⟨z, rfl, h1⟩
  go_wp2_with fail
  go_ret
  exact ⟨z, rfl, h1⟩
theorem look_step_nil (w : World) (mv : Value) : Calls Tryz.prog 337 #[.pointer none, mv] w fun e w' => e = .returned (.bool true) ∧ w = w' := by
  go_enter Tryz.func337, Tryz.ntmps337
  go_wp2_with fail
  go_ret
  exact ⟨rfl, rfl⟩
theorem look_done (w : World) (x : Nat) (nx : Option Addr) (hc : w.cell? ⟨x, 1, none⟩ = some (.pointer nx)) :
    Calls Tryz.prog 336 #[.pointer (some ⟨x, 0, none⟩)] w fun e w' => e = .returned (.bool nx.isNone) ∧ w = w' := by
  have h := fdone_any w x nx hc
  go_enter Tryz.func336, Tryz.ntmps336
  go_wp2_with fail
  go_at_call 80; refine h.mono ?_; rintro e w1 ⟨rfl, rfl⟩
  go_wp2_with fail
  go_ret
  exact ⟨rfl, rfl⟩
theorem look_done_nil (w : World) : Calls Tryz.prog 336 #[.pointer none] w fun e w' => e = .returned (.bool true) ∧ w = w' := by
  go_enter Tryz.func336, Tryz.ntmps336
  go_wp2_with fail
  go_ret
  exact ⟨rfl, rfl⟩
theorem look_empty (w : World) (x : Nat) (em : Bool) (hc : w.cell? ⟨x, 7, none⟩ = some (.bool em)) :
    Calls Tryz.prog 151 #[.pointer (some ⟨x, 0, none⟩)] w fun e w' => e = .returned (.bool em) ∧ w = w' := by
  go_enter Tryz.func151, Tryz.ntmps151
  go_wp2_with fail
  go_ret
  exact ⟨rfl, rfl⟩
theorem look_empty_nil (w : World) : Calls Tryz.prog 151 #[.pointer none] w fun e w' => e = .returned (.bool false) ∧ w = w' := by
  go_enter Tryz.func151, Tryz.ntmps151
  go_wp2_with fail
  go_ret
  exact ⟨rfl, rfl⟩

theorem ent149 (args : Array Value) (w : World) : (callFunc 149 args).run Tryz.prog w = .ok (.enter 149 args) w := by kernel_rfl
theorem ent189 (args : Array Value) (w : World) : (callFunc 189 args).run Tryz.prog w = .ok (.enter 189 args) w := by kernel_rfl
theorem ent206 (args : Array Value) (w : World) : (callFunc 206 args).run Tryz.prog w = .ok (.enter 206 args) w := by kernel_rfl
theorem ent222 (args : Array Value) (w : World) : (callFunc 222 args).run Tryz.prog w = .ok (.enter 222 args) w := by kernel_rfl

/-- A machine that looks at a ring: what comes next lies at block q. -/
inductive Lk (w : World) (x cl : Nat) (P who p : Int) : Nat → Nat → Int → Int → Int → Bool → Prop
  | s0 (q : Nat) : Blk w x (lookCells who (some ⟨q, 0, none⟩) cl p 0 0 0 false) 212 → Blk w q (comCells 1 0 (wd 20 P 264 p 1) 0 0 false .nilIface (.func (.func 149) #[.pointer (some ⟨x, 0, none⟩)] #[]) false false) 205 → q ≠ x → Lk w x cl P who p q 0 0 0 0 false
  | s1 (q : Nat) (hd : Int) : Blk w x (lookCells who (some ⟨q, 0, none⟩) cl p hd 0 0 false) 212 → Blk w q (comCells 1 0 (wd 20 P 264 p 2) 0 0 false .nilIface (.func (.func 189) #[.pointer (some ⟨x, 0, none⟩)] #[]) false false) 205 → q ≠ x → Lk w x cl P who p q 1 hd 0 0 false
  | s2 (q : Nat) (hd tl : Int) : Blk w x (lookCells who (some ⟨q, 0, none⟩) cl p hd tl 0 false) 212 → Blk w q (comCells 1 0 (wd 20 P 264 p 3) 0 0 false .nilIface (.func (.func 206) #[.pointer (some ⟨x, 0, none⟩)] #[]) false false) 205 → q ≠ x → Lk w x cl P who p q 2 hd tl 0 false
  | s3 (q : Nat) (hd tl nt : Int) : Blk w x (lookCells who (some ⟨q, 0, none⟩) cl p hd tl nt false) 212 → Blk w q (comCells 1 0 (wd 20 P 264 p 2) 0 0 false .nilIface (.func (.func 222) #[.pointer (some ⟨x, 0, none⟩)] #[]) false false) 205 → q ≠ x → Lk w x cl P who p q 3 hd tl nt false
  | over (hd tl nt : Int) (em : Bool) : Blk w x (lookCells who none cl p hd tl nt em) 212 → Lk w x cl P who p x 4 hd tl nt em

section
variable {w w' : World} {x cl q ph : Nat} {P who p hd tl nt : Int} {em : Bool} {l : List Nat}
theorem Lk.but (h : Lk w x cl P who p q ph hd tl nt em) (hb : But l w w') (hx : x ∉ l) (hq : q ∉ l) : Lk w' x cl P who p q ph hd tl nt em := by
  cases h with
  | s0 _ a b c => exact .s0 _ (a.but hb hx) (b.but hb hq) c
  | s1 _ _ a b c => exact .s1 _ _ (a.but hb hx) (b.but hb hq) c
  | s2 _ _ _ a b c => exact .s2 _ _ _ (a.but hb hx) (b.but hb hq) c
  | s3 _ _ _ _ a b c => exact .s3 _ _ _ _ (a.but hb hx) (b.but hb hq) c
  | over _ _ _ _ a => exact .over _ _ _ _ (a.but hb hx)
theorem Lk.below (h : Lk w x cl P who p q ph hd tl nt em) (hb : Below w.heap.size w w') : Lk w' x cl P who p q ph hd tl nt em := h.but (But.of_below (l := []) hb) (by simp) (by simp)
theorem Lk.main (h : Lk w x cl P who p q ph hd tl nt em) : ∃ nx, Blk w x (lookCells who nx cl p hd tl nt em) 212 ∧ nx.isNone = decide (ph = 4) := by
  cases h with
  | s0 _ a b c => exact ⟨_, a, rfl⟩
  | s1 _ _ a b c => exact ⟨_, a, rfl⟩
  | s2 _ _ _ a b c => exact ⟨_, a, rfl⟩
  | s3 _ _ _ _ a b c => exact ⟨_, a, rfl⟩
  | over _ _ _ _ a => exact ⟨_, a, rfl⟩
theorem Lk.lt (h : Lk w x cl P who p q ph hd tl nt em) : x < w.heap.size ∧ q < w.heap.size := by
  cases h with
  | s0 _ a b c => exact ⟨a.lt, b.lt⟩
  | s1 _ _ a b c => exact ⟨a.lt, b.lt⟩
  | s2 _ _ _ a b c => exact ⟨a.lt, b.lt⟩
  | s3 _ _ _ _ a b c => exact ⟨a.lt, b.lt⟩
  | over _ _ _ _ a => exact ⟨a.lt, a.lt⟩
end
def lkF (ph : Nat) : Int := if ph = 0 then 1 else if ph = 2 then 3 else 2
def lkS (P who p : Int) (n ph : Nat) (s : St) : St := if ph < 4 then stp 1 who (wd 20 P 264 p (lkF ph)) 0 0 n s else s
def lkA (P p : Int) (n ph : Nat) (s : St) : Int := ans 1 (wd 20 P 264 p (lkF ph)) 0 0 n s
theorem lkS_low {s : St} {m : Int} (h : Low s m) (P who p : Int) (n ph : Nat) : Low (lkS P who p n ph s) (m + 1) := by
  unfold lkS
  split
  · exact stp_low h _ _ _ _ _ _
  · exact h.more (by omega)

section
variable (w : World) (A : Option Addr) (cp cm b n : Nat) (s : St) (hI : Is w 141 A cp cm b n s) (hn : n ≤ 1000000) (hl : Low s 1000000)
include hI hn hl

theorem lk_on (x cl q ph : Nat) (P T G who p hd tl nt : Int) (em : Bool) (h : Lk w x cl P who p q ph hd tl nt em) (hL : Lay w cl P T G) (hp : 0 ≤ P ∧ P ≤ 64) (hxc : x ≠ cm) (hxb : x ≠ b) (hqc : q ≠ cm) (hqb : q ≠ b) (hcx : cl ≠ x) (hcc : cl ≠ cm) (hcb : cl ≠ b) :
    Calls Tryz.prog 337 #[.pointer (some ⟨x, 0, none⟩), .pointer (some ⟨cm, 0, none⟩)] w fun e w' => (∃ z, e = .returned (.bool z)) ∧ ∃ q', Lk w' x cl P who p q' (if ph < 4 then ph + 1 else 4) (if ph = 0 then lkA P p n ph s else hd) (if ph = 1 then lkA P p n ph s else tl) (if ph = 2 then lkA P p n ph s else nt) (if ph = 3 then decide (lkA P p n ph s = tl ∧ lkA P p n ph s = hd ∧ nt = 0) else em) ∧ Is w' 141 A cp cm b n (lkS P who p n ph s) ∧ But [cm, b, x] w w' ∧ (q' = x ∨ w.heap.size ≤ q') := by
  have hLW : ∀ W u, But [cm, b] w W → Lay (W.setCell ⟨x, 1, none⟩ u) cl P T G := fun W u hB => (heap_set_ne W hcx 1 u).trans ((hB.block cl hL.lt (by simp [hcc, hcb])).trans hL)
  cases h with
  | s0 _ ha hb hne =>
    refine (look_step _ x _ _ (step_acc w A cp cm b n s hI hn hl x q 149 _ #[.pointer (some ⟨x, 0, none⟩)] #[] 212 1 who 0 (wd 20 P 264 p 1) 0 0 false false false (fun nx w' => ∃ q', nx = some ⟨q', 0, none⟩ ∧ Lk w' x cl P who p q' 1 (ans 1 (wd 20 P 264 p 1) 0 0 n s) 0 0 false ∧ Went w w' A cp cm b n (stp 1 who (wd 20 P 264 p 1) 0 0 n s) x ∧ w.heap.size ≤ q') ha rfl rfl hb hne (by omega) (by omega) hxc hxb hqc hqb (fun w => ent149 _ w) ?_)).mono ?_
    · intro W hM hB hx1
      refine (seeHead_any _ x cl P T G who p 0 0 0 (ans 1 (wd 20 P 264 p 1) 0 0 n s) none false (hx1.set 1 (.pointer none)) (hLW W _ hB) hcx hp).mono ?_
      rintro e w' ⟨hv, q', hC⟩
      have hf := hC.fresh
      rw [size_set] at hf
      have hlt := hx1.lt
      exact ⟨hv, _, hC.own.cell 1 rfl, q', rfl, .s1 q' _ hC.own hC.com (by omega), Went.of hM hB hC.but hxc hxb, Nat.le_trans hB.size hf⟩
    · rintro e w' ⟨z, rfl, nx, rfl, q', rfl, h1, h2, h3⟩
      exact ⟨⟨_, rfl⟩, q', h1, h2.mem, h2.but, .inr h3⟩
  | s1 _ _ ha hb hne =>
    refine (look_step _ x _ _ (step_acc w A cp cm b n s hI hn hl x q 189 _ #[.pointer (some ⟨x, 0, none⟩)] #[] 212 1 who 0 (wd 20 P 264 p 2) 0 0 false false false (fun nx w' => ∃ q', nx = some ⟨q', 0, none⟩ ∧ Lk w' x cl P who p q' 2 hd (ans 1 (wd 20 P 264 p 2) 0 0 n s) 0 false ∧ Went w w' A cp cm b n (stp 1 who (wd 20 P 264 p 2) 0 0 n s) x ∧ w.heap.size ≤ q') ha rfl rfl hb hne (by omega) (by omega) hxc hxb hqc hqb (fun w => ent189 _ w) ?_)).mono ?_
    · intro W hM hB hx1
      refine (seeTail_any _ x cl P T G who p hd 0 0 (ans 1 (wd 20 P 264 p 2) 0 0 n s) none false (hx1.set 1 (.pointer none)) (hLW W _ hB) hcx hp).mono ?_
      rintro e w' ⟨hv, q', hC⟩
      have hf := hC.fresh
      rw [size_set] at hf
      have hlt := hx1.lt
      exact ⟨hv, _, hC.own.cell 1 rfl, q', rfl, .s2 q' _ _ hC.own hC.com (by omega), Went.of hM hB hC.but hxc hxb, Nat.le_trans hB.size hf⟩
    · rintro e w' ⟨z, rfl, nx, rfl, q', rfl, h1, h2, h3⟩
      exact ⟨⟨_, rfl⟩, q', h1, h2.mem, h2.but, .inr h3⟩
  | s2 _ _ _ ha hb hne =>
    refine (look_step _ x _ _ (step_acc w A cp cm b n s hI hn hl x q 206 _ #[.pointer (some ⟨x, 0, none⟩)] #[] 212 1 who 0 (wd 20 P 264 p 3) 0 0 false false false (fun nx w' => ∃ q', nx = some ⟨q', 0, none⟩ ∧ Lk w' x cl P who p q' 3 hd tl (ans 1 (wd 20 P 264 p 3) 0 0 n s) false ∧ Went w w' A cp cm b n (stp 1 who (wd 20 P 264 p 3) 0 0 n s) x ∧ w.heap.size ≤ q') ha rfl rfl hb hne (by omega) (by omega) hxc hxb hqc hqb (fun w => ent206 _ w) ?_)).mono ?_
    · intro W hM hB hx1
      refine (seeNext_any _ x cl P T G who p hd tl 0 (ans 1 (wd 20 P 264 p 3) 0 0 n s) none false (hx1.set 1 (.pointer none)) (hLW W _ hB) hcx hp).mono ?_
      rintro e w' ⟨hv, q', hC⟩
      have hf := hC.fresh
      rw [size_set] at hf
      have hlt := hx1.lt
      exact ⟨hv, _, hC.own.cell 1 rfl, q', rfl, .s3 q' _ _ _ hC.own hC.com (by omega), Went.of hM hB hC.but hxc hxb, Nat.le_trans hB.size hf⟩
    · rintro e w' ⟨z, rfl, nx, rfl, q', rfl, h1, h2, h3⟩
      exact ⟨⟨_, rfl⟩, q', h1, h2.mem, h2.but, .inr h3⟩
  | s3 _ _ _ _ ha hb hne =>
    refine (look_step _ x _ _ (step_acc w A cp cm b n s hI hn hl x q 222 _ #[.pointer (some ⟨x, 0, none⟩)] #[] 212 1 who 0 (wd 20 P 264 p 2) 0 0 false false false (fun nx w' => nx = none ∧ Lk w' x cl P who p x 4 hd tl nt (decide (ans 1 (wd 20 P 264 p 2) 0 0 n s = tl ∧ ans 1 (wd 20 P 264 p 2) 0 0 n s = hd ∧ nt = 0)) ∧ Went w w' A cp cm b n (stp 1 who (wd 20 P 264 p 2) 0 0 n s) x) ha rfl rfl hb hne (by omega) (by omega) hxc hxb hqc hqb (fun w => ent222 _ w) ?_)).mono ?_
    · intro W hM hB hx1
      refine (judge_any _ x cl who p hd tl nt (ans 1 (wd 20 P 264 p 2) 0 0 n s) none false (hx1.set 1 (.pointer none))).mono ?_
      rintro e w' ⟨hv, h1, h2⟩
      exact ⟨hv, _, h1.cell 1 rfl, rfl, .over _ _ _ _ h1, Went.of hM hB h2 hxc hxb⟩
    · rintro e w' ⟨z, rfl, nx, rfl, rfl, h1, h2⟩
      exact ⟨⟨_, rfl⟩, x, h1, h2.mem, h2.but, .inl rfl⟩
  | over _ _ _ _ ha =>
    refine (look_step w x _ (fun z w' => z = true ∧ w = w') ((step_none w x cm (ha.cell 1 rfl)).mono ?_)).mono ?_
    · rintro e w' ⟨rfl, rfl⟩; exact ⟨true, rfl, rfl, rfl⟩
    · rintro e w' ⟨z, rfl, rfl, rfl⟩
      exact ⟨⟨_, rfl⟩, x, .over _ _ _ _ ha, hI, But.refl _ _, .inl rfl⟩
end

end Go.Proofs.YtfdpikkinlljlaaGreat

namespace Go.Proofs.YtfdpikkinlljlaaGreat
open Go Go.RowKit
set_option linter.unusedVariables false
set_option maxRecDepth 100000
set_option linter.unusedSimpArgs false

inductive LoT where
  | hd
  | tl (h : Int)
  | nx (h t : Int)
  | ag (h t n : Int)
  | over (h t n : Int) (e : Bool)
def LoT.h : LoT → Int
  | .hd => 0
  | .tl h => h
  | .nx h _ => h
  | .ag h _ _ => h
  | .over h _ _ _ => h
def LoT.t : LoT → Int
  | .nx _ t => t
  | .ag _ t _ => t
  | .over _ t _ _ => t
  | _ => 0
def LoT.n : LoT → Int
  | .ag _ _ n => n
  | .over _ _ n _ => n
  | _ => 0
/-- Whether it was empty. -/
def LoT.e : LoT → Bool
  | .over _ _ _ e => e
  | _ => false
def loPM (P p : Int) : PM LoT where
  ax := fun
    | .hd => some (axLd (wd 20 P 264 p 1))
    | .tl _ => some (axLd (wd 20 P 264 p 2))
    | .nx _ _ => some (axLd (wd 20 P 264 p 3))
    | .ag _ _ _ => some (axLd (wd 20 P 264 p 2))
    | .over _ _ _ _ => none
  nx := fun
    | .hd, v => .tl v
    | .tl h, v => .nx h v
    | .nx h t, v => .ag h t v
    | .ag h t n, v => .over h t n (decide (v = t ∧ v = h ∧ n = 0))
    | s, _ => s
def loFl (who p : Int) (cl : Nat) : Fl LoT where
  T := 212
  cells := fun s nx => lookCells who nx cl p s.h s.t s.n s.e
  fol := fun
    | .hd => .told 149
    | .tl _ => .told 189
    | .nx _ _ => .told 206
    | .ag _ _ _ => .told 222
    | .over _ _ _ _ => .nil
  ok := fun _ => True
theorem ent_lo1 : Ent 149 := fun args w => by kernel_rfl
theorem ent_lo2 : Ent 189 := fun args w => by kernel_rfl
theorem ent_lo3 : Ent 206 := fun args w => by kernel_rfl
theorem ent_lo4 : Ent 222 := fun args w => by kernel_rfl
theorem lo_laws (who P T G p : Int) (cl : Nat) (hp : 0 ≤ P ∧ P ≤ 64) : (loFl who p cl).Laws (loPM P p) (Rd.lay cl P T G) who where
  c0 := fun t nx => rfl
  c1 := fun t nx => rfl
  set := fun t nx nx' => rfl
  axok := fun t a _ h => by cases t <;> cases h <;> exact axLd_ok _
  ents := fun t a h => by
    cases t <;> cases h
    · exact ent_lo1
    · exact ent_lo2
    · exact ent_lo3
    · exact ent_lo4
  ok := fun _ _ _ _ _ _ => trivial
  fol := fun W x t a v _ h hv hB hR hxR => by
    have hcx : cl ≠ x := fun e => hxR (by rw [e]; exact List.mem_singleton.2 rfl)
    cases t <;> cases h
    · refine (seeHead_any W x cl P T G who p 0 0 0 v none false hB hR hcx hp).mono ?_
      rintro e w' ⟨hu, q, hC⟩
      exact ⟨hu, Came.of_at (a := axLd _) hC⟩
    · rename_i h _
      refine (seeTail_any W x cl P T G who p h 0 0 v none false hB hR hcx hp).mono ?_
      rintro e w' ⟨hu, q, hC⟩
      exact ⟨hu, Came.of_at (a := axLd _) hC⟩
    · rename_i h t _
      refine (seeNext_any W x cl P T G who p h t 0 v none false hB hR hcx hp).mono ?_
      rintro e w' ⟨hu, q, hC⟩
      exact ⟨hu, Came.of_at (a := axLd _) hC⟩
    · rename_i h t n _
      exact judge_any W x cl who p h t n v none false hB
theorem lo_new (w : World) (cl : Nat) (P T G who p : Int) (hL : Lay w cl P T G) (hp : 0 ≤ P ∧ P ≤ 64) :
    Calls Tryz.prog 96 #[.pointer (some ⟨cl, 0, none⟩), .int .i64 who, .int .i64 p] w fun e w' => ∃ x L, e = .returned (.pointer (some ⟨x, 0, none⟩)) ∧ (loFl who p cl).I (loPM P p) w' x .hd L ∧ Below w.heap.size w w' ∧ (∀ k ∈ L, w.heap.size ≤ k) ∧ w.heap.size ≤ x := by
  refine (look_new w cl P T G who p hL hp).mono ?_
  rintro e w' ⟨x, q, rfl, h1, h2, h3, h4, h5⟩
  have h6 : x < q := by omega
  exact ⟨x, [x, q], rfl, ⟨trivial, q, [q], h1, .told _ h2, by simp; omega, rfl⟩, h3, by intro k hk; simp at hk; omega, h4⟩
theorem lo_tells {who P p : Int} {cl : Nat} {w : World} {x : Nat} {t : LoT} {L : List Nat} (h : (loFl who p cl).I (loPM P p) w x t L) :
    Calls Tryz.prog 151 #[.pointer (some ⟨x, 0, none⟩)] w fun e w' => e = .returned (.bool t.e) ∧ w = w' := by
  obtain ⟨nx, h1, -⟩ := Fl.blk h
  have h1' : Blk w x (lookCells who nx cl p t.h t.t t.n t.e) 212 := h1
  exact look_empty w x t.e (h1'.cell 7 rfl)
end Go.Proofs.YtfdpikkinlljlaaGreat

namespace Go.Proofs.YtfdpikkinlljlaaGreat
open Go Go.RowKit
set_option linter.unusedVariables false
set_option maxRecDepth 100000
set_option linter.unusedSimpArgs false

theorem isD_look (v : Value) (xT : TypeId) (w : World) : (Instr.typeAssert (.iface 151 v) xT 245 true).run Tryz.prog w = .ok (.tuple #[.iface 151 v, .bool true]) w := run_typeAssert_hasB Tryz.underlying245 (by kernel_rfl) v xT w
theorem eqIIn_look (w : World) (fuel : Nat) (v : Value) : (Op.equalIn (fuel + 1) 203 (.iface 151 v) .nilIface).run Tryz.prog w = .ok false w := by
  simp only [Op.equalIn, Sem.run_bind, run_underlying Tryz.underlying203, Result.andThen_ok]
  rfl
theorem eqI_look (v : Value) (w : World) : (binOp .eql 203 (.iface 151 v) .nilIface).run Tryz.prog w = .ok (.bool false) w := by
  have h := eqIIn_look w 9999 v
  simp only [binOp]
  simp [Op.equal, Op.maxDepth, h]
theorem neqI_look (v : Value) (w : World) : (binOp .neq 203 (.iface 151 v) .nilIface).run Tryz.prog w = .ok (.bool true) w := by
  have h := eqIIn_look w 9999 v
  simp only [binOp]
  simp [Op.equal, Op.maxDepth, h]
theorem isdone_look (w : World) (x : Nat) (nx : Option Addr) (hc : w.cell? ⟨x, 1, none⟩ = some (.pointer nx)) :
    Calls Tryz.prog 150 #[.iface 151 (.pointer (some ⟨x, 0, none⟩))] w fun e w' => e = .returned (.bool nx.isNone) ∧ w = w' := by
  have h1 := isD_look
  have h2 := eqI_look
  have hD := done_look w x nx hc
  go_enter Tryz.func150, Tryz.ntmps150
  go_wp2_with fail
  go_at_call 336; refine hD.mono ?_; rintro e w1 ⟨rfl, rfl⟩
  go_wp2_with fail
  go_ret
  exact ⟨rfl, rfl⟩

theorem frun0_look (w : World) (c x : Nat) (cs : Array Value) (T : TypeId) (fv : Value) (nx : Addr) (h : Blk w c cs T) (hs : 2 ≤ cs.size) (hf : Fv fv) (hxc : x ≠ c) (hx : w.cell? ⟨x, 1, none⟩ = some (.pointer (some nx))) :
    Calls Tryz.prog 98 #[.pointer (some ⟨c, 0, none⟩), .iface 151 (.pointer (some ⟨x, 0, none⟩)), fv] w fun e w' => (∃ v, e = .returned v) ∧ ∃ q g, CameBox w w' c cs T (fun v => comCells 0 0 0 0 0 false (.iface 151 (.pointer (some ⟨x, 0, none⟩))) v false false) fv q g := by
  have c1 := h.cell 1 (Array.getElem?_eq_getElem (by omega))
  have f1 := h.fro 1
  have hlt := h.lt
  have h1 := h.set 1 (.pointer none)
  have c2 := h1.cell 1 (v := .pointer none) (by rw [Array.getElem?_setIfInBounds, if_pos rfl, if_pos (by omega)])
  have f2 := h1.fro 1
  have hB1 : But [c] w (w.setCell ⟨c, 1, none⟩ (.pointer none)) := (But.refl _ w).set (g := c) (.inl (by simp)) 1 _
  have hsz : (w.setCell ⟨c, 1, none⟩ (.pointer none)).heap.size = w.heap.size := size_set _ _ _
  have hD := isdone_look (w.setCell ⟨c, 1, none⟩ (.pointer none)) x (some nx) (by
    rw [show (w.setCell ⟨c, 1, none⟩ (.pointer none)).cell? ⟨x, 1, none⟩ = w.cell? ⟨x, 1, none⟩ by simp only [World.cell?]; rw [heap_set_ne w hxc 1 _]]
    exact hx)
  have hU := fun w => untold_any w fv hf
  have HH : Hid (Blk (w.setCell ⟨c, 1, none⟩ (.pointer none)) c (cs.setIfInBounds 1 (.pointer none)) T ∧ But [c] w (w.setCell ⟨c, 1, none⟩ (.pointer none))) := ⟨h1, hB1⟩
  clear h h1 hB1 hx
  go_enter Tryz.func98, Tryz.ntmps98
  go_wp2_with fail
  generalize w.setCell ⟨c, 1, none⟩ (.pointer none) = W at *
  go_at_call 150; refine hD.mono ?_; rintro e w1 ⟨rfl, rfl⟩
  go_wp2_with fail
  go_at_call 140; refine (hU _).mono ?_; rintro e w2 ⟨rfl, rfl⟩
  have hg := Blk.new W #[fv] 1
  have hW2 : Blk (W.alloc (.cells #[fv] 1)) c (cs.setIfInBounds 1 (.pointer none)) T := HH.out.1.al _
  have hsz2 : Hid ((W.alloc (.cells #[fv] 1)).heap.size = w.heap.size + 1) := (by rw [World.size_alloc, hsz] : (W.alloc (.cells #[fv] 1)).heap.size = w.heap.size + 1)
  have hB2 : But [c] w (W.alloc (.cells #[fv] 1)) := HH.out.2.alloc _
  rw [hsz] at hg ⊢
  have HG : Hid (Blk (W.alloc (.cells #[fv] 1)) w.heap.size #[fv] 1 ∧ Blk (W.alloc (.cells #[fv] 1)) c (cs.setIfInBounds 1 (.pointer none)) T ∧ But [c] w (W.alloc (.cells #[fv] 1))) := ⟨hg, hW2, hB2⟩
  have c3 := hW2.cell 1 (v := .pointer none) (by rw [Array.getElem?_setIfInBounds, if_pos rfl, if_pos (by omega)])
  have f3 := hW2.fro 1
  clear hD hU c1 f1 c2 f2 hg hW2 hB2
  generalize W.alloc (.cells #[fv] 1) = W2 at *
  have hlt2 : c < W2.heap.size := by have := hsz2.out; omega
  clear hsz HH
  go_wp2_with fail
  go_end0
  obtain ⟨g1, g2, g3⟩ := HG.out
  have hsz2 := hsz2.out
  refine ⟨⟨_, rfl⟩, W2.heap.size, w.heap.size, ⟨⟨by omega, ?_, ?_, ?_⟩, Nat.le_refl _, ?_, by omega⟩⟩
  · have := (g2.set 1 (.pointer (some ⟨W2.heap.size, 0, none⟩))).al (.cells (comCells 0 0 0 0 0 false (.iface 151 (.pointer (some ⟨x, 0, none⟩))) (.func (.func 175) #[] #[.pointer (some ⟨w.heap.size, 0, none⟩)]) false false) 205)
    rw [set_twice] at this
    exact this
  · have := Blk.new (W2.setCell ⟨c, 1, none⟩ (.pointer (some ⟨W2.heap.size, 0, none⟩))) (comCells 0 0 0 0 0 false (.iface 151 (.pointer (some ⟨x, 0, none⟩))) (.func (.func 175) #[] #[.pointer (some ⟨w.heap.size, 0, none⟩)]) false false) 205
    rw [size_set] at this
    exact this
  · exact (g3.set (g := c) (.inl (by simp)) 1 _).alloc _
  · exact (g1.setne (by omega) 1 _).al _

theorem act0_look (w : World) (q cm x : Nat) (who : Int) (thn : Value) (z : Bool) (Mw : World → Prop) (hq : Blk w q (comCells 0 0 0 0 0 false (.iface 151 (.pointer (some ⟨x, 0, none⟩))) thn false false) 205)
    (hS : ∀ W, But [q] w W → Blk W q (comCells 0 0 0 0 0 false (.iface 151 (.pointer (some ⟨x, 0, none⟩))) thn false true) 205 → Calls Tryz.prog 337 #[.pointer (some ⟨x, 0, none⟩), .pointer (some ⟨cm, 0, none⟩)] W fun e w' => e = .returned (.bool z) ∧ Blk w' q (comCells 0 0 0 0 0 false (.iface 151 (.pointer (some ⟨x, 0, none⟩))) thn false true) 205 ∧ Mw w') :
    Calls Tryz.prog 139 #[.pointer (some ⟨q, 0, none⟩), .int .i64 who, .pointer (some ⟨cm, 0, none⟩)] w fun e w' => e = .returned (.tuple #[.int .u64 0, .bool z]) ∧ ∃ w1, Mw w1 ∧ Blk w1 q (comCells 0 0 0 0 0 false (.iface 151 (.pointer (some ⟨x, 0, none⟩))) thn false true) 205 ∧ w' = w1.setCell ⟨q, 9, none⟩ (.bool false) := by
  have hn := neqI_look
  have hbm := Blk.new w #[.pointer (some ⟨cm, 0, none⟩)] 31
  have hq1 := hq.al (.cells #[.pointer (some ⟨cm, 0, none⟩)] 31)
  have hqlt := hq.lt
  have k6 := hq1.cell 6 (v := .iface 151 (.pointer (some ⟨x, 0, none⟩))) rfl
  have hask : Calls Tryz.prog 172 #[.pointer (some ⟨q, 0, none⟩), .func (.func 173) #[] #[.pointer (some ⟨w.heap.size, 0, none⟩)]] (w.alloc (.cells #[.pointer (some ⟨cm, 0, none⟩)] 31)) fun e w' => e = .returned (.bool z) ∧ ∃ w1, Mw w1 ∧ Blk w1 q (comCells 0 0 0 0 0 false (.iface 151 (.pointer (some ⟨x, 0, none⟩))) thn false true) 205 ∧ w' = w1.setCell ⟨q, 9, none⟩ (.bool false) := by
    have hne : w.heap.size ≠ q := by omega
    have k9 := hq1.cell 9 (v := .bool false) rfl
    have f9 := hq1.fro 9
    have hq2 := hq1.set 9 (.bool true)
    have l6 := hq2.cell 6 (v := .iface 151 (.pointer (some ⟨x, 0, none⟩))) rfl
    have hb2 := hbm.setne hne 9 (.bool true)
    have b0 := hb2.cell 0 (v := .pointer (some ⟨cm, 0, none⟩)) rfl
    have hst := hS ((w.alloc (.cells #[.pointer (some ⟨cm, 0, none⟩)] 31)).setCell ⟨q, 9, none⟩ (.bool true)) (((But.refl [q] w).alloc _).set (g := q) (.inl (by simp)) 9 _) hq2
    have hrun : Calls Tryz.prog 173 #[.iface 151 (.pointer (some ⟨x, 0, none⟩)), .pointer (some ⟨w.heap.size, 0, none⟩)] ((w.alloc (.cells #[.pointer (some ⟨cm, 0, none⟩)] 31)).setCell ⟨q, 9, none⟩ (.bool true)) fun e w' => e = .returned (.bool z) ∧ Blk w' q (comCells 0 0 0 0 0 false (.iface 151 (.pointer (some ⟨x, 0, none⟩))) thn false true) 205 ∧ Mw w' := by
      clear hS hq hbm hq1 k6 k9 f9 hq2 l6 hb2 hqlt hne
      generalize (w.alloc (.cells #[.pointer (some ⟨cm, 0, none⟩)] 31)).setCell ⟨q, 9, none⟩ (.bool true) = W at *
      go_enter Tryz.func173, Tryz.ntmps173
      go_wp2_with fail
      go_at_call 337; refine hst.mono ?_; rintro e w1 ⟨rfl, h1, h2⟩
      go_wp2_with fail
      go_ret
      exact ⟨rfl, h1, h2⟩
    clear hS hq hbm hq1 hq2 hb2 hst b0 hqlt
    go_enter Tryz.func172, Tryz.ntmps172
    go_wp2_with fail
    generalize (w.alloc (.cells #[.pointer (some ⟨cm, 0, none⟩)] 31)).setCell ⟨q, 9, none⟩ (.bool true) = W at *
    go_at_call 173; refine hrun.mono ?_; rintro e w1 ⟨rfl, h1, h2⟩
    have m9 := h1.cell 9 (v := .bool true) rfl
    have g9 := h1.fro 9
    clear hrun l6 k9 f9 k6
    go_wp2_with fail
    go_ret
    exact ⟨rfl, w1, h2, h1, rfl⟩
  clear hS hq hq1 hbm
  go_enter Tryz.func139, Tryz.ntmps139
  go_wp2_with fail
  generalize w.alloc (.cells #[.pointer (some ⟨cm, 0, none⟩)] 31) = W at *
  go_at_call 172; refine hask.mono ?_; rintro e w1 ⟨rfl, h1⟩
  clear hask k6
  go_wp2_with fail
  go_returns
  exact ⟨rfl, h1⟩

theorem frun_look : RunCome 151 := fun w c y cs T fv nx h hs hf hyc hx => frun0_look w c y cs T fv nx h hs hf hyc hx
theorem act_look : ActRun 151 337 := fun w q cm y g who z Mw hq hS => act0_look w q cm y who _ z Mw hq hS
end Go.Proofs.YtfdpikkinlljlaaGreat

namespace Go.Proofs.YtfdpikkinlljlaaGreat
open Go Go.RowKit
set_option linter.unusedVariables false
set_option maxRecDepth 100000
set_option linter.unusedSimpArgs false

def qwd (g : Int) : Int := IntKind.u64.wrap (IntKind.u64.wrap g + 1)
theorem qwd_bd (g : Int) : 0 ≤ qwd g ∧ qwd g ≤ 18446744073709551615 := by
  unfold qwd
  generalize IntKind.u64.wrap g + 1 = z
  simp [IntKind.wrap, IntKind.bits, IntKind.signed]
  omega
theorem q_word2 (w : World) (g : Int) : Calls Tryz.prog 201 #[.int .i64 g] w fun e w' => e = .returned (.int .u64 (qwd g)) ∧ w = w' := by
  go_enter Tryz.func201, Tryz.ntmps201
  go_wp2_with fail
  go_ret
  exact ⟨rfl, rfl⟩
theorem qwd_small (g : Int) (h : 0 ≤ g ∧ g ≤ 1000000) : qwd g = g + 1 := by
  unfold qwd
  simp [IntKind.wrap, IntKind.bits, IntKind.signed]
  omega
end Go.Proofs.YtfdpikkinlljlaaGreat

namespace Go.Proofs.YtfdpikkinlljlaaGreat
open Go Go.RowKit
set_option linter.unusedVariables false
set_option maxRecDepth 100000
set_option linter.unusedSimpArgs false

theorem glob_word_6 (w : World) (c : Nat) : Calls Tryz.prog 68 #[.pointer (some ⟨c, 0, none⟩), .int .i64 6] w fun e w' => e = .returned (.int .i64 6) ∧ w = w' := by
  go_enter Tryz.func68, Tryz.ntmps68
  go_wp2_with fail
  go_ret
  exact ⟨rfl, rfl⟩
theorem glob_word_7 (w : World) (c : Nat) : Calls Tryz.prog 68 #[.pointer (some ⟨c, 0, none⟩), .int .i64 7] w fun e w' => e = .returned (.int .i64 7) ∧ w = w' := by
  go_enter Tryz.func68, Tryz.ntmps68
  go_wp2_with fail
  go_ret
  exact ⟨rfl, rfl⟩
theorem glob_word_8 (w : World) (c : Nat) : Calls Tryz.prog 68 #[.pointer (some ⟨c, 0, none⟩), .int .i64 8] w fun e w' => e = .returned (.int .i64 8) ∧ w = w' := by
  go_enter Tryz.func68, Tryz.ntmps68
  go_wp2_with fail
  go_ret
  exact ⟨rfl, rfl⟩
theorem q_load6 (w : World) (x c K : Nat) (cs : Array Value) (T : TypeId) (h : Blk w x cs T) (hs : 2 ≤ cs.size) (h2 : cs[2]? = some (.pointer (some ⟨c, 0, none⟩))) :
    Calls Tryz.prog 199 #[.pointer (some ⟨x, 0, none⟩), .int .i64 6, .func (.func K) #[.pointer (some ⟨x, 0, none⟩)] #[]] w fun e w' => (∃ v, e = .returned v) ∧ Came w w' x cs T (axLd 6) (.told K) := by
  have H := came_load w.drew x cs T h.drew hs 6 K
  have c2 := h.cell 2 h2
  have hW := glob_word_6 w.drew c
  clear h hs h2
  go_enter Tryz.func199, Tryz.ntmps199
  go_wp2_with fail
  go_region_with (first | (go_at_call 68; refine hW.mono ?_; rintro e w3 ⟨rfl, rfl⟩) | (go_at_call 67; refine H.mono ?_; rintro e w1 ⟨⟨v, rfl⟩, hC⟩))
  all_goals
    have hC2 := hC.undrew
    clear hW H c2 hC
    go_wp2_with fail
    go_end0
    exact ⟨⟨_, rfl⟩, hC2⟩
theorem q_load8 (w : World) (x c K : Nat) (cs : Array Value) (T : TypeId) (h : Blk w x cs T) (hs : 2 ≤ cs.size) (h2 : cs[2]? = some (.pointer (some ⟨c, 0, none⟩))) :
    Calls Tryz.prog 199 #[.pointer (some ⟨x, 0, none⟩), .int .i64 8, .func (.func K) #[.pointer (some ⟨x, 0, none⟩)] #[]] w fun e w' => (∃ v, e = .returned v) ∧ Came w w' x cs T (axLd 8) (.told K) := by
  have H := came_load w.drew x cs T h.drew hs 8 K
  have c2 := h.cell 2 h2
  have hW := glob_word_8 w.drew c
  clear h hs h2
  go_enter Tryz.func199, Tryz.ntmps199
  go_wp2_with fail
  go_region_with (first | (go_at_call 68; refine hW.mono ?_; rintro e w3 ⟨rfl, rfl⟩) | (go_at_call 67; refine H.mono ?_; rintro e w1 ⟨⟨v, rfl⟩, hC⟩))
  all_goals
    have hC2 := hC.undrew
    clear hW H c2 hC
    go_wp2_with fail
    go_end0
    exact ⟨⟨_, rfl⟩, hC2⟩
theorem q_load7 (w : World) (x c K : Nat) (cs : Array Value) (T : TypeId) (h : Blk w x cs T) (hs : 2 ≤ cs.size) (h2 : cs[2]? = some (.pointer (some ⟨c, 0, none⟩))) :
    Calls Tryz.prog 199 #[.pointer (some ⟨x, 0, none⟩), .int .i64 7, .func (.func K) #[.pointer (some ⟨x, 0, none⟩)] #[]] w fun e w' => (∃ v, e = .returned v) ∧ Came w w' x cs T (axLd 7) (.told K) := by
  have H := came_load w.drew x cs T h.drew hs 7 K
  have c2 := h.cell 2 h2
  have hW := glob_word_7 w.drew c
  clear h hs h2
  go_enter Tryz.func199, Tryz.ntmps199
  go_wp2_with fail
  go_region_with (first | (go_at_call 68; refine hW.mono ?_; rintro e w3 ⟨rfl, rfl⟩) | (go_at_call 67; refine H.mono ?_; rintro e w1 ⟨⟨v, rfl⟩, hC⟩))
  all_goals
    have hC2 := hC.undrew
    clear hW H c2 hC
    go_wp2_with fail
    go_end0
    exact ⟨⟨_, rfl⟩, hC2⟩
theorem q_store6 (w : World) (x c K : Nat) (cs : Array Value) (T : TypeId) (u : Int) (h : Blk w x cs T) (hs : 2 ≤ cs.size) (h2 : cs[2]? = some (.pointer (some ⟨c, 0, none⟩))) :
    Calls Tryz.prog 234 #[.pointer (some ⟨x, 0, none⟩), .int .i64 6, .int .u64 u, .func (.func K) #[.pointer (some ⟨x, 0, none⟩)] #[]] w fun e w' => (∃ v, e = .returned v) ∧ Came w w' x cs T (axSt 6 u) (.untold K) := by
  have H := came_store w.drew x cs T h.drew hs 6 u K
  have c2 := h.cell 2 h2
  have hW := glob_word_6 w.drew c
  clear h hs h2
  go_enter Tryz.func234, Tryz.ntmps234
  go_wp2_with fail
  go_region_with (first | (go_at_call 68; refine hW.mono ?_; rintro e w3 ⟨rfl, rfl⟩) | (go_at_call 88; refine H.mono ?_; rintro e w1 ⟨⟨v, rfl⟩, hC⟩))
  all_goals
    have hC2 := hC.undrew
    clear hW H c2 hC
    go_wp2_with fail
    go_end0
    exact ⟨⟨_, rfl⟩, hC2⟩
theorem q_store7 (w : World) (x c K : Nat) (cs : Array Value) (T : TypeId) (u : Int) (h : Blk w x cs T) (hs : 2 ≤ cs.size) (h2 : cs[2]? = some (.pointer (some ⟨c, 0, none⟩))) :
    Calls Tryz.prog 234 #[.pointer (some ⟨x, 0, none⟩), .int .i64 7, .int .u64 u, .func (.func K) #[.pointer (some ⟨x, 0, none⟩)] #[]] w fun e w' => (∃ v, e = .returned v) ∧ Came w w' x cs T (axSt 7 u) (.untold K) := by
  have H := came_store w.drew x cs T h.drew hs 7 u K
  have c2 := h.cell 2 h2
  have hW := glob_word_7 w.drew c
  clear h hs h2
  go_enter Tryz.func234, Tryz.ntmps234
  go_wp2_with fail
  go_region_with (first | (go_at_call 68; refine hW.mono ?_; rintro e w3 ⟨rfl, rfl⟩) | (go_at_call 88; refine H.mono ?_; rintro e w1 ⟨⟨v, rfl⟩, hC⟩))
  all_goals
    have hC2 := hC.undrew
    clear hW H c2 hC
    go_wp2_with fail
    go_end0
    exact ⟨⟨_, rfl⟩, hC2⟩
theorem q_count (w : World) (x c : Nat) (cs : Array Value) (T : TypeId) (u : Int) (h : Blk w x cs T) (hs : 2 ≤ cs.size) (h2 : cs[2]? = some (.pointer (some ⟨c, 0, none⟩))) :
    Calls Tryz.prog 252 #[.pointer (some ⟨x, 0, none⟩), .int .u64 u] w fun e w' => (∃ v, e = .returned v) ∧ Came w w' x cs T (axAd 8 u) .nil := by
  have H := came_add_nil w.drew x cs T h.drew hs 8 u
  have c2 := h.cell 2 h2
  have hW := glob_word_8 w.drew c
  clear h hs h2
  go_enter Tryz.func252, Tryz.ntmps252
  go_wp2_with fail
  go_region_with (first | (go_at_call 68; refine hW.mono ?_; rintro e w3 ⟨rfl, rfl⟩) | (go_at_call 185; refine H.mono ?_; rintro e w1 ⟨⟨v, rfl⟩, hC⟩))
  all_goals
    have hC2 := hC.undrew
    clear hW H c2 hC
    go_wp2_with fail
    go_end0
    exact ⟨⟨_, rfl⟩, hC2⟩
theorem q_link (w : World) (x c : Nat) (cs : Array Value) (T : TypeId) (P T' G g : Int) (h : Blk w x cs T) (h2 : cs[2]? = some (.pointer (some ⟨c, 0, none⟩))) (hl : Lay w c P T' G) (hp : 0 ≤ P ∧ P ≤ 64) (hT : 0 ≤ T' ∧ T' ≤ 65536) (hG : G ≤ 65536) :
    Calls Tryz.prog 202 #[.pointer (some ⟨x, 0, none⟩), .int .i64 g] w fun e w' => e = .returned (.int .i64 (wd (20 + P * 264 + T' * 3) G 2 g 1)) ∧ Below w.heap.size w w' := by
  have c2 := h.cell 2 h2
  have hW := g_word c P T' G g 1 w hl hp hT hG
  clear h h2 hl hp hT hG
  go_enter Tryz.func202, Tryz.ntmps202
  go_wp2_with fail
  go_at_call 141; refine hW.mono ?_; rintro e w1 ⟨rfl, h1⟩
  go_wp2_with fail
  go_ret
  exact ⟨rfl, h1⟩
theorem q_of (w : World) (x c : Nat) (who : Int) (cs cs' : Array Value) (T : TypeId) (h : Blk w x cs T) (hs : 3 ≤ cs.size) (hcs : (cs.setIfInBounds 2 (.pointer (some ⟨c, 0, none⟩))).setIfInBounds 0 (.int .i64 who) = cs') :
    Calls Tryz.prog 181 #[.pointer (some ⟨x, 0, none⟩), .pointer (some ⟨c, 0, none⟩), .int .i64 who] w fun e w' => (∃ v, e = .returned v) ∧ Blk w' x cs' T ∧ But [x] w w' ∧ w'.heap.size = w.heap.size := by
  have f2 := h.fro 2
  have hh2 := h.set 2 (.pointer (some ⟨c, 0, none⟩))
  have hF := fof_any _ x _ T who hh2 (by simp; omega)
  have hB0 : But [x] w (w.setCell ⟨x, 2, none⟩ (.pointer (some ⟨c, 0, none⟩))) := (But.refl _ w).set (g := x) (.inl (by simp)) 2 _
  obtain ⟨u, hu⟩ : ∃ u, w.cell? ⟨x, 2, none⟩ = some u := ⟨_, h.cell 2 (Array.getElem?_eq_getElem hs)⟩
  have HH : Hid (Blk _ x _ T ∧ But [x] w _ ∧ (w.setCell ⟨x, 2, none⟩ (.pointer (some ⟨c, 0, none⟩))).heap.size = w.heap.size) := ⟨hh2, hB0, size_set _ _ _⟩
  clear h hh2 hB0 hs
  go_enter Tryz.func181, Tryz.ntmps181
  go_wp2_with fail
  generalize w.setCell ⟨x, 2, none⟩ (.pointer (some ⟨c, 0, none⟩)) = W at *
  go_at_call 97; refine hF.mono ?_; rintro e w3 ⟨⟨v, rfl⟩, hw3⟩
  have h3 : Blk w3 x cs' T := by rw [hw3, ← hcs]; exact HH.out.1.set 0 _
  have hB3 : But [x] w w3 := by rw [hw3]; exact HH.out.2.1.set (g := x) (.inl (by simp)) 0 _
  have hs3 : w3.heap.size = w.heap.size := by rw [hw3, size_set]; exact HH.out.2.2
  clear hF hw3 HH hcs hu f2
  go_wp2_with fail
  go_end0
  exact ⟨⟨_, rfl⟩, h3, hB3, hs3⟩
theorem q_word (w : World) (g : Int) (hg : 0 ≤ g ∧ g ≤ 1000000) : Calls Tryz.prog 201 #[.int .i64 g] w fun e w' => e = .returned (.int .u64 (g + 1)) ∧ w = w' := by
  have w1 : IntKind.u64.wrap g = g := wrap_u64 (by omega)
  have w2 : IntKind.u64.wrap (g + 1) = g + 1 := wrap_u64 (by omega)
  go_enter Tryz.func201, Tryz.ntmps201
  go_wp2_with fail
  go_ret
  exact ⟨rfl, rfl⟩
end Go.Proofs.YtfdpikkinlljlaaGreat

namespace Go.Proofs.YtfdpikkinlljlaaGreat
open Go Go.RowKit
set_option linter.unusedVariables false
set_option maxRecDepth 100000
set_option linter.unusedSimpArgs false

/-- A slice of ints, seen in memory. -/
def SeesL (w : World) (v : Value) (l : List Int) : Prop := ∃ A cap, v = .slice A l.length cap ∧ (A = none → l.length = 0 ∧ cap = 0) ∧ (0 < l.length → ∃ b off : Nat, A = some ⟨b, off, none⟩ ∧ b < w.heap.size ∧ ∀ j, j < l.length → w.cell? ⟨b, off + j, none⟩ = some (.int .i64 (l.getD j 0)))
theorem SeesL.below {w w' : World} {v : Value} {l : List Int} (h : SeesL w v l) (hb : Below w.heap.size w w') : SeesL w' v l := by
  obtain ⟨A, cap, e, h1, h2⟩ := h
  refine ⟨A, cap, e, h1, fun hn => ?_⟩
  obtain ⟨b, off, e1, h3, h4⟩ := h2 hn
  exact ⟨b, off, e1, Nat.lt_of_lt_of_le h3 hb.size, fun j hj => (hb.cell (p := ⟨b, off + j, none⟩) h3).trans (h4 j hj)⟩
theorem IntsOn.sees {w : World} {base : Nat} {v : Value} {l : List Int} (h : IntsOn w base v l) : SeesL w v l := by
  by_cases h0 : 0 < l.length
  · obtain ⟨gb, cap, e, -⟩ := h.cell h0
    refine ⟨_, cap, e, (fun h => by cases h), fun hn => ⟨gb, 0, rfl, ?_, fun j hj => ?_⟩⟩
    · obtain ⟨gb', cap', e', hc⟩ := h.cell hn
      rw [e] at e'; cases e'
      exact cell_lt hc
    · obtain ⟨gb', cap', e', hc⟩ := h.cell hj
      rw [e] at e'; cases e'
      rw [Nat.zero_add]; exact hc
  · rcases h.own.2 with ⟨e, h1⟩ | ⟨gb, cp, cur, e, -⟩
    · exact ⟨none, 0, by rw [e, h1], fun _ => ⟨h1, rfl⟩, fun h => absurd h h0⟩
    · exact ⟨_, cp, e, (fun h => by cases h), fun h => absurd h h0⟩

theorem lclone_nil (w : World) : Calls Tryz.prog 180 #[.slice none 0 0] w fun e w' => e = .returned (.slice none 0 0) ∧ w = w' := by
  have hq := fun (w : World) => Lib.run_eql_slice_nil (P := Tryz.prog) w 49 3 none 0 0 0 0 Tryz.underlying49
  go_enter Tryz.func180, Tryz.ntmps180
  go_wp2_with fail
  go_ret
  exact ⟨rfl, rfl⟩
theorem lclone_cells (w : World) (a : Addr) (l : List Int) (hs : 0 < l.length → ∃ b off : Nat, some a = some (⟨b, off, none⟩ : Addr) ∧ b < w.heap.size ∧ ∀ j, j < l.length → w.cell? ⟨b, off + j, none⟩ = some (.int .i64 (l.getD j 0))) : ∀ j u, (l.map (Value.int .i64))[j]? = some u → (w.alloc (.cells #[] 3)).cell? (a.add j) = some u := by
  intro j u hj
  have hjn : j < l.length := by
    have := (List.getElem?_eq_some_iff.1 hj).1
    simpa using this
  rw [List.getElem?_map, List.getElem?_eq_getElem hjn] at hj
  obtain ⟨b, off, e, hb, hc⟩ := hs (by omega)
  cases e
  have h1 := hc j hjn
  rw [List.getD_eq_getElem?_getD, List.getElem?_eq_getElem hjn] at h1
  have h2 : (w.alloc (.cells #[] 3)).cell? ⟨b, off + j, none⟩ = w.cell? ⟨b, off + j, none⟩ := World.cell?_alloc_lt w _ _ hb
  have h3 : (⟨b, off, none⟩ : Addr).add j = ⟨b, off + j, none⟩ := by by_cases h0 : j = 0 <;> simp [Addr.add, h0]
  rw [h3, h2, h1]
  exact hj
theorem lclone_some (a : Addr) (cap : Nat) (l : List Int) (w : World) (hn : l.length ≤ 1000000) (hs : 0 < l.length → ∃ b off : Nat, some a = some (⟨b, off, none⟩ : Addr) ∧ b < w.heap.size ∧ ∀ j, j < l.length → w.cell? ⟨b, off + j, none⟩ = some (.int .i64 (l.getD j 0))) :
    Calls Tryz.prog 180 #[.slice (some a) l.length cap] w fun e w' => ∃ v, e = .returned v ∧ IntsOn w' w.heap.size v l ∧ Below w.heap.size w w' := by
  obtain ⟨i0, hi, hz0, hz1, hz2⟩ := info_parts lists_info3
  have HN : Hid (∀ j u, (l.map (Value.int .i64))[j]? = some u → (w.alloc (.cells #[] 3)).cell? (a.add j) = some u) := lclone_cells w a l hs
  have HO : Hid (∀ u ∈ l.map (Value.int .i64), u.oneCell' = true) := fun u hu => by obtain ⟨x, -, rfl⟩ := List.mem_map.1 hu; rfl
  have HL : Hid ((l.map (Value.int .i64)).length = l.length * 1) := by show _ = _; simp
  have hq := fun (w : World) => Lib.run_eql_slice_nil (P := Tryz.prog) w 49 3 (some a) l.length cap 0 0 Tryz.underlying49
  have hown0 : Hid ((w.alloc (.cells #[] 3)).ownsRow w.heap.size 3 1 (.slice (some ⟨w.heap.size, 0, none⟩) 0 0) 0 []) := World.ownsRow_lit w #[] 0 (Nat.le_refl _) (Nat.zero_le _) rfl
  generalize hll : l.length = ln at *
  clear hs
  go_enter Tryz.func180, Tryz.ntmps180
  go_wp2_with (at_builtin; refine wpList_append_own _ rfl _ _ 49 rfl w.heap.size 3 i0 (.int .i64 0) 1 8 Tryz.underlying49 hi hz0 hz1 hz2 rfl (by decide) _ 0 [] rfl hown0.out a ln cap (l.map (Value.int .i64)) rfl HL.out HN.out HO.out (by unfold maxLen; omega) (by omega) (by simp) ?_; intro v' w1 hown1 hgrow1 _)
  have hb : Below w.heap.size w w1 := ((Below.refl _ _).alloc (Nat.le_refl _) _).grown hgrow1 (by simp) (fun k hk => by cases hk; exact Nat.le_refl _)
  go_ret
  refine ⟨v', rfl, ⟨?_⟩, hb⟩
  rw [hll]
  simpa using hown1
theorem lclone_any (v : Value) (l : List Int) (w : World) (hn : l.length ≤ 1000000) (hs : SeesL w v l) :
    Calls Tryz.prog 180 #[v] w fun e w' => ∃ v, e = .returned v ∧ IntsOn w' w.heap.size v l ∧ Below w.heap.size w w' := by
  obtain ⟨A, cap, rfl, h1, h2⟩ := hs
  rcases A with _ | a
  · obtain ⟨h3, rfl⟩ := h1 rfl
    have hl : l = [] := List.length_eq_zero_iff.1 h3
    subst hl
    refine (lclone_nil w).mono ?_
    rintro e w' ⟨rfl, rfl⟩
    exact ⟨_, rfl, ⟨World.ownsRow_nil _ _ _ _⟩, Below.refl _ _⟩
  · exact lclone_some a cap l w hn h2
theorem lsame_any (w : World) (v v' : Value) (l : List Int) (hn : l.length ≤ 1000000) (h : SeesL w v l) (h' : SeesL w v' l) :
    Calls Tryz.prog 16 #[v, v'] w fun e w' => e = .returned (.bool true) ∧ Below w.heap.size w w' := by
  obtain ⟨A, cap, rfl, -, h2⟩ := h
  obtain ⟨A', cap', rfl, -, h2'⟩ := h'
  have H : Hid (0 < l.length → ∃ b off : Nat, A = some ⟨b, off, none⟩ ∧ b < w.heap.size ∧ ∀ j, j < l.length → w.cell? ⟨b, off + j, none⟩ = some (.int .i64 (l.getD j 0))) := h2
  have H' : Hid (0 < l.length → ∃ b off : Nat, A' = some ⟨b, off, none⟩ ∧ b < w.heap.size ∧ ∀ j, j < l.length → w.cell? ⟨b, off + j, none⟩ = some (.int .i64 (l.getD j 0))) := h2'
  clear h2 h2'
  have HF : Hid (∃ (f : Nat → Int) (n : Nat), (fun j => l.getD j 0) = f ∧ l.length = n) := ⟨_, _, rfl, rfl⟩
  obtain ⟨f, n, hf, hl⟩ := HF.out
  have hfe : ∀ j, l.getD j 0 = f j := fun j => congrFun hf j
  simp only [hfe] at H H'
  rw [hl] at H H' hn ⊢
  clear HF hf hl hfe
  go_enter Tryz.func16, Tryz.ntmps16
  go_wp2_with fail
  go_loopw [5] (fun i wr => ∃ k m : Nat, k ≤ n ∧ i = .int .i64 k ∧ wr = w.drewN m) (fun i _ => n - (intOf i).toNat)
  case atStart => exact ⟨0, 0, Nat.zero_le _, rfl, rfl⟩
  case round =>
    obtain ⟨k, m, hk, rfl, rfl⟩ := hrel
    by_cases hlt : k < n
    · obtain ⟨b, off, rfl, hbB, hcell⟩ := H.out (by omega)
      obtain ⟨b', off', rfl, hbB', hcell'⟩ := H'.out (by omega)
      have e0 : w.cell? ⟨b, off + k, none⟩ = some (.int .i64 (f k)) := hcell k hlt
      have e1 : w.cell? ⟨b', off' + k, none⟩ = some (.int .i64 (f k)) := hcell' k hlt
      clear hcell hcell'
      generalize f k = x at e0 e1
      go_wp2_with fail
      go_quiet (fail)
      go_wp2_with fail
      go_roundw
      case rel => exact ⟨k + 1, _, by omega, by go_num, rfl⟩
      case measure => simp [intOf]; omega
    · obtain rfl : k = n := by omega
      go_wp2_with fail
      go_ret
      exact ⟨rfl, Below.drewN' (Below.refl _ _) m⟩
end Go.Proofs.YtfdpikkinlljlaaGreat

namespace Go.Proofs.YtfdpikkinlljlaaGreat
open Go Go.RowKit
set_option linter.unusedVariables false
set_option maxRecDepth 100000
set_option linter.unusedSimpArgs false

theorem isD_qput (v : Value) (xT : TypeId) (w : World) : (Instr.typeAssert (.iface 142 v) xT 245 true).run Tryz.prog w = .ok (.tuple #[.iface 142 v, .bool true]) w := run_typeAssert_hasB Tryz.underlying245 (by kernel_rfl) v xT w
theorem eqIIn_qput (w : World) (fuel : Nat) (v : Value) : (Op.equalIn (fuel + 1) 203 (.iface 142 v) .nilIface).run Tryz.prog w = .ok false w := by
  simp only [Op.equalIn, Sem.run_bind, run_underlying Tryz.underlying203, Result.andThen_ok]
  rfl
theorem eqI_qput (v : Value) (w : World) : (binOp .eql 203 (.iface 142 v) .nilIface).run Tryz.prog w = .ok (.bool false) w := by
  have h := eqIIn_qput w 9999 v
  simp only [binOp]
  simp [Op.equal, Op.maxDepth, h]
theorem neqI_qput (v : Value) (w : World) : (binOp .neq 203 (.iface 142 v) .nilIface).run Tryz.prog w = .ok (.bool true) w := by
  have h := eqIIn_qput w 9999 v
  simp only [binOp]
  simp [Op.equal, Op.maxDepth, h]
theorem isdone_qput (w : World) (x : Nat) (nx : Option Addr) (hc : w.cell? ⟨x, 1, none⟩ = some (.pointer nx)) :
    Calls Tryz.prog 150 #[.iface 142 (.pointer (some ⟨x, 0, none⟩))] w fun e w' => e = .returned (.bool nx.isNone) ∧ w = w' := by
  have h1 := isD_qput
  have h2 := eqI_qput
  have hD := done_qput w x nx hc
  go_enter Tryz.func150, Tryz.ntmps150
  go_wp2_with fail
  go_at_call 334; refine hD.mono ?_; rintro e w1 ⟨rfl, rfl⟩
  go_wp2_with fail
  go_ret
  exact ⟨rfl, rfl⟩

theorem frun0_qput (w : World) (c x : Nat) (cs : Array Value) (T : TypeId) (fv : Value) (nx : Addr) (h : Blk w c cs T) (hs : 2 ≤ cs.size) (hf : Fv fv) (hxc : x ≠ c) (hx : w.cell? ⟨x, 1, none⟩ = some (.pointer (some nx))) :
    Calls Tryz.prog 98 #[.pointer (some ⟨c, 0, none⟩), .iface 142 (.pointer (some ⟨x, 0, none⟩)), fv] w fun e w' => (∃ v, e = .returned v) ∧ ∃ q g, CameBox w w' c cs T (fun v => comCells 0 0 0 0 0 false (.iface 142 (.pointer (some ⟨x, 0, none⟩))) v false false) fv q g := by
  have c1 := h.cell 1 (Array.getElem?_eq_getElem (by omega))
  have f1 := h.fro 1
  have hlt := h.lt
  have h1 := h.set 1 (.pointer none)
  have c2 := h1.cell 1 (v := .pointer none) (by rw [Array.getElem?_setIfInBounds, if_pos rfl, if_pos (by omega)])
  have f2 := h1.fro 1
  have hB1 : But [c] w (w.setCell ⟨c, 1, none⟩ (.pointer none)) := (But.refl _ w).set (g := c) (.inl (by simp)) 1 _
  have hsz : (w.setCell ⟨c, 1, none⟩ (.pointer none)).heap.size = w.heap.size := size_set _ _ _
  have hD := isdone_qput (w.setCell ⟨c, 1, none⟩ (.pointer none)) x (some nx) (by
    rw [show (w.setCell ⟨c, 1, none⟩ (.pointer none)).cell? ⟨x, 1, none⟩ = w.cell? ⟨x, 1, none⟩ by simp only [World.cell?]; rw [heap_set_ne w hxc 1 _]]
    exact hx)
  have hU := fun w => untold_any w fv hf
  have HH : Hid (Blk (w.setCell ⟨c, 1, none⟩ (.pointer none)) c (cs.setIfInBounds 1 (.pointer none)) T ∧ But [c] w (w.setCell ⟨c, 1, none⟩ (.pointer none))) := ⟨h1, hB1⟩
  clear h h1 hB1 hx
  go_enter Tryz.func98, Tryz.ntmps98
  go_wp2_with fail
  generalize w.setCell ⟨c, 1, none⟩ (.pointer none) = W at *
  go_at_call 150; refine hD.mono ?_; rintro e w1 ⟨rfl, rfl⟩
  go_wp2_with fail
  go_at_call 140; refine (hU _).mono ?_; rintro e w2 ⟨rfl, rfl⟩
  have hg := Blk.new W #[fv] 1
  have hW2 : Blk (W.alloc (.cells #[fv] 1)) c (cs.setIfInBounds 1 (.pointer none)) T := HH.out.1.al _
  have hsz2 : Hid ((W.alloc (.cells #[fv] 1)).heap.size = w.heap.size + 1) := (by rw [World.size_alloc, hsz] : (W.alloc (.cells #[fv] 1)).heap.size = w.heap.size + 1)
  have hB2 : But [c] w (W.alloc (.cells #[fv] 1)) := HH.out.2.alloc _
  rw [hsz] at hg ⊢
  have HG : Hid (Blk (W.alloc (.cells #[fv] 1)) w.heap.size #[fv] 1 ∧ Blk (W.alloc (.cells #[fv] 1)) c (cs.setIfInBounds 1 (.pointer none)) T ∧ But [c] w (W.alloc (.cells #[fv] 1))) := ⟨hg, hW2, hB2⟩
  have c3 := hW2.cell 1 (v := .pointer none) (by rw [Array.getElem?_setIfInBounds, if_pos rfl, if_pos (by omega)])
  have f3 := hW2.fro 1
  clear hD hU c1 f1 c2 f2 hg hW2 hB2
  generalize W.alloc (.cells #[fv] 1) = W2 at *
  have hlt2 : c < W2.heap.size := by have := hsz2.out; omega
  clear hsz HH
  go_wp2_with fail
  go_end0
  obtain ⟨g1, g2, g3⟩ := HG.out
  have hsz2 := hsz2.out
  refine ⟨⟨_, rfl⟩, W2.heap.size, w.heap.size, ⟨⟨by omega, ?_, ?_, ?_⟩, Nat.le_refl _, ?_, by omega⟩⟩
  · have := (g2.set 1 (.pointer (some ⟨W2.heap.size, 0, none⟩))).al (.cells (comCells 0 0 0 0 0 false (.iface 142 (.pointer (some ⟨x, 0, none⟩))) (.func (.func 175) #[] #[.pointer (some ⟨w.heap.size, 0, none⟩)]) false false) 205)
    rw [set_twice] at this
    exact this
  · have := Blk.new (W2.setCell ⟨c, 1, none⟩ (.pointer (some ⟨W2.heap.size, 0, none⟩))) (comCells 0 0 0 0 0 false (.iface 142 (.pointer (some ⟨x, 0, none⟩))) (.func (.func 175) #[] #[.pointer (some ⟨w.heap.size, 0, none⟩)]) false false) 205
    rw [size_set] at this
    exact this
  · exact (g3.set (g := c) (.inl (by simp)) 1 _).alloc _
  · exact (g1.setne (by omega) 1 _).al _

theorem act0_qput (w : World) (q cm x : Nat) (who : Int) (thn : Value) (z : Bool) (Mw : World → Prop) (hq : Blk w q (comCells 0 0 0 0 0 false (.iface 142 (.pointer (some ⟨x, 0, none⟩))) thn false false) 205)
    (hS : ∀ W, But [q] w W → Blk W q (comCells 0 0 0 0 0 false (.iface 142 (.pointer (some ⟨x, 0, none⟩))) thn false true) 205 → Calls Tryz.prog 335 #[.pointer (some ⟨x, 0, none⟩), .pointer (some ⟨cm, 0, none⟩)] W fun e w' => e = .returned (.bool z) ∧ Blk w' q (comCells 0 0 0 0 0 false (.iface 142 (.pointer (some ⟨x, 0, none⟩))) thn false true) 205 ∧ Mw w') :
    Calls Tryz.prog 139 #[.pointer (some ⟨q, 0, none⟩), .int .i64 who, .pointer (some ⟨cm, 0, none⟩)] w fun e w' => e = .returned (.tuple #[.int .u64 0, .bool z]) ∧ ∃ w1, Mw w1 ∧ Blk w1 q (comCells 0 0 0 0 0 false (.iface 142 (.pointer (some ⟨x, 0, none⟩))) thn false true) 205 ∧ w' = w1.setCell ⟨q, 9, none⟩ (.bool false) := by
  have hn := neqI_qput
  have hbm := Blk.new w #[.pointer (some ⟨cm, 0, none⟩)] 31
  have hq1 := hq.al (.cells #[.pointer (some ⟨cm, 0, none⟩)] 31)
  have hqlt := hq.lt
  have k6 := hq1.cell 6 (v := .iface 142 (.pointer (some ⟨x, 0, none⟩))) rfl
  have hask : Calls Tryz.prog 172 #[.pointer (some ⟨q, 0, none⟩), .func (.func 173) #[] #[.pointer (some ⟨w.heap.size, 0, none⟩)]] (w.alloc (.cells #[.pointer (some ⟨cm, 0, none⟩)] 31)) fun e w' => e = .returned (.bool z) ∧ ∃ w1, Mw w1 ∧ Blk w1 q (comCells 0 0 0 0 0 false (.iface 142 (.pointer (some ⟨x, 0, none⟩))) thn false true) 205 ∧ w' = w1.setCell ⟨q, 9, none⟩ (.bool false) := by
    have hne : w.heap.size ≠ q := by omega
    have k9 := hq1.cell 9 (v := .bool false) rfl
    have f9 := hq1.fro 9
    have hq2 := hq1.set 9 (.bool true)
    have l6 := hq2.cell 6 (v := .iface 142 (.pointer (some ⟨x, 0, none⟩))) rfl
    have hb2 := hbm.setne hne 9 (.bool true)
    have b0 := hb2.cell 0 (v := .pointer (some ⟨cm, 0, none⟩)) rfl
    have hst := hS ((w.alloc (.cells #[.pointer (some ⟨cm, 0, none⟩)] 31)).setCell ⟨q, 9, none⟩ (.bool true)) (((But.refl [q] w).alloc _).set (g := q) (.inl (by simp)) 9 _) hq2
    have hrun : Calls Tryz.prog 173 #[.iface 142 (.pointer (some ⟨x, 0, none⟩)), .pointer (some ⟨w.heap.size, 0, none⟩)] ((w.alloc (.cells #[.pointer (some ⟨cm, 0, none⟩)] 31)).setCell ⟨q, 9, none⟩ (.bool true)) fun e w' => e = .returned (.bool z) ∧ Blk w' q (comCells 0 0 0 0 0 false (.iface 142 (.pointer (some ⟨x, 0, none⟩))) thn false true) 205 ∧ Mw w' := by
      clear hS hq hbm hq1 k6 k9 f9 hq2 l6 hb2 hqlt hne
      generalize (w.alloc (.cells #[.pointer (some ⟨cm, 0, none⟩)] 31)).setCell ⟨q, 9, none⟩ (.bool true) = W at *
      go_enter Tryz.func173, Tryz.ntmps173
      go_wp2_with fail
      go_at_call 335; refine hst.mono ?_; rintro e w1 ⟨rfl, h1, h2⟩
      go_wp2_with fail
      go_ret
      exact ⟨rfl, h1, h2⟩
    clear hS hq hbm hq1 hq2 hb2 hst b0 hqlt
    go_enter Tryz.func172, Tryz.ntmps172
    go_wp2_with fail
    generalize (w.alloc (.cells #[.pointer (some ⟨cm, 0, none⟩)] 31)).setCell ⟨q, 9, none⟩ (.bool true) = W at *
    go_at_call 173; refine hrun.mono ?_; rintro e w1 ⟨rfl, h1, h2⟩
    have m9 := h1.cell 9 (v := .bool true) rfl
    have g9 := h1.fro 9
    clear hrun l6 k9 f9 k6
    go_wp2_with fail
    go_ret
    exact ⟨rfl, w1, h2, h1, rfl⟩
  clear hS hq hq1 hbm
  go_enter Tryz.func139, Tryz.ntmps139
  go_wp2_with fail
  generalize w.alloc (.cells #[.pointer (some ⟨cm, 0, none⟩)] 31) = W at *
  go_at_call 172; refine hask.mono ?_; rintro e w1 ⟨rfl, h1⟩
  clear hask k6
  go_wp2_with fail
  go_returns
  exact ⟨rfl, h1⟩

theorem frun_qput : RunCome 142 := fun w c y cs T fv nx h hs hf hyc hx => frun0_qput w c y cs T fv nx h hs hf hyc hx
theorem act_qput : ActRun 142 335 := fun w q cm y g who z Mw hq hS => act0_qput w q cm y who _ z Mw hq hS
end Go.Proofs.YtfdpikkinlljlaaGreat

namespace Go.Proofs.YtfdpikkinlljlaaGreat
open Go Go.RowKit
set_option linter.unusedVariables false
set_option maxRecDepth 100000
set_option linter.unusedSimpArgs false


end Go.Proofs.YtfdpikkinlljlaaGreat

namespace Go.Proofs.YtfdpikkinlljlaaGreat
open Go Go.RowKit
set_option linter.unusedVariables false
set_option maxRecDepth 100000
set_option linter.unusedSimpArgs false

def rpCells (who : Int) (nx : Option Addr) (cl : Nat) (p g : Int) (has : Bool) (nt hd tl : Int) (rest : List Value) : Array Value := (.int .i64 who :: .pointer nx :: .pointer (some ⟨cl, 0, none⟩) :: .int .i64 p :: .int .i64 g :: .bool has :: .int .u64 nt :: .int .u64 hd :: .int .u64 tl :: rest).toArray
def rpw (g : Int) : Int := IntKind.u64.wrap (IntKind.u64.wrap g + 1)
section
variable {who : Int} {nx : Option Addr} {cl : Nat} {p g : Int} {has : Bool} {nt hd tl : Int} {rest : List Value}
theorem rp_size : 2 ≤ (rpCells who nx cl p g has nt hd tl rest).size := by simp [rpCells]
theorem rp_c0 : (rpCells who nx cl p g has nt hd tl rest)[0]? = some (.int .i64 who) := by simp [rpCells]
theorem rp_c1 : (rpCells who nx cl p g has nt hd tl rest)[1]? = some (.pointer nx) := by simp [rpCells]
theorem rp_c2 : (rpCells who nx cl p g has nt hd tl rest)[2]? = some (.pointer (some ⟨cl, 0, none⟩)) := by simp [rpCells]
theorem rp_c3 : (rpCells who nx cl p g has nt hd tl rest)[3]? = some (.int .i64 p) := by simp [rpCells]
theorem rp_c4 : (rpCells who nx cl p g has nt hd tl rest)[4]? = some (.int .i64 g) := by simp [rpCells]
theorem rp_c5 : (rpCells who nx cl p g has nt hd tl rest)[5]? = some (.bool has) := by simp [rpCells]
theorem rp_c6 : (rpCells who nx cl p g has nt hd tl rest)[6]? = some (.int .u64 nt) := by simp [rpCells]
theorem rp_c7 : (rpCells who nx cl p g has nt hd tl rest)[7]? = some (.int .u64 hd) := by simp [rpCells]
theorem rp_c8 : (rpCells who nx cl p g has nt hd tl rest)[8]? = some (.int .u64 tl) := by simp [rpCells]
theorem rp_s1 (nx' : Option Addr) : (rpCells who nx cl p g has nt hd tl rest).setIfInBounds 1 (.pointer nx') = (rpCells who nx' cl p g has nt hd tl rest) := by simp [rpCells]
theorem rp_s4 (g' : Int) : (rpCells who nx cl p g has nt hd tl rest).setIfInBounds 4 (.int .i64 g') = (rpCells who nx cl p g' has nt hd tl rest) := by simp [rpCells]
theorem rp_s5 (h' : Bool) : (rpCells who nx cl p g has nt hd tl rest).setIfInBounds 5 (.bool h') = (rpCells who nx cl p g h' nt hd tl rest) := by simp [rpCells]
theorem rp_s6 (v' : Int) : (rpCells who nx cl p g has nt hd tl rest).setIfInBounds 6 (.int .u64 v') = (rpCells who nx cl p g has v' hd tl rest) := by simp [rpCells]
theorem rp_s7 (v' : Int) : (rpCells who nx cl p g has nt hd tl rest).setIfInBounds 7 (.int .u64 v') = (rpCells who nx cl p g has nt v' tl rest) := by simp [rpCells]
theorem rp_s8 (v' : Int) : (rpCells who nx cl p g has nt hd tl rest).setIfInBounds 8 (.int .u64 v') = (rpCells who nx cl p g has nt hd v' rest) := by simp [rpCells]
end
section
variable (w : World) (x cl : Nat) (who p g P T G nt hd tl : Int) (has : Bool) (rest : List Value) (nx : Option Addr) (hB : Blk w x (rpCells who nx cl p g has nt hd tl rest) 249) (hl : Lay w cl P T G) (hp : 0 ≤ P ∧ P ≤ 64)
include hB hl hp
theorem rp_proc (f : Int) (hf : 0 ≤ f ∧ f < 8) : Calls Tryz.prog 214 #[.pointer (some ⟨x, 0, none⟩), .int .i64 f] w fun e w' => e = .returned (.int .i64 (wd 20 P 264 p f)) ∧ Below w.heap.size w w' := by
  have c2 := hB.cell 2 rp_c2
  have c3 := hB.cell 3 rp_c3
  have hPr := lprc_any (some ⟨cl, 0, none⟩) P T G p f w.drew (.some cl (hl.below ((Below.refl _ _).drew) hl.lt)) hp hf
  have hD : Hid (Below w.heap.size w w.drew) := (Below.refl _ _).drew
  generalize wd 20 P 264 p f = at' at *
  clear hB hl hp hf
  go_enter Tryz.func214, Tryz.ntmps214
  go_wp2_with fail
  go_region_with (first | (go_at_call 108; refine hPr.mono ?_; rintro e w4 ⟨rfl, k⟩))
  all_goals
    have hF : Hid (Below w.heap.size w w4) := hD.out.trans (k.mono hD.out.size)
    clear hPr k c2 c3
    go_wp2_with fail
    go_ret
    exact ⟨rfl, hF.out⟩
omit hl hp in
theorem rp_word : Calls Tryz.prog 230 #[.pointer (some ⟨x, 0, none⟩)] w fun e w' => e = .returned (.int .u64 (rpw g)) ∧ w = w' := by
  have c4 := hB.cell 4 rp_c4
  clear hB
  go_enter Tryz.func230, Tryz.ntmps230
  go_wp2_with fail
  go_ret
  exact ⟨rfl, rfl⟩
theorem rp_lookNext : Calls Tryz.prog 196 #[.pointer (some ⟨x, 0, none⟩)] w fun e w' => (∃ v, e = .returned v) ∧ Came w w' x (rpCells who nx cl p g has nt hd tl rest) 249 (axLd (wd 20 P 264 p 3)) (.told 215) := by
  have hPr := rp_proc w.drew x cl who p g P T G nt hd tl has rest nx hB.drew (hl.below ((Below.refl _ _).drew) hl.lt) hp 3 (by omega)
  have HS : Hid (∀ w4, Below w.drew.heap.size w.drew w4 → Calls Tryz.prog 67 #[.pointer (some ⟨x, 0, none⟩), .int .i64 (wd 20 P 264 p 3), .func (.func 215) #[.pointer (some ⟨x, 0, none⟩)] #[]] w4 fun e w' => (∃ v, e = .returned v) ∧ Came w w' x (rpCells who nx cl p g has nt hd tl rest) 249 (axLd (wd 20 P 264 p 3)) (.told 215)) := by
    intro w4 k
    have h4 : Blk w4 x (rpCells who nx cl p g has nt hd tl rest) 249 := hB.drew.but (But.of_below (l := []) k) (by simp)
    refine (came_load w4 x _ 249 h4 rp_size _ _).mono ?_
    rintro e w5 ⟨hv, hC⟩
    exact ⟨hv, hC.before ((But.refl [x] w).drew.trans (But.of_below k))⟩
  generalize wd 20 P 264 p 3 = at' at *
  clear hB hl hp
  go_enter Tryz.func196, Tryz.ntmps196
  go_wp2_with fail
  go_region_with (first | (go_at_call 214; refine hPr.mono ?_; rintro e w4 ⟨rfl, k⟩) | (go_at_call 67; refine (HS.out _ k).mono ?_; rintro e w5 ⟨⟨v, rfl⟩, hC⟩))
  all_goals
    clear hPr k HS
    go_wp2_with fail
    go_end0
    exact ⟨⟨_, rfl⟩, hC⟩
theorem rp_lookHead : Calls Tryz.prog 197 #[.pointer (some ⟨x, 0, none⟩)] w fun e w' => (∃ v, e = .returned v) ∧ Came w w' x (rpCells who nx cl p g has nt hd tl rest) 249 (axLd (wd 20 P 264 p 1)) (.told 216) := by
  have hPr := rp_proc w.drew x cl who p g P T G nt hd tl has rest nx hB.drew (hl.below ((Below.refl _ _).drew) hl.lt) hp 1 (by omega)
  have HS : Hid (∀ w4, Below w.drew.heap.size w.drew w4 → Calls Tryz.prog 67 #[.pointer (some ⟨x, 0, none⟩), .int .i64 (wd 20 P 264 p 1), .func (.func 216) #[.pointer (some ⟨x, 0, none⟩)] #[]] w4 fun e w' => (∃ v, e = .returned v) ∧ Came w w' x (rpCells who nx cl p g has nt hd tl rest) 249 (axLd (wd 20 P 264 p 1)) (.told 216)) := by
    intro w4 k
    have h4 : Blk w4 x (rpCells who nx cl p g has nt hd tl rest) 249 := hB.drew.but (But.of_below (l := []) k) (by simp)
    refine (came_load w4 x _ 249 h4 rp_size _ _).mono ?_
    rintro e w5 ⟨hv, hC⟩
    exact ⟨hv, hC.before ((But.refl [x] w).drew.trans (But.of_below k))⟩
  generalize wd 20 P 264 p 1 = at' at *
  clear hB hl hp
  go_enter Tryz.func197, Tryz.ntmps197
  go_wp2_with fail
  go_region_with (first | (go_at_call 214; refine hPr.mono ?_; rintro e w4 ⟨rfl, k⟩) | (go_at_call 67; refine (HS.out _ k).mono ?_; rintro e w5 ⟨⟨v, rfl⟩, hC⟩))
  all_goals
    clear hPr k HS
    go_wp2_with fail
    go_end0
    exact ⟨⟨_, rfl⟩, hC⟩
theorem rp_lookTail (v : Int) (hxc : cl ≠ x) : Calls Tryz.prog 216 #[.pointer (some ⟨x, 0, none⟩), .int .u64 v] w fun e w' => (∃ v, e = .returned v) ∧ Came w w' x (rpCells who nx cl p g has nt v tl rest) 249 (axLd (wd 20 P 264 p 2)) (.told 232) := by
  have c7 := hB.cell 7 rp_c7
  have hlt := hB.lt
  have f7 := hB.fro 7
  have hB' : Blk (w.setCell ⟨x, 7, none⟩ (.int .u64 v)) x (rpCells who nx cl p g has nt v tl rest) 249 := by
    have := hB.set 7 (.int .u64 v)
    rw [rp_s7] at this
    exact this
  have hU : But [x] w (w.setCell ⟨x, 7, none⟩ (.int .u64 v)) := (But.refl _ w).set (g := x) (.inl (by simp)) 7 _
  have hl' : Lay (w.setCell ⟨x, 7, none⟩ (.int .u64 v)) cl P T G := (hU.block cl hl.lt (by simpa using hxc)).trans hl
  generalize hV : w.setCell ⟨x, 7, none⟩ (.int .u64 v) = V at hB' hU hl'
  have hPr := rp_proc V.drew x cl who p g P T G nt v tl has rest nx hB'.drew (hl'.below ((Below.refl _ _).drew) hl'.lt) hp 2 (by omega)
  have HS : Hid (∀ w4, Below V.drew.heap.size V.drew w4 → Calls Tryz.prog 67 #[.pointer (some ⟨x, 0, none⟩), .int .i64 (wd 20 P 264 p 2), .func (.func 232) #[.pointer (some ⟨x, 0, none⟩)] #[]] w4 fun e w' => (∃ v, e = .returned v) ∧ Came w w' x (rpCells who nx cl p g has nt v tl rest) 249 (axLd (wd 20 P 264 p 2)) (.told 232)) := by
    intro w4 k
    have h4 : Blk w4 x (rpCells who nx cl p g has nt v tl rest) 249 := hB'.drew.but (But.of_below (l := []) k) (by simp)
    refine (came_load w4 x _ 249 h4 rp_size _ _).mono ?_
    rintro e w5 ⟨hv, hC⟩
    exact ⟨hv, hC.before (hU.drew.trans (But.of_below k))⟩
  generalize wd 20 P 264 p 2 = at' at *
  clear hB hB' hU hl' hl hp hxc
  go_enter Tryz.func216, Tryz.ntmps216
  go_wp2_with fail
  try rw [hV]
  clear hV c7 f7
  go_region_with (first | (go_at_call 214; refine hPr.mono ?_; rintro e w4 ⟨rfl, k⟩) | (go_at_call 67; refine (HS.out _ k).mono ?_; rintro e w5 ⟨⟨v, rfl⟩, hC⟩))
  all_goals
    clear hPr k HS
    go_wp2_with fail
    go_end0
    exact ⟨⟨_, rfl⟩, hC⟩
set_option maxHeartbeats 2000000 in
theorem rp_replace (v : Int) (hxc : cl ≠ x) : Calls Tryz.prog 215 #[.pointer (some ⟨x, 0, none⟩), .int .u64 v] w fun e w' => (∃ v, e = .returned v) ∧ Came w w' x (rpCells who nx cl p g has v hd tl rest) 249 (axSw (wd 20 P 264 p 3) v (rpw g)) (.swap 231) := by
  have c6 := hB.cell 6 rp_c6
  have hlt := hB.lt
  have f6 := hB.fro 6
  have hB' : Blk (w.setCell ⟨x, 6, none⟩ (.int .u64 v)) x (rpCells who nx cl p g has v hd tl rest) 249 := by
    have := hB.set 6 (.int .u64 v)
    rw [rp_s6] at this
    exact this
  have hU : But [x] w (w.setCell ⟨x, 6, none⟩ (.int .u64 v)) := (But.refl _ w).set (g := x) (.inl (by simp)) 6 _
  have hl' : Lay (w.setCell ⟨x, 6, none⟩ (.int .u64 v)) cl P T G := (hU.block cl hl.lt (by simpa using hxc)).trans hl
  generalize hV : w.setCell ⟨x, 6, none⟩ (.int .u64 v) = V at hB' hU hl'
  have HPr : Hid (∀ Y, Below V.drew.heap.size V.drew Y → Calls Tryz.prog 214 #[.pointer (some ⟨x, 0, none⟩), .int .i64 3] Y fun e w' => e = .returned (.int .i64 (wd 20 P 264 p 3)) ∧ Below V.drew.heap.size V.drew w') := fun Y k => (rp_proc Y x cl who p g P T G v hd tl has rest nx (hB'.drew.but (But.of_below (l := []) k) (by simp)) (Lay.below (w := V.drew) hl' k hl'.lt) hp 3 (by omega)).mono fun e w' hh => ⟨hh.1, k.trans (hh.2.mono k.size)⟩
  have HW : Hid (∀ Y, Below V.drew.heap.size V.drew Y → Calls Tryz.prog 230 #[.pointer (some ⟨x, 0, none⟩)] Y fun e w' => e = .returned (.int .u64 (rpw g)) ∧ Y = w') := fun Y k => rp_word Y x cl who p g v hd tl has rest nx (hB'.drew.but (But.of_below (l := []) k) (by simp))
  have HS : Hid (∀ w4, Below V.drew.heap.size V.drew w4 → Calls Tryz.prog 164 #[.pointer (some ⟨x, 0, none⟩), .int .i64 (wd 20 P 264 p 3), .int .u64 v, .int .u64 (rpw g), .func (.func 231) #[.pointer (some ⟨x, 0, none⟩)] #[]] w4 fun e w' => (∃ v, e = .returned v) ∧ Came w w' x (rpCells who nx cl p g has v hd tl rest) 249 (axSw (wd 20 P 264 p 3) v (rpw g)) (.swap 231)) := by
    intro w4 k
    have h4 : Blk w4 x (rpCells who nx cl p g has v hd tl rest) 249 := hB'.drew.but (But.of_below (l := []) k) (by simp)
    refine (came_swap w4 x _ 249 h4 rp_size _ _ _ _).mono ?_
    rintro e w5 ⟨hv, hC⟩
    exact ⟨hv, hC.before (hU.drew.trans (But.of_below k))⟩
  have hD : Hid (Below V.drew.heap.size V.drew V.drew) := Below.refl _ _
  generalize wd 20 P 264 p 3 = at' at *
  generalize rpw g = gv at *
  clear hB hB' hU hl' hl hp hxc
  go_enter Tryz.func215, Tryz.ntmps215
  go_wp2_with fail
  try rw [hV]
  clear hV c6 f6
  go_region_with (first | (go_at_call 214; refine (HPr.out _ hD.out).mono ?_; rintro e w4 ⟨rfl, k⟩) | (go_at_call 230; refine (HW.out _ (by first | exact k | exact hD.out)).mono ?_; rintro e w6 ⟨rfl, rfl⟩) | (go_at_call 164; refine (HS.out _ k).mono ?_; rintro e w5 ⟨⟨v, rfl⟩, hC⟩))
  all_goals
    clear HPr HW k HS hD
    go_wp2_with fail
    go_end0
    exact ⟨⟨_, rfl⟩, hC⟩
theorem rp_replaced_no : Calls Tryz.prog 231 #[.pointer (some ⟨x, 0, none⟩), .bool false] w fun e w' => (∃ v, e = .returned v) ∧ Came w w' x (rpCells who nx cl p g has nt hd tl rest) 249 (axLd (wd 20 P 264 p 3)) (.told 215) := by
  have H := rp_lookNext w x cl who p g P T G nt hd tl has rest nx hB hl hp
  clear hB hl hp
  go_enter Tryz.func231, Tryz.ntmps231
  go_wp2_with fail
  go_at_call 196; refine H.mono ?_; rintro e w1 ⟨⟨v, rfl⟩, hC⟩
  clear H
  go_wp2_with fail
  go_end0
  exact ⟨⟨_, rfl⟩, hC⟩
omit hl hp in
theorem rp_replaced_none (h0 : nt = 0) : Calls Tryz.prog 231 #[.pointer (some ⟨x, 0, none⟩), .bool true] w fun e w' => (∃ v, e = .returned v) ∧ Blk w' x (rpCells who nx cl p g false nt hd tl rest) 249 ∧ But [x] w w' := by
  have c6 := hB.cell 6 rp_c6
  rw [h0] at c6
  have c5 := hB.cell 5 rp_c5
  have f5 := hB.fro 5
  have hlt := hB.lt
  have HF : Hid (Blk (w.setCell ⟨x, 5, none⟩ (.bool false)) x (rpCells who nx cl p g false nt hd tl rest) 249 ∧ But [x] w (w.setCell ⟨x, 5, none⟩ (.bool false))) := ⟨by
    have := hB.set 5 (.bool false)
    rw [rp_s5] at this
    exact this, (But.refl [x] w).set (g := x) (.inl (by simp)) 5 (.bool false)⟩
  clear hB
  go_enter Tryz.func231, Tryz.ntmps231
  go_wp2_with fail
  go_end0
  exact ⟨⟨_, rfl⟩, HF.out⟩
theorem rp_replaced_some (h0 : nt ≠ 0) (hxc : cl ≠ x) : Calls Tryz.prog 231 #[.pointer (some ⟨x, 0, none⟩), .bool true] w fun e w' => (∃ v, e = .returned v) ∧ Came w w' x (rpCells who nx cl p (gw nt) has nt hd tl rest) 249 (axLd (wd 20 P 264 p 1)) (.told 216) := by
  have hd0 : (nt == 0) = false := by simpa using h0
  have c6 := hB.cell 6 rp_c6
  have c4 := hB.cell 4 rp_c4
  obtain ⟨y, hy⟩ : ∃ y, IntKind.u64.wrap (nt - 1) = y := ⟨_, rfl⟩
  obtain ⟨gx, hgx⟩ : ∃ gx, IntKind.i64.wrap y = gx := ⟨_, rfl⟩
  have hgw : gw nt = gx := by unfold gw; rw [hy, hgx]
  rw [hgw]
  have hlt := hB.lt
  have f4 := hB.fro 4
  have hB' : Blk (w.setCell ⟨x, 4, none⟩ (.int .i64 gx)) x (rpCells who nx cl p gx has nt hd tl rest) 249 := by
    have := hB.set 4 (.int .i64 gx)
    rw [rp_s4] at this
    exact this
  have hU : But [x] w (w.setCell ⟨x, 4, none⟩ (.int .i64 gx)) := (But.refl _ w).set (g := x) (.inl (by simp)) 4 _
  have hl' : Lay (w.setCell ⟨x, 4, none⟩ (.int .i64 gx)) cl P T G := (hU.block cl hl.lt (by simpa using hxc)).trans hl
  generalize hV : w.setCell ⟨x, 4, none⟩ (.int .i64 gx) = V at hB' hU hl'
  have H := rp_lookHead V x cl who p gx P T G nt hd tl has rest nx hB' hl' hp
  have HU : Hid (But [x] w V) := hU
  clear hB hB' hl' hl hp hxc hU hgw
  go_enter Tryz.func231, Tryz.ntmps231
  go_wp2_with fail
  try rw [hV]
  clear hV c4 c6 f4
  go_at_call 197; refine H.mono ?_; rintro e w1 ⟨⟨v, rfl⟩, hC⟩
  have hCb := hC.before HU.out
  clear H hC
  go_wp2_with fail
  go_end0
  exact ⟨⟨_, rfl⟩, hCb⟩
omit hl hp in
theorem rp_leave : Calls Tryz.prog 265 #[.pointer (some ⟨x, 0, none⟩)] w fun e w' => (∃ v, e = .returned v) ∧ Blk w' x (rpCells who nx cl p g false nt hd tl rest) 249 ∧ But [x] w w' := by
  have c5 := hB.cell 5 rp_c5
  have f5 := hB.fro 5
  have hlt := hB.lt
  have HF : Hid (Blk (w.setCell ⟨x, 5, none⟩ (.bool false)) x (rpCells who nx cl p g false nt hd tl rest) 249 ∧ But [x] w (w.setCell ⟨x, 5, none⟩ (.bool false))) := ⟨by
    have := hB.set 5 (.bool false)
    rw [rp_s5] at this
    exact this, (But.refl [x] w).set (g := x) (.inl (by simp)) 5 (.bool false)⟩
  clear hB
  go_enter Tryz.func265, Tryz.ntmps265
  go_wp2_with fail
  go_end0
  exact ⟨⟨_, rfl⟩, HF.out⟩
end
end Go.Proofs.YtfdpikkinlljlaaGreat

namespace Go.Proofs.YtfdpikkinlljlaaGreat
open Go Go.RowKit
set_option linter.unusedVariables false
set_option maxRecDepth 100000
set_option linter.unusedSimpArgs false

/-- The cells behind Tail: what is given, how many are loaded, what puts them. -/
def rpRest (gv : List Int) (ld : Int) (qu : Option Addr) : List Value := gv.map (Value.int .i64) ++ [.int .i64 ld, .pointer qu]
section
variable {who : Int} {nx : Option Addr} {cl : Nat} {p g : Int} {has : Bool} {nt hd tl : Int} {gv : List Int} {ld : Int} {qu : Option Addr} (h : gv.length = 128)
include h
theorem rp_c137 : (rpCells who nx cl p g has nt hd tl (rpRest gv ld qu))[137]? = some (.int .i64 ld) := by
  unfold rpCells
  rw [List.getElem?_toArray]
  show (rpRest gv ld qu)[128]? = _
  unfold rpRest
  rw [List.getElem?_append_right (by simp [h])]
  simp [h]
theorem rp_c138 : (rpCells who nx cl p g has nt hd tl (rpRest gv ld qu))[138]? = some (.pointer qu) := by
  unfold rpCells
  rw [List.getElem?_toArray]
  show (rpRest gv ld qu)[129]? = _
  unfold rpRest
  rw [List.getElem?_append_right (by simp [h])]
  simp [h]
theorem rp_given (k : Nat) (hk : k < 128) : (rpCells who nx cl p g has nt hd tl (rpRest gv ld qu))[9 + k]? = some (.int .i64 (gv.getD k 0)) := by
  unfold rpCells
  rw [List.getElem?_toArray, Nat.add_comm]
  show (rpRest gv ld qu)[k]? = _
  unfold rpRest
  rw [List.getElem?_append_left (by simp [h]; omega), List.getElem?_map, List.getElem?_eq_getElem (by omega), List.getD_eq_getElem?_getD, List.getElem?_eq_getElem (by omega)]
  rfl
theorem rp_s137 (l' : Int) : (rpCells who nx cl p g has nt hd tl (rpRest gv ld qu)).setIfInBounds 137 (.int .i64 l') = (rpCells who nx cl p g has nt hd tl (rpRest gv l' qu)) := by
  unfold rpCells
  rw [List.setIfInBounds_toArray]
  congr 1
  show _ :: _ :: _ :: _ :: _ :: _ :: _ :: _ :: _ :: (rpRest gv ld qu).set 128 _ = _
  unfold rpRest
  rw [List.set_append_right _ _ (by simp [h])]
  simp [h]
theorem rp_s138 (q' : Option Addr) : (rpCells who nx cl p g has nt hd tl (rpRest gv ld qu)).setIfInBounds 138 (.pointer q') = (rpCells who nx cl p g has nt hd tl (rpRest gv ld q')) := by
  unfold rpCells
  rw [List.setIfInBounds_toArray]
  congr 1
  show _ :: _ :: _ :: _ :: _ :: _ :: _ :: _ :: _ :: (rpRest gv ld qu).set 129 _ = _
  unfold rpRest
  rw [List.set_append_right _ _ (by simp [h])]
  simp [h]
theorem rp_sgiven (k : Nat) (hk : k < 128) (v : Int) : (rpCells who nx cl p g has nt hd tl (rpRest gv ld qu)).setIfInBounds (9 + k) (.int .i64 v) = (rpCells who nx cl p g has nt hd tl (rpRest (gv.set k v) ld qu)) := by
  unfold rpCells
  rw [List.setIfInBounds_toArray, Nat.add_comm 9 k]
  congr 1
  show _ :: _ :: _ :: _ :: _ :: _ :: _ :: _ :: _ :: (rpRest gv ld qu).set k _ = _
  unfold rpRest
  rw [List.set_append_left _ _ (by simp [h]; omega), List.map_set]
end
section
variable (w : World) (x cl : Nat) (who p g P T G nt hd tl : Int) (has : Bool) (gv : List Int) (ld : Int) (qu nx : Option Addr) (hB : Blk w x (rpCells who nx cl p g has nt hd tl (rpRest gv ld qu)) 249) (hl : Lay w cl P T G) (hp : 0 ≤ P ∧ P ≤ 64)
include hB hl hp
set_option maxHeartbeats 2000000 in
theorem rp_lengthen (htb : 0 ≤ tl ∧ tl ≤ 18446744073709551615) : Calls Tryz.prog 249 #[.pointer (some ⟨x, 0, none⟩)] w fun e w' => (∃ v, e = .returned v) ∧ Came w w' x (rpCells who nx cl p g has nt hd tl (rpRest gv ld qu)) 249 (axSt (wd 20 P 264 p 2) ((tl + 1) % 4294967296)) (.untold 265) := by
  have c8 := hB.cell 8 rp_c8
  obtain ⟨a, ha⟩ : ∃ a, IntKind.u64.wrap (tl + 1) = a := ⟨_, rfl⟩
  have ha0 : 0 ≤ a ∧ a ≤ 18446744073709551615 := by rw [← ha]; simp [IntKind.wrap, IntKind.bits, IntKind.signed] <;> omega
  have e1 : a.tmod 4294967296 = (tl + 1) % 4294967296 := by
    rw [Int.tmod_eq_emod_of_nonneg ha0.1, ← ha]; simp [IntKind.wrap, IntKind.bits, IntKind.signed] <;> omega
  have e2 : IntKind.u64.wrap ((tl + 1) % 4294967296) = (tl + 1) % 4294967296 := wrap_u64 (by omega)
  have hPr := rp_proc w.drew x cl who p g P T G nt hd tl has (rpRest gv ld qu) nx hB.drew (hl.below ((Below.refl _ _).drew) hl.lt) hp 2 (by omega)
  generalize hh1 : (tl + 1) % 4294967296 = h1 at *
  have HS : Hid (∀ w4, Below w.drew.heap.size w.drew w4 → Calls Tryz.prog 88 #[.pointer (some ⟨x, 0, none⟩), .int .i64 (wd 20 P 264 p 2), .int .u64 h1, .func (.func 265) #[.pointer (some ⟨x, 0, none⟩)] #[]] w4 fun e w' => (∃ v, e = .returned v) ∧ Came w w' x (rpCells who nx cl p g has nt hd tl (rpRest gv ld qu)) 249 (axSt (wd 20 P 264 p 2) h1) (.untold 265)) := by
    intro w4 k
    have h4 : Blk w4 x (rpCells who nx cl p g has nt hd tl (rpRest gv ld qu)) 249 := hB.drew.but (But.of_below (l := []) k) (by simp)
    refine (came_store w4 x _ 249 h4 rp_size _ _ _).mono ?_
    rintro e w5 ⟨hv, hC⟩
    exact ⟨hv, hC.before ((But.refl [x] w).drew.trans (But.of_below k))⟩
  have hH : Hid (w.drew.cell? ⟨x, 8, none⟩ = some (.int .u64 tl)) := c8
  have KB : Hid (∀ w4, Below w.drew.heap.size w.drew w4 → w4.cell? ⟨x, 8, none⟩ = some (.int .u64 tl)) := fun w4 k => (hB.drew.but (But.of_below (l := []) k) (by simp)).cell 8 rp_c8
  generalize wd 20 P 264 p 2 = at' at *
  have KC : Hid (∀ w5, Came w w5 x (rpCells who nx cl p g has nt hd tl (rpRest gv ld qu)) 249 (axSt at' h1) (.untold 265) → w5.cell? ⟨x, 8, none⟩ = some (.int .u64 tl)) := fun w5 hC => by
    obtain ⟨q, Lc, g1, -⟩ := hC
    rw [rp_s1] at g1
    exact g1.cell 8 rp_c8
  clear hB hl hp hh1 ha0 htb
  go_enter Tryz.func249, Tryz.ntmps249
  go_wp2_with fail
  go_region_held3 (fun w' => w'.cell? ⟨x, 8, none⟩ = some (.int .u64 tl)) (first | exact hH.out | exact KB.out _ ‹_› | exact KC.out _ ‹_›) (first | (go_at_call 214; refine hPr.mono ?_; rintro e w4 ⟨rfl, k⟩) | (go_at_call 88; refine (HS.out _ ‹_›).mono ?_; rintro e w5 ⟨⟨v, rfl⟩, hC⟩))
  all_goals
    clear hPr k HS hH KB KC c8
    go_wp2_with fail
    go_end0
    exact ⟨⟨_, rfl⟩, hC⟩
set_option maxHeartbeats 4000000 in
theorem rp_choose_room (t : Int) (hxc : cl ≠ x) (ht : 0 ≤ t ∧ t ≤ 18446744073709551615) (hh : 0 ≤ hd ∧ hd ≤ 18446744073709551615) (hm : (t - hd) % 4294967296 < 256) : Calls Tryz.prog 232 #[.pointer (some ⟨x, 0, none⟩), .int .u64 t] w fun e w' => (∃ v, e = .returned v) ∧ Came w w' x (rpCells who nx cl p g has nt hd t (rpRest gv ld qu)) 249 (axSt (wd 20 P 264 p (8 + t % 256)) (rpw g)) (.untold 249) := by
  have c8 := hB.cell 8 rp_c8
  have hlt := hB.lt
  have f8 := hB.fro 8
  have hB' : Blk (w.setCell ⟨x, 8, none⟩ (.int .u64 t)) x (rpCells who nx cl p g has nt hd t (rpRest gv ld qu)) 249 := by
    have := hB.set 8 (.int .u64 t)
    rw [rp_s8] at this
    exact this
  have hU : But [x] w (w.setCell ⟨x, 8, none⟩ (.int .u64 t)) := (But.refl _ w).set (g := x) (.inl (by simp)) 8 _
  have hl' : Lay (w.setCell ⟨x, 8, none⟩ (.int .u64 t)) cl P T G := (hU.block cl hl.lt (by simpa using hxc)).trans hl
  generalize hV : w.setCell ⟨x, 8, none⟩ (.int .u64 t) = V at hB' hU hl'
  have c2 := hB'.cell 2 rp_c2
  have c3 := hB'.cell 3 rp_c3
  have c7 := hB'.cell 7 rp_c7
  have hM := fun w => mny_any hd t w hh ht
  have hd1 : decide ((t - hd) % 4294967296 < 256) = true := decide_eq_true hm
  have HRG : Hid (∀ Y, Below V.drew.heap.size V.drew Y → Calls Tryz.prog 163 #[.pointer (some ⟨cl, 0, none⟩), .int .i64 p, .int .u64 t] Y fun e w' => e = .returned (.int .i64 (wd 20 P 264 p (8 + t % 256))) ∧ Below V.drew.heap.size V.drew w') := fun Y k => (lrng_any (some ⟨cl, 0, none⟩) P T G p t Y (.some cl (Lay.below (w := V.drew) hl' k hl'.lt)) hp ht).mono fun e w' hh => ⟨hh.1, k.trans (hh.2.mono k.size)⟩
  have HW : Hid (∀ Y, Below V.drew.heap.size V.drew Y → Calls Tryz.prog 230 #[.pointer (some ⟨x, 0, none⟩)] Y fun e w' => e = .returned (.int .u64 (rpw g)) ∧ Y = w') := fun Y k => rp_word Y x cl who p g nt hd t has (rpRest gv ld qu) nx (hB'.drew.but (But.of_below (l := []) k) (by simp))
  have HS : Hid (∀ w4, Below V.drew.heap.size V.drew w4 → Calls Tryz.prog 88 #[.pointer (some ⟨x, 0, none⟩), .int .i64 (wd 20 P 264 p (8 + t % 256)), .int .u64 (rpw g), .func (.func 249) #[.pointer (some ⟨x, 0, none⟩)] #[]] w4 fun e w' => (∃ v, e = .returned v) ∧ Came w w' x (rpCells who nx cl p g has nt hd t (rpRest gv ld qu)) 249 (axSt (wd 20 P 264 p (8 + t % 256)) (rpw g)) (.untold 249)) := by
    intro w4 k
    have h4 : Blk w4 x (rpCells who nx cl p g has nt hd t (rpRest gv ld qu)) 249 := hB'.drew.but (But.of_below (l := []) k) (by simp)
    refine (came_store w4 x _ 249 h4 rp_size _ _ _).mono ?_
    rintro e w5 ⟨hv, hC⟩
    exact ⟨hv, hC.before (hU.drew.trans (But.of_below k))⟩
  generalize wd 20 P 264 p (8 + t % 256) = at' at *
  generalize (t - hd) % 4294967296 = mm at *
  generalize rpw g = gw' at *
  have hD : Hid (Below V.drew.heap.size V.drew V.drew) := Below.refl _ _
  have hH : Hid (V.drew.cell? ⟨x, 2, none⟩ = some (.pointer (some ⟨cl, 0, none⟩)) ∧ V.drew.cell? ⟨x, 3, none⟩ = some (.int .i64 p)) := ⟨c2, c3⟩
  have KB : Hid (∀ w4, Below V.drew.heap.size V.drew w4 → w4.cell? ⟨x, 2, none⟩ = some (.pointer (some ⟨cl, 0, none⟩)) ∧ w4.cell? ⟨x, 3, none⟩ = some (.int .i64 p)) := fun w4 k => by
    have h4 : Blk w4 x (rpCells who nx cl p g has nt hd t (rpRest gv ld qu)) 249 := hB'.drew.but (But.of_below (l := []) k) (by simp)
    exact ⟨h4.cell 2 rp_c2, h4.cell 3 rp_c3⟩
  have KC : Hid (∀ w5, Came w w5 x (rpCells who nx cl p g has nt hd t (rpRest gv ld qu)) 249 (axSt at' gw') (.untold 249) → w5.cell? ⟨x, 2, none⟩ = some (.pointer (some ⟨cl, 0, none⟩)) ∧ w5.cell? ⟨x, 3, none⟩ = some (.int .i64 p)) := fun w5 hC => by
    obtain ⟨q, Lc, h1, -⟩ := hC
    rw [rp_s1] at h1
    exact ⟨h1.cell 2 rp_c2, h1.cell 3 rp_c3⟩
  clear hB hB' hU hl' hl hp hxc ht hh hm
  go_enter Tryz.func232, Tryz.ntmps232
  go_wp2_with fail
  try rw [hV]
  clear hV c8 f8
  go_at_call 162; refine (hM _).mono ?_; rintro e w1 ⟨rfl, rfl⟩
  clear hM c7
  go_wp2_with fail
  go_region_held3 (fun w' => w'.cell? ⟨x, 2, none⟩ = some (.pointer (some ⟨cl, 0, none⟩)) ∧ w'.cell? ⟨x, 3, none⟩ = some (.int .i64 p)) (first | exact hH.out | exact KB.out _ ‹_› | exact KC.out _ ‹_›) (first | (go_at_call 163; refine (HRG.out _ hD.out).mono ?_; rintro e w4 ⟨rfl, k⟩) | (go_at_call 230; refine (HW.out _ ‹_›).mono ?_; rintro e w6 ⟨rfl, rfl⟩) | (go_at_call 88; refine (HS.out _ ‹_›).mono ?_; rintro e w7 ⟨⟨v, rfl⟩, hC⟩))
  all_goals
    clear HRG HW HS c2 c3 hH KB KC hD
    go_wp2_with fail
    refine bodyPost_ret (results_none rfl _ _ _) rfl ?_
    exact ⟨⟨_, rfl⟩, hC⟩
set_option maxHeartbeats 4000000 in
theorem rp_gather_swap (h128 : ld = 128) (hg : gv.length = 128) (hh : 0 ≤ hd ∧ hd ≤ 18446744073709551615) : Calls Tryz.prog 250 #[.pointer (some ⟨x, 0, none⟩)] w fun e w' => (∃ v, e = .returned v) ∧ Came w w' x (rpCells who nx cl p g has nt hd tl (rpRest gv ld qu)) 249 (axSw (wd 20 P 264 p 1) hd ((hd + 128) % 4294967296)) (.swap 266) := by
  have c137 := hB.cell 137 (rp_c137 hg)
  rw [h128] at c137
  have c7 := hB.cell 7 rp_c7
  obtain ⟨a, ha⟩ : ∃ a, IntKind.u64.wrap (hd + 128) = a := ⟨_, rfl⟩
  have ha0 : 0 ≤ a ∧ a ≤ 18446744073709551615 := by rw [← ha]; simp [IntKind.wrap, IntKind.bits, IntKind.signed] <;> omega
  have e1 : a.tmod 4294967296 = (hd + 128) % 4294967296 := by
    rw [Int.tmod_eq_emod_of_nonneg ha0.1, ← ha]; simp [IntKind.wrap, IntKind.bits, IntKind.signed] <;> omega
  have e2 : IntKind.u64.wrap ((hd + 128) % 4294967296) = (hd + 128) % 4294967296 := wrap_u64 (by omega)
  have hPr := rp_proc w.drew x cl who p g P T G nt hd tl has (rpRest gv ld qu) nx hB.drew (hl.below ((Below.refl _ _).drew) hl.lt) hp 1 (by omega)
  generalize hh1 : (hd + 128) % 4294967296 = h1 at *
  have HS : Hid (∀ w4, Below w.drew.heap.size w.drew w4 → Calls Tryz.prog 164 #[.pointer (some ⟨x, 0, none⟩), .int .i64 (wd 20 P 264 p 1), .int .u64 hd, .int .u64 h1, .func (.func 266) #[.pointer (some ⟨x, 0, none⟩)] #[]] w4 fun e w' => (∃ v, e = .returned v) ∧ Came w w' x (rpCells who nx cl p g has nt hd tl (rpRest gv ld qu)) 249 (axSw (wd 20 P 264 p 1) hd h1) (.swap 266)) := by
    intro w4 k
    have h4 : Blk w4 x (rpCells who nx cl p g has nt hd tl (rpRest gv ld qu)) 249 := hB.drew.but (But.of_below (l := []) k) (by simp)
    refine (came_swap w4 x _ 249 h4 rp_size _ _ _ _).mono ?_
    rintro e w5 ⟨hv, hC⟩
    exact ⟨hv, hC.before ((But.refl [x] w).drew.trans (But.of_below k))⟩
  have hH : Hid (w.drew.cell? ⟨x, 7, none⟩ = some (.int .u64 hd)) := c7
  have KB : Hid (∀ w4, Below w.drew.heap.size w.drew w4 → w4.cell? ⟨x, 7, none⟩ = some (.int .u64 hd)) := fun w4 k => (hB.drew.but (But.of_below (l := []) k) (by simp)).cell 7 rp_c7
  generalize wd 20 P 264 p 1 = at' at *
  have KC : Hid (∀ w5, Came w w5 x (rpCells who nx cl p g has nt hd tl (rpRest gv ld qu)) 249 (axSw at' hd h1) (.swap 266) → w5.cell? ⟨x, 7, none⟩ = some (.int .u64 hd)) := fun w5 hC => by
    obtain ⟨q, Lc, g1, -⟩ := hC
    rw [rp_s1] at g1
    exact g1.cell 7 rp_c7
  clear hB hl hp hh1 ha0 hh h128 hg
  go_enter Tryz.func250, Tryz.ntmps250
  go_wp2_with fail
  go_region_held3 (fun w' => w'.cell? ⟨x, 7, none⟩ = some (.int .u64 hd)) (first | exact hH.out | exact KB.out _ ‹_› | exact KC.out _ ‹_›) (first | (go_at_call 214; refine hPr.mono ?_; rintro e w4 ⟨rfl, k⟩) | (go_at_call 164; refine (HS.out _ ‹_›).mono ?_; rintro e w5 ⟨⟨v, rfl⟩, hC⟩))
  all_goals
    clear hPr k HS hH KB KC c7 c137
    go_wp2_with fail
    refine bodyPost_ret (results_none rfl _ _ _) rfl ?_
    exact ⟨⟨_, rfl⟩, hC⟩
set_option maxHeartbeats 4000000 in
theorem rp_gather_load (k : Nat) (hk : k < 128) (hld : ld = k) (hg : gv.length = 128) : Calls Tryz.prog 250 #[.pointer (some ⟨x, 0, none⟩)] w fun e w' => (∃ v, e = .returned v) ∧ Came w w' x (rpCells who nx cl p g has nt hd tl (rpRest gv ld qu)) 249 (axLd (wd 20 P 264 p (8 + IntKind.u64.wrap (hd + k) % 256))) (.told 267) := by
  have c137 := hB.cell 137 (rp_c137 hg)
  subst hld
  have c2 := hB.cell 2 rp_c2
  have c3 := hB.cell 3 rp_c3
  have c7 := hB.cell 7 rp_c7
  obtain ⟨z, hz⟩ : ∃ z, IntKind.u64.wrap (hd + k) = z := ⟨_, rfl⟩
  have hzb : 0 ≤ z ∧ z ≤ 18446744073709551615 := by rw [← hz]; generalize hd + (k : Int) = y; simp [IntKind.wrap, IntKind.bits, IntKind.signed]; omega
  rw [hz]
  have e0 : IntKind.u64.wrap (k : Int) = (k : Int) := wrap_u64 (by omega)
  have hk1 : decide ((k : Int) = 128) = false := decide_eq_false (by omega)
  have hk2 : ((k : Int) == 128) = false := by rw [beq_eq_false_iff_ne]; omega
  have hPr := lrng_any (some ⟨cl, 0, none⟩) P T G p z w.drew (.some cl (hl.below ((Below.refl _ _).drew) hl.lt)) hp hzb
  have HS : Hid (∀ w4, Below w.drew.heap.size w.drew w4 → Calls Tryz.prog 67 #[.pointer (some ⟨x, 0, none⟩), .int .i64 (wd 20 P 264 p (8 + z % 256)), .func (.func 267) #[.pointer (some ⟨x, 0, none⟩)] #[]] w4 fun e w' => (∃ v, e = .returned v) ∧ Came w w' x (rpCells who nx cl p g has nt hd tl (rpRest gv k qu)) 249 (axLd (wd 20 P 264 p (8 + z % 256))) (.told 267)) := by
    intro w4 k
    have h4 := hB.drew.but (But.of_below (l := []) k) (by simp)
    refine (came_load w4 x _ 249 h4 rp_size _ _).mono ?_
    rintro e w5 ⟨hv, hC⟩
    exact ⟨hv, hC.before ((But.refl [x] w).drew.trans (But.of_below k))⟩
  generalize wd 20 P 264 p (8 + z % 256) = at' at *
  have hH : Hid (w.drew.cell? ⟨x, 2, none⟩ = some (.pointer (some ⟨cl, 0, none⟩)) ∧ w.drew.cell? ⟨x, 3, none⟩ = some (.int .i64 p) ∧ w.drew.cell? ⟨x, 7, none⟩ = some (.int .u64 hd) ∧ w.drew.cell? ⟨x, 137, none⟩ = some (.int .i64 k)) := ⟨c2, c3, c7, c137⟩
  have KB : Hid (∀ w4, Below w.drew.heap.size w.drew w4 → (w4.cell? ⟨x, 2, none⟩ = some (.pointer (some ⟨cl, 0, none⟩)) ∧ w4.cell? ⟨x, 3, none⟩ = some (.int .i64 p) ∧ w4.cell? ⟨x, 7, none⟩ = some (.int .u64 hd) ∧ w4.cell? ⟨x, 137, none⟩ = some (.int .i64 k))) := fun w4 k4 => by
    have h4 := hB.drew.but (But.of_below (l := []) k4) (by simp)
    exact ⟨h4.cell 2 rp_c2, h4.cell 3 rp_c3, h4.cell 7 rp_c7, h4.cell 137 (rp_c137 hg)⟩
  have KC : Hid (∀ w5, Came w w5 x (rpCells who nx cl p g has nt hd tl (rpRest gv k qu)) 249 (axLd at') (.told 267) → (w5.cell? ⟨x, 2, none⟩ = some (.pointer (some ⟨cl, 0, none⟩)) ∧ w5.cell? ⟨x, 3, none⟩ = some (.int .i64 p) ∧ w5.cell? ⟨x, 7, none⟩ = some (.int .u64 hd) ∧ w5.cell? ⟨x, 137, none⟩ = some (.int .i64 k))) := fun w5 hC => by
    obtain ⟨q, Lc, h1, -⟩ := hC
    rw [rp_s1] at h1
    exact ⟨h1.cell 2 rp_c2, h1.cell 3 rp_c3, h1.cell 7 rp_c7, h1.cell 137 (rp_c137 hg)⟩
  clear hB hl hp hg hzb
  go_enter Tryz.func250, Tryz.ntmps250
  go_wp2_with fail
  go_region_held3 (fun w' => w'.cell? ⟨x, 2, none⟩ = some (.pointer (some ⟨cl, 0, none⟩)) ∧ w'.cell? ⟨x, 3, none⟩ = some (.int .i64 p) ∧ w'.cell? ⟨x, 7, none⟩ = some (.int .u64 hd) ∧ w'.cell? ⟨x, 137, none⟩ = some (.int .i64 k)) (first | exact hH.out | exact KB.out _ ‹_› | exact KC.out _ ‹_›) (first | (go_at_call 163; refine hPr.mono ?_; rintro e w4 ⟨rfl, k4⟩) | (go_at_call 67; refine (HS.out _ ‹_›).mono ?_; rintro e w5 ⟨⟨v, rfl⟩, hC⟩))
  all_goals
    clear hPr k4 HS hH KB KC c2 c3 c7 c137
    go_wp2_with fail
    go_end0
    exact ⟨⟨_, rfl⟩, hC⟩
end
end Go.Proofs.YtfdpikkinlljlaaGreat

namespace Go.Proofs.YtfdpikkinlljlaaGreat
open Go Go.RowKit
set_option linter.unusedVariables false
set_option maxRecDepth 100000
set_option linter.unusedSimpArgs false

section
variable (w : World) (x cl : Nat) (who p g P T G nt hd tl : Int) (has : Bool) (gv : List Int) (ld : Int) (qu nx : Option Addr) (hB : Blk w x (rpCells who nx cl p g has nt hd tl (rpRest gv ld qu)) 249) (hl : Lay w cl P T G) (hp : 0 ≤ P ∧ P ≤ 64)
include hB hl hp
set_option maxHeartbeats 4000000 in
theorem rp_choose_full (t : Int) (hxc : cl ≠ x) (hg : gv.length = 128) (ht : 0 ≤ t ∧ t ≤ 18446744073709551615) (hh : 0 ≤ hd ∧ hd ≤ 18446744073709551615) (hm : ¬ (t - hd) % 4294967296 < 256) : Calls Tryz.prog 232 #[.pointer (some ⟨x, 0, none⟩), .int .u64 t] w fun e w' => (∃ v, e = .returned v) ∧ Came w w' x (rpCells who nx cl p g has nt hd t (rpRest gv 0 qu)) 249 (axLd (wd 20 P 264 p (8 + IntKind.u64.wrap (hd + 0) % 256))) (.told 267) := by
  have c8 := hB.cell 8 rp_c8
  have f8 := hB.fro 8
  have hlt := hB.lt
  have hB1 : Blk (w.setCell ⟨x, 8, none⟩ (.int .u64 t)) x (rpCells who nx cl p g has nt hd t (rpRest gv ld qu)) 249 := by
    have := hB.set 8 (.int .u64 t)
    rw [rp_s8] at this
    exact this
  have c7 := hB1.cell 7 rp_c7
  have c137 := hB1.cell 137 (rp_c137 hg)
  have f137 := hB1.fro 137
  have hB2 : Blk ((w.setCell ⟨x, 8, none⟩ (.int .u64 t)).setCell ⟨x, 137, none⟩ (.int .i64 0)) x (rpCells who nx cl p g has nt hd t (rpRest gv 0 qu)) 249 := by
    have := hB1.set 137 (.int .i64 0)
    rw [rp_s137 hg] at this
    exact this
  have hU : But [x] w ((w.setCell ⟨x, 8, none⟩ (.int .u64 t)).setCell ⟨x, 137, none⟩ (.int .i64 0)) := ((But.refl _ w).set (g := x) (.inl (by simp)) 8 _).set (g := x) (.inl (by simp)) 137 _
  have hl2 := (hU.block cl hl.lt (by simpa using hxc)).trans hl
  have H := rp_gather_load _ x cl who p g P T G nt hd t has gv 0 qu nx hB2 hl2 hp 0 (by omega) rfl hg
  have HU : Hid (But [x] w ((w.setCell ⟨x, 8, none⟩ (.int .u64 t)).setCell ⟨x, 137, none⟩ (.int .i64 0))) := hU
  have hM := fun w => mny_any hd t w hh ht
  have hd1 : decide ((t - hd) % 4294967296 < 256) = false := decide_eq_false hm
  generalize (t - hd) % 4294967296 = mm at *
  generalize hV : w.setCell ⟨x, 8, none⟩ (.int .u64 t) = V at *
  generalize hV2 : V.setCell ⟨x, 137, none⟩ (.int .i64 0) = V2 at *
  have hltV : x < V.heap.size := hB1.lt
  clear hB hB1 hB2 hU hl hl2 hp hxc ht hh hm
  go_enter Tryz.func232, Tryz.ntmps232
  go_wp2_with fail
  try rw [hV]
  go_at_call 162; refine (hM _).mono ?_; rintro e w1 ⟨rfl, rfl⟩
  clear hM
  go_wp2_with fail
  try rw [hV2]
  go_at_call 250; refine H.mono ?_; rintro e w1 ⟨⟨v, rfl⟩, hC⟩
  have hCb := hC.before HU.out
  clear H hC hV hV2 c7 c8 f8 c137 f137
  go_wp2_with fail
  go_end0
  exact ⟨⟨_, rfl⟩, hCb⟩
end
section
variable (w : World) (x cl : Nat) (who p g P T G nt hd tl : Int) (has : Bool) (gv : List Int) (k : Nat) (qu nx : Option Addr) (hB : Blk w x (rpCells who nx cl p g has nt hd tl (rpRest gv k qu)) 249) (hl : Lay w cl P T G) (hp : 0 ≤ P ∧ P ≤ 64) (hk : k < 128) (hg : gv.length = 128) (hxc : cl ≠ x)
include hB hl hp hk hg hxc
omit hp in
/-- The world in which one more is kept. -/
theorem rp_kept (v : Int) : Blk (((w.setCell ⟨x, 9 + k, none⟩ (.int .i64 (gw v))).drew).setCell ⟨x, 137, none⟩ (.int .i64 ((k + 1 : Nat) : Int))) x (rpCells who nx cl p g has nt hd tl (rpRest (gv.set k (gw v)) ((k + 1 : Nat) : Int) qu)) 249 ∧ But [x] w (((w.setCell ⟨x, 9 + k, none⟩ (.int .i64 (gw v))).drew).setCell ⟨x, 137, none⟩ (.int .i64 ((k + 1 : Nat) : Int))) ∧ Lay (((w.setCell ⟨x, 9 + k, none⟩ (.int .i64 (gw v))).drew).setCell ⟨x, 137, none⟩ (.int .i64 ((k + 1 : Nat) : Int))) cl P T G := by
  have hU : But [x] w (((w.setCell ⟨x, 9 + k, none⟩ (.int .i64 (gw v))).drew).setCell ⟨x, 137, none⟩ (.int .i64 ((k + 1 : Nat) : Int))) := ((But.refl _ w).set (g := x) (.inl (by simp)) (9 + k) _).drew.set (g := x) (.inl (by simp)) 137 _
  refine ⟨?_, hU, (hU.block cl hl.lt (by simpa using hxc)).trans hl⟩
  have h1 := hB.set (9 + k) (.int .i64 (gw v))
  rw [rp_sgiven hg k hk] at h1
  have h2 := h1.drew.set 137 (.int .i64 ((k + 1 : Nat) : Int))
  rw [rp_s137 (by rw [List.length_set]; exact hg)] at h2
  exact h2
set_option maxHeartbeats 4000000 in
theorem rp_keep_on (v : Int) (hk2 : k + 1 < 128) : Calls Tryz.prog 267 #[.pointer (some ⟨x, 0, none⟩), .int .u64 v] w fun e w' => (∃ v, e = .returned v) ∧ Came w w' x (rpCells who nx cl p g has nt hd tl (rpRest (gv.set k (gw v)) ((k + 1 : Nat) : Int) qu)) 249 (axLd (wd 20 P 264 p (8 + IntKind.u64.wrap (hd + ((k + 1 : Nat) : Int)) % 256))) (.told 267) := by
  obtain ⟨h1, h2, h3⟩ := rp_kept w x cl who p g P T G nt hd tl has gv k qu nx hB hl hk hg hxc v
  have H := rp_gather_load _ x cl who p g P T G nt hd tl has (gv.set k (gw v)) _ qu nx h1 h3 hp (k + 1) hk2 rfl (by rw [List.length_set]; exact hg)
  have HU : Hid (But [x] w (((w.setCell ⟨x, 9 + k, none⟩ (.int .i64 (gw v))).drew).setCell ⟨x, 137, none⟩ (.int .i64 ((k + 1 : Nat) : Int)))) := h2
  have c137 := hB.cell 137 (rp_c137 hg)
  have ck := hB.cell (9 + k) (rp_given hg k hk)
  have fk := hB.fro (9 + k)
  have hlt := hB.lt
  obtain ⟨y, hy⟩ : ∃ y, IntKind.u64.wrap (v - 1) = y := ⟨_, rfl⟩
  obtain ⟨gx, hgx⟩ : ∃ gx, IntKind.i64.wrap y = gx := ⟨_, rfl⟩
  have hgw : gw v = gx := by unfold gw; rw [hy, hgx]
  rw [hgw] at h1 h2 h3 H HU ⊢
  have hk0 : (0 : Int) ≤ (k : Int) := by omega
  have hk1 : (k : Int) < 128 := by omega
  have e5 : wrap64 ((k : Int) + 1) = (k : Int) + 1 := by unfold wrap64; omega
  have HB1 : Hid (Blk ((w.setCell ⟨x, 9 + k, none⟩ (.int .i64 gx)).drew) x (rpCells who nx cl p g has nt hd tl (rpRest (gv.set k gx) k qu)) 249) := by
    have h4 := hB.set (9 + k) (.int .i64 gx)
    rw [rp_sgiven hg k hk] at h4
    exact h4.drew
  have hg2 : Hid ((gv.set k gx).length = 128) := (by rw [List.length_set]; exact hg : (gv.set k gx).length = 128)
  have hcast : ((k + 1 : Nat) : Int) = (k : Int) + 1 := by omega
  rw [hcast] at H HU ⊢
  clear hB hl hp hg h1 h2 h3 hgw hxc
  go_enter Tryz.func267, Tryz.ntmps267
  go_wp2_with fail
  go_region
  generalize (w.setCell ⟨x, 9 + k, none⟩ (.int .i64 gx)).drew = V at *
  have d137 := HB1.out.cell 137 (rp_c137 hg2.out)
  have f137 := HB1.out.fro 137
  have hltV := HB1.out.lt
  clear c137 ck fk HB1 hlt
  go_wp2_with fail
  generalize V.setCell ⟨x, 137, none⟩ (.int .i64 ((k : Int) + 1)) = V2 at *
  go_at_call 250; refine H.mono ?_; rintro e w1 ⟨⟨v, rfl⟩, hC⟩
  have hCb := hC.before HU.out
  clear H hC d137 f137
  go_wp2_with fail
  go_end0
  exact ⟨⟨_, rfl⟩, hCb⟩
set_option maxHeartbeats 4000000 in
theorem rp_keep_all (v : Int) (hh : 0 ≤ hd ∧ hd ≤ 18446744073709551615) (hk2 : k + 1 = 128) : Calls Tryz.prog 267 #[.pointer (some ⟨x, 0, none⟩), .int .u64 v] w fun e w' => (∃ v, e = .returned v) ∧ Came w w' x (rpCells who nx cl p g has nt hd tl (rpRest (gv.set k (gw v)) ((k + 1 : Nat) : Int) qu)) 249 (axSw (wd 20 P 264 p 1) hd ((hd + 128) % 4294967296)) (.swap 266) := by
  obtain ⟨h1, h2, h3⟩ := rp_kept w x cl who p g P T G nt hd tl has gv k qu nx hB hl hk hg hxc v
  have H := rp_gather_swap _ x cl who p g P T G nt hd tl has (gv.set k (gw v)) _ qu nx h1 h3 hp (by omega) (by rw [List.length_set]; exact hg) hh
  have HU : Hid (But [x] w (((w.setCell ⟨x, 9 + k, none⟩ (.int .i64 (gw v))).drew).setCell ⟨x, 137, none⟩ (.int .i64 ((k + 1 : Nat) : Int)))) := h2
  have c137 := hB.cell 137 (rp_c137 hg)
  have ck := hB.cell (9 + k) (rp_given hg k hk)
  have fk := hB.fro (9 + k)
  have hlt := hB.lt
  obtain ⟨y, hy⟩ : ∃ y, IntKind.u64.wrap (v - 1) = y := ⟨_, rfl⟩
  obtain ⟨gx, hgx⟩ : ∃ gx, IntKind.i64.wrap y = gx := ⟨_, rfl⟩
  have hgw : gw v = gx := by unfold gw; rw [hy, hgx]
  rw [hgw] at h1 h2 h3 H HU ⊢
  have hk0 : (0 : Int) ≤ (k : Int) := by omega
  have hk1 : (k : Int) < 128 := by omega
  have e5 : wrap64 ((k : Int) + 1) = (k : Int) + 1 := by unfold wrap64; omega
  have HB1 : Hid (Blk ((w.setCell ⟨x, 9 + k, none⟩ (.int .i64 gx)).drew) x (rpCells who nx cl p g has nt hd tl (rpRest (gv.set k gx) k qu)) 249) := by
    have h4 := hB.set (9 + k) (.int .i64 gx)
    rw [rp_sgiven hg k hk] at h4
    exact h4.drew
  have hg2 : Hid ((gv.set k gx).length = 128) := (by rw [List.length_set]; exact hg : (gv.set k gx).length = 128)
  have hcast : ((k + 1 : Nat) : Int) = (k : Int) + 1 := by omega
  rw [hcast] at H HU ⊢
  clear hB hl hp hg h1 h2 h3 hgw hxc
  go_enter Tryz.func267, Tryz.ntmps267
  go_wp2_with fail
  go_region
  generalize (w.setCell ⟨x, 9 + k, none⟩ (.int .i64 gx)).drew = V at *
  have d137 := HB1.out.cell 137 (rp_c137 hg2.out)
  have f137 := HB1.out.fro 137
  have hltV := HB1.out.lt
  clear c137 ck fk HB1 hlt
  go_wp2_with fail
  generalize V.setCell ⟨x, 137, none⟩ (.int .i64 ((k : Int) + 1)) = V2 at *
  go_at_call 250; refine H.mono ?_; rintro e w1 ⟨⟨v, rfl⟩, hC⟩
  have hCb := hC.before HU.out
  clear H hC d137 f137
  go_wp2_with fail
  go_end0
  exact ⟨⟨_, rfl⟩, hCb⟩
end
end Go.Proofs.YtfdpikkinlljlaaGreat

namespace Go.Proofs.YtfdpikkinlljlaaGreat
open Go Go.RowKit
set_option linter.unusedVariables false
set_option maxRecDepth 100000
set_option linter.unusedSimpArgs false

/-- The cells of a machine that begins. -/
def rpZ (nx : Option Addr) (who p g : Int) (cl : Nat) : Array Value := rpCells who nx cl p g true 0 0 0 (rpRest (List.replicate 128 0) 0 none)
def RpNew (w : World) (cl : Nat) (who p g P : Int) (nxt : Bool) (e : Ending) (w' : World) : Prop := ∃ (x q : Nat) (Lc : List Nat), e = .returned (.pointer (some ⟨x, 0, none⟩)) ∧ Blk w' x (rpZ (some ⟨q, 0, none⟩) who p g cl) 249 ∧ Com w' x q (axLd (wd 20 P 264 p (if nxt = true then 3 else 1))) (if nxt = true then .told 215 else .told 216) Lc ∧ x ∉ Lc ∧ Below w.heap.size w w' ∧ (∀ k ∈ Lc, w.heap.size ≤ k) ∧ w.heap.size ≤ x
theorem rp_zero (who p g : Int) (cl : Nat) : (((Tryz.zeroCells249.setIfInBounds 2 (.pointer (some ⟨cl, 0, none⟩))).setIfInBounds 3 (.int .i64 p)).setIfInBounds 4 (.int .i64 g)).setIfInBounds 5 (.bool true) = rpZ none 0 p g cl := by kernel_rfl
theorem rp_zset (who p g : Int) (cl : Nat) (nx : Option Addr) (v : Value) : (rpZ nx 0 p g cl).setIfInBounds 0 (.int .i64 who) = rpZ nx who p g cl := by simp [rpZ, rpCells]
theorem rp_new_step (w : World) (cl : Nat) (who p g P T G : Int) (nxt : Bool) (hl : Lay w cl P T G) (hP : 0 ≤ P ∧ P ≤ 64) :
    Calls Tryz.prog 177 #[.pointer (some ⟨cl, 0, none⟩), .int .i64 who, .int .i64 p, .int .i64 g, .bool nxt] w fun e w' => RpNew w cl who p g P nxt e w' := by
  have hB : Blk (w.alloc (.cells (rpZ none 0 p g cl) 249)) w.heap.size (rpZ none 0 p g cl) 249 := Blk.new _ _ _
  have hb : Below w.heap.size w (w.alloc (.cells (rpZ none 0 p g cl) 249)) := (Below.refl _ _).alloc (Nat.le_refl _) _
  have hF := fof_any _ w.heap.size _ 249 who hB (by simp [rpZ, rpCells])
  have HH : Hid (Blk _ w.heap.size _ 249 ∧ Below w.heap.size w _) := ⟨hB, hb⟩
  have hsz := World.size_alloc w (.cells (rpZ none 0 p g cl) 249)
  have HLY : Hid (Lay w cl P T G) := hl
  clear hB hb hl
  go_enter Tryz.func177, Tryz.ntmps177
  go_wp2_with fail
  rw [rp_zero who p g cl]
  generalize w.alloc (.cells (rpZ none 0 p g cl) 249) = W at *
  go_at_call 97; refine hF.mono ?_; rintro e w3 ⟨⟨v, rfl⟩, hw3⟩
  have h3 : Blk w3 w.heap.size (rpZ none who p g cl) 249 := by
    rw [hw3]
    have := HH.out.1.set 0 (.int .i64 who)
    rw [rp_zset who p g cl none (.int .i64 0)] at this
    exact this
  have hb3 : Hid (Below w.heap.size w w3) := by rw [hw3]; exact HH.out.2.trans (((But.refl [w.heap.size] W).set (g := w.heap.size) (.inl (by simp)) 0 _).below (by simp) (by rw [hsz]; omega))
  have hlt := h3.lt
  cases nxt with
  | true =>
    have hL := rp_lookNext w3 w.heap.size cl who p g P T G 0 0 0 true (rpRest (List.replicate 128 0) 0 none) none h3 (HLY.out.below hb3.out HLY.out.lt) hP
    clear hF hw3 HH h3 HLY
    go_wp2_with fail
    go_at_call 196; refine hL.mono ?_; rintro e w2 ⟨⟨v2, rfl⟩, hC⟩
    obtain ⟨q, Lc, c1, c2, c3, c4⟩ := hC
    rw [rp_s1] at c1
    have hF : Hid (Below w.heap.size w w2 ∧ (∀ k ∈ Lc, w.heap.size ≤ k) ∧ w.heap.size ∉ Lc) := ⟨hb3.out.trans (c3.below (by simp) hb3.out.size), fun k hk => by have := c4 k hk; omega, fun hm => by have := c4 _ hm; omega⟩
    have HC : Hid (Blk w2 w.heap.size (rpZ (some ⟨q, 0, none⟩) who p g cl) 249 ∧ Com w2 w.heap.size q (axLd (wd 20 P 264 p 3)) (.told 215) Lc) := ⟨c1, c2⟩
    clear hL c1 c2 c3 c4
    go_wp2_with fail
    go_ret
    exact ⟨w.heap.size, q, Lc, rfl, HC.out.1, HC.out.2, hF.out.2.2, hF.out.1, hF.out.2.1, Nat.le_refl _⟩
  | false =>
    have hL := rp_lookHead w3 w.heap.size cl who p g P T G 0 0 0 true (rpRest (List.replicate 128 0) 0 none) none h3 (HLY.out.below hb3.out HLY.out.lt) hP
    clear hF hw3 HH h3 HLY
    go_wp2_with fail
    go_at_call 197; refine hL.mono ?_; rintro e w2 ⟨⟨v2, rfl⟩, hC⟩
    obtain ⟨q, Lc, c1, c2, c3, c4⟩ := hC
    rw [rp_s1] at c1
    have hF : Hid (Below w.heap.size w w2 ∧ (∀ k ∈ Lc, w.heap.size ≤ k) ∧ w.heap.size ∉ Lc) := ⟨hb3.out.trans (c3.below (by simp) hb3.out.size), fun k hk => by have := c4 k hk; omega, fun hm => by have := c4 _ hm; omega⟩
    have HC : Hid (Blk w2 w.heap.size (rpZ (some ⟨q, 0, none⟩) who p g cl) 249 ∧ Com w2 w.heap.size q (axLd (wd 20 P 264 p 1)) (.told 216) Lc) := ⟨c1, c2⟩
    clear hL c1 c2 c3 c4
    go_wp2_with fail
    go_ret
    exact ⟨w.heap.size, q, Lc, rfl, HC.out.1, HC.out.2, hF.out.2.2, hF.out.1, hF.out.2.1, Nat.le_refl _⟩
theorem rp_take_no (w : World) (x cl : Nat) (who p g P T G nt hd tl : Int) (has : Bool) (rest : List Value) (nx : Option Addr) (hB : Blk w x (rpCells who nx cl p g has nt hd tl rest) 249) (hl : Lay w cl P T G) (hp : 0 ≤ P ∧ P ≤ 64) :
    Calls Tryz.prog 266 #[.pointer (some ⟨x, 0, none⟩), .bool false] w fun e w' => (∃ v, e = .returned v) ∧ Came w w' x (rpCells who nx cl p g has nt hd tl rest) 249 (axLd (wd 20 P 264 p 1)) (.told 216) := by
  have H := rp_lookHead w x cl who p g P T G nt hd tl has rest nx hB hl hp
  clear hB hl hp
  go_enter Tryz.func266, Tryz.ntmps266
  go_wp2_with fail
  go_at_call 197; refine H.mono ?_; rintro e w1 ⟨⟨v, rfl⟩, hC⟩
  clear H
  go_wp2_with fail
  refine bodyPost_ret (results_none rfl _ _ _) rfl ?_
  exact ⟨⟨_, rfl⟩, hC⟩
theorem rp_holds_nil (w : World) : Calls Tryz.prog 178 #[.pointer none] w fun e w' => e = .returned (.slice none 0 0) ∧ w = w' := by
  go_enter Tryz.func178, Tryz.ntmps178
  go_wp2_with fail
  go_ret
  exact ⟨rfl, rfl⟩
end Go.Proofs.YtfdpikkinlljlaaGreat

namespace Go.Proofs.YtfdpikkinlljlaaGreat
open Go Go.RowKit
set_option linter.unusedVariables false
set_option maxRecDepth 100000
set_option linter.unusedSimpArgs false

section
variable (w : World) (x cl : Nat) (who p g nt hd tl : Int) (has : Bool) (gv : List Int) (ld : Int)
set_option maxHeartbeats 2000000 in
theorem rp_move (y : Nat) (nx : Option Addr) (a : Addr) (hB : Blk w x (rpCells who nx cl p g has nt hd tl (rpRest gv ld (some ⟨y, 0, none⟩))) 249) (hg : gv.length = 128) (hyx : y ≠ x) (hny : w.cell? ⟨y, 1, none⟩ = some (.pointer (some a))) :
    Calls Tryz.prog 280 #[.pointer (some ⟨x, 0, none⟩)] w fun e w' => (∃ v, e = .returned v) ∧ ∃ q b, CameBox w w' x (rpCells who nx cl p g has nt hd tl (rpRest gv ld (some ⟨y, 0, none⟩))) 249 (fun v => comCells 0 0 0 0 0 false (.iface 142 (.pointer (some ⟨y, 0, none⟩))) v false false) (.func (.func 292) #[.pointer (some ⟨x, 0, none⟩)] #[]) q b := by
  have c138 := hB.cell 138 (rp_c138 hg)
  have hf := frun_qput w.drew x y _ 249 (.func (.func 292) #[.pointer (some ⟨x, 0, none⟩)] #[]) a hB.drew rp_size (.some _ _ _) hyx hny
  have HU : Hid (But [x] w w.drew) := (But.refl [x] w).drew
  clear hB hny
  go_enter Tryz.func280, Tryz.ntmps280
  go_wp2_with fail
  go_region_with (first | (go_at_call 98; refine hf.mono ?_; rintro e w6 ⟨⟨v, rfl⟩, q, b, hC⟩))
  all_goals
    have HZ : Hid (CameBox w w6 x _ 249 _ _ q b) := hC.before HU.out
    clear hf hC c138 HU
    go_wp2_with fail
    go_end0
    exact ⟨⟨_, rfl⟩, q, b, HZ.out⟩
set_option maxHeartbeats 2000000 in
theorem rp_release (nx qu : Option Addr) (hB : Blk w x (rpCells who nx cl p g has nt hd tl (rpRest gv ld qu)) 249) (hg : gv.length = 128) :
    Calls Tryz.prog 292 #[.pointer (some ⟨x, 0, none⟩)] w fun e w' => (∃ v, e = .returned v) ∧ ∃ x2 q2 g2 q b, CameBox w w' x (rpCells who nx cl p g has nt hd tl (rpRest gv ld qu)) 249 (fun v => comCells 0 0 0 0 0 false (.iface 252 (.pointer (some ⟨x2, 0, none⟩))) v false false) .nilFunc q b ∧ RelM w' x2 q2 g2 who (wd 0 2 3 0 1) (wd 0 2 3 0 2) ∧ w.heap.size ≤ x2 ∧ q2 < q ∧ q2 < b ∧ g2 < q ∧ g2 < b := by
  have hlt := hB.lt
  have c2 := hB.cell 2 rp_c2
  have hO := who_any w.drew x who (hB.drew.cell 0 rp_c0)
  have hR := rel_new w.drew cl 0 who
  generalize wd 0 2 3 0 1 = sv at *
  generalize wd 0 2 3 0 2 = ow at *
  have HH : Hid (Blk w x (rpCells who nx cl p g has nt hd tl (rpRest gv ld qu)) 249) := hB
  clear hB hg
  go_enter Tryz.func292, Tryz.ntmps292
  go_wp2_with fail
  go_region_with (first | (go_at_call 144; refine hO.mono ?_; rintro e w3 ⟨rfl, rfl⟩) | (go_at_call 205; refine hR.mono ?_; rintro e w4 ⟨x2, q2, g2, rfl, k1, k2, k3, k4, k5, k6, k7, k8, k9⟩; have hB4 : But [x] w w4 := ((But.refl [x] w).drew).trans (But.of_below k4); have hf := frun_rel w4 x x2 _ 249 .nilFunc ⟨q2, 0, none⟩ (HH.out.but (But.of_below (l := []) (show Below w.heap.size w w4 from (Below.refl _ _).drew.trans k4)) (by simp)) rp_size .none (by have : w.heap.size ≤ x2 := k5; omega) (k1.cell 1 rfl)) | (go_at_call 98; refine hf.mono ?_; rintro e w5 ⟨⟨v, rfl⟩, q, b, hC⟩))
  all_goals
    have k5' : w.heap.size ≤ x2 := k5
    have hM : RelM w4 x2 q2 g2 who sv ow := ⟨k1, k2, k3, k7, k8, k9⟩
    have hM5 := hM.but hC.at'.but (by omega)
    have hq2 := hM.com.lt
    have hg2 := hM.box.lt
    have hC5 := hC.before hB4
    have f1 := hC.at'.fresh
    have f2 := hC.fresh
    clear hO hR c2 hf k1 k2 k3 k4 k5 k6 k7 k8 k9 hC hB4 hM HH
    go_wp2_with fail
    go_end0
    exact ⟨⟨_, rfl⟩, x2, q2, g2, q, b, hC5, hM5, k5', by omega, by omega, by omega, by omega⟩
end
end Go.Proofs.YtfdpikkinlljlaaGreat

namespace Go.Proofs.YtfdpikkinlljlaaGreat
open Go Go.RowKit Go.Maps
set_option linter.unusedVariables false
set_option maxRecDepth 100000
set_option linter.unusedSimpArgs false

/-- What take leaves: the queue's machine, and the lock's, which is run. -/
def RpTook (w : World) (x cl : Nat) (who p g nt hd tl : Int) (has : Bool) (gv : List Int) (ld : Int) (nx : Option Addr) (QP : World → Nat → List Nat → Prop) (e : Ending) (w' : World) : Prop := (∃ v, e = .returned v) ∧ ∃ (y : Nat) (L : List Nat) (x2 q2 q b : Nat), CameBox w w' x (rpCells who nx cl p g has nt hd tl (rpRest gv ld (some ⟨y, 0, none⟩))) 249 (fun v => comCells 0 0 0 0 0 false (.iface 209 (.pointer (some ⟨x2, 0, none⟩))) v false false) (.func (.func 280) #[.pointer (some ⟨x, 0, none⟩)] #[]) q b ∧ QP w' y L ∧ AcqM w' x2 q2 who (wd 0 2 3 0 0) (wd 0 2 3 0 1) (wd 0 2 3 0 2) ∧ (∀ k ∈ L, w.heap.size ≤ k ∧ k < x2) ∧ w.heap.size ≤ x2 ∧ q2 < q ∧ q2 < b ∧ w.heap.size ≤ y
set_option maxHeartbeats 4000000 in
theorem rp_take_yes (w : World) (x cl : Nat) (who p g P T G nt hd tl : Int) (has : Bool) (gv : List Int) (ld : Int) (qu nx : Option Addr) (QP : World → Nat → List Nat → Prop)
    (hB : Blk w x (rpCells who nx cl p g has nt hd tl (rpRest gv ld qu)) 249) (hg : gv.length = 128) (hl : Lay w cl P T G) (hxc : cl ≠ x)
    (hK : ∀ (a b : World) (y : Nat) (L : List Nat), QP a y L → But [x] a b → x ∉ L → QP b y L)
    (hN : ∀ (Y : World) (v : Value), Lay Y cl P T G → SeesL Y v (gv ++ [g]) → Calls Tryz.prog 143 #[.pointer (some ⟨cl, 0, none⟩), .int .i64 who, v] Y fun e w' => ∃ y L, e = .returned (.pointer (some ⟨y, 0, none⟩)) ∧ QP w' y L ∧ Below Y.heap.size Y w' ∧ (∀ k ∈ L, Y.heap.size ≤ k) ∧ (∀ k ∈ L, k < w'.heap.size) ∧ Y.heap.size ≤ y) :
    Calls Tryz.prog 266 #[.pointer (some ⟨x, 0, none⟩), .bool true] w fun e w' => RpTook w x cl who p g nt hd tl has gv ld nx QP e w' := by
  obtain ⟨i3, hi3, hz03, hz13, hz23⟩ := info_parts lists_info3
  have hlt := hB.lt
  have hO := who_any w x who (hB.cell 0 rp_c0)
  have c2 := hB.cell 2 rp_c2
  have c4 := hB.cell 4 rp_c4
  have HGV : Hid (∀ X, Blk X x (rpCells who nx cl p g has nt hd tl (rpRest gv ld qu)) 249 → ∀ j u, (gv.map (Value.int .i64))[j]? = some u → X.cell? ((⟨x, 9, none⟩ : Addr).add j) = some u) := fun X hX j u hu => by
    rw [List.getElem?_map] at hu
    by_cases hj : j < 128
    · rw [List.getElem?_eq_getElem (by omega)] at hu
      have h1 := hX.cell (9 + j) (rp_given hg j hj)
      rw [List.getD_eq_getElem?_getD, List.getElem?_eq_getElem (by omega)] at h1
      simp at hu
      rw [← hu]
      by_cases h0 : j = 0
      · subst h0; simpa [Addr.add] using h1
      · simpa [Addr.add, h0] using h1
    · rw [List.getElem?_eq_none (by omega)] at hu
      cases hu
  have HH : Hid (Blk w.drew x (rpCells who nx cl p g has nt hd tl (rpRest gv ld qu)) 249 ∧ Lay w.drew cl P T G) := ⟨hB.drew, hl.below ((Below.refl _ _).drew) hl.lt⟩
  have hA : Hid (Blk (w.drew.alloc (.cells #[.int .i64 g] 3)) x (rpCells who nx cl p g has nt hd tl (rpRest gv ld qu)) 249) := HH.out.1.al _
  clear hB hl
  go_enter Tryz.func266, Tryz.ntmps266
  go_wp2_with fail
  go_at_call 144; refine hO.mono ?_; rintro e w3 ⟨rfl, rfl⟩
  clear hO
  go_wp2_with fail
  have hH : Hid (w.drew.cell? ⟨x, 2, none⟩ = some (.pointer (some ⟨cl, 0, none⟩)) ∧ w.drew.cell? ⟨x, 4, none⟩ = some (.int .i64 g)) := ⟨HH.out.1.cell 2 rp_c2, HH.out.1.cell 4 rp_c4⟩
  have hHA : Hid ((w.drew.alloc (.cells #[.int .i64 g] 3)).cell? ⟨x, 2, none⟩ = some (.pointer (some ⟨cl, 0, none⟩)) ∧ (w.drew.alloc (.cells #[.int .i64 g] 3)).cell? ⟨x, 4, none⟩ = some (.int .i64 g)) := ⟨hA.out.cell 2 rp_c2, hA.out.cell 4 rp_c4⟩
  have HL1 : Hid (Lay (w.drew.alloc (.cells #[.int .i64 g] 3)) cl P T G) := HH.out.2.below ((Below.refl _ _).alloc (Nat.le_refl _) _) HH.out.2.lt
  have HNN : Hid (∀ (Y : World) (v : Value), Lay Y cl P T G → SeesL Y v (gv ++ [g]) → Calls Tryz.prog 143 #[.pointer (some ⟨cl, 0, none⟩), .int .i64 who, v] Y fun e w' => ∃ y L, e = .returned (.pointer (some ⟨y, 0, none⟩)) ∧ QP w' y L ∧ Below Y.heap.size Y w' ∧ (∀ k ∈ L, Y.heap.size ≤ k) ∧ (∀ k ∈ L, k < w'.heap.size) ∧ Y.heap.size ≤ y) := hN
  have HSN : Hid (∀ X : World, Blk X x (rpCells who nx cl p g has nt hd tl (rpRest gv ld qu)) 249 → X.cell? ⟨x, 2, none⟩ = some (.pointer (some ⟨cl, 0, none⟩)) ∧ X.cell? ⟨x, 4, none⟩ = some (.int .i64 g)) := fun X h => ⟨h.cell 2 rp_c2, h.cell 4 rp_c4⟩
  have HST : Hid (∀ (X : World) (u : Value), Blk X x (rpCells who nx cl p g has nt hd tl (rpRest gv ld qu)) 249 → (X.setCell ⟨x, 138, none⟩ u).cell? ⟨x, 2, none⟩ = some (.pointer (some ⟨cl, 0, none⟩)) ∧ (X.setCell ⟨x, 138, none⟩ u).cell? ⟨x, 4, none⟩ = some (.int .i64 g)) := fun X u h => by
    have h2 := h.set 138 u
    refine ⟨h2.cell 2 ?_, h2.cell 4 ?_⟩
    · rw [Array.getElem?_setIfInBounds_ne (by decide)]; exact rp_c2
    · rw [Array.getElem?_setIfInBounds_ne (by decide)]; exact rp_c4
  have HGR : Hid (∀ (w1 : World) (v' : Value), w1.ownsRow (w.drew.alloc (.cells #[.int .i64 g] 3)).heap.size 3 1 v' 129 (gv.map (Value.int .i64) ++ [.int .i64 g]) → (w.drew.alloc (.cells #[.int .i64 g] 3)).grownBy w1 none → Blk w1 x (rpCells who nx cl p g has nt hd tl (rpRest gv ld qu)) 249 ∧ Lay w1 cl P T G ∧ SeesL w1 v' (gv ++ [g]) ∧ But [x] w w1) := fun w1 v' hown hgrow => by
    have hb1 : Below (w.drew.alloc (.cells #[.int .i64 g] 3)).heap.size (w.drew.alloc (.cells #[.int .i64 g] 3)) w1 := (Below.refl _ _).grown hgrow (Nat.le_refl _) (fun k h => by cases h)
    refine ⟨hA.out.but (But.of_below (l := []) hb1) (by simp), HL1.out.below hb1 HL1.out.lt, IntsOn.sees (base := (w.drew.alloc (.cells #[.int .i64 g] 3)).heap.size) ⟨by rw [List.map_append, List.length_append, hg]; exact hown⟩, ((But.refl [x] w).drew.alloc _).trans (But.of_below hb1)⟩
  clear c2 c4 hN
  go_region_held_law (fun X => X.cell? ⟨x, 2, none⟩ = some (.pointer (some ⟨cl, 0, none⟩)) ∧ X.cell? ⟨x, 4, none⟩ = some (.int .i64 g)) (first | exact hH.out | exact hHA.out | exact HST.out _ _ ‹_› | assumption) (first | (refine step_append_grows rfl (.tmp 22) (.tmp 27) 49 rfl 3 i3 (.int .i64 0) 1 8 Tryz.underlying49 hi3 hz03 hz13 hz23 rfl (by decide) (some ⟨x, 9, none⟩) 128 128 (gv.map (Value.int .i64)) (by rfl) (fun h => by cases h) (by simp [hg]) (fun b e => by cases e; exact HGV.out _ hA.out) ⟨w.drew.heap.size, 0, none⟩ 1 1 [.int .i64 g] (by rfl) (by rfl) (cell_one_new _ _ _) (ints_oneCell .i64 [g]) (by omega) (by unfold maxLen; omega) (by omega) ?_; intro v' w1 hown hgrow; obtain ⟨hb1, hl1, hs1, hu1⟩ := HGR.out w1 v' hown hgrow; have q1 := HSN.out w1 hb1) | (go_at_call 143; refine (HNN.out _ _ hl1 hs1).mono ?_; rintro e w2 ⟨y, L, rfl, y1, y2, y3, y4, y5⟩; have hb2 := hb1.but (But.of_below (l := []) y2) (by simp); have q2 := HSN.out w2 hb2; have s138 := hb2.cell 138 (rp_c138 hg); have t138 := hb2.fro 138; have u138 := hb2.lt))
  all_goals
    have h5 : Blk (w2.setCell ⟨x, 138, none⟩ (.pointer (some ⟨y, 0, none⟩))) x (rpCells who nx cl p g has nt hd tl (rpRest gv ld (some ⟨y, 0, none⟩))) 249 := by
      have h4 := hb2.set 138 (.pointer (some ⟨y, 0, none⟩))
      rw [rp_s138 hg] at h4
      exact h4
    have hs1w : w.heap.size ≤ w1.heap.size := hu1.size
    have hxL : x ∉ L := fun hm => absurd (y3 x hm) (by omega)
    have hq5 : QP (w2.setCell ⟨x, 138, none⟩ (.pointer (some ⟨y, 0, none⟩))) y L := hK _ _ _ _ y1 ((But.refl [x] w2).set (g := x) (.inl (by simp)) 138 _) hxL
    have hB5 : But [x] w (w2.setCell ⟨x, 138, none⟩ (.pointer (some ⟨y, 0, none⟩))) := (hu1.trans (But.of_below y2)).set (g := x) (.inl (by simp)) 138 _
    have hL5 : Hid ((∀ k ∈ L, w.heap.size ≤ k ∧ k < (w2.setCell ⟨x, 138, none⟩ (.pointer (some ⟨y, 0, none⟩))).heap.size) ∧ w.heap.size ≤ y ∧ x ∉ L) := ⟨fun k hk => ⟨Nat.le_trans hs1w (y3 k hk), by rw [size_set]; exact y4 k hk⟩, Nat.le_trans hs1w y5, hxL⟩
    generalize w2.setCell ⟨x, 138, none⟩ (.pointer (some ⟨y, 0, none⟩)) = V at *
    have H5 : Hid (Blk V x (rpCells who nx cl p g has nt hd tl (rpRest gv ld (some ⟨y, 0, none⟩))) 249 ∧ QP V y L ∧ But [x] w V) := ⟨h5, hq5, hB5⟩
    have c2 := h5.cell 2 rp_c2
    have hszV := hB5.size
    clear h5 hq5 hB5 q1 q2 s138 t138 u138 hb1 hl1 hs1 hb2 y1 y2 y3 y4 y5 hown hgrow HGR HST HSN HNN HL1 hHA hH hA HH HGV hu1 hxL hs1w
    have hR := fun w => lock_new w cl 0 who
    have hR := hR V.drew
    go_wp2_with fail
    go_region_with (first | (go_at_call 146; refine hR.mono ?_; rintro e w4 ⟨x2, q2, rfl, k1, k2, k4, k5, k6, k7⟩; have hB4 : But [x] w w4 := H5.out.2.2.trans (((But.refl [x] V).drew).trans (But.of_below k4)); have hf := frun_acq w4 x x2 _ 249 (.func (.func 280) #[.pointer (some ⟨x, 0, none⟩)] #[]) ⟨q2, 0, none⟩ (H5.out.1.but (But.of_below (l := []) (show Below V.heap.size V w4 from (Below.refl _ _).drew.trans k4)) (by simp)) rp_size (.some _ _ _) (by have : V.heap.size ≤ x2 := k5; omega) (k1.cell 1 rfl)) | (go_at_call 98; refine hf.mono ?_; rintro e w5 ⟨⟨v, rfl⟩, q, b, hC⟩))
    all_goals
      have k5' : V.heap.size ≤ x2 := k5
      have hM : AcqM w4 x2 q2 who (wd 0 2 3 0 0) (wd 0 2 3 0 1) (wd 0 2 3 0 2) := ⟨k1, k2, k7⟩
      have hM5 := hM.but hC.at'.but (by omega)
      have hq2 := hM.com.lt
      have hC5 := hC.before hB4
      have f1 := hC.at'.fresh
      have f2 := hC.fresh
      have hq9 : QP w5 y L := hK _ _ _ _ H5.out.2.1 ((But.of_below (show Below V.heap.size V w4 from (Below.refl _ _).drew.trans k4)).trans hC.at'.but) hL5.out.2.2
      have HZ : Hid (RpTook w x cl who p g nt hd tl has gv ld nx QP (.returned v) w5) := ⟨⟨_, rfl⟩, y, L, x2, q2, q, b, hC5, hq9, hM5, fun k hk => ⟨(hL5.out.1 k hk).1, Nat.lt_of_lt_of_le (hL5.out.1 k hk).2 k5'⟩, Nat.le_trans hszV k5', by omega, by omega, hL5.out.2.1⟩
      clear hR hf k1 k2 k4 k5 k6 k7 hC hB4 hM H5 hq9 hC5 hM5 c2
      go_wp2_with fail
      go_end0
      exact ⟨⟨_, rfl⟩, HZ.out.2⟩
end Go.Proofs.YtfdpikkinlljlaaGreat
