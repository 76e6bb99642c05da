/- The frame of a law: a walk that returns true and turns nothing that was there is the law's outcome, whatever its arguments are. -/
import Derived.Test.YthhlklfioipmgaaGreatLkFl
import Derived.Test.YthhlklfioipmgaaGreatRunD
import Derived.Test.YthhlklfioipmgaaGreatGwEq
import Derived.Stop.Asserts
import Derived.Test.YthhlklfioipmgaaGreatGq1
import Derived.Deep.RegionHeld3
import Derived.Test.YthhlklfioipmgaaGreatLinks
import Derived.Test.YthhlklfioipmgaaGreatRM3
import Derived.Test.YthhlklfioipmgaaGreatOpen2
import Derived.Test.YthhlklfioipmgaaGreatLaw
import Derived.Test.YthhlklfioipmgaaGreatTkA
import Derived.Test.YthhlklfioipmgaaGreatRun_qpull
import Derived.Test.YthhlklfioipmgaaGreatTk1
import Derived.Test.YthhlklfioipmgaaGreatTkB
import Derived.Test.YthhlklfioipmgaaGreatCp
import Derived.Test.YthhlklfioipmgaaGreatLock1
import Derived.Test.YthhlklfioipmgaaGreatGg0
import Derived.Maps.OwnSet
import Derived.Maps.AppendAt
import Derived.OwnWalk
import Derived.Laws.Cover1
import Derived.ChangeShapes
import Derived.ProofKit
import Derived.Carry
import Derived.WalkKit
import Derived.OpenShut
namespace Go.Proofs.YthhlklfioipmgaaGreat
open Go Go.RowKit
set_option linter.unusedVariables false
set_option maxRecDepth 100000
set_option linter.unusedSimpArgs false

/-- A config as a value, and in a box of its own. -/
def cfgV (P T G : Int) : Value := .agg #[.int .i64 P, .int .i64 T, .int .i64 G]
def cfgA (P T G : Int) : Array Value := #[.int .i64 P, .int .i64 T, .int .i64 G]
theorem refg_any (P T G g f : Int) (w : World) (hp : 0 ≤ P ∧ P ≤ 64) (hT : 0 ≤ T ∧ T ≤ 65536) (hg : 0 ≤ g ∧ g ≤ 65536) (hf : 0 ≤ f ∧ f < 2) : Calls Tryz.prog 133 #[.agg #[.int .i64 P, .int .i64 T, .int .i64 G], .int .i64 g, .int .i64 f] w fun e w' => e = .returned (.int .i64 (20 + 264 * P + 3 * T + 2 * g + f)) ∧ Below w.heap.size w w' := by
  have hb : Below w.heap.size w (w.alloc (.cells #[.int .i64 P, .int .i64 T, .int .i64 G] 23)) := (Below.refl _ _).alloc (Nat.le_refl _) _
  go_enter Tryz.func133, Tryz.ntmps133
  go_wp2_with fail
  go_ret
  exact ⟨ret_int (by first | rfl | omega | (unfold wrap64; omega)), hb⟩
theorem refgAt_any (P T G g f : Int) (w : World) (hp : 0 ≤ P ∧ P ≤ 64) (hT : 0 ≤ T ∧ T ≤ 65536) (hG : G ≤ 65536) (hf : 0 ≤ f ∧ f < 2) :
    Calls Tryz.prog 77 #[.agg #[.int .i64 P, .int .i64 T, .int .i64 G], .int .i64 g, .int .i64 f] w fun e w' => e = .returned (.int .i64 (wd (20 + P * 264 + T * 3) G 2 g f)) ∧ Below w.heap.size w w' := by
  have hb : Below w.heap.size w (w.alloc (.cells #[.int .i64 P, .int .i64 T, .int .i64 G] 23)) := (Below.refl _ _).alloc (Nat.le_refl _) _
  by_cases hg : 0 ≤ g ∧ g < G
  · have e : 20 + 264 * P + 3 * T + 2 * g + f = wd (20 + P * 264 + T * 3) G 2 g f := by unfold wd; rw [if_pos ⟨hg.1, hg.2, by omega, by omega⟩]; omega
    have hT := refg_any P T G g f (w.alloc (.cells #[.int .i64 P, .int .i64 T, .int .i64 G] 23)) hp hT (by omega) hf
    rw [e] at hT
    generalize wd (20 + P * 264 + T * 3) G 2 g f = nt at *
    clear e
    have hX : Hid (Blk (w.alloc (.cells #[.int .i64 P, .int .i64 T, .int .i64 G] 23)) w.heap.size #[.int .i64 P, .int .i64 T, .int .i64 G] 23) := Blk.new _ _ _
    have HB : Hid (Below w.heap.size w (w.alloc (.cells #[.int .i64 P, .int .i64 T, .int .i64 G] 23))) := hb
    have hsz := World.size_alloc w (.cells #[.int .i64 P, .int .i64 T, .int .i64 G] 23)
    have d1 : decide (g < 0) = false := decide_eq_false (by omega)
    have d2 : decide (G ≤ g) = false := decide_eq_false (by omega)
    clear hb
    go_enter Tryz.func77, Tryz.ntmps77
    go_wp2_with fail
    go_at_call 133; refine hT.mono ?_; rintro e w1 ⟨rfl, h1⟩
    have h2 := HB.out.trans (h1.mono HB.out.size)
    clear hT h1
    go_wp2_with fail
    go_ret
    exact ⟨rfl, h2⟩
  · have e : wd (20 + P * 264 + T * 3) G 2 g f = -1 := by unfold wd; rw [if_neg (fun h => hg ⟨h.1, h.2.1⟩)]
    rw [e]
    by_cases h0 : g < 0
    · clear hg e
      go_enter Tryz.func77, Tryz.ntmps77
      go_wp2_with fail
      go_ret
      exact ⟨rfl, hb⟩
    · have d1 : decide (g < 0) = false := decide_eq_false h0
      have h1 : G ≤ g := by omega
      clear hg e
      go_enter Tryz.func77, Tryz.ntmps77
      go_wp2_with fail
      go_ret
      exact ⟨rfl, hb⟩
end Go.Proofs.YthhlklfioipmgaaGreat

namespace Go.Proofs.YthhlklfioipmgaaGreat
open Go Go.RowKit
set_option linter.unusedVariables false
set_option maxRecDepth 100000
set_option linter.unusedSimpArgs false

def qwd (g : Int) : Int := IntKind.u64.wrap (IntKind.u64.wrap g + 1)
theorem qwd_bd (g : Int) : 0 ≤ qwd g ∧ qwd g ≤ 18446744073709551615 := by
  unfold qwd
  generalize IntKind.u64.wrap g + 1 = z
  simp [IntKind.wrap, IntKind.bits, IntKind.signed]
  omega
theorem q_word2 (w : World) (g : Int) : Calls Tryz.prog 126 #[.int .i64 g] w fun e w' => e = .returned (.int .u64 (qwd g)) ∧ w = w' := by
  go_enter Tryz.func126, Tryz.ntmps126
  go_wp2_with fail
  go_ret
  exact ⟨rfl, rfl⟩
theorem qwd_small (g : Int) (h : 0 ≤ g ∧ g ≤ 1000000) : qwd g = g + 1 := by
  unfold qwd
  simp [IntKind.wrap, IntKind.bits, IntKind.signed]
  omega
end Go.Proofs.YthhlklfioipmgaaGreat

namespace Go.Proofs.YthhlklfioipmgaaGreat
open Go Go.RowKit
set_option linter.unusedVariables false
set_option maxRecDepth 100000
set_option linter.unusedSimpArgs false

/-- A slice of ints, seen in memory. -/
def SeesL (w : World) (v : Value) (l : List Int) : Prop := ∃ A cap, v = .slice A l.length cap ∧ (A = none → l.length = 0 ∧ cap = 0) ∧ (0 < l.length → ∃ b off : Nat, A = some ⟨b, off, none⟩ ∧ b < w.heap.size ∧ ∀ j, j < l.length → w.cell? ⟨b, off + j, none⟩ = some (.int .i64 (l.getD j 0)))
theorem SeesL.below {w w' : World} {v : Value} {l : List Int} (h : SeesL w v l) (hb : Below w.heap.size w w') : SeesL w' v l := by
  obtain ⟨A, cap, e, h1, h2⟩ := h
  refine ⟨A, cap, e, h1, fun hn => ?_⟩
  obtain ⟨b, off, e1, h3, h4⟩ := h2 hn
  exact ⟨b, off, e1, Nat.lt_of_lt_of_le h3 hb.size, fun j hj => (hb.cell (p := ⟨b, off + j, none⟩) h3).trans (h4 j hj)⟩
theorem IntsOn.sees {w : World} {base : Nat} {v : Value} {l : List Int} (h : IntsOn w base v l) : SeesL w v l := by
  by_cases h0 : 0 < l.length
  · obtain ⟨gb, cap, e, -⟩ := h.cell h0
    refine ⟨_, cap, e, (fun h => by cases h), fun hn => ⟨gb, 0, rfl, ?_, fun j hj => ?_⟩⟩
    · obtain ⟨gb', cap', e', hc⟩ := h.cell hn
      rw [e] at e'; cases e'
      exact cell_lt hc
    · obtain ⟨gb', cap', e', hc⟩ := h.cell hj
      rw [e] at e'; cases e'
      rw [Nat.zero_add]; exact hc
  · rcases h.own.2 with ⟨e, h1⟩ | ⟨gb, cp, cur, e, -⟩
    · exact ⟨none, 0, by rw [e, h1], fun _ => ⟨h1, rfl⟩, fun h => absurd h h0⟩
    · exact ⟨_, cp, e, (fun h => by cases h), fun h => absurd h h0⟩

theorem lclone_nil (w : World) : Calls Tryz.prog 69 #[.slice none 0 0] w fun e w' => e = .returned (.slice none 0 0) ∧ w = w' := by
  have hq := fun (w : World) => Lib.run_eql_slice_nil (P := Tryz.prog) w 27 3 none 0 0 0 0 Tryz.underlying27
  go_enter Tryz.func69, Tryz.ntmps69
  go_wp2_with fail
  go_ret
  exact ⟨rfl, rfl⟩
theorem lclone_cells (w : World) (a : Addr) (l : List Int) (hs : 0 < l.length → ∃ b off : Nat, some a = some (⟨b, off, none⟩ : Addr) ∧ b < w.heap.size ∧ ∀ j, j < l.length → w.cell? ⟨b, off + j, none⟩ = some (.int .i64 (l.getD j 0))) : ∀ j u, (l.map (Value.int .i64))[j]? = some u → (w.alloc (.cells #[] 3)).cell? (a.add j) = some u := by
  intro j u hj
  have hjn : j < l.length := by
    have := (List.getElem?_eq_some_iff.1 hj).1
    simpa using this
  rw [List.getElem?_map, List.getElem?_eq_getElem hjn] at hj
  obtain ⟨b, off, e, hb, hc⟩ := hs (by omega)
  cases e
  have h1 := hc j hjn
  rw [List.getD_eq_getElem?_getD, List.getElem?_eq_getElem hjn] at h1
  have h2 : (w.alloc (.cells #[] 3)).cell? ⟨b, off + j, none⟩ = w.cell? ⟨b, off + j, none⟩ := World.cell?_alloc_lt w _ _ hb
  have h3 : (⟨b, off, none⟩ : Addr).add j = ⟨b, off + j, none⟩ := by by_cases h0 : j = 0 <;> simp [Addr.add, h0]
  rw [h3, h2, h1]
  exact hj
theorem lclone_some (a : Addr) (cap : Nat) (l : List Int) (w : World) (hn : l.length ≤ 1000000) (hs : 0 < l.length → ∃ b off : Nat, some a = some (⟨b, off, none⟩ : Addr) ∧ b < w.heap.size ∧ ∀ j, j < l.length → w.cell? ⟨b, off + j, none⟩ = some (.int .i64 (l.getD j 0))) :
    Calls Tryz.prog 69 #[.slice (some a) l.length cap] w fun e w' => ∃ v, e = .returned v ∧ IntsOn w' w.heap.size v l ∧ Below w.heap.size w w' := by
  obtain ⟨i0, hi, hz0, hz1, hz2⟩ := info_parts lists_info3
  have HN : Hid (∀ j u, (l.map (Value.int .i64))[j]? = some u → (w.alloc (.cells #[] 3)).cell? (a.add j) = some u) := lclone_cells w a l hs
  have HO : Hid (∀ u ∈ l.map (Value.int .i64), u.oneCell' = true) := fun u hu => by obtain ⟨x, -, rfl⟩ := List.mem_map.1 hu; rfl
  have HL : Hid ((l.map (Value.int .i64)).length = l.length * 1) := by show _ = _; simp
  have hq := fun (w : World) => Lib.run_eql_slice_nil (P := Tryz.prog) w 27 3 (some a) l.length cap 0 0 Tryz.underlying27
  have hown0 : Hid ((w.alloc (.cells #[] 3)).ownsRow w.heap.size 3 1 (.slice (some ⟨w.heap.size, 0, none⟩) 0 0) 0 []) := World.ownsRow_lit w #[] 0 (Nat.le_refl _) (Nat.zero_le _) rfl
  generalize hll : l.length = ln at *
  clear hs
  go_enter Tryz.func69, Tryz.ntmps69
  go_wp2_with (at_builtin; refine wpList_append_own _ rfl _ _ 27 rfl w.heap.size 3 i0 (.int .i64 0) 1 8 Tryz.underlying27 hi hz0 hz1 hz2 rfl (by decide) _ 0 [] rfl hown0.out a ln cap (l.map (Value.int .i64)) rfl HL.out HN.out HO.out (by unfold maxLen; omega) (by omega) (by simp) ?_; intro v' w1 hown1 hgrow1 _)
  have hb : Below w.heap.size w w1 := ((Below.refl _ _).alloc (Nat.le_refl _) _).grown hgrow1 (by simp) (fun k hk => by cases hk; exact Nat.le_refl _)
  go_ret
  refine ⟨v', rfl, ⟨?_⟩, hb⟩
  rw [hll]
  simpa using hown1
theorem lclone_any (v : Value) (l : List Int) (w : World) (hn : l.length ≤ 1000000) (hs : SeesL w v l) :
    Calls Tryz.prog 69 #[v] w fun e w' => ∃ v, e = .returned v ∧ IntsOn w' w.heap.size v l ∧ Below w.heap.size w w' := by
  obtain ⟨A, cap, rfl, h1, h2⟩ := hs
  rcases A with _ | a
  · obtain ⟨h3, rfl⟩ := h1 rfl
    have hl : l = [] := List.length_eq_zero_iff.1 h3
    subst hl
    refine (lclone_nil w).mono ?_
    rintro e w' ⟨rfl, rfl⟩
    exact ⟨_, rfl, ⟨World.ownsRow_nil _ _ _ _⟩, Below.refl _ _⟩
  · exact lclone_some a cap l w hn h2
theorem lsame_any (w : World) (v v' : Value) (l : List Int) (hn : l.length ≤ 1000000) (h : SeesL w v l) (h' : SeesL w v' l) :
    Calls Tryz.prog 16 #[v, v'] w fun e w' => e = .returned (.bool true) ∧ Below w.heap.size w w' := by
  obtain ⟨A, cap, rfl, -, h2⟩ := h
  obtain ⟨A', cap', rfl, -, h2'⟩ := h'
  have H : Hid (0 < l.length → ∃ b off : Nat, A = some ⟨b, off, none⟩ ∧ b < w.heap.size ∧ ∀ j, j < l.length → w.cell? ⟨b, off + j, none⟩ = some (.int .i64 (l.getD j 0))) := h2
  have H' : Hid (0 < l.length → ∃ b off : Nat, A' = some ⟨b, off, none⟩ ∧ b < w.heap.size ∧ ∀ j, j < l.length → w.cell? ⟨b, off + j, none⟩ = some (.int .i64 (l.getD j 0))) := h2'
  clear h2 h2'
  have HF : Hid (∃ (f : Nat → Int) (n : Nat), (fun j => l.getD j 0) = f ∧ l.length = n) := ⟨_, _, rfl, rfl⟩
  obtain ⟨f, n, hf, hl⟩ := HF.out
  have hfe : ∀ j, l.getD j 0 = f j := fun j => congrFun hf j
  simp only [hfe] at H H'
  rw [hl] at H H' hn ⊢
  clear HF hf hl hfe
  go_enter Tryz.func16, Tryz.ntmps16
  go_wp2_with fail
  go_loopw [5] (fun i wr => ∃ k m : Nat, k ≤ n ∧ i = .int .i64 k ∧ wr = w.drewN m) (fun i _ => n - (intOf i).toNat)
  case atStart => exact ⟨0, 0, Nat.zero_le _, rfl, rfl⟩
  case round =>
    obtain ⟨k, m, hk, rfl, rfl⟩ := hrel
    by_cases hlt : k < n
    · obtain ⟨b, off, rfl, hbB, hcell⟩ := H.out (by omega)
      obtain ⟨b', off', rfl, hbB', hcell'⟩ := H'.out (by omega)
      have e0 : w.cell? ⟨b, off + k, none⟩ = some (.int .i64 (f k)) := hcell k hlt
      have e1 : w.cell? ⟨b', off' + k, none⟩ = some (.int .i64 (f k)) := hcell' k hlt
      clear hcell hcell'
      generalize f k = x at e0 e1
      go_wp2_with fail
      go_quiet (fail)
      go_wp2_with fail
      go_roundw
      case rel => exact ⟨k + 1, _, by omega, by go_num, rfl⟩
      case measure => simp [intOf]; omega
    · obtain rfl : k = n := by omega
      go_wp2_with fail
      go_ret
      exact ⟨rfl, Below.drewN' (Below.refl _ _) m⟩
end Go.Proofs.YthhlklfioipmgaaGreat

namespace Go.Proofs.YthhlklfioipmgaaGreat
open Go Go.RowKit
set_option linter.unusedVariables false
set_option maxRecDepth 100000
set_option linter.unusedSimpArgs false

theorem isD_qput (v : Value) (xT : TypeId) (w : World) : (Instr.typeAssert (.iface 36 v) xT 217 true).run Tryz.prog w = .ok (.tuple #[.iface 36 v, .bool true]) w := run_typeAssert_hasB Tryz.underlying217 (by kernel_rfl) v xT w
theorem eqIIn_qput (w : World) (fuel : Nat) (v : Value) : (Op.equalIn (fuel + 1) 181 (.iface 36 v) .nilIface).run Tryz.prog w = .ok false w := by
  simp only [Op.equalIn, Sem.run_bind, run_underlying Tryz.underlying181, Result.andThen_ok]
  rfl
theorem eqI_qput (v : Value) (w : World) : (binOp .eql 181 (.iface 36 v) .nilIface).run Tryz.prog w = .ok (.bool false) w := by
  have h := eqIIn_qput w 9999 v
  simp only [binOp]
  simp [Op.equal, Op.maxDepth, h]
theorem neqI_qput (v : Value) (w : World) : (binOp .neq 181 (.iface 36 v) .nilIface).run Tryz.prog w = .ok (.bool true) w := by
  have h := eqIIn_qput w 9999 v
  simp only [binOp]
  simp [Op.equal, Op.maxDepth, h]
theorem isdone_qput (w : World) (x : Nat) (nx : Option Addr) (hc : w.cell? ⟨x, 1, none⟩ = some (.pointer nx)) :
    Calls Tryz.prog 177 #[.iface 36 (.pointer (some ⟨x, 0, none⟩))] w fun e w' => e = .returned (.bool nx.isNone) ∧ w = w' := by
  have h1 := isD_qput
  have h2 := eqI_qput
  have hD := done_qput w x nx hc
  go_enter Tryz.func177, Tryz.ntmps177
  go_wp2_with fail
  go_at_call 15; refine hD.mono ?_; rintro e w1 ⟨rfl, rfl⟩
  go_wp2_with fail
  go_ret
  exact ⟨rfl, rfl⟩

theorem frun0_qput (w : World) (c x : Nat) (cs : Array Value) (T : TypeId) (fv : Value) (nx : Addr) (h : Blk w c cs T) (hs : 2 ≤ cs.size) (hf : Fv fv) (hxc : x ≠ c) (hx : w.cell? ⟨x, 1, none⟩ = some (.pointer (some nx))) :
    Calls Tryz.prog 157 #[.pointer (some ⟨c, 0, none⟩), .iface 36 (.pointer (some ⟨x, 0, none⟩)), fv] w fun e w' => (∃ v, e = .returned v) ∧ ∃ q g, CameBox w w' c cs T (fun v => comCells 0 0 0 0 0 false (.iface 36 (.pointer (some ⟨x, 0, none⟩))) v false false) fv q g := by
  have c1 := h.cell 1 (Array.getElem?_eq_getElem (by omega))
  have f1 := h.fro 1
  have hlt := h.lt
  have h1 := h.set 1 (.pointer none)
  have c2 := h1.cell 1 (v := .pointer none) (by rw [Array.getElem?_setIfInBounds, if_pos rfl, if_pos (by omega)])
  have f2 := h1.fro 1
  have hB1 : But [c] w (w.setCell ⟨c, 1, none⟩ (.pointer none)) := (But.refl _ w).set (g := c) (.inl (by simp)) 1 _
  have hsz : (w.setCell ⟨c, 1, none⟩ (.pointer none)).heap.size = w.heap.size := size_set _ _ _
  have hD := isdone_qput (w.setCell ⟨c, 1, none⟩ (.pointer none)) x (some nx) (by
    rw [show (w.setCell ⟨c, 1, none⟩ (.pointer none)).cell? ⟨x, 1, none⟩ = w.cell? ⟨x, 1, none⟩ by simp only [World.cell?]; rw [heap_set_ne w hxc 1 _]]
    exact hx)
  have hU := fun w => untold_any w fv hf
  have HH : Hid (Blk (w.setCell ⟨c, 1, none⟩ (.pointer none)) c (cs.setIfInBounds 1 (.pointer none)) T ∧ But [c] w (w.setCell ⟨c, 1, none⟩ (.pointer none))) := ⟨h1, hB1⟩
  clear h h1 hB1 hx
  go_enter Tryz.func157, Tryz.ntmps157
  go_wp2_with fail
  generalize w.setCell ⟨c, 1, none⟩ (.pointer none) = W at *
  go_at_call 177; refine hD.mono ?_; rintro e w1 ⟨rfl, rfl⟩
  go_wp2_with fail
  go_at_call 160; refine (hU _).mono ?_; rintro e w2 ⟨rfl, rfl⟩
  have hg := Blk.new W #[fv] 1
  have hW2 : Blk (W.alloc (.cells #[fv] 1)) c (cs.setIfInBounds 1 (.pointer none)) T := HH.out.1.al _
  have hsz2 : Hid ((W.alloc (.cells #[fv] 1)).heap.size = w.heap.size + 1) := (by rw [World.size_alloc, hsz] : (W.alloc (.cells #[fv] 1)).heap.size = w.heap.size + 1)
  have hB2 : But [c] w (W.alloc (.cells #[fv] 1)) := HH.out.2.alloc _
  rw [hsz] at hg ⊢
  have HG : Hid (Blk (W.alloc (.cells #[fv] 1)) w.heap.size #[fv] 1 ∧ Blk (W.alloc (.cells #[fv] 1)) c (cs.setIfInBounds 1 (.pointer none)) T ∧ But [c] w (W.alloc (.cells #[fv] 1))) := ⟨hg, hW2, hB2⟩
  have c3 := hW2.cell 1 (v := .pointer none) (by rw [Array.getElem?_setIfInBounds, if_pos rfl, if_pos (by omega)])
  have f3 := hW2.fro 1
  clear hD hU c1 f1 c2 f2 hg hW2 hB2
  generalize W.alloc (.cells #[fv] 1) = W2 at *
  have hlt2 : c < W2.heap.size := by have := hsz2.out; omega
  clear hsz HH
  go_wp2_with fail
  go_end0
  obtain ⟨g1, g2, g3⟩ := HG.out
  have hsz2 := hsz2.out
  refine ⟨⟨_, rfl⟩, W2.heap.size, w.heap.size, ⟨⟨by omega, ?_, ?_, ?_⟩, Nat.le_refl _, ?_, by omega⟩⟩
  · have := (g2.set 1 (.pointer (some ⟨W2.heap.size, 0, none⟩))).al (.cells (comCells 0 0 0 0 0 false (.iface 36 (.pointer (some ⟨x, 0, none⟩))) (.func (.func 180) #[] #[.pointer (some ⟨w.heap.size, 0, none⟩)]) false false) 183)
    rw [set_twice] at this
    exact this
  · have := Blk.new (W2.setCell ⟨c, 1, none⟩ (.pointer (some ⟨W2.heap.size, 0, none⟩))) (comCells 0 0 0 0 0 false (.iface 36 (.pointer (some ⟨x, 0, none⟩))) (.func (.func 180) #[] #[.pointer (some ⟨w.heap.size, 0, none⟩)]) false false) 183
    rw [size_set] at this
    exact this
  · exact (g3.set (g := c) (.inl (by simp)) 1 _).alloc _
  · exact (g1.setne (by omega) 1 _).al _

theorem act0_qput (w : World) (q cm x : Nat) (who : Int) (thn : Value) (z : Bool) (Mw : World → Prop) (hq : Blk w q (comCells 0 0 0 0 0 false (.iface 36 (.pointer (some ⟨x, 0, none⟩))) thn false false) 183)
    (hS : ∀ W, But [q] w W → Blk W q (comCells 0 0 0 0 0 false (.iface 36 (.pointer (some ⟨x, 0, none⟩))) thn false true) 183 → Calls Tryz.prog 19 #[.pointer (some ⟨x, 0, none⟩), .pointer (some ⟨cm, 0, none⟩)] W fun e w' => e = .returned (.bool z) ∧ Blk w' q (comCells 0 0 0 0 0 false (.iface 36 (.pointer (some ⟨x, 0, none⟩))) thn false true) 183 ∧ Mw w') :
    Calls Tryz.prog 134 #[.pointer (some ⟨q, 0, none⟩), .int .i64 who, .pointer (some ⟨cm, 0, none⟩)] w fun e w' => e = .returned (.tuple #[.int .u64 0, .bool z]) ∧ ∃ w1, Mw w1 ∧ Blk w1 q (comCells 0 0 0 0 0 false (.iface 36 (.pointer (some ⟨x, 0, none⟩))) thn false true) 183 ∧ w' = w1.setCell ⟨q, 9, none⟩ (.bool false) := by
  have hn := neqI_qput
  have hbm := Blk.new w #[.pointer (some ⟨cm, 0, none⟩)] 30
  have hq1 := hq.al (.cells #[.pointer (some ⟨cm, 0, none⟩)] 30)
  have hqlt := hq.lt
  have k6 := hq1.cell 6 (v := .iface 36 (.pointer (some ⟨x, 0, none⟩))) rfl
  have hask : Calls Tryz.prog 161 #[.pointer (some ⟨q, 0, none⟩), .func (.func 162) #[] #[.pointer (some ⟨w.heap.size, 0, none⟩)]] (w.alloc (.cells #[.pointer (some ⟨cm, 0, none⟩)] 30)) fun e w' => e = .returned (.bool z) ∧ ∃ w1, Mw w1 ∧ Blk w1 q (comCells 0 0 0 0 0 false (.iface 36 (.pointer (some ⟨x, 0, none⟩))) thn false true) 183 ∧ w' = w1.setCell ⟨q, 9, none⟩ (.bool false) := by
    have hne : w.heap.size ≠ q := by omega
    have k9 := hq1.cell 9 (v := .bool false) rfl
    have f9 := hq1.fro 9
    have hq2 := hq1.set 9 (.bool true)
    have l6 := hq2.cell 6 (v := .iface 36 (.pointer (some ⟨x, 0, none⟩))) rfl
    have hb2 := hbm.setne hne 9 (.bool true)
    have b0 := hb2.cell 0 (v := .pointer (some ⟨cm, 0, none⟩)) rfl
    have hst := hS ((w.alloc (.cells #[.pointer (some ⟨cm, 0, none⟩)] 30)).setCell ⟨q, 9, none⟩ (.bool true)) (((But.refl [q] w).alloc _).set (g := q) (.inl (by simp)) 9 _) hq2
    have hrun : Calls Tryz.prog 162 #[.iface 36 (.pointer (some ⟨x, 0, none⟩)), .pointer (some ⟨w.heap.size, 0, none⟩)] ((w.alloc (.cells #[.pointer (some ⟨cm, 0, none⟩)] 30)).setCell ⟨q, 9, none⟩ (.bool true)) fun e w' => e = .returned (.bool z) ∧ Blk w' q (comCells 0 0 0 0 0 false (.iface 36 (.pointer (some ⟨x, 0, none⟩))) thn false true) 183 ∧ Mw w' := by
      clear hS hq hbm hq1 k6 k9 f9 hq2 l6 hb2 hqlt hne
      generalize (w.alloc (.cells #[.pointer (some ⟨cm, 0, none⟩)] 30)).setCell ⟨q, 9, none⟩ (.bool true) = W at *
      go_enter Tryz.func162, Tryz.ntmps162
      go_wp2_with fail
      go_at_call 19; refine hst.mono ?_; rintro e w1 ⟨rfl, h1, h2⟩
      go_wp2_with fail
      go_ret
      exact ⟨rfl, h1, h2⟩
    clear hS hq hbm hq1 hq2 hb2 hst b0 hqlt
    go_enter Tryz.func161, Tryz.ntmps161
    go_wp2_with fail
    generalize (w.alloc (.cells #[.pointer (some ⟨cm, 0, none⟩)] 30)).setCell ⟨q, 9, none⟩ (.bool true) = W at *
    go_at_call 162; refine hrun.mono ?_; rintro e w1 ⟨rfl, h1, h2⟩
    have m9 := h1.cell 9 (v := .bool true) rfl
    have g9 := h1.fro 9
    clear hrun l6 k9 f9 k6
    go_wp2_with fail
    go_ret
    exact ⟨rfl, w1, h2, h1, rfl⟩
  clear hS hq hq1 hbm
  go_enter Tryz.func134, Tryz.ntmps134
  go_wp2_with fail
  generalize w.alloc (.cells #[.pointer (some ⟨cm, 0, none⟩)] 30) = W at *
  go_at_call 161; refine hask.mono ?_; rintro e w1 ⟨rfl, h1⟩
  clear hask k6
  go_wp2_with fail
  go_returns
  exact ⟨rfl, h1⟩

theorem frun_qput : RunCome 36 := fun w c y cs T fv nx h hs hf hyc hx => frun0_qput w c y cs T fv nx h hs hf hyc hx
theorem act_qput : ActRun 36 19 := fun w q cm y g who z Mw hq hS => act0_qput w q cm y who _ z Mw hq hS
end Go.Proofs.YthhlklfioipmgaaGreat

namespace Go.Proofs.YthhlklfioipmgaaGreat
open Go Go.RowKit
set_option linter.unusedVariables false
set_option maxRecDepth 100000
set_option linter.unusedSimpArgs false

def qpCells (who : Int) (nx : Option Addr) (cl : Nat) (sl : Value) (k : Int) (z : Bool) : Array Value := #[.int .i64 who, .pointer nx, .pointer (some ⟨cl, 0, none⟩), sl, .int .i64 k, .bool z]
/-- A row of ints at a block g of its own. -/
structure RowAt (w : World) (g cap : Nat) (l : List Int) : Prop where
  lt : g < w.heap.size
  cell : ∀ j, j < l.length → w.cell? ⟨g, j, none⟩ = some (.int .i64 (l.getD j 0))
theorem RowAt.but {w w' : World} {g cap : Nat} {l : List Int} {lb : List Nat} (h : RowAt w g cap l) (hB : But lb w w') (hg : g ∉ lb) : RowAt w' g cap l :=
  ⟨Nat.lt_of_lt_of_le h.lt hB.size, fun j hj => by
    have := h.cell j hj
    simp only [World.cell?] at this ⊢
    rw [hB.block g h.lt hg]; exact this⟩
theorem RowAt.below {w w' : World} {g cap : Nat} {l : List Int} (h : RowAt w g cap l) (hB : Below w.heap.size w w') : RowAt w' g cap l := h.but (But.of_below (l := []) hB) (by simp)
theorem IntsOn.row {w : World} {base : Nat} {v : Value} {l : List Int} (h : IntsOn w base v l) (h0 : 0 < l.length) : ∃ g cap, v = .slice (some ⟨g, 0, none⟩) l.length cap ∧ base ≤ g ∧ RowAt w g cap l := by
  rcases h.own.2 with ⟨e, h1⟩ | ⟨gb, cp, cur, e, hb, hh, hnc, hcm, hcs, htk⟩
  · omega
  · refine ⟨gb, cp, e, hb, block_lt hh, fun j hj => ?_⟩
    obtain ⟨gb', cap', e', hc⟩ := h.cell hj
    rw [e] at e'; cases e'
    exact hc

section
variable (w : World) (x cl g cap : Nat) (who : Int) (l : List Int) (nx : Option Addr)
theorem qput_tell (k : Int) (z : Bool) (h : Blk w x (qpCells who nx cl (.slice (some ⟨g, 0, none⟩) l.length cap) k z) 120) (hn : l.length ≤ 1000000) :
    Calls Tryz.prog 179 #[.pointer (some ⟨x, 0, none⟩)] w fun e w' => (∃ v, e = .returned v) ∧ Came w w' x (qpCells who nx cl (.slice (some ⟨g, 0, none⟩) l.length cap) k z) 120 (axAd 8 l.length) .nil := by
  have H := q_count w.drew x cl _ 120 (l.length : Int) h.drew (by simp [qpCells]) rfl
  have c3 := h.cell 3 (v := .slice (some ⟨g, 0, none⟩) l.length cap) rfl
  have e1 : IntKind.u64.wrap (l.length : Int) = (l.length : Int) := wrap_u64 (by omega)
  generalize l.length = n at *
  clear h
  go_enter Tryz.func179, Tryz.ntmps179
  go_wp2_with fail
  go_region_with (go_at_call 196; refine H.mono ?_; rintro e w1 ⟨⟨v, rfl⟩, hC⟩)
  all_goals
    have hC2 := hC.undrew
    clear H hC c3 e1
    go_wp2_with fail
    go_end0
    exact ⟨⟨_, rfl⟩, hC2⟩
set_option maxHeartbeats 4000000 in
theorem qput_trail (k : Int) (z : Bool) (h : Blk w x (qpCells who nx cl (.slice (some ⟨g, 0, none⟩) l.length cap) k z) 120) (hr : RowAt w g cap l) (hgx : g ≠ x) (h0 : 0 < l.length) (hn : l.length ≤ 1000000) :
    Calls Tryz.prog 159 #[.pointer (some ⟨x, 0, none⟩)] w fun e w' => (∃ v, e = .returned v) ∧ Came w w' x (qpCells who nx cl (.slice (some ⟨g, 0, none⟩) l.length cap) k true) 120 (axSt 7 (qwd (l.getD (l.length - 1) 0))) (.untold 179) := by
  have c5 := h.cell 5 (v := .bool z) rfl
  have f5 := h.fro 5
  have hlt := h.lt
  have h' : Blk _ x (qpCells who nx cl (.slice (some ⟨g, 0, none⟩) l.length cap) k true) 120 := h.set 5 (.bool true)
  have hB : But [x] w (w.setCell ⟨x, 5, none⟩ (.bool true)) := (But.refl _ w).set (g := x) (.inl (by simp)) 5 _
  have hc := (hr.but hB (by simpa using hgx)).cell (l.length - 1) (by omega)
  have H := q_store7 _ x cl 179 _ 120 (qwd (l.getD (l.length - 1) 0)) h'.drew (by simp [qpCells]) rfl
  have k3 := h'.cell 3 (v := .slice (some ⟨g, 0, none⟩) l.length cap) rfl
  generalize hyy : l.getD (l.length - 1) 0 = y at *
  generalize l.length = n at *
  generalize hV : w.setCell ⟨x, 5, none⟩ (.bool true) = V at *
  have hQ := q_word2 V.drew y
  obtain ⟨q, hq⟩ : ∃ q, n - 1 = q := ⟨_, rfl⟩
  rw [hq] at hc
  have e1 : IntKind.i64.wrap ((n : Int) - 1) = (q : Int) := by simp [IntKind.wrap, IntKind.bits, IntKind.signed]; omega
  have hq0 : (0 : Int) ≤ (q : Int) := by omega
  have hq1 : (q : Int) < (n : Int) := by omega
  clear hq h0
  clear h h' hr hyy
  go_enter Tryz.func159, Tryz.ntmps159
  go_wp2_with fail
  try rw [hV]
  clear hV c5 f5
  go_region_with (first | (go_at_call 126; refine hQ.mono ?_; rintro e w4 ⟨rfl, rfl⟩) | (go_at_call 164; refine H.mono ?_; rintro e w5 ⟨⟨v, rfl⟩, hC⟩))
  all_goals
    have hC2 := hC.undrew.before hB
    clear H hC hQ k3 hc
    go_wp2_with fail
    go_end0
    exact ⟨⟨_, rfl⟩, hC2⟩

set_option maxHeartbeats 4000000 in
theorem qput_chain_end (z : Bool) (h : Blk w x (qpCells who nx cl (.slice (some ⟨g, 0, none⟩) l.length cap) l.length z) 120) (hn : l.length ≤ 1000000) :
    Calls Tryz.prog 71 #[.pointer (some ⟨x, 0, none⟩)] w fun e w' => (∃ v, e = .returned v) ∧ Came w w' x (qpCells who nx cl (.slice (some ⟨g, 0, none⟩) l.length cap) l.length z) 120 (axLd 7) (.told 125) := by
  have H := fun m => q_load7 (w.drewN m) x cl 125 _ 120 (h.drewN m) (by simp [qpCells]) rfl
  have c3 := h.cell 3 (v := .slice (some ⟨g, 0, none⟩) l.length cap) rfl
  have c4 := h.cell 4 (v := .int .i64 l.length) rfl
  generalize l.length = n at *
  clear h
  go_enter Tryz.func71, Tryz.ntmps71
  go_wp2_with fail
  go_quiet (fail)
  go_wp2_with fail
  go_at_call 91; refine (H _).mono ?_; rintro e w1 ⟨⟨v, rfl⟩, hC⟩
  have hC2 := hC.before (((But.refl [x] w).drewN _))
  clear H hC c3 c4
  go_wp2_with fail
  refine bodyPost_ret (results_none rfl _ _ _) rfl ?_
  exact ⟨⟨_, rfl⟩, hC2⟩

set_option maxHeartbeats 4000000 in
theorem qput_chain_more (k : Nat) (P T G : Int) (z : Bool) (h : Blk w x (qpCells who nx cl (.slice (some ⟨g, 0, none⟩) l.length cap) k z) 120) (hr : RowAt w g cap l) (hgx : g ≠ x) (hk : k + 1 < l.length) (hn : l.length ≤ 1000000) (hl : Lay w cl P T G) (hxc : cl ≠ x) (hp : 0 ≤ P ∧ P ≤ 64) (hT : 0 ≤ T ∧ T ≤ 65536) (hG : G ≤ 65536) :
    Calls Tryz.prog 71 #[.pointer (some ⟨x, 0, none⟩)] w fun e w' => (∃ v, e = .returned v) ∧ Came w w' x (qpCells who nx cl (.slice (some ⟨g, 0, none⟩) l.length cap) ((k + 1 : Nat) : Int) z) 120 (axSt (wd (20 + P * 264 + T * 3) G 2 (l.getD k 0) 1) (qwd (l.getD (k + 1) 0))) (.untold 71) := by
  have c3 := h.cell 3 (v := .slice (some ⟨g, 0, none⟩) l.length cap) rfl
  have c4 := h.cell 4 (v := .int .i64 k) rfl
  have f4 := h.fro 4
  have hlt := h.lt
  have g0 := hr.cell k (by omega)
  have g1 := hr.cell (k + 1) hk
  have hglt := hr.lt
  have HH : Hid (Blk w x (qpCells who nx cl (.slice (some ⟨g, 0, none⟩) l.length cap) k z) 120 ∧ Lay w cl P T G) := ⟨h, hl⟩
  have HLK : Hid (∀ Y, Blk Y x (qpCells who nx cl (.slice (some ⟨g, 0, none⟩) l.length cap) ((k + 1 : Nat) : Int) z) 120 → Lay Y cl P T G → Calls Tryz.prog 128 #[.pointer (some ⟨x, 0, none⟩), .int .i64 (l.getD k 0)] Y fun e w' => e = .returned (.int .i64 (wd (20 + P * 264 + T * 3) G 2 (l.getD k 0) 1)) ∧ Below Y.heap.size Y w') := fun Y hY hLY => q_link Y x cl _ 120 P T G _ hY rfl hLY hp hT hG
  have HST : Hid (∀ Y i u, Blk Y x (qpCells who nx cl (.slice (some ⟨g, 0, none⟩) l.length cap) ((k + 1 : Nat) : Int) z) 120 → Calls Tryz.prog 127 #[.pointer (some ⟨x, 0, none⟩), .int .i64 i, .int .u64 u, .func (.func 71) #[.pointer (some ⟨x, 0, none⟩)] #[]] Y fun e w' => (∃ v, e = .returned v) ∧ Came Y w' x (qpCells who nx cl (.slice (some ⟨g, 0, none⟩) l.length cap) ((k + 1 : Nat) : Int) z) 120 (axSt i u) (.untold 71)) := fun Y i u hY => came_store Y x _ 120 hY (by simp [qpCells]) i u 71
  have HQ : Hid (∀ Y, Calls Tryz.prog 126 #[.int .i64 (l.getD (k + 1) 0)] Y fun e w' => e = .returned (.int .u64 (qwd (l.getD (k + 1) 0))) ∧ w' = Y) := fun Y => (q_word2 Y _).mono fun _ _ h => ⟨h.1, h.2.symm⟩
  generalize l.getD k 0 = y0 at *
  generalize l.getD (k + 1) 0 = y1 at *
  generalize wd (20 + P * 264 + T * 3) G 2 y0 1 = at' at *
  generalize l.length = n at *
  obtain ⟨q, hq⟩ : ∃ q, k + 1 = q := ⟨_, rfl⟩
  rw [hq] at g1 HLK HST ⊢
  have hkq : (k : Int) + 1 = (q : Int) := by omega
  have hq0 : (0 : Int) ≤ (q : Int) := by omega
  have hq1 : (q : Int) < (n : Int) := by omega
  have hk0 : (0 : Int) ≤ (k : Int) := by omega
  have hk1 : (k : Int) < (n : Int) := by omega
  have hd0 : decide ((k : Int) = (n : Int)) = false := decide_eq_false (by omega)
  have hnn : (n : Int) ≤ 1000000 := by omega
  clear h hr hl hp hT hG hq hk
  go_enter Tryz.func71, Tryz.ntmps71
  go_wp2_with fail
  go_quiet (fail)
  generalize nq = m1 at *
  go_wp2_with fail
  go_quiet (fail)
  generalize nq = m2 at *
  have hV1 : Blk ((w.drewN (m1 + m2)).setCell ⟨x, 4, none⟩ (.int .i64 q)) x (qpCells who nx cl (.slice (some ⟨g, 0, none⟩) n cap) q z) 120 := (HH.out.1.drewN (m1 + m2)).set 4 _
  have hBV : But [x] w ((w.drewN (m1 + m2)).setCell ⟨x, 4, none⟩ (.int .i64 q)) := ((But.refl [x] w).drewN (m1 + m2)).set (g := x) (.inl (by simp)) 4 _
  have hVg : ((w.drewN (m1 + m2)).setCell ⟨x, 4, none⟩ (.int .i64 q)).cell? ⟨g, q, none⟩ = some (.int .i64 y1) := by
    have h1 : (w.drewN (m1 + m2)).cell? ⟨g, q, none⟩ = some (.int .i64 y1) := g1
    simp only [World.cell?] at h1 ⊢
    rw [heap_set_ne _ hgx 4 _]
    exact h1
  have hLV : Lay ((w.drewN (m1 + m2)).setCell ⟨x, 4, none⟩ (.int .i64 q)) cl P T G := (hBV.block cl HH.out.2.lt (by simpa using hxc)).trans HH.out.2
  generalize hVV : (w.drewN (m1 + m2)).setCell ⟨x, 4, none⟩ (.int .i64 q) = V at hV1 hBV hVg hLV
  have k3 := hV1.cell 3 (v := .slice (some ⟨g, 0, none⟩) n cap) rfl
  have k4 := hV1.cell 4 (v := .int .i64 q) rfl
  have HV : Hid (Blk V x (qpCells who nx cl (.slice (some ⟨g, 0, none⟩) n cap) q z) 120 ∧ But [x] w V ∧ Lay V cl P T G) := ⟨hV1, hBV, hLV⟩
  clear hV1 hBV hLV
  go_wp2_with fail
  try rw [hVV]
  clear hVV c3 c4 f4 g0 g1 HH
  go_quiet (fail)
  generalize nq = m3 at *
  have k3' : (V.drewN m3).cell? ⟨x, 3, none⟩ = some (.slice (some ⟨g, 0, none⟩) n cap) := k3
  have k4' : (V.drewN m3).cell? ⟨x, 4, none⟩ = some (.int .i64 q) := k4
  have hVg' : (V.drewN m3).cell? ⟨g, q, none⟩ = some (.int .i64 y1) := hVg
  have HV3 : Hid (Blk (V.drewN m3) x (qpCells who nx cl (.slice (some ⟨g, 0, none⟩) n cap) q z) 120 ∧ But [x] w (V.drewN m3) ∧ Lay (V.drewN m3) cl P T G) := ⟨HV.out.1.drewN m3, HV.out.2.1.drewN m3, HV.out.2.2⟩
  clear k3 k4 hVg HV
  generalize V.drewN m3 = V3 at *
  go_wp2_with fail
  go_quiet ((go_at_call 126; exact Calls.quiet_of_same (HQ.out _)))
  generalize nq = m4 at *
  go_wp2_with fail
  have hBY : But [x] w (V3.drewN m4) := HV3.out.2.1.drewN m4
  have hY1 : Blk (V3.drewN m4) x (qpCells who nx cl (.slice (some ⟨g, 0, none⟩) n cap) q z) 120 := HV3.out.1.drewN m4
  have hLk := HLK.out (V3.drewN m4).drew hY1.drew (HV3.out.2.2 : Lay V3 cl P T G)
  generalize V3.drewN m4 = Y at *
  have HS : Hid (∀ w4, Below Y.drew.heap.size Y.drew w4 → Calls Tryz.prog 127 #[.pointer (some ⟨x, 0, none⟩), .int .i64 at', .int .u64 (qwd y1), .func (.func 71) #[.pointer (some ⟨x, 0, none⟩)] #[]] w4 fun e w' => (∃ v, e = .returned v) ∧ Came w w' x (qpCells who nx cl (.slice (some ⟨g, 0, none⟩) n cap) q z) 120 (axSt at' (qwd y1)) (.untold 71)) := by
    intro w4 k
    refine (HST.out w4 _ _ (hY1.drew.but (But.of_below (l := []) k) (by simp))).mono ?_
    rintro e w5 ⟨hv, hC⟩
    exact ⟨hv, hC.before (hBY.drew.trans (But.of_below k))⟩
  clear HLK HST hBY hY1 HV3 k3' k4' hVg' HQ
  go_region_with (first | (go_at_call 128; refine hLk.mono ?_; rintro e w4 ⟨rfl, k⟩) | (go_at_call 127; refine (HS.out _ k).mono ?_; rintro e w5 ⟨⟨v, rfl⟩, hC⟩))
  all_goals
    clear hLk k HS
    go_wp2_with fail
    go_end0
    exact ⟨⟨_, rfl⟩, hC⟩

set_option maxHeartbeats 4000000 in
theorem qput_chain_last (k : Nat) (P T G : Int) (z : Bool) (h : Blk w x (qpCells who nx cl (.slice (some ⟨g, 0, none⟩) l.length cap) k z) 120) (hr : RowAt w g cap l) (hgx : g ≠ x) (hk : k + 1 = l.length) (hn : l.length ≤ 1000000) (hl : Lay w cl P T G) (hxc : cl ≠ x) (hp : 0 ≤ P ∧ P ≤ 64) (hT : 0 ≤ T ∧ T ≤ 65536) (hG : G ≤ 65536) :
    Calls Tryz.prog 71 #[.pointer (some ⟨x, 0, none⟩)] w fun e w' => (∃ v, e = .returned v) ∧ Came w w' x (qpCells who nx cl (.slice (some ⟨g, 0, none⟩) l.length cap) ((k + 1 : Nat) : Int) z) 120 (axSt (wd (20 + P * 264 + T * 3) G 2 (l.getD k 0) 1) 0) (.untold 71) := by
  have c3 := h.cell 3 (v := .slice (some ⟨g, 0, none⟩) l.length cap) rfl
  have c4 := h.cell 4 (v := .int .i64 k) rfl
  have f4 := h.fro 4
  have hlt := h.lt
  have g0 := hr.cell k (by omega)
  have hglt := hr.lt
  have HH : Hid (Blk w x (qpCells who nx cl (.slice (some ⟨g, 0, none⟩) l.length cap) k z) 120 ∧ Lay w cl P T G) := ⟨h, hl⟩
  have HLK : Hid (∀ Y, Blk Y x (qpCells who nx cl (.slice (some ⟨g, 0, none⟩) l.length cap) ((k + 1 : Nat) : Int) z) 120 → Lay Y cl P T G → Calls Tryz.prog 128 #[.pointer (some ⟨x, 0, none⟩), .int .i64 (l.getD k 0)] Y fun e w' => e = .returned (.int .i64 (wd (20 + P * 264 + T * 3) G 2 (l.getD k 0) 1)) ∧ Below Y.heap.size Y w') := fun Y hY hLY => q_link Y x cl _ 120 P T G _ hY rfl hLY hp hT hG
  have HST : Hid (∀ Y i u, Blk Y x (qpCells who nx cl (.slice (some ⟨g, 0, none⟩) l.length cap) ((k + 1 : Nat) : Int) z) 120 → Calls Tryz.prog 127 #[.pointer (some ⟨x, 0, none⟩), .int .i64 i, .int .u64 u, .func (.func 71) #[.pointer (some ⟨x, 0, none⟩)] #[]] Y fun e w' => (∃ v, e = .returned v) ∧ Came Y w' x (qpCells who nx cl (.slice (some ⟨g, 0, none⟩) l.length cap) ((k + 1 : Nat) : Int) z) 120 (axSt i u) (.untold 71)) := fun Y i u hY => came_store Y x _ 120 hY (by simp [qpCells]) i u 71
  generalize l.getD k 0 = y0 at *
  generalize wd (20 + P * 264 + T * 3) G 2 y0 1 = at' at *
  generalize l.length = n at *
  obtain ⟨q, hq⟩ : ∃ q, k + 1 = q := ⟨_, rfl⟩
  rw [hq] at HLK HST ⊢
  have hkq : (k : Int) + 1 = (q : Int) := by omega
  have hq0 : (0 : Int) ≤ (q : Int) := by omega
  have hqn : n ≤ q := by omega
  have hk0 : (0 : Int) ≤ (k : Int) := by omega
  have hk1 : (k : Int) < (n : Int) := by omega
  have hd0 : decide ((k : Int) = (n : Int)) = false := decide_eq_false (by omega)
  have hnn : (n : Int) ≤ 1000000 := by omega
  clear h hr hl hp hT hG hq hk
  go_enter Tryz.func71, Tryz.ntmps71
  go_wp2_with fail
  go_quiet (fail)
  generalize nq = m1 at *
  go_wp2_with fail
  go_quiet (fail)
  generalize nq = m2 at *
  have hV1 : Blk ((w.drewN (m1 + m2)).setCell ⟨x, 4, none⟩ (.int .i64 q)) x (qpCells who nx cl (.slice (some ⟨g, 0, none⟩) n cap) q z) 120 := (HH.out.1.drewN (m1 + m2)).set 4 _
  have hBV : But [x] w ((w.drewN (m1 + m2)).setCell ⟨x, 4, none⟩ (.int .i64 q)) := ((But.refl [x] w).drewN (m1 + m2)).set (g := x) (.inl (by simp)) 4 _
  have hLV : Lay ((w.drewN (m1 + m2)).setCell ⟨x, 4, none⟩ (.int .i64 q)) cl P T G := (hBV.block cl HH.out.2.lt (by simpa using hxc)).trans HH.out.2
  generalize hVV : (w.drewN (m1 + m2)).setCell ⟨x, 4, none⟩ (.int .i64 q) = V at hV1 hBV hLV
  have k3 := hV1.cell 3 (v := .slice (some ⟨g, 0, none⟩) n cap) rfl
  have k4 := hV1.cell 4 (v := .int .i64 q) rfl
  have HV : Hid (Blk V x (qpCells who nx cl (.slice (some ⟨g, 0, none⟩) n cap) q z) 120 ∧ But [x] w V ∧ Lay V cl P T G) := ⟨hV1, hBV, hLV⟩
  clear hV1 hBV hLV
  go_wp2_with fail
  try rw [hVV]
  clear hVV c3 c4 f4 g0 HH
  go_quiet (fail)
  generalize nq = m3 at *
  have k3' : (V.drewN m3).cell? ⟨x, 3, none⟩ = some (.slice (some ⟨g, 0, none⟩) n cap) := k3
  have k4' : (V.drewN m3).cell? ⟨x, 4, none⟩ = some (.int .i64 q) := k4
  have HV3 : Hid (Blk (V.drewN m3) x (qpCells who nx cl (.slice (some ⟨g, 0, none⟩) n cap) q z) 120 ∧ But [x] w (V.drewN m3) ∧ Lay (V.drewN m3) cl P T G) := ⟨HV.out.1.drewN m3, HV.out.2.1.drewN m3, HV.out.2.2⟩
  clear k3 k4 HV
  generalize V.drewN m3 = V3 at *
  go_wp2_with fail
  all_goals try (exfalso; omega)
  have hBY : But [x] w V3 := HV3.out.2.1
  have hY1 : Blk V3 x (qpCells who nx cl (.slice (some ⟨g, 0, none⟩) n cap) q z) 120 := HV3.out.1
  have hLk := HLK.out V3.drew hY1.drew (HV3.out.2.2 : Lay V3 cl P T G)
  generalize V3 = Y at *
  have HS : Hid (∀ w4, Below Y.drew.heap.size Y.drew w4 → Calls Tryz.prog 127 #[.pointer (some ⟨x, 0, none⟩), .int .i64 at', .int .u64 0, .func (.func 71) #[.pointer (some ⟨x, 0, none⟩)] #[]] w4 fun e w' => (∃ v, e = .returned v) ∧ Came w w' x (qpCells who nx cl (.slice (some ⟨g, 0, none⟩) n cap) q z) 120 (axSt at' 0) (.untold 71)) := by
    intro w4 k
    refine (HST.out w4 _ _ (hY1.drew.but (But.of_below (l := []) k) (by simp))).mono ?_
    rintro e w5 ⟨hv, hC⟩
    exact ⟨hv, hC.before (hBY.drew.trans (But.of_below k))⟩
  clear HLK HST hBY hY1 HV3 k3' k4' 
  go_region_with (first | (go_at_call 128; refine hLk.mono ?_; rintro e w4 ⟨rfl, k⟩) | (go_at_call 127; refine (HS.out _ k).mono ?_; rintro e w5 ⟨⟨v, rfl⟩, hC⟩))
  all_goals
    clear hLk k HS
    go_wp2_with fail
    go_end0
    exact ⟨⟨_, rfl⟩, hC⟩

set_option maxHeartbeats 4000000 in
theorem qput_lead_none (k : Int) (z : Bool) (h : Blk w x (qpCells who nx cl (.slice (some ⟨g, 0, none⟩) l.length cap) k z) 120) (hr : RowAt w g cap l) (h0 : 0 < l.length) (hn : l.length ≤ 1000000) :
    Calls Tryz.prog 125 #[.pointer (some ⟨x, 0, none⟩), .int .u64 0] w fun e w' => (∃ v, e = .returned v) ∧ Came w w' x (qpCells who nx cl (.slice (some ⟨g, 0, none⟩) l.length cap) k z) 120 (axSt 6 (qwd (l.getD 0 0))) (.untold 159) := by
  have c2 := h.cell 2 (v := .pointer (some ⟨cl, 0, none⟩)) rfl
  have c3 := h.cell 3 (v := .slice (some ⟨g, 0, none⟩) l.length cap) rfl
  have g0 := hr.cell 0 h0
  have hW := glob_word_6 w cl
  have hQ := q_word2 w.drew (l.getD 0 0)
  have H := came_store w.drew x _ 120 h.drew (by simp [qpCells]) 6 (qwd (l.getD 0 0)) 159
  have hn0 : (0 : Int) < (l.length : Int) := by omega
  generalize l.getD 0 0 = y at *
  generalize l.length = n at *
  clear h hr
  go_enter Tryz.func125, Tryz.ntmps125
  go_wp2_with fail
  go_at_call 86; refine hW.mono ?_; rintro e w3 ⟨rfl, rfl⟩
  clear hW c2
  go_wp2_with fail
  go_region_with (first | (go_at_call 126; refine hQ.mono ?_; rintro e w4 ⟨rfl, rfl⟩) | (go_at_call 127; refine H.mono ?_; rintro e w5 ⟨⟨v, rfl⟩, hC⟩))
  all_goals
    have hC2 := hC.undrew
    clear H hC hQ c3 g0
    go_wp2_with fail
    go_end0
    exact ⟨⟨_, rfl⟩, hC2⟩
set_option maxHeartbeats 4000000 in
theorem qput_lead_some (k t P T G : Int) (z : Bool) (h : Blk w x (qpCells who nx cl (.slice (some ⟨g, 0, none⟩) l.length cap) k z) 120) (hr : RowAt w g cap l) (h0 : 0 < l.length) (hn : l.length ≤ 1000000) (ht : t ≠ 0) (hl : Lay w cl P T G) (hp : 0 ≤ P ∧ P ≤ 64) (hT : 0 ≤ T ∧ T ≤ 65536) (hG : G ≤ 65536) :
    Calls Tryz.prog 125 #[.pointer (some ⟨x, 0, none⟩), .int .u64 t] w fun e w' => (∃ v, e = .returned v) ∧ Came w w' x (qpCells who nx cl (.slice (some ⟨g, 0, none⟩) l.length cap) k z) 120 (axSt (wd (20 + P * 264 + T * 3) G 2 (gw t) 1) (qwd (l.getD 0 0))) (.untold 159) := by
  have c2 := h.cell 2 (v := .pointer (some ⟨cl, 0, none⟩)) rfl
  have hW := glob_word_6 w cl
  have hd : (t == 0) = false := by simpa using ht
  have hd2 : (t != 0) = true := by simpa using ht
  obtain ⟨zz, hz⟩ : ∃ zz, IntKind.u64.wrap (t - 1) = zz := ⟨_, rfl⟩
  obtain ⟨yy, hyy⟩ : ∃ yy, IntKind.i64.wrap zz = yy := ⟨_, rfl⟩
  have hgw : gw t = yy := by unfold gw; rw [hz, hyy]
  rw [hgw]
  have hLk := q_link w x cl _ 120 P T G yy h rfl hl hp hT hG
  have HS : Hid (∀ Y, Below w.heap.size w Y → Y.cell? ⟨x, 3, none⟩ = some (.slice (some ⟨g, 0, none⟩) l.length cap) ∧ Y.cell? ⟨g, 0, none⟩ = some (.int .i64 (l.getD 0 0)) ∧ Calls Tryz.prog 127 #[.pointer (some ⟨x, 0, none⟩), .int .i64 (wd (20 + P * 264 + T * 3) G 2 yy 1), .int .u64 (qwd (l.getD 0 0)), .func (.func 159) #[.pointer (some ⟨x, 0, none⟩)] #[]] Y.drew fun e w' => (∃ v, e = .returned v) ∧ Came w w' x (qpCells who nx cl (.slice (some ⟨g, 0, none⟩) l.length cap) k z) 120 (axSt (wd (20 + P * 264 + T * 3) G 2 yy 1) (qwd (l.getD 0 0))) (.untold 159)) := by
    intro Y hY
    have hB : Blk Y x (qpCells who nx cl (.slice (some ⟨g, 0, none⟩) l.length cap) k z) 120 := h.but (But.of_below (l := []) hY) (by simp)
    refine ⟨hB.cell 3 rfl, (hr.below hY).cell 0 h0, (came_store Y.drew x _ 120 hB.drew (by simp [qpCells]) _ _ 159).mono ?_⟩
    rintro e w5 ⟨hv, hC⟩
    exact ⟨hv, hC.before ((But.of_below hY).drew)⟩
  have hQ := fun Y => q_word2 Y (l.getD 0 0)
  have hn0 : (0 : Int) < (l.length : Int) := by omega
  generalize wd (20 + P * 264 + T * 3) G 2 yy 1 = at' at *
  generalize l.getD 0 0 = y at *
  generalize l.length = n at *
  clear h hr hl hp hT hG hgw ht
  go_enter Tryz.func125, Tryz.ntmps125
  go_wp2_with fail
  go_at_call 86; refine hW.mono ?_; rintro e w3 ⟨rfl, rfl⟩
  clear hW c2
  go_wp2_with fail
  go_at_call 128; refine hLk.mono ?_; rintro e w4 ⟨rfl, k4⟩
  obtain ⟨k3, g0, H⟩ := HS.out w4 k4
  have hQ4 := hQ w4.drew
  clear hLk HS hQ
  go_wp2_with fail
  go_region_with (first | (go_at_call 126; refine hQ4.mono ?_; rintro e w5 ⟨rfl, rfl⟩) | (go_at_call 127; refine H.mono ?_; rintro e w5 ⟨⟨v, rfl⟩, hC⟩))
  all_goals
    clear H hQ4 k3 g0
    go_wp2_with fail
    go_end0
    exact ⟨⟨_, rfl⟩, hC⟩
end
end Go.Proofs.YthhlklfioipmgaaGreat

namespace Go.Proofs.YthhlklfioipmgaaGreat
open Go Go.RowKit
set_option linter.unusedVariables false
set_option maxRecDepth 100000
set_option linter.unusedSimpArgs false

def Rd.row (g cap : Nat) (l : List Int) : Rd := ⟨[g], fun w => RowAt w g cap l, fun w w' lb h hb hk => h.but hb (hk g (by simp))⟩
inductive QpT where
  | ch (k : Nat)
  | ld
  | pt (t : Int)
  | tr
  | ct
  | over
  | done0
def qpPM (gl : Int → Int) (l : List Int) : PM QpT where
  ax := fun
    | .ch k => some (axSt (gl (l.getD k 0)) (if k + 1 < l.length then qwd (l.getD (k + 1) 0) else 0))
    | .ld => some (axLd 7)
    | .pt t => some (axSt (if t = 0 then 6 else gl (gw t)) (qwd (l.getD 0 0)))
    | .tr => some (axSt 7 (qwd (l.getD (l.length - 1) 0)))
    | .ct => some (axAd 8 l.length)
    | .over => none
    | .done0 => none
  nx := fun
    | .ch k, _ => if k + 1 < l.length then .ch (k + 1) else .ld
    | .ld, v => .pt v
    | .pt _, _ => .tr
    | .tr, _ => .ct
    | .ct, _ => .over
    | t, _ => t
def QpT.linked (n : Nat) : QpT → Nat
  | .ch k => k + 1
  | .done0 => 0
  | _ => n
def QpT.lies : QpT → Bool
  | .tr => true
  | .ct => true
  | .over => true
  | _ => false
def qpFl (who : Int) (cl : Nat) (sl : Value) (l : List Int) : Fl QpT where
  T := 120
  cells := fun t nx => qpCells who nx cl sl (t.linked l.length) t.lies
  fol := fun
    | .ch _ => .untold 71
    | .ld => .told 125
    | .pt _ => .untold 159
    | .tr => .untold 179
    | _ => .nil
  ok := fun
    | .ch k => k < l.length
    | _ => True
theorem ent_qp1 : Ent 71 := fun args w => by kernel_rfl
theorem ent_qp2 : Ent 125 := fun args w => by kernel_rfl
theorem ent_qp3 : Ent 159 := fun args w => by kernel_rfl
theorem ent_qp4 : Ent 179 := fun args w => by kernel_rfl
theorem getD_bd {l : List Int} (hb : ∀ y ∈ l, 0 ≤ y ∧ y ≤ 1000000) (j : Nat) : 0 ≤ l.getD j 0 ∧ l.getD j 0 ≤ 1000000 := by
  rw [List.getD_eq_getElem?_getD]
  rcases Nat.lt_or_ge j l.length with h | h
  · rw [List.getElem?_eq_getElem h]; exact hb _ (List.getElem_mem _)
  · rw [List.getElem?_eq_none h]; exact ⟨Int.le_refl _, by decide⟩
section
variable (who P T G : Int) (cl g cap : Nat) (l : List Int) (hp : 0 ≤ P ∧ P ≤ 64) (hT : 0 ≤ T ∧ T ≤ 65536) (hG : 0 ≤ G ∧ G ≤ 65536) (h0 : 0 < l.length) (hn : l.length ≤ 1000000)
include hp hT hG h0 hn
theorem qp_laws : (qpFl who cl (.slice (some ⟨g, 0, none⟩) l.length cap) l).Laws (qpPM (fun y => wd (20 + P * 264 + T * 3) G 2 y 1) l) ((Rd.lay cl P T G).and (Rd.row g cap l)) who where
  c0 := fun t nx => rfl
  c1 := fun t nx => rfl
  set := fun t nx nx' => rfl
  axok := fun t a hok h => by
    cases t with
    | ch k =>
      cases h
      have := qwd_bd (l.getD (k + 1) 0)
      refine axSt_ok _ _ ?_
      by_cases hk : k + 1 < l.length
      · rw [if_pos hk]; omega
      · rw [if_neg hk]; omega
    | ld => cases h; exact axLd_ok _
    | pt t => cases h; exact axSt_ok _ _ (qwd_bd _)
    | tr => cases h; exact axSt_ok _ _ (qwd_bd _)
    | ct => cases h; exact axAd_ok _ _ (by omega)
    | over => cases h
    | done0 => cases h
  ents := fun t a h => by
    cases t with
    | ch k => exact ent_qp1
    | ld => exact ent_qp2
    | pt t => exact ent_qp3
    | tr => exact ent_qp4
    | ct => exact trivial
    | over => exact trivial
    | done0 => exact trivial
  ok := fun t a v hok h hv => by
    cases t with
    | ch k => by_cases hk : k + 1 < l.length <;> simp [qpPM, qpFl, hk]
    | ld => exact trivial
    | pt t => exact trivial
    | tr => exact trivial
    | ct => exact trivial
    | over => exact trivial
    | done0 => exact trivial
  fol := fun W x t a v hok h hv hB hR hxR => by
    obtain ⟨hR1, hR2⟩ := hR
    have hcx : cl ≠ x := fun e => hxR (by rw [← e]; exact List.mem_append_left _ (List.mem_singleton.2 rfl))
    have hgx : g ≠ x := fun e => hxR (by rw [← e]; exact List.mem_append_right _ (List.mem_singleton.2 rfl))
    cases t with
    | ch k =>
      cases h
      by_cases hk : k + 1 < l.length
      · have e : (qpPM (fun y => wd (20 + P * 264 + T * 3) G 2 y 1) l).nx (.ch k) v = .ch (k + 1) := if_pos hk
        rw [e]
        by_cases hk2 : k + 1 + 1 < l.length
        · have H := qput_chain_more W x cl g cap who l none (k + 1) P T G false hB hR2 hgx hk2 hn hR1 hcx hp hT hG.2
          have e2 : (qpPM (fun y => wd (20 + P * 264 + T * 3) G 2 y 1) l).ax (.ch (k + 1)) = some (axSt (wd (20 + P * 264 + T * 3) G 2 (l.getD (k + 1) 0) 1) (qwd (l.getD (k + 1 + 1) 0))) := by
            show some (axSt _ (if k + 1 + 1 < l.length then _ else _)) = _
            rw [if_pos hk2]
          refine H.mono ?_
          rintro e' w' ⟨hu, hC⟩
          refine ⟨hu, ?_⟩
          unfold Fl.Landed
          rw [e2]
          exact hC
        · have H := qput_chain_last W x cl g cap who l none (k + 1) P T G false hB hR2 hgx (by omega) hn hR1 hcx hp hT hG.2
          have e2 : (qpPM (fun y => wd (20 + P * 264 + T * 3) G 2 y 1) l).ax (.ch (k + 1)) = some (axSt (wd (20 + P * 264 + T * 3) G 2 (l.getD (k + 1) 0) 1) 0) := by
            show some (axSt _ (if k + 1 + 1 < l.length then _ else _)) = _
            rw [if_neg hk2]
          refine H.mono ?_
          rintro e' w' ⟨hu, hC⟩
          refine ⟨hu, ?_⟩
          unfold Fl.Landed
          rw [e2]
          exact hC
      · have e : (qpPM (fun y => wd (20 + P * 264 + T * 3) G 2 y 1) l).nx (.ch k) v = .ld := if_neg hk
        have hkn : k + 1 = l.length := by have : k < l.length := hok; omega
        rw [e]
        have hB' : Blk W x (qpCells who none cl (.slice (some ⟨g, 0, none⟩) l.length cap) l.length false) 120 := by
          have hB1 : Blk W x (qpCells who none cl (.slice (some ⟨g, 0, none⟩) l.length cap) ((k + 1 : Nat) : Int) false) 120 := hB
          rw [hkn] at hB1
          exact hB1
        exact qput_chain_end W x cl g cap who l none false hB' hn
    | ld =>
      cases h
      by_cases hv0 : v = 0
      · subst hv0
        exact qput_lead_none W x cl g cap who l none l.length false hB hR2 h0 hn
      · have H := qput_lead_some W x cl g cap who l none l.length v P T G false hB hR2 h0 hn hv0 hR1 hp hT hG.2
        have e2 : (qpPM (fun y => wd (20 + P * 264 + T * 3) G 2 y 1) l).ax (.pt v) = some (axSt (wd (20 + P * 264 + T * 3) G 2 (gw v) 1) (qwd (l.getD 0 0))) := by
          show some (axSt (if v = 0 then _ else _) _) = _
          rw [if_neg hv0]
        refine H.mono ?_
        rintro e' w' ⟨hu, hC⟩
        refine ⟨hu, ?_⟩
        show Fl.Landed _ _ _ _ _ (QpT.pt v)
        unfold Fl.Landed
        rw [e2]
        exact hC
    | pt t => cases h; exact qput_trail W x cl g cap who l none l.length false hB hR2 hgx h0 hn
    | tr => cases h; exact qput_tell W x cl g cap who l none l.length true hB hn
    | ct => cases h; exact ⟨hB, But.refl _ _⟩
    | over => cases h
    | done0 => cases h
end

/-- How a machine that puts goroutines behind lies in memory: its row is its own. -/
def qpI (who : Int) (cl : Nat) (gl : Int → Int) (l : List Int) : MI QpT := fun w x t L =>
  (0 < l.length ∧ ∃ g cap L', L = g :: L' ∧ g ∉ L' ∧ RowAt w g cap l ∧ (qpFl who cl (.slice (some ⟨g, 0, none⟩) l.length cap) l).I (qpPM gl l) w x t L') ∨
  (l = [] ∧ t = .done0 ∧ ∃ A cap, (A = none → cap = 0) ∧ (qpFl who cl (.slice A 0 cap) []).I (qpPM gl []) w x .done0 L)
theorem qp_good (who P T G : Int) (cl : Nat) (l : List Int) (hp : 0 ≤ P ∧ P ≤ 64) (hT : 0 ≤ T ∧ T ≤ 65536) (hG : 0 ≤ G ∧ G ≤ 65536) (hn : l.length ≤ 1000000) : (qpI who cl (fun y => wd (20 + P * 264 + T * 3) G 2 y 1) l).Good (qpPM (fun y => wd (20 + P * 264 + T * 3) G 2 y 1) l) where
  keep := by
    rintro w w' x t L lb (⟨h0, g, cap, L', rfl, hg, hr, h⟩ | ⟨rfl, rfl, A, cap, ha, h⟩) hbt hk
    · exact .inl ⟨h0, g, cap, L', rfl, hg, hr.but hbt (hk g (by simp)), (Fl.good (qp_laws who P T G cl g cap l hp hT hG h0 hn)).keep h hbt (fun k hm => hk k (by simp [hm]))⟩
    · rw [Fl.at_none rfl] at h
      obtain ⟨h1, h2, rfl⟩ := h
      refine .inr ⟨rfl, rfl, A, cap, ha, ?_⟩
      rw [Fl.at_none rfl]
      exact ⟨h1, h2.but hbt (hk x (by simp)), rfl⟩
  lt := by
    rintro w x t L (⟨h0, g, cap, L', rfl, hg, hr, h⟩ | ⟨rfl, rfl, A, cap, ha, h⟩) k hk
    · simp at hk
      rcases hk with rfl | hk
      · exact hr.lt
      · exact (Fl.good (qp_laws who P T G cl g cap l hp hT hG h0 hn)).lt h k hk
    · rw [Fl.at_none rfl] at h
      obtain ⟨h1, h2, rfl⟩ := h
      simp at hk; subst hk; exact h2.lt
  mem := by
    rintro w x t L (⟨h0, g, cap, L', rfl, hg, hr, h⟩ | ⟨rfl, rfl, A, cap, ha, h⟩)
    · exact List.mem_cons_of_mem _ ((Fl.good (qp_laws who P T G cl g cap l hp hT hG h0 hn)).mem h)
    · rw [Fl.at_none rfl] at h
      obtain ⟨h1, h2, rfl⟩ := h
      simp
  next := by
    rintro w x t L (⟨h0, g, cap, L', rfl, hg, hr, h⟩ | ⟨rfl, rfl, A, cap, ha, h⟩)
    · exact (Fl.good (qp_laws who P T G cl g cap l hp hT hG h0 hn)).next h
    · rw [Fl.at_none rfl] at h
      obtain ⟨h1, h2, rfl⟩ := h
      exact ⟨none, h2.cell 1 rfl, rfl⟩
theorem qp_steps (who P T G : Int) (cl : Nat) (l : List Int) (hp : 0 ≤ P ∧ P ≤ 64) (hT : 0 ≤ T ∧ T ≤ 65536) (hG : 0 ≤ G ∧ G ≤ 65536) (hn : l.length ≤ 1000000) {K : Nat} (hK : StepBy K) : Steps (qpPM (fun y => wd (20 + P * 264 + T * 3) G 2 y 1) l) (qpI who cl (fun y => wd (20 + P * 264 + T * 3) G 2 y 1) l) (Rd.lay cl P T G) K who := by
  rintro w A cp cm b n s x t L (⟨h0, g, cap, L', rfl, hg, hr, h⟩ | ⟨rfl, rfl, A1, cap, ha, h⟩) hR hI hn1 hl hf hcb
  · have hgf := hf g (by simp)
    have hgd := Fl.good (qp_laws who P T G cl g cap l hp hT hG h0 hn)
    refine (Fl.steps (qp_laws who P T G cl g cap l hp hT hG h0 hn) hK w A cp cm b n s x t L' h ⟨hR, hr⟩ hI hn1 hl (fun k hk => ⟨(hf k (by simp [hk])).1, (hf k (by simp [hk])).2.1, fun hm => ?_⟩) ⟨fun hm => ?_, fun hm => ?_⟩).mono ?_
    · rcases List.mem_append.1 hm with hm | hm
      · exact (hf k (by simp [hk])).2.2 hm
      · exact hg ((List.mem_singleton.1 hm) ▸ hk)
    · rcases List.mem_append.1 hm with hm | hm
      · exact hcb.1 hm
      · exact hgf.1 (List.mem_singleton.1 hm).symm
    · rcases List.mem_append.1 hm with hm | hm
      · exact hcb.2 hm
      · exact hgf.2.1 (List.mem_singleton.1 hm).symm
    · rintro e w' ⟨rfl, L2, h1, h2, h3, h4⟩
      refine ⟨rfl, g :: L2, .inl ⟨h0, g, cap, L2, rfl, fun hm => ?_, hr.but h3 ?_, h1⟩, h2, h3.more (by intro k _ hk; simp at hk ⊢; rcases hk with h | h | h <;> simp [h]), fun k hk => ?_⟩
      · rcases h4 g hm with h5 | h5
        · exact hg h5
        · have := hr.lt; omega
      · simp only [List.mem_cons, not_or]
        exact ⟨hgf.1, hgf.2.1, hg⟩
      · simp at hk
        rcases hk with rfl | hk
        · exact .inl (by simp)
        · rcases h4 k hk with h5 | h5
          · exact .inl (by simp [h5])
          · exact .inr h5
  · have hI0 := h
    rw [Fl.at_none rfl] at h
    obtain ⟨h1, h2, rfl⟩ := h
    refine (hK w x _ (fun z w' => z = true ∧ w = w') ((step_none w x cm (h2.cell 1 rfl)).mono ?_)).mono ?_
    · rintro e w' ⟨rfl, rfl⟩; exact ⟨true, rfl, rfl, rfl⟩
    · rintro e w' ⟨z, rfl, rfl, rfl⟩
      exact ⟨rfl, [x], .inr ⟨rfl, rfl, A1, cap, ha, hI0⟩, hI, But.refl _ _, fun k hk => .inl hk⟩
end Go.Proofs.YthhlklfioipmgaaGreat

namespace Go.Proofs.YthhlklfioipmgaaGreat
open Go Go.RowKit
set_option linter.unusedVariables false
set_option maxRecDepth 100000
set_option linter.unusedSimpArgs false

theorem RowAt.sees {w : World} {g cap : Nat} {l : List Int} (h : RowAt w g cap l) : SeesL w (.slice (some ⟨g, 0, none⟩) l.length cap) l :=
  ⟨_, cap, rfl, (fun h => by cases h), fun _ => ⟨g, 0, rfl, h.lt, fun j hj => by rw [Nat.zero_add]; exact h.cell j hj⟩⟩
theorem qput_holds (w : World) (x cl : Nat) (who k : Int) (nx : Option Addr) (sl : Value) (l : List Int) (z : Bool) (h : Blk w x (qpCells who nx cl sl k z) 120) (hs : SeesL w sl l) (hn : l.length ≤ 1000000) :
    Calls Tryz.prog 17 #[.pointer (some ⟨x, 0, none⟩)] w fun e w' => ∃ v, e = .returned v ∧ IntsOn w' w.heap.size v (if z then [] else l) ∧ Below w.heap.size w w' := by
  have c3 := h.cell 3 (v := sl) rfl
  have c5 := h.cell 5 (v := .bool z) rfl
  have HC := lclone_any sl l w hn hs
  clear h hs
  cases z with
  | true =>
    clear HC c3
    go_enter Tryz.func17, Tryz.ntmps17
    go_wp2_with fail
    go_ret
    exact ⟨_, rfl, ⟨World.ownsRow_nil _ _ _ _⟩, Below.refl _ _⟩
  | false =>
    go_enter Tryz.func17, Tryz.ntmps17
    go_wp2_with fail
    go_at_call 69; refine HC.mono ?_; rintro e w1 ⟨v, rfl, h1, h2⟩
    clear HC c3 c5
    go_wp2_with fail
    go_ret
    exact ⟨_, rfl, h1, h2⟩
theorem qput_holds_nil (w : World) : Calls Tryz.prog 17 #[.pointer none] w fun e w' => e = .returned (.slice none 0 0) ∧ w = w' := by
  go_enter Tryz.func17, Tryz.ntmps17
  go_wp2_with fail
  go_ret
  exact ⟨rfl, rfl⟩
theorem qp_holds {who : Int} {cl : Nat} {gl : Int → Int} {l : List Int} {w : World} {x : Nat} {t : QpT} {L : List Nat} (h : qpI who cl gl l w x t L) (hn : l.length ≤ 1000000) :
    Calls Tryz.prog 17 #[.pointer (some ⟨x, 0, none⟩)] w fun e w' => ∃ v, e = .returned v ∧ IntsOn w' w.heap.size v (if t.lies then [] else l) ∧ Below w.heap.size w w' := by
  rcases h with ⟨h0, g, cap, L', rfl, hg, hr, h⟩ | ⟨rfl, rfl, A, cap, ha, h⟩
  · obtain ⟨nx, h1, -⟩ := Fl.blk h
    exact qput_holds w x cl who _ nx _ l t.lies h1 hr.sees hn
  · obtain ⟨nx, h1, -⟩ := Fl.blk h
    exact qput_holds w x cl who _ nx (.slice A 0 cap) [] false h1 ⟨A, cap, rfl, fun e => ⟨rfl, ha e⟩, fun e => absurd e (by simp)⟩ hn
def qpStart (l : List Int) : QpT := if l = [] then .done0 else .ch 0
theorem qp_new_nil (w : World) (cl : Nat) (who : Int) (gl : Int → Int) (sl : Value) (hs : SeesL w sl []) :
    Calls Tryz.prog 12 #[.pointer (some ⟨cl, 0, none⟩), .int .i64 who, sl] w fun e w' => ∃ x L, e = .returned (.pointer (some ⟨x, 0, none⟩)) ∧ qpI who cl gl [] w' x .done0 L ∧ Below w.heap.size w w' ∧ (∀ k ∈ L, w.heap.size ≤ k) ∧ w.heap.size ≤ x := by
  have HC := lclone_any sl [] w (by simp) hs
  obtain ⟨A0, cap0, rfl, -, -⟩ := hs
  go_enter Tryz.func12, Tryz.ntmps12
  go_wp2_with fail
  go_at_call 69; refine HC.mono ?_; rintro e w1 ⟨v, rfl, h1, hb1⟩
  obtain ⟨A, cap, rfl, ha, -⟩ := h1.sees
  have hB := Blk.new w1 #[.int .i64 0, .pointer none, .pointer none, .slice A 0 cap, .int .i64 0, .bool false] 120
  have hO := q_of _ w1.heap.size cl who _ (qpCells who none cl (.slice A 0 cap) 0 false) 120 hB (by simp) rfl
  have HH : Hid (Below w.heap.size w (w1.alloc (.cells #[.int .i64 0, .pointer none, .pointer none, .slice A 0 cap, .int .i64 0, .bool false] 120)) ∧ w.heap.size ≤ w1.heap.size) := ⟨seq hb1 ((Below.refl _ _).alloc (Nat.le_refl _) _), hb1.size⟩
  clear HC h1 hb1 hB
  go_wp2_with fail
  go_at_call 70; refine hO.mono ?_; rintro e w2 ⟨⟨v, rfl⟩, k1, k2, k3⟩
  have HF : Hid (qpI who cl gl [] w2 w1.heap.size .done0 [w1.heap.size] ∧ Below w.heap.size w w2) := by
    refine ⟨.inr ⟨rfl, rfl, A, cap, fun e => (ha e).2, (Fl.at_none rfl).2 ⟨trivial, k1, rfl⟩⟩, ?_⟩
    exact HH.out.1.trans (k2.below (by intro k hk; simp at hk; subst hk; first | exact HH.out.2 | exact HH.out.2.2.2.1) (by have := HH.out.2; rw [World.size_alloc]; omega))
  have hsz := HH.out.2
  clear hO HH k1 k2 k3
  go_wp2_with fail
  go_ret
  exact ⟨_, _, rfl, HF.out.1, HF.out.2, fun k hk => by simp at hk; subst hk; exact hsz, hsz⟩
theorem qp_new_some (w : World) (cl : Nat) (who P T G : Int) (sl : Value) (l : List Int) (hs : SeesL w sl l) (h0 : 0 < l.length) (hn : l.length ≤ 1000000) (hl : Lay w cl P T G) (hp : 0 ≤ P ∧ P ≤ 64) (hT : 0 ≤ T ∧ T ≤ 65536) (hG : 0 ≤ G ∧ G ≤ 65536) :
    Calls Tryz.prog 12 #[.pointer (some ⟨cl, 0, none⟩), .int .i64 who, sl] w fun e w' => ∃ x L, e = .returned (.pointer (some ⟨x, 0, none⟩)) ∧ qpI who cl (fun y => wd (20 + P * 264 + T * 3) G 2 y 1) l w' x (.ch 0) L ∧ Below w.heap.size w w' ∧ (∀ k ∈ L, w.heap.size ≤ k) ∧ w.heap.size ≤ x := by
  have HC := lclone_any sl l w hn hs
  obtain ⟨A0, cap0, rfl, -, -⟩ := hs
  have hd : (0 : Int) < (l.length : Int) := by omega
  have HCH : Hid (∀ (Y : World) (x g cap : Nat), Blk Y x (qpCells who none cl (.slice (some ⟨g, 0, none⟩) l.length cap) 0 false) 120 → RowAt Y g cap l → g ≠ x → Lay Y cl P T G → cl ≠ x → Calls Tryz.prog 71 #[.pointer (some ⟨x, 0, none⟩)] Y fun e w' => (∃ v, e = .returned v) ∧ (qpFl who cl (.slice (some ⟨g, 0, none⟩) l.length cap) l).Landed (qpPM (fun y => wd (20 + P * 264 + T * 3) G 2 y 1) l) Y w' x (.ch 0)) := by
    intro Y x g cap hB hr hgx hl hcx
    by_cases hk2 : 0 + 1 < l.length
    · have H := qput_chain_more Y x cl g cap who l none 0 P T G false hB hr hgx hk2 hn hl hcx hp hT hG.2
      have e2 : (qpPM (fun y => wd (20 + P * 264 + T * 3) G 2 y 1) l).ax (.ch 0) = some (axSt (wd (20 + P * 264 + T * 3) G 2 (l.getD 0 0) 1) (qwd (l.getD (0 + 1) 0))) := by
        show some (axSt _ (if 0 + 1 < l.length then _ else _)) = _
        rw [if_pos hk2]
      refine H.mono ?_
      rintro e' w' ⟨hu, hC⟩
      refine ⟨hu, ?_⟩
      unfold Fl.Landed
      rw [e2]
      exact hC
    · have H := qput_chain_last Y x cl g cap who l none 0 P T G false hB hr hgx (by omega) hn hl hcx hp hT hG.2
      have e2 : (qpPM (fun y => wd (20 + P * 264 + T * 3) G 2 y 1) l).ax (.ch 0) = some (axSt (wd (20 + P * 264 + T * 3) G 2 (l.getD 0 0) 1) 0) := by
        show some (axSt _ (if 0 + 1 < l.length then _ else _)) = _
        rw [if_neg hk2]
      refine H.mono ?_
      rintro e' w' ⟨hu, hC⟩
      refine ⟨hu, ?_⟩
      unfold Fl.Landed
      rw [e2]
      exact hC
  have HLW : Hid (qpFl who cl .nilIface l = qpFl who cl .nilIface l ∧ 0 < l.length ∧ Lay w cl P T G) := ⟨rfl, h0, hl⟩
  have HLL : Hid (∀ g cap, (qpFl who cl (.slice (some ⟨g, 0, none⟩) l.length cap) l).Laws (qpPM (fun y => wd (20 + P * 264 + T * 3) G 2 y 1) l) ((Rd.lay cl P T G).and (Rd.row g cap l)) who) := fun g cap => qp_laws who P T G cl g cap l hp hT hG h0 hn
  generalize (fun y => wd (20 + P * 264 + T * 3) G 2 y 1) = gl at *
  generalize hnn : l.length = n at *
  clear hp hT hG hl
  go_enter Tryz.func12, Tryz.ntmps12
  go_wp2_with fail
  go_at_call 69; refine HC.mono ?_; rintro e w1 ⟨v, rfl, h1, hb1⟩
  obtain ⟨g, cap, rfl, hg0, hr⟩ := h1.row (by omega)
  rw [hnn]
  have hB := Blk.new w1 #[.int .i64 0, .pointer none, .pointer none, .slice (some ⟨g, 0, none⟩) n cap, .int .i64 0, .bool false] 120
  have hO := q_of _ w1.heap.size cl who _ (qpCells who none cl (.slice (some ⟨g, 0, none⟩) n cap) 0 false) 120 hB (by simp) rfl
  have HH : Hid (Below w.heap.size w w1 ∧ RowAt w1 g cap l ∧ Below w.heap.size w (w1.alloc (.cells #[.int .i64 0, .pointer none, .pointer none, .slice (some ⟨g, 0, none⟩) n cap, .int .i64 0, .bool false] 120)) ∧ w.heap.size ≤ w1.heap.size ∧ w.heap.size ≤ g) := ⟨hb1, hr, seq hb1 ((Below.refl _ _).alloc (Nat.le_refl _) _), hb1.size, hg0⟩
  clear HC h1 hb1 hB hr
  go_wp2_with fail
  go_at_call 70; refine hO.mono ?_; rintro e w2 ⟨⟨v, rfl⟩, k1, k2, k3⟩
  have hb2 : Below w.heap.size w w2 := HH.out.2.2.1.trans (k2.below (by intro k hk; simp at hk; subst hk; first | exact HH.out.2 | exact HH.out.2.2.2.1) (by have := HH.out.2.2.2.1; rw [World.size_alloc]; omega))
  have hgl := HH.out.2.1.lt
  have hr2 : RowAt w2 g cap l := (HH.out.2.1.below ((Below.refl _ _).alloc (Nat.le_refl _) _)).but k2 (by simp; omega)
  have hll := HLW.out.2.2.lt
  have hsz := HH.out.2.2.2.1
  have hCh := HCH.out w2 w1.heap.size g cap k1 hr2 (by omega) (HLW.out.2.2.below hb2 hll) (by omega)
  have HF2 : Hid (Below w.heap.size w w2 ∧ RowAt w2 g cap l ∧ w1.heap.size < w2.heap.size ∧ g < w1.heap.size ∧ w.heap.size ≤ g) := ⟨hb2, hr2, k1.lt, hgl, HH.out.2.2.2.2⟩
  clear hO HH k1 k2 k3 hr2 hb2 HCH
  go_wp2_with fail
  go_at_call 71; refine hCh.mono ?_; rintro e w3 ⟨⟨v2, rfl⟩, hC⟩
  have HF : Hid (∃ L, qpI who cl gl l w3 w1.heap.size (.ch 0) L ∧ Below w.heap.size w w3 ∧ ∀ k ∈ L, w.heap.size ≤ k) := by
    obtain ⟨-, ⟨L', i1, i2⟩, i3⟩ := Fl.land (HLL.out g cap) hC (by show 0 < l.length; rw [hnn]; exact HLW.out.2.1) HF2.out.2.2.1
    refine ⟨g :: L', .inl ⟨by rw [hnn]; exact HLW.out.2.1, g, cap, L', rfl, fun hm => ?_, HF2.out.2.1.but i3 (by have := HF2.out.2.2.2.1; simp; omega), by rw [hnn]; exact i1⟩, HF2.out.1.trans (i3.below (by simp; omega) HF2.out.1.size), fun k hk => ?_⟩
    · have := HF2.out.2.2.2.1
      rcases i2 g hm with h | h
      · omega
      · have := HF2.out.2.2.1; omega
    · have h3 := HF2.out.1.size
      simp at hk
      rcases hk with rfl | hk
      · exact HF2.out.2.2.2.2
      · rcases i2 k hk with rfl | h
        · exact hsz
        · omega
  clear hCh hC HF2
  go_wp2_with fail
  go_ret
  obtain ⟨L, f1, f2, f3⟩ := HF.out
  exact ⟨_, L, rfl, f1, f2, f3, hsz⟩
end Go.Proofs.YthhlklfioipmgaaGreat

namespace Go.Proofs.YthhlklfioipmgaaGreat
open Go Go.RowKit
set_option linter.unusedVariables false
set_option maxRecDepth 100000
set_option linter.unusedSimpArgs false

structure QpIn {σ : Type} (M : PM σ) (gl : Int → Int) (l : List Int) (emb : QpT → σ) : Prop where
  ch : ∀ k, M.ax (emb (.ch k)) = some (axSt (gl (l.getD k 0)) (if k + 1 < l.length then qwd (l.getD (k + 1) 0) else 0))
  ld : M.ax (emb .ld) = some (axLd 7)
  pt : ∀ t, M.ax (emb (.pt t)) = some (axSt (if t = 0 then 6 else gl (gw t)) (qwd (l.getD 0 0)))
  tr : M.ax (emb .tr) = some (axSt 7 (qwd (l.getD (l.length - 1) 0)))
  ct : M.ax (emb .ct) = some (axAd 8 l.length)
  n1 : ∀ k v, M.nx (emb (.ch k)) v = if k + 1 < l.length then emb (.ch (k + 1)) else emb .ld
  n2 : ∀ v, M.nx (emb .ld) v = emb (.pt v)
  n3 : ∀ t v, M.nx (emb (.pt t)) v = emb .tr
  n4 : ∀ v, M.nx (emb .tr) v = emb .ct
  n5 : ∀ v, M.nx (emb .ct) v = emb .over
def QpT.live : QpT → Bool
  | .over => false
  | .done0 => false
  | _ => true
theorem qp_in (gl : Int → Int) (l : List Int) : QpIn (qpPM gl l) gl l (fun p => p) where
  ch := fun _ => rfl
  ld := rfl
  pt := fun _ => rfl
  tr := rfl
  ct := rfl
  n1 := fun _ _ => rfl
  n2 := fun _ => rfl
  n3 := fun _ _ => rfl
  n4 := fun _ => rfl
  n5 := fun _ => rfl
/-- Where a put stopped, and what it holds there. -/
def QpQ {σ : Type} (Q : σ → Prop) (emb : QpT → σ) (l held : List Int) (q : σ) : Prop := (Q q ∧ held = l) ∨ ∃ p', QpT.live p' = true ∧ q = emb p' ∧ held = if p'.lies = true then [] else l
def QpE {σ : Type} (Q : σ → Prop) (emb : QpT → σ) (q : σ) : Prop := Q q ∨ ∃ p', QpT.live p' = true ∧ q = emb p' ∧ p'.lies = false
theorem QpE.q {σ : Type} {Q : σ → Prop} {emb : QpT → σ} {l : List Int} {q : σ} (h : QpE Q emb q) : QpQ Q emb l l q := by
  rcases h with h | ⟨p', h1, h2, h3⟩
  · exact .inl ⟨h, rfl⟩
  · exact .inr ⟨p', h1, h2, by rw [h3]; rfl⟩
def QpGot {σ : Type} (M : PM σ) (emb : QpT → σ) (l : List Int) (w : World) (x : Nat) (A : Option Addr) (cap m : Nat) (g : Nat → Int) (s0 : σ) (Q : σ → Prop) (j : Nat) (e : Ending) (w' : World) : Prop := ∃ (v : Value) (held : List Int) (j' : Nat) (p : QpT), e = .returned v ∧ SeesL w' v held ∧ RunOn w' x A cap m g (M.rj s0 g m j') ∧ Syn M s0 g m j' (emb p) (QpQ Q emb l held) ∧ p.live = false ∧ (j' ≤ m → held = if p.lies = true then [] else l) ∧ But [x] w w' ∧ j ≤ j'
theorem SeesL.but {w w' : World} {A : Option Addr} {n cap x : Nat} {l : List Int} (h : SeesL w (.slice A n cap) l) (hB : But [x] w w') (hx : ∀ b off : Nat, A = some ⟨b, off, none⟩ → b ≠ x) : SeesL w' (.slice A n cap) l := by
  obtain ⟨A', cap', e, h1, h2⟩ := h
  cases e
  refine ⟨_, _, rfl, h1, fun hn => ?_⟩
  obtain ⟨b, off, e1, h3, h4⟩ := h2 hn
  refine ⟨b, off, e1, Nat.lt_of_lt_of_le h3 hB.size, fun j hj => ?_⟩
  rw [← h4 j hj]
  have hk := hB.block b h3 (by simpa using hx b off e1)
  simp only [World.cell?]
  rw [hk]

set_option maxHeartbeats 4000000 in
theorem syn_qput {σ : Type} {M : PM σ} {P T G : Int} {l : List Int} {emb : QpT → σ} (hE : QpIn M (fun y => wd (20 + P * 264 + T * 3) G 2 y 1) l emb) (hp : 0 ≤ P ∧ P ≤ 64) (hT : 0 ≤ T ∧ T ≤ 65536) (hG : 0 ≤ G ∧ G ≤ 65536) (hn : l.length ≤ 1000000)
    {w : World} {x : Nat} {A B : Option Addr} {cap cp m : Nat} {g : Nat → Int} {s0 : σ} {j : Nat} {Q : σ → Prop} (hs : SeesL w (.slice B l.length cp) l) (hsx : 0 < l.length → ∀ b off : Nat, B = some ⟨b, off, none⟩ → b ≠ x) (hR : RunOn w x A cap m g (M.rj s0 g m j)) (hS : Syn M s0 g m j (emb (qpStart l)) Q) (hb : ∀ j, j < m → 0 ≤ g j ∧ g j ≤ 18446744073709551615) :
    Calls Tryz.prog 14 #[.pointer (some ⟨x, 0, none⟩), .agg #[.int .i64 P, .int .i64 T, .int .i64 G], .slice B l.length cp] w fun e w' => QpGot M emb l w x A cap m g s0 Q j e w' := by
  have hb0 : Below w.heap.size w (w.alloc (.cells #[.int .i64 P, .int .i64 T, .int .i64 G] 23)) := (Below.refl _ _).alloc (Nat.le_refl _) _
  have HX : Hid (Blk (w.alloc (.cells #[.int .i64 P, .int .i64 T, .int .i64 G] 23)) w.heap.size #[.int .i64 P, .int .i64 T, .int .i64 G] 23) := Blk.new _ _ _
  have hxw := hR.blk.lt
  have HB0 : Hid (But [x] w (w.alloc (.cells #[.int .i64 P, .int .i64 T, .int .i64 G] 23))) := But.of_below hb0
  have HGA : Hid (∀ y w, Calls Tryz.prog 77 #[.agg #[.int .i64 P, .int .i64 T, .int .i64 G], .int .i64 y, .int .i64 1] w fun e w' => e = .returned (.int .i64 (wd (20 + P * 264 + T * 3) G 2 y 1)) ∧ Below w.heap.size w w') := fun y w => refgAt_any P T G y 1 w hp hT hG.2 (by omega)
  have HE : Hid (QpIn M (fun y => wd (20 + P * 264 + T * 3) G 2 y 1) l emb) := hE
  have HBD : Hid (∀ j, j < m → 0 ≤ g j ∧ g j ≤ 18446744073709551615) := hb
  have HSL : Hid (SeesL w (.slice B l.length cp) l) := hs
  have HSX : Hid (0 < l.length → ∀ b off : Nat, B = some ⟨b, off, none⟩ → b ≠ x) := hsx
  have HR0 : Hid (RunOn (w.alloc (.cells #[.int .i64 P, .int .i64 T, .int .i64 G] 23)) x A cap m g (M.rj s0 g m j)) := hR.below hb0
  have HST : Hid (0 < l.length → Syn M s0 g m (j + 0) (emb (.ch 0)) (QpE Q emb)) := fun h0 => by
    have e : qpStart l = .ch 0 := if_neg (fun e => by rw [e] at h0; exact absurd h0 (by simp))
    rw [e] at hS
    exact hS.weak (fun r hr => .inl hr)
  have HS0 : Hid (Syn M s0 g m j (emb (qpStart l)) Q) := hS
  clear hR hS hE hb hb0 hp hT hG hs hsx
  go_enter Tryz.func14, Tryz.ntmps14
  go_wp2_with fail
  generalize w.alloc (.cells #[.int .i64 P, .int .i64 T, .int .i64 G] 23) = W at *
  by_cases hl0 : l.length = 0
  · have hle : l = [] := List.length_eq_zero_iff.1 hl0
    subst hle
    go_loopw [7] (fun i wr => i = .int .i64 0 ∧ wr = W) (fun i _ => 0)
    case atStart => exact ⟨rfl, rfl⟩
    case round =>
      obtain ⟨rfl, rfl⟩ := hrel
      go_wp2_with fail
      go_ret
      exact ⟨.slice none 0 0, [], j, .done0, rfl, ⟨none, 0, rfl, fun _ => ⟨rfl, rfl⟩, fun h => absurd h (by simp)⟩, HR0.out, HS0.out.weak (fun r hr => .inl ⟨hr, rfl⟩), rfl, fun _ => rfl, HB0.out, Nat.le_refl j⟩
  · have h0 : 0 < l.length := by omega
    have HSS : Hid _ := HST.out h0
    clear HS0 HST
    obtain ⟨b, off, rfl, hbl, hcl⟩ : ∃ b off : Nat, B = some ⟨b, off, none⟩ ∧ b < w.heap.size ∧ ∀ j, j < l.length → w.cell? ⟨b, off + j, none⟩ = some (.int .i64 (l.getD j 0)) := by
      obtain ⟨A', cap', e, h1, h2⟩ := HSL.out
      cases e
      exact h2 h0
    have hbx : b ≠ x := HSX.out h0 b off rfl
    have HCL : Hid (∀ Y, But [x] w Y → ∀ j, j < l.length → Y.cell? ⟨b, off + j, none⟩ = some (.int .i64 (l.getD j 0))) := fun Y hY j hj => by
      rw [← hcl j hj]
      have hk := hY.block b hbl (by simpa using hbx)
      simp only [World.cell?]
      rw [hk]
    clear hcl
    go_loopw [7] (fun i wr => ∃ k : Nat, k ≤ l.length ∧ i = .int .i64 k ∧ Hid (RunOn wr x A cap m g (M.rj s0 g m (j + k))) ∧ Hid (Syn M s0 g m (j + k) (emb (if k < l.length then .ch k else .ld)) (QpE Q emb)) ∧ Hid (But [x] w wr) ∧ Hid (Blk wr w.heap.size #[.int .i64 P, .int .i64 T, .int .i64 G] 23)) (fun i _ => l.length - (intOf i).toNat)
    case atStart => exact ⟨0, Nat.zero_le _, rfl, HR0, (by rw [if_pos h0]; exact HSS.out : Syn _ _ _ _ _ _ _), HB0, HX⟩
    case round =>
      clear HR0 HSS HB0 HX
      obtain ⟨k, hk, rfl, HR, HS, HB, HX⟩ := hrel
      by_cases hlt : k < l.length
      · have HS1 : Hid (Syn M s0 g m (j + k) (emb (.ch k)) (QpE Q emb)) := by have := HS.out; rw [if_pos hlt] at this; exact this
        have hk0 : (0 : Int) ≤ (k : Int) := by omega
        have hk1 : (k : Int) < (l.length : Int) := by omega
        have cg := HCL.out wr HB.out k hlt
        have y0 := HX.out.cell 0 (v := .int .i64 P) rfl
        have y1 := HX.out.cell 1 (v := .int .i64 T) rfl
        have y2 := HX.out.cell 2 (v := .int .i64 G) rfl
        obtain ⟨nx, hnx⟩ : ∃ nx, (if k + 1 < l.length then qwd (l.getD (k + 1) 0) else 0) = nx := ⟨_, rfl⟩
        have HAX : Hid (M.ax (emb (.ch k)) = some (axSt (wd (20 + P * 264 + T * 3) G 2 (l.getD k 0) 1) nx)) := by
          have := HE.out.ch k
          rw [hnx] at this
          exact this
        have HLD : Hid _ := HGA.out (l.getD k 0)
        have HCY : Hid (∀ Y, But [x] w Y → Y.cell? ⟨b, off + k, none⟩ = some (.int .i64 (l.getD k 0))) := fun Y hY => HCL.out Y hY k hlt
        generalize l.getD k 0 = yk at *
        clear HS
        by_cases hk2 : k + 1 < l.length
        · have cg2 := HCL.out wr HB.out (k + 1) hk2
          have hk3 : (k : Int) + 1 < (l.length : Int) := by omega
          have hd3 : decide ((k : Int) + 1 < (l.length : Int)) = true := decide_eq_true hk3
          have ht : ((k : Int) + 1).toNat = k + 1 := by omega
          have hnx2 : qwd (l.getD (k + 1) 0) = nx := by rw [if_pos hk2] at hnx; exact hnx
          generalize l.getD (k + 1) 0 = y2' at *
          obtain ⟨y3, hy3⟩ : ∃ y3, IntKind.u64.wrap y2' = y3 := ⟨_, rfl⟩
          have e6 : IntKind.u64.wrap (y3 + 1) = nx := by rw [← hy3]; exact hnx2
          clear hnx hnx2
          obtain ⟨at', hat⟩ : ∃ at', wd (20 + P * 264 + T * 3) G 2 yk 1 = at' := ⟨_, rfl⟩
          rw [hat] at HAX HLD
          obtain ⟨QC, hQC⟩ : ∃ QC : World → Prop, QC = fun w' => RunOn w' x A cap m g (M.rj s0 g m (j + k + 1)) ∧ Syn M s0 g m (j + k + 1) (emb (.ch (k + 1))) (QpE Q emb) ∧ But [x] w w' ∧ Blk w' w.heap.size #[.int .i64 P, .int .i64 T, .int .i64 G] 23 := ⟨_, rfl⟩
          have HGAd := HLD.out wr.drew
          have HSt : Hid (∀ w4, Below wr.drew.heap.size wr.drew w4 → Calls Tryz.prog 76 #[.pointer (some ⟨x, 0, none⟩), .int .i64 at', .int .u64 nx] w4 fun e w' => (∃ u, e = .returned u) ∧ QC w') := fun w4 k4 => by
            have hb4 : Below wr.heap.size wr w4 := (show Below wr.heap.size wr wr.drew from (Below.refl _ _).drew).trans k4
            refine (syn_store (HR.out.below hb4) HS1.out HBD.out at' nx (fun _ => HAX.out)).mono ?_
            rintro e w' ⟨hu, v5, hK⟩
            refine ⟨hu, ?_⟩
            rw [hQC]
            refine ⟨hK.run, ?_, (HB.out.trans (But.of_below hb4)).trans hK.but, (HX.out.but (But.of_below (l := []) hb4) (by simp)).but hK.but (by simp; omega)⟩
            have h5 := hK.syn
            rw [HE.out.n1, if_pos hk2] at h5
            exact h5.weak (fun r hr => by rcases hr with rfl | hr; exact .inr ⟨.ch k, rfl, rfl, rfl⟩; exact hr)
          have HSC : Hid (∀ Y, But [x] w Y → Blk Y w.heap.size #[.int .i64 P, .int .i64 T, .int .i64 G] 23 → (Y.cell? ⟨w.heap.size, 0, none⟩ = some (.int .i64 P) ∧ Y.cell? ⟨w.heap.size, 1, none⟩ = some (.int .i64 T) ∧ Y.cell? ⟨w.heap.size, 2, none⟩ = some (.int .i64 G) ∧ Y.cell? ⟨b, off + k, none⟩ = some (.int .i64 yk))) := fun Y hY hBY => ⟨hBY.cell 0 rfl, hBY.cell 1 rfl, hBY.cell 2 rfl, HCY.out Y hY⟩
          have hH : Hid (wr.drew.cell? ⟨w.heap.size, 0, none⟩ = some (.int .i64 P) ∧ wr.drew.cell? ⟨w.heap.size, 1, none⟩ = some (.int .i64 T) ∧ wr.drew.cell? ⟨w.heap.size, 2, none⟩ = some (.int .i64 G) ∧ wr.drew.cell? ⟨b, off + k, none⟩ = some (.int .i64 yk)) := HSC.out _ HB.out.drew HX.out.drew
          have KB : Hid (∀ w4, Below wr.drew.heap.size wr.drew w4 → (w4.cell? ⟨w.heap.size, 0, none⟩ = some (.int .i64 P) ∧ w4.cell? ⟨w.heap.size, 1, none⟩ = some (.int .i64 T) ∧ w4.cell? ⟨w.heap.size, 2, none⟩ = some (.int .i64 G) ∧ w4.cell? ⟨b, off + k, none⟩ = some (.int .i64 yk))) := fun w4 k4 => by
            have hb4 : Below wr.heap.size wr w4 := (show Below wr.heap.size wr wr.drew from (Below.refl _ _).drew).trans k4
            exact HSC.out _ (HB.out.trans (But.of_below hb4)) (HX.out.but (But.of_below (l := []) hb4) (by simp))
          have KC : Hid (∀ w5, QC w5 → (w5.cell? ⟨w.heap.size, 0, none⟩ = some (.int .i64 P) ∧ w5.cell? ⟨w.heap.size, 1, none⟩ = some (.int .i64 T) ∧ w5.cell? ⟨w.heap.size, 2, none⟩ = some (.int .i64 G) ∧ w5.cell? ⟨b, off + k, none⟩ = some (.int .i64 yk))) := fun w5 hC => by
            rw [hQC] at hC
            exact HSC.out _ hC.2.2.1 hC.2.2.2
          have HQC : Hid (∀ w5, QC w5 → RunOn w5 x A cap m g (M.rj s0 g m (j + (k + 1))) ∧ Syn M s0 g m (j + (k + 1)) (emb (if k + 1 < l.length then .ch (k + 1) else .ld)) (QpE Q emb) ∧ But [x] w w5 ∧ Blk w5 w.heap.size #[.int .i64 P, .int .i64 T, .int .i64 G] 23) := fun w5 hC => by
            rw [hQC] at hC
            rw [if_pos hk2]
            exact hC
          clear hQC hat HLD HAX HR HS1 HB HX y0 y1 y2 cg
          go_wp2_with fail
          clear cg2
          go_region_held3 (fun w' => w'.cell? ⟨w.heap.size, 0, none⟩ = some (.int .i64 P) ∧ w'.cell? ⟨w.heap.size, 1, none⟩ = some (.int .i64 T) ∧ w'.cell? ⟨w.heap.size, 2, none⟩ = some (.int .i64 G) ∧ w'.cell? ⟨b, off + k, none⟩ = some (.int .i64 yk)) (first | exact hH.out | exact KB.out _ ‹_› | exact KC.out _ ‹_›) (first | (go_at_call 77; refine HGAd.mono ?_; rintro e w4 ⟨rfl, k4⟩) | (go_at_call 76; refine (HSt.out _ ‹_›).mono ?_; rintro e w5 ⟨⟨u, rfl⟩, hC⟩))
          all_goals
            have HF : Hid _ := HQC.out _ hC
            clear HGAd HSt HSC hH KB KC HQC hC
            go_wp2_with fail
            go_roundw
            case rel => exact ⟨k + 1, by omega, by go_num, HF.out.1, HF.out.2.1, HF.out.2.2.1, HF.out.2.2.2⟩
            case measure => simp [intOf]; omega
        · have hk3 : ¬ ((k : Int) + 1 < (l.length : Int)) := by omega
          have hd3 : decide ((k : Int) + 1 < (l.length : Int)) = false := decide_eq_false hk3
          have hnx2 : (0 : Int) = nx := by rw [if_neg hk2] at hnx; exact hnx
          clear hnx
          subst hnx2
          obtain ⟨at', hat⟩ : ∃ at', wd (20 + P * 264 + T * 3) G 2 yk 1 = at' := ⟨_, rfl⟩
          rw [hat] at HAX HLD
          obtain ⟨QC, hQC⟩ : ∃ QC : World → Prop, QC = fun w' => RunOn w' x A cap m g (M.rj s0 g m (j + k + 1)) ∧ Syn M s0 g m (j + k + 1) (emb (.ld)) (QpE Q emb) ∧ But [x] w w' ∧ Blk w' w.heap.size #[.int .i64 P, .int .i64 T, .int .i64 G] 23 := ⟨_, rfl⟩
          have HGAd := HLD.out wr.drew
          have HSt : Hid (∀ w4, Below wr.drew.heap.size wr.drew w4 → Calls Tryz.prog 76 #[.pointer (some ⟨x, 0, none⟩), .int .i64 at', .int .u64 0] w4 fun e w' => (∃ u, e = .returned u) ∧ QC w') := fun w4 k4 => by
            have hb4 : Below wr.heap.size wr w4 := (show Below wr.heap.size wr wr.drew from (Below.refl _ _).drew).trans k4
            refine (syn_store (HR.out.below hb4) HS1.out HBD.out at' 0 (fun _ => HAX.out)).mono ?_
            rintro e w' ⟨hu, v5, hK⟩
            refine ⟨hu, ?_⟩
            rw [hQC]
            refine ⟨hK.run, ?_, (HB.out.trans (But.of_below hb4)).trans hK.but, (HX.out.but (But.of_below (l := []) hb4) (by simp)).but hK.but (by simp; omega)⟩
            have h5 := hK.syn
            rw [HE.out.n1, if_neg hk2] at h5
            exact h5.weak (fun r hr => by rcases hr with rfl | hr; exact .inr ⟨.ch k, rfl, rfl, rfl⟩; exact hr)
          have HSC : Hid (∀ Y, But [x] w Y → Blk Y w.heap.size #[.int .i64 P, .int .i64 T, .int .i64 G] 23 → (Y.cell? ⟨w.heap.size, 0, none⟩ = some (.int .i64 P) ∧ Y.cell? ⟨w.heap.size, 1, none⟩ = some (.int .i64 T) ∧ Y.cell? ⟨w.heap.size, 2, none⟩ = some (.int .i64 G) ∧ Y.cell? ⟨b, off + k, none⟩ = some (.int .i64 yk))) := fun Y hY hBY => ⟨hBY.cell 0 rfl, hBY.cell 1 rfl, hBY.cell 2 rfl, HCY.out Y hY⟩
          have hH : Hid (wr.drew.cell? ⟨w.heap.size, 0, none⟩ = some (.int .i64 P) ∧ wr.drew.cell? ⟨w.heap.size, 1, none⟩ = some (.int .i64 T) ∧ wr.drew.cell? ⟨w.heap.size, 2, none⟩ = some (.int .i64 G) ∧ wr.drew.cell? ⟨b, off + k, none⟩ = some (.int .i64 yk)) := HSC.out _ HB.out.drew HX.out.drew
          have KB : Hid (∀ w4, Below wr.drew.heap.size wr.drew w4 → (w4.cell? ⟨w.heap.size, 0, none⟩ = some (.int .i64 P) ∧ w4.cell? ⟨w.heap.size, 1, none⟩ = some (.int .i64 T) ∧ w4.cell? ⟨w.heap.size, 2, none⟩ = some (.int .i64 G) ∧ w4.cell? ⟨b, off + k, none⟩ = some (.int .i64 yk))) := fun w4 k4 => by
            have hb4 : Below wr.heap.size wr w4 := (show Below wr.heap.size wr wr.drew from (Below.refl _ _).drew).trans k4
            exact HSC.out _ (HB.out.trans (But.of_below hb4)) (HX.out.but (But.of_below (l := []) hb4) (by simp))
          have KC : Hid (∀ w5, QC w5 → (w5.cell? ⟨w.heap.size, 0, none⟩ = some (.int .i64 P) ∧ w5.cell? ⟨w.heap.size, 1, none⟩ = some (.int .i64 T) ∧ w5.cell? ⟨w.heap.size, 2, none⟩ = some (.int .i64 G) ∧ w5.cell? ⟨b, off + k, none⟩ = some (.int .i64 yk))) := fun w5 hC => by
            rw [hQC] at hC
            exact HSC.out _ hC.2.2.1 hC.2.2.2
          have HQC : Hid (∀ w5, QC w5 → RunOn w5 x A cap m g (M.rj s0 g m (j + (k + 1))) ∧ Syn M s0 g m (j + (k + 1)) (emb (if k + 1 < l.length then .ch (k + 1) else .ld)) (QpE Q emb) ∧ But [x] w w5 ∧ Blk w5 w.heap.size #[.int .i64 P, .int .i64 T, .int .i64 G] 23) := fun w5 hC => by
            rw [hQC] at hC
            rw [if_neg hk2]
            exact hC
          clear hQC hat HLD HAX HR HS1 HB HX y0 y1 y2 cg
          go_wp2_with fail
          go_region_held3 (fun w' => w'.cell? ⟨w.heap.size, 0, none⟩ = some (.int .i64 P) ∧ w'.cell? ⟨w.heap.size, 1, none⟩ = some (.int .i64 T) ∧ w'.cell? ⟨w.heap.size, 2, none⟩ = some (.int .i64 G) ∧ w'.cell? ⟨b, off + k, none⟩ = some (.int .i64 yk)) (first | exact hH.out | exact KB.out _ ‹_› | exact KC.out _ ‹_›) (first | (go_at_call 77; refine HGAd.mono ?_; rintro e w4 ⟨rfl, k4⟩) | (go_at_call 76; refine (HSt.out _ ‹_›).mono ?_; rintro e w5 ⟨⟨u, rfl⟩, hC⟩))
          all_goals
            have HF : Hid _ := HQC.out _ hC
            clear HGAd HSt HSC hH KB KC HQC hC
            go_wp2_with fail
            go_roundw
            case rel => exact ⟨k + 1, by omega, by go_num, HF.out.1, HF.out.2.1, HF.out.2.2.1, HF.out.2.2.2⟩
            case measure => simp [intOf]; omega
      · obtain rfl : k = l.length := by omega
        have HS1 : Hid (Syn M s0 g m (j + l.length) (emb .ld) (QpE Q emb)) := by have := HS.out; rw [if_neg hlt] at this; exact this
        have hgd : decide ((l.length : Int) < (l.length : Int)) = false := by simp
        have hz0 : ((l.length : Int) == 0) = false := by rw [beq_eq_false_iff_ne]; omega
        have hz1 : decide ((l.length : Int) = 0) = false := decide_eq_false (by omega)
        have hL := syn_load HR.out HS1.out HBD.out 7 (fun _ => HE.out.ld)
        have HJ : Hid (∀ q : Nat, j ≤ j + l.length + q) := fun q => (by omega : j ≤ j + l.length + q)
        generalize j + l.length = j1 at *
        clear HS hlt hk HR HS1
        go_wp2_with fail
        go_at_call 78; refine hL.mono ?_; rintro e z2 ⟨t, rfl, hK⟩
        have htb := hK.bd
        have HR2 : Hid (RunOn z2 x A cap m g (M.rj s0 g m (j1 + 1))) := hK.run
        have HS2 : Hid (Syn M s0 g m (j1 + 1) (emb (.pt t)) (QpE Q emb)) := by
          have := hK.syn
          rw [HE.out.n2] at this
          exact this.weak (fun r hr => by rcases hr with rfl | hr; exact .inr ⟨.ld, rfl, rfl, rfl⟩; exact hr)
        have HB2 : Hid (But [x] w z2) := HB.out.trans hK.but
        have HX2 : Hid (Blk z2 w.heap.size #[.int .i64 P, .int .i64 T, .int .i64 G] 23) := HX.out.but hK.but (by simp; omega)
        clear hL hK HB HX
        have HC0 : Hid (∀ Y, But [x] w Y → Y.cell? ⟨b, off, none⟩ = some (.int .i64 (l.getD 0 0))) := fun Y hY => HCL.out Y hY 0 h0
        have HCN : Hid (∀ Y, But [x] w Y → Y.cell? ⟨b, off + (l.length - 1), none⟩ = some (.int .i64 (l.getD (l.length - 1) 0))) := fun Y hY => HCL.out Y hY (l.length - 1) (by omega)
        have HPT : Hid (∀ t, M.ax (emb (.pt t)) = some (axSt (if t = 0 then 6 else wd (20 + P * 264 + T * 3) G 2 (gw t) 1) (qwd (l.getD 0 0)))) := HE.out.pt
        have HTR : Hid (M.ax (emb .tr) = some (axSt 7 (qwd (l.getD (l.length - 1) 0)))) := HE.out.tr
        generalize l.getD 0 0 = ya at *
        generalize l.getD (l.length - 1) 0 = yz at *
        obtain ⟨ya1, hya1⟩ : ∃ a, IntKind.u64.wrap ya = a := ⟨_, rfl⟩
        obtain ⟨ya2, hya2⟩ : ∃ a, qwd ya = a := ⟨_, rfl⟩
        have e2 : IntKind.u64.wrap (ya1 + 1) = ya2 := by rw [← hya1]; exact hya2
        obtain ⟨yz1, hyz1⟩ : ∃ a, IntKind.u64.wrap yz = a := ⟨_, rfl⟩
        obtain ⟨yz2, hyz2⟩ : ∃ a, qwd yz = a := ⟨_, rfl⟩
        have e4 : IntKind.u64.wrap (yz1 + 1) = yz2 := by rw [← hyz1]; exact hyz2
        rw [hya2] at HPT
        rw [hyz2] at HTR
        clear hya2 hyz2
        have e5 : IntKind.u64.wrap (l.length : Int) = (l.length : Int) := wrap_u64 (by omega)
        have e6 : ((l.length : Int) - 1).toNat = l.length - 1 := by omega
        have e7 : (0 : Int) < (l.length : Int) := by omega
        have e8 : (l.length : Int) - 1 < (l.length : Int) := by omega
        have e9 : (0 : Int) ≤ (l.length : Int) - 1 := by omega
        by_cases t0 : t = 0
        · subst t0
          have cg := HC0.out z2 HB2.out
          have HP0 : Hid (M.ax (emb (.pt 0)) = some (axSt 6 ya2)) := by have := HPT.out 0; rw [if_pos rfl] at this; exact this
          have hSt := syn_store HR2.out HS2.out HBD.out 6 ya2 (fun _ => HP0.out)
          clear HPT HP0 htb
          go_wp2_with fail
          go_at_call 76; refine hSt.mono ?_; rintro e z4 ⟨⟨u4, rfl⟩, v4, hK⟩
          have HR4 : Hid (RunOn z4 x A cap m g (M.rj s0 g m (j1 + 1 + 1))) := hK.run
          have HS4 : Hid (Syn M s0 g m (j1 + 1 + 1) (emb .tr) (QpE Q emb)) := by
            have := hK.syn
            rw [HE.out.n3] at this
            exact this.weak (fun r hr => by rcases hr with rfl | hr; exact .inr ⟨.pt 0, rfl, rfl, rfl⟩; exact hr)
          have HB4 : Hid (But [x] w z4) := HB2.out.trans hK.but
          have s4 := HR4.out.blk.cell 2 (v := .bool (M.rj s0 g m (j1 + 1 + 1)).stop) rfl
          rw [rj_stop HS4.out] at s4
          have cz := HCN.out z4 HB4.out
          have hSt2 := syn_store HR4.out HS4.out HBD.out 7 yz2 (fun _ => HTR.out)
          clear hSt hK cg HB2 HR2 HS2
          by_cases hm4 : m < j1 + 1 + 1
          · rw [decide_eq_true hm4] at s4
            have HM : Hid (m < j1 + 1 + 1) := hm4
            clear hm4
            go_wp2_with fail
            go_at_call 76; refine hSt2.mono ?_; rintro e z5 ⟨⟨u5, rfl⟩, v5, hK⟩
            have HB5 : Hid (But [x] w z5) := HB4.out.trans hK.but
            have HS5 : Hid (Syn M s0 g m (j1 + 1 + 1 + 1) (emb .ct) (QpQ Q emb l l)) := ⟨fun h => absurd h (by have := HM.out; omega), fun h => ⟨(HS4.out.past HM.out).1.q, (HS4.out.past HM.out).2⟩⟩
            have hA := syn_add hK.run HS5.out HBD.out 8 (l.length : Int) (fun _ => HE.out.ct)
            clear hSt2 hK s4 cz
            go_wp2_with fail
            go_at_call 79; refine hA.mono ?_; rintro e z6 ⟨v6, rfl, hK⟩
            have HF : Hid (QpGot M emb l w x A cap m g s0 Q j (.returned (.slice (some ⟨b, off, none⟩) l.length cp)) z6) := ⟨_, l, j1 + 1 + 1 + 1 + 1, .over, rfl, HSL.out.but (HB5.out.trans hK.but) (HSX.out (by omega)), hK.run, ⟨fun h => absurd h (by have := HM.out; omega), fun h => ⟨(HS5.out.past (by have := HM.out; omega)).1, (HS5.out.past (by have := HM.out; omega)).2⟩⟩, rfl, fun h => absurd h (by have := HM.out; omega), HB5.out.trans hK.but, HJ.out 4⟩
            clear hA hK
            go_wp2_with fail
            go_ret
            exact HF.out
          · rw [decide_eq_false hm4] at s4
            have HM : Hid (j1 + 1 + 1 ≤ m) := (by omega : j1 + 1 + 1 ≤ m)
            clear hm4
            go_wp2_with fail
            go_at_call 76; refine hSt2.mono ?_; rintro e z5 ⟨⟨u5, rfl⟩, v5, hK⟩
            have HB5 : Hid (But [x] w z5) := HB4.out.trans hK.but
            have HS5 : Hid (Syn M s0 g m (j1 + 1 + 1 + 1) (emb .ct) (QpQ Q emb l [])) := by
              have h5 := hK.syn
              rw [HE.out.n4] at h5
              refine ⟨h5.at', fun h => ⟨?_, (h5.past h).2⟩⟩
              have hmj : m = j1 + 1 + 1 := by have := HM.out; omega
              have h6 := HS4.out.at' HM.out
              rw [← hmj] at h6
              exact .inr ⟨.tr, rfl, h6, rfl⟩
            have hA := syn_add hK.run HS5.out HBD.out 8 (l.length : Int) (fun _ => HE.out.ct)
            clear hSt2 hK s4 cz
            go_wp2_with fail
            go_at_call 79; refine hA.mono ?_; rintro e z6 ⟨v6, rfl, hK⟩
            have HF : Hid (QpGot M emb l w x A cap m g s0 Q j (.returned (.slice none 0 0)) z6) := by
              have h7 := hK.syn
              rw [HE.out.n5] at h7
              exact ⟨_, [], j1 + 1 + 1 + 1 + 1, .over, rfl, ⟨none, 0, rfl, fun _ => ⟨rfl, rfl⟩, fun h => absurd h (by simp)⟩, hK.run, h7.weak (fun r hr => by rcases hr with rfl | hr; exact .inr ⟨.ct, rfl, rfl, rfl⟩; exact hr), rfl, fun _ => rfl, HB5.out.trans hK.but, HJ.out 4⟩
            clear hA hK
            go_wp2_with fail
            go_ret
            exact HF.out
        · have ht0 : (t == 0) = false := by simpa using t0
          have ht1 : (t != 0) = true := by simpa using t0
          have HP0 : Hid (M.ax (emb (.pt t)) = some (axSt (wd (20 + P * 264 + T * 3) G 2 (gw t) 1) ya2)) := by have := HPT.out t; rw [if_neg t0] at this; exact this
          have hGA2 := HGA.out (gw t) z2
          have y0 := HX2.out.cell 0 (v := .int .i64 P) rfl
          have y1 := HX2.out.cell 1 (v := .int .i64 T) rfl
          have y2 := HX2.out.cell 2 (v := .int .i64 G) rfl
          have eg : wrap64 (IntKind.i64.wrap t - 1) = gw t := gw_eq t htb
          have HSt0 : Hid (∀ Y, Below z2.heap.size z2 Y → Calls Tryz.prog 76 #[.pointer (some ⟨x, 0, none⟩), .int .i64 (wd (20 + P * 264 + T * 3) G 2 (gw t) 1), .int .u64 ya2] Y fun e w' => (∃ v, e = .returned v) ∧ ∃ v, Kept' Y w' x A cap m g M s0 (j1 + 1) (emb (.pt t)) (QpE Q emb) v) := fun Y hY => syn_store (HR2.out.below hY) HS2.out HBD.out _ ya2 (fun _ => HP0.out)
          generalize wd (20 + P * 264 + T * 3) G 2 (gw t) 1 = at' at *
          generalize gw t = gt at *
          generalize hvv : IntKind.i64.wrap t = t' at *
          clear HPT HP0
          go_wp2_with fail
          go_at_call 77; refine hGA2.mono ?_; rintro e z3 ⟨rfl, k3⟩
          have hSt := HSt0.out z3 k3
          have HB2 : Hid (But [x] w z3) := HB2.out.trans (But.of_below k3)
          have cg := HC0.out z3 HB2.out
          clear hGA2 HSt0 k3 y0 y1 y2 HX2 eg hvv
          go_wp2_with fail
          go_at_call 76; refine hSt.mono ?_; rintro e z4 ⟨⟨u4, rfl⟩, v4, hK⟩
          have HR4 : Hid (RunOn z4 x A cap m g (M.rj s0 g m (j1 + 1 + 1))) := hK.run
          have HS4 : Hid (Syn M s0 g m (j1 + 1 + 1) (emb .tr) (QpE Q emb)) := by
            have := hK.syn
            rw [HE.out.n3] at this
            exact this.weak (fun r hr => by rcases hr with rfl | hr; exact .inr ⟨.pt t, rfl, rfl, rfl⟩; exact hr)
          have HB4 : Hid (But [x] w z4) := HB2.out.trans hK.but
          have s4 := HR4.out.blk.cell 2 (v := .bool (M.rj s0 g m (j1 + 1 + 1)).stop) rfl
          rw [rj_stop HS4.out] at s4
          have cz := HCN.out z4 HB4.out
          have hSt2 := syn_store HR4.out HS4.out HBD.out 7 yz2 (fun _ => HTR.out)
          clear hSt hK cg HB2 HR2 HS2
          by_cases hm4 : m < j1 + 1 + 1
          · rw [decide_eq_true hm4] at s4
            have HM : Hid (m < j1 + 1 + 1) := hm4
            clear hm4
            go_wp2_with fail
            go_at_call 76; refine hSt2.mono ?_; rintro e z5 ⟨⟨u5, rfl⟩, v5, hK⟩
            have HB5 : Hid (But [x] w z5) := HB4.out.trans hK.but
            have HS5 : Hid (Syn M s0 g m (j1 + 1 + 1 + 1) (emb .ct) (QpQ Q emb l l)) := ⟨fun h => absurd h (by have := HM.out; omega), fun h => ⟨(HS4.out.past HM.out).1.q, (HS4.out.past HM.out).2⟩⟩
            have hA := syn_add hK.run HS5.out HBD.out 8 (l.length : Int) (fun _ => HE.out.ct)
            clear hSt2 hK s4 cz
            go_wp2_with fail
            go_at_call 79; refine hA.mono ?_; rintro e z6 ⟨v6, rfl, hK⟩
            have HF : Hid (QpGot M emb l w x A cap m g s0 Q j (.returned (.slice (some ⟨b, off, none⟩) l.length cp)) z6) := ⟨_, l, j1 + 1 + 1 + 1 + 1, .over, rfl, HSL.out.but (HB5.out.trans hK.but) (HSX.out (by omega)), hK.run, ⟨fun h => absurd h (by have := HM.out; omega), fun h => ⟨(HS5.out.past (by have := HM.out; omega)).1, (HS5.out.past (by have := HM.out; omega)).2⟩⟩, rfl, fun h => absurd h (by have := HM.out; omega), HB5.out.trans hK.but, HJ.out 4⟩
            clear hA hK
            go_wp2_with fail
            go_ret
            exact HF.out
          · rw [decide_eq_false hm4] at s4
            have HM : Hid (j1 + 1 + 1 ≤ m) := (by omega : j1 + 1 + 1 ≤ m)
            clear hm4
            go_wp2_with fail
            go_at_call 76; refine hSt2.mono ?_; rintro e z5 ⟨⟨u5, rfl⟩, v5, hK⟩
            have HB5 : Hid (But [x] w z5) := HB4.out.trans hK.but
            have HS5 : Hid (Syn M s0 g m (j1 + 1 + 1 + 1) (emb .ct) (QpQ Q emb l [])) := by
              have h5 := hK.syn
              rw [HE.out.n4] at h5
              refine ⟨h5.at', fun h => ⟨?_, (h5.past h).2⟩⟩
              have hmj : m = j1 + 1 + 1 := by have := HM.out; omega
              have h6 := HS4.out.at' HM.out
              rw [← hmj] at h6
              exact .inr ⟨.tr, rfl, h6, rfl⟩
            have hA := syn_add hK.run HS5.out HBD.out 8 (l.length : Int) (fun _ => HE.out.ct)
            clear hSt2 hK s4 cz
            go_wp2_with fail
            go_at_call 79; refine hA.mono ?_; rintro e z6 ⟨v6, rfl, hK⟩
            have HF : Hid (QpGot M emb l w x A cap m g s0 Q j (.returned (.slice none 0 0)) z6) := by
              have h7 := hK.syn
              rw [HE.out.n5] at h7
              exact ⟨_, [], j1 + 1 + 1 + 1 + 1, .over, rfl, ⟨none, 0, rfl, fun _ => ⟨rfl, rfl⟩, fun h => absurd h (by simp)⟩, hK.run, h7.weak (fun r hr => by rcases hr with rfl | hr; exact .inr ⟨.ct, rfl, rfl, rfl⟩; exact hr), rfl, fun _ => rfl, HB5.out.trans hK.but, HJ.out 4⟩
            clear hA hK
            go_wp2_with fail
            go_ret
            exact HF.out
end Go.Proofs.YthhlklfioipmgaaGreat

namespace Go.Proofs.YthhlklfioipmgaaGreat
open Go Go.RowKit
set_option linter.unusedVariables false
set_option maxRecDepth 100000
set_option linter.unusedSimpArgs false

theorem rqput_on (w : World) (x : Nat) (A B : Option Addr) (cap cp m : Nat) (gf : Nat → Int) (P T G : Int) (l : List Int) (t : QpT) (h : RunOn w x A cap m gf rn0) (hh : Hist (qpPM (fun y => wd (20 + P * 264 + T * 3) G 2 y 1) l) (qpStart l) gf m t) (hp : 0 ≤ P ∧ P ≤ 64) (hT : 0 ≤ T ∧ T ≤ 65536) (hG : 0 ≤ G ∧ G ≤ 65536) (hn : l.length ≤ 1000000)
    (hs : SeesL w (.slice B l.length cp) l) (hsx : 0 < l.length → ∀ b off : Nat, B = some ⟨b, off, none⟩ → b ≠ x) :
    Calls Tryz.prog 14 #[.pointer (some ⟨x, 0, none⟩), .agg #[.int .i64 P, .int .i64 T, .int .i64 G], .slice B l.length cp] w fun e w' => ∃ v, e = .returned v ∧ SeesL w' v (if t.lies = true then [] else l) ∧ RunOn w' x A cap m gf ((qpPM (fun y => wd (20 + P * 264 + T * 3) G 2 y 1) l).rn t m) ∧ But [x] w w' := by
  rw [← rj_start (M := qpPM (fun y => wd (20 + P * 264 + T * 3) G 2 y 1) l) (s0 := qpStart l) (g := gf) (m := m)] at h
  refine (syn_qput (qp_in _ l) hp hT hG hn hs hsx h (Syn.start _ _ _ _) hh.bd).mono ?_
  rintro e w' ⟨v, held, j', p, rfl, h0, h1, h2, h3, h4, h5, -⟩
  have hn' : (qpPM (fun y => wd (20 + P * 264 + T * 3) G 2 y 1) l).ax p = none := by cases p <;> first | rfl | cases h3
  have hr : held = if t.lies = true then [] else l := by
    rcases h2.fin hh (fun _ => hn') with ⟨e1, e2⟩ | ⟨-, (⟨hf, -⟩ | ⟨p', -, e1, e2⟩)⟩
    · rw [e1]; exact h4 (by omega)
    · exact hf.elim
    · rw [e1]; exact e2
  rw [← hr]
  refine ⟨v, rfl, h0, ?_, h5⟩
  rw [← rj_end h2 hh (fun _ => hn')]
  exact h1
theorem qp_axok (gl : Int → Int) (l : List Int) (hn : l.length ≤ 1000000) : ∀ t a, (qpPM gl l).ax t = some a → a.Ok := by
  intro t a h
  cases t with
  | ch k =>
    cases h
    have := qwd_bd (l.getD (k + 1) 0)
    refine axSt_ok _ _ ?_
    split <;> omega
  | ld => cases h; exact axLd_ok _
  | pt t => cases h; exact axSt_ok _ _ (qwd_bd _)
  | tr => cases h; exact axSt_ok _ _ (qwd_bd _)
  | ct => cases h; exact axAd_ok _ _ (by omega)
  | over => cases h
  | done0 => cases h
theorem qp_new_any (w : World) (cl : Nat) (who P T G : Int) (sl : Value) (l : List Int) (hs : SeesL w sl l) (hn : l.length ≤ 1000000) (hl : Lay w cl P T G) (hp : 0 ≤ P ∧ P ≤ 64) (hT : 0 ≤ T ∧ T ≤ 65536) (hG : 0 ≤ G ∧ G ≤ 65536) :
    Calls Tryz.prog 12 #[.pointer (some ⟨cl, 0, none⟩), .int .i64 who, sl] w fun e w' => ∃ x L, e = .returned (.pointer (some ⟨x, 0, none⟩)) ∧ qpI who cl (fun y => wd (20 + P * 264 + T * 3) G 2 y 1) l w' x (qpStart l) L ∧ Below w.heap.size w w' ∧ (∀ k ∈ L, w.heap.size ≤ k) := by
  by_cases h0 : l = []
  · subst h0
    refine (qp_new_nil w cl who (fun y => wd (20 + P * 264 + T * 3) G 2 y 1) sl hs).mono ?_
    rintro e w' ⟨x, L, h1, h2, h3, h4, -⟩
    exact ⟨x, L, h1, h2, h3, h4⟩
  · refine (qp_new_some w cl who P T G sl l hs (List.length_pos_iff.2 h0) hn hl hp hT hG).mono ?_
    rintro e w' ⟨x, L, h1, h2, h3, h4, -⟩
    refine ⟨x, L, h1, ?_, h3, h4⟩
    rw [show qpStart l = .ch 0 from if_neg h0]
    exact h2
def knownL (G : Int) (l : List Int) : Bool := l.all (fun y => decide (0 ≤ y ∧ y < G))
set_option maxHeartbeats 4000000 in
theorem known_any (w : World) (P T G : Int) (B : Option Addr) (cp : Nat) (l : List Int) (hs : SeesL w (.slice B l.length cp) l) (hn : l.length ≤ 1000000) :
    Calls Tryz.prog 10 #[.agg #[.int .i64 P, .int .i64 T, .int .i64 G], .slice B l.length cp] w fun e w' => e = .returned (.bool (knownL G l)) ∧ Below w.heap.size w w' := by
  have hb0 : Below w.heap.size w (w.alloc (.cells #[.int .i64 P, .int .i64 T, .int .i64 G] 23)) := (Below.refl _ _).alloc (Nat.le_refl _) _
  have HX : Hid (Blk (w.alloc (.cells #[.int .i64 P, .int .i64 T, .int .i64 G] 23)) w.heap.size #[.int .i64 P, .int .i64 T, .int .i64 G] 23) := Blk.new _ _ _
  have HSL : Hid (SeesL (w.alloc (.cells #[.int .i64 P, .int .i64 T, .int .i64 G] 23)) (.slice B l.length cp) l) := hs.below hb0
  have HB0 : Hid (Below w.heap.size w (w.alloc (.cells #[.int .i64 P, .int .i64 T, .int .i64 G] 23))) := hb0
  clear hs hb0
  go_enter Tryz.func10, Tryz.ntmps10
  go_wp2_with fail
  generalize w.alloc (.cells #[.int .i64 P, .int .i64 T, .int .i64 G] 23) = W at *
  go_loopw [5] (fun i wr => ∃ k q : Nat, k ≤ l.length ∧ i = .int .i64 k ∧ wr = W.drewN q ∧ (l.take k).all (fun y => decide (0 ≤ y ∧ y < G)) = true) (fun i _ => l.length - (intOf i).toNat)
  case atStart => exact ⟨0, 0, Nat.zero_le _, rfl, rfl, rfl⟩
  case round =>
    obtain ⟨k, q, hk, rfl, rfl, hall⟩ := hrel
    have HALL : Hid ((l.take k).all (fun y => decide (0 ≤ y ∧ y < G)) = true) := hall
    clear hall
    by_cases hlt : k < l.length
    · obtain ⟨b, off, rfl, hbb, hcl⟩ : ∃ b off : Nat, B = some ⟨b, off, none⟩ ∧ b < W.heap.size ∧ ∀ j, j < l.length → W.cell? ⟨b, off + j, none⟩ = some (.int .i64 (l.getD j 0)) := by
        obtain ⟨A', cap', e, h1, h2⟩ := HSL.out
        cases e
        exact h2 (by omega)
      have cg := hcl k hlt
      have hk0 : (0 : Int) ≤ (k : Int) := by omega
      have hk1 : (k : Int) < (l.length : Int) := by omega
      have z2 := HX.out.cell 2 (v := .int .i64 G) rfl
      have HTK : Hid (l.take (k + 1) = l.take k ++ [l.getD k 0]) := by
        show l.take (k + 1) = _
        rw [List.take_add_one, List.getD_eq_getElem?_getD, List.getElem?_eq_getElem hlt]
        rfl
      have HMEM : Hid (l.getD k 0 ∈ l) := by
        show l.getD k 0 ∈ l
        rw [List.getD_eq_getElem?_getD, List.getElem?_eq_getElem hlt]
        exact List.getElem_mem hlt
      generalize l.getD k 0 = y at *
      clear hcl
      by_cases hneg : y < 0
      · have d1 : decide (y < 0) = true := decide_eq_true hneg
        have HF : Hid (knownL G l = false) := by
          show knownL G l = false
          unfold knownL
          rw [List.all_eq_false]
          exact ⟨y, HMEM.out, by simp; omega⟩
        have HBF : Hid (∀ q, Below w.heap.size w (W.drewN q)) := fun q => Below.drewN' HB0.out q
        go_wp2_with fail
        go_quiet (fail)
        go_wp2_with fail
        go_ret
        rw [HF.out]
        exact ⟨rfl, Below.drewN' (HBF.out _) _⟩
      · have d1 : decide (y < 0) = false := decide_eq_false hneg
        by_cases hbig : G ≤ y
        · have d2 : decide (G ≤ y) = true := decide_eq_true hbig
          have HF : Hid (knownL G l = false) := by
            show knownL G l = false
            unfold knownL
            rw [List.all_eq_false]
            exact ⟨y, HMEM.out, by simp; omega⟩
          have HBF : Hid (∀ q, Below w.heap.size w (W.drewN q)) := fun q => Below.drewN' HB0.out q
          go_wp2_with fail
          go_quiet (fail)
          go_wp2_with fail
          go_ret
          rw [HF.out]
          exact ⟨rfl, Below.drewN' (HBF.out _) _⟩
        · have d2 : decide (G ≤ y) = false := decide_eq_false hbig
          have HF : Hid ((l.take (k + 1)).all (fun y => decide (0 ≤ y ∧ y < G)) = true) := by
            show (l.take (k + 1)).all _ = true
            rw [HTK.out, List.all_append, HALL.out]
            simp; omega
          go_wp2_with fail
          go_quiet (fail)
          go_wp2_with fail
          go_roundw
          case rel => exact ⟨k + 1, _, by omega, by go_num, rfl, HF.out⟩
          case measure => simp [intOf]; omega
    · obtain rfl : k = l.length := by omega
      have HF : Hid (knownL G l = true) := by
        have := HALL.out
        rw [List.take_length] at this
        exact this
      have HBF : Hid (Below w.heap.size w (W.drewN q)) := Below.drewN' HB0.out q
      have hgd : decide ((l.length : Int) < (l.length : Int)) = false := by simp
      go_wp2_with fail
      go_ret
      rw [HF.out]
      exact ⟨rfl, HBF.out⟩
end Go.Proofs.YthhlklfioipmgaaGreat

namespace Go.Proofs.YthhlklfioipmgaaGreat
open Go Go.RowKit
set_option linter.unusedVariables false
set_option maxRecDepth 100000
set_option linter.unusedSimpArgs false

theorem row_mono2 {w : World} {base base' : Nat} {e : TypeId} {size : Nat} {v : Value} {n : Nat} {xs : List Value} (h : w.ownsRow base e size v n xs) (hb : base' ≤ base) : w.ownsRow base' e size v n xs := by
  refine ⟨h.1, ?_⟩
  rcases h.2 with h0 | ⟨gb, cp, cur, e0, hb0, rest⟩
  · exact .inl h0
  · exact .inr ⟨gb, cp, cur, e0, Nat.le_trans hb hb0, rest⟩
theorem qlist_link (w : World) (bx cl : Nat) (P T G : Int) (hp : 0 ≤ P ∧ P ≤ 64) (hT : 0 ≤ T ∧ T ≤ 65536) (hG : G ≤ 65536) (hb : Blk w bx #[.pointer (some ⟨cl, 0, none⟩)] 29) (hl : Lay w cl P T G) (g : Int) :
    Calls Tryz.prog 88 #[.int .i64 g, .pointer (some ⟨bx, 0, none⟩)] w fun e w' => e = .returned (.int .i64 (wd (20 + P * 264 + T * 3) G 2 g 1)) ∧ Below w.heap.size w w' := by
  have c0 := hb.cell 0 (v := .pointer (some ⟨cl, 0, none⟩)) rfl
  have hW := g_word cl P T G g 1 w hl hp hT hG
  clear hb hl hp hT hG
  go_enter Tryz.func88, Tryz.ntmps88
  go_wp2_with fail
  go_at_call 89; refine hW.mono ?_; rintro e w1 ⟨rfl, h1⟩
  go_wp2_with fail
  go_ret
  exact ⟨rfl, h1⟩

set_option maxHeartbeats 4000000 in
theorem qlist_any (w : World) (A : Option Addr) (cap c b n cl : Nat) (s : St) (P T G : Int) (hI : Is w 136 A cap c b n s) (hn : n ≤ 1000000) (hl : Lay w cl P T G) (hp : 0 ≤ P ∧ P ≤ 64) (hT : 0 ≤ T ∧ T ≤ 65536) (hG : 0 ≤ G ∧ G ≤ 65536) :
    Calls Tryz.prog 21 #[.pointer (some ⟨cl, 0, none⟩), .pointer (some ⟨c, 0, none⟩)] w fun e w' => ∃ v, e = .returned (.tuple #[v, .bool (lsOf (fun g => peekT n s (wd (20 + P * 264 + T * 3) G 2 g 1)) G (peekT n s 6)).2]) ∧ IntsOn w' w.heap.size v (lsOf (fun g => peekT n s (wd (20 + P * 264 + T * 3) G 2 g 1)) G (peekT n s 6)).1 ∧ Below w.heap.size w w' := by
  have hbx : Hid (Blk (w.alloc (.cells #[.pointer (some ⟨cl, 0, none⟩)] 29)) w.heap.size #[.pointer (some ⟨cl, 0, none⟩)] 29) := Blk.new _ _ _
  have HB : Hid (Below w.heap.size w (w.alloc (.cells #[.pointer (some ⟨cl, 0, none⟩)] 29))) := (Below.refl _ _).alloc (Nat.le_refl _) _
  have hfc := field_c2
  have hW : ∀ Y, Calls Tryz.prog 86 #[.pointer (some ⟨cl, 0, none⟩), .int .i64 6] Y fun e w' => e = .returned (.int .i64 6) ∧ Y = w' := fun Y => glob_word_6 Y cl
  have HC : Hid (∀ Y, Below w.heap.size w Y → Calls Tryz.prog 87 #[.pointer (some ⟨cl, 0, none⟩)] Y fun e w' => e = .returned (.agg #[.int .i64 P, .int .i64 T, .int .i64 G]) ∧ Below Y.heap.size Y w') := fun Y hY => config_any _ P T G Y (.some cl (hl.below hY hl.lt))
  have hent : Ent 88 := fun args w => by kernel_rfl
  have HL : Hid (∀ Y, Below w.heap.size w Y → Blk Y w.heap.size #[.pointer (some ⟨cl, 0, none⟩)] 29 → Calls Tryz.prog 85 #[.pointer (some ⟨c, 0, none⟩), .int .i64 6, .int .i64 G, .func (.func 88) #[] #[.pointer (some ⟨w.heap.size, 0, none⟩)]] Y fun e w' => ∃ v, e = .returned (.tuple #[v, .bool (lsOf (fun g => peekT n s (wd (20 + P * 264 + T * 3) G 2 g 1)) G (peekT n s 6)).2]) ∧ IntsOn w' w.heap.size v (lsOf (fun g => peekT n s (wd (20 + P * 264 + T * 3) G 2 g 1)) G (peekT n s 6)).1 ∧ Below Y.heap.size Y w') := fun Y hY hB => by
    refine (links_any Y A cap c b n s 6 G 88 w.heap.size (fun g => wd (20 + P * 264 + T * 3) G 2 g 1) (hI.below hY) hn hG hent (fun W hW g => qlist_link W w.heap.size cl P T G hp hT hG.2 (hB.but (But.of_below (l := []) hW) (by simp)) (hl.below (seq hY hW) hl.lt) g)).mono ?_
    rintro e w' ⟨v, rfl, h1, h2⟩
    exact ⟨v, rfl, ⟨row_mono2 h1.own (by have := hY.size; omega)⟩, h2⟩
  generalize lsOf (fun g => peekT n s (wd (20 + P * 264 + T * 3) G 2 g 1)) G (peekT n s 6) = r at *
  clear hI hl hn hp hT hG hent
  go_enter Tryz.func21, Tryz.ntmps21
  go_wp2_with fail
  have hsz : (w.alloc (.cells #[.pointer (some ⟨cl, 0, none⟩)] 29)).heap.size = w.heap.size + 1 := World.size_alloc _ _
  generalize hY0 : w.alloc (.cells #[.pointer (some ⟨cl, 0, none⟩)] 29) = Y at *
  have k0 := hbx.out.cell 0 (v := .pointer (some ⟨cl, 0, none⟩)) rfl
  have hC := HC.out Y.drew HB.out.drew
  have HS : Hid (∀ w4, Below Y.drew.heap.size Y.drew w4 → w4.cell? ⟨w.heap.size, 0, none⟩ = some (.pointer (some ⟨cl, 0, none⟩)) ∧ Calls Tryz.prog 85 #[.pointer (some ⟨c, 0, none⟩), .int .i64 6, .int .i64 G, .func (.func 88) #[] #[.pointer (some ⟨w.heap.size, 0, none⟩)]] w4 fun e w' => ∃ v, e = .returned (.tuple #[v, .bool r.2]) ∧ IntsOn w' w.heap.size v r.1 ∧ Below w.heap.size w w') := fun w4 k => by
    have h1 : Below w.heap.size w w4 := HB.out.trans ((show Below Y.heap.size Y w4 from (Below.refl _ Y).drew.trans k).mono (by omega))
    have h2 : Blk w4 w.heap.size #[.pointer (some ⟨cl, 0, none⟩)] 29 := hbx.out.drew.but (But.of_below (l := []) k) (by simp)
    refine ⟨h2.cell 0 rfl, (HL.out w4 h1 h2).mono ?_⟩
    rintro e w' ⟨v, rfl, h3, h4⟩
    exact ⟨v, rfl, h3, seq h1 h4⟩
  clear HC HL hbx HB hY0
  go_region_with (first | (go_at_call 86; refine (hW _).mono ?_; rintro e w3 ⟨rfl, rfl⟩) | (go_at_call 87; refine hC.mono ?_; rintro e w4 ⟨rfl, k⟩; obtain ⟨k4, hS⟩ := HS.out _ k) | (go_at_call 85; refine hS.mono ?_; rintro e w5 ⟨v, rfl, h3, h4⟩))
  all_goals
    clear hW hC HS hS k0
    go_wp2_with fail
    go_returns
    exact ⟨v, rfl, h3, h4⟩
end Go.Proofs.YthhlklfioipmgaaGreat

namespace Go.Proofs.YthhlklfioipmgaaGreat
open Go Go.RowKit
set_option linter.unusedVariables false
set_option maxRecDepth 100000
set_option linter.unusedSimpArgs false

set_option maxHeartbeats 4000000 in
theorem rlist13_any (w : World) (A : Option Addr) (cap c b n : Nat) (s : St) (P T G : Int) (hI : Is w 62 A cap c b n s) (hn : (n : Int) = 20 + 264 * P + 3 * T + 2 * G) (hp : 0 ≤ P ∧ P ≤ 64) (hT : 0 ≤ T ∧ T ≤ 65536) (hG : 0 ≤ G ∧ G ≤ 65536) :
    Calls Tryz.prog 22 #[.agg #[.int .i64 P, .int .i64 T, .int .i64 G], .pointer (some ⟨c, 0, none⟩)] w fun e w' => ∃ v, e = .returned (.tuple #[v, .bool (lsOf (fun g => peekT n s (wd (20 + P * 264 + T * 3) G 2 g 1)) G (peekT n s 6)).2]) ∧ IntsOn w' (w.heap.size + 1) v (lsOf (fun g => peekT n s (wd (20 + P * 264 + T * 3) G 2 g 1)) G (peekT n s 6)).1 ∧ Below w.heap.size w w' := by
  obtain ⟨i0, hi, hz0, hz1, hz2⟩ := info_parts lists_info3
  have hn6 : n ≤ 1000000 := by omega
  have hb0 : Below w.heap.size w (w.alloc (.cells #[.int .i64 P, .int .i64 T, .int .i64 G] 23)) := (Below.refl _ _).alloc (Nat.le_refl _) _
  have HX : Hid (Blk (w.alloc (.cells #[.int .i64 P, .int .i64 T, .int .i64 G] 23)) w.heap.size #[.int .i64 P, .int .i64 T, .int .i64 G] 23) := Blk.new _ _ _
  have HI : Hid (∀ W, Below w.heap.size w W → Is W 62 A cap c b n s) := fun W h => hI.below h
  have HPB : Hid (∀ i, 0 ≤ peekT n s i ∧ peekT n s i ≤ 18446744073709551615) := fun i => by
    unfold peekT
    split
    · exact hI.bd _ (by omega)
    · omega
  have HGA : Hid (∀ g W, Calls Tryz.prog 77 #[.agg #[.int .i64 P, .int .i64 T, .int .i64 G], .int .i64 g, .int .i64 1] W fun e w' => e = .returned (.int .i64 (wd (20 + P * 264 + T * 3) G 2 g 1)) ∧ Below W.heap.size W w') := fun g W => refgAt_any P T G g 1 W hp hT hG.2 (by omega)
  have HIS : Hid (∀ v, 0 ≤ v ∧ v ≤ 18446744073709551615 → v ≠ 0 → (v ≤ G → gw v = v - 1) ∧ decide (0 ≤ wd (20 + P * 264 + T * 3) G 2 (gw v) 1 ∧ wd (20 + P * 264 + T * 3) G 2 (gw v) 1 < n) = decide (v ≤ G)) := fun v hv h0 => is_word P T G n v hn hp hT hG hv h0
  have HB0 : Hid _ := hb0
  have hP1 := rpeek_any (w.alloc (.cells #[.int .i64 P, .int .i64 T, .int .i64 G] 23)) A cap c b n s 6 hn6 (hI.below hb0)
  have HR : Hid (∃ r, lsOf (fun g => peekT n s (wd (20 + P * 264 + T * 3) G 2 g 1)) G (peekT n s 6) = r) := ⟨_, rfl⟩
  obtain ⟨r, hr⟩ := HR.out
  rw [hr]
  have HNX : Hid (∃ pl : Int → Int, (fun g => wd (20 + P * 264 + T * 3) G 2 g 1) = pl) := ⟨_, rfl⟩
  obtain ⟨pl, hpl⟩ := HNX.out
  have hplg : ∀ g, wd (20 + P * 264 + T * 3) G 2 g 1 = pl g := fun g => congrFun hpl g
  simp only [hplg] at HGA HIS hr
  clear hI HR HNX hb0 hp hT hpl hplg hn
  go_enter Tryz.func22, Tryz.ntmps22
  go_wp2_with fail
  have hsz : (w.alloc (.cells #[.int .i64 P, .int .i64 T, .int .i64 G] 23)).heap.size = w.heap.size + 1 := World.size_alloc _ _
  generalize w.alloc (.cells #[.int .i64 P, .int .i64 T, .int .i64 G] 23) = W at *
  go_at_call 81; refine hP1.mono ?_; rintro e w2 ⟨rfl, hw2⟩
  subst hw2
  have HW0 : Hid (0 ≤ peekT n s 6 ∧ peekT n s 6 ≤ 18446744073709551615) := HPB.out 6
  have HR0 : Hid (lsGo (fun g => peekT n s (pl g)) G (G.toNat + 1) [] (peekT n s 6) = r) := hr
  generalize peekT n s 6 = fw at *
  clear hP1 hr
  go_wp2_with fail
  go_loopw [6, 7, 9] (fun v x k wr => ∃ (acc : List Int) (wv : Int), x = .int .u64 wv ∧ k = .int .i64 acc.length ∧ Hid (0 ≤ wv ∧ wv ≤ 18446744073709551615) ∧ Hid (wr.ownsRow (w.heap.size + 1) 3 1 v acc.length (acc.map (Value.int .i64))) ∧
      Hid (Below w.heap.size w wr) ∧ w.heap.size + 1 ≤ wr.heap.size ∧ Hid (Blk wr w.heap.size #[.int .i64 P, .int .i64 T, .int .i64 G] 23) ∧ Hid (acc.Nodup ∧ ∀ y ∈ acc, 0 ≤ y ∧ y < G) ∧ acc.length ≤ G.toNat ∧ Hid (lsGo (fun g => peekT n s (pl g)) G (G.toNat + 1 - acc.length) acc wv = r))
    (fun _ _ k _ => G.toNat + 1 - (intOf k).toNat)
  case atStart => exact ⟨[], fw, rfl, rfl, HW0, World.ownsRow_nil _ _ _ _, HB0, by omega, HX, ⟨List.nodup_nil, by simp⟩, by simp, HR0⟩
  case round =>
    clear HW0 HR0 HB0 HX
    obtain ⟨acc, wv, rfl, rfl, HWB, HO, HB, hsz2, HK, HN, hlen, HRR⟩ := hrel
    have k2 := HK.out.cell 2 (v := .int .i64 G) rfl
    have hlG : (acc.length : Int) ≤ G := by omega
    by_cases h0 : wv = 0
    · subst h0
      have HE : Hid (r = (acc, true)) := by
        have := HRR.out
        obtain ⟨f, hf⟩ : ∃ f, G.toNat + 1 - acc.length = f + 1 := ⟨G.toNat - acc.length, by omega⟩
        rw [hf] at this
        exact this.symm.trans (if_pos rfl)
      clear HRR
      go_wp2_with fail
      go_returns
      rw [HE.out]
      exact ⟨_, rfl, ⟨HO.out⟩, HB.out⟩
    · have hd0 : (wv == 0) = false := by simpa using h0
      have hd1 : (wv != 0) = true := by simpa using h0
      obtain ⟨q1, q2⟩ := HIS.out wv HWB.out h0
      have e1 : wrap64 (IntKind.i64.wrap wv - 1) = gw wv := gw_eq wv HWB.out
      have hGA := HGA.out (gw wv)
      have HQ1 : Hid (wv ≤ G → gw wv = wv - 1) := q1
      have HH0 : Hid (wv ≠ 0) := h0
      have k0 := HK.out.cell 0 (v := .int .i64 P) rfl
      have k1 := HK.out.cell 1 (v := .int .i64 T) rfl
      generalize hgg : gw wv = gv at *
      have HGG : Hid (gw wv = gv) := hgg
      clear q1 hgg
      generalize hii : IntKind.i64.wrap wv = iv at *
      go_wp2_with fail
      go_at_call 77; refine (hGA _).mono ?_; rintro e w3 ⟨rfl, h3⟩
      have HB3 : Hid (Below w.heap.size w w3) := seq HB.out h3
      have HO3 : Hid (w3.ownsRow (w.heap.size + 1) 3 1 _ acc.length (acc.map (Value.int .i64))) := row_below HO.out h3
      have HK3 : Hid (Blk w3 w.heap.size #[.int .i64 P, .int .i64 T, .int .i64 G] 23) := HK.out.but (But.of_below (l := []) h3) (by simp)
      have hs3 : w.heap.size + 1 ≤ w3.heap.size := Nat.le_trans hsz2 h3.size
      have hP := rpeek_any w3 A cap c b n s (pl gv) hn6 (HI.out w3 HB3.out)
      rw [q2] at hP
      clear hGA h3 HB HO HK k0 k1 k2 q2
      by_cases hle : wv ≤ G
      · rw [decide_eq_true hle] at hP
        have HLE : Hid (wv ≤ G) := hle
        have hgv : gv = wv - 1 := HQ1.out hle
        have HGV : Hid (gv = wv - 1) := hgv
        have HPV : Hid (0 ≤ peekT n s (pl gv) ∧ peekT n s (pl gv) ≤ 18446744073709551615) := HPB.out _
        have HNXT : Hid (∀ f, (wv - 1) ∉ acc → lsGo (fun g => peekT n s (pl g)) G (f + 1) acc wv = lsGo (fun g => peekT n s (pl g)) G f (acc ++ [gv]) (peekT n s (pl gv))) := fun f hf => by
          rw [lsGo, if_neg HH0.out, if_neg (fun h => by rcases h with h | h; exact hf h; have := HLE.out; omega), ← HGV.out]
        generalize peekT n s (pl gv) = nv at *
        clear hle hgv
        go_wp2_with fail
        go_at_call 81; refine hP.mono ?_; rintro e w4 ⟨rfl, hw4⟩
        subst hw4
        clear hP
        go_wp2_with fail
        go_loopw [13] (fun i wi => ∃ j : Nat, j ≤ acc.length ∧ i = .int .i64 j ∧ wi = w3 ∧ Hid (∀ q, q < j → acc.getD q 0 ≠ gv)) (fun i _ => acc.length - (intOf i).toNat)
        case atStart => exact ⟨0, Nat.zero_le _, rfl, rfl, fun q hq => absurd hq (Nat.not_lt_zero q)⟩
        case round =>
          obtain ⟨j, hj, rfl, rfl, HNE⟩ := hrel
          obtain ⟨Ao, co, hvo⟩ := lists_slice HO3.out
          by_cases hlt : j < acc.length
          · obtain ⟨gb, cp, hv2, hc2⟩ := IntsOn.cell ⟨HO3.out⟩ hlt
            subst hv2
            have hj0 : (0 : Int) ≤ (j : Int) := by omega
            have hj1 : (j : Int) < (acc.length : Int) := by omega
            have HMEM : Hid (acc.getD j 0 ∈ acc) := by
              rw [List.getD_eq_getElem?_getD, List.getElem?_eq_getElem hlt]
              exact List.getElem_mem _
            have HJ : Hid (∃ o, acc.getD j 0 = o) := ⟨_, rfl⟩
            obtain ⟨o, ho⟩ := HJ.out
            rw [ho] at hc2
            have HOO : Hid (acc.getD j 0 = o) := ho
            clear ho HJ hvo
            by_cases heq : o = gv
            · subst heq
              have HE : Hid (r = (acc, false)) := by
                have h1 := HRR.out
                obtain ⟨f, hf⟩ : ∃ f, G.toNat + 1 - acc.length = f + 1 := ⟨G.toNat - acc.length, by omega⟩
                rw [hf, lsGo, if_neg HH0.out, if_pos (.inl (by rw [← HGV.out, ← HOO.out]; exact HMEM.out))] at h1
                exact h1.symm
              clear HRR
              go_wp2_with fail
              go_returns
              rw [HE.out]
              exact ⟨_, rfl, ⟨HO3.out⟩, HB3.out⟩
            · have hdq : decide (o = gv) = false := decide_eq_false heq
              have HNE2 : Hid (∀ q, q < j + 1 → acc.getD q 0 ≠ gv) := fun q hq => by
                by_cases h : q < j
                · exact HNE.out q h
                · obtain rfl : q = j := by omega
                  rw [HOO.out]; exact heq
              clear HNE
              go_wp2_with fail
              go_roundw
              case rel => exact ⟨j + 1, by omega, by go_num, trivial, HNE2⟩
              case measure => simp [intOf]; omega
          · obtain rfl : j = acc.length := by omega
            have hnin : (wv - 1) ∉ acc := fun hm => by
              obtain ⟨q, hq, he⟩ := List.mem_iff_getElem.1 hm
              refine HNE.out q hq ?_
              rw [List.getD_eq_getElem?_getD, List.getElem?_eq_getElem hq]
              simp only [Option.getD_some]
              rw [he, HGV.out]
            have hN2 : (acc ++ [gv]).Nodup ∧ ∀ y ∈ acc ++ [gv], 0 ≤ y ∧ y < G := by
              have h1 := HGV.out
              have h2 := HLE.out
              have h3 := HWB.out
              have h4 := HH0.out
              refine ⟨List.nodup_append.2 ⟨HN.out.1, by simp, ?_⟩, fun y hy => ?_⟩
              · intro a ha b hb
                simp at hb
                rintro rfl
                exact hnin (by rw [← h1, ← hb]; exact ha)
              · rcases List.mem_append.1 hy with hy | hy
                · exact HN.out.2 y hy
                · simp at hy; omega
            have hlen2 : acc.length + 1 ≤ G.toNat := by
              have := nodup_room G.toNat _ hN2.1 (fun x hx => by have := hN2.2 x hx; omega)
              simpa using this
            have HN2 : Hid _ := hN2
            have HE : Hid (lsGo (fun g => peekT n s (pl g)) G (G.toNat + 1 - (acc.length + 1)) (acc ++ [gv]) nv = r) := by
              have h1 := HRR.out
              rw [show G.toNat + 1 - acc.length = (G.toNat + 1 - (acc.length + 1)) + 1 by omega, HNXT.out _ hnin] at h1
              exact h1
            have hml : acc.length + 1 < maxLen := by unfold maxLen; omega
            have hO3 := HO3.out
            have hd9 : decide ((acc.length : Int) < (acc.length : Int)) = false := by simp
            clear HNE hnin hN2 HNXT HRR
            go_wp2_with (at_builtin; refine wpList_append_own _ rfl _ _ 27 rfl (w.heap.size + 1) 3 i0 (.int .i64 0) 1 8 Tryz.underlying27 hi hz0 hz1 hz2 rfl (by decide) _ _ _ rfl (hO3.alloc _) ⟨_, 0, none⟩ 1 1 [.int .i64 gv] rfl rfl (cell_one_new _ _ _) (ints_oneCell .i64 [gv]) (by unfold maxLen; omega) (by omega) (by simp; omega) ?_; intro v' w5 hown' hgrow2 hnil2)
            have s2 := hgrow2.size
            simp at s2
            have HO5 : Hid (w5.ownsRow (w.heap.size + 1) 3 1 v' (acc.length + 1) (List.map (Value.int .i64) acc ++ [Value.int .i64 gv])) := hown'
            have HB5 : Hid (Below w.heap.size w w5) := (HB3.out.alloc HB3.out.size _).grown hgrow2 (by simp; omega) (fun j hj => Nat.le_trans (Nat.le_succ _) (hO3.lt j hj).1)
            have HK5 : Hid (Blk w5 w.heap.size #[.int .i64 P, .int .i64 T, .int .i64 G] 23) := (HK3.out.al _).keep (hgrow2.block _ (by have := HK3.out.lt; simp; omega) (fun e => by have := (hO3.lt _ e.symm).1; omega))
            have hs5 : w.heap.size + 1 ≤ w5.heap.size := by omega
            clear hown' hgrow2 hnil2 s2 hO3 HO3 HB3 HK3 hvo
            go_wp2_with fail
            go_roundw
            case rel =>
              refine ⟨acc ++ [gv], nv, rfl, by rw [List.length_append]; go_num, HPV, ?_, HB5, hs5, HK5, HN2, by simpa using hlen2, by rw [List.length_append]; exact HE.out⟩
              have := HO5.out
              rw [List.length_append, List.map_append]
              exact this
            case measure => simp [intOf]; omega
      · rw [decide_eq_false hle] at hP
        have HE : Hid (r = (acc, false)) := by
          have h1 := HRR.out
          obtain ⟨f, hf⟩ : ∃ f, G.toNat + 1 - acc.length = f + 1 := ⟨G.toNat - acc.length, by omega⟩
          rw [hf, lsGo, if_neg h0, if_pos (.inr (by omega))] at h1
          exact h1.symm
        clear HRR hle
        generalize peekT n s (pl gv) = nv at *
        go_wp2_with fail
        go_at_call 81; refine hP.mono ?_; rintro e w4 ⟨rfl, hw4⟩
        subst hw4
        clear hP
        go_wp2_with fail
        go_returns
        rw [HE.out]
        exact ⟨_, rfl, ⟨HO3.out⟩, HB3.out⟩
end Go.Proofs.YthhlklfioipmgaaGreat

namespace Go.Proofs.YthhlklfioipmgaaGreat
open Go Go.ChangeShapes Go.WideShapes Go.ChangeAt Go.RowKit Go.Joins Go.Deep
set_option linter.unusedVariables false
set_option maxRecDepth 100000
set_option linter.unusedSimpArgs false
theorem sees_list {H : Type} {enc : TypeId × Value → H} {P : Program} {W : World} {base b0 : Nat} {t e : TypeId} {v : Value} {d : DataW H} {p : List MemPlace} (ht : P.underlying t = some (.slice e)) (he : P.underlying e = some (.int .i64)) (hc : P.cellsOf e = 1)
    (hv : Value.okWide P W .any b0 t v) (h : DataW.Trod enc P W base (fun _ => true) true t v d p) :
    ∃ (A : Option Addr) (cap : Nat) (l : List Int), v = .slice A l.length cap ∧ l.length ≤ maxLen ∧ SeesL W (.slice A l.length cap) l := by
  obtain ⟨A, n, cap, rfl⟩ := okWide_slice ht hv
  obtain ⟨fuel, hf⟩ := h
  rcases open_ints ht he hc hf with ⟨hcs, _⟩ | ⟨x, l, c, zs, hcs, _, hl, hm, hz, _, hcell, hwz⟩
  · simp [Value.cells] at hcs
    obtain ⟨rfl, rfl, rfl⟩ := hcs
    exact ⟨none, 0, [], rfl, Nat.zero_le _, none, 0, rfl, fun _ => ⟨rfl, rfl⟩, fun h => absurd h (Nat.lt_irrefl 0)⟩
  · simp [Value.cells] at hcs
    obtain ⟨rfl, rfl, rfl⟩ := hcs
    have hz' : zs.length = cap := by simpa using hz
    have hln : (zs.take n).length = n := by rw [List.length_take]; omega
    refine ⟨some x, cap, zs.take n, by rw [hln], by rw [hln]; exact Nat.le_trans hl hm, some x, cap, rfl, (fun h => by cases h), fun hn => ?_⟩
    rw [hln] at hn
    obtain ⟨b, off, spot⟩ := x
    have hs : spot = none := by
      have := hcell 0 (by omega)
      simpa [Addr.add] using World.cell?_spot this
    subst hs
    have hc0 := hcell 0 (by omega)
    simp [Addr.add] at hc0
    refine ⟨b, off, rfl, cell_lt hc0, fun i hi => ?_⟩
    rw [hln] at hi
    have h1 := hcell i (by omega)
    have h2 : (zs.take n).getD i 0 = zs.getD i 0 := by
      rw [List.getD_eq_getElem?_getD, List.getD_eq_getElem?_getD, List.getElem?_take_of_lt hi]
    rw [h2]
    by_cases h0 : i = 0
    · subst h0; simpa [Addr.add] using h1
    · simpa [Addr.add, h0] using h1
theorem lsGo_len (nx : Int → Int) (many : Int) : ∀ (f : Nat) (acc : List Int) (w : Int), (lsGo nx many f acc w).1.length ≤ acc.length + f
  | 0, acc, w => Nat.le_refl _
  | f + 1, acc, w => by
    unfold lsGo
    split
    · show acc.length ≤ _; omega
    · split
      · show acc.length ≤ _; omega
      · have := lsGo_len nx many f (acc ++ [w - 1]) (nx (w - 1))
        rw [List.length_append] at this
        simp at this
        omega
theorem lsOf_len (nx : Int → Int) (many w : Int) (h : 0 ≤ many ∧ many ≤ 65536) : (lsOf nx many w).1.length ≤ 1000000 := by
  have := lsGo_len nx many (many.toNat + 1) [] w
  unfold lsOf
  simp at this
  omega
end Go.Proofs.YthhlklfioipmgaaGreat

namespace Go.Proofs.YthhlklfioipmgaaGreat
open Go Go.RowKit
set_option linter.unusedVariables false
set_option maxRecDepth 100000
set_option linter.unusedSimpArgs false

theorem globqPuts_bad (P T G : Int) (B : Option Addr) (cpl : Nat) (l : List Int) (E F : Option Addr) (m cp mp cq : Nat) (a v : Nat → Int) (w : World) (hAw : ∀ w, Calls Tryz.prog 11 #[] w fun e w' => e = .returned (.bool true) ∧ Below w.heap.size w w') (hm : m ≤ 9223372036854775807) (hmp : mp ≤ 9223372036854775807) (hgs : SeesL w (.slice B l.length cpl) l) (hs : SeesP w w.heap.size E m a v) (hv : ∀ i, i < m → 0 ≤ v i ∧ v i ≤ 18446744073709551615) (h : (¬ FewC P T G ∨ 400 < m) ∨ 100 < mp ∨ 60 < l.length ∨ knownL G l = false) :
    Calls Tryz.prog 3 #[.agg #[.int .i64 P, .int .i64 T, .int .i64 G, .slice E m cp], .slice B l.length cpl, .slice F mp cq] w fun e w' => e = .returned (.bool true) ∧ Below w.heap.size w w' := by
  have hsz : (w.alloc (.cells #[.int .i64 P, .int .i64 T, .int .i64 G, .slice E m cp] 26)).heap.size = w.heap.size + 1 := by simp
  have HB : Hid (Below w.heap.size w (w.alloc (.cells #[.int .i64 P, .int .i64 T, .int .i64 G, .slice E m cp] 26))) := (Below.refl _ _).alloc (Nat.le_refl _) _
  have hX0 : Hid (Blk (w.alloc (.cells #[.int .i64 P, .int .i64 T, .int .i64 G, .slice E m cp] 26)) w.heap.size #[.int .i64 P, .int .i64 T, .int .i64 G, .slice E m cp] 26) := (Blk.new w #[.int .i64 P, .int .i64 T, .int .i64 G, .slice E m cp] 26)
  have HAW : Hid (∀ w, Calls Tryz.prog 11 #[] w fun e w' => e = .returned (.bool true) ∧ Below w.heap.size w w') := hAw
  clear hAw
  by_cases hf : ¬ FewC P T G ∨ 400 < m
  · have hL := lay_none P T G E m cp (w.alloc (.cells #[.int .i64 P, .int .i64 T, .int .i64 G, .slice E m cp] 26)) hm hf
    clear h hf hs hv
    go_enter Tryz.func3, Tryz.ntmps3
    go_wp2_with fail
    generalize (w.alloc (.cells #[.int .i64 P, .int .i64 T, .int .i64 G, .slice E m cp] 26)) = W at *
    go_at_call 9; refine hL.mono ?_; rintro e w1 ⟨rfl, hLd⟩
    have hbl : Below W.heap.size W w1 := hLd
    have HB1 : Hid (Below w.heap.size w w1) := HB.out.trans (hbl.mono (by omega))
    have hY0 := hX0.out.but (But.of_below (l := []) hbl) (by simp)
    have zP := hY0.cell 0 (v := .int .i64 P) rfl
    have zT := hY0.cell 1 (v := .int .i64 T) rfl
    have zG := hY0.cell 2 (v := .int .i64 G) rfl
    clear hL hbl hLd hY0
    go_wp2_with fail
    go_at_call 11; refine (HAW.out _).mono ?_; rintro e w2 ⟨rfl, h2⟩
    have h3 := seq HB1.out h2
    go_wp2_with fail
    go_ret
    exact ⟨rfl, h3⟩
  · have hF : FewC P T G := Decidable.byContradiction fun h => hf (.inl h)
    have hm4 : m ≤ 400 := by omega
    have hM := hF.h.1.h
    obtain ⟨n, hn⟩ : ∃ n : Nat, (n : Int) = 20 + 264 * P + 3 * T + 2 * G := ⟨(20 + 264 * P + 3 * T + 2 * G).toNat, by omega⟩
    have hL := lay_some P T G E m cp n a v _ hm4 hF hn (hs.up (.cells #[.int .i64 P, .int .i64 T, .int .i64 G, .slice E m cp] 26)) hv
    have htt : 100 < mp ∨ 60 < l.length ∨ knownL G l = false := by rcases h with h | h; exact absurd h hf; exact h
    clear h hf hs hv hn hF hM
    by_cases q1 : 100 < mp
    · clear htt
      have e1 : decide ((100 : Int) < (mp : Int)) = true := decide_eq_true (by omega)
      go_enter Tryz.func3, Tryz.ntmps3
      go_wp2_with fail
      generalize (w.alloc (.cells #[.int .i64 P, .int .i64 T, .int .i64 G, .slice E m cp] 26)) = W at *
      go_at_call 9; refine hL.mono ?_; rintro e w1 ⟨cl, A, A', cap, cap', c, b, c', b', rfl, hLd⟩
      have hbl : Below W.heap.size W w1 := hLd.below
      have HB1 : Hid (Below w.heap.size w w1) := HB.out.trans (hbl.mono (by omega))
      have hY0 := hX0.out.but (But.of_below (l := []) hbl) (by simp)
      have zP := hY0.cell 0 (v := .int .i64 P) rfl
      have zT := hY0.cell 1 (v := .int .i64 T) rfl
      have zG := hY0.cell 2 (v := .int .i64 G) rfl
      clear hL hbl hLd hY0
      go_wp2_with fail
      go_at_call 11; refine (HAW.out _).mono ?_; rintro e w2 ⟨rfl, h2⟩
      have h3 := seq HB1.out h2
      go_wp2_with fail
      go_ret
      exact ⟨rfl, h3⟩
    have d1 : decide ((100 : Int) < (mp : Int)) = false := decide_eq_false (by omega)
    by_cases q2 : 60 < l.length
    · clear htt
      have e2 : decide ((60 : Int) < (l.length : Int)) = true := decide_eq_true (by omega)
      go_enter Tryz.func3, Tryz.ntmps3
      go_wp2_with fail
      generalize (w.alloc (.cells #[.int .i64 P, .int .i64 T, .int .i64 G, .slice E m cp] 26)) = W at *
      go_at_call 9; refine hL.mono ?_; rintro e w1 ⟨cl, A, A', cap, cap', c, b, c', b', rfl, hLd⟩
      have hbl : Below W.heap.size W w1 := hLd.below
      have HB1 : Hid (Below w.heap.size w w1) := HB.out.trans (hbl.mono (by omega))
      have hY0 := hX0.out.but (But.of_below (l := []) hbl) (by simp)
      have zP := hY0.cell 0 (v := .int .i64 P) rfl
      have zT := hY0.cell 1 (v := .int .i64 T) rfl
      have zG := hY0.cell 2 (v := .int .i64 G) rfl
      clear hL hbl hLd hY0
      go_wp2_with fail
      go_at_call 11; refine (HAW.out _).mono ?_; rintro e w2 ⟨rfl, h2⟩
      have h3 := seq HB1.out h2
      go_wp2_with fail
      go_ret
      exact ⟨rfl, h3⟩
    have d2 : decide ((60 : Int) < (l.length : Int)) = false := decide_eq_false (by omega)
    have q3 : knownL G l = false := by
      rcases htt with h | h | h
      · exact absurd h q1
      · exact absurd h q2
      · exact h
    have HKN : Hid (∀ Y, SeesL Y (.slice B l.length cpl) l → Calls Tryz.prog 10 #[.agg #[.int .i64 P, .int .i64 T, .int .i64 G], .slice B l.length cpl] Y fun e w' => e = .returned (.bool false) ∧ Below Y.heap.size Y w') := fun Y hs => by
      have h1 := known_any Y P T G B cpl l hs (by omega)
      rw [q3] at h1
      exact h1
    have HGSL : Hid (∀ Y, Below w.heap.size w Y → SeesL Y (.slice B l.length cpl) l) := fun Y hY => hgs.below hY
    clear htt hgs
    go_enter Tryz.func3, Tryz.ntmps3
    go_wp2_with fail
    generalize (w.alloc (.cells #[.int .i64 P, .int .i64 T, .int .i64 G, .slice E m cp] 26)) = W at *
    go_at_call 9; refine hL.mono ?_; rintro e w1 ⟨cl, A, A', cap, cap', c, b, c', b', rfl, hLd⟩
    have hbl : Below W.heap.size W w1 := hLd.below
    have HB1 : Hid (Below w.heap.size w w1) := HB.out.trans (hbl.mono (by omega))
    have hY0 := hX0.out.but (But.of_below (l := []) hbl) (by simp)
    have zP := hY0.cell 0 (v := .int .i64 P) rfl
    have zT := hY0.cell 1 (v := .int .i64 T) rfl
    have zG := hY0.cell 2 (v := .int .i64 G) rfl
    clear hL hbl hLd hY0
    go_wp2_with fail
    go_at_call 10; refine (HKN.out w1 (HGSL.out w1 HB1.out)).mono ?_; rintro e wk ⟨rfl, hk⟩
    have HB1 : Hid (Below w.heap.size w wk) := seq HB1.out hk
    clear hk HKN HGSL
    go_wp2_with fail
    go_at_call 11; refine (HAW.out _).mono ?_; rintro e w2 ⟨rfl, h2⟩
    have h3 := seq HB1.out h2
    go_wp2_with fail
    go_ret
    exact ⟨rfl, h3⟩

set_option maxHeartbeats 4000000 in
theorem globqPuts_ok (P T G : Int) (B : Option Addr) (cpl : Nat) (l : List Int) (E F : Option Addr) (m cp mp cq : Nat) (a v : Nat → Int) (Pks : Nat → Pk) (w : World) (hAw : ∀ w, Calls Tryz.prog 11 #[] w fun e w' => e = .returned (.bool true) ∧ Below w.heap.size w w') (hm : m ≤ 400) (hF : FewC P T G) (hmp : mp ≤ 100) (hgs : SeesL w (.slice B l.length cpl) l) (hs : SeesP w w.heap.size E m a v) (hv : ∀ i, i < m → 0 ≤ v i ∧ v i ≤ 18446744073709551615) (hP : SeesC w w.heap.size F mp 6 (pkC Pks)) (hpv : ∀ j, j < mp → 0 ≤ (Pks j).v ∧ (Pks j).v ≤ 18446744073709551615) (hll : l.length ≤ 60) (hkn : knownL G l = true) :
    Calls Tryz.prog 3 #[.agg #[.int .i64 P, .int .i64 T, .int .i64 G, .slice E m cp], .slice B l.length cpl, .slice F mp cq] w fun e w' => e = .returned (.bool true) ∧ Below w.heap.size w w' := by
  have hsz : (w.alloc (.cells #[.int .i64 P, .int .i64 T, .int .i64 G, .slice E m cp] 26)).heap.size = w.heap.size + 1 := by simp
  have HB : Hid (Below w.heap.size w (w.alloc (.cells #[.int .i64 P, .int .i64 T, .int .i64 G, .slice E m cp] 26))) := (Below.refl _ _).alloc (Nat.le_refl _) _
  have hX0 : Hid (Blk (w.alloc (.cells #[.int .i64 P, .int .i64 T, .int .i64 G, .slice E m cp] 26)) w.heap.size #[.int .i64 P, .int .i64 T, .int .i64 G, .slice E m cp] 26) := (Blk.new w #[.int .i64 P, .int .i64 T, .int .i64 G, .slice E m cp] 26)
  have HAW : Hid (∀ w, Calls Tryz.prog 11 #[] w fun e w' => e = .returned (.bool true) ∧ Below w.heap.size w w') := hAw
  have hM := hF.h.1.h
  have hFF := hF.h
  have hP64 : 0 ≤ P ∧ P ≤ 64 := by omega
  obtain ⟨n, hn⟩ : ∃ n : Nat, (n : Int) = 20 + 264 * P + 3 * T + 2 * G := ⟨(20 + 264 * P + 3 * T + 2 * G).toNat, by omega⟩
  have hn0 : 0 < n := by omega
  have hn6 : n ≤ 1000000 := by omega
  have hL := lay_some P T G E m cp n a v _ hm hF hn (hs.up (.cells #[.int .i64 P, .int .i64 T, .int .i64 G, .slice E m cp] 26)) hv
  have d1 : decide ((100 : Int) < (mp : Int)) = false := decide_eq_false (by omega)
  have d2 : decide ((60 : Int) < (l.length : Int)) = false := decide_eq_false (by omega)
  have HP : Hid (SeesC w w.heap.size F mp 6 (pkC Pks)) := hP
  have HPV : Hid (∀ j, j < mp → 0 ≤ (Pks j).v ∧ (Pks j).v ≤ 18446744073709551615) := hpv
  have hln : l.length ≤ 1000000 := by omega
  have HTG : Hid ((0 ≤ T ∧ T ≤ 65536) ∧ (0 ≤ G ∧ G ≤ 65536)) := ⟨by omega, by omega⟩
  have HNN : Hid ((n : Int) = 20 + 264 * P + 3 * T + 2 * G) := hn
  have HLN : Hid (l.length ≤ 1000000) := hln
  have HLSN : Hid (∀ (pl : Int → Int) (f : Int), (lsOf pl G f).1.length ≤ 1000000) := fun pl f => lsOf_len pl G f (by omega)
  have HGSL : Hid (∀ Y, Below w.heap.size w Y → SeesL Y (.slice B l.length cpl) l) := fun Y hY => hgs.below hY
  have HBW : Hid (0 < l.length → ∀ bb off : Nat, B = some ⟨bb, off, none⟩ → bb < w.heap.size) := fun h0 bb off e => by
    obtain ⟨A0, cap0, e0, -, h2⟩ := hgs
    cases e0
    obtain ⟨b1, off1, e1, h3, -⟩ := h2 h0
    rw [e] at e1
    cases e1
    exact h3
  obtain ⟨gl, hgl⟩ : ∃ gl : Int → Int, (fun y => wd (20 + P * 264 + T * 3) G 2 y 1) = gl := ⟨_, rfl⟩
  have HLAW : Hid (∀ cl, (qpI 2 cl gl l).Good (qpPM gl l) ∧ Steps (qpPM gl l) (qpI 2 cl gl l) (Rd.lay cl P T G) 19 2) := fun cl => by rw [← hgl]; exact ⟨qp_good 2 P T G cl l hP64 (by omega) (by omega) hln, qp_steps 2 P T G cl l hP64 (by omega) (by omega) hln stepby_qput⟩
  have HAXK : Hid (∀ t a, (qpPM gl l).ax t = some a → a.Ok) := qp_axok gl l hln
  have HREF : Hid (∀ (w : World) (x : Nat) (A : Option Addr) (cap m : Nat) (gf : Nat → Int) (t : QpT), SeesL w (.slice B l.length cpl) l → (0 < l.length → ∀ b off : Nat, B = some ⟨b, off, none⟩ → b ≠ x) → RunOn w x A cap m gf rn0 → Hist (qpPM gl l) (qpStart l) gf m t → Calls Tryz.prog 14 #[.pointer (some ⟨x, 0, none⟩), .agg #[.int .i64 P, .int .i64 T, .int .i64 G], .slice B l.length cpl] w fun e w' => ∃ v, e = .returned v ∧ SeesL w' v (if t.lies = true then [] else l) ∧ RunOn w' x A cap m gf ((qpPM gl l).rn t m) ∧ But [x] w w') := fun w x A cap m gf t hs hx h hh => by subst hgl; exact rqput_on w x A B cap cpl m gf P T G l t h hh hP64 (by omega) (by omega) hln hs hx
  have HNEW : Hid (∀ cl (w : World), Lay w cl P T G → SeesL w (.slice B l.length cpl) l → Calls Tryz.prog 12 #[.pointer (some ⟨cl, 0, none⟩), .int .i64 2, .slice B l.length cpl] w fun e w' => ∃ x L, e = .returned (.pointer (some ⟨x, 0, none⟩)) ∧ qpI 2 cl gl l w' x (qpStart l) L ∧ Below w.heap.size w w' ∧ (∀ k ∈ L, w.heap.size ≤ k)) := fun cl w h hs => by subst hgl; exact qp_new_any w cl 2 P T G _ l hs hln h hP64 (by omega) (by omega)
  have HKN : Hid (∀ Y, SeesL Y (.slice B l.length cpl) l → Calls Tryz.prog 10 #[.agg #[.int .i64 P, .int .i64 T, .int .i64 G], .slice B l.length cpl] Y fun e w' => e = .returned (.bool true) ∧ Below Y.heap.size Y w') := fun Y hs => by
    have h1 := known_any Y P T G B cpl l hs hln
    rw [hkn] at h1
    exact h1
  have hl60 : (l.length : Int) ≤ 60 := by omega
  clear hgl hln hll hkn hgs
  clear hAw hs hv hn hF hM hFF hP hpv
  go_enter Tryz.func3, Tryz.ntmps3
  go_wp2_with fail
  generalize (w.alloc (.cells #[.int .i64 P, .int .i64 T, .int .i64 G, .slice E m cp] 26)) = W at *
  go_at_call 9; refine hL.mono ?_; rintro e w1 ⟨cl, A, A', cap, cap', c, b, c', b', rfl, hLd⟩
  have HL : Hid (Laid W w1 P T G n (putF a v n m) cl A A' cap cap' c b c' b') := hLd
  have hbl := hLd.below
  have HB1 : Hid (Below w.heap.size w w1) := HB.out.trans (hbl.mono (by omega))
  have hY0 := hX0.out.but (But.of_below (l := []) hbl) (by simp)
  have zP := hY0.cell 0 (v := .int .i64 P) rfl
  have zT := hY0.cell 1 (v := .int .i64 T) rfl
  have zG := hY0.cell 2 (v := .int .i64 G) rfl
  have HXb : Hid (∀ k, Blk (w1.drewN k) w.heap.size #[.int .i64 P, .int .i64 T, .int .i64 G, .slice E m cp] 26) := fun k => hY0.drewN k
  have HXw : Hid (Blk w1 w.heap.size #[.int .i64 P, .int .i64 T, .int .i64 G, .slice E m cp] 26) := hY0
  clear hL hLd hbl hY0
  go_wp2_with fail
  go_at_call 10; refine (HKN.out w1 (HGSL.out w1 HB1.out)).mono ?_; rintro e wk ⟨rfl, hwk⟩
  have hT1 : Hid (Two wk A A' cap cap' c b c' b' n (fresh (putF a v n m))) := HL.out.two.below hwk
  have HB2 : Hid (Below w.heap.size w wk) := seq HB1.out hwk
  have HLy2 : Hid (Lay wk cl P T G) := HL.out.lay.below hwk HL.out.lay.lt
  have HX2 : Hid (Blk wk w.heap.size #[.int .i64 P, .int .i64 T, .int .i64 G, .slice E m cp] 26) := HXw.out.but (But.of_below (l := []) hwk) (by simp)
  obtain ⟨u1, u2, u3, u4, u5⟩ := HL.out.up
  have hup : Hid (w.heap.size ≤ c ∧ w.heap.size ≤ b ∧ w.heap.size ≤ c' ∧ w.heap.size ≤ b') := ⟨by omega, by omega, by omega, by omega⟩
  have hbx : Hid (w.heap.size ≠ c ∧ w.heap.size ≠ b ∧ w.heap.size ≠ c' ∧ w.heap.size ≠ b' ∧ w.heap.size ≠ cl) := ⟨by omega, by omega, by omega, by omega, by omega⟩
  have hclup : Hid (w.heap.size ≤ cl) := (by omega : w.heap.size ≤ cl)
  generalize hw2 : wk = w2 at *
  have z0 := HX2.out.cell 0 (v := .int .i64 P) rfl
  have z1 := HX2.out.cell 1 (v := .int .i64 T) rfl
  have z2 := HX2.out.cell 2 (v := .int .i64 G) rfl
  clear hwk HKN HL HB1 HXb HXw u1 u2 u3 u4 u5 hw2 hX0 HB hsz zP zT zG
  have hne : Hid (cl ≠ c ∧ cl ≠ b) := lay_ne HLy2.out (by decide) hT1.out.m hn0
  have hne2 : Hid (cl ≠ c' ∧ cl ≠ b') := lay_ne HLy2.out (by decide) hT1.out.r hn0
  have HLW : Hid ((qpI 2 cl gl l).Good (qpPM gl l) ∧ Steps (qpPM gl l) (qpI 2 cl gl l) (Rd.lay cl P T G) 19 2) := HLAW.out cl
  have HGD : Hid ((qpI 2 cl gl l).Good (qpPM gl l)) := HLW.out.1
  have hN := HNEW.out cl w2 HLy2.out (HGSL.out w2 HB2.out)
  go_wp2_with fail
  go_at_call 12; refine hN.mono ?_; rintro e w3 ⟨x, L0, rfl, hi0, hb3, hu1⟩
  have HO0 : Hid (LawOn (qpI 2 cl gl l) ((Rd.lay cl P T G).and (Rd.blk w.heap.size #[.int .i64 P, .int .i64 T, .int .i64 G, .slice E m cp] 26)) w w3 A A' cap cap' c b c' b' n (fresh (putF a v n m)) (fresh (putF a v n m)) none 0 0 (fun _ => 0) x (qpStart l) L0 [cl, w.heap.size]) := LawOn.begin hT1.out hb3 HB2.out hup.out hi0 HGD.out hu1 ⟨HLy2.out.below hb3 HLy2.out.lt, HX2.out.but (But.of_below (l := []) hb3) (by simp)⟩ (fun k hk => hk) (by
    obtain ⟨n1, n2⟩ := hne.out; obtain ⟨n3, n4⟩ := hne2.out; obtain ⟨n5, n6, n7, n8, n9⟩ := hbx.out
    intro k hk
    simp only [List.mem_cons, List.not_mem_nil, or_false] at hk
    rcases hk with rfl | rfl
    · exact ⟨⟨n1, n2, n3, n4⟩, HLy2.out.lt, hclup.out⟩
    · exact ⟨⟨n5, n6, n7, n8⟩, HX2.out.lt, Nat.le_refl _⟩)
  clear hN hi0 hb3 hu1 hT1 HB2 HX2 HLy2 z0 z1 z2 hup hbx hclup hne hne2
  go_wp2_with fail
  go_loopw [12, 13] (fun gv i wr => ∃ (k : Nat) (s : St) (Ag : Option Addr) (capg mg : Nat) (gf : Nat → Int) (t : QpT) (L : List Nat), k ≤ mp ∧ i = .int .i64 k ∧ gv = .slice Ag mg capg ∧ mg ≤ k ∧ Hid (LawOn (qpI 2 cl gl l) ((Rd.lay cl P T G).and (Rd.blk w.heap.size #[.int .i64 P, .int .i64 T, .int .i64 G, .slice E m cp] 26)) w wr A A' cap cap' c b c' b' n s s Ag capg mg gf x t L [cl, w.heap.size]) ∧ Hid (Low s (k : Int)) ∧ Hid (Hist (qpPM gl l) (qpStart l) gf mg t)) (fun _ i _ => mp - (intOf i).toNat)
  case atStart => exact ⟨0, _, none, 0, 0, _, (qpStart l), L0, Nat.zero_le _, rfl, rfl, Nat.le_refl _, HO0, low_fresh _, Hist.start _ _ _⟩
  case round =>
    clear HO0
    obtain ⟨k, s, Ag, capg, mg, gf, t, L, hk, rfl, rfl, hmg, HO, HLo, HH⟩ := hrel
    by_cases hlt : k < mp
    · obtain ⟨fb, foff, rfl, hfb, hcell⟩ := HP.out (by omega)
      have hcw : Hid (∀ i u, (pkC Pks k)[i]? = some u → wr.cell? ⟨fb, foff + k * 6 + i, none⟩ = some u) := fun i u hu => (HO.out.poke.below.cell (p := ⟨fb, foff + k * 6 + i, none⟩) hfb).trans (hcell k hlt i u hu)
      have pz := hcw.out 0 (.bool (Pks k).z) rfl
      have hk0 : (0 : Int) ≤ (k : Int) := Int.natCast_nonneg _
      have hk1 : (k : Int) < (mp : Int) := by omega
      clear hcell
      rw [Nat.add_zero] at pz
      cases hz : (Pks k).z
      · rw [hz] at pz
        have HRA : Hid (wr.rangeAt fb (foff + k * 6 + 1) [.int .i64 (Pks k).k, .int .i64 (Pks k).p, .int .i64 (Pks k).i, .int .u64 (Pks k).o, .int .u64 (Pks k).v]) := fun j u hu => by
          have := hcw.out (1 + j) u (by rw [show pkC Pks k = .bool (Pks k).z :: [.int .i64 (Pks k).k, .int .i64 (Pks k).p, .int .i64 (Pks k).i, .int .u64 (Pks k).o, .int .u64 (Pks k).v] from rfl, Nat.add_comm 1 j, List.getElem?_cons_succ]; exact hu)
          rw [← Nat.add_assoc] at this
          exact this
        clear hz hcw
        go_wp2_with (refine wpList_load_mid rfl 41 _ rfl fb (foff + k * 6 + 1) rfl [.int .i64 (Pks k).k, .int .i64 (Pks k).p, .int .i64 (Pks k).i, .int .u64 (Pks k).o, .int .u64 (Pks k).v] _ HRA.out Tryz.underlying41 rfl (by kernel_rfl) ?_)
        go_at_call 13; refine (HO.out.pokes HGD.out hn6 (HLo.out.more (by omega)) (Pks k).k (Pks k).p (Pks k).i (Pks k).o (Pks k).v (HPV.out k hlt)).mono ?_; rintro e w9 ⟨rfl, hO⟩
        have HO9 : Hid _ := hO
        have HLo9 : Hid (Low (actS (Pks k).k (Pks k).p (Pks k).i (Pks k).o (Pks k).v n s) (((k + 1 : Nat)) : Int)) := (actS_low HLo.out _ _ _ _ _ _).more (by omega)
        clear hO HO HRA pz
        go_wp2_with fail
        go_roundw
        case rel => exact ⟨k + 1, _, Ag, capg, mg, gf, t, L, by omega, by go_num, rfl, by omega, HO9, HLo9, HH⟩
        case measure => simp [intOf]; omega
      · rw [hz] at pz
        clear hz hcw
        have hR0 : Hid (RunOn (wr.alloc (.cells (runL (.slice Ag mg capg) rn0).toArray 48)) wr.heap.size Ag capg mg gf rn0) := run_starts HO.out.poke.got (by omega)
        have hb0 : Hid (Below wr.heap.size wr (wr.alloc (.cells (runL (.slice Ag mg capg) rn0).toArray 48))) := (Below.refl _ _).alloc (Nat.le_refl _) _
        have hRR := HREF.out _ _ Ag capg mg gf t (HGSL.out _ (HO.out.poke.below.trans (hb0.out.mono HO.out.poke.below.size))) (fun h0 bb off e => by have h1 := HBW.out h0 bb off e; have h2 := HO.out.rd.2.lt; omega) hR0.out HH.out
        have y0 := HO.out.rd.2.cell 0 (v := .int .i64 P) rfl
        have y1 := HO.out.rd.2.cell 1 (v := .int .i64 T) rfl
        have y2 := HO.out.rd.2.cell 2 (v := .int .i64 G) rfl
        have hbl : w.heap.size < wr.heap.size := HO.out.rd.2.lt
        go_wp2_with fail
        go_at_call 14; refine hRR.mono ?_; rintro e w4 ⟨vh, rfl, hVH, hR4, hB4⟩
        have hb4 : Below wr.heap.size wr w4 := hb0.out.trans (hB4.below (by simp) (by simp))
        have HO4 : Hid (LawOn (qpI 2 cl gl l) ((Rd.lay cl P T G).and (Rd.blk w.heap.size #[.int .i64 P, .int .i64 T, .int .i64 G, .slice E m cp] 26)) w w4 A A' cap cap' c b c' b' n s s Ag capg mg gf x t L [cl, w.heap.size]) := HO.out.still HGD.out hb4
        have HR4 : Hid (RunOn w4 wr.heap.size Ag capg mg gf ((qpPM gl l).rn t mg)) := hR4
        have hs4 : wr.heap.size < w4.heap.size := hR4.blk.lt
        have s2 := HR4.out.blk.cell 2 (v := .bool ((qpPM gl l).rn t mg).stop) rfl
        rw [PM.rn_stop] at s2
        clear hRR hR4 hB4 hR0 hb0 hb4 HO pz y0 y1 y2 hbl
        have HOK : Hid (∀ a, (qpPM gl l).ax t = some a → a.Ok) := fun a ha => HAXK.out t a ha
        have HD : Hid (∀ Y, Below w4.heap.size w4 Y → Calls Tryz.prog 15 #[.pointer (some ⟨x, 0, none⟩)] Y fun e w' => e = .returned (.bool ((qpPM gl l).ax t).isNone) ∧ Y = w') := fun Y hY => by
          obtain ⟨nx, hx1, hx2⟩ := HGD.out.next (HGD.out.below HO4.out.mach hY)
          rw [← hx2]
          exact done_qput Y x nx hx1
        have HVH : Hid (∀ Y, Below w4.heap.size w4 Y → SeesL Y vh (if t.lies = true then [] else l)) := fun Y hY => hVH.below hY
        have HHv : Hid (∀ Y, Below w4.heap.size w4 Y → Calls Tryz.prog 17 #[.pointer (some ⟨x, 0, none⟩)] Y fun e w' => ∃ v, e = .returned v ∧ IntsOn w' Y.heap.size v (if t.lies = true then [] else l) ∧ Below Y.heap.size Y w') := fun Y hY => qp_holds (HGD.out.below HO4.out.mach hY) HLN.out
        have HHL : Hid ((if t.lies = true then [] else l).length ≤ 1000000) := by
          show (if t.lies = true then [] else l).length ≤ 1000000
          split
          · exact Nat.zero_le _
          · exact HLN.out
        clear hVH
        cases hst : ((qpPM gl l).ax t).isSome
        · rw [hst] at s2
          have hin : ((qpPM gl l).ax t).isNone = true := by cases h : (qpPM gl l).ax t <;> rw [h] at hst <;> first | rfl | cases hst
          rw [hin] at HD
          clear hin
          generalize (if t.lies = true then [] else l) = lh at *
          have hH : Hid (w4.drew.cell? ⟨wr.heap.size, 2, none⟩ = some (.bool false) ∧ Below w4.heap.size w4 w4.drew) := ⟨s2, (Below.refl _ _).drew⟩
          have KEEP : Hid (∀ X w' : World, (X.cell? ⟨wr.heap.size, 2, none⟩ = some (.bool false) ∧ Below w4.heap.size w4 X) → Below X.heap.size X w' → (w'.cell? ⟨wr.heap.size, 2, none⟩ = some (.bool false) ∧ Below w4.heap.size w4 w')) := fun X w' h k => ⟨(k.cell (p := ⟨wr.heap.size, 2, none⟩) (Nat.lt_of_lt_of_le hs4 h.2.size)).trans h.1, h.2.trans (k.mono h.2.size)⟩
          go_wp2_with fail
          go_region_held3 (fun w' => w'.cell? ⟨wr.heap.size, 2, none⟩ = some (.bool false) ∧ Below w4.heap.size w4 w') (first | exact hH.out | assumption | exact KEEP.out _ _ ‹_› ‹_›) (first | (go_at_call 15; refine (HD.out _ (by simp only [*])).mono ?_; rintro e x1 ⟨rfl, rfl⟩) | (go_at_call 17; refine (HHv.out _ (by simp only [*])).mono ?_; rintro e x2 ⟨v2, rfl, hv2, g2⟩; have hv3 := hv2.sees; clear hv2) | (go_at_call 16; refine (lsame_any _ _ _ lh HHL.out hv3 (HVH.out _ (by simp only [*]))).mono ?_; rintro e x3 ⟨rfl, g3⟩))
          all_goals
            rename_i hHeld
            have HO5 : Hid _ := HO4.out.still HGD.out hHeld.2
            have HRg : Hid _ := (HR4.out.below hHeld.2).range
            have hTu := HO5.out.turn HGD.out HOK.out hn6 (HLo.out.more (by omega)) (by omega) 2
            rw [show runCells (.slice Ag mg capg) ((qpPM gl l).rn t mg) = (runL (.slice Ag mg capg) ((qpPM gl l).rn t mg)).toArray from rfl] at hTu
            generalize (qpPM gl l).rn t mg = RN at *
            simp only [runL] at hTu
            clear HD KEEP hH HO4 HR4 s2 hHeld HVH HHv HHL
            go_wp2_with (refine wpList_load_mid rfl 48 _ rfl wr.heap.size 0 rfl (runL (.slice Ag mg capg) RN) _ HRg.out Tryz.underlying48 rfl (by kernel_rfl) ?_; clear HRg)
            go_at_call 18; refine hTu.mono ?_; rintro e w6 ⟨Ag', capg', rfl, hO6⟩
            have HO6 : Hid _ := hO6
            have hSt := HO6.out.step HGD.out HLW.out.2 (fun Y (h : ((Rd.lay cl P T G).and (Rd.blk w.heap.size #[.int .i64 P, .int .i64 T, .int .i64 G, .slice E m cp] 26)).P Y) => h.1) (fun k hk => List.mem_append_left _ hk) hn6 (HLo.out.more (by omega))
            have HHn : Hid _ := HH.out.next n s (fun k i old new => actA_bd HO6.out.poke.mem k i old new)
            have HLo7 : Hid (Low ((qpPM gl l).goS 2 n t s) ((k + 1 : Nat) : Int)) := PM.goS_low HLo.out
            have hml : (qpPM gl l).goM n t s mg ≤ k + 1 := by unfold PM.goM; split <;> (try split) <;> omega
            clear hTu hO6 HO5
            go_wp2_with fail
            go_at_call 19; refine hSt.mono ?_; rintro e w7 ⟨⟨zz, rfl⟩, L7, hO7⟩
            have HO7 : Hid _ := hO7
            clear hSt hO7 HO6 HH HLo
            generalize (qpPM gl l).goS 2 n t s = s' at *
            generalize (qpPM gl l).goG n t s gf mg = g' at *
            generalize (qpPM gl l).goM n t s mg = m' at *
            generalize (qpPM gl l).goT n t s = t' at *
            have hAl := alike_any w7 A A' cap cap' c b c' b' n s' hn6 HO7.out.poke.two
            go_wp2_with fail
            go_at_call 20; refine hAl.mono ?_; rintro e w8 ⟨rfl, hb8⟩
            have HO8 : Hid _ := HO7.out.still HGD.out hb8
            clear hAl hb8 HO7
            go_wp2_with fail
            go_roundw
            case rel => exact ⟨k + 1, s', Ag', capg', m', g', t', L7, by omega, by go_num, rfl, hml, HO8.out, HLo7, HHn.out⟩
            case measure => simp [intOf]; omega
        · rw [hst] at s2
          have hin : ((qpPM gl l).ax t).isNone = false := by cases h : (qpPM gl l).ax t <;> rw [h] at hst <;> first | rfl | cases hst
          rw [hin] at HD
          clear hin
          generalize (if t.lies = true then [] else l) = lh at *
          have hH : Hid (w4.drew.cell? ⟨wr.heap.size, 2, none⟩ = some (.bool true) ∧ Below w4.heap.size w4 w4.drew) := ⟨s2, (Below.refl _ _).drew⟩
          have KEEP : Hid (∀ X w' : World, (X.cell? ⟨wr.heap.size, 2, none⟩ = some (.bool true) ∧ Below w4.heap.size w4 X) → Below X.heap.size X w' → (w'.cell? ⟨wr.heap.size, 2, none⟩ = some (.bool true) ∧ Below w4.heap.size w4 w')) := fun X w' h k => ⟨(k.cell (p := ⟨wr.heap.size, 2, none⟩) (Nat.lt_of_lt_of_le hs4 h.2.size)).trans h.1, h.2.trans (k.mono h.2.size)⟩
          go_wp2_with fail
          go_region_held3 (fun w' => w'.cell? ⟨wr.heap.size, 2, none⟩ = some (.bool true) ∧ Below w4.heap.size w4 w') (first | exact hH.out | assumption | exact KEEP.out _ _ ‹_› ‹_›) (first | (go_at_call 15; refine (HD.out _ (by simp only [*])).mono ?_; rintro e x1 ⟨rfl, rfl⟩) | (go_at_call 17; refine (HHv.out _ (by simp only [*])).mono ?_; rintro e x2 ⟨v2, rfl, hv2, g2⟩; have hv3 := hv2.sees; clear hv2) | (go_at_call 16; refine (lsame_any _ _ _ lh HHL.out hv3 (HVH.out _ (by simp only [*]))).mono ?_; rintro e x3 ⟨rfl, g3⟩))
          all_goals
            rename_i hHeld
            have HO5 : Hid _ := HO4.out.still HGD.out hHeld.2
            have HRg : Hid _ := (HR4.out.below hHeld.2).range
            have hTu := HO5.out.turn HGD.out HOK.out hn6 (HLo.out.more (by omega)) (by omega) 2
            rw [show runCells (.slice Ag mg capg) ((qpPM gl l).rn t mg) = (runL (.slice Ag mg capg) ((qpPM gl l).rn t mg)).toArray from rfl] at hTu
            generalize (qpPM gl l).rn t mg = RN at *
            simp only [runL] at hTu
            clear HD KEEP hH HO4 HR4 s2 hHeld HVH HHv HHL
            go_wp2_with (refine wpList_load_mid rfl 48 _ rfl wr.heap.size 0 rfl (runL (.slice Ag mg capg) RN) _ HRg.out Tryz.underlying48 rfl (by kernel_rfl) ?_; clear HRg)
            go_at_call 18; refine hTu.mono ?_; rintro e w6 ⟨Ag', capg', rfl, hO6⟩
            have HO6 : Hid _ := hO6
            have hSt := HO6.out.step HGD.out HLW.out.2 (fun Y (h : ((Rd.lay cl P T G).and (Rd.blk w.heap.size #[.int .i64 P, .int .i64 T, .int .i64 G, .slice E m cp] 26)).P Y) => h.1) (fun k hk => List.mem_append_left _ hk) hn6 (HLo.out.more (by omega))
            have HHn : Hid _ := HH.out.next n s (fun k i old new => actA_bd HO6.out.poke.mem k i old new)
            have HLo7 : Hid (Low ((qpPM gl l).goS 2 n t s) ((k + 1 : Nat) : Int)) := PM.goS_low HLo.out
            have hml : (qpPM gl l).goM n t s mg ≤ k + 1 := by unfold PM.goM; split <;> (try split) <;> omega
            clear hTu hO6 HO5
            go_wp2_with fail
            go_at_call 19; refine hSt.mono ?_; rintro e w7 ⟨⟨zz, rfl⟩, L7, hO7⟩
            have HO7 : Hid _ := hO7
            clear hSt hO7 HO6 HH HLo
            generalize (qpPM gl l).goS 2 n t s = s' at *
            generalize (qpPM gl l).goG n t s gf mg = g' at *
            generalize (qpPM gl l).goM n t s mg = m' at *
            generalize (qpPM gl l).goT n t s = t' at *
            have hAl := alike_any w7 A A' cap cap' c b c' b' n s' hn6 HO7.out.poke.two
            go_wp2_with fail
            go_at_call 20; refine hAl.mono ?_; rintro e w8 ⟨rfl, hb8⟩
            have HO8 : Hid _ := HO7.out.still HGD.out hb8
            clear hAl hb8 HO7
            go_wp2_with fail
            go_roundw
            case rel => exact ⟨k + 1, s', Ag', capg', m', g', t', L7, by omega, by go_num, rfl, hml, HO8.out, HLo7, HHn.out⟩
            case measure => simp [intOf]; omega
    · obtain rfl : k = mp := by omega
      have hgd : decide ((k : Int) < (k : Int)) = false := by simp
      have HT : Hid (∀ Y, Below wr.heap.size wr Y → Two Y A A' cap cap' c b c' b' n s) := fun Y hY => HO.out.poke.two.below hY
      have hLs := qlist_any wr A cap c b n cl s P T G HO.out.poke.mem hn6 HO.out.rd.1 hP64 HTG.out.1 HTG.out.2
      have HRL : Hid (∀ Y, Below wr.heap.size wr Y → _) := fun Y (hY : Below wr.heap.size wr Y) => rlist13_any Y A' cap' c' b' n s P T G (HT.out Y hY).r HNN.out hP64 HTG.out.1 HTG.out.2
      have HGr : Hid (∀ Y, Below wr.heap.size wr Y → Blk Y w.heap.size #[.int .i64 P, .int .i64 T, .int .i64 G, .slice E m cp] 26) := fun Y hY => (HO.out.rd.2 : Blk wr w.heap.size _ _).but (But.of_below (l := []) hY) (by simp)
      have HB9 : Hid (Below w.heap.size w wr) := HO.out.poke.below
      obtain ⟨r, hr⟩ : ∃ r, lsOf (fun g => peekT n s (wd (20 + P * 264 + T * 3) G 2 g 1)) G (peekT n s 6) = r := ⟨_, rfl⟩
      have HRN : Hid (r.1.length ≤ 1000000) := by
        show r.1.length ≤ 1000000
        rw [← hr]
        exact HLSN.out _ _
      rw [hr] at hLs
      simp only [hr] at HRL
      clear HO HLo HH hr
      go_wp2_with fail
      go_at_call 21; refine hLs.mono ?_; rintro e wa ⟨va, rfl, hva, hba⟩
      obtain ⟨Aa, ca, rfl⟩ := lists_slice hva.own
      have hG9 := HGr.out wa hba
      have y0 := hG9.cell 0 (v := .int .i64 P) rfl
      have y1 := hG9.cell 1 (v := .int .i64 T) rfl
      have y2 := hG9.cell 2 (v := .int .i64 G) rfl
      have hRl := HRL.out wa hba
      have HVA : Hid (IntsOn wa _ (.slice Aa r.1.length ca) r.1) := hva
      have HBA : Hid (Below wr.heap.size wr wa) := hba
      clear hLs hva hba HGr HRL hG9
      go_wp2_with fail
      go_at_call 22; refine hRl.mono ?_; rintro e wc ⟨vb, rfl, hvb, hbb⟩
      obtain ⟨Ab, cb, rfl⟩ := lists_slice hvb.own
      have HVA2 : Hid (IntsOn wc _ (.slice Aa r.1.length ca) r.1) := ⟨row_below HVA.out.own hbb⟩
      have HVB : Hid (IntsOn wc _ (.slice Ab r.1.length cb) r.1) := hvb
      have HBC : Hid (Below wr.heap.size wr wc) := seq HBA.out hbb
      clear hRl hvb hbb HVA HBA y0 y1 y2
      have hl63 : r.1.length ≤ 9223372036854775807 := by have := lists_len HVB.out.own; unfold maxLen at this; omega
      have hlr : r.1.length ≤ 1000000 := HRN.out
      generalize r.1 = lr at *
      generalize r.2 = rz at *
      have HT2 : Hid (∀ Y, Below wc.heap.size wc Y → Two Y A A' cap cap' c b c' b' n s) := fun Y hY => HT.out Y (seq HBC.out hY)
      have HB10 : Hid (Below w.heap.size w wc) := seq HB9.out HBC.out
      have HSA : Hid (∀ Y, Below wc.heap.size wc Y → SeesL Y (.slice Aa lr.length ca) lr) := fun Y hY => (IntsOn.sees HVA2.out).below hY
      have HSB : Hid (∀ Y, Below wc.heap.size wc Y → SeesL Y (.slice Ab lr.length cb) lr) := fun Y hY => (IntsOn.sees HVB.out).below hY
      have HLR : Hid (lr.length ≤ 1000000) := hlr
      have hTW := HT2.out wc (Below.refl _ _)
      have hH : Hid (wc.drew.cell? ⟨c', 0, none⟩ = some (.slice A' n cap') ∧ Below wc.heap.size wc wc.drew) := ⟨hTW.r.cells.1, (Below.refl _ _).drew⟩
      have KEEP : Hid (∀ X w' : World, (X.cell? ⟨c', 0, none⟩ = some (.slice A' n cap') ∧ Below wc.heap.size wc X) → Below X.heap.size X w' → (w'.cell? ⟨c', 0, none⟩ = some (.slice A' n cap') ∧ Below wc.heap.size wc w')) := fun X w' h k => ⟨(HT2.out _ (h.2.trans (k.mono h.2.size))).r.cells.1, h.2.trans (k.mono h.2.size)⟩
      clear hTW HT HBC HB9 HVA2 HVB hlr
      go_wp2_with fail
      go_region_held3 (fun w' => w'.cell? ⟨c', 0, none⟩ = some (.slice A' n cap') ∧ Below wc.heap.size wc w') (first | exact hH.out | assumption | exact KEEP.out _ _ ‹_› ‹_›) (first | (go_at_call 11; refine (HAW.out _).mono ?_; rintro e x1 ⟨rfl, g1⟩) | (go_at_call 24; refine (words_any _ A cap c b n s (HT2.out _ (by simp only [*])).m hn6).mono ?_; rintro e x5 ⟨A4, cap4, rfl, hs4, g5⟩) | (go_at_call 23; refine (sameB_any _ A4 A' n cap4 cap' s.f hn6 hs4 (HT2.out _ (by simp only [*])).r.sees).mono ?_; rintro e x6 ⟨rfl, g6⟩) | (go_at_call 16; refine (lsame_any _ _ _ lr HLR.out (HSA.out _ (by simp only [*])) (HSB.out _ (by simp only [*]))).mono ?_; rintro e x8 ⟨rfl, g8⟩))
      all_goals
        rename_i hHeld
        have hbF := HB10.out.trans (hHeld.2.mono HB10.out.size)
        go_wp2_with fail
        go_ret
        exact ⟨rfl, hbF⟩

theorem globqPuts_walk (P T G : Int) (B : Option Addr) (cpl : Nat) (l : List Int) (E F : Option Addr) (m cp mp cq : Nat) (a v : Nat → Int) (Pks : Nat → Pk) (w : World) (hAw : ∀ w, Calls Tryz.prog 11 #[] w fun e w' => e = .returned (.bool true) ∧ Below w.heap.size w w') (hm : m ≤ 9223372036854775807) (hmp : mp ≤ 9223372036854775807) (hgs : SeesL w (.slice B l.length cpl) l) (hs : SeesP w w.heap.size E m a v) (hv : ∀ i, i < m → 0 ≤ v i ∧ v i ≤ 18446744073709551615) (hP : SeesC w w.heap.size F mp 6 (pkC Pks)) (hpv : ∀ j, j < mp → 0 ≤ (Pks j).v ∧ (Pks j).v ≤ 18446744073709551615) :
    Calls Tryz.prog 3 #[.agg #[.int .i64 P, .int .i64 T, .int .i64 G, .slice E m cp], .slice B l.length cpl, .slice F mp cq] w fun e w' => e = .returned (.bool true) ∧ Below w.heap.size w w' := by
  by_cases h : (¬ FewC P T G ∨ 400 < m) ∨ 100 < mp ∨ 60 < l.length ∨ knownL G l = false
  · exact globqPuts_bad P T G B cpl l E F m cp mp cq a v w hAw hm hmp hgs hs hv h
  · exact globqPuts_ok P T G B cpl l E F m cp mp cq a v Pks w hAw (by omega) (Decidable.byContradiction fun hf => h (.inl (.inl hf))) (by omega) hgs hs hv hP hpv (by omega) (by cases hk : knownL G l with
    | false => exact absurd (.inr (.inr (.inr hk))) h
    | true => rfl)
end Go.Proofs.YthhlklfioipmgaaGreat

namespace Go.Proofs.YthhlklfioipmgaaGreat
open Go Go.RowKit
set_option linter.unusedVariables false
set_option maxRecDepth 100000
set_option linter.unusedSimpArgs false

/-- So many steps of a machine. -/
def PM.steps {σ : Type} (M : PM σ) (who : Int) (n : Nat) : Nat → σ × St → σ × St
  | 0, p => p
  | k + 1, p => PM.steps M who n k (M.goT n p.1 p.2, M.goS who n p.1 p.2)
theorem PM.steps_succ {σ : Type} (M : PM σ) (who : Int) (n : Nat) : ∀ (k : Nat) (p : σ × St), M.steps who n (k + 1) p = (M.goT n (M.steps who n k p).1 (M.steps who n k p).2, M.goS who n (M.steps who n k p).1 (M.steps who n k p).2)
  | 0, p => rfl
  | k + 1, p => PM.steps_succ M who n k (M.goT n p.1 p.2, M.goS who n p.1 p.2)
theorem PM.steps_low {σ : Type} (M : PM σ) (who : Int) (n : Nat) {m : Int} : ∀ (k : Nat) (p : σ × St), Low p.2 m → Low (M.steps who n k p).2 (m + k)
  | 0, p, h => h.more (by omega)
  | k + 1, p, h => (PM.steps_low M who n k (M.goT n p.1 p.2, M.goS who n p.1 p.2) (PM.goS_low h)).more (by omega)

/-- A machine over a memory, apart, with what is only read. -/
structure Solo {σ : Type} (I : MI σ) (R : Rd) (W0 w : World) (A : Option Addr) (cap c b n : Nat) (s : St) (x : Nat) (t : σ) (L : List Nat) : Prop where
  mem : Is w 136 A cap c b n s
  mach : I w x t L
  rd : R.P w
  far : ∀ k ∈ L, k ≠ c ∧ k ≠ b ∧ k ∉ R.B
  rfar : c ∉ R.B ∧ b ∉ R.B
  up : W0.heap.size ≤ c ∧ W0.heap.size ≤ b ∧ ∀ k ∈ L, W0.heap.size ≤ k
  rlt : ∀ k ∈ R.B, k < w.heap.size
  below : Below W0.heap.size W0 w
section
variable {σ : Type} {I : MI σ} {M : PM σ} {R Rm : Rd} {W0 w w' : World} {A : Option Addr} {cap c b n : Nat} {s : St} {x : Nat} {t : σ} {L : List Nat}
theorem Solo.still (hG : I.Good M) (h : Solo I R W0 w A cap c b n s x t L) (hb : Below w.heap.size w w') : Solo I R W0 w' A cap c b n s x t L :=
  ⟨h.mem.below hb, hG.below h.mach hb, R.below h.rd hb, h.far, h.rfar, h.up, fun k hk => Nat.lt_of_lt_of_le (h.rlt k hk) hb.size, h.below.trans (hb.mono h.below.size)⟩
theorem Solo.step (hG : I.Good M) {F : Nat} {who : Int} (hS : Steps M I Rm F who) (hRm : ∀ w, R.P w → Rm.P w) (hRb : ∀ k ∈ Rm.B, k ∈ R.B) (h : Solo I R W0 w A cap c b n s x t L) (hn : n ≤ 1000000) (hl : Low s 1000000) :
    Calls Tryz.prog F #[.pointer (some ⟨x, 0, none⟩), .pointer (some ⟨c, 0, none⟩)] w fun e w' => (e = .returned (.bool (M.ax (M.goT n t s)).isNone)) ∧ ∃ L', Solo I R W0 w' A cap c b n (M.goS who n t s) x (M.goT n t s) L' := by
  refine (hS w A cap c b n s x t L h.mach (hRm w h.rd) h.mem hn hl (fun k hk => ⟨(h.far k hk).1, (h.far k hk).2.1, fun hr => (h.far k hk).2.2 (hRb k hr)⟩) ⟨fun hr => h.rfar.1 (hRb c hr), fun hr => h.rfar.2 (hRb b hr)⟩).mono ?_
  rintro e w' ⟨rfl, L', a1, a2, a3, a4⟩
  have hsz := h.below.size
  have k1 := h.mem.lt
  have k2 := h.mem.bl
  refine ⟨rfl, L', a2, a1, R.keep _ _ _ h.rd a3 (fun k hk => ?_), fun k hk => ?_, h.rfar, ⟨h.up.1, h.up.2.1, fun k hk => ?_⟩, fun k hk => Nat.lt_of_lt_of_le (h.rlt k hk) a3.size, h.below.trans (a3.below ?_ hsz)⟩
  · simp only [List.mem_cons, not_or]
    exact ⟨fun e => h.rfar.1 (e ▸ hk), fun e => h.rfar.2 (e ▸ hk), fun hm => (h.far k hm).2.2 hk⟩
  · rcases a4 k hk with h1 | h1
    · exact h.far k h1
    · exact ⟨by omega, by omega, fun hr => by have := h.rlt k hr; omega⟩
  · rcases a4 k hk with h1 | h1
    · exact h.up.2.2 k h1
    · omega
  · intro k hk
    simp only [List.mem_cons] at hk
    rcases hk with rfl | rfl | hk
    · exact h.up.1
    · exact h.up.2.1
    · exact h.up.2.2 k hk
/-- How it begins. -/
theorem Solo.begin {w2 w3 : World} (hm : Is w2 136 A cap c b n s) (hb : Below w2.heap.size w2 w3) (hB2 : Below W0.heap.size W0 w2) (hup : W0.heap.size ≤ c ∧ W0.heap.size ≤ b) (hi : I w3 x t L) (hL : ∀ k ∈ L, w2.heap.size ≤ k) (hr : R.P w2) (hrl : ∀ k ∈ R.B, k < w2.heap.size) (hrf : c ∉ R.B ∧ b ∉ R.B) : Solo I R W0 w3 A cap c b n s x t L := by
  have k1 := hm.lt
  have k2 := hm.bl
  have hsz := hB2.size
  refine ⟨hm.below hb, hi, R.below hr hb, fun k hk => ?_, hrf, ⟨hup.1, hup.2, fun k hk => Nat.le_trans hsz (hL k hk)⟩, fun k hk => Nat.lt_of_lt_of_le (hrl k hk) hb.size, hB2.trans (hb.mono hsz)⟩
  have h1 := hL k hk
  exact ⟨by omega, by omega, fun hr => by have := hrl k hr; omega⟩
end
end Go.Proofs.YthhlklfioipmgaaGreat

namespace Go.Proofs.YthhlklfioipmgaaGreat
open Go Go.RowKit
set_option linter.unusedVariables false
set_option maxRecDepth 100000
set_option linter.unusedSimpArgs false

section
variable (w : World) (x cl : Nat) (who p most left tl P T G : Int) (nx f o : Option Addr) (h : Blk w x (tkCells who nx cl p most left f o tl) 142) (hl : Lay w cl P T G) (hp : 0 ≤ P ∧ P ≤ 64)
include h hl hp
set_option maxHeartbeats 4000000 in
theorem take_lay2 (v0 g : Int) (hv : 0 ≤ v0 ∧ v0 ≤ 18446744073709551615) (hxc : cl ≠ x) (hg : ∀ Y, But [x] w Y → Calls Tryz.prog 28 #[.pointer o] Y fun e w' => e = .returned (.int .i64 g) ∧ Y = w') : Calls Tryz.prog 212 #[.pointer (some ⟨x, 0, none⟩), .int .u64 v0] w fun e w' => (∃ v, e = .returned v) ∧ Came w w' x (tkCells who nx cl p most left f o v0) 142 (axSt (wd 20 P 264 p (8 + v0 % 256)) (qwd g)) (.untold 223) := by
  have c8 := h.cell 8 (v := .int .u64 tl) rfl
  have f8 := h.fro 8
  have hlt := h.lt
  have h' : Blk _ x (tkCells who nx cl p most left f o v0) 142 := h.set 8 (.int .u64 v0)
  have hB : But [x] w (w.setCell ⟨x, 8, none⟩ (.int .u64 v0)) := (But.refl _ w).set (g := x) (.inl (by simp)) 8 _
  have hl' : Lay (w.setCell ⟨x, 8, none⟩ (.int .u64 v0)) cl P T G := (hB.block cl hl.lt (by simpa using hxc)).trans hl
  generalize hV : w.setCell ⟨x, 8, none⟩ (.int .u64 v0) = V at h' hB hl'
  have c2 := h'.cell 2 (v := .pointer (some ⟨cl, 0, none⟩)) rfl
  have c3 := h'.cell 3 (v := .int .i64 p) rfl
  have c7 := h'.cell 7 (v := .pointer o) rfl
  have HR : Hid (∀ Y, Below V.drew.heap.size V.drew Y → Calls Tryz.prog 95 #[.pointer (some ⟨cl, 0, none⟩), .int .i64 p, .int .u64 v0] Y fun e w' => e = .returned (.int .i64 (wd 20 P 264 p (8 + v0 % 256))) ∧ Below V.drew.heap.size V.drew w') := fun Y k => (layring_any (some ⟨cl, 0, none⟩) P T G p v0 Y (.some cl (Lay.below (w := V.drew) hl' k hl'.lt)) hp hv).mono fun e w' hh => ⟨hh.1, k.trans (hh.2.mono k.size)⟩
  have HG : Hid (∀ Y, Below V.drew.heap.size V.drew Y → Calls Tryz.prog 28 #[.pointer o] Y fun e w' => e = .returned (.int .i64 g) ∧ Y = w') := fun Y k => hg Y (hB.drew.trans (But.of_below k))
  have HQ : Hid (∀ Y, Calls Tryz.prog 126 #[.int .i64 g] Y fun e w' => e = .returned (.int .u64 (qwd g)) ∧ Y = w') := fun Y => q_word2 Y g
  have HS : Hid (∀ w4, Below V.drew.heap.size V.drew w4 → Calls Tryz.prog 127 #[.pointer (some ⟨x, 0, none⟩), .int .i64 (wd 20 P 264 p (8 + v0 % 256)), .int .u64 (qwd g), .func (.func 223) #[.pointer (some ⟨x, 0, none⟩)] #[]] w4 fun e w' => (∃ v, e = .returned v) ∧ Came w w' x (tkCells who nx cl p most left f o v0) 142 (axSt (wd 20 P 264 p (8 + v0 % 256)) (qwd g)) (.untold 223)) := by
    intro w4 k
    have h4 : Blk w4 x (tkCells who nx cl p most left f o v0) 142 := h'.drew.but (But.of_below (l := []) k) (by simp)
    refine (came_store w4 x _ 142 h4 (by simp [tkCells]) _ _ _).mono ?_
    rintro e w5 ⟨hv, hC⟩
    exact ⟨hv, hC.before (hB.drew.trans (But.of_below k))⟩
  generalize wd 20 P 264 p (8 + v0 % 256) = at' at *
  have hD : Hid (Below V.drew.heap.size V.drew V.drew) := Below.refl _ _
  have hH : Hid (V.drew.cell? ⟨x, 2, none⟩ = some (.pointer (some ⟨cl, 0, none⟩)) ∧ V.drew.cell? ⟨x, 3, none⟩ = some (.int .i64 p) ∧ V.drew.cell? ⟨x, 7, none⟩ = some (.pointer o)) := ⟨c2, c3, c7⟩
  have KB : Hid (∀ w4, Below V.drew.heap.size V.drew w4 → w4.cell? ⟨x, 2, none⟩ = some (.pointer (some ⟨cl, 0, none⟩)) ∧ w4.cell? ⟨x, 3, none⟩ = some (.int .i64 p) ∧ w4.cell? ⟨x, 7, none⟩ = some (.pointer o)) := fun w4 k => by
    have h4 : Blk w4 x (tkCells who nx cl p most left f o v0) 142 := h'.drew.but (But.of_below (l := []) k) (by simp)
    exact ⟨h4.cell 2 rfl, h4.cell 3 rfl, h4.cell 7 rfl⟩
  have KC : Hid (∀ w5, Came w w5 x (tkCells who nx cl p most left f o v0) 142 (axSt at' (qwd g)) (.untold 223) → w5.cell? ⟨x, 2, none⟩ = some (.pointer (some ⟨cl, 0, none⟩)) ∧ w5.cell? ⟨x, 3, none⟩ = some (.int .i64 p) ∧ w5.cell? ⟨x, 7, none⟩ = some (.pointer o)) := fun w5 hC => by
    obtain ⟨q, Lc, h1, -⟩ := hC
    exact ⟨h1.cell 2 rfl, h1.cell 3 rfl, h1.cell 7 rfl⟩
  clear h h' hB hl hl' hp hv hg hxc
  go_enter Tryz.func212, Tryz.ntmps212
  go_wp2_with fail
  try rw [hV]
  clear hV c8 f8
  go_region_held3 (fun w' => w'.cell? ⟨x, 2, none⟩ = some (.pointer (some ⟨cl, 0, none⟩)) ∧ w'.cell? ⟨x, 3, none⟩ = some (.int .i64 p) ∧ w'.cell? ⟨x, 7, none⟩ = some (.pointer o)) (first | exact hH.out | exact KB.out _ ‹_› | exact KC.out _ ‹_›) (first | (go_at_call 95; refine (HR.out _ hD.out).mono ?_; rintro e w4 ⟨rfl, k⟩) | (go_at_call 28; refine (HG.out _ ‹_›).mono ?_; rintro e w5 ⟨rfl, rfl⟩) | (go_at_call 126; refine (HQ.out _).mono ?_; rintro e w6 ⟨rfl, rfl⟩) | (go_at_call 127; refine (HS.out _ ‹_›).mono ?_; rintro e w7 ⟨⟨v, rfl⟩, hC⟩))
  all_goals
    clear HR HG HQ HS c2 c3 c7 hH KB KC hD
    go_wp2_with fail
    go_end0
    exact ⟨⟨_, rfl⟩, hC⟩
end
end Go.Proofs.YthhlklfioipmgaaGreat

namespace Go.Proofs.YthhlklfioipmgaaGreat
open Go Go.RowKit
set_option linter.unusedVariables false
set_option maxRecDepth 100000
set_option linter.unusedSimpArgs false

theorem take_begin_none (w : World) (x : Nat) :
    Calls Tryz.prog 124 #[.pointer (some ⟨x, 0, none⟩), .int .u64 0] w fun e w' => (∃ v, e = .returned v) ∧ w = w' := by
  go_enter Tryz.func124, Tryz.ntmps124
  go_wp2_with fail
  refine bodyPost_ret (results_none rfl _ _ _) rfl ?_
  exact ⟨⟨_, rfl⟩, rfl⟩
theorem take_g (w : World) (x cl : Nat) (who p most left tl g : Int) (nx f o : Option Addr) (h : Blk w x (tkCells who nx cl p most left f o tl) 142) (hg : Calls Tryz.prog 28 #[.pointer f] w fun e w' => e = .returned (.int .i64 g) ∧ w = w') :
    Calls Tryz.prog 32 #[.pointer (some ⟨x, 0, none⟩)] w fun e w' => e = .returned (.int .i64 g) ∧ w = w' := by
  have c6 := h.cell 6 (v := .pointer f) rfl
  clear h
  go_enter Tryz.func32, Tryz.ntmps32
  go_wp2_with fail
  go_at_call 28; refine hg.mono ?_; rintro e w1 ⟨rfl, rfl⟩
  clear hg c6
  go_wp2_with fail
  go_ret
  exact ⟨rfl, rfl⟩
theorem take_g_nil (w : World) : Calls Tryz.prog 32 #[.pointer none] w fun e w' => e = .returned (.int .i64 (-1)) ∧ w = w' := by
  go_enter Tryz.func32, Tryz.ntmps32
  go_wp2_with fail
  go_ret
  exact ⟨rfl, rfl⟩
theorem take_holds_nil (w : World) : Calls Tryz.prog 33 #[.pointer none] w fun e w' => e = .returned (.slice none 0 0) ∧ Below w.heap.size w w' := by
  go_enter Tryz.func33, Tryz.ntmps33
  go_wp2_with fail
  go_ret
  exact ⟨rfl, Below.refl _ _⟩
theorem take_new (w : World) (cl : Nat) (who p most : Int) :
    Calls Tryz.prog 68 #[.pointer (some ⟨cl, 0, none⟩), .int .i64 who, .int .i64 p, .int .i64 most] w fun e w' => ∃ x q Lc, e = .returned (.pointer (some ⟨x, 0, none⟩)) ∧ Blk w' x (tkCells who (some ⟨q, 0, none⟩) cl p most 0 none none 0) 142 ∧ Com w' x q (axLd 8) (.told 124) Lc ∧ x ∉ Lc ∧ Below w.heap.size w w' ∧ (∀ k ∈ Lc, w.heap.size ≤ k) ∧ w.heap.size ≤ x := by
  have hB := Blk.new w #[.int .i64 0, .pointer none, .pointer none, .int .i64 p, .int .i64 most, .int .u64 0, .pointer none, .pointer none, .int .u64 0] 142
  have hb : Below w.heap.size w (w.alloc (.cells #[.int .i64 0, .pointer none, .pointer none, .int .i64 p, .int .i64 most, .int .u64 0, .pointer none, .pointer none, .int .u64 0] 142)) := (Below.refl _ _).alloc (Nat.le_refl _) _
  have hO := q_of _ w.heap.size cl who _ (tkCells who none cl p most 0 none none 0) 142 hB (by simp) rfl
  have HH : Hid (Below w.heap.size w (w.alloc (.cells #[.int .i64 0, .pointer none, .pointer none, .int .i64 p, .int .i64 most, .int .u64 0, .pointer none, .pointer none, .int .u64 0] 142))) := hb
  have hsz := World.size_alloc w (.cells #[.int .i64 0, .pointer none, .pointer none, .int .i64 p, .int .i64 most, .int .u64 0, .pointer none, .pointer none, .int .u64 0] 142)
  clear hB hb
  go_enter Tryz.func68, Tryz.ntmps68
  go_wp2_with fail
  go_at_call 70; refine hO.mono ?_; rintro e w1 ⟨⟨v, rfl⟩, h1, h2, h3⟩
  have hb1 : Hid (Below w.heap.size w w1) := HH.out.trans (h2.below (by simp) (by rw [hsz]; omega))
  have hL := q_load8 w1 w.heap.size cl 124 _ 142 h1 (by simp [tkCells]) rfl
  have hlt := h1.lt
  clear hO h2 HH
  go_wp2_with fail
  go_at_call 91; refine hL.mono ?_; rintro e w2 ⟨⟨v2, rfl⟩, hC⟩
  obtain ⟨q, Lc, c1, c2, c3, c4⟩ := hC
  have HF : Hid (Blk w2 w.heap.size (tkCells who (some ⟨q, 0, none⟩) cl p most 0 none none 0) 142 ∧ Com w2 w.heap.size q (axLd 8) (.told 124) Lc ∧ w.heap.size ∉ Lc ∧ Below w.heap.size w w2 ∧ ∀ k ∈ Lc, w.heap.size ≤ k) :=
    ⟨c1, c2, fun hm => by have := c4 _ hm; omega, hb1.out.trans (c3.below (by simp) hb1.out.size), fun k hk => by have := c4 k hk; omega⟩
  clear hL c1 c2 c3 c4
  go_wp2_with fail
  go_ret
  exact ⟨w.heap.size, q, Lc, rfl, HF.out.1, HF.out.2.1, HF.out.2.2.1, HF.out.2.2.2.1, HF.out.2.2.2.2, Nat.le_refl _⟩
end Go.Proofs.YthhlklfioipmgaaGreat

namespace Go.Proofs.YthhlklfioipmgaaGreat
open Go Go.RowKit
set_option linter.unusedVariables false
set_option maxRecDepth 100000
set_option linter.unusedSimpArgs false

inductive TkT where
  | ld
  | none'
  | fst (l : Int) (p : PlT)
  | oth (l : Int) (f p : PlT) (tl : Int)
  | tl (l : Int) (f o : PlT) (tl : Int)
  | st (l : Int) (f o : PlT) (tl : Int)
  | ln (l : Int) (f o : PlT) (tl : Int)
  | over (l : Int) (f : PlT) (o : Option PlT) (tl : Int)
def tkMore (l : Int) (f : PlT) (tl : Int) : TkT := if l ≤ 1 then .over l f none tl else .oth (l - 1) f .ld tl
def tkPM (gl : Int → Int) (P p most : Int) : PM TkT where
  ax := fun
    | .ld => some (axLd 8)
    | .none' => none
    | .fst _ q => (plPM gl).ax q
    | .oth _ _ q _ => (plPM gl).ax q
    | .tl _ _ _ _ => some (axLd (wd 20 P 264 p 2))
    | .st _ _ o tl => some (axSt (wd 20 P 264 p (8 + tl % 256)) (qwd o.obs))
    | .ln _ _ _ tl => some (axSt (wd 20 P 264 p 2) (IntKind.u64.wrap (tl + 1) % 4294967296))
    | .over _ _ _ _ => none
  nx := fun
    | .ld, v => if v = 0 then .none' else .fst (shareOf P most v) .ld
    | .fst l q, v => if ((plPM gl).ax ((plPM gl).nx q v)).isSome = true then .fst l ((plPM gl).nx q v) else if ((plPM gl).nx q v).obs = -1 then .over l ((plPM gl).nx q v) none 0 else tkMore l ((plPM gl).nx q v) 0
    | .oth l f q tl, v => if ((plPM gl).ax ((plPM gl).nx q v)).isSome = true then .oth l f ((plPM gl).nx q v) tl else if ((plPM gl).nx q v).obs = -1 then .over l f (some ((plPM gl).nx q v)) tl else .tl l f ((plPM gl).nx q v) tl
    | .tl l f o _, v => .st l f o v
    | .st l f o tl, _ => .ln l f o tl
    | .ln l f _ tl, _ => tkMore l f tl
    | t, _ => t
/-- Which one is taken. -/
def TkT.obs : TkT → Int
  | .fst _ q => q.obs
  | .oth _ f _ _ => f.obs
  | .tl _ f _ _ => f.obs
  | .st _ f _ _ => f.obs
  | .ln _ f _ _ => f.obs
  | .over _ f _ _ => f.obs
  | _ => -1
def plSub (who : Int) (gl : Int → Int) (cl : Nat) (P T G : Int) : Sub := ⟨PlT, plPM gl, (plFl who cl).I (plPM gl), Rd.lay cl P T G, 64, 29⟩
def ad (k : Nat) : Option Addr := some ⟨k, 0, none⟩
def tkFl (who p most : Int) (cl : Nat) (t : TkT) (es : List Nat) (nx : Option Addr) : Array Value := match t with
  | .ld => tkCells who nx cl p most 0 none none 0
  | .none' => tkCells who nx cl p most 0 none none 0
  | .fst l _ => tkCells who nx cl p most l (ad (es.getD 0 0)) none 0
  | .oth l _ _ tl => tkCells who nx cl p most l (ad (es.getD 0 0)) (ad (es.getD 1 0)) tl
  | .tl l _ _ tl => tkCells who nx cl p most l (ad (es.getD 0 0)) (ad (es.getD 1 0)) tl
  | .st l _ _ tl => tkCells who nx cl p most l (ad (es.getD 0 0)) (ad (es.getD 1 0)) tl
  | .ln l _ _ tl => tkCells who nx cl p most l (ad (es.getD 0 0)) (ad (es.getD 1 0)) tl
  | .over l _ none tl => tkCells who nx cl p most l (ad (es.getD 0 0)) none tl
  | .over l _ (some _) tl => tkCells who nx cl p most l (ad (es.getD 0 0)) (ad (es.getD 1 0)) tl
def PlT.up (gl : Int → Int) (q : PlT) : Prop := ((plPM gl).ax q).isSome = true
def U64' (v : Int) : Prop := 0 ≤ v ∧ v ≤ 18446744073709551615
/-- What lies in memory beside the machine: the pulls that are over. -/
def tkExt (who : Int) (gl : Int → Int) (cl : Nat) (t : TkT) (es : List Nat) (w : World) (Le : List Nat) : Prop := match t with
  | .ld => Le = []
  | .none' => Le = []
  | .fst _ _ => Le = []
  | .oth _ f _ _ => (plFl who cl).I (plPM gl) w (es.getD 0 0) f Le
  | .over _ f none _ => (plFl who cl).I (plPM gl) w (es.getD 0 0) f Le
  | .tl _ f o _ => ∃ Lf Lo, (plFl who cl).I (plPM gl) w (es.getD 0 0) f Lf ∧ (plFl who cl).I (plPM gl) w (es.getD 1 0) o Lo ∧ Le = Lf ++ Lo
  | .st _ f o _ => ∃ Lf Lo, (plFl who cl).I (plPM gl) w (es.getD 0 0) f Lf ∧ (plFl who cl).I (plPM gl) w (es.getD 1 0) o Lo ∧ Le = Lf ++ Lo
  | .ln _ f o _ => ∃ Lf Lo, (plFl who cl).I (plPM gl) w (es.getD 0 0) f Lf ∧ (plFl who cl).I (plPM gl) w (es.getD 1 0) o Lo ∧ Le = Lf ++ Lo
  | .over _ f (some o) _ => ∃ Lf Lo, (plFl who cl).I (plPM gl) w (es.getD 0 0) f Lf ∧ (plFl who cl).I (plPM gl) w (es.getD 1 0) o Lo ∧ Le = Lf ++ Lo
def tkCp (who : Int) (gl : Int → Int) (P T G p most : Int) (cl : Nat) : Cp TkT where
  T := 142
  cells := tkFl who p most cl
  kind := fun
    | .ld => .acc (axLd 8) (.told 124)
    | .none' => .over
    | .fst _ q => .run (plSub who gl cl P T G) q (.fn 158)
    | .oth _ _ q _ => .run (plSub who gl cl P T G) q (.fn 195)
    | .tl _ _ _ _ => .acc (axLd (wd 20 P 264 p 2)) (.told 212)
    | .st _ _ o tl => .acc (axSt (wd 20 P 264 p (8 + tl % 256)) (qwd o.obs)) (.untold 223)
    | .ln _ _ _ tl => .acc (axSt (wd 20 P 264 p 2) (IntKind.u64.wrap (tl + 1) % 4294967296)) (.untold 178)
    | .over _ _ _ _ => .over
  ok := fun
    | .ld => True
    | .none' => True
    | .fst l q => U64' l ∧ PlT.up gl q ∧ (plFl who cl).ok q
    | .oth l _ q tl => U64' l ∧ PlT.up gl q ∧ (plFl who cl).ok q ∧ U64' tl
    | .tl l _ _ tl => U64' l ∧ U64' tl
    | .st l _ _ tl => U64' l ∧ U64' tl
    | .ln l _ _ tl => U64' l ∧ U64' tl
    | .over _ _ _ _ => True
  ext := tkExt who gl cl
  tie := fun t es y => match t with
    | .fst _ _ => es.getD 0 0 = y
    | .oth _ _ _ _ => es.getD 1 0 = y
    | _ => True
theorem ent_tk1 : Ent 124 := fun args w => by kernel_rfl
theorem ent_tk2 : Ent 178 := fun args w => by kernel_rfl
theorem ent_tk6 : Ent 158 := fun args w => by kernel_rfl
theorem ent_tk3 : Ent 195 := fun args w => by kernel_rfl
theorem ent_tk4 : Ent 212 := fun args w => by kernel_rfl
theorem ent_tk5 : Ent 223 := fun args w => by kernel_rfl
theorem share_bd {P most v : Int} (hv : U64' v) (hm : -9223372036854775808 ≤ most ∧ most ≤ 9223372036854775807) : U64' (shareOf P most v) := by
  obtain ⟨z, hz⟩ : ∃ z, IntKind.u64.wrap (v / P + 1) = z := ⟨_, rfl⟩
  have hzb : 0 ≤ z ∧ z ≤ 18446744073709551615 := by rw [← hz]; generalize v / P + 1 = y; simp [IntKind.wrap, IntKind.bits, IntKind.signed]; omega
  unfold shareOf U64' at *
  rw [hz]
  split <;> (repeat' split) <;> omega
theorem pl_live_ax {gl : Int → Int} {q : PlT} (h : ¬ PlT.up gl q) : (plPM gl).ax q = none := by
  unfold PlT.up at h
  cases hq : (plPM gl).ax q
  · rfl
  · rw [hq] at h; exact absurd rfl h

section
variable {who P T G p most : Int} {gl : Int → Int} {cl : Nat} {W w' : World} {x : Nat} {t t' : TkT} {a : Ax} {f : Fol} {es Le Le' : List Nat}
theorem tk_land_acc (h : Came W w' x (tkFl who p most cl t es none) 142 a f) (hok : (tkCp who gl P T G p most cl).ok t) (hk : (tkCp who gl P T G p most cl).kind t = .acc a f) (hx : x < W.heap.size) (he : tkExt who gl cl t es w' Le') (hxe : x ∉ Le') (hle : ∀ k ∈ Le', k ∈ Le ∧ k < W.heap.size) : (tkCp who gl P T G p most cl).Land W w' x t Le := by
  obtain ⟨q, Lc, c1, c2, c3, c4⟩ := h
  refine ⟨c3, x :: (Lc ++ Le'), ⟨hok, es, Le', he, hxe, ?_⟩, fun k hm => by simp at hm; rcases hm with rfl | hm | hm; exact .inl rfl; exact .inr (.inr (c4 k hm)); exact .inr (.inl (hle k hm).1)⟩
  rw [hk]
  refine ⟨q, Lc, ?_, c2, fun hm => absurd (c4 x hm) (by omega), (fun k hm h => by have := c4 k hm; have := (hle k h).2; omega), rfl⟩
  have e : (tkFl who p most cl t es none).setIfInBounds 1 (.pointer (some ⟨q, 0, none⟩)) = tkFl who p most cl t es (some ⟨q, 0, none⟩) := by cases t <;> first | rfl | (rename_i o _; cases o <;> rfl)
  rw [e] at c1
  exact c1
theorem tk_land_run {y q g : Nat} {L : List Nat} {af : After} {pt : PlT} (hC : CameBox W w' x (tkFl who p most cl t es none) 142 (fun v => comCells 0 0 0 0 0 false (.iface 64 (.pointer (some ⟨y, 0, none⟩))) v false false) (af.fol.box x) q g) (hM : (plFl who cl).I (plPM gl) w' y pt L) (hL : ∀ k ∈ L, W.heap.size ≤ k) (hq : q ∉ L) (hg : g ∉ L) (hok : (tkCp who gl P T G p most cl).ok t) (hk : (tkCp who gl P T G p most cl).kind t = .run (plSub who gl cl P T G) pt af) (htie : (tkCp who gl P T G p most cl).tie t es y) (hx : x < W.heap.size) (he : tkExt who gl cl t es w' Le') (hxe : x ∉ Le') (hle : ∀ k ∈ Le', k ∈ Le ∧ k < W.heap.size) : (tkCp who gl P T G p most cl).Land W w' x t Le := by
  refine ⟨hC.at'.but, ?_⟩
  have hfq := hC.at'.fresh
  have hfb := hC.fresh
  refine ⟨x :: q :: g :: (L ++ Le'), ⟨hok, es, Le', he, hxe, ?_⟩, fun k hm => ?_⟩
  · rw [hk]
    refine ⟨q, y, g, L, RunAt.of hC (fun nx => ?_), hM, htie, ?_, hq, hg, fun k hm h => ?_, rfl⟩
    · cases t <;> first | rfl | (rename_i o _; cases o <;> rfl)
    · simp only [List.mem_cons, not_or]
      exact ⟨by omega, by omega, fun hm => by have := hL x hm; omega⟩
    · have h2 := (hle k h).2
      simp only [List.mem_cons] at hm
      rcases hm with rfl | rfl | hm
      · omega
      · omega
      · have := hL k hm; omega
  · simp only [List.mem_cons, List.mem_append] at hm
    rcases hm with rfl | rfl | rfl | hm | hm
    · exact .inl rfl
    · exact .inr (.inr hfq)
    · exact .inr (.inr hfb)
    · exact .inr (.inr (hL k hm))
    · exact .inr (.inl (hle k hm).1)
end
end Go.Proofs.YthhlklfioipmgaaGreat

namespace Go.Proofs.YthhlklfioipmgaaGreat
open Go Go.RowKit
set_option linter.unusedVariables false
set_option maxRecDepth 100000
set_option linter.unusedSimpArgs false

section
variable {who P T G p most : Int} {cl : Nat}
theorem pl_ok_nx {gl : Int → Int} {q : PlT} {v : Int} (hok : (plFl who cl).ok q) (hv : U64' v) : (plFl who cl).ok ((plPM gl).nx q v) := by
  cases q with
  | ld => by_cases h0 : v = 0 <;> simp [plPM, plFl, h0]
  | lnk y => exact hv
  | un y l => by_cases h0 : l = 0 <;> simp [plPM, plFl, h0]
  | tl y => exact trivial
  | ct y l => exact trivial
  | none' => exact trivial
  | over y l => exact trivial
theorem tk_more (W : World) (x : Nat) (l tl : Int) (f : PlT) (o : Option Addr) (es Le Lf : List Nat) (hP : 1 ≤ P ∧ P ≤ 64) (hT : 0 ≤ T ∧ T ≤ 65536) (hG : 0 ≤ G ∧ G ≤ 65536) (hB : Blk W x (tkCells who none cl p most l (ad (es.getD 0 0)) o tl) 142) (hf : (plFl who cl).I (plPM (fun y => wd (20 + P * 264 + T * 3) G 2 y 1)) W (es.getD 0 0) f Lf) (hl : U64' l) (htl : U64' tl) (hxf : x ∉ Lf) (hLf : ∀ k ∈ Lf, k ∈ Le) :
    Calls Tryz.prog 178 #[.pointer (some ⟨x, 0, none⟩)] W fun e w' => (∃ u, e = .returned u) ∧ (tkCp who (fun y => wd (20 + P * 264 + T * 3) G 2 y 1) P T G p most cl).Land W w' x (tkMore l f tl) Le := by
  have hgd := Fl.good (pl_laws who P T G cl (by omega) hT hG)
  have hlf := hgd.lt hf
  by_cases h1 : l ≤ 1
  · have e : tkMore l f tl = .over l f none tl := if_pos h1
    rw [e]
    refine (take_more_end W x cl who p most l tl none _ o hB h1).mono ?_
    rintro e w' ⟨hu, hb, hbu⟩
    refine ⟨hu, hbu, x :: Lf, ⟨trivial, es, Lf, hgd.keep hf hbu (fun k hk hm => by simp at hm; exact hxf (hm ▸ hk)), hxf, hb, rfl⟩, fun k hm => ?_⟩
    simp only [List.mem_cons] at hm
    rcases hm with rfl | hm
    · exact .inl rfl
    · exact .inr (.inl (hLf k hm))
  · have e : tkMore l f tl = .oth (l - 1) f .ld tl := if_neg h1
    rw [e]
    refine (take_more_on W x cl who p most l tl P T G none _ o (by omega) hT hG hB ⟨by omega, hl.2⟩).mono ?_
    rintro e w' ⟨hu, y, L, q, g, hC, hM, hL, hq, hg⟩
    have hfk := hgd.keep hf hC.at'.but (fun k hk hm => by simp at hm; exact hxf (hm ▸ hk))
    exact ⟨hu, tk_land_run (t := .oth (l - 1) f .ld tl) (es := [es.getD 0 0, y]) (pt := .ld) (af := .fn 195) hC hM hL hq hg ⟨⟨by have := hl.1; omega, by have := hl.2; omega⟩, rfl, trivial, htl⟩ rfl rfl hB.lt hfk hxf (fun k hk => ⟨hLf k hk, hlf k hk⟩)⟩

set_option maxHeartbeats 4000000 in
theorem tk_laws (hP : 1 ≤ P ∧ P ≤ 64) (hT : 0 ≤ T ∧ T ≤ 65536) (hG : 0 ≤ G ∧ G ≤ 65536) (hm : -9223372036854775808 ≤ most ∧ most ≤ 9223372036854775807) :
    (tkCp who (fun y => wd (20 + P * 264 + T * 3) G 2 y 1) P T G p most cl).Laws (tkPM (fun y => wd (20 + P * 264 + T * 3) G 2 y 1) P p most) (Rd.lay cl P T G) who where
  c0 := fun t es nx => by cases t <;> first | rfl | (rename_i o _; cases o <;> rfl)
  c1 := fun t es nx => by cases t <;> first | rfl | (rename_i o _; cases o <;> rfl)
  set := fun t es nx nx' => by cases t <;> first | rfl | (rename_i o _; cases o <;> rfl)
  k0 := fun t hok hk => by cases t <;> first | rfl | cases hk
  k1 := fun t a f hok hk => by
    cases t with
    | ld => cases hk; exact ⟨rfl, axLd_ok _, ent_tk1⟩
    | tl l f o tl => cases hk; exact ⟨rfl, axLd_ok _, ent_tk4⟩
    | st l f o tl => cases hk; exact ⟨rfl, axSt_ok _ _ (qwd_bd _), ent_tk5⟩
    | ln l f o tl => cases hk; exact ⟨rfl, axSt_ok _ _ (by omega), ent_tk2⟩
    | _ => cases hk
  k2 := fun t S q af hok hk => by
    cases t with
    | fst l q => cases hk; exact ⟨rfl, hok.2.1, ent_tk6, fun a ha => (pl_laws who P T G cl (by omega) hT hG).axok _ a hok.2.2 ha⟩
    | oth l f q tl => cases hk; exact ⟨rfl, hok.2.1, ent_tk3, fun a ha => (pl_laws who P T G cl (by omega) hT hG).axok _ a hok.2.2.1 ha⟩
    | _ => cases hk
  sub := fun t S q af hok hk => by
    have hl := pl_laws who P T G cl (by omega) hT hG
    cases t with
    | fst l q => cases hk; exact ⟨Fl.steps hl stepby_qpull, Fl.good hl, act_qpull, fun w h => h, fun k h => h⟩
    | oth l f q tl => cases hk; exact ⟨Fl.steps hl stepby_qpull, Fl.good hl, act_qpull, fun w h => h, fun k h => h⟩
    | _ => cases hk
  on := fun t S q af v hok hk hv hs => by
    cases t with
    | fst l q =>
      cases hk
      have e : (tkPM (fun y => wd (20 + P * 264 + T * 3) G 2 y 1) P p most).nx (.fst l q) v = .fst l ((plPM (fun y => wd (20 + P * 264 + T * 3) G 2 y 1)).nx q v) := if_pos hs
      rw [e]
      exact ⟨⟨hok.1, hs, pl_ok_nx hok.2.2 hv⟩, rfl, fun _ => rfl, fun _ _ _ h => h, fun _ _ h => h⟩
    | oth l f q tl =>
      cases hk
      have e : (tkPM (fun y => wd (20 + P * 264 + T * 3) G 2 y 1) P p most).nx (.oth l f q tl) v = .oth l f ((plPM (fun y => wd (20 + P * 264 + T * 3) G 2 y 1)).nx q v) tl := if_pos hs
      rw [e]
      exact ⟨⟨hok.1, hs, pl_ok_nx hok.2.2.1 hv, hok.2.2.2⟩, rfl, fun _ => rfl, fun _ _ _ h => h, fun _ _ h => h⟩
    | _ => cases hk
  ekeep := fun t es w w' ll Le he hb hk => by
    have hgd := Fl.good (pl_laws who P T G cl (by omega) hT hG)
    have two : ∀ f o, (∃ Lf Lo, (plFl who cl).I (plPM (fun y => wd (20 + P * 264 + T * 3) G 2 y 1)) w (es.getD 0 0) f Lf ∧ (plFl who cl).I (plPM (fun y => wd (20 + P * 264 + T * 3) G 2 y 1)) w (es.getD 1 0) o Lo ∧ Le = Lf ++ Lo) → (∃ Lf Lo, (plFl who cl).I (plPM (fun y => wd (20 + P * 264 + T * 3) G 2 y 1)) w' (es.getD 0 0) f Lf ∧ (plFl who cl).I (plPM (fun y => wd (20 + P * 264 + T * 3) G 2 y 1)) w' (es.getD 1 0) o Lo ∧ Le = Lf ++ Lo) := by
      rintro f o ⟨Lf, Lo, h1, h2, rfl⟩
      exact ⟨Lf, Lo, hgd.keep h1 hb (fun k hm => hk k (List.mem_append_left _ hm)), hgd.keep h2 hb (fun k hm => hk k (List.mem_append_right _ hm)), rfl⟩
    cases t with
    | ld => exact he
    | none' => exact he
    | fst l q => exact he
    | oth l f q tl => exact hgd.keep he hb hk
    | tl l f o tl => exact two f o he
    | st l f o tl => exact two f o he
    | ln l f o tl => exact two f o he
    | over l f o tl =>
      cases o with
      | none => exact hgd.keep he hb hk
      | some o => exact two f o he
  elt := fun t es w Le he k hk => by
    have hgd := Fl.good (pl_laws who P T G cl (by omega) hT hG)
    have two : ∀ f o, (∃ Lf Lo, (plFl who cl).I (plPM (fun y => wd (20 + P * 264 + T * 3) G 2 y 1)) w (es.getD 0 0) f Lf ∧ (plFl who cl).I (plPM (fun y => wd (20 + P * 264 + T * 3) G 2 y 1)) w (es.getD 1 0) o Lo ∧ Le = Lf ++ Lo) → k < w.heap.size := by
      rintro f o ⟨Lf, Lo, h1, h2, rfl⟩
      rcases List.mem_append.1 hk with hm | hm
      · exact hgd.lt h1 k hm
      · exact hgd.lt h2 k hm
    cases t with
    | ld => rw [show Le = [] from he] at hk; cases hk
    | none' => rw [show Le = [] from he] at hk; cases hk
    | fst l q => rw [show Le = [] from he] at hk; cases hk
    | oth l f q tl => exact hgd.lt he k hk
    | tl l f o tl => exact two f o he
    | st l f o tl => exact two f o he
    | ln l f o tl => exact two f o he
    | over l f o tl =>
      cases o with
      | none => exact hgd.lt he k hk
      | some o => exact two f o he
  fol := fun W x t a f v es Le hok hk hv hB he hxe hR hxR => by
    have hlt := hB.lt
    have hcx : cl ≠ x := fun e => hxR (by rw [e]; exact List.mem_singleton.2 rfl)
    have hgd := Fl.good (pl_laws who P T G cl (by omega) hT hG)
    cases t with
    | fst l q => cases hk
    | oth l f q tl => cases hk
    | none' => cases hk
    | over l f o tl => cases hk
    | ld =>
      cases hk
      obtain rfl : Le = [] := he
      by_cases h0 : v = 0
      · subst h0
        refine (take_begin_none W x).mono ?_
        rintro e w' ⟨hu, rfl⟩
        exact ⟨hu, But.refl _ _, x :: [], ⟨trivial, [], [], rfl, by simp, hB, rfl⟩, fun k hm => by simp at hm; exact .inl hm⟩
      · have e : (tkPM (fun y => wd (20 + P * 264 + T * 3) G 2 y 1) P p most).nx .ld v = .fst (shareOf P most v) .ld := if_neg h0
        rw [e]
        refine (take_begin W x cl who p most 0 0 P T G v none none none hP hR hv hm hT hG hB h0).mono ?_
        rintro e w' ⟨hu, y, L, q, g, hC, hM, hL, hq, hg⟩
        have hC2 : CameBox W w' x (tkFl who p most cl (.fst (shareOf P most v) .ld) [y] none) 142 (fun v => comCells 0 0 0 0 0 false (.iface 64 (.pointer (some ⟨y, 0, none⟩))) v false false) ((After.fn 158).fol.box x) q g := hC
        exact ⟨hu, tk_land_run (t := .fst (shareOf P most v) .ld) (es := [y]) (Le' := []) (pt := .ld) (af := .fn 158) hC2 hM hL hq hg ⟨share_bd hv hm, rfl, trivial⟩ rfl rfl hlt rfl (by simp) (fun k hk => by cases hk)⟩
    | tl l f o tl0 =>
      cases hk
      obtain ⟨Lf, Lo, h1, h2, rfl⟩ := he
      have hxf : x ∉ Lf := fun hm => hxe (List.mem_append_left _ hm)
      have hxo : x ∉ Lo := fun hm => hxe (List.mem_append_right _ hm)
      refine (take_lay2 W x cl who p most l tl0 P T G none _ (ad (es.getD 1 0)) hB hR (by omega) v o.obs hv hcx (fun Y hY => pl_g (hgd.keep h2 hY (fun k hk hm => by simp at hm; exact hxo (hm ▸ hk))))).mono ?_
      rintro e w' ⟨hu, hC⟩
      obtain ⟨q, Lc, c1, c2, c3, c4⟩ := hC
      exact ⟨hu, tk_land_acc (t := .st l f o v) (es := es) (Le' := Lf ++ Lo) ⟨q, Lc, c1, c2, c3, c4⟩ ⟨hok.1, hv⟩ rfl hlt ⟨Lf, Lo, hgd.keep h1 c3 (fun k hk hm => by simp at hm; exact hxf (hm ▸ hk)), hgd.keep h2 c3 (fun k hk hm => by simp at hm; exact hxo (hm ▸ hk)), rfl⟩ hxe (fun k hk => ⟨hk, by rcases List.mem_append.1 hk with h | h; exact hgd.lt h1 k h; exact hgd.lt h2 k h⟩)⟩
    | st l f o tl0 =>
      cases hk
      obtain ⟨Lf, Lo, h1, h2, rfl⟩ := he
      have hxf : x ∉ Lf := fun hm => hxe (List.mem_append_left _ hm)
      have hxo : x ∉ Lo := fun hm => hxe (List.mem_append_right _ hm)
      refine (take_lengthen W x cl who p most l tl0 P T G none _ (ad (es.getD 1 0)) hB hR (by omega) hok.2).mono ?_
      rintro e w' ⟨hu, hC⟩
      obtain ⟨q, Lc, c1, c2, c3, c4⟩ := hC
      exact ⟨hu, tk_land_acc (t := .ln l f o tl0) (es := es) (Le' := Lf ++ Lo) ⟨q, Lc, c1, c2, c3, c4⟩ hok rfl hlt ⟨Lf, Lo, hgd.keep h1 c3 (fun k hk hm => by simp at hm; exact hxf (hm ▸ hk)), hgd.keep h2 c3 (fun k hk hm => by simp at hm; exact hxo (hm ▸ hk)), rfl⟩ hxe (fun k hk => ⟨hk, by rcases List.mem_append.1 hk with h | h; exact hgd.lt h1 k h; exact hgd.lt h2 k h⟩)⟩
    | ln l f o tl0 =>
      cases hk
      obtain ⟨Lf, Lo, h1, h2, rfl⟩ := he
      exact tk_more W x l tl0 f (ad (es.getD 1 0)) es (Lf ++ Lo) Lf hP hT hG hB h1 hok.1 hok.2 (fun hm => hxe (List.mem_append_left _ hm)) (fun k hk => List.mem_append_left _ hk)
  aft := fun W x y t S q af v es Le Li hok hk hv hn hB hin hty he hxe hxi hd hR hxR => by
    have hlt := hB.lt
    have hgd := Fl.good (pl_laws who P T G cl (by omega) hT hG)
    cases t with
    | fst l q =>
      cases hk
      obtain rfl : Le = [] := he
      have hty' : es.getD 0 0 = y := hty
      have hsn : ¬ ((plPM (fun y => wd (20 + P * 264 + T * 3) G 2 y 1)).ax ((plPM (fun y => wd (20 + P * 264 + T * 3) G 2 y 1)).nx q v)).isSome = true := fun h => by rw [show (plPM (fun y => wd (20 + P * 264 + T * 3) G 2 y 1)).ax ((plPM (fun y => wd (20 + P * 264 + T * 3) G 2 y 1)).nx q v) = none from hn] at h; cases h
      have hin' : (plFl who cl).I (plPM (fun y => wd (20 + P * 264 + T * 3) G 2 y 1)) W (es.getD 0 0) ((plPM (fun y => wd (20 + P * 264 + T * 3) G 2 y 1)).nx q v) Li := by rw [hty']; exact hin
      by_cases ho : ((plPM (fun y => wd (20 + P * 264 + T * 3) G 2 y 1)).nx q v).obs = -1
      · have e : (tkPM (fun y => wd (20 + P * 264 + T * 3) G 2 y 1) P p most).nx (.fst l q) v = .over l ((plPM (fun y => wd (20 + P * 264 + T * 3) G 2 y 1)).nx q v) none 0 := (if_neg hsn).trans (if_pos ho)
        rw [e]
        refine (take_others_none W x cl who p most l 0 none _ none hB (fun Y hY => by have := pl_g (hgd.below hin' hY); rw [ho] at this; exact this)).mono ?_
        rintro e w' ⟨hu, rfl⟩
        refine ⟨hu, But.refl _ _, x :: Li, ⟨trivial, es, Li, hin', hxi, hB, rfl⟩, fun k hm => ?_⟩
        simp only [List.mem_cons, List.mem_append] at hm ⊢
        rcases hm with rfl | hm
        · exact .inl rfl
        · exact .inr (.inl (.inl hm))
      · have e : (tkPM (fun y => wd (20 + P * 264 + T * 3) G 2 y 1) P p most).nx (.fst l q) v = tkMore l ((plPM (fun y => wd (20 + P * 264 + T * 3) G 2 y 1)).nx q v) 0 := (if_neg hsn).trans (if_neg ho)
        rw [e]
        exact take_others_some W x cl who p most l 0 _ none _ none hB ho (fun Y hY => pl_g (hgd.below hin' hY)) _ (tk_more W x l 0 _ none es (Li ++ []) Li hP hT hG hB hin' hok.1 ⟨by omega, by omega⟩ hxi (fun k hk => List.mem_append_left _ hk))
    | oth l f q tl0 =>
      cases hk
      have hty' : es.getD 1 0 = y := hty
      have hxo : x ∉ Li := hxi
      have hin' : (plFl who cl).I (plPM (fun y => wd (20 + P * 264 + T * 3) G 2 y 1)) W (es.getD 1 0) ((plPM (fun y => wd (20 + P * 264 + T * 3) G 2 y 1)).nx q v) Li := by rw [hty']; exact hin
      have hef : (plFl who cl).I (plPM (fun y => wd (20 + P * 264 + T * 3) G 2 y 1)) W (es.getD 0 0) f Le := he
      have hsn : ¬ ((plPM (fun y => wd (20 + P * 264 + T * 3) G 2 y 1)).ax ((plPM (fun y => wd (20 + P * 264 + T * 3) G 2 y 1)).nx q v)).isSome = true := fun h => by rw [show (plPM (fun y => wd (20 + P * 264 + T * 3) G 2 y 1)).ax ((plPM (fun y => wd (20 + P * 264 + T * 3) G 2 y 1)).nx q v) = none from hn] at h; cases h
      by_cases ho : ((plPM (fun y => wd (20 + P * 264 + T * 3) G 2 y 1)).nx q v).obs = -1
      · have e : (tkPM (fun y => wd (20 + P * 264 + T * 3) G 2 y 1) P p most).nx (.oth l f q tl0) v = .over l f (some ((plPM (fun y => wd (20 + P * 264 + T * 3) G 2 y 1)).nx q v)) tl0 := (if_neg hsn).trans (if_pos ho)
        rw [e]
        refine (take_look_none W x cl who p most l tl0 none _ (ad (es.getD 1 0)) hB (fun Y hY => by have := pl_g (hgd.below hin' hY); rw [ho] at this; exact this)).mono ?_
        rintro e w' ⟨hu, rfl⟩
        refine ⟨hu, But.refl _ _, x :: (Le ++ Li), ⟨trivial, es, Le ++ Li, ⟨Le, Li, hef, hin', rfl⟩, fun hm => by rcases List.mem_append.1 hm with h | h; exact hxe h; exact hxi h, hB, rfl⟩, fun k hm => ?_⟩
        simp only [List.mem_cons, List.mem_append] at hm ⊢
        rcases hm with rfl | hm | hm
        · exact .inl rfl
        · exact .inr (.inl (.inr hm))
        · exact .inr (.inl (.inl hm))
      · have e : (tkPM (fun y => wd (20 + P * 264 + T * 3) G 2 y 1) P p most).nx (.oth l f q tl0) v = .tl l f ((plPM (fun y => wd (20 + P * 264 + T * 3) G 2 y 1)).nx q v) tl0 := (if_neg hsn).trans (if_neg ho)
        rw [e]
        refine (take_look_some W x cl who p most l tl0 P T G none _ (ad (es.getD 1 0)) hB hR (by omega) _ ho (fun Y hY => pl_g (hgd.below hin' hY))).mono ?_
        rintro e w' ⟨hu, hC⟩
        obtain ⟨qq, Lc, c1, c2, c3, c4⟩ := hC
        exact ⟨hu, tk_land_acc (t := .tl l f _ tl0) (es := es) (Le' := Le ++ Li) ⟨qq, Lc, c1, c2, c3, c4⟩ ⟨hok.1, hok.2.2.2⟩ rfl hlt ⟨Le, Li, hgd.keep hef c3 (fun k hk hm => by simp at hm; exact hxe (hm ▸ hk)), hgd.keep hin' c3 (fun k hk hm => by simp at hm; exact hxo (hm ▸ hk)), rfl⟩ (fun hm => by rcases List.mem_append.1 hm with h | h; exact hxe h; exact hxi h) (fun k hk => by
          rcases List.mem_append.1 hk with h | h
          · exact ⟨List.mem_append_right _ h, hgd.lt hef k h⟩
          · exact ⟨List.mem_append_left _ h, hgd.lt hin' k h⟩)⟩
    | _ => cases hk

theorem tk_fresh (w : World) (gl : Int → Int) :
    Calls Tryz.prog 68 #[.pointer (some ⟨cl, 0, none⟩), .int .i64 who, .int .i64 p, .int .i64 most] w fun e w' => ∃ x L, e = .returned (.pointer (some ⟨x, 0, none⟩)) ∧ (tkCp who gl P T G p most cl).I w' x .ld L ∧ Below w.heap.size w w' ∧ (∀ k ∈ L, w.heap.size ≤ k) := by
  refine (take_new w cl who p most).mono ?_
  rintro e w' ⟨x, q, Lc, rfl, h1, h2, h3, h4, h5, h6⟩
  refine ⟨x, x :: (Lc ++ []), rfl, ⟨trivial, [], [], rfl, by simp, q, Lc, h1, h2, h3, (fun k _ h => by cases h), rfl⟩, h4, fun k hk => ?_⟩
  simp at hk
  rcases hk with rfl | hk
  · exact h6
  · exact h5 k hk
/-- Which one is taken, of a machine that is over. -/
theorem tk_g {gl : Int → Int} {w : World} {x : Nat} {L : List Nat} {l tl : Int} {f : PlT} {o : Option PlT} (h : (tkCp who gl P T G p most cl).I w x (.over l f o tl) L) :
    Calls Tryz.prog 32 #[.pointer (some ⟨x, 0, none⟩)] w fun e w' => e = .returned (.int .i64 f.obs) ∧ w = w' := by
  obtain ⟨hok, es, Le, he, hxe, h⟩ := h
  obtain ⟨hb, -⟩ := h
  cases o with
  | none => exact take_g w x cl who p most l tl f.obs none _ none hb (pl_g he)
  | some o =>
    obtain ⟨Lf, Lo, h1, h2, -⟩ := he
    exact take_g w x cl who p most l tl f.obs none _ _ hb (pl_g h1)
end
end Go.Proofs.YthhlklfioipmgaaGreat

namespace Go.Proofs.YthhlklfioipmgaaGreat
open Go Go.RowKit
set_option linter.unusedVariables false
set_option maxRecDepth 100000
set_option linter.unusedSimpArgs false

theorem mny_any (h t : Int) (w : World) (hh : 0 ≤ h ∧ h ≤ 18446744073709551615) (ht : 0 ≤ t ∧ t ≤ 18446744073709551615) :
    Calls Tryz.prog 138 #[.int .u64 h, .int .u64 t] w fun e w' => e = .returned (.int .u64 ((t - h) % 4294967296)) ∧ w = w' := by
  have e1 : IntKind.u64.wrap (t - h) = (t - h) % 18446744073709551616 := by simp [IntKind.wrap, IntKind.bits, IntKind.signed]
  have hb : 0 ≤ (t - h) % 18446744073709551616 := Int.emod_nonneg _ (by omega)
  have e2 : Int.tmod ((t - h) % 18446744073709551616) 4294967296 = (t - h) % 4294967296 := by
    rw [Int.tmod_eq_emod_of_nonneg hb]
    omega
  have e3 : IntKind.u64.wrap ((t - h) % 4294967296) = (t - h) % 4294967296 := wrap_u64 (by omega)
  go_enter Tryz.func138, Tryz.ntmps138
  go_wp2_with fail
  go_ret
  first
    | exact ⟨rfl, rfl⟩
    | exact ⟨by rw [e1, e2, e3], rfl⟩
    | exact ⟨by rw [e1, e2], rfl⟩

theorem lprc_any (o : Option Addr) (P T G n f : Int) (w : World) (h : LayO w P T G o) (hp : 0 ≤ P ∧ P ≤ 64) (hf : 0 ≤ f ∧ f < 8) : Calls Tryz.prog 137 #[.pointer o, .int .i64 n, .int .i64 f] w fun e w' => e = .returned (.int .i64 (wd 20 P 264 n f)) ∧ Below w.heap.size w w' := by
  have HL : Hid _ := h
  have d1 : decide (8 ≤ f) = false := decide_eq_false (by omega)
  clear h
  go_enter Tryz.func137, Tryz.ntmps137
  go_wp2_with fail
  go_at_call 139; refine (procs_any o P T G _ HL.out).mono ?_; rintro e w1 ⟨rfl, h1⟩
  go_wp2_with fail
  go_at_call 112; refine (word_any 20 P 264 n f _ (by omega) (by omega) (by omega)).mono ?_; rintro e w2 ⟨rfl, h2⟩
  have hb := seq h1 h2
  go_wp2_with fail
  go_ret
  exact ⟨rfl, hb⟩

theorem lrng_any (o : Option Addr) (P T G n i : Int) (w : World) (h : LayO w P T G o) (hp : 0 ≤ P ∧ P ≤ 64) (hi : 0 ≤ i ∧ i ≤ 18446744073709551615) : Calls Tryz.prog 95 #[.pointer o, .int .i64 n, .int .u64 i] w fun e w' => e = .returned (.int .i64 (wd 20 P 264 n (8 + i % 256))) ∧ Below w.heap.size w w' := by
  have HL : Hid _ := h
  have e1 : i.tmod 256 = i % 256 := Int.tmod_eq_emod_of_nonneg (by omega)
  generalize hz : i % 256 = z at *
  have e2 : IntKind.i64.wrap z = z := by simp [IntKind.wrap, IntKind.bits, IntKind.signed]; omega
  have e3 : IntKind.i64.wrap (8 + z) = 8 + z := by simp [IntKind.wrap, IntKind.bits, IntKind.signed]; omega
  have hzb : 0 ≤ z ∧ z < 256 := by omega
  clear h hz hi
  go_enter Tryz.func95, Tryz.ntmps95
  go_wp2_with fail
  go_at_call 139; refine (procs_any o P T G _ HL.out).mono ?_; rintro e w1 ⟨rfl, h1⟩
  go_wp2_with fail
  go_at_call 112; refine (word_any 20 P 264 n (8 + z) _ (by omega) (by omega) (by omega)).mono ?_; rintro e w2 ⟨rfl, h2⟩
  have hb := seq h1 h2
  go_wp2_with fail
  go_ret
  exact ⟨rfl, hb⟩


end Go.Proofs.YthhlklfioipmgaaGreat

namespace Go.Proofs.YthhlklfioipmgaaGreat
open Go Go.RowKit Go.Maps
set_option linter.unusedVariables false
set_option maxRecDepth 100000
set_option linter.unusedSimpArgs false

theorem rsf_bd {w : World} {T : TypeId} {A : Option Addr} {cap c b n : Nat} {s : St} (h : Is w T A cap c b n s) (i : Int) : 0 ≤ peekT n s i ∧ peekT n s i ≤ 18446744073709551615 := by
  unfold peekT
  split
  · exact h.bd _ (by omega)
  · omega
theorem rsee_any (w : World) (cl : Nat) (P T G p : Int) (A : Option Addr) (cap c b n : Nat) (s : St) (hL : Lay w cl P T G) (hp : 0 ≤ P ∧ P ≤ 64) (hI : Is w 136 A cap c b n s) (hn : n ≤ 1000000) :
    Calls Tryz.prog 94 #[.pointer (some ⟨cl, 0, none⟩), .pointer (some ⟨c, 0, none⟩), .int .i64 p] w fun e w' => e = .returned (.tuple #[.int .u64 (peekT n s (wd 20 P 264 p 1)), .int .u64 ((peekT n s (wd 20 P 264 p 2) - peekT n s (wd 20 P 264 p 1)) % 4294967296), .int .u64 (peekT n s (wd 20 P 264 p 3))]) ∧ Below w.heap.size w w' := by
  have h1 := fun Y (hY : Lay Y cl P T G) => lprc_any (some ⟨cl, 0, none⟩) P T G p 1 Y (.some cl hY) hp (by omega)
  have h2 := fun Y (hY : Lay Y cl P T G) => lprc_any (some ⟨cl, 0, none⟩) P T G p 2 Y (.some cl hY) hp (by omega)
  have h3 := fun Y (hY : Lay Y cl P T G) => lprc_any (some ⟨cl, 0, none⟩) P T G p 3 Y (.some cl hY) hp (by omega)
  have HL : Hid (∀ Y, Below w.heap.size w Y → Lay Y cl P T G) := fun Y hY => hL.below hY hL.lt
  have HI : Hid (∀ Y, Below w.heap.size w Y → Is Y 136 A cap c b n s) := fun Y hY => hI.below hY
  have b1 := rsf_bd hI (wd 20 P 264 p 1)
  have b2 := rsf_bd hI (wd 20 P 264 p 2)
  generalize wd 20 P 264 p 1 = i1 at *
  generalize wd 20 P 264 p 2 = i2 at *
  generalize wd 20 P 264 p 3 = i3 at *
  have hM := fun w => mny_any (peekT n s i1) (peekT n s i2) w b1 b2
  have P1 := fun Y (h : Is Y 136 A cap c b n s) => peek_any Y A cap c b n s i1 h hn
  have P2 := fun Y (h : Is Y 136 A cap c b n s) => peek_any Y A cap c b n s i2 h hn
  have P3 := fun Y (h : Is Y 136 A cap c b n s) => peek_any Y A cap c b n s i3 h hn
  clear hL hI b1 b2
  generalize peekT n s i1 = v1 at *
  generalize peekT n s i2 = v2 at *
  generalize peekT n s i3 = v3 at *
  go_enter Tryz.func94, Tryz.ntmps94
  go_wp2_with fail
  go_at_call 137; refine (h1 w (HL.out w (Below.refl _ _))).mono ?_; rintro e w1 ⟨rfl, k1⟩
  go_wp2_with fail
  go_at_call 38; refine (P1 w1 (HI.out w1 k1)).mono ?_; rintro e w2 ⟨rfl, rfl⟩
  go_wp2_with fail
  go_at_call 137; refine (h2 w1 (HL.out w1 k1)).mono ?_; rintro e w3 ⟨rfl, k3⟩
  have k3' := seq k1 k3
  go_wp2_with fail
  go_at_call 38; refine (P2 w3 (HI.out w3 k3')).mono ?_; rintro e w4 ⟨rfl, rfl⟩
  go_wp2_with fail
  go_at_call 137; refine (h3 w3 (HL.out w3 k3')).mono ?_; rintro e w5 ⟨rfl, k5⟩
  have k5' := seq k3' k5
  go_wp2_with fail
  go_at_call 38; refine (P3 w5 (HI.out w5 k5')).mono ?_; rintro e w6 ⟨rfl, rfl⟩
  go_wp2_with fail
  go_at_call 138; refine (hM w5).mono ?_; rintro e w7 ⟨rfl, rfl⟩
  clear h1 h2 h3 P1 P2 P3 hM
  go_wp2_with fail
  go_returns
  exact ⟨rfl, k5'⟩

/-- A list of words that the call made. -/
structure WordsOn (w : World) (base : Nat) (v : Value) (l : List Int) : Prop where
  own : w.ownsRow base 39 1 v l.length (l.map (Value.int .u64))
theorem WordsOn.below {w w' : World} {base : Nat} {v : Value} {l : List Int} (h : WordsOn w base v l) (hB : Below w.heap.size w w') : WordsOn w' base v l := by
  refine ⟨h.own.1, ?_⟩
  rcases h.own.2 with h0 | ⟨gb, cp, cur, e0, hb, hh, rest⟩
  · exact .inl h0
  · exact .inr ⟨gb, cp, cur, e0, hb, ((But.of_below (l := []) hB).block gb (block_lt hh) (by simp)).trans hh, rest⟩
theorem make_cap (k : Nat) (hk : k ≤ 1000000) (w : World) : (Instr.makeSlice 38 (.int .i64 0) (.int .u64 k)).run Tryz.prog w = .ok (.slice (some ⟨w.heap.size, 0, none⟩) 0 k) (w.alloc (.cells (zs k) 39)) := by
  obtain ⟨i0, hi, hz0, hz1, hz2⟩ := info_parts info39
  have := run_make (P := Tryz.prog) w 38 39 i0 (.int .u64 0) Tryz.underlying38 hi hz0 .i64 .u64 0 k (by omega) (by omega) (by rw [hz2]; omega) (by omega)
  rw [hz1] at this
  simpa [zs, Value.cells] using this
/-- The word at one place of a ring. -/
def rwAt (P p : Int) (n : Nat) (s : St) (h : Int) (i : Nat) : Int := peekT n s (wd 20 P 264 p (8 + IntKind.u64.wrap (h + i) % 256))
def rwL (P p : Int) (n : Nat) (s : St) (h : Int) (k : Nat) : List Int := (List.range k).map (rwAt P p n s h)
theorem rwL_succ (P p : Int) (n : Nat) (s : St) (h : Int) (k : Nat) : rwL P p n s h (k + 1) = rwL P p n s h k ++ [rwAt P p n s h k] := by unfold rwL; rw [List.range_succ, List.map_append]; rfl
theorem rwL_len (P p : Int) (n : Nat) (s : St) (h : Int) (k : Nat) : (rwL P p n s h k).length = k := by unfold rwL; simp
def rMany (P p : Int) (n : Nat) (s : St) : Int := (peekT n s (wd 20 P 264 p 2) - peekT n s (wd 20 P 264 p 1)) % 4294967296
def rK (P p : Int) (n : Nat) (s : St) : Nat := if rMany P p n s ≤ 256 then (rMany P p n s).toNat else 256
set_option maxHeartbeats 4000000 in
theorem rwords_any (w : World) (cl : Nat) (P T G p : Int) (A : Option Addr) (cap c b n : Nat) (s : St) (hL : Lay w cl P T G) (hp : 0 ≤ P ∧ P ≤ 64) (hI : Is w 136 A cap c b n s) (hn : n ≤ 1000000) :
    Calls Tryz.prog 35 #[.pointer (some ⟨cl, 0, none⟩), .pointer (some ⟨c, 0, none⟩), .int .i64 p] w fun e w' => ∃ v, e = .returned (.tuple #[v, .int .u64 (peekT n s (wd 20 P 264 p 3))]) ∧ WordsOn w' w.heap.size v (rwL P p n s (peekT n s (wd 20 P 264 p 1)) (rK P p n s)) ∧ Below w.heap.size w w' := by
  obtain ⟨i0, hi, hz0, hz1, hz2⟩ := info_parts info39
  have hS := rsee_any w cl P T G p A cap c b n s hL hp hI hn
  have HL : Hid (∀ Y, Below w.heap.size w Y → Lay Y cl P T G) := fun Y hY => hL.below hY hL.lt
  have HI : Hid (∀ Y, Below w.heap.size w Y → Is Y 136 A cap c b n s) := fun Y hY => hI.below hY
  have HRG : Hid (∀ Y, Below w.heap.size w Y → ∀ i, 0 ≤ i ∧ i ≤ 18446744073709551615 → Calls Tryz.prog 95 #[.pointer (some ⟨cl, 0, none⟩), .int .i64 p, .int .u64 i] Y fun e w' => e = .returned (.int .i64 (wd 20 P 264 p (8 + i % 256))) ∧ Below Y.heap.size Y w') := fun Y hY i hi => lrng_any (some ⟨cl, 0, none⟩) P T G p i Y (.some cl (HL.out Y hY)) hp hi
  have HPK : Hid (∀ Y, Below w.heap.size w Y → ∀ i, Calls Tryz.prog 38 #[.pointer (some ⟨c, 0, none⟩), .int .i64 i] Y fun e w' => e = .returned (.tuple #[.int .u64 (peekT n s i), .bool (decide (0 ≤ i ∧ i < n))]) ∧ Y = w') := fun Y hY i => peek_any Y A cap c b n s i (HI.out Y hY) hn
  have hmk := fun k (hk : k ≤ 256) w => make_cap k (by omega) w
  have HK : Hid ((rK P p n s : Int) = if rMany P p n s ≤ 256 then rMany P p n s else 256) := by
    have h0 : 0 ≤ rMany P p n s := Int.emod_nonneg _ (by omega)
    show ((rK P p n s : Nat) : Int) = _
    unfold rK
    split <;> omega
  have HKB : Hid (rK P p n s ≤ 256) := by
    have h0 : 0 ≤ rMany P p n s := Int.emod_nonneg _ (by omega)
    show rK P p n s ≤ 256
    unfold rK
    split <;> omega
  rw [show (peekT n s (wd 20 P 264 p 2) - peekT n s (wd 20 P 264 p 1)) % 4294967296 = rMany P p n s from rfl] at hS
  generalize peekT n s (wd 20 P 264 p 1) = hh at *
  generalize peekT n s (wd 20 P 264 p 3) = nn at *
  generalize rMany P p n s = mm at *
  generalize rK P p n s = k at *
  clear hL hI
  go_enter Tryz.func35, Tryz.ntmps35
  go_wp2_with fail
  go_at_call 94; refine hS.mono ?_; rintro e w1 ⟨rfl, h1⟩
  have HB1 : Hid (Below w.heap.size w w1) := h1
  clear hS h1
  by_cases hm : mm ≤ 256
  · obtain rfl : mm = (k : Int) := by have := HK.out; rw [if_pos hm] at this; exact this.symm
    have hd : decide (256 < (k : Int)) = false := decide_eq_false (by omega)
    have hmk2 := hmk k HKB.out w1
    go_wp2_with fail
    have hB2 : Below w.heap.size w (w1.alloc (.cells (zs k) 39)) := HB1.out.trans (((Below.refl _ _).alloc (Nat.le_refl _) _).mono HB1.out.size)
    have HR0 : Hid (WordsOn (w1.alloc (.cells (zs k) 39)) w.heap.size (.slice (some ⟨w1.heap.size, 0, none⟩) 0 k) (rwL P p n s hh 0)) := ⟨World.ownsRow_made w1 (zs k) k HB1.out.size (by unfold maxLen; omega) (by rw [Nat.mul_one]; exact size_madeCells _ _)⟩
    have HB2 : Hid (Below w.heap.size w (w1.alloc (.cells (zs k) 39))) := hB2
    generalize w1.alloc (.cells (zs k) 39) = w2 at *
    clear hmk2 hB2 HB1
    go_loopw [11, 28] (fun vv i wr => ∃ (j : Nat) (v : Value), v = vv ∧ j ≤ k ∧ i = .int .u64 j ∧ Hid (WordsOn wr w.heap.size v (rwL P p n s hh j)) ∧ Hid (Below w.heap.size w wr)) (fun vv i _ => k - (intOf i).toNat)
    case atStart => exact ⟨0, _, rfl, Nat.zero_le _, rfl, HR0, HB2⟩
    case round =>
      clear HR0 HB2
      obtain ⟨j, v, rfl, hj, rfl, HV, HB⟩ := hrel
      by_cases hlt : j < k
      · have hk1 : (j : Int) < (k : Int) := by omega
        have hk2 : decide ((j : Int) < (k : Int)) = true := decide_eq_true (by omega)
        obtain ⟨z, hz⟩ : ∃ z, IntKind.u64.wrap (hh + j) = z := ⟨_, rfl⟩
        have hzb : 0 ≤ z ∧ z ≤ 18446744073709551615 := by rw [← hz]; generalize hh + (j : Int) = y; simp [IntKind.wrap, IntKind.bits, IntKind.signed]; omega
        have hR := HRG.out wr HB.out z hzb
        have HX : Hid (rwAt P p n s hh j = peekT n s (wd 20 P 264 p (8 + z % 256))) := by
          show rwAt P p n s hh j = _
          unfold rwAt
          rw [hz]
        go_wp2_with fail
        go_at_call 95; refine hR.mono ?_; rintro e w3 ⟨rfl, h3⟩
        have HB3 : Hid (Below w.heap.size w w3) := seq HB.out h3
        have hP := HPK.out w3 HB3.out (wd 20 P 264 p (8 + z % 256))
        have HV3 : Hid (WordsOn w3 w.heap.size v (rwL P p n s hh j)) := HV.out.below h3
        generalize decide (0 ≤ wd 20 P 264 p (8 + z % 256) ∧ wd 20 P 264 p (8 + z % 256) < n) = zz at *
        rw [← HX.out] at hP
        generalize wd 20 P 264 p (8 + z % 256) = at' at *
        generalize hgw : rwAt P p n s hh j = gv at *
        have HGW : Hid (rwAt P p n s hh j = gv) := hgw
        clear hR h3 HB HV hgw
        go_wp2_with fail
        go_at_call 38; refine hP.mono ?_; rintro e w4 ⟨rfl, rfl⟩
        have hOO := HV3.out.own
        rw [rwL_len] at hOO
        have hsz := HB3.out.size
        clear hP
        go_wp2_with (at_builtin; refine wpList_append_own _ rfl _ _ 38 rfl w.heap.size 39 i0 (.int .u64 0) 1 8 Tryz.underlying38 hi hz0 hz1 hz2 rfl (by decide) _ _ _ rfl (hOO.alloc _) ⟨w3.heap.size, 0, none⟩ 1 1 [.int .u64 gv] rfl rfl (cell_one_new _ _ _) (ints_oneCell .u64 [gv]) (by unfold maxLen; omega) (by omega) (by simp; omega) ?_; intro v' w5 hown' hgrow2 hnil2)
        have HB5 : Hid (Below w.heap.size w w5) := (HB3.out.alloc HB3.out.size _).grown hgrow2 (by simp; omega) (fun k hk => (hOO.lt k hk).1)
        have HV5 : Hid (WordsOn w5 w.heap.size v' (rwL P p n s hh (j + 1))) := ⟨by
          rw [rwL_len, rwL_succ, List.map_append, HGW.out]
          exact hown'⟩
        have e1 : IntKind.u64.wrap ((j : Int) + 1) = (j : Int) + 1 := wrap_u64 (by omega)
        clear hown' hgrow2 hnil2 hOO
        go_wp2_with fail
        go_roundw
        case rel => exact ⟨j + 1, v', rfl, by omega, by go_num, HV5, HB5⟩
        case measure => simp [intOf]; omega
      · obtain rfl : j = k := by omega
        have hk2 : decide ((j : Int) < (j : Int)) = false := by simp
        have HF : Hid (WordsOn wr w.heap.size v (rwL P p n s hh j)) := HV.out
        have HBF : Hid _ := HB.out
        clear HV HB
        go_wp2_with fail
        go_returns
        exact ⟨v, rfl, HF.out, HBF.out⟩
  · obtain rfl : k = 256 := by have := HK.out; rw [if_neg hm] at this; omega
    have hd : decide (256 < mm) = true := decide_eq_true (by omega)
    have hmk2 : (Instr.makeSlice 38 (.int .i64 0) (.int .u64 256)).run Tryz.prog w1 = .ok (.slice (some ⟨w1.heap.size, 0, none⟩) 0 256) (w1.alloc (.cells (zs 256) 39)) := hmk 256 HKB.out w1
    go_wp2_with fail
    have hB2 : Below w.heap.size w (w1.alloc (.cells (zs 256) 39)) := HB1.out.trans (((Below.refl _ _).alloc (Nat.le_refl _) _).mono HB1.out.size)
    have HR0 : Hid (WordsOn (w1.alloc (.cells (zs 256) 39)) w.heap.size (.slice (some ⟨w1.heap.size, 0, none⟩) 0 256) (rwL P p n s hh 0)) := ⟨World.ownsRow_made w1 (zs 256) 256 HB1.out.size (by unfold maxLen; omega) (by rw [Nat.mul_one]; exact size_madeCells _ _)⟩
    have HB2 : Hid (Below w.heap.size w (w1.alloc (.cells (zs 256) 39))) := hB2
    generalize w1.alloc (.cells (zs 256) 39) = w2 at *
    clear hmk2 hB2 HB1
    go_loopw [11, 28] (fun vv i wr => ∃ (j : Nat) (v : Value), v = vv ∧ j ≤ 256 ∧ i = .int .u64 j ∧ Hid (WordsOn wr w.heap.size v (rwL P p n s hh j)) ∧ Hid (Below w.heap.size w wr)) (fun vv i _ => 256 - (intOf i).toNat)
    case atStart => exact ⟨0, _, rfl, Nat.zero_le _, rfl, HR0, HB2⟩
    case round =>
      clear HR0 HB2
      obtain ⟨j, v, rfl, hj, rfl, HV, HB⟩ := hrel
      by_cases hlt : j < 256
      · have hk1 : (j : Int) < (256 : Int) := by omega
        have hk2 : decide ((j : Int) < 256) = true := decide_eq_true (by omega)
        obtain ⟨z, hz⟩ : ∃ z, IntKind.u64.wrap (hh + j) = z := ⟨_, rfl⟩
        have hzb : 0 ≤ z ∧ z ≤ 18446744073709551615 := by rw [← hz]; generalize hh + (j : Int) = y; simp [IntKind.wrap, IntKind.bits, IntKind.signed]; omega
        have hR := HRG.out wr HB.out z hzb
        have HX : Hid (rwAt P p n s hh j = peekT n s (wd 20 P 264 p (8 + z % 256))) := by
          show rwAt P p n s hh j = _
          unfold rwAt
          rw [hz]
        go_wp2_with fail
        go_at_call 95; refine hR.mono ?_; rintro e w3 ⟨rfl, h3⟩
        have HB3 : Hid (Below w.heap.size w w3) := seq HB.out h3
        have hP := HPK.out w3 HB3.out (wd 20 P 264 p (8 + z % 256))
        have HV3 : Hid (WordsOn w3 w.heap.size v (rwL P p n s hh j)) := HV.out.below h3
        generalize decide (0 ≤ wd 20 P 264 p (8 + z % 256) ∧ wd 20 P 264 p (8 + z % 256) < n) = zz at *
        rw [← HX.out] at hP
        generalize wd 20 P 264 p (8 + z % 256) = at' at *
        generalize hgw : rwAt P p n s hh j = gv at *
        have HGW : Hid (rwAt P p n s hh j = gv) := hgw
        clear hR h3 HB HV hgw
        go_wp2_with fail
        go_at_call 38; refine hP.mono ?_; rintro e w4 ⟨rfl, rfl⟩
        have hOO := HV3.out.own
        rw [rwL_len] at hOO
        have hsz := HB3.out.size
        clear hP
        go_wp2_with (at_builtin; refine wpList_append_own _ rfl _ _ 38 rfl w.heap.size 39 i0 (.int .u64 0) 1 8 Tryz.underlying38 hi hz0 hz1 hz2 rfl (by decide) _ _ _ rfl (hOO.alloc _) ⟨w3.heap.size, 0, none⟩ 1 1 [.int .u64 gv] rfl rfl (cell_one_new _ _ _) (ints_oneCell .u64 [gv]) (by unfold maxLen; omega) (by omega) (by simp; omega) ?_; intro v' w5 hown' hgrow2 hnil2)
        have HB5 : Hid (Below w.heap.size w w5) := (HB3.out.alloc HB3.out.size _).grown hgrow2 (by simp; omega) (fun k hk => (hOO.lt k hk).1)
        have HV5 : Hid (WordsOn w5 w.heap.size v' (rwL P p n s hh (j + 1))) := ⟨by
          rw [rwL_len, rwL_succ, List.map_append, HGW.out]
          exact hown'⟩
        have e1 : IntKind.u64.wrap ((j : Int) + 1) = (j : Int) + 1 := wrap_u64 (by omega)
        clear hown' hgrow2 hnil2 hOO
        go_wp2_with fail
        go_roundw
        case rel => exact ⟨j + 1, v', rfl, by omega, by go_num, HV5, HB5⟩
        case measure => simp [intOf]; omega
      · obtain rfl : j = 256 := by omega
        have hk2 : decide (((256 : Nat) : Int) < 256) = false := by decide
        have HF : Hid (WordsOn wr w.heap.size v (rwL P p n s hh 256)) := HV.out
        have HBF : Hid _ := HB.out
        clear HV HB
        go_wp2_with fail
        go_returns
        exact ⟨v, rfl, HF.out, HBF.out⟩
end Go.Proofs.YthhlklfioipmgaaGreat

namespace Go.Proofs.YthhlklfioipmgaaGreat
open Go Go.RowKit Go.Maps
set_option linter.unusedVariables false
set_option maxRecDepth 100000
set_option linter.unusedSimpArgs false

namespace RI
/-- A list of ints that the call made. -/
structure IntsOn (w : World) (base : Nat) (v : Value) (l : List Int) : Prop where
  own : w.ownsRow base 3 1 v l.length (l.map (Value.int .i64))
theorem lists_info3 : (Tryz.prog.info? 3).map (fun i => (i.zero, i.size, i.bytes)) = some (some (.int .i64 0), 1, 8) := by kernel_rfl
theorem row_but {w w' : World} {base : Nat} {e : TypeId} {size : Nat} {v : Value} {n : Nat} {xs : List Value} {l : List Nat} (h : w.ownsRow base e size v n xs) (hB : But l w w') (hl : ∀ b ∈ l, b < base) : w'.ownsRow base e size v n xs := by
  refine ⟨h.1, ?_⟩
  rcases h.2 with h0 | ⟨gb, cp, cur, e0, hb, hh, rest⟩
  · exact .inl h0
  · exact .inr ⟨gb, cp, cur, e0, hb, (hB.block gb (block_lt hh) (fun hm => absurd (hl gb hm) (by omega))).trans hh, rest⟩
theorem row_below {w w' : World} {base : Nat} {e : TypeId} {size : Nat} {v : Value} {n : Nat} {xs : List Value} (h : w.ownsRow base e size v n xs) (hB : Below w.heap.size w w') : w'.ownsRow base e size v n xs := row_but h (But.of_below (l := []) hB) (fun b hb => by cases hb)
theorem lists_slice {w : World} {base : Nat} {e : TypeId} {size : Nat} {v : Value} {n : Nat} {xs : List Value} (h : w.ownsRow base e size v n xs) : ∃ A cap, v = .slice A n cap := by
  rcases h.2 with ⟨e0, h0⟩ | ⟨gb, cp, cur, e0, hb, hh, rest⟩
  · subst h0; exact ⟨none, 0, e0⟩
  · exact ⟨_, _, e0⟩
theorem IntsOn.cell {w : World} {base : Nat} {v : Value} {l : List Int} (h : IntsOn w base v l) {j : Nat} (hj : j < l.length) : ∃ gb cap, v = .slice (some ⟨gb, 0, none⟩) l.length cap ∧ w.cell? ⟨gb, j, none⟩ = some (.int .i64 (l.getD j 0)) := by
  rcases h.own.2 with ⟨e, h0⟩ | ⟨gb, cp, cur, e, hb, hh, hnc, hcm, hcs, htk⟩
  · omega
  · subst e
    refine ⟨gb, cp, rfl, ?_⟩
    have hc := h.own.cellAt j (by omega)
    rw [List.getElem?_map, List.getElem?_eq_getElem hj] at hc
    rw [List.getD_eq_getElem?_getD, List.getElem?_eq_getElem hj]
    exact hc
/-- A slice of ints, seen in memory. -/
def SeesL (w : World) (v : Value) (l : List Int) : Prop := ∃ A cap, v = .slice A l.length cap ∧ (A = none → l.length = 0 ∧ cap = 0) ∧ (0 < l.length → ∃ b off : Nat, A = some ⟨b, off, none⟩ ∧ b < w.heap.size ∧ ∀ j, j < l.length → w.cell? ⟨b, off + j, none⟩ = some (.int .i64 (l.getD j 0)))
theorem SeesL.below {w w' : World} {v : Value} {l : List Int} (h : SeesL w v l) (hb : Below w.heap.size w w') : SeesL w' v l := by
  obtain ⟨A, cap, e, h1, h2⟩ := h
  refine ⟨A, cap, e, h1, fun hn => ?_⟩
  obtain ⟨b, off, e1, h3, h4⟩ := h2 hn
  exact ⟨b, off, e1, Nat.lt_of_lt_of_le h3 hb.size, fun j hj => (hb.cell (p := ⟨b, off + j, none⟩) h3).trans (h4 j hj)⟩
theorem IntsOn.sees {w : World} {base : Nat} {v : Value} {l : List Int} (h : IntsOn w base v l) : SeesL w v l := by
  by_cases h0 : 0 < l.length
  · obtain ⟨gb, cap, e, -⟩ := h.cell h0
    refine ⟨_, cap, e, (fun h => by cases h), fun hn => ⟨gb, 0, rfl, ?_, fun j hj => ?_⟩⟩
    · obtain ⟨gb', cap', e', hc⟩ := h.cell hn
      rw [e] at e'; cases e'
      exact cell_lt hc
    · obtain ⟨gb', cap', e', hc⟩ := h.cell hj
      rw [e] at e'; cases e'
      rw [Nat.zero_add]; exact hc
  · rcases h.own.2 with ⟨e, h1⟩ | ⟨gb, cp, cur, e, -⟩
    · exact ⟨none, 0, by rw [e, h1], fun _ => ⟨h1, rfl⟩, fun h => absurd h h0⟩
    · exact ⟨_, cp, e, (fun h => by cases h), fun h => absurd h h0⟩

theorem lsame_any (w : World) (v v' : Value) (l : List Int) (hn : l.length ≤ 1000000) (h : SeesL w v l) (h' : SeesL w v' l) :
    Calls Tryz.prog 16 #[v, v'] w fun e w' => e = .returned (.bool true) ∧ Below w.heap.size w w' := by
  obtain ⟨A, cap, rfl, -, h2⟩ := h
  obtain ⟨A', cap', rfl, -, h2'⟩ := h'
  have H : Hid (0 < l.length → ∃ b off : Nat, A = some ⟨b, off, none⟩ ∧ b < w.heap.size ∧ ∀ j, j < l.length → w.cell? ⟨b, off + j, none⟩ = some (.int .i64 (l.getD j 0))) := h2
  have H' : Hid (0 < l.length → ∃ b off : Nat, A' = some ⟨b, off, none⟩ ∧ b < w.heap.size ∧ ∀ j, j < l.length → w.cell? ⟨b, off + j, none⟩ = some (.int .i64 (l.getD j 0))) := h2'
  clear h2 h2'
  have HF : Hid (∃ (f : Nat → Int) (n : Nat), (fun j => l.getD j 0) = f ∧ l.length = n) := ⟨_, _, rfl, rfl⟩
  obtain ⟨f, n, hf, hl⟩ := HF.out
  have hfe : ∀ j, l.getD j 0 = f j := fun j => congrFun hf j
  simp only [hfe] at H H'
  rw [hl] at H H' hn ⊢
  clear HF hf hl hfe
  go_enter Tryz.func16, Tryz.ntmps16
  go_wp2_with fail
  go_loopw [5] (fun i wr => ∃ k m : Nat, k ≤ n ∧ i = .int .i64 k ∧ wr = w.drewN m) (fun i _ => n - (intOf i).toNat)
  case atStart => exact ⟨0, 0, Nat.zero_le _, rfl, rfl⟩
  case round =>
    obtain ⟨k, m, hk, rfl, rfl⟩ := hrel
    by_cases hlt : k < n
    · obtain ⟨b, off, rfl, hbB, hcell⟩ := H.out (by omega)
      obtain ⟨b', off', rfl, hbB', hcell'⟩ := H'.out (by omega)
      have e0 : w.cell? ⟨b, off + k, none⟩ = some (.int .i64 (f k)) := hcell k hlt
      have e1 : w.cell? ⟨b', off' + k, none⟩ = some (.int .i64 (f k)) := hcell' k hlt
      clear hcell hcell'
      generalize f k = x at e0 e1
      go_wp2_with fail
      go_quiet (fail)
      go_wp2_with fail
      go_roundw
      case rel => exact ⟨k + 1, _, by omega, by go_num, rfl⟩
      case measure => simp [intOf]; omega
    · obtain rfl : k = n := by omega
      go_wp2_with fail
      go_ret
      exact ⟨rfl, Below.drewN' (Below.refl _ _) m⟩
end RI
theorem But.grown {l : List Nat} {a w w' : World} {r : Option Nat} (h : But l a w) (hg : w.grownBy w' r) (hr : ∀ k, r = some k → k ∈ l ∨ a.heap.size ≤ k) : But l a w' :=
  ⟨hg.os.trans h.os, hg.tape.trans h.tape, hg.output.trans h.output, Nat.le_trans h.size hg.size, fun k hk hc => (hg.block k (Nat.lt_of_lt_of_le hk h.size) (fun e => by rcases hr k e.symm with h1 | h1; exact hc h1; omega)).trans (h.block k hk hc)⟩
def rowB (v : Value) : List Nat := match v.ownBlock with
  | some k => [k]
  | none => []
theorem rowB_mem {v : Value} {k : Nat} (h : v.ownBlock = some k) : k ∈ rowB v := by unfold rowB; rw [h]; simp
theorem mem_rowB {v : Value} {k : Nat} (h : k ∈ rowB v) : v.ownBlock = some k := by
  unfold rowB at h
  split at h
  · rename_i h'; simp at h; rw [h', h]
  · cases h
theorem RI.IntsOn.keep {w w' : World} {base : Nat} {v : Value} {l : List Int} {ll : List Nat} (h : RI.IntsOn w base v l) (hB : But ll w w') (hk : ∀ k ∈ rowB v, k ∉ ll) : RI.IntsOn w' base v l := by
  refine ⟨h.own.1, ?_⟩
  rcases h.own.2 with h0 | ⟨gb, cp, cur, e0, hb, hh, rest⟩
  · exact .inl h0
  · exact .inr ⟨gb, cp, cur, e0, hb, (hB.block gb (block_lt hh) (hk gb (rowB_mem (by rw [e0]; rfl)))).trans hh, rest⟩
theorem RI.IntsOn.up {w : World} {base : Nat} {v : Value} {l : List Int} (h : RI.IntsOn w base v l) : ∀ k ∈ rowB v, base ≤ k ∧ k < w.heap.size := fun k hk => h.own.lt k (mem_rowB hk)
/-- A list of ints that is only read. -/
def Rd.ints (base : Nat) (v : Value) (l : List Int) : Rd := ⟨rowB v, fun w => RI.IntsOn w base v l, fun w w' ll h hb hk => h.keep hb hk⟩
end Go.Proofs.YthhlklfioipmgaaGreat

namespace Go.Proofs.YthhlklfioipmgaaGreat
open Go Go.RowKit Go.Maps
set_option linter.unusedVariables false
set_option maxRecDepth 100000
set_option linter.unusedSimpArgs false

def gsOk (G w : Int) : Bool := decide (w ≠ 0 ∧ w ≤ G)
def gsL (G : Int) (l : List Int) : List Int := (l.filter (gsOk G)).map gw
def rwN (nx : Int) (l : List Int) : List Int := if nx = 0 then l else l ++ [nx]
theorem gsL_snoc (G : Int) (l : List Int) (x : Int) : gsL G (l ++ [x]) = if gsOk G x = true then gsL G l ++ [gw x] else gsL G l := by
  unfold gsL
  rw [List.filter_append]
  cases h : gsOk G x
  · simp [List.filter, h]
  · simp [List.filter, h]
theorem WordsOn.cell {w : World} {base : Nat} {v : Value} {l : List Int} (h : WordsOn w base v l) {j : Nat} (hj : j < l.length) : ∃ gb cap, v = .slice (some ⟨gb, 0, none⟩) l.length cap ∧ gb < w.heap.size ∧ w.cell? ⟨gb, j, none⟩ = some (.int .u64 (l.getD j 0)) := by
  rcases h.own.2 with ⟨e, h0⟩ | ⟨gb, cp, cur, e, hb, hh, hnc, hcm, hcs, htk⟩
  · omega
  · subst e
    refine ⟨gb, cp, rfl, block_lt hh, ?_⟩
    have hc := h.own.cellAt j (by omega)
    rw [List.getElem?_map, List.getElem?_eq_getElem hj] at hc
    rw [List.getD_eq_getElem?_getD, List.getElem?_eq_getElem hj]
    exact hc
theorem WordsOn.slice {w : World} {base : Nat} {v : Value} {l : List Int} (h : WordsOn w base v l) : ∃ A cap, v = .slice A l.length cap := by
  rcases h.own.2 with ⟨e0, h0⟩ | ⟨gb, cp, cur, e0, hb, hh, rest⟩
  · exact ⟨none, 0, by rw [e0, h0]⟩
  · exact ⟨_, _, e0⟩
theorem RI.IntsOn.mono {w : World} {base base' : Nat} {v : Value} {l : List Int} (h : RI.IntsOn w base v l) (hb : base' ≤ base) : RI.IntsOn w base' v l := by
  refine ⟨h.own.1, ?_⟩
  rcases h.own.2 with h0 | ⟨gb, cp, cur, e0, hb0, rest⟩
  · exact .inl h0
  · exact .inr ⟨gb, cp, cur, e0, Nat.le_trans hb hb0, rest⟩
/-- All goroutines that are seen, and whether all are some. -/
def rgsL (P G p : Int) (n : Nat) (s : St) : List Int := rwN (peekT n s (wd 20 P 264 p 3)) (rwL P p n s (peekT n s (wd 20 P 264 p 1)) (rK P p n s))
theorem rgsL_bd {w : World} {T : TypeId} {A : Option Addr} {cap c b n : Nat} {s : St} (hI : Is w T A cap c b n s) (P G p : Int) : ∀ x ∈ rgsL P G p n s, 0 ≤ x ∧ x ≤ 18446744073709551615 := by
  intro x hx
  unfold rgsL rwN at hx
  have h1 : ∀ x ∈ rwL P p n s (peekT n s (wd 20 P 264 p 1)) (rK P p n s), 0 ≤ x ∧ x ≤ 18446744073709551615 := by
    intro x hx
    unfold rwL at hx
    obtain ⟨i, -, rfl⟩ := List.mem_map.1 hx
    exact rsf_bd hI _
  split at hx
  · exact h1 x hx
  · rcases List.mem_append.1 hx with h | h
    · exact h1 x h
    · rw [List.mem_singleton.1 h]; exact rsf_bd hI _
theorem rK_le (P p : Int) (n : Nat) (s : St) : rK P p n s ≤ 256 := by
  have h0 : 0 ≤ rMany P p n s := Int.emod_nonneg _ (by omega)
  unfold rK
  split <;> omega

set_option maxHeartbeats 4000000 in
theorem rgs_any (w : World) (cl : Nat) (P T G p : Int) (A : Option Addr) (cap c b n : Nat) (s : St) (hL : Lay w cl P T G) (hp : 0 ≤ P ∧ P ≤ 64) (hG : 0 ≤ G ∧ G ≤ 65536) (hI : Is w 136 A cap c b n s) (hn : n ≤ 1000000) :
    Calls Tryz.prog 51 #[.pointer (some ⟨cl, 0, none⟩), .pointer (some ⟨c, 0, none⟩), .int .i64 p] w fun e w' => ∃ v, e = .returned (.tuple #[v, .bool (decide (rMany P p n s ≤ 256) && (rgsL P G p n s).all (gsOk G))]) ∧ RI.IntsOn w' w.heap.size v (gsL G (rgsL P G p n s)) ∧ Below w.heap.size w w' := by
  obtain ⟨i0, hi, hz0, hz1, hz2⟩ := info_parts info39
  obtain ⟨i3, hi3, hz03, hz13, hz23⟩ := info_parts RI.lists_info3
  have hS := rsee_any w cl P T G p A cap c b n s hL hp hI hn
  have HW : Hid (∀ Y, Below w.heap.size w Y → Calls Tryz.prog 35 #[.pointer (some ⟨cl, 0, none⟩), .pointer (some ⟨c, 0, none⟩), .int .i64 p] Y fun e w' => ∃ v, e = .returned (.tuple #[v, .int .u64 (peekT n s (wd 20 P 264 p 3))]) ∧ WordsOn w' Y.heap.size v (rwL P p n s (peekT n s (wd 20 P 264 p 1)) (rK P p n s)) ∧ Below Y.heap.size Y w') := fun Y hY => rwords_any Y cl P T G p A cap c b n s (hL.below hY hL.lt) hp (hI.below hY) hn
  have HC : Hid (∀ Y, Below w.heap.size w Y → Calls Tryz.prog 87 #[.pointer (some ⟨cl, 0, none⟩)] Y fun e w' => e = .returned (.agg #[.int .i64 P, .int .i64 T, .int .i64 G]) ∧ Below Y.heap.size Y w') := fun Y hY => config_any _ P T G Y (.some cl (hL.below hY hL.lt))
  have hfc := field_c2
  have HBD : Hid (∀ x ∈ rgsL P G p n s, 0 ≤ x ∧ x ≤ 18446744073709551615) := rgsL_bd hI P G p
  have hkl := rK_le P p n s
  have hll : (rwL P p n s (peekT n s (wd 20 P 264 p 1)) (rK P p n s)).length = rK P p n s := rwL_len _ _ _ _ _ _
  have hRL : rgsL P G p n s = rwN (peekT n s (wd 20 P 264 p 3)) (rwL P p n s (peekT n s (wd 20 P 264 p 1)) (rK P p n s)) := rfl
  rw [show (peekT n s (wd 20 P 264 p 2) - peekT n s (wd 20 P 264 p 1)) % 4294967296 = rMany P p n s from rfl] at hS
  generalize rwL P p n s (peekT n s (wd 20 P 264 p 1)) (rK P p n s) = l0 at *
  generalize peekT n s (wd 20 P 264 p 1) = hh at *
  generalize peekT n s (wd 20 P 264 p 3) = nn at *
  generalize rMany P p n s = mm at *
  generalize rgsL P G p n s = ll at *
  have e3 : IntKind.u64.wrap G = G := wrap_u64 (by omega)
  have HLL : Hid (l0.length ≤ 256 ∧ ll = rwN nn l0) := ⟨by omega, hRL⟩
  clear hL hI hkl hll hRL
  go_enter Tryz.func51, Tryz.ntmps51
  go_wp2_with fail
  go_at_call 94; refine hS.mono ?_; rintro e w1 ⟨rfl, h1⟩
  have HB1 : Hid (Below w.heap.size w w1) := h1
  have hW := HW.out w1 h1
  clear hS h1
  generalize hdm : decide (mm ≤ 256) = dm at *
  go_wp2_with fail
  go_at_call 35; refine hW.mono ?_; rintro e w2 ⟨v0, rfl, hv0, h2⟩
  have HV0 : Hid (WordsOn w2 w1.heap.size v0 l0) := hv0
  have HB2 : Hid (Below w.heap.size w w2) := seq HB1.out h2
  have hs12 : Hid (w.heap.size ≤ w1.heap.size ∧ w1.heap.size ≤ w2.heap.size) := ⟨HB1.out.size, h2.size⟩
  clear hW hv0 h2
  by_cases hn0 : nn = 0
  · subst hn0
    have HLE : Hid (ll = l0) := HLL.out.2.trans (if_pos rfl)
    obtain ⟨A0, cp0, rfl⟩ := HV0.out.slice
    have HVX : Hid (WordsOn w2 w1.heap.size (.slice A0 ll.length cp0) ll) := by rw [HLE.out]; exact HV0.out
    have hsX : Hid (w.heap.size ≤ w2.heap.size) := HB2.out.size
    have HBX : Hid (Below w.heap.size w w2) := HB2.out
    have HLN : Hid (ll.length ≤ 257) := (by rw [HLE.out]; have := HLL.out.1; omega : ll.length ≤ 257)
    have hll : (l0.length : Int) = (ll.length : Int) := by rw [HLE.out]
    rw [← HLE.out]
    go_wp2_with fail
    go_loopw [11, 14, 42] (fun rr gg i wr => ∃ (j : Nat) (g : Value), g = gg ∧ j ≤ ll.length ∧ i = .int .i64 j ∧ rr = .bool (dm && (ll.take j).all (gsOk G)) ∧ Hid (RI.IntsOn wr w2.heap.size g (gsL G (ll.take j))) ∧ Hid (Below w2.heap.size w2 wr)) (fun _ _ i _ => ll.length - (intOf i).toNat)
    case atStart => exact ⟨0, _, rfl, Nat.zero_le _, rfl, by simp, ⟨World.ownsRow_nil _ _ _ _⟩, Below.refl _ _⟩
    case round =>
      obtain ⟨j, g, rfl, hj, rfl, rfl, HV, HB⟩ := hrel
      have hln9 : ll.length ≤ 257 := HLN.out
      by_cases hlt : j < ll.length
      · obtain ⟨gb, cp, ea, hgb, hcell⟩ := HVX.out.cell hlt
        injection ea with ea1 ea2 ea3
        subst ea1
        have hk1 : (j : Int) < (ll.length : Int) := by omega
        have hk0 : (0 : Int) ≤ (j : Int) := by omega
        have hc := (HB.out.cell (p := ⟨gb, j, none⟩) hgb).trans hcell
        have HTK : Hid (ll.take (j + 1) = ll.take j ++ [ll.getD j 0]) := by
          show ll.take (j + 1) = _
          rw [List.take_add_one, List.getD_eq_getElem?_getD, List.getElem?_eq_getElem hlt]
          rfl
        have hxb := HBD.out (ll.getD j 0) (by rw [List.getD_eq_getElem?_getD, List.getElem?_eq_getElem hlt]; exact List.getElem_mem hlt)
        generalize ll.getD j 0 = x at *
        generalize hdq : (dm && (ll.take j).all (gsOk G)) = dq
        have HDQ : Hid ((dm && (ll.take j).all (gsOk G)) = dq) := hdq
        clear hcell hdq ea2 ea3
        by_cases h0 : x = 0
        · subst h0
          have HF : Hid ((dm && (ll.take (j + 1)).all (gsOk G)) = false ∧ gsL G (ll.take (j + 1)) = gsL G (ll.take j)) := by
            rw [HTK.out]
            have hk : gsOk G 0 = false := by simp [gsOk]
            exact ⟨by simp [hk], by rw [gsL_snoc, hk]; rfl⟩
          go_wp2_with fail
          go_roundw
          case rel => exact ⟨j + 1, g, rfl, by omega, by go_num, by rw [HF.out.1], (by rw [HF.out.2]; exact HV.out : RI.IntsOn _ _ _ _), HB⟩
          case measure => simp [intOf]; omega
        · have hd0 : (x == 0) = false := by simpa using h0
          have hC := HC.out wr (HBX.out.trans (HB.out.mono hsX.out))
          go_wp2_with fail
          go_at_call 87; refine hC.mono ?_; rintro e w7 ⟨rfl, h7⟩
          have HB7 : Hid (Below w2.heap.size w2 w7) := seq HB.out h7
          have HV7 : Hid (RI.IntsOn w7 w2.heap.size g (gsL G (ll.take j))) := HV.out.keep (But.of_below (l := []) h7) (fun k _ => by simp)
          clear hC h7 hc HV HB
          by_cases hgt : G < x
          · have hdg : decide (G < x) = true := decide_eq_true hgt
            have HF : Hid ((dm && (ll.take (j + 1)).all (gsOk G)) = false ∧ gsL G (ll.take (j + 1)) = gsL G (ll.take j)) := by
              rw [HTK.out]
              have hk : gsOk G x = false := by simp [gsOk]; omega
              exact ⟨by simp [hk], by rw [gsL_snoc, hk]; rfl⟩
            go_wp2_with fail
            go_roundw
            case rel => exact ⟨j + 1, g, rfl, by omega, by go_num, by rw [HF.out.1], (by rw [HF.out.2]; exact HV7.out : RI.IntsOn _ _ _ _), HB7⟩
            case measure => simp [intOf]; omega
          · have hdg : decide (G < x) = false := decide_eq_false hgt
            have HF : Hid ((dm && (ll.take (j + 1)).all (gsOk G)) = dq ∧ gsL G (ll.take (j + 1)) = gsL G (ll.take j) ++ [gw x]) := by
              rw [HTK.out]
              have hk : gsOk G x = true := by simp [gsOk]; omega
              exact ⟨by rw [← HDQ.out]; simp [hk], by rw [gsL_snoc, hk]; rfl⟩
            obtain ⟨y, hy⟩ : ∃ y, IntKind.u64.wrap (x - 1) = y := ⟨_, rfl⟩
            obtain ⟨gx, hgx⟩ : ∃ gx, IntKind.i64.wrap y = gx := ⟨_, rfl⟩
            have HGX : Hid (gw x = gx) := by
              show gw x = gx
              unfold gw; rw [hy, hgx]
            have hOO := HV7.out.own
            have hlj : (gsL G (ll.take j)).length ≤ 257 := by
              unfold gsL
              rw [List.length_map]
              refine Nat.le_trans (List.length_filter_le _ _) ?_
              rw [List.length_take]; have := HLN.out; omega
            have hsz7 := HB7.out.size
            generalize hln : (gsL G (ll.take j)).length = ln at *
            have HLJ : Hid ((gsL G (ll.take j)).length = ln) := hln
            clear hln
            go_wp2_with (at_builtin; refine wpList_append_own _ rfl _ _ 27 rfl w2.heap.size 3 i3 (.int .i64 0) 1 8 Tryz.underlying27 hi3 hz03 hz13 hz23 rfl (by decide) _ _ _ rfl (hOO.alloc _) ⟨w7.heap.size, 0, none⟩ 1 1 [.int .i64 gx] rfl rfl (cell_one_new _ _ _) (ints_oneCell .i64 [gx]) (by unfold maxLen; omega) (by omega) (by simp; omega) ?_; intro v' w9 hown' hgrow2 hnil2)
            have HB9 : Hid (Below w2.heap.size w2 w9) := (HB7.out.alloc HB7.out.size _).grown hgrow2 (by simp; omega) (fun k hk => (hOO.lt k hk).1)
            have HV9 : Hid (RI.IntsOn w9 w2.heap.size v' (gsL G (ll.take (j + 1)))) := ⟨by
              rw [HF.out.2, List.map_append, List.length_append, HLJ.out, HGX.out]
              exact hown'⟩
            clear hown' hgrow2 hnil2 hOO
            go_wp2_with fail
            go_roundw
            case rel => exact ⟨j + 1, v', rfl, by omega, by go_num, by rw [HF.out.1], HV9, HB9⟩
            case measure => simp [intOf]; omega
      · obtain rfl : j = ll.length := by omega
        have HF : Hid (RI.IntsOn wr w.heap.size g (gsL G ll)) := by
          have := HV.out
          rw [List.take_length] at this
          exact this.mono hsX.out
        have HD : Hid ((dm && (ll.take ll.length).all (gsOk G)) = (dm && ll.all (gsOk G))) := by
          show _ = _
          rw [List.take_length]
        have HBF : Hid (Below w.heap.size w wr) := HBX.out.trans (HB.out.mono hsX.out)
        have hgd : decide ((ll.length : Int) < (ll.length : Int)) = false := by simp
        rw [HD.out]
        clear HV HB
        go_wp2_with fail
        go_returns
        exact ⟨g, by rw [hdm]; rfl, HF.out, HBF.out⟩
  · have hd0 : (nn == 0) = false := by simpa using hn0
    have hd1 : (nn != 0) = true := by simpa using hn0
    have HLE : Hid (ll = l0 ++ [nn]) := HLL.out.2.trans (if_neg hn0)
    have hOO := HV0.out.own
    have hlen := HLL.out.1
    have h12 := hs12.out
    go_wp2_with (at_builtin; refine wpList_append_own _ rfl _ _ 38 rfl w1.heap.size 39 i0 (.int .u64 0) 1 8 Tryz.underlying38 hi hz0 hz1 hz2 rfl (by decide) _ _ _ rfl (hOO.alloc _) ⟨w2.heap.size, 0, none⟩ 1 1 [.int .u64 nn] rfl rfl (cell_one_new _ _ _) (ints_oneCell .u64 [nn]) (by unfold maxLen; omega) (by omega) (by simp; omega) ?_; intro v' w5 hown' hgrow2 hnil2; generalize hq : l0.length + 1 = q at hown' ⊢; obtain rfl : q = ll.length := (by rw [← hq, HLE.out, List.length_append]; rfl); clear hq; obtain ⟨A0, cp0, rfl⟩ := RI.lists_slice hown')
    have HVX0 : Hid (WordsOn w5 w1.heap.size (.slice A0 ll.length cp0) ll) := ⟨by
      have := hown'
      rw [show ll.map (Value.int .u64) = l0.map (Value.int .u64) ++ [Value.int .u64 nn] by rw [HLE.out, List.map_append]; rfl]
      exact this⟩
    have hbx : Below w.heap.size w w5 := (HB2.out.alloc HB2.out.size _).grown hgrow2 (by simp; omega) (fun k hk => by have := (hOO.lt k hk).1; omega)
    have hsX : Hid (w.heap.size ≤ w5.heap.size) := hbx.size
    have HBX : Hid (Below w.heap.size w w5) := hbx
    have HLN : Hid (ll.length ≤ 257) := (by rw [HLE.out, List.length_append]; have := HLL.out.1; simp; omega : ll.length ≤ 257)
    have HVX : Hid (WordsOn w5 w1.heap.size (.slice A0 ll.length cp0) ll) := HVX0.out
    clear hown' hgrow2 hnil2 hOO hbx HVX0 h12 hlen
    go_loopw [11, 14, 42] (fun rr gg i wr => ∃ (j : Nat) (g : Value), g = gg ∧ j ≤ ll.length ∧ i = .int .i64 j ∧ rr = .bool (dm && (ll.take j).all (gsOk G)) ∧ Hid (RI.IntsOn wr w5.heap.size g (gsL G (ll.take j))) ∧ Hid (Below w5.heap.size w5 wr)) (fun _ _ i _ => ll.length - (intOf i).toNat)
    case atStart => exact ⟨0, _, rfl, Nat.zero_le _, rfl, by simp, ⟨World.ownsRow_nil _ _ _ _⟩, Below.refl _ _⟩
    case round =>
      obtain ⟨j, g, rfl, hj, rfl, rfl, HV, HB⟩ := hrel
      have hln9 : ll.length ≤ 257 := HLN.out
      by_cases hlt : j < ll.length
      · obtain ⟨gb, cp, ea, hgb, hcell⟩ := HVX.out.cell hlt
        injection ea with ea1 ea2 ea3
        subst ea1
        have hk1 : (j : Int) < (ll.length : Int) := by omega
        have hk0 : (0 : Int) ≤ (j : Int) := by omega
        have hc := (HB.out.cell (p := ⟨gb, j, none⟩) hgb).trans hcell
        have HTK : Hid (ll.take (j + 1) = ll.take j ++ [ll.getD j 0]) := by
          show ll.take (j + 1) = _
          rw [List.take_add_one, List.getD_eq_getElem?_getD, List.getElem?_eq_getElem hlt]
          rfl
        have hxb := HBD.out (ll.getD j 0) (by rw [List.getD_eq_getElem?_getD, List.getElem?_eq_getElem hlt]; exact List.getElem_mem hlt)
        generalize ll.getD j 0 = x at *
        generalize hdq : (dm && (ll.take j).all (gsOk G)) = dq
        have HDQ : Hid ((dm && (ll.take j).all (gsOk G)) = dq) := hdq
        clear hcell hdq ea2 ea3
        by_cases h0 : x = 0
        · subst h0
          have HF : Hid ((dm && (ll.take (j + 1)).all (gsOk G)) = false ∧ gsL G (ll.take (j + 1)) = gsL G (ll.take j)) := by
            rw [HTK.out]
            have hk : gsOk G 0 = false := by simp [gsOk]
            exact ⟨by simp [hk], by rw [gsL_snoc, hk]; rfl⟩
          go_wp2_with fail
          go_roundw
          case rel => exact ⟨j + 1, g, rfl, by omega, by go_num, by rw [HF.out.1], (by rw [HF.out.2]; exact HV.out : RI.IntsOn _ _ _ _), HB⟩
          case measure => simp [intOf]; omega
        · have hd0 : (x == 0) = false := by simpa using h0
          have hC := HC.out wr (HBX.out.trans (HB.out.mono hsX.out))
          go_wp2_with fail
          go_at_call 87; refine hC.mono ?_; rintro e w7 ⟨rfl, h7⟩
          have HB7 : Hid (Below w5.heap.size w5 w7) := seq HB.out h7
          have HV7 : Hid (RI.IntsOn w7 w5.heap.size g (gsL G (ll.take j))) := HV.out.keep (But.of_below (l := []) h7) (fun k _ => by simp)
          clear hC h7 hc HV HB
          by_cases hgt : G < x
          · have hdg : decide (G < x) = true := decide_eq_true hgt
            have HF : Hid ((dm && (ll.take (j + 1)).all (gsOk G)) = false ∧ gsL G (ll.take (j + 1)) = gsL G (ll.take j)) := by
              rw [HTK.out]
              have hk : gsOk G x = false := by simp [gsOk]; omega
              exact ⟨by simp [hk], by rw [gsL_snoc, hk]; rfl⟩
            go_wp2_with fail
            go_roundw
            case rel => exact ⟨j + 1, g, rfl, by omega, by go_num, by rw [HF.out.1], (by rw [HF.out.2]; exact HV7.out : RI.IntsOn _ _ _ _), HB7⟩
            case measure => simp [intOf]; omega
          · have hdg : decide (G < x) = false := decide_eq_false hgt
            have HF : Hid ((dm && (ll.take (j + 1)).all (gsOk G)) = dq ∧ gsL G (ll.take (j + 1)) = gsL G (ll.take j) ++ [gw x]) := by
              rw [HTK.out]
              have hk : gsOk G x = true := by simp [gsOk]; omega
              exact ⟨by rw [← HDQ.out]; simp [hk], by rw [gsL_snoc, hk]; rfl⟩
            obtain ⟨y, hy⟩ : ∃ y, IntKind.u64.wrap (x - 1) = y := ⟨_, rfl⟩
            obtain ⟨gx, hgx⟩ : ∃ gx, IntKind.i64.wrap y = gx := ⟨_, rfl⟩
            have HGX : Hid (gw x = gx) := by
              show gw x = gx
              unfold gw; rw [hy, hgx]
            have hOO := HV7.out.own
            have hlj : (gsL G (ll.take j)).length ≤ 257 := by
              unfold gsL
              rw [List.length_map]
              refine Nat.le_trans (List.length_filter_le _ _) ?_
              rw [List.length_take]; have := HLN.out; omega
            have hsz7 := HB7.out.size
            generalize hln : (gsL G (ll.take j)).length = ln at *
            have HLJ : Hid ((gsL G (ll.take j)).length = ln) := hln
            clear hln
            go_wp2_with (at_builtin; refine wpList_append_own _ rfl _ _ 27 rfl w5.heap.size 3 i3 (.int .i64 0) 1 8 Tryz.underlying27 hi3 hz03 hz13 hz23 rfl (by decide) _ _ _ rfl (hOO.alloc _) ⟨w7.heap.size, 0, none⟩ 1 1 [.int .i64 gx] rfl rfl (cell_one_new _ _ _) (ints_oneCell .i64 [gx]) (by unfold maxLen; omega) (by omega) (by simp; omega) ?_; intro v' w9 hown' hgrow2 hnil2)
            have HB9 : Hid (Below w5.heap.size w5 w9) := (HB7.out.alloc HB7.out.size _).grown hgrow2 (by simp; omega) (fun k hk => (hOO.lt k hk).1)
            have HV9 : Hid (RI.IntsOn w9 w5.heap.size v' (gsL G (ll.take (j + 1)))) := ⟨by
              rw [HF.out.2, List.map_append, List.length_append, HLJ.out, HGX.out]
              exact hown'⟩
            clear hown' hgrow2 hnil2 hOO
            go_wp2_with fail
            go_roundw
            case rel => exact ⟨j + 1, v', rfl, by omega, by go_num, by rw [HF.out.1], HV9, HB9⟩
            case measure => simp [intOf]; omega
      · obtain rfl : j = ll.length := by omega
        have HF : Hid (RI.IntsOn wr w.heap.size g (gsL G ll)) := by
          have := HV.out
          rw [List.take_length] at this
          exact this.mono hsX.out
        have HD : Hid ((dm && (ll.take ll.length).all (gsOk G)) = (dm && ll.all (gsOk G))) := by
          show _ = _
          rw [List.take_length]
        have HBF : Hid (Below w.heap.size w wr) := HBX.out.trans (HB.out.mono hsX.out)
        have hgd : decide ((ll.length : Int) < (ll.length : Int)) = false := by simp
        rw [HD.out]
        clear HV HB
        go_wp2_with fail
        go_returns
        exact ⟨g, by rw [hdm]; rfl, HF.out, HBF.out⟩
end Go.Proofs.YthhlklfioipmgaaGreat

namespace Go.Proofs.YthhlklfioipmgaaGreat
open Go Go.RowKit
set_option linter.unusedVariables false
set_option maxRecDepth 100000
set_option linter.unusedSimpArgs false

/-- A machine that is only kept. -/
def Rd.mach {σ : Type} {I : MI σ} {M : PM σ} (hG : I.Good M) (x : Nat) (t : σ) (L : List Nat) : Rd := ⟨L, fun w => I w x t L, fun w w' l h hb hk => hG.keep h hb hk⟩
section
variable {σ : Type} {I : MI σ} {M : PM σ} {R Rm : Rd} {W0 w w' : World} {A : Option Addr} {cap c b n : Nat} {s : St} {x : Nat} {t : σ} {L : List Nat}
theorem Solo.again (h : Solo I R W0 w A cap c b n s x t L) {τ : Type} {J : MI τ} {R2 : Rd} {y : Nat} {u : τ} {K : List Nat} (hm : J w y u K) (hr : R2.P w) (hB : ∀ k ∈ K, k ∈ R.B) (hR : ∀ k ∈ R2.B, k ∈ R.B) (hK : ∀ k ∈ K, k ∉ R2.B) (hup : ∀ k ∈ K, W0.heap.size ≤ k) : Solo J R2 W0 w A cap c b n s y u K :=
  ⟨h.mem, hm, hr, fun k hk => ⟨fun e => h.rfar.1 (e ▸ hB k hk), fun e => h.rfar.2 (e ▸ hB k hk), hK k hk⟩, ⟨fun hm => h.rfar.1 (hR _ hm), fun hm => h.rfar.2 (hR _ hm)⟩, ⟨h.up.1, h.up.2.1, hup⟩, fun k hk => h.rlt k (hR k hk), h.below⟩
end
theorem lit1_sees (w : World) (a : Int) : RI.SeesL (w.alloc (.cells #[.int .i64 a] 3)) (.slice (some ⟨w.heap.size, 0, none⟩) 1 1) [a] := by
  have hX := Blk.new w #[.int .i64 a] 3
  refine ⟨_, 1, rfl, (fun h => by cases h), fun _ => ⟨w.heap.size, 0, rfl, hX.lt, fun j hj => ?_⟩⟩
  have hj4 : j < 1 := hj
  obtain rfl : j = 0 := by omega
  exact hX.cell 0 rfl
theorem lit2_sees (w : World) (a b : Int) : RI.SeesL (w.alloc (.cells #[.int .i64 a, .int .i64 b] 3)) (.slice (some ⟨w.heap.size, 0, none⟩) 2 2) [a, b] := by
  have hX := Blk.new w #[.int .i64 a, .int .i64 b] 3
  refine ⟨_, 2, rfl, (fun h => by cases h), fun _ => ⟨w.heap.size, 0, rfl, hX.lt, fun j hj => ?_⟩⟩
  have hj4 : j < 2 := hj
  rcases (by omega : j = 0 ∨ j = 1) with rfl | rfl
  · exact hX.cell 0 rfl
  · exact hX.cell 1 rfl
theorem lit3_sees (w : World) (a b c : Int) : RI.SeesL (w.alloc (.cells #[.int .i64 a, .int .i64 b, .int .i64 c] 3)) (.slice (some ⟨w.heap.size, 0, none⟩) 3 3) [a, b, c] := by
  have hX := Blk.new w #[.int .i64 a, .int .i64 b, .int .i64 c] 3
  refine ⟨_, 3, rfl, (fun h => by cases h), fun _ => ⟨w.heap.size, 0, rfl, hX.lt, fun j hj => ?_⟩⟩
  have hj4 : j < 3 := hj
  rcases (by omega : j = 0 ∨ j = 1 ∨ j = 2) with rfl | rfl | rfl
  · exact hX.cell 0 rfl
  · exact hX.cell 1 rfl
  · exact hX.cell 2 rfl

section
variable {σ : Type} {I : MI σ} {M : PM σ} {R Rm : Rd} {W0 w w' : World} {A : Option Addr} {cap c b n : Nat} {s : St} {x : Nat} {t : σ} {L : List Nat}
theorem Solo.stepUp (hG : I.Good M) {F : Nat} {who : Int} (hS : Steps M I Rm F who) (hRm : ∀ w, R.P w → Rm.P w) (hRb : ∀ k ∈ Rm.B, k ∈ R.B) (h : Solo I R W0 w A cap c b n s x t L) (hn : n ≤ 1000000) (hl : Low s 1000000) :
    Calls Tryz.prog F #[.pointer (some ⟨x, 0, none⟩), .pointer (some ⟨c, 0, none⟩)] w fun e w' => (e = .returned (.bool (M.ax (M.goT n t s)).isNone)) ∧ w.heap.size ≤ w'.heap.size ∧ ∃ L', Solo I R W0 w' A cap c b n (M.goS who n t s) x (M.goT n t s) L' := by
  refine (hS w A cap c b n s x t L h.mach (hRm w h.rd) h.mem hn hl (fun k hk => ⟨(h.far k hk).1, (h.far k hk).2.1, fun hr => (h.far k hk).2.2 (hRb k hr)⟩) ⟨fun hr => h.rfar.1 (hRb c hr), fun hr => h.rfar.2 (hRb b hr)⟩).mono ?_
  rintro e w' ⟨rfl, L', a1, a2, a3, a4⟩
  have hsz := h.below.size
  have k1 := h.mem.lt
  have k2 := h.mem.bl
  refine ⟨rfl, a3.size, L', a2, a1, R.keep _ _ _ h.rd a3 (fun k hk => ?_), fun k hk => ?_, h.rfar, ⟨h.up.1, h.up.2.1, fun k hk => ?_⟩, fun k hk => Nat.lt_of_lt_of_le (h.rlt k hk) a3.size, h.below.trans (a3.below ?_ hsz)⟩
  · simp only [List.mem_cons, not_or]
    exact ⟨fun e => h.rfar.1 (e ▸ hk), fun e => h.rfar.2 (e ▸ hk), fun hm => (h.far k hm).2.2 hk⟩
  · rcases a4 k hk with h1 | h1
    · exact h.far k h1
    · exact ⟨by omega, by omega, fun hr => by have := h.rlt k hr; omega⟩
  · rcases a4 k hk with h1 | h1
    · exact h.up.2.2 k h1
    · omega
  · intro k hk
    simp only [List.mem_cons] at hk
    rcases hk with rfl | rfl | hk
    · exact h.up.1
    · exact h.up.2.1
    · exact h.up.2.2 k hk
end
theorem lit4b_sees (w : World) (a b c d : Int) : RI.SeesL (w.alloc (.cells #[.int .i64 a, .int .i64 b, .int .i64 c, .int .i64 d] 3)) (.slice (some ⟨w.heap.size, 0, none⟩) 4 4) [a, b, c, d] := by
  have hX := Blk.new w #[.int .i64 a, .int .i64 b, .int .i64 c, .int .i64 d] 3
  refine ⟨_, 4, rfl, (fun h => by cases h), fun _ => ⟨w.heap.size, 0, rfl, hX.lt, fun j hj => ?_⟩⟩
  have hj4 : j < 4 := hj
  rcases (by omega : j = 0 ∨ j = 1 ∨ j = 2 ∨ j = 3) with rfl | rfl | rfl | rfl
  · exact hX.cell 0 rfl
  · exact hX.cell 1 rfl
  · exact hX.cell 2 rfl
  · exact hX.cell 3 rfl
end Go.Proofs.YthhlklfioipmgaaGreat

namespace Go.Proofs.YthhlklfioipmgaaGreat
open Go Go.RowKit
set_option linter.unusedVariables false
set_option maxRecDepth 100000
set_option linter.unusedSimpArgs false

theorem tk_g2 {who P T G p most : Int} {gl : Int → Int} {cl : Nat} {w : World} {x : Nat} {t : TkT} {L : List Nat} (h : (tkCp who gl P T G p most cl).I w x t L) (hn : (tkPM gl P p most).ax t = none) :
    Calls Tryz.prog 32 #[.pointer (some ⟨x, 0, none⟩)] w fun e w' => e = .returned (.int .i64 t.obs) ∧ w = w' := by
  cases t with
  | over l f o tl => exact tk_g h
  | none' =>
    obtain ⟨hok, es, Le, he, hxe, h⟩ := h
    obtain ⟨hb, -⟩ := h
    exact take_g w x cl who p most 0 0 (-1) none none none hb (pull_g_nil w)
  | fst l q =>
    have h1 : ((plPM gl).ax q).isSome = true := h.1.2.1
    rw [show (plPM gl).ax q = none from hn] at h1
    cases h1
  | oth l f q tl =>
    have h1 : ((plPM gl).ax q).isSome = true := h.1.2.1
    rw [show (plPM gl).ax q = none from hn] at h1
    cases h1
  | _ => cases hn
def gqL (y : Int) : Int := wd (20 + 2 * 264 + 2 * 3) 4 2 y 1
def gqA : PM QpT := qpPM (fun y => wd (20 + 2 * 264 + 2 * 3) 4 2 y 1) [2, 0]
def gqB : PM QpT := qpPM (fun y => wd (20 + 2 * 264 + 2 * 3) 4 2 y 1) [1]
def gqT : PM TkT := tkPM (fun y => wd (20 + 2 * 264 + 2 * 3) 4 2 y 1) 2 1 0
def gqS0 : St := fresh (fun _ => 0)
def gqS1 : St := (gqA.steps 0 562 9 (.ch 0, gqS0)).2
def gqS2 : St := (gqB.steps 0 562 9 (.ch 0, gqS1)).2
def gqS3 : St := (gqT.steps 0 562 30 (.ld, gqS2)).2
def gqT3 : TkT := (gqT.steps 0 562 30 (.ld, gqS2)).1
theorem gq_list : lsOf (fun g => peekT 562 gqS2 (wd (20 + 2 * 264 + 2 * 3) 4 2 g 1)) 4 (peekT 562 gqS2 6) = ([2, 0, 1], true) := by decide +kernel
theorem gq_obs : gqT3.obs = 2 ∧ (gqT.ax gqT3).isNone = true := ⟨by decide +kernel, by decide +kernel⟩
theorem gq_gs : gsL 4 (rgsL 2 4 1 562 gqS3) = [0] := by decide +kernel
theorem gq_low1 : Low gqS1 9 := (PM.steps_low gqA 0 562 9 (.ch 0, gqS0) (low_fresh _)).more (by omega)
theorem gq_low2 : Low gqS2 18 := (PM.steps_low gqB 0 562 9 (.ch 0, gqS1) gq_low1).more (by omega)
set_option maxHeartbeats 8000000 in
theorem globq_awake (w : World) : Calls Tryz.prog 11 #[] w fun e w' => e = .returned (.bool true) ∧ Below w.heap.size w w' := by
  have hL := lay_some 2 2 4 none 0 0 562 (fun _ => 0) (fun _ => 0) w (by omega) ⟨⟨by omega⟩, by omega, by omega, by omega⟩ (by omega) (fun h => absurd h (by omega)) (fun i h => absurd h (by omega))
  go_enter Tryz.func11, Tryz.ntmps11
  go_wp2_with fail
  go_at_call 9; refine hL.mono ?_; rintro e w1 ⟨cl, A, A', cap, cap', c, b, c', b', rfl, hLd⟩
  have HI1 : Hid (Is w1 136 A cap c b 562 gqS0) := hLd.two.m
  have HY1 : Hid (Lay w1 cl 2 2 4) := hLd.lay
  have HB1 : Hid (Below w.heap.size w w1) := hLd.below
  have hne : Hid (cl ≠ c ∧ cl ≠ b) := lay_ne hLd.lay (by decide) hLd.two.m (by omega)
  have hup : Hid (w.heap.size ≤ c ∧ w.heap.size ≤ b) := ⟨hLd.up.2.1, hLd.up.2.2.1⟩
  have hlo : Hid (c < w1.heap.size ∧ b < w1.heap.size ∧ cl < w1.heap.size) := ⟨hLd.two.m.lt, hLd.two.m.bl, hLd.lay.lt⟩
  have hGA0 := qp_good 0 2 2 4 cl [2, 0] (by omega) (by omega) (by omega) (by decide)
  have hGB0 := qp_good 0 2 2 4 cl [1] (by omega) (by omega) (by omega) (by decide)
  have hNA := qp_new_some (w1.alloc (.cells #[.int .i64 2, .int .i64 0] 3)) cl 0 2 2 4 _ [2, 0] (by obtain ⟨q1, q2, q3, q4, q5⟩ := lit2_sees w1 2 0; exact ⟨q1, q2, q3, q4, q5⟩) (by decide) (by decide) (hLd.lay.below ((Below.refl _ _).alloc (Nat.le_refl _) _) hLd.lay.lt) (by omega) (by omega) (by omega)
  have HA1 : Hid (Below w1.heap.size w1 (w1.alloc (.cells #[.int .i64 2, .int .i64 0] 3))) := (Below.refl _ _).alloc (Nat.le_refl _) _
  clear hL hLd
  go_wp2_with fail
  go_at_call 12; refine hNA.mono ?_; rintro e w2 ⟨xa, La, rfl, ha1, ha2, ha3, ha4⟩
  have HB2 : Hid (Below w1.heap.size w1 w2) := seq HA1.out ha2
  have HLA : Hid (∀ k ∈ La, w1.heap.size ≤ k) := fun k hk => Nat.le_trans HA1.out.size (ha3 k hk)
  have HMA : Hid ((qpI 0 cl (fun y => wd (20 + 2 * 264 + 2 * 3) 4 2 y 1) [2, 0]) w2 xa (.ch 0) La) := ha1
  have hNB := qp_new_some (w2.alloc (.cells #[.int .i64 1] 3)) cl 0 2 2 4 _ [1] (by obtain ⟨q1, q2, q3, q4, q5⟩ := lit1_sees w2 1; exact ⟨q1, q2, q3, q4, q5⟩) (by decide) (by decide) (HY1.out.below (seq HB2.out ((Below.refl _ _).alloc (Nat.le_refl _) _)) HY1.out.lt) (by omega) (by omega) (by omega)
  have HA2 : Hid (Below w2.heap.size w2 (w2.alloc (.cells #[.int .i64 1] 3))) := (Below.refl _ _).alloc (Nat.le_refl _) _
  clear hNA HA1 ha1 ha2 ha3 ha4
  go_wp2_with fail
  go_at_call 12; refine hNB.mono ?_; rintro e w3 ⟨xb, Lb, rfl, hb1, hb2, hb3, hb4⟩
  have HB23 : Hid (Below w2.heap.size w2 w3) := seq HA2.out hb2
  have HB3 : Hid (Below w1.heap.size w1 w3) := seq HB2.out HB23.out
  have HLB : Hid (∀ k ∈ Lb, w2.heap.size ≤ k) := fun k hk => Nat.le_trans HA2.out.size (hb3 k hk)
  have hGA : ((qpI 0 cl (fun y => wd (20 + 2 * 264 + 2 * 3) 4 2 y 1) [2, 0])).Good gqA := hGA0
  have hGB : ((qpI 0 cl (fun y => wd (20 + 2 * 264 + 2 * 3) 4 2 y 1) [1])).Good gqB := hGB0
  have HSA : Hid (Solo (qpI 0 cl (fun y => wd (20 + 2 * 264 + 2 * 3) 4 2 y 1) [2, 0]) ((Rd.lay cl 2 2 4).and (Rd.mach hGB xb (.ch 0) Lb)) w w3 A cap c b 562 (gqA.steps 0 562 0 (.ch 0, gqS0)).2 xa (gqA.steps 0 562 0 (.ch 0, gqS0)).1 La) := by
    have l1 := hlo.out
    have s12 := HB2.out.size
    have la := HLA.out
    have lb := HLB.out
    have ltA := hGA.lt HMA.out
    have ltB := hGB.lt hb1
    refine ⟨HI1.out.below HB3.out, hGA.below HMA.out HB23.out, ⟨HY1.out.below HB3.out HY1.out.lt, hb1⟩, fun k hk => ⟨by have := la k hk; omega, by have := la k hk; omega, fun hm => ?_⟩, ⟨fun hm => ?_, fun hm => ?_⟩, ⟨hup.out.1, hup.out.2, fun k hk => by have := la k hk; have := HB1.out.size; omega⟩, fun k hk => ?_, HB1.out.trans (HB3.out.mono HB1.out.size)⟩
    · rcases List.mem_append.1 hm with h | h
      · have := la k hk; have : k = cl := List.mem_singleton.1 h; omega
      · have := lb k h; have := ltA k hk; omega
    · rcases List.mem_append.1 hm with h | h
      · exact hne.out.1 (List.mem_singleton.1 h).symm
      · have := lb c h; omega
    · rcases List.mem_append.1 hm with h | h
      · exact hne.out.2 (List.mem_singleton.1 h).symm
      · have := lb b h; omega
    · rcases List.mem_append.1 hk with h | h
      · have : k = cl := List.mem_singleton.1 h; have := HB3.out.size; omega
      · exact ltB k h
  have HBL : Hid ((∀ k ∈ Lb, w.heap.size ≤ k) ∧ ∀ k ∈ Lb, k ∉ [cl]) := ⟨fun k hk => by have := HLB.out k hk; have := HB2.out.size; have := HB1.out.size; omega, fun k hk hm => by have := HLB.out k hk; have := HB2.out.size; have : k = cl := List.mem_singleton.1 hm; have := hlo.out; omega⟩
  have HST : Hid (Steps gqA (qpI 0 cl (fun y => wd (20 + 2 * 264 + 2 * 3) 4 2 y 1) [2, 0]) (Rd.lay cl 2 2 4) 19 0 ∧ Steps gqB (qpI 0 cl (fun y => wd (20 + 2 * 264 + 2 * 3) 4 2 y 1) [1]) (Rd.lay cl 2 2 4) 19 0) := ⟨qp_steps 0 2 2 4 cl [2, 0] (by omega) (by omega) (by omega) (by decide) stepby_qput, qp_steps 0 2 2 4 cl [1] (by omega) (by omega) (by omega) (by decide) stepby_qput⟩
  have hTL := tk_laws (who := 0) (P := 2) (T := 2) (G := 4) (p := 1) (most := 0) (cl := cl) (by omega) (by omega) (by omega) (by omega)
  have HTG : Hid (((tkCp 0 (fun y => wd (20 + 2 * 264 + 2 * 3) 4 2 y 1) 2 2 4 1 0 cl).I).Good gqT ∧ Steps gqT (tkCp 0 (fun y => wd (20 + 2 * 264 + 2 * 3) 4 2 y 1) 2 2 4 1 0 cl).I (Rd.lay cl 2 2 4) 31 0) := ⟨Cp.good hTL, Cp.steps hTL stepby_qtake⟩
  clear hNB HA2 hb1 hb2 hb3 hb4 HMA HLA HLB HB23 HB3 HB2 HI1 HY1 HB1 hGA0 hGB0 hTL
  go_wp2_with fail
  have HLO : Hid (∀ q : Nat, q ≤ 9 → Low (gqA.steps 0 562 q (.ch 0, gqS0)).2 1000000) := fun q hq => (PM.steps_low gqA 0 562 q (.ch 0, gqS0) (low_fresh _)).more (by omega)
  go_loopw [7] (fun k wi => ∃ (q : Nat) (L : List Nat), q ≤ 9 ∧ k = .int .i64 q ∧ Hid (Solo (qpI 0 cl (fun y => wd (20 + 2 * 264 + 2 * 3) 4 2 y 1) [2, 0]) ((Rd.lay cl 2 2 4).and (Rd.mach hGB xb (.ch 0) Lb)) w wi A cap c b 562 (gqA.steps 0 562 q (.ch 0, gqS0)).2 xa (gqA.steps 0 562 q (.ch 0, gqS0)).1 L)) (fun k _ => 9 - (intOf k).toNat)
  case atStart => exact ⟨0, _, by omega, rfl, HSA⟩
  case round =>
    clear HSA
    obtain ⟨q, L, hq, rfl, HS⟩ := hrel
    by_cases hq9 : q < 9
    · have hSt := HS.out.step hGA HST.out.1 (fun Y (h : (((Rd.lay cl 2 2 4).and (Rd.mach hGB xb (.ch 0) Lb))).P Y) => h.1) (fun k hk => List.mem_append_left _ hk) (by omega) (HLO.out q hq)
      rw [show gqA.goS 0 562 (gqA.steps 0 562 q (.ch 0, gqS0)).1 (gqA.steps 0 562 q (.ch 0, gqS0)).2 = (gqA.steps 0 562 (q + 1) (.ch 0, gqS0)).2 by rw [PM.steps_succ], show gqA.goT 562 (gqA.steps 0 562 q (.ch 0, gqS0)).1 (gqA.steps 0 562 q (.ch 0, gqS0)).2 = (gqA.steps 0 562 (q + 1) (.ch 0, gqS0)).1 by rw [PM.steps_succ]] at hSt
      have hq1 : (q : Int) < 9 := by omega
      have hq0 : (0 : Int) ≤ (q : Int) := by omega
      clear HS
      go_wp2_with fail
      go_at_call 19; refine hSt.mono ?_; rintro e w4 ⟨rfl, L', hS'⟩
      have HS' : Hid _ := hS'
      clear hSt hS'
      go_wp2_with fail
      go_roundw
      case rel => exact ⟨q + 1, L', by omega, by go_num, HS'⟩
      case measure => simp [intOf]; omega
    · obtain rfl : q = 9 := by omega
      clear HLO
      rw [show ((9 : Nat) : Int) = 9 from rfl]
      have HSB : Hid (Solo (qpI 0 cl (fun y => wd (20 + 2 * 264 + 2 * 3) 4 2 y 1) [1]) (Rd.lay cl 2 2 4) w wr A cap c b 562 (gqB.steps 0 562 0 (.ch 0, gqS1)).2 xb (gqB.steps 0 562 0 (.ch 0, gqS1)).1 Lb) := HS.out.again HS.out.rd.2 HS.out.rd.1 (fun k hk => List.mem_append_right _ hk) (fun k hk => List.mem_append_left _ hk) HBL.out.2 HBL.out.1
      clear HS
      go_wp2_with fail
      have HLO : Hid (∀ q : Nat, q ≤ 9 → Low (gqB.steps 0 562 q (.ch 0, gqS1)).2 1000000) := fun q hq => (PM.steps_low gqB 0 562 q (.ch 0, gqS1) gq_low1).more (by omega)
      go_loopw [8] (fun k wi => ∃ (q : Nat) (L : List Nat), q ≤ 9 ∧ k = .int .i64 q ∧ Hid (Solo (qpI 0 cl (fun y => wd (20 + 2 * 264 + 2 * 3) 4 2 y 1) [1]) (Rd.lay cl 2 2 4) w wi A cap c b 562 (gqB.steps 0 562 q (.ch 0, gqS1)).2 xb (gqB.steps 0 562 q (.ch 0, gqS1)).1 L)) (fun k _ => 9 - (intOf k).toNat)
      case atStart => exact ⟨0, _, by omega, rfl, HSB⟩
      case round =>
        clear HSB
        obtain ⟨q, L, hq, rfl, HS⟩ := hrel
        by_cases hq9 : q < 9
        · have hSt := HS.out.step hGB HST.out.2 (fun Y h => h) (fun k hk => hk) (by omega) (HLO.out q hq)
          rw [show gqB.goS 0 562 (gqB.steps 0 562 q (.ch 0, gqS1)).1 (gqB.steps 0 562 q (.ch 0, gqS1)).2 = (gqB.steps 0 562 (q + 1) (.ch 0, gqS1)).2 by rw [PM.steps_succ], show gqB.goT 562 (gqB.steps 0 562 q (.ch 0, gqS1)).1 (gqB.steps 0 562 q (.ch 0, gqS1)).2 = (gqB.steps 0 562 (q + 1) (.ch 0, gqS1)).1 by rw [PM.steps_succ]] at hSt
          have hq1 : (q : Int) < 9 := by omega
          have hq0 : (0 : Int) ≤ (q : Int) := by omega
          clear HS
          go_wp2_with fail
          go_at_call 19; refine hSt.mono ?_; rintro e w4 ⟨rfl, L', hS'⟩
          have HS' : Hid _ := hS'
          clear hSt hS'
          go_wp2_with fail
          go_roundw
          case rel => exact ⟨q + 1, L', by omega, by go_num, HS'⟩
          case measure => simp [intOf]; omega
        · obtain rfl : q = 9 := by omega
          clear HLO
          rw [show ((9 : Nat) : Int) = 9 from rfl]
          have hLs := qlist_any wr A cap c b 562 cl gqS2 2 2 4 HS.out.mem (by omega) HS.out.rd (by omega) (by omega) (by omega)
          rw [gq_list] at hLs
          have HF : Hid _ := HS.out
          clear HS
          go_wp2_with fail
          go_at_call 21; refine hLs.mono ?_; rintro e w5 ⟨vl, rfl, hv5, hb5⟩
          have HV5 : Hid (RI.IntsOn w5 wr.heap.size vl [2, 0, 1]) := ⟨hv5.own⟩
          have HI5 : Hid (Is w5 136 A cap c b 562 gqS2) := HF.out.mem.below hb5
          have HY5 : Hid (Lay w5 cl 2 2 4) := (HF.out.rd : Lay wr cl 2 2 4).below hb5 (HF.out.rd : Lay wr cl 2 2 4).lt
          have HB5 : Hid (Below w.heap.size w w5) := seq HF.out.below hb5
          have hcb : Hid (c < wr.heap.size ∧ b < wr.heap.size ∧ cl < wr.heap.size) := ⟨HF.out.mem.lt, HF.out.mem.bl, (HF.out.rd : Lay wr cl 2 2 4).lt⟩
          have hNT := tk_fresh (who := 0) (P := 2) (T := 2) (G := 4) (p := 1) (most := 0) (cl := cl) w5 (fun y => wd (20 + 2 * 264 + 2 * 3) 4 2 y 1)
          generalize hwl : wr = wl at *
          clear hLs hv5 hb5 HF
          go_wp2_with fail
          go_at_call 68; refine hNT.mono ?_; rintro e w6 ⟨xt, L6, rfl, ht1, ht2, ht3⟩
          have HSC : Hid (Solo (tkCp 0 (fun y => wd (20 + 2 * 264 + 2 * 3) 4 2 y 1) 2 2 4 1 0 cl).I ((Rd.lay cl 2 2 4).and (Rd.ints wl.heap.size vl [2, 0, 1])) w w6 A cap c b 562 (gqT.steps 0 562 0 (.ld, gqS2)).2 xt (gqT.steps 0 562 0 (.ld, gqS2)).1 L6) := Solo.begin HI5.out ht2 HB5.out hup.out ht1 ht3 ⟨HY5.out, HV5.out⟩ (fun k hk => by
            rcases List.mem_append.1 hk with h | h
            · have : k = cl := List.mem_singleton.1 h
              rw [this]; exact HY5.out.lt
            · exact (HV5.out.up k h).2) ⟨fun hm => by
            rcases List.mem_append.1 hm with h | h
            · exact hne.out.1 (List.mem_singleton.1 h).symm
            · have := (HV5.out.up c h).1; have := hcb.out; omega, fun hm => by
            rcases List.mem_append.1 hm with h | h
            · exact hne.out.2 (List.mem_singleton.1 h).symm
            · have := (HV5.out.up b h).1; have := hcb.out; omega⟩
          clear hNT ht1 ht2 ht3 HI5 HY5 HB5 HV5
          go_wp2_with fail
          have HLO : Hid (∀ q : Nat, q ≤ 30 → Low (gqT.steps 0 562 q (.ld, gqS2)).2 1000000) := fun q hq => (PM.steps_low gqT 0 562 q (.ld, gqS2) gq_low2).more (by omega)
          go_loopw [12] (fun k wi => ∃ (q : Nat) (L : List Nat), q ≤ 30 ∧ k = .int .i64 q ∧ Hid (Solo (tkCp 0 (fun y => wd (20 + 2 * 264 + 2 * 3) 4 2 y 1) 2 2 4 1 0 cl).I ((Rd.lay cl 2 2 4).and (Rd.ints wl.heap.size vl [2, 0, 1])) w wi A cap c b 562 (gqT.steps 0 562 q (.ld, gqS2)).2 xt (gqT.steps 0 562 q (.ld, gqS2)).1 L)) (fun k _ => 30 - (intOf k).toNat)
          case atStart => exact ⟨0, _, by omega, rfl, HSC⟩
          case round =>
            clear HSC
            obtain ⟨q, L, hq, rfl, HS⟩ := hrel
            by_cases hq9 : q < 30
            · have hSt := HS.out.step HTG.out.1 HTG.out.2 (fun Y (h : (((Rd.lay cl 2 2 4).and (Rd.ints wl.heap.size vl [2, 0, 1]))).P Y) => h.1) (fun k hk => List.mem_append_left _ hk) (by omega) (HLO.out q hq)
              rw [show gqT.goS 0 562 (gqT.steps 0 562 q (.ld, gqS2)).1 (gqT.steps 0 562 q (.ld, gqS2)).2 = (gqT.steps 0 562 (q + 1) (.ld, gqS2)).2 by rw [PM.steps_succ], show gqT.goT 562 (gqT.steps 0 562 q (.ld, gqS2)).1 (gqT.steps 0 562 q (.ld, gqS2)).2 = (gqT.steps 0 562 (q + 1) (.ld, gqS2)).1 by rw [PM.steps_succ]] at hSt
              have hq1 : (q : Int) < 30 := by omega
              have hq0 : (0 : Int) ≤ (q : Int) := by omega
              clear HS
              go_wp2_with fail
              go_at_call 31; refine hSt.mono ?_; rintro e w4 ⟨rfl, L', hS'⟩
              have HS' : Hid _ := hS'
              clear hSt hS'
              go_wp2_with fail
              go_roundw
              case rel => exact ⟨q + 1, L', by omega, by go_num, HS'⟩
              case measure => simp [intOf]; omega
            · obtain rfl : q = 30 := by omega
              clear HLO
              rw [show ((30 : Nat) : Int) = 30 from rfl]
              have hGs := rgs_any wr cl 2 2 4 1 A cap c b 562 gqS3 HS.out.rd.1 (by omega) (by omega) HS.out.mem (by omega)
              rw [gq_gs] at hGs
              generalize (decide (rMany 2 1 562 gqS3 ≤ 256) && (rgsL 2 4 1 562 gqS3).all (gsOk 4)) = zz at hGs
              have HVL : Hid (∀ Y, Below wr.heap.size wr Y → RI.SeesL Y vl [2, 0, 1]) := fun Y hY => ((HS.out.rd.2 : RI.IntsOn wr wl.heap.size vl [2, 0, 1]).sees).below hY
              have HM : Hid (∀ Y, Below wr.heap.size wr Y → (tkCp 0 (fun y => wd (20 + 2 * 264 + 2 * 3) 4 2 y 1) 2 2 4 1 0 cl).I Y xt gqT3 L) := fun Y hY => HTG.out.1.below HS.out.mach hY
              have HBF : Hid (Below w.heap.size w wr) := HS.out.below
              clear HS
              go_wp2_with fail
              go_at_call 51; refine hGs.mono ?_; rintro e w7 ⟨vg, rfl, hv7, hb7⟩
              have HB7 : Hid (Below wr.heap.size wr w7) := hb7
              have HG7 : Hid (RI.SeesL w7 vg [0]) := hv7.sees
              have hS1 := RI.lsame_any (w7.alloc (.cells #[.int .i64 2, .int .i64 0, .int .i64 1] 3)) vl _ [2, 0, 1] (by decide) (HVL.out _ (seq hb7 ((Below.refl _ _).alloc (Nat.le_refl _) _))) (lit3_sees w7 2 0 1)
              have HA7 : Hid (Below w7.heap.size w7 (w7.alloc (.cells #[.int .i64 2, .int .i64 0, .int .i64 1] 3))) := (Below.refl _ _).alloc (Nat.le_refl _) _
              clear hGs hv7 hb7
              go_wp2_with fail
              go_at_call 16; refine hS1.mono ?_; rintro e w8 ⟨rfl, hb8⟩
              have HB78 : Hid (Below w7.heap.size w7 w8) := seq HA7.out hb8
              have HB8 : Hid (Below wr.heap.size wr w8) := seq HB7.out HB78.out
              have HM8 : Hid _ := HM.out w8 HB8.out
              have HD : Hid (Calls Tryz.prog 30 #[.pointer (some ⟨xt, 0, none⟩)] w8 fun e w' => e = .returned (.bool true) ∧ w8 = w') := by
                obtain ⟨nx, hx1, hx2⟩ := HTG.out.1.next HM8.out
                rw [gq_obs.2] at hx2
                rw [← hx2]
                exact done_qtake w8 xt nx hx1
              have HGv : Hid (Calls Tryz.prog 32 #[.pointer (some ⟨xt, 0, none⟩)] w8 fun e w' => e = .returned (.int .i64 2) ∧ w8 = w') := by
                have h := tk_g2 HM8.out (by have := gq_obs.2; cases h : gqT.ax gqT3 with
                  | none => exact h
                  | some a => rw [h] at this; cases this)
                rw [gq_obs.1] at h
                exact h
              have hD := HD.out
              have hGv := HGv.out
              clear hS1 hb8 HM HVL HA7 HD HGv HM8
              go_wp2_with fail
              go_at_call 30; refine hD.mono ?_; rintro e w9 ⟨rfl, rfl⟩
              clear hD
              go_wp2_with fail
              go_at_call 32; refine hGv.mono ?_; rintro e w9 ⟨rfl, rfl⟩
              have hS2 := RI.lsame_any (w8.alloc (.cells #[.int .i64 0] 3)) vg _ [0] (by decide) (HG7.out.below (seq HB78.out ((Below.refl _ _).alloc (Nat.le_refl _) _))) (lit1_sees w8 0)
              have HA8 : Hid (Below w8.heap.size w8 (w8.alloc (.cells #[.int .i64 0] 3))) := (Below.refl _ _).alloc (Nat.le_refl _) _
              clear hGv
              go_wp2_with fail
              go_at_call 16; refine hS2.mono ?_; rintro e w10 ⟨rfl, hb10⟩
              have HFF : Hid (Below w.heap.size w w10) := seq (seq (seq HBF.out HB8.out) HA8.out) hb10
              clear hS2 hb10 HA8
              go_wp2_with fail
              go_ret
              exact ⟨rfl, HFF.out⟩
end Go.Proofs.YthhlklfioipmgaaGreat

namespace Go.Proofs.YthhlklfioipmgaaGreat
open Go Go.ChangeShapes Go.WideShapes Go.ChangeAt Go.RowKit

theorem below_trodAll {H : Type} {enc : TypeId × Value → H} {P : Program} (hl : laidOutB P = true) {W W' : World} (hb : Below W.heap.size W W') :
    ∀ (ts : List TypeId) (vs : List Value) (ds : List (DataW H)) (ps : List MemPlace), (ts.all fun t => P.readableRec t && decide (t < P.types.size)) = true →
      DataW.TrodAll enc P W 0 (fun _ => true) true ts vs ds ps → DataW.TrodAll enc P W' 0 (fun b => decide (b < W.heap.size)) true ts vs ds ps := by
  intro ts
  induction ts with
  | nil =>
    intro vs ds ps _ h
    cases vs <;> cases ds <;> first | exact h | exact (h : False).elim
  | cons t ts ih =>
    intro vs ds ps hall h
    cases vs with
    | nil => exact (h : False).elim
    | cons v vs =>
      cases ds with
      | nil => exact (h : False).elim
      | cons d ds =>
        obtain ⟨p, q, h1, h2, rfl⟩ := h
        simp only [List.all_cons, Bool.and_eq_true, decide_eq_true_eq] at hall
        have lt : ∀ x ∈ p, x.block < W.heap.size := by obtain ⟨m, hm⟩ := h1; exact DataW.trod_lt m _ _ _ hm
        exact ⟨p, q, Below.trod hl hall.1.1 hall.1.2 h1 hb lt, ih vs ds q hall.2 h2, rfl⟩

theorem law_post {H : Type} {enc : TypeId × Value → H} {P : Program} {f : Func} {s : ChangeSpec} {apart : Bool} {W W' : World} {args : Array Value} {ds gs : List (DataW H)} {before : List MemPlace} {bt : TypeId}
    (hl : laidOutB P = true) (hr : f.resultTypes.toList = [bt]) (hbt : P.underlying bt = some .bool) (hts : (f.params.toList.all fun t => P.readableRec t && decide (t < P.types.size)) = true)
    (hvars : s.vars = []) (hres : (s.fn H ds).results = [.lit (.bool true)]) (harg : (s.fn H ds).args = ds) (hvs : (s.fn H ds).vars = [])
    (hW : DataW.Whole enc P f.params.toList s.vars apart W args.toList ds gs before) (hb : Below W.heap.size W W') :
    s.post enc P f apart true false false W args (.bool true) W' := by
  have hW' := hW
  obtain ⟨p, q, hA, hV, rfl, hfz, hnd⟩ := hW
  have hg : gs = [] ∧ q = [] := by rw [hvars] at hV; exact trodVars_none hV
  obtain ⟨rfl, rfl⟩ := hg
  refine ⟨ds, [], _, [], p, [], hW', ?_, ?_, ?_, hb.frame _, fun h => by cases h⟩
  · have e : (Value.bool true).resultList f.resultTypes.size = [.bool true] := by
      have hs : f.resultTypes.size = 1 := by rw [← Array.length_toList, hr]; rfl
      rw [hs]; rfl
    rw [List.append_nil, hres, hr, e]
    exact trodAll_mk1 (shut_bool hbt _)
  · rw [List.append_nil, harg]
    exact below_trodAll hl hb _ _ _ _ hts hA
  · rw [List.append_nil, hvs, hvars]
    rfl
end Go.Proofs.YthhlklfioipmgaaGreat
