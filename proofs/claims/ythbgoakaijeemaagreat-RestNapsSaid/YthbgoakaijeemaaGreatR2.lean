/- What a word gives. -/
import Derived.Test.YthbgoakaijeemaaGreatCp
import Derived.Test.YthbgoakaijeemaaGreatBA
import Derived.Test.YthbgoakaijeemaaGreatR1
import Derived.Test.YthbgoakaijeemaaGreatRun_acq
import Derived.Test.YthbgoakaijeemaaGreatRun_rel
import Derived.Test.YthbgoakaijeemaaGreatR0
import Derived.Test.YthbgoakaijeemaaGreatFl
import Derived.Test.YthbgoakaijeemaaGreatIl0
import Derived.Test.YthbgoakaijeemaaGreatLock1
namespace Go.Proofs.YthbgoakaijeemaaGreat
open Go Go.RowKit
set_option linter.unusedVariables false
set_option maxRecDepth 100000
set_option linter.unusedSimpArgs false

/-- A machine was made, and runs. -/
def RunNew (S : Sub) (pt : S.τ) (W w' : World) (x : Nat) (cs : Array Value) (T : TypeId) (fv : Value) : Prop := ∃ y q b L, CameBox W w' x cs T (fun v => comCells 0 0 0 0 0 false (.iface S.D (.pointer (some ⟨y, 0, none⟩))) v false false) fv q b ∧ S.I w' y pt L ∧ (∀ k ∈ L, W.heap.size ≤ k) ∧ q ∉ L ∧ b ∉ L
theorem RunNew.mk {S : Sub} {pt : S.τ} {W w4 w5 : World} {x y q b : Nat} {L : List Nat} {cs : Array Value} {T : TypeId} {fv : Value} (hG : S.I.Good S.M) (hI : S.I w4 y pt L) (hL : ∀ k ∈ L, W.heap.size ≤ k) (hx : x < W.heap.size) (hB : But [x] W w4) (hC : CameBox w4 w5 x cs T (fun v => comCells 0 0 0 0 0 false (.iface S.D (.pointer (some ⟨y, 0, none⟩))) v false false) fv q b) : RunNew S pt W w5 x cs T fv := by
  have hlt := hG.lt hI
  refine ⟨y, q, b, L, hC.before hB, hG.keep hI hC.at'.but (fun k hk => ?_), hL, fun hm => ?_, fun hm => ?_⟩
  · have := hL k hk; simp; omega
  · have := hlt q hm; have := hC.at'.fresh; omega
  · have := hlt b hm; have := hC.fresh; omega

theorem RunNew.before {S : Sub} {pt : S.τ} {a W w' : World} {x : Nat} {cs : Array Value} {T : TypeId} {fv : Value} (h : RunNew S pt W w' x cs T fv) (hb : But [x] a W) : RunNew S pt a w' x cs T fv := by
  obtain ⟨y, q, b, L, h1, h2, h3, h4, h5⟩ := h
  exact ⟨y, q, b, L, h1.before hb, h2, fun k hk => Nat.le_trans hb.size (h3 k hk), h4, h5⟩
theorem ws_notmem {l : List Nat} {x k : Nat} (h : x ∉ l) (hk : k ∈ l) : k ∉ [x] := fun hm => h ((List.mem_singleton.1 hm) ▸ hk)
theorem RunNew.but {S : Sub} {pt : S.τ} {W w' : World} {x : Nat} {cs : Array Value} {T : TypeId} {fv : Value} (h : RunNew S pt W w' x cs T fv) : But [x] W w' := by
  obtain ⟨y, q, b, L, h1, -⟩ := h
  exact h1.at'.but
theorem Came.but {W w' : World} {x : Nat} {cs : Array Value} {T : TypeId} {a : Ax} {f : Fol} (h : Came W w' x cs T a f) : But [x] W w' := by
  obtain ⟨_, _, _, _, h, _⟩ := h
  exact h
end Go.Proofs.YthbgoakaijeemaaGreat

namespace Go.Proofs.YthbgoakaijeemaaGreat
open Go Go.RowKit
set_option linter.unusedVariables false
set_option maxRecDepth 100000
set_option linter.unusedSimpArgs false

theorem below_of_blk {w w' : World} {q : Nat} {cs : Array Value} {T : TypeId} (hb : But [q] w w') (h : Blk w q cs T) (h' : Blk w' q cs T) : Below w.heap.size w w' :=
  ⟨hb.os, hb.tape, hb.output, hb.size, fun i hi => by
    by_cases hq : i = q
    · subst hq; rw [h.heap, h'.heap]
    · exact hb.block i hi (by simpa using hq)⟩
set_option maxHeartbeats 1000000 in
theorem sleeps_run (D : TypeId) (hn : ∀ (v : Value) (w : World), (binOp .neq 174 (.iface D v) .nilIface).run Tryz.prog w = .ok (.bool true) w) (w : World) (q cm y g : Nat) (z : Bool) (hq : Blk w q (runCellsD D y g false) 178)
    (hIS : ∀ W, But [q] w W → Blk W q (runCellsD D y g true) 178 → Calls Tryz.prog 178 #[.iface D (.pointer (some ⟨y, 0, none⟩)), .pointer (some ⟨cm, 0, none⟩)] W fun e w' => e = .returned (.bool z) ∧ Below W.heap.size W w') :
    Calls Tryz.prog 153 #[.pointer (some ⟨q, 0, none⟩), .pointer (some ⟨cm, 0, none⟩)] w fun e w' => e = .returned (.bool z) ∧ Below w.heap.size w w' := by
  have HQ : Hid (Blk w q (runCellsD D y g false) 178) := hq
  have hbm := Blk.new w #[.pointer (some ⟨cm, 0, none⟩)] 31
  have hq1 := hq.al (.cells #[.pointer (some ⟨cm, 0, none⟩)] 31)
  have hqlt := hq.lt
  have k6 := hq1.cell 6 (v := .iface D (.pointer (some ⟨y, 0, none⟩))) rfl
  have hask : Calls Tryz.prog 170 #[.pointer (some ⟨q, 0, none⟩), .func (.func 177) #[] #[.pointer (some ⟨w.heap.size, 0, none⟩)]] (w.alloc (.cells #[.pointer (some ⟨cm, 0, none⟩)] 31)) fun e w' => e = .returned (.bool z) ∧ Below w.heap.size w w' := by
    have hne : w.heap.size ≠ q := by omega
    have k9 := hq1.cell 9 (v := .bool false) rfl
    have f9 := hq1.fro 9
    have hq2 := hq1.set 9 (.bool true)
    have l6 := hq2.cell 6 (v := .iface D (.pointer (some ⟨y, 0, none⟩))) rfl
    have hb2 := hbm.setne hne 9 (.bool true)
    have b0 := hb2.cell 0 (v := .pointer (some ⟨cm, 0, none⟩)) rfl
    have hB2 : But [q] w ((w.alloc (.cells #[.pointer (some ⟨cm, 0, none⟩)] 31)).setCell ⟨q, 9, none⟩ (.bool true)) := ((But.refl [q] w).alloc _).set (g := q) (.inl (by simp)) 9 _
    have hst := hIS ((w.alloc (.cells #[.pointer (some ⟨cm, 0, none⟩)] 31)).setCell ⟨q, 9, none⟩ (.bool true)) hB2 hq2
    have hrun : Calls Tryz.prog 177 #[.iface D (.pointer (some ⟨y, 0, none⟩)), .pointer (some ⟨w.heap.size, 0, none⟩)] ((w.alloc (.cells #[.pointer (some ⟨cm, 0, none⟩)] 31)).setCell ⟨q, 9, none⟩ (.bool true)) fun e w' => e = .returned (.bool z) ∧ Blk w' q (runCellsD D y g true) 178 ∧ But [q] w w' := by
      have HQ2 : Hid (Blk ((w.alloc (.cells #[.pointer (some ⟨cm, 0, none⟩)] 31)).setCell ⟨q, 9, none⟩ (.bool true)) q (runCellsD D y g true) 178) := hq2
      have HB2 : Hid (But [q] w ((w.alloc (.cells #[.pointer (some ⟨cm, 0, none⟩)] 31)).setCell ⟨q, 9, none⟩ (.bool true))) := hB2
      clear hIS hq hbm hq1 k6 k9 f9 hq2 l6 hb2 hqlt hne hB2
      generalize (w.alloc (.cells #[.pointer (some ⟨cm, 0, none⟩)] 31)).setCell ⟨q, 9, none⟩ (.bool true) = W at *
      go_enter Tryz.func177, Tryz.ntmps177
      go_wp2_with fail
      go_at_call 178; refine hst.mono ?_; rintro e w1 ⟨rfl, h1⟩
      have h2 : Blk w1 q (runCellsD D y g true) 178 := HQ2.out.but (But.of_below (l := []) h1) (by simp)
      have h3 : But [q] w w1 := HB2.out.trans (But.of_below h1)
      clear hst h1
      go_wp2_with fail
      go_ret
      exact ⟨rfl, h2, h3⟩
    clear hIS hq hbm hq1 hq2 hb2 hst b0 hqlt hB2
    go_enter Tryz.func170, Tryz.ntmps170
    go_wp2_with fail
    generalize (w.alloc (.cells #[.pointer (some ⟨cm, 0, none⟩)] 31)).setCell ⟨q, 9, none⟩ (.bool true) = W at *
    go_at_call 177; refine hrun.mono ?_; rintro e w1 ⟨rfl, h1, h2⟩
    have m9 := h1.cell 9 (v := .bool true) rfl
    have g9 := h1.fro 9
    have HF : Hid (Below w.heap.size w (w1.setCell ⟨q, 9, none⟩ (.bool false))) := below_of_blk (h2.set (g := q) (.inl (by simp)) 9 _) HQ.out (h1.set 9 (.bool false))
    clear hrun l6 k9 f9 k6 h1 h2
    go_wp2_with fail
    go_ret
    exact ⟨rfl, HF.out⟩
  clear hIS hq hq1 hbm
  go_enter Tryz.func153, Tryz.ntmps153
  go_wp2_with fail
  generalize w.alloc (.cells #[.pointer (some ⟨cm, 0, none⟩)] 31) = W at *
  go_at_call 170; refine hask.mono ?_; rintro e w1 ⟨rfl, h1⟩
  clear hask k6
  go_wp2_with fail
  go_ret
  exact ⟨rfl, h1⟩
/-- Where what is run tells whether it is asleep. -/
def SlRun (D : TypeId) (F : Nat) : Prop := ∀ (w : World) (q cm y g : Nat) (z : Bool), Blk w q (runCellsD D y g false) 178 → (∀ W, But [q] w W → Blk W q (runCellsD D y g true) 178 → Calls Tryz.prog F #[.pointer (some ⟨y, 0, none⟩), .pointer (some ⟨cm, 0, none⟩)] W fun e w' => e = .returned (.bool z) ∧ Below W.heap.size W w') →
    Calls Tryz.prog 153 #[.pointer (some ⟨q, 0, none⟩), .pointer (some ⟨cm, 0, none⟩)] w fun e w' => e = .returned (.bool z) ∧ Below w.heap.size w w'
/-- Where it cannot tell. -/
def SlNo (D : TypeId) : Prop := ∀ (w : World) (q cm y g : Nat), Blk w q (runCellsD D y g false) 178 →
    Calls Tryz.prog 153 #[.pointer (some ⟨q, 0, none⟩), .pointer (some ⟨cm, 0, none⟩)] w fun e w' => e = .returned (.bool false) ∧ Below w.heap.size w w'
theorem isS_nsl (v : Value) (xT : TypeId) (w : World) : (Instr.typeAssert (.iface 155 v) xT 222 true).run Tryz.prog w = .ok (.tuple #[.iface 155 v, .bool true]) w := run_typeAssert_hasB Tryz.underlying222 (by kernel_rfl) v xT w
theorem slp_nsl : SlRun 155 246 := fun w q cm y g z hq hS => sleeps_run _ neqI_nsl w q cm y g z hq (fun W hB hQ => by
  have h := hS W hB hQ
  have hs := isS_nsl
  clear hq hS hB hQ
  go_enter Tryz.func178, Tryz.ntmps178
  go_wp2_with fail
  go_at_call 246; refine h.mono ?_; rintro e w1 ⟨rfl, h1⟩
  go_wp2_with fail
  go_ret
  exact ⟨rfl, h1⟩)
theorem isS_rnap (v : Value) (xT : TypeId) (w : World) : (Instr.typeAssert (.iface 81 v) xT 222 true).run Tryz.prog w = .ok (.tuple #[.iface 81 v, .bool true]) w := run_typeAssert_hasB Tryz.underlying222 (by kernel_rfl) v xT w
theorem slp_rnap : SlRun 81 48 := fun w q cm y g z hq hS => sleeps_run _ neqI_rnap w q cm y g z hq (fun W hB hQ => by
  have h := hS W hB hQ
  have hs := isS_rnap
  clear hq hS hB hQ
  go_enter Tryz.func178, Tryz.ntmps178
  go_wp2_with fail
  go_at_call 48; refine h.mono ?_; rintro e w1 ⟨rfl, h1⟩
  go_wp2_with fail
  go_ret
  exact ⟨rfl, h1⟩)
theorem isS_acq (v : Value) (xT : TypeId) (w : World) : (Instr.typeAssert (.iface 161 v) xT 222 true).run Tryz.prog w = .ok (.tuple #[.nilIface, .bool false]) w := run_typeAssert_lacksB Tryz.underlying222 (by kernel_rfl) (by kernel_rfl) v xT w
theorem slp_acq : SlNo 161 := fun w q cm y g hq => sleeps_run _ neqI_acq w q cm y g false hq (fun W hB hQ => by
  have hs := isS_acq
  clear hq hB hQ
  go_enter Tryz.func178, Tryz.ntmps178
  go_wp2_with fail
  go_ret
  exact ⟨rfl, Below.refl _ _⟩)
theorem isS_rel (v : Value) (xT : TypeId) (w : World) : (Instr.typeAssert (.iface 207 v) xT 222 true).run Tryz.prog w = .ok (.tuple #[.nilIface, .bool false]) w := run_typeAssert_lacksB Tryz.underlying222 (by kernel_rfl) (by kernel_rfl) v xT w
theorem slp_rel : SlNo 207 := fun w q cm y g hq => sleeps_run _ neqI_rel w q cm y g false hq (fun W hB hQ => by
  have hs := isS_rel
  clear hq hB hQ
  go_enter Tryz.func178, Tryz.ntmps178
  go_wp2_with fail
  go_ret
  exact ⟨rfl, Below.refl _ _⟩)
theorem isS_ipg (v : Value) (xT : TypeId) (w : World) : (Instr.typeAssert (.iface 129 v) xT 222 true).run Tryz.prog w = .ok (.tuple #[.nilIface, .bool false]) w := run_typeAssert_lacksB Tryz.underlying222 (by kernel_rfl) (by kernel_rfl) v xT w
theorem slp_ipg : SlNo 129 := fun w q cm y g hq => sleeps_run _ neqI_ipg w q cm y g false hq (fun W hB hQ => by
  have hs := isS_ipg
  clear hq hB hQ
  go_enter Tryz.func178, Tryz.ntmps178
  go_wp2_with fail
  go_ret
  exact ⟨rfl, Below.refl _ _⟩)
theorem isS_imp (v : Value) (xT : TypeId) (w : World) : (Instr.typeAssert (.iface 224 v) xT 222 true).run Tryz.prog w = .ok (.tuple #[.nilIface, .bool false]) w := run_typeAssert_lacksB Tryz.underlying222 (by kernel_rfl) (by kernel_rfl) v xT w
theorem slp_imp : SlNo 224 := fun w q cm y g hq => sleeps_run _ neqI_imp w q cm y g false hq (fun W hB hQ => by
  have hs := isS_imp
  clear hq hB hQ
  go_enter Tryz.func178, Tryz.ntmps178
  go_wp2_with fail
  go_ret
  exact ⟨rfl, Below.refl _ _⟩)
theorem isS_rspn (v : Value) (xT : TypeId) (w : World) : (Instr.typeAssert (.iface 87 v) xT 222 true).run Tryz.prog w = .ok (.tuple #[.nilIface, .bool false]) w := run_typeAssert_lacksB Tryz.underlying222 (by kernel_rfl) (by kernel_rfl) v xT w
theorem slp_rspn : SlNo 87 := fun w q cm y g hq => sleeps_run _ neqI_rspn w q cm y g false hq (fun W hB hQ => by
  have hs := isS_rspn
  clear hq hB hQ
  go_enter Tryz.func178, Tryz.ntmps178
  go_wp2_with fail
  go_ret
  exact ⟨rfl, Below.refl _ _⟩)
end Go.Proofs.YthbgoakaijeemaaGreat

namespace Go.Proofs.YthbgoakaijeemaaGreat
open Go Go.RowKit
set_option linter.unusedVariables false
set_option maxRecDepth 100000
set_option linter.unusedSimpArgs false

def nsCells (who : Int) (nx : Option Addr) (nt : Int) : Array Value := #[.int .i64 who, .pointer nx, .int .i64 nt]
/-- A sleep, as plain data: s1 ahead of the first look, s2 asleep. -/
inductive NsT where
  | s1
  | s2
  | cl
  | over
def nsPM (nt : Int) : PM NsT where
  ax := fun
    | .s1 => some (axLd nt)
    | .s2 => some (axWt nt)
    | .cl => some (axSt nt 0)
    | .over => none
  nx := fun
    | .s1, v => if v = 0 then .s2 else .cl
    | .s2, v => if v = 0 then .s2 else .cl
    | .cl, _ => .over
    | .over, _ => .over
def nsThn (x : Nat) : Value := .func (.func 149) #[.pointer (some ⟨x, 0, none⟩)] #[]
def nsI (who nt : Int) : MI NsT := fun w x t L => match t with
  | .s1 => ∃ q, Blk w x (nsCells who (some ⟨q, 0, none⟩) nt) 197 ∧ Blk w q (comCells 0 0 nt 0 0 false .nilIface (nsThn x) false false) 178 ∧ q ≠ x ∧ L = [x, q]
  | .s2 => ∃ q, Blk w x (nsCells who (some ⟨q, 0, none⟩) nt) 197 ∧ Blk w q (comCells 0 0 nt 0 0 false .nilIface (nsThn x) true false) 178 ∧ q ≠ x ∧ L = [x, q]
  | .cl => ∃ q Lc, Blk w x (nsCells who (some ⟨q, 0, none⟩) nt) 197 ∧ Com w x q (axSt nt 0) .nil Lc ∧ x ∉ Lc ∧ L = x :: Lc
  | .over => Blk w x (nsCells who none nt) 197 ∧ L = [x]
theorem ns_good (who nt : Int) : (nsI who nt).Good (nsPM nt) := by
  refine ⟨?_, ?_, ?_, ?_⟩
  · intro w w' x t L l h hb hk
    cases t with
    | s1 => obtain ⟨q, h1, h2, h3, rfl⟩ := h; exact ⟨q, h1.but hb (hk x (by simp)), h2.but hb (hk q (by simp)), h3, rfl⟩
    | s2 => obtain ⟨q, h1, h2, h3, rfl⟩ := h; exact ⟨q, h1.but hb (hk x (by simp)), h2.but hb (hk q (by simp)), h3, rfl⟩
    | cl => obtain ⟨q, Lc, h1, h2, h3, rfl⟩ := h; exact ⟨q, Lc, h1.but hb (hk x (by simp)), h2.but hb (fun k hm => hk k (by simp [hm])), h3, rfl⟩
    | over => obtain ⟨h1, rfl⟩ := h; exact ⟨h1.but hb (hk x (by simp)), rfl⟩
  · intro w x t L h k hk
    cases t with
    | s1 => obtain ⟨q, h1, h2, h3, rfl⟩ := h; simp at hk; rcases hk with rfl | rfl; exact h1.lt; exact h2.lt
    | s2 => obtain ⟨q, h1, h2, h3, rfl⟩ := h; simp at hk; rcases hk with rfl | rfl; exact h1.lt; exact h2.lt
    | cl => obtain ⟨q, Lc, h1, h2, h3, rfl⟩ := h; simp at hk; rcases hk with rfl | hk; exact h1.lt; exact h2.lt k hk
    | over => obtain ⟨h1, rfl⟩ := h; simp at hk; subst hk; exact h1.lt
  · intro w x t L h
    cases t with
    | s1 => obtain ⟨q, h1, h2, h3, rfl⟩ := h; simp
    | s2 => obtain ⟨q, h1, h2, h3, rfl⟩ := h; simp
    | cl => obtain ⟨q, Lc, h1, h2, h3, rfl⟩ := h; simp
    | over => obtain ⟨h1, rfl⟩ := h; simp
  · intro w x t L h
    cases t with
    | s1 => obtain ⟨q, h1, h2, h3, rfl⟩ := h; exact ⟨_, h1.cell 1 rfl, rfl⟩
    | s2 => obtain ⟨q, h1, h2, h3, rfl⟩ := h; exact ⟨_, h1.cell 1 rfl, rfl⟩
    | cl => obtain ⟨q, Lc, h1, h2, h3, rfl⟩ := h; exact ⟨_, h1.cell 1 rfl, rfl⟩
    | over => obtain ⟨h1, rfl⟩ := h; exact ⟨_, h1.cell 1 rfl, rfl⟩
theorem ns_axok (nt : Int) (t : NsT) : ∀ a, (nsPM nt).ax t = some a → a.Ok := by
  intro a h
  cases t with
  | s1 => cases h; exact axLd_ok _
  | s2 => cases h; exact axWt_ok _
  | cl => cases h; exact axSt_ok _ _ (by omega)
  | over => cases h
theorem ns_put (w : World) (x : Nat) (who nt u : Int) (nx : Option Addr) (h : Blk w x (nsCells who nx nt) 197) :
    Calls Tryz.prog 175 #[.pointer (some ⟨x, 0, none⟩), .int .u64 u] w fun e w' => (∃ v, e = .returned v) ∧ Came w w' x (nsCells who nx nt) 197 (axSt nt u) .nil := by
  have H := came_store_nil w.drew x _ 197 h.drew (by simp [nsCells]) nt u
  have c2 := h.cell 2 (v := .int .i64 nt) rfl
  clear h
  go_enter Tryz.func175, Tryz.ntmps175
  go_wp2_with fail
  go_region_with (first | (go_at_call 159; refine H.mono ?_; rintro e w1 ⟨⟨v, rfl⟩, hC⟩))
  all_goals
    have hC2 := hC.undrew
    clear H c2 hC
    go_wp2_with fail
    go_end0
    exact ⟨⟨_, rfl⟩, hC2⟩
theorem ns_clear (w : World) (x : Nat) (who nt u : Int) (nx : Option Addr) (h : Blk w x (nsCells who nx nt) 197) :
    Calls Tryz.prog 149 #[.pointer (some ⟨x, 0, none⟩), .int .u64 u] w fun e w' => (∃ v, e = .returned v) ∧ Came w w' x (nsCells who nx nt) 197 (axSt nt 0) .nil := by
  have H := ns_put w x who nt 0 nx h
  clear h
  go_enter Tryz.func149, Tryz.ntmps149
  go_wp2_with fail
  go_at_call 175; refine H.mono ?_; rintro e w1 ⟨⟨v, rfl⟩, hC⟩
  clear H
  go_wp2_with fail
  go_end0
  exact ⟨⟨_, rfl⟩, hC⟩
theorem ent_nscl : Ent 149 := fun args w => by kernel_rfl
theorem ns_act (i : Int) (n : Nat) (s : St) (who : Int) : ans 1 i 0 0 n s = actA 1 i 0 0 n s ∧ stp 1 who i 0 0 n s = actS 1 who i 0 0 n s := ⟨rfl, rfl⟩
section
variable {who nt : Int} {w : World} {A : Option Addr} {cp cm b n : Nat} {s : St} {x q : Nat} {asl : Bool}
/-- A look at the word, where it is not asleep. -/
theorem ns_look {K : Nat} (hK : StepBy K) (t : NsT) (a : Ax) (hax : (nsPM nt).ax t = some a) (ha : a.k = 1 ∧ a.i = nt ∧ a.old = 0 ∧ a.new = 0) (hz : PM.asl n a s = false) (hnx : ∀ v, (nsPM nt).nx t v = if v = 0 then .s2 else .cl) (hx : Blk w x (nsCells who (some ⟨q, 0, none⟩) nt) 197) (hq : Blk w q (comCells 0 0 nt 0 0 false .nilIface (nsThn x) asl false) 178) (hqx : q ≠ x) (hI : Is w 128 A cp cm b n s) (hn : n ≤ 1000000) (hl : Low s 1000000) (hxc : x ≠ cm ∧ x ≠ b) (hqc : q ≠ cm ∧ q ≠ b) (h0 : (asl && decide (peekT n s nt = 0)) = false) :
    Calls Tryz.prog K #[.pointer (some ⟨x, 0, none⟩), .pointer (some ⟨cm, 0, none⟩)] w fun e w' => e = .returned (.bool ((nsPM nt).ax ((nsPM nt).goT n t s)).isNone) ∧ ∃ L', (nsI who nt) w' x ((nsPM nt).goT n t s) L' ∧ Is w' 128 A cp cm b n ((nsPM nt).goS who n t s) ∧ But (cm :: b :: [x, q]) w w' ∧ ∀ k ∈ L', k ∈ [x, q] ∨ w.heap.size ≤ k := by
  obtain ⟨a1, a2, a3, a4⟩ := ha
  have eT : (nsPM nt).goT n t s = if actA 1 nt 0 0 n s = 0 then .s2 else .cl := by rw [PM.goT_some hax hz, hnx, a1, a2, a3, a4]
  have eS : (nsPM nt).goS who n t s = actS 1 who nt 0 0 n s := by rw [PM.goS_some hax hz, a1, a2, a3, a4]
  rw [eT, eS]
  have hact := act_sleep w A cp cm b n s q 0 who 0 nt 0 0 false (nsThn x) asl false hI hn hq rfl hl hqc.1 hqc.2 h0
  rw [(ns_act nt n s who).1, (ns_act nt n s who).2] at hact
  by_cases hv : actA 1 nt 0 0 n s = 0
  · rw [if_pos hv]
    rw [hv] at hact
    refine (hK w x _ (fun z w' => z = false ∧ Is w' 128 A cp cm b n (actS 1 who nt 0 0 n s) ∧ Blk w' q (comCells 0 0 nt 0 0 false .nilIface (nsThn x) true false) 178 ∧ But [cm, b, q] w w') ((step_on w x q cm _ 197 who 0 (fun w' => Is w' 128 A cp cm b n (actS 1 who nt 0 0 n s) ∧ Blk w' q (comCells 0 0 nt 0 0 false .nilIface (nsThn x) true false) 178 ∧ But [cm, b, q] w w') hx rfl rfl (hact.mono ?_) ?_).mono ?_)).mono ?_
    · rintro e w' ⟨rfl, h1, h2, h3⟩
      exact ⟨rfl, h1, h2, h3⟩
    · rintro W ⟨h1, h2, h3⟩
      exact hx.but h3 (by simp [hxc, Ne.symm hqx])
    · rintro e w' ⟨rfl, h⟩
      exact ⟨false, rfl, rfl, h⟩
    · rintro e w' ⟨z, rfl, rfl, h1, h2, h3⟩
      exact ⟨rfl, [x, q], ⟨q, hx.but h3 (by simp [hxc, Ne.symm hqx]), h2, hqx, rfl⟩, h1, h3.more (by intro k _ hk; simp at hk ⊢; omega), fun k hk => .inl hk⟩
  · rw [if_neg hv]
    refine hK.to (R := fun nx w' => nx.isNone = ((nsPM nt).ax NsT.cl).isNone ∧ ∃ L', (nsI who nt) w' x NsT.cl L' ∧ Is w' 128 A cp cm b n (actS 1 who nt 0 0 n s) ∧ But (cm :: b :: [x, q]) w w' ∧ ∀ k ∈ L', k ∈ [x, q] ∨ w.heap.size ≤ k) ?_ (fun nx w' h => h)
    refine step_over w x q cm 149 _ #[.pointer (some ⟨x, 0, none⟩)] #[] 197 who (actA 1 nt 0 0 n s) (comCells 0 0 nt 0 0 false .nilIface (nsThn x) (decide (actA 1 nt 0 0 n s = 0)) false) (fun w' => Is w' 128 A cp cm b n (actS 1 who nt 0 0 n s) ∧ Blk w' q (comCells 0 0 nt 0 0 false .nilIface (nsThn x) (decide (actA 1 nt 0 0 n s = 0)) false) 178 ∧ But [cm, b, q] w w') _ hx rfl rfl hqx (hact.mono ?_) (fun w => ent_nscl _ w) rfl ?_
    · rintro e w' ⟨rfl, h1, h2, h3⟩
      refine ⟨?_, h1, h2, h3⟩
      rw [decide_eq_true (show actA 1 nt 0 0 n s ≠ 0 from hv)]
    · rintro W ⟨h1, h2, h3⟩
      have hx1 := hx.but h3 (by simp [hxc, Ne.symm hqx])
      refine ⟨hx1, h2, ?_⟩
      have hx2 := hx1.set 1 (.pointer none)
      have hB2 : But [x] W (W.setCell ⟨x, 1, none⟩ (.pointer none)) := (But.refl _ W).set (g := x) (.inl (by simp)) 1 _
      have hlt := hx2.lt
      refine (ns_clear _ x who nt (actA 1 nt 0 0 n s) none hx2).mono ?_
      rintro e w' ⟨hv', q2, Lc, c1, c2, c3, c4⟩
      have hsz : w.heap.size ≤ (W.setCell ⟨x, 1, none⟩ (.pointer none)).heap.size := Nat.le_trans h3.size hB2.size
      refine ⟨hv', _, c1.cell 1 rfl, rfl, x :: Lc, ⟨q2, Lc, c1, c2, fun hm => by have := c4 x hm; omega, rfl⟩, (h1.but hB2 (by simpa using hxc.1.symm) (by simpa using hxc.2.symm)).but c3 (by simpa using hxc.1.symm) (by simpa using hxc.2.symm), ?_, fun k hk => ?_⟩
      · exact ((h3.more (by intro k _ hk; simp at hk ⊢; omega)).trans (hB2.more (by intro k _ hk; simp at hk ⊢; omega))).trans (c3.more (by intro k _ hk; simp at hk ⊢; omega))
      · simp at hk
        rcases hk with rfl | hk
        · exact .inl (by simp)
        · exact .inr (Nat.le_trans hsz (c4 k hk))
end
theorem ns_steps (who nt : Int) {K : Nat} (hK : StepBy K) : Steps (nsPM nt) (nsI who nt) Rd.nil K who := by
  intro w A cp cm b n s x t L h hR hI hn hl hf hcb
  cases t with
  | s1 =>
    obtain ⟨q, h1, h2, h3, rfl⟩ := h
    have hx := hf x (by simp)
    have hq := hf q (by simp)
    exact ns_look hK .s1 (axLd nt) rfl ⟨rfl, rfl, rfl, rfl⟩ (PM.asl_no rfl) (fun v => rfl) h1 h2 h3 hI hn hl ⟨hx.1, hx.2.1⟩ ⟨hq.1, hq.2.1⟩ rfl
  | s2 =>
    obtain ⟨q, h1, h2, h3, rfl⟩ := h
    have hx := hf x (by simp)
    have hq := hf q (by simp)
    by_cases h0 : peekT n s nt = 0
    · have hz : PM.asl n (axWt nt) s = true := by simp [PM.asl, axWt, h0]
      rw [PM.goT_asl (M := nsPM nt) (t := NsT.s2) (a := axWt nt) rfl hz, PM.goS_asl (M := nsPM nt) (t := NsT.s2) (a := axWt nt) rfl hz]
      have hact := act_still w A cp cm b n s q 0 who 0 nt 0 0 false (nsThn x) true false hI hn h2 rfl rfl h0
      refine (hK w x _ (fun z w' => z = false ∧ Below w.heap.size w w') ((step_on w x q cm _ 197 who 0 (fun w' => Below w.heap.size w w') h1 rfl rfl hact (fun W hb => h1.but (But.of_below (l := []) hb) (by simp))).mono ?_)).mono ?_
      · rintro e w' ⟨rfl, hb⟩
        exact ⟨false, rfl, rfl, hb⟩
      · rintro e w' ⟨z, rfl, rfl, hb⟩
        exact ⟨rfl, [x, q], (ns_good who nt).below (t := NsT.s2) (L := [x, q]) ⟨q, h1, h2, h3, rfl⟩ hb, hI.below hb, But.of_below hb, fun k hk => .inl hk⟩
    · exact ns_look hK .s2 (axWt nt) rfl ⟨rfl, rfl, rfl, rfl⟩ (by simp [PM.asl, axWt, h0]) (fun v => rfl) h1 h2 h3 hI hn hl ⟨hx.1, hx.2.1⟩ ⟨hq.1, hq.2.1⟩ (by simp [h0])
  | cl =>
    obtain ⟨q, Lc, h1, h2, h3, rfl⟩ := h
    have hx := hf x (by simp)
    have hax : (nsPM nt).ax NsT.cl = some (axSt nt 0) := rfl
    have eT : (nsPM nt).goT n NsT.cl s = .over := PM.goT_some hax (PM.asl_no rfl)
    have eS : (nsPM nt).goS who n NsT.cl s = actS 2 who nt 0 0 n s := PM.goS_some hax (PM.asl_no rfl)
    rw [eT, eS]
    refine hK.to (R := fun nx w' => nx.isNone = ((nsPM nt).ax NsT.over).isNone ∧ ∃ L', (nsI who nt) w' x NsT.over L' ∧ Is w' 128 A cp cm b n (actS 2 who nt 0 0 n s) ∧ But (cm :: b :: x :: Lc) w w' ∧ ∀ k ∈ L', k ∈ x :: Lc ∨ w.heap.size ≤ k) ?_ (fun nx w' h => h)
    refine acc_step w A cp cm b n s hI hn hl x q _ 197 who (axSt nt 0) .nil Lc h1 rfl rfl h2 (axSt_ok _ _ (by omega)) trivial ⟨hx.1, hx.2.1⟩ h3 (fun k hk => ⟨(hf k (by simp [hk])).1, (hf k (by simp [hk])).2.1⟩) _ ?_
    intro W hW hIW hB
    exact ⟨none, hW.cell 1 rfl, rfl, [x], ⟨hW, rfl⟩, hIW, hB.more (by intro k _ hk; simp at hk ⊢; omega), fun k hk => by simp at hk; exact .inl (by simp [hk])⟩
  | over =>
    obtain ⟨h1, rfl⟩ := h
    have eT : (nsPM nt).goT n NsT.over s = .over := rfl
    have eS : (nsPM nt).goS who n NsT.over s = s := rfl
    rw [eT, eS]
    refine (hK w x _ (fun z w' => z = true ∧ w = w') ((step_none w x cm (h1.cell 1 rfl)).mono ?_)).mono ?_
    · rintro e w' ⟨rfl, rfl⟩; exact ⟨true, rfl, rfl, rfl⟩
    · rintro e w' ⟨z, rfl, rfl, rfl⟩
      exact ⟨rfl, [x], ⟨h1, rfl⟩, hI, But.refl _ _, fun k hk => .inl hk⟩
end Go.Proofs.YthbgoakaijeemaaGreat

namespace Go.Proofs.YthbgoakaijeemaaGreat
open Go Go.RowKit
set_option linter.unusedVariables false
set_option maxRecDepth 100000
set_option linter.unusedSimpArgs false

theorem ns_of (w : World) (x cl : Nat) (who t P T G : Int) (h : Blk w x (nsCells 0 none 0) 197) (hl : Lay w cl P T G) (hp : 0 ≤ P ∧ P ≤ 64) (hT : 0 ≤ T ∧ T ≤ 65536) (hxc : cl ≠ x) :
    Calls Tryz.prog 147 #[.pointer (some ⟨x, 0, none⟩), .pointer (some ⟨cl, 0, none⟩), .int .i64 t, .int .i64 who] w fun e w' => (∃ v, e = .returned v) ∧ Blk w' x (nsCells who none (wd (20 + P * 264) T 3 t 0)) 197 ∧ But [x] w w' := by
  have hF := fof_any w x _ 197 who h (by simp [nsCells])
  have HH : Hid (Blk w x (nsCells 0 none 0) 197) := h
  have hlx := h.lt
  obtain ⟨W, hW⟩ : ∃ W, w.setCell ⟨x, 0, none⟩ (.int .i64 who) = W := ⟨_, rfl⟩
  have HB1 : Hid (But [x] w W) := by rw [← hW]; exact (But.refl _ w).set (g := x) (.inl (by simp)) 0 _
  have HX1 : Hid (Blk W x (nsCells who none 0) 197) := by rw [← hW]; exact h.set 0 (.int .i64 who)
  have hl1 : Lay W cl P T G := (HB1.out.block cl hl.lt (by simpa using hxc)).trans hl
  have hT1 := lthr_any _ P T G t 0 W (.some cl hl1) hp hT
  generalize wd (20 + P * 264) T 3 t 0 = nt at *
  clear h hl hl1 hp hT hxc
  go_enter Tryz.func147, Tryz.ntmps147
  go_wp2_with fail
  go_at_call 121; refine hF.mono ?_; rintro e w3 ⟨⟨v, rfl⟩, hw3⟩
  obtain rfl : w3 = W := hw3.trans hW
  clear hF hw3 hW
  go_wp2_with fail
  go_at_call 35; refine hT1.mono ?_; rintro e w4 ⟨rfl, hb4⟩
  have HX4 : Hid (Blk w4 x (nsCells who none 0) 197) := HX1.out.but (But.of_below (l := []) hb4) (by simp)
  have HB4 : Hid (But [x] w w4) := HB1.out.trans (But.of_below hb4)
  have c2 := HX4.out.cell 2 (v := .int .i64 0) rfl
  have f2 := HX4.out.fro 2
  have HX5 : Hid (Blk (w4.setCell ⟨x, 2, none⟩ (.int .i64 nt)) x (nsCells who none nt) 197) := HX4.out.set 2 _
  have HB5 : Hid (But [x] w (w4.setCell ⟨x, 2, none⟩ (.int .i64 nt))) := HB4.out.set (g := x) (.inl (by simp)) 2 _
  clear hT1 hb4 HX1 HB1 HX4 HB4 HH
  go_wp2_with fail
  go_end0
  exact ⟨⟨_, rfl⟩, HX5.out, HB5.out⟩
theorem sleep_come (w : World) (c : Nat) (cs : Array Value) (T : TypeId) (i : Int) (h : Blk w c cs T) (hs : 2 ≤ cs.size) (K : Nat) (first cap : Array Value) :
    Calls Tryz.prog 148 #[.pointer (some ⟨c, 0, none⟩), .int .i64 i, .func (.func K) first cap] w fun e w' => (∃ v, e = .returned v) ∧ ∃ q, CameAt w w' c cs T (comCells 0 0 i 0 0 false .nilIface (.func (.func K) first cap) false false) q := by
  have H := come_any w c cs T 0 0 i 0 0 false K first cap h hs
  clear h
  go_enter Tryz.func148, Tryz.ntmps148
  go_wp2_with fail
  go_at_call 139; refine H.mono ?_; rintro e w1 ⟨⟨v, rfl⟩, q, h1, h2, h3, h4⟩
  go_wp2_with fail
  go_end0
  exact ⟨⟨_, rfl⟩, q, h1, h2, h3, h4⟩
set_option maxHeartbeats 1000000 in
theorem ns_new (w : World) (cl : Nat) (t P T G : Int) (hl : Lay w cl P T G) (hp : 0 ≤ P ∧ P ≤ 64) (hT : 0 ≤ T ∧ T ≤ 65536) :
    Calls Tryz.prog 109 #[.pointer (some ⟨cl, 0, none⟩), .int .i64 t] w fun e w' => ∃ x L, e = .returned (.pointer (some ⟨x, 0, none⟩)) ∧ nsI t (wd (20 + P * 264) T 3 t 0) w' x NsT.s1 L ∧ Below w.heap.size w w' ∧ w.heap.size ≤ x ∧ (∀ k ∈ L, w.heap.size ≤ k) ∧ ∃ a, w'.cell? ⟨x, 1, none⟩ = some (.pointer (some a)) := by
  have hB := Blk.new w (nsCells 0 none 0) 197
  have hb : Below w.heap.size w (w.alloc (.cells (nsCells 0 none 0) 197)) := (Below.refl _ _).alloc (Nat.le_refl _) _
  have hO := ns_of _ w.heap.size cl t t P T G hB (hl.below hb hl.lt) hp hT (by have := hl.lt; omega)
  have HH : Hid (Below w.heap.size w (w.alloc (.cells (nsCells 0 none 0) 197))) := hb
  have hsz := World.size_alloc w (.cells (nsCells 0 none 0) 197)
  generalize wd (20 + P * 264) T 3 t 0 = nt at *
  clear hB hb hl hp hT
  unfold nsCells at hO HH hsz
  go_enter Tryz.func109, Tryz.ntmps109
  go_wp2_with fail
  go_at_call 147; refine hO.mono ?_; rintro e w1 ⟨⟨v, rfl⟩, h1, h2⟩
  have hb1 : Hid (Below w.heap.size w w1) := HH.out.trans (h2.below (by simp) (by rw [hsz]; omega))
  have h1' : Blk w1 w.heap.size (nsCells t none nt) 197 := h1
  have c2 := h1'.drew.cell 2 (v := .int .i64 nt) rfl
  have c2' := h1'.cell 2 (v := .int .i64 nt) rfl
  have hL := sleep_come w1.drew w.heap.size _ 197 nt h1'.drew (by simp [nsCells]) 149 #[.pointer (some ⟨w.heap.size, 0, none⟩)] #[]
  have h1lt := h1'.lt
  clear hO h1 h1' h2 HH hsz
  go_wp2_with fail
  go_region_with (first | (go_at_call 148; refine hL.mono ?_; rintro e w2 ⟨⟨v2, rfl⟩, q, hC⟩))
  all_goals
    have hs1 := hb1.out.size
    have hw1 : w.heap.size < w1.heap.size := h1lt
    have hfr : w1.heap.size ≤ q := hC.fresh
    have hF : Hid (nsI t nt w2 w.heap.size NsT.s1 [w.heap.size, q] ∧ Below w.heap.size w w2 ∧ (∀ k ∈ [w.heap.size, q], w.heap.size ≤ k) ∧ ∃ a, w2.cell? ⟨w.heap.size, 1, none⟩ = some (.pointer (some a))) := by
      refine ⟨⟨q, hC.own, hC.com, by omega, rfl⟩, hb1.out.trans ((((But.refl [w.heap.size] w1).drew).trans hC.but).below (by simp) hs1), fun k hk => ?_, _, hC.own.cell 1 rfl⟩
      simp at hk
      rcases hk with rfl | rfl <;> omega
    clear hL hC c2 c2'
    go_wp2_with fail
    go_ret
    exact ⟨w.heap.size, [w.heap.size, q], rfl, hF.out.1, hF.out.2.1, Nat.le_refl _, hF.out.2.2.1, hF.out.2.2.2⟩
/-- Is a machine asleep right now. -/
def PM.aslp {σ : Type} (M : PM σ) (n : Nat) (t : σ) (s : St) : Bool := match M.ax t with
  | none => false
  | some a => PM.asl n a s
def Aslp {σ : Type} (M : PM σ) (I : MI σ) (F : Nat) : Prop :=
  ∀ (w : World) (A : Option Addr) (cp cm b n : Nat) (s : St) (x : Nat) (t : σ) (L : List Nat), I w x t L → Is w 128 A cp cm b n s → n ≤ 1000000 → (∀ k ∈ L, k ≠ cm ∧ k ≠ b) →
    Calls Tryz.prog F #[.pointer (some ⟨x, 0, none⟩), .pointer (some ⟨cm, 0, none⟩)] w fun e w' => e = .returned (.bool (M.aslp n t s)) ∧ Below w.heap.size w w'
theorem com_asleep {w : World} {A : Option Addr} {cp cm b n : Nat} {s : St} {x q : Nat} {a : Ax} {f : Fol} {Lc : List Nat} (h : Com w x q a f Lc) (hI : Is w 128 A cp cm b n s) (hn : n ≤ 1000000) :
    Calls Tryz.prog 153 #[.pointer (some ⟨q, 0, none⟩), .pointer (some ⟨cm, 0, none⟩)] w fun e w' => e = .returned (.bool false) ∧ Below w.heap.size w w' := by
  cases h with
  | told K h => exact sleeps_any w A cp cm b n s q a.k 0 a.i a.old a.new false _ false false hI hn h
  | box f g h1 h2 h3 h4 => exact sleeps_any w A cp cm b n s q a.k 0 a.i a.old a.new false _ false false hI hn h2
theorem ns_aslp (who nt : Int) : Aslp (nsPM nt) (nsI who nt) 246 := by
  intro w A cp cm b n s x t L h hI hn hf
  cases t with
  | s1 =>
    obtain ⟨q, h1, h2, h3, rfl⟩ := h
    exact asleepby_nsl w x _ _ _ (asleep_some w x q cm _ _ (h1.cell 1 rfl) (sleeps_any w A cp cm b n s q 0 0 nt 0 0 false _ false false hI hn h2))
  | s2 =>
    obtain ⟨q, h1, h2, h3, rfl⟩ := h
    exact asleepby_nsl w x _ _ _ (asleep_some w x q cm _ _ (h1.cell 1 rfl) (sleeps_any w A cp cm b n s q 0 0 nt 0 0 false _ true false hI hn h2))
  | cl =>
    obtain ⟨q, Lc, h1, h2, h3, rfl⟩ := h
    exact asleepby_nsl w x _ _ _ (asleep_some w x q cm _ _ (h1.cell 1 rfl) (com_asleep h2 hI hn))
  | over =>
    obtain ⟨h1, rfl⟩ := h
    refine asleepby_nsl w x _ false (fun w' => Below w.heap.size w w') ((asleep_none w x _ (h1.cell 1 rfl)).mono ?_)
    rintro e w' ⟨rfl, rfl⟩
    exact ⟨rfl, Below.refl _ _⟩
/-- How what is run tells whether it is asleep. -/
def Sub.Slp (S : Sub) : Prop := (∃ F, SlRun S.D F ∧ Aslp S.M S.I F) ∨ (SlNo S.D ∧ ∀ t a, S.M.ax t = some a → a.sl = false)
theorem Cp.aslp {σ : Type} {C : Cp σ} {M : PM σ} {R : Rd} {who : Int} (hL : C.Laws M R who) (hS : ∀ t S p af, C.ok t → C.kind t = .run S p af → S.Slp ∧ S.I.Good S.M) {F : Nat} (hF : ∀ (w : World) (x : Nat) (mv : Value) (z : Bool) (M : World → Prop), (Calls Tryz.prog 112 #[.pointer (some ⟨x, 0, none⟩), mv] w fun e w' => e = .returned (.bool z) ∧ M w') → Calls Tryz.prog F #[.pointer (some ⟨x, 0, none⟩), mv] w fun e w' => e = .returned (.bool z) ∧ M w') : Aslp M C.I F := by
  intro w A cp cm b n s x t L h hI hn hf
  obtain ⟨hok, es, Le, he, hxe, h⟩ := h
  cases hkd : C.kind t with
  | over =>
    rw [hkd] at h
    have hz : M.aslp n t s = false := by unfold PM.aslp; rw [hL.k0 t hok hkd]
    rw [hz]
    refine hF w x _ false (fun w' => Below w.heap.size w w') ((asleep_none w x _ (h.1.cell 1 (hL.c1 _ _ _))).mono ?_)
    rintro e w' ⟨rfl, rfl⟩
    exact ⟨rfl, Below.refl _ _⟩
  | acc a f =>
    rw [hkd] at h
    obtain ⟨q, Lc, h1, h2, -⟩ := h
    have hz : M.aslp n t s = false := by unfold PM.aslp; rw [(hL.k1 t a f hok hkd).1]; exact PM.asl_no (hL.ns t a f hkd)
    rw [hz]
    exact hF w x _ _ _ (asleep_some w x q cm _ _ (h1.cell 1 (hL.c1 _ _ _)) (com_asleep h2 hI hn))
  | run S p af =>
    rw [hkd] at h
    obtain ⟨q, y, g, Li, h1, h2, hty, h3, h4, h5, h6, rfl⟩ := h
    obtain ⟨hax, hsome, -, -⟩ := hL.k2 t S p af hok hkd
    obtain ⟨hsl, hG⟩ := hS t S p af hok hkd
    have hz : M.aslp n t s = S.M.aslp n p s := by unfold PM.aslp; rw [hax]
    rw [hz]
    refine hF w x _ _ _ (asleep_some w x q cm _ (fun w' => Below w.heap.size w w') (h1.hx.cell 1 (hL.c1 _ _ _)) ?_)
    have hqc := hf q (by simp)
    rcases hsl with ⟨FA, hr, ha⟩ | ⟨hno, hns⟩
    · refine hr w q cm y g _ h1.hq (fun W hB hQ => ?_)
      exact ha W A cp cm b n s y p Li (hG.keep h2 hB (fun k hk => by simp; rintro rfl; exact h4 hk)) (hI.but hB (by simpa using hqc.1.symm) (by simpa using hqc.2.symm)) hn (fun k hk => hf k (by simp [hk]))
    · have hz2 : S.M.aslp n p s = false := by
        unfold PM.aslp
        cases hp : S.M.ax p with
        | none => rfl
        | some a => exact PM.asl_no (hns p a hp)
      rw [hz2]
      exact hno w q cm y g h1.hq
end Go.Proofs.YthbgoakaijeemaaGreat

namespace Go.Proofs.YthbgoakaijeemaaGreat
open Go Go.RowKit
set_option linter.unusedVariables false
set_option maxRecDepth 100000
set_option linter.unusedSimpArgs false

theorem wk_given (w : World) (v : Int) (hv : 0 ≤ v ∧ v ≤ 18446744073709551615) :
    Calls Tryz.prog 30 #[.int .u64 v] w fun e w' => e = .returned (.tuple #[.int .i64 (v % 4294967296 - 1), .bool (decide (4294967296 ≤ v))]) ∧ w = w' := by
  have e1 : Int.tmod v 4294967296 = v % 4294967296 := Int.tmod_eq_emod_of_nonneg hv.1
  have e2 : IntKind.u64.wrap (v % 4294967296) = v % 4294967296 := wrap_u64 (by omega)
  have e3 : IntKind.i64.wrap (v % 4294967296) = v % 4294967296 := by
    simp only [IntKind.wrap, IntKind.bits, IntKind.signed]
    simp
    omega
  have e4 : wrap64 (v % 4294967296 - 1) = v % 4294967296 - 1 := by unfold wrap64; omega
  clear hv
  go_enter Tryz.func30, Tryz.ntmps30
  go_wp2_with fail
  go_ret2
  exact ⟨rfl, rfl⟩
end Go.Proofs.YthbgoakaijeemaaGreat
