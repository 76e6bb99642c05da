/- The machines of locks: what their steps let follow. -/
import Derived.Test.YthjfbknmdligeaaGreatFlow6
import Derived.Test.YthjfbknmdligeaaGreatFlow2
import Derived.Test.YthjfbknmdligeaaGreatLay
import Derived.Deep.RegionWith
namespace Go.Proofs.YthjfbknmdligeaaGreat
open Go Go.RowKit
set_option linter.unusedVariables false
set_option maxRecDepth 100000
set_option linter.unusedSimpArgs false

theorem CameAt.undrew {w w' : World} {c q : Nat} {cs com : Array Value} {T : TypeId} (h : CameAt w.drew w' c cs T com q) : CameAt w w' c cs T com q := ⟨h.fresh, h.own, h.com, ((But.refl _ w).drew).trans h.but⟩
theorem CameBox.undrew {w w' : World} {c q g : Nat} {cs : Array Value} {com : Value → Array Value} {fv : Value} {T : TypeId} (h : CameBox w.drew w' c cs T com fv q g) : CameBox w w' c cs T com fv q g := ⟨h.at'.undrew, h.fresh, h.box, h.ne⟩

def acqCells (who : Int) (nx : Option Addr) (sv ow turn : Int) (known : Bool) : Array Value := #[.int .i64 who, .pointer nx, .int .i64 sv, .int .i64 ow, .int .u64 turn, .bool known]
def relCells (who : Int) (nx : Option Addr) (sv : Int) : Array Value := #[.int .i64 who, .pointer nx, .int .i64 sv]

theorem wait_any (w : World) (x : Nat) (who sv ow turn : Int) (nx : Option Addr) (known : Bool) (h : Blk w x (acqCells who nx sv ow turn known) 188) :
    Calls Tryz.prog 141 #[.pointer (some ⟨x, 0, none⟩)] w fun e w' => (∃ v, e = .returned v) ∧ ∃ q, CameAt w w' x (acqCells who nx sv ow turn known) 188 (comCells 1 0 sv 0 0 false .nilIface (.func (.func 143) #[.pointer (some ⟨x, 0, none⟩)] #[]) false false) q := by
  have H := load_come w.drew x _ 188 sv h.drew (by simp [acqCells]) 143 #[.pointer (some ⟨x, 0, none⟩)] #[]
  have c2 := h.cell 2 (v := .int .i64 sv) rfl
  clear h
  go_enter Tryz.func141, Tryz.ntmps141
  go_wp2_with fail
  go_region_with (go_at_call 83; refine H.mono ?_; rintro e w1 ⟨⟨v, rfl⟩, q, hC⟩)
  all_goals
    go_wp2_with fail
    go_end0
    exact ⟨⟨_, rfl⟩, q, hC.undrew⟩

theorem wrap_u64 {a : Int} (h : 0 ≤ a ∧ a ≤ 18446744073709551615) : IntKind.u64.wrap a = a := by
  have e : IntKind.u64.wrap a = a % 18446744073709551616 := by simp [IntKind.wrap, IntKind.bits, IntKind.signed]
  rw [e]
  omega
/-- The turn that a ticket draws. -/
def turnOf (a : Int) : Int := (a + 4294967295) % 4294967296

theorem draw_any (w : World) (x : Nat) (who sv ow turn a : Int) (nx : Option Addr) (known : Bool) (h : Blk w x (acqCells who nx sv ow turn known) 188) (ha : 0 ≤ a ∧ a ≤ 18446744073709551615) :
    Calls Tryz.prog 137 #[.pointer (some ⟨x, 0, none⟩), .int .u64 a] w fun e w' => (∃ v, e = .returned v) ∧ ∃ q, CameAt w w' x (acqCells who nx sv ow (turnOf a) true) 188 (comCells 1 0 sv 0 0 false .nilIface (.func (.func 143) #[.pointer (some ⟨x, 0, none⟩)] #[]) false false) q := by
  have c4 := h.cell 4 (v := .int .u64 turn) rfl
  have c5 := h.cell 5 (v := .bool known) rfl
  have f4 := h.fro 4
  have f5 := h.fro 5
  have hs := (h.set 4 (.int .u64 (turnOf a))).set 5 (.bool true)
  have hB : But [x] w ((w.setCell ⟨x, 4, none⟩ (.int .u64 (turnOf a))).setCell ⟨x, 5, none⟩ (.bool true)) := ((But.refl _ w).set (g := x) (.inl (by simp)) 4 _).set (g := x) (.inl (by simp)) 5 _
  have H : Hid (Blk _ x (acqCells who nx sv ow (turnOf a) true) 188 ∧ But [x] w _) := ⟨hs, hB⟩
  clear h hs hB
  have hz : ∃ z, IntKind.u64.wrap (a - 1) = z ∧ 0 ≤ z ∧ z ≤ 18446744073709551615 ∧ z.tmod 4294967296 = turnOf a := by
    unfold turnOf
    by_cases h0 : a = 0
    · subst h0
      exact ⟨18446744073709551615, by decide, by omega, by omega, by decide⟩
    · refine ⟨a - 1, wrap_u64 (by omega), by omega, by omega, ?_⟩
      rw [Int.tmod_eq_emod_of_nonneg (by omega)]
      omega
  obtain ⟨z, hz1, hz2, hz3, hz4⟩ := hz
  generalize turnOf a = t at *
  go_enter Tryz.func137, Tryz.ntmps137
  go_wp2_with fail
  go_at_call 141; refine (wait_any _ x who sv ow t nx true H.out.1).mono ?_; rintro e w1 ⟨⟨v, rfl⟩, q, hC⟩
  have hF : CameAt w w1 x _ 188 _ q := ⟨by have := hC.fresh; rw [size_set, size_set] at this; exact this, hC.own, hC.com, H.out.2.trans hC.but⟩
  clear hC c4 c5 f4 f5
  go_wp2_with fail
  go_end0
  exact ⟨⟨_, rfl⟩, q, hF⟩

theorem who_any (w : World) (c : Nat) (who : Int) (c0 : w.cell? ⟨c, 0, none⟩ = some (.int .i64 who)) :
    Calls Tryz.prog 119 #[.pointer (some ⟨c, 0, none⟩)] w fun e w' => e = .returned (.int .i64 who) ∧ w = w' := by
  go_enter Tryz.func119, Tryz.ntmps119
  go_wp2_with fail
  go_ret
  exact ⟨rfl, rfl⟩

theorem serve_not (w : World) (x : Nat) (who sv ow turn a : Int) (nx : Option Addr) (known : Bool) (h : Blk w x (acqCells who nx sv ow turn known) 188) (ha : a ≠ turn) :
    Calls Tryz.prog 143 #[.pointer (some ⟨x, 0, none⟩), .int .u64 a] w fun e w' => (∃ v, e = .returned v) ∧ ∃ q, CameAt w w' x (acqCells who nx sv ow turn known) 188 (comCells 1 0 sv 0 0 false .nilIface (.func (.func 143) #[.pointer (some ⟨x, 0, none⟩)] #[]) false false) q := by
  have c4 := h.cell 4 (v := .int .u64 turn) rfl
  have hW := wait_any w x who sv ow turn nx known h
  have hd : decide (a = turn) = false := by simpa using ha
  clear h
  go_enter Tryz.func143, Tryz.ntmps143
  go_wp2_with fail
  go_at_call 141; refine hW.mono ?_; rintro e w1 ⟨⟨v, rfl⟩, q, hC⟩
  clear hW c4
  go_wp2_with fail
  refine bodyPost_ret (results_none rfl _ _ _) rfl ?_
  exact ⟨⟨_, rfl⟩, q, hC⟩
theorem serve_has (w : World) (x : Nat) (who sv ow turn : Int) (nx : Option Addr) (known : Bool) (h : Blk w x (acqCells who nx sv ow turn known) 188) (hw : 0 ≤ who ∧ who ≤ 1000000) :
    Calls Tryz.prog 143 #[.pointer (some ⟨x, 0, none⟩), .int .u64 turn] w fun e w' => (∃ v, e = .returned v) ∧ ∃ q g, CameBox w w' x (acqCells who nx sv ow turn known) 188 (fun v => comCells 2 0 ow 0 (who + 1) false .nilIface v false false) .nilFunc q g := by
  have c0 := h.cell 0 (v := .int .i64 who) rfl
  have c3 := h.cell 3 (v := .int .i64 ow) rfl
  have c4 := h.cell 4 (v := .int .u64 turn) rfl
  have hW := store_come w.drew x _ 188 ow (who + 1) h.drew (by simp [acqCells]) .nilFunc .none
  have hO := who_any w.drew x who (h.drew.cell 0 rfl)
  have w1 : IntKind.u64.wrap who = who := wrap_u64 (by omega)
  have w2 : IntKind.u64.wrap (who + 1) = who + 1 := wrap_u64 (by omega)
  clear h
  go_enter Tryz.func143, Tryz.ntmps143
  go_wp2_with fail
  go_region_with (first | (go_at_call 119; refine hO.mono ?_; rintro e w3 ⟨rfl, rfl⟩) | (go_at_call 114; refine hW.mono ?_; rintro e w4 ⟨⟨v, rfl⟩, q, g, hC⟩))
  all_goals
    clear hW hO w1 w2 c0 c3 c4
    go_wp2_with fail
    go_end0
    exact ⟨⟨_, rfl⟩, q, g, hC.undrew⟩
theorem pass_any (w : World) (x : Nat) (who sv : Int) (nx : Option Addr) (h : Blk w x (relCells who nx sv) 196) :
    Calls Tryz.prog 150 #[.pointer (some ⟨x, 0, none⟩)] w fun e w' => (∃ v, e = .returned v) ∧ ∃ q g, CameBox w w' x (relCells who nx sv) 196 (fun v => comCells 4 0 sv 0 1 false .nilIface v false false) .nilFunc q g := by
  have c2 := h.cell 2 (v := .int .i64 sv) rfl
  have hW := add_come_nil w.drew x _ 196 sv 1 h.drew (by simp [relCells])
  clear h
  go_enter Tryz.func150, Tryz.ntmps150
  go_wp2_with fail
  go_region_with (go_at_call 135; refine hW.mono ?_; rintro e w4 ⟨⟨v, rfl⟩, q, g, hC⟩)
  all_goals
    clear hW c2
    go_wp2_with fail
    go_end0
    exact ⟨⟨_, rfl⟩, q, g, hC.undrew⟩
end Go.Proofs.YthjfbknmdligeaaGreat
