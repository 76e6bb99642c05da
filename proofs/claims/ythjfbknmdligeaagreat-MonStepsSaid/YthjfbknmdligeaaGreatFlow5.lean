/- The contract of a flow's Step. -/
import Derived.Test.YthjfbknmdligeaaGreatFlow4
namespace Go.Proofs.YthjfbknmdligeaaGreat
open Go Go.RowKit
set_option linter.unusedVariables false
set_option maxRecDepth 100000
set_option linter.unusedSimpArgs false

theorem step_none (w : World) (c cm : Nat) (c1 : w.cell? ⟨c, 1, none⟩ = some (.pointer none)) :
    Calls Tryz.prog 52 #[.pointer (some ⟨c, 0, none⟩), .pointer (some ⟨cm, 0, none⟩)] w fun e w' => e = .returned (.bool true) ∧ w = w' := by
  have hD := fdone_any w c _ c1
  go_enter Tryz.func52, Tryz.ntmps52
  go_wp2_with fail
  go_at_call 78; refine hD.mono ?_; rintro e w1 ⟨rfl, rfl⟩
  go_wp2_with fail
  go_ret
  exact ⟨rfl, rfl⟩

theorem step_over (w : World) (c q cm K : Nat) (cs first cap : Array Value) (T : TypeId) (who a : Int) (com' : Array Value) (M : World → Prop) (R : Option Addr → World → Prop)
    (hc : Blk w c cs T) (hwho : cs[0]? = some (.int .i64 who)) (hnx : cs[1]? = some (.pointer (some ⟨q, 0, none⟩))) (hqc : q ≠ c)
    (hact : Calls Tryz.prog 79 #[.pointer (some ⟨q, 0, none⟩), .int .i64 who, .pointer (some ⟨cm, 0, none⟩)] w fun e w' => e = .returned (.tuple #[.int .u64 a, .bool true]) ∧ M w')
    (hent : ∀ w, (callFunc K (first.push (.int .u64 a) ++ cap)).run Tryz.prog w = .ok (.enter K (first.push (.int .u64 a) ++ cap)) w)
    (hthn : com'[7]? = some (.func (.func K) first cap))
    (hM : ∀ W, M W → Blk W c cs T ∧ Blk W q com' 148 ∧ Calls Tryz.prog K (first.push (.int .u64 a) ++ cap) (W.setCell ⟨c, 1, none⟩ (.pointer none)) fun e w' => (∃ v, e = .returned v) ∧ ∃ nx, w'.cell? ⟨c, 1, none⟩ = some (.pointer nx) ∧ R nx w') :
    Calls Tryz.prog 52 #[.pointer (some ⟨c, 0, none⟩), .pointer (some ⟨cm, 0, none⟩)] w fun e w' => ∃ nx, e = .returned (.bool nx.isNone) ∧ R nx w' := by
  have c0 := hc.cell 0 hwho
  have c1 := hc.cell 1 hnx
  have hD := fdone_any w c _ c1
  have HM : Hid (∀ W, M W → Blk W c cs T ∧ Blk W q com' 148 ∧ Calls Tryz.prog K (first.push (.int .u64 a) ++ cap) (W.setCell ⟨c, 1, none⟩ (.pointer none)) fun e w' => (∃ v, e = .returned v) ∧ ∃ nx, w'.cell? ⟨c, 1, none⟩ = some (.pointer nx) ∧ R nx w') := hM
  clear hM
  go_enter Tryz.func52, Tryz.ntmps52
  go_wp2_with fail
  go_at_call 78; refine hD.mono ?_; rintro e w1 ⟨rfl, rfl⟩
  go_wp2_with fail
  go_at_call 79; refine hact.mono ?_; rintro e w1 ⟨rfl, hm⟩
  obtain ⟨hc1, hq1, hthen⟩ := HM.out w1 hm
  have k1 := hc1.cell 1 hnx
  have f1 := hc1.fro 1
  have k7 := hq1.cell 7 hthn
  clear hact hm HM hc hD
  go_wp2_with fail
  refine hthen.mono ?_
  rintro e w2 ⟨⟨v, rfl⟩, nx, hx, hR⟩
  have hD := fdone_any w2 c nx hx
  clear hthen k1 f1 k7 hc1 hq1 c0 c1
  go_wp2_with fail
  go_at_call 78; refine hD.mono ?_; rintro e w1 ⟨rfl, rfl⟩
  go_wp2_with fail
  go_ret
  exact ⟨nx, rfl, hR⟩

/-- What comes is not over: a sleep, or a machine that goes on. -/
theorem step_on (w : World) (c q cm : Nat) (cs : Array Value) (T : TypeId) (who a : Int) (M : World → Prop)
    (hc : Blk w c cs T) (hwho : cs[0]? = some (.int .i64 who)) (hnx : cs[1]? = some (.pointer (some ⟨q, 0, none⟩)))
    (hact : Calls Tryz.prog 79 #[.pointer (some ⟨q, 0, none⟩), .int .i64 who, .pointer (some ⟨cm, 0, none⟩)] w fun e w' => e = .returned (.tuple #[.int .u64 a, .bool false]) ∧ M w')
    (hM : ∀ W, M W → Blk W c cs T) :
    Calls Tryz.prog 52 #[.pointer (some ⟨c, 0, none⟩), .pointer (some ⟨cm, 0, none⟩)] w fun e w' => e = .returned (.bool false) ∧ M w' := by
  have c0 := hc.cell 0 hwho
  have c1 := hc.cell 1 hnx
  have hD := fdone_any w c _ c1
  have HM : Hid (∀ W, M W → Blk W c cs T) := hM
  clear hM
  go_enter Tryz.func52, Tryz.ntmps52
  go_wp2_with fail
  go_at_call 78; refine hD.mono ?_; rintro e w1 ⟨rfl, rfl⟩
  go_wp2_with fail
  go_at_call 79; refine hact.mono ?_; rintro e w1 ⟨rfl, hm⟩
  have k1 := (HM.out w1 hm).cell 1 hnx
  have hD1 := fdone_any w1 c _ k1
  clear hact hc hD c0 c1
  go_wp2_with fail
  go_at_call 78; refine hD1.mono ?_; rintro e w1 ⟨rfl, rfl⟩
  go_wp2_with fail
  go_ret
  exact ⟨rfl, hm⟩

/-- Whether a flow is asleep: what comes is asked. -/
theorem asleep_none (w : World) (c : Nat) (mv : Value) (c1 : w.cell? ⟨c, 1, none⟩ = some (.pointer none)) :
    Calls Tryz.prog 236 #[.pointer (some ⟨c, 0, none⟩), mv] w fun e w' => e = .returned (.bool false) ∧ w = w' := by
  have hD := fdone_any w c _ c1
  go_enter Tryz.func236, Tryz.ntmps236
  go_wp2_with fail
  go_at_call 78; refine hD.mono ?_; rintro e w1 ⟨rfl, rfl⟩
  go_wp2_with fail
  go_ret
  exact ⟨rfl, rfl⟩
theorem asleep_some (w : World) (c q cm : Nat) (z : Bool) (M : World → Prop) (c1 : w.cell? ⟨c, 1, none⟩ = some (.pointer (some ⟨q, 0, none⟩)))
    (hs : Calls Tryz.prog 97 #[.pointer (some ⟨q, 0, none⟩), .pointer (some ⟨cm, 0, none⟩)] w fun e w' => e = .returned (.bool z) ∧ M w') :
    Calls Tryz.prog 236 #[.pointer (some ⟨c, 0, none⟩), .pointer (some ⟨cm, 0, none⟩)] w fun e w' => e = .returned (.bool z) ∧ M w' := by
  have hD := fdone_any w c _ c1
  go_enter Tryz.func236, Tryz.ntmps236
  go_wp2_with fail
  go_at_call 78; refine hD.mono ?_; rintro e w1 ⟨rfl, rfl⟩
  go_wp2_with fail
  go_at_call 97; refine hs.mono ?_; rintro e w1 ⟨rfl, h1⟩
  go_wp2_with fail
  go_ret
  exact ⟨rfl, h1⟩
end Go.Proofs.YthjfbknmdligeaaGreat
