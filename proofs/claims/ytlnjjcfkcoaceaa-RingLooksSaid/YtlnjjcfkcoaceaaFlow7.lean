/- The steps of machines that sleep. -/
import Derived.Test.YtlnjjcfkcoaceaaLock3
namespace Go.Proofs.Ytlnjjcfkcoaceaa
open Go Go.RowKit
set_option linter.unusedVariables false
set_option maxRecDepth 100000
set_option linter.unusedSimpArgs false

theorem ans_peek (i : Int) (n : Nat) (s : St) : ans 1 i 0 0 n s = peekT n s i := by
  unfold ans peekT
  split <;> simp

section
variable (w : World) (A : Option Addr) (cp cm b n : Nat) (s : St) (hI : Is w 122 A cp cm b n s) (hn : n ≤ 1000000) (hl : Low s 1000000)
include hI hn

section
variable (x q K : Nat) (cs first cap : Array Value) (T : TypeId) (who ao i old new : Int) (d asl asked : Bool) (hx : Blk w x cs T) (h0 : cs[0]? = some (.int .i64 who)) (h1 : cs[1]? = some (.pointer (some ⟨q, 0, none⟩)))
    (hq : Blk w q (comCells 0 ao i old new d .nilIface (.func (.func K) first cap) asl asked) 199) (hne : q ≠ x) (hxc : x ≠ cm) (hxb : x ≠ b) (hqc : q ≠ cm) (hqb : q ≠ b)
include hx h0 h1 hq hne hxc hxb hqc hqb

/-- A step of a machine that sleeps at a word that is not 0: what follows follows. -/
theorem step_wake (hl : Low s 1000000) (hv : peekT n s i ≠ 0) (Post : Option Addr → World → Prop)
    (hent : ∀ w, (callFunc K (first.push (.int .u64 (peekT n s i)) ++ cap)).run Try.prog w = .ok (.enter K (first.push (.int .u64 (peekT n s i)) ++ cap)) w)
    (hthen : ∀ W, Is W 122 A cp cm b n (stp 1 who i 0 0 n s) → But [cm, b, q] w W → Blk W x cs T → Calls Try.prog K (first.push (.int .u64 (peekT n s i)) ++ cap) (W.setCell ⟨x, 1, none⟩ (.pointer none)) fun e w' => (∃ v, e = .returned v) ∧ ∃ nx, w'.cell? ⟨x, 1, none⟩ = some (.pointer nx) ∧ Post nx w') :
    Calls Try.prog 84 #[.pointer (some ⟨x, 0, none⟩), .pointer (some ⟨cm, 0, none⟩)] w fun e w' => ∃ z, e = .returned (.bool z) ∧ ∃ nx, z = nx.isNone ∧ Post nx w' := by
  have hA := act_sleep w A cp cm b n s q 0 who ao i old new d _ asl asked hI hn hq rfl hl hqc hqb (by simp [hv])
  rw [ans_peek, decide_eq_true hv, decide_eq_false hv] at hA
  refine (step_over w x q cm K cs first cap T who (peekT n s i) (comCells 0 ao i old new d .nilIface (.func (.func K) first cap) false asked) (fun W => Is W 122 A cp cm b n (stp 1 who i 0 0 n s) ∧ Blk W q (comCells 0 ao i old new d .nilIface (.func (.func K) first cap) false asked) 199 ∧ But [cm, b, q] w W) Post hx h0 h1 hne hA hent rfl ?_).mono ?_
  · rintro W ⟨hM, hQ, hB⟩
    have hx1 := hx.but hB (by simp [hxc, hxb, Ne.symm hne])
    exact ⟨hx1, hQ, hthen W hM hB hx1⟩
  · rintro e w' ⟨nx, rfl, hP⟩
    exact ⟨_, rfl, nx, rfl, hP⟩
/-- .. at a word that is 0, for the first time. -/
theorem step_doze (hl : Low s 1000000) (hv : peekT n s i = 0) (ha : asl = false) :
    Calls Try.prog 84 #[.pointer (some ⟨x, 0, none⟩), .pointer (some ⟨cm, 0, none⟩)] w fun e w' => e = .returned (.bool false) ∧ Is w' 122 A cp cm b n (stp 1 who i 0 0 n s) ∧ Blk w' q (comCells 0 ao i old new d .nilIface (.func (.func K) first cap) true asked) 199 ∧ But [cm, b, q] w w' := by
  have hA := act_sleep w A cp cm b n s q 0 who ao i old new d _ asl asked hI hn hq rfl hl hqc hqb (by simp [ha])
  rw [ans_peek, hv] at hA
  exact step_on w x q cm cs T who 0 (fun w' => Is w' 122 A cp cm b n (stp 1 who i 0 0 n s) ∧ Blk w' q (comCells 0 ao i old new d .nilIface (.func (.func K) first cap) true asked) 199 ∧ But [cm, b, q] w w') hx h0 h1 hA (fun W hM => hx.but hM.2.2 (by simp [hxc, hxb, Ne.symm hne]))
omit hne hxc hxb hqc hqb in
/-- .. that is 0 still. -/
theorem step_still (hv : peekT n s i = 0) (ha : asl = true) :
    Calls Try.prog 84 #[.pointer (some ⟨x, 0, none⟩), .pointer (some ⟨cm, 0, none⟩)] w fun e w' => e = .returned (.bool false) ∧ Below w.heap.size w w' :=
  step_on w x q cm cs T who 0 (fun w' => Below w.heap.size w w') hx h0 h1 (act_still w A cp cm b n s q 0 who ao i old new d _ asl asked hI hn hq rfl ha hv) (fun W hM => hx.but (But.of_below (l := []) hM) (by simp))
end
end
end Go.Proofs.Ytlnjjcfkcoaceaa
