/- Chains: what was answered. -/
import Derived.Test.YtlnjjcfkcoaceaaChn6
namespace Go.Proofs.Ytlnjjcfkcoaceaa
open Go Go.RowKit
set_option linter.unusedVariables false
set_option maxRecDepth 100000
set_option linter.unusedSimpArgs false

theorem GotOn.seen {w : World} {A : Option Addr} {cap m : Nat} {g : Nat → Int} (h : GotOn w A cap m g) : SeesU w w.heap.size A m g := fun hm => by
  rcases h.form with ⟨-, h0, -⟩ | ⟨gb, e, hl⟩
  · omega
  · refine ⟨gb, 0, e, hl, fun i hi => ?_⟩
    obtain ⟨gb2, e2, hc⟩ := h.cell hi
    rw [e] at e2
    cases e2
    rw [Nat.zero_add]
    exact hc
theorem CS.gots {w : World} {x : Nat} {who : Int} {ba N : Nat} {L : Nat → Acc} {r q : Nat} {asl : Bool} {Ag : Option Addr} {capg : Nat} {g : Nat → Int} (h : CS w x who ba N L r q asl Ag capg g) : w.cell? ⟨x, 4, none⟩ = some (.slice Ag r capg) ∧ GotOn w Ag capg r g := by
  cases h with
  | next r q n' asl Ag capg g e hC hq h1 h2 h3 =>
    obtain ⟨av, B, cb, hA, hM⟩ := hC.main
    exact ⟨hM.cell 4 rfl, hC.got⟩
  | over Ag capg g av parts hM hG hf => exact ⟨hM.cell 4 rfl, hG⟩
theorem chain_got (w : World) (x : Nat) (who : Int) (ba N : Nat) (L : Nat → Acc) (r q : Nat) (asl : Bool) (Ag : Option Addr) (capg : Nat) (g : Nat → Int) (h : CS w x who ba N L r q asl Ag capg g) (hr : r ≤ 1000000) :
    Calls Try.prog 24 #[.pointer (some ⟨x, 0, none⟩)] w fun e w' => ∃ v, e = .returned v ∧ w'.ownsRow w.heap.size 34 1 v r (wordCells g r) ∧ Below w.heap.size w w' := by
  obtain ⟨c4, hG⟩ := h.gots
  have hC := clone_any Ag r capg g w hr (fun e => by
    rcases hG.form with ⟨-, h0, h1⟩ | ⟨gb, e2, hl⟩
    · exact ⟨h0, h1⟩
    · rw [e2] at e; cases e) hG.seen
  clear h hG
  go_enter Try.func24, Try.ntmps24
  go_wp2_with fail
  go_at_call 69; refine hC.mono ?_; rintro e w1 ⟨v, rfl, h1, h2⟩
  go_wp2_with fail
  go_ret
  exact ⟨_, rfl, h1, h2⟩
end Go.Proofs.Ytlnjjcfkcoaceaa
