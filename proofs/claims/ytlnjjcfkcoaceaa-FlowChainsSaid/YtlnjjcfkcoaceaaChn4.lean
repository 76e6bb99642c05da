/- Chains: a step at which an access is done. -/
import Derived.Test.YtlnjjcfkcoaceaaChn3
namespace Go.Proofs.Ytlnjjcfkcoaceaa
open Go Go.RowKit
set_option linter.unusedVariables false
set_option maxRecDepth 100000
set_option linter.unusedSimpArgs false

/-- .. asleep, or not. -/
def comAs (a : Acc) (x : Nat) (asl : Bool) : Array Value := comCells a.k a.p a.i a.o a.v a.z .nilIface (.func (.func 119) #[.pointer (some ⟨x, 0, none⟩)] #[]) asl false

/-- How far a chain of N accesses is: r are done; what comes next lies at block q. -/
inductive CS (w : World) (x : Nat) (who : Int) (ba N : Nat) (L : Nat → Acc) : Nat → Nat → Bool → Option Addr → Nat → (Nat → Int) → Prop
  | next (r q n' : Nat) (asl : Bool) (Ag : Option Addr) (capg : Nat) (g : Nat → Int) : N = r + 1 + n' → Chn w x who (some ⟨q, 0, none⟩) ba (r + 1) n' L Ag capg r g → Blk w q (comAs (L r) x asl) 199 → q ≠ x → q ≠ ba → GotFar Ag [q] → CS w x who ba N L r q asl Ag capg g
  | over (Ag : Option Addr) (capg : Nat) (g : Nat → Int) (av parts : Value) : Blk w x (chCells who none av parts (.slice Ag N capg)) 128 → GotOn w Ag capg N g → GotFar Ag [x] → CS w x who ba N L N x false Ag capg g

theorem CS.nxt {w : World} {x : Nat} {who : Int} {ba N : Nat} {L : Nat → Acc} {r q : Nat} {asl : Bool} {Ag : Option Addr} {capg : Nat} {g : Nat → Int} (h : CS w x who ba N L r q asl Ag capg g) : ∃ nx, w.cell? ⟨x, 1, none⟩ = some (.pointer nx) ∧ nx.isNone = decide (r = N) := by
  cases h with
  | next r q n' asl Ag capg g e hC hq h1 h2 h3 =>
    obtain ⟨av, B, cb, hA, hM⟩ := hC.main
    exact ⟨_, hM.cell 1 rfl, (decide_eq_false (show ¬ r = N by omega)).symm⟩
  | over Ag capg g av parts hM hG hf => exact ⟨_, hM.cell 1 rfl, by simp⟩

/-- What was made to come is taken out. -/
theorem Chn.taken {w W : World} {x : Nat} {who : Int} {nx : Option Addr} {ba r n : Nat} {L : Nat → Acc} {Ag : Option Addr} {capg m : Nat} {g : Nat → Int} {l : List Nat} (h : Chn w x who nx ba r n L Ag capg m g) (hB : But l w W) (hx : x ∉ l) (hb : ba ∉ l) (hg : GotFar Ag l) :
    Chn (W.setCell ⟨x, 1, none⟩ (.pointer none)) x who none ba r n L Ag capg m g := by
  obtain ⟨av, B, cb, hA, hM⟩ := h.main
  have hs : But [x] W (W.setCell ⟨x, 1, none⟩ (.pointer none)) := (But.refl [x] W).set (g := x) (.inl (by simp)) 1 _
  refine ⟨⟨av, B, cb, hA, (hM.but hB hx).set 1 (.pointer none)⟩, (h.sees.but hB hb h.lt).but hs (by simp [h.ne]) (Nat.lt_of_lt_of_le h.lt hB.size), (h.got.but hB hg).but hs (fun k e => by have := h.far k e; simp at this; simp [this]), by rw [size_set]; exact Nat.lt_of_lt_of_le h.lt hB.size, h.ne, h.far⟩

set_option maxHeartbeats 1000000 in
theorem chain_acc (w : World) (A : Option Addr) (cp cm b n : Nat) (s : St) (hI : Is w 122 A cp cm b n s) (hn : n ≤ 1000000) (hl : Low s 1000000) (x : Nat) (who : Int) (ba N : Nat) (L : Nat → Acc) (r q : Nat) (Ag : Option Addr) (capg : Nat) (g : Nat → Int)
    (h : CS w x who ba N L r q false Ag capg g) (hr : r < N) (hN : N ≤ 1000) (hk : 1 ≤ (L r).k ∧ (L r).k ≤ 4) (hv : 0 ≤ (L r).v ∧ (L r).v ≤ 18446744073709551615)
    (fx : x ≠ cm ∧ x ≠ b) (fq : q ≠ cm ∧ q ≠ b) (fb : ba ≠ cm ∧ ba ≠ b) (fg : GotFar Ag [cm, b]) :
    Calls Try.prog 21 #[.pointer (some ⟨x, 0, none⟩), .pointer (some ⟨cm, 0, none⟩)] w fun e w' => e = .returned (.bool (decide (r + 1 = N))) ∧ ∃ q' gb capg', CS w' x who ba N L (r + 1) q' false (some ⟨gb, 0, none⟩) capg' (gsnoc g r (actA (L r).k (L r).i (L r).o (L r).v n s)) ∧ Is w' 122 A cp cm b n (actS (L r).k who (L r).i (L r).o (L r).v n s) ∧ But (cm :: b :: x :: gotL Ag) w w' ∧ (q' = x ∨ w.heap.size ≤ q') ∧ (Ag = some ⟨gb, 0, none⟩ ∨ w.heap.size ≤ gb) := by
  cases h with
  | over Ag capg g av parts hM hG hf => omega
  | next r q n' asl Ag capg g e hC hq hqx hqb hgq =>
    obtain ⟨av, B, cb, hA, hM⟩ := hC.main
    have hgL := gotL_not hC.got hC.far (k := x) (by simp)
    have hgc := gotL_not hC.got fg (k := cm) (by simp)
    have hgb := gotL_not hC.got fg (k := b) (by simp)
    refine (chain_step _ x _ (fun z w' => z = decide (r + 1 = N) ∧ ∃ q' gb capg', CS w' x who ba N L (r + 1) q' false (some ⟨gb, 0, none⟩) capg' (gsnoc g r (actA (L r).k (L r).i (L r).o (L r).v n s)) ∧ Is w' 122 A cp cm b n (actS (L r).k who (L r).i (L r).o (L r).v n s) ∧ But (cm :: b :: x :: gotL Ag) w w' ∧ (q' = x ∨ w.heap.size ≤ q') ∧ (Ag = some ⟨gb, 0, none⟩ ∨ w.heap.size ≤ gb))
      ((step_acc w A cp cm b n s hI hn hl x q 119 _ #[.pointer (some ⟨x, 0, none⟩)] #[] 128 (L r).k who (L r).p (L r).i (L r).o (L r).v (L r).z false false (fun nx w' => nx.isNone = decide (r + 1 = N) ∧ ∃ q' gb capg', CS w' x who ba N L (r + 1) q' false (some ⟨gb, 0, none⟩) capg' (gsnoc g r (actA (L r).k (L r).i (L r).o (L r).v n s)) ∧ Is w' 122 A cp cm b n (actS (L r).k who (L r).i (L r).o (L r).v n s) ∧ But (cm :: b :: x :: gotL Ag) w w' ∧ (q' = x ∨ w.heap.size ≤ q') ∧ (Ag = some ⟨gb, 0, none⟩ ∨ w.heap.size ≤ gb)) hM rfl rfl hq hqx hk hv fx.1 fx.2 fq.1 fq.2 (fun w => ent119 _ w) ?_).mono ?_)).mono ?_
    · intro W hIW hB hx1
      have hT := hC.taken hB (by simp [fx]) (by simp [fb]) fg
      have hIs : Is (W.setCell ⟨x, 1, none⟩ (.pointer none)) 122 A cp cm b n (actS (L r).k who (L r).i (L r).o (L r).v n s) := hIW.keep (by rw [size_set]; exact Nat.le_refl _) (heap_set_ne _ (Ne.symm fx.1) _ _) (fun _ => heap_set_ne _ (Ne.symm fx.2) _ _)
      have hBs : But (cm :: b :: x :: gotL Ag) w (W.setCell ⟨x, 1, none⟩ (.pointer none)) := (hB.more (by intro k _ hk; simp at hk; rcases hk with rfl | rfl <;> simp)).set (g := x) (.inl (by simp)) 1 _
      have hsz : w.heap.size ≤ (W.setCell ⟨x, 1, none⟩ (.pointer none)).heap.size := hBs.size
      refine (keep_any _ x who none ba (r + 1) n' L Ag capg r g (actA (L r).k (L r).i (L r).o (L r).v n s) hT (by omega) (by omega)).mono ?_
      rintro e w' ⟨hv, hK⟩
      cases hK with
      | last gb cap2 h0 hC2 hB2 hg2 =>
        obtain ⟨av2, B2, cb2, hA2, hM2⟩ := hC2.main
        obtain rfl : N = r + 1 := by omega
        refine ⟨hv, none, hM2.cell 1 rfl, by simp, x, gb, cap2, .over _ _ _ av2 _ hM2 hC2.got (fun k e => by have := hC2.far k e; simp at this; simp [this]), hIs.but hB2 (by simp [Ne.symm fx.1, hgc]) (by simp [Ne.symm fx.2, hgb]), hBs.trans (hB2.more (by intro k _ hk; simp at hk; rcases hk with rfl | hk <;> simp [*])), .inl rfl, ?_⟩
        rcases hg2 with e | e
        · exact .inl e
        · exact .inr (by omega)
      | more q2 gb cap2 n2 hn2 hq2 hQ2 hqg hC2 hB2 hg2 =>
        obtain ⟨av2, B2, cb2, hA2, hM2⟩ := hC2.main
        have hxl := hT.main
        have hlt := hT.lt
        refine ⟨hv, some ⟨q2, 0, none⟩, hM2.cell 1 rfl, (decide_eq_false (show ¬ r + 1 = N by omega)).symm, q2, gb, cap2, .next _ _ n2 _ _ _ _ (by omega) hC2 hQ2 ?_ (by omega) (fun k e => by cases e; simp; exact fun h => hqg h.symm), hIs.but hB2 (by simp [Ne.symm fx.1, hgc]) (by simp [Ne.symm fx.2, hgb]), hBs.trans (hB2.more (by intro k _ hk; simp at hk; rcases hk with rfl | hk <;> simp [*])), .inr (by omega), ?_⟩
        · have := hx1.lt
          rw [size_set] at hq2
          omega
        · rcases hg2 with e | e
          · exact .inl e
          · exact .inr (by omega)
    · rintro e w' ⟨z, rfl, nx, rfl, h1, h2⟩
      exact ⟨_, rfl, h1, h2⟩
    · rintro e w' ⟨z, rfl, rfl, h2⟩
      exact ⟨rfl, h2⟩
end Go.Proofs.Ytlnjjcfkcoaceaa
