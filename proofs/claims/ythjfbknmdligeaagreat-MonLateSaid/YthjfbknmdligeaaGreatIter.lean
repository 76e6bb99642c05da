/- A machine that is gone on with by itself, so many steps. -/
import Derived.Test.YthjfbknmdligeaaGreatLaw
namespace Go.Proofs.YthjfbknmdligeaaGreat
open Go Go.RowKit
set_option linter.unusedVariables false
set_option maxRecDepth 100000
set_option linter.unusedSimpArgs false

/-- So many steps of a machine. -/
def PM.steps {σ : Type} (M : PM σ) (who : Int) (n : Nat) : Nat → σ × St → σ × St
  | 0, p => p
  | k + 1, p => PM.steps M who n k (M.goT n p.1 p.2, M.goS who n p.1 p.2)
theorem PM.steps_succ {σ : Type} (M : PM σ) (who : Int) (n : Nat) : ∀ (k : Nat) (p : σ × St), M.steps who n (k + 1) p = (M.goT n (M.steps who n k p).1 (M.steps who n k p).2, M.goS who n (M.steps who n k p).1 (M.steps who n k p).2)
  | 0, p => rfl
  | k + 1, p => PM.steps_succ M who n k (M.goT n p.1 p.2, M.goS who n p.1 p.2)
theorem PM.steps_low {σ : Type} (M : PM σ) (who : Int) (n : Nat) {m : Int} : ∀ (k : Nat) (p : σ × St), Low p.2 m → Low (M.steps who n k p).2 (m + k)
  | 0, p, h => h.more (by omega)
  | k + 1, p, h => (PM.steps_low M who n k (M.goT n p.1 p.2, M.goS who n p.1 p.2) (PM.goS_low h)).more (by omega)

/-- A machine over a memory, apart, with what is only read. -/
structure Solo {σ : Type} (I : MI σ) (R : Rd) (W0 w : World) (A : Option Addr) (cap c b n : Nat) (s : St) (x : Nat) (t : σ) (L : List Nat) : Prop where
  mem : Is w 114 A cap c b n s
  mach : I w x t L
  rd : R.P w
  far : ∀ k ∈ L, k ≠ c ∧ k ≠ b ∧ k ∉ R.B
  rfar : c ∉ R.B ∧ b ∉ R.B
  up : W0.heap.size ≤ c ∧ W0.heap.size ≤ b ∧ ∀ k ∈ L, W0.heap.size ≤ k
  rlt : ∀ k ∈ R.B, k < w.heap.size
  below : Below W0.heap.size W0 w
section
variable {σ : Type} {I : MI σ} {M : PM σ} {R Rm : Rd} {W0 w w' : World} {A : Option Addr} {cap c b n : Nat} {s : St} {x : Nat} {t : σ} {L : List Nat}
theorem Solo.still (hG : I.Good M) (h : Solo I R W0 w A cap c b n s x t L) (hb : Below w.heap.size w w') : Solo I R W0 w' A cap c b n s x t L :=
  ⟨h.mem.below hb, hG.below h.mach hb, R.below h.rd hb, h.far, h.rfar, h.up, fun k hk => Nat.lt_of_lt_of_le (h.rlt k hk) hb.size, h.below.trans (hb.mono h.below.size)⟩
theorem Solo.step (hG : I.Good M) {F : Nat} {who : Int} (hS : Steps M I Rm F who) (hRm : ∀ w, R.P w → Rm.P w) (hRb : ∀ k ∈ Rm.B, k ∈ R.B) (h : Solo I R W0 w A cap c b n s x t L) (hn : n ≤ 1000000) (hl : Low s 1000000) :
    Calls Tryz.prog F #[.pointer (some ⟨x, 0, none⟩), .pointer (some ⟨c, 0, none⟩)] w fun e w' => (e = .returned (.bool (M.ax (M.goT n t s)).isNone)) ∧ ∃ L', Solo I R W0 w' A cap c b n (M.goS who n t s) x (M.goT n t s) L' := by
  refine (hS w A cap c b n s x t L h.mach (hRm w h.rd) h.mem hn hl (fun k hk => ⟨(h.far k hk).1, (h.far k hk).2.1, fun hr => (h.far k hk).2.2 (hRb k hr)⟩) ⟨fun hr => h.rfar.1 (hRb c hr), fun hr => h.rfar.2 (hRb b hr)⟩).mono ?_
  rintro e w' ⟨rfl, L', a1, a2, a3, a4⟩
  have hsz := h.below.size
  have k1 := h.mem.lt
  have k2 := h.mem.bl
  refine ⟨rfl, L', a2, a1, R.keep _ _ _ h.rd a3 (fun k hk => ?_), fun k hk => ?_, h.rfar, ⟨h.up.1, h.up.2.1, fun k hk => ?_⟩, fun k hk => Nat.lt_of_lt_of_le (h.rlt k hk) a3.size, h.below.trans (a3.below ?_ hsz)⟩
  · simp only [List.mem_cons, not_or]
    exact ⟨fun e => h.rfar.1 (e ▸ hk), fun e => h.rfar.2 (e ▸ hk), fun hm => (h.far k hm).2.2 hk⟩
  · rcases a4 k hk with h1 | h1
    · exact h.far k h1
    · exact ⟨by omega, by omega, fun hr => by have := h.rlt k hr; omega⟩
  · rcases a4 k hk with h1 | h1
    · exact h.up.2.2 k h1
    · omega
  · intro k hk
    simp only [List.mem_cons] at hk
    rcases hk with rfl | rfl | hk
    · exact h.up.1
    · exact h.up.2.1
    · exact h.up.2.2 k hk
/-- How it begins. -/
theorem Solo.begin {w2 w3 : World} (hm : Is w2 114 A cap c b n s) (hb : Below w2.heap.size w2 w3) (hB2 : Below W0.heap.size W0 w2) (hup : W0.heap.size ≤ c ∧ W0.heap.size ≤ b) (hi : I w3 x t L) (hL : ∀ k ∈ L, w2.heap.size ≤ k) (hr : R.P w2) (hrl : ∀ k ∈ R.B, k < w2.heap.size) (hrf : c ∉ R.B ∧ b ∉ R.B) : Solo I R W0 w3 A cap c b n s x t L := by
  have k1 := hm.lt
  have k2 := hm.bl
  have hsz := hB2.size
  refine ⟨hm.below hb, hi, R.below hr hb, fun k hk => ?_, hrf, ⟨hup.1, hup.2, fun k hk => Nat.le_trans hsz (hL k hk)⟩, fun k hk => Nat.lt_of_lt_of_le (hrl k hk) hb.size, hB2.trans (hb.mono hsz)⟩
  have h1 := hL k hk
  exact ⟨by omega, by omega, fun hr => by have := hrl k hr; omega⟩
end
end Go.Proofs.YthjfbknmdligeaaGreat
