/- Machines in one memory that take their turns; lists that are spelled out. -/
import Derived.Test.YtcjidigpdecdlaaIter
import Derived.Test.YtcjidigpdecdlaaIntsR
namespace Go.Proofs.Ytcjidigpdecdlaa
open Go Go.RowKit
set_option linter.unusedVariables false
set_option maxRecDepth 100000
set_option linter.unusedSimpArgs false

/-- A machine that is only kept. -/
def Rd.mach {σ : Type} {I : MI σ} {M : PM σ} (hG : I.Good M) (x : Nat) (t : σ) (L : List Nat) : Rd := ⟨L, fun w => I w x t L, fun w w' l h hb hk => hG.keep h hb hk⟩
section
variable {σ : Type} {I : MI σ} {M : PM σ} {R Rm : Rd} {W0 w w' : World} {A : Option Addr} {cap c b n : Nat} {s : St} {x : Nat} {t : σ} {L : List Nat}
theorem Solo.again (h : Solo I R W0 w A cap c b n s x t L) {τ : Type} {J : MI τ} {R2 : Rd} {y : Nat} {u : τ} {K : List Nat} (hm : J w y u K) (hr : R2.P w) (hB : ∀ k ∈ K, k ∈ R.B) (hR : ∀ k ∈ R2.B, k ∈ R.B) (hK : ∀ k ∈ K, k ∉ R2.B) (hup : ∀ k ∈ K, W0.heap.size ≤ k) : Solo J R2 W0 w A cap c b n s y u K :=
  ⟨h.mem, hm, hr, fun k hk => ⟨fun e => h.rfar.1 (e ▸ hB k hk), fun e => h.rfar.2 (e ▸ hB k hk), hK k hk⟩, ⟨fun hm => h.rfar.1 (hR _ hm), fun hm => h.rfar.2 (hR _ hm)⟩, ⟨h.up.1, h.up.2.1, hup⟩, fun k hk => h.rlt k (hR k hk), h.below⟩
end
theorem lit1_sees (w : World) (a : Int) : RI.SeesL (w.alloc (.cells #[.int .i64 a] 3)) (.slice (some ⟨w.heap.size, 0, none⟩) 1 1) [a] := by
  have hX := Blk.new w #[.int .i64 a] 3
  refine ⟨_, 1, rfl, (fun h => by cases h), fun _ => ⟨w.heap.size, 0, rfl, hX.lt, fun j hj => ?_⟩⟩
  have hj4 : j < 1 := hj
  obtain rfl : j = 0 := by omega
  exact hX.cell 0 rfl
theorem lit2_sees (w : World) (a b : Int) : RI.SeesL (w.alloc (.cells #[.int .i64 a, .int .i64 b] 3)) (.slice (some ⟨w.heap.size, 0, none⟩) 2 2) [a, b] := by
  have hX := Blk.new w #[.int .i64 a, .int .i64 b] 3
  refine ⟨_, 2, rfl, (fun h => by cases h), fun _ => ⟨w.heap.size, 0, rfl, hX.lt, fun j hj => ?_⟩⟩
  have hj4 : j < 2 := hj
  rcases (by omega : j = 0 ∨ j = 1) with rfl | rfl
  · exact hX.cell 0 rfl
  · exact hX.cell 1 rfl
theorem lit3_sees (w : World) (a b c : Int) : RI.SeesL (w.alloc (.cells #[.int .i64 a, .int .i64 b, .int .i64 c] 3)) (.slice (some ⟨w.heap.size, 0, none⟩) 3 3) [a, b, c] := by
  have hX := Blk.new w #[.int .i64 a, .int .i64 b, .int .i64 c] 3
  refine ⟨_, 3, rfl, (fun h => by cases h), fun _ => ⟨w.heap.size, 0, rfl, hX.lt, fun j hj => ?_⟩⟩
  have hj4 : j < 3 := hj
  rcases (by omega : j = 0 ∨ j = 1 ∨ j = 2) with rfl | rfl | rfl
  · exact hX.cell 0 rfl
  · exact hX.cell 1 rfl
  · exact hX.cell 2 rfl

section
variable {σ : Type} {I : MI σ} {M : PM σ} {R Rm : Rd} {W0 w w' : World} {A : Option Addr} {cap c b n : Nat} {s : St} {x : Nat} {t : σ} {L : List Nat}
theorem Solo.stepUp (hG : I.Good M) {F : Nat} {who : Int} (hS : Steps M I Rm F who) (hRm : ∀ w, R.P w → Rm.P w) (hRb : ∀ k ∈ Rm.B, k ∈ R.B) (h : Solo I R W0 w A cap c b n s x t L) (hn : n ≤ 1000000) (hl : Low s 1000000) :
    Calls Try.prog F #[.pointer (some ⟨x, 0, none⟩), .pointer (some ⟨c, 0, none⟩)] w fun e w' => (e = .returned (.bool (M.ax (M.goT n t s)).isNone)) ∧ w.heap.size ≤ w'.heap.size ∧ ∃ L', Solo I R W0 w' A cap c b n (M.goS who n t s) x (M.goT n t s) L' := by
  refine (hS w A cap c b n s x t L h.mach (hRm w h.rd) h.mem hn hl (fun k hk => ⟨(h.far k hk).1, (h.far k hk).2.1, fun hr => (h.far k hk).2.2 (hRb k hr)⟩) ⟨fun hr => h.rfar.1 (hRb c hr), fun hr => h.rfar.2 (hRb b hr)⟩).mono ?_
  rintro e w' ⟨rfl, L', a1, a2, a3, a4⟩
  have hsz := h.below.size
  have k1 := h.mem.lt
  have k2 := h.mem.bl
  refine ⟨rfl, a3.size, L', a2, a1, R.keep _ _ _ h.rd a3 (fun k hk => ?_), fun k hk => ?_, h.rfar, ⟨h.up.1, h.up.2.1, fun k hk => ?_⟩, fun k hk => Nat.lt_of_lt_of_le (h.rlt k hk) a3.size, h.below.trans (a3.below ?_ hsz)⟩
  · simp only [List.mem_cons, not_or]
    exact ⟨fun e => h.rfar.1 (e ▸ hk), fun e => h.rfar.2 (e ▸ hk), fun hm => (h.far k hm).2.2 hk⟩
  · rcases a4 k hk with h1 | h1
    · exact h.far k h1
    · exact ⟨by omega, by omega, fun hr => by have := h.rlt k hr; omega⟩
  · rcases a4 k hk with h1 | h1
    · exact h.up.2.2 k h1
    · omega
  · intro k hk
    simp only [List.mem_cons] at hk
    rcases hk with rfl | rfl | hk
    · exact h.up.1
    · exact h.up.2.1
    · exact h.up.2.2 k hk
end
theorem lit4b_sees (w : World) (a b c d : Int) : RI.SeesL (w.alloc (.cells #[.int .i64 a, .int .i64 b, .int .i64 c, .int .i64 d] 3)) (.slice (some ⟨w.heap.size, 0, none⟩) 4 4) [a, b, c, d] := by
  have hX := Blk.new w #[.int .i64 a, .int .i64 b, .int .i64 c, .int .i64 d] 3
  refine ⟨_, 4, rfl, (fun h => by cases h), fun _ => ⟨w.heap.size, 0, rfl, hX.lt, fun j hj => ?_⟩⟩
  have hj4 : j < 4 := hj
  rcases (by omega : j = 0 ∨ j = 1 ∨ j = 2 ∨ j = 3) with rfl | rfl | rfl | rfl
  · exact hX.cell 0 rfl
  · exact hX.cell 1 rfl
  · exact hX.cell 2 rfl
  · exact hX.cell 3 rfl
end Go.Proofs.Ytcjidigpdecdlaa
