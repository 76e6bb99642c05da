/- Two memories, what was answered, and a machine's blocks, all apart: what pokes, turns and steps leave of it. -/
import Derived.Test.YthjfbknmdligeaaGreatRun2
import Derived.Test.YthjfbknmdligeaaGreatDo
import Derived.Test.YthjfbknmdligeaaGreatAlike
namespace Go.Proofs.YthjfbknmdligeaaGreat
open Go Go.RowKit
set_option linter.unusedVariables false
set_option maxRecDepth 100000
set_option linter.unusedSimpArgs false

structure PokeOn (w0 w : World) (A A' : Option Addr) (cap cap' c b c' b' n : Nat) (s s2 : St) (Ag : Option Addr) (capg m : Nat) (g : Nat → Int) (L : List Nat) : Prop where
  mem : Is w 114 A cap c b n s
  ref : Is w 64 A' cap' c' b' n s2
  ne : c ≠ c' ∧ c ≠ b' ∧ b ≠ c' ∧ b ≠ b'
  got : GotOn w Ag capg m g
  gfar : GotFar Ag (c :: b :: c' :: b' :: L)
  gup : ∀ k, Ag = some ⟨k, 0, none⟩ → w0.heap.size ≤ k
  far : ∀ k ∈ L, (k ≠ c ∧ k ≠ b ∧ k ≠ c' ∧ k ≠ b') ∧ k < w.heap.size ∧ w0.heap.size ≤ k
  up : w0.heap.size ≤ c ∧ w0.heap.size ≤ b ∧ w0.heap.size ≤ c' ∧ w0.heap.size ≤ b'
  below : Below w0.heap.size w0 w

theorem gotL_mem {A : Option Addr} {w : World} {cap m : Nat} {g : Nat → Int} (h : GotOn w A cap m g) {k : Nat} (hk : k ∈ gotL A) : A = some ⟨k, 0, none⟩ ∧ k < w.heap.size := by
  rcases h.form with ⟨rfl, -, -⟩ | ⟨gb, rfl, hl⟩
  · simp [gotL] at hk
  · simp [gotL] at hk
    subst hk
    exact ⟨rfl, hl⟩

section
variable {w0 w w' : World} {A A' : Option Addr} {cap cap' c b c' b' n : Nat} {s s' s2 : St} {Ag : Option Addr} {capg m : Nat} {g : Nat → Int} {L L' : List Nat}
theorem PokeOn.still (h : PokeOn w0 w A A' cap cap' c b c' b' n s s2 Ag capg m g L) (hb : Below w.heap.size w w') : PokeOn w0 w' A A' cap cap' c b c' b' n s s2 Ag capg m g L :=
  ⟨h.mem.below hb, h.ref.below hb, h.ne, h.got.but (But.of_below (l := []) hb) (fun b e => by simp), h.gfar, h.gup, fun k hk => ⟨(h.far k hk).1, Nat.lt_of_lt_of_le (h.far k hk).2.1 hb.size, (h.far k hk).2.2⟩, h.up, seq' h.below hb⟩
where seq' {w0 w w' : World} (h1 : Below w0.heap.size w0 w) (h2 : Below w.heap.size w w') : Below w0.heap.size w0 w' := h1.trans (h2.mono h1.size)
theorem PokeOn.two (h : PokeOn w0 w A A' cap cap' c b c' b' n s s Ag capg m g L) : Two w A A' cap cap' c b c' b' n s := ⟨h.mem, h.ref, h.ne⟩
theorem PokeOn.apart (h : PokeOn w0 w A A' cap cap' c b c' b' n s s2 Ag capg m g L) {k : Nat} (hk : k ∈ L) : k ∉ c' :: b' :: gotL Ag := by
  intro hm
  obtain ⟨⟨f1, f2, f3, f4⟩, _, _⟩ := h.far k hk
  simp only [List.mem_cons] at hm
  rcases hm with rfl | rfl | hm
  · exact f3 rfl
  · exact f4 rfl
  · have := h.gfar k (gotL_mem h.got hm).1
    simp [hk] at this
/-- Somebody else's access. -/
theorem PokeOn.poke (h : PokeOn w0 w A A' cap cap' c b c' b' n s s Ag capg m g L) (hn : n ≤ 1000000) (hl : Low s 1000000) (k who i old new : Int) (hnb : 0 ≤ new ∧ new ≤ 18446744073709551615) :
    Calls Tryz.prog 11 #[.pointer (some ⟨c, 0, none⟩), .pointer (some ⟨c', 0, none⟩), .agg #[.int .i64 k, .int .i64 who, .int .i64 i, .int .u64 old, .int .u64 new]] w fun e w' => e = .returned (.bool true) ∧ PokeOn w0 w' A A' cap cap' c b c' b' n (actS k who i old new n s) (actS k who i old new n s) Ag capg m g L ∧ But [c, b, c', b'] w w' := by
  refine (do_any w A A' cap cap' c b c' b' n s k who i old new hn hl hnb h.two).mono ?_
  rintro e w' ⟨rfl, hT, hB⟩
  exact ⟨rfl, ⟨hT.m, hT.r, h.ne, h.got.but hB (h.gfar.of (by intro k hk; simp at hk ⊢; omega)), h.gfar, h.gup, fun k hk => ⟨(h.far k hk).1, Nat.lt_of_lt_of_le (h.far k hk).2.1 hB.size, (h.far k hk).2.2⟩, h.up, h.below.trans (hB.below (by simp [h.up]) h.below.size)⟩, hB⟩
/-- The reference did its access. -/
theorem PokeOn.turned (h : PokeOn w0 w A A' cap cap' c b c' b' n s s Ag capg m g L) {gb cap2 m2 : Nat} {g2 : Nat → Int} (hG : GotOn w' (some ⟨gb, 0, none⟩) cap2 m2 g2) (hI : Is w' 64 A' cap' c' b' n s') (hB : But (c' :: b' :: gotL Ag) w w') (hg : Ag = some ⟨gb, 0, none⟩ ∨ w.heap.size ≤ gb) :
    PokeOn w0 w' A A' cap cap' c b c' b' n s s' (some ⟨gb, 0, none⟩) cap2 m2 g2 L := by
  obtain ⟨n1, n2, n3, n4⟩ := h.ne
  have k1 := h.mem.lt
  have k2 := h.mem.bl
  have k3 := h.ref.lt
  have k4 := h.ref.bl
  have hc : c ∉ c' :: b' :: gotL Ag := by
    intro hm
    simp only [List.mem_cons] at hm
    rcases hm with e | e | hm
    · exact n1 e
    · exact n2 e
    · have := h.gfar c (gotL_mem h.got hm).1; simp at this
  have hb : b ∉ c' :: b' :: gotL Ag := by
    intro hm
    simp only [List.mem_cons] at hm
    rcases hm with e | e | hm
    · exact n3 e
    · exact n4 e
    · have := h.gfar b (gotL_mem h.got hm).1; simp at this
  refine ⟨h.mem.but hB hc hb, hI, h.ne, hG, ?_, ?_, fun k hk => ⟨(h.far k hk).1, Nat.lt_of_lt_of_le (h.far k hk).2.1 hB.size, (h.far k hk).2.2⟩, h.up, h.below.trans (hB.below ?_ h.below.size)⟩
  · intro k e
    cases e
    rcases hg with hg | hg
    · exact h.gfar _ hg
    · intro hm
      simp only [List.mem_cons] at hm
      rcases hm with rfl | rfl | rfl | rfl | hm
      · omega
      · omega
      · omega
      · omega
      · have := (h.far _ hm).2.1; omega
  · intro k e
    cases e
    rcases hg with hg | hg
    · exact h.gup _ hg
    · exact Nat.le_trans h.below.size hg
  · intro k hm
    simp only [List.mem_cons] at hm
    rcases hm with rfl | rfl | hm
    · exact h.up.2.2.1
    · exact h.up.2.2.2
    · exact h.gup _ (gotL_mem h.got hm).1
/-- The machine did its step. -/
theorem PokeOn.stepped (h : PokeOn w0 w A A' cap cap' c b c' b' n s s2 Ag capg m g L) (hI : Is w' 114 A cap c b n s') {l : List Nat} (hB : But l w w') (hl : ∀ k ∈ l, k = c ∨ k = b ∨ k ∈ L) (hL : ∀ k ∈ L', (k ∈ L ∨ w.heap.size ≤ k) ∧ k < w'.heap.size) :
    PokeOn w0 w' A A' cap cap' c b c' b' n s' s2 Ag capg m g L' := by
  obtain ⟨n1, n2, n3, n4⟩ := h.ne
  have k1 := h.mem.lt
  have k2 := h.mem.bl
  have k3 := h.ref.lt
  have k4 := h.ref.bl
  have hne : c' ∉ l ∧ b' ∉ l := by
    constructor
    · intro hm
      rcases hl _ hm with e | e | e
      · exact n1 e.symm
      · exact n3 e.symm
      · exact (h.far _ e).1.2.2.1 rfl
    · intro hm
      rcases hl _ hm with e | e | e
      · exact n2 e.symm
      · exact n4 e.symm
      · exact (h.far _ e).1.2.2.2 rfl
  refine ⟨hI, h.ref.but hB hne.1 hne.2, h.ne, h.got.but hB ?_, ?_, h.gup, ?_, h.up, h.below.trans (hB.below ?_ h.below.size)⟩
  · intro k e hm
    have hk := h.gfar k e
    simp only [List.mem_cons, not_or] at hk
    rcases hl _ hm with e | e | e
    · exact hk.1 e
    · exact hk.2.1 e
    · exact hk.2.2.2.2 e
  · intro k e
    have hk := h.gfar k e
    simp only [List.mem_cons, not_or] at hk ⊢
    refine ⟨hk.1, hk.2.1, hk.2.2.1, hk.2.2.2.1, fun hm => ?_⟩
    rcases (hL _ hm).1 with e2 | e2
    · exact hk.2.2.2.2 e2
    · rcases h.got.form with ⟨e0, -, -⟩ | ⟨gb, e0, hlt⟩
      · rw [e0] at e; cases e
      · rw [e0] at e; cases e; omega
  · intro k hk
    obtain ⟨h1, h2⟩ := hL k hk
    rcases h1 with h1 | h1
    · exact ⟨(h.far k h1).1, h2, (h.far k h1).2.2⟩
    · exact ⟨⟨by omega, by omega, by omega, by omega⟩, h2, Nat.le_trans h.below.size h1⟩
  · intro k hm
    rcases hl _ hm with rfl | rfl | e
    · exact h.up.1
    · exact h.up.2.1
    · exact (h.far _ e).2.2
end
end Go.Proofs.YthjfbknmdligeaaGreat
