/- The contracts of a memory's words, and of its making: Words, Of, New. -/
import Derived.Test.YthjfbknmdligeaaGreatPub3
namespace Go.Proofs.YthjfbknmdligeaaGreat
open Go Go.RowKit
set_option linter.unusedVariables false
set_option maxRecDepth 100000
set_option linter.unusedSimpArgs false

theorem sees_row {w : World} {B n : Nat} {v : Value} {f : Nat → Int} (hown : w.ownsRow B 41 1 v n (wordCells f n)) : ∃ A cap, v = .slice A n cap ∧ SeesU w w.heap.size A n f := by
  rcases hown.2 with ⟨rfl, rfl⟩ | ⟨g, cap, cur, rfl, hg, hh, hnc, hcm, hcs, htk⟩
  · exact ⟨none, 0, rfl, fun h => absurd h (by simp)⟩
  · refine ⟨some ⟨g, 0, none⟩, cap, rfl, fun hpos => ⟨g, 0, rfl, block_lt hh, fun i hi => ?_⟩⟩
    have hc := hown.cellAt i (by omega)
    rw [wordCells_at f n i hi] at hc
    rw [Nat.zero_add]
    exact hc
theorem Is.sees {w : World} {T : TypeId} {A : Option Addr} {cap c b n : Nat} {s : St} (h : Is w T A cap c b n s) : SeesU w w.heap.size A n s.f := fun hn => by
  obtain ⟨e, _, _⟩ := h.wds hn
  exact ⟨b, 0, e, h.bl, fun i hi => by rw [Nat.zero_add]; exact h.word hi⟩

theorem words_any (w : World) (A : Option Addr) (cap c b n : Nat) (s : St) (h : Is w 114 A cap c b n s) (hn : n ≤ 1000000) :
    Calls Tryz.prog 23 #[.pointer (some ⟨c, 0, none⟩)] w fun e w' => ∃ A' cap', e = .returned (.slice A' n cap') ∧ SeesU w' w'.heap.size A' n s.f ∧ Below w.heap.size w w' := by
  have HC := clone_any A n cap s.f w hn (fun e => by have := h.bcap; have := this.2.2 e; omega) h.sees
  have c0 := h.cells.1
  clear h
  go_enter Tryz.func23, Tryz.ntmps23
  go_wp2_with fail
  go_at_call 54; refine HC.mono ?_; rintro e w1 ⟨v, rfl, hown, hb⟩
  obtain ⟨A', cap', rfl, hs⟩ := sees_row hown
  go_wp2_with fail
  go_ret
  exact ⟨A', cap', rfl, hs, hb⟩
theorem words_nil (w : World) : Calls Tryz.prog 23 #[.pointer none] w fun e w' => e = .returned (.slice none 0 0) ∧ w = w' := by
  go_enter Tryz.func23, Tryz.ntmps23
  go_wp2_with fail
  go_ret
  exact ⟨rfl, rfl⟩

/-- A memory as it was made. -/
def fresh (f : Nat → Int) : St := { f := f, clock := 0, bad := 0, kind := 0, who := 0, at' := 0, old := 0, new := 0, done := false }

/-- A memory of an owned row, made last. -/
theorem mem_row (w w1 : World) (T : TypeId) (v : Value) (n : Nat) (f : Nat → Int) (hn : n ≤ 1000000) (hf : ∀ i, i < n → 0 ≤ f i ∧ f i ≤ 18446744073709551615) (hown : w1.ownsRow w.heap.size 41 1 v n (wordCells f n)) (hb : Below w.heap.size w w1) :
    ∃ A cap b, v = .slice A n cap ∧ w.heap.size ≤ b ∧ b ≤ w1.heap.size ∧ (0 < n → b < w1.heap.size) ∧ Is (w1.alloc (.cells (memCells A n cap (fresh f)) T)) T A cap w1.heap.size b n (fresh f) := by
  have hs := hb.size
  rcases hown.2 with ⟨rfl, rfl⟩ | ⟨g, cap, cur, rfl, hg, hh, hnc, hcm, hcs, htk⟩
  · exact ⟨none, 0, w1.heap.size, rfl, hs, Nat.le_refl _, fun h => absurd h (by simp), heap_alloc_new w1 _, ⟨Nat.le_refl _, Nat.zero_le _, fun _ => rfl⟩, fun h => absurd h (by simp), hf, by simp⟩
  · have hlt := block_lt hh
    refine ⟨some ⟨g, 0, none⟩, cap, g, rfl, hg, Nat.le_of_lt hlt, fun _ => hlt, heap_alloc_new w1 _, ⟨by omega, hcm, fun h => by cases h⟩, fun hpos => ⟨rfl, by omega, cur, ?_, fun i hi => ?_⟩, hf, by simp; omega⟩
    · rw [heap_al _ hlt]; exact hh
    · have hc := hown.cellAt i (by omega)
      rw [wordCells_at f n i hi] at hc
      show cur[i]? = some (.int .u64 (f i))
      simpa [World.cell?, hh] using hc

theorem of_many (w : World) (A : Option Addr) (n cap : Nat) (hn : 262144 < n) (hm : n ≤ 9223372036854775807) : Calls Tryz.prog 35 #[.slice A n cap] w fun e w' => e = .returned (.tuple #[.pointer none, .int .i64 2]) ∧ w = w' := by
  go_enter Tryz.func35, Tryz.ntmps35
  go_wp2_with fail
  go_returns
  exact ⟨rfl, rfl⟩
theorem of_any (w : World) (A : Option Addr) (n cap : Nat) (f : Nat → Int) (hn : n ≤ 262144) (hnil : A = none → n = 0 ∧ cap = 0) (hs : SeesU w w.heap.size A n f) (hf : ∀ i, i < n → 0 ≤ f i ∧ f i ≤ 18446744073709551615) :
    Calls Tryz.prog 35 #[.slice A n cap] w fun e w' => ∃ (A' : Option Addr) (cap' c b : Nat), e = .returned (.tuple #[.pointer (some ⟨c, 0, none⟩), .int .i64 0]) ∧ Is w' 114 A' cap' c b n (fresh f) ∧ Below w.heap.size w w' ∧ w.heap.size ≤ b ∧ b ≤ c ∧ w.heap.size ≤ c := by
  have HC := clone_any A n cap f w (by omega) hnil hs
  have HF : Hid _ := hf
  clear hs hnil hf
  go_enter Tryz.func35, Tryz.ntmps35
  go_wp2_with fail
  go_at_call 54; refine HC.mono ?_; rintro e w1 ⟨v, rfl, hown, hb⟩
  obtain ⟨A', cap', b, rfl, h1, h2, h3, hI⟩ := mem_row w w1 114 v n f (by omega) HF.out hown hb
  have hI' : Hid _ := hI
  have hB := hb.alloc hb.size (.cells (memCells A' n cap' (fresh f)) 114)
  have hs := hb.size
  clear hown hb hI
  go_wp2_with fail
  go_returns
  exact ⟨A', cap', w1.heap.size, b, rfl, hI'.out, hB, h1, h2, hs⟩
end Go.Proofs.YthjfbknmdligeaaGreat
