/- The goroutines of a ring, as they are seen. -/
import Derived.Test.YtggbohakpkplkaaGreatLaw
import Derived.Test.YtggbohakpkplkaaGreatLock1
import Derived.Maps.OwnSet
import Derived.Maps.AppendAt
import Derived.OwnWalk
import Derived.ChangeShapes
import Derived.Test.YtggbohakpkplkaaGreatRC
import Derived.Test.YtggbohakpkplkaaGreatGg0
import Derived.Laws.Cover1
namespace Go.Proofs.YtggbohakpkplkaaGreat
open Go Go.RowKit Go.Maps
set_option linter.unusedVariables false
set_option maxRecDepth 100000
set_option linter.unusedSimpArgs false

namespace RI
/-- A list of ints that the call made. -/
structure IntsOn (w : World) (base : Nat) (v : Value) (l : List Int) : Prop where
  own : w.ownsRow base 3 1 v l.length (l.map (Value.int .i64))
theorem lists_info3 : (Tryz.prog.info? 3).map (fun i => (i.zero, i.size, i.bytes)) = some (some (.int .i64 0), 1, 8) := by kernel_rfl
theorem row_but {w w' : World} {base : Nat} {e : TypeId} {size : Nat} {v : Value} {n : Nat} {xs : List Value} {l : List Nat} (h : w.ownsRow base e size v n xs) (hB : But l w w') (hl : ∀ b ∈ l, b < base) : w'.ownsRow base e size v n xs := by
  refine ⟨h.1, ?_⟩
  rcases h.2 with h0 | ⟨gb, cp, cur, e0, hb, hh, rest⟩
  · exact .inl h0
  · exact .inr ⟨gb, cp, cur, e0, hb, (hB.block gb (block_lt hh) (fun hm => absurd (hl gb hm) (by omega))).trans hh, rest⟩
theorem row_below {w w' : World} {base : Nat} {e : TypeId} {size : Nat} {v : Value} {n : Nat} {xs : List Value} (h : w.ownsRow base e size v n xs) (hB : Below w.heap.size w w') : w'.ownsRow base e size v n xs := row_but h (But.of_below (l := []) hB) (fun b hb => by cases hb)
theorem lists_slice {w : World} {base : Nat} {e : TypeId} {size : Nat} {v : Value} {n : Nat} {xs : List Value} (h : w.ownsRow base e size v n xs) : ∃ A cap, v = .slice A n cap := by
  rcases h.2 with ⟨e0, h0⟩ | ⟨gb, cp, cur, e0, hb, hh, rest⟩
  · subst h0; exact ⟨none, 0, e0⟩
  · exact ⟨_, _, e0⟩
theorem IntsOn.cell {w : World} {base : Nat} {v : Value} {l : List Int} (h : IntsOn w base v l) {j : Nat} (hj : j < l.length) : ∃ gb cap, v = .slice (some ⟨gb, 0, none⟩) l.length cap ∧ w.cell? ⟨gb, j, none⟩ = some (.int .i64 (l.getD j 0)) := by
  rcases h.own.2 with ⟨e, h0⟩ | ⟨gb, cp, cur, e, hb, hh, hnc, hcm, hcs, htk⟩
  · omega
  · subst e
    refine ⟨gb, cp, rfl, ?_⟩
    have hc := h.own.cellAt j (by omega)
    rw [List.getElem?_map, List.getElem?_eq_getElem hj] at hc
    rw [List.getD_eq_getElem?_getD, List.getElem?_eq_getElem hj]
    exact hc
/-- A slice of ints, seen in memory. -/
def SeesL (w : World) (v : Value) (l : List Int) : Prop := ∃ A cap, v = .slice A l.length cap ∧ (A = none → l.length = 0 ∧ cap = 0) ∧ (0 < l.length → ∃ b off : Nat, A = some ⟨b, off, none⟩ ∧ b < w.heap.size ∧ ∀ j, j < l.length → w.cell? ⟨b, off + j, none⟩ = some (.int .i64 (l.getD j 0)))
theorem SeesL.below {w w' : World} {v : Value} {l : List Int} (h : SeesL w v l) (hb : Below w.heap.size w w') : SeesL w' v l := by
  obtain ⟨A, cap, e, h1, h2⟩ := h
  refine ⟨A, cap, e, h1, fun hn => ?_⟩
  obtain ⟨b, off, e1, h3, h4⟩ := h2 hn
  exact ⟨b, off, e1, Nat.lt_of_lt_of_le h3 hb.size, fun j hj => (hb.cell (p := ⟨b, off + j, none⟩) h3).trans (h4 j hj)⟩
theorem IntsOn.sees {w : World} {base : Nat} {v : Value} {l : List Int} (h : IntsOn w base v l) : SeesL w v l := by
  by_cases h0 : 0 < l.length
  · obtain ⟨gb, cap, e, -⟩ := h.cell h0
    refine ⟨_, cap, e, (fun h => by cases h), fun hn => ⟨gb, 0, rfl, ?_, fun j hj => ?_⟩⟩
    · obtain ⟨gb', cap', e', hc⟩ := h.cell hn
      rw [e] at e'; cases e'
      exact cell_lt hc
    · obtain ⟨gb', cap', e', hc⟩ := h.cell hj
      rw [e] at e'; cases e'
      rw [Nat.zero_add]; exact hc
  · rcases h.own.2 with ⟨e, h1⟩ | ⟨gb, cp, cur, e, -⟩
    · exact ⟨none, 0, by rw [e, h1], fun _ => ⟨h1, rfl⟩, fun h => absurd h h0⟩
    · exact ⟨_, cp, e, (fun h => by cases h), fun h => absurd h h0⟩

theorem lsame_any (w : World) (v v' : Value) (l : List Int) (hn : l.length ≤ 1000000) (h : SeesL w v l) (h' : SeesL w v' l) :
    Calls Tryz.prog 15 #[v, v'] w fun e w' => e = .returned (.bool true) ∧ Below w.heap.size w w' := by
  obtain ⟨A, cap, rfl, -, h2⟩ := h
  obtain ⟨A', cap', rfl, -, h2'⟩ := h'
  have H : Hid (0 < l.length → ∃ b off : Nat, A = some ⟨b, off, none⟩ ∧ b < w.heap.size ∧ ∀ j, j < l.length → w.cell? ⟨b, off + j, none⟩ = some (.int .i64 (l.getD j 0))) := h2
  have H' : Hid (0 < l.length → ∃ b off : Nat, A' = some ⟨b, off, none⟩ ∧ b < w.heap.size ∧ ∀ j, j < l.length → w.cell? ⟨b, off + j, none⟩ = some (.int .i64 (l.getD j 0))) := h2'
  clear h2 h2'
  have HF : Hid (∃ (f : Nat → Int) (n : Nat), (fun j => l.getD j 0) = f ∧ l.length = n) := ⟨_, _, rfl, rfl⟩
  obtain ⟨f, n, hf, hl⟩ := HF.out
  have hfe : ∀ j, l.getD j 0 = f j := fun j => congrFun hf j
  simp only [hfe] at H H'
  rw [hl] at H H' hn ⊢
  clear HF hf hl hfe
  go_enter Tryz.func15, Tryz.ntmps15
  go_wp2_with fail
  go_loopw [5] (fun i wr => ∃ k m : Nat, k ≤ n ∧ i = .int .i64 k ∧ wr = w.drewN m) (fun i _ => n - (intOf i).toNat)
  case atStart => exact ⟨0, 0, Nat.zero_le _, rfl, rfl⟩
  case round =>
    obtain ⟨k, m, hk, rfl, rfl⟩ := hrel
    by_cases hlt : k < n
    · obtain ⟨b, off, rfl, hbB, hcell⟩ := H.out (by omega)
      obtain ⟨b', off', rfl, hbB', hcell'⟩ := H'.out (by omega)
      have e0 : w.cell? ⟨b, off + k, none⟩ = some (.int .i64 (f k)) := hcell k hlt
      have e1 : w.cell? ⟨b', off' + k, none⟩ = some (.int .i64 (f k)) := hcell' k hlt
      clear hcell hcell'
      generalize f k = x at e0 e1
      go_wp2_with fail
      go_quiet (fail)
      go_wp2_with fail
      go_roundw
      case rel => exact ⟨k + 1, _, by omega, by go_num, rfl⟩
      case measure => simp [intOf]; omega
    · obtain rfl : k = n := by omega
      go_wp2_with fail
      go_ret
      exact ⟨rfl, Below.drewN' (Below.refl _ _) m⟩
end RI
theorem But.grown {l : List Nat} {a w w' : World} {r : Option Nat} (h : But l a w) (hg : w.grownBy w' r) (hr : ∀ k, r = some k → k ∈ l ∨ a.heap.size ≤ k) : But l a w' :=
  ⟨hg.os.trans h.os, hg.tape.trans h.tape, hg.output.trans h.output, Nat.le_trans h.size hg.size, fun k hk hc => (hg.block k (Nat.lt_of_lt_of_le hk h.size) (fun e => by rcases hr k e.symm with h1 | h1; exact hc h1; omega)).trans (h.block k hk hc)⟩
def rowB (v : Value) : List Nat := match v.ownBlock with
  | some k => [k]
  | none => []
theorem rowB_mem {v : Value} {k : Nat} (h : v.ownBlock = some k) : k ∈ rowB v := by unfold rowB; rw [h]; simp
theorem mem_rowB {v : Value} {k : Nat} (h : k ∈ rowB v) : v.ownBlock = some k := by
  unfold rowB at h
  split at h
  · rename_i h'; simp at h; rw [h', h]
  · cases h
theorem RI.IntsOn.keep {w w' : World} {base : Nat} {v : Value} {l : List Int} {ll : List Nat} (h : RI.IntsOn w base v l) (hB : But ll w w') (hk : ∀ k ∈ rowB v, k ∉ ll) : RI.IntsOn w' base v l := by
  refine ⟨h.own.1, ?_⟩
  rcases h.own.2 with h0 | ⟨gb, cp, cur, e0, hb, hh, rest⟩
  · exact .inl h0
  · exact .inr ⟨gb, cp, cur, e0, hb, (hB.block gb (block_lt hh) (hk gb (rowB_mem (by rw [e0]; rfl)))).trans hh, rest⟩
theorem RI.IntsOn.up {w : World} {base : Nat} {v : Value} {l : List Int} (h : RI.IntsOn w base v l) : ∀ k ∈ rowB v, base ≤ k ∧ k < w.heap.size := fun k hk => h.own.lt k (mem_rowB hk)
/-- A list of ints that is only read. -/
def Rd.ints (base : Nat) (v : Value) (l : List Int) : Rd := ⟨rowB v, fun w => RI.IntsOn w base v l, fun w w' ll h hb hk => h.keep hb hk⟩
end Go.Proofs.YtggbohakpkplkaaGreat

namespace Go.Proofs.YtggbohakpkplkaaGreat
open Go Go.RowKit
set_option linter.unusedVariables false
set_option maxRecDepth 100000
set_option linter.unusedSimpArgs false

/-- So many steps of a machine. -/
def PM.steps {σ : Type} (M : PM σ) (who : Int) (n : Nat) : Nat → σ × St → σ × St
  | 0, p => p
  | k + 1, p => PM.steps M who n k (M.goT n p.1 p.2, M.goS who n p.1 p.2)
theorem PM.steps_succ {σ : Type} (M : PM σ) (who : Int) (n : Nat) : ∀ (k : Nat) (p : σ × St), M.steps who n (k + 1) p = (M.goT n (M.steps who n k p).1 (M.steps who n k p).2, M.goS who n (M.steps who n k p).1 (M.steps who n k p).2)
  | 0, p => rfl
  | k + 1, p => PM.steps_succ M who n k (M.goT n p.1 p.2, M.goS who n p.1 p.2)
theorem PM.steps_low {σ : Type} (M : PM σ) (who : Int) (n : Nat) {m : Int} : ∀ (k : Nat) (p : σ × St), Low p.2 m → Low (M.steps who n k p).2 (m + k)
  | 0, p, h => h.more (by omega)
  | k + 1, p, h => (PM.steps_low M who n k (M.goT n p.1 p.2, M.goS who n p.1 p.2) (PM.goS_low h)).more (by omega)

/-- A machine over a memory, apart, with what is only read. -/
structure Solo {σ : Type} (I : MI σ) (R : Rd) (W0 w : World) (A : Option Addr) (cap c b n : Nat) (s : St) (x : Nat) (t : σ) (L : List Nat) : Prop where
  mem : Is w 126 A cap c b n s
  mach : I w x t L
  rd : R.P w
  far : ∀ k ∈ L, k ≠ c ∧ k ≠ b ∧ k ∉ R.B
  rfar : c ∉ R.B ∧ b ∉ R.B
  up : W0.heap.size ≤ c ∧ W0.heap.size ≤ b ∧ ∀ k ∈ L, W0.heap.size ≤ k
  rlt : ∀ k ∈ R.B, k < w.heap.size
  below : Below W0.heap.size W0 w
section
variable {σ : Type} {I : MI σ} {M : PM σ} {R Rm : Rd} {W0 w w' : World} {A : Option Addr} {cap c b n : Nat} {s : St} {x : Nat} {t : σ} {L : List Nat}
theorem Solo.still (hG : I.Good M) (h : Solo I R W0 w A cap c b n s x t L) (hb : Below w.heap.size w w') : Solo I R W0 w' A cap c b n s x t L :=
  ⟨h.mem.below hb, hG.below h.mach hb, R.below h.rd hb, h.far, h.rfar, h.up, fun k hk => Nat.lt_of_lt_of_le (h.rlt k hk) hb.size, h.below.trans (hb.mono h.below.size)⟩
theorem Solo.step (hG : I.Good M) {F : Nat} {who : Int} (hS : Steps M I Rm F who) (hRm : ∀ w, R.P w → Rm.P w) (hRb : ∀ k ∈ Rm.B, k ∈ R.B) (h : Solo I R W0 w A cap c b n s x t L) (hn : n ≤ 1000000) (hl : Low s 1000000) :
    Calls Tryz.prog F #[.pointer (some ⟨x, 0, none⟩), .pointer (some ⟨c, 0, none⟩)] w fun e w' => (e = .returned (.bool (M.ax (M.goT n t s)).isNone)) ∧ ∃ L', Solo I R W0 w' A cap c b n (M.goS who n t s) x (M.goT n t s) L' := by
  refine (hS w A cap c b n s x t L h.mach (hRm w h.rd) h.mem hn hl (fun k hk => ⟨(h.far k hk).1, (h.far k hk).2.1, fun hr => (h.far k hk).2.2 (hRb k hr)⟩) ⟨fun hr => h.rfar.1 (hRb c hr), fun hr => h.rfar.2 (hRb b hr)⟩).mono ?_
  rintro e w' ⟨rfl, L', a1, a2, a3, a4⟩
  have hsz := h.below.size
  have k1 := h.mem.lt
  have k2 := h.mem.bl
  refine ⟨rfl, L', a2, a1, R.keep _ _ _ h.rd a3 (fun k hk => ?_), fun k hk => ?_, h.rfar, ⟨h.up.1, h.up.2.1, fun k hk => ?_⟩, fun k hk => Nat.lt_of_lt_of_le (h.rlt k hk) a3.size, h.below.trans (a3.below ?_ hsz)⟩
  · simp only [List.mem_cons, not_or]
    exact ⟨fun e => h.rfar.1 (e ▸ hk), fun e => h.rfar.2 (e ▸ hk), fun hm => (h.far k hm).2.2 hk⟩
  · rcases a4 k hk with h1 | h1
    · exact h.far k h1
    · exact ⟨by omega, by omega, fun hr => by have := h.rlt k hr; omega⟩
  · rcases a4 k hk with h1 | h1
    · exact h.up.2.2 k h1
    · omega
  · intro k hk
    simp only [List.mem_cons] at hk
    rcases hk with rfl | rfl | hk
    · exact h.up.1
    · exact h.up.2.1
    · exact h.up.2.2 k hk
/-- How it begins. -/
theorem Solo.begin {w2 w3 : World} (hm : Is w2 126 A cap c b n s) (hb : Below w2.heap.size w2 w3) (hB2 : Below W0.heap.size W0 w2) (hup : W0.heap.size ≤ c ∧ W0.heap.size ≤ b) (hi : I w3 x t L) (hL : ∀ k ∈ L, w2.heap.size ≤ k) (hr : R.P w2) (hrl : ∀ k ∈ R.B, k < w2.heap.size) (hrf : c ∉ R.B ∧ b ∉ R.B) : Solo I R W0 w3 A cap c b n s x t L := by
  have k1 := hm.lt
  have k2 := hm.bl
  have hsz := hB2.size
  refine ⟨hm.below hb, hi, R.below hr hb, fun k hk => ?_, hrf, ⟨hup.1, hup.2, fun k hk => Nat.le_trans hsz (hL k hk)⟩, fun k hk => Nat.lt_of_lt_of_le (hrl k hk) hb.size, hB2.trans (hb.mono hsz)⟩
  have h1 := hL k hk
  exact ⟨by omega, by omega, fun hr => by have := hrl k hr; omega⟩
end
end Go.Proofs.YtggbohakpkplkaaGreat

namespace Go.Proofs.YtggbohakpkplkaaGreat
open Go Go.RowKit
set_option linter.unusedVariables false
set_option maxRecDepth 100000
set_option linter.unusedSimpArgs false

/-- A machine that is only kept. -/
def Rd.mach {σ : Type} {I : MI σ} {M : PM σ} (hG : I.Good M) (x : Nat) (t : σ) (L : List Nat) : Rd := ⟨L, fun w => I w x t L, fun w w' l h hb hk => hG.keep h hb hk⟩
section
variable {σ : Type} {I : MI σ} {M : PM σ} {R Rm : Rd} {W0 w w' : World} {A : Option Addr} {cap c b n : Nat} {s : St} {x : Nat} {t : σ} {L : List Nat}
theorem Solo.again (h : Solo I R W0 w A cap c b n s x t L) {τ : Type} {J : MI τ} {R2 : Rd} {y : Nat} {u : τ} {K : List Nat} (hm : J w y u K) (hr : R2.P w) (hB : ∀ k ∈ K, k ∈ R.B) (hR : ∀ k ∈ R2.B, k ∈ R.B) (hK : ∀ k ∈ K, k ∉ R2.B) (hup : ∀ k ∈ K, W0.heap.size ≤ k) : Solo J R2 W0 w A cap c b n s y u K :=
  ⟨h.mem, hm, hr, fun k hk => ⟨fun e => h.rfar.1 (e ▸ hB k hk), fun e => h.rfar.2 (e ▸ hB k hk), hK k hk⟩, ⟨fun hm => h.rfar.1 (hR _ hm), fun hm => h.rfar.2 (hR _ hm)⟩, ⟨h.up.1, h.up.2.1, hup⟩, fun k hk => h.rlt k (hR k hk), h.below⟩
end
theorem lit1_sees (w : World) (a : Int) : RI.SeesL (w.alloc (.cells #[.int .i64 a] 3)) (.slice (some ⟨w.heap.size, 0, none⟩) 1 1) [a] := by
  have hX := Blk.new w #[.int .i64 a] 3
  refine ⟨_, 1, rfl, (fun h => by cases h), fun _ => ⟨w.heap.size, 0, rfl, hX.lt, fun j hj => ?_⟩⟩
  have hj4 : j < 1 := hj
  obtain rfl : j = 0 := by omega
  exact hX.cell 0 rfl
theorem lit2_sees (w : World) (a b : Int) : RI.SeesL (w.alloc (.cells #[.int .i64 a, .int .i64 b] 3)) (.slice (some ⟨w.heap.size, 0, none⟩) 2 2) [a, b] := by
  have hX := Blk.new w #[.int .i64 a, .int .i64 b] 3
  refine ⟨_, 2, rfl, (fun h => by cases h), fun _ => ⟨w.heap.size, 0, rfl, hX.lt, fun j hj => ?_⟩⟩
  have hj4 : j < 2 := hj
  rcases (by omega : j = 0 ∨ j = 1) with rfl | rfl
  · exact hX.cell 0 rfl
  · exact hX.cell 1 rfl
theorem lit3_sees (w : World) (a b c : Int) : RI.SeesL (w.alloc (.cells #[.int .i64 a, .int .i64 b, .int .i64 c] 3)) (.slice (some ⟨w.heap.size, 0, none⟩) 3 3) [a, b, c] := by
  have hX := Blk.new w #[.int .i64 a, .int .i64 b, .int .i64 c] 3
  refine ⟨_, 3, rfl, (fun h => by cases h), fun _ => ⟨w.heap.size, 0, rfl, hX.lt, fun j hj => ?_⟩⟩
  have hj4 : j < 3 := hj
  rcases (by omega : j = 0 ∨ j = 1 ∨ j = 2) with rfl | rfl | rfl
  · exact hX.cell 0 rfl
  · exact hX.cell 1 rfl
  · exact hX.cell 2 rfl

section
variable {σ : Type} {I : MI σ} {M : PM σ} {R Rm : Rd} {W0 w w' : World} {A : Option Addr} {cap c b n : Nat} {s : St} {x : Nat} {t : σ} {L : List Nat}
theorem Solo.stepUp (hG : I.Good M) {F : Nat} {who : Int} (hS : Steps M I Rm F who) (hRm : ∀ w, R.P w → Rm.P w) (hRb : ∀ k ∈ Rm.B, k ∈ R.B) (h : Solo I R W0 w A cap c b n s x t L) (hn : n ≤ 1000000) (hl : Low s 1000000) :
    Calls Tryz.prog F #[.pointer (some ⟨x, 0, none⟩), .pointer (some ⟨c, 0, none⟩)] w fun e w' => (e = .returned (.bool (M.ax (M.goT n t s)).isNone)) ∧ w.heap.size ≤ w'.heap.size ∧ ∃ L', Solo I R W0 w' A cap c b n (M.goS who n t s) x (M.goT n t s) L' := by
  refine (hS w A cap c b n s x t L h.mach (hRm w h.rd) h.mem hn hl (fun k hk => ⟨(h.far k hk).1, (h.far k hk).2.1, fun hr => (h.far k hk).2.2 (hRb k hr)⟩) ⟨fun hr => h.rfar.1 (hRb c hr), fun hr => h.rfar.2 (hRb b hr)⟩).mono ?_
  rintro e w' ⟨rfl, L', a1, a2, a3, a4⟩
  have hsz := h.below.size
  have k1 := h.mem.lt
  have k2 := h.mem.bl
  refine ⟨rfl, a3.size, L', a2, a1, R.keep _ _ _ h.rd a3 (fun k hk => ?_), fun k hk => ?_, h.rfar, ⟨h.up.1, h.up.2.1, fun k hk => ?_⟩, fun k hk => Nat.lt_of_lt_of_le (h.rlt k hk) a3.size, h.below.trans (a3.below ?_ hsz)⟩
  · simp only [List.mem_cons, not_or]
    exact ⟨fun e => h.rfar.1 (e ▸ hk), fun e => h.rfar.2 (e ▸ hk), fun hm => (h.far k hm).2.2 hk⟩
  · rcases a4 k hk with h1 | h1
    · exact h.far k h1
    · exact ⟨by omega, by omega, fun hr => by have := h.rlt k hr; omega⟩
  · rcases a4 k hk with h1 | h1
    · exact h.up.2.2 k h1
    · omega
  · intro k hk
    simp only [List.mem_cons] at hk
    rcases hk with rfl | rfl | hk
    · exact h.up.1
    · exact h.up.2.1
    · exact h.up.2.2 k hk
end
theorem lit4b_sees (w : World) (a b c d : Int) : RI.SeesL (w.alloc (.cells #[.int .i64 a, .int .i64 b, .int .i64 c, .int .i64 d] 3)) (.slice (some ⟨w.heap.size, 0, none⟩) 4 4) [a, b, c, d] := by
  have hX := Blk.new w #[.int .i64 a, .int .i64 b, .int .i64 c, .int .i64 d] 3
  refine ⟨_, 4, rfl, (fun h => by cases h), fun _ => ⟨w.heap.size, 0, rfl, hX.lt, fun j hj => ?_⟩⟩
  have hj4 : j < 4 := hj
  rcases (by omega : j = 0 ∨ j = 1 ∨ j = 2 ∨ j = 3) with rfl | rfl | rfl | rfl
  · exact hX.cell 0 rfl
  · exact hX.cell 1 rfl
  · exact hX.cell 2 rfl
  · exact hX.cell 3 rfl
end Go.Proofs.YtggbohakpkplkaaGreat

namespace Go.Proofs.YtggbohakpkplkaaGreat
open Go Go.RowKit Go.Maps
set_option linter.unusedVariables false
set_option maxRecDepth 100000
set_option linter.unusedSimpArgs false

theorem rsf_bd {w : World} {T : TypeId} {A : Option Addr} {cap c b n : Nat} {s : St} (h : Is w T A cap c b n s) (i : Int) : 0 ≤ peekT n s i ∧ peekT n s i ≤ 18446744073709551615 := by
  unfold peekT
  split
  · exact h.bd _ (by omega)
  · omega
theorem rsee_any (w : World) (cl : Nat) (P T G p : Int) (A : Option Addr) (cap c b n : Nat) (s : St) (hL : Lay w cl P T G) (hp : 0 ≤ P ∧ P ≤ 64) (hI : Is w 126 A cap c b n s) (hn : n ≤ 1000000) :
    Calls Tryz.prog 99 #[.pointer (some ⟨cl, 0, none⟩), .pointer (some ⟨c, 0, none⟩), .int .i64 p] w fun e w' => e = .returned (.tuple #[.int .u64 (peekT n s (wd 20 P 264 p 1)), .int .u64 ((peekT n s (wd 20 P 264 p 2) - peekT n s (wd 20 P 264 p 1)) % 4294967296), .int .u64 (peekT n s (wd 20 P 264 p 3))]) ∧ Below w.heap.size w w' := by
  have h1 := fun Y (hY : Lay Y cl P T G) => lprc_any (some ⟨cl, 0, none⟩) P T G p 1 Y (.some cl hY) hp (by omega)
  have h2 := fun Y (hY : Lay Y cl P T G) => lprc_any (some ⟨cl, 0, none⟩) P T G p 2 Y (.some cl hY) hp (by omega)
  have h3 := fun Y (hY : Lay Y cl P T G) => lprc_any (some ⟨cl, 0, none⟩) P T G p 3 Y (.some cl hY) hp (by omega)
  have HL : Hid (∀ Y, Below w.heap.size w Y → Lay Y cl P T G) := fun Y hY => hL.below hY hL.lt
  have HI : Hid (∀ Y, Below w.heap.size w Y → Is Y 126 A cap c b n s) := fun Y hY => hI.below hY
  have b1 := rsf_bd hI (wd 20 P 264 p 1)
  have b2 := rsf_bd hI (wd 20 P 264 p 2)
  generalize wd 20 P 264 p 1 = i1 at *
  generalize wd 20 P 264 p 2 = i2 at *
  generalize wd 20 P 264 p 3 = i3 at *
  have hM := fun w => mny_any (peekT n s i1) (peekT n s i2) w b1 b2
  have P1 := fun Y (h : Is Y 126 A cap c b n s) => peek_any Y A cap c b n s i1 h hn
  have P2 := fun Y (h : Is Y 126 A cap c b n s) => peek_any Y A cap c b n s i2 h hn
  have P3 := fun Y (h : Is Y 126 A cap c b n s) => peek_any Y A cap c b n s i3 h hn
  clear hL hI b1 b2
  generalize peekT n s i1 = v1 at *
  generalize peekT n s i2 = v2 at *
  generalize peekT n s i3 = v3 at *
  go_enter Tryz.func99, Tryz.ntmps99
  go_wp2_with fail
  go_at_call 133; refine (h1 w (HL.out w (Below.refl _ _))).mono ?_; rintro e w1 ⟨rfl, k1⟩
  go_wp2_with fail
  go_at_call 39; refine (P1 w1 (HI.out w1 k1)).mono ?_; rintro e w2 ⟨rfl, rfl⟩
  go_wp2_with fail
  go_at_call 133; refine (h2 w1 (HL.out w1 k1)).mono ?_; rintro e w3 ⟨rfl, k3⟩
  have k3' := seq k1 k3
  go_wp2_with fail
  go_at_call 39; refine (P2 w3 (HI.out w3 k3')).mono ?_; rintro e w4 ⟨rfl, rfl⟩
  go_wp2_with fail
  go_at_call 133; refine (h3 w3 (HL.out w3 k3')).mono ?_; rintro e w5 ⟨rfl, k5⟩
  have k5' := seq k3' k5
  go_wp2_with fail
  go_at_call 39; refine (P3 w5 (HI.out w5 k5')).mono ?_; rintro e w6 ⟨rfl, rfl⟩
  go_wp2_with fail
  go_at_call 134; refine (hM w5).mono ?_; rintro e w7 ⟨rfl, rfl⟩
  clear h1 h2 h3 P1 P2 P3 hM
  go_wp2_with fail
  go_returns
  exact ⟨rfl, k5'⟩

/-- A list of words that the call made. -/
structure WordsOn (w : World) (base : Nat) (v : Value) (l : List Int) : Prop where
  own : w.ownsRow base 39 1 v l.length (l.map (Value.int .u64))
theorem WordsOn.below {w w' : World} {base : Nat} {v : Value} {l : List Int} (h : WordsOn w base v l) (hB : Below w.heap.size w w') : WordsOn w' base v l := by
  refine ⟨h.own.1, ?_⟩
  rcases h.own.2 with h0 | ⟨gb, cp, cur, e0, hb, hh, rest⟩
  · exact .inl h0
  · exact .inr ⟨gb, cp, cur, e0, hb, ((But.of_below (l := []) hB).block gb (block_lt hh) (by simp)).trans hh, rest⟩
theorem make_cap (k : Nat) (hk : k ≤ 1000000) (w : World) : (Instr.makeSlice 38 (.int .i64 0) (.int .u64 k)).run Tryz.prog w = .ok (.slice (some ⟨w.heap.size, 0, none⟩) 0 k) (w.alloc (.cells (zs k) 39)) := by
  obtain ⟨i0, hi, hz0, hz1, hz2⟩ := info_parts info39
  have := run_make (P := Tryz.prog) w 38 39 i0 (.int .u64 0) Tryz.underlying38 hi hz0 .i64 .u64 0 k (by omega) (by omega) (by rw [hz2]; omega) (by omega)
  rw [hz1] at this
  simpa [zs, Value.cells] using this
/-- The word at one place of a ring. -/
def rwAt (P p : Int) (n : Nat) (s : St) (h : Int) (i : Nat) : Int := peekT n s (wd 20 P 264 p (8 + IntKind.u64.wrap (h + i) % 256))
def rwL (P p : Int) (n : Nat) (s : St) (h : Int) (k : Nat) : List Int := (List.range k).map (rwAt P p n s h)
theorem rwL_succ (P p : Int) (n : Nat) (s : St) (h : Int) (k : Nat) : rwL P p n s h (k + 1) = rwL P p n s h k ++ [rwAt P p n s h k] := by unfold rwL; rw [List.range_succ, List.map_append]; rfl
theorem rwL_len (P p : Int) (n : Nat) (s : St) (h : Int) (k : Nat) : (rwL P p n s h k).length = k := by unfold rwL; simp
def rMany (P p : Int) (n : Nat) (s : St) : Int := (peekT n s (wd 20 P 264 p 2) - peekT n s (wd 20 P 264 p 1)) % 4294967296
def rK (P p : Int) (n : Nat) (s : St) : Nat := if rMany P p n s ≤ 256 then (rMany P p n s).toNat else 256
set_option maxHeartbeats 4000000 in
theorem rwords_any (w : World) (cl : Nat) (P T G p : Int) (A : Option Addr) (cap c b n : Nat) (s : St) (hL : Lay w cl P T G) (hp : 0 ≤ P ∧ P ≤ 64) (hI : Is w 126 A cap c b n s) (hn : n ≤ 1000000) :
    Calls Tryz.prog 100 #[.pointer (some ⟨cl, 0, none⟩), .pointer (some ⟨c, 0, none⟩), .int .i64 p] w fun e w' => ∃ v, e = .returned (.tuple #[v, .int .u64 (peekT n s (wd 20 P 264 p 3))]) ∧ WordsOn w' w.heap.size v (rwL P p n s (peekT n s (wd 20 P 264 p 1)) (rK P p n s)) ∧ Below w.heap.size w w' := by
  obtain ⟨i0, hi, hz0, hz1, hz2⟩ := info_parts info39
  have hS := rsee_any w cl P T G p A cap c b n s hL hp hI hn
  have HL : Hid (∀ Y, Below w.heap.size w Y → Lay Y cl P T G) := fun Y hY => hL.below hY hL.lt
  have HI : Hid (∀ Y, Below w.heap.size w Y → Is Y 126 A cap c b n s) := fun Y hY => hI.below hY
  have HRG : Hid (∀ Y, Below w.heap.size w Y → ∀ i, 0 ≤ i ∧ i ≤ 18446744073709551615 → Calls Tryz.prog 135 #[.pointer (some ⟨cl, 0, none⟩), .int .i64 p, .int .u64 i] Y fun e w' => e = .returned (.int .i64 (wd 20 P 264 p (8 + i % 256))) ∧ Below Y.heap.size Y w') := fun Y hY i hi => lrng_any (some ⟨cl, 0, none⟩) P T G p i Y (.some cl (HL.out Y hY)) hp hi
  have HPK : Hid (∀ Y, Below w.heap.size w Y → ∀ i, Calls Tryz.prog 39 #[.pointer (some ⟨c, 0, none⟩), .int .i64 i] Y fun e w' => e = .returned (.tuple #[.int .u64 (peekT n s i), .bool (decide (0 ≤ i ∧ i < n))]) ∧ Y = w') := fun Y hY i => peek_any Y A cap c b n s i (HI.out Y hY) hn
  have hmk := fun k (hk : k ≤ 256) w => make_cap k (by omega) w
  have HK : Hid ((rK P p n s : Int) = if rMany P p n s ≤ 256 then rMany P p n s else 256) := by
    have h0 : 0 ≤ rMany P p n s := Int.emod_nonneg _ (by omega)
    show ((rK P p n s : Nat) : Int) = _
    unfold rK
    split <;> omega
  have HKB : Hid (rK P p n s ≤ 256) := by
    have h0 : 0 ≤ rMany P p n s := Int.emod_nonneg _ (by omega)
    show rK P p n s ≤ 256
    unfold rK
    split <;> omega
  rw [show (peekT n s (wd 20 P 264 p 2) - peekT n s (wd 20 P 264 p 1)) % 4294967296 = rMany P p n s from rfl] at hS
  generalize peekT n s (wd 20 P 264 p 1) = hh at *
  generalize peekT n s (wd 20 P 264 p 3) = nn at *
  generalize rMany P p n s = mm at *
  generalize rK P p n s = k at *
  clear hL hI
  go_enter Tryz.func100, Tryz.ntmps100
  go_wp2_with fail
  go_at_call 99; refine hS.mono ?_; rintro e w1 ⟨rfl, h1⟩
  have HB1 : Hid (Below w.heap.size w w1) := h1
  clear hS h1
  by_cases hm : mm ≤ 256
  · obtain rfl : mm = (k : Int) := by have := HK.out; rw [if_pos hm] at this; exact this.symm
    have hd : decide (256 < (k : Int)) = false := decide_eq_false (by omega)
    have hmk2 := hmk k HKB.out w1
    go_wp2_with fail
    have hB2 : Below w.heap.size w (w1.alloc (.cells (zs k) 39)) := HB1.out.trans (((Below.refl _ _).alloc (Nat.le_refl _) _).mono HB1.out.size)
    have HR0 : Hid (WordsOn (w1.alloc (.cells (zs k) 39)) w.heap.size (.slice (some ⟨w1.heap.size, 0, none⟩) 0 k) (rwL P p n s hh 0)) := ⟨World.ownsRow_made w1 (zs k) k HB1.out.size (by unfold maxLen; omega) (by rw [Nat.mul_one]; exact size_madeCells _ _)⟩
    have HB2 : Hid (Below w.heap.size w (w1.alloc (.cells (zs k) 39))) := hB2
    generalize w1.alloc (.cells (zs k) 39) = w2 at *
    clear hmk2 hB2 HB1
    go_loopw [11, 28] (fun vv i wr => ∃ (j : Nat) (v : Value), v = vv ∧ j ≤ k ∧ i = .int .u64 j ∧ Hid (WordsOn wr w.heap.size v (rwL P p n s hh j)) ∧ Hid (Below w.heap.size w wr)) (fun vv i _ => k - (intOf i).toNat)
    case atStart => exact ⟨0, _, rfl, Nat.zero_le _, rfl, HR0, HB2⟩
    case round =>
      clear HR0 HB2
      obtain ⟨j, v, rfl, hj, rfl, HV, HB⟩ := hrel
      by_cases hlt : j < k
      · have hk1 : (j : Int) < (k : Int) := by omega
        have hk2 : decide ((j : Int) < (k : Int)) = true := decide_eq_true (by omega)
        obtain ⟨z, hz⟩ : ∃ z, IntKind.u64.wrap (hh + j) = z := ⟨_, rfl⟩
        have hzb : 0 ≤ z ∧ z ≤ 18446744073709551615 := by rw [← hz]; generalize hh + (j : Int) = y; simp [IntKind.wrap, IntKind.bits, IntKind.signed]; omega
        have hR := HRG.out wr HB.out z hzb
        have HX : Hid (rwAt P p n s hh j = peekT n s (wd 20 P 264 p (8 + z % 256))) := by
          show rwAt P p n s hh j = _
          unfold rwAt
          rw [hz]
        go_wp2_with fail
        go_at_call 135; refine hR.mono ?_; rintro e w3 ⟨rfl, h3⟩
        have HB3 : Hid (Below w.heap.size w w3) := seq HB.out h3
        have hP := HPK.out w3 HB3.out (wd 20 P 264 p (8 + z % 256))
        have HV3 : Hid (WordsOn w3 w.heap.size v (rwL P p n s hh j)) := HV.out.below h3
        generalize decide (0 ≤ wd 20 P 264 p (8 + z % 256) ∧ wd 20 P 264 p (8 + z % 256) < n) = zz at *
        rw [← HX.out] at hP
        generalize wd 20 P 264 p (8 + z % 256) = at' at *
        generalize hgw : rwAt P p n s hh j = gv at *
        have HGW : Hid (rwAt P p n s hh j = gv) := hgw
        clear hR h3 HB HV hgw
        go_wp2_with fail
        go_at_call 39; refine hP.mono ?_; rintro e w4 ⟨rfl, rfl⟩
        have hOO := HV3.out.own
        rw [rwL_len] at hOO
        have hsz := HB3.out.size
        clear hP
        go_wp2_with (at_builtin; refine wpList_append_own _ rfl _ _ 38 rfl w.heap.size 39 i0 (.int .u64 0) 1 8 Tryz.underlying38 hi hz0 hz1 hz2 rfl (by decide) _ _ _ rfl (hOO.alloc _) ⟨w3.heap.size, 0, none⟩ 1 1 [.int .u64 gv] rfl rfl (cell_one_new _ _ _) (ints_oneCell .u64 [gv]) (by unfold maxLen; omega) (by omega) (by simp; omega) ?_; intro v' w5 hown' hgrow2 hnil2)
        have HB5 : Hid (Below w.heap.size w w5) := (HB3.out.alloc HB3.out.size _).grown hgrow2 (by simp; omega) (fun k hk => (hOO.lt k hk).1)
        have HV5 : Hid (WordsOn w5 w.heap.size v' (rwL P p n s hh (j + 1))) := ⟨by
          rw [rwL_len, rwL_succ, List.map_append, HGW.out]
          exact hown'⟩
        have e1 : IntKind.u64.wrap ((j : Int) + 1) = (j : Int) + 1 := wrap_u64 (by omega)
        clear hown' hgrow2 hnil2 hOO
        go_wp2_with fail
        go_roundw
        case rel => exact ⟨j + 1, v', rfl, by omega, by go_num, HV5, HB5⟩
        case measure => simp [intOf]; omega
      · obtain rfl : j = k := by omega
        have hk2 : decide ((j : Int) < (j : Int)) = false := by simp
        have HF : Hid (WordsOn wr w.heap.size v (rwL P p n s hh j)) := HV.out
        have HBF : Hid _ := HB.out
        clear HV HB
        go_wp2_with fail
        go_returns
        exact ⟨v, rfl, HF.out, HBF.out⟩
  · obtain rfl : k = 256 := by have := HK.out; rw [if_neg hm] at this; omega
    have hd : decide (256 < mm) = true := decide_eq_true (by omega)
    have hmk2 : (Instr.makeSlice 38 (.int .i64 0) (.int .u64 256)).run Tryz.prog w1 = .ok (.slice (some ⟨w1.heap.size, 0, none⟩) 0 256) (w1.alloc (.cells (zs 256) 39)) := hmk 256 HKB.out w1
    go_wp2_with fail
    have hB2 : Below w.heap.size w (w1.alloc (.cells (zs 256) 39)) := HB1.out.trans (((Below.refl _ _).alloc (Nat.le_refl _) _).mono HB1.out.size)
    have HR0 : Hid (WordsOn (w1.alloc (.cells (zs 256) 39)) w.heap.size (.slice (some ⟨w1.heap.size, 0, none⟩) 0 256) (rwL P p n s hh 0)) := ⟨World.ownsRow_made w1 (zs 256) 256 HB1.out.size (by unfold maxLen; omega) (by rw [Nat.mul_one]; exact size_madeCells _ _)⟩
    have HB2 : Hid (Below w.heap.size w (w1.alloc (.cells (zs 256) 39))) := hB2
    generalize w1.alloc (.cells (zs 256) 39) = w2 at *
    clear hmk2 hB2 HB1
    go_loopw [11, 28] (fun vv i wr => ∃ (j : Nat) (v : Value), v = vv ∧ j ≤ 256 ∧ i = .int .u64 j ∧ Hid (WordsOn wr w.heap.size v (rwL P p n s hh j)) ∧ Hid (Below w.heap.size w wr)) (fun vv i _ => 256 - (intOf i).toNat)
    case atStart => exact ⟨0, _, rfl, Nat.zero_le _, rfl, HR0, HB2⟩
    case round =>
      clear HR0 HB2
      obtain ⟨j, v, rfl, hj, rfl, HV, HB⟩ := hrel
      by_cases hlt : j < 256
      · have hk1 : (j : Int) < (256 : Int) := by omega
        have hk2 : decide ((j : Int) < 256) = true := decide_eq_true (by omega)
        obtain ⟨z, hz⟩ : ∃ z, IntKind.u64.wrap (hh + j) = z := ⟨_, rfl⟩
        have hzb : 0 ≤ z ∧ z ≤ 18446744073709551615 := by rw [← hz]; generalize hh + (j : Int) = y; simp [IntKind.wrap, IntKind.bits, IntKind.signed]; omega
        have hR := HRG.out wr HB.out z hzb
        have HX : Hid (rwAt P p n s hh j = peekT n s (wd 20 P 264 p (8 + z % 256))) := by
          show rwAt P p n s hh j = _
          unfold rwAt
          rw [hz]
        go_wp2_with fail
        go_at_call 135; refine hR.mono ?_; rintro e w3 ⟨rfl, h3⟩
        have HB3 : Hid (Below w.heap.size w w3) := seq HB.out h3
        have hP := HPK.out w3 HB3.out (wd 20 P 264 p (8 + z % 256))
        have HV3 : Hid (WordsOn w3 w.heap.size v (rwL P p n s hh j)) := HV.out.below h3
        generalize decide (0 ≤ wd 20 P 264 p (8 + z % 256) ∧ wd 20 P 264 p (8 + z % 256) < n) = zz at *
        rw [← HX.out] at hP
        generalize wd 20 P 264 p (8 + z % 256) = at' at *
        generalize hgw : rwAt P p n s hh j = gv at *
        have HGW : Hid (rwAt P p n s hh j = gv) := hgw
        clear hR h3 HB HV hgw
        go_wp2_with fail
        go_at_call 39; refine hP.mono ?_; rintro e w4 ⟨rfl, rfl⟩
        have hOO := HV3.out.own
        rw [rwL_len] at hOO
        have hsz := HB3.out.size
        clear hP
        go_wp2_with (at_builtin; refine wpList_append_own _ rfl _ _ 38 rfl w.heap.size 39 i0 (.int .u64 0) 1 8 Tryz.underlying38 hi hz0 hz1 hz2 rfl (by decide) _ _ _ rfl (hOO.alloc _) ⟨w3.heap.size, 0, none⟩ 1 1 [.int .u64 gv] rfl rfl (cell_one_new _ _ _) (ints_oneCell .u64 [gv]) (by unfold maxLen; omega) (by omega) (by simp; omega) ?_; intro v' w5 hown' hgrow2 hnil2)
        have HB5 : Hid (Below w.heap.size w w5) := (HB3.out.alloc HB3.out.size _).grown hgrow2 (by simp; omega) (fun k hk => (hOO.lt k hk).1)
        have HV5 : Hid (WordsOn w5 w.heap.size v' (rwL P p n s hh (j + 1))) := ⟨by
          rw [rwL_len, rwL_succ, List.map_append, HGW.out]
          exact hown'⟩
        have e1 : IntKind.u64.wrap ((j : Int) + 1) = (j : Int) + 1 := wrap_u64 (by omega)
        clear hown' hgrow2 hnil2 hOO
        go_wp2_with fail
        go_roundw
        case rel => exact ⟨j + 1, v', rfl, by omega, by go_num, HV5, HB5⟩
        case measure => simp [intOf]; omega
      · obtain rfl : j = 256 := by omega
        have hk2 : decide (((256 : Nat) : Int) < 256) = false := by decide
        have HF : Hid (WordsOn wr w.heap.size v (rwL P p n s hh 256)) := HV.out
        have HBF : Hid _ := HB.out
        clear HV HB
        go_wp2_with fail
        go_returns
        exact ⟨v, rfl, HF.out, HBF.out⟩
end Go.Proofs.YtggbohakpkplkaaGreat

namespace Go.Proofs.YtggbohakpkplkaaGreat
open Go Go.RowKit Go.Maps
set_option linter.unusedVariables false
set_option maxRecDepth 100000
set_option linter.unusedSimpArgs false

def gsOk (G w : Int) : Bool := decide (w ≠ 0 ∧ w ≤ G)
def gsL (G : Int) (l : List Int) : List Int := (l.filter (gsOk G)).map gw
def rwN (nx : Int) (l : List Int) : List Int := if nx = 0 then l else l ++ [nx]
theorem gsL_snoc (G : Int) (l : List Int) (x : Int) : gsL G (l ++ [x]) = if gsOk G x = true then gsL G l ++ [gw x] else gsL G l := by
  unfold gsL
  rw [List.filter_append]
  cases h : gsOk G x
  · simp [List.filter, h]
  · simp [List.filter, h]
theorem WordsOn.cell {w : World} {base : Nat} {v : Value} {l : List Int} (h : WordsOn w base v l) {j : Nat} (hj : j < l.length) : ∃ gb cap, v = .slice (some ⟨gb, 0, none⟩) l.length cap ∧ gb < w.heap.size ∧ w.cell? ⟨gb, j, none⟩ = some (.int .u64 (l.getD j 0)) := by
  rcases h.own.2 with ⟨e, h0⟩ | ⟨gb, cp, cur, e, hb, hh, hnc, hcm, hcs, htk⟩
  · omega
  · subst e
    refine ⟨gb, cp, rfl, block_lt hh, ?_⟩
    have hc := h.own.cellAt j (by omega)
    rw [List.getElem?_map, List.getElem?_eq_getElem hj] at hc
    rw [List.getD_eq_getElem?_getD, List.getElem?_eq_getElem hj]
    exact hc
theorem WordsOn.slice {w : World} {base : Nat} {v : Value} {l : List Int} (h : WordsOn w base v l) : ∃ A cap, v = .slice A l.length cap := by
  rcases h.own.2 with ⟨e0, h0⟩ | ⟨gb, cp, cur, e0, hb, hh, rest⟩
  · exact ⟨none, 0, by rw [e0, h0]⟩
  · exact ⟨_, _, e0⟩
theorem RI.IntsOn.mono {w : World} {base base' : Nat} {v : Value} {l : List Int} (h : RI.IntsOn w base v l) (hb : base' ≤ base) : RI.IntsOn w base' v l := by
  refine ⟨h.own.1, ?_⟩
  rcases h.own.2 with h0 | ⟨gb, cp, cur, e0, hb0, rest⟩
  · exact .inl h0
  · exact .inr ⟨gb, cp, cur, e0, Nat.le_trans hb hb0, rest⟩
/-- All goroutines that are seen, and whether all are some. -/
def rgsL (P G p : Int) (n : Nat) (s : St) : List Int := rwN (peekT n s (wd 20 P 264 p 3)) (rwL P p n s (peekT n s (wd 20 P 264 p 1)) (rK P p n s))
theorem rgsL_bd {w : World} {T : TypeId} {A : Option Addr} {cap c b n : Nat} {s : St} (hI : Is w T A cap c b n s) (P G p : Int) : ∀ x ∈ rgsL P G p n s, 0 ≤ x ∧ x ≤ 18446744073709551615 := by
  intro x hx
  unfold rgsL rwN at hx
  have h1 : ∀ x ∈ rwL P p n s (peekT n s (wd 20 P 264 p 1)) (rK P p n s), 0 ≤ x ∧ x ≤ 18446744073709551615 := by
    intro x hx
    unfold rwL at hx
    obtain ⟨i, -, rfl⟩ := List.mem_map.1 hx
    exact rsf_bd hI _
  split at hx
  · exact h1 x hx
  · rcases List.mem_append.1 hx with h | h
    · exact h1 x h
    · rw [List.mem_singleton.1 h]; exact rsf_bd hI _
theorem rK_le (P p : Int) (n : Nat) (s : St) : rK P p n s ≤ 256 := by
  have h0 : 0 ≤ rMany P p n s := Int.emod_nonneg _ (by omega)
  unfold rK
  split <;> omega

set_option maxHeartbeats 4000000 in
theorem rgs_any (w : World) (cl : Nat) (P T G p : Int) (A : Option Addr) (cap c b n : Nat) (s : St) (hL : Lay w cl P T G) (hp : 0 ≤ P ∧ P ≤ 64) (hG : 0 ≤ G ∧ G ≤ 65536) (hI : Is w 126 A cap c b n s) (hn : n ≤ 1000000) :
    Calls Tryz.prog 50 #[.pointer (some ⟨cl, 0, none⟩), .pointer (some ⟨c, 0, none⟩), .int .i64 p] w fun e w' => ∃ v, e = .returned (.tuple #[v, .bool (decide (rMany P p n s ≤ 256) && (rgsL P G p n s).all (gsOk G))]) ∧ RI.IntsOn w' w.heap.size v (gsL G (rgsL P G p n s)) ∧ Below w.heap.size w w' := by
  obtain ⟨i0, hi, hz0, hz1, hz2⟩ := info_parts info39
  obtain ⟨i3, hi3, hz03, hz13, hz23⟩ := info_parts RI.lists_info3
  have hS := rsee_any w cl P T G p A cap c b n s hL hp hI hn
  have HW : Hid (∀ Y, Below w.heap.size w Y → Calls Tryz.prog 100 #[.pointer (some ⟨cl, 0, none⟩), .pointer (some ⟨c, 0, none⟩), .int .i64 p] Y fun e w' => ∃ v, e = .returned (.tuple #[v, .int .u64 (peekT n s (wd 20 P 264 p 3))]) ∧ WordsOn w' Y.heap.size v (rwL P p n s (peekT n s (wd 20 P 264 p 1)) (rK P p n s)) ∧ Below Y.heap.size Y w') := fun Y hY => rwords_any Y cl P T G p A cap c b n s (hL.below hY hL.lt) hp (hI.below hY) hn
  have HC : Hid (∀ Y, Below w.heap.size w Y → Calls Tryz.prog 95 #[.pointer (some ⟨cl, 0, none⟩)] Y fun e w' => e = .returned (.agg #[.int .i64 P, .int .i64 T, .int .i64 G]) ∧ Below Y.heap.size Y w') := fun Y hY => config_any _ P T G Y (.some cl (hL.below hY hL.lt))
  have hfc := field_c2
  have HBD : Hid (∀ x ∈ rgsL P G p n s, 0 ≤ x ∧ x ≤ 18446744073709551615) := rgsL_bd hI P G p
  have hkl := rK_le P p n s
  have hll : (rwL P p n s (peekT n s (wd 20 P 264 p 1)) (rK P p n s)).length = rK P p n s := rwL_len _ _ _ _ _ _
  have hRL : rgsL P G p n s = rwN (peekT n s (wd 20 P 264 p 3)) (rwL P p n s (peekT n s (wd 20 P 264 p 1)) (rK P p n s)) := rfl
  rw [show (peekT n s (wd 20 P 264 p 2) - peekT n s (wd 20 P 264 p 1)) % 4294967296 = rMany P p n s from rfl] at hS
  generalize rwL P p n s (peekT n s (wd 20 P 264 p 1)) (rK P p n s) = l0 at *
  generalize peekT n s (wd 20 P 264 p 1) = hh at *
  generalize peekT n s (wd 20 P 264 p 3) = nn at *
  generalize rMany P p n s = mm at *
  generalize rgsL P G p n s = ll at *
  have e3 : IntKind.u64.wrap G = G := wrap_u64 (by omega)
  have HLL : Hid (l0.length ≤ 256 ∧ ll = rwN nn l0) := ⟨by omega, hRL⟩
  clear hL hI hkl hll hRL
  go_enter Tryz.func50, Tryz.ntmps50
  go_wp2_with fail
  go_at_call 99; refine hS.mono ?_; rintro e w1 ⟨rfl, h1⟩
  have HB1 : Hid (Below w.heap.size w w1) := h1
  have hW := HW.out w1 h1
  clear hS h1
  generalize hdm : decide (mm ≤ 256) = dm at *
  go_wp2_with fail
  go_at_call 100; refine hW.mono ?_; rintro e w2 ⟨v0, rfl, hv0, h2⟩
  have HV0 : Hid (WordsOn w2 w1.heap.size v0 l0) := hv0
  have HB2 : Hid (Below w.heap.size w w2) := seq HB1.out h2
  have hs12 : Hid (w.heap.size ≤ w1.heap.size ∧ w1.heap.size ≤ w2.heap.size) := ⟨HB1.out.size, h2.size⟩
  clear hW hv0 h2
  by_cases hn0 : nn = 0
  · subst hn0
    have HLE : Hid (ll = l0) := HLL.out.2.trans (if_pos rfl)
    obtain ⟨A0, cp0, rfl⟩ := HV0.out.slice
    have HVX : Hid (WordsOn w2 w1.heap.size (.slice A0 ll.length cp0) ll) := by rw [HLE.out]; exact HV0.out
    have hsX : Hid (w.heap.size ≤ w2.heap.size) := HB2.out.size
    have HBX : Hid (Below w.heap.size w w2) := HB2.out
    have HLN : Hid (ll.length ≤ 257) := (by rw [HLE.out]; have := HLL.out.1; omega : ll.length ≤ 257)
    have hll : (l0.length : Int) = (ll.length : Int) := by rw [HLE.out]
    rw [← HLE.out]
    go_wp2_with fail
    go_loopw [11, 14, 42] (fun rr gg i wr => ∃ (j : Nat) (g : Value), g = gg ∧ j ≤ ll.length ∧ i = .int .i64 j ∧ rr = .bool (dm && (ll.take j).all (gsOk G)) ∧ Hid (RI.IntsOn wr w2.heap.size g (gsL G (ll.take j))) ∧ Hid (Below w2.heap.size w2 wr)) (fun _ _ i _ => ll.length - (intOf i).toNat)
    case atStart => exact ⟨0, _, rfl, Nat.zero_le _, rfl, by simp, ⟨World.ownsRow_nil _ _ _ _⟩, Below.refl _ _⟩
    case round =>
      obtain ⟨j, g, rfl, hj, rfl, rfl, HV, HB⟩ := hrel
      have hln9 : ll.length ≤ 257 := HLN.out
      by_cases hlt : j < ll.length
      · obtain ⟨gb, cp, ea, hgb, hcell⟩ := HVX.out.cell hlt
        injection ea with ea1 ea2 ea3
        subst ea1
        have hk1 : (j : Int) < (ll.length : Int) := by omega
        have hk0 : (0 : Int) ≤ (j : Int) := by omega
        have hc := (HB.out.cell (p := ⟨gb, j, none⟩) hgb).trans hcell
        have HTK : Hid (ll.take (j + 1) = ll.take j ++ [ll.getD j 0]) := by
          show ll.take (j + 1) = _
          rw [List.take_add_one, List.getD_eq_getElem?_getD, List.getElem?_eq_getElem hlt]
          rfl
        have hxb := HBD.out (ll.getD j 0) (by rw [List.getD_eq_getElem?_getD, List.getElem?_eq_getElem hlt]; exact List.getElem_mem hlt)
        generalize ll.getD j 0 = x at *
        generalize hdq : (dm && (ll.take j).all (gsOk G)) = dq
        have HDQ : Hid ((dm && (ll.take j).all (gsOk G)) = dq) := hdq
        clear hcell hdq ea2 ea3
        by_cases h0 : x = 0
        · subst h0
          have HF : Hid ((dm && (ll.take (j + 1)).all (gsOk G)) = false ∧ gsL G (ll.take (j + 1)) = gsL G (ll.take j)) := by
            rw [HTK.out]
            have hk : gsOk G 0 = false := by simp [gsOk]
            exact ⟨by simp [hk], by rw [gsL_snoc, hk]; rfl⟩
          go_wp2_with fail
          go_roundw
          case rel => exact ⟨j + 1, g, rfl, by omega, by go_num, by rw [HF.out.1], (by rw [HF.out.2]; exact HV.out : RI.IntsOn _ _ _ _), HB⟩
          case measure => simp [intOf]; omega
        · have hd0 : (x == 0) = false := by simpa using h0
          have hC := HC.out wr (HBX.out.trans (HB.out.mono hsX.out))
          go_wp2_with fail
          go_at_call 95; refine hC.mono ?_; rintro e w7 ⟨rfl, h7⟩
          have HB7 : Hid (Below w2.heap.size w2 w7) := seq HB.out h7
          have HV7 : Hid (RI.IntsOn w7 w2.heap.size g (gsL G (ll.take j))) := HV.out.keep (But.of_below (l := []) h7) (fun k _ => by simp)
          clear hC h7 hc HV HB
          by_cases hgt : G < x
          · have hdg : decide (G < x) = true := decide_eq_true hgt
            have HF : Hid ((dm && (ll.take (j + 1)).all (gsOk G)) = false ∧ gsL G (ll.take (j + 1)) = gsL G (ll.take j)) := by
              rw [HTK.out]
              have hk : gsOk G x = false := by simp [gsOk]; omega
              exact ⟨by simp [hk], by rw [gsL_snoc, hk]; rfl⟩
            go_wp2_with fail
            go_roundw
            case rel => exact ⟨j + 1, g, rfl, by omega, by go_num, by rw [HF.out.1], (by rw [HF.out.2]; exact HV7.out : RI.IntsOn _ _ _ _), HB7⟩
            case measure => simp [intOf]; omega
          · have hdg : decide (G < x) = false := decide_eq_false hgt
            have HF : Hid ((dm && (ll.take (j + 1)).all (gsOk G)) = dq ∧ gsL G (ll.take (j + 1)) = gsL G (ll.take j) ++ [gw x]) := by
              rw [HTK.out]
              have hk : gsOk G x = true := by simp [gsOk]; omega
              exact ⟨by rw [← HDQ.out]; simp [hk], by rw [gsL_snoc, hk]; rfl⟩
            obtain ⟨y, hy⟩ : ∃ y, IntKind.u64.wrap (x - 1) = y := ⟨_, rfl⟩
            obtain ⟨gx, hgx⟩ : ∃ gx, IntKind.i64.wrap y = gx := ⟨_, rfl⟩
            have HGX : Hid (gw x = gx) := by
              show gw x = gx
              unfold gw; rw [hy, hgx]
            have hOO := HV7.out.own
            have hlj : (gsL G (ll.take j)).length ≤ 257 := by
              unfold gsL
              rw [List.length_map]
              refine Nat.le_trans (List.length_filter_le _ _) ?_
              rw [List.length_take]; have := HLN.out; omega
            have hsz7 := HB7.out.size
            generalize hln : (gsL G (ll.take j)).length = ln at *
            have HLJ : Hid ((gsL G (ll.take j)).length = ln) := hln
            clear hln
            go_wp2_with (at_builtin; refine wpList_append_own _ rfl _ _ 49 rfl w2.heap.size 3 i3 (.int .i64 0) 1 8 Tryz.underlying49 hi3 hz03 hz13 hz23 rfl (by decide) _ _ _ rfl (hOO.alloc _) ⟨w7.heap.size, 0, none⟩ 1 1 [.int .i64 gx] rfl rfl (cell_one_new _ _ _) (ints_oneCell .i64 [gx]) (by unfold maxLen; omega) (by omega) (by simp; omega) ?_; intro v' w9 hown' hgrow2 hnil2)
            have HB9 : Hid (Below w2.heap.size w2 w9) := (HB7.out.alloc HB7.out.size _).grown hgrow2 (by simp; omega) (fun k hk => (hOO.lt k hk).1)
            have HV9 : Hid (RI.IntsOn w9 w2.heap.size v' (gsL G (ll.take (j + 1)))) := ⟨by
              rw [HF.out.2, List.map_append, List.length_append, HLJ.out, HGX.out]
              exact hown'⟩
            clear hown' hgrow2 hnil2 hOO
            go_wp2_with fail
            go_roundw
            case rel => exact ⟨j + 1, v', rfl, by omega, by go_num, by rw [HF.out.1], HV9, HB9⟩
            case measure => simp [intOf]; omega
      · obtain rfl : j = ll.length := by omega
        have HF : Hid (RI.IntsOn wr w.heap.size g (gsL G ll)) := by
          have := HV.out
          rw [List.take_length] at this
          exact this.mono hsX.out
        have HD : Hid ((dm && (ll.take ll.length).all (gsOk G)) = (dm && ll.all (gsOk G))) := by
          show _ = _
          rw [List.take_length]
        have HBF : Hid (Below w.heap.size w wr) := HBX.out.trans (HB.out.mono hsX.out)
        have hgd : decide ((ll.length : Int) < (ll.length : Int)) = false := by simp
        rw [HD.out]
        clear HV HB
        go_wp2_with fail
        go_returns
        exact ⟨g, by rw [hdm]; rfl, HF.out, HBF.out⟩
  · have hd0 : (nn == 0) = false := by simpa using hn0
    have hd1 : (nn != 0) = true := by simpa using hn0
    have HLE : Hid (ll = l0 ++ [nn]) := HLL.out.2.trans (if_neg hn0)
    have hOO := HV0.out.own
    have hlen := HLL.out.1
    have h12 := hs12.out
    go_wp2_with (at_builtin; refine wpList_append_own _ rfl _ _ 38 rfl w1.heap.size 39 i0 (.int .u64 0) 1 8 Tryz.underlying38 hi hz0 hz1 hz2 rfl (by decide) _ _ _ rfl (hOO.alloc _) ⟨w2.heap.size, 0, none⟩ 1 1 [.int .u64 nn] rfl rfl (cell_one_new _ _ _) (ints_oneCell .u64 [nn]) (by unfold maxLen; omega) (by omega) (by simp; omega) ?_; intro v' w5 hown' hgrow2 hnil2; generalize hq : l0.length + 1 = q at hown' ⊢; obtain rfl : q = ll.length := (by rw [← hq, HLE.out, List.length_append]; rfl); clear hq; obtain ⟨A0, cp0, rfl⟩ := RI.lists_slice hown')
    have HVX0 : Hid (WordsOn w5 w1.heap.size (.slice A0 ll.length cp0) ll) := ⟨by
      have := hown'
      rw [show ll.map (Value.int .u64) = l0.map (Value.int .u64) ++ [Value.int .u64 nn] by rw [HLE.out, List.map_append]; rfl]
      exact this⟩
    have hbx : Below w.heap.size w w5 := (HB2.out.alloc HB2.out.size _).grown hgrow2 (by simp; omega) (fun k hk => by have := (hOO.lt k hk).1; omega)
    have hsX : Hid (w.heap.size ≤ w5.heap.size) := hbx.size
    have HBX : Hid (Below w.heap.size w w5) := hbx
    have HLN : Hid (ll.length ≤ 257) := (by rw [HLE.out, List.length_append]; have := HLL.out.1; simp; omega : ll.length ≤ 257)
    have HVX : Hid (WordsOn w5 w1.heap.size (.slice A0 ll.length cp0) ll) := HVX0.out
    clear hown' hgrow2 hnil2 hOO hbx HVX0 h12 hlen
    go_loopw [11, 14, 42] (fun rr gg i wr => ∃ (j : Nat) (g : Value), g = gg ∧ j ≤ ll.length ∧ i = .int .i64 j ∧ rr = .bool (dm && (ll.take j).all (gsOk G)) ∧ Hid (RI.IntsOn wr w5.heap.size g (gsL G (ll.take j))) ∧ Hid (Below w5.heap.size w5 wr)) (fun _ _ i _ => ll.length - (intOf i).toNat)
    case atStart => exact ⟨0, _, rfl, Nat.zero_le _, rfl, by simp, ⟨World.ownsRow_nil _ _ _ _⟩, Below.refl _ _⟩
    case round =>
      obtain ⟨j, g, rfl, hj, rfl, rfl, HV, HB⟩ := hrel
      have hln9 : ll.length ≤ 257 := HLN.out
      by_cases hlt : j < ll.length
      · obtain ⟨gb, cp, ea, hgb, hcell⟩ := HVX.out.cell hlt
        injection ea with ea1 ea2 ea3
        subst ea1
        have hk1 : (j : Int) < (ll.length : Int) := by omega
        have hk0 : (0 : Int) ≤ (j : Int) := by omega
        have hc := (HB.out.cell (p := ⟨gb, j, none⟩) hgb).trans hcell
        have HTK : Hid (ll.take (j + 1) = ll.take j ++ [ll.getD j 0]) := by
          show ll.take (j + 1) = _
          rw [List.take_add_one, List.getD_eq_getElem?_getD, List.getElem?_eq_getElem hlt]
          rfl
        have hxb := HBD.out (ll.getD j 0) (by rw [List.getD_eq_getElem?_getD, List.getElem?_eq_getElem hlt]; exact List.getElem_mem hlt)
        generalize ll.getD j 0 = x at *
        generalize hdq : (dm && (ll.take j).all (gsOk G)) = dq
        have HDQ : Hid ((dm && (ll.take j).all (gsOk G)) = dq) := hdq
        clear hcell hdq ea2 ea3
        by_cases h0 : x = 0
        · subst h0
          have HF : Hid ((dm && (ll.take (j + 1)).all (gsOk G)) = false ∧ gsL G (ll.take (j + 1)) = gsL G (ll.take j)) := by
            rw [HTK.out]
            have hk : gsOk G 0 = false := by simp [gsOk]
            exact ⟨by simp [hk], by rw [gsL_snoc, hk]; rfl⟩
          go_wp2_with fail
          go_roundw
          case rel => exact ⟨j + 1, g, rfl, by omega, by go_num, by rw [HF.out.1], (by rw [HF.out.2]; exact HV.out : RI.IntsOn _ _ _ _), HB⟩
          case measure => simp [intOf]; omega
        · have hd0 : (x == 0) = false := by simpa using h0
          have hC := HC.out wr (HBX.out.trans (HB.out.mono hsX.out))
          go_wp2_with fail
          go_at_call 95; refine hC.mono ?_; rintro e w7 ⟨rfl, h7⟩
          have HB7 : Hid (Below w5.heap.size w5 w7) := seq HB.out h7
          have HV7 : Hid (RI.IntsOn w7 w5.heap.size g (gsL G (ll.take j))) := HV.out.keep (But.of_below (l := []) h7) (fun k _ => by simp)
          clear hC h7 hc HV HB
          by_cases hgt : G < x
          · have hdg : decide (G < x) = true := decide_eq_true hgt
            have HF : Hid ((dm && (ll.take (j + 1)).all (gsOk G)) = false ∧ gsL G (ll.take (j + 1)) = gsL G (ll.take j)) := by
              rw [HTK.out]
              have hk : gsOk G x = false := by simp [gsOk]; omega
              exact ⟨by simp [hk], by rw [gsL_snoc, hk]; rfl⟩
            go_wp2_with fail
            go_roundw
            case rel => exact ⟨j + 1, g, rfl, by omega, by go_num, by rw [HF.out.1], (by rw [HF.out.2]; exact HV7.out : RI.IntsOn _ _ _ _), HB7⟩
            case measure => simp [intOf]; omega
          · have hdg : decide (G < x) = false := decide_eq_false hgt
            have HF : Hid ((dm && (ll.take (j + 1)).all (gsOk G)) = dq ∧ gsL G (ll.take (j + 1)) = gsL G (ll.take j) ++ [gw x]) := by
              rw [HTK.out]
              have hk : gsOk G x = true := by simp [gsOk]; omega
              exact ⟨by rw [← HDQ.out]; simp [hk], by rw [gsL_snoc, hk]; rfl⟩
            obtain ⟨y, hy⟩ : ∃ y, IntKind.u64.wrap (x - 1) = y := ⟨_, rfl⟩
            obtain ⟨gx, hgx⟩ : ∃ gx, IntKind.i64.wrap y = gx := ⟨_, rfl⟩
            have HGX : Hid (gw x = gx) := by
              show gw x = gx
              unfold gw; rw [hy, hgx]
            have hOO := HV7.out.own
            have hlj : (gsL G (ll.take j)).length ≤ 257 := by
              unfold gsL
              rw [List.length_map]
              refine Nat.le_trans (List.length_filter_le _ _) ?_
              rw [List.length_take]; have := HLN.out; omega
            have hsz7 := HB7.out.size
            generalize hln : (gsL G (ll.take j)).length = ln at *
            have HLJ : Hid ((gsL G (ll.take j)).length = ln) := hln
            clear hln
            go_wp2_with (at_builtin; refine wpList_append_own _ rfl _ _ 49 rfl w5.heap.size 3 i3 (.int .i64 0) 1 8 Tryz.underlying49 hi3 hz03 hz13 hz23 rfl (by decide) _ _ _ rfl (hOO.alloc _) ⟨w7.heap.size, 0, none⟩ 1 1 [.int .i64 gx] rfl rfl (cell_one_new _ _ _) (ints_oneCell .i64 [gx]) (by unfold maxLen; omega) (by omega) (by simp; omega) ?_; intro v' w9 hown' hgrow2 hnil2)
            have HB9 : Hid (Below w5.heap.size w5 w9) := (HB7.out.alloc HB7.out.size _).grown hgrow2 (by simp; omega) (fun k hk => (hOO.lt k hk).1)
            have HV9 : Hid (RI.IntsOn w9 w5.heap.size v' (gsL G (ll.take (j + 1)))) := ⟨by
              rw [HF.out.2, List.map_append, List.length_append, HLJ.out, HGX.out]
              exact hown'⟩
            clear hown' hgrow2 hnil2 hOO
            go_wp2_with fail
            go_roundw
            case rel => exact ⟨j + 1, v', rfl, by omega, by go_num, by rw [HF.out.1], HV9, HB9⟩
            case measure => simp [intOf]; omega
      · obtain rfl : j = ll.length := by omega
        have HF : Hid (RI.IntsOn wr w.heap.size g (gsL G ll)) := by
          have := HV.out
          rw [List.take_length] at this
          exact this.mono hsX.out
        have HD : Hid ((dm && (ll.take ll.length).all (gsOk G)) = (dm && ll.all (gsOk G))) := by
          show _ = _
          rw [List.take_length]
        have HBF : Hid (Below w.heap.size w wr) := HBX.out.trans (HB.out.mono hsX.out)
        have hgd : decide ((ll.length : Int) < (ll.length : Int)) = false := by simp
        rw [HD.out]
        clear HV HB
        go_wp2_with fail
        go_returns
        exact ⟨g, by rw [hdm]; rfl, HF.out, HBF.out⟩
end Go.Proofs.YtggbohakpkplkaaGreat
