/- The frame of a law: a walk that returns true and turns nothing that was there is the law's outcome, whatever its arguments are. -/
import Derived.Test.YthbgoakaijeemaaGreatBB
import Derived.Test.YthbgoakaijeemaaGreatLock1
import Derived.Maps.OwnSet
import Derived.Maps.AppendAt
import Derived.OwnWalk
import Derived.ChangeShapes
import Derived.Test.YthbgoakaijeemaaGreatBA
import Derived.Test.YthbgoakaijeemaaGreatIl0
import Derived.Deep.RegionHeld3
import Derived.Test.YthbgoakaijeemaaGreatR6
import Derived.ProofKit
import Derived.Carry
import Derived.WalkKit
import Derived.OpenShut
namespace Go.Proofs.YthbgoakaijeemaaGreat
open Go Go.RowKit Go.Maps
set_option linter.unusedVariables false
set_option maxRecDepth 100000
set_option linter.unusedSimpArgs false

namespace RI
/-- A list of ints that the call made. -/
structure IntsOn (w : World) (base : Nat) (v : Value) (l : List Int) : Prop where
  own : w.ownsRow base 3 1 v l.length (l.map (Value.int .i64))
theorem lists_info3 : (Tryz.prog.info? 3).map (fun i => (i.zero, i.size, i.bytes)) = some (some (.int .i64 0), 1, 8) := by kernel_rfl
theorem row_but {w w' : World} {base : Nat} {e : TypeId} {size : Nat} {v : Value} {n : Nat} {xs : List Value} {l : List Nat} (h : w.ownsRow base e size v n xs) (hB : But l w w') (hl : ∀ b ∈ l, b < base) : w'.ownsRow base e size v n xs := by
  refine ⟨h.1, ?_⟩
  rcases h.2 with h0 | ⟨gb, cp, cur, e0, hb, hh, rest⟩
  · exact .inl h0
  · exact .inr ⟨gb, cp, cur, e0, hb, (hB.block gb (block_lt hh) (fun hm => absurd (hl gb hm) (by omega))).trans hh, rest⟩
theorem row_below {w w' : World} {base : Nat} {e : TypeId} {size : Nat} {v : Value} {n : Nat} {xs : List Value} (h : w.ownsRow base e size v n xs) (hB : Below w.heap.size w w') : w'.ownsRow base e size v n xs := row_but h (But.of_below (l := []) hB) (fun b hb => by cases hb)
theorem lists_slice {w : World} {base : Nat} {e : TypeId} {size : Nat} {v : Value} {n : Nat} {xs : List Value} (h : w.ownsRow base e size v n xs) : ∃ A cap, v = .slice A n cap := by
  rcases h.2 with ⟨e0, h0⟩ | ⟨gb, cp, cur, e0, hb, hh, rest⟩
  · subst h0; exact ⟨none, 0, e0⟩
  · exact ⟨_, _, e0⟩
theorem IntsOn.cell {w : World} {base : Nat} {v : Value} {l : List Int} (h : IntsOn w base v l) {j : Nat} (hj : j < l.length) : ∃ gb cap, v = .slice (some ⟨gb, 0, none⟩) l.length cap ∧ w.cell? ⟨gb, j, none⟩ = some (.int .i64 (l.getD j 0)) := by
  rcases h.own.2 with ⟨e, h0⟩ | ⟨gb, cp, cur, e, hb, hh, hnc, hcm, hcs, htk⟩
  · omega
  · subst e
    refine ⟨gb, cp, rfl, ?_⟩
    have hc := h.own.cellAt j (by omega)
    rw [List.getElem?_map, List.getElem?_eq_getElem hj] at hc
    rw [List.getD_eq_getElem?_getD, List.getElem?_eq_getElem hj]
    exact hc
/-- A slice of ints, seen in memory. -/
def SeesL (w : World) (v : Value) (l : List Int) : Prop := ∃ A cap, v = .slice A l.length cap ∧ (A = none → l.length = 0 ∧ cap = 0) ∧ (0 < l.length → ∃ b off : Nat, A = some ⟨b, off, none⟩ ∧ b < w.heap.size ∧ ∀ j, j < l.length → w.cell? ⟨b, off + j, none⟩ = some (.int .i64 (l.getD j 0)))
theorem SeesL.below {w w' : World} {v : Value} {l : List Int} (h : SeesL w v l) (hb : Below w.heap.size w w') : SeesL w' v l := by
  obtain ⟨A, cap, e, h1, h2⟩ := h
  refine ⟨A, cap, e, h1, fun hn => ?_⟩
  obtain ⟨b, off, e1, h3, h4⟩ := h2 hn
  exact ⟨b, off, e1, Nat.lt_of_lt_of_le h3 hb.size, fun j hj => (hb.cell (p := ⟨b, off + j, none⟩) h3).trans (h4 j hj)⟩
theorem IntsOn.sees {w : World} {base : Nat} {v : Value} {l : List Int} (h : IntsOn w base v l) : SeesL w v l := by
  by_cases h0 : 0 < l.length
  · obtain ⟨gb, cap, e, -⟩ := h.cell h0
    refine ⟨_, cap, e, (fun h => by cases h), fun hn => ⟨gb, 0, rfl, ?_, fun j hj => ?_⟩⟩
    · obtain ⟨gb', cap', e', hc⟩ := h.cell hn
      rw [e] at e'; cases e'
      exact cell_lt hc
    · obtain ⟨gb', cap', e', hc⟩ := h.cell hj
      rw [e] at e'; cases e'
      rw [Nat.zero_add]; exact hc
  · rcases h.own.2 with ⟨e, h1⟩ | ⟨gb, cp, cur, e, -⟩
    · exact ⟨none, 0, by rw [e, h1], fun _ => ⟨h1, rfl⟩, fun h => absurd h h0⟩
    · exact ⟨_, cp, e, (fun h => by cases h), fun h => absurd h h0⟩

theorem lsame_any (w : World) (v v' : Value) (l : List Int) (hn : l.length ≤ 1000000) (h : SeesL w v l) (h' : SeesL w v' l) :
    Calls Tryz.prog 107 #[v, v'] w fun e w' => e = .returned (.bool true) ∧ Below w.heap.size w w' := by
  obtain ⟨A, cap, rfl, -, h2⟩ := h
  obtain ⟨A', cap', rfl, -, h2'⟩ := h'
  have H : Hid (0 < l.length → ∃ b off : Nat, A = some ⟨b, off, none⟩ ∧ b < w.heap.size ∧ ∀ j, j < l.length → w.cell? ⟨b, off + j, none⟩ = some (.int .i64 (l.getD j 0))) := h2
  have H' : Hid (0 < l.length → ∃ b off : Nat, A' = some ⟨b, off, none⟩ ∧ b < w.heap.size ∧ ∀ j, j < l.length → w.cell? ⟨b, off + j, none⟩ = some (.int .i64 (l.getD j 0))) := h2'
  clear h2 h2'
  have HF : Hid (∃ (f : Nat → Int) (n : Nat), (fun j => l.getD j 0) = f ∧ l.length = n) := ⟨_, _, rfl, rfl⟩
  obtain ⟨f, n, hf, hl⟩ := HF.out
  have hfe : ∀ j, l.getD j 0 = f j := fun j => congrFun hf j
  simp only [hfe] at H H'
  rw [hl] at H H' hn ⊢
  clear HF hf hl hfe
  go_enter Tryz.func107, Tryz.ntmps107
  go_wp2_with fail
  go_loopw [5] (fun i wr => ∃ k m : Nat, k ≤ n ∧ i = .int .i64 k ∧ wr = w.drewN m) (fun i _ => n - (intOf i).toNat)
  case atStart => exact ⟨0, 0, Nat.zero_le _, rfl, rfl⟩
  case round =>
    obtain ⟨k, m, hk, rfl, rfl⟩ := hrel
    by_cases hlt : k < n
    · obtain ⟨b, off, rfl, hbB, hcell⟩ := H.out (by omega)
      obtain ⟨b', off', rfl, hbB', hcell'⟩ := H'.out (by omega)
      have e0 : w.cell? ⟨b, off + k, none⟩ = some (.int .i64 (f k)) := hcell k hlt
      have e1 : w.cell? ⟨b', off' + k, none⟩ = some (.int .i64 (f k)) := hcell' k hlt
      clear hcell hcell'
      generalize f k = x at e0 e1
      go_wp2_with fail
      go_quiet (fail)
      go_wp2_with fail
      go_roundw
      case rel => exact ⟨k + 1, _, by omega, by go_num, rfl⟩
      case measure => simp [intOf]; omega
    · obtain rfl : k = n := by omega
      go_wp2_with fail
      go_ret
      exact ⟨rfl, Below.drewN' (Below.refl _ _) m⟩
end RI
theorem But.grown {l : List Nat} {a w w' : World} {r : Option Nat} (h : But l a w) (hg : w.grownBy w' r) (hr : ∀ k, r = some k → k ∈ l ∨ a.heap.size ≤ k) : But l a w' :=
  ⟨hg.os.trans h.os, hg.tape.trans h.tape, hg.output.trans h.output, Nat.le_trans h.size hg.size, fun k hk hc => (hg.block k (Nat.lt_of_lt_of_le hk h.size) (fun e => by rcases hr k e.symm with h1 | h1; exact hc h1; omega)).trans (h.block k hk hc)⟩
def rowB (v : Value) : List Nat := match v.ownBlock with
  | some k => [k]
  | none => []
theorem rowB_mem {v : Value} {k : Nat} (h : v.ownBlock = some k) : k ∈ rowB v := by unfold rowB; rw [h]; simp
theorem mem_rowB {v : Value} {k : Nat} (h : k ∈ rowB v) : v.ownBlock = some k := by
  unfold rowB at h
  split at h
  · rename_i h'; simp at h; rw [h', h]
  · cases h
theorem RI.IntsOn.keep {w w' : World} {base : Nat} {v : Value} {l : List Int} {ll : List Nat} (h : RI.IntsOn w base v l) (hB : But ll w w') (hk : ∀ k ∈ rowB v, k ∉ ll) : RI.IntsOn w' base v l := by
  refine ⟨h.own.1, ?_⟩
  rcases h.own.2 with h0 | ⟨gb, cp, cur, e0, hb, hh, rest⟩
  · exact .inl h0
  · exact .inr ⟨gb, cp, cur, e0, hb, (hB.block gb (block_lt hh) (hk gb (rowB_mem (by rw [e0]; rfl)))).trans hh, rest⟩
theorem RI.IntsOn.up {w : World} {base : Nat} {v : Value} {l : List Int} (h : RI.IntsOn w base v l) : ∀ k ∈ rowB v, base ≤ k ∧ k < w.heap.size := fun k hk => h.own.lt k (mem_rowB hk)
/-- A list of ints that is only read. -/
def Rd.ints (base : Nat) (v : Value) (l : List Int) : Rd := ⟨rowB v, fun w => RI.IntsOn w base v l, fun w w' ll h hb hk => h.keep hb hk⟩
end Go.Proofs.YthbgoakaijeemaaGreat

namespace Go.Proofs.YthbgoakaijeemaaGreat
open Go Go.RowKit
set_option linter.unusedVariables false
set_option maxRecDepth 100000
set_option linter.unusedSimpArgs false

/-- A machine that is only kept. -/
def Rd.mach {σ : Type} {I : MI σ} {M : PM σ} (hG : I.Good M) (x : Nat) (t : σ) (L : List Nat) : Rd := ⟨L, fun w => I w x t L, fun w w' l h hb hk => hG.keep h hb hk⟩
section
variable {σ : Type} {I : MI σ} {M : PM σ} {R Rm : Rd} {W0 w w' : World} {A : Option Addr} {cap c b n : Nat} {s : St} {x : Nat} {t : σ} {L : List Nat}
theorem Solo.again (h : Solo I R W0 w A cap c b n s x t L) {τ : Type} {J : MI τ} {R2 : Rd} {y : Nat} {u : τ} {K : List Nat} (hm : J w y u K) (hr : R2.P w) (hB : ∀ k ∈ K, k ∈ R.B) (hR : ∀ k ∈ R2.B, k ∈ R.B) (hK : ∀ k ∈ K, k ∉ R2.B) (hup : ∀ k ∈ K, W0.heap.size ≤ k) : Solo J R2 W0 w A cap c b n s y u K :=
  ⟨h.mem, hm, hr, fun k hk => ⟨fun e => h.rfar.1 (e ▸ hB k hk), fun e => h.rfar.2 (e ▸ hB k hk), hK k hk⟩, ⟨fun hm => h.rfar.1 (hR _ hm), fun hm => h.rfar.2 (hR _ hm)⟩, ⟨h.up.1, h.up.2.1, hup⟩, fun k hk => h.rlt k (hR k hk), h.below⟩
end
theorem lit1_sees (w : World) (a : Int) : RI.SeesL (w.alloc (.cells #[.int .i64 a] 3)) (.slice (some ⟨w.heap.size, 0, none⟩) 1 1) [a] := by
  have hX := Blk.new w #[.int .i64 a] 3
  refine ⟨_, 1, rfl, (fun h => by cases h), fun _ => ⟨w.heap.size, 0, rfl, hX.lt, fun j hj => ?_⟩⟩
  have hj4 : j < 1 := hj
  obtain rfl : j = 0 := by omega
  exact hX.cell 0 rfl
theorem lit2_sees (w : World) (a b : Int) : RI.SeesL (w.alloc (.cells #[.int .i64 a, .int .i64 b] 3)) (.slice (some ⟨w.heap.size, 0, none⟩) 2 2) [a, b] := by
  have hX := Blk.new w #[.int .i64 a, .int .i64 b] 3
  refine ⟨_, 2, rfl, (fun h => by cases h), fun _ => ⟨w.heap.size, 0, rfl, hX.lt, fun j hj => ?_⟩⟩
  have hj4 : j < 2 := hj
  rcases (by omega : j = 0 ∨ j = 1) with rfl | rfl
  · exact hX.cell 0 rfl
  · exact hX.cell 1 rfl
theorem lit3_sees (w : World) (a b c : Int) : RI.SeesL (w.alloc (.cells #[.int .i64 a, .int .i64 b, .int .i64 c] 3)) (.slice (some ⟨w.heap.size, 0, none⟩) 3 3) [a, b, c] := by
  have hX := Blk.new w #[.int .i64 a, .int .i64 b, .int .i64 c] 3
  refine ⟨_, 3, rfl, (fun h => by cases h), fun _ => ⟨w.heap.size, 0, rfl, hX.lt, fun j hj => ?_⟩⟩
  have hj4 : j < 3 := hj
  rcases (by omega : j = 0 ∨ j = 1 ∨ j = 2) with rfl | rfl | rfl
  · exact hX.cell 0 rfl
  · exact hX.cell 1 rfl
  · exact hX.cell 2 rfl

section
variable {σ : Type} {I : MI σ} {M : PM σ} {R Rm : Rd} {W0 w w' : World} {A : Option Addr} {cap c b n : Nat} {s : St} {x : Nat} {t : σ} {L : List Nat}
theorem Solo.stepUp (hG : I.Good M) {F : Nat} {who : Int} (hS : Steps M I Rm F who) (hRm : ∀ w, R.P w → Rm.P w) (hRb : ∀ k ∈ Rm.B, k ∈ R.B) (h : Solo I R W0 w A cap c b n s x t L) (hn : n ≤ 1000000) (hl : Low s 1000000) :
    Calls Tryz.prog F #[.pointer (some ⟨x, 0, none⟩), .pointer (some ⟨c, 0, none⟩)] w fun e w' => (e = .returned (.bool (M.ax (M.goT n t s)).isNone)) ∧ w.heap.size ≤ w'.heap.size ∧ ∃ L', Solo I R W0 w' A cap c b n (M.goS who n t s) x (M.goT n t s) L' := by
  refine (hS w A cap c b n s x t L h.mach (hRm w h.rd) h.mem hn hl (fun k hk => ⟨(h.far k hk).1, (h.far k hk).2.1, fun hr => (h.far k hk).2.2 (hRb k hr)⟩) ⟨fun hr => h.rfar.1 (hRb c hr), fun hr => h.rfar.2 (hRb b hr)⟩).mono ?_
  rintro e w' ⟨rfl, L', a1, a2, a3, a4⟩
  have hsz := h.below.size
  have k1 := h.mem.lt
  have k2 := h.mem.bl
  refine ⟨rfl, a3.size, L', a2, a1, R.keep _ _ _ h.rd a3 (fun k hk => ?_), fun k hk => ?_, h.rfar, ⟨h.up.1, h.up.2.1, fun k hk => ?_⟩, fun k hk => Nat.lt_of_lt_of_le (h.rlt k hk) a3.size, h.below.trans (a3.below ?_ hsz)⟩
  · simp only [List.mem_cons, not_or]
    exact ⟨fun e => h.rfar.1 (e ▸ hk), fun e => h.rfar.2 (e ▸ hk), fun hm => (h.far k hm).2.2 hk⟩
  · rcases a4 k hk with h1 | h1
    · exact h.far k h1
    · exact ⟨by omega, by omega, fun hr => by have := h.rlt k hr; omega⟩
  · rcases a4 k hk with h1 | h1
    · exact h.up.2.2 k h1
    · omega
  · intro k hk
    simp only [List.mem_cons] at hk
    rcases hk with rfl | rfl | hk
    · exact h.up.1
    · exact h.up.2.1
    · exact h.up.2.2 k hk
end
theorem lit4b_sees (w : World) (a b c d : Int) : RI.SeesL (w.alloc (.cells #[.int .i64 a, .int .i64 b, .int .i64 c, .int .i64 d] 3)) (.slice (some ⟨w.heap.size, 0, none⟩) 4 4) [a, b, c, d] := by
  have hX := Blk.new w #[.int .i64 a, .int .i64 b, .int .i64 c, .int .i64 d] 3
  refine ⟨_, 4, rfl, (fun h => by cases h), fun _ => ⟨w.heap.size, 0, rfl, hX.lt, fun j hj => ?_⟩⟩
  have hj4 : j < 4 := hj
  rcases (by omega : j = 0 ∨ j = 1 ∨ j = 2 ∨ j = 3) with rfl | rfl | rfl | rfl
  · exact hX.cell 0 rfl
  · exact hX.cell 1 rfl
  · exact hX.cell 2 rfl
  · exact hX.cell 3 rfl
end Go.Proofs.YthbgoakaijeemaaGreat

namespace Go.Proofs.YthbgoakaijeemaaGreat
open Go Go.RowKit
set_option linter.unusedVariables false
set_option maxRecDepth 100000
set_option linter.unusedSimpArgs false

theorem imlistrow_mono {w : World} {base base' : Nat} {e : TypeId} {size : Nat} {v : Value} {n : Nat} {xs : List Value} (h : w.ownsRow base e size v n xs) (hb : base' ≤ base) : w.ownsRow base' e size v n xs := by
  refine ⟨h.1, ?_⟩
  rcases h.2 with h0 | ⟨gb, cp, cur, e0, hb0, rest⟩
  · exact .inl h0
  · exact .inr ⟨gb, cp, cur, e0, Nat.le_trans hb hb0, rest⟩
theorem imlist_link (w : World) (bx cl : Nat) (P T G : Int) (hp : 0 ≤ P ∧ P ≤ 64) (hT : 0 ≤ T ∧ T ≤ 65536) (hb : Blk w bx #[.pointer (some ⟨cl, 0, none⟩)] 30) (hl : Lay w cl P T G) (g : Int) :
    Calls Tryz.prog 146 #[.int .i64 g, .pointer (some ⟨bx, 0, none⟩)] w fun e w' => e = .returned (.int .i64 (wd (20 + P * 264) T 3 g 2)) ∧ Below w.heap.size w w' := by
  have c0 := hb.cell 0 (v := .pointer (some ⟨cl, 0, none⟩)) rfl
  have hW := lthr_any _ P T G g 2 w (.some cl hl) hp hT
  clear hb hl hp hT
  go_enter Tryz.func146, Tryz.ntmps146
  go_wp2_with fail
  go_at_call 35; refine hW.mono ?_; rintro e w1 ⟨rfl, h1⟩
  go_wp2_with fail
  go_ret
  exact ⟨rfl, h1⟩

set_option maxHeartbeats 4000000 in
theorem imlist_any (w : World) (A : Option Addr) (cap c b n cl : Nat) (s : St) (P T G : Int) (hI : Is w 128 A cap c b n s) (hn : n ≤ 1000000) (hl : Lay w cl P T G) (hp : 0 ≤ P ∧ P ≤ 64) (hT : 0 ≤ T ∧ T ≤ 65536) :
    Calls Tryz.prog 106 #[.pointer (some ⟨cl, 0, none⟩), .pointer (some ⟨c, 0, none⟩)] w fun e w' => ∃ v, e = .returned (.tuple #[v, .bool (lsOf (fun g => peekT n s (wd (20 + P * 264) T 3 g 2)) T (peekT n s 11)).2]) ∧ IntsOn w' w.heap.size v (lsOf (fun g => peekT n s (wd (20 + P * 264) T 3 g 2)) T (peekT n s 11)).1 ∧ Below w.heap.size w w' := by
  have hbx : Hid (Blk (w.alloc (.cells #[.pointer (some ⟨cl, 0, none⟩)] 30)) w.heap.size #[.pointer (some ⟨cl, 0, none⟩)] 30) := Blk.new _ _ _
  have HB : Hid (Below w.heap.size w (w.alloc (.cells #[.pointer (some ⟨cl, 0, none⟩)] 30))) := (Below.refl _ _).alloc (Nat.le_refl _) _
  have hfc := field_c1
  have hW : ∀ Y, Calls Tryz.prog 92 #[.pointer (some ⟨cl, 0, none⟩), .int .i64 11] Y fun e w' => e = .returned (.int .i64 11) ∧ Y = w' := fun Y => il_word Y cl 11 (by omega)
  have hent : Ent 146 := fun args w => by kernel_rfl
  obtain ⟨r, hr⟩ : ∃ r, lsOf (fun g => peekT n s (wd (20 + P * 264) T 3 g 2)) T (peekT n s 11) = r := ⟨_, rfl⟩
  rw [hr]
  have hsz : (w.alloc (.cells #[.pointer (some ⟨cl, 0, none⟩)] 30)).heap.size = w.heap.size + 1 := World.size_alloc _ _
  have HC : Hid (∀ Y, Below w.heap.size w Y → Calls Tryz.prog 104 #[.pointer (some ⟨cl, 0, none⟩)] Y fun e w' => e = .returned (.agg #[.int .i64 P, .int .i64 T, .int .i64 G]) ∧ Below Y.heap.size Y w') := fun Y hY => config_any _ P T G Y (.some cl (hl.below hY hl.lt))
  have HL : Hid (∀ Y, Below w.heap.size w Y → Blk Y w.heap.size #[.pointer (some ⟨cl, 0, none⟩)] 30 → Calls Tryz.prog 144 #[.pointer (some ⟨c, 0, none⟩), .int .i64 11, .int .i64 T, .func (.func 146) #[] #[.pointer (some ⟨w.heap.size, 0, none⟩)]] Y fun e w' => ∃ v, e = .returned (.tuple #[v, .bool r.2]) ∧ IntsOn w' w.heap.size v r.1 ∧ Below Y.heap.size Y w') := fun Y hY hB => by
    refine (links_any Y A cap c b n s 11 T 146 w.heap.size (fun g => wd (20 + P * 264) T 3 g 2) (hI.below hY) hn hT hent (fun W hW g => imlist_link W w.heap.size cl P T G hp hT (hB.but (But.of_below (l := []) hW) (by simp)) (hl.below (seq hY hW) hl.lt) g)).mono ?_
    rintro e w' ⟨v, rfl, h1, h2⟩
    rw [hr] at h1 ⊢
    exact ⟨v, rfl, ⟨imlistrow_mono h1.own (by have := hY.size; omega)⟩, h2⟩
  clear hI hl hn hp hT hent hr
  go_enter Tryz.func106, Tryz.ntmps106
  go_wp2_with fail
  generalize hY0 : w.alloc (.cells #[.pointer (some ⟨cl, 0, none⟩)] 30) = Y at *
  have k0 := hbx.out.cell 0 (v := .pointer (some ⟨cl, 0, none⟩)) rfl
  have HBX : Hid (∀ X, Below Y.heap.size Y X → Blk X w.heap.size #[.pointer (some ⟨cl, 0, none⟩)] 30) := fun X hX => hbx.out.but (But.of_below (l := []) hX) (by simp)
  have HBW : Hid (∀ X, Below Y.heap.size Y X → Below w.heap.size w X) := fun X hX => HB.out.trans (hX.mono (by omega))
  have HC2 : Hid (∀ X, Below Y.heap.size Y X → Calls Tryz.prog 104 #[.pointer (some ⟨cl, 0, none⟩)] X fun e w' => e = .returned (.agg #[.int .i64 P, .int .i64 T, .int .i64 G]) ∧ Below X.heap.size X w') := fun X hX => HC.out X (HBW.out X hX)
  have HL2 : Hid (∀ X, Below Y.heap.size Y X → Calls Tryz.prog 144 #[.pointer (some ⟨c, 0, none⟩), .int .i64 11, .int .i64 T, .func (.func 146) #[] #[.pointer (some ⟨w.heap.size, 0, none⟩)]] X fun e w' => ∃ v, e = .returned (.tuple #[v, .bool r.2]) ∧ IntsOn w' w.heap.size v r.1 ∧ Below X.heap.size X w') := fun X hX => HL.out X (HBW.out X hX) (HBX.out X hX)
  have hH : Hid (Y.drew.cell? ⟨w.heap.size, 0, none⟩ = some (.pointer (some ⟨cl, 0, none⟩)) ∧ Below Y.heap.size Y Y.drew) := ⟨hbx.out.drew.cell 0 rfl, (Below.refl _ _).drew⟩
  have KEEP : Hid (∀ X w' : World, (X.cell? ⟨w.heap.size, 0, none⟩ = some (.pointer (some ⟨cl, 0, none⟩)) ∧ Below Y.heap.size Y X) → Below X.heap.size X w' → (w'.cell? ⟨w.heap.size, 0, none⟩ = some (.pointer (some ⟨cl, 0, none⟩)) ∧ Below Y.heap.size Y w')) := fun X w' h k => ⟨(HBX.out w' (h.2.trans (k.mono h.2.size))).cell 0 rfl, h.2.trans (k.mono h.2.size)⟩
  have HFIN : Hid (∀ X, Below Y.heap.size Y X → Below w.heap.size w X) := HBW
  clear HC HL hbx HB hY0 k0 HBX HBW hsz
  go_region_held3 (fun w' => w'.cell? ⟨w.heap.size, 0, none⟩ = some (.pointer (some ⟨cl, 0, none⟩)) ∧ Below Y.heap.size Y w') (first | exact hH.out | assumption | exact KEEP.out _ _ ‹_› ‹_›) (first | (go_at_call 92; refine (hW _).mono ?_; rintro e x1 ⟨rfl, rfl⟩) | (go_at_call 104; refine (HC2.out _ (by simp only [*])).mono ?_; rintro e x2 ⟨rfl, g2⟩) | (go_at_call 144; refine (HL2.out _ (by simp only [*])).mono ?_; rintro e x3 ⟨v, rfl, hv3, g3⟩))
  all_goals
    rename_i hHeld
    have hF := HFIN.out _ hHeld.2
    clear hW HC2 HL2 hH KEEP HFIN hHeld
    go_wp2_with fail
    go_returns
    exact ⟨v, rfl, hv3, hF⟩
end Go.Proofs.YthbgoakaijeemaaGreat

namespace Go.Proofs.YthbgoakaijeemaaGreat
open Go Go.RowKit
set_option linter.unusedVariables false
set_option maxRecDepth 100000
set_option linter.unusedSimpArgs false

def reaM : PM ReT := rePM 1 2 1
def reaS0 : St := fresh (fun _ => 0)
def reaS : St := (reaM.steps 1 292 20 (.acq .fresh, reaS0)).2
def reaT : ReT := (reaM.steps 1 292 20 (.acq .fresh, reaS0)).1
theorem rea_list : lsOf (fun g => peekT 292 reaS (wd (20 + 1 * 264) 2 3 g 2)) 2 (peekT 292 reaS 11) = ([1], true) := by decide +kernel
theorem rea_done : (reaM.ax reaT).isNone = false := by decide +kernel
theorem rea_aslp : reaM.aslp 292 reaT reaS = true := by decide +kernel
set_option maxHeartbeats 8000000 in
theorem rest_awake (w : World) : Calls Tryz.prog 40 #[] w fun e w' => e = .returned (.bool true) ∧ Below w.heap.size w w' := by
  have hL := lay_some 1 2 1 none 0 0 292 (fun _ => 0) (fun _ => 0) w (by omega) ⟨⟨by omega⟩, by omega, by omega, by omega⟩ (by omega) (fun h => absurd h (by omega)) (fun i h => absurd h (by omega))
  go_enter Tryz.func40, Tryz.ntmps40
  go_wp2_with fail
  go_at_call 11; refine hL.mono ?_; rintro e w1 ⟨cl, A, A', cap, cap', c, b, c', b', rfl, hLd⟩
  have HI1 : Hid (Is w1 128 A cap c b 292 reaS0) := hLd.two.m
  have HY1 : Hid (Lay w1 cl 1 2 1) := hLd.lay
  have HB1 : Hid (Below w.heap.size w w1) := hLd.below
  have hne : Hid (cl ≠ c ∧ cl ≠ b) := lay_ne hLd.lay (by decide) hLd.two.m (by omega)
  have hup : Hid (w.heap.size ≤ c ∧ w.heap.size ≤ b) := ⟨hLd.up.2.1, hLd.up.2.2.1⟩
  have hLM : (reCp 1 2 1 1 cl).Laws (rePM 1 2 1) (Rd.lay cl 1 2 1) 1 := re_laws (by omega) (by omega) (by omega)
  have hGM : ((reCp 1 2 1 1 cl).I).Good reaM := Cp.good hLM
  have HAS : Hid (Aslp reaM ((reCp 1 2 1 1 cl).I) 55) := re_aslp (by omega) (by omega) (by omega)
  have HST : Hid (Steps reaM ((reCp 1 2 1 1 cl).I) (Rd.lay cl 1 2 1) 57 1) := Cp.steps hLM stepby_rrst
  have HRF : Hid (c ∉ ((Rd.lay cl 1 2 1)).B ∧ b ∉ ((Rd.lay cl 1 2 1)).B) := ⟨fun h => hne.out.1 (List.mem_singleton.1 h).symm, fun h => hne.out.2 (List.mem_singleton.1 h).symm⟩
  have hN := re_new_at w1 cl 1 1 2 1 (by omega)
  clear hL hLd hne hLM
  go_wp2_with fail
  go_at_call 58; refine hN.mono ?_; rintro e w2 ⟨x, L, rfl, ha1, ha2, ha3, -⟩
  have HSA : Hid (Solo ((reCp 1 2 1 1 cl).I) (Rd.lay cl 1 2 1) w w2 A cap c b 292 (reaM.steps 1 292 0 (.acq .fresh, reaS0)).2 x (reaM.steps 1 292 0 (.acq .fresh, reaS0)).1 L) := Solo.begin HI1.out ha2 HB1.out hup.out ha1 ha3 HY1.out (fun k hk => by obtain rfl : k = cl := List.mem_singleton.1 hk; exact HY1.out.lt) HRF.out
  clear hN ha1 ha2 ha3 HI1 HY1 HB1
  go_wp2_with fail
  have HLO : Hid (∀ q : Nat, q ≤ 20 → Low (reaM.steps 1 292 q (.acq .fresh, reaS0)).2 1000000) := fun q hq => (PM.steps_low reaM 1 292 q (.acq .fresh, reaS0) (low_fresh _)).more (by omega)
  go_loopw [6] (fun k wi => ∃ (q : Nat) (L : List Nat), q ≤ 20 ∧ k = .int .i64 q ∧ Hid (Solo ((reCp 1 2 1 1 cl).I) (Rd.lay cl 1 2 1) w wi A cap c b 292 (reaM.steps 1 292 q (.acq .fresh, reaS0)).2 x (reaM.steps 1 292 q (.acq .fresh, reaS0)).1 L)) (fun k _ => 20 - (intOf k).toNat)
  case atStart => exact ⟨0, _, by omega, rfl, HSA⟩
  case round =>
    clear HSA
    obtain ⟨q, L, hq, rfl, HS⟩ := hrel
    by_cases hq9 : q < 20
    · have hSt := HS.out.step hGM HST.out (fun Y h => h) (fun k hk => hk) (by omega) (HLO.out q hq)
      rw [show reaM.goS 1 292 (reaM.steps 1 292 q (.acq .fresh, reaS0)).1 (reaM.steps 1 292 q (.acq .fresh, reaS0)).2 = (reaM.steps 1 292 (q + 1) (.acq .fresh, reaS0)).2 by rw [PM.steps_succ], show reaM.goT 292 (reaM.steps 1 292 q (.acq .fresh, reaS0)).1 (reaM.steps 1 292 q (.acq .fresh, reaS0)).2 = (reaM.steps 1 292 (q + 1) (.acq .fresh, reaS0)).1 by rw [PM.steps_succ]] at hSt
      have hq1 : (q : Int) < 20 := by omega
      have hq0 : (0 : Int) ≤ (q : Int) := by omega
      clear HS
      go_wp2_with fail
      go_at_call 57; refine hSt.mono ?_; rintro e w4 ⟨rfl, L', hS'⟩
      have HS' : Hid _ := hS'
      clear hSt hS'
      go_wp2_with fail
      go_roundw
      case rel => exact ⟨q + 1, L', by omega, by go_num, HS'⟩
      case measure => simp [intOf]; omega
    · obtain rfl : q = 20 := by omega
      clear HLO
      rw [show ((20 : Nat) : Int) = 20 from rfl]
      have HI6 : Hid (Is wr 128 A cap c b 292 reaS) := HS.out.mem
      have HMX : Hid (∀ Y, Below wr.heap.size wr Y → ((reCp 1 2 1 1 cl).I) Y x reaT L) := fun Y hY => hGM.below HS.out.mach hY
      have HBF : Hid (Below w.heap.size w wr) := HS.out.below
      have HFR : Hid (∀ k ∈ L, k ≠ c ∧ k ≠ b) := fun k hk => ⟨(HS.out.far k hk).1, (HS.out.far k hk).2.1⟩
      have hLs := imlist_any wr A cap c b 292 cl reaS 1 2 1 HI6.out (by omega) HS.out.rd (by omega) (by omega)
      rw [rea_list] at hLs
      clear HS
      go_wp2_with fail
      go_at_call 106; refine hLs.mono ?_; rintro e w5 ⟨vl, rfl, hv5, hb5⟩
      have HV5 : Hid (IntsOn w5 wr.heap.size vl [1]) := hv5
      have HB5 : Hid (Below wr.heap.size wr w5) := hb5
      have hA := HAS.out w5 A cap c b 292 reaS x reaT L (HMX.out w5 hb5) (HI6.out.below hb5) (by omega) HFR.out
      rw [rea_aslp] at hA
      clear hLs hv5 hb5
      go_wp2_with fail
      go_at_call 55; refine hA.mono ?_; rintro e w6 ⟨rfl, hb6⟩
      have HB6 : Hid (Below wr.heap.size wr w6) := seq HB5.out hb6
      have HB56 : Hid (Below w5.heap.size w5 w6) := hb6
      have hD : Calls Tryz.prog 52 #[.pointer (some ⟨x, 0, none⟩)] w6 fun e w' => e = .returned (.bool false) ∧ w6 = w' := by
        obtain ⟨nx, q1, q2⟩ := hGM.next (HMX.out w6 HB6.out)
        rw [rea_done] at q2
        rw [← q2]
        exact done_rrst w6 x nx q1
      clear hA hb6
      go_wp2_with fail
      go_at_call 52; refine hD.mono ?_; rintro e w7 ⟨rfl, rfl⟩
      clear hD
      have HSL : Hid (RI.SeesL w6 vl [1]) := (RI.IntsOn.sees (⟨HV5.out.own⟩ : RI.IntsOn w5 wr.heap.size vl [1])).below HB56.out
      have hSm := RI.lsame_any (w6.alloc (.cells #[.int .i64 1] 3)) vl _ [1] (by decide) (HSL.out.below ((Below.refl _ _).alloc (Nat.le_refl _) _)) (lit1_sees w6 1)
      have HA8 : Hid (Below w6.heap.size w6 (w6.alloc (.cells #[.int .i64 1] 3))) := (Below.refl _ _).alloc (Nat.le_refl _) _
      clear HV5 HSL
      go_wp2_with fail
      go_at_call 107; refine hSm.mono ?_; rintro e w9 ⟨rfl, hb9⟩
      have HFF : Hid (Below w.heap.size w w9) := seq HBF.out (seq HB6.out (seq HA8.out hb9))
      clear hSm hb9
      go_wp2_with fail
      go_ret
      exact ⟨rfl, HFF.out⟩
end Go.Proofs.YthbgoakaijeemaaGreat

namespace Go.Proofs.YthbgoakaijeemaaGreat
open Go Go.ChangeShapes Go.WideShapes Go.ChangeAt Go.RowKit

theorem below_trodAll {H : Type} {enc : TypeId × Value → H} {P : Program} (hl : laidOutB P = true) {W W' : World} (hb : Below W.heap.size W W') :
    ∀ (ts : List TypeId) (vs : List Value) (ds : List (DataW H)) (ps : List MemPlace), (ts.all fun t => P.readableRec t && decide (t < P.types.size)) = true →
      DataW.TrodAll enc P W 0 (fun _ => true) true ts vs ds ps → DataW.TrodAll enc P W' 0 (fun b => decide (b < W.heap.size)) true ts vs ds ps := by
  intro ts
  induction ts with
  | nil =>
    intro vs ds ps _ h
    cases vs <;> cases ds <;> first | exact h | exact (h : False).elim
  | cons t ts ih =>
    intro vs ds ps hall h
    cases vs with
    | nil => exact (h : False).elim
    | cons v vs =>
      cases ds with
      | nil => exact (h : False).elim
      | cons d ds =>
        obtain ⟨p, q, h1, h2, rfl⟩ := h
        simp only [List.all_cons, Bool.and_eq_true, decide_eq_true_eq] at hall
        have lt : ∀ x ∈ p, x.block < W.heap.size := by obtain ⟨m, hm⟩ := h1; exact DataW.trod_lt m _ _ _ hm
        exact ⟨p, q, Below.trod hl hall.1.1 hall.1.2 h1 hb lt, ih vs ds q hall.2 h2, rfl⟩

theorem law_post {H : Type} {enc : TypeId × Value → H} {P : Program} {f : Func} {s : ChangeSpec} {apart : Bool} {W W' : World} {args : Array Value} {ds gs : List (DataW H)} {before : List MemPlace} {bt : TypeId}
    (hl : laidOutB P = true) (hr : f.resultTypes.toList = [bt]) (hbt : P.underlying bt = some .bool) (hts : (f.params.toList.all fun t => P.readableRec t && decide (t < P.types.size)) = true)
    (hvars : s.vars = []) (hres : (s.fn H ds).results = [.lit (.bool true)]) (harg : (s.fn H ds).args = ds) (hvs : (s.fn H ds).vars = [])
    (hW : DataW.Whole enc P f.params.toList s.vars apart W args.toList ds gs before) (hb : Below W.heap.size W W') :
    s.post enc P f apart true false false W args (.bool true) W' := by
  have hW' := hW
  obtain ⟨p, q, hA, hV, rfl, hfz, hnd⟩ := hW
  have hg : gs = [] ∧ q = [] := by rw [hvars] at hV; exact trodVars_none hV
  obtain ⟨rfl, rfl⟩ := hg
  refine ⟨ds, [], _, [], p, [], hW', ?_, ?_, ?_, hb.frame _, fun h => by cases h⟩
  · have e : (Value.bool true).resultList f.resultTypes.size = [.bool true] := by
      have hs : f.resultTypes.size = 1 := by rw [← Array.length_toList, hr]; rfl
      rw [hs]; rfl
    rw [List.append_nil, hres, hr, e]
    exact trodAll_mk1 (shut_bool hbt _)
  · rw [List.append_nil, harg]
    exact below_trodAll hl hb _ _ _ _ hts hA
  · rw [List.append_nil, hvs, hvars]
    rfl
end Go.Proofs.YthbgoakaijeemaaGreat
