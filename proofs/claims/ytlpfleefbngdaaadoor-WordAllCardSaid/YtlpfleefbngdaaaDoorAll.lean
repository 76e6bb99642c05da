/- The contract of word.All: the entries of all words, one behind the other, in a row of its own. -/
import Derived.Test.YtlpfleefbngdaaaDoorWalks3
namespace Go.Proofs.YtlpfleefbngdaaaDoor
open Go Go.RowKit
set_option linter.unusedSimpArgs false
set_option linter.unusedVariables false

/-- A slice of n words, seen in memory below block B: the i-th is f i. -/
def SeesU (w : World) (B : Nat) (A : Option Addr) (n : Nat) (f : Nat → Int) : Prop :=
  0 < n → ∃ b off : Nat, A = some ⟨b, off, none⟩ ∧ b < B ∧ ∀ i, i < n → w.cell? ⟨b, off + i, none⟩ = some (.int .u64 (f i))
theorem SeesU.below {w w' : World} {B B' n : Nat} {A : Option Addr} {f : Nat → Int} (h : SeesU w B A n f) (hb : Below B' w w') (hB : B ≤ B') : SeesU w' B A n f := fun hn => by
  obtain ⟨b, off, e, h1, h2⟩ := h hn
  exact ⟨b, off, e, h1, fun i hi => (hb.cell (p := ⟨b, off + i, none⟩) (Nat.lt_of_lt_of_le h1 hB)).trans (h2 i hi)⟩

/-- The cells of the entries of the first n words. -/
def entCells (f : Nat → Int) (t : Int) : Nat → List Value
  | 0 => []
  | n + 1 => entCells f t n ++ [.int .i64 (kindV (f n)), .int .i64 (whoV (f n) t)]
theorem entCells_length (f : Nat → Int) (t : Int) (n : Nat) : (entCells f t n).length = n * 2 := by
  induction n with
  | zero => rfl
  | succ n ih => simp [entCells, ih]; omega
theorem info27 : (Tryd.prog.info? 27).map (fun i => (i.zero, i.size, i.bytes)) = some (some (.agg #[.int .i64 0, .int .i64 0]), 2, 16) := by kernel_rfl

theorem own_below {B : Nat} {e : TypeId} {k : Nat} {v : Value} {n : Nat} {xs : List Value} {w w' : World} (h : w.ownsRow B e k v n xs) (hb : Below w.heap.size w w') : w'.ownsRow B e k v n xs := by
  refine ⟨h.1, ?_⟩
  rcases h.2 with h2 | ⟨g, cap, cur, hv, hg, hh, r⟩
  · exact Or.inl h2
  · have hlt : g < w.heap.size := by
      rcases Nat.lt_or_ge g w.heap.size with l | l
      · exact l
      · rw [Array.getElem?_eq_none l] at hh; cases hh
    exact Or.inr ⟨g, cap, cur, hv, hg, (hb.block g hlt).trans hh, r⟩

theorem box_cells (w : World) (a b : Value) (t : TypeId) : ∀ j u, [a, b][j]? = some u → (w.alloc (.cells #[a, b] t)).cell? ((⟨w.heap.size, 0, none⟩ : Addr).add j) = some u := by
  intro j u hj
  match j, hj with
  | 0, hj => simp at hj; subst hj; simp [Addr.add, go_sem]
  | 1, hj => simp at hj; subst hj; simp [Addr.add, go_sem]
theorem two_ints (a b : Int) : ∀ u ∈ [Value.int .i64 a, Value.int .i64 b], u.oneCell' = true := by
  intro u hu; simp at hu; rcases hu with rfl | rfl <;> rfl

set_option maxHeartbeats 800000 in
theorem all_any (A : Option Addr) (n cap : Nat) (f : Nat → Int) (t : Int) (w : World) (hT : Tab w) (hn : n ≤ 100) (hs : SeesU w w.heap.size A n f) (hf : ∀ i, i < n → 0 ≤ f i ∧ f i ≤ 18446744073709551615) :
    Calls Tryd.prog 15 #[.slice A n cap, .int .i64 t] w fun e w' => e = .returned (.slice (some ⟨w.heap.size, 0, none⟩) n n) ∧
      w'.ownsRow w.heap.size 27 2 (.slice (some ⟨w.heap.size, 0, none⟩) n n) n (entCells f t n) ∧ Below w.heap.size w w' := by
  obtain ⟨i0, hi, hz0, hz1, hz2⟩ := info_parts info27
  have hsz := hT.size
  have HF : Hid (∀ i, i < n → 0 ≤ f i ∧ f i ≤ 18446744073709551615) := hf
  have HS : Hid (SeesU w w.heap.size A n f) := hs
  clear hf hs
  go_enter Tryd.func15, Tryd.ntmps15
  go_wp2_with (at_make; refine wpList_make_own _ rfl _ _ 36 rfl w.heap.size 27 i0 (.agg #[.int .i64 0, .int .i64 0]) 2 Tryd.underlying36 hi hz0 hz1 _ _ _ n rfl rfl rfl ?b2 ?b3 (Nat.le_refl _) ?_)
  case b2 => rw [hz2]; omega
  case b3 => unfold maxLen; omega
  intro w0 hown0 hgrow0
  have hB0 : Below w.heap.size w w0 := (Below.refl _ _).grown hgrow0 (Nat.le_refl _) (fun k h => by cases h)
  go_wp2
  go_loopw [5, 13] (fun v i wr => ∃ k : Nat, k ≤ n ∧ i = .int .i64 k ∧ v = .slice (some ⟨w.heap.size, 0, none⟩) k n ∧
      wr.ownsRow w.heap.size 27 2 (.slice (some ⟨w.heap.size, 0, none⟩) k n) k (entCells f t k) ∧ Below w.heap.size w wr)
    (fun _ i _ => n - (intOf i).toNat)
  case atStart => exact ⟨0, Nat.zero_le _, rfl, rfl, hown0, hB0⟩
  case round =>
    obtain ⟨k, hk, rfl, rfl, hown, hB⟩ := hrel
    by_cases hlt : k < n
    · obtain ⟨b, off, rfl, hbB, hcell⟩ := HS.out (by omega)
      have hc : wr.cell? ⟨b, off + k, none⟩ = some (.int .u64 (f k)) := (hB.cell (p := ⟨b, off + k, none⟩) hbB).trans (hcell k hlt)
      have hfk := HF.out k hlt
      have hTr := hT.below hB hsz
      clear hcell
      generalize hfe : f k = x at hc hfk
      have HX : Hid (f k = x) := hfe
      clear hfe
      go_wp2_with fail
      go_at_call 10; refine (read_any x t _ hTr hfk.1 hfk.2).mono ?_; rintro e w1 ⟨rfl, hb1⟩
      unfold entV
      have hB1 := hB.trans (hb1.mono hB.size)
      have hown1 := own_below hown hb1
      clear hown
      go_wp2_with (at_builtin; refine wpList_append_fits _ rfl (.tmp 17) (.tmp 21) 36 rfl w.heap.size 27 i0 2 Tryd.underlying36 hi hz1 w.heap.size k n _ rfl (hown1.alloc _) ⟨w1.heap.size, 0, none⟩ 1 1 [.int .i64 (kindV x), .int .i64 (whoV x t)] rfl rfl (box_cells _ _ _ _) (two_ints _ _) (by omega) ?_; intro w2 hown2 hgrow2)
      have hB2 : Below w.heap.size w w2 := (hB1.alloc hB1.size _).grown hgrow2 (Nat.le_trans hB1.size (by simp)) (fun k hk => by cases hk; exact Nat.le_refl _)
      clear hgrow2 hown1
      go_roundw
      case rel => exact ⟨k + 1, by omega, by go_num, rfl, by unfold entCells; rw [HX.out]; exact hown2, hB2⟩
      case measure => simp [intOf]; omega
    · obtain rfl : k = n := by omega
      go_wp2
      go_ret
      exact ⟨rfl, hown, hB⟩
end Go.Proofs.YtlpfleefbngdaaaDoor
