/- The contracts of a memory's other methods, and of its making: Peek, Clock, Bad, Last, Words, Of, New. -/
import Derived.Test.YthjfbknmdligeaaGreatPub2
namespace Go.Proofs.YthjfbknmdligeaaGreat
open Go Go.RowKit
set_option linter.unusedVariables false
set_option maxRecDepth 100000
set_option linter.unusedSimpArgs false

section
variable (w : World) (A : Option Addr) (cap c b n : Nat) (s : St)

theorem clock_any (h : Is w 114 A cap c b n s) : Calls Tryz.prog 31 #[.pointer (some ⟨c, 0, none⟩)] w fun e w' => e = .returned (.int .i64 s.clock) ∧ w = w' := by
  have c1 := h.cells.2.1
  clear h
  go_enter Tryz.func31, Tryz.ntmps31
  go_wp2_with fail
  go_ret
  exact ⟨rfl, rfl⟩
theorem bad_any (h : Is w 114 A cap c b n s) : Calls Tryz.prog 28 #[.pointer (some ⟨c, 0, none⟩)] w fun e w' => e = .returned (.int .i64 s.bad) ∧ w = w' := by
  have c1 := h.cells.2.2.1
  clear h
  go_enter Tryz.func28, Tryz.ntmps28
  go_wp2_with fail
  go_ret
  exact ⟨rfl, rfl⟩
theorem clock_nil : Calls Tryz.prog 31 #[.pointer none] w fun e w' => e = .returned (.int .i64 0) ∧ w = w' := by
  go_enter Tryz.func31, Tryz.ntmps31
  go_wp2_with fail
  go_ret
  exact ⟨rfl, rfl⟩
theorem bad_nil : Calls Tryz.prog 28 #[.pointer none] w fun e w' => e = .returned (.int .i64 0) ∧ w = w' := by
  go_enter Tryz.func28, Tryz.ntmps28
  go_wp2_with fail
  go_ret
  exact ⟨rfl, rfl⟩
theorem last_nil : Calls Tryz.prog 53 #[.pointer none] w fun e w' => e = .returned (.agg (accL 0 0 0 0 0 false).toArray) ∧ Below w.heap.size w w' := by
  go_enter Tryz.func53, Tryz.ntmps53
  go_wp2_with fail
  go_returns
  exact ⟨rfl, (Below.refl _ _).alloc (Nat.le_refl _) _⟩
theorem last_any (h : Is w 114 A cap c b n s) : Calls Tryz.prog 53 #[.pointer (some ⟨c, 0, none⟩)] w fun e w' => e = .returned (.agg (accL s.kind s.who s.at' s.old s.new s.done).toArray) ∧ Below w.heap.size w w' := by
  obtain ⟨c0, c1, c2, c3, c4, c5, c6, c7, c8⟩ := h.cells
  have hc := h.lt
  clear h
  go_enter Tryz.func53, Tryz.ntmps53
  go_wp2_with fail
  go_returns
  exact ⟨rfl, (Below.refl _ _).alloc (Nat.le_refl _) _⟩

/-- What a peek tells. -/
def peekT (i : Int) : Int := if 0 ≤ i ∧ i < n then s.f i.toNat else 0
theorem peek_any (i : Int) (h : Is w 114 A cap c b n s) (hn : n ≤ 1000000) :
    Calls Tryz.prog 26 #[.pointer (some ⟨c, 0, none⟩), .int .i64 i] w fun e w' => e = .returned (.tuple #[.int .u64 (peekT n s i), .bool (decide (0 ≤ i ∧ i < n))]) ∧ w = w' := by
  have H := has_any w A cap c b n s i h
  by_cases hi : 0 ≤ i ∧ i < n
  · rw [show decide (0 ≤ i ∧ i < n) = true by simpa using hi] at H ⊢
    obtain ⟨j, rfl⟩ : ∃ j : Nat, i = (j : Int) := ⟨i.toNat, by omega⟩
    have hj : j < n := by omega
    have e1 : peekT n s j = s.f j := by unfold peekT; rw [if_pos hi]; simp
    rw [e1]
    have c0 := h.cells.1
    have hw := h.word hj
    obtain ⟨rfl, -, -⟩ := h.wds (by omega)
    clear h e1 hi
    go_enter Tryz.func26, Tryz.ntmps26
    go_wp2_with (go_at_call 55; refine H.mono ?_; rintro e w1 ⟨rfl, rfl⟩)
    go_returns
    exact ⟨rfl, rfl⟩
  · rw [show decide (0 ≤ i ∧ i < n) = false by simpa using hi] at H ⊢
    have e1 : peekT n s i = 0 := by unfold peekT; rw [if_neg hi]
    rw [e1]
    clear h e1 hi
    go_enter Tryz.func26, Tryz.ntmps26
    go_wp2_with (go_at_call 55; refine H.mono ?_; rintro e w1 ⟨rfl, rfl⟩)
    go_returns
    exact ⟨rfl, rfl⟩
theorem peek_nil (i : Int) : Calls Tryz.prog 26 #[.pointer none, .int .i64 i] w fun e w' => e = .returned (.tuple #[.int .u64 0, .bool false]) ∧ w = w' := by
  have H := has_nil w i
  go_enter Tryz.func26, Tryz.ntmps26
  go_wp2_with (go_at_call 55; refine H.mono ?_; rintro e w1 ⟨rfl, rfl⟩)
  go_returns
  exact ⟨rfl, rfl⟩
end

/-- A slice of n words, seen in memory below block B: the i-th is f i. -/
def SeesU (w : World) (B : Nat) (A : Option Addr) (n : Nat) (f : Nat → Int) : Prop :=
  0 < n → ∃ b off : Nat, A = some ⟨b, off, none⟩ ∧ b < B ∧ ∀ i, i < n → w.cell? ⟨b, off + i, none⟩ = some (.int .u64 (f i))
theorem SeesU.below {w w' : World} {B B' n : Nat} {A : Option Addr} {f : Nat → Int} (h : SeesU w B A n f) (hb : Below B' w w') (hB : B ≤ B') : SeesU w' B A n f := fun hn => by
  obtain ⟨b, off, e, h1, h2⟩ := h hn
  exact ⟨b, off, e, h1, fun i hi => (hb.cell (p := ⟨b, off + i, none⟩) (Nat.lt_of_lt_of_le h1 hB)).trans (h2 i hi)⟩
theorem SeesU.more {w : World} {B B' n : Nat} {A : Option Addr} {f : Nat → Int} (h : SeesU w B A n f) (hB : B ≤ B') : SeesU w B' A n f := fun hn => by
  obtain ⟨b, off, e, h1, h2⟩ := h hn
  exact ⟨b, off, e, Nat.lt_of_lt_of_le h1 hB, h2⟩

theorem info41 : (Tryz.prog.info? 41).map (fun i => (i.zero, i.size, i.bytes)) = some (some (.int .u64 0), 1, 8) := by kernel_rfl

/-- The words as cells. -/
def wordCells (f : Nat → Int) (n : Nat) : List Value := (List.range n).map fun i => .int .u64 (f i)
theorem wordCells_at (f : Nat → Int) (n i : Nat) (h : i < n) : (wordCells f n)[i]? = some (.int .u64 (f i)) := by
  unfold wordCells; simp [h]
theorem wordCells_one (f : Nat → Int) (n : Nat) : ∀ u ∈ wordCells f n, u.oneCell' = true := by
  intro u hu
  unfold wordCells at hu
  simp at hu
  obtain ⟨i, _, rfl⟩ := hu
  rfl
theorem clone_nil (w : World) : Calls Tryz.prog 54 #[.slice none 0 0] w fun e w' => e = .returned (.slice none 0 0) ∧ w = w' := by
  have hq := fun (w : World) => Lib.run_eql_slice_nil (P := Tryz.prog) w 37 41 none 0 0 0 0 Tryz.underlying37
  go_enter Tryz.func54, Tryz.ntmps54
  go_wp2_with fail
  go_ret
  exact ⟨rfl, rfl⟩

theorem sees_cells (w : World) (a : Addr) (n : Nat) (f : Nat → Int) (hs : SeesU w w.heap.size (some a) n f) : ∀ j u, (wordCells f n)[j]? = some u → (w.alloc (.cells #[] 41)).cell? (a.add j) = some u := by
  intro j u hj
  have hjn : j < n := by
    have := (List.getElem?_eq_some_iff.1 hj).1
    simpa [wordCells] using this
  rw [wordCells_at f n j hjn] at hj
  obtain ⟨b, off, e, hb, hc⟩ := hs (by omega)
  cases e
  have h1 := hc j hjn
  have h2 : (w.alloc (.cells #[] 41)).cell? ⟨b, off + j, none⟩ = w.cell? ⟨b, off + j, none⟩ := World.cell?_alloc_lt w _ _ hb
  have h3 : (⟨b, off, none⟩ : Addr).add j = ⟨b, off + j, none⟩ := by by_cases h0 : j = 0 <;> simp [Addr.add, h0]
  rw [h3, h2, h1]
  exact hj

theorem clone_some (a : Addr) (n cap : Nat) (f : Nat → Int) (w : World) (hn : n ≤ 1000000) (hs : SeesU w w.heap.size (some a) n f) :
    Calls Tryz.prog 54 #[.slice (some a) n cap] w fun e w' => ∃ v, e = .returned v ∧ w'.ownsRow w.heap.size 41 1 v n (wordCells f n) ∧ Below w.heap.size w w' := by
  obtain ⟨i0, hi, hz0, hz1, hz2⟩ := info_parts info41
  have HN : Hid (∀ j u, (wordCells f n)[j]? = some u → (w.alloc (.cells #[] 41)).cell? (a.add j) = some u) := sees_cells w a n f hs
  have HO : Hid (∀ u ∈ wordCells f n, u.oneCell' = true) := wordCells_one f n
  have HL : Hid ((wordCells f n).length = n * 1) := by show _ = _; simp [wordCells]
  have hq := fun (w : World) => Lib.run_eql_slice_nil (P := Tryz.prog) w 37 41 (some a) n cap 0 0 Tryz.underlying37
  have hown0 : Hid ((w.alloc (.cells #[] 41)).ownsRow w.heap.size 41 1 (.slice (some ⟨w.heap.size, 0, none⟩) 0 0) 0 []) := World.ownsRow_lit w #[] 0 (Nat.le_refl _) (Nat.zero_le _) rfl
  clear hs
  go_enter Tryz.func54, Tryz.ntmps54
  go_wp2_with (at_builtin; refine wpList_append_own _ rfl _ _ 37 rfl w.heap.size 41 i0 (.int .u64 0) 1 8 Tryz.underlying37 hi hz0 hz1 hz2 rfl (by decide) _ 0 [] rfl hown0.out a n cap (wordCells f n) rfl HL.out HN.out HO.out (by unfold maxLen; omega) (by omega) (by simp) ?_; intro v' w1 hown1 hgrow1 _)
  have hb : Below w.heap.size w w1 := ((Below.refl _ _).alloc (Nat.le_refl _) _).grown hgrow1 (by simp) (fun k hk => by cases hk; exact Nat.le_refl _)
  go_ret
  refine ⟨v', rfl, ?_, hb⟩
  simpa using hown1
theorem clone_any (A : Option Addr) (n cap : Nat) (f : Nat → Int) (w : World) (hn : n ≤ 1000000) (hnil : A = none → n = 0 ∧ cap = 0) (hs : SeesU w w.heap.size A n f) :
    Calls Tryz.prog 54 #[.slice A n cap] w fun e w' => ∃ v, e = .returned v ∧ w'.ownsRow w.heap.size 41 1 v n (wordCells f n) ∧ Below w.heap.size w w' := by
  rcases A with _ | a
  · obtain ⟨rfl, rfl⟩ := hnil rfl
    refine (clone_nil w).mono ?_
    rintro e w' ⟨rfl, rfl⟩
    exact ⟨_, rfl, World.ownsRow_nil _ _ _ _, Below.refl _ _⟩
  · exact clone_some a n cap f w hn hs
end Go.Proofs.YthjfbknmdligeaaGreat
