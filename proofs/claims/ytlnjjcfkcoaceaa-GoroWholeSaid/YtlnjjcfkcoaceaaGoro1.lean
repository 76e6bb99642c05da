/- Arenas: the contracts of the functions. -/
import Derived.Test.YtlnjjcfkcoaceaaKMeth
import Derived.Test.YtlnjjcfkcoaceaaKRead2
namespace Go.Proofs.Ytlnjjcfkcoaceaa
open Go Go.RowKit
set_option linter.unusedVariables false
set_option maxRecDepth 100000
set_option linter.unusedSimpArgs false


structure Blk (w : World) (c : Nat) (cs : Array Value) (T : TypeId) : Prop where
  heap : w.heap[c]? = some (.cells cs T (0, 0))
theorem Blk.lt {w : World} {c : Nat} {cs : Array Value} {T : TypeId} (h : Blk w c cs T) : c < w.heap.size := block_lt h.heap
theorem Blk.cell {w : World} {c : Nat} {cs : Array Value} {T : TypeId} (h : Blk w c cs T) (i : Nat) {v : Value} (e : cs[i]? = some v) : w.cell? ⟨c, i, none⟩ = some v := by
  simp [World.cell?, h.heap, e]
theorem Blk.fro {w : World} {c : Nat} {cs : Array Value} {T : TypeId} (h : Blk w c cs T) (i : Nat) : w.frozen? ⟨c, i, none⟩ = false := by
  simp [World.frozen?, h.heap]
theorem Blk.set {w : World} {c : Nat} {cs : Array Value} {T : TypeId} (h : Blk w c cs T) (i : Nat) (u : Value) : Blk (w.setCell ⟨c, i, none⟩ u) c (cs.setIfInBounds i u) T := ⟨heap_set h.heap i u⟩
theorem Blk.keep {w w' : World} {c : Nat} {cs : Array Value} {T : TypeId} (h : Blk w c cs T) (e : w'.heap[c]? = w.heap[c]?) : Blk w' c cs T := ⟨e.trans h.heap⟩
theorem Blk.but {w w' : World} {c : Nat} {cs : Array Value} {T : TypeId} {l : List Nat} (h : Blk w c cs T) (hb : But l w w') (hc : c ∉ l) : Blk w' c cs T := h.keep (hb.block c h.lt hc)
theorem Blk.new (w : World) (cs : Array Value) (T : TypeId) : Blk (w.alloc (.cells cs T)) w.heap.size cs T := ⟨heap_alloc_new w _⟩
theorem Blk.setne {w : World} {c g : Nat} {cs : Array Value} {T : TypeId} (h : Blk w c cs T) (hne : c ≠ g) (i : Nat) (u : Value) : Blk (w.setCell ⟨g, i, none⟩ u) c cs T := h.keep (heap_set_ne w hne i u)

theorem info164 : (Try.prog.info? 164).map (fun i => (i.zero, i.size, i.bytes)) = some (some (.agg #[.int .i64 0, .int .i64 0, .int .i64 0, .int .i64 0]), 4, 32) := by kernel_rfl
def zp (n : Nat) : Array Value := madeCells #[.int .i64 0, .int .i64 0, .int .i64 0, .int .i64 0] (n * 4)
theorem make_places (n : Nat) (hn : n ≤ 1000000) (w : World) : (Instr.makeSlice 158 (.int .i64 n) (.int .i64 n)).run Try.prog w = .ok (.slice (some ⟨w.heap.size, 0, none⟩) n n) (w.alloc (.cells (zp n) 164)) := by
  obtain ⟨i0, hi, hz0, hz1, hz2⟩ := info_parts info164
  have := run_make (P := Try.prog) w 158 164 i0 _ Try.underlying158 hi hz0 .i64 .i64 n n (by omega) (Int.le_refl _) (by rw [hz2]; omega) (by omega)
  rw [hz1] at this
  simpa [zp, Value.cells] using this
theorem zp_size (n : Nat) : (zp n).size = n * 4 := size_madeCells _ _
theorem zp_at (n k : Nat) (hk : k < n * 4) : (zp n)[k]? = some (.int .i64 0) := by
  unfold zp madeCells
  rw [Array.getElem?_map, Array.getElem?_range]
  rw [if_pos hk]
  have h4 : k % 4 < 4 := Nat.mod_lt _ (by omega)
  simp only [Option.map_some, Option.some.injEq]
  show (#[Value.int .i64 0, Value.int .i64 0, Value.int .i64 0, Value.int .i64 0])[k % 4]! = _
  rcases (by omega : k % 4 = 0 ∨ k % 4 = 1 ∨ k % 4 = 2 ∨ k % 4 = 3) with h | h | h | h <;> rw [h] <;> rfl

/-- Where a goroutine stands. -/
structure Pl where
  p : Int
  a : Int
  l : Int
  b : Int
def plL (q : Pl) : List Value := [.int .i64 q.p, .int .i64 q.a, .int .i64 q.l, .int .i64 q.b]
def pl0 : Pl := ⟨0, 0, 0, 0⟩
/-- An arena of n goroutines, of the code at c; their places lie at block g. -/
structure Ar (w : World) (x g c n : Nat) (P : Nat → Pl) : Prop where
  main : Blk w x #[.pointer (some ⟨c, 0, none⟩), .slice (some ⟨g, 0, none⟩) n n] 160
  row : ∃ cs, Blk w g cs 164 ∧ cs.size = n * 4 ∧ ∀ j, j < n → ∀ i u, (plL (P j))[i]? = some u → cs[j * 4 + i]? = some u
  ne : x ≠ g
theorem Ar.cells {w : World} {x g c n : Nat} {P : Nat → Pl} (h : Ar w x g c n P) : w.cell? ⟨x, 0, none⟩ = some (.pointer (some ⟨c, 0, none⟩)) ∧ w.cell? ⟨x, 1, none⟩ = some (.slice (some ⟨g, 0, none⟩) n n) := ⟨h.main.cell 0 rfl, h.main.cell 1 rfl⟩
theorem Ar.place {w : World} {x g c n : Nat} {P : Nat → Pl} (h : Ar w x g c n P) {j : Nat} (hj : j < n) : w.cell? ⟨g, j * 4, none⟩ = some (.int .i64 (P j).p) ∧ w.cell? ⟨g, j * 4 + 1, none⟩ = some (.int .i64 (P j).a) ∧ w.cell? ⟨g, j * 4 + 2, none⟩ = some (.int .i64 (P j).l) ∧ w.cell? ⟨g, j * 4 + 3, none⟩ = some (.int .i64 (P j).b) := by
  obtain ⟨cs, h1, h2, h3⟩ := h.row
  exact ⟨h1.cell _ (h3 j hj 0 _ rfl), h1.cell _ (h3 j hj 1 _ rfl), h1.cell _ (h3 j hj 2 _ rfl), h1.cell _ (h3 j hj 3 _ rfl)⟩
theorem Ar.fro {w : World} {x g c n : Nat} {P : Nat → Pl} (h : Ar w x g c n P) (i : Nat) : w.frozen? ⟨g, i, none⟩ = false := by
  obtain ⟨cs, h1, h2, h3⟩ := h.row
  exact h1.fro i
theorem Ar.but {w w' : World} {x g c n : Nat} {P : Nat → Pl} {l : List Nat} (h : Ar w x g c n P) (hb : But l w w') (hx : x ∉ l) (hg : g ∉ l) : Ar w' x g c n P := by
  obtain ⟨cs, h1, h2⟩ := h.row
  exact ⟨h.main.but hb hx, ⟨cs, h1.but hb hg, h2⟩, h.ne⟩
theorem Ar.below {w w' : World} {x g c n : Nat} {P : Nat → Pl} (h : Ar w x g c n P) (hb : Below w.heap.size w w') : Ar w' x g c n P := h.but (But.of_below (l := []) hb) (by simp) (by simp)
theorem Ar.glt {w : World} {x g c n : Nat} {P : Nat → Pl} (h : Ar w x g c n P) : g < w.heap.size := by
  obtain ⟨cs, h1, -⟩ := h.row
  exact h1.lt
def upP (P : Nat → Pl) (j : Nat) (q : Pl) : Nat → Pl := fun k => if k = j then q else P k
/-- A field of a place is written. -/
theorem Ar.put {w : World} {x g c n : Nat} {P : Nat → Pl} (h : Ar w x g c n P) {j : Nat} (hj : j < n) (i : Nat) (hi : i < 4) (u : Value) (q : Pl) (hq : plL q = (plL (P j)).set i u) : Ar (w.setCell ⟨g, j * 4 + i, none⟩ u) x g c n (upP P j q) := by
  obtain ⟨cs, h1, h2, h3⟩ := h.row
  refine ⟨h.main.setne h.ne _ _, ⟨_, h1.set (j * 4 + i) u, by simp [h2], fun k hk i2 u2 hu => ?_⟩, h.ne⟩
  unfold upP at hu
  have hi2 : i2 < 4 := by
    have := (List.getElem?_eq_some_iff.1 hu).1
    simpa [plL] using this
  rw [Array.getElem?_setIfInBounds]
  by_cases hkj : k = j
  · rw [if_pos hkj, hq] at hu
    subst hkj
    by_cases he : i = i2
    · subst he
      rw [List.getElem?_set_self (by simp [plL]; omega)] at hu
      rw [if_pos rfl, if_pos (by omega)]
      exact hu
    · rw [List.getElem?_set_ne he] at hu
      rw [if_neg (by omega)]
      exact h3 k hk i2 u2 hu
  · rw [if_neg hkj] at hu
    rw [if_neg (by omega)]
    exact h3 k hk i2 u2 hu

theorem gnew_bad (o : Option Addr) (gs : Int) (w : World) (h : o = none ∨ gs < 1 ∨ 65536 < gs) : Calls Try.prog 40 #[.pointer o, .int .i64 gs] w fun e w' => e = .returned (.tuple #[.pointer none, .int .i64 1]) ∧ w = w' := by
  cases o with
  | none =>
    go_enter Try.func40, Try.ntmps40
    go_wp2_with fail
    go_ret2
    exact ⟨rfl, rfl⟩
  | some a =>
    by_cases h1 : gs < 1
    · go_enter Try.func40, Try.ntmps40
      go_wp2_with fail
      go_ret2
      exact ⟨rfl, rfl⟩
    · have d1 : decide (gs < 1) = false := decide_eq_false h1
      have h2 : 65536 < gs := by rcases h with h | h | h; cases h; exact absurd h h1; exact h
      clear h
      go_enter Try.func40, Try.ntmps40
      go_wp2_with fail
      go_ret2
      exact ⟨rfl, rfl⟩
theorem gnew_ok (c n : Nat) (w : World) (hn : 1 ≤ n ∧ n ≤ 65536) (hc : c < w.heap.size) : Calls Try.prog 40 #[.pointer (some ⟨c, 0, none⟩), .int .i64 n] w fun e w' => ∃ x g, e = .returned (.tuple #[.pointer (some ⟨x, 0, none⟩), .int .i64 0]) ∧ Ar w' x g c n (fun _ => pl0) ∧ Below w.heap.size w w' ∧ w.heap.size ≤ x ∧ w.heap.size ≤ g := by
  have d1 : decide ((n : Int) < 1) = false := decide_eq_false (by omega)
  have d2 : decide (65536 < (n : Int)) = false := decide_eq_false (by omega)
  have hM := make_places n (by omega)
  have hb : Below w.heap.size w ((w.alloc (.cells (zp n) 164)).alloc (.cells #[.pointer (some ⟨c, 0, none⟩), .slice (some ⟨w.heap.size, 0, none⟩) n n] 160)) := ((Below.refl _ _).alloc (Nat.le_refl _) _).alloc (by simp) _
  have hA : Hid (Ar ((w.alloc (.cells (zp n) 164)).alloc (.cells #[.pointer (some ⟨c, 0, none⟩), .slice (some ⟨w.heap.size, 0, none⟩) n n] 160)) (w.heap.size + 1) w.heap.size c n (fun _ => pl0)) := by
    have h1 := Blk.new (w.alloc (.cells (zp n) 164)) #[.pointer (some ⟨c, 0, none⟩), .slice (some ⟨w.heap.size, 0, none⟩) n n] 160
    rw [World.size_alloc] at h1
    have h2 := (Blk.new w (zp n) 164).keep (heap_al (w.alloc (.cells (zp n) 164)) (k := w.heap.size) (by simp) (.cells #[.pointer (some ⟨c, 0, none⟩), .slice (some ⟨w.heap.size, 0, none⟩) n n] 160))
    refine ⟨h1, ⟨zp n, h2, zp_size n, fun j hj i u hu => ?_⟩, by omega⟩
    have hi : i < 4 := by
      have := (List.getElem?_eq_some_iff.1 hu).1
      simpa [plL] using this
    rw [zp_at n _ (by omega)]
    rcases (by omega : i = 0 ∨ i = 1 ∨ i = 2 ∨ i = 3) with rfl | rfl | rfl | rfl <;> exact hu
  have hsz : (w.alloc (.cells (zp n) 164)).heap.size = w.heap.size + 1 := World.size_alloc _ _
  go_enter Try.func40, Try.ntmps40
  go_wp2_with fail
  go_ret2
  exact ⟨w.heap.size + 1, w.heap.size, by simp, hA.out, hb, by omega, Nat.le_refl _⟩

theorem glen_nil (w : World) : Calls Try.prog 45 #[.pointer none] w fun e w' => e = .returned (.int .i64 0) ∧ w = w' := by
  go_enter Try.func45, Try.ntmps45
  go_wp2_with fail
  go_ret
  exact ⟨rfl, rfl⟩
theorem glen_some (w : World) (x g c n : Nat) (P : Nat → Pl) (h : Ar w x g c n P) : Calls Try.prog 45 #[.pointer (some ⟨x, 0, none⟩)] w fun e w' => e = .returned (.int .i64 n) ∧ w = w' := by
  have c1 := h.cells.2
  clear h
  go_enter Try.func45, Try.ntmps45
  go_wp2_with fail
  go_ret
  exact ⟨rfl, rfl⟩
theorem gcode_nil (w : World) : Calls Try.prog 46 #[.pointer none] w fun e w' => e = .returned (.pointer none) ∧ w = w' := by
  go_enter Try.func46, Try.ntmps46
  go_wp2_with fail
  go_ret
  exact ⟨rfl, rfl⟩
theorem gcode_some (w : World) (x g c n : Nat) (P : Nat → Pl) (h : Ar w x g c n P) : Calls Try.prog 46 #[.pointer (some ⟨x, 0, none⟩)] w fun e w' => e = .returned (.pointer (some ⟨c, 0, none⟩)) ∧ w = w' := by
  have c0 := h.cells.1
  clear h
  go_enter Try.func46, Try.ntmps46
  go_wp2_with fail
  go_ret
  exact ⟨rfl, rfl⟩
theorem ghas_nil (w : World) (j : Int) : Calls Try.prog 101 #[.pointer none, .int .i64 j] w fun e w' => e = .returned (.bool false) ∧ w = w' := by
  have hL := glen_nil w
  by_cases h0 : 0 ≤ j
  · have d : decide (j < 0) = false := decide_eq_false (by omega)
    go_enter Try.func101, Try.ntmps101
    go_wp2_with fail
    go_at_call 45; refine hL.mono ?_; rintro e w1 ⟨rfl, rfl⟩
    go_wp2_with fail
    go_ret
    exact ⟨rfl, rfl⟩
  · have d : decide (0 ≤ j) = false := decide_eq_false h0
    clear h0
    go_enter Try.func101, Try.ntmps101
    go_wp2_with fail
    go_ret
    exact ⟨rfl, rfl⟩
theorem ghas_some (w : World) (x g c n : Nat) (P : Nat → Pl) (h : Ar w x g c n P) (j : Int) : Calls Try.prog 101 #[.pointer (some ⟨x, 0, none⟩), .int .i64 j] w fun e w' => e = .returned (.bool (decide (0 ≤ j ∧ j < n))) ∧ w = w' := by
  have hL := glen_some w x g c n P h
  clear h
  by_cases h0 : 0 ≤ j
  · by_cases h1 : j < n
    · rw [decide_eq_true ⟨h0, h1⟩]
      go_enter Try.func101, Try.ntmps101
      go_wp2_with fail
      go_at_call 45; refine hL.mono ?_; rintro e w1 ⟨rfl, rfl⟩
      go_wp2_with fail
      go_ret
      exact ⟨rfl, rfl⟩
    · rw [decide_eq_false (fun h => h1 h.2)]
      have d : decide (j < n) = false := decide_eq_false h1
      clear h1
      go_enter Try.func101, Try.ntmps101
      go_wp2_with fail
      go_at_call 45; refine hL.mono ?_; rintro e w1 ⟨rfl, rfl⟩
      go_wp2_with fail
      go_ret
      exact ⟨rfl, rfl⟩
  · rw [decide_eq_false (fun h => h0 h.1)]
    have d : decide (0 ≤ j) = false := decide_eq_false h0
    clear h0
    go_enter Try.func101, Try.ntmps101
    go_wp2_with fail
    go_ret
    exact ⟨rfl, rfl⟩
theorem gbegun_nil (w : World) (j : Int) : Calls Try.prog 100 #[.pointer none, .int .i64 j] w fun e w' => e = .returned (.pointer none) ∧ w = w' := by
  have hH := ghas_nil w j
  go_enter Try.func100, Try.ntmps100
  go_wp2_with fail
  go_at_call 101; refine hH.mono ?_; rintro e w1 ⟨rfl, rfl⟩
  go_wp2_with fail
  go_ret
  exact ⟨rfl, rfl⟩
theorem gbegun_some (w : World) (x g c n : Nat) (P : Nat → Pl) (h : Ar w x g c n P) (j : Nat) (hj : j < n) (hn : n ≤ 65536) : Calls Try.prog 100 #[.pointer (some ⟨x, 0, none⟩), .int .i64 j] w fun e w' => e = .returned (.pointer (if (P j).b = 0 then none else some ⟨g, j * 4, none⟩)) ∧ w = w' := by
  have hH := ghas_some w x g c n P h j
  rw [decide_eq_true ⟨by omega, by omega⟩] at hH
  have c1 := h.cells.2
  obtain ⟨-, -, -, p3⟩ := h.place hj
  have hj1 : (j : Int) < (n : Int) := by omega
  clear h
  by_cases hb : (P j).b = 0
  · rw [if_pos hb]
    rw [hb] at p3
    clear hb
    go_enter Try.func100, Try.ntmps100
    go_wp2_with fail
    go_at_call 101; refine hH.mono ?_; rintro e w1 ⟨rfl, rfl⟩
    go_wp2_with fail
    go_ret
    exact ⟨rfl, rfl⟩
  · rw [if_neg hb]
    have d : decide ((P j).b = 0) = false := decide_eq_false hb
    go_enter Try.func100, Try.ntmps100
    go_wp2_with fail
    go_at_call 101; refine hH.mono ?_; rintro e w1 ⟨rfl, rfl⟩
    go_wp2_with fail
    go_ret
    exact ⟨by simp, rfl⟩

end Go.Proofs.Ytlnjjcfkcoaceaa
