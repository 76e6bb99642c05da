/- A census in memory; its helpers. -/
import Derived.Test.YtammoflhfcpomaaC2
namespace Go.Proofs.Ytammoflhfcpomaa
open Go Go.RowKit
set_option linter.unusedVariables false
set_option linter.unusedSimpArgs false
set_option maxRecDepth 100000

/-- The cells of a census. -/
def cenCells (K : Nat → Int) (g gs h ps : Nat) (most now : Int) : Array Value :=
  #[.int .i64 (K 0), .int .i64 (K 1), .int .i64 (K 2), .int .i64 (K 3), .int .i64 (K 4), .int .i64 (K 5), .int .i64 (K 6), .int .i64 (K 7), .int .i64 (K 8), .int .i64 (K 9), .int .i64 (K 10), .int .i64 (K 11), .slice (some ⟨g, 0, none⟩) gs gs, .slice (some ⟨h, 0, none⟩) ps ps, .int .i64 most, .int .i64 now]
theorem cenCells_k (K : Nat → Int) (g gs h ps : Nat) (most now : Int) (k : Nat) (hk : k < 12) : (cenCells K g gs h ps most now)[k]? = some (.int .i64 (K k)) := by
  match k, hk with
  | 0, _ | 1, _ | 2, _ | 3, _ | 4, _ | 5, _ | 6, _ | 7, _ | 8, _ | 9, _ | 10, _ | 11, _ => rfl
  | n + 12, h => omega
theorem cenCells_set (K : Nat → Int) (g gs h ps : Nat) (most now v : Int) (k : Nat) (hk : k < 12) :
    (cenCells K g gs h ps most now).setIfInBounds k (.int .i64 v) = cenCells (fun i => if i = k then v else K i) g gs h ps most now := by
  match k, hk with
  | 0, _ | 1, _ | 2, _ | 3, _ | 4, _ | 5, _ | 6, _ | 7, _ | 8, _ | 9, _ | 10, _ | 11, _ => simp [cenCells]
  | n + 12, h => omega

/-- Rows of three ints at block g. -/
def RowsAt (w : World) (g gs : Nat) (R : Nat → Nat → Int) : Prop :=
  ∃ cs : Array Value, w.heap[g]? = some (.cells cs 46 (0, 0)) ∧ ∀ i, i < gs → cs[i * 3]? = some (.int .i64 (R i 0)) ∧ cs[i * 3 + 1]? = some (.int .i64 (R i 1)) ∧ cs[i * 3 + 2]? = some (.int .i64 (R i 2))
/-- Ints at block h. -/
def IntsAt (w : World) (h ps : Nat) (P : Nat → Int) : Prop :=
  ∃ cs : Array Value, w.heap[h]? = some (.cells cs 3 (0, 0)) ∧ ∀ i, i < ps → cs[i]? = some (.int .i64 (P i))
/-- The struct of a census, at block x. -/
def CenAt (w : World) (x : Nat) (K : Nat → Int) (g gs h ps : Nat) (most now : Int) : Prop := w.heap[x]? = some (.cells (cenCells K g gs h ps most now) 30 (0, 0))
structure Cen (w : World) (x g h gs ps : Nat) (K : Nat → Int) (R : Nat → Nat → Int) (P : Nat → Int) (most now : Int) : Prop where
  main : CenAt w x K g gs h ps most now
  rows : RowsAt w g gs R
  procs : IntsAt w h ps P
  ne : x ≠ g ∧ x ≠ h ∧ g ≠ h
theorem CenAt.but {w w' : World} {x : Nat} {K : Nat → Int} {g gs h ps : Nat} {most now : Int} {l : List Nat} (c : CenAt w x K g gs h ps most now) (hb : But l w w') (hx : x ∉ l) : CenAt w' x K g gs h ps most now := (hb.block x (block_lt c) hx).trans c
theorem RowsAt.but {w w' : World} {g gs : Nat} {R : Nat → Nat → Int} {l : List Nat} (c : RowsAt w g gs R) (hb : But l w w') (hg : g ∉ l) : RowsAt w' g gs R := by
  obtain ⟨cs, h1, h2⟩ := c; exact ⟨cs, (hb.block g (block_lt h1) hg).trans h1, h2⟩
theorem IntsAt.but {w w' : World} {h ps : Nat} {P : Nat → Int} {l : List Nat} (c : IntsAt w h ps P) (hb : But l w w') (hh : h ∉ l) : IntsAt w' h ps P := by
  obtain ⟨cs, h1, h2⟩ := c; exact ⟨cs, (hb.block h (block_lt h1) hh).trans h1, h2⟩
theorem Cen.but {w w' : World} {x g h gs ps : Nat} {K : Nat → Int} {R : Nat → Nat → Int} {P : Nat → Int} {most now : Int} {l : List Nat} (c : Cen w x g h gs ps K R P most now) (hb : But l w w') (hx : x ∉ l) (hg : g ∉ l) (hh : h ∉ l) : Cen w' x g h gs ps K R P most now :=
  ⟨c.main.but hb hx, c.rows.but hb hg, c.procs.but hb hh, c.ne⟩
theorem Cen.lt {w : World} {x g h gs ps : Nat} {K : Nat → Int} {R : Nat → Nat → Int} {P : Nat → Int} {most now : Int} (c : Cen w x g h gs ps K R P most now) : x < w.heap.size ∧ g < w.heap.size ∧ h < w.heap.size := by
  obtain ⟨cs, h1, _⟩ := c.rows
  obtain ⟨ds, h2, _⟩ := c.procs
  exact ⟨block_lt c.main, block_lt h1, block_lt h2⟩
theorem CenAt.k {w : World} {x : Nat} {K : Nat → Int} {g gs h ps : Nat} {most now : Int} (c : CenAt w x K g gs h ps most now) (k : Nat) (hk : k < 12) : w.cell? ⟨x, k, none⟩ = some (.int .i64 (K k)) := by
  unfold CenAt at c; simp only [World.cell?, c]; exact cenCells_k K g gs h ps most now k hk
theorem CenAt.s {w : World} {x : Nat} {K : Nat → Int} {g gs h ps : Nat} {most now : Int} (c : CenAt w x K g gs h ps most now) : w.cell? ⟨x, 12, none⟩ = some (.slice (some ⟨g, 0, none⟩) gs gs) ∧ w.cell? ⟨x, 13, none⟩ = some (.slice (some ⟨h, 0, none⟩) ps ps) ∧ w.cell? ⟨x, 14, none⟩ = some (.int .i64 most) ∧ w.cell? ⟨x, 15, none⟩ = some (.int .i64 now) := by
  unfold CenAt at c; exact ⟨by simp only [World.cell?, c]; rfl, by simp only [World.cell?, c]; rfl, by simp only [World.cell?, c]; rfl, by simp only [World.cell?, c]; rfl⟩
theorem CenAt.f {w : World} {x : Nat} {K : Nat → Int} {g gs h ps : Nat} {most now : Int} (c : CenAt w x K g gs h ps most now) (i : Nat) : w.frozen? ⟨x, i, none⟩ = false := by
  unfold CenAt at c; simp [World.frozen?, c]
theorem CenAt.setK {w : World} {x : Nat} {K : Nat → Int} {g gs h ps : Nat} {most now : Int} (c : CenAt w x K g gs h ps most now) (k : Nat) (hk : k < 12) (v : Int) : CenAt (w.setCell ⟨x, k, none⟩ (.int .i64 v)) x (fun i => if i = k then v else K i) g gs h ps most now := by
  have := heap_set c k (.int .i64 v); rw [cenCells_set K g gs h ps most now v k hk] at this; exact this
theorem CenAt.setNow {w : World} {x : Nat} {K : Nat → Int} {g gs h ps : Nat} {most now : Int} (c : CenAt w x K g gs h ps most now) (v : Int) : CenAt (w.setCell ⟨x, 15, none⟩ (.int .i64 v)) x K g gs h ps most v := heap_set c 15 _
theorem CenAt.setMost {w : World} {x : Nat} {K : Nat → Int} {g gs h ps : Nat} {most now : Int} (c : CenAt w x K g gs h ps most now) (v : Int) : CenAt (w.setCell ⟨x, 14, none⟩ (.int .i64 v)) x K g gs h ps v now := heap_set c 14 _
theorem RowsAt.c {w : World} {g gs : Nat} {R : Nat → Nat → Int} (c : RowsAt w g gs R) (i : Nat) (hi : i < gs) : w.cell? ⟨g, i * 3, none⟩ = some (.int .i64 (R i 0)) ∧ w.cell? ⟨g, i * 3 + 1, none⟩ = some (.int .i64 (R i 1)) ∧ w.cell? ⟨g, i * 3 + 2, none⟩ = some (.int .i64 (R i 2)) := by
  obtain ⟨cs, h1, h2⟩ := c
  have := h2 i hi
  exact ⟨by simp only [World.cell?, h1]; exact this.1, by simp only [World.cell?, h1]; exact this.2.1, by simp only [World.cell?, h1]; exact this.2.2⟩
theorem RowsAt.f {w : World} {g gs : Nat} {R : Nat → Nat → Int} (c : RowsAt w g gs R) (o : Nat) : w.frozen? ⟨g, o, none⟩ = false := by
  obtain ⟨cs, h1, h2⟩ := c; simp [World.frozen?, h1]
theorem RowsAt.set {w : World} {g gs : Nat} {R : Nat → Nat → Int} (c : RowsAt w g gs R) (i f : Nat) (hi : i < gs) (hf : f < 3) (v : Int) : RowsAt (w.setCell ⟨g, i * 3 + f, none⟩ (.int .i64 v)) g gs (fun j k => if j = i ∧ k = f then v else R j k) := by
  obtain ⟨cs, h1, h2⟩ := c
  have hlt : i * 3 + f < cs.size := by
    have h3 := h2 i hi
    have a0 := (Array.getElem?_eq_some_iff.1 h3.1).1
    have a1 := (Array.getElem?_eq_some_iff.1 h3.2.1).1
    have a2 := (Array.getElem?_eq_some_iff.1 h3.2.2).1
    omega
  refine ⟨_, heap_set h1 _ _, fun j hj => ?_⟩
  have h3 := h2 j hj
  have one : ∀ k, k < 3 → cs[j * 3 + k]? = some (.int .i64 (R j k)) → (cs.setIfInBounds (i * 3 + f) (.int .i64 v))[j * 3 + k]? = some (.int .i64 (if j = i ∧ k = f then v else R j k)) := by
    intro k hk e
    rw [Array.getElem?_setIfInBounds]
    by_cases hjk : j = i ∧ k = f
    · rw [if_pos (by omega), if_pos hlt, if_pos hjk]
    · rw [if_neg (by omega), if_neg hjk]; exact e
  exact ⟨one 0 (by omega) h3.1, one 1 (by omega) h3.2.1, one 2 (by omega) h3.2.2⟩
theorem IntsAt.c {w : World} {h ps : Nat} {P : Nat → Int} (c : IntsAt w h ps P) (i : Nat) (hi : i < ps) : w.cell? ⟨h, i, none⟩ = some (.int .i64 (P i)) := by
  obtain ⟨cs, h1, h2⟩ := c; simp only [World.cell?, h1]; exact h2 i hi
theorem IntsAt.f {w : World} {h ps : Nat} {P : Nat → Int} (c : IntsAt w h ps P) (o : Nat) : w.frozen? ⟨h, o, none⟩ = false := by
  obtain ⟨cs, h1, h2⟩ := c; simp [World.frozen?, h1]
theorem IntsAt.set {w : World} {h ps : Nat} {P : Nat → Int} (c : IntsAt w h ps P) (i : Nat) (hi : i < ps) (v : Int) : IntsAt (w.setCell ⟨h, i, none⟩ (.int .i64 v)) h ps (fun j => if j = i then v else P j) := by
  obtain ⟨cs, h1, h2⟩ := c
  have hlt := (Array.getElem?_eq_some_iff.1 (h2 i hi)).1
  refine ⟨_, heap_set h1 _ _, fun j hj => ?_⟩
  show _ = some (Value.int .i64 (if j = i then v else P j))
  rw [Array.getElem?_setIfInBounds]
  by_cases hji : j = i
  · rw [if_pos hji.symm, if_pos (by omega), if_pos hji]
  · rw [if_neg (fun e => hji e.symm), if_neg hji]; exact h2 j hj

theorem known_any (w : World) (k : Int) : Calls Try.prog 18 #[.int .i64 k] w fun e w' => e = .returned (.int .i64 ((kn k : Nat) : Int)) ∧ w = w' := by
  unfold kn
  rcases (show (1 ≤ k ∧ k ≤ 11) ∨ k < 1 ∨ (1 ≤ k ∧ 11 < k) by omega) with ⟨h1, h2⟩ | h | ⟨h1, h2⟩
  · rw [if_pos ⟨h1, h2⟩]
    go_enter Try.func18, Try.ntmps18
    go_wp2_with fail
    go_ret
    exact ⟨ret_int (by omega), rfl⟩
  · rw [if_neg (by omega)]
    go_enter Try.func18, Try.ntmps18
    go_wp2_with fail
    go_ret
    exact ⟨rfl, rfl⟩
  · rw [if_neg (by omega)]
    go_enter Try.func18, Try.ntmps18
    go_wp2_with fail
    go_ret
    exact ⟨rfl, rfl⟩
theorem change_any (w : World) (k : Int) : Calls Try.prog 19 #[.int .i64 k] w fun e w' => e = .returned (.int .i64 (ch k)) ∧ w = w' := by
  rcases (show k = 1 ∨ k = 9 ∨ k = 4 ∨ k = 5 ∨ k = 6 ∨ k = 8 ∨ k = 11 ∨ (k ≠ 1 ∧ k ≠ 9 ∧ k ≠ 4 ∧ k ≠ 5 ∧ k ≠ 6 ∧ k ≠ 8 ∧ k ≠ 11) by omega) with rfl | rfl | rfl | rfl | rfl | rfl | rfl | ⟨h1, h2, h3, h4, h5, h6, h7⟩
  case inr.inr.inr.inr.inr.inr.inr =>
    have e : ch k = 0 := by unfold ch; rw [if_neg (by omega), if_neg (by omega)]
    rw [e]
    clear e
    have b1 : (k == 1) = false := by simpa using h1
    have b2 : (k == 9) = false := by simpa using h2
    have b3 : (k == 4) = false := by simpa using h3
    have b4 : (k == 5) = false := by simpa using h4
    have b5 : (k == 6) = false := by simpa using h5
    have b6 : (k == 8) = false := by simpa using h6
    have b7 : (k == 11) = false := by simpa using h7
    clear h1 h2 h3 h4 h5 h6 h7
    go_enter Try.func19, Try.ntmps19
    go_wp2_with fail
    go_ret
    exact ⟨rfl, rfl⟩
  all_goals
    go_enter Try.func19, Try.ntmps19
    go_wp2_with fail
    go_ret
    exact ⟨rfl, rfl⟩
theorem row_in (w : World) (x g h gs ps q : Nat) (K : Nat → Int) (most now : Int) (c : CenAt w x K g gs h ps most now) (hq : q < gs) (hgs : gs ≤ 1000) :
    Calls Try.prog 20 #[.pointer (some ⟨x, 0, none⟩), .int .i64 (q : Int)] w fun e w' => e = .returned (.pointer (some ⟨g, q * 3, none⟩)) ∧ w = w' := by
  have c12 := c.s.1
  have d1 : decide ((q : Int) < 0) = false := by simp
  clear c
  go_enter Try.func20, Try.ntmps20
  go_wp2_with fail
  go_ret
  exact ⟨rfl, rfl⟩
theorem row_out (w : World) (x g h gs ps : Nat) (q : Int) (K : Nat → Int) (most now : Int) (c : CenAt w x K g gs h ps most now) (hq : q < 0 ∨ (gs : Int) ≤ q) (hgs : gs ≤ 1000) :
    Calls Try.prog 20 #[.pointer (some ⟨x, 0, none⟩), .int .i64 q] w fun e w' => e = .returned (.pointer (some ⟨w.heap.size, 0, none⟩)) ∧ w' = w.alloc (.cells #[.int .i64 0, .int .i64 0, .int .i64 0] 46) := by
  have c12 := c.s.1
  clear c
  rcases (show q < 0 ∨ (0 ≤ q ∧ (gs : Int) ≤ q) by omega) with h | ⟨h1, h2⟩
  · go_enter Try.func20, Try.ntmps20
    go_wp2_with fail
    go_ret
    exact ⟨rfl, rfl⟩
  · have d1 : decide (q < 0) = false := by simpa using h1
    go_enter Try.func20, Try.ntmps20
    go_wp2_with fail
    go_ret
    exact ⟨rfl, rfl⟩
end Go.Proofs.Ytammoflhfcpomaa
