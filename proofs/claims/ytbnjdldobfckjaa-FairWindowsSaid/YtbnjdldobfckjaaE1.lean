/- Entries in memory; an entry as a round has it; which configs may be. -/
import Derived.Test.YtbnjdldobfckjaaP
import Derived.Deep.AppendLies
import Derived.OwnWalk
import Derived.Laws.Rows
import Derived.Laws.Cover1
import Derived.Lib.Hide
namespace Go.Proofs.Ytbnjdldobfckjaa
open Go Go.RowKit
set_option linter.unusedVariables false
set_option linter.unusedSimpArgs false
set_option maxRecDepth 100000

theorem size_al (w : World) (o : Obj) : (w.alloc o).heap.size = w.heap.size + 1 := by simp
theorem drew_bel (w : World) : Below w.heap.size w w.drew := (Below.refl _ _).drew
theorem drewN_bel (w : World) (n : Nat) : Below w.heap.size w (w.drewN n) := ⟨rfl, rfl, rfl, Nat.le_refl _, fun _ _ => rfl⟩
/-- Entries as cells. -/
def flat : List En → List Value
  | [] => []
  | p :: l => .int .i64 p.1 :: .int .i64 p.2 :: flat l
theorem flat_len : ∀ l : List En, (flat l).length = 2 * l.length
  | [] => rfl
  | p :: l => by simp [flat, flat_len l]; omega
theorem flat_app : ∀ l m : List En, flat (l ++ m) = flat l ++ flat m
  | [], m => rfl
  | p :: l, m => by simp [flat, flat_app l m]
theorem flat_one : ∀ l : List En, ∀ v ∈ flat l, v.oneCell' = true
  | [], v, h => by cases h
  | p :: l, v, h => by
    simp only [flat, List.mem_cons] at h
    rcases h with rfl | rfl | h
    · rfl
    · rfl
    · exact flat_one l v h
theorem flat_get0 : ∀ (l : List En) (i : Nat) (h : i < l.length), (flat l)[2 * i]? = some (.int .i64 (l[i]'h).1)
  | p :: l, 0, h => rfl
  | p :: l, i + 1, h => by
    rw [show 2 * (i + 1) = 2 * i + 1 + 1 by omega]
    simp only [flat, List.getElem?_cons_succ, List.getElem_cons_succ]
    exact flat_get0 l i (by simpa using h)
theorem flat_get1 : ∀ (l : List En) (i : Nat) (h : i < l.length), (flat l)[2 * i + 1]? = some (.int .i64 (l[i]'h).2)
  | p :: l, 0, h => rfl
  | p :: l, i + 1, h => by
    rw [show 2 * (i + 1) + 1 = 2 * i + 1 + 1 + 1 by omega]
    simp only [flat, List.getElem?_cons_succ, List.getElem_cons_succ]
    exact flat_get1 l i (by simpa using h)
/-- A slice of entries, as a walk sees it. -/
def Sees (w : World) (A : Option Addr) (n : Nat) (l : Nat → En) : Prop :=
  0 < n → ∃ b off, A = some ⟨b, off, none⟩ ∧ ∀ j, j < n → w.cell? ⟨b, off + j * 2, none⟩ = some (.int .i64 (l j).1) ∧ w.cell? ⟨b, off + j * 2 + 1, none⟩ = some (.int .i64 (l j).2)
theorem Sees.bel {w wr : World} {A : Option Addr} {n : Nat} {l : Nat → En} (h : Sees w A n l) (hb : Below w.heap.size w wr) : Sees wr A n l := fun hn => by
  obtain ⟨b, off, e, hc⟩ := h hn
  exact ⟨b, off, e, fun j hj => ⟨(hb.cell (cell_lt (hc j hj).1)).trans (hc j hj).1, (hb.cell (cell_lt (hc j hj).1)).trans (hc j hj).2⟩⟩
theorem Sees.sub {w : World} {b off n : Nat} {l : Nat → En} (h : Sees w (some ⟨b, off, none⟩) n l) (i m : Nat) (hi : i + m ≤ n) : Sees w (some ⟨b, off + i * 2, none⟩) m (fun k => l (i + k)) := fun hm => by
  obtain ⟨b', off', e, hc⟩ := h (by omega)
  cases e
  refine ⟨b, off + i * 2, rfl, fun j hj => ?_⟩
  have := hc (i + j) (by omega)
  rw [show off + i * 2 + j * 2 = off + (i + j) * 2 by omega]
  exact this
/-- A list's entries, by their places. -/
def atL (L : List En) (i : Nat) : En := L.getD i (0, 0)
theorem sees_own {w : World} {B n cp : Nat} {A : Option Addr} {L : List En} (h : w.ownsRow B 33 2 (.slice A n cp) n (flat L)) (hl : L.length = n) : Sees w A n (atL L) := fun hn => by
  have hO := h
  rcases h.2 with ⟨h1, h2⟩ | ⟨g, cap, cur, h1, _⟩
  · omega
  · cases h1
    refine ⟨g, 0, rfl, fun j hj => ?_⟩
    have hj' : j < L.length := by omega
    have hadd : ∀ i, (⟨g, 0, none⟩ : Addr).add i = ⟨g, i, none⟩ := fun i => by unfold Addr.add; split <;> simp_all
    have e : atL L j = L[j]'hj' := by simp [atL, List.getD_eq_getElem?_getD, hj']
    have a := hO.cells (g := g) rfl (2 * j) _ (flat_get0 L j hj')
    have b := hO.cells (g := g) rfl (2 * j + 1) _ (flat_get1 L j hj')
    rw [hadd] at a b
    rw [e, Nat.zero_add, Nat.mul_comm j 2]
    exact ⟨a, b⟩
theorem info33s : (Try.prog.info? 33).map (·.size) = some 2 := by kernel_rfl
/-- plain. -/
theorem plain_any (w : World) (e : En) : Calls Try.prog 15 #[.agg #[.int .i64 e.1, .int .i64 e.2]] w fun x w' => x = .returned (.agg #[.int .i64 (pl e).1, .int .i64 (pl e).2]) ∧ Below w.heap.size w w' := by
  obtain ⟨k, v⟩ := e
  have HB := Lib.hid (fun o1 o2 => ((Below.refl w.heap.size w).alloc (Nat.le_refl _) o1).alloc (by rw [size_al]; omega) o2)
  have HN := Lib.hid (fun o1 o2 => show ((w.alloc o1).alloc o2).heap[w.heap.size + 1]? = some o2 from by have := heap_alloc_new (w.alloc o1) o2; rw [size_al] at this; exact this)
  show Calls Try.prog 15 #[.agg #[.int .i64 k, .int .i64 v]] w _
  rcases (show k = 2 ∨ k = 3 ∨ (k ≠ 2 ∧ k ≠ 3) by omega) with rfl | rfl | ⟨h2, h3⟩
  · go_enter Try.func15, Try.ntmps15
    go_wp2_with fail
    exact bodyPost_ret (v := .agg #[.int .i64 2, .int .i64 0]) (results_cell_row rfl _ _ (w.heap.size + 1) 33 #[.int .i64 2, .int .i64 0] (0, 0) _ rfl (HN.out _ _) Try.underlying33 rfl info33s) rfl ⟨rfl, HB.out _ _⟩
  · go_enter Try.func15, Try.ntmps15
    go_wp2_with fail
    exact bodyPost_ret (v := .agg #[.int .i64 3, .int .i64 0]) (results_cell_row rfl _ _ (w.heap.size + 1) 33 #[.int .i64 3, .int .i64 0] (0, 0) _ rfl (HN.out _ _) Try.underlying33 rfl info33s) rfl ⟨rfl, HB.out _ _⟩
  · have e : pl (k, v) = (k, v) := by unfold pl; rw [if_neg (by simp; omega)]
    rw [e]
    have n2 : (k == 2) = false := by simp; omega
    have n3 : (k == 3) = false := by simp; omega
    go_enter Try.func15, Try.ntmps15
    go_wp2_with fail
    exact bodyPost_ret (v := .agg #[.int .i64 k, .int .i64 v]) (results_cell_row rfl _ _ (w.heap.size + 1) 33 #[.int .i64 k, .int .i64 v] (0, 0) _ rfl (HN.out _ _) Try.underlying33 rfl info33s) rfl ⟨rfl, HB.out _ _⟩
/-- Which configs may be. -/
def mayB (P T G : Int) : Bool := decide (1 ≤ P) && decide (P ≤ 64) && decide (P ≤ T) && decide (T ≤ 256) && decide (1 ≤ G) && decide (G ≤ 65536)
theorem mayB_true {P T G : Int} (h : mayB P T G = true) : 1 ≤ P ∧ P ≤ 64 ∧ P ≤ T ∧ T ≤ 256 ∧ 1 ≤ G ∧ G ≤ 65536 := by simp [mayB] at h; omega
theorem mayB_mk {P T G : Int} (h : 1 ≤ P ∧ P ≤ 64 ∧ P ≤ T ∧ T ≤ 256 ∧ 1 ≤ G ∧ G ≤ 65536) : mayB P T G = true := by simp [mayB]; omega
theorem mayB_false {P T G : Int} (h : ¬ (1 ≤ P ∧ P ≤ 64 ∧ P ≤ T ∧ T ≤ 256 ∧ 1 ≤ G ∧ G ≤ 65536)) : mayB P T G = false := by
  cases e : mayB P T G
  · rfl
  · exact absurd (mayB_true e) h
theorem may_any (w : World) (P T G : Int) : Calls Try.prog 14 #[.agg #[.int .i64 P, .int .i64 T, .int .i64 G]] w fun x w' => x = .returned (.bool (mayB P T G)) ∧ Below w.heap.size w w' := by
  have HB := Lib.hid (fun o1 => ((Below.refl w.heap.size w).alloc (Nat.le_refl _) o1))
  rcases (show P < 1 ∨ (1 ≤ P ∧ 64 < P) ∨ (1 ≤ P ∧ P ≤ 64 ∧ T < P) ∨ (1 ≤ P ∧ P ≤ 64 ∧ P ≤ T ∧ 256 < T) ∨ (1 ≤ P ∧ P ≤ 64 ∧ P ≤ T ∧ T ≤ 256 ∧ G < 1) ∨ (1 ≤ P ∧ P ≤ 64 ∧ P ≤ T ∧ T ≤ 256 ∧ 1 ≤ G ∧ 65536 < G) ∨ (1 ≤ P ∧ P ≤ 64 ∧ P ≤ T ∧ T ≤ 256 ∧ 1 ≤ G ∧ G ≤ 65536) by omega) with h | h | h | h | h | h | h
  all_goals
    first | rw [mayB_false (by omega)] | rw [mayB_mk h]
    go_enter Try.func14, Try.ntmps14
    go_wp2_with fail
    go_ret
    refine ⟨?_, HB.out _⟩
    simp
    try omega
theorem ref_may (w : World) (P T G : Int) : Calls Try.prog 7 #[.agg #[.int .i64 P, .int .i64 T, .int .i64 G]] w fun x w' => x = .returned (.bool (mayB P T G)) ∧ Below w.heap.size w w' := by
  have HB := Lib.hid (fun o1 => ((Below.refl w.heap.size w).alloc (Nat.le_refl _) o1))
  have hc : P < 1 ∨ (1 ≤ P ∧ 64 < P) ∨ (1 ≤ P ∧ P ≤ 64 ∧ T < 1) ∨ (1 ≤ P ∧ P ≤ 64 ∧ 1 ≤ T ∧ 256 < T) ∨ (1 ≤ P ∧ P ≤ 64 ∧ 1 ≤ T ∧ T ≤ 256 ∧ G < 1) ∨ (1 ≤ P ∧ P ≤ 64 ∧ 1 ≤ T ∧ T ≤ 256 ∧ 1 ≤ G ∧ 65536 < G) ∨ (1 ≤ P ∧ P ≤ 64 ∧ 1 ≤ T ∧ T ≤ 256 ∧ 1 ≤ G ∧ G ≤ 65536 ∧ T < P) ∨ (1 ≤ P ∧ P ≤ 64 ∧ 1 ≤ T ∧ P ≤ T ∧ T ≤ 256 ∧ 1 ≤ G ∧ G ≤ 65536) := by
    by_cases h1 : P < 1
    · exact .inl h1
    by_cases h2 : 64 < P
    · exact .inr (.inl ⟨by omega, h2⟩)
    by_cases h3 : T < 1
    · exact .inr (.inr (.inl ⟨by omega, by omega, h3⟩))
    by_cases h4 : 256 < T
    · exact .inr (.inr (.inr (.inl ⟨by omega, by omega, by omega, h4⟩)))
    by_cases h5 : G < 1
    · exact .inr (.inr (.inr (.inr (.inl ⟨by omega, by omega, by omega, by omega, h5⟩))))
    by_cases h6 : 65536 < G
    · exact .inr (.inr (.inr (.inr (.inr (.inl ⟨by omega, by omega, by omega, by omega, by omega, h6⟩)))))
    by_cases h7 : T < P
    · exact .inr (.inr (.inr (.inr (.inr (.inr (.inl ⟨by omega, by omega, by omega, by omega, by omega, by omega, h7⟩))))))
    · exact .inr (.inr (.inr (.inr (.inr (.inr (.inr ⟨by omega, by omega, by omega, by omega, by omega, by omega, by omega⟩))))))
  rcases hc with h | h | h | h | h | h | h | h
  all_goals
    first | rw [mayB_false (by omega)] | rw [mayB_mk (by omega)]
    go_enter Try.func7, Try.ntmps7
    go_wp2_with fail
    go_ret
    refine ⟨?_, HB.out _⟩
    simp
    try omega
end Go.Proofs.Ytbnjdldobfckjaa
