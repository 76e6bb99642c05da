/- The document's Right and Window; FairWindows' walk. -/
import Derived.Test.YtbnjdldobfckjaaE10
namespace Go.Proofs.Ytbnjdldobfckjaa
open Go Go.RowKit Go.Maps
set_option linter.unusedVariables false
set_option linter.unusedSimpArgs false
set_option maxRecDepth 100000

theorem fair_all {T n : Nat} {l : Nat → En} (h1 : ∀ i : Nat, i < T → anyF l (1, (i : Int)) n = true ∧ anyF l (4, (i : Int)) n = true) (h2 : anyF l (2, 0) n = true) (h3 : anyF l (3, 0) n = true) : fairB T l n = true := by
  refine (allF_iff T l n (2 * T + 5)).2 (fun i hi => ?_)
  unfold rd
  split
  · exact (anyF_iff _ _ _).1 (h1 i ‹_›).1
  · split
    · exact (anyF_iff _ _ _).1 (h1 (i - T) (by omega)).2
    · split
      · exact (anyF_iff _ _ _).1 h2
      · exact (anyF_iff _ _ _).1 h3
theorem fair_not {T n : Nat} {l : Nat → En} {x : En} (hx : wanted T x) (h : anyF l x n = false) : fairB T l n = false := by
  cases hf : fairB T l n
  · rfl
  · obtain ⟨i, hi, rfl⟩ := hx
    rw [(anyF_iff _ _ _).2 ((allF_iff T l n (2 * T + 5)).1 hf i hi)] at h
    cases h
theorem w1 {T j : Nat} (h : j < T) : wanted T (1, (j : Int)) := wanted_isW.2 (by simp [isW]; omega)
theorem w4 {T j : Nat} (h : j < T) : wanted T (4, (j : Int)) := wanted_isW.2 (by simp [isW]; omega)
theorem w2' {T : Nat} : wanted T (2, 0) := wanted_isW.2 (by simp [isW])
theorem w3' {T : Nat} : wanted T (3, 0) := wanted_isW.2 (by simp [isW])
theorem refRight_any (w : World) (P G : Int) (T n cap : Nat) (A : Option Addr) (l : Nat → En) (hT : T ≤ 256) (hn : n ≤ 1000000) (hs : Sees w A n l) :
    Calls Try.prog 12 #[.agg #[.int .i64 P, .int .i64 (T : Int), .int .i64 G], .slice A n cap] w fun e w' => e = .returned (.bool (fairB T l n)) ∧ Below w.heap.size w w' := by
  have hb0 := (Below.refl w.heap.size w).alloc (Nat.le_refl _) (.cells #[.int .i64 P, .int .i64 (T : Int), .int .i64 G] 23)
  have HB := Lib.hid hb0
  have HS := Lib.hid (hs.bel hb0)
  have hbx := heap_alloc_new w (.cells #[.int .i64 P, .int .i64 (T : Int), .int .i64 G] 23)
  have HBX := Lib.hid hbx
  clear hs hb0
  obtain ⟨c0, c1, c2⟩ := cfg_cells (w := w) hbx
  go_enter Try.func12, Try.ntmps12
  go_wp2_with fail
  generalize hW : w.alloc (.cells #[.int .i64 P, .int .i64 (T : Int), .int .i64 G] 23) = W at *
  clear hW hbx
  go_loop [5] (fun i => ∃ j : Nat, j ≤ T ∧ i = .int .i64 j ∧ ∀ i : Nat, i < j → anyF l (1, (i : Int)) n = true ∧ anyF l (4, (i : Int)) n = true) (fun i => T - (intOf i).toNat)
  case atStart => exact ⟨0, Nat.zero_le _, rfl, fun i h => absurd h (Nat.not_lt_zero _)⟩
  case round =>
    obtain ⟨j, hj, rfl, hf⟩ := hrel
    have HF := Lib.hid hf
    clear hf
    by_cases hlt : j < T
    · have hji : (j : Int) < (T : Int) := by omega
      have H1 := Lib.hid (has_14 W n cap A l 1 (j : Int) (Or.inl rfl) hn HS.out)
      have H4 := Lib.hid (has_14 W n cap A l 4 (j : Int) (Or.inr rfl) hn HS.out)
      cases e1 : anyF l (1, (j : Int)) n
      · have HT := Lib.hid (fair_not (w1 hlt) e1)
        rw [e1] at H1
        clear H4 e1
        go_wp2_with fail
        go_at_call 16; refine H1.out.mono ?_; rintro e w' ⟨rfl, rfl⟩
        go_wp2_with fail
        go_ret
        exact ⟨by rw [HT.out]; rfl, HB.out⟩
      · cases e4 : anyF l (4, (j : Int)) n
        · have HT := Lib.hid (fair_not (w4 hlt) e4)
          rw [e1] at H1
          rw [e4] at H4
          clear e1 e4
          go_wp2_with fail
          go_at_call 16; refine H1.out.mono ?_; rintro e w' ⟨rfl, rfl⟩
          go_wp2_with fail
          go_at_call 16; refine H4.out.mono ?_; rintro e w' ⟨rfl, rfl⟩
          go_wp2_with fail
          go_ret
          exact ⟨by rw [HT.out]; rfl, HB.out⟩
        · have HF2 := Lib.hid (show ∀ i : Nat, i < j + 1 → anyF l (1, (i : Int)) n = true ∧ anyF l (4, (i : Int)) n = true from fun i hi => by
            by_cases e : i = j
            · subst e; exact ⟨e1, e4⟩
            · exact HF.out i (by omega))
          rw [e1] at H1
          rw [e4] at H4
          clear e1 e4
          go_wp2_with fail
          go_at_call 16; refine H1.out.mono ?_; rintro e w' ⟨rfl, rfl⟩
          go_wp2_with fail
          go_at_call 16; refine H4.out.mono ?_; rintro e w' ⟨rfl, rfl⟩
          go_wp2_with fail
          go_round
          case rel => exact ⟨j + 1, by omega, by go_num, HF2.out⟩
          case measure => simp [intOf]; omega
    · obtain rfl : j = T := by omega
      have H2 := Lib.hid (has_23 W n cap A l 2 (Or.inl rfl) hn HS.out)
      have H3 := Lib.hid (has_23 W n cap A l 3 (Or.inr rfl) hn HS.out)
      cases e2 : anyF l (2, 0) n
      · have HT := Lib.hid (fair_not (T := j) w2' e2)
        rw [e2] at H2
        clear H3 e2
        go_wp2_with fail
        go_at_call 16; refine H2.out.mono ?_; rintro e w' ⟨rfl, rfl⟩
        go_wp2_with fail
        go_ret
        exact ⟨by rw [HT.out]; rfl, HB.out⟩
      · cases e3 : anyF l (3, 0) n
        · have HT := Lib.hid (fair_not (T := j) w3' e3)
          rw [e2] at H2
          rw [e3] at H3
          clear e2 e3
          go_wp2_with fail
          go_at_call 16; refine H2.out.mono ?_; rintro e w' ⟨rfl, rfl⟩
          go_wp2_with fail
          go_at_call 16; refine H3.out.mono ?_; rintro e w' ⟨rfl, rfl⟩
          go_wp2_with fail
          go_ret
          exact ⟨by rw [HT.out]; rfl, HB.out⟩
        · have HT := Lib.hid (fair_all HF.out e2 e3)
          rw [e2] at H2
          rw [e3] at H3
          clear e2 e3
          go_wp2_with fail
          go_at_call 16; refine H2.out.mono ?_; rintro e w' ⟨rfl, rfl⟩
          go_wp2_with fail
          go_at_call 16; refine H3.out.mono ?_; rintro e w' ⟨rfl, rfl⟩
          go_wp2_with fail
          go_ret
          exact ⟨by rw [HT.out]; rfl, HB.out⟩
/-- Some stretch of so many entries is not fair. -/
def gap (T : Nat) (l : Nat → En) (n v : Nat) : Prop := ∃ i, i + v ≤ n ∧ fairB T (fun k => l (i + k)) v = false
theorem win_found {T n v : Nat} {l : Nat → En} (h1 : 1 ≤ v) (hv : v ≤ n) (hall : ∀ i, i + v ≤ n → fairB T (fun k => l (i + k)) v = true) (hno : ∀ u, 1 ≤ u → u < v → gap T l n u) : winN T l n = v := by
  have hf : fairB T l n = true := by
    rw [fairB_0]
    have := (fairB_iff T l 0 v).1 (hall 0 (by omega))
    intro x hx
    obtain ⟨k, a, b, c⟩ := this x hx
    exact ⟨k, a, by omega, c⟩
  have hL := longest_fm T l n
  unfold winN
  rw [if_pos hf]
  generalize fm T l n (2 * T + 5) = M at hL
  have a : M < v := by
    apply Classical.byContradiction
    intro h
    obtain ⟨i, hi, hn⟩ := hL.unfair h1 (by omega)
    exact hn ((fairB_iff T l i v).1 (hall i hi))
  have b : v ≤ M + 1 := by
    apply Classical.byContradiction
    intro h
    obtain ⟨i, hi, hg⟩ := hno (M + 1) (by omega) (by omega)
    rw [(fairB_iff T l i (M + 1)).2 (hL.fair (by omega) i hi)] at hg
    cases hg
  omega
theorem win_none {T n : Nat} {l : Nat → En} (hno : ∀ u, 1 ≤ u → u < n + 1 → gap T l n u) : winN T l n = 0 := by
  unfold winN
  cases hf : fairB T l n
  · rfl
  · exfalso
    have hL := longest_fm T l n
    have hlt := hL.lt ((fairB_0 T l n).1 hf)
    obtain ⟨i, hi, hg⟩ := hno (fm T l n (2 * T + 5) + 1) (by omega) (by omega)
    rw [(fairB_iff T l i _).2 (hL.fair (by omega) i hi)] at hg
    cases hg
end Go.Proofs.Ytbnjdldobfckjaa
