/- The document's Right and Window. -/
import Derived.Test.YtbnjdldobfckjaaE8
namespace Go.Proofs.Ytbnjdldobfckjaa
open Go Go.RowKit Go.Maps
set_option linter.unusedVariables false
set_option linter.unusedSimpArgs false
set_option maxRecDepth 100000

theorem pl_14 {e : En} {k v : Int} (hk : k = 1 ∨ k = 4) : pl e = (k, v) ↔ e.1 = k ∧ e.2 = v := by
  obtain ⟨a, b⟩ := e
  unfold pl
  split
  · rename_i h
    simp at h ⊢
    omega
  · simp
theorem pl_23 {e : En} {k : Int} (hk : k = 2 ∨ k = 3) : pl e = (k, 0) ↔ e.1 = k := by
  obtain ⟨a, b⟩ := e
  unfold pl
  split
  · simp
  · rename_i h
    simp at h ⊢
    omega
theorem has_14 (w : World) (n cap : Nat) (A : Option Addr) (l : Nat → En) (k q : Int) (hk : k = 1 ∨ k = 4) (hn : n ≤ 1000000) (hs : Sees w A n l) :
    Calls Try.prog 16 #[.slice A n cap, .int .i64 k, .int .i64 q] w fun e w' => e = .returned (.bool (anyF l (k, q) n)) ∧ w = w' := by
  have HS := Lib.hid hs
  have hk2 : (k == 2) = false := by rcases hk with rfl | rfl <;> rfl
  have hk3 : (k == 3) = false := by rcases hk with rfl | rfl <;> rfl
  have HK := Lib.hid hk
  clear hs hk
  go_enter Try.func16, Try.ntmps16
  go_wp2_with fail
  go_loop [7] (fun i => ∃ j : Nat, j ≤ n ∧ i = .int .i64 j ∧ anyF l (k, q) j = false) (fun i => n - (intOf i).toNat)
  case atStart => exact ⟨0, Nat.zero_le _, rfl, rfl⟩
  case round =>
    obtain ⟨j, hj, rfl, hf⟩ := hrel
    have HF := Lib.hid hf
    clear hf
    by_cases hlt : j < n
    · obtain ⟨b, off, rfl, hcs⟩ := HS.out (by omega)
      have c0 := (hcs j hlt).1
      have c1 := (hcs j hlt).2
      have hji : (j : Int) < (n : Int) := by omega
      have HP := Lib.hid (pl_14 (e := l j) (v := q) HK.out)
      clear hcs
      by_cases h1 : (l j).1 = k
      · by_cases h2 : (l j).2 = q
        · have HT := Lib.hid (show anyF l (k, q) n = true from (anyF_iff _ _ _).2 ⟨j, hlt, HP.out.2 ⟨h1, h2⟩⟩)
          rw [h1] at c0
          rw [h2] at c1
          go_wp2_with fail
          go_ret
          exact ⟨by rw [HT.out]; rfl, rfl⟩
        · have HT := Lib.hid (show anyF l (k, q) (j + 1) = false from by
            show (anyF l (k, q) j || pl (l j) == (k, q)) = false
            rw [HF.out]
            have : pl (l j) ≠ (k, q) := fun e => h2 (HP.out.1 e).2
            simpa using this)
          have hd : ((l j).2 == q) = false := by simpa using h2
          rw [h1] at c0
          generalize (l j).2 = vv at *
          go_wp2_with fail
          go_round
          case rel => exact ⟨j + 1, by omega, by go_num, HT.out⟩
          case measure => simp [intOf]; omega
      · have HT := Lib.hid (show anyF l (k, q) (j + 1) = false from by
          show (anyF l (k, q) j || pl (l j) == (k, q)) = false
          rw [HF.out]
          have : pl (l j) ≠ (k, q) := fun e => h1 (HP.out.1 e).1
          simpa using this)
        have hd : ((l j).1 == k) = false := by simpa using h1
        generalize (l j).1 = vv at *
        go_wp2_with fail
        go_round
        case rel => exact ⟨j + 1, by omega, by go_num, HT.out⟩
        case measure => simp [intOf]; omega
    · obtain rfl : j = n := by omega
      go_wp2_with fail
      go_ret
      exact ⟨by rw [HF.out]; rfl, rfl⟩
theorem has_23 (w : World) (n cap : Nat) (A : Option Addr) (l : Nat → En) (k : Int) (hk : k = 2 ∨ k = 3) (hn : n ≤ 1000000) (hs : Sees w A n l) :
    Calls Try.prog 16 #[.slice A n cap, .int .i64 k, .int .i64 0] w fun e w' => e = .returned (.bool (anyF l (k, 0) n)) ∧ w = w' := by
  have HS := Lib.hid hs
  clear hs
  rcases hk with rfl | rfl
  all_goals
    go_enter Try.func16, Try.ntmps16
    go_wp2_with fail
    go_loop [7] (fun i => ∃ j : Nat, j ≤ n ∧ i = .int .i64 j ∧ anyF l (_, 0) j = false) (fun i => n - (intOf i).toNat)
    case atStart => exact ⟨0, Nat.zero_le _, rfl, rfl⟩
    case round =>
      obtain ⟨j, hj, rfl, hf⟩ := hrel
      have HF := Lib.hid hf
      clear hf
      by_cases hlt : j < n
      · obtain ⟨b, off, rfl, hcs⟩ := HS.out (by omega)
        have c0 := (hcs j hlt).1
        have c1 := (hcs j hlt).2
        have hji : (j : Int) < (n : Int) := by omega
        have HP := Lib.hid (show (pl (l j) = (2, 0) ↔ (l j).1 = 2) ∧ (pl (l j) = (3, 0) ↔ (l j).1 = 3) from ⟨pl_23 (Or.inl rfl), pl_23 (Or.inr rfl)⟩)
        clear hcs
        first
          | (by_cases h1 : (l j).1 = 2
             · have HT := Lib.hid (show anyF l (2, 0) n = true from (anyF_iff _ _ _).2 ⟨j, hlt, HP.out.1.2 h1⟩)
               rw [h1] at c0
               go_wp2_with fail
               go_ret
               exact ⟨by rw [HT.out]; rfl, rfl⟩
             · have HT := Lib.hid (show anyF l (2, 0) (j + 1) = false from by
                 show (anyF l (2, 0) j || pl (l j) == (2, 0)) = false
                 rw [HF.out]
                 have : pl (l j) ≠ (2, 0) := fun e => h1 (HP.out.1.1 e)
                 simpa using this)
               have hd : ((l j).1 == 2) = false := by simpa using h1
               generalize (l j).1 = vv at *
               go_wp2_with fail
               go_round
               case rel => exact ⟨j + 1, by omega, by go_num, HT.out⟩
               case measure => simp [intOf]; omega)
          | (by_cases h1 : (l j).1 = 3
             · have HT := Lib.hid (show anyF l (3, 0) n = true from (anyF_iff _ _ _).2 ⟨j, hlt, HP.out.2.2 h1⟩)
               rw [h1] at c0
               go_wp2_with fail
               go_ret
               exact ⟨by rw [HT.out]; rfl, rfl⟩
             · have HT := Lib.hid (show anyF l (3, 0) (j + 1) = false from by
                 show (anyF l (3, 0) j || pl (l j) == (3, 0)) = false
                 rw [HF.out]
                 have : pl (l j) ≠ (3, 0) := fun e => h1 (HP.out.2.1 e)
                 simpa using this)
               have hd : ((l j).1 == 3) = false := by simpa using h1
               generalize (l j).1 = vv at *
               go_wp2_with fail
               go_round
               case rel => exact ⟨j + 1, by omega, by go_num, HT.out⟩
               case measure => simp [intOf]; omega)
      · obtain rfl : j = n := by omega
        go_wp2_with fail
        go_ret
        exact ⟨by rw [HF.out]; rfl, rfl⟩
end Go.Proofs.Ytbnjdldobfckjaa
