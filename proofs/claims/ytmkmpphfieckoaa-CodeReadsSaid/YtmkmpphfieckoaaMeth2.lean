/- The contracts of a code's other methods: At of any place, Long, All. -/
import Derived.Test.YtmkmpphfieckoaaMeth
import Derived.Lib.SliceRun
namespace Go.Proofs.Ytmkmpphfieckoaa
open Go Go.RowKit
set_option linter.unusedVariables false
set_option linter.unusedSimpArgs false

theorem at_any (c g : Nat) (f : Nat → Int) (L : List (Nat × Nat)) (p i : Int) (w : World) (h : IsCode w c g f L) : Calls Try.prog 38 #[.pointer (some ⟨c, 0, none⟩), .int .i64 p, .int .i64 i] w fun e w' => e = .returned (.agg #[.int .i64 (lookK f L p i), .int .i64 (lookA f L (L.length : Nat) p i)]) ∧ Below w.heap.size w w' := by
  by_cases hp : p < 0 ∨ (L.length : Int) ≤ p
  · have e1 : look L p i = none := look_no (by omega)
    have e2 : lookK f L p i = 0 := by unfold lookK; rw [e1]
    have e3 : lookA f L (L.length : Nat) p i = 0 := by unfold lookA; rw [e1]
    rw [e2, e3]
    exact at_no c g f L p i w h hp
  · obtain ⟨q, rfl⟩ : ∃ q : Nat, p = (q : Int) := ⟨p.toNat, by omega⟩
    have hx : L[q]? = some (L[q]'(by omega)) := List.getElem?_eq_getElem (by omega)
    generalize L[q]'(by omega) = x at hx
    by_cases hi : i < 0 ∨ (x.2 : Int) ≤ i
    · have e1 : look L q i = none := look_far hx hi
      have e2 : lookK f L q i = 0 := by unfold lookK; rw [e1]
      have e3 : lookA f L (L.length : Nat) q i = 0 := by unfold lookA; rw [e1]
      rw [e2, e3]
      exact at_far c g f L q x i w h hx hi
    · obtain ⟨j, rfl⟩ : ∃ j : Nat, i = (j : Int) := ⟨i.toNat, by omega⟩
      have e1 : look L q j = some (x.1 + j) := look_ok hx (by omega)
      have e2 : lookK f L q j = kd (f (x.1 + j)) := by unfold lookK; rw [e1]
      have e3 : lookA f L (L.length : Nat) q j = ag (f (x.1 + j)) (L.length : Nat) := by unfold lookA; rw [e1]
      rw [e2, e3]
      exact at_ok c g f L q j x w h hx (by omega)

theorem long_nil (p : Int) (w : World) : Calls Try.prog 41 #[.pointer none, .int .i64 p] w fun e w' => e = .returned (.int .i64 0) ∧ w = w' := by
  go_enter Try.func41, Try.ntmps41
  go_wp2_with fail
  go_at_call 56; refine (program_nil p _).mono ?_; rintro e w1 ⟨rfl, rfl⟩
  go_wp2_with fail
  go_ret
  exact ⟨rfl, rfl⟩
theorem long_no (c g : Nat) (f : Nat → Int) (L : List (Nat × Nat)) (p : Int) (w : World) (h : IsCode w c g f L) (hp : p < 0 ∨ (L.length : Int) ≤ p) : Calls Try.prog 41 #[.pointer (some ⟨c, 0, none⟩), .int .i64 p] w fun e w' => e = .returned (.int .i64 0) ∧ w = w' := by
  have hP := program_no c g f L p w h hp
  clear h
  go_enter Try.func41, Try.ntmps41
  go_wp2_with fail
  go_at_call 56; refine hP.mono ?_; rintro e w1 ⟨rfl, rfl⟩
  go_wp2_with fail
  go_ret
  exact ⟨rfl, rfl⟩
theorem long_ok (c g : Nat) (f : Nat → Int) (L : List (Nat × Nat)) (p : Nat) (x : Nat × Nat) (w : World) (h : IsCode w c g f L) (hx : L[p]? = some x) : Calls Try.prog 41 #[.pointer (some ⟨c, 0, none⟩), .int .i64 p] w fun e w' => e = .returned (.int .i64 (x.2 : Nat)) ∧ w = w' := by
  have hP := program_ok c g f L p x w h hx
  clear h
  go_enter Try.func41, Try.ntmps41
  go_wp2_with fail
  go_at_call 56; refine hP.mono ?_; rintro e w1 ⟨A1, c1, rfl, _, rfl⟩
  go_wp2_with fail
  go_ret
  exact ⟨rfl, rfl⟩

theorem cloneI_nil (n c : Nat) (w : World) : Calls Try.prog 57 #[.slice none n c] w fun e w' => e = .returned (.slice none 0 0) ∧ w = w' := by
  have hq := fun (w : World) => Lib.run_eql_slice_nil (P := Try.prog) w 57 54 none n c 0 0 Try.underlying57
  go_enter Try.func57, Try.ntmps57
  go_wp2_with fail
  go_ret
  exact ⟨rfl, rfl⟩
theorem insC_one (f : Nat → Int) (m : Int) : ∀ n, ∀ u ∈ insC f m n, u.oneCell' = true
  | 0, u, h => by simp [insC] at h
  | n + 1, u, h => by
    unfold insC at h
    rcases List.mem_append.1 h with h | h
    · exact insC_one f m n u h
    · simp at h
      rcases h with rfl | rfl <;> rfl
theorem insC_get (f : Nat → Int) (m : Int) (n j : Nat) (u : Value) (h : (insC f m n)[j]? = some u) : ∃ i, i < n ∧ ((j = i * 2 ∧ u = .int .i64 (kd (f i))) ∨ (j = i * 2 + 1 ∧ u = .int .i64 (ag (f i) m))) := by
  have hj : j < n * 2 := by have := (List.getElem?_eq_some_iff.1 h).1; rwa [insC_len] at this
  obtain ⟨q1, q2⟩ := insC_at f m n (j / 2) (by omega)
  refine ⟨j / 2, by omega, ?_⟩
  by_cases e : j % 2 = 0
  · left
    have e1 : j = j / 2 * 2 := by omega
    rw [← e1, h] at q1
    exact ⟨e1, Option.some.inj q1⟩
  · right
    have e1 : j = j / 2 * 2 + 1 := by omega
    rw [← e1, h] at q2
    exact ⟨e1, Option.some.inj q2⟩
theorem sees_cellsI (w : World) (a : Addr) (n : Nat) (f : Nat → Int) (m : Int) (hs : SeesI w 0 w.heap.size (some a) n f m) : ∀ j u, (insC f m n)[j]? = some u → (w.alloc (.cells #[] 54)).cell? (a.add j) = some u := by
  intro j u hj
  obtain ⟨i, hi, h⟩ := insC_get f m n j u hj
  obtain ⟨b, off, e, _, hb, hc⟩ := hs (by omega)
  cases e
  obtain ⟨h1, h2⟩ := hc i hi
  have h3 : ∀ o, (w.alloc (.cells #[] 54)).cell? ⟨b, o, none⟩ = w.cell? ⟨b, o, none⟩ := fun o => World.cell?_alloc_lt w _ _ hb
  rw [add_plain, h3]
  rcases h with ⟨rfl, rfl⟩ | ⟨rfl, rfl⟩
  · exact h1
  · rw [← Nat.add_assoc]; exact h2
theorem cloneI_some (a : Addr) (n cap : Nat) (f : Nat → Int) (m : Int) (w : World) (hn : n ≤ 1000000) (hs : SeesI w 0 w.heap.size (some a) n f m) :
    Calls Try.prog 57 #[.slice (some a) n cap] w fun e w' => ∃ v, e = .returned v ∧ Own w w' 54 2 v n (insC f m n) := by
  obtain ⟨i0, hi, hz0, hz1, hz2⟩ := info_parts info54
  have HN : Hid (∀ j u, (insC f m n)[j]? = some u → (w.alloc (.cells #[] 54)).cell? (a.add j) = some u) := sees_cellsI w a n f m hs
  have HO : Hid (∀ u ∈ insC f m n, u.oneCell' = true) := insC_one f m n
  have HL : Hid ((insC f m n).length = n * 2) := insC_len f m n
  have hq := fun (w : World) => Lib.run_eql_slice_nil (P := Try.prog) w 57 54 (some a) n cap 0 0 Try.underlying57
  have hown0 : Hid ((w.alloc (.cells #[] 54)).ownsRow w.heap.size 54 2 (.slice (some ⟨w.heap.size, 0, none⟩) 0 0) 0 []) := World.ownsRow_lit w #[] 0 (Nat.le_refl _) (Nat.zero_le _) rfl
  clear hs
  go_enter Try.func57, Try.ntmps57
  go_wp2_with (at_builtin; refine wpList_append_own _ rfl _ _ 57 rfl w.heap.size 54 i0 _ 2 16 Try.underlying57 hi hz0 hz1 hz2 rfl (by decide) _ 0 [] rfl hown0.out a n cap (insC f m n) rfl HL.out HN.out HO.out (by unfold maxLen; omega) (by omega) (by simp) ?_; intro v' w1 hown1 hgrow1 _)
  have hb : Below w.heap.size w w1 := ((Below.refl _ _).alloc (Nat.le_refl _) _).grown hgrow1 (by simp) (fun k hk => by cases hk; exact Nat.le_refl _)
  go_ret
  exact ⟨v', rfl, by simpa using hown1, hb⟩

theorem all_no (c g : Nat) (f : Nat → Int) (L : List (Nat × Nat)) (p : Int) (w : World) (h : IsCode w c g f L) (hp : p < 0 ∨ (L.length : Int) ≤ p) : Calls Try.prog 40 #[.pointer (some ⟨c, 0, none⟩), .int .i64 p] w fun e w' => e = .returned (.slice none 0 0) ∧ w = w' := by
  have hP := program_no c g f L p w h hp
  clear h
  go_enter Try.func40, Try.ntmps40
  go_wp2_with fail
  go_at_call 56; refine hP.mono ?_; rintro e w1 ⟨rfl, rfl⟩
  go_wp2_with fail
  go_at_call 57; refine (cloneI_nil 0 0 _).mono ?_; rintro e w1 ⟨rfl, rfl⟩
  go_wp2_with fail
  go_ret
  exact ⟨rfl, rfl⟩
theorem all_ok (c g : Nat) (f : Nat → Int) (L : List (Nat × Nat)) (p : Nat) (x : Nat × Nat) (w : World) (hxl : x.2 ≤ 1000000) (h : IsCode w c g f L) (hx : L[p]? = some x) : Calls Try.prog 40 #[.pointer (some ⟨c, 0, none⟩), .int .i64 p] w fun e w' => ∃ (A2 : Option Addr) (c2 : Nat), e = .returned (.slice A2 x.2 c2) ∧ SeesI w' 0 w'.heap.size A2 x.2 (fun j => f (x.1 + j)) (L.length : Nat) ∧ Below w.heap.size w w' := by
  have hP := program_ok c g f L p x w h hx
  clear h
  go_enter Try.func40, Try.ntmps40
  go_wp2_with fail
  go_at_call 56; refine hP.mono ?_; clear hP; rintro e w1 ⟨A1, c1, rfl, ⟨q1, q2, q3⟩, rfl⟩
  have hC : Calls Try.prog 57 #[.slice A1 x.2 c1] w fun e w' => ∃ (A2 : Option Addr) (c2 : Nat), e = .returned (.slice A2 x.2 c2) ∧ SeesI w' 0 w'.heap.size A2 x.2 (fun j => f (x.1 + j)) (L.length : Nat) ∧ Below w.heap.size w w' := by
    rcases A1 with _ | a
    · have h0 : x.2 = 0 := by
        rcases Nat.eq_zero_or_pos x.2 with h | h
        · exact h
        · obtain ⟨b, off, e, _⟩ := q3 h; cases e
      refine (cloneI_nil x.2 c1 w).mono ?_
      rintro e w' ⟨rfl, rfl⟩
      exact ⟨none, 0, by rw [h0], fun h => absurd h (by omega), Below.refl _ _⟩
    · refine (cloneI_some a x.2 c1 _ _ w hxl q3).mono ?_
      rintro e w' ⟨v, rfl, hO⟩
      obtain ⟨A, c, rfl, _, _, z⟩ := hO.seesI
      exact ⟨A, c, rfl, z.more (Nat.zero_le _) (Nat.le_refl _), hO.below⟩
  clear q3
  go_wp2_with fail
  go_at_call 57; refine hC.mono ?_; clear hC; rintro e w2 ⟨A2, c2, rfl, q4, hb⟩
  go_wp2_with fail
  go_ret
  exact ⟨A2, c2, rfl, q4, hb⟩
end Go.Proofs.Ytmkmpphfieckoaa
