/- Is there a wrong entry? The library's IndexFunc, ContainsFunc. -/
import Derived.Test.YtemdhcegelddlaaDoorE1
import Derived.Test.YtemdhcegelddlaaDoorW5
namespace Go.Proofs.YtemdhcegelddlaaDoor
open Go Go.RowKit
set_option linter.unusedVariables false
set_option linter.unusedSimpArgs false

theorem rightB_ok (e : En) : rightB e.k e.w 256 = decide e.ok := by
  refine Bool.eq_iff_iff.2 (Iff.trans decide_eq_true_iff (Iff.trans ?_ decide_eq_true_iff.symm))
  have ht : thr 256 = 256 := by decide
  rw [ht]
  unfold En.ok
  omega
theorem wrong_any (e : En) (w : World) (hT : Tab w) : Calls Tryd.prog 31 #[e.v] w fun r w' => r = .returned (.bool (!decide e.ok)) ∧ Below w.heap.size w w' := by
  have h := isWrong_any e.k e.w w hT
  rw [rightB_ok] at h
  exact h
instance (l : List En) : Decidable (oksS l) := by unfold oksS; infer_instance
theorem oksS_next {l : List En} {k : Nat} (hk : k < l.length) : oksS (l.take (k + 1)) ↔ oksS (l.take k) ∧ (at_ l k).ok := by
  rw [take_at hk]
  constructor
  · intro h
    exact ⟨fun x hx => h x (List.mem_append_left _ hx), h _ (by simp)⟩
  · rintro ⟨h1, h2⟩ x hx
    rcases List.mem_append.1 hx with hx | hx
    · exact h1 x hx
    · rw [List.mem_singleton] at hx; subst hx; exact h2

set_option maxRecDepth 100000 in
set_option maxHeartbeats 4000000 in
theorem index_any (w : World) (hT : Tab w) (b : Nat) (A : Option Addr) (cp : Nat) (l : List En) (n : Nat) (hn : l.length = n) (hl : n ≤ 65536) (hs : Sees w b A l) : Calls Tryd.prog 50 #[.slice A n cp, .func (.func 31) #[] #[]] w fun e w' => (∃ i : Int, e = .returned (.int .i64 i) ∧ Hid (decide (0 ≤ i) = !decide (oksS l))) ∧ Below w.heap.size w w' := by
  have HN := Lib.hid hn
  have HL := Lib.hid hl
  have HS := Lib.hid (fun (X : World) (hb : Below w.heap.size w X) => hs.below hb)
  have HTT := Lib.hid (fun (X : World) (hb : Below w.heap.size w X) => hT.below hb hT.size)
  clear hs hn hT hl
  go_enter Tryd.func50, Tryd.ntmps50
  go_wp2_with fail
  go_loopw [8, 5] (fun i u wx => ∃ (k : Nat), i = .int .i64 (k : Int) ∧ k ≤ n ∧ Hid (oksS (l.take k) ∧ Below w.heap.size w wx)) (fun i _ _ => n - (intOf i).toNat)
  case atStart => exact ⟨0, rfl, by omega, by intro x hx; simp at hx, Below.refl _ _⟩
  case round =>
    obtain ⟨k, rfl, hk, HB⟩ := hrel
    by_cases hlt : k < n
    · have hki : (k : Int) < (n : Int) := by omega
      have hkb : (k : Int) < 100000 := by have := HL.out; omega
      have HKL : Hid (k < l.length) := by show k < _; rw [HN.out]; exact hlt
      obtain ⟨off, rfl, hcs⟩ := HS.out wr HB.out.2 (by have := HKL.out; omega)
      obtain ⟨⟨x0, x1⟩, hx⟩ : ∃ x, at_ l k = x := ⟨_, rfl⟩
      obtain ⟨c0, c1⟩ := hcs k HKL.out
      rw [hx] at c0 c1
      simp only at c0 c1
      have HR : Hid (∀ y, Tab y → Calls Tryd.prog 31 #[.agg #[.int .i64 x0, .int .i64 x1]] y fun r w' => r = .returned (.bool (!decide (En.ok ⟨x0, x1⟩))) ∧ Below y.heap.size y w') := fun y hy => wrong_any ⟨x0, x1⟩ y hy
      have HON := Lib.hid (oksS_next HKL.out)
      rw [hx] at HON
      have HX := Lib.hid hx
      clear hx hcs
      by_cases hok : En.ok ⟨x0, x1⟩
      · rw [decide_eq_true hok] at HR
        have HF := Lib.hid (HON.out.2 ⟨HB.out.1, hok⟩)
        clear hok
        go_wp2_with fail
        go_at_call 31
        refine (HR.out _ (HTT.out _ HB.out.2)).mono ?_
        rintro e w2 ⟨rfl, hb2⟩
        have HB2 := Lib.hid (HB.out.2.trans (hb2.mono HB.out.2.size))
        clear c0 c1 hb2 HR
        go_wp2_with fail
        go_roundw
        case rel => exact ⟨k + 1, by go_num, by omega, HF.out, HB2.out⟩
        case measure => simp [intOf]; omega
      · rw [decide_eq_false hok] at HR
        have HF : Hid (decide (0 ≤ (k : Int)) = !decide (oksS l)) := by
          show _ = _
          rw [decide_eq_true (by omega), decide_eq_false]
          · rfl
          · intro h
            exact hok (by rw [← HX.out]; exact h _ (at_mem HKL.out))
        clear hok
        go_wp2_with fail
        go_at_call 31
        refine (HR.out _ (HTT.out _ HB.out.2)).mono ?_
        rintro e w2 ⟨rfl, hb2⟩
        have HB2 := Lib.hid (HB.out.2.trans (hb2.mono HB.out.2.size))
        clear c0 c1 hb2 HR
        go_wp2_with fail
        go_ret
        exact ⟨⟨_, rfl, HF⟩, HB2.out⟩
    · obtain rfl : k = n := by omega
      have hki : ¬ (k : Int) < (k : Int) := by omega
      have HF : Hid (decide ((0 : Int) ≤ -1) = !decide (oksS l)) := by
        have h := HB.out.1
        rw [← HN.out, List.take_length] at h
        show _ = _
        rw [decide_eq_true h]; rfl
      go_wp2_with fail
      go_ret
      exact ⟨⟨_, rfl, HF⟩, HB.out.2⟩

set_option maxRecDepth 100000 in
theorem contains_any (w : World) (hT : Tab w) (b : Nat) (A : Option Addr) (cp : Nat) (l : List En) (n : Nat) (hn : l.length = n) (hl : n ≤ 65536) (hs : Sees w b A l) : Calls Tryd.prog 30 #[.slice A n cp, .func (.func 31) #[] #[]] w fun e w' => e = .returned (.bool (!decide (oksS l))) ∧ Below w.heap.size w w' := by
  have H := Lib.hid (index_any w hT b A cp l n hn hl hs)
  clear hT hs hn hl
  go_enter Tryd.func30, Tryd.ntmps30
  go_wp2_with fail
  go_at_call 50
  refine H.out.mono ?_
  rintro e w1 ⟨⟨i, rfl, HI⟩, hb⟩
  have HB := Lib.hid hb
  go_wp2_with fail
  go_ret
  rw [← HI.out]
  exact ⟨rfl, HB.out⟩
end Go.Proofs.YtemdhcegelddlaaDoor
