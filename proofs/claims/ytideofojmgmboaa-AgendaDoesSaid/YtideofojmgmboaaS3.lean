/- All the agenda's items. -/
import Derived.Test.YtideofojmgmboaaS2
import Derived.Lib.SliceRun
namespace Go.Proofs.Ytideofojmgmboaa
open Go Go.RowKit
set_option linter.unusedVariables false
set_option linter.unusedSimpArgs false
set_option maxRecDepth 100000
variable {w : World} {a : Nat} {F : Nat → Prop} {L : List It}

theorem sort_none (p : Option Addr) (cap : Nat) (w : World) : Calls Try.prog 27 #[.slice p 0 cap, .func (.func 28) #[] #[]] w fun e w' => (∃ v, e = .returned v) ∧ w' = w :=
  (AnyF.slices_SortFunc_none sortIt p cap _ w).mono fun e w' h => ⟨⟨_, h.1⟩, h.2⟩
theorem clone_nil (w : World) : Calls Try.prog 26 #[.slice none 0 0] w fun e w' => e = .returned (.slice none 0 0) ∧ w' = w := by
  have qT : ∀ (w : World) (a : Option Addr) (n c n' c' : Nat), (binOp .eql 34 (.slice a n c) (.slice none n' c')).run Try.prog w = .ok (.bool a.isNone) w := fun w a n c n' c' => Lib.run_eql_slice_nil w _ _ a n c n' c' Try.underlying34
  go_enter Try.func26, Try.ntmps26
  go_wp2
  go_ret
  simp
set_option maxHeartbeats 2000000 in
theorem clone_zero (b cap : Nat) (w : World) : Calls Try.prog 26 #[.slice (some ⟨b, 0, none⟩) 0 cap] w fun e w' => (∃ p c, e = .returned (.slice p 0 c)) ∧ Below w.heap.size w w' := by
  have qT : ∀ (w : World) (a : Option Addr) (n c n' c' : Nat), (binOp .eql 34 (.slice a n c) (.slice none n' c')).run Try.prog w = .ok (.bool a.isNone) w := fun w a n c n' c' => Lib.run_eql_slice_nil w _ _ a n c n' c' Try.underlying34
  go_enter Try.func26, Try.ntmps26
  go_wp2_with fail
  go_ret
  exact ⟨⟨_, _, rfl⟩, (Below.refl _ _).alloc (Nat.le_refl _) _⟩
set_option maxHeartbeats 2000000 in
theorem clone_some (b cap : Nat) (cur : Array Value) (w : World) (hL : 0 < L.length) (hl : L.length ≤ 100000) (hb : w.heap[b]? = some (.cells cur 23 (0, 0))) (ht : cur.toList.take (2 * L.length) = flat L) :
    Calls Try.prog 26 #[.slice (some ⟨b, 0, none⟩) L.length cap] w fun e w' => ∃ g cap' cur', e = .returned (.slice (some ⟨g, 0, none⟩) L.length cap') ∧ w.heap.size ≤ g ∧ w'.heap[g]? = some (.cells cur' 23 (0, 0)) ∧ cur'.toList.take (2 * L.length) = flat L ∧ Below w.heap.size w w' := by
  have qT : ∀ (w : World) (a : Option Addr) (n c n' c' : Nat), (binOp .eql 34 (.slice a n c) (.slice none n' c')).run Try.prog w = .ok (.bool a.isNone) w := fun w a n c n' c' => Lib.run_eql_slice_nil w _ _ a n c n' c' Try.underlying34
  obtain ⟨i0, hi, hz0, hz1, hz2⟩ := info_parts info23
  have HOWN := Lib.hid (World.ownsRow_made (e := 23) (size := 2) w #[] 0 (Nat.le_refl w.heap.size) (by unfold maxLen; omega) rfl)
  have HB := (heap_al w (block_lt hb) (.cells #[] 23)).trans hb
  have HNW : Hid (∀ j u, (flat L)[j]? = some u → (w.alloc (.cells #[] 23)).cell? ((⟨b, 0, none⟩ : Addr).add j) = some u) := fun j u hu => by
    rw [add_plain, Nat.zero_add, cell_of HB]
    rw [← ht, List.getElem?_take] at hu
    split at hu
    · simpa using hu
    · cases hu
  have HL := Lib.hid (And.intro hL hl)
  have HF := Lib.hid (flat_len L)
  have BA := Lib.hid ((Below.refl w.heap.size w).alloc (Nat.le_refl _) (.cells #[] 23))
  clear HB ht hb
  generalize hn : L.length = n at *
  clear hL hl hn
  go_enter Try.func26, Try.ntmps26
  go_wp2_with (refine wpList_append_lies _ rfl (.tmp 5) (.tmp 6) 34 rfl w.heap.size 23 i0 _ 2 16 Try.underlying34 hi hz0 hz1 hz2 rfl (by omega) (.slice (some ⟨w.heap.size, 0, none⟩) 0 0) 0 [] rfl HOWN.out ⟨b, 0, none⟩ n cap (flat L) rfl (by rw [HF.out]; omega) HNW.out (flat_one L) HL.out.1 (by have := HL.out; unfold maxLen; omega) (by have := HL.out; omega) (by simp) _ rfl ?_; intro g3 cap3 w5 hO2 hG2 _ hlt; have HO := Lib.hid hO2; have HG := Lib.hid hG2; clear hO2 hG2)
  go_ret
  obtain ⟨h1, h2⟩ := HO.out
  rcases h2 with ⟨h3, _⟩ | ⟨g, c, cur', e, hB, hg, l1, l2, l3, l4⟩
  · cases h3
  · cases e
    have hbel : Below w.heap.size w w5 := BA.out.grown HG.out (by simp) fun j ej => by
      simp [Value.ownBlock] at ej; omega
    refine ⟨g3, cap3, cur', ?_, hB, hg, ?_, hbel⟩
    · rfl
    · rw [← show (0 + n) * 2 = 2 * n by omega, l4]; rfl
/-- what All answers -/
theorem all_ag (h : Ag w a F L) {S : List It} (hI : Is L S) (hl : L.length ≤ 100000) : Calls Try.prog 14 #[.pointer (some ⟨a, 0, none⟩)] w fun e w' => ∃ A cap g, e = .returned (.slice A S.length cap) ∧ (0 < S.length → w.heap.size ≤ g) ∧ Sees w' g A S ∧ Below w.heap.size w w' := by
  have hSl : S.length = L.length := hI.perm.length_eq.symm
  rcases h.2 with ⟨h2, rfl⟩ | ⟨lb, mb, cap, clk, ⟨cur, M, h2⟩, h3, h4⟩
  · have hS : S = [] := hI.perm.symm.eq_nil
    subst hS
    have c0 : w.cell? ⟨a, 0, none⟩ = some (.slice none 0 0) := by simp [cell_of h2]
    have HC := Lib.hid (clone_nil w)
    have HSo := Lib.hid (sort_none none 0 w)
    clear h h2 hI
    go_enter Try.func14, Try.ntmps14
    go_wp2_with fail
    go_at_call 26; refine HC.out.mono ?_; rintro e w1 ⟨rfl, rfl⟩
    go_wp2_with fail
    go_at_call 27; refine HSo.out.mono ?_; rintro e w2 ⟨⟨v, rfl⟩, rfl⟩
    go_wp2_with fail
    go_ret
    exact ⟨none, 0, 0, rfl, fun h => absurd h (Nat.lt_irrefl 0), fun h => absurd h (Nat.lt_irrefl 0), Below.refl _ _⟩
  · have c0 := h2.c0
    have hle := h2.le
    by_cases h0 : L.length = 0
    · have hL0 : L = [] := List.eq_nil_of_length_eq_zero h0
      subst hL0
      have hS : S = [] := hI.perm.symm.eq_nil
      subst hS
      have c0' : w.cell? ⟨a, 0, none⟩ = some (.slice (some ⟨lb, 0, none⟩) 0 cap) := c0
      have HC := Lib.hid (clone_zero lb cap w)
      have HSo := Lib.hid (fun p c X => sort_none p c X)
      clear h h2 hI c0
      go_enter Try.func14, Try.ntmps14
      go_wp2_with fail
      go_at_call 26; refine HC.out.mono ?_; rintro e w1 ⟨⟨p, c, rfl⟩, hb⟩
      have HB := Lib.hid hb
      clear hb
      go_wp2_with fail
      go_at_call 27; refine (HSo.out _ _ _).mono ?_; rintro e w2 ⟨⟨v, rfl⟩, rfl⟩
      go_wp2_with fail
      go_ret
      exact ⟨p, c, 0, rfl, fun h => absurd h (Nat.lt_irrefl 0), fun h => absurd h (Nat.lt_irrefl 0), HB.out⟩
    · have HC := Lib.hid (clone_some lb cap cur w (by omega) hl h2.hl h2.take)
      have HSo := Lib.hid (fun (X : World) (g c : Nat) (cu : Array Value) (hg : X.heap[g]? = some (.cells cu 23 (0, 0))) (ht : cu.toList.take (2 * L.length) = flat L) => sort_any X g c cu L S hg ht hI.perm hI.srt (by omega))
      have HSl := Lib.hid hSl
      clear h h2 hI hle h0 hl hSl
      go_enter Try.func14, Try.ntmps14
      go_wp2_with fail
      go_at_call 26; refine HC.out.mono ?_; rintro e w1 ⟨g, c, cu, rfl, hg, hgc, hgt, hb⟩
      have HB := Lib.hid hb
      have HGG := Lib.hid hg
      have HS1 := Lib.hid (HSo.out w1 g c cu hgc hgt)
      clear hb hg hgc hgt
      go_wp2_with fail
      go_at_call 27; refine HS1.out.mono ?_; rintro e w2 ⟨⟨v, rfl⟩, hb2, hs2⟩
      have HB2 := Lib.hid (HB.out.trans (hb2.below (B := w.heap.size) (by simp; exact HGG.out) HB.out.size))
      have HS2 := Lib.hid hs2
      clear hb2 hs2
      go_wp2_with fail
      go_ret
      exact ⟨some ⟨g, 0, none⟩, c, g, by rw [HSl.out]; rfl, fun _ => HGG.out, HS2.out, HB2.out⟩
end Go.Proofs.Ytideofojmgmboaa
