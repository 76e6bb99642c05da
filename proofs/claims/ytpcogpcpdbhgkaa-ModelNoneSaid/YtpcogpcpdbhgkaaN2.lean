/- code.Read: its pieces, of one word and of none. -/
import Derived.Test.YtpcogpcpdbhgkaaN1
import Derived.Laws.MakeOwn
namespace Go.Proofs.Ytpcogpcpdbhgkaa
open Go Go.RowKit
set_option linter.unusedVariables false
set_option linter.unusedSimpArgs false

theorem info43 : (Try.prog.info? 43).map (fun i => (i.zero, i.size, i.bytes)) = some (some (.slice none 0 0), 1, 24) := by kernel_rfl
theorem info39 : (Try.prog.info? 39).map (fun i => (i.zero, i.size, i.bytes)) = some (some (.agg #[.int .i64 0, .int .i64 0]), 2, 16) := by kernel_rfl
theorem info56 : (Try.prog.info? 56).map (fun i => (i.zero, i.size, i.bytes)) = some (some (.slice none 0 0), 1, 24) := by kernel_rfl

theorem add_plain (b o j : Nat) : (⟨b, o, none⟩ : Addr).add j = ⟨b, o + j, none⟩ := by simp [Addr.add]
theorem cells_of1 (w : World) (x : Value) (T : TypeId) : ∀ j u, ([x] : List Value)[j]? = some u → (w.alloc (.cells #[x] T)).cell? ((⟨w.heap.size, 0, none⟩ : Addr).add j) = some u := by
  intro j u hj
  have h := heap_alloc_new w (.cells #[x] T)
  rw [add_plain]
  match j, hj with
  | 0, hj => simp at hj; subst hj; simp only [World.cell?, h]; rfl
  | n + 1, hj => simp at hj
theorem cells_of2 (w : World) (x y : Value) (T : TypeId) : ∀ j u, ([x, y] : List Value)[j]? = some u → (w.alloc (.cells #[x, y] T)).cell? ((⟨w.heap.size, 0, none⟩ : Addr).add j) = some u := by
  intro j u hj
  have h := heap_alloc_new w (.cells #[x, y] T)
  rw [add_plain]
  match j, hj with
  | 0, hj => simp at hj; subst hj; simp only [World.cell?, h]; rfl
  | 1, hj => simp at hj; subst hj; simp only [World.cell?, h]; rfl
  | n + 2, hj => simp at hj

/-- a row of a call's own, in a world that has turned nothing that was there -/
structure Own (w wr : World) (e : TypeId) (size : Nat) (v : Value) (n : Nat) (xs : List Value) : Prop where
  own : wr.ownsRow w.heap.size e size v n xs
  below : Below w.heap.size w wr
theorem Own.nil (w : World) (e : TypeId) (size : Nat) : Own w w e size (.slice none 0 0) 0 [] := ⟨World.ownsRow_nil _ _ _ _, Below.refl _ _⟩
theorem Own.drewN {w wr : World} {e : TypeId} {size : Nat} {v : Value} {n : Nat} {xs : List Value} (h : Own w wr e size v n xs) (m : Nat) : Own w (wr.drewN m) e size v n xs := ⟨h.own, below_drewN h.below m⟩
theorem Own.next {w wr w1 : World} {e : TypeId} {size : Nat} {v v' : Value} {n m : Nat} {xs ys : List Value} {o : Obj} (h : Own w wr e size v n xs) (hown : w1.ownsRow w.heap.size e size v' m ys) (hgrow : (wr.alloc o).grownBy w1 v.ownBlock) : Own w w1 e size v' m ys := by
  refine ⟨hown, (h.below.alloc h.below.size o).grown hgrow (by have := h.below.size; simp; omega) fun j ej => ?_⟩
  rcases h.own.2 with ⟨e, -⟩ | ⟨g, cp, cur, e, hg, -⟩
  · rw [e] at ej; simp [Value.ownBlock] at ej
  · rw [e] at ej; simp [Value.ownBlock] at ej; omega
theorem Own.below' {w wr w1 : World} {e : TypeId} {size : Nat} {v : Value} {n : Nat} {xs : List Value} (h : Own w wr e size v n xs) (hb : Below wr.heap.size wr w1) : Own w w1 e size v n xs := by
  refine ⟨?_, h.below.trans (hb.mono h.below.size)⟩
  obtain ⟨h1, h2⟩ := h.own
  refine ⟨h1, ?_⟩
  rcases h2 with h2 | ⟨g, cap, cur, e1, h3, h4, h5⟩
  · exact .inl h2
  · exact .inr ⟨g, cap, cur, e1, h3, (hb.block g (block_lt h4)).trans h4, h5⟩
theorem Own.made {w w1 : World} {e : TypeId} {size : Nat} {v : Value} {n : Nat} {xs : List Value} {r : Option Nat} (hown : w1.ownsRow w.heap.size e size v n xs) (hgrow : w.grownBy w1 r) (hr : r = none) : Own w w1 e size v n xs :=
  ⟨hown, (Below.refl _ w).grown hgrow (Nat.le_refl _) fun j ej => by rw [hr] at ej; cases ej⟩

theorem cut_1 (b c : Nat) (w : World) (h0 : w.cell? ⟨b, 0, none⟩ = some (.int .u64 3)) (hc : (1 : Int) ≤ (c : Int)) : Calls Try.prog 14 #[.slice (some ⟨b, 0, none⟩) 1 c, .func (.func 15) #[] #[]] w fun e w' => ∃ v, e = .returned v ∧ Own w w' 43 1 v 1 [.slice (some ⟨b, 0, none⟩) 1 c] := by
  obtain ⟨i0, hi, hz0, hz1, hz2⟩ := info_parts info43
  have HI : Hid (Calls Try.prog 26 #[.slice (some ⟨b, 0, none⟩) 1 c, .func (.func 15) #[] #[]] w fun e w' => e = .returned (.int .i64 (-1)) ∧ ∃ k, w' = w.drewN k) := index_1 b w h0 c hc
  clear h0
  go_enter Try.func14, Try.ntmps14
  go_wp2_with fail
  go_loopw [0, 5] (fun l p wr => l = .slice (some ⟨b, 0, none⟩) 1 c ∧ p = .slice none 0 0 ∧ wr = w) (fun _ _ _ => 0)
  case atStart => exact ⟨rfl, rfl, rfl⟩
  case round =>
    obtain ⟨rfl, rfl, rfl⟩ := hrel
    go_wp2_with fail
    go_at_call 26
    refine HI.out.mono ?_
    rintro e w1 ⟨rfl, k, rfl⟩
    go_wp2_with (at_builtin; refine wpList_append_own _ rfl _ _ 53 rfl wr.heap.size 43 i0 _ 1 24 Try.underlying53 hi hz0 hz1 hz2 rfl (by decide) _ 0 [] rfl (World.ownsRow_nil _ _ _ _) ⟨wr.heap.size, 0, none⟩ 1 1 [.slice (some ⟨b, 0, none⟩) 1 c] rfl rfl (cells_of1 (wr.drewN k) _ _) (by simp [Value.oneCell']) (by unfold maxLen; omega) (by omega) (by simp) ?_; intro v' w3 hown3 hgrow3 _)
    go_ret
    exact ⟨_, rfl, Own.next (v := .slice none 0 0) (n := 0) (xs := []) ((Own.nil wr 43 1).drewN k) hown3 hgrow3⟩
theorem cut_0 (w : World) (A : Option Addr) (c : Nat) : Calls Try.prog 14 #[.slice A 0 c, .func (.func 15) #[] #[]] w fun e w' => ∃ v, e = .returned v ∧ Own w w' 43 1 v 1 [.slice A 0 c] := by
  obtain ⟨i0, hi, hz0, hz1, hz2⟩ := info_parts info43
  have HI : Hid (Calls Try.prog 26 #[.slice A 0 c, .func (.func 15) #[] #[]] w fun e w' => e = .returned (.int .i64 (-1)) ∧ ∃ k, w' = w.drewN k) := index_0 w A c
  go_enter Try.func14, Try.ntmps14
  go_wp2_with fail
  go_loopw [0, 5] (fun l p wr => l = .slice A 0 c ∧ p = .slice none 0 0 ∧ wr = w) (fun _ _ _ => 0)
  case atStart => exact ⟨rfl, rfl, rfl⟩
  case round =>
    obtain ⟨rfl, rfl, rfl⟩ := hrel
    go_wp2_with fail
    go_at_call 26
    refine HI.out.mono ?_
    rintro e w1 ⟨rfl, k, rfl⟩
    go_wp2_with (at_builtin; refine wpList_append_own _ rfl _ _ 53 rfl wr.heap.size 43 i0 _ 1 24 Try.underlying53 hi hz0 hz1 hz2 rfl (by decide) _ 0 [] rfl (World.ownsRow_nil _ _ _ _) ⟨wr.heap.size, 0, none⟩ 1 1 [.slice A 0 c] rfl rfl (cells_of1 (wr.drewN k) _ _) (by simp [Value.oneCell']) (by unfold maxLen; omega) (by omega) (by simp) ?_; intro v' w3 hown3 hgrow3 _)
    go_ret
    exact ⟨_, rfl, Own.next (v := .slice none 0 0) (n := 0) (xs := []) ((Own.nil wr 43 1).drewN k) hown3 hgrow3⟩

theorem instrs_1 (b c : Nat) (m : Int) (w : World) (h0 : w.cell? ⟨b, 0, none⟩ = some (.int .u64 3)) : Calls Try.prog 16 #[.slice (some ⟨b, 0, none⟩) 1 c, .int .i64 m] w fun e w' => ∃ v, e = .returned v ∧ Own w w' 39 2 v 1 [.int .i64 3, .int .i64 0] := by
  obtain ⟨i0, hi, hz0, hz1, hz2⟩ := info_parts info39
  have hbl : b < w.heap.size := by
    rcases Nat.lt_or_ge b w.heap.size with h' | h'
    · exact h'
    · simp [World.cell?, Array.getElem?_eq_none h'] at h0
  have H0 : Hid (w.cell? ⟨b, 0, none⟩ = some (.int .u64 3)) := h0
  clear h0
  go_enter Try.func16, Try.ntmps16
  go_wp2_with (refine wpList_make_own _ rfl _ _ 56 rfl w.heap.size 39 i0 _ 2 Try.underlying56 hi hz0 hz1 .i64 .i64 1 1 rfl rfl rfl (by rw [hz2]; omega) (by unfold maxLen; omega) (Nat.le_refl _) ?_; intro w1 hown1 hgrow1)
  have HO1 : Hid (Own w w1 39 2 (.slice (some ⟨w.heap.size, 0, none⟩) 0 1) 0 []) := Own.made hown1 hgrow1 rfl
  clear hown1 hgrow1
  go_loopw [5, 15] (fun x y wr => (y = .int .i64 0 ∧ Hid (Own w wr 39 2 x 0 [])) ∨ (y = .int .i64 1 ∧ Hid (Own w wr 39 2 x 1 [.int .i64 3, .int .i64 0]))) (fun _ y _ => 1 - (intOf y).toNat)
  case atStart => exact Or.inl ⟨rfl, HO1⟩
  case round =>
    obtain ⟨vx, hvx⟩ : ∃ vx, vx = u5 := ⟨_, rfl⟩
    subst hvx
    rcases hrel with ⟨rfl, HO⟩ | ⟨rfl, HO⟩
    · have hc' : wr.cell? ⟨b, 0, none⟩ = some (.int .u64 3) := (HO.out.below.cell (p := ⟨b, 0, none⟩) hbl).trans H0.out
      go_wp2_with fail
      go_at_call 28
      refine (instr_3 m wr).mono ?_
      rintro e w2 ⟨rfl, hb2⟩
      have HO2 : Hid (Own w (w2.alloc (.cells #[.int .i64 3, .int .i64 0] 39)) 39 2 vx 0 []) := (HO.out.below' hb2).below' ((Below.refl _ _).alloc (Nat.le_refl _) _)
      clear hb2 HO hc'
      go_wp2_with (at_builtin; refine wpList_append_own _ rfl _ _ 56 rfl w.heap.size 39 i0 _ 2 16 Try.underlying56 hi hz0 hz1 hz2 rfl (by decide) _ 0 [] rfl (HO2.out.own.alloc _) ⟨w2.heap.size + 1, 0, none⟩ 1 1 [.int .i64 3, .int .i64 0] rfl rfl (by have h := cells_of2 (w2.alloc (.cells #[.int .i64 3, .int .i64 0] 39)) (.int .i64 3) (.int .i64 0) 39; simpa using h) (by simp [Value.oneCell']) (by unfold maxLen; omega) (by omega) (by have := HO2.out.below.size; simp at this ⊢; omega) ?_; intro v' w3 hown3 hgrow3 _)
      have hF := HO2.out.next hown3 hgrow3
      go_wp2_with fail
      go_roundw
      case rel => exact Or.inr ⟨rfl, hF⟩
      case measure => simp [intOf]
    · go_wp2_with fail
      go_ret
      exact ⟨_, rfl, HO.out⟩
end Go.Proofs.Ytpcogpcpdbhgkaa
