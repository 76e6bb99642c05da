/- The runs of the page's three entries. -/
import Derived.Test.YtemdhcegelddlaaDoorW7
import Derived.OwnWalk
import Derived.WalkMore
import Derived.Deep.LoopGhost
namespace Go.Proofs.YtemdhcegelddlaaDoor
open Go Go.RowKit
set_option linter.unusedVariables false
set_option linter.unusedSimpArgs false

theorem info76 : (Tryd.prog.info? 76).map (fun i => (i.zero, i.size, i.bytes)) = some (some (.agg #[.int .i64 0, .int .i64 0, .int .i64 0]), 3, 24) := by kernel_rfl

theorem add_plain (b o j : Nat) : (⟨b, o, none⟩ : Addr).add j = ⟨b, o + j, none⟩ := by simp [Addr.add]
theorem cells_of3 (w : World) (x y z : Value) (T : TypeId) : ∀ j u, ([x, y, z] : List Value)[j]? = some u → (w.alloc (.cells #[x, y, z] T)).cell? ((⟨w.heap.size, 0, none⟩ : Addr).add j) = some u := by
  intro j u hj
  have h := heap_alloc_new w (.cells #[x, y, z] T)
  rw [add_plain]
  match j, hj with
  | 0, hj => simp at hj; subst hj; simp only [World.cell?, h]; rfl
  | 1, hj => simp at hj; subst hj; simp only [World.cell?, h]; rfl
  | 2, hj => simp at hj; subst hj; simp only [World.cell?, h]; rfl
  | n + 3, hj => simp at hj

theorem block_lt {w : World} {k : Nat} {o : Obj} (h : w.heap[k]? = some o) : k < w.heap.size := by
  rcases Nat.lt_or_ge k w.heap.size with h' | h'
  · exact h'
  · rw [Array.getElem?_eq_none h'] at h; cases h
/-- a row of a call's own, in a world that has turned nothing that was there -/
structure Own (w wr : World) (e : TypeId) (size : Nat) (v : Value) (n : Nat) (xs : List Value) : Prop where
  own : wr.ownsRow w.heap.size e size v n xs
  below : Below w.heap.size w wr
theorem Own.drewN {w wr : World} {e : TypeId} {size : Nat} {v : Value} {n : Nat} {xs : List Value} (h : Own w wr e size v n xs) (m : Nat) : Own w (wr.drewN m) e size v n xs := ⟨h.own, below_drewN h.below m⟩
theorem Own.next {w wr w1 : World} {e : TypeId} {size : Nat} {v v' : Value} {n m : Nat} {xs ys : List Value} {o : Obj} (h : Own w wr e size v n xs) (hown : w1.ownsRow w.heap.size e size v' m ys) (hgrow : (wr.alloc o).grownBy w1 v.ownBlock) : Own w w1 e size v' m ys := by
  refine ⟨hown, (h.below.alloc h.below.size o).grown hgrow (by have := h.below.size; simp; omega) fun j ej => ?_⟩
  rcases h.own.2 with ⟨e, -⟩ | ⟨g, cp, cur, e, hg, -⟩
  · rw [e] at ej; simp [Value.ownBlock] at ej
  · rw [e] at ej; simp [Value.ownBlock] at ej; omega
theorem Own.below' {w wr w1 : World} {e : TypeId} {size : Nat} {v : Value} {n : Nat} {xs : List Value} (h : Own w wr e size v n xs) (hb : Below wr.heap.size wr w1) : Own w w1 e size v n xs := by
  refine ⟨?_, h.below.trans (hb.mono h.below.size)⟩
  obtain ⟨h1, h2⟩ := h.own
  refine ⟨h1, ?_⟩
  rcases h2 with h2 | ⟨g, cap, cur, e1, h3, h4, h5⟩
  · exact .inl h2
  · exact .inr ⟨g, cap, cur, e1, h3, (hb.block g (block_lt h4)).trans h4, h5⟩

theorem runs_three (b : Nat) (w : World) (h3 : Three w b) : Calls Tryd.prog 32 #[.slice (some ⟨b, 0, none⟩) 3 3] w fun e w' => ∃ v, e = .returned v ∧ w'.ownsRow w.heap.size 76 3 v 2 [.int .i64 1, .int .i64 1, .int .i64 2, .int .i64 3, .int .i64 0, .int .i64 1] ∧ Below w.heap.size w w' := by
  obtain ⟨i0, hi, hz0, hz1, hz2⟩ := info_parts info76
  have hbl := h3.lt
  have H3 : Hid (Three w b) := h3
  clear h3
  go_enter Tryd.func32, Tryd.ntmps32
  go_wp2_with fail
  go_step3
  go_wp2_with fail
  go_step3
  go_wp2_with fail
  go_loopg [0, 3] 2 (fun k l v wr => Hid (Below w.heap.size w wr) ∧ ((k = 2 ∧ l = .slice (some ⟨b, 0, none⟩) 3 3 ∧ v = .slice none 0 0) ∨ (k = 1 ∧ l = .slice (some ⟨b, 4, none⟩) 1 1 ∧ wr.ownsRow w.heap.size 76 3 v 1 [.int .i64 1, .int .i64 1, .int .i64 2])))
  case atStart => exact ⟨Below.refl _ _, Or.inl ⟨rfl, rfl, rfl⟩⟩
  case round =>
    obtain ⟨HB, hc⟩ := hrel
    rcases hc with ⟨rfl, rfl, rfl⟩ | ⟨rfl, rfl, ho⟩
    · go_wp2_with fail
      go_loopg [0, 3, 11] 3 (fun k l v i wi => l = .slice (some ⟨b, 0, none⟩) 3 3 ∧ v = .slice none 0 0 ∧ ∃ j : Nat, j + k = 3 ∧ j ≤ 2 ∧ i = .int .i64 j ∧ Hid (Below w.heap.size w wi))
      case atStart => exact ⟨rfl, rfl, 0, by omega, by omega, rfl, HB⟩
      case round =>
        obtain ⟨rfl, rfl, j, hjk, hj, rfl, HI⟩ := hrel
        obtain ⟨wi, hwi⟩ : ∃ X, X = wr := ⟨_, rfl⟩
        subst hwi
        have h3 := H3.out.below HI.out hbl
        have e0 := h3.e0; have e1 := h3.e1; have e2 := h3.e2; have e3 := h3.e3; have e4 := h3.e4; have e5 := h3.e5
        have hbi := h3.lt
        clear h3
        have hcj : j = 0 ∨ j = 1 ∨ j = 2 := by omega
        rcases hcj with rfl | rfl | rfl
        · go_wp2_with fail
          go_quiet (fail)
          go_wp2_with fail
          go_roundg 2
          case measure => omega
          case rel => exact ⟨rfl, rfl, 1, by omega, by omega, rfl, below_drewN (HI.out.trans (((Below.refl _ _).alloc (Nat.le_refl _) _).mono HI.out.size)) _⟩
        · go_wp2_with fail
          go_quiet (fail)
          go_wp2_with fail
          go_roundg 1
          case measure => omega
          case rel => exact ⟨rfl, rfl, 2, by omega, by omega, rfl, below_drewN (HI.out.trans (((Below.refl _ _).alloc (Nat.le_refl _) _).mono HI.out.size)) _⟩
        · go_wp2_with fail
          go_quiet (fail)
          have HX : Below w.heap.size w ((wi.alloc (.cells #[.int .i64 3, .int .i64 0] 36)).drewN nq) := below_drewN (HI.out.trans (((Below.refl _ _).alloc (Nat.le_refl _) _).mono HI.out.size)) _
          have f3 := H3.out.below HX hbl
          generalize (wi.alloc (.cells #[.int .i64 3, .int .i64 0] 36)).drewN nq = X at *
          clear e0 e1 e2 e3 e4 e5
          have e0 := f3.e0; have e1 := f3.e1
          have hbx := f3.lt
          have HXH : Hid (Below w.heap.size w X) := HX
          have HF3 : Hid (Three X b) := f3
          have hxs := HX.size
          clear HX f3
          go_wp2_with (at_builtin; refine wpList_append_own _ rfl _ _ 73 rfl w.heap.size 76 i0 _ 3 24 Tryd.underlying73 hi hz0 hz1 hz2 rfl (by decide) _ 0 [] rfl (World.ownsRow_nil _ _ _ _) ⟨X.heap.size, 0, none⟩ 1 1 [.int .i64 1, .int .i64 1, .int .i64 2] rfl rfl (cells_of3 _ _ _ _ _) (by simp [Value.oneCell']) (by unfold maxLen; omega) (by omega) (by simp; omega) ?_; intro v' w3 hown3 hgrow3 _)
          have hO : Hid (Own w w3 76 3 v' 1 [.int .i64 1, .int .i64 1, .int .i64 2]) := Own.next (v := .slice none 0 0) (n := 0) (xs := []) ⟨World.ownsRow_nil _ _ _ _, HXH.out⟩ hown3 hgrow3
          clear hown3 hgrow3
          go_roundg 1
          case measure => omega
          case rel => exact ⟨hO.out.below, Or.inr ⟨rfl, rfl, hO.out.own⟩⟩
    · obtain ⟨v0, hv0⟩ : ∃ v0, v0 = u3 := ⟨_, rfl⟩
      subst hv0
      have HO0 : Hid (Own w wr 76 3 v0 1 [.int .i64 1, .int .i64 1, .int .i64 2]) := ⟨ho, HB.out⟩
      clear ho
      go_wp2_with fail
      go_loopg [0, 3, 11] 2 (fun k l v i wi => l = .slice (some ⟨b, 4, none⟩) 1 1 ∧ v = v0 ∧ ∃ j : Nat, j + k = 2 ∧ j ≤ 1 ∧ i = .int .i64 j ∧ Hid (Own w wi 76 3 v0 1 [.int .i64 1, .int .i64 1, .int .i64 2]))
      case atStart => exact ⟨rfl, rfl, 0, by omega, by omega, rfl, HO0⟩
      case round =>
        obtain ⟨rfl, rfl, j, hjk, hj, rfl, HI⟩ := hrel
        obtain ⟨wi, hwi⟩ : ∃ X, X = wr := ⟨_, rfl⟩
        subst hwi
        have h3 := H3.out.below HI.out.below hbl
        have e0 := h3.e0; have e1 := h3.e1; have e2 := h3.e2; have e3 := h3.e3; have e4 := h3.e4; have e5 := h3.e5
        have hbi := h3.lt
        have hxs := HI.out.below.size
        clear h3
        have hcj : j = 0 ∨ j = 1 := by omega
        rcases hcj with rfl | rfl
        · go_wp2_with fail
          go_quiet (fail)
          go_wp2_with fail
          go_roundg 1
          case measure => omega
          case rel => exact ⟨rfl, rfl, 1, by omega, by omega, rfl, Own.drewN (HI.out.below' ((Below.refl _ _).alloc (Nat.le_refl _) _)) _⟩
        · go_wp2_with (at_builtin; refine wpList_append_own _ rfl _ _ 73 rfl w.heap.size 76 i0 _ 3 24 Tryd.underlying73 hi hz0 hz1 hz2 rfl (by decide) _ 1 [.int .i64 1, .int .i64 1, .int .i64 2] rfl (HI.out.own.alloc _) ⟨wi.heap.size, 0, none⟩ 1 1 [.int .i64 3, .int .i64 0, .int .i64 1] rfl rfl (cells_of3 _ _ _ _ _) (by simp [Value.oneCell']) (by unfold maxLen; omega) (by omega) (by simp; omega) ?_; intro v' w3 hown3 hgrow3 _)
          try rw [Exit.noGoto_ret]
          go_ret
          have hO := Own.next HI.out hown3 hgrow3
          exact ⟨_, rfl, hO.own, hO.below⟩
end Go.Proofs.YtemdhcegelddlaaDoor
