/- Rows of items that grow; the document's Put. -/
import Derived.Test.YtideofojmgmboaaP2
namespace Go.Proofs.Ytideofojmgmboaa
open Go Go.RowKit
set_option linter.unusedVariables false
set_option linter.unusedSimpArgs false
set_option maxRecDepth 100000

theorem info42 : (Try.prog.info? 42).map (fun i => (i.zero, i.size, i.bytes)) = some (some (.agg #[.int .i64 0, .int .i64 0]), 2, 16) := by kernel_rfl
theorem news2' (X : World) (x y : Value) (T : TypeId) : ∀ j u, ([x, y] : List Value)[j]? = some u → (X.alloc (.cells #[x, y] T)).cell? ((⟨X.heap.size, 0, none⟩ : Addr).add j) = some u := fun j u hu => World.news_of_block (cs := #[x, y]) (heap_alloc_new X (.cells #[x, y] T)) j u hu
/-- a slice of items, in block b -/
def Sees (w : World) (b : Nat) (A : Option Addr) (S : List It) : Prop :=
  0 < S.length → ∃ off, A = some ⟨b, off, none⟩ ∧ ∀ j, j < S.length → w.cell? ⟨b, off + j * 2, none⟩ = some (.int .i64 (at_ S j).1) ∧ w.cell? ⟨b, off + j * 2 + 1, none⟩ = some (.int .i64 (at_ S j).2)
theorem Sees.lt {w : World} {b : Nat} {A : Option Addr} {S : List It} (h : Sees w b A S) (hS : 0 < S.length) : b < w.heap.size := by
  obtain ⟨off, _, hc⟩ := h hS
  exact cell_lt (hc 0 hS).1
theorem Sees.kept {w w' : World} {b : Nat} {A : Option Addr} {S : List It} (h : Sees w b A S) (hk : 0 < S.length → w'.heap[b]? = w.heap[b]?) : Sees w' b A S := fun hS => by
  obtain ⟨off, e, hc⟩ := h hS
  refine ⟨off, e, fun j hj => ?_⟩
  have k : ∀ o, w'.cell? ⟨b, o, none⟩ = w.cell? ⟨b, o, none⟩ := fun o => by simp only [World.cell?, hk hS]
  rw [k, k]
  exact hc j hj
theorem Sees.below {w w' : World} {b : Nat} {A : Option Addr} {S : List It} (h : Sees w b A S) (hb : Below w.heap.size w w') : Sees w' b A S := h.kept fun hS => hb.block b (h.lt hS)
/-- a row of items that grows, above B -/
structure Gr (w wr : World) (T : TypeId) (B : Nat) (A : Option Addr) (cp : Nat) (O : List It) : Prop where
  own : wr.ownsRow B T 2 (.slice A O.length cp) O.length (flat O)
  bel : Below w.heap.size w wr
  lo : w.heap.size ≤ B ∧ B ≤ wr.heap.size
theorem Gr.app {w wr w1 : World} {T : TypeId} {B cp g cap : Nat} {A : Option Addr} {O : List It} {x y : Int} (h : Gr w wr T B A cp O)
    (hO : w1.ownsRow B T 2 (.slice (some ⟨g, 0, none⟩) (O.length + 1) cap) (O.length + 1) (flat O ++ [.int .i64 x, .int .i64 y])) (hG : (wr.alloc (.cells #[.int .i64 x, .int .i64 y] T)).grownBy w1 (Value.slice A O.length cp).ownBlock) :
    Gr w w1 T B (some ⟨g, 0, none⟩) cap (O ++ [(x, y)]) ∧ ∀ j, j < B → w1.heap[j]? = wr.heap[j]? := by
  have hlow := h.own.lt
  have hs : (wr.alloc (.cells #[.int .i64 x, .int .i64 y] T)).heap.size = wr.heap.size + 1 := size_al _ _
  obtain ⟨l1, l2⟩ := h.lo
  have kept : ∀ j, j < B → w1.heap[j]? = wr.heap[j]? := fun j hj => (hG.block j (by omega) (fun e => by have := (hlow j e.symm).1; omega)).trans (heap_al _ (by omega) _)
  have hsz := hG.size
  refine ⟨⟨?_, ⟨hG.os.trans h.bel.os, hG.tape.trans h.bel.tape, hG.output.trans h.bel.output, by have := h.bel.size; omega, fun j hj => (kept j (by omega)).trans (h.bel.block j hj)⟩, l1, by omega⟩, kept⟩
  rw [flat_app]
  simp only [flat, List.length_append, List.length_cons, List.length_nil]
  exact hO
theorem Gr.sees {w wr : World} {T : TypeId} {B cp : Nat} {A : Option Addr} {O : List It} (h : Gr w wr T B A cp O) : ∃ g, (0 < O.length → B ≤ g ∧ g < wr.heap.size) ∧ Sees wr g A O := by
  obtain ⟨h1, h2⟩ := h.own
  rcases h2 with ⟨e, h2⟩ | ⟨g, cap, cur, e, hB, hg, l1, l2, l3, l4⟩
  · exact ⟨0, by omega, fun hS => by omega⟩
  · cases e
    refine ⟨g, fun _ => ⟨hB, block_lt hg⟩, fun hS => ⟨0, rfl, fun j hj => ?_⟩⟩
    rw [cell_of hg, cell_of hg, Nat.zero_add, Nat.mul_comm j 2]
    have e0 := flat_get0 O j hj
    have e1 := flat_get1 O j hj
    rw [← l4, List.getElem?_take, if_pos (by omega), Array.getElem?_toList] at e0 e1
    exact ⟨e0, e1⟩
theorem Gr.nil (w : World) {wr : World} (T : TypeId) (hb : Below w.heap.size w wr) : Gr w wr T wr.heap.size none 0 [] := ⟨World.ownsRow_nil _ _ _ _, hb, hb.size, Nat.le_refl _⟩
theorem Gr.drewN {w wr : World} {T : TypeId} {B cp : Nat} {A : Option Addr} {O : List It} (h : Gr w wr T B A cp O) (n : Nat) : Gr w (wr.drewN n) T B A cp O := ⟨h.own, ⟨h.bel.os, h.bel.tape, h.bel.output, h.bel.size, h.bel.block⟩, h.lo⟩
theorem own_more {w : World} {B : Nat} {T : TypeId} {A : Option Addr} {cp : Nat} {O : List It} {x : It} {l : List Value} (h : w.ownsRow B T 2 (.slice A (O ++ [x]).length cp) (O ++ [x]).length l) : w.ownsRow B T 2 (.slice A (O.length + 1) cp) (O.length + 1) l := by
  rw [List.length_append] at h; exact h
theorem own_less {w : World} {B : Nat} {T : TypeId} {A : Option Addr} {cp : Nat} {O : List It} {x : It} {l : List Value} (h : w.ownsRow B T 2 (.slice A (O.length + 1 + 1) cp) (O.length + 1 + 1) l) : w.ownsRow B T 2 (.slice A ((O ++ [x]).length + 1) cp) ((O ++ [x]).length + 1) l := by
  rw [List.length_append]; exact h
theorem PutOn.len0 {l O : List It} {x : It} {k : Nat} (h : PutOn l x k false O) : O.length ≤ k := by
  rcases h with ⟨_, h1, _⟩ | ⟨h, _⟩
  · rw [h1, List.length_take]; omega
  · cases h

/-- the document's Put goes on -/
structure Dp (w wr : World) (B : Nat) (A : Option Addr) (cp : Nat) (O : List It) (R : Nat) (x0 x1 : Int) : Prop where
  gr : Gr w wr 42 B A cp O
  box : wr.heap[R]? = some (.cells #[.int .i64 x0, .int .i64 x1] 42 (0, 0))
  rb : R < B
theorem Dp.app {w wr w1 : World} {B : Nat} {A : Option Addr} {cp g cap : Nat} {O : List It} {R : Nat} {x0 x1 x y : Int} (h : Dp w wr B A cp O R x0 x1)
    (hO : w1.ownsRow B 42 2 (.slice (some ⟨g, 0, none⟩) (O.length + 1) cap) (O.length + 1) (flat O ++ [.int .i64 x, .int .i64 y])) (hG : (wr.alloc (.cells #[.int .i64 x, .int .i64 y] 42)).grownBy w1 (Value.slice A O.length cp).ownBlock) : Dp w w1 B (some ⟨g, 0, none⟩) cap (O ++ [(x, y)]) R x0 x1 := by
  obtain ⟨h1, h2⟩ := h.gr.app hO hG
  exact ⟨h1, (h2 R h.rb).trans h.box, h.rb⟩
theorem Dp.drewN {w wr : World} {B : Nat} {A : Option Addr} {cp : Nat} {O : List It} {R : Nat} {x0 x1 : Int} (h : Dp w wr B A cp O R x0 x1) (n : Nat) : Dp w (wr.drewN n) B A cp O R x0 x1 := ⟨h.gr.drewN n, h.box, h.rb⟩
theorem Dp.cells {w wr : World} {B : Nat} {A : Option Addr} {cp : Nat} {O : List It} {R : Nat} {x0 x1 : Int} (h : Dp w wr B A cp O R x0 x1) : wr.cell? ⟨R, 0, none⟩ = some (.int .i64 x0) ∧ wr.cell? ⟨R, 1, none⟩ = some (.int .i64 x1) := by
  have := h.box
  exact ⟨by simp [cell_of this], by simp [cell_of this]⟩
set_option maxHeartbeats 8000000 in
theorem refPut_any (w : World) (b : Nat) (A : Option Addr) (cap : Nat) (S : List It) (x : It) (n : Nat) (hn : S.length = n) (h : Sees w b A S) (hl : n < 100000) :
    Calls Try.prog 17 #[.slice A n cap, .agg #[.int .i64 x.1, .int .i64 x.2]] w fun e w' => ∃ A' cap', e = .returned (.slice A' (n + 1) cap') ∧ Gr w w' 42 (w.heap.size + 1) A' cap' (dput S x) := by
  obtain ⟨x0, x1⟩ := x
  obtain ⟨i0, hi, hz0, hz1, hz2⟩ := info_parts info42
  have BA := (Below.refl w.heap.size w).alloc (Nat.le_refl _) (.cells #[.int .i64 x0, .int .i64 x1] 42)
  have HS := Lib.hid (fun (X : World) (hb : Below w.heap.size w X) => h.below hb)
  have HD : Hid (Dp w (w.alloc (.cells #[.int .i64 x0, .int .i64 x1] 42)) (w.heap.size + 1) none 0 [] w.heap.size x0 x1) := ⟨⟨World.ownsRow_nil _ _ _ _, BA, by omega, by rw [size_al]; omega⟩, heap_alloc_new _ _, by omega⟩
  have HL := Lib.hid hl
  clear BA h hl
  have HN := Lib.hid hn
  go_enter Try.func17, Try.ntmps17
  go_wp2_with fail
  generalize hR : w.heap.size = R at HD HS ⊢
  obtain ⟨B, hB⟩ : ∃ B, B = R + 1 := ⟨_, rfl⟩
  have HR := Lib.hid hR
  have HBB := Lib.hid hB
  rw [← hB] at HD
  generalize hW : w.alloc (.cells #[.int .i64 x0, .int .i64 x1] 42) = W at HD ⊢
  clear hR hB hW hn
  go_loopw [5, 6, 7] (fun o d i wr => ∃ (k cp : Nat) (A' : Option Addr) (O : List It) (dn : Bool), o = .slice A' O.length cp ∧ d = .bool dn ∧ i = .int .i64 k ∧ k ≤ n ∧ Dp w wr B A' cp O R x0 x1 ∧ Hid (O.length ≤ k + 1) ∧ Hid (PutOn S (x0, x1) k dn O)) (fun _ _ i _ => n - (intOf i).toNat)
  case atStart => exact ⟨0, 0, none, [], false, rfl, rfl, rfl, by omega, HD.out, by show 0 ≤ 1; omega, PutOn.start _ _⟩
  case round =>
    obtain ⟨k, cp, A', O, dn, rfl, rfl, rfl, hk, hD, HOL, HP⟩ := hrel
    have HE := Lib.hid hD
    clear hD HD
    by_cases hkn : k < n
    · have hki : (k : Int) < (n : Int) := by omega
      have hcap : (k : Int) < 100000 := by have := HL.out; omega
      obtain ⟨hc0, hc1⟩ := HE.out.cells
      have HKL : Hid (k < S.length) := by show k < S.length; rw [HN.out]; exact hkn
      have HOL2 : Hid (O.length ≤ 100001) := by have := HOL.out; have := HL.out; show O.length ≤ 100001; omega
      obtain ⟨off, rfl, hcs⟩ := HS.out wr (by rw [← HR.out]; exact HE.out.gr.bel) (by have := HKL.out; omega)
      obtain ⟨hy0, hy1⟩ := hcs k HKL.out
      have HCC : Hid (∀ X : World, Below R w X → ∀ j, j < S.length → X.cell? ⟨b, off + j * 2, none⟩ = some (.int .i64 (at_ S j).1) ∧ X.cell? ⟨b, off + j * 2 + 1, none⟩ = some (.int .i64 (at_ S j).2)) := fun X hb j hj => by
        obtain ⟨off', e, hc⟩ := HS.out X hb (by omega)
        cases e
        exact hc j hj
      clear hcs
      obtain ⟨y0, y1, hy⟩ : ∃ y0 y1, at_ S k = (y0, y1) := ⟨_, _, rfl⟩
      rw [hy] at hy0 hy1
      have HY := Lib.hid hy
      clear hy
      simp only at hy0 hy1
      cases dn with
      | true =>
        go_wp2_with fail
        go_quiet (fail)
        have HE2 := Lib.hid (HE.out.drewN nq)
        go_wp2_with (refine wpList_append_lies _ rfl (.tmp 50) (.tmp 55) 40 rfl B 42 i0 _ 2 16 Try.underlying40 hi hz0 hz1 hz2 rfl (by omega) (.slice A' O.length cp) O.length (flat O) rfl (HE2.out.gr.own.alloc _) ⟨_, 0, none⟩ 1 1 [.int .i64 y0, .int .i64 y1] rfl rfl (news2' _ _ _ _) (flat_one [(y0, y1)]) (by omega) (by have := HOL2.out; unfold maxLen; omega) (by have := HOL2.out; omega) (by have := HE2.out.gr.lo; rw [size_al]; omega) _ rfl ?_; intro g1 cap1 w3 hO2 hG2 _ _; have HU := Lib.hid (HE2.out.app hO2 hG2); clear hO2 hG2)
        have HP2 := Lib.hid (HP.out.on HKL.out)
        rw [HY.out] at HP2
        go_roundw
        case rel => first | exact ⟨k + 1, cap1, some ⟨g1, 0, none⟩, O ++ [(y0, y1)], true, by simp, rfl, by go_num, by omega, HU.out, (by have := HOL.out; show _ ≤ _; simp; omega), HP2.out⟩ | (repeat apply Exists.intro; exact ⟨⟨k + 1, cap1, some ⟨g1, 0, none⟩, O ++ [(y0, y1)], true, by simp, rfl, by go_num, by omega, HU.out, (by have := HOL.out; show _ ≤ _; simp; omega), HP2.out⟩, rfl⟩)
        case measure => simp [intOf]; omega
      | false =>
        have HLT := Lib.hid (lt_iff (x0, x1) (y0, y1))
        have HLF := Lib.hid (nlt_iff (x0, x1) (y0, y1))
        by_cases e1 : x0 < y0
        · have d1 : decide (x0 < y0) = true := by simpa using e1
          go_wp2_with fail
          go_quiet (fail)
          have HE2 := Lib.hid (HE.out.drewN nq)
          have HOL3 : Hid ((O ++ [(x0, x1)]).length ≤ 100002) := by have := HOL2.out; show _ ≤ _; simp; omega
          have hOl : (O ++ [(x0, x1)]).length = O.length + 1 := by simp
          go_wp2_with (first | (refine wpList_append_lies _ rfl (.tmp 46) (.tmp 48) 40 rfl B 42 i0 _ 2 16 Try.underlying40 hi hz0 hz1 hz2 rfl (by omega) (.slice A' O.length cp) O.length (flat O) rfl (HE2.out.gr.own.alloc _) ⟨_, 0, none⟩ 1 1 [.int .i64 x0, .int .i64 x1] rfl rfl (news2' _ _ _ _) (flat_one [(x0, x1)]) (by omega) (by have := HOL2.out; unfold maxLen; omega) (by have := HOL2.out; omega) (by have := HE2.out.gr.lo; rw [size_al]; omega) _ rfl ?_; intro g1 cap1 w3 hO2 hG2 _ _; have HU := Lib.hid (HE2.out.app hO2 hG2); clear hO2 hG2; have hy0 := (HCC.out w3 (by rw [← HR.out]; exact HU.out.gr.bel) k HKL.out).1; have hy1 := (HCC.out w3 (by rw [← HR.out]; exact HU.out.gr.bel) k HKL.out).2; rw [HY.out] at hy0 hy1; simp only at hy0 hy1) | (refine wpList_append_lies _ rfl (.tmp 50) (.tmp 55) 40 rfl B 42 i0 _ 2 16 Try.underlying40 hi hz0 hz1 hz2 rfl (by omega) (.slice (some ⟨g1, 0, none⟩) (O.length + 1) cap1) (O.length + 1) (flat (O ++ [(x0, x1)])) rfl ((own_more HU.out.gr.own).alloc _) ⟨_, 0, none⟩ 1 1 [.int .i64 y0, .int .i64 y1] rfl rfl (news2' _ _ _ _) (flat_one [(y0, y1)]) (by omega) (by have := HOL3.out; unfold maxLen; omega) (by have := HOL3.out; omega) (by have := HU.out.gr.lo; rw [size_al]; omega) _ rfl ?_; intro g2 cap2 w5 hO2 hG2 _ _; have HU2 := Lib.hid (HU.out.app (own_less hO2) hG2); clear hO2 hG2))
          have HP2 := Lib.hid (HP.out.put HKL.out (by rw [HY.out]; exact HLT.out.2 (by omega)))
          rw [HY.out] at HP2
          go_roundw
          case rel => first | exact ⟨k + 1, cap2, some ⟨g2, 0, none⟩, (O ++ [(x0, x1)]) ++ [(y0, y1)], true, by simp, rfl, by go_num, by omega, HU2.out, (by have := HP.out.len0; show _ ≤ _; simp; omega), HP2.out⟩ | (repeat apply Exists.intro; exact ⟨⟨k + 1, cap2, some ⟨g2, 0, none⟩, (O ++ [(x0, x1)]) ++ [(y0, y1)], true, by simp, rfl, by go_num, by omega, HU2.out, (by have := HP.out.len0; show _ ≤ _; simp; omega), HP2.out⟩, rfl⟩)
          case measure => simp [intOf]; omega
        · have d1 : decide (x0 < y0) = false := by simpa using e1
          by_cases e2 : x0 = y0
          · have d2 : (x0 == y0) = true := by simpa using e2
            have E2 := Lib.hid e2
            clear e2
            by_cases e3 : x1 < y1
            · have d3 : decide (x1 < y1) = true := by simpa using e3
              go_wp2_with fail
              go_quiet (fail)
              have HE2 := Lib.hid (HE.out.drewN nq)
              have HOL3 : Hid ((O ++ [(x0, x1)]).length ≤ 100002) := by have := HOL2.out; show _ ≤ _; simp; omega
              have hOl : (O ++ [(x0, x1)]).length = O.length + 1 := by simp
              go_wp2_with (first | (refine wpList_append_lies _ rfl (.tmp 46) (.tmp 48) 40 rfl B 42 i0 _ 2 16 Try.underlying40 hi hz0 hz1 hz2 rfl (by omega) (.slice A' O.length cp) O.length (flat O) rfl (HE2.out.gr.own.alloc _) ⟨_, 0, none⟩ 1 1 [.int .i64 x0, .int .i64 x1] rfl rfl (news2' _ _ _ _) (flat_one [(x0, x1)]) (by omega) (by have := HOL2.out; unfold maxLen; omega) (by have := HOL2.out; omega) (by have := HE2.out.gr.lo; rw [size_al]; omega) _ rfl ?_; intro g1 cap1 w3 hO2 hG2 _ _; have HU := Lib.hid (HE2.out.app hO2 hG2); clear hO2 hG2; have hy0 := (HCC.out w3 (by rw [← HR.out]; exact HU.out.gr.bel) k HKL.out).1; have hy1 := (HCC.out w3 (by rw [← HR.out]; exact HU.out.gr.bel) k HKL.out).2; rw [HY.out] at hy0 hy1; simp only at hy0 hy1) | (refine wpList_append_lies _ rfl (.tmp 50) (.tmp 55) 40 rfl B 42 i0 _ 2 16 Try.underlying40 hi hz0 hz1 hz2 rfl (by omega) (.slice (some ⟨g1, 0, none⟩) (O.length + 1) cap1) (O.length + 1) (flat (O ++ [(x0, x1)])) rfl ((own_more HU.out.gr.own).alloc _) ⟨_, 0, none⟩ 1 1 [.int .i64 y0, .int .i64 y1] rfl rfl (news2' _ _ _ _) (flat_one [(y0, y1)]) (by omega) (by have := HOL3.out; unfold maxLen; omega) (by have := HOL3.out; omega) (by have := HU.out.gr.lo; rw [size_al]; omega) _ rfl ?_; intro g2 cap2 w5 hO2 hG2 _ _; have HU2 := Lib.hid (HU.out.app (own_less hO2) hG2); clear hO2 hG2))
              have HP2 := Lib.hid (HP.out.put HKL.out (by rw [HY.out]; exact HLT.out.2 (by have := E2.out; omega)))
              rw [HY.out] at HP2
              go_roundw
              case rel => first | exact ⟨k + 1, cap2, some ⟨g2, 0, none⟩, (O ++ [(x0, x1)]) ++ [(y0, y1)], true, by simp, rfl, by go_num, by omega, HU2.out, (by have := HP.out.len0; show _ ≤ _; simp; omega), HP2.out⟩ | (repeat apply Exists.intro; exact ⟨⟨k + 1, cap2, some ⟨g2, 0, none⟩, (O ++ [(x0, x1)]) ++ [(y0, y1)], true, by simp, rfl, by go_num, by omega, HU2.out, (by have := HP.out.len0; show _ ≤ _; simp; omega), HP2.out⟩, rfl⟩)
              case measure => simp [intOf]; omega
            · have d3 : decide (x1 < y1) = false := by simpa using e3
              go_wp2_with fail
              go_quiet (fail)
              have HE2 := Lib.hid (HE.out.drewN nq)
              go_wp2_with (refine wpList_append_lies _ rfl (.tmp 50) (.tmp 55) 40 rfl B 42 i0 _ 2 16 Try.underlying40 hi hz0 hz1 hz2 rfl (by omega) (.slice A' O.length cp) O.length (flat O) rfl (HE2.out.gr.own.alloc _) ⟨_, 0, none⟩ 1 1 [.int .i64 y0, .int .i64 y1] rfl rfl (news2' _ _ _ _) (flat_one [(y0, y1)]) (by omega) (by have := HOL2.out; unfold maxLen; omega) (by have := HOL2.out; omega) (by have := HE2.out.gr.lo; rw [size_al]; omega) _ rfl ?_; intro g1 cap1 w3 hO2 hG2 _ _; have HU := Lib.hid (HE2.out.app hO2 hG2); clear hO2 hG2)
              have HP2 := Lib.hid (HP.out.stay HKL.out (by rw [HY.out]; exact HLF.out.2 (by have := E2.out; omega)))
              rw [HY.out] at HP2
              go_roundw
              case rel => first | exact ⟨k + 1, cap1, some ⟨g1, 0, none⟩, O ++ [(y0, y1)], false, by simp, rfl, by go_num, by omega, HU.out, (by have := HOL.out; show _ ≤ _; simp; omega), HP2.out⟩ | (repeat apply Exists.intro; exact ⟨⟨k + 1, cap1, some ⟨g1, 0, none⟩, O ++ [(y0, y1)], false, by simp, rfl, by go_num, by omega, HU.out, (by have := HOL.out; show _ ≤ _; simp; omega), HP2.out⟩, rfl⟩)
              case measure => simp [intOf]; omega
          · have d2 : (x0 == y0) = false := by simpa using e2
            go_wp2_with fail
            go_quiet (fail)
            have HE2 := Lib.hid (HE.out.drewN nq)
            go_wp2_with (refine wpList_append_lies _ rfl (.tmp 50) (.tmp 55) 40 rfl B 42 i0 _ 2 16 Try.underlying40 hi hz0 hz1 hz2 rfl (by omega) (.slice A' O.length cp) O.length (flat O) rfl (HE2.out.gr.own.alloc _) ⟨_, 0, none⟩ 1 1 [.int .i64 y0, .int .i64 y1] rfl rfl (news2' _ _ _ _) (flat_one [(y0, y1)]) (by omega) (by have := HOL2.out; unfold maxLen; omega) (by have := HOL2.out; omega) (by have := HE2.out.gr.lo; rw [size_al]; omega) _ rfl ?_; intro g1 cap1 w3 hO2 hG2 _ _; have HU := Lib.hid (HE2.out.app hO2 hG2); clear hO2 hG2)
            have HP2 := Lib.hid (HP.out.stay HKL.out (by rw [HY.out]; exact HLF.out.2 (by omega)))
            rw [HY.out] at HP2
            go_roundw
            case rel => first | exact ⟨k + 1, cap1, some ⟨g1, 0, none⟩, O ++ [(y0, y1)], false, by simp, rfl, by go_num, by omega, HU.out, (by have := HOL.out; show _ ≤ _; simp; omega), HP2.out⟩ | (repeat apply Exists.intro; exact ⟨⟨k + 1, cap1, some ⟨g1, 0, none⟩, O ++ [(y0, y1)], false, by simp, rfl, by go_num, by omega, HU.out, (by have := HOL.out; show _ ≤ _; simp; omega), HP2.out⟩, rfl⟩)
            case measure => simp [intOf]; omega
    · obtain rfl : k = n := by omega
      have hki : ¬ (k : Int) < (k : Int) := by omega
      obtain ⟨hc0, hc1⟩ := HE.out.cells
      have HOL2 : Hid (O.length ≤ 100001) := by have := HOL.out; have := HL.out; show O.length ≤ 100001; omega
      have HP' := HP.out
      rw [← HN.out] at HP'
      have HPP := Lib.hid HP'
      clear HP'
      cases dn with
      | true =>
        go_wp2_with fail
        go_ret
        have e := HPP.out.done
        have g := HE.out.gr
        rw [e] at g
        refine ⟨A', cp, ?_, by rw [HR.out, ← HBB.out]; exact g⟩
        have e' := congrArg List.length e
        rw [dput_len, HN.out] at e'
        show Ending.returned (Value.slice _ _ _) = _
        rw [e']
      | false =>
        go_wp2_with (refine wpList_append_lies _ rfl (.tmp 59) (.tmp 61) 40 rfl B 42 i0 _ 2 16 Try.underlying40 hi hz0 hz1 hz2 rfl (by omega) (.slice A' O.length cp) O.length (flat O) rfl (HE.out.gr.own.alloc _) ⟨_, 0, none⟩ 1 1 [.int .i64 x0, .int .i64 x1] rfl rfl (news2' _ _ _ _) (flat_one [(x0, x1)]) (by omega) (by have := HOL2.out; unfold maxLen; omega) (by have := HOL2.out; omega) (by have := HE.out.gr.lo; rw [size_al]; omega) _ rfl ?_; intro g1 cap1 w3 hO2 hG2 _ _; have HU2 := Lib.hid (HE.out.app hO2 hG2); clear hO2 hG2)
        go_wp2_with fail
        go_ret
        have e := HPP.out.last
        have g := HU2.out.gr
        rw [e] at g
        refine ⟨_, _, ?_, by rw [HR.out, ← HBB.out]; exact g⟩
        have e' := congrArg List.length e
        rw [dput_len] at e'
        simp at e'
        rw [HN.out] at e'
        show Ending.returned (Value.slice _ _ _) = _
        rw [e']
end Go.Proofs.Ytideofojmgmboaa
