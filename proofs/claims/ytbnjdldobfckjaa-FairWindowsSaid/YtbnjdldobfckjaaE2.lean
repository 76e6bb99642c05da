/- A round, walked. -/
import Derived.Test.YtbnjdldobfckjaaE1
namespace Go.Proofs.Ytbnjdldobfckjaa
open Go Go.RowKit
set_option linter.unusedVariables false
set_option linter.unusedSimpArgs false
set_option maxRecDepth 100000

theorem info33 : (Try.prog.info? 33).map (fun i => (i.zero, i.size, i.bytes)) = some (some (.agg #[.int .i64 0, .int .i64 0]), 2, 16) := by kernel_rfl
theorem news2 (X : World) (x y : Value) : ∀ j u, ([x, y] : List Value)[j]? = some u → (X.alloc (.cells #[x, y] 33)).cell? ((⟨X.heap.size, 0, none⟩ : Addr).add j) = some u := fun j u hu => World.news_of_block (cs := #[x, y]) (heap_alloc_new X (.cells #[x, y] 33)) j u hu
/-- The first k entries of a round, and of rounds. -/
def rdL (T k : Nat) : List En := (List.range k).map (rd T)
theorem rdL_succ (T k : Nat) : rdL T (k + 1) = rdL T k ++ [rd T k] := by simp [rdL, List.range_succ]
theorem rdL_len (T k : Nat) : (rdL T k).length = k := by simp [rdL]
/-- A row of entries that grows. -/
structure RdOn (w wr : World) (P T G : Int) (f : Nat → En) (z kb B : Nat) (A : Option Addr) (k cp : Nat) : Prop where
  own : wr.ownsRow B 33 2 (.slice A k cp) k (flat ((List.range k).map f))
  bel : Below w.heap.size w wr
  box : wr.heap[z]? = some (.cells #[.int .i64 P, .int .i64 T, .int .i64 G] 23 (0, 0))
  kin : wr.heap[kb]? = some (.cells #[.int .i64 1, .int .i64 4] 3 (0, 0))
  lo : w.heap.size ≤ B ∧ z < B ∧ kb < B ∧ B ≤ wr.heap.size
theorem RdOn.app {w wr w1 : World} {P T G : Int} {f : Nat → En} {z kb B k cp g cap : Nat} {A : Option Addr} {x y : Int} (h : RdOn w wr P T G f z kb B A k cp) (hf : f k = (x, y))
    (hO : w1.ownsRow B 33 2 (.slice (some ⟨g, 0, none⟩) (k + 1) cap) (k + 1) (flat ((List.range k).map f) ++ [.int .i64 x, .int .i64 y])) (hG : (wr.alloc (.cells #[.int .i64 x, .int .i64 y] 33)).grownBy w1 (Value.slice A k cp).ownBlock) :
    RdOn w w1 P T G f z kb B (some ⟨g, 0, none⟩) (k + 1) cap := by
  have hlow := h.own.lt
  have hs : (wr.alloc (.cells #[.int .i64 x, .int .i64 y] 33)).heap.size = wr.heap.size + 1 := size_al _ _
  obtain ⟨l1, l2, l3, l4⟩ := h.lo
  have kept : ∀ j, j < B → w1.heap[j]? = wr.heap[j]? := fun j hj => (hG.block j (by omega) (fun e => by have := (hlow j e.symm).1; omega)).trans (heap_al _ (by omega) _)
  have hsz := hG.size
  refine ⟨?_, ⟨hG.os.trans h.bel.os, hG.tape.trans h.bel.tape, hG.output.trans h.bel.output, by have := h.bel.size; omega, fun j hj => (kept j (by omega)).trans (h.bel.block j hj)⟩, (kept z l2).trans h.box, (kept kb l3).trans h.kin, l1, l2, l3, by omega⟩
  rw [List.range_succ, List.map_append, flat_app]
  simp only [List.map_cons, List.map_nil, hf, flat]
  exact hO
theorem RdOn.cells {w wr : World} {P T G : Int} {f : Nat → En} {z kb B k cp : Nat} {A : Option Addr} (h : RdOn w wr P T G f z kb B A k cp) :
    wr.cell? ⟨z, 0, none⟩ = some (.int .i64 P) ∧ wr.cell? ⟨z, 1, none⟩ = some (.int .i64 T) ∧ wr.cell? ⟨z, 2, none⟩ = some (.int .i64 G) ∧ wr.cell? ⟨kb, 0, none⟩ = some (.int .i64 1) ∧ wr.cell? ⟨kb, 1, none⟩ = some (.int .i64 4) := by
  have a := h.box
  have b := h.kin
  exact ⟨by simp only [World.cell?, a]; rfl, by simp only [World.cell?, a]; rfl, by simp only [World.cell?, a]; rfl, by simp only [World.cell?, b]; rfl, by simp only [World.cell?, b]; rfl⟩
theorem rd_0 {T k t : Nat} (h : k = 0 * T + t) (ht : t < T) : rd T k = (1, (t : Int)) := by unfold rd; rw [if_pos (by omega)]; congr 2; omega
theorem rd_1 {T k t : Nat} (h : k = 1 * T + t) (ht : t < T) : rd T k = (4, (t : Int)) := by unfold rd; rw [if_neg (by omega), if_pos (by omega)]; congr 2; omega
theorem rd_2 {T k t : Nat} (h : k = 2 * T + t) (ht : t < 4) : rd T k = (2, 0) := by unfold rd; rw [if_neg (by omega), if_neg (by omega), if_pos (by omega)]
theorem rd_3 {T k : Nat} (h : k = 2 * T + 4) : rd T k = (3, 0) := by unfold rd; rw [if_neg (by omega), if_neg (by omega), if_neg (by omega)]

/-- A round's answer. -/
def RdGot (w : World) (T : Nat) (e : Ending) (w' : World) : Prop :=
  ∃ A cap B, e = .returned (.slice A (2 * T + 5) cap) ∧ w.heap.size ≤ B ∧ B ≤ w'.heap.size ∧ w'.ownsRow B 33 2 (.slice A (2 * T + 5) cap) (2 * T + 5) (flat (rdL T (2 * T + 5))) ∧ Below w.heap.size w w'
theorem round_no (w : World) (P T G : Int) (h : mayB P T G = false) :
    Calls Try.prog 9 #[.agg #[.int .i64 P, .int .i64 T, .int .i64 G]] w fun e w' => e = .returned (.slice none 0 0) ∧ Below w.heap.size w w' := by
  have HB := Lib.hid (fun o1 => ((Below.refl w.heap.size w).alloc (Nat.le_refl _) o1))
  go_enter Try.func9, Try.ntmps9
  go_wp2_with fail
  go_at_call 14; refine (may_any _ P T G).mono ?_; rintro e w1 ⟨rfl, hb⟩
  rw [h]
  have HB1 := Lib.hid ((HB.out _).trans (hb.mono (by rw [size_al]; omega)))
  clear hb
  go_wp2_with fail
  go_ret
  exact ⟨rfl, HB1.out⟩
set_option maxHeartbeats 4000000 in
theorem round_ok (w : World) (P G : Int) (T : Nat) (h : mayB P T G = true) :
    Calls Try.prog 9 #[.agg #[.int .i64 P, .int .i64 (T : Int), .int .i64 G]] w (RdGot w T) := by
  obtain ⟨i0, hi, hz0, hz1, hz2⟩ := info_parts info33
  have HB := Lib.hid (fun o1 => ((Below.refl w.heap.size w).alloc (Nat.le_refl _) o1))
  have HT := Lib.hid (mayB_true h)
  go_enter Try.func9, Try.ntmps9
  go_wp2_with fail
  go_at_call 14; refine (may_any _ P T G).mono ?_; rintro e w1 ⟨rfl, hb⟩
  rw [h]
  have hs1 := hb.size
  rw [size_al] at hs1
  have HR0 := Lib.hid (show RdOn w (w1.alloc (.cells #[.int .i64 1, .int .i64 4] 3)) P T G (rd T) w.heap.size w1.heap.size (w1.heap.size + 1) none 0 0 from
    ⟨World.ownsRow_nil _ _ _ _, ((HB.out (.cells #[.int .i64 P, .int .i64 (T : Int), .int .i64 G] 23)).trans (hb.mono (by rw [size_al]; omega))).alloc (by omega) _,
      (heap_al _ (by omega) _).trans ((hb.block _ (by rw [size_al]; omega)).trans (heap_alloc_new _ _)), heap_alloc_new _ _, by omega, by omega, by omega, by rw [size_al]; omega⟩)
  have HTB := Lib.hid (show T ≤ 256 by have := HT.out; omega)
  clear hb h
  go_wp2_with fail
  generalize hkb : w1.heap.size = kb at HR0 ⊢
  generalize hww : w1.alloc (.cells #[.int .i64 1, .int .i64 4] 3) = W at HR0 ⊢
  clear hkb hww hs1
  go_loopw [3, 12] (fun v i wr => ∃ (kk k cp : Nat) (A : Option Addr), v = .slice A k cp ∧ i = .int .i64 kk ∧ kk ≤ 2 ∧ RdOn w wr P T G (rd T) w.heap.size kb (kb + 1) A k cp ∧ Hid (k = kk * T)) (fun _ i _ => 2 - (intOf i).toNat)
  case atStart => exact ⟨0, 0, 0, none, rfl, rfl, by omega, HR0.out, Lib.hid (by omega)⟩
  case round =>
    obtain ⟨kk, k, cp, A, rfl, rfl, hkk, hR, HK⟩ := hrel
    have HR := Lib.hid hR
    clear hR HR0
    obtain ⟨_, c1, _, c3, c4⟩ := HR.out.cells
    rcases (show kk = 0 ∨ kk = 1 ∨ kk = 2 by omega) with rfl | rfl | rfl
    · go_wp2_with fail
      clear c1 c3 c4
      go_loopw [3, 18] (fun v i wr => ∃ (t k cp : Nat) (A : Option Addr), v = .slice A k cp ∧ i = .int .i64 t ∧ t ≤ T ∧ RdOn w wr P T G (rd T) w.heap.size kb (kb + 1) A k cp ∧ Hid (k = 0 * T + t)) (fun _ i _ => T - (intOf i).toNat)
      case atStart => exact ⟨0, _, _, _, rfl, rfl, by omega, HR.out, Lib.hid (by have := HK.out; omega)⟩
      case round =>
        obtain ⟨t, k, cp, A, rfl, rfl, ht, hR, HK⟩ := hrel
        have HU := Lib.hid hR
        clear hR HR
        by_cases hlt : t < T
        · have hti : (t : Int) < (T : Int) := by omega
          have htb : t < 256 := by have := HTB.out; omega
          go_wp2_with (refine wpList_append_lies _ rfl (.tmp 21) (.tmp 25) 30 rfl (kb + 1) 33 i0 _ 2 16 Try.underlying30 hi hz0 hz1 hz2 rfl (by omega) (.slice A k cp) k (flat ((List.range k).map (rd T))) rfl (HU.out.own.alloc _) ⟨_, 0, none⟩ 1 1 [.int .i64 1, .int .i64 (t : Int)] rfl rfl (news2 _ _ _) (flat_one [(1, (t : Int))]) (by omega) (by have := HK.out; have := HTB.out; unfold maxLen; omega) (by have := HK.out; have := HTB.out; omega) (by have := HU.out.lo; rw [size_al]; omega) _ rfl ?_; intro g3 cap3 w5 hO2 hG2 _ _; have HU2 := Lib.hid (HU.out.app (rd_0 HK.out hlt) hO2 hG2); clear hO2 hG2)
          go_roundw
          case rel => exact ⟨_, _, _, _, _, _, _, _, _, _, _, _, ⟨t + 1, k + 1, cap3, _, rfl, by go_num, by omega, HU2.out, Lib.hid (by have := HK.out; omega)⟩, rfl⟩
          case measure => simp [intOf]; omega
        · obtain rfl : t = T := by omega
          go_wp2_with fail
          go_roundw
          case rel => exact ⟨1, k, cp, A, rfl, by go_num, by omega, HU.out, Lib.hid (by have := HK.out; omega)⟩
          case measure => simp [intOf]
    · go_wp2_with fail
      clear c1 c3 c4
      go_loopw [3, 18] (fun v i wr => ∃ (t k cp : Nat) (A : Option Addr), v = .slice A k cp ∧ i = .int .i64 t ∧ t ≤ T ∧ RdOn w wr P T G (rd T) w.heap.size kb (kb + 1) A k cp ∧ Hid (k = 1 * T + t)) (fun _ i _ => T - (intOf i).toNat)
      case atStart => exact ⟨0, _, _, _, rfl, rfl, by omega, HR.out, Lib.hid (by have := HK.out; omega)⟩
      case round =>
        obtain ⟨t, k, cp, A, rfl, rfl, ht, hR, HK⟩ := hrel
        have HU := Lib.hid hR
        clear hR HR
        by_cases hlt : t < T
        · have hti : (t : Int) < (T : Int) := by omega
          have htb : t < 256 := by have := HTB.out; omega
          go_wp2_with (refine wpList_append_lies _ rfl (.tmp 21) (.tmp 25) 30 rfl (kb + 1) 33 i0 _ 2 16 Try.underlying30 hi hz0 hz1 hz2 rfl (by omega) (.slice A k cp) k (flat ((List.range k).map (rd T))) rfl (HU.out.own.alloc _) ⟨_, 0, none⟩ 1 1 [.int .i64 4, .int .i64 (t : Int)] rfl rfl (news2 _ _ _) (flat_one [(4, (t : Int))]) (by omega) (by have := HK.out; have := HTB.out; unfold maxLen; omega) (by have := HK.out; have := HTB.out; omega) (by have := HU.out.lo; rw [size_al]; omega) _ rfl ?_; intro g3 cap3 w5 hO2 hG2 _ _; have HU2 := Lib.hid (HU.out.app (rd_1 HK.out hlt) hO2 hG2); clear hO2 hG2)
          go_roundw
          case rel => exact ⟨_, _, _, _, _, _, _, _, _, _, _, _, ⟨t + 1, k + 1, cap3, _, rfl, by go_num, by omega, HU2.out, Lib.hid (by have := HK.out; omega)⟩, rfl⟩
          case measure => simp [intOf]; omega
        · obtain rfl : t = T := by omega
          go_wp2_with fail
          go_roundw
          case rel => exact ⟨2, k, cp, A, rfl, by go_num, by omega, HU.out, Lib.hid (by have := HK.out; omega)⟩
          case measure => simp [intOf]
    · clear c1 c3 c4
      go_wp2_with fail
      go_loopw [3, 29] (fun v i wr => ∃ (t k cp : Nat) (A : Option Addr), v = .slice A k cp ∧ i = .int .i64 t ∧ t ≤ 4 ∧ RdOn w wr P T G (rd T) w.heap.size kb (kb + 1) A k cp ∧ Hid (k = 2 * T + t)) (fun _ i _ => 4 - (intOf i).toNat)
      case atStart => exact ⟨0, _, _, _, rfl, rfl, by omega, HR.out, Lib.hid (by have := HK.out; omega)⟩
      case round =>
        obtain ⟨t, k, cp, A, rfl, rfl, ht, hR, HK⟩ := hrel
        have HU := Lib.hid hR
        clear hR HR
        by_cases hlt : t < 4
        · have hti : (t : Int) < 4 := by omega
          go_wp2_with (refine wpList_append_lies _ rfl (.tmp 31) (.tmp 33) 30 rfl (kb + 1) 33 i0 _ 2 16 Try.underlying30 hi hz0 hz1 hz2 rfl (by omega) (.slice A k cp) k (flat ((List.range k).map (rd T))) rfl (HU.out.own.alloc _) ⟨_, 0, none⟩ 1 1 [.int .i64 2, .int .i64 0] rfl rfl (news2 _ _ _) (flat_one [(2, 0)]) (by omega) (by have := HK.out; have := HTB.out; unfold maxLen; omega) (by have := HK.out; have := HTB.out; omega) (by have := HU.out.lo; rw [size_al]; omega) _ rfl ?_; intro g3 cap3 w5 hO2 hG2 _ _; have HU2 := Lib.hid (HU.out.app (rd_2 HK.out hlt) hO2 hG2); clear hO2 hG2)
          go_roundw
          case rel => exact ⟨_, _, _, _, _, _, _, _, ⟨t + 1, k + 1, cap3, _, rfl, by go_num, by omega, HU2.out, Lib.hid (by have := HK.out; omega)⟩, rfl⟩
          case measure => simp [intOf]; omega
        · obtain rfl : t = 4 := by omega
          go_wp2_with (refine wpList_append_lies _ rfl (.tmp 36) (.tmp 38) 30 rfl (kb + 1) 33 i0 _ 2 16 Try.underlying30 hi hz0 hz1 hz2 rfl (by omega) (.slice A k cp) k (flat ((List.range k).map (rd T))) rfl (HU.out.own.alloc _) ⟨_, 0, none⟩ 1 1 [.int .i64 3, .int .i64 0] rfl rfl (news2 _ _ _) (flat_one [(3, 0)]) (by omega) (by have := HK.out; have := HTB.out; unfold maxLen; omega) (by have := HK.out; have := HTB.out; omega) (by have := HU.out.lo; rw [size_al]; omega) _ rfl ?_; intro g3 cap3 w5 hO2 hG2 _ _; have HU2 := Lib.hid (HU.out.app (rd_3 HK.out) hO2 hG2); clear hO2 hG2)
          go_ret
          have e : k + 1 = 2 * T + 5 := by have := HK.out; omega
          have hq := HU2.out
          rw [e] at hq
          refine ⟨some ⟨g3, 0, none⟩, cap3, kb + 1, ?_, hq.lo.1, hq.lo.2.2.2, hq.own, hq.bel⟩
          rw [← e]; rfl
end Go.Proofs.Ytbnjdldobfckjaa
