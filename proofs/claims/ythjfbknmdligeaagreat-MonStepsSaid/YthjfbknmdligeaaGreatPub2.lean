/- The contract of a memory's method Add. -/
import Derived.Test.YthjfbknmdligeaaGreatPub
namespace Go.Proofs.YthjfbknmdligeaaGreat
open Go Go.RowKit
set_option linter.unusedVariables false
set_option maxRecDepth 100000
set_option linter.unusedSimpArgs false

/-- A struct of six cells, stored whole into a block of its own. -/
theorem stored6 {w w1 W : World} {A : Option Addr} {cap c b n : Nat} {s : St} {k' who' i' old' new' : Int} {done' : Bool} {q : Nat} (k who i old new : Int) (done : Bool) (hq : q < w.heap.size) (hqc : q ≠ c ∧ q ≠ b) (hW : W.heap.size ≤ q)
    (h0 : w.heap[q]? = some (.cells (accL k' who' i' old' new' done').toArray 48 (0, 0))) (hI : Is w1 114 A cap c b n s) (hB : But [c, b] w w1) (hWw : But [c, b] W w) :
    w1.there q 0 (accL k who i old new done).toArray.size ∧ AccAt (w1.setCells q 0 (accL k who i old new done).toArray.toList) q k who i old new done ∧ Is (w1.setCells q 0 (accL k who i old new done).toArray.toList) 114 A cap c b n s ∧ But [c, b] W (w1.setCells q 0 (accL k who i old new done).toArray.toList) := by
  have h1 : w1.heap[q]? = some (.cells (accL k' who' i' old' new' done').toArray 48 (0, 0)) := (hB.block q hq (by simp; exact hqc)).trans h0
  refine ⟨?_, ⟨?_⟩, ?_, But.sets (Or.inr hW) _ _ (hWw.trans hB)⟩
  · intro j hj
    have hj' : j < 6 := hj
    refine ⟨?_, by simp [World.frozen?, h1]⟩
    simp [World.cell?, h1, accL]
    omega
  · simp only [accL, World.setCells]
    exact heap_set (heap_set (heap_set (heap_set (heap_set (heap_set h1 _ _) _ _) _ _) _ _) _ _) _ _
  · exact hI.keep (Nat.le_of_eq (size_sets _ _ _ _).symm) (heap_sets q (Ne.symm hqc.1) _ _ _) (fun _ => heap_sets q (Ne.symm hqc.2) _ _ _)

set_option maxHeartbeats 1000000 in
theorem add_any (w : World) (A : Option Addr) (cap c b n : Nat) (s : St) (who i new : Int) (h : Is w 114 A cap c b n s) (hn : n ≤ 1000000) (hl : Low s 1000000) (hnb : 0 ≤ new ∧ new ≤ 18446744073709551615) :
    Calls Tryz.prog 27 #[.pointer (some ⟨c, 0, none⟩), .int .i64 who, .int .i64 i, .int .u64 new] w fun e w' => e = .returned (.int .u64 (ans 4 i 0 new n s)) ∧ Is w' 114 A cap c b n (stp 4 who i 0 new n s) ∧ But [c, b] w w' := by
  have hb : But [c, b] w (w.alloc (.cells #[.int .i64 4, .int .i64 who, .int .i64 i, .int .u64 0, .int .u64 new, .bool false] 48)) := (But.refl _ _).alloc _
  have H : Hid (Is (w.alloc (.cells #[.int .i64 4, .int .i64 who, .int .i64 i, .int .u64 0, .int .u64 new, .bool false] 48)) 114 A cap c b n s) := h.below ((Below.refl _ _).alloc (Nat.le_refl _) _)
  have h0 : (w.alloc (.cells #[.int .i64 4, .int .i64 who, .int .i64 i, .int .u64 0, .int .u64 new, .bool false] 48)).heap[w.heap.size]? = some (.cells (accL 4 who i 0 new false).toArray 48 (0, 0)) := heap_alloc_new _ _
  have H0 : Hid _ := h0
  have hne : w.heap.size ≠ c ∧ w.heap.size ≠ b := ⟨by have := h.lt; omega, by have := h.bl; omega⟩
  clear h h0
  by_cases hi : 0 ≤ i ∧ i < n
  · have HA : Hid _ := hi
    obtain ⟨j, rfl⟩ : ∃ j : Nat, i = (j : Int) := ⟨i.toNat, by omega⟩
    have hj : j < n := by omega
    have e1 : ans 4 j 0 new n s = (s.f j + new) % 4294967296 := by unfold ans; rw [if_pos hi]; simp
    have e2 : stp 4 who j 0 new n s = { s with f := upd s.f j ((s.f j + new) % 4294967296), clock := s.clock + 1, kind := 4, who := who, at' := (j : Int), old := s.f j, new := (s.f j + new) % 4294967296, done := true } := by unfold stp; rw [if_pos hi]; simp
    rw [e1, e2]
    clear e1 e2 hi
    go_enter Tryz.func27, Tryz.ntmps27
    go_wp2_with fail
    go_at_call 56; refine (access_add _ A cap c b n s who j H.out hj hn hl.clock new hnb).mono ?_; rintro e w1 ⟨rfl, hI, hB⟩
    obtain ⟨hT, hA2, hI2, hB2⟩ := stored6 4 who j (s.f j) ((s.f j + new) % 4294967296) true (by simp) hne (Nat.le_refl _) H0.out hI hB hb
    have HT : Hid _ := hT
    have HI : Hid _ := hI2
    have HB : Hid _ := hB2
    have a4 := hA2.cells.2.2.2.2.1
    have a5 := hA2.cells.2.2.2.2.2
    generalize hY : w1.setCells w.heap.size 0 (accL 4 who j (s.f j) ((s.f j + new) % 4294967296) true).toArray.toList = Y at HI HB a4 a5
    clear hA2 hT hI2 hB2 hI hB H H0 hb
    go_wp2_with (refine wpList_store_mid rfl 48 _ _ rfl w.heap.size 0 (accL 4 who j (s.f j) ((s.f j + new) % 4294967296) true).toArray rfl rfl HT.out (by kernel_rfl) (accL_one _ _ _ _ _ _) ?_; rw [hY]; clear HT hY)
    go_ret
    exact ⟨rfl, HI.out, HB.out⟩
  · have e1 : ans 4 i 0 new n s = 0 := by unfold ans; rw [if_neg hi]
    have e2 : stp 4 who i 0 new n s = { s with clock := s.clock + 1, bad := s.bad + 1, kind := 4, who := who, at' := i, old := 0, new := new, done := false } := by unfold stp; rw [if_neg hi]
    rw [e1, e2]
    clear e1 e2
    have HA : Hid _ := hi
    clear hi
    go_enter Tryz.func27, Tryz.ntmps27
    go_wp2_with fail
    go_at_call 56; refine (access_bad _ A cap c b n s 4 who i new _ H.out HA.out hn hl.clock hl.bad).mono ?_; rintro e w1 ⟨rfl, hI, hB⟩
    obtain ⟨hT, hA2, hI2, hB2⟩ := stored6 4 who i 0 new false (by simp) hne (Nat.le_refl _) H0.out hI hB hb
    have HT : Hid _ := hT
    have HI : Hid _ := hI2
    have HB : Hid _ := hB2
    have a4 := hA2.cells.2.2.2.2.1
    have a5 := hA2.cells.2.2.2.2.2
    generalize hY : w1.setCells w.heap.size 0 (accL 4 who i 0 new false).toArray.toList = Y at HI HB a4 a5
    clear hA2 hT hI2 hB2 hI hB H H0 hb
    go_wp2_with (refine wpList_store_mid rfl 48 _ _ rfl w.heap.size 0 (accL 4 who i 0 new false).toArray rfl rfl HT.out (by kernel_rfl) (accL_one _ _ _ _ _ _) ?_; rw [hY]; clear HT hY)
    go_ret
    exact ⟨rfl, HI.out, HB.out⟩
end Go.Proofs.YthjfbknmdligeaaGreat
