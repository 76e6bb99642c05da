/- The contract of code.instrs: the instructions of words. -/
import Derived.Test.YtlnjjcfkcoaceaaKCut
import Derived.OwnWalk
namespace Go.Proofs.Ytlnjjcfkcoaceaa
open Go Go.RowKit
set_option linter.unusedVariables false
set_option maxRecDepth 100000
set_option linter.unusedSimpArgs false

/-- The instructions of k words, of m programs, as cells. -/
def insC (f : Nat → Int) (m : Int) : Nat → List Value
  | 0 => []
  | k + 1 => insC f m k ++ [.int .i64 (kd (f k)), .int .i64 (ag (f k) m)]
theorem insC_len (f : Nat → Int) (m : Int) : ∀ k, (insC f m k).length = k * 2
  | 0 => rfl
  | k + 1 => by simp [insC, insC_len f m k]; omega
theorem insC_at (f : Nat → Int) (m : Int) : ∀ k j, j < k → (insC f m k)[j * 2]? = some (.int .i64 (kd (f j))) ∧ (insC f m k)[j * 2 + 1]? = some (.int .i64 (ag (f j) m))
  | 0, j, h => by omega
  | k + 1, j, h => by
    have hl := insC_len f m k
    by_cases e : j = k
    · subst e
      unfold insC
      constructor
      · rw [List.getElem?_append_right (by omega), hl]; simp
      · rw [List.getElem?_append_right (by omega), hl]; simp
    · obtain ⟨h1, h2⟩ := insC_at f m k j (by omega)
      unfold insC
      exact ⟨by rw [List.getElem?_append_left (by omega)]; exact h1, by rw [List.getElem?_append_left (by omega)]; exact h2⟩
theorem info90 : (Try.prog.info? 90).map (fun i => (i.zero, i.size, i.bytes)) = some (some (.agg #[.int .i64 0, .int .i64 0]), 2, 16) := by kernel_rfl
theorem cells_of2 (w : World) (x y : Value) (T : TypeId) : ∀ j u, ([x, y] : List Value)[j]? = some u → (w.alloc (.cells #[x, y] T)).cell? ((⟨w.heap.size, 0, none⟩ : Addr).add j) = some u := by
  intro j u hj
  have h := heap_alloc_new w (.cells #[x, y] T)
  rw [add_plain]
  match j, hj with
  | 0, hj =>
    have hc : (w.alloc (.cells #[x, y] T)).cell? ⟨w.heap.size, 0, none⟩ = some x := by simp only [World.cell?, h]; rfl
    rw [Nat.zero_add, hc]; exact hj
  | 1, hj =>
    have hc : (w.alloc (.cells #[x, y] T)).cell? ⟨w.heap.size, 1, none⟩ = some y := by simp only [World.cell?, h]; rfl
    rw [Nat.zero_add, hc]; exact hj
  | j + 2, hj => simp at hj
theorem Own.made {w w1 : World} {e : TypeId} {size : Nat} {v : Value} {n : Nat} {xs : List Value} (hown : w1.ownsRow w.heap.size e size v n xs) (hgrow : w.grownBy w1 none) : Own w w1 e size v n xs :=
  ⟨hown, (Below.refl _ w).grown hgrow (Nat.le_refl _) fun j ej => by cases ej⟩
theorem Own.below' {w wr w1 : World} {e : TypeId} {size : Nat} {v : Value} {n : Nat} {xs : List Value} (h : Own w wr e size v n xs) (hb : Below wr.heap.size wr w1) : Own w w1 e size v n xs := by
  refine ⟨?_, h.below.trans (hb.mono h.below.size)⟩
  obtain ⟨h1, h2⟩ := h.own
  refine ⟨h1, ?_⟩
  rcases h2 with h2 | ⟨g, cap, cur, e1, h3, h4, h5⟩
  · exact .inl h2
  · exact .inr ⟨g, cap, cur, e1, h3, (hb.block g (block_lt h4)).trans h4, h5⟩

set_option maxHeartbeats 1000000 in
theorem instrs_any (A : Option Addr) (n cap : Nat) (f : Nat → Int) (m : Int) (w : World) (hn : n ≤ 1000000) (hm : -9223372036854775808 ≤ m ∧ m ≤ 9223372036854775807) (hs : SeesU w w.heap.size A n f) (hf : ∀ i, i < n → 0 ≤ f i ∧ f i ≤ 18446744073709551615) (hp : ∀ i, i < n → pt (f i) = false) :
    Calls Try.prog 99 #[.slice A n cap, .int .i64 m] w fun e w' => ∃ v, e = .returned v ∧ Own w w' 90 2 v n (insC f m n) := by
  obtain ⟨i0, hi, hz0, hz1, hz2⟩ := info_parts info90
  have HS : Hid (SeesU w w.heap.size A n f) := hs
  have HF : Hid (∀ i, i < n → (0 ≤ f i ∧ f i ≤ 18446744073709551615) ∧ pt (f i) = false) := fun i h => ⟨hf i h, hp i h⟩
  clear hs hf hp
  go_enter Try.func99, Try.ntmps99
  go_wp2_with (refine wpList_make_own _ rfl _ _ 96 rfl w.heap.size 90 i0 _ 2 Try.underlying96 hi hz0 hz1 .i64 .i64 n n rfl rfl rfl (by rw [hz2]; omega) (by unfold maxLen; omega) (Nat.le_refl _) ?_; intro w1 hown1 hgrow1)
  have HO1 : Hid (Own w w1 90 2 (.slice (some ⟨w.heap.size, 0, none⟩) 0 n) 0 []) := Own.made hown1 hgrow1
  clear hown1 hgrow1
  go_loopw [5, 15] (fun x y wr => ∃ (k : Nat) (v : Value), k ≤ n ∧ x = v ∧ y = .int .i64 k ∧ Hid (Own w wr 90 2 v k (insC f m k))) (fun _ y _ => n - (intOf y).toNat)
  case atStart => exact ⟨0, _, Nat.zero_le _, rfl, rfl, HO1.out⟩
  case round =>
    obtain ⟨k, v, hk, rfl, rfl, HO⟩ := hrel
    by_cases hlt : k < n
    · obtain ⟨b, off, rfl, hb, hc⟩ := HS.out (by omega)
      have hc' : wr.cell? ⟨b, off + k, none⟩ = some (.int .u64 (f k)) := (HO.out.below.cell (p := ⟨b, off + k, none⟩) hb).trans (hc k hlt)
      have hI := instr_any (f k) m wr (HF.out k hlt).1 hm (HF.out k hlt).2
      clear hc
      go_wp2_with fail
      go_at_call 139; refine hI.mono ?_; clear hI hc'; rintro e w2 ⟨rfl, hb2⟩
      have HO2 : Hid (Own w (w2.alloc (.cells #[.int .i64 (kd (f k)), .int .i64 (ag (f k) m)] 90)) 90 2 _ k (insC f m k)) := (HO.out.below' hb2).below' ((Below.refl _ _).alloc (Nat.le_refl _) _)
      clear HO hb2
      go_wp2_with (at_builtin; refine wpList_append_own _ rfl _ _ 96 rfl w.heap.size 90 i0 _ 2 16 Try.underlying96 hi hz0 hz1 hz2 rfl (by decide) _ k (insC f m k) rfl (HO2.out.own.alloc _) ⟨w2.heap.size + 1, 0, none⟩ 1 1 [.int .i64 (kd (f k)), .int .i64 (ag (f k) m)] rfl rfl (by have h := cells_of2 (w2.alloc (.cells #[.int .i64 (kd (f k)), .int .i64 (ag (f k) m)] 90)) (.int .i64 (kd (f k))) (.int .i64 (ag (f k) m)) 90; simpa using h) (by simp [Value.oneCell']) (by unfold maxLen; omega) (by omega) (by have := HO2.out.below.size; simp at this ⊢; omega) ?_; intro v' w3 hown3 hgrow3 _)
      have hF := HO2.out.next hown3 hgrow3
      go_wp2_with fail
      go_roundw
      case rel => exact ⟨k + 1, v', by omega, rfl, by go_num, hF⟩
      case measure => simp [intOf]; omega
    · obtain rfl : k = n := by omega
      go_wp2_with fail
      go_ret
      exact ⟨_, rfl, HO.out⟩
end Go.Proofs.Ytlnjjcfkcoaceaa
