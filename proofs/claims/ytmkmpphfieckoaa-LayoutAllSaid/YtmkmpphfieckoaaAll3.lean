/- All words' names, one behind the other: the contract of the document's Names. -/
import Derived.Test.YtmkmpphfieckoaaAll1
import Derived.Test.YtmkmpphfieckoaaIns
namespace Go.Proofs.Ytmkmpphfieckoaa
open Go Go.RowKit
set_option linter.unusedVariables false
set_option linter.unusedSimpArgs false

/-- The names of the first k words, as cells. -/
def nmC (P T : Int) : Nat → List Value
  | 0 => []
  | k + 1 => nmC P T k ++ [.int .i64 (nA P T k), .int .i64 (nN P T k), .int .i64 (nF P T k)]
theorem nmC_len (P T : Int) : ∀ k, (nmC P T k).length = k * 3
  | 0 => rfl
  | k + 1 => by simp [nmC, nmC_len P T k]; omega
theorem nmC_at (P T : Int) : ∀ k j, j < k → (nmC P T k)[j * 3]? = some (.int .i64 (nA P T j)) ∧ (nmC P T k)[j * 3 + 1]? = some (.int .i64 (nN P T j)) ∧ (nmC P T k)[j * 3 + 2]? = some (.int .i64 (nF P T j))
  | 0, j, h => by omega
  | k + 1, j, h => by
    have hl := nmC_len P T k
    by_cases e : j = k
    · subst e
      unfold nmC
      refine ⟨?_, ?_, ?_⟩ <;> (rw [List.getElem?_append_right (by omega), hl]; simp)
    · obtain ⟨h1, h2, h3⟩ := nmC_at P T k j (by omega)
      unfold nmC
      exact ⟨by rw [List.getElem?_append_left (by omega)]; exact h1, by rw [List.getElem?_append_left (by omega)]; exact h2, by rw [List.getElem?_append_left (by omega)]; exact h3⟩
theorem info39 : (Try.prog.info? 39).map (fun i => (i.zero, i.size, i.bytes)) = some (some (.agg #[.int .i64 0, .int .i64 0, .int .i64 0]), 3, 24) := by kernel_rfl
theorem cells_of3 (w : World) (x y z : Value) (T : TypeId) : ∀ j u, ([x, y, z] : List Value)[j]? = some u → (w.alloc (.cells #[x, y, z] T)).cell? ((⟨w.heap.size, 0, none⟩ : Addr).add j) = some u := by
  intro j u hj
  have h := heap_alloc_new w (.cells #[x, y, z] T)
  rw [add_plain]
  match j, hj with
  | 0, hj =>
    have hc : (w.alloc (.cells #[x, y, z] T)).cell? ⟨w.heap.size, 0, none⟩ = some x := by simp only [World.cell?, h]; rfl
    rw [Nat.zero_add, hc]; exact hj
  | 1, hj =>
    have hc : (w.alloc (.cells #[x, y, z] T)).cell? ⟨w.heap.size, 1, none⟩ = some y := by simp only [World.cell?, h]; rfl
    rw [Nat.zero_add, hc]; exact hj
  | 2, hj =>
    have hc : (w.alloc (.cells #[x, y, z] T)).cell? ⟨w.heap.size, 2, none⟩ = some z := by simp only [World.cell?, h]; rfl
    rw [Nat.zero_add, hc]; exact hj
  | j + 3, hj => simp at hj
theorem Own.lift {w w1 w' : World} {e : TypeId} {size : Nat} {v : Value} {n : Nat} {xs : List Value} (h : Own w1 w' e size v n xs) (hb : Below w.heap.size w w1) : Own w w' e size v n xs := by
  refine ⟨?_, hb.trans (h.below.mono hb.size)⟩
  obtain ⟨h1, h2⟩ := h.own
  refine ⟨h1, ?_⟩
  rcases h2 with h2 | ⟨g, cap, cur, e1, h3, h4⟩
  · exact .inl h2
  · exact .inr ⟨g, cap, cur, e1, Nat.le_trans hb.size h3, h4⟩
theorem name_proc (p t a j : Nat) (ha : a < p) (hj : j < 8) : nA (p : Nat) (t : Nat) ((20 + a * 264 + j : Nat) : Int) = 3 ∧ nN (p : Nat) (t : Nat) ((20 + a * 264 + j : Nat) : Int) = (a : Nat) ∧ nF (p : Nat) (t : Nat) ((20 + a * 264 + j : Nat) : Int) = (j : Nat) := by
  obtain ⟨h1, h2, h3⟩ := kind_proc (P := (p : Nat)) (T := (t : Nat)) (i := ((20 + a * 264 + j : Nat) : Int)) (by omega) (by omega)
  exact ⟨h1, by rw [h2]; omega, by rw [h3]; omega⟩
theorem name_ring (p t a q : Nat) (ha : a < p) (hj : q < 256) : nA (p : Nat) (t : Nat) ((20 + a * 264 + 8 + q : Nat) : Int) = 4 ∧ nN (p : Nat) (t : Nat) ((20 + a * 264 + 8 + q : Nat) : Int) = (a : Nat) ∧ nF (p : Nat) (t : Nat) ((20 + a * 264 + 8 + q : Nat) : Int) = (q : Nat) := by
  obtain ⟨h1, h2, h3⟩ := kind_ring (P := (p : Nat)) (T := (t : Nat)) (i := ((20 + a * 264 + 8 + q : Nat) : Int)) (by omega) (by omega)
  exact ⟨h1, by rw [h2]; omega, by rw [h3]; omega⟩
theorem name_thread (p t b j : Nat) (hb : b < t) (hj : j < 3) : nA (p : Nat) (t : Nat) ((20 + p * 264 + b * 3 + j : Nat) : Int) = 5 ∧ nN (p : Nat) (t : Nat) ((20 + p * 264 + b * 3 + j : Nat) : Int) = (b : Nat) ∧ nF (p : Nat) (t : Nat) ((20 + p * 264 + b * 3 + j : Nat) : Int) = (j : Nat) := by
  obtain ⟨h1, h2, h3⟩ := kind_thread (P := (p : Nat)) (T := (t : Nat)) (i := ((20 + p * 264 + b * 3 + j : Nat) : Int)) (by omega) (by omega)
  exact ⟨h1, by rw [h2]; omega, by rw [h3]; omega⟩
theorem name_g (p t c j : Nat) (hj : j < 2) : nA (p : Nat) (t : Nat) ((20 + p * 264 + t * 3 + c * 2 + j : Nat) : Int) = 6 ∧ nN (p : Nat) (t : Nat) ((20 + p * 264 + t * 3 + c * 2 + j : Nat) : Int) = (c : Nat) ∧ nF (p : Nat) (t : Nat) ((20 + p * 264 + t * 3 + c * 2 + j : Nat) : Int) = (j : Nat) := by
  obtain ⟨h1, h2, h3⟩ := kind_g (P := (p : Nat)) (T := (t : Nat)) (i := ((20 + p * 264 + t * 3 + c * 2 + j : Nat) : Int)) (by omega) (by omega) (by omega)
  exact ⟨h1, by rw [h2]; omega, by rw [h3]; omega⟩

set_option maxHeartbeats 8000000 in
set_option maxRecDepth 100000 in
theorem names_any (p t g : Nat) (w : World) (hp : p ≤ 64) (ht : t ≤ 256) (hg : g ≤ 65536) : Calls Try.prog 18 #[.agg #[.int .i64 p, .int .i64 t, .int .i64 g]] w fun e w' => ∃ v, e = .returned v ∧ Own w w' 39 3 v (20 + p * 264 + t * 3 + g * 2) (nmC (p : Nat) (t : Nat) (20 + p * 264 + t * 3 + g * 2)) := by
  obtain ⟨i0, hi, hz0, hz1, hz2⟩ := info_parts info39
  have hbW : Below w.heap.size w (w.alloc (.cells #[.int .i64 p, .int .i64 t, .int .i64 g] 23)) := (Below.refl _ _).alloc (Nat.le_refl _) _
  have hh := heap_alloc_new w (.cells #[.int .i64 p, .int .i64 t, .int .i64 g] 23)
  have HC : Hid (∀ X, Below (w.alloc (.cells #[.int .i64 p, .int .i64 t, .int .i64 g] 23)).heap.size (w.alloc (.cells #[.int .i64 p, .int .i64 t, .int .i64 g] 23)) X → X.cell? ⟨w.heap.size, 0, none⟩ = some (.int .i64 p) ∧ X.cell? ⟨w.heap.size, 1, none⟩ = some (.int .i64 t) ∧ X.cell? ⟨w.heap.size, 2, none⟩ = some (.int .i64 g)) := fun X hX => by
    have hh' := (hX.block w.heap.size (by simp)).trans hh
    refine ⟨?_, ?_, ?_⟩ <;> simp [World.cell?, hh']
  clear hh
  go_enter Try.func18, Try.ntmps18
  go_wp2_with fail
  generalize hW : w.alloc (.cells #[.int .i64 p, .int .i64 t, .int .i64 g] 23) = W1 at hbW HC ⊢
  clear hW
  go_loopw [3, 4] (fun x y wr => ∃ (k : Nat) (v : Value), k ≤ 6 ∧ x = v ∧ y = .int .i64 ((k : Nat) : Int) ∧ Hid (Own W1 wr 39 3 v (k) (nmC (p : Nat) (t : Nat) (k)))) (fun _ y _ => 6 - (intOf y).toNat)
  case atStart => exact ⟨0, _, Nat.zero_le _, rfl, rfl, Own.nil _ _ _⟩
  case round =>
    obtain ⟨k, v, hk, rfl, rfl, HO⟩ := hrel
    by_cases hlt : k < 6
    · skip
      have hq3 : (k : Int).tdiv 3 = (k : Int) / 3 := Int.tdiv_eq_ediv_of_nonneg (by omega)
      have hm3 : (k : Int).tmod 3 = (k : Int) % 3 := Int.tmod_eq_emod_of_nonneg (by omega)
      obtain ⟨ka, kn, kf⟩ := kind_lock (P := (p : Nat)) (T := (t : Nat)) (i := (k : Nat)) (by omega)
      have e2 : nmC (p : Nat) (t : Nat) (k + 1) = nmC (p : Nat) (t : Nat) (k) ++ [.int .i64 (1), .int .i64 (((k : Nat) : Int) / 3), .int .i64 (((k : Nat) : Int) % 3)] := by rw [nmC, ka, kn, kf]
      clear ka kn kf
      go_wp2_with (at_builtin; refine wpList_append_own _ rfl _ _ 33 rfl W1.heap.size 39 i0 _ 3 24 Try.underlying33 hi hz0 hz1 hz2 rfl (by decide) _ (k) (nmC (p : Nat) (t : Nat) (k)) rfl (HO.out.own.alloc _) ⟨wr.heap.size, 0, none⟩ 1 1 [.int .i64 (1), .int .i64 (((k : Nat) : Int) / 3), .int .i64 (((k : Nat) : Int) % 3)] rfl rfl (cells_of3 _ _ _ _ _) (by simp [Value.oneCell']) (by unfold maxLen; omega) (by omega) (by have := HO.out.below.size; simp at this ⊢; omega) ?_; intro v' w3 hown3 hgrow3 _)
      have hF := HO.out.next hown3 hgrow3
      rw [← e2] at hF
      clear hown3 hgrow3 e2
      go_wp2_with fail
      go_roundw
      case rel => exact ⟨k + 1, v', by omega, rfl, by go_num, hF⟩
      case measure => simp [intOf]; omega
    · have eL : ((k : Nat) : Int) = 6 := by omega
      rw [eL]
      clear eL
      obtain rfl : 6 = k := by omega
      clear hlt
      go_wp2_with fail
      go_loopw [3, 5] (fun x y wr => ∃ (m : Nat) (v : Value), m ≤ 14 ∧ x = v ∧ y = .int .i64 ((6 + m : Nat) : Int) ∧ Hid (Own W1 wr 39 3 v (6 + m) (nmC (p : Nat) (t : Nat) (6 + m)))) (fun _ y _ => 20 - (intOf y).toNat)
      case atStart => exact ⟨0, _, Nat.zero_le _, rfl, rfl, HO.out⟩
      case round =>
        obtain ⟨m, v, hm, rfl, rfl, HO⟩ := hrel
        by_cases hlt : m < 14
        · skip
          obtain ⟨ka, kn, kf⟩ := kind_word (P := (p : Nat)) (T := (t : Nat)) (i := ((6 + m : Nat) : Int)) (by omega)
          have e2 : nmC (p : Nat) (t : Nat) (6 + m + 1) = nmC (p : Nat) (t : Nat) (6 + m) ++ [.int .i64 (2), .int .i64 (0), .int .i64 (((6 + m : Nat) : Int))] := by rw [nmC, ka, kn, kf]
          clear ka kn kf
          go_wp2_with (at_builtin; refine wpList_append_own _ rfl _ _ 33 rfl W1.heap.size 39 i0 _ 3 24 Try.underlying33 hi hz0 hz1 hz2 rfl (by decide) _ (6 + m) (nmC (p : Nat) (t : Nat) (6 + m)) rfl (HO.out.own.alloc _) ⟨wr.heap.size, 0, none⟩ 1 1 [.int .i64 (2), .int .i64 (0), .int .i64 (((6 + m : Nat) : Int))] rfl rfl (cells_of3 _ _ _ _ _) (by simp [Value.oneCell']) (by unfold maxLen; omega) (by omega) (by have := HO.out.below.size; simp at this ⊢; omega) ?_; intro v' w3 hown3 hgrow3 _)
          have hF := HO.out.next hown3 hgrow3
          rw [← e2] at hF
          clear hown3 hgrow3 e2
          go_wp2_with fail
          go_roundw
          case rel => exact ⟨m + 1, v', by omega, rfl, by go_num, hF⟩
          case measure => simp [intOf]; omega
        · have eL : ((6 + m : Nat) : Int) = 20 := by omega
          rw [eL]
          clear eL
          obtain rfl : 14 = m := by omega
          clear hlt
          go_wp2_with fail
          go_loopw [3, 6] (fun x y wr => ∃ (a : Nat) (v : Value), a ≤ p ∧ x = v ∧ y = .int .i64 a ∧ Hid (Own W1 wr 39 3 v (20 + a * 264) (nmC (p : Nat) (t : Nat) (20 + a * 264)))) (fun _ y _ => p - (intOf y).toNat)
          case atStart => exact ⟨0, _, Nat.zero_le _, rfl, rfl, HO.out⟩
          case round =>
            obtain ⟨a, v, ha, rfl, rfl, HO⟩ := hrel
            have c0 := (HC.out wr HO.out.below).1
            by_cases hlt6 : a < p
            · go_wp2_with fail
              clear c0
              go_loopw [3, 7] (fun x y wr => ∃ (j : Nat) (v : Value), j ≤ 8 ∧ x = v ∧ y = .int .i64 ((j : Nat) : Int) ∧ Hid (Own W1 wr 39 3 v (20 + a * 264 + j) (nmC (p : Nat) (t : Nat) (20 + a * 264 + j)))) (fun _ y _ => 8 - (intOf y).toNat)
              case atStart => exact ⟨0, _, Nat.zero_le _, rfl, rfl, HO.out⟩
              case round =>
                obtain ⟨j, v, hj, rfl, rfl, HO⟩ := hrel
                by_cases hlt : j < 8
                · skip
                  obtain ⟨ka, kn, kf⟩ := name_proc p t a j hlt6 hlt
                  have e2 : nmC (p : Nat) (t : Nat) (20 + a * 264 + j + 1) = nmC (p : Nat) (t : Nat) (20 + a * 264 + j) ++ [.int .i64 (3), .int .i64 ((a : Nat)), .int .i64 ((j : Nat))] := by rw [nmC, ka, kn, kf]
                  clear ka kn kf
                  go_wp2_with (at_builtin; refine wpList_append_own _ rfl _ _ 33 rfl W1.heap.size 39 i0 _ 3 24 Try.underlying33 hi hz0 hz1 hz2 rfl (by decide) _ (20 + a * 264 + j) (nmC (p : Nat) (t : Nat) (20 + a * 264 + j)) rfl (HO.out.own.alloc _) ⟨wr.heap.size, 0, none⟩ 1 1 [.int .i64 (3), .int .i64 ((a : Nat)), .int .i64 ((j : Nat))] rfl rfl (cells_of3 _ _ _ _ _) (by simp [Value.oneCell']) (by unfold maxLen; omega) (by omega) (by have := HO.out.below.size; simp at this ⊢; omega) ?_; intro v' w3 hown3 hgrow3 _)
                  have hF := HO.out.next hown3 hgrow3
                  rw [← e2] at hF
                  clear hown3 hgrow3 e2
                  go_wp2_with fail
                  go_roundw
                  case rel => exact ⟨j + 1, v', by omega, rfl, by go_num, hF⟩
                  case measure => simp [intOf]; omega
                · have eL : ((j : Nat) : Int) = 8 := by omega
                  rw [eL]
                  clear eL
                  obtain rfl : 8 = j := by omega
                  clear hlt
                  go_wp2_with fail
                  go_loopw [3, 8] (fun x y wr => ∃ (q : Nat) (v : Value), q ≤ 256 ∧ x = v ∧ y = .int .i64 ((q : Nat) : Int) ∧ Hid (Own W1 wr 39 3 v (20 + a * 264 + 8 + q) (nmC (p : Nat) (t : Nat) (20 + a * 264 + 8 + q)))) (fun _ y _ => 256 - (intOf y).toNat)
                  case atStart => exact ⟨0, _, Nat.zero_le _, rfl, rfl, HO.out⟩
                  case round =>
                    obtain ⟨q, v, hq, rfl, rfl, HO⟩ := hrel
                    by_cases hlt : q < 256
                    · skip
                      obtain ⟨ka, kn, kf⟩ := name_ring p t a q hlt6 hlt
                      have e2 : nmC (p : Nat) (t : Nat) (20 + a * 264 + 8 + q + 1) = nmC (p : Nat) (t : Nat) (20 + a * 264 + 8 + q) ++ [.int .i64 (4), .int .i64 ((a : Nat)), .int .i64 ((q : Nat))] := by rw [nmC, ka, kn, kf]
                      clear ka kn kf
                      go_wp2_with (at_builtin; refine wpList_append_own _ rfl _ _ 33 rfl W1.heap.size 39 i0 _ 3 24 Try.underlying33 hi hz0 hz1 hz2 rfl (by decide) _ (20 + a * 264 + 8 + q) (nmC (p : Nat) (t : Nat) (20 + a * 264 + 8 + q)) rfl (HO.out.own.alloc _) ⟨wr.heap.size, 0, none⟩ 1 1 [.int .i64 (4), .int .i64 ((a : Nat)), .int .i64 ((q : Nat))] rfl rfl (cells_of3 _ _ _ _ _) (by simp [Value.oneCell']) (by unfold maxLen; omega) (by omega) (by have := HO.out.below.size; simp at this ⊢; omega) ?_; intro v' w3 hown3 hgrow3 _)
                      have hF := HO.out.next hown3 hgrow3
                      rw [← e2] at hF
                      clear hown3 hgrow3 e2
                      go_wp2_with fail
                      go_roundw
                      case rel => exact ⟨q + 1, v', by omega, rfl, by go_num, hF⟩
                      case measure => simp [intOf]; omega
                    · have eL : ((q : Nat) : Int) = 256 := by omega
                      rw [eL]
                      clear eL
                      obtain rfl : 256 = q := by omega
                      clear hlt
                      go_wp2_with fail
                      go_roundw
                      case rel => exact ⟨a + 1, _, by omega, rfl, by go_num, (show Own W1 wr 39 3 _ _ _ by have h := HO.out; rwa [show 20 + a * 264 + 8 + 256 = 20 + (a + 1) * 264 by omega] at h)⟩
                      case measure => simp [intOf]; omega
            · obtain rfl : p = a := by omega
              go_wp2_with fail
              clear c0 hlt6
              go_loopw [3, 9] (fun x y wr => ∃ (b : Nat) (v : Value), b ≤ t ∧ x = v ∧ y = .int .i64 b ∧ Hid (Own W1 wr 39 3 v (20 + p * 264 + b * 3) (nmC (p : Nat) (t : Nat) (20 + p * 264 + b * 3)))) (fun _ y _ => t - (intOf y).toNat)
              case atStart => exact ⟨0, _, Nat.zero_le _, rfl, rfl, HO.out⟩
              case round =>
                obtain ⟨b, v, hb, rfl, rfl, HO⟩ := hrel
                have c0 := (HC.out wr HO.out.below).2.1
                by_cases hlt9 : b < t
                · go_wp2_with fail
                  clear c0
                  go_loopw [3, 10] (fun x y wr => ∃ (j : Nat) (v : Value), j ≤ 3 ∧ x = v ∧ y = .int .i64 ((j : Nat) : Int) ∧ Hid (Own W1 wr 39 3 v (20 + p * 264 + b * 3 + j) (nmC (p : Nat) (t : Nat) (20 + p * 264 + b * 3 + j)))) (fun _ y _ => 3 - (intOf y).toNat)
                  case atStart => exact ⟨0, _, Nat.zero_le _, rfl, rfl, HO.out⟩
                  case round =>
                    obtain ⟨j, v, hj, rfl, rfl, HO⟩ := hrel
                    by_cases hlt : j < 3
                    · skip
                      obtain ⟨ka, kn, kf⟩ := name_thread p t b j hlt9 hlt
                      have e2 : nmC (p : Nat) (t : Nat) (20 + p * 264 + b * 3 + j + 1) = nmC (p : Nat) (t : Nat) (20 + p * 264 + b * 3 + j) ++ [.int .i64 (5), .int .i64 ((b : Nat)), .int .i64 ((j : Nat))] := by rw [nmC, ka, kn, kf]
                      clear ka kn kf
                      go_wp2_with (at_builtin; refine wpList_append_own _ rfl _ _ 33 rfl W1.heap.size 39 i0 _ 3 24 Try.underlying33 hi hz0 hz1 hz2 rfl (by decide) _ (20 + p * 264 + b * 3 + j) (nmC (p : Nat) (t : Nat) (20 + p * 264 + b * 3 + j)) rfl (HO.out.own.alloc _) ⟨wr.heap.size, 0, none⟩ 1 1 [.int .i64 (5), .int .i64 ((b : Nat)), .int .i64 ((j : Nat))] rfl rfl (cells_of3 _ _ _ _ _) (by simp [Value.oneCell']) (by unfold maxLen; omega) (by omega) (by have := HO.out.below.size; simp at this ⊢; omega) ?_; intro v' w3 hown3 hgrow3 _)
                      have hF := HO.out.next hown3 hgrow3
                      rw [← e2] at hF
                      clear hown3 hgrow3 e2
                      go_wp2_with fail
                      go_roundw
                      case rel => exact ⟨j + 1, v', by omega, rfl, by go_num, hF⟩
                      case measure => simp [intOf]; omega
                    · have eL : ((j : Nat) : Int) = 3 := by omega
                      rw [eL]
                      clear eL
                      obtain rfl : 3 = j := by omega
                      clear hlt
                      go_wp2_with fail
                      go_roundw
                      case rel => exact ⟨b + 1, _, by omega, rfl, by go_num, (show Own W1 wr 39 3 _ _ _ by have h := HO.out; rwa [show 20 + p * 264 + b * 3 + 3 = 20 + p * 264 + (b + 1) * 3 by omega] at h)⟩
                      case measure => simp [intOf]; omega
                · obtain rfl : t = b := by omega
                  go_wp2_with fail
                  clear c0 hlt9
                  go_loopw [3, 11] (fun x y wr => ∃ (c : Nat) (v : Value), c ≤ g ∧ x = v ∧ y = .int .i64 c ∧ Hid (Own W1 wr 39 3 v (20 + p * 264 + t * 3 + c * 2) (nmC (p : Nat) (t : Nat) (20 + p * 264 + t * 3 + c * 2)))) (fun _ y _ => g - (intOf y).toNat)
                  case atStart => exact ⟨0, _, Nat.zero_le _, rfl, rfl, HO.out⟩
                  case round =>
                    obtain ⟨c, v, hc, rfl, rfl, HO⟩ := hrel
                    have c0 := (HC.out wr HO.out.below).2.2
                    by_cases hlt11 : c < g
                    · go_wp2_with fail
                      clear c0
                      go_loopw [3, 12] (fun x y wr => ∃ (j : Nat) (v : Value), j ≤ 2 ∧ x = v ∧ y = .int .i64 ((j : Nat) : Int) ∧ Hid (Own W1 wr 39 3 v (20 + p * 264 + t * 3 + c * 2 + j) (nmC (p : Nat) (t : Nat) (20 + p * 264 + t * 3 + c * 2 + j)))) (fun _ y _ => 2 - (intOf y).toNat)
                      case atStart => exact ⟨0, _, Nat.zero_le _, rfl, rfl, HO.out⟩
                      case round =>
                        obtain ⟨j, v, hj, rfl, rfl, HO⟩ := hrel
                        by_cases hlt : j < 2
                        · skip
                          obtain ⟨ka, kn, kf⟩ := name_g p t c j hlt
                          have e2 : nmC (p : Nat) (t : Nat) (20 + p * 264 + t * 3 + c * 2 + j + 1) = nmC (p : Nat) (t : Nat) (20 + p * 264 + t * 3 + c * 2 + j) ++ [.int .i64 (6), .int .i64 ((c : Nat)), .int .i64 ((j : Nat))] := by rw [nmC, ka, kn, kf]
                          clear ka kn kf
                          go_wp2_with (at_builtin; refine wpList_append_own _ rfl _ _ 33 rfl W1.heap.size 39 i0 _ 3 24 Try.underlying33 hi hz0 hz1 hz2 rfl (by decide) _ (20 + p * 264 + t * 3 + c * 2 + j) (nmC (p : Nat) (t : Nat) (20 + p * 264 + t * 3 + c * 2 + j)) rfl (HO.out.own.alloc _) ⟨wr.heap.size, 0, none⟩ 1 1 [.int .i64 (6), .int .i64 ((c : Nat)), .int .i64 ((j : Nat))] rfl rfl (cells_of3 _ _ _ _ _) (by simp [Value.oneCell']) (by unfold maxLen; omega) (by omega) (by have := HO.out.below.size; simp at this ⊢; omega) ?_; intro v' w3 hown3 hgrow3 _)
                          have hF := HO.out.next hown3 hgrow3
                          rw [← e2] at hF
                          clear hown3 hgrow3 e2
                          go_wp2_with fail
                          go_roundw
                          case rel => exact ⟨j + 1, v', by omega, rfl, by go_num, hF⟩
                          case measure => simp [intOf]; omega
                        · have eL : ((j : Nat) : Int) = 2 := by omega
                          rw [eL]
                          clear eL
                          obtain rfl : 2 = j := by omega
                          clear hlt
                          go_wp2_with fail
                          go_roundw
                          case rel => exact ⟨c + 1, _, by omega, rfl, by go_num, (show Own W1 wr 39 3 _ _ _ by have h := HO.out; rwa [show 20 + p * 264 + t * 3 + c * 2 + 2 = 20 + p * 264 + t * 3 + (c + 1) * 2 by omega] at h)⟩
                          case measure => simp [intOf]; omega
                    · obtain rfl : g = c := by omega
                      go_wp2_with fail
                      clear c0 hlt11
                      go_ret
                      exact ⟨_, rfl, HO.out.lift hbW⟩
end Go.Proofs.Ytmkmpphfieckoaa
