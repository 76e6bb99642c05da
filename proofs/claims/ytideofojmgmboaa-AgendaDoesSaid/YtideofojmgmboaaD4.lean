/- Is an answer the first item? What is left without a place. -/
import Derived.Test.YtideofojmgmboaaD2
import Derived.Test.YtideofojmgmboaaD3
import Derived.Test.YtideofojmgmboaaB9
namespace Go.Proofs.Ytideofojmgmboaa
open Go Go.RowKit
set_option linter.unusedVariables false
set_option linter.unusedSimpArgs false
set_option maxRecDepth 100000

theorem firstIs_no (w : World) (A : Option Addr) (cp : Nat) : Calls Try.prog 31 #[.agg #[.int .i64 0, .int .i64 0], .bool false, .slice A 0 cp] w fun e w' => e = .returned (.bool true) ∧ Below w.heap.size w w' := by
  have HB := Lib.hid ((Below.refl w.heap.size w).alloc (Nat.le_refl _) (.cells #[.int .i64 0, .int .i64 0] 23))
  have hN := heap_alloc_new w (.cells #[.int .i64 0, .int .i64 0] 23)
  have b0 : (w.alloc (.cells #[.int .i64 0, .int .i64 0] 23)).cell? ⟨w.heap.size, 0, none⟩ = some (.int .i64 0) := by simp [cell_of hN]
  have b1 : (w.alloc (.cells #[.int .i64 0, .int .i64 0] 23)).cell? ⟨w.heap.size, 1, none⟩ = some (.int .i64 0) := by simp [cell_of hN]
  have hq := eq23
  clear hN
  go_enter Try.func31, Try.ntmps31
  go_wp2_with fail
  go_ret
  exact ⟨rfl, HB.out⟩
theorem firstIs_yes (w : World) (b : Nat) (A : Option Addr) (cp : Nat) (S : List It) (n : Nat) (hn : S.length = n) (h0 : 0 < n) (h : Sees w b A S) (x0 x1 : Int) (hx : at_ S 0 = (x0, x1)) : Calls Try.prog 31 #[.agg #[.int .i64 x0, .int .i64 x1], .bool true, .slice A n cp] w fun e w' => e = .returned (.bool true) ∧ Below w.heap.size w w' := by
  have BA := (Below.refl w.heap.size w).alloc (Nat.le_refl _) (.cells #[.int .i64 x0, .int .i64 x1] 23)
  have HB := Lib.hid BA
  have hN := heap_alloc_new w (.cells #[.int .i64 x0, .int .i64 x1] 23)
  have b0 : (w.alloc (.cells #[.int .i64 x0, .int .i64 x1] 23)).cell? ⟨w.heap.size, 0, none⟩ = some (.int .i64 x0) := by simp [cell_of hN]
  have b1 : (w.alloc (.cells #[.int .i64 x0, .int .i64 x1] 23)).cell? ⟨w.heap.size, 1, none⟩ = some (.int .i64 x1) := by simp [cell_of hN]
  obtain ⟨off, rfl, hc⟩ := (h.below BA) (by omega)
  obtain ⟨l0, l1⟩ := hc 0 (by omega)
  rw [hx, Nat.zero_mul, Nat.add_zero] at l0 l1
  simp only at l0 l1
  have hn0 : ((n : Int) == 0) = false := by simp; omega
  have hn1 : ¬ (n : Int) = 0 := by omega
  clear h hc hx hN BA hn
  go_enter Try.func31, Try.ntmps31
  go_wp2_with fail
  go_quiet (fail)
  go_wp2_with fail
  go_ret
  exact ⟨rfl, HB.out.trans (by exact ⟨rfl, rfl, rfl, Nat.le_refl _, fun _ _ => rfl⟩)⟩

theorem ddropTo_all (S : List It) (at' : Int) (h : ∀ j : Nat, j < S.length → (j : Int) ≠ at') : ∀ k, k ≤ S.length → ddropTo S at' k = S.take k
  | 0, _ => by simp [ddropTo]
  | k + 1, hk => by rw [ddrop_in _ _ _ (h k (by omega)), ddropTo_all S at' h k (by omega), take_at (by omega)]
theorem ddrop_all {S : List It} {at' : Int} (h : ∀ j : Nat, j < S.length → (j : Int) ≠ at') : ddrop S at' = S := by
  have := ddropTo_all S at' h S.length (Nat.le_refl _)
  rw [List.take_length] at this
  exact this
theorem ddropTo_lo (S : List It) (i : Nat) (hi : i < S.length) : ∀ k, k ≤ i → ddropTo S (i : Int) k = S.take k
  | 0, _ => by simp [ddropTo]
  | k + 1, hk => by rw [ddrop_in _ _ _ (by omega), ddropTo_lo S i hi k (by omega), take_at (by omega)]
theorem ddropTo_hi (S : List It) (i : Nat) (hi : i < S.length) : ∀ t, i + 1 + t ≤ S.length → ddropTo S (i : Int) (i + 1 + t) = S.take i ++ (S.drop (i + 1)).take t
  | 0, _ => by rw [Nat.add_zero, ddrop_out _ _ _ rfl, ddropTo_lo S i hi i (Nat.le_refl _)]; simp
  | t + 1, ht => by
    have e : at_ (S.drop (i + 1)) t = at_ S (i + 1 + t) := by unfold at_; rw [List.getD_eq_getElem?_getD, List.getD_eq_getElem?_getD, List.getElem?_drop]
    rw [show i + 1 + (t + 1) = i + 1 + t + 1 by omega, ddrop_in _ _ _ (by omega), ddropTo_hi S i hi t (by omega), take_at (l := S.drop (i + 1)) (by rw [List.length_drop]; omega), e, List.append_assoc]
theorem ddrop_erase {S : List It} {i : Nat} (hi : i < S.length) : ddrop S (i : Int) = S.take i ++ S.drop (i + 1) := by
  have := ddropTo_hi S i hi (S.length - (i + 1)) (by omega)
  rw [show i + 1 + (S.length - (i + 1)) = S.length by omega, List.take_of_length_le (l := S.drop (i + 1)) (by rw [List.length_drop]; omega)] at this
  exact this
theorem ddrop_perm {S : List It} {i : Nat} (hi : i < S.length) : List.Perm S (at_ S i :: ddrop S (i : Int)) := by
  rw [ddrop_erase hi]
  have h1 : S = S.take i ++ S.drop i := (List.take_append_drop i S).symm
  rw [drop_at hi] at h1
  exact (List.Perm.of_eq h1).trans List.perm_middle
theorem ddrop_sub {S : List It} {i : Nat} (hi : i < S.length) : List.Sublist (ddrop S (i : Int)) S := by
  rw [ddrop_erase hi]
  have h1 : S = S.take i ++ S.drop i := (List.take_append_drop i S).symm
  conv => rhs; rw [h1]
  refine List.Sublist.append (List.Sublist.refl _) ?_
  rw [drop_at hi]
  exact List.sublist_cons_self _ _
theorem ddrop_zero (S : List It) : ddrop S (0 : Int) = S.drop 1 := by
  by_cases h : 0 < S.length
  · have := ddrop_erase h
    simpa using this
  · have : S = [] := List.eq_nil_of_length_eq_zero (by omega)
    subst this; rfl
/-- no two items have the same key -/
def Kn (L : List It) : Prop := ∀ i j, i < L.length → j < L.length → (at_ L i).2 = (at_ L j).2 → i = j
theorem Ag.kn {w : World} {a : Nat} {F : Nat → Prop} {L : List It} (h : Ag w a F L) : Kn L := by
  rcases h.2 with ⟨_, rfl⟩ | ⟨lb, mb, cap, clk, ⟨cur, M, h2⟩, _, _⟩
  · intro i j hi; simp at hi
  · exact fun i j hi hj e => h2.mok.inj hi hj e
theorem Kn.nodup {L : List It} : Kn L ↔ (L.map (·.2)).Nodup := by
  unfold Kn List.Nodup
  rw [List.pairwise_iff_getElem]
  have e : ∀ i (hi : i < L.length), at_ L i = L[i] := fun i hi => by unfold at_; rw [List.getD_eq_getElem?_getD, List.getElem?_eq_getElem hi]; rfl
  constructor
  · intro h i j hi hj hij
    rw [List.length_map] at hi hj
    rw [List.getElem_map, List.getElem_map]
    intro e2
    have := h i j hi hj (by rw [e i hi, e j hj]; exact e2)
    omega
  · intro h i j hi hj e2
    rw [e i hi, e j hj] at e2
    rcases Nat.lt_trichotomy i j with l | l | l
    · exact absurd (by rw [List.getElem_map, List.getElem_map]; exact e2) (h i j (by rw [List.length_map]; exact hi) (by rw [List.length_map]; exact hj) l)
    · exact l
    · exact absurd (by rw [List.getElem_map, List.getElem_map]; exact e2.symm) (h j i (by rw [List.length_map]; exact hj) (by rw [List.length_map]; exact hi) l)
theorem Kn.perm {L S : List It} (h : Kn L) (hp : List.Perm L S) : Kn S := Kn.nodup.2 ((hp.map _).nodup_iff.1 (Kn.nodup.1 h))
theorem Kn.eq {L S : List It} (h : Kn L) (hp : List.Perm L S) {i j : Nat} (hi : i < L.length) (hj : j < S.length) (e : (at_ L i).2 = (at_ S j).2) : at_ L i = at_ S j := by
  obtain ⟨t, ht, et⟩ := mem_at (hp.symm.subset (at_mem hj))
  rw [← et] at e
  rw [h i t hi ht e, et]
theorem Is.drop {L S : List It} {i j : Nat} (h : Is L S) (hk : Kn L) (hi : i < L.length) (hj : j < S.length) (e : (at_ L i).2 = (at_ S j).2) : Is (hrem L i) (ddrop S (j : Int)) := by
  obtain ⟨n, hn⟩ : ∃ n, L.length = n + 1 := ⟨L.length - 1, by omega⟩
  obtain ⟨h1, h2, h3⟩ := rem_hp hn hi h.hp
  have he := hk.eq h.perm hi hj e
  refine ⟨by rw [h1]; exact h2, ?_, h.srt.sublist (ddrop_sub hj)⟩
  have := h3.symm.trans (h.perm.trans (ddrop_perm hj))
  rw [he] at this
  exact this.cons_inv
theorem set_perm {L : List It} {i : Nat} (hi : i < L.length) (x : It) : List.Perm (L.set i x) (x :: ddrop L (i : Int)) := by
  have h := ddrop_perm (S := L.set i x) (i := i) (by rw [List.length_set]; exact hi)
  have e1 : at_ (L.set i x) i = x := by rw [at_set _ _ _ hi, if_pos rfl]
  have e2 : ddrop (L.set i x) (i : Int) = ddrop L (i : Int) := by
    rw [ddrop_erase (by rw [List.length_set]; exact hi), ddrop_erase hi, List.take_set_of_le (Nat.le_refl _), List.drop_set_of_lt (Nat.lt_succ_self i)]
  rwa [e1, e2] at h
theorem Is.move {L S : List It} {i j : Nat} (h : Is L S) (hk : Kn L) (hi : i < L.length) (hj : j < S.length) (e : (at_ L i).2 = (at_ S j).2) (d : Int) : Is (hfixAt (L.set i (d, (at_ L i).2)) i L.length) (dput (ddrop S (j : Int)) (d, (at_ L i).2)) := by
  obtain ⟨h1, h2⟩ := move_hp hi h.hp (d, (at_ L i).2)
  have he := hk.eq h.perm hi hj e
  have hp : List.Perm (ddrop L (i : Int)) (ddrop S (j : Int)) := by
    have := (ddrop_perm hi).symm.trans (h.perm.trans (ddrop_perm hj))
    rw [he] at this
    exact this.cons_inv
  refine ⟨?_, h2.trans ((set_perm hi _).trans ((hp.cons _).trans (dput_perm _ _).symm)), dput_srt _ _ (h.srt.sublist (ddrop_sub hj)) fun y hy => ?_⟩
  · have : (hfixAt (L.set i (d, (at_ L i).2)) i L.length).length = L.length := by rw [h2.length_eq, List.length_set]
    rw [this]; exact h1
  · -- a key of the rest is another one
    show y.2 ≠ (at_ L i).2
    rw [ddrop_erase hj] at hy
    rcases List.mem_append.1 hy with hy | hy
    · obtain ⟨t, ht, et⟩ := mem_at hy
      have htl : t < j := by rw [List.length_take] at ht; omega
      rw [at_take (by omega) (by omega)] at et
      intro e2
      have := Kn.perm hk h.perm t j (by omega) hj (by rw [et, e2, e])
      omega
    · obtain ⟨t, ht, et⟩ := mem_at hy
      rw [List.length_drop] at ht
      have e3 : at_ (S.drop (j + 1)) t = at_ S (j + 1 + t) := by unfold at_; rw [List.getD_eq_getElem?_getD, List.getD_eq_getElem?_getD, List.getElem?_drop]
      rw [e3] at et
      intro e2
      have := Kn.perm hk h.perm (j + 1 + t) j (by omega) hj (by rw [et, e2, e])
      omega
end Go.Proofs.Ytideofojmgmboaa
