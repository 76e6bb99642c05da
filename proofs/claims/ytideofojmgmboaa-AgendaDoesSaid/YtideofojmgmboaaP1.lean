/- The heap: what is put, taken, moved keeps it; what comes first. -/
import Derived.Test.YtideofojmgmboaaB5
namespace Go.Proofs.Ytideofojmgmboaa
open Go Go.RowKit
set_option linter.unusedVariables false
set_option linter.unusedSimpArgs false
theorem lt_iff (x y : It) : ltI x y = true ↔ x.1 < y.1 ∨ (x.1 = y.1 ∧ x.2 < y.2) := by
  unfold ltI ordI cmpI
  simp only [decide_eq_true_eq]
  split <;> split <;> (try split) <;> omega
theorem nlt_iff (x y : It) : ltI x y = false ↔ ¬ (x.1 < y.1 ∨ (x.1 = y.1 ∧ x.2 < y.2)) := by
  rw [← lt_iff]; simp
theorem lt_asym {x y : It} (h : ltI x y = true) : ltI y x = false := by
  rw [lt_iff] at h; rw [nlt_iff]; omega
theorem le_trans' {x y z : It} (h : ltI y x = false) (k : ltI z y = false) : ltI z x = false := by
  rw [nlt_iff] at *; omega
theorem le_of {x y z : It} (h : ltI x y = true) (k : ltI z y = false) : ltI z x = false := le_trans' (lt_asym h) k
theorem lt_trans' {x y z : It} (h : ltI x y = true) (k : ltI y z = true) : ltI x z = true := by
  rw [lt_iff] at *; omega
theorem lt_irr (x : It) : ltI x x = false := by rw [nlt_iff]; omega
theorem eq_of {x y : It} (h : ltI x y = false) (k : ltI y x = false) : x = y := by
  rw [nlt_iff] at *
  exact Prod.ext (by omega) (by omega)

theorem swp_perm {L : List It} {i j : Nat} (hi : i < L.length) (hj : j < L.length) : List.Perm (swp L i j) L := by
  unfold swp at_
  rw [List.getD_eq_getElem?_getD, List.getD_eq_getElem?_getD, List.getElem?_eq_getElem hi, List.getElem?_eq_getElem hj]
  exact List.set_set_perm hi hj
/-- a heap, of the first n -/
def Hp (L : List It) (n : Nat) : Prop := ∀ k, 0 < k → k < n → ltI (at_ L k) (at_ L ((k - 1) / 2)) = false
/-- a heap, but that j may come ahead of what lies above it -/
def UpI (L : List It) (n j : Nat) : Prop :=
  (∀ k, 0 < k → k < n → k ≠ j → ltI (at_ L k) (at_ L ((k - 1) / 2)) = false) ∧ (∀ k, 0 < k → k < n → (k - 1) / 2 = j → 0 < j → ltI (at_ L k) (at_ L ((j - 1) / 2)) = false)
theorem up_ok (n : Nat) : ∀ (j : Nat) (L : List It), n ≤ L.length → j < n → UpI L n j → Hp (up L j) n ∧ List.Perm (up L j) L ∧ ∀ k, n ≤ k → at_ (up L j) k = at_ L k := by
  intro j
  induction j using Nat.strongRecOn with
  | _ j ih =>
    intro L hn hj hI
    rw [up_eq]
    by_cases hj0 : j = 0
    · rw [if_pos hj0]
      exact ⟨fun k h1 h2 => hI.1 k h1 h2 (by omega), List.Perm.refl _, fun _ _ => rfl⟩
    · rw [if_neg hj0]
      obtain ⟨p, hp⟩ : ∃ p, p = (j - 1) / 2 := ⟨_, rfl⟩
      rw [← hp]
      by_cases hlt : ltI (at_ L j) (at_ L p) = true
      · rw [if_pos hlt]
        have hpl : p < L.length := by omega
        have hjl : j < L.length := by omega
        have hs := at_swp hpl hjl
        have hI' : UpI (swp L p j) n p := by
          refine ⟨fun k h1 h2 h3 => ?_, fun k h1 h2 h3 h4 => ?_⟩
          · rw [hs, hs]
            by_cases e1 : k = j
            · subst e1
              rw [if_pos rfl, ← hp, if_neg (by omega), if_pos rfl]
              exact lt_asym hlt
            · rw [if_neg e1, if_neg h3]
              by_cases e2 : (k - 1) / 2 = j
              · rw [if_pos e2]
                have := hI.2 k h1 h2 e2 (by omega)
                rwa [← hp] at this
              · rw [if_neg e2]
                by_cases e3 : (k - 1) / 2 = p
                · rw [if_pos e3]
                  have := hI.1 k h1 h2 e1
                  rw [e3] at this
                  exact le_of hlt this
                · rw [if_neg e3]
                  exact hI.1 k h1 h2 e1
          · rw [hs, hs]
            rw [if_neg (show ¬ (p - 1) / 2 = j by omega), if_neg (show ¬ (p - 1) / 2 = p by omega)]
            have hpp := hI.1 p h4 (by omega) (by omega)
            by_cases e1 : k = j
            · rw [if_pos e1]; exact hpp
            · rw [if_neg e1, if_neg (show ¬ k = p by omega)]
              have := hI.1 k h1 h2 e1
              rw [h3] at this
              exact le_trans' hpp this
        obtain ⟨r1, r2, r3⟩ := ih p (by omega) (swp L p j) (by rw [swp_len]; exact hn) (by omega) hI'
        refine ⟨r1, r2.trans (swp_perm hpl hjl), fun k hk => ?_⟩
        rw [r3 k hk, hs, if_neg (by omega), if_neg (by omega)]
      · rw [if_neg hlt]
        refine ⟨fun k h1 h2 => ?_, List.Perm.refl _, fun _ _ => rfl⟩
        by_cases e1 : k = j
        · subst e1; rw [← hp]; simpa using hlt
        · exact hI.1 k h1 h2 e1
/-- a heap, but at i -/
def Bad (L : List It) (n i : Nat) : Prop :=
  (∀ k, 0 < k → k < n → k ≠ i → (k - 1) / 2 ≠ i → ltI (at_ L k) (at_ L ((k - 1) / 2)) = false) ∧ (∀ k, 0 < k → k < n → (k - 1) / 2 = i → 0 < i → ltI (at_ L k) (at_ L ((i - 1) / 2)) = false)
/-- a heap, but that i may come behind what lies below it -/
def DnI (L : List It) (n i : Nat) : Prop :=
  (∀ k, 0 < k → k < n → (k - 1) / 2 ≠ i → ltI (at_ L k) (at_ L ((k - 1) / 2)) = false) ∧ (∀ k, 0 < k → k < n → (k - 1) / 2 = i → 0 < i → ltI (at_ L k) (at_ L ((i - 1) / 2)) = false)
theorem DnI.bad {L : List It} {n i : Nat} (h : DnI L n i) : Bad L n i := ⟨fun k h1 h2 _ h3 => h.1 k h1 h2 h3, h.2⟩
theorem child_par {L : List It} {i n : Nat} (h : 2 * i + 1 < n) : (child L i n - 1) / 2 = i := by unfold child; split <;> omega
theorem child_min {L : List It} {i n k : Nat} (h : 2 * i + 1 < n) (h1 : 0 < k) (h2 : k < n) (h3 : (k - 1) / 2 = i) : ltI (at_ L k) (at_ L (child L i n)) = false := by
  unfold child
  split
  · rename_i hc
    by_cases e : k = 2 * i + 2
    · rw [e]; exact lt_irr _
    · have : k = 2 * i + 1 := by omega
      rw [this]; exact lt_asym hc.2
  · rename_i hc
    by_cases e : k = 2 * i + 1
    · rw [e]; exact lt_irr _
    · have : k = 2 * i + 2 := by omega
      subst this
      simp only [h2, true_and] at hc
      simpa using hc
theorem dn_step {L : List It} {n i : Nat} (hn : n ≤ L.length) (hI : Bad L n i) (h : 2 * i + 1 < n) (hlt : ltI (at_ L (child L i n)) (at_ L i) = true) : DnI (swp L i (child L i n)) n (child L i n) := by
  obtain ⟨c, hc⟩ : ∃ c, c = child L i n := ⟨_, rfl⟩
  have hc1 := child_lt (L := L) h
  have hc2 := child_par (L := L) h
  have hc3 := fun k a b d => child_min (L := L) (k := k) h a b d
  rw [← hc] at hc1 hc2 hc3 hlt ⊢
  have hs := at_swp (L := L) (i := i) (j := c) (by omega) (by omega)
  refine ⟨fun k h1 h2 h3 => ?_, fun k h1 h2 h3 h4 => ?_⟩
  · rw [hs, hs]
    by_cases e1 : k = c
    · subst e1
      rw [if_pos rfl, if_neg h3, if_pos hc2]
      exact lt_asym hlt
    · rw [if_neg e1, if_neg h3]
      by_cases e2 : k = i
      · subst e2
        rw [if_pos rfl, if_neg (by omega)]
        exact hI.2 c (by omega) hc1.2 hc2 h1
      · rw [if_neg e2]
        by_cases e3 : (k - 1) / 2 = i
        · rw [if_pos e3]; exact hc3 k h1 h2 e3
        · rw [if_neg e3]; exact hI.1 k h1 h2 e2 e3
  · rw [hs, hs, hc2, if_neg (show ¬ k = c by omega), if_neg (show ¬ k = i by omega), if_neg (show ¬ i = c by omega), if_pos rfl]
    have := hI.1 k h1 h2 (by omega) (by omega)
    rwa [h3] at this
theorem dn_stop {L : List It} {n i : Nat} (h : 2 * i + 1 < n → ltI (at_ L (child L i n)) (at_ L i) = false) {k : Nat} (h1 : 0 < k) (h2 : k < n) (h3 : (k - 1) / 2 = i) : ltI (at_ L k) (at_ L i) = false :=
  le_trans' (h (by omega)) (child_min (by omega) h1 h2 h3)
theorem dn_ok (n : Nat) : ∀ (m i : Nat) (L : List It), n - i ≤ m → n ≤ L.length → DnI L n i → Hp (down L i n).1 n ∧ List.Perm (down L i n).1 L ∧ ∀ k, n ≤ k → at_ (down L i n).1 k = at_ L k := by
  intro m
  induction m with
  | zero =>
    intro i L hm hn hI
    rw [down_eq, if_neg (by omega)]
    exact ⟨fun k h1 h2 => hI.1 k h1 h2 (by omega), List.Perm.refl _, fun _ _ => rfl⟩
  | succ m ih =>
    intro i L hm hn hI
    rw [down_eq]
    by_cases h : 2 * i + 1 < n
    · rw [if_pos h]
      by_cases hlt : ltI (at_ L (child L i n)) (at_ L i) = true
      · rw [if_pos hlt]
        have hc1 := child_lt (L := L) h
        obtain ⟨r1, r2, r3⟩ := ih (child L i n) (swp L i (child L i n)) (by omega) (by rw [swp_len]; exact hn) (dn_step hn hI.bad h hlt)
        refine ⟨r1, r2.trans (swp_perm (by omega) (by omega)), fun k hk => ?_⟩
        rw [r3 k hk, at_swp (by omega) (by omega), if_neg (by omega), if_neg (by omega)]
      · rw [if_neg hlt]
        refine ⟨fun k h1 h2 => ?_, List.Perm.refl _, fun _ _ => rfl⟩
        by_cases e : (k - 1) / 2 = i
        · rw [e]; exact dn_stop (fun _ => by simpa using hlt) h1 h2 e
        · exact hI.1 k h1 h2 e
    · rw [if_neg h]
      exact ⟨fun k h1 h2 => hI.1 k h1 h2 (by omega), List.Perm.refl _, fun _ _ => rfl⟩
theorem dn_at (n : Nat) : ∀ (m i : Nat) (L : List It), n - i ≤ m → i ≤ (down L i n).2 := by
  intro m
  induction m with
  | zero =>
    intro i L hm
    rw [down_eq, if_neg (by omega)]
    exact Nat.le_refl _
  | succ m ih =>
    intro i L hm
    rw [down_eq]
    by_cases h : 2 * i + 1 < n
    · rw [if_pos h]
      split
      · have hc1 := child_lt (L := L) h
        have := ih (child L i n) (swp L i (child L i n)) (by omega)
        omega
      · exact Nat.le_refl _
    · rw [if_neg h]; exact Nat.le_refl _
theorem fix_ok {L : List It} {n i : Nat} (hn : n ≤ L.length) (hi : i < n) (hI : Bad L n i) : Hp (hfixAt L i n) n ∧ List.Perm (hfixAt L i n) L ∧ ∀ k, n ≤ k → at_ (hfixAt L i n) k = at_ L k := by
  unfold hfixAt
  by_cases h : 2 * i + 1 < n
  · have hc1 := child_lt (L := L) h
    by_cases hlt : ltI (at_ L (child L i n)) (at_ L i) = true
    · have e : down L i n = down (swp L i (child L i n)) (child L i n) n := by rw [down_eq, if_pos h, if_pos hlt]
      have hd := dn_at n (n - child L i n) (child L i n) (swp L i (child L i n)) (Nat.le_refl _)
      rw [← e] at hd
      rw [if_pos (by omega), e]
      obtain ⟨r1, r2, r3⟩ := dn_ok n _ _ _ (Nat.le_refl _) (by rw [swp_len]; exact hn) (dn_step hn hI h hlt)
      refine ⟨r1, r2.trans (swp_perm (by omega) (by omega)), fun k hk => ?_⟩
      rw [r3 k hk, at_swp (by omega) (by omega), if_neg (by omega), if_neg (by omega)]
    · have e : down L i n = (L, i) := by rw [down_eq, if_pos h, if_neg hlt]
      rw [e, if_neg (by simp)]
      refine up_ok n i L hn hi ⟨fun k h1 h2 h3 => ?_, hI.2⟩
      by_cases e1 : (k - 1) / 2 = i
      · rw [e1]; exact dn_stop (fun _ => by simpa using hlt) h1 h2 e1
      · exact hI.1 k h1 h2 h3 e1
  · have e : down L i n = (L, i) := by rw [down_eq, if_neg h]
    rw [e, if_neg (by simp)]
    exact up_ok n i L hn hi ⟨fun k h1 h2 h3 => hI.1 k h1 h2 h3 (by omega), hI.2⟩

theorem at_app_lt {L : List It} {x : It} {i : Nat} (h : i < L.length) : at_ (L ++ [x]) i = at_ L i := by
  unfold at_; rw [List.getD_eq_getElem?_getD, List.getD_eq_getElem?_getD, List.getElem?_append_left h]
theorem put_hp {L : List It} (h : Hp L L.length) (x : It) : Hp (putL L x) (putL L x).length ∧ List.Perm (putL L x) (x :: L) := by
  obtain ⟨r1, r2, _⟩ := up_ok (L.length + 1) L.length (L ++ [x]) (by simp) (by omega) ⟨fun k h1 h2 h3 => by
    rw [at_app_lt (by omega), at_app_lt (by omega)]; exact h k h1 (by omega), fun k h1 h2 h3 => by omega⟩
  refine ⟨?_, r2.trans (List.perm_append_comm)⟩
  have : (putL L x).length = L.length + 1 := by unfold putL; rw [up_len]; simp
  rw [this]; exact r1
theorem take_last {r : List It} {n : Nat} (h : r.length = n + 1) : r.take n ++ [at_ r n] = r := by
  have h1 : r.take (n + 1) = r.take n ++ [at_ r n] := by
    rw [List.take_add_one]
    congr 1
    unfold at_
    rw [List.getD_eq_getElem?_getD, List.getElem?_eq_getElem (by omega)]
    rfl
  rw [← h1, ← h, List.take_length]
theorem hp_take {r : List It} {n : Nat} (h : Hp r n) (hl : n ≤ r.length) : Hp (r.take n) n := fun k h1 h2 => by
  rw [at_take (by omega) hl, at_take (by omega) hl]; exact h k h1 h2
theorem pop_hp {L : List It} {n : Nat} (hL : L.length = n + 1) (h : Hp L L.length) : (hpop L).1 = at_ L 0 ∧ (hpop L).2.length = n ∧ Hp (hpop L).2 n ∧ List.Perm L ((hpop L).1 :: (hpop L).2) := by
  have hs := at_swp (L := L) (i := 0) (j := n) (by omega) (by omega)
  have hsl := swp_len L 0 n
  obtain ⟨r1, r2, r3⟩ := dn_ok n _ 0 (swp L 0 n) (Nat.le_refl _) (by omega) ⟨fun k h1 h2 h3 => by
    rw [hs, hs, if_neg (by omega), if_neg (by omega), if_neg (by omega), if_neg (by omega)]; exact h k h1 (by omega), fun k h1 h2 h3 h4 => by omega⟩
  have hr : (down (swp L 0 n) 0 n).1.length = n + 1 := by rw [down_len, hsl, hL]
  have e : hpop L = (at_ (down (swp L 0 n) 0 n).1 n, (down (swp L 0 n) 0 n).1.take n) := by simp [hpop, hL]
  rw [e]
  generalize (down (swp L 0 n) 0 n).1 = r at *
  refine ⟨?_, by simp only [List.length_take]; omega, hp_take r1 (by omega), ?_⟩
  · show at_ r n = _
    rw [r3 n (Nat.le_refl _), hs, if_pos rfl]
  · have h1 : List.Perm r L := r2.trans (swp_perm (by omega) (by omega))
    refine h1.symm.trans ?_
    have h2 := take_last hr
    refine (List.Perm.of_eq h2.symm).trans ?_
    exact List.perm_append_comm
theorem rem_hp {L : List It} {n i : Nat} (hL : L.length = n + 1) (hi : i < L.length) (h : Hp L L.length) : (hrem L i).length = n ∧ Hp (hrem L i) n ∧ List.Perm L (at_ L i :: hrem L i) := by
  unfold hrem
  simp only [hL, Nat.add_sub_cancel]
  by_cases e : n = i
  · rw [if_pos e]
    subst e
    refine ⟨by simp only [List.length_take]; omega, hp_take (fun k h1 h2 => h k h1 (by omega)) (by omega), ?_⟩
    have h2 := take_last hL
    refine (List.Perm.of_eq h2.symm).trans ?_
    exact List.perm_append_comm
  · rw [if_neg e]
    have hs := at_swp (L := L) (i := i) (j := n) (by omega) (by omega)
    have hsl := swp_len L i n
    obtain ⟨r1, r2, r3⟩ := fix_ok (L := swp L i n) (n := n) (i := i) (by omega) (by omega) ⟨fun k h1 h2 h3 h4 => by
      rw [hs, hs, if_neg (by omega), if_neg (by omega), if_neg (by omega), if_neg (by omega)]; exact h k h1 (by omega), fun k h1 h2 h3 h4 => by
      rw [hs, hs, if_neg (by omega), if_neg (by omega), if_neg (by omega), if_neg (by omega)]
      have a := h k h1 (by omega)
      have b := h i h4 (by omega)
      rw [h3] at a
      exact le_trans' b a⟩
    have hr : (hfixAt (swp L i n) i n).length = n + 1 := by rw [r2.length_eq, hsl, hL]
    generalize hfixAt (swp L i n) i n = r at *
    refine ⟨by simp only [List.length_take]; omega, hp_take r1 (by omega), ?_⟩
    have h1 : List.Perm r L := r2.trans (swp_perm (by omega) (by omega))
    have h2 := take_last hr
    rw [r3 n (Nat.le_refl _), hs, if_pos rfl] at h2
    exact h1.symm.trans ((List.Perm.of_eq h2.symm).trans List.perm_append_comm)
theorem at_set' (L : List It) (i : Nat) (x : It) (hi : i < L.length) (k : Nat) : at_ (L.set i x) k = if k = i then x else at_ L k := by
  unfold at_
  rw [List.getD_eq_getElem?_getD, List.getD_eq_getElem?_getD, List.getElem?_set]
  by_cases h : i = k
  · subst h; simp [hi]
  · simp [h, Ne.symm h]
theorem move_hp {L : List It} {i : Nat} (hi : i < L.length) (h : Hp L L.length) (x : It) : Hp (hfixAt (L.set i x) i L.length) L.length ∧ List.Perm (hfixAt (L.set i x) i L.length) (L.set i x) := by
  have hs := at_set' L i x hi
  obtain ⟨r1, r2, _⟩ := fix_ok (L := L.set i x) (n := L.length) (i := i) (by simp) hi ⟨fun k h1 h2 h3 h4 => by
    rw [hs, hs, if_neg h3, if_neg h4]; exact h k h1 h2, fun k h1 h2 h3 h4 => by
    rw [hs, hs, if_neg (by omega), if_neg (by omega)]
    have a := h k h1 h2
    have b := h i h4 hi
    rw [h3] at a
    exact le_trans' b a⟩
  exact ⟨r1, r2⟩
theorem hp_min {L : List It} {n : Nat} (h : Hp L n) : ∀ k, k < n → ltI (at_ L k) (at_ L 0) = false := by
  intro k
  induction k using Nat.strongRecOn with
  | _ k ih =>
    intro hk
    by_cases h0 : k = 0
    · subst h0; exact lt_irr _
    · exact le_trans' (ih ((k - 1) / 2) (by omega) (by omega)) (h k (by omega) hk)
/-- a list in order -/
def Srt (S : List It) : Prop := S.Pairwise (fun x y => ltI x y = true)
theorem mem_at {L : List It} {x : It} (h : x ∈ L) : ∃ k, k < L.length ∧ at_ L k = x := by
  obtain ⟨k, hk, e⟩ := List.mem_iff_getElem.1 h
  exact ⟨k, hk, by unfold at_; rw [List.getD_eq_getElem?_getD, List.getElem?_eq_getElem hk]; exact e⟩
theorem at_mem {L : List It} {k : Nat} (h : k < L.length) : at_ L k ∈ L := by
  unfold at_; rw [List.getD_eq_getElem?_getD, List.getElem?_eq_getElem h]; exact List.getElem_mem h
theorem first_eq {L S : List It} {s : It} (hp : Hp L L.length) (hs : Srt (s :: S)) (h : List.Perm L (s :: S)) : at_ L 0 = s := by
  have hl : 0 < L.length := by rw [h.length_eq]; simp
  obtain ⟨k, hk, e⟩ := mem_at (h.symm.subset (List.mem_cons_self) : s ∈ L)
  have h1 := hp_min hp k hk
  rw [e] at h1
  have h2 : at_ L 0 ∈ s :: S := h.subset (at_mem hl)
  rcases List.mem_cons.1 h2 with h3 | h3
  · exact h3
  · have := (List.pairwise_cons.1 hs).1 _ h3
    rw [h1] at this; cases this
theorem pop_srt {L S : List It} {s : It} (hp : Hp L L.length) (hs : Srt (s :: S)) (h : List.Perm L (s :: S)) : (hpop L).1 = s ∧ Hp (hpop L).2 (hpop L).2.length ∧ List.Perm (hpop L).2 S ∧ (hpop L).2.length = S.length := by
  have hl : L.length = S.length + 1 := by rw [h.length_eq]; simp
  obtain ⟨h1, h2, h3, h4⟩ := pop_hp hl hp
  have h5 := first_eq hp hs h
  rw [h5] at h1
  rw [h1] at h4
  refine ⟨h1, by rw [h2]; exact h3, (h4.symm.trans h).cons_inv, h2⟩
end Go.Proofs.Ytideofojmgmboaa
