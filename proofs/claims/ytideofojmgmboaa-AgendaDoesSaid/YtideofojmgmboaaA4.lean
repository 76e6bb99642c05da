/- Two items change their places. -/
import Derived.Test.YtideofojmgmboaaA3
namespace Go.Proofs.Ytideofojmgmboaa
open Go Go.RowKit
set_option linter.unusedVariables false
set_option linter.unusedSimpArgs false
set_option maxRecDepth 100000
variable {w : World} {a lb mb cap clk : Nat} {cur : Array Value} {M : List Ent} {L : List It}

def swp (L : List It) (i j : Nat) : List It := (L.set i (at_ L j)).set j (at_ L i)
theorem swp_len (L : List It) (i j : Nat) : (swp L i j).length = L.length := by simp [swp]
theorem at_set (L : List It) (i : Nat) (x : It) (hi : i < L.length) (k : Nat) : at_ (L.set i x) k = if k = i then x else at_ L k := by
  unfold at_
  rw [List.getD_eq_getElem?_getD, List.getD_eq_getElem?_getD, List.getElem?_set]
  by_cases h : i = k
  · subst h; simp [hi]
  · simp [h, Ne.symm h]
theorem at_swp {L : List It} {i j : Nat} (hi : i < L.length) (hj : j < L.length) (k : Nat) : at_ (swp L i j) k = if k = j then at_ L i else if k = i then at_ L j else at_ L k := by
  unfold swp
  rw [at_set _ _ _ (by simpa using hj), at_set _ _ _ hi]
theorem map_modify {α β : Type} (g : α → β) (f : α → α) (hf : ∀ x, g (f x) = g x) (M : List α) (p : Nat) : (M.modify p f).map g = M.map g := by
  apply List.ext_getElem?
  intro j
  simp only [List.getElem?_map, List.getElem?_modify]
  by_cases hj : p = j
  · subst hj; cases M[p]? <;> simp [hf]
  · simp [hj]
theorem setV_key (M : List Ent) (p : Nat) (v : Int) : (setV M p v).map (·.1) = M.map (·.1) := map_modify (fun e : Ent => e.1) (fun e : Ent => (e.1, e.2.1, v)) (fun _ => rfl) M p
theorem setV_born (M : List Ent) (p : Nat) (v : Int) : (setV M p v).map (·.2.1) = M.map (·.2.1) := map_modify (fun e : Ent => e.2.1) (fun e : Ent => (e.1, e.2.1, v)) (fun _ => rfl) M p
theorem setV_at {M : List Ent} {p : Nat} (v : Int) (q : Nat) : (setV M p v)[q]? = if p = q then (M[q]?).map (fun e => (e.1, e.2.1, v)) else M[q]? := by
  unfold setV
  rw [List.getElem?_modify]
  by_cases h : p = q
  · subst h; simp
  · simp [h]
theorem key_inj {M : List Ent} (hn : (M.map (·.1)).Nodup) {p q : Nat} {e f : Ent} (he : M[p]? = some e) (hf : M[q]? = some f) (h : e.1 = f.1) : p = q := by
  have hp : p < M.length := (List.getElem?_eq_some_iff.1 he).1
  have h1 : (M.map (·.1))[p]? = (M.map (·.1))[q]? := by simp [he, hf, h]
  exact (List.getElem?_inj (by simpa using hp) hn).1 h1
theorem mem_setV {M : List Ent} (hn : (M.map (·.1)).Nodup) {p : Nat} {e : Ent} (he : M[p]? = some e) (u k v : Int) (b : Nat) : (k, b, v) ∈ setV M p u ↔ (k = e.1 ∧ b = e.2.1 ∧ v = u) ∨ (k ≠ e.1 ∧ (k, b, v) ∈ M) := by
  simp only [List.mem_iff_getElem?, setV_at]
  constructor
  · rintro ⟨q, hq⟩
    by_cases h : p = q
    · subst h
      rw [if_pos rfl, he] at hq
      simp at hq
      exact Or.inl ⟨hq.1.symm, hq.2.1.symm, hq.2.2.symm⟩
    · rw [if_neg h] at hq
      refine Or.inr ⟨fun e1 => h (key_inj hn he hq e1.symm), q, hq⟩
  · rintro (⟨rfl, rfl, rfl⟩ | ⟨h1, q, hq⟩)
    · exact ⟨p, by rw [if_pos rfl, he]; rfl⟩
    · refine ⟨q, ?_⟩
      rw [if_neg (fun e1 => h1 (by subst e1; rw [he] at hq; cases hq; rfl)), hq]
theorem Mok.inj (h : Mok M clk L) {i j : Nat} (hi : i < L.length) (hj : j < L.length) (hk : (at_ L i).2 = (at_ L j).2) : i = j := by
  obtain ⟨p, e, he, h1, h2⟩ := h.at hi
  obtain ⟨q, f, hf, g1, g2⟩ := h.at hj
  have := key_inj h.keys he hf (by rw [h1, g1, hk])
  subst this
  rw [he] at hf
  cases hf
  omega
theorem Mok.swap (h : Mok M clk L) {i j p q : Nat} {e f : Ent} (hi : i < L.length) (hj : j < L.length) (he : M[p]? = some e) (e1 : e.1 = (at_ L i).2) (hf : M[q]? = some f) (f1 : f.1 = (at_ L j).2) :
    Mok (setV (setV M q i) p j) clk (swp L i j) := by
  have hn' : ((setV M q i).map (·.1)).Nodup := by rw [setV_key]; exact h.keys
  have he' : ∃ e' : Ent, (setV M q i)[p]? = some e' ∧ e'.1 = e.1 ∧ e'.2.1 = e.2.1 := by
    rw [setV_at]
    by_cases hpq : q = p
    · subst hpq; rw [if_pos rfl, he]; exact ⟨_, rfl, rfl, rfl⟩
    · rw [if_neg hpq]; exact ⟨e, he, rfl, rfl⟩
  obtain ⟨e', he', r1, r2⟩ := he'
  refine ⟨by rw [setV_key]; exact hn', by rw [setV_born, setV_born]; exact h.born, ?_, ?_⟩
  · rintro ⟨k, b, v⟩ hm
    rcases (mem_setV hn' he' j k v b).1 hm with ⟨_, h2, _⟩ | ⟨_, h2⟩
    · have := h.time e (List.mem_of_getElem? he)
      simp only; rw [h2, r2]; exact this
    · rcases (mem_setV h.keys hf i k v b).1 h2 with ⟨_, h3, _⟩ | ⟨_, h3⟩
      · have := h.time f (List.mem_of_getElem? hf)
        simp only; rw [h3]; exact this
      · exact h.time _ h3
  · intro k v
    rw [swp_len]
    constructor
    · rintro ⟨b, hm⟩
      rcases (mem_setV hn' he' j k v b).1 hm with ⟨h1, _, h3⟩ | ⟨h1, h2⟩
      · exact ⟨j, hj, h3.symm, by rw [at_swp hi hj, if_pos rfl, h1, r1, e1]⟩
      · rcases (mem_setV h.keys hf i k v b).1 h2 with ⟨g1, _, g3⟩ | ⟨g1, g2⟩
        · by_cases hij : i = j
          · subst hij; exact absurd (by rw [g1, f1, r1, e1]) h1
          · exact ⟨i, hi, g3.symm, by rw [at_swp hi hj, if_neg hij, if_pos rfl, g1, f1]⟩
        · obtain ⟨t, ht, h3, h4⟩ := (h.says k v).1 ⟨b, g2⟩
          refine ⟨t, ht, h3, ?_⟩
          rw [at_swp hi hj, if_neg (fun e0 => g1 (by rw [← h4, f1, e0])), if_neg (fun e0 => h1 (by rw [← h4, r1, e1, e0])), h4]
    · rintro ⟨t, ht, rfl, h4⟩
      rw [at_swp hi hj] at h4
      by_cases htj : t = j
      · subst htj
        rw [if_pos rfl] at h4
        exact ⟨e'.2.1, (mem_setV hn' he' _ k _ _).2 (Or.inl ⟨by rw [← h4, r1, e1], rfl, rfl⟩)⟩
      · rw [if_neg htj] at h4
        by_cases hti : t = i
        · subst hti
          rw [if_pos rfl] at h4
          refine ⟨f.2.1, (mem_setV hn' he' _ k _ _).2 (Or.inr ⟨?_, (mem_setV h.keys hf _ k _ _).2 (Or.inl ⟨by rw [← h4, f1], rfl, rfl⟩)⟩)⟩
          rw [← h4, r1, e1]
          exact fun e0 => htj (h.inj hj hi e0).symm
        · rw [if_neg hti] at h4
          obtain ⟨b, hb⟩ := (h.says k t).2 ⟨t, ht, rfl, h4⟩
          refine ⟨b, (mem_setV hn' he' _ k _ _).2 (Or.inr ⟨?_, (mem_setV h.keys hf _ k _ _).2 (Or.inr ⟨?_, hb⟩)⟩)⟩
          · rw [← h4, r1, e1]; exact fun e0 => hti (h.inj ht hi e0)
          · rw [← h4, f1]; exact fun e0 => htj (h.inj ht hj e0)
end Go.Proofs.Ytideofojmgmboaa
