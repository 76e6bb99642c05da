/- The list of idle threads, by itself: what a put and a get make of it. -/
import Derived.Test.YtggbohakpkplkaaIpP
import Derived.Test.YtggbohakpkplkaaIm2
import Derived.Test.YtggbohakpkplkaaImSp
namespace Go.Proofs.Ytggbohakpkplkaa
open Go Go.RowKit
set_option linter.unusedVariables false
set_option maxRecDepth 100000
set_option linter.unusedSimpArgs false

theorem set_perm : ∀ (L : List Int) (i : Nat) (h : i < L.length) (z : Int), (z :: L).Perm (L[i] :: L.set i z)
  | a :: L, 0, _, z => by
    show (z :: a :: L).Perm (a :: z :: L)
    exact List.Perm.swap _ _ _
  | a :: L, i + 1, h, z => by
    show (z :: a :: L).Perm (L[i]'(by simpa using h) :: a :: L.set i z)
    refine (List.Perm.swap a z L).trans ?_
    refine ((set_perm L i (by simpa using h) z).cons a).trans ?_
    exact List.Perm.swap _ _ _
/-- One that is taken out, the last one in its place. -/
def swapOut (had : List Int) (i : Nat) : List Int := (had.set i (had.getD (had.length - 1) 0)).take (had.length - 1)
theorem swapOut_perm (had : List Int) (i : Nat) (h : i < had.length) : had.Perm (had.getD i 0 :: swapOut had i) := by
  obtain ⟨L, z, rfl⟩ : ∃ L z, had = L ++ [z] := by
    rcases List.eq_nil_or_concat had with h0 | ⟨L, z, h0⟩
    · subst h0; cases h
    · exact ⟨L, z, by simpa using h0⟩
  have hl : (L ++ [z]).length - 1 = L.length := by simp
  have hz : (L ++ [z]).getD ((L ++ [z]).length - 1) 0 = z := by rw [hl]; simp [List.getD_eq_getElem?_getD]
  unfold swapOut
  rw [hz, hl]
  have hi : i < L.length + 1 := by simpa using h
  by_cases h2 : i < L.length
  · have e1 : (L ++ [z]).getD i 0 = L[i] := by simp [List.getD_eq_getElem?_getD, List.getElem?_append_left h2, List.getElem?_eq_getElem h2]
    have e2 : ((L ++ [z]).set i z).take L.length = L.set i z := by
      rw [List.set_append_left _ _ h2, List.take_append_of_le_length (by simp), List.take_of_length_le (by simp)]
    rw [e1, e2]
    exact (List.perm_append_comm (l₁ := L) (l₂ := [z])).trans (set_perm L i h2 z)
  · obtain rfl : i = L.length := by omega
    have e1 : (L ++ [z]).getD L.length 0 = z := by simp [List.getD_eq_getElem?_getD]
    have e2 : ((L ++ [z]).set L.length z).take L.length = L := by
      rw [List.set_append_right _ _ (Nat.le_refl _)]
      simp
    rw [e1, e2]
    exact List.perm_append_comm
theorem swapOut_len (had : List Int) (i : Nat) : (swapOut had i).length = had.length - 1 := by
  unfold swapOut
  rw [List.length_take, List.length_set]
  omega

/-- Threads that are had, and those that lie idle. -/
structure Mny (T : Int) (n : Nat) (s : St) (had r : List Int) : Prop where
  nd : (had ++ r).Nodup
  rg : ∀ y ∈ had ++ r, 0 ≤ y ∧ y < ((had ++ r).length : Int)
  le : ((had ++ r).length : Int) ≤ T
  hd : Lnk (fun y => s.f (286 + 3 * y.toNat)) (s.f 11) r
  mn : s.f 12 = r.length
  mk' : s.f 15 = ((had ++ r).length : Int)
  bad : s.bad = 0
theorem mny_place {T : Int} {n : Nat} {y : Int} (hn : (n : Int) = 286 + 3 * T) (hy : 0 ≤ y ∧ y < T) : wd (20 + 1 * 264) T 3 y 2 = ((286 + 3 * y.toNat : Nat) : Int) ∧ 0 ≤ wd (20 + 1 * 264) T 3 y 2 ∧ wd (20 + 1 * 264) T 3 y 2 < n := by
  have : wd (20 + 1 * 264) T 3 y 2 = 20 + 1 * 264 + y * 3 + 2 := by unfold wd; rw [if_pos ⟨hy.1, hy.2, by omega, by omega⟩]
  omega
theorem Mny.spare {T : Int} {n : Nat} {s : St} {had r : List Int} (h : Mny T n s had r) (hn : (n : Int) = 286 + 3 * T) (hT : 1 ≤ T ∧ T ≤ 8) : spv T (peekT n s 12) (peekT n s 15) = T - had.length := by
  have e : ∀ i : Int, 0 ≤ i ∧ i < n → peekT n s i = s.f i.toNat := fun i hi => if_pos hi
  rw [e 12 (by omega), e 15 (by omega), show (12 : Int).toNat = 12 from rfl, show (15 : Int).toNat = 15 from rfl, h.mn, h.mk']
  have hl := h.le
  rw [List.length_append] at hl ⊢
  unfold spv
  rw [if_pos ⟨by omega, by omega⟩]
  omega
theorem Mny.bd {T : Int} {n : Nat} {s : St} {had r : List Int} (h : Mny T n s had r) : ∀ y ∈ had ++ r, 0 ≤ y ∧ y < T := fun y hy => by
  have h1 := h.rg y hy
  have h2 := h.le
  omega
theorem mny_put {T : Int} {n : Nat} {s : St} {had r : List Int} {i : Nat} (h : Mny T n s had r) (hn : (n : Int) = 286 + 3 * T) (hT : 1 ≤ T ∧ T ≤ 8) (hi : i < had.length) :
    Mny T n ((imPM 1 T (had.getD i 0)).steps 0 n 6 (.h0, s)).2 (swapOut had i) (had.getD i 0 :: r) := by
  obtain ⟨y, hy0⟩ : ∃ y, had.getD i 0 = y := ⟨_, rfl⟩
  have hmem : y ∈ had := by
    rw [← hy0, List.getD_eq_getElem?_getD, List.getElem?_eq_getElem hi]
    exact List.getElem_mem _
  have hp := swapOut_perm had i hi
  rw [hy0] at hp ⊢
  have hp2 : (had ++ r).Perm (swapOut had i ++ y :: r) := (hp.append_right r).trans (by
    refine List.Perm.trans ?_ (List.perm_middle (a := y) (l₁ := swapOut had i) (l₂ := r)).symm
    exact List.Perm.refl _)
  have hy := h.bd y (List.mem_append_left _ hmem)
  have hyr : y ∉ r := fun hm => (List.nodup_append.1 h.nd).2.2 y hmem y hm rfl
  obtain ⟨p1, p2⟩ := mny_place hn hy
  obtain ⟨s1, a1, f1, b1⟩ := steps_ld (M := imPM 1 T y) (who := 0) (n := n) (k := 5) (t := .h0) (s := s) (i := 11) rfl (by omega)
  obtain ⟨s2, a2, f2, b2⟩ := steps_st (M := imPM 1 T y) (who := 0) (n := n) (k := 4) (t := .ln (s.f 11)) (s := s1) (i := wd (20 + 1 * 264) T 3 y 2) (v := s.f 11) rfl p2
  obtain ⟨s3, a3, f3, b3⟩ := steps_st (M := imPM 1 T y) (who := 0) (n := n) (k := 3) (t := .st) (s := s2) (i := 11) (v := ilw y) rfl (by omega)
  obtain ⟨s4, a4, f4, b4⟩ := steps_ad (M := imPM 1 T y) (who := 0) (n := n) (k := 2) (t := .ct) (s := s3) (i := 12) (v := 1) rfl (by omega)
  have e : (imPM 1 T y).steps 0 n 6 (.h0, s) = (.over, s4) := by
    rw [show (6 : Nat) = 5 + 1 from rfl, a1]
    show (imPM 1 T y).steps 0 n (4 + 1) (.ln (s.f 11), s1) = _
    rw [a2]
    show (imPM 1 T y).steps 0 n (3 + 1) (.st, s2) = _
    rw [a3]
    show (imPM 1 T y).steps 0 n (2 + 1) (.ct, s3) = _
    rw [a4]
    exact steps_no (M := imPM 1 T y) (t := .over) rfl 2
  rw [e]
  show Mny T n s4 (swapOut had i) (y :: r)
  rw [p1, Int.toNat_natCast] at f2
  have hf : ∀ j : Nat, s4.f j = if j = 12 then (s.f 12 + 1) % 4294967296 else if j = 11 then ilw y else if j = 286 + 3 * y.toNat then s.f 11 else s.f j := fun j => by
    have h5 : s3.f 12 = s.f 12 := by rw [f3, upd_ne (by decide), f2, upd_ne (by omega), f1]
    rw [f4, show (12 : Int).toNat = 12 from rfl, h5, f3, show (11 : Int).toNat = 11 from rfl, f2, f1]
    rfl
  have hle := h.le
  rw [List.length_append] at hle
  have hlen2 := hp2.length_eq
  have hLk : Lnk (fun y => s4.f (286 + 3 * y.toNat)) (s4.f (286 + 3 * y.toNat)) r := by
    rw [hf (286 + 3 * y.toNat), if_neg (by omega), if_neg (by omega), if_pos rfl]
    refine Lnk.congr (lk := fun y => s.f (286 + 3 * y.toNat)) (fun z hz => ?_) h.hd
    have := h.bd z (List.mem_append_right _ hz)
    have hne : z ≠ y := fun e => hyr (e ▸ hz)
    show s4.f (286 + 3 * z.toNat) = s.f (286 + 3 * z.toNat)
    rw [hf (286 + 3 * z.toNat), if_neg (by omega), if_neg (by omega), if_neg (by omega)]
  refine ⟨hp2.nodup_iff.1 h.nd, fun z hz => ?_, ?_, ⟨?_, hLk⟩, ?_, ?_, ?_⟩
  · rw [← hlen2]
    exact h.rg z (hp2.mem_iff.2 hz)
  · rw [← hlen2]; exact h.le
  · rw [hf 11, if_neg (by decide), if_pos rfl]
    exact ilw_small y (by omega)
  · rw [hf 12, if_pos rfl, h.mn, List.length_cons]
    omega
  · rw [hf 15, if_neg (by decide), if_neg (by decide), if_neg (by omega), h.mk', hlen2]
  · rw [b4, b3, b2, b1, h.bad]
theorem mny_get {T : Int} {n : Nat} {s : St} {had r : List Int} {y : Int} (h : Mny T n s had (y :: r)) (hn : (n : Int) = 286 + 3 * T) (hT : 1 ≤ T ∧ T ≤ 8) :
    ((jgPM 1 T).steps 0 n 6 (.ld, s)).1 = .over y ∧ Mny T n ((jgPM 1 T).steps 0 n 6 (.ld, s)).2 (had ++ [y]) r := by
  have hy := h.bd y (by simp)
  obtain ⟨p1, p2⟩ := mny_place hn hy
  obtain ⟨h9, h2⟩ : s.f 11 = y + 1 ∧ Lnk (fun y => s.f (286 + 3 * y.toNat)) (s.f (286 + 3 * y.toNat)) r := h.hd
  have hg : gw (s.f 11) = y := by rw [h9]; exact gw_one y (by omega)
  obtain ⟨l, hl⟩ : ∃ l, s.f (286 + 3 * y.toNat) = l := ⟨_, rfl⟩
  rw [hl] at h2
  obtain ⟨s1, a1, f1, b1⟩ := steps_ld (M := jgPM 1 T) (who := 0) (n := n) (k := 5) (t := .ld) (s := s) (i := 11) rfl (by omega)
  obtain ⟨s2, a2, f2, b2⟩ := steps_ld (M := jgPM 1 T) (who := 0) (n := n) (k := 4) (t := .lk y) (s := s1) (i := wd (20 + 1 * 264) T 3 y 2) rfl p2
  rw [p1, Int.toNat_natCast, f1, hl] at a2
  obtain ⟨s3, a3, f3, b3⟩ := steps_st (M := jgPM 1 T) (who := 0) (n := n) (k := 3) (t := .un y l) (s := s2) (i := 11) (v := l) rfl (by omega)
  obtain ⟨s4, a4, f4, b4⟩ := steps_ad (M := jgPM 1 T) (who := 0) (n := n) (k := 2) (t := .ct y) (s := s3) (i := 12) (v := 4294967295) rfl (by omega)
  have e : (jgPM 1 T).steps 0 n 6 (.ld, s) = (.over y, s4) := by
    rw [show (6 : Nat) = 5 + 1 from rfl, a1, show (11 : Int).toNat = 11 from rfl]
    have e1 : (jgPM 1 T).nx .ld (s.f 11) = .lk y := by
      show (if s.f 11 = 0 then JgT.th else .lk (gw (s.f 11))) = _
      rw [if_neg (by omega), hg]
    rw [e1]
    show (jgPM 1 T).steps 0 n (4 + 1) (.lk y, s1) = _
    rw [a2]
    show (jgPM 1 T).steps 0 n (3 + 1) (.un y l, s2) = _
    rw [a3]
    show (jgPM 1 T).steps 0 n (2 + 1) (.ct y, s3) = _
    rw [a4]
    exact steps_no (M := jgPM 1 T) (t := .over y) rfl 2
  rw [e]
  refine ⟨rfl, ?_⟩
  show Mny T n s4 (had ++ [y]) r
  have hf : ∀ j : Nat, s4.f j = if j = 12 then (s.f 12 + 4294967295) % 4294967296 else if j = 11 then l else s.f j := fun j => by
    have h5 : s3.f 12 = s.f 12 := by rw [f3, upd_ne (by decide), f2, f1]
    rw [f4, show (12 : Int).toNat = 12 from rfl, h5, f3, show (11 : Int).toNat = 11 from rfl, f2, f1]
    rfl
  have hm := h.mn
  have hle := h.le
  rw [List.length_append, List.length_cons] at hle
  rw [List.length_cons] at hm
  have e2 : had ++ [y] ++ r = had ++ y :: r := by simp
  refine ⟨by rw [e2]; exact h.nd, by rw [e2]; exact h.rg, by rw [e2]; exact h.le, ?_, ?_, ?_, ?_⟩
  · rw [hf 11, if_neg (by decide), if_pos rfl]
    refine Lnk.congr (fun z hz => ?_) h2
    have := h.bd z (by simp [hz])
    show s4.f (286 + 3 * z.toNat) = s.f (286 + 3 * z.toNat)
    rw [hf, if_neg (by omega), if_neg (by omega)]
  · rw [hf 12, if_pos rfl, hm]
    omega
  · rw [e2, hf 15, if_neg (by decide), if_neg (by decide)]
    exact h.mk'
  · rw [b4, b3, b2, b1, h.bad]
theorem mny_none {T : Int} {n : Nat} {s : St} {had : List Int} (h : Mny T n s had []) (hn : (n : Int) = 286 + 3 * T) (hT : 1 ≤ T ∧ T ≤ 8) (hl : T ≤ had.length) :
    ((jgPM 1 T).steps 0 n 6 (.ld, s)).1 = .none' ∧ Mny T n ((jgPM 1 T).steps 0 n 6 (.ld, s)).2 had [] := by
  have h0 : s.f 11 = 0 := h.hd
  have hk := h.mk'
  rw [List.append_nil] at hk
  obtain ⟨s1, a1, f1, b1⟩ := steps_ld (M := jgPM 1 T) (who := 0) (n := n) (k := 5) (t := .ld) (s := s) (i := 11) rfl (by omega)
  obtain ⟨s2, a2, f2, b2⟩ := steps_ld (M := jgPM 1 T) (who := 0) (n := n) (k := 4) (t := .th) (s := s1) (i := 15) rfl (by omega)
  have e : (jgPM 1 T).steps 0 n 6 (.ld, s) = (.none', s2) := by
    rw [show (6 : Nat) = 5 + 1 from rfl, a1, show (11 : Int).toNat = 11 from rfl, h0]
    show (jgPM 1 T).steps 0 n (4 + 1) (.th, s1) = _
    rw [a2, show (15 : Int).toNat = 15 from rfl, f1, hk]
    have e1 : (jgPM 1 T).nx .th (had.length : Int) = .none' := if_pos hl
    rw [e1]
    exact steps_no (M := jgPM 1 T) (t := .none') rfl 4
  rw [e]
  refine ⟨rfl, h.nd, h.rg, h.le, ?_, ?_, ?_, ?_⟩
  · show s2.f 11 = 0
    rw [f2, f1]; exact h0
  · show s2.f 12 = _
    rw [f2, f1]; exact h.mn
  · show s2.f 15 = _
    rw [f2, f1]; exact h.mk'
  · show s2.bad = 0
    rw [b2, b1]; exact h.bad
theorem mny_more {T : Int} {n : Nat} {s : St} {had : List Int} (h : Mny T n s had []) (hn : (n : Int) = 286 + 3 * T) (hT : 1 ≤ T ∧ T ≤ 8) (hl : (had.length : Int) < T) :
    ((jgPM 1 T).steps 0 n 6 (.ld, s)).1 = .over had.length ∧ Mny T n ((jgPM 1 T).steps 0 n 6 (.ld, s)).2 (had ++ [(had.length : Int)]) [] := by
  have h0 : s.f 11 = 0 := h.hd
  have hk := h.mk'
  rw [List.append_nil] at hk
  obtain ⟨s1, a1, f1, b1⟩ := steps_ld (M := jgPM 1 T) (who := 0) (n := n) (k := 5) (t := .ld) (s := s) (i := 11) rfl (by omega)
  obtain ⟨s2, a2, f2, b2⟩ := steps_ld (M := jgPM 1 T) (who := 0) (n := n) (k := 4) (t := .th) (s := s1) (i := 15) rfl (by omega)
  obtain ⟨s3, a3, f3, b3⟩ := steps_st (M := jgPM 1 T) (who := 0) (n := n) (k := 3) (t := .nw had.length) (s := s2) (i := 15) (v := (had.length : Int) + 1) rfl (by omega)
  have e : (jgPM 1 T).steps 0 n 6 (.ld, s) = (.over had.length, s3) := by
    rw [show (6 : Nat) = 5 + 1 from rfl, a1, show (11 : Int).toNat = 11 from rfl, h0]
    show (jgPM 1 T).steps 0 n (4 + 1) (.th, s1) = _
    rw [a2, show (15 : Int).toNat = 15 from rfl, f1, hk]
    have e1 : (jgPM 1 T).nx .th (had.length : Int) = .nw had.length := if_neg (by omega)
    rw [e1, show (4 : Nat) = 3 + 1 from rfl, a3]
    exact steps_no (M := jgPM 1 T) (t := .over had.length) rfl 3
  rw [e]
  refine ⟨rfl, ?_⟩
  show Mny T n s3 (had ++ [(had.length : Int)]) []
  have hf : ∀ j : Nat, s3.f j = if j = 15 then (had.length : Int) + 1 else s.f j := fun j => by
    rw [f3, show (15 : Int).toNat = 15 from rfl, f2, f1]
    rfl
  have hnd := h.nd
  have hrg := h.rg
  rw [List.append_nil] at hnd hrg
  refine ⟨?_, ?_, ?_, ?_, ?_, ?_, ?_⟩
  · rw [List.append_nil]
    refine List.nodup_append.2 ⟨hnd, by simp, ?_⟩
    intro a ha b hb
    simp at hb
    rintro rfl
    have := hrg a ha
    omega
  · intro z hz
    rw [List.append_nil] at hz ⊢
    rcases List.mem_append.1 hz with hz | hz
    · have := hrg z hz; simp; omega
    · simp at hz; simp; omega
  · simp; omega
  · show s3.f 11 = 0
    rw [hf, if_neg (by decide)]; exact h0
  · rw [hf, if_neg (by decide)]; exact h.mn
  · rw [hf, if_pos rfl]; simp
  · rw [b3, b2, b1, h.bad]
theorem mny_start {T : Int} {n : Nat} {f : Nat → Int} (h : ∀ i, f i = 0) (hT : 1 ≤ T) : Mny T n (fresh f) [] [] := ⟨List.nodup_nil, fun y hy => (by cases hy), (by simp; omega), h 11, h 12, h 15, rfl⟩
end Go.Proofs.Ytggbohakpkplkaa
