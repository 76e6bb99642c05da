/- Scripts as text, as lists of bytes: what is written is read. -/
import Derived.Test.YtemdhcegelddlaaDoorW2
import Derived.Lib.Split
import Derived.Lib.AtoiTie
namespace Go.Proofs.YtemdhcegelddlaaDoor
open Go Go.RowKit
set_option linter.unusedVariables false
set_option linter.unusedSimpArgs false

/-! ### digits -/
theorem dig_val (i : Nat) (h : i < 10) : Lib.digitVal (UInt8.ofNat (48 + i)) = some i := by
  unfold Lib.digitVal
  have : (UInt8.ofNat (48 + i)).toNat = 48 + i := by simp [UInt8.toNat_ofNat']; omega
  rw [this, if_pos (by omega)]
  simp
theorem dec_app (a b : List UInt8) : ∀ acc, Lib.decFrom acc (a ++ b) = (Lib.decFrom acc a).bind fun m => Lib.decFrom m b := by
  induction a with
  | nil => intro acc; simp [Lib.decFrom]
  | cons c r ih =>
    intro acc
    simp only [List.cons_append, Lib.decFrom]
    cases Lib.digitVal c with
    | none => simp
    | some d => simp [ih]
theorem dec_dec : ∀ n : Nat, Lib.decFrom 0 (Lib.decDigits n) = some n := by
  intro n
  induction n using Nat.strongRecOn with
  | ind n ih =>
    by_cases h : n < 10
    · rw [Lib.decDigits_one h]
      show (match Lib.digitVal (UInt8.ofNat (48 + n)) with | some d => _ | none => _) = _
      rw [dig_val n h]
      simp [Lib.decFrom]
    · rw [Lib.decDigits, dif_neg h, dec_app, ih (n / 10) (by omega)]
      show (match Lib.digitVal (UInt8.ofNat (48 + n % 10)) with | some d => _ | none => _) = _
      rw [dig_val _ (by omega)]
      show some (n / 10 * 10 + n % 10) = some n
      congr 1
      omega
theorem dec_ne (n : Nat) : Lib.decDigits n ≠ [] := by
  intro h
  have := Lib.decDigits_length n
  rw [h] at this
  have := Lib.nDigits_pos n
  simp at *
  omega
theorem dig_bytes : ∀ n : Nat, ∀ c ∈ Lib.decDigits n, 48 ≤ c.toNat ∧ c.toNat ≤ 57 := by
  intro n
  induction n using Nat.strongRecOn with
  | ind n ih =>
    intro c hc
    have one : ∀ i, i < 10 → 48 ≤ (UInt8.ofNat (48 + i)).toNat ∧ (UInt8.ofNat (48 + i)).toNat ≤ 57 := by
      intro i hi
      have : (UInt8.ofNat (48 + i)).toNat = 48 + i := by simp [UInt8.toNat_ofNat']; omega
      omega
    by_cases h : n < 10
    · rw [Lib.decDigits_one h] at hc
      rw [List.mem_singleton.1 hc]
      exact one n h
    · rw [Lib.decDigits, dif_neg h, List.mem_append] at hc
      rcases hc with hc | hc
      · exact ih (n / 10) (by omega) c hc
      · rw [List.mem_singleton.1 hc]; exact one _ (by omega)
/-- the number that a part is read as -/
def num (l : List UInt8) : Int := match Lib.atoiAll l with
  | .ok v => v
  | .syntax => 0
  | .range => Lib.atoiSat l
theorem num_dec (n : Nat) (h : n ≤ 99999) : num (Lib.decDigits n) = (n : Int) := by
  have hl : (Lib.decDigits n).length ≤ 18 := by
    rw [Lib.decDigits_length]
    by_cases h0 : n < 10
    · rw [Lib.nDigits_small h0]; omega
    · have := Lib.nDigits_le20 n (by omega)
      have : 10 ^ Lib.nDigits (n) ≤ 10 ^ 5 * 10 := by
        have h5 : Lib.nDigits n ≤ 5 := by
          have e : ∀ m : Nat, m < 10 → Lib.nDigits m = 1 := fun m hm => Lib.nDigits_small hm
          by_cases h1 : n / 10 < 10
          · rw [Lib.nDigits_big h0, e _ h1]; omega
          rw [Lib.nDigits_big h0, Lib.nDigits_big h1]
          by_cases h2 : n / 10 / 10 < 10
          · rw [e _ h2]; omega
          rw [Lib.nDigits_big h2]
          by_cases h3 : n / 10 / 10 / 10 < 10
          · rw [e _ h3]; omega
          rw [Lib.nDigits_big h3, e _ (by omega)]; omega
        exact Nat.le_trans (Nat.pow_le_pow_right (by decide) h5) (by decide)
      by_cases h5 : Lib.nDigits n ≤ 18
      · exact h5
      · have := Nat.pow_le_pow_right (n := 10) (by decide) (show 19 ≤ Lib.nDigits n by omega)
        omega
  unfold num
  rw [Lib.atoiAll_short _ hl]
  have hd : Lib.atoi (Lib.decDigits n) = some (n : Int) := by
    cases hc : Lib.decDigits n with
    | nil => exact absurd hc (dec_ne n)
    | cons c r =>
      have hb := dig_bytes n c (by rw [hc]; simp)
      have h45 : ¬ c = 45 := fun e => by subst e; simp at hb
      have h43 : ¬ c = 43 := fun e => by subst e; simp at hb
      have hv : Lib.decNat (c :: r) = some n := by
        unfold Lib.decNat
        rw [← hc, dec_dec]
        simp [dec_ne]
      simp [Lib.atoi, h45, h43, hv]
  rw [hd]
  rfl

/-! ### entries, runs, their lines -/
structure En where
  k : Int
  w : Int
deriving DecidableEq
def En.ok (e : En) : Prop := (1 ≤ e.k ∧ e.k ≤ 4) ∧ ((e.k = 1 ∨ e.k = 4) → 0 ≤ e.w ∧ e.w ≤ 255) ∧ (¬ (e.k = 1 ∨ e.k = 4) → e.w = 0)
instance (e : En) : Decidable e.ok := by unfold En.ok; infer_instance
/-- the entries' words, by their kinds -/
def kwS : Nat → List UInt8
  | 0 => []
  | 1 => [115, 116, 101, 112]
  | 2 => [109, 111, 110]
  | 3 => [116, 105, 99, 107]
  | _ => [114, 101, 116, 117, 114, 110]
def ahead (e : En) : List UInt8 := kwS e.k.toNat ++ (if e.k = 1 ∨ e.k = 4 then 32 :: Lib.decDigits e.w.toNat else [])
def behind (n : Int) : List UInt8 := if 1 < n then [32, 120, 32] ++ Lib.decDigits n.toNat else []
/-- a run's line -/
def lnR (e : En) (n : Int) : List UInt8 := ahead e ++ behind n
/-- the kind of a word; -1: it has none -/
def kindS (s : List UInt8) : Int := match (List.range 5).find? fun i => kwS i == s with
  | some i => (i : Int)
  | none => -1
/-- strings.Cut -/
def cutL (s sep : List UInt8) : List UInt8 × List UInt8 × Bool := if Lib.index s sep = -1 then (s, [], false) else (s.take (Lib.index s sep).toNat, s.drop ((Lib.index s sep).toNat + sep.length), true)
def candE (one : List UInt8) : En := ⟨kindS (cutL one [32]).1, num (cutL one [32]).2.1⟩
/-- the run that a line is read as -/
def candR (s : List UInt8) : En × Int := (candE (cutL s [32, 120, 32]).1, if (cutL s [32, 120, 32]).2.2 = true then num (cutL s [32, 120, 32]).2.1 else 1)
def rdr (s : List UInt8) : Option (En × Int) := if (candR s).1.ok ∧ (candR s).2 ≤ 65536 ∧ lnR (candR s).1 (candR s).2 = s then some (candR s) else none

theorem kwS_plain (k : Nat) : ∀ c ∈ kwS k, 97 ≤ c.toNat ∧ c.toNat ≤ 117 := by
  unfold kwS
  split <;> decide
theorem kwS_no (n : Nat) (c : UInt8) (hc : c.toNat < 97 ∨ 117 < c.toNat) : c ∉ kwS n := fun h => by have := kwS_plain n c h; omega
theorem kindS_kw (k : Nat) (h : k ≤ 4) : kindS (kwS k) = (k : Int) := by
  have : ∀ i : Fin 5, kindS (kwS i.val) = (i.val : Int) := by decide +kernel
  exact this ⟨k, by omega⟩
theorem dig_no2 (n : Nat) (c : UInt8) (hc : c.toNat < 48 ∨ 57 < c.toNat) : c ∉ Lib.decDigits n := fun h => by have := dig_bytes n c h; omega
theorem ahead_no (e : En) : (120 : UInt8) ∉ ahead e ∧ (10 : UInt8) ∉ ahead e := by
  unfold ahead
  constructor
  · rw [List.mem_append]
    rintro (h | h)
    · exact kwS_no _ _ (by decide) h
    · split at h
      · rcases List.mem_cons.1 h with h | h
        · exact absurd h (by decide)
        · exact dig_no2 _ _ (by decide) h
      · simp at h
  · rw [List.mem_append]
    rintro (h | h)
    · exact kwS_no _ _ (by decide) h
    · split at h
      · rcases List.mem_cons.1 h with h | h
        · exact absurd h (by decide)
        · exact dig_no2 _ _ (by decide) h
      · simp at h
theorem occ_no {s sub : List UInt8} {i : Nat} {c : UInt8} {m : Nat} (hm : sub[m]? = some c) (h : s[i + m]? ≠ some c) : Lib.occAt s sub i = false := by
  rw [Bool.eq_false_iff]
  intro ho
  unfold Lib.occAt at ho
  rw [List.isPrefixOf_iff_prefix] at ho
  obtain ⟨r, hr⟩ := ho
  apply h
  have hl : m < sub.length := by
    rcases Nat.lt_or_ge m sub.length with h | h
    · exact h
    · rw [List.getElem?_eq_none h] at hm; cases hm
  have := congrArg (·[m]?) hr
  simp only [List.getElem?_append_left hl, List.getElem?_drop] at this
  rw [← this]; exact hm
theorem occ_yes (a b sub : List UInt8) : Lib.occAt (a ++ sub ++ b) sub a.length = true := by
  unfold Lib.occAt
  rw [List.isPrefixOf_iff_prefix]
  refine ⟨b, ?_⟩
  simp
theorem ix3_none {s : List UInt8} (h : (120 : UInt8) ∉ s) : Lib.index s [32, 120, 32] = -1 := by
  apply Lib.index_none
  intro j _
  refine occ_no (c := 120) (m := 1) rfl ?_
  intro e
  exact h (List.mem_of_getElem? e)
theorem ix3_app {a b : List UInt8} (h : (120 : UInt8) ∉ a) : Lib.index (a ++ [32, 120, 32] ++ b) [32, 120, 32] = (a.length : Int) := by
  apply Lib.index_first
  · simp
  · exact occ_yes a b _
  · intro j hj
    refine occ_no (c := 120) (m := 1) rfl ?_
    intro e
    rw [List.append_assoc] at e
    by_cases h1 : j + 1 < a.length
    · rw [List.getElem?_append_left h1] at e
      exact h (List.mem_of_getElem? e)
    · have h2 : j + 1 = a.length := by omega
      rw [h2, List.getElem?_append_right (Nat.le_refl _)] at e
      simp at e
theorem ix1_none {s : List UInt8} {c : UInt8} (h : c ∉ s) : Lib.index s [c] = -1 := by
  apply Lib.index_none
  intro j _
  refine occ_no (c := c) (m := 0) rfl ?_
  intro e
  exact h (List.mem_of_getElem? e)
theorem ix1_app {a b : List UInt8} {c : UInt8} (h : c ∉ a) : Lib.index (a ++ [c] ++ b) [c] = (a.length : Int) := by
  apply Lib.index_first
  · simp
  · exact occ_yes a b _
  · intro j hj
    refine occ_no (c := c) (m := 0) rfl ?_
    intro e
    rw [List.append_assoc, Nat.add_zero, List.getElem?_append_left hj] at e
    exact h (List.mem_of_getElem? e)
theorem cut_hit {s a b sep : List UInt8} (hs : s = a ++ sep ++ b) (h : Lib.index s sep = (a.length : Int)) : cutL s sep = (a, b, true) := by
  unfold cutL
  rw [h, if_neg (by omega)]
  subst hs
  have e1 : ((a.length : Int)).toNat = a.length := by omega
  rw [e1]
  congr 1
  · simp
  · congr 1
    rw [← List.length_append]; simp
theorem cut_miss {s sep : List UInt8} (h : Lib.index s sep = -1) : cutL s sep = (s, [], false) := by
  unfold cutL; rw [if_pos h]
theorem num_nat {z : Int} (h : 0 ≤ z ∧ z ≤ 99999) : num (Lib.decDigits z.toNat) = z := by
  rw [num_dec _ (by omega)]; omega
theorem candE_ahead (e : En) (h : e.ok) : candE (ahead e) = e := by
  obtain ⟨k, w⟩ := e
  obtain ⟨hk, h1, h2⟩ := h
  simp only at hk h1 h2
  have hkk : kindS (kwS k.toNat) = k := by rw [kindS_kw _ (by omega)]; omega
  unfold candE ahead
  by_cases hw : k = 1 ∨ k = 4
  · simp only [if_pos hw]
    rw [cut_hit (a := kwS k.toNat) (b := Lib.decDigits w.toNat) (by simp) (by
      have := ix1_app (a := kwS k.toNat) (b := Lib.decDigits w.toNat) (c := 32) (kwS_no _ _ (by decide))
      simpa using this)]
    simp only [hkk]
    rw [num_nat (by have := h1 hw; omega)]
  · simp only [if_neg hw, List.append_nil]
    rw [cut_miss (ix1_none (kwS_no _ _ (by decide)))]
    simp only [hkk]
    rw [h2 hw]
    rfl
theorem candR_ln (e : En) (n : Int) (h : e.ok) (hn : 1 ≤ n ∧ n ≤ 65536) : candR (lnR e n) = (e, n) := by
  unfold candR lnR behind
  by_cases h1 : 1 < n
  · rw [if_pos h1]
    rw [cut_hit (s := ahead e ++ ([32, 120, 32] ++ Lib.decDigits n.toNat)) (a := ahead e) (b := Lib.decDigits n.toNat) (by simp) (by
      have := ix3_app (a := ahead e) (b := Lib.decDigits n.toNat) (ahead_no e).1
      rw [← List.append_assoc]; exact this)]
    simp only [if_true]
    rw [candE_ahead e h, num_nat (by omega)]
  · rw [if_neg h1, List.append_nil, cut_miss (ix3_none (ahead_no e).1)]
    simp only
    rw [candE_ahead e h]
    simp; omega
theorem rdr_ln (e : En) (n : Int) (h : e.ok) (hn : 1 ≤ n ∧ n ≤ 65536) : rdr (lnR e n) = some (e, n) := by
  unfold rdr
  rw [candR_ln e n h hn, if_pos ⟨h, hn.2, rfl⟩]
theorem rdr_some {s : List UInt8} {e : En} {n : Int} (h : rdr s = some (e, n)) : e.ok ∧ lnR e n = s ∧ 1 ≤ n ∧ n ≤ 65536 := by
  unfold rdr at h
  split at h
  · rename_i hh
    obtain ⟨h1, h2, h3⟩ := hh
    have he : candR s = (e, n) := Option.some.inj h
    rw [he] at h1 h2 h3
    refine ⟨h1, h3, ?_, h2⟩
    by_cases hn : 1 ≤ n
    · exact hn
    · exfalso
      have hb : behind n = [] := if_neg (by omega)
      have hx : (120 : UInt8) ∉ s := by
        rw [← h3]; unfold lnR; simp only at hb ⊢; rw [hb, List.append_nil]; exact (ahead_no e).1
      have hc := cut_miss (ix3_none hx)
      have : (candR s).2 = 1 := by unfold candR; rw [hc]; simp
      rw [he] at this
      simp only at this
      omega
  · cases h
theorem lnR_no (e : En) (n : Int) : (10 : UInt8) ∉ lnR e n := by
  unfold lnR behind
  rw [List.mem_append]
  rintro (h | h)
  · exact (ahead_no e).2 h
  · split at h
    · rw [List.mem_append] at h
      rcases h with h | h
      · exact absurd h (by decide)
      · exact dig_no2 _ _ (by decide) h
    · simp at h
/-! ### lines -/
/-- the lines of a text, each with its line feed (the last one may have none) -/
def lns : Nat → List UInt8 → List (List UInt8)
  | 0, _ => []
  | f + 1, s => if s = [] then [] else
      if Lib.indexByte s 10 = -1 then [s] else s.take ((Lib.indexByte s 10).toNat + 1) :: lns f (s.drop ((Lib.indexByte s 10).toNat + 1))
theorem ib_none {s : List UInt8} {c : UInt8} (h : c ∉ s) : Lib.indexByte s c = -1 := by
  induction s with
  | nil => rfl
  | cons a l ih =>
    rw [List.mem_cons, not_or] at h
    unfold Lib.indexByte
    rw [ih h.2]
    have : ¬ (a == c) = true := by rw [beq_iff_eq]; exact fun e => h.1 e.symm
    rw [if_neg this]; rfl
theorem ib_app {a b : List UInt8} {c : UInt8} (h : c ∉ a) : Lib.indexByte (a ++ c :: b) c = (a.length : Int) := by
  induction a with
  | nil => simp [Lib.indexByte]
  | cons x l ih =>
    rw [List.mem_cons, not_or] at h
    rw [List.cons_append]
    unfold Lib.indexByte
    rw [ih h.2]
    have : ¬ (x == c) = true := by rw [beq_iff_eq]; exact fun e => h.1 e.symm
    rw [if_neg this]
    have h2 : ¬ ((l.length : Int) == -1) = true := by rw [beq_iff_eq]; omega
    rw [if_neg h2]; simp
theorem ib_cases (s : List UInt8) (c : UInt8) : (c ∉ s ∧ Lib.indexByte s c = -1) ∨ ∃ a b, s = a ++ c :: b ∧ c ∉ a ∧ Lib.indexByte s c = (a.length : Int) := by
  by_cases h : c ∈ s
  · right
    obtain ⟨a, b, rfl, hn⟩ := List.eq_append_cons_of_mem h
    exact ⟨a, b, rfl, hn, ib_app hn⟩
  · exact .inl ⟨h, ib_none h⟩
theorem lns_cons (f : Nat) (a b : List UInt8) (h : (10 : UInt8) ∉ a) : lns (f + 1) (a ++ 10 :: b) = (a ++ [10]) :: lns f b := by
  rw [lns, ib_app h, if_neg (by simp), if_neg (by omega)]
  have e1 : ((a.length : Int)).toNat + 1 = a.length + 1 := by omega
  rw [e1]
  have e2 : (a ++ 10 :: b).take (a.length + 1) = a ++ [10] := by
    rw [List.take_append, List.take_of_length_le (by omega)]; simp
  have e3 : (a ++ 10 :: b).drop (a.length + 1) = b := by simp
  rw [e2, e3]
theorem suf_yes (a : List UInt8) : Lib.hasSuffix (a ++ [10]) [10] = true := by
  unfold Lib.hasSuffix
  rw [List.isSuffixOf_iff_suffix]
  exact ⟨a, rfl⟩
theorem suf_no {s : List UInt8} (h : (10 : UInt8) ∉ s) : Lib.hasSuffix s [10] = false := by
  rw [Bool.eq_false_iff]
  intro e
  unfold Lib.hasSuffix at e
  rw [List.isSuffixOf_iff_suffix] at e
  obtain ⟨t, rfl⟩ := e
  exact h (by simp)
theorem trim_yes (a : List UInt8) : Lib.trimSuffix (a ++ [10]) [10] = a := by
  unfold Lib.trimSuffix
  rw [if_pos (suf_yes a)]; simp

/-! ### runs -/
/-- how many entries ahead are this one -/
def same1 (e : En) : List En → Nat
  | [] => 0
  | x :: l => if x = e then same1 e l + 1 else 0
theorem same1_le (e : En) (l : List En) : same1 e l ≤ l.length := by
  induction l with
  | nil => simp [same1]
  | cons x l ih => simp only [same1, List.length_cons]; split <;> omega
/-- the runs of equal entries, each as long as it can be -/
def grp : Nat → List En → List (En × Nat)
  | 0, _ => []
  | _, [] => []
  | f + 1, e :: l => (e, same1 e l + 1) :: grp f (l.drop (same1 e l))
def expand : List (En × Nat) → List En
  | [] => []
  | (e, n) :: r => List.replicate n e ++ expand r
/-- neighbours differ -/
def Adj : List (En × Nat) → Prop
  | [] => True
  | (e, n) :: r => 1 ≤ n ∧ (∀ x, (expand r).head? = some x → x ≠ e) ∧ Adj r
theorem same1_rep (e : En) (n : Nat) (l : List En) (h : ∀ x, l.head? = some x → x ≠ e) : same1 e (List.replicate n e ++ l) = n := by
  induction n with
  | zero =>
    cases l with
    | nil => rfl
    | cons x l => simp only [List.replicate_zero, List.nil_append, same1]; rw [if_neg (h x rfl)]
  | succ n ih =>
    rw [List.replicate_succ, List.cons_append]
    simp only [same1]
    rw [if_pos trivial, ih]
theorem grp_expand (r : List (En × Nat)) : ∀ f, Adj r → (expand r).length ≤ f → grp f (expand r) = r := by
  induction r with
  | nil => intro f _ _; cases f <;> rfl
  | cons p r ih =>
    intro f h hf
    obtain ⟨e, n⟩ := p
    obtain ⟨h1, h2, h3⟩ := h
    obtain ⟨m, rfl⟩ : ∃ m, n = m + 1 := ⟨n - 1, by omega⟩
    have hx : expand ((e, m + 1) :: r) = e :: (List.replicate m e ++ expand r) := by
      show List.replicate (m + 1) e ++ expand r = _
      rw [List.replicate_succ, List.cons_append]
    rw [hx] at hf ⊢
    cases f with
    | zero => simp at hf
    | succ f =>
      show (e, same1 e (List.replicate m e ++ expand r) + 1) :: grp f ((List.replicate m e ++ expand r).drop (same1 e (List.replicate m e ++ expand r))) = _
      rw [same1_rep e m _ h2]
      have hd : (List.replicate m e ++ expand r).drop m = expand r := by simp
      rw [hd, ih f h3 (by simp at hf; omega)]
theorem same1_take (e : En) (l : List En) : l.take (same1 e l) = List.replicate (same1 e l) e := by
  induction l with
  | nil => simp [same1]
  | cons x l ih =>
    simp only [same1]
    split
    · rename_i h; subst h; rw [List.take_succ_cons, List.replicate_succ, ih]
    · simp
theorem same1_drop (e : En) (l : List En) : ∀ x, (l.drop (same1 e l)).head? = some x → x ≠ e := by
  induction l with
  | nil => intro x h; simp [same1] at h
  | cons y l ih =>
    intro x h
    simp only [same1] at h
    split at h
    · exact ih x (by simpa using h)
    · rename_i hy
      simp at h; subst h; exact hy
theorem expand_grp : ∀ (f : Nat) (l : List En), l.length ≤ f → expand (grp f l) = l ∧ Adj (grp f l) := by
  intro f
  induction f with
  | zero =>
    intro l hl
    have : l = [] := List.eq_nil_of_length_eq_zero (by omega)
    subst this
    exact ⟨rfl, trivial⟩
  | succ f ih =>
    intro l hl
    cases l with
    | nil => exact ⟨rfl, trivial⟩
    | cons e l =>
      obtain ⟨h1, h2⟩ := ih (l.drop (same1 e l)) (by simp at hl ⊢; omega)
      constructor
      · show List.replicate (same1 e l + 1) e ++ expand (grp f (l.drop (same1 e l))) = _
        rw [h1, List.replicate_succ, List.cons_append, ← same1_take, List.take_append_drop]
      · refine ⟨by omega, ?_, h2⟩
        rw [h1]
        exact same1_drop e l
/-- the text of runs -/
def wrR : List (En × Nat) → List UInt8
  | [] => []
  | (e, n) :: r => lnR e (n : Int) ++ 10 :: wrR r
/-- the text of entries -/
def wrS (l : List En) : List UInt8 := wrR (grp l.length l)
def okR (r : List (En × Nat)) : Prop := ∀ p ∈ r, p.1.ok
/-- one more line -/
def takeS (acc : List En) (x : List UInt8) : Option (List En) :=
  if Lib.hasSuffix x [10] = true then match rdr (Lib.trimSuffix x [10]) with
    | none => none
    | some (e, n) => if 65536 < acc.length + n.toNat ∨ acc.getLast? = some e then none else some (acc ++ List.replicate n.toNat e)
  else none
def goesS : List En → List (List UInt8) → Option (List En)
  | acc, [] => some acc
  | acc, x :: r => match takeS acc x with
    | none => none
    | some a => goesS a r
theorem goesS_app (p : List (List UInt8)) : ∀ (acc : List En) (r : List (List UInt8)), goesS acc (p ++ r) = match goesS acc p with
    | none => none
    | some a => goesS a r := by
  induction p with
  | nil => intro acc r; rfl
  | cons x p ih =>
    intro acc r
    simp only [List.cons_append, goesS]
    cases takeS acc x with
    | none => rfl
    | some a => exact ih a r
theorem goesS_one (p : List (List UInt8)) (acc a : List En) (x : List UInt8) (h : goesS acc p = some a) : goesS acc (p ++ [x]) = takeS a x := by
  rw [goesS_app, h]
  show (match takeS a x with | none => none | some a => goesS a []) = _
  cases takeS a x <;> rfl
theorem goesS_cut {p : List (List UInt8)} {acc : List En} {l : List (List UInt8)} (h : goesS acc p = none) (hp : p <+: l) : goesS acc l = none := by
  obtain ⟨r, rfl⟩ := hp
  rw [goesS_app, h]
theorem last_rep (acc : List En) (n : Nat) (e : En) (h : 1 ≤ n) : (acc ++ List.replicate n e).getLast? = some e := by
  obtain ⟨m, rfl⟩ : ∃ m, n = m + 1 := ⟨n - 1, by omega⟩
  rw [List.replicate_succ', ← List.append_assoc, List.getLast?_append]; simp
theorem goesS_wr (r : List (En × Nat)) : ∀ (acc : List En) (f : Nat), okR r → Adj r → acc.length + (expand r).length ≤ 65536 → (∀ x, (expand r).head? = some x → acc.getLast? ≠ some x) → (wrR r).length ≤ f → goesS acc (lns f (wrR r)) = some (acc ++ expand r) := by
  induction r with
  | nil =>
    intro acc f _ _ _ _ _
    have : lns f (wrR []) = [] := by cases f <;> simp [lns, wrR]
    rw [this]; simp [goesS, expand]
  | cons p r ih =>
    intro acc f ho ha hl hh hf
    obtain ⟨e, n⟩ := p
    obtain ⟨h1, h2, h3⟩ := ha
    have hx : expand ((e, n) :: r) = List.replicate n e ++ expand r := rfl
    cases f with
    | zero => simp [wrR] at hf
    | succ f =>
      show goesS acc (lns (f + 1) (lnR e (n : Int) ++ 10 :: wrR r)) = _
      rw [lns_cons f _ _ (lnR_no e n)]
      rw [hx] at hl hh
      simp only [List.length_append, List.length_replicate] at hl
      have hhd : (List.replicate n e ++ expand r).head? = some e := by
        obtain ⟨m, rfl⟩ : ∃ m, n = m + 1 := ⟨n - 1, by omega⟩
        simp [List.replicate_succ]
      have h4 : takeS acc (lnR e (n : Int) ++ [10]) = some (acc ++ List.replicate n e) := by
        unfold takeS
        rw [if_pos (suf_yes _), trim_yes, rdr_ln e n (ho (e, n) (by simp)) (by omega)]
        simp only [Int.toNat_natCast]
        rw [if_neg]
        rintro (h | h)
        · omega
        · exact hh e hhd h
      simp only [goesS, h4]
      rw [ih (acc ++ List.replicate n e) f (fun q hq => ho q (by simp [hq])) h3 (by simp; omega) (fun x hx2 => by rw [last_rep _ _ _ h1]; intro he; exact h2 x hx2 (Option.some.inj he).symm) (by simp [wrR] at hf; omega)]
      rw [hx, List.append_assoc]
theorem goesS_some (f : Nat) : ∀ (s : List UInt8) (acc l : List En), goesS acc (lns f s) = some l → s.length ≤ f → acc.length ≤ 65536 → ∃ r, l = acc ++ expand r ∧ okR r ∧ Adj r ∧ (∀ x, (expand r).head? = some x → acc.getLast? ≠ some x) ∧ wrR r = s ∧ l.length ≤ 65536 := by
  induction f with
  | zero =>
    intro s acc l h hs ha
    have : s = [] := List.eq_nil_of_length_eq_zero (by omega)
    subst this
    simp only [lns, goesS, Option.some.injEq] at h
    exact ⟨[], by simp [expand, h], by intro p hp; simp at hp, trivial, by intro x hx; simp [expand] at hx, rfl, by rw [← h]; exact ha⟩
  | succ f ih =>
    intro s acc l h hs ha
    by_cases hn : s = []
    · subst hn
      simp only [lns, if_true, goesS, Option.some.injEq] at h
      exact ⟨[], by simp [expand, h], by intro p hp; simp at hp, trivial, by intro x hx; simp [expand] at hx, rfl, by rw [← h]; exact ha⟩
    rcases ib_cases s 10 with ⟨hm, hi⟩ | ⟨a, b, rfl, hm, hi⟩
    · rw [lns, if_neg hn, hi, if_pos rfl] at h
      simp only [goesS, takeS, suf_no hm] at h
      simp at h
    · rw [lns_cons f a b hm] at h
      simp only [goesS, takeS, suf_yes, trim_yes, if_true] at h
      cases hr : rdr a with
      | none => rw [hr] at h; simp at h
      | some p =>
        obtain ⟨e, n⟩ := p
        rw [hr] at h
        simp only at h
        obtain ⟨hok, hln, hn1, hn2⟩ := rdr_some hr
        by_cases hc : 65536 < acc.length + n.toNat ∨ acc.getLast? = some e
        · rw [if_pos hc] at h; simp at h
        · rw [if_neg hc] at h
          rw [not_or] at hc
          obtain ⟨r, rfl, h1, h2, h3, h4, h5⟩ := ih b (acc ++ List.replicate n.toNat e) l h (by simp at hs; omega) (by simp; omega)
          refine ⟨(e, n.toNat) :: r, by simp [expand], ?_, ?_, ?_, ?_, h5⟩
          · intro p hp
            rcases List.mem_cons.1 hp with rfl | hp
            · exact hok
            · exact h1 p hp
          · refine ⟨by omega, fun x hx he => ?_, h2⟩
            have := h3 x hx
            rw [last_rep _ _ _ (by omega)] at this
            exact this (by rw [he])
          · intro x hx
            have hh : (expand ((e, n.toNat) :: r)).head? = some e := by
              obtain ⟨m, hm2⟩ : ∃ m, n.toNat = m + 1 := ⟨n.toNat - 1, by omega⟩
              show (List.replicate n.toNat e ++ expand r).head? = _
              rw [hm2]; simp [List.replicate_succ]
            rw [hh] at hx
            cases hx
            exact hc.2
          · show lnR e ((n.toNat : Nat) : Int) ++ 10 :: wrR r = _
            rw [h4, show ((n.toNat : Nat) : Int) = n by omega, hln]
def rdS (s : List UInt8) : Option (List En) := goesS [] (lns s.length s)
def oksS (l : List En) : Prop := ∀ e ∈ l, e.ok
theorem okR_grp {l : List En} (h : oksS l) : okR (grp l.length l) := by
  intro p hp
  have hx := (expand_grp l.length l (Nat.le_refl _))
  have : ∀ (r : List (En × Nat)), Adj r → ∀ p ∈ r, p.1 ∈ expand r := by
    intro r
    induction r with
    | nil => intro _ p hp; simp at hp
    | cons q r ih =>
      intro ha p hp
      obtain ⟨e, n⟩ := q
      show p.1 ∈ List.replicate n e ++ expand r
      rcases List.mem_cons.1 hp with rfl | hp
      · rw [List.mem_append, List.mem_replicate]; exact .inl ⟨by have := ha.1; omega, rfl⟩
      · exact List.mem_append_right _ (ih ha.2.2 p hp)
  have h2 := this _ hx.2 p hp
  rw [hx.1] at h2
  exact h _ h2
theorem oksS_expand {r : List (En × Nat)} (h : okR r) : oksS (expand r) := by
  induction r with
  | nil => intro e he; simp [expand] at he
  | cons q r ih =>
    obtain ⟨e, n⟩ := q
    intro x hx
    rcases List.mem_append.1 (show x ∈ List.replicate n e ++ expand r from hx) with hx | hx
    · rw [List.mem_replicate] at hx; rw [hx.2]; exact h (e, n) (by simp)
    · exact ih (fun p hp => h p (by simp [hp])) x hx
theorem rdS_wr {l : List En} (h : oksS l) (hl : l.length ≤ 65536) : rdS (wrS l) = some l := by
  obtain ⟨h1, h2⟩ := expand_grp l.length l (Nat.le_refl _)
  have := goesS_wr (grp l.length l) [] (wrS l).length (okR_grp h) h2 (by rw [h1]; simpa using hl) (by simp) (Nat.le_refl _)
  rw [h1] at this
  simpa [rdS, wrS] using this
theorem rdS_some {s : List UInt8} {l : List En} (h : rdS s = some l) : oksS l ∧ wrS l = s ∧ l.length ≤ 65536 := by
  obtain ⟨r, e, h1, h2, _, h4, h5⟩ := goesS_some s.length s [] l h (Nat.le_refl _) (by simp)
  simp only [List.nil_append] at e
  subst e
  refine ⟨oksS_expand h1, ?_, h5⟩
  unfold wrS
  rw [grp_expand r _ h2 (Nat.le_refl _)]
  exact h4
end Go.Proofs.YtemdhcegelddlaaDoor
