/- Lines and texts of events, as lists of bytes: what is written is read. -/
import Derived.Test.YtalilnnjpemmlaaDoorR2
import Derived.Lib.Split
import Derived.Lib.AtoiTie
namespace Go.Proofs.YtalilnnjpemmlaaDoor
open Go Go.RowKit
set_option linter.unusedVariables false
set_option linter.unusedSimpArgs false

/-- an event's line, without its line feed -/
def ln (e : Ev) : List UInt8 := ((kw e.k.toNat ++ pt 103 e.g.toNat) ++ (if e.o = -1 then [] else pt 103 e.o.toNat) ++ pt 116 e.t.toNat) ++ (if e.p = -1 then [] else pt 112 e.p.toNat)
/-! ### digits -/
theorem dig_val (i : Nat) (h : i < 10) : Lib.digitVal (UInt8.ofNat (48 + i)) = some i := by
  unfold Lib.digitVal
  have : (UInt8.ofNat (48 + i)).toNat = 48 + i := by simp [UInt8.toNat_ofNat']; omega
  rw [this, if_pos (by omega)]
  simp
theorem dec_app (a b : List UInt8) : ∀ acc, Lib.decFrom acc (a ++ b) = (Lib.decFrom acc a).bind fun m => Lib.decFrom m b := by
  induction a with
  | nil => intro acc; simp [Lib.decFrom]
  | cons c r ih =>
    intro acc
    simp only [List.cons_append, Lib.decFrom]
    cases Lib.digitVal c with
    | none => simp
    | some d => simp [ih]
theorem dec_dec : ∀ n : Nat, Lib.decFrom 0 (Lib.decDigits n) = some n := by
  intro n
  induction n using Nat.strongRecOn with
  | ind n ih =>
    by_cases h : n < 10
    · rw [Lib.decDigits_one h]
      show (match Lib.digitVal (UInt8.ofNat (48 + n)) with | some d => _ | none => _) = _
      rw [dig_val n h]
      simp [Lib.decFrom]
    · rw [Lib.decDigits, dif_neg h, dec_app, ih (n / 10) (by omega)]
      show (match Lib.digitVal (UInt8.ofNat (48 + n % 10)) with | some d => _ | none => _) = _
      rw [dig_val _ (by omega)]
      show some (n / 10 * 10 + n % 10) = some n
      congr 1
      omega
theorem dec_ne (n : Nat) : Lib.decDigits n ≠ [] := by
  intro h
  have := Lib.decDigits_length n
  rw [h] at this
  have := Lib.nDigits_pos n
  simp at *
  omega
theorem dig_bytes : ∀ n : Nat, ∀ c ∈ Lib.decDigits n, 48 ≤ c.toNat ∧ c.toNat ≤ 57 := by
  intro n
  induction n using Nat.strongRecOn with
  | ind n ih =>
    intro c hc
    have one : ∀ i, i < 10 → 48 ≤ (UInt8.ofNat (48 + i)).toNat ∧ (UInt8.ofNat (48 + i)).toNat ≤ 57 := by
      intro i hi
      have : (UInt8.ofNat (48 + i)).toNat = 48 + i := by simp [UInt8.toNat_ofNat']; omega
      omega
    by_cases h : n < 10
    · rw [Lib.decDigits_one h] at hc
      rw [List.mem_singleton.1 hc]
      exact one n h
    · rw [Lib.decDigits, dif_neg h, List.mem_append] at hc
      rcases hc with hc | hc
      · exact ih (n / 10) (by omega) c hc
      · rw [List.mem_singleton.1 hc]; exact one _ (by omega)
/-- the number that a part is read as -/
def num (l : List UInt8) : Int := match Lib.atoiAll l with
  | .ok v => v
  | .syntax => 0
  | .range => Lib.atoiSat l
theorem num_dec (n : Nat) (h : n ≤ 65535) : num (Lib.decDigits n) = (n : Int) := by
  have hl : (Lib.decDigits n).length ≤ 18 := by
    rw [Lib.decDigits_length]
    by_cases h0 : n < 10
    · rw [Lib.nDigits_small h0]; omega
    · have := Lib.nDigits_le20 n (by omega)
      have : 10 ^ Lib.nDigits (n) ≤ 10 ^ 5 * 10 := by
        have h5 : Lib.nDigits n ≤ 5 := by
          have e : ∀ m : Nat, m < 10 → Lib.nDigits m = 1 := fun m hm => Lib.nDigits_small hm
          by_cases h1 : n / 10 < 10
          · rw [Lib.nDigits_big h0, e _ h1]; omega
          rw [Lib.nDigits_big h0, Lib.nDigits_big h1]
          by_cases h2 : n / 10 / 10 < 10
          · rw [e _ h2]; omega
          rw [Lib.nDigits_big h2]
          by_cases h3 : n / 10 / 10 / 10 < 10
          · rw [e _ h3]; omega
          rw [Lib.nDigits_big h3, e _ (by omega)]; omega
        exact Nat.le_trans (Nat.pow_le_pow_right (by decide) h5) (by decide)
      by_cases h5 : Lib.nDigits n ≤ 18
      · exact h5
      · have := Nat.pow_le_pow_right (n := 10) (by decide) (show 19 ≤ Lib.nDigits n by omega)
        omega
  unfold num
  rw [Lib.atoiAll_short _ hl]
  have hd : Lib.atoi (Lib.decDigits n) = some (n : Int) := by
    cases hc : Lib.decDigits n with
    | nil => exact absurd hc (dec_ne n)
    | cons c r =>
      have hb := dig_bytes n c (by rw [hc]; simp)
      have h45 : ¬ c = 45 := fun e => by subst e; simp at hb
      have h43 : ¬ c = 43 := fun e => by subst e; simp at hb
      have hv : Lib.decNat (c :: r) = some n := by
        unfold Lib.decNat
        rw [← hc, dec_dec]
        simp [dec_ne]
      simp [Lib.atoi, h45, h43, hv]
  rw [hd]
  rfl
/-! ### splitting at a byte -/
theorem occ_one (s : List UInt8) (c : UInt8) (i : Nat) : Lib.occAt s [c] i = (s[i]? == some c) := by
  unfold Lib.occAt
  cases h : s.drop i with
  | nil =>
    have : s[i]? = none := by
      rw [List.getElem?_eq_none]; exact List.drop_eq_nil_iff.1 h
    simp [this]
  | cons a l =>
    have : s[i]? = some a := by
      have := congrArg (·[0]?) h
      simpa [List.getElem?_drop] using this
    rw [this]
    rw [Bool.eq_iff_iff, beq_iff_eq]
    show (c == a && List.isPrefixOf [] l) = true ↔ _
    rw [List.isPrefixOf_nil_left, Bool.and_true, beq_iff_eq, Option.some.injEq]
    exact eq_comm
theorem ix_none {s : List UInt8} {c : UInt8} (h : c ∉ s) : Lib.index s [c] = -1 := by
  apply Lib.index_none
  intro j _
  rw [occ_one]
  rw [beq_eq_false_iff_ne]
  intro e
  exact h (List.mem_of_getElem? e)
theorem ix_app {a b : List UInt8} {c : UInt8} (h : c ∉ a) : Lib.index (a ++ c :: b) [c] = (a.length : Int) := by
  apply Lib.index_first
  · simp
  · rw [occ_one]; simp
  · intro j hj
    rw [occ_one, beq_eq_false_iff_ne, List.getElem?_append_left hj]
    intro e
    exact h (List.mem_of_getElem? e)
/-- the pieces between the spaces -/
def spl (s : List UInt8) : List (List UInt8) := Lib.split s [32]
theorem spl_none {s : List UInt8} (h : (32 : UInt8) ∉ s) : spl s = [s] := by
  unfold spl Lib.split
  rw [Lib.count_miss (ix_none h)]
  rfl
theorem spl_app {a b : List UInt8} (h : (32 : UInt8) ∉ a) : spl (a ++ 32 :: b) = a :: spl b := by
  unfold spl Lib.split
  have hd : (a ++ 32 :: b).drop (a.length + 1) = b := by simp
  rw [Lib.count_hit (by simp) (ix_app h)]
  simp only [List.length_cons, List.length_nil, Nat.zero_add]
  rw [hd, Nat.add_comm, Lib.splitK, ix_app h]
  have hne : ¬ ((a.length : Int) == -1) = true := by rw [beq_iff_eq]; omega
  rw [if_neg hne]
  simp
theorem spl_ne (s : List UInt8) : spl s ≠ [] := by
  unfold spl Lib.split
  cases Lib.count s [32] with
  | zero => simp [Lib.splitK]
  | succ k => unfold Lib.splitK; split <;> simp
/-! ### the parts of a line -/
/-- a part's letter and number -/
def rpt (p : List UInt8) : List UInt8 × Int := (p.take 1, num (p.drop 1))
/-- what a part does to the event so far -/
def step (e : Ev) (p : List UInt8) : Ev :=
  if p.take 1 = [103] then (if e.g = -1 then { e with g := num (p.drop 1) } else { e with o := num (p.drop 1) })
  else if p.take 1 = [116] then { e with t := num (p.drop 1) }
  else if p.take 1 = [112] then { e with p := num (p.drop 1) }
  else e
/-- the kind of a word -/
def kind (s : List UInt8) : Nat := ((List.range 12).find? fun i => kw i == s).getD 0
/-- the event that a line is read as -/
def cand (s : List UInt8) : Ev := (spl s).tail.foldl step ⟨(kind ((spl s).headD []) : Int), -1, -1, -1, -1⟩

theorem kw_plain (k : Nat) : ∀ c ∈ kw k, 97 ≤ c.toNat ∧ c.toNat ≤ 122 := by
  unfold kw
  split <;> decide
theorem kind_kw (k : Nat) (h : k ≤ 11) : kind (kw k) = k := by
  have : ∀ i : Fin 12, kind (kw i.val) = i.val := by decide +kernel
  exact this ⟨k, by omega⟩
theorem dig_no (n : Nat) (c : UInt8) (hc : c.toNat < 48) : c ∉ Lib.decDigits n := fun h => by have := dig_bytes n c h; omega
theorem kw_no (n : Nat) (c : UInt8) (hc : c.toNat < 97) : c ∉ kw n := fun h => by have := kw_plain n c h; omega
/-- parts joined by spaces -/
def jn : List (List UInt8) → List UInt8
  | [] => []
  | p :: l => 32 :: (p ++ jn l)
theorem spl_jn (l : List (List UInt8)) : ∀ (a : List UInt8), (32 : UInt8) ∉ a → (∀ p ∈ l, (32 : UInt8) ∉ p) → spl (a ++ jn l) = a :: l := by
  induction l with
  | nil => intro a ha _; simp [jn, spl_none ha]
  | cons p l ih =>
    intro a ha hl
    show spl (a ++ 32 :: (p ++ jn l)) = _
    rw [spl_app ha, ih p (hl p (by simp)) (fun q hq => hl q (by simp [hq]))]
theorem pt_no (c : UInt8) (n : Nat) (hc : c ≠ 32) : (32 : UInt8) ∉ c :: Lib.decDigits n := by
  rw [List.mem_cons]
  rintro (h | h)
  · exact hc h.symm
  · exact dig_no n 32 (by decide) h
/-- an event's parts -/
def parts (e : Ev) : List (List UInt8) := [103 :: Lib.decDigits e.g.toNat] ++ (if e.o = -1 then [] else [103 :: Lib.decDigits e.o.toNat]) ++ [116 :: Lib.decDigits e.t.toNat] ++ (if e.p = -1 then [] else [112 :: Lib.decDigits e.p.toNat])
theorem ln_parts (e : Ev) : ln e = kw e.k.toNat ++ jn (parts e) := by
  unfold ln parts pt
  split <;> split <;> simp [jn]
theorem parts_no (e : Ev) : ∀ p ∈ parts e, (32 : UInt8) ∉ p := by
  intro p hp
  unfold parts at hp
  simp only [List.mem_append, List.mem_singleton] at hp
  rcases hp with ((h | h) | h) | h
  · subst h; exact pt_no _ _ (by decide)
  · split at h
    · simp at h
    · rw [List.mem_singleton] at h; subst h; exact pt_no _ _ (by decide)
  · subst h; exact pt_no _ _ (by decide)
  · split at h
    · simp at h
    · rw [List.mem_singleton] at h; subst h; exact pt_no _ _ (by decide)
theorem spl_ln (e : Ev) : spl (ln e) = kw e.k.toNat :: parts e := by
  rw [ln_parts]
  exact spl_jn _ _ (kw_no _ _ (by decide)) (parts_no e)
theorem num_nat {z : Int} (h : 0 ≤ z ∧ z ≤ 65535) : num (Lib.decDigits z.toNat) = z := by
  rw [num_dec _ (by omega)]; omega
/-- WHAT IS WRITTEN IS READ. -/
theorem cand_ln (e : Ev) (h : e.ok) : cand (ln e) = e := by
  obtain ⟨k, g, o, t, p⟩ := e
  obtain ⟨hk, hg, ho, ht, hp⟩ := h
  simp only at hk hg ho ht hp
  unfold cand
  rw [spl_ln]
  simp only [List.tail_cons, List.headD_cons]
  rw [kind_kw _ (by omega)]
  have ek : ((k.toNat : Nat) : Int) = k := by omega
  rw [ek]
  have ng : num (Lib.decDigits g.toNat) = g := num_nat (by omega)
  have nt : num (Lib.decDigits t.toNat) = t := num_nat (by omega)
  have g1 : ¬ g = -1 := by omega
  unfold parts
  simp only
  by_cases h1 : o = -1 <;> by_cases h2 : p = -1 <;>
    simp only [h1, h2, if_true, if_false, List.append_nil, List.foldl_append, List.foldl_cons, List.foldl_nil, step, List.take_succ_cons, List.take_zero, List.drop_succ_cons, List.drop_zero]
  · simp [ng, nt]
  · rw [ng, nt, num_nat (show 0 ≤ p ∧ p ≤ 65535 by omega)]; simp
  · rw [ng, nt, num_nat (show 0 ≤ o ∧ o ≤ 65535 by omega)]; simp [g1]
  · rw [ng, nt, num_nat (show 0 ≤ p ∧ p ≤ 65535 by omega), num_nat (show 0 ≤ o ∧ o ≤ 65535 by omega)]; simp [g1]
theorem ln_no (e : Ev) : (10 : UInt8) ∉ ln e := by
  rw [ln_parts, List.mem_append]
  rintro (h | h)
  · exact kw_no _ _ (by decide) h
  · have : ∀ l : List (List UInt8), (∀ p ∈ l, (10 : UInt8) ∉ p) → (10 : UInt8) ∉ jn l := by
      intro l
      induction l with
      | nil => intro _; simp [jn]
      | cons p l ih =>
        intro hl
        show (10 : UInt8) ∉ 32 :: (p ++ jn l)
        rw [List.mem_cons, List.mem_append]
        rintro (h | h | h)
        · exact absurd h (by decide)
        · exact hl p (by simp) h
        · exact ih (fun q hq => hl q (by simp [hq])) h
    refine this _ ?_ h
    intro p hp
    unfold parts at hp
    have one : ∀ (c : UInt8) (n : Nat), c ≠ 10 → (10 : UInt8) ∉ c :: Lib.decDigits n := fun c n hc => by
      rw [List.mem_cons]
      rintro (h | h)
      · exact hc h.symm
      · exact dig_no n 10 (by decide) h
    simp only [List.mem_append, List.mem_singleton] at hp
    rcases hp with ((h | h) | h) | h
    · subst h; exact one _ _ (by decide)
    · split at h
      · simp at h
      · rw [List.mem_singleton] at h; subst h; exact one _ _ (by decide)
    · subst h; exact one _ _ (by decide)
    · split at h
      · simp at h
      · rw [List.mem_singleton] at h; subst h; exact one _ _ (by decide)
/-- what a line is read as -/
def rdl (s : List UInt8) : Option Ev := if (cand s).ok ∧ ln (cand s) = s then some (cand s) else none
theorem rdl_ln (e : Ev) (h : e.ok) : rdl (ln e) = some e := by
  unfold rdl
  rw [cand_ln e h, if_pos ⟨h, rfl⟩]
theorem rdl_some {s : List UInt8} {e : Ev} (h : rdl s = some e) : e.ok ∧ ln e = s := by
  unfold rdl at h
  split at h
  · rename_i hh; cases h; exact hh
  · cases h
/-! ### lines -/
/-- the lines of a text, each with its line feed (the last one may have none) -/
def lns : Nat → List UInt8 → List (List UInt8)
  | 0, _ => []
  | f + 1, s => if s = [] then [] else
      if Lib.indexByte s 10 = -1 then [s] else s.take ((Lib.indexByte s 10).toNat + 1) :: lns f (s.drop ((Lib.indexByte s 10).toNat + 1))
theorem ib_none {s : List UInt8} {c : UInt8} (h : c ∉ s) : Lib.indexByte s c = -1 := by
  induction s with
  | nil => rfl
  | cons a l ih =>
    rw [List.mem_cons, not_or] at h
    unfold Lib.indexByte
    rw [ih h.2]
    have : ¬ (a == c) = true := by rw [beq_iff_eq]; exact fun e => h.1 e.symm
    rw [if_neg this]; rfl
theorem ib_app {a b : List UInt8} {c : UInt8} (h : c ∉ a) : Lib.indexByte (a ++ c :: b) c = (a.length : Int) := by
  induction a with
  | nil => simp [Lib.indexByte]
  | cons x l ih =>
    rw [List.mem_cons, not_or] at h
    rw [List.cons_append]
    unfold Lib.indexByte
    rw [ih h.2]
    have : ¬ (x == c) = true := by rw [beq_iff_eq]; exact fun e => h.1 e.symm
    rw [if_neg this]
    have h2 : ¬ ((l.length : Int) == -1) = true := by rw [beq_iff_eq]; omega
    rw [if_neg h2]; simp
theorem ib_cases (s : List UInt8) (c : UInt8) : (c ∉ s ∧ Lib.indexByte s c = -1) ∨ ∃ a b, s = a ++ c :: b ∧ c ∉ a ∧ Lib.indexByte s c = (a.length : Int) := by
  by_cases h : c ∈ s
  · right
    obtain ⟨a, b, rfl, hn⟩ := List.eq_append_cons_of_mem h
    exact ⟨a, b, rfl, hn, ib_app hn⟩
  · exact .inl ⟨h, ib_none h⟩
theorem lns_cons (f : Nat) (a b : List UInt8) (h : (10 : UInt8) ∉ a) : lns (f + 1) (a ++ 10 :: b) = (a ++ [10]) :: lns f b := by
  rw [lns, ib_app h, if_neg (by simp), if_neg (by omega)]
  have e1 : ((a.length : Int)).toNat + 1 = a.length + 1 := by omega
  rw [e1]
  have e2 : (a ++ 10 :: b).take (a.length + 1) = a ++ [10] := by
    rw [List.take_append, List.take_of_length_le (by omega)]; simp
  have e3 : (a ++ 10 :: b).drop (a.length + 1) = b := by simp
  rw [e2, e3]
theorem suf_yes (a : List UInt8) : Lib.hasSuffix (a ++ [10]) [10] = true := by
  unfold Lib.hasSuffix
  rw [List.isSuffixOf_iff_suffix]
  exact ⟨a, rfl⟩
theorem suf_no {s : List UInt8} (h : (10 : UInt8) ∉ s) : Lib.hasSuffix s [10] = false := by
  rw [Bool.eq_false_iff]
  intro e
  unfold Lib.hasSuffix at e
  rw [List.isSuffixOf_iff_suffix] at e
  obtain ⟨t, rfl⟩ := e
  exact h (by simp)
theorem trim_yes (a : List UInt8) : Lib.trimSuffix (a ++ [10]) [10] = a := by
  unfold Lib.trimSuffix
  rw [if_pos (suf_yes a)]; simp
/-- one more line -/
def take1 (acc : List Ev) (x : List UInt8) : Option (List Ev) :=
  if Lib.hasSuffix x [10] = true then match rdl (Lib.trimSuffix x [10]) with
    | none => none
    | some e => if acc.length = 65536 then none else some (acc ++ [e])
  else none
/-- lines one behind the other -/
def goes : List Ev → List (List UInt8) → Option (List Ev)
  | acc, [] => some acc
  | acc, x :: r => match take1 acc x with
    | none => none
    | some a => goes a r
theorem goes_app (p : List (List UInt8)) : ∀ (acc : List Ev) (r : List (List UInt8)), goes acc (p ++ r) = match goes acc p with
    | none => none
    | some a => goes a r := by
  induction p with
  | nil => intro acc r; rfl
  | cons x p ih =>
    intro acc r
    simp only [List.cons_append, goes]
    cases take1 acc x with
    | none => rfl
    | some a => exact ih a r
theorem goes_one (p : List (List UInt8)) (acc a : List Ev) (x : List UInt8) (h : goes acc p = some a) : goes acc (p ++ [x]) = take1 a x := by
  rw [goes_app, h]
  show (match take1 a x with | none => none | some a => goes a []) = _
  cases take1 a x <;> rfl
theorem goes_cut {p : List (List UInt8)} {acc : List Ev} {l : List (List UInt8)} (h : goes acc p = none) (hp : p <+: l) : goes acc l = none := by
  obtain ⟨r, rfl⟩ := hp
  rw [goes_app, h]
/-- the text of events -/
def wr : List Ev → List UInt8
  | [] => []
  | e :: l => ln e ++ 10 :: wr l
theorem goes_wr (m : List Ev) : ∀ (acc : List Ev) (f : Nat), (∀ e ∈ m, e.ok) → acc.length + m.length ≤ 65536 → (wr m).length ≤ f → goes acc (lns f (wr m)) = some (acc ++ m) := by
  induction m with
  | nil =>
    intro acc f _ _ _
    have : lns f (wr []) = [] := by cases f <;> simp [lns, wr]
    rw [this]; simp [goes]
  | cons e m ih =>
    intro acc f he hl hf
    cases f with
    | zero => simp [wr] at hf
    | succ f =>
      show goes acc (lns (f + 1) (ln e ++ 10 :: wr m)) = _
      rw [lns_cons f _ _ (ln_no e)]
      have h1 : take1 acc (ln e ++ [10]) = some (acc ++ [e]) := by
        unfold take1
        rw [if_pos (suf_yes _), trim_yes, rdl_ln e (he e (by simp))]
        simp only
        rw [if_neg (by simp at hl; omega)]
      simp only [goes, h1]
      rw [ih (acc ++ [e]) f (fun x hx => he x (by simp [hx])) (by simp at hl ⊢; omega) (by simp [wr] at hf; omega)]
      simp
theorem goes_some (f : Nat) : ∀ (s : List UInt8) (acc l : List Ev), goes acc (lns f s) = some l → s.length ≤ f → acc.length ≤ 65536 → ∃ m, l = acc ++ m ∧ (∀ e ∈ m, e.ok) ∧ wr m = s ∧ l.length ≤ 65536 := by
  induction f with
  | zero =>
    intro s acc l h hs ha
    have : s = [] := List.eq_nil_of_length_eq_zero (by omega)
    subst this
    simp only [lns, goes, Option.some.injEq] at h
    exact ⟨[], by simp [h], by simp, rfl, by rw [← h]; exact ha⟩
  | succ f ih =>
    intro s acc l h hs ha
    by_cases hn : s = []
    · subst hn
      simp only [lns, if_true, goes, Option.some.injEq] at h
      exact ⟨[], by simp [h], by simp, rfl, by rw [← h]; exact ha⟩
    rcases ib_cases s 10 with ⟨hm, hi⟩ | ⟨a, b, rfl, hm, hi⟩
    · rw [lns, if_neg hn, hi, if_pos rfl] at h
      simp only [goes, take1, suf_no hm] at h
      simp at h
    · rw [lns_cons f a b hm] at h
      simp only [goes, take1, suf_yes, trim_yes, if_true] at h
      cases hr : rdl a with
      | none => rw [hr] at h; simp at h
      | some e =>
        rw [hr] at h
        simp only at h
        by_cases hc : acc.length = 65536
        · rw [if_pos hc] at h; simp at h
        · rw [if_neg hc] at h
          obtain ⟨m, rfl, hm1, hm2, hm3⟩ := ih b (acc ++ [e]) l h (by simp at hs; omega) (by simp; omega)
          obtain ⟨hok, hln⟩ := rdl_some hr
          exact ⟨e :: m, by simp, by
            intro x hx
            rcases List.mem_cons.1 hx with rfl | hx
            · exact hok
            · exact hm1 x hx, by simp [wr, hln, hm2], hm3⟩
/-- what a text is read as -/
def rdt (s : List UInt8) : Option (List Ev) := goes [] (lns s.length s)
theorem rdt_wr {m : List Ev} (h : ∀ e ∈ m, e.ok) (hl : m.length ≤ 65536) : rdt (wr m) = some m := by
  have := goes_wr m [] (wr m).length h (by simpa using hl) (Nat.le_refl _)
  simpa [rdt] using this
theorem rdt_some {s : List UInt8} {l : List Ev} (h : rdt s = some l) : (∀ e ∈ l, e.ok) ∧ wr l = s ∧ l.length ≤ 65536 := by
  obtain ⟨m, e, h1, h2, h3⟩ := goes_some s.length s [] l h (Nat.le_refl _) (by simp)
  simp only [List.nil_append] at e
  subst e
  exact ⟨h1, h2, h3⟩
end Go.Proofs.YtalilnnjpemmlaaDoor
