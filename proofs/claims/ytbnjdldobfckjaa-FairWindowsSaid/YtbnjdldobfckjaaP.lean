/- Entries, windows: the mathematics. -/
import Derived.Test.YtbnjdldobfckjaaB0
namespace Go.Proofs.Ytbnjdldobfckjaa
set_option linter.unusedVariables false

/-- An entry: its Kind, its Who. -/
abbrev En := Int × Int
/-- An entry as a round has it. -/
def pl (e : En) : En := if e.1 = 2 ∨ e.1 = 3 then (e.1, 0) else e
/-- A round of T threads. -/
def rd (T : Nat) (i : Nat) : En := if i < T then (1, (i : Int)) else if i < 2 * T then (4, ((i - T : Nat) : Int)) else if i < 2 * T + 4 then (2, 0) else (3, 0)
/-- An entry that a round has. -/
def wanted (T : Nat) (x : En) : Prop := ∃ i, i < 2 * T + 5 ∧ rd T i = x
/-- The place behind where x was last, of the first j. -/
def last (l : Nat → En) (x : En) : Nat → Nat
  | 0 => 0
  | j + 1 => if pl (l j) = x then j + 1 else last l x j
theorem last_le (l : Nat → En) (x : En) : ∀ j, last l x j ≤ j
  | 0 => Nat.le_refl _
  | j + 1 => by
    unfold last
    split
    · exact Nat.le_refl _
    · exact Nat.le_succ_of_le (last_le l x j)
theorem last_miss (l : Nat → En) (x : En) : ∀ j k, last l x j ≤ k → k < j → pl (l k) ≠ x
  | 0, k, _, h => absurd h (Nat.not_lt_zero k)
  | j + 1, k, h1, h2 => by
    unfold last at h1
    split at h1
    · omega
    · by_cases e : k = j
      · subst e; assumption
      · exact last_miss l x j k h1 (by omega)
theorem last_least (l : Nat → En) (x : En) : ∀ j i, i ≤ j → (∀ k, i ≤ k → k < j → pl (l k) ≠ x) → last l x j ≤ i
  | 0, i, _, _ => Nat.zero_le _
  | j + 1, i, h, hm => by
    unfold last
    split
    · rename_i e
      by_cases hi : i = j + 1
      · omega
      · exact absurd e (hm j (by omega) (by omega))
    · by_cases hi : i = j + 1
      · have := last_le l x j; omega
      · exact last_least l x j i (by omega) (fun k h1 h2 => hm k h1 (by omega))
theorem last_pos (l : Nat → En) (x : En) (j k : Nat) (hk : k < j) (h : pl (l k) = x) : 0 < last l x j := by
  rcases Nat.eq_zero_or_pos (last l x j) with h0 | h0
  · exact absurd h (last_miss l x j k (by omega) hk)
  · exact h0
/-- M is the longest stretch without some entry that is wanted, of n entries. -/
structure Longest (T : Nat) (l : Nat → En) (n : Nat) (M : Nat) : Prop where
  mid : ∀ m, m < n → wanted T (pl (l m)) → m - last l (pl (l m)) m ≤ M
  fin : ∀ x, wanted T x → n - last l x n ≤ M
  hit : M = 0 ∨ (∃ m, m < n ∧ wanted T (pl (l m)) ∧ m - last l (pl (l m)) m = M) ∨ ∃ x, wanted T x ∧ n - last l x n = M
theorem Longest.uniq {T : Nat} {l : Nat → En} {n M N : Nat} (h : Longest T l n M) (g : Longest T l n N) : M = N := by
  have le : ∀ {A B : Nat}, Longest T l n A → Longest T l n B → A ≤ B := fun {A B} a b => by
    rcases a.hit with h | ⟨m, h1, h2, h3⟩ | ⟨x, h1, h2⟩
    · omega
    · have := b.mid m h1 h2; omega
    · have := b.fin x h1; omega
  exact Nat.le_antisymm (le h g) (le g h)
/-- So many entries are fair. -/
def fairAt (T : Nat) (l : Nat → En) (i w : Nat) : Prop := ∀ x, wanted T x → ∃ k, i ≤ k ∧ k < i + w ∧ pl (l k) = x
/-- A first entry behind. -/
theorem first_from (l : Nat → En) (x : En) (i : Nat) : ∀ n, i ≤ n → (∀ k, i ≤ k → k < n → pl (l k) ≠ x) ∨ ∃ m, i ≤ m ∧ m < n ∧ pl (l m) = x ∧ ∀ k, i ≤ k → k < m → pl (l k) ≠ x
  | 0, h => Or.inl (fun k _ h2 => absurd h2 (Nat.not_lt_zero _))
  | n + 1, h => by
    by_cases hi : i = n + 1
    · exact Or.inl (fun k h1 h2 => by omega)
    · rcases first_from l x i n (by omega) with h1 | ⟨m, h1, h2, h3, h4⟩
      · by_cases e : pl (l n) = x
        · exact Or.inr ⟨n, by omega, by omega, e, h1⟩
        · exact Or.inl (fun k a b => by
            by_cases hk : k = n
            · subst hk; exact e
            · exact h1 k a (by omega))
      · exact Or.inr ⟨m, h1, by omega, h3, h4⟩
/-- Stretches of w entries are all fair, just if w is above the longest stretch without one. -/
theorem Longest.fair {T : Nat} {l : Nat → En} {n M : Nat} (h : Longest T l n M) {w : Nat} (hw : M < w) (i : Nat) (hi : i + w ≤ n) : fairAt T l i w := by
  intro x hx
  rcases first_from l x i n (by omega) with h1 | ⟨m, h1, h2, h3, h4⟩
  · have := last_least l x n i (by omega) h1
    have := h.fin x hx
    omega
  · refine ⟨m, h1, ?_, h3⟩
    have a := last_least l x m i h1 h4
    have b := h.mid m h2 (h3 ▸ hx)
    rw [h3] at b
    omega
theorem Longest.unfair {T : Nat} {l : Nat → En} {n M : Nat} (h : Longest T l n M) {w : Nat} (h1 : 1 ≤ w) (hw : w ≤ M) : ∃ i, i + w ≤ n ∧ ¬ fairAt T l i w := by
  rcases h.hit with h0 | ⟨m, a, b, c⟩ | ⟨x, a, b⟩
  · omega
  · have hl := last_le l (pl (l m)) m
    refine ⟨last l (pl (l m)) m, by omega, fun hf => ?_⟩
    obtain ⟨k, k1, k2, k3⟩ := hf _ b
    exact last_miss l (pl (l m)) m k k1 (by omega) k3
  · have hl := last_le l x n
    refine ⟨last l x n, by omega, fun hf => ?_⟩
    obtain ⟨k, k1, k2, k3⟩ := hf _ a
    exact last_miss l x n k k1 (by omega) k3
theorem Longest.lt {T : Nat} {l : Nat → En} {n M : Nat} (h : Longest T l n M) (hf : fairAt T l 0 n) : M < n := by
  have hn : 0 < n := by
    obtain ⟨k, _, k2, _⟩ := hf (rd T 0) ⟨0, by omega, rfl⟩
    omega
  rcases h.hit with h0 | ⟨m, a, b, c⟩ | ⟨x, a, b⟩
  · omega
  · omega
  · obtain ⟨k, _, k2, k3⟩ := hf x a
    have := last_pos l x n k (by omega) k3
    omega
/-- Is an entry one that a round has? -/
def isW (T : Nat) (x : En) : Bool := ((x.1 == 1 || x.1 == 4) && (decide (0 ≤ x.2) && decide (x.2 < (T : Int)))) || ((x.1 == 2 || x.1 == 3) && x.2 == 0)
theorem wanted_isW {T : Nat} {x : En} : wanted T x ↔ isW T x = true := by
  constructor
  · rintro ⟨i, hi, rfl⟩
    unfold rd isW
    split
    · simp; omega
    · split
      · simp; omega
      · split <;> simp
  · intro h
    unfold isW at h
    obtain ⟨a, b⟩ := x
    simp at h
    rcases h with ⟨h1 | h1, h2, h3⟩ | ⟨h1 | h1, h2⟩
    · refine ⟨b.toNat, by omega, ?_⟩
      unfold rd
      rw [if_pos (by omega)]
      refine Prod.ext h1.symm ?_
      show ((b.toNat : Nat) : Int) = b
      omega
    · refine ⟨T + b.toNat, by omega, ?_⟩
      unfold rd
      rw [if_neg (by omega), if_pos (by omega)]
      refine Prod.ext h1.symm ?_
      show ((T + b.toNat - T : Nat) : Int) = b
      omega
    · refine ⟨2 * T, by omega, ?_⟩
      unfold rd
      rw [if_neg (by omega), if_neg (by omega), if_pos (by omega)]
      exact Prod.ext h1.symm h2.symm
    · refine ⟨2 * T + 4, by omega, ?_⟩
      unfold rd
      rw [if_neg (by omega), if_neg (by omega), if_neg (by omega)]
      exact Prod.ext h1.symm h2.symm
/-- The longest stretch ahead of one of the first entries. -/
def gm (T : Nat) (l : Nat → En) : Nat → Nat
  | 0 => 0
  | m + 1 => if isW T (pl (l m)) = true then max (gm T l m) (m - last l (pl (l m)) m) else gm T l m
theorem gm_mid (T : Nat) (l : Nat → En) : ∀ n m, m < n → wanted T (pl (l m)) → m - last l (pl (l m)) m ≤ gm T l n
  | 0, _, h, _ => absurd h (Nat.not_lt_zero _)
  | n + 1, m, h, hw => by
    unfold gm
    by_cases e : m = n
    · subst e
      rw [if_pos (wanted_isW.1 hw)]
      exact Nat.le_max_right _ _
    · have := gm_mid T l n m (by omega) hw
      split
      · exact Nat.le_trans this (Nat.le_max_left _ _)
      · exact this
theorem gm_hit (T : Nat) (l : Nat → En) : ∀ n, gm T l n = 0 ∨ ∃ m, m < n ∧ wanted T (pl (l m)) ∧ m - last l (pl (l m)) m = gm T l n
  | 0 => Or.inl rfl
  | n + 1 => by
    have ih := gm_hit T l n
    unfold gm
    split
    · rename_i h
      rcases Nat.le_total (gm T l n) (n - last l (pl (l n)) n) with h1 | h1
      · rw [Nat.max_eq_right h1]
        exact Or.inr ⟨n, by omega, wanted_isW.2 h, rfl⟩
      · rw [Nat.max_eq_left h1]
        rcases ih with h2 | ⟨m, a, b, c⟩
        · exact Or.inl h2
        · exact Or.inr ⟨m, by omega, b, c⟩
    · rcases ih with h2 | ⟨m, a, b, c⟩
      · exact Or.inl h2
      · exact Or.inr ⟨m, by omega, b, c⟩
theorem gm_le (T : Nat) (l : Nat → En) : ∀ n, gm T l n ≤ n
  | 0 => Nat.le_refl _
  | n + 1 => by
    have := gm_le T l n
    unfold gm
    split
    · exact Nat.max_le.2 ⟨by omega, by omega⟩
    · omega
/-- What M is, while those are gone through that are not left. -/
structure Ends (T : Nat) (l : Nat → En) (n : Nat) (left : En → Bool) (M : Nat) : Prop where
  lo : gm T l n ≤ M
  bd : M ≤ n
  all : ∀ x, wanted T x → left x = false → n - last l x n ≤ M
  hit : M = gm T l n ∨ ∃ x, wanted T x ∧ n - last l x n = M
theorem Ends.start (T : Nat) (l : Nat → En) (n : Nat) (left : En → Bool) (h : ∀ x, wanted T x → left x = true) : Ends T l n left (gm T l n) :=
  ⟨Nat.le_refl _, gm_le T l n, fun x hx hl => (by rw [h x hx] at hl; cases hl), Or.inl rfl⟩
theorem Ends.step {T : Nat} {l : Nat → En} {n : Nat} {left left' : En → Bool} {M : Nat} (h : Ends T l n left M) (x : En) (hx : wanted T x) (hl : ∀ y, wanted T y → y ≠ x → left' y = left y) : Ends T l n left' (max M (n - last l x n)) := by
  refine ⟨Nat.le_trans h.lo (Nat.le_max_left _ _), Nat.max_le.2 ⟨h.bd, by omega⟩, fun y hy hly => ?_, ?_⟩
  · by_cases e : y = x
    · subst e; exact Nat.le_max_right _ _
    · rw [hl y hy e] at hly
      exact Nat.le_trans (h.all y hy hly) (Nat.le_max_left _ _)
  · rcases Nat.le_total M (n - last l x n) with h1 | h1
    · rw [Nat.max_eq_right h1]; exact Or.inr ⟨x, hx, rfl⟩
    · rw [Nat.max_eq_left h1]; exact h.hit
theorem Ends.done {T : Nat} {l : Nat → En} {n : Nat} {left : En → Bool} {M : Nat} (h : Ends T l n left M) (hl : ∀ x, left x = false) : Longest T l n M := by
  refine ⟨fun m hm hw => Nat.le_trans (gm_mid T l n m hm hw) h.lo, fun x hx => h.all x hx (hl x), ?_⟩
  rcases h.hit with e | e
  · rcases gm_hit T l n with g | ⟨m, a, b, c⟩
    · exact Or.inl (by omega)
    · exact Or.inr (Or.inl ⟨m, a, b, by omega⟩)
  · exact Or.inr (Or.inr e)
/-- The longest stretch, reckoned. -/
def fm (T : Nat) (l : Nat → En) (n : Nat) : Nat → Nat
  | 0 => gm T l n
  | i + 1 => max (fm T l n i) (n - last l (rd T i) n)
theorem fm_ends (T : Nat) (l : Nat → En) (n : Nat) : ∀ i, i ≤ 2 * T + 5 → (gm T l n ≤ fm T l n i) ∧ (∀ k, k < i → n - last l (rd T k) n ≤ fm T l n i) ∧ (fm T l n i = gm T l n ∨ ∃ x, wanted T x ∧ n - last l x n = fm T l n i)
  | 0, _ => ⟨Nat.le_refl _, fun k hk => absurd hk (Nat.not_lt_zero _), Or.inl rfl⟩
  | i + 1, hi => by
    obtain ⟨a, b, c⟩ := fm_ends T l n i (by omega)
    show _ ≤ max _ _ ∧ (∀ k, k < i + 1 → _ ≤ max _ _) ∧ (max _ _ = _ ∨ ∃ x, wanted T x ∧ _ = max _ _)
    refine ⟨Nat.le_trans a (Nat.le_max_left _ _), fun k hk => ?_, ?_⟩
    · by_cases e : k = i
      · subst e; exact Nat.le_max_right _ _
      · exact Nat.le_trans (b k (by omega)) (Nat.le_max_left _ _)
    · rcases Nat.le_total (fm T l n i) (n - last l (rd T i) n) with h1 | h1
      · rw [Nat.max_eq_right h1]; exact Or.inr ⟨_, ⟨i, by omega, rfl⟩, rfl⟩
      · rw [Nat.max_eq_left h1]; exact c
theorem longest_fm (T : Nat) (l : Nat → En) (n : Nat) : Longest T l n (fm T l n (2 * T + 5)) := by
  obtain ⟨a, b, c⟩ := fm_ends T l n (2 * T + 5) (Nat.le_refl _)
  refine ⟨fun m hm hw => Nat.le_trans (gm_mid T l n m hm hw) a, fun x ⟨i, hi, e⟩ => by subst e; exact b i hi, ?_⟩
  rcases c with e | e
  · rcases gm_hit T l n with g | ⟨m, a, b, c⟩
    · exact Or.inl (by omega)
    · exact Or.inr (Or.inl ⟨m, a, b, by omega⟩)
  · exact Or.inr (Or.inr e)
/-- Rounds, one behind the other. -/
def rds (T : Nat) (i : Nat) : En := rd T (i % (2 * T + 5))
theorem rds_long : ∀ T, T < 9 → ∀ r, r < 7 → 1 ≤ r → fm T (rds T) (r * (2 * T + 5)) (2 * T + 5) = 2 * T + 4 := by decide +kernel
/-- So many of the first entries are fair: told. -/
def anyF (l : Nat → En) (x : En) : Nat → Bool
  | 0 => false
  | j + 1 => anyF l x j || pl (l j) == x
theorem anyF_iff (l : Nat → En) (x : En) : ∀ n, anyF l x n = true ↔ ∃ k, k < n ∧ pl (l k) = x
  | 0 => ⟨fun h => (by cases h), fun ⟨k, h, _⟩ => absurd h (Nat.not_lt_zero _)⟩
  | n + 1 => by
    have ih := anyF_iff l x n
    constructor
    · intro h
      unfold anyF at h
      rcases Bool.or_eq_true_iff.1 h with h | h
      · obtain ⟨k, a, b⟩ := ih.1 h; exact ⟨k, by omega, b⟩
      · exact ⟨n, by omega, eq_of_beq h⟩
    · rintro ⟨k, a, b⟩
      unfold anyF
      by_cases e : k = n
      · subst e; simp [b]
      · simp [ih.2 ⟨k, by omega, b⟩]
def allF (T : Nat) (l : Nat → En) (n : Nat) : Nat → Bool
  | 0 => true
  | i + 1 => allF T l n i && anyF l (rd T i) n
theorem allF_iff (T : Nat) (l : Nat → En) (n : Nat) : ∀ m, allF T l n m = true ↔ ∀ i, i < m → ∃ k, k < n ∧ pl (l k) = rd T i
  | 0 => ⟨fun _ i h => absurd h (Nat.not_lt_zero _), fun _ => rfl⟩
  | m + 1 => by
    have ih := allF_iff T l n m
    constructor
    · intro h i hi
      unfold allF at h
      obtain ⟨h1, h2⟩ := Bool.and_eq_true_iff.1 h
      by_cases e : i = m
      · subst e; exact (anyF_iff _ _ _).1 h2
      · exact ih.1 h1 i (by omega)
    · intro h
      unfold allF
      rw [ih.2 (fun i hi => h i (by omega)), (anyF_iff _ _ _).2 (h m (by omega))]
      rfl
/-- Are entries fair? -/
def fairB (T : Nat) (l : Nat → En) (n : Nat) : Bool := allF T l n (2 * T + 5)
theorem fairB_iff (T : Nat) (l : Nat → En) (i w : Nat) : fairB T (fun k => l (i + k)) w = true ↔ fairAt T l i w := by
  unfold fairB
  rw [allF_iff]
  constructor
  · rintro h x ⟨j, hj, rfl⟩
    obtain ⟨k, a, b⟩ := h j hj
    exact ⟨i + k, by omega, by omega, b⟩
  · intro h j hj
    obtain ⟨k, a, b, c⟩ := h _ ⟨j, hj, rfl⟩
    exact ⟨k - i, by omega, by rw [show i + (k - i) = k by omega]; exact c⟩
theorem fairB_0 (T : Nat) (l : Nat → En) (n : Nat) : fairB T l n = true ↔ fairAt T l 0 n := by
  have := fairB_iff T l 0 n
  simpa using this
end Go.Proofs.Ytbnjdldobfckjaa
