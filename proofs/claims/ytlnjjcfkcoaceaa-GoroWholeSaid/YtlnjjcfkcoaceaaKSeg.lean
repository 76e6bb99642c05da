/- Where words are cut: parts of words by their numbers; words that came in; the contract of slices.IndexFunc. -/
import Derived.Test.YtlnjjcfkcoaceaaKInstr2
namespace Go.Proofs.Ytlnjjcfkcoaceaa
open Go Go.RowKit
set_option linter.unusedVariables false
set_option maxRecDepth 100000
set_option linter.unusedSimpArgs false

/-- Words of a slice that lies below block B. -/
def SeesU (w : World) (B : Nat) (A : Option Addr) (n : Nat) (f : Nat → Int) : Prop :=
  0 < n → ∃ b off : Nat, A = some ⟨b, off, none⟩ ∧ b < B ∧ ∀ i, i < n → w.cell? ⟨b, off + i, none⟩ = some (.int .u64 (f i))
theorem SeesU.below {w w' : World} {B B' n : Nat} {A : Option Addr} {f : Nat → Int} (h : SeesU w B A n f) (hb : Below B' w w') (hB : B ≤ B') : SeesU w' B A n f := fun hn => by
  obtain ⟨b, off, e, h1, h2⟩ := h hn
  exact ⟨b, off, e, h1, fun i hi => (hb.cell (p := ⟨b, off + i, none⟩) (Nat.lt_of_lt_of_le h1 hB)).trans (h2 i hi)⟩
theorem SeesU.more {w : World} {B B' n : Nat} {A : Option Addr} {f : Nat → Int} (h : SeesU w B A n f) (hB : B ≤ B') : SeesU w B' A n f := fun hn => by
  obtain ⟨b, off, e, h1, h2⟩ := h hn
  exact ⟨b, off, e, Nat.lt_of_lt_of_le h1 hB, h2⟩

/-- The parts behind i words: those that are whole, and where the last one begins. -/
def scan (f : Nat → Int) : Nat → List (Nat × Nat) × Nat
  | 0 => ([], 0)
  | i + 1 => if pt (f i) = true then ((scan f i).1 ++ [((scan f i).2, i - (scan f i).2)], i + 1) else scan f i
def segs (f : Nat → Int) (n : Nat) : List (Nat × Nat) := (scan f n).1 ++ [((scan f n).2, n - (scan f n).2)]
theorem scan_le (f : Nat → Int) : ∀ i, (scan f i).2 ≤ i
  | 0 => Nat.le_refl _
  | i + 1 => by
    have := scan_le f i
    unfold scan
    split
    · exact Nat.le_refl _
    · omega
theorem scan_len (f : Nat → Int) : ∀ i, (scan f i).1.length ≤ i
  | 0 => Nat.le_refl _
  | i + 1 => by
    have := scan_len f i
    unfold scan
    split
    · simp; omega
    · omega
theorem scan_mem (f : Nat → Int) : ∀ i x, x ∈ (scan f i).1 → x.1 + x.2 ≤ i ∧ ∀ j, j < x.2 → pt (f (x.1 + j)) = false
  | 0, x, h => by simp [scan] at h
  | i + 1, x, h => by
    have hle := scan_le f i
    have hno : ∀ i j, (scan f i).2 ≤ j → j < i → pt (f j) = false := by
      intro i
      induction i with
      | zero => intro j _ h; omega
      | succ i ih =>
        intro j h1 h2
        unfold scan at h1
        by_cases hp : pt (f i) = true
        · rw [if_pos hp] at h1; simp at h1; omega
        · rw [if_neg hp] at h1
          by_cases e : j = i
          · subst e; simpa using hp
          · exact ih j h1 (by omega)
    unfold scan at h
    split at h
    · simp at h
      rcases h with h | h
      · obtain ⟨h1, h2⟩ := scan_mem f i x h
        exact ⟨by omega, h2⟩
      · subst h
        exact ⟨by simp; omega, fun j hj => hno i _ (by omega) (by simp at hj; omega)⟩
    · obtain ⟨h1, h2⟩ := scan_mem f i x h
      exact ⟨by omega, h2⟩
theorem scan_no (f : Nat → Int) : ∀ i j, (scan f i).2 ≤ j → j < i → pt (f j) = false := by
  intro i
  induction i with
  | zero => intro j _ h; omega
  | succ i ih =>
    intro j h1 h2
    unfold scan at h1
    by_cases hp : pt (f i) = true
    · rw [if_pos hp] at h1; simp at h1; omega
    · rw [if_neg hp] at h1
      by_cases e : j = i
      · subst e; simpa using hp
      · exact ih j h1 (by omega)
theorem scan_run (f : Nat → Int) (s : Nat) : ∀ k, (∀ j, j < k → pt (f (s + j)) = false) → scan f (s + k) = scan f s
  | 0, _ => rfl
  | k + 1, h => by
    have h1 := scan_run f s k (fun j hj => h j (by omega))
    have e : scan f (s + k + 1) = if pt (f (s + k)) = true then ((scan f (s + k)).1 ++ [((scan f (s + k)).2, s + k - (scan f (s + k)).2)], s + k + 1) else scan f (s + k) := rfl
    show scan f (s + k + 1) = _
    rw [e, if_neg (by rw [h k (by omega)]; simp), h1]
theorem scan_part (f : Nat → Int) (s k : Nat) (hs : (scan f s).2 = s) (h : ∀ j, j < k → pt (f (s + j)) = false) (hp : pt (f (s + k)) = true) : scan f (s + k + 1) = ((scan f s).1 ++ [(s, k)], s + k + 1) := by
  have h1 := scan_run f s k h
  rw [scan, if_pos hp, h1, hs, show s + k - s = k by omega]
theorem segs_run (f : Nat → Int) (s n : Nat) (hs : (scan f s).2 = s) (hn : s ≤ n) (h : ∀ j, j < n - s → pt (f (s + j)) = false) : segs f n = (scan f s).1 ++ [(s, n - s)] := by
  have h1 := scan_run f s (n - s) h
  rw [show s + (n - s) = n by omega] at h1
  unfold segs
  rw [h1, hs]
theorem segs_len (f : Nat → Int) (n : Nat) : 1 ≤ (segs f n).length ∧ (segs f n).length ≤ n + 1 := by
  have := scan_len f n
  unfold segs
  simp
  omega
theorem segs_mem (f : Nat → Int) (n : Nat) (x : Nat × Nat) (h : x ∈ segs f n) : x.1 + x.2 ≤ n ∧ ∀ j, j < x.2 → pt (f (x.1 + j)) = false := by
  unfold segs at h
  have hle := scan_le f n
  rcases List.mem_append.1 h with h | h
  · exact scan_mem f n x h
  · simp at h
    subst h
    exact ⟨by simp; omega, fun j hj => scan_no f n _ (by omega) (by simp at hj; omega)⟩

/-- slices.IndexFunc: where the first word is that parts programs. -/
theorem index_any (A : Option Addr) (n cap : Nat) (f : Nat → Int) (w : World) (hn : n ≤ 1000000) (hs : SeesU w w.heap.size A n f) (hf : ∀ i, i < n → 0 ≤ f i ∧ f i ≤ 18446744073709551615) :
    Calls Try.prog 137 #[.slice A n cap, .func (.func 98) #[] #[]] w fun e w' => (∃ k, w' = w.drewN k) ∧ ((e = .returned (.int .i64 (-1)) ∧ ∀ j, j < n → pt (f j) = false) ∨ ∃ i, i < n ∧ e = .returned (.int .i64 (i : Nat)) ∧ pt (f i) = true ∧ ∀ j, j < i → pt (f j) = false) := by
  have HS : Hid (SeesU w w.heap.size A n f) := hs
  have HF : Hid (∀ i, i < n → 0 ≤ f i ∧ f i ≤ 18446744073709551615) := hf
  clear hs hf
  go_enter Try.func137, Try.ntmps137
  go_wp2_with fail
  go_loopw [8] (fun x wr => ∃ k m : Nat, k ≤ n ∧ x = .int .i64 k ∧ (Hid (∀ j, j < k → pt (f j) = false)) ∧ wr = w.drewN m) (fun x _ => n - (intOf x).toNat)
  case atStart => exact ⟨0, 0, Nat.zero_le _, rfl, (fun j hj => absurd hj (Nat.not_lt_zero j)), rfl⟩
  case round =>
    obtain ⟨k, m, hk, rfl, hno, rfl⟩ := hrel
    by_cases hlt : k < n
    · obtain ⟨b, off, rfl, hb, hc⟩ := HS.out (by omega)
      have hc' : w.cell? ⟨b, off + k, none⟩ = some (.int .u64 (f k)) := hc k hlt
      have hP := parts_any (f k) (w.drewN m) (HF.out k hlt)
      clear hc
      by_cases hp : pt (f k) = true
      · rw [hp] at hP
        go_wp2_with fail
        go_at_call 98; refine hP.mono ?_; clear hP; rintro e w1 ⟨rfl, k1, rfl⟩
        go_wp2_with fail
        go_ret
        exact ⟨⟨_, by simp only [World.drewN, Nat.add_assoc]; rfl⟩, .inr ⟨k, hlt, rfl, hp, hno.out⟩⟩
      · have hp' : pt (f k) = false := by simpa using hp
        rw [hp'] at hP
        go_wp2_with fail
        go_at_call 98; refine hP.mono ?_; clear hP; rintro e w1 ⟨rfl, k1, rfl⟩
        go_wp2_with fail
        go_roundw
        case rel => exact ⟨k + 1, m + k1, by omega, by go_num, (fun j hj => by
          by_cases e : j = k
          · subst e; exact hp'
          · exact hno.out j (by omega)), by simp [World.drewN, Nat.add_assoc]⟩
        case measure => simp [intOf]; omega
    · obtain rfl : k = n := by omega
      go_wp2_with fail
      go_ret
      exact ⟨⟨m, rfl⟩, .inl ⟨rfl, hno.out⟩⟩
end Go.Proofs.Ytlnjjcfkcoaceaa
