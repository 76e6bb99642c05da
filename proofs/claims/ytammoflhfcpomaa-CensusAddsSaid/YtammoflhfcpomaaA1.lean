/- Events behind events: the counts of both; a row of both. -/
import Derived.Test.YtammoflhfcpomaaC8
namespace Go.Proofs.Ytammoflhfcpomaa
open Go Go.RowKit
set_option linter.unusedVariables false
set_option linter.unusedSimpArgs false
set_option maxRecDepth 100000

/-- The first n of a, and b behind them. -/
def cat (a b : Nat → Ev) (n : Nat) : Nat → Ev := fun i => if i < n then a i else b (i - n)
theorem cat_lo (a b : Nat → Ev) (n i : Nat) (h : i < n) : cat a b n i = a i := by unfold cat; rw [if_pos h]
theorem cat_hi (a b : Nat → Ev) (n i : Nat) : cat a b n (n + i) = b i := by
  unfold cat; rw [if_neg (by omega)]; congr 1; omega
theorem cK_lo (a b : Nat → Ev) (n k : Nat) : ∀ j, j ≤ n → cK (cat a b n) j k = cK a j k
  | 0, _ => rfl
  | j + 1, h => by
    show cK (cat a b n) j k + _ = cK a j k + _
    rw [cK_lo a b n k j (by omega), cat_lo a b n j (by omega)]
theorem cK_cat (a b : Nat → Ev) (n k : Nat) : ∀ m, cK (cat a b n) (n + m) k = cK a n k + cK b m k
  | 0 => by simp only [Nat.add_zero]; rw [cK_lo a b n k n (Nat.le_refl _)]; rfl
  | m + 1 => by
    show cK (cat a b n) (n + m) k + (if kn (cat a b n (n + m)).kind = k then 1 else 0) = cK a n k + (cK b m k + (if kn (b m).kind = k then 1 else 0))
    rw [cK_cat a b n k m, cat_hi]; omega
theorem cR_lo (a b : Nat → Ev) (n i f : Nat) : ∀ j, j ≤ n → cR (cat a b n) j i f = cR a j i f
  | 0, _ => rfl
  | j + 1, h => by
    show cR (cat a b n) j i f + _ = cR a j i f + _
    rw [cR_lo a b n i f j (by omega), cat_lo a b n j (by omega)]
theorem cR_cat (a b : Nat → Ev) (n i f : Nat) : ∀ m, cR (cat a b n) (n + m) i f = cR a n i f + cR b m i f
  | 0 => by simp only [Nat.add_zero]; rw [cR_lo a b n i f n (Nat.le_refl _)]; rfl
  | m + 1 => by
    show cR (cat a b n) (n + m) i f + (if hit (cat a b n (n + m)) i f = true then 1 else 0) = cR a n i f + (cR b m i f + (if hit (b m) i f = true then 1 else 0))
    rw [cR_cat a b n i f m, cat_hi]; omega
theorem cP_lo (a b : Nat → Ev) (n q : Nat) : ∀ j, j ≤ n → cP (cat a b n) j q = cP a j q
  | 0, _ => rfl
  | j + 1, h => by
    show cP (cat a b n) j q + _ = cP a j q + _
    rw [cP_lo a b n q j (by omega), cat_lo a b n j (by omega)]
theorem cP_cat (a b : Nat → Ev) (n q : Nat) : ∀ m, cP (cat a b n) (n + m) q = cP a n q + cP b m q
  | 0 => by simp only [Nat.add_zero]; rw [cP_lo a b n q n (Nat.le_refl _)]; rfl
  | m + 1 => by
    show cP (cat a b n) (n + m) q + (if runs (cat a b n (n + m)) q = true then 1 else 0) = cP a n q + (cP b m q + (if runs (b m) q = true then 1 else 0))
    rw [cP_cat a b n q m, cat_hi]; omega
theorem now_lo (a b : Nat → Ev) (n : Nat) : ∀ j, j ≤ n → nowN (cat a b n) j = nowN a j
  | 0, _ => rfl
  | j + 1, h => by
    show nowN (cat a b n) j + _ = nowN a j + _
    rw [now_lo a b n j (by omega), cat_lo a b n j (by omega)]
theorem now_cat (a b : Nat → Ev) (n : Nat) : ∀ m, nowN (cat a b n) (n + m) = nowN a n + nowN b m
  | 0 => by simp only [Nat.add_zero]; rw [now_lo a b n n (Nat.le_refl _)]; simp [nowN]
  | m + 1 => by
    show nowN (cat a b n) (n + m) + ch (cat a b n (n + m)).kind = nowN a n + (nowN b m + ch (b m).kind)
    rw [now_cat a b n m, cat_hi]; omega
theorem now_most (a : Nat → Ev) : ∀ n, nowN a n ≤ mostN a n
  | 0 => by simp [nowN, mostN]
  | n + 1 => by show _ ≤ max _ _; omega
theorem most_lo (a b : Nat → Ev) (n : Nat) : ∀ j, j ≤ n → mostN (cat a b n) j = mostN a j
  | 0, _ => rfl
  | j + 1, h => by
    show max (mostN (cat a b n) j) (nowN (cat a b n) (j + 1)) = max (mostN a j) (nowN a (j + 1))
    rw [most_lo a b n j (by omega), now_lo a b n (j + 1) h]
theorem most_cat (a b : Nat → Ev) (n : Nat) : ∀ m, mostN (cat a b n) (n + m) = max (mostN a n) (nowN a n + mostN b m)
  | 0 => by
    simp only [Nat.add_zero]
    rw [most_lo a b n n (Nat.le_refl _)]
    have := now_most a n
    show _ = max _ (_ + 0)
    omega
  | m + 1 => by
    show max (mostN (cat a b n) (n + m)) (nowN (cat a b n) (n + (m + 1))) = max (mostN a n) (nowN a n + max (mostN b m) (nowN b (m + 1)))
    rw [most_cat a b n m, now_cat a b n (m + 1)]
    omega
theorem info46s : (Try.prog.info? 46).map (·.size) = some 3 := by kernel_rfl
theorem and_any (w : World) (a b c x y z : Int) (ha : 0 ≤ a ∧ a ≤ 1000) (hb : 0 ≤ b ∧ b ≤ 1000) (hc : 0 ≤ c ∧ c ≤ 1000) (hx : 0 ≤ x ∧ x ≤ 1000) (hy : 0 ≤ y ∧ y ≤ 1000) (hz : 0 ≤ z ∧ z ≤ 1000) :
    Calls Try.prog 17 #[.agg #[.int .i64 a, .int .i64 b, .int .i64 c], .agg #[.int .i64 x, .int .i64 y, .int .i64 z]] w fun e w' => e = .returned (.agg #[.int .i64 (a + x), .int .i64 (b + y), .int .i64 (c + z)]) ∧ Below w.heap.size w w' := by
  have HB := Lib.hid (fun o1 o2 o3 => (((Below.refl w.heap.size w).alloc (Nat.le_refl _) o1).alloc (by rw [size_al]; omega) o2).alloc (by rw [size_al, size_al]; omega) o3)
  go_enter Try.func17, Try.ntmps17
  go_wp2_with fail
  refine bodyPost_ret (v := .agg #[.int .i64 (a + x), .int .i64 (b + y), .int .i64 (c + z)]) (results_cell_row rfl _ _ (w.heap.size + 1 + 1) 46 #[.int .i64 (a + x), .int .i64 (b + y), .int .i64 (c + z)] (0, 0) _ rfl ?_ Try.underlying46 rfl info46s) rfl ⟨rfl, HB.out _ _ _⟩
  have e := heap_alloc_new ((w.alloc (.cells #[.int .i64 a, .int .i64 b, .int .i64 c] 46)).alloc (.cells #[.int .i64 x, .int .i64 y, .int .i64 z] 46)) (.cells #[.int .i64 (a + x), .int .i64 (b + y), .int .i64 (c + z)] 46)
  rw [size_al, size_al] at e
  exact e
end Go.Proofs.Ytammoflhfcpomaa
