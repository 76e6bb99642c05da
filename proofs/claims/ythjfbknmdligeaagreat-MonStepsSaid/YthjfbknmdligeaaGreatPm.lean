/- Machines as plain data: what comes, what is so behind an answer; and a routine that keeps step with one. -/
import Derived.Test.YthjfbknmdligeaaGreatPoke
import Derived.Test.YthjfbknmdligeaaGreatGnd0
namespace Go.Proofs.YthjfbknmdligeaaGreat
open Go Go.RowKit
set_option linter.unusedVariables false
set_option maxRecDepth 100000
set_option linter.unusedSimpArgs false

/-- An access that comes. -/
structure Ax where
  k : Int
  i : Int
  old : Int
  new : Int
  /-- Is it asleep there: then nothing is done, as long as the word is 0. -/
  sl : Bool
structure Ax.Ok (a : Ax) : Prop where
  k : 1 ≤ a.k ∧ a.k ≤ 4
  new : 0 ≤ a.new ∧ a.new ≤ 18446744073709551615
  l : a.k = 1 → a.new = 0
def axLd (i : Int) : Ax := ⟨1, i, 0, 0, false⟩
def axWt (i : Int) : Ax := ⟨1, i, 0, 0, true⟩
def axSt (i new : Int) : Ax := ⟨2, i, 0, new, false⟩
def axSw (i old new : Int) : Ax := ⟨3, i, old, new, false⟩
def axAd (i new : Int) : Ax := ⟨4, i, 0, new, false⟩
theorem axLd_ok (i : Int) : (axLd i).Ok := ⟨by show (1 : Int) ≤ 1 ∧ (1 : Int) ≤ 4; omega, by show (0 : Int) ≤ 0 ∧ (0 : Int) ≤ 18446744073709551615; omega, fun _ => rfl⟩
theorem axWt_ok (i : Int) : (axWt i).Ok := ⟨by show (1 : Int) ≤ 1 ∧ (1 : Int) ≤ 4; omega, by show (0 : Int) ≤ 0 ∧ (0 : Int) ≤ 18446744073709551615; omega, fun _ => rfl⟩
theorem axSt_ok (i new : Int) (h : 0 ≤ new ∧ new ≤ 18446744073709551615) : (axSt i new).Ok := ⟨by show (1 : Int) ≤ 2 ∧ (2 : Int) ≤ 4; omega, h, fun h => by cases (show (2 : Int) = 1 from h)⟩
theorem axSw_ok (i old new : Int) (h : 0 ≤ new ∧ new ≤ 18446744073709551615) : (axSw i old new).Ok := ⟨by show (1 : Int) ≤ 3 ∧ (3 : Int) ≤ 4; omega, h, fun h => by cases (show (3 : Int) = 1 from h)⟩
theorem axAd_ok (i new : Int) (h : 0 ≤ new ∧ new ≤ 18446744073709551615) : (axAd i new).Ok := ⟨by show (1 : Int) ≤ 4 ∧ (4 : Int) ≤ 4; omega, h, fun h => by cases (show (4 : Int) = 1 from h)⟩

/-- A machine: the access that comes (none: it is over), and how it is behind an answer. -/
structure PM (σ : Type) where
  ax : σ → Option Ax
  nx : σ → Int → σ
namespace PM
variable {σ : Type} (M : PM σ)
def run (s0 : σ) (g : Nat → Int) : Nat → σ
  | 0 => s0
  | m + 1 => M.nx (run s0 g m) (g m)
def ans (n : Nat) (a : Ax) (s : St) : Int := actA a.k a.i a.old a.new n s
/-- Is it asleep right now. -/
def asl (n : Nat) (a : Ax) (s : St) : Bool := a.sl && decide (peekT n s a.i = 0)
def goT (n : Nat) (t : σ) (s : St) : σ := match M.ax t with
  | none => t
  | some a => if asl n a s = true then t else M.nx t (ans n a s)
def goS (who : Int) (n : Nat) (t : σ) (s : St) : St := match M.ax t with
  | none => s
  | some a => if asl n a s = true then s else actS a.k who a.i a.old a.new n s
def goM (n : Nat) (t : σ) (s : St) (m : Nat) : Nat := match M.ax t with
  | none => m
  | some a => if asl n a s = true then m else m + 1
def goG (n : Nat) (t : σ) (s : St) (g : Nat → Int) (m : Nat) : Nat → Int := match M.ax t with
  | none => g
  | some a => if asl n a s = true then g else gsnoc g m (ans n a s)
/-- A routine that stopped at what comes. -/
def rn (t : σ) (m : Nat) : Rn := match M.ax t with
  | none => ⟨m, false, 0, 0, 0, 0, false⟩
  | some a => ⟨m, true, a.k, a.i, a.old, a.new, a.sl⟩
/-- A routine behind j accesses. -/
def rj (s0 : σ) (g : Nat → Int) (m j : Nat) : Rn := if j ≤ m then ⟨j, false, 0, 0, 0, 0, false⟩ else M.rn (M.run s0 g m) m
end PM

section
variable {σ : Type} {M : PM σ} {s0 t : σ} {g g' : Nat → Int} {m j n : Nat} {s : St} {Q Q' : σ → Prop} {a : Ax}
theorem PM.run_eq : ∀ (m : Nat), (∀ i, i < m → g i = g' i) → M.run s0 g m = M.run s0 g' m
  | 0, _ => rfl
  | m + 1, h => by
    show M.nx (M.run s0 g m) (g m) = M.nx (M.run s0 g' m) (g' m)
    rw [PM.run_eq m (fun i hi => h i (by omega)), h m (by omega)]
theorem PM.rn_none (h : M.ax t = none) : M.rn t m = ⟨m, false, 0, 0, 0, 0, false⟩ := by unfold PM.rn; rw [h]
theorem PM.rn_some (h : M.ax t = some a) : M.rn t m = ⟨m, true, a.k, a.i, a.old, a.new, a.sl⟩ := by unfold PM.rn; rw [h]
theorem PM.rn_stop : (M.rn t m).stop = (M.ax t).isSome := by unfold PM.rn; cases M.ax t <;> rfl
theorem PM.goS_low {who : Int} {k : Int} (h : Low s k) : Low (M.goS who n t s) (k + 1) := by
  unfold PM.goS
  split
  · exact h.more (by omega)
  · split
    · exact h.more (by omega)
    · exact actS_low h _ _ _ _ _ _
theorem PM.asl_no (h : a.sl = false) : PM.asl n a s = false := by unfold PM.asl; rw [h]; rfl
theorem PM.goT_some (h : M.ax t = some a) (hz : PM.asl n a s = false) : M.goT n t s = M.nx t (actA a.k a.i a.old a.new n s) := by unfold PM.goT; rw [h]; dsimp only; rw [hz]; rfl
theorem PM.goS_some {who : Int} (h : M.ax t = some a) (hz : PM.asl n a s = false) : M.goS who n t s = actS a.k who a.i a.old a.new n s := by unfold PM.goS; rw [h]; dsimp only; rw [hz]; rfl
theorem PM.goT_asl (h : M.ax t = some a) (hz : PM.asl n a s = true) : M.goT n t s = t := by unfold PM.goT; rw [h]; dsimp only; rw [hz]; rfl
theorem PM.goS_asl {who : Int} (h : M.ax t = some a) (hz : PM.asl n a s = true) : M.goS who n t s = s := by unfold PM.goS; rw [h]; dsimp only; rw [hz]; rfl

/-- What was answered so far: m answers g, and the state behind them. -/
structure Hist (M : PM σ) (s0 : σ) (g : Nat → Int) (m : Nat) (t : σ) : Prop where
  at' : M.run s0 g m = t
  live : ∀ j, j < m → (M.ax (M.run s0 g j)).isSome = true
  bd : ∀ j, j < m → 0 ≤ g j ∧ g j ≤ 18446744073709551615
  sw : ∀ j, j < m → ∀ a, M.ax (M.run s0 g j) = some a → a.k = 3 → g j ≤ 1
theorem Hist.start (M : PM σ) (s0 : σ) (g : Nat → Int) : Hist M s0 g 0 s0 := ⟨rfl, fun j h => absurd h (Nat.not_lt_zero j), fun j h => absurd h (Nat.not_lt_zero j), fun j h => absurd h (Nat.not_lt_zero j)⟩
theorem actA_sw (i old new : Int) (n : Nat) (s : St) : actA 3 i old new n s ≤ 1 := by
  unfold actA
  rw [if_neg (by decide), if_pos rfl]
  rcases ans_swap i old new n s with h | h <;> rw [h] <;> omega
theorem actA_bd {w : World} {T : TypeId} {A : Option Addr} {cap c b n : Nat} {s : St} (h : Is w T A cap c b n s) (k i old new : Int) : 0 ≤ actA k i old new n s ∧ actA k i old new n s ≤ 18446744073709551615 := by
  unfold actA
  split
  · omega
  split
  · rcases ans_swap i old new n s with h | h <;> rw [h] <;> omega
  split
  · unfold Go.Proofs.YthjfbknmdligeaaGreat.ans; split
    · simp; omega
    · omega
  · unfold Go.Proofs.YthjfbknmdligeaaGreat.ans; split
    · rename_i hi
      simp
      exact h.bd _ (by omega)
    · omega
theorem Hist.next (h : Hist M s0 g m t) (n : Nat) (s : St) (hb : ∀ k i old new, 0 ≤ actA k i old new n s ∧ actA k i old new n s ≤ 18446744073709551615) : Hist M s0 (M.goG n t s g m) (M.goM n t s m) (M.goT n t s) := by
  unfold PM.goG PM.goM PM.goT
  cases ha : M.ax t with
  | none => exact h
  | some a =>
    dsimp only
    by_cases hz : PM.asl n a s = true
    · rw [if_pos hz, if_pos hz, if_pos hz]; exact h
    rw [if_neg hz, if_neg hz, if_neg hz]
    have e : ∀ i, i < m → gsnoc g m (PM.ans n a s) i = g i := fun i hi => by simp [gsnoc]; omega
    have r : ∀ j, j ≤ m → M.run s0 (gsnoc g m (PM.ans n a s)) j = M.run s0 g j := fun j hj => PM.run_eq j (fun i hi => e i (by omega))
    have em : gsnoc g m (PM.ans n a s) m = PM.ans n a s := by simp [gsnoc]
    refine ⟨?_, fun j hj => ?_, fun j hj => ?_, fun j hj b hb3 hk => ?_⟩
    · show M.nx (M.run s0 _ m) _ = _
      rw [r m (Nat.le_refl _), h.at', em]
    · rw [r j (by omega)]
      by_cases hm : j < m
      · exact h.live j hm
      · obtain rfl : j = m := by omega
        rw [h.at', ha]; rfl
    · by_cases hm : j < m
      · rw [e j hm]; exact h.bd j hm
      · obtain rfl : j = m := by omega
        rw [em]; exact hb _ _ _ _
    · rw [r j (by omega)] at hb3
      by_cases hm : j < m
      · rw [e j hm]; exact h.sw j hm b hb3 hk
      · obtain rfl : j = m := by omega
        rw [h.at', ha] at hb3
        injection hb3 with hb3
        subst hb3
        rw [em]
        unfold PM.ans
        rw [hk]
        exact actA_sw _ _ _ _ _

/-- A routine that keeps step with a machine: behind j accesses the machine is at t; where it stopped ahead of that Q holds. -/
structure Syn (M : PM σ) (s0 : σ) (g : Nat → Int) (m j : Nat) (t : σ) (Q : σ → Prop) : Prop where
  at' : j ≤ m → M.run s0 g j = t
  past : m < j → Q (M.run s0 g m) ∧ (M.ax (M.run s0 g m)).isSome = true
theorem Syn.start (M : PM σ) (s0 : σ) (g : Nat → Int) (m : Nat) : Syn M s0 g m 0 s0 (fun _ => False) := ⟨fun _ => rfl, fun h => absurd h (Nat.not_lt_zero m)⟩
theorem Syn.weak (h : Syn M s0 g m j t Q) (hQ : ∀ r, Q r → Q' r) : Syn M s0 g m j t Q' := ⟨h.at', fun hm => ⟨hQ _ (h.past hm).1, (h.past hm).2⟩⟩
theorem Syn.next (h : Syn M s0 g m j t Q) (ha : j ≤ m → M.ax t = some a) {v : Int} (hv : j < m → v = g j) : Syn M s0 g m (j + 1) (M.nx t v) (fun r => r = t ∨ Q r) := by
  refine ⟨fun hm => ?_, fun hm => ?_⟩
  · show M.nx (M.run s0 g j) (g j) = _
    rw [h.at' (by omega), hv (by omega)]
  · by_cases hj : j ≤ m
    · obtain rfl : j = m := by omega
      rw [h.at' hj]
      exact ⟨.inl rfl, by rw [ha hj]; rfl⟩
    · exact ⟨.inr (h.past (by omega)).1, (h.past (by omega)).2⟩
/-- Another state, where it did not stop. -/
theorem Syn.as {t' : σ} (h : Syn M s0 g m j t Q) (e : j ≤ m → t = t') : Syn M s0 g m j t' Q := ⟨fun hm => (h.at' hm).trans (e hm), h.past⟩
theorem rj_do (h : Syn M s0 g m j t Q) (ha : j ≤ m → M.ax t = some a) (hsl : a.sl = false) : doS m (M.rj s0 g m j) a.k a.i a.old a.new = M.rj s0 g m (j + 1) := by
  unfold PM.rj
  by_cases hj : j < m
  · rw [if_pos (by omega), if_pos (by omega)]
    simp [doS, hj]
  · by_cases he : j = m
    · subst he
      rw [if_pos (Nat.le_refl _), if_neg (by omega), h.at' (Nat.le_refl _), PM.rn_some (ha (Nat.le_refl _))]
      simp [doS, hsl]
    · rw [if_neg (by omega), if_neg (by omega)]
      have hs := (h.past (by omega)).2
      have : (M.rn (M.run s0 g m) m).stop = true := by rw [PM.rn_stop]; exact hs
      simp [doS, this]
theorem rj_stop (h : Syn M s0 g m j t Q) : (M.rj s0 g m j).stop = decide (m < j) := by
  unfold PM.rj
  by_cases hj : j ≤ m
  · rw [if_pos hj]; simp; exact hj
  · rw [if_neg hj, PM.rn_stop, (h.past (by omega)).2]; simp; omega
theorem rj_used (h : Syn M s0 g m j t Q) : (M.rj s0 g m j).used ≤ m := by
  unfold PM.rj
  by_cases hj : j ≤ m
  · rw [if_pos hj]; exact hj
  · rw [if_neg hj]; unfold PM.rn; cases M.ax (M.run s0 g m) <;> exact Nat.le_refl _
theorem rj_val (h : Syn M s0 g m j t Q) : (j < m → doV m g (M.rj s0 g m j) = g j) ∧ (m ≤ j → doV m g (M.rj s0 g m j) = 0) := by
  unfold PM.rj
  refine ⟨fun hj => ?_, fun hj => ?_⟩
  · rw [if_pos (by omega)]; simp [doV, hj]
  · by_cases he : j = m
    · subst he
      rw [if_pos (Nat.le_refl _)]; simp [doV]
    · rw [if_neg (by omega)]
      have : (M.rn (M.run s0 g m) m).stop = true := by rw [PM.rn_stop]; exact (h.past (by omega)).2
      simp [doV, this]
theorem rj_start : M.rj s0 g m 0 = rn0 := by unfold PM.rj; rw [if_pos (Nat.zero_le _)]; rfl
/-- The routine is over. -/
theorem rj_end {T : σ} (h : Syn M s0 g m j t Q) (hh : Hist M s0 g m T) (he : j ≤ m → M.ax t = none) : M.rj s0 g m j = M.rn T m := by
  unfold PM.rj
  by_cases hj : j ≤ m
  · rw [if_pos hj]
    have hn := he hj
    have ht := h.at' hj
    have hjm : j = m := by
      by_cases hl : j < m
      · have := hh.live j hl
        rw [ht, hn] at this
        cases this
      · omega
    subst hjm
    have hT : t = T := ht.symm.trans hh.at'
    subst hT
    rw [PM.rn_none hn]
  · rw [if_neg hj, hh.at']
/-- At which state one is, when the routine is over. -/
theorem Syn.fin {T : σ} (h : Syn M s0 g m j t Q) (hh : Hist M s0 g m T) (he : j ≤ m → M.ax t = none) : (T = t ∧ j = m) ∨ (m < j ∧ Q T) := by
  by_cases hj : j ≤ m
  · have hn := he hj
    have ht := h.at' hj
    have hjm : j = m := by
      by_cases hl : j < m
      · have := hh.live j hl
        rw [ht, hn] at this
        cases this
      · omega
    subst hjm
    exact .inl ⟨hh.at'.symm.trans ht, rfl⟩
  · exact .inr ⟨by omega, by have := (h.past (by omega)).1; rw [hh.at'] at this; exact this⟩
end

section
variable {w : World} {x : Nat} {A : Option Addr} {cap m : Nat} {g : Nat → Int} {σ : Type} {M : PM σ} {s0 : σ} {j : Nat} {t : σ} {Q : σ → Prop}
/-- What an access leaves of a routine that keeps step. -/
structure Kept' (w w' : World) (x : Nat) (A : Option Addr) (cap m : Nat) (g : Nat → Int) (M : PM σ) (s0 : σ) (j : Nat) (t : σ) (Q : σ → Prop) (v : Int) : Prop where
  bd : 0 ≤ v ∧ v ≤ 18446744073709551615
  val : j < m → v = g j
  zero : m ≤ j → v = 0
  run : RunOn w' x A cap m g (M.rj s0 g m (j + 1))
  syn : Syn M s0 g m (j + 1) (M.nx t v) (fun r => r = t ∨ Q r)
  but : But [x] w w'
theorem kept_of (hS : Syn M s0 g m j t Q) (hb : ∀ j, j < m → 0 ≤ g j ∧ g j ≤ 18446744073709551615) (a : Ax) (hsl : a.sl = false) (ha : j ≤ m → M.ax t = some a) {w' : World} (h1 : RunOn w' x A cap m g (doS m (M.rj s0 g m j) a.k a.i a.old a.new)) (h2 : But [x] w w') : Kept' w w' x A cap m g M s0 j t Q (doV m g (M.rj s0 g m j)) := by
  obtain ⟨v1, v2⟩ := rj_val hS
  rw [rj_do hS ha hsl] at h1
  refine ⟨?_, v1, v2, h1, hS.next ha v1, h2⟩
  by_cases hj : j < m
  · rw [v1 hj]; exact hb j hj
  · rw [v2 (by omega)]; omega
variable (hR : RunOn w x A cap m g (M.rj s0 g m j)) (hS : Syn M s0 g m j t Q) (hb : ∀ j, j < m → 0 ≤ g j ∧ g j ≤ 18446744073709551615)
include hR hS hb
theorem syn_load (i : Int) (ha : j ≤ m → M.ax t = some (axLd i)) :
    Calls Tryz.prog 44 #[.pointer (some ⟨x, 0, none⟩), .int .i64 i] w fun e w' => ∃ v, e = .returned (.int .u64 v) ∧ Kept' w w' x A cap m g M s0 j t Q v := by
  refine (rload_on w x A cap m g _ hR i).mono ?_
  rintro e w' ⟨rfl, h1, h2⟩
  exact ⟨_, rfl, kept_of hS hb _ rfl ha h1 h2⟩
theorem syn_store (i new : Int) (ha : j ≤ m → M.ax t = some (axSt i new)) :
    Calls Tryz.prog 69 #[.pointer (some ⟨x, 0, none⟩), .int .i64 i, .int .u64 new] w fun e w' => (∃ u, e = .returned u) ∧ ∃ v, Kept' w w' x A cap m g M s0 j t Q v := by
  refine (rstore_on w x A cap m g _ hR i new).mono ?_
  rintro e w' ⟨hu, h1, h2⟩
  exact ⟨hu, _, kept_of hS hb _ rfl ha h1 h2⟩
theorem syn_swap (i old new : Int) (ha : j ≤ m → M.ax t = some (axSw i old new)) :
    Calls Tryz.prog 73 #[.pointer (some ⟨x, 0, none⟩), .int .i64 i, .int .u64 old, .int .u64 new] w fun e w' => ∃ v, e = .returned (.bool (decide (v = 1))) ∧ Kept' w w' x A cap m g M s0 j t Q v := by
  refine (rswap_on w x A cap m g _ hR i old new).mono ?_
  rintro e w' ⟨rfl, h1, h2⟩
  exact ⟨_, rfl, kept_of hS hb _ rfl ha h1 h2⟩
theorem syn_add (i new : Int) (ha : j ≤ m → M.ax t = some (axAd i new)) :
    Calls Tryz.prog 74 #[.pointer (some ⟨x, 0, none⟩), .int .i64 i, .int .u64 new] w fun e w' => ∃ v, e = .returned (.int .u64 v) ∧ Kept' w w' x A cap m g M s0 j t Q v := by
  refine (radd_on w x A cap m g _ hR i new).mono ?_
  rintro e w' ⟨rfl, h1, h2⟩
  exact ⟨_, rfl, kept_of hS hb _ rfl ha h1 h2⟩
end

section
variable {W0 w : World} {A A' : Option Addr} {cap cap' c b c' b' n : Nat} {s : St} {Ag : Option Addr} {capg m : Nat} {g : Nat → Int} {L : List Nat} {σ : Type} {M : PM σ} {t : σ}
theorem pm_turn (hO : PokeOn W0 w A A' cap cap' c b c' b' n s s Ag capg m g L) (hok : ∀ a, M.ax t = some a → a.Ok) (hn6 : n ≤ 1000000) (hl : Low s 1000000) (hm : m ≤ 1000) (who : Int) :
    Calls Tryz.prog 18 #[.pointer (some ⟨c', 0, none⟩), .agg (runCells (.slice Ag m capg) (M.rn t m)), .int .i64 who] w fun e w' => ∃ Ag' capg', e = .returned (.slice Ag' (M.goM n t s m) capg') ∧ PokeOn W0 w' A A' cap cap' c b c' b' n s (M.goS who n t s) Ag' capg' (M.goM n t s m) (M.goG n t s g m) L ∧ But (c' :: b' :: gotL Ag) w w' := by
  have hgf : GotFar Ag [c', b'] := hO.gfar.of (by intro k hk; simp at hk ⊢; omega)
  unfold PM.goM PM.goS PM.goG PM.rn
  cases ha : M.ax t with
  | none =>
    dsimp only
    refine (turn_go w Ag capg m ⟨m, false, 0, 0, 0, 0, false⟩ c' who rfl).mono ?_
    rintro e w' ⟨rfl, hb⟩
    exact ⟨_, _, rfl, hO.still hb, But.of_below hb⟩
  | some a =>
    have hk := hok a ha
    dsimp only
    by_cases hz : PM.asl n a s = true
    · rw [if_pos hz, if_pos hz, if_pos hz]
      have hz' : a.sl = true ∧ peekT n s a.i = 0 := by simpa [PM.asl] using hz
      refine (turn_sleeps w Ag capg m ⟨m, true, a.k, a.i, a.old, a.new, a.sl⟩ A' cap' c' b' n s who rfl hz'.1 hz'.2 hn6 hO.ref).mono ?_
      rintro e w' ⟨rfl, hb⟩
      exact ⟨_, _, rfl, hO.still hb, But.of_below hb⟩
    rw [if_neg hz, if_neg hz, if_neg hz]
    refine (turn_does w Ag capg m g ⟨m, true, a.k, a.i, a.old, a.new, a.sl⟩ A' cap' c' b' n s who rfl (fun h h0 => hz (by simp [PM.asl, show a.sl = true from h, show peekT n s a.i = 0 from h0])) hk.k hk.l hk.new hn6 hm hl hO.ref hO.got hgf).mono ?_
    rintro e w' ⟨gb, cap2, rfl, hG6, hI6, hB6, hg6⟩
    exact ⟨_, _, rfl, hO.turned hG6 hI6 hB6 hg6, hB6⟩
end
end Go.Proofs.YthjfbknmdligeaaGreat
