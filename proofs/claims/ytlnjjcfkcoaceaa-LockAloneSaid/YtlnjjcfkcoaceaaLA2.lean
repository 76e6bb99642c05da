/- Many that acquire and release a lock: turns. -/
import Derived.Test.YtlnjjcfkcoaceaaLA1
namespace Go.Proofs.Ytlnjjcfkcoaceaa
open Go Go.RowKit
set_option linter.unusedVariables false
set_option maxRecDepth 100000
set_option linter.unusedSimpArgs false


structure Abs (first : Int) (T : Nat) (S : Nat → TS) (s : St) (tk sv served N : Nat) : Prop where
  tick : s.f 0 = (first + tk) % 4294967296
  serv : s.f 1 = (first + sv) % 4294967296
  le : sv ≤ tk ∧ tk ≤ N
  rng : ∀ t, t < T → ∀ k, (S t).num = some k → sv ≤ k ∧ k < tk
  inj : ∀ t u, t < T → u < T → ∀ k, (S t).num = some k → (S u).num = some k → t = u
  has : ∀ t, t < T → (S t).hold = true → (S t).num = some sv
  cnt : (served = sv ∧ ∀ t, t < T → (S t).isRel = false) ∨ (served = sv + 1 ∧ ∃ u, u < T ∧ (S u).isRel = true)

section
variable {first : Int} {T : Nat} {S : Nat → TS} {s s' : St} {tk sv served N : Nat}
theorem Abs.more (h : Abs first T S s tk sv served N) {M : Nat} (hm : N ≤ M) : Abs first T S s tk sv served M := ⟨h.tick, h.serv, ⟨h.le.1, Nat.le_trans h.le.2 hm⟩, h.rng, h.inj, h.has, h.cnt⟩
theorem rel_hold {X : TS} (h : X.isRel = true) : X.hold = true := by cases X <;> simp_all [TS.isRel, TS.hold]
/-- A step at which neither turns nor holders change. -/
theorem Abs.same (h : Abs first T S s tk sv served N) {t : Nat} (ht : t < T) (X : TS) (h0 : s'.f 0 = s.f 0) (h1 : s'.f 1 = s.f 1) (hn : X.num = (S t).num) (hh : X.hold = (S t).hold) (hr : X.isRel = (S t).isRel) : Abs first T (upS S t X) s' tk sv served N := by
  have e : ∀ u, (upS S t X u).num = (S u).num ∧ (upS S t X u).hold = (S u).hold ∧ (upS S t X u).isRel = (S u).isRel := fun u => by
    by_cases hu : u = t
    · subst hu; rw [upS_at]; exact ⟨hn, hh, hr⟩
    · rw [upS_ne _ _ hu]; exact ⟨rfl, rfl, rfl⟩
  refine ⟨h0.trans h.tick, h1.trans h.serv, h.le, fun u hu k hk => h.rng u hu k (by rw [← (e u).1]; exact hk), fun u v hu hv k h1 h2 => h.inj u v hu hv k (by rw [← (e u).1]; exact h1) (by rw [← (e v).1]; exact h2), fun u hu hk => by rw [(e u).1]; exact h.has u hu (by rw [← (e u).2.1]; exact hk), ?_⟩
  rcases h.cnt with ⟨a, b⟩ | ⟨a, u, hu, b⟩
  · exact .inl ⟨a, fun u hu => by rw [(e u).2.2]; exact b u hu⟩
  · exact .inr ⟨a, u, hu, by rw [(e u).2.2]; exact b⟩
/-- It draws a ticket. -/
theorem Abs.draw (h : Abs first T S s tk sv served N) {t : Nat} (ht : t < T) (X : TS) (h0 : s'.f 0 = (s.f 0 + 1) % 4294967296) (h1 : s'.f 1 = s.f 1) (hs0 : (S t).hold = false) (hr0 : (S t).isRel = false) (hn : X.num = some tk) (hh : X.hold = false) (hr : X.isRel = false) (hf : 0 ≤ first) : Abs first T (upS S t X) s' (tk + 1) sv served (N + 1) := by
  obtain ⟨l1, l2⟩ := h.le
  refine ⟨?_, h1.trans h.serv, ⟨by omega, by omega⟩, fun u hu k hk => ?_, fun u v hu hv k k1 k2 => ?_, fun u hu hk => ?_, ?_⟩
  · rw [h0, h.tick]; omega
  · by_cases hut : u = t
    · subst hut
      rw [upS_at, hn] at hk
      cases hk
      omega
    · rw [upS_ne _ _ hut] at hk
      have := h.rng u hu k hk
      omega
  · by_cases hut : u = t
    · by_cases hvt : v = t
      · omega
      · subst hut
        rw [upS_at, hn] at k1
        cases k1
        rw [upS_ne _ _ hvt] at k2
        have := h.rng v hv _ k2
        omega
    · by_cases hvt : v = t
      · subst hvt
        rw [upS_at, hn] at k2
        cases k2
        rw [upS_ne _ _ hut] at k1
        have := h.rng u hu _ k1
        omega
      · rw [upS_ne _ _ hut] at k1
        rw [upS_ne _ _ hvt] at k2
        exact h.inj u v hu hv k k1 k2
  · by_cases hut : u = t
    · subst hut; rw [upS_at, hh] at hk; cases hk
    · rw [upS_ne _ _ hut] at hk ⊢
      exact h.has u hu hk
  · rcases h.cnt with ⟨a, b⟩ | ⟨a, u, hu, b⟩
    · refine .inl ⟨a, fun u hu => ?_⟩
      by_cases hut : u = t
      · subst hut; rw [upS_at, hr]
      · rw [upS_ne _ _ hut]; exact b u hu
    · refine .inr ⟨a, u, hu, ?_⟩
      have hut : u ≠ t := by intro e; subst e; rw [hr0] at b; cases b
      rw [upS_ne _ _ hut]
      exact b
/-- It sees that it is its turn. -/
theorem Abs.sees (h : Abs first T S s tk sv served N) {t k : Nat} (ht : t < T) (X : TS) (h0 : s'.f 0 = s.f 0) (h1 : s'.f 1 = s.f 1) (hk : (S t).num = some k) (hn : X.num = some k) (hr0 : (S t).isRel = false) (hr : X.isRel = false) (hN : N ≤ 1000) (hu : s.f 1 = (first + k) % 4294967296) : Abs first T (upS S t X) s' tk sv served N ∧ k = sv := by
  obtain ⟨l1, l2⟩ := h.le
  have hrg := h.rng t ht k hk
  have hks : k = sv := by have := h.serv; omega
  refine ⟨⟨h0.trans h.tick, h1.trans h.serv, h.le, fun u hu k' hk' => ?_, fun u v hu hv k' k1 k2 => ?_, fun u hu hk' => ?_, ?_⟩, hks⟩
  · by_cases hut : u = t
    · subst hut
      rw [upS_at, hn] at hk'
      cases hk'
      exact hrg
    · rw [upS_ne _ _ hut] at hk'
      exact h.rng u hu k' hk'
  · refine h.inj u v hu hv k' ?_ ?_
    · by_cases hut : u = t
      · subst hut; rw [upS_at, hn] at k1; rw [hk]; exact k1
      · rw [upS_ne _ _ hut] at k1; exact k1
    · by_cases hut : v = t
      · subst hut; rw [upS_at, hn] at k2; rw [hk]; exact k2
      · rw [upS_ne _ _ hut] at k2; exact k2
  · by_cases hut : u = t
    · subst hut; rw [upS_at, hn, hks]
    · rw [upS_ne _ _ hut] at hk' ⊢
      exact h.has u hu hk'
  · rcases h.cnt with ⟨a, b⟩ | ⟨a, u, hu, b⟩
    · refine .inl ⟨a, fun u hu => ?_⟩
      by_cases hut : u = t
      · subst hut; rw [upS_at, hr]
      · rw [upS_ne _ _ hut]; exact b u hu
    · refine .inr ⟨a, u, hu, ?_⟩
      have hut : u ≠ t := by intro e; subst e; rw [hr0] at b; cases b
      rw [upS_ne _ _ hut]
      exact b
/-- Who holds the lock holds it alone. -/
theorem Abs.alone (h : Abs first T S s tk sv served N) {t : Nat} (ht : t < T) (hh : (S t).hold = true) : ∀ u, u < T → u ≠ t → (S u).hold = false := fun u hu hut => by
  by_cases hb : (S u).hold = true
  · exact absurd (h.inj u t hu ht sv (h.has u hu hb) (h.has t ht hh)) hut
  · simpa using hb
theorem Abs.now (h : Abs first T S s tk sv served N) {t : Nat} (ht : t < T) (hh : (S t).hold = true) (hr : (S t).isRel = false) : served = sv := by
  rcases h.cnt with ⟨a, b⟩ | ⟨a, u, hu, b⟩
  · exact a
  · have hut : u ≠ t := by intro e; subst e; rw [hr] at b; cases b
    have := h.alone ht hh u hu hut
    rw [rel_hold b] at this
    cases this
/-- It has the lock, and begins to release it. -/
theorem Abs.enter (h : Abs first T S s tk sv served N) {t : Nat} (ht : t < T) (X : TS) (hh : (S t).hold = true) (hr0 : (S t).isRel = false) (hn : X.num = (S t).num) (hr : X.isRel = true) : Abs first T (upS S t X) s tk sv (served + 1) N := by
  have hsv := h.now ht hh hr0
  have hn2 := h.has t ht hh
  refine ⟨h.tick, h.serv, h.le, fun u hu k' hk' => ?_, fun u v hu hv k' k1 k2 => ?_, fun u hu hk' => ?_, .inr ⟨by omega, t, ht, by rw [upS_at]; exact hr⟩⟩
  · by_cases hut : u = t
    · subst hut; rw [upS_at, hn] at hk'; exact h.rng u hu k' hk'
    · rw [upS_ne _ _ hut] at hk'; exact h.rng u hu k' hk'
  · refine h.inj u v hu hv k' ?_ ?_
    · by_cases hut : u = t
      · subst hut; rw [upS_at, hn] at k1; exact k1
      · rw [upS_ne _ _ hut] at k1; exact k1
    · by_cases hut : v = t
      · subst hut; rw [upS_at, hn] at k2; exact k2
      · rw [upS_ne _ _ hut] at k2; exact k2
  · by_cases hut : u = t
    · subst hut; rw [upS_at, hn]; exact hn2
    · rw [upS_ne _ _ hut] at hk' ⊢; exact h.has u hu hk'
/-- It has released it. -/
theorem Abs.leave (h : Abs first T S s tk sv served N) {t : Nat} (ht : t < T) (X : TS) (h0 : s'.f 0 = s.f 0) (h1 : s'.f 1 = (s.f 1 + 1) % 4294967296) (hr0 : (S t).isRel = true) (hn : X.num = none) (hh : X.hold = false) (hr : X.isRel = false) (hf : 0 ≤ first) : Abs first T (upS S t X) s' tk (sv + 1) served N := by
  have hal := h.alone ht (rel_hold hr0)
  have hn2 := h.has t ht (rel_hold hr0)
  have hrg := h.rng t ht sv hn2
  obtain ⟨l1, l2⟩ := h.le
  refine ⟨h0.trans h.tick, ?_, ⟨by omega, l2⟩, fun u hu k' hk' => ?_, fun u v hu hv k' k1 k2 => ?_, fun u hu hk' => ?_, .inl ⟨?_, fun u hu => ?_⟩⟩
  · rw [h1, h.serv]; omega
  · by_cases hut : u = t
    · subst hut; rw [upS_at, hn] at hk'; cases hk'
    · rw [upS_ne _ _ hut] at hk'
      have := h.rng u hu k' hk'
      have hne : k' ≠ sv := fun e => hut (h.inj u t hu ht sv (by rw [← e]; exact hk') hn2)
      omega
  · by_cases hut : u = t
    · subst hut; rw [upS_at, hn] at k1; cases k1
    · by_cases hvt : v = t
      · subst hvt; rw [upS_at, hn] at k2; cases k2
      · rw [upS_ne _ _ hut] at k1
        rw [upS_ne _ _ hvt] at k2
        exact h.inj u v hu hv k' k1 k2
  · by_cases hut : u = t
    · subst hut; rw [upS_at, hh] at hk'; cases hk'
    · rw [upS_ne _ _ hut] at hk'
      rw [hal u hu hut] at hk'
      cases hk'
  · rcases h.cnt with ⟨a, b⟩ | ⟨a, u, hu, b⟩
    · have := b t ht; rw [hr0] at this; cases this
    · exact a
  · by_cases hut : u = t
    · subst hut; rw [upS_at, hr]
    · rw [upS_ne _ _ hut]
      cases hq : (S u).isRel
      · rfl
      · have := hal u hu hut; rw [rel_hold hq] at this; cases this
end

end Go.Proofs.Ytlnjjcfkcoaceaa
