/- A steal out of a ring that nobody else goes to: what becomes of both rings. -/
import Derived.Test.YtcjidigpdecdlaaSt6
import Derived.Test.YtcjidigpdecdlaaStP
namespace Go.Proofs.Ytcjidigpdecdlaa
open Go Go.RowKit
set_option linter.unusedVariables false
set_option maxRecDepth 100000
set_option linter.unusedSimpArgs false

def shM : PM StT := stPM 2 1 0 false
theorem sh_w {k : Int} (hk : 0 ≤ k ∧ k < 264) : wd 20 2 264 0 k = 20 + k ∧ wd 20 2 264 1 k = 284 + k := by
  unfold wd; rw [if_pos ⟨by omega, by omega, hk.1, hk.2⟩, if_pos ⟨by omega, by omega, hk.1, hk.2⟩]; omega
theorem sh_u {h : Int} (hh : 0 ≤ h ∧ h < 4294967296) (k : Nat) (hk : k < 256) : IntKind.u64.wrap (h + (k : Int)) = h + k := wrap_u64 (by omega)
/-- What was copied so far. -/
structure ShC (f : Nat → Int) (h h2 : Int) (n : Nat) (k : Nat) (d : StD) (s : St) : Prop where
  he : d.he = h
  ta : d.ta = h2
  n : d.n = n
  st : d.st = false
  len : d.lo.length = 128
  lo : ∀ j, j < k → d.lo.getD j 0 = gw (f (28 + (h + (j : Int)) % 256).toNat)
  low : ∀ i : Nat, i < 292 → s.f i = f i
  own : ∀ j : Nat, j < k → s.f (292 + (h2 + (j : Int)) % 256).toNat = f (28 + (h + (j : Int)) % 256).toNat
  bad : s.bad = 0
theorem sh_two {f : Nat → Int} {h h2 : Int} {n k q : Nat} {d : StD} {s : St} (hh : 0 ≤ h ∧ h < 4294967296) (hh2 : 0 ≤ h2 ∧ h2 < 4294967296) (hn : n ≤ 128) (hk : k < n) (H : ShC f h h2 n k d s) :
    ∃ s' d', shM.steps 1 674 (q + 2) (.rg d k, s) = shM.steps 1 674 q (if k + 1 < n then .rg d' (k + 1) else .sh d', s') ∧ ShC f h h2 n (k + 1) d' s' := by
  obtain ⟨v, hv⟩ : ∃ v, f (28 + (h + (k : Int)) % 256).toNat = v := ⟨_, rfl⟩
  obtain ⟨s1, a1, f1, b1⟩ := steps_ld (M := shM) (who := 1) (n := 674) (k := q + 1) (t := .rg d k) (s := s) (i := wd 20 2 264 0 (8 + IntKind.u64.wrap (d.he + k) % 256)) rfl (by rw [H.he, sh_u hh k (by omega), (sh_w (by omega)).1]; omega)
  have e1 : s.f (wd 20 2 264 0 (8 + IntKind.u64.wrap (d.he + k) % 256)).toNat = v := by
    rw [H.he, sh_u hh k (by omega), (sh_w (by omega)).1, H.low _ (by omega), ← hv]
    congr 1
    omega
  rw [e1] at a1
  obtain ⟨d', hd'⟩ : ∃ d' : StD, ({ d with lo := d.lo.set k (gw v), co := ((k + 1 : Nat) : Int) } : StD) = d' := ⟨_, rfl⟩
  rw [show shM.nx (.rg d k) v = .ly d' k v by rw [← hd']; rfl] at a1
  have ta' : d'.ta = h2 := by rw [← hd']; exact H.ta
  have n' : d'.n = n := by rw [← hd']; exact H.n
  obtain ⟨s2, a2, f2, b2⟩ := steps_st (M := shM) (who := 1) (n := 674) (k := q) (t := .ly d' k v) (s := s1) (i := wd 20 2 264 1 (8 + IntKind.u64.wrap (d'.ta + k) % 256)) (v := v) rfl (by rw [ta', sh_u hh2 k (by omega), (sh_w (by omega)).2]; omega)
  rw [ta', sh_u hh2 k (by omega), (sh_w (by omega)).2, f1] at f2
  have hat : (284 + (8 + (h2 + (k : Int)) % 256)).toNat = (292 + (h2 + (k : Int)) % 256).toNat := by omega
  rw [hat] at f2
  refine ⟨s2, d', ?_, ?_⟩
  · rw [show q + 2 = q + 1 + 1 from rfl, a1, a2]
    congr 2
    show (if ((k + 1 : Nat) : Int) < d'.n then StT.rg d' (k + 1) else .sh d') = _
    rw [n']
    by_cases h1 : k + 1 < n
    · rw [if_pos (by omega), if_pos h1]
    · rw [if_neg (by omega), if_neg h1]
  · refine ⟨by rw [← hd']; exact H.he, ta', n', by rw [← hd']; exact H.st, by rw [← hd']; show (d.lo.set k (gw v)).length = 128; rw [List.length_set]; exact H.len, fun j hj => ?_, fun i hi => ?_, fun j hj => ?_, by rw [b2, b1]; exact H.bad⟩
    · rw [← hd']
      show (d.lo.set k (gw v)).getD j 0 = _
      rw [List.getD_eq_getElem?_getD, List.getElem?_set]
      by_cases e : k = j
      · subst e
        rw [if_pos rfl, if_pos (by have := H.len; omega), hv]; rfl
      · rw [if_neg e, ← List.getD_eq_getElem?_getD]
        exact H.lo j (by omega)
    · rw [f2, upd_ne (by omega)]; exact H.low i hi
    · rw [f2]
      by_cases e : j = k
      · subst e
        rw [upd_at, hv]
      · rw [upd_ne (by omega)]
        exact H.own j (by omega)
theorem sh_copy {f : Nat → Int} {h h2 : Int} {n : Nat} {d : StD} {s : St} (hh : 0 ≤ h ∧ h < 4294967296) (hh2 : 0 ≤ h2 ∧ h2 < 4294967296) (hn : n ≤ 128) (H : ShC f h h2 n 0 d s) : ∀ k q, k < n → ∃ s' d', shM.steps 1 674 (2 * k + q) (.rg d 0, s) = shM.steps 1 674 q (.rg d' k, s') ∧ ShC f h h2 n k d' s'
  | 0, q, _ => ⟨s, d, by rw [Nat.mul_zero, Nat.zero_add], H⟩
  | k + 1, q, hk => by
    obtain ⟨s1, d1, a1, H1⟩ := sh_copy hh hh2 hn H k (q + 2) (by omega)
    obtain ⟨s2, d2, a2, H2⟩ := sh_two (q := q) hh hh2 hn (by omega) H1
    rw [if_pos hk] at a2
    exact ⟨s2, d2, by rw [show 2 * (k + 1) + q = 2 * k + (q + 2) by omega, a1, a2], H2⟩
/-- All that is copied. -/
theorem sh_all {f : Nat → Int} {h h2 : Int} {n q : Nat} {d : StD} {s : St} (hh : 0 ≤ h ∧ h < 4294967296) (hh2 : 0 ≤ h2 ∧ h2 < 4294967296) (hn : 0 < n ∧ n ≤ 128) (H : ShC f h h2 n 0 d s) : ∃ s' d', shM.steps 1 674 (2 * n + q) (.rg d 0, s) = shM.steps 1 674 q (.sh d', s') ∧ ShC f h h2 n n d' s' := by
  obtain ⟨m, rfl⟩ : ∃ m, n = m + 1 := ⟨n - 1, by omega⟩
  obtain ⟨s1, d1, a1, H1⟩ := sh_copy hh hh2 hn.2 H m (q + 2) (by omega)
  obtain ⟨s2, d2, a2, H2⟩ := sh_two (q := q) hh hh2 hn.2 (by omega) H1
  rw [if_neg (by omega)] at a2
  exact ⟨s2, d2, by rw [show 2 * (m + 1) + q = 2 * m + (q + 2) by omega, a1, a2], H2⟩
theorem sh_many {h : Int} {m : Nat} (hh : 0 ≤ h ∧ h < 4294967296) (hm : m ≤ 256) : stMany h ((h + (m : Int)) % 4294967296) = ((m - m / 2 : Nat) : Int) := by
  unfold stMany; omega
/-- What begins. -/
structure ShS (s : St) (h h2 : Int) (m : Nat) : Prop where
  hb : 0 ≤ h ∧ h < 4294967296
  hb2 : 0 ≤ h2 ∧ h2 < 4294967296
  hd : s.f 21 = h
  tl : s.f 22 = (h + (m : Int)) % 4294967296
  ot : s.f 286 = h2
  m : m ≤ 256
  bad : s.bad = 0
theorem sh_head {s : St} {h h2 : Int} {m q : Nat} (H : ShS s h h2 m) : ∃ s' d, shM.steps 1 674 (q + 3) (.t0 stD0, s) = shM.steps 1 674 q (shM.nx (.tl d) ((h + (m : Int)) % 4294967296), s') ∧ s'.f = s.f ∧ s'.bad = 0 ∧ d = { stD0 with ta := h2, tr := 1, he := h } := by
  obtain ⟨s1, a1, f1, b1⟩ := steps_ld (M := shM) (who := 1) (n := 674) (k := q + 2) (t := .t0 stD0) (s := s) (i := wd 20 2 264 1 2) rfl (by rw [(sh_w (by omega)).2]; omega)
  rw [(sh_w (by omega)).2, show (284 + 2 : Int).toNat = 286 from rfl, H.ot] at a1
  obtain ⟨s2, a2, f2, b2⟩ := steps_ld (M := shM) (who := 1) (n := 674) (k := q + 1) (t := .hd { stD0 with ta := h2, tr := 1 }) (s := s1) (i := wd 20 2 264 0 1) rfl (by rw [(sh_w (by omega)).1]; omega)
  rw [(sh_w (by omega)).1, show (20 + 1 : Int).toNat = 21 from rfl, f1, H.hd] at a2
  obtain ⟨s3, a3, f3, b3⟩ := steps_ld (M := shM) (who := 1) (n := 674) (k := q) (t := .tl { stD0 with ta := h2, tr := 1, he := h }) (s := s2) (i := wd 20 2 264 0 2) rfl (by rw [(sh_w (by omega)).1]; omega)
  rw [(sh_w (by omega)).1, show (20 + 2 : Int).toNat = 22 from rfl, f2, f1, H.tl] at a3
  refine ⟨s3, _, ?_, by rw [f3, f2, f1], by rw [b3, b2, b1]; exact H.bad, rfl⟩
  rw [show q + 3 = q + 2 + 1 from rfl, a1]
  show shM.steps 1 674 (q + 1 + 1) (.hd { stD0 with ta := h2, tr := 1 }, s1) = _
  rw [a2]
  show shM.steps 1 674 (q + 1) (.tl { stD0 with ta := h2, tr := 1, he := h }, s2) = _
  exact a3
theorem sh_none {s : St} {h h2 : Int} (H : ShS s h h2 0) : ∃ s' d, shM.steps 1 674 300 (.t0 stD0, s) = (.over d, s') ∧ s'.f = s.f ∧ s'.bad = 0 ∧ d.Ok ∧ d.st = false := by
  obtain ⟨s1, d, a1, f1, b1, hd⟩ := sh_head (q := 297) H
  have e : shM.nx (.tl d) ((h + ((0 : Nat) : Int)) % 4294967296) = .over d := by
    have hm := sh_many (m := 0) H.hb (by omega)
    have h1 : stMany d.he ((h + ((0 : Nat) : Int)) % 4294967296) = 0 := by rw [hd]; exact hm
    show (if 128 < stMany d.he ((h + ((0 : Nat) : Int)) % 4294967296) then _ else if 0 < stMany d.he ((h + ((0 : Nat) : Int)) % 4294967296) then _ else if (false : Bool) = true then _ else StT.over d) = _
    rw [h1, if_neg (by omega), if_neg (by omega), if_neg (by decide)]
  rw [e, steps_no (M := shM) (t := .over d) rfl 297] at a1
  refine ⟨s1, d, a1, f1, b1, ?_, by rw [hd]; rfl⟩
  rw [hd]
  exact ⟨by simp [stD0], ⟨H.hb2.1, by have := H.hb2; show h2 ≤ _; omega⟩, ⟨H.hb.1, by have := H.hb; show h ≤ _; omega⟩, by show (0 : Int) ≤ 1 ∧ (1 : Int) ≤ 3; omega⟩
theorem sh_some {s : St} {h h2 : Int} {m n : Nat} (H : ShS s h h2 m) (hm : 0 < m) (hn : m - m / 2 = n) : ∃ s' d, shM.steps 1 674 300 (.t0 stD0, s) = (.over d, s') ∧ s'.bad = 0 ∧ d.st = true ∧ d.n = n ∧ d.lo.length = 128 ∧ d.lo.getD (n - 1) 0 = gw (s.f (28 + (h + ((n - 1 : Nat) : Int)) % 256).toNat) ∧ s'.f 21 = (h + (n : Int)) % 4294967296 ∧ s'.f 22 = s.f 22 ∧ s'.f 23 = s.f 23 ∧ (∀ i : Nat, 28 ≤ i → i < 284 → s'.f i = s.f i) ∧ s'.f 285 = s.f 285 ∧ s'.f 286 = (h2 + ((n - 1 : Nat) : Int)) % 4294967296 ∧ s'.f 287 = s.f 287 ∧ (∀ j : Nat, j < n → s'.f (292 + (h2 + (j : Int)) % 256).toNat = s.f (28 + (h + (j : Int)) % 256).toNat) := by
  have hmb := H.m
  have hb := H.hb
  have hb2 := H.hb2
  have hnb : 0 < n ∧ n ≤ 128 := by omega
  obtain ⟨s1, d, a1, f1, b1, hd⟩ := sh_head (q := 297) H
  have e : shM.nx (.tl d) ((h + (m : Int)) % 4294967296) = .rg { d with n := (n : Int), co := 0 } 0 := by
    have h0 := sh_many H.hb H.m
    have h1 : stMany d.he ((h + (m : Int)) % 4294967296) = (n : Int) := by rw [hd, ← hn]; exact h0
    show (if 128 < stMany d.he ((h + (m : Int)) % 4294967296) then _ else if 0 < stMany d.he ((h + (m : Int)) % 4294967296) then StT.rg { d with n := stMany d.he ((h + (m : Int)) % 4294967296), co := 0 } 0 else _) = _
    rw [h1, if_neg (by omega), if_pos (by omega)]
  rw [e] at a1
  have HC : ShC s.f h h2 n 0 { d with n := (n : Int), co := 0 } s1 := by
    subst hd
    exact ⟨rfl, rfl, rfl, rfl, by simp [stD0], fun j hj => absurd hj (by omega), fun i hi => by rw [f1], fun j hj => absurd hj (by omega), b1⟩
  obtain ⟨q, hq⟩ : ∃ q, 297 = 2 * n + (q + 2) := ⟨297 - 2 * n - 2, by omega⟩
  obtain ⟨s2, d2, a2, H2⟩ := sh_all (q := q + 2) hb hb2 hnb HC
  obtain ⟨s3, a3, f3, b3⟩ := steps_sw (M := shM) (who := 1) (n := 674) (k := q + 1) (t := .sh d2) (s := s2) (i := wd 20 2 264 0 1) (old := h) (v := (h + (n : Int)) % 4294967296) (by show some (axSw _ d2.he ((d2.he + d2.n) % 4294967296)) = _; rw [H2.he, H2.n]) (by rw [(sh_w (by omega)).1]; omega) (by rw [(sh_w (by omega)).1, show (20 + 1 : Int).toNat = 21 from rfl, H2.low 21 (by omega)]; exact H.hd)
  rw [(sh_w (by omega)).1, show (20 + 1 : Int).toNat = 21 from rfl] at f3
  have e3 : shM.nx (.sh d2) 1 = stHave d2 := rfl
  rw [e3] at a3
  by_cases h1 : 1 < n
  · have e4 : stHave d2 = .ta { d2 with st := true } := if_pos (by rw [H2.n]; omega)
    rw [e4] at a3
    obtain ⟨s4, a4, f4, b4⟩ := steps_st (M := shM) (who := 1) (n := 674) (k := q) (t := .ta { d2 with st := true }) (s := s3) (i := wd 20 2 264 1 2) (v := (h2 + ((n : Int) - 1)) % 4294967296) (by show some (axSt _ ((d2.ta + (d2.n - 1)) % 4294967296)) = _; rw [H2.ta, H2.n]) (by rw [(sh_w (by omega)).2]; omega)
    rw [(sh_w (by omega)).2, show (284 + 2 : Int).toNat = 286 from rfl] at f4
    have hf : ∀ i : Nat, s4.f i = if i = 286 then (h2 + ((n : Int) - 1)) % 4294967296 else if i = 21 then (h + (n : Int)) % 4294967296 else s2.f i := fun i => by rw [f4, f3]; rfl
    refine ⟨s4, { d2 with st := true, ld := d2.n - 1 }, ?_, by rw [b4, b3]; exact H2.bad, rfl, H2.n, H2.len, H2.lo (n - 1) (by omega), ?_, ?_, ?_, fun i hi hi2 => ?_, ?_, ?_, ?_, fun j hj => ?_⟩
    · rw [show (300 : Nat) = 297 + 3 from rfl, a1, hq, a2, show q + 2 = q + 1 + 1 from rfl, a3, a4]
      exact steps_no (M := shM) (t := .over { d2 with st := true, ld := d2.n - 1 }) rfl q
    · rw [hf, if_neg (by omega), if_pos rfl]
    · rw [hf, if_neg (by omega), if_neg (by omega)]; exact H2.low 22 (by omega)
    · rw [hf, if_neg (by omega), if_neg (by omega)]; exact H2.low 23 (by omega)
    · rw [hf, if_neg (by omega), if_neg (by omega)]; exact H2.low i (by omega)
    · rw [hf, if_neg (by omega), if_neg (by omega)]; exact H2.low 285 (by omega)
    · rw [hf, if_pos rfl]; congr 2; omega
    · rw [hf, if_neg (by omega), if_neg (by omega)]; exact H2.low 287 (by omega)
    · rw [hf, if_neg (by omega), if_neg (by omega)]; exact H2.own j hj
  · have e4 : stHave d2 = .over { d2 with st := true } := if_neg (by rw [H2.n]; omega)
    rw [e4] at a3
    have hf : ∀ i : Nat, s3.f i = if i = 21 then (h + (n : Int)) % 4294967296 else s2.f i := fun i => by rw [f3]; rfl
    refine ⟨s3, { d2 with st := true }, ?_, by rw [b3]; exact H2.bad, rfl, H2.n, H2.len, H2.lo (n - 1) (by omega), ?_, ?_, ?_, fun i hi hi2 => ?_, ?_, ?_, ?_, fun j hj => ?_⟩
    · rw [show (300 : Nat) = 297 + 3 from rfl, a1, hq, a2, show q + 2 = q + 1 + 1 from rfl, a3]
      exact steps_no (M := shM) (t := .over { d2 with st := true }) rfl (q + 1)
    · rw [hf, if_pos rfl]
    · rw [hf, if_neg (by omega)]; exact H2.low 22 (by omega)
    · rw [hf, if_neg (by omega)]; exact H2.low 23 (by omega)
    · rw [hf, if_neg (by omega)]; exact H2.low i (by omega)
    · rw [hf, if_neg (by omega)]; exact H2.low 285 (by omega)
    · rw [hf, if_neg (by omega), H2.low 286 (by omega), H.ot]; omega
    · rw [hf, if_neg (by omega)]; exact H2.low 287 (by omega)
    · rw [hf, if_neg (by omega)]; exact H2.own j hj
end Go.Proofs.Ytcjidigpdecdlaa
