/- The monitor over one processor that goes on with its turn: its steps. -/
import Derived.Test.YthjfbknmdligeaaGreatMoP
namespace Go.Proofs.YthjfbknmdligeaaGreat
open Go Go.RowKit
set_option linter.unusedVariables false
set_option maxRecDepth 100000
set_option linter.unusedSimpArgs false

/-- The words that a pass looks at: the time, one processor that runs with the turn tn. -/
structure LtW (P p0 : Nat) (now tn : Int) (s : St) : Prop where
  now : s.f 18 = now
  st : ∀ q, q < P → s.f (20 + 264 * q) = if q = p0 then 1 else 0
  tn : s.f (20 + 264 * p0 + 4) = tn
  bad : s.bad = 0
/-- The row is as it was at first, or as the first pass left it. -/
def LtRow (p0 : Nat) (x0 tn : Int) (i : Nat) (d : MoD) : Prop := (i = 0 ∧ d.f (p0 * 4) = 0) ∨ (d.f (p0 * 4) = tn ∧ d.f (p0 * 4 + 1) = x0)
def LtSeen (p0 : Nat) (x0 tn : Int) (d : MoD) : Prop := d.f (p0 * 4) = tn ∧ d.f (p0 * 4 + 1) = x0
def LtPre (p0 g : Nat) (s : St) : Prop := s.f (20 + 264 * p0 + 6) = 0 ∨ (s.f (20 + 264 * p0 + 6) = 1 ∧ 10 ≤ g)
def LtPost (p0 g : Nat) (s : St) : Prop := (s.f (20 + 264 * p0 + 6) = 0 ∧ ¬ 10 ≤ g) ∨ (s.f (20 + 264 * p0 + 6) = 1 ∧ 10 ≤ g)
/-- What is so anywhere. -/
structure LtD (d : MoD) : Prop where
  f : ∀ i, 0 ≤ d.f i ∧ d.f i ≤ 18446744073709551615
  nw : 0 ≤ d.nw ∧ d.nw ≤ 18446744073709551615
/-- In the pass i, so many steps ahead of its end, at most. -/
inductive LtC (P p0 : Nat) (x0 now tn : Int) (i g : Nat) (s : St) : MoP × MoD → Nat → Prop
  | nw (d : MoD) : LtD d → d.ps = i → LtRow p0 x0 tn i d → LtPre p0 g s → LtC P p0 x0 now tn i g s (.nw, d) (P + 3)
  | st (d : MoD) : LtD d → d.ps = i → d.nw = now → d.p ≤ p0 → LtRow p0 x0 tn i d → LtPre p0 g s → LtC P p0 x0 now tn i g s (.st, d) (P - d.p + 2)
  | tu (d : MoD) : LtD d → d.ps = i → d.nw = now → d.p = p0 → d.st = 1 → LtRow p0 x0 tn i d → LtPre p0 g s → LtC P p0 x0 now tn i g s (.tu, d) (P - p0 + 1)
  | pr (d : MoD) : LtD d → d.ps = i → d.nw = now → d.p = p0 → d.st = 1 → LtSeen p0 x0 tn d → 10 ≤ g → LtC P p0 x0 now tn i g s (.pr, d) (P - p0)
  | on (d : MoD) : LtD d → d.ps = i → d.nw = now → p0 < d.p → d.p < P → LtSeen p0 x0 tn d → LtPost p0 g s → LtC P p0 x0 now tn i g s (.st, d) (P - d.p)
/-- Its end. -/
def LtE (p0 : Nat) (x0 tn : Int) (i g : Nat) (s : St) (t : MoP × MoD) : Prop := t.1 = .nw ∧ LtD t.2 ∧ t.2.ps = ((i + 1 : Nat) : Int) ∧ LtSeen p0 x0 tn t.2 ∧ LtPost p0 g s
theorem LtC.ok {P p0 : Nat} {x0 now tn : Int} {i g : Nat} {s : St} {t : MoP × MoD} {j : Nat} (h : LtC P p0 x0 now tn i g s t j) (hp : p0 < P) : MoOk P t ∧ 0 < j ∧ t.2.ps = i ∧ j ≤ P + 3 := by
  cases h with
  | nw d a b => exact ⟨⟨.inl rfl, a.f, a.nw⟩, by omega, b, by omega⟩
  | st d a b c e => exact ⟨⟨.inr ⟨.inl rfl, by show d.p < P; omega⟩, a.f, a.nw⟩, by omega, b, by omega⟩
  | tu d a b c e => exact ⟨⟨.inr ⟨.inr (.inl rfl), by show d.p < P; omega⟩, a.f, a.nw⟩, by omega, b, by omega⟩
  | pr d a b c e => exact ⟨⟨.inr ⟨.inr (.inr rfl), by show d.p < P; omega⟩, a.f, a.nw⟩, by omega, b, by omega⟩
  | on d a b c e f => exact ⟨⟨.inr ⟨.inl rfl, by show d.p < P; omega⟩, a.f, a.nw⟩, by omega, b, by omega⟩
/-- It goes on behind the processor q. -/
theorem lt_visit {P p0 : Nat} {x0 now tn : Int} {i g : Nat} {s : St} {d : MoD} {q : Nat} (hD : LtD d) (hps : d.ps = i) (hi : i ≤ 1000) (hnw : d.nw = now) (hq : p0 ≤ q) (hS : LtSeen p0 x0 tn d) (hW : LtPost p0 g s) : (∃ j, j < P - q ∧ LtC P p0 x0 now tn i g s (moVisit P d (q + 1)) j) ∨ LtE p0 x0 tn i g s (moVisit P d (q + 1)) := by
  by_cases h : P ≤ q + 1
  · have e : moVisit P d (q + 1) = (.nw, { d with ps := wrap64 (d.ps + 1), un := false }) := if_pos h
    rw [e]
    refine .inr ⟨rfl, ⟨hD.f, hD.nw⟩, ?_, hS, hW⟩
    show wrap64 (d.ps + 1) = _
    rw [hps]
    unfold wrap64
    omega
  · have e : moVisit P d (q + 1) = (.st, { d with p := q + 1 }) := if_neg h
    rw [e]
    exact .inl ⟨P - (q + 1), by omega, LtC.on _ ⟨hD.f, hD.nw⟩ hps hnw (by show p0 < q + 1; omega) (by show q + 1 < P; omega) hS hW⟩
theorem upd_self (f : Nat → Int) (i : Nat) (v : Int) : upd f i v i = v := by unfold upd; rw [if_pos rfl]
theorem upd_ne (f : Nat → Int) {i j : Nat} (v : Int) (h : j ≠ i) : upd f i v j = f j := by unfold upd; rw [if_neg h]
theorem id_act1 (i : Int) (n : Nat) (s : St) (h : 0 ≤ i ∧ i < n) (who : Int) : actA 1 i 0 0 n s = s.f i.toNat ∧ (actS 1 who i 0 0 n s).f = s.f ∧ (actS 1 who i 0 0 n s).bad = s.bad := ⟨((id_act who i n s).2.2 h).1, (id_act who i n s).1, ((id_act who i n s).2.2 h).2⟩
theorem id_act2 (i : Int) (v : Int) (n : Nat) (s : St) (h : 0 ≤ i ∧ i < n) (who : Int) : (actS 2 who i 0 v n s).f = upd s.f i.toNat v ∧ (actS 2 who i 0 v n s).bad = s.bad := by
  unfold actS stp
  rw [if_pos rfl, if_pos h]
  refine ⟨?_, rfl⟩
  dsimp only
  rw [if_pos (Or.inl rfl)]
theorem lt_wd {P p : Nat} (f : Nat) (h : p < P) (hf : f < 264) : wd 20 P 264 p f = ((20 + 264 * p + f : Nat) : Int) := by
  unfold wd
  rw [if_pos ⟨by omega, by omega, by omega, by omega⟩]
  omega
/-- A step of a pass. -/
theorem lt_next {P p0 : Nat} {x0 now tn : Int} {i g n : Nat} {s : St} {t : MoP × MoD} {j : Nat} (h : LtC P p0 x0 now tn i g s t j) (hW : LtW P p0 now tn s) (hp : p0 < P) (hn : 20 + 264 * P ≤ n) (hi : i ≤ 1000) (hg : i = 0 → g = 0) (hx : (now - x0) % 4294967296 = g) (hx0 : g = 0 → now = x0) (htn : 1 ≤ tn ∧ tn ≤ 255) (hnow : 0 ≤ now ∧ now ≤ 4294967295) (who : Int) {t' : MoP × MoD} {s' : St}
    (ht : t' = moNx P t (actA (moAx P t.2.p t.1).k (moAx P t.2.p t.1).i (moAx P t.2.p t.1).old (moAx P t.2.p t.1).new n s)) (hs : s' = actS (moAx P t.2.p t.1).k who (moAx P t.2.p t.1).i (moAx P t.2.p t.1).old (moAx P t.2.p t.1).new n s) :
    LtW P p0 now tn s' ∧ ((∃ j', j' < j ∧ LtC P p0 x0 now tn i g s' t' j') ∨ LtE p0 x0 tn i g s' t') := by
  subst ht hs
  cases h with
  | nw d hD hps hR hPre =>
    obtain ⟨a1, a2, a3⟩ := id_act1 18 n s (by omega) who
    have e0 : moNx P (.nw, d) (actA 1 18 0 0 n s) = (.st, { d with nw := now, un := true, p := 0 }) := by
      rw [a1, show (18 : Int).toNat = 18 from rfl, hW.now]
      exact if_neg (by omega)
    show LtW P p0 now tn (actS 1 who 18 0 0 n s) ∧ ((∃ j', _ ∧ LtC P p0 x0 now tn i g (actS 1 who 18 0 0 n s) (moNx P (.nw, d) (actA 1 18 0 0 n s)) j') ∨ LtE p0 x0 tn i g (actS 1 who 18 0 0 n s) (moNx P (.nw, d) (actA 1 18 0 0 n s)))
    rw [e0]
    refine ⟨⟨by rw [a2]; exact hW.now, by rw [a2]; exact hW.st, by rw [a2]; exact hW.tn, a3.trans hW.bad⟩, .inl ⟨P - 0 + 2, by omega, ?_⟩⟩
    exact LtC.st { d with nw := now, un := true, p := 0 } ⟨hD.f, by show 0 ≤ now ∧ now ≤ 18446744073709551615; omega⟩ hps rfl (Nat.zero_le _) hR (by unfold LtPre at hPre ⊢; rw [a2]; exact hPre)
  | st d hD hps hnw hdp hR hPre =>
    obtain ⟨a1, a2, a3⟩ := id_act1 ((20 + 264 * d.p + 0 : Nat) : Int) n s (by omega) who
    have ew : wd 20 P 264 d.p 0 = ((20 + 264 * d.p + 0 : Nat) : Int) := lt_wd 0 (by omega) (by omega)
    show LtW P p0 now tn (actS 1 who (wd 20 P 264 d.p 0) 0 0 n s) ∧ ((∃ j', _ ∧ LtC P p0 x0 now tn i g (actS 1 who (wd 20 P 264 d.p 0) 0 0 n s) (moJudge P d (actA 1 (wd 20 P 264 d.p 0) 0 0 n s)) j') ∨ LtE p0 x0 tn i g (actS 1 who (wd 20 P 264 d.p 0) 0 0 n s) (moJudge P d (actA 1 (wd 20 P 264 d.p 0) 0 0 n s)))
    rw [ew, a1, Int.toNat_natCast, Nat.add_zero, hW.st d.p (by omega)]
    rw [Nat.add_zero] at a2 a3
    refine ⟨⟨by rw [a2]; exact hW.now, by rw [a2]; exact hW.st, by rw [a2]; exact hW.tn, a3.trans hW.bad⟩, .inl ?_⟩
    have hPre' : LtPre p0 g (actS 1 who ((20 + 264 * d.p : Nat) : Int) 0 0 n s) := by unfold LtPre at hPre ⊢; rw [a2]; exact hPre
    by_cases he : d.p = p0
    · rw [if_pos he]
      rw [show moJudge P d 1 = (.tu, { d with st := 1 }) from rfl]
      exact ⟨P - p0 + 1, by omega, LtC.tu { d with st := 1 } ⟨hD.f, hD.nw⟩ hps hnw he rfl hR hPre'⟩
    · rw [if_neg he]
      have e1 : moJudge P d 0 = (.st, { d with p := d.p + 1 }) := by
        unfold moJudge moVisit
        rw [if_neg (by omega), if_neg (by omega)]
      rw [e1]
      exact ⟨P - (d.p + 1) + 2, by omega, LtC.st { d with p := d.p + 1 } ⟨hD.f, hD.nw⟩ hps hnw (by show d.p + 1 ≤ p0; omega) hR hPre'⟩
  | tu d hD hps hnw hdp hst hR hPre =>
    obtain ⟨a1, a2, a3⟩ := id_act1 ((20 + 264 * d.p + 4 : Nat) : Int) n s (by omega) who
    have ew : wd 20 P 264 d.p 4 = ((20 + 264 * d.p + 4 : Nat) : Int) := lt_wd 4 (by omega) (by omega)
    show LtW P p0 now tn (actS 1 who (wd 20 P 264 d.p 4) 0 0 n s) ∧ ((∃ j', _ ∧ LtC P p0 x0 now tn i g (actS 1 who (wd 20 P 264 d.p 4) 0 0 n s) (moTurns P d (actA 1 (wd 20 P 264 d.p 4) 0 0 n s)) j') ∨ LtE p0 x0 tn i g (actS 1 who (wd 20 P 264 d.p 4) 0 0 n s) (moTurns P d (actA 1 (wd 20 P 264 d.p 4) 0 0 n s)))
    rw [ew, a1, Int.toNat_natCast]
    subst hdp
    rw [hW.tn]
    generalize hss : actS 1 who ((20 + 264 * d.p + 4 : Nat) : Int) 0 0 n s = s2 at *
    have hPre' : LtPre d.p g s2 := by unfold LtPre at hPre ⊢; rw [a2]; exact hPre
    refine ⟨⟨by rw [a2]; exact hW.now, by rw [a2]; exact hW.st, by rw [a2]; exact hW.tn, a3.trans hW.bad⟩, ?_⟩
    have hseeS : ∀ d2 : MoD, d2.st = 1 → moSeeStatus P d2 = moVisit P d2 (d2.p + 1) := fun d2 h => if_neg (by rw [h]; decide)
    by_cases hf : tn = d.f (d.p * 4)
    · have hS : LtSeen d.p x0 tn d := by
        rcases hR with ⟨_, h0⟩ | h
        · omega
        · exact h
      have e2 : (d.nw - d.f (d.p * 4 + 1)) % 4294967296 = g := by rw [hnw, hS.2]; exact hx
      by_cases hg10 : 10 ≤ g
      · have e1 : moTurns P d tn = (.pr, { d with lt := false }) := by
          unfold moTurns
          rw [if_neg (by omega), e2, if_pos (by omega)]
        rw [e1]
        exact .inl ⟨P - d.p, by omega, LtC.pr { d with lt := false } ⟨hD.f, hD.nw⟩ hps hnw rfl hst hS hg10⟩
      · have e1 : moTurns P d tn = moVisit P { d with lt := false } (d.p + 1) := by
          unfold moTurns
          rw [if_neg (by omega), e2, if_neg (by omega)]
          exact hseeS _ hst
        rw [e1]
        rcases lt_visit (q := d.p) (P := P) (x0 := x0) (now := now) (tn := tn) (i := i) (g := g) (s := s2) (d := { d with lt := false }) ⟨hD.f, hD.nw⟩ hps hi hnw (Nat.le_refl _) hS (by rcases hPre' with h | h; exact .inl ⟨h, hg10⟩; exact absurd h.2 hg10) with ⟨j', h1, h2⟩ | h2
        · exact .inl ⟨j', by omega, h2⟩
        · exact .inr h2
    · have hi0 : i = 0 := by
        rcases hR with ⟨h0, _⟩ | h
        · exact h0
        · exact absurd h.1.symm hf
      have e1 : moTurns P d tn = moVisit P { d with lt := false, f := upd (upd d.f (d.p * 4) tn) (d.p * 4 + 1) d.nw } (d.p + 1) := by
        unfold moTurns
        rw [if_pos hf]
        exact hseeS _ hst
      rw [e1]
      have hg0 := hg hi0
      have hxx := hx0 hg0
      have hS : LtSeen d.p x0 tn { d with lt := false, f := upd (upd d.f (d.p * 4) tn) (d.p * 4 + 1) d.nw } := by
        refine ⟨?_, ?_⟩
        · show upd (upd d.f (d.p * 4) tn) (d.p * 4 + 1) d.nw (d.p * 4) = tn
          rw [upd_ne _ _ (by omega), upd_self]
        · show upd (upd d.f (d.p * 4) tn) (d.p * 4 + 1) d.nw (d.p * 4 + 1) = x0
          rw [upd_self, hnw, hxx]
      have hD' : LtD { d with lt := false, f := upd (upd d.f (d.p * 4) tn) (d.p * 4 + 1) d.nw } := ⟨fun k => by
        show 0 ≤ upd (upd d.f (d.p * 4) tn) (d.p * 4 + 1) d.nw k ∧ upd (upd d.f (d.p * 4) tn) (d.p * 4 + 1) d.nw k ≤ _
        unfold upd
        split
        · exact hD.nw
        · split
          · omega
          · exact hD.f k, hD.nw⟩
      rcases lt_visit (q := d.p) (P := P) (x0 := x0) (now := now) (tn := tn) (i := i) (g := g) (s := s2) (d := { d with lt := false, f := upd (upd d.f (d.p * 4) tn) (d.p * 4 + 1) d.nw }) hD' hps hi hnw (Nat.le_refl _) hS (by rcases hPre' with h | h; exact .inl ⟨h, by omega⟩; exact absurd h.2 (by omega)) with ⟨j', h1, h2⟩ | h2
      · exact .inl ⟨j', by omega, h2⟩
      · exact .inr h2
  | pr d hD hps hnw hdp hst hS hg10 =>
    obtain ⟨a2, a3⟩ := id_act2 ((20 + 264 * d.p + 6 : Nat) : Int) 1 n s (by omega) who
    have ew : wd 20 P 264 d.p 6 = ((20 + 264 * d.p + 6 : Nat) : Int) := lt_wd 6 (by omega) (by omega)
    show LtW P p0 now tn (actS 2 who (wd 20 P 264 d.p 6) 0 1 n s) ∧ ((∃ j', _ ∧ LtC P p0 x0 now tn i g (actS 2 who (wd 20 P 264 d.p 6) 0 1 n s) (moLate P d) j') ∨ LtE p0 x0 tn i g (actS 2 who (wd 20 P 264 d.p 6) 0 1 n s) (moLate P d))
    rw [ew]
    subst hdp
    rw [Int.toNat_natCast] at a2
    generalize hss : actS 2 who ((20 + 264 * d.p + 6 : Nat) : Int) 0 1 n s = s2 at *
    refine ⟨⟨?_, fun q hq => ?_, ?_, a3.trans hW.bad⟩, ?_⟩
    · rw [a2, upd_ne _ _ (by omega)]; exact hW.now
    · rw [a2, upd_ne _ _ (by omega)]; exact hW.st q hq
    · rw [a2, upd_ne _ _ (by omega)]; exact hW.tn
    have e1 : moLate P d = moVisit P { d with lt := true } (d.p + 1) := if_neg (by show ¬ d.st = 2; omega)
    rw [e1]
    rcases lt_visit (q := d.p) (P := P) (x0 := x0) (now := now) (tn := tn) (i := i) (g := g) (s := s2) (d := { d with lt := true }) ⟨hD.f, hD.nw⟩ hps hi hnw (Nat.le_refl _) hS (.inr ⟨by rw [a2, upd_self], hg10⟩) with ⟨j', h1, h2⟩ | h2
    · exact .inl ⟨j', by omega, h2⟩
    · exact .inr h2
  | on d hD hps hnw hdp hdP hS hPost =>
    obtain ⟨a1, a2, a3⟩ := id_act1 ((20 + 264 * d.p + 0 : Nat) : Int) n s (by omega) who
    have ew : wd 20 P 264 d.p 0 = ((20 + 264 * d.p + 0 : Nat) : Int) := lt_wd 0 (by omega) (by omega)
    show LtW P p0 now tn (actS 1 who (wd 20 P 264 d.p 0) 0 0 n s) ∧ ((∃ j', _ ∧ LtC P p0 x0 now tn i g (actS 1 who (wd 20 P 264 d.p 0) 0 0 n s) (moJudge P d (actA 1 (wd 20 P 264 d.p 0) 0 0 n s)) j') ∨ LtE p0 x0 tn i g (actS 1 who (wd 20 P 264 d.p 0) 0 0 n s) (moJudge P d (actA 1 (wd 20 P 264 d.p 0) 0 0 n s)))
    rw [ew, a1, Int.toNat_natCast, Nat.add_zero, hW.st d.p hdP, if_neg (by omega)]
    rw [Nat.add_zero] at a2 a3
    refine ⟨⟨by rw [a2]; exact hW.now, by rw [a2]; exact hW.st, by rw [a2]; exact hW.tn, a3.trans hW.bad⟩, ?_⟩
    have e1 : moJudge P d 0 = moVisit P d (d.p + 1) := if_neg (by omega)
    rw [e1]
    exact lt_visit ⟨hD.f, hD.nw⟩ hps hi hnw (by omega) hS (by unfold LtPost at hPost ⊢; rw [a2]; exact hPost)
theorem lt_solo {who T G : Int} {cl r P : Nat} {R : Rd} {W0 w : World} {A : Option Addr} {cap c b n : Nat} {s : St} {x : Nat} {t : MoP × MoD} {L : List Nat} {p0 i g j m : Nat} {x0 now tn : Int} (h : Solo (moI who cl r P) R W0 w A cap c b n s x t L) (hRl : ∀ w, R.P w → Lay w cl P T G) (hRb : cl ∈ R.B) (hC : LtC P p0 x0 now tn i g s t j) (hW : LtW P p0 now tn s) (hp : p0 < P) (hP : P ≤ 4) (hn : 20 + 264 * P ≤ n ∧ n ≤ 1000000) (hi : i ≤ 1000) (hg : i = 0 → g = 0) (hx : (now - x0) % 4294967296 = g) (hx0 : g = 0 → now = x0) (htn : 1 ≤ tn ∧ tn ≤ 255) (hnow : 0 ≤ now ∧ now ≤ 4294967295) (hl : Low s m) (hm : m ≤ 100000) :
    Calls Tryz.prog 20 #[.pointer (some ⟨x, 0, none⟩), .pointer (some ⟨c, 0, none⟩)] w fun e w' => e = .returned (.bool false) ∧ ∃ L' t' s', Solo (moI who cl r P) R W0 w' A cap c b n s' x t' L' ∧ LtW P p0 now tn s' ∧ ((∃ j', j' < j ∧ LtC P p0 x0 now tn i g s' t' j') ∨ LtE p0 x0 tn i g s' t') ∧ Low s' (m + 1 : Nat) := by
  refine (mo_solo h hRl hRb (hC.ok hp).1 (by omega) hn.2 (hl.more (by omega))).mono ?_
  rintro e w' ⟨rfl, L', h1⟩
  obtain ⟨h2, h3⟩ := lt_next hC hW hp hn.1 hi hg hx hx0 htn hnow who rfl rfl
  exact ⟨rfl, L', _, _, h1, h2, h3, (actS_low hl _ _ _ _ _ _).more (by show (m : Int) + 1 ≤ ((m + 1 : Nat) : Int); omega)⟩
end Go.Proofs.YthjfbknmdligeaaGreat
