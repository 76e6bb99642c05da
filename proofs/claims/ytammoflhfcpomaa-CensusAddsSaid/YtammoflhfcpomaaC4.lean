/- An event is counted. -/
import Derived.Test.YtammoflhfcpomaaC3
namespace Go.Proofs.Ytammoflhfcpomaa
open Go Go.RowKit
set_option linter.unusedVariables false
set_option linter.unusedSimpArgs false
set_option maxRecDepth 100000

theorem proc_in (w : World) (x g h gs ps q : Nat) (K : Nat → Int) (P : Nat → Int) (most now : Int) (c : CenAt w x K g gs h ps most now) (ci : IntsAt w h ps P) (hq : q < ps) (hps : ps ≤ 1000) (hP : 0 ≤ P q ∧ P q ≤ 1000) :
    Calls Try.prog 21 #[.pointer (some ⟨x, 0, none⟩), .int .i64 (q : Int)] w fun e w' => e = .returned (.tuple #[]) ∧ w' = w.setCell ⟨h, q, none⟩ (.int .i64 (P q + 1)) := by
  have c13 := c.s.2.1
  have cq := ci.c q hq
  have fq := ci.f q
  have d1 : decide (0 ≤ (q : Int)) = true := by simp
  obtain ⟨h0, h1⟩ := hP
  clear c ci
  generalize P q = v at *
  go_enter Try.func21, Try.ntmps21
  go_wp2_with fail
  exact bodyPost_end (results_none rfl _ _ _) rfl ⟨rfl, rfl⟩
theorem proc_out (w : World) (x g h gs ps : Nat) (q : Int) (K : Nat → Int) (most now : Int) (c : CenAt w x K g gs h ps most now) (hq : q < 0 ∨ (ps : Int) ≤ q) (hps : ps ≤ 1000) :
    Calls Try.prog 21 #[.pointer (some ⟨x, 0, none⟩), .int .i64 q] w fun e w' => e = .returned (.tuple #[]) ∧ w = w' := by
  have c13 := c.s.2.1
  clear c
  rcases (show q < 0 ∨ (0 ≤ q ∧ (ps : Int) ≤ q) by omega) with h | ⟨h1, h2⟩
  · go_enter Try.func21, Try.ntmps21
    go_wp2_with fail
    exact bodyPost_end (results_none rfl _ _ _) rfl ⟨rfl, rfl⟩
  · have d1 : decide (0 ≤ q) = true := by simpa using h1
    have d2 : ¬ q < (ps : Int) := by omega
    go_enter Try.func21, Try.ntmps21
    go_wp2_with fail
    exact bodyPost_end (results_none rfl _ _ _) rfl ⟨rfl, rfl⟩

/-- Ints behind a count. -/
def upP (P : Nat → Int) (q : Int) : Nat → Int := fun j => P j + (if q = (j : Int) then 1 else 0)
theorem proc_any (w : World) (x g h gs ps : Nat) (q : Int) (K : Nat → Int) (R : Nat → Nat → Int) (P : Nat → Int) (most now : Int) (c : Cen w x g h gs ps K R P most now) (hps : ps ≤ 1000) (hP : ∀ j, 0 ≤ P j ∧ P j ≤ 1000) :
    Calls Try.prog 21 #[.pointer (some ⟨x, 0, none⟩), .int .i64 q] w fun e w' => e = .returned (.tuple #[]) ∧ Cen w' x g h gs ps K R (upP P q) most now ∧ But [h] w w' := by
  by_cases hq : q < 0 ∨ (ps : Int) ≤ q
  · refine (proc_out w x g h gs ps q K most now c.main hq hps).mono ?_
    rintro e w' ⟨rfl, rfl⟩
    refine ⟨rfl, ⟨c.main, c.rows, ?_, c.ne⟩, But.refl _ _⟩
    obtain ⟨cs, h1, h2⟩ := c.procs
    refine ⟨cs, h1, fun i hi => ?_⟩
    have e : upP P q i = P i := by unfold upP; rw [if_neg (by omega)]; omega
    rw [e]; exact h2 i hi
  · obtain ⟨k, rfl⟩ : ∃ k : Nat, q = (k : Int) := ⟨q.toNat, by omega⟩
    refine (proc_in w x g h gs ps k K P most now c.main c.procs (by omega) hps (hP k)).mono ?_
    rintro e w' ⟨rfl, rfl⟩
    have hb : But [h] w (w.setCell ⟨h, k, none⟩ (.int .i64 (P k + 1))) := (But.refl _ _).set (Or.inl (by simp)) _ _
    refine ⟨rfl, ⟨c.main.but hb (by have := c.ne; simp; omega), c.rows.but hb (by have := c.ne; simp; omega), ?_, c.ne⟩, hb⟩
    have e := c.procs.set k (by omega) (P k + 1)
    have ef : (fun j => if j = k then P k + 1 else P j) = upP P (k : Int) := by
      funext j
      unfold upP
      by_cases hj : j = k
      · subst hj; simp
      · rw [if_neg hj, if_neg (by omega)]; omega
    rw [ef] at e; exact e

/-- Counts of Kinds behind a count. -/
def upK (K : Nat → Int) (k : Int) : Nat → Int := fun i => K i + (if kn k = i then 1 else 0)
/-- Rows behind a count. -/
def upR (R : Nat → Nat → Int) (e : Ev) : Nat → Nat → Int := fun i f => R i f + (if hit e i f = true then 1 else 0)
def upQ (P : Nat → Int) (e : Ev) : Nat → Int := fun j => P j + (if runs e j = true then 1 else 0)
theorem upK_set (K : Nat → Int) (k : Int) : (fun i => if i = kn k then K (kn k) + 1 else K i) = upK K k := by
  funext i
  unfold upK
  by_cases h : i = kn k
  · subst h; simp
  · rw [if_neg h, if_neg (fun e => h e.symm)]; omega
theorem RowsAt.ext {w : World} {g gs : Nat} {R R' : Nat → Nat → Int} (c : RowsAt w g gs R) (h : ∀ i, i < gs → R i 0 = R' i 0 ∧ R i 1 = R' i 1 ∧ R i 2 = R' i 2) : RowsAt w g gs R' := by
  obtain ⟨cs, h1, h2⟩ := c
  refine ⟨cs, h1, fun i hi => ?_⟩
  obtain ⟨a, b, d⟩ := h i hi
  rw [← a, ← b, ← d]; exact h2 i hi
theorem IntsAt.ext {w : World} {h ps : Nat} {P P' : Nat → Int} (c : IntsAt w h ps P) (he : ∀ i, i < ps → P i = P' i) : IntsAt w h ps P' := by
  obtain ⟨cs, h1, h2⟩ := c
  exact ⟨cs, h1, fun i hi => by rw [← he i hi]; exact h2 i hi⟩
/-- What an event leaves, in numbers of its own. -/
def CntK (w' : World) (x g h gs ps : Nat) (ev : Ev) (K : Nat → Int) (R : Nat → Nat → Int) (P : Nat → Int) (mx nw : Int) (w : World) : Prop := Cen w' x g h gs ps (upK K ev.kind) (upR R ev) (upQ P ev) mx nw ∧ But [x, g, h] w w'
/-- What an event leaves. -/
def Cnt (w : World) (x g h gs ps : Nat) (ev : Ev) (K : Nat → Int) (R : Nat → Nat → Int) (P : Nat → Int) (most now : Int) (e : Ending) (w' : World) : Prop :=
  e = .returned (.tuple #[]) ∧ Cen w' x g h gs ps (upK K ev.kind) (upR R ev) (upQ P ev) (max most (now + ch ev.kind)) (now + ch ev.kind) ∧ But [x, g, h] w w'
theorem hit_1 (ev : Ev) (hk : ev.kind = 1) (i : Nat) : hit ev i 0 = (ev.g == (i : Int)) ∧ hit ev i 1 = false ∧ hit ev i 2 = false := by simp [hit, hk]
theorem hit_9 (ev : Ev) (hk : ev.kind = 9) (i : Nat) : hit ev i 1 = (ev.g == (i : Int)) ∧ hit ev i 0 = false ∧ hit ev i 2 = false := by simp [hit, hk]
theorem hit_2 (ev : Ev) (hk : ev.kind = 2) (i : Nat) : hit ev i 2 = (ev.other == (i : Int)) ∧ hit ev i 0 = false ∧ hit ev i 1 = false := by simp [hit, hk]
theorem hit_n (ev : Ev) (h1 : ev.kind ≠ 1) (h9 : ev.kind ≠ 9) (h2 : ev.kind ≠ 2) (i f : Nat) : hit ev i f = false := by
  have a : (ev.kind == 1) = false := by simpa using h1
  have b : (ev.kind == 9) = false := by simpa using h9
  have c : (ev.kind == 2) = false := by simpa using h2
  simp [hit, a, b, c]
theorem runs_1 (ev : Ev) (hk : ev.kind = 1 ∨ ev.kind = 9) (j : Nat) : runs ev j = (ev.proc == (j : Int)) := by
  rcases hk with hk | hk <;> simp [runs, hk]
theorem runs_n (ev : Ev) (h1 : ev.kind ≠ 1) (h9 : ev.kind ≠ 9) (j : Nat) : runs ev j = false := by
  have a : (ev.kind == 1) = false := by simpa using h1
  have b : (ev.kind == 9) = false := by simpa using h9
  simp [runs, a, b]
theorem cen_k {w : World} {x g h gs ps : Nat} {K K' : Nat → Int} {R : Nat → Nat → Int} {P : Nat → Int} {most now : Int} (c : Cen w x g h gs ps K R P most now) (k : Nat) (hk : k < 12) (v : Int) (hK : (fun i => if i = k then v else K i) = K') : Cen (w.setCell ⟨x, k, none⟩ (.int .i64 v)).drew x g h gs ps K' R P most now := by
  have hb : But [x] w (w.setCell ⟨x, k, none⟩ (.int .i64 v)) := (But.refl _ _).set (Or.inl (by simp)) _ _
  have hn := c.ne
  have m := c.main.setK k hk v
  rw [hK] at m
  have r := c.rows.but hb (by simp; omega)
  have p := c.procs.but hb (by simp; omega)
  exact ⟨m, r, p, hn⟩
theorem cen_now {w : World} {x g h gs ps : Nat} {K : Nat → Int} {R : Nat → Nat → Int} {P : Nat → Int} {most now : Int} (c : Cen w x g h gs ps K R P most now) (v : Int) : Cen (w.setCell ⟨x, 15, none⟩ (.int .i64 v)).drew x g h gs ps K R P most v := by
  have hb : But [x] w (w.setCell ⟨x, 15, none⟩ (.int .i64 v)) := (But.refl _ _).set (Or.inl (by simp)) _ _
  have hn := c.ne
  have m := c.main.setNow v
  have r := c.rows.but hb (by simp; omega)
  have p := c.procs.but hb (by simp; omega)
  exact ⟨m, r, p, hn⟩
theorem cen_most {w : World} {x g h gs ps : Nat} {K : Nat → Int} {R : Nat → Nat → Int} {P : Nat → Int} {most now : Int} (c : Cen w x g h gs ps K R P most now) (v : Int) : Cen (w.setCell ⟨x, 14, none⟩ (.int .i64 v)).drew x g h gs ps K R P v now := by
  have hb : But [x] w (w.setCell ⟨x, 14, none⟩ (.int .i64 v)) := (But.refl _ _).set (Or.inl (by simp)) _ _
  have hn := c.ne
  have m := c.main.setMost v
  have r := c.rows.but hb (by simp; omega)
  have p := c.procs.but hb (by simp; omega)
  exact ⟨m, r, p, hn⟩
theorem hit_at1 (ev : Ev) (q : Nat) (hk : ev.kind = 1) (hg : ev.g = (q : Int)) (i k : Nat) : hit ev i k = true ↔ i = q ∧ k = 0 := by
  simp [hit, hk, hg]; omega
theorem hit_at9 (ev : Ev) (q : Nat) (hk : ev.kind = 9) (hg : ev.g = (q : Int)) (i k : Nat) : hit ev i k = true ↔ i = q ∧ k = 1 := by
  simp [hit, hk, hg]; omega
theorem hit_at2 (ev : Ev) (q : Nat) (hk : ev.kind = 2) (hg : ev.other = (q : Int)) (i k : Nat) : hit ev i k = true ↔ i = q ∧ k = 2 := by
  simp [hit, hk, hg]; omega
theorem hit_out1 (ev : Ev) (gs : Nat) (hk : ev.kind = 1 ∨ ev.kind = 9) (hg : ev.g < 0 ∨ (gs : Int) ≤ ev.g) (i k : Nat) (hi : i < gs) : hit ev i k = false := by
  have : (ev.g == (i : Int)) = false := by simp; omega
  rcases hk with hk | hk <;> simp [hit, hk, this]
theorem hit_out2 (ev : Ev) (gs : Nat) (hk : ev.kind = 2) (hg : ev.other < 0 ∨ (gs : Int) ≤ ev.other) (i k : Nat) (hi : i < gs) : hit ev i k = false := by
  have : (ev.other == (i : Int)) = false := by simp; omega
  simp [hit, hk, this]
theorem upR_at (ev : Ev) (R : Nat → Nat → Int) (q f : Nat) (h : ∀ i k, hit ev i k = true ↔ i = q ∧ k = f) : (fun j k => if j = q ∧ k = f then R q f + 1 else R j k) = upR R ev := by
  funext i k
  unfold upR
  by_cases e : i = q ∧ k = f
  · rw [if_pos e, if_pos ((h i k).2 e), e.1, e.2]
  · rw [if_neg e, if_neg (fun x => e ((h i k).1 x))]; omega
theorem cen_in {w : World} {x g h gs ps : Nat} {K : Nat → Int} {R : Nat → Nat → Int} {P : Nat → Int} {most now : Int} (c : Cen w x g h gs ps K R P most now) (ev : Ev) (q f : Nat) (hq : q < gs) (hf : f < 3) (hh : ∀ i k, hit ev i k = true ↔ i = q ∧ k = f) : Cen (w.setCell ⟨g, q * 3 + f, none⟩ (.int .i64 (R q f + 1))) x g h gs ps K (upR R ev) P most now := by
  have hb : But [g] w (w.setCell ⟨g, q * 3 + f, none⟩ (.int .i64 (R q f + 1))) := (But.refl _ _).set (Or.inl (by simp)) _ _
  have hn := c.ne
  have m := c.main.but hb (by simp; omega)
  have r := c.rows.set q f hq hf (R q f + 1)
  rw [upR_at ev R q f hh] at r
  have p := c.procs.but hb (by simp; omega)
  exact ⟨m, r, p, hn⟩
theorem cen_out {w : World} {x g h gs ps : Nat} {K : Nat → Int} {R : Nat → Nat → Int} {P : Nat → Int} {most now : Int} (c : Cen w x g h gs ps K R P most now) (ev : Ev) (hh : ∀ i k, i < gs → hit ev i k = false) : Cen w x g h gs ps K (upR R ev) P most now := by
  refine ⟨c.main, c.rows.ext (fun i hi => ?_), c.procs, c.ne⟩
  unfold upR
  rw [hh i 0 hi, hh i 1 hi, hh i 2 hi]; simp
theorem upQ_of (ev : Ev) (P : Nat → Int) (hk : ev.kind = 1 ∨ ev.kind = 9) : upP P ev.proc = upQ P ev := by
  funext j
  unfold upP upQ
  rw [runs_1 ev hk j]; simp
theorem upQ_no (ev : Ev) (P : Nat → Int) (h1 : ev.kind ≠ 1) (h9 : ev.kind ≠ 9) : P = upQ P ev := by
  funext j
  unfold upQ
  rw [runs_n ev h1 h9 j]; simp
end Go.Proofs.Ytammoflhfcpomaa
