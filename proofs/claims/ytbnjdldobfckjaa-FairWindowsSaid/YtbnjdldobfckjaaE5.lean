/- The window of entries: the walk. -/
import Derived.Test.YtbnjdldobfckjaaE4
namespace Go.Proofs.Ytbnjdldobfckjaa
open Go Go.RowKit Go.Maps
set_option linter.unusedVariables false
set_option linter.unusedSimpArgs false
set_option maxRecDepth 100000

theorem lits_int {m : Nat} {c : Value} {ls : List Lit} (h : Try.prog.keyLits (m + 1) 3 [c] = some ls) : ∃ a, c = .int .i64 a ∧ (Lit.int .i64 a).wf = true := by
  cases c <;> simp [Program.keyLits, Try.underlying3] at h
  obtain ⟨⟨rfl, hw⟩, _⟩ := h
  exact ⟨_, rfl, hw⟩
theorem lits_en {d : Nat} {c0 c1 : Value} {ls : List Lit} (h : Try.prog.keyLits (d + 1) 33 [c0, c1] = some ls) : (∃ l0, Try.prog.keyLits d 3 [c0] = some l0) ∧ ∃ l1, Try.prog.keyLits d 3 [c1] = some l1 := by
  simp [Program.keyLits, Try.underlying33, cells33, cells3] at h
  cases h0 : Try.prog.keyLits d 3 [c0] with
  | none => rw [h0] at h; simp at h
  | some l0 =>
    cases h1 : Try.prog.keyLits d 3 [c1] with
    | none => rw [h0, h1] at h; simp at h
    | some l1 => exact ⟨⟨_, rfl⟩, ⟨_, rfl⟩⟩
/-- What reads as a key IS an entry. -/
theorem key_inv {v : Value} {kl : Lit} (h : keyOf Try.prog 33 v = some kl) : ∃ x : En, v = enV x ∧ EnOk x ∧ kl = ky x := by
  have h0 := h
  unfold keyOf at h
  rw [Try.underlying33] at h
  simp only at h
  split at h
  · rename_i hf
    simp only [Bool.and_eq_true] at hf
    have hfm := hf.2
    obtain ⟨m, hm⟩ : ∃ m, Try.prog.types.size = m + 1 := ⟨Try.prog.types.size - 1, by have := nt; omega⟩
    cases v <;> simp [Value.formed, Try.underlying33] at hfm
    rename_i cs
    rw [cells33] at hfm
    obtain ⟨l⟩ := cs
    match l, hfm with
    | [c0, c1], _ =>
      rw [hm] at h
      cases hk : Try.prog.keyLits (m + 1 + 1) 33 (Value.agg ⟨[c0, c1]⟩).cells.toList with
      | none => rw [hk] at h; cases h
      | some ls =>
      obtain ⟨⟨l0, h1⟩, ⟨l1, h2⟩⟩ := lits_en (show Try.prog.keyLits (m + 1 + 1) 33 [c0, c1] = some ls from hk)
      obtain ⟨a, rfl, wa⟩ := lits_int h1
      obtain ⟨b, rfl, wb⟩ := lits_int h2
      have ok : EnOk (a, b) := by
        simp [Lit.wf, IntKind.min, IntKind.max, IntKind.signed, IntKind.bits] at wa wb
        exact ⟨⟨by simp; omega, by simp; omega⟩, ⟨by simp; omega, by simp; omega⟩⟩
      refine ⟨(a, b), rfl, ok, ?_⟩
      have := ky_some ok
      exact Option.some.inj (h0.symm.trans this)
  · cases h
/-- A map that tells a place of each entry of S. -/
structure PlIs (D : DataW Unit) (S : En → Prop) (f : En → Nat) : Prop where
  set : SetIs D S
  at_ : ∀ e, EnOk e → S e → ∀ z, D.atKey (ky e) z = .lit (.int .i64 (f e : Nat))
theorem PlIs.to {D : DataW Unit} {S S' : En → Prop} {f f' : En → Nat} (h : PlIs D S f) (hs : ∀ e, EnOk e → (S e ↔ S' e)) (hf : ∀ e, EnOk e → S e → f e = f' e) : PlIs D S' f' :=
  ⟨h.set.to hs, fun e he hS z => by rw [← hf e he ((hs e he).2 hS)]; exact h.at_ e he ((hs e he).2 hS) z⟩
theorem PlIs.put {D : DataW Unit} {S : En → Prop} {f : En → Nat} (h : PlIs D S f) {x : En} (hx : EnOk x) (v : Nat) : PlIs (D.put (ky x) (.lit (.int .i64 (v : Nat)))) (fun e => S e ∨ e = x) (fun e => if e = x then v else f e) := by
  refine ⟨h.set.put hx _, fun e he hS z => ?_⟩
  by_cases ee : e = x
  · subst ee; rw [atKey_put_same h.set.mp (ky_lit he)]; simp
  · rw [atKey_put_other (ky_ne he hx ee), if_neg ee]
    rcases hS with hS | hS
    · exact h.at_ e he hS z
    · exact absurd hS ee
theorem last_s (l : Nat → En) (x : En) (j : Nat) : last l x (j + 1) = if pl (l j) = x then j + 1 else last l x j := rfl
theorem gm_yes {T : Nat} {l : Nat → En} {m : Nat} (h : isW T (pl (l m)) = true) : gm T l (m + 1) = max (gm T l m) (m - last l (pl (l m)) m) := by
  show (if isW T (pl (l m)) = true then _ else _) = _
  rw [if_pos h]
theorem gm_no {T : Nat} {l : Nat → En} {m : Nat} (h : isW T (pl (l m)) = false) : gm T l (m + 1) = gm T l m := by
  show (if isW T (pl (l m)) = true then _ else _) = _
  rw [if_neg (by rw [h]; simp)]
theorem wanted_ok {T : Nat} {x : En} (hT : T ≤ 256) (h : wanted T x) : EnOk x := by obtain ⟨i, _, rfl⟩ := h; exact rd_ok hT
theorem Sees.but {w wr : World} {A : Option Addr} {n : Nat} {l : Nat → En} {b : Nat} (h : Sees w A n l) (hb : But [b] w wr) (hn : ∀ o v, w.cell? ⟨b, o, none⟩ ≠ some v) : Sees wr A n l := fun h0 => by
  obtain ⟨g, off, e, hc⟩ := h h0
  have hne : g ≠ b := by
    rintro rfl
    exact hn _ _ (hc 0 h0).1
  have hk : wr.heap[g]? = w.heap[g]? := hb.block g (cell_lt (hc 0 h0).1) (by simp [hne])
  exact ⟨g, off, e, fun j hj => by simp only [World.cell?, hk]; exact hc j hj⟩
theorem map_nocell {w : World} {b : Nat} {es : Array MapEntry} {c : Nat} (h : w.heap[b]? = some (.map es c)) : ∀ o v, w.cell? ⟨b, o, none⟩ ≠ some v := by
  intro o v hv
  simp only [World.cell?, h] at hv
  cases hv
theorem But.row {l : List Nat} {V w w' : World} {b : Nat} (h : But l V w) (hg : w.grownBy w' (some b)) (hb : b ∈ l) : But l V w' :=
  ⟨hg.os.trans h.os, hg.tape.trans h.tape, hg.output.trans h.output, Nat.le_trans h.size hg.size, fun k hk hn => (hg.block k (Nat.lt_of_lt_of_le hk h.size) (fun e => hn (by have := Option.some.inj e; rw [this]; exact hb))).trans (h.block k hk hn)⟩
theorem zeroI (w : World) : (zeroValue 3).run Try.prog w = .ok (.int .i64 0) w := by kernel_rfl
end Go.Proofs.Ytbnjdldobfckjaa
