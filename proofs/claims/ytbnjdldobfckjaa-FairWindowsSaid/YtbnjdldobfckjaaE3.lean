/- Entries as keys; the sets and the places that are kept of them. -/
import Derived.Test.YtbnjdldobfckjaaE2
import Derived.DeepKeys4
import Derived.Maps.OwnSet
import Derived.Maps.OwnOps
import Derived.Maps.RangeWalk
namespace Go.Proofs.Ytbnjdldobfckjaa
open Go Go.RowKit Go.Maps
set_option linter.unusedVariables false
set_option linter.unusedSimpArgs false
set_option maxRecDepth 100000

theorem laidOut_all : laidOutB Try.prog = true := by kernel_rfl
theorem keyedE : Keyed Try.prog 33 := Keyed.of_law (deep_law_laid laidOut_all (m := 2) (by omega) (of_decide_eq_true (by kernel_rfl)) (by kernel_rfl) (by kernel_rfl))
/-- An entry whose numbers are ints. -/
def EnOk (e : En) : Prop := (-9223372036854775808 ≤ e.1 ∧ e.1 ≤ 9223372036854775807) ∧ (-9223372036854775808 ≤ e.2 ∧ e.2 ≤ 9223372036854775807)
def enV (e : En) : Value := .agg #[.int .i64 e.1, .int .i64 e.2]
/-- An entry as a key. -/
def ky (e : En) : Lit := .string (keyBytes [.int .i64 e.1, .int .i64 e.2])
theorem wf_i64' {n : Int} (h : -9223372036854775808 ≤ n ∧ n ≤ 9223372036854775807) : (Lit.int .i64 n).wf = true := by
  simp [Lit.wf, IntKind.min, IntKind.max, IntKind.signed, IntKind.bits]; omega
theorem keyType33 : Try.prog.keyType 33 = true := by kernel_rfl
theorem cells33 : Try.prog.cellsOf 33 = 2 := by kernel_rfl
theorem cells3 : Try.prog.cellsOf 3 = 1 := by kernel_rfl
theorem nt : 0 < Try.prog.types.size := of_decide_eq_true (by kernel_rfl)
theorem ky_some {e : En} (h : EnOk e) : keyOf Try.prog 33 (enV e) = some (ky e) := by
  have h1 := wf_i64' h.1
  have h2 := wf_i64' h.2
  obtain ⟨m, hm⟩ : ∃ m, Try.prog.types.size = m + 1 := ⟨Try.prog.types.size - 1, by have := nt; omega⟩
  unfold keyOf enV ky
  rw [Try.underlying33]
  simp only [keyType33, hm]
  simp [Value.formed, Try.underlying33, cells33, Program.keyLits, Try.underlying3, cells3, h1, h2, Value.cells]
theorem ky_inj {a b : En} (ha : EnOk a) (hb : EnOk b) (h : ky a = ky b) : a = b := by
  have e1 := ky_some ha
  have e2 := ky_some hb
  rw [h] at e1
  have := keyedE.inj e1 e2
  simp [enV] at this
  exact Prod.ext this.1 this.2
theorem ky_lit {e : En} (h : EnOk e) : WideAt.IsKeyLit (ky e) := keyedE.key (ky_some h)
theorem ky_ne {a b : En} (ha : EnOk a) (hb : EnOk b) (h : a ≠ b) : ky a ≠ ky b := fun e => h (ky_inj ha hb e)
theorem pl_ok {e : En} (h : EnOk e) : EnOk (pl e) := by
  unfold pl
  split
  · exact ⟨h.1, by show (-9223372036854775808 : Int) ≤ 0 ∧ (0 : Int) ≤ 9223372036854775807; omega⟩
  · exact h
theorem rd_ok {T i : Nat} (hT : T ≤ 256) : EnOk (rd T i) := by
  unfold rd EnOk
  split
  · simp; omega
  · split
    · simp; omega
    · split <;> simp
/-- A map whose keys are the entries of S. -/
structure SetIs (D : DataW Unit) (S : En → Prop) : Prop where
  mp : IsMap D
  mem : ∀ e, EnOk e → (has D (ky e) = true ↔ S e)
  key : ∀ kl, has D kl = true → ∃ e, EnOk e ∧ ky e = kl
theorem SetIs.none : SetIs (.map []) (fun _ => False) :=
  ⟨⟨[], rfl⟩, fun e _ => ⟨fun h => (by cases h), fun h => False.elim h⟩, fun kl h => (by cases h)⟩
theorem SetIs.to {D : DataW Unit} {S S' : En → Prop} (h : SetIs D S) (hs : ∀ e, EnOk e → (S e ↔ S' e)) : SetIs D S' :=
  ⟨h.mp, fun e he => (h.mem e he).trans (hs e he), h.key⟩
theorem SetIs.put {D : DataW Unit} {S : En → Prop} (h : SetIs D S) {x : En} (hx : EnOk x) (d : DataW Unit) : SetIs (D.put (ky x) d) (fun e => S e ∨ e = x) := by
  refine ⟨h.mp.put _ _, fun e he => ?_, fun kl hk => ?_⟩
  · by_cases ee : e = x
    · subst ee; rw [has_put_same h.mp (ky_lit he)]; simp
    · rw [has_put_other (ky_ne he hx ee), h.mem e he]; simp [ee]
  · by_cases ee : kl = ky x
    · exact ⟨x, hx, ee.symm⟩
    · rw [has_put_other ee] at hk; exact h.key kl hk
theorem SetIs.del {D : DataW Unit} {S : En → Prop} (h : SetIs D S) {x : En} (hx : EnOk x) : SetIs (D.del (ky x)) (fun e => S e ∧ e ≠ x) := by
  refine ⟨h.mp.del _, fun e he => ?_, fun kl hk => ?_⟩
  · by_cases ee : e = x
    · subst ee; rw [has_del_same]; simp
    · rw [has_del_other (ky_ne he hx ee), h.mem e he]; simp [ee]
  · by_cases ee : kl = ky x
    · subst ee; rw [has_del_same] at hk; cases hk
    · rw [has_del_other ee] at hk; exact h.key kl hk
theorem SetIs.size {D : DataW Unit} {S : En → Prop} (h : SetIs D S) {w : World} {b n : Nat} {R : Value → Option (DataW Unit × List MemPlace)} (ho : w.ownsMap Try.prog 33 R b n D) : Maps.size D = 0 ↔ ∀ e, EnOk e → ¬ S e := by
  obtain ⟨es, rfl, _, hk⟩ := ho.entries keyedE
  constructor
  · intro h0 e he hS
    have := (h.mem e he).2 hS
    have e0 : es = [] := List.length_eq_zero_iff.1 h0
    subst e0
    cases this
  · intro hn
    cases es with
    | nil => rfl
    | cons p r =>
      have hp : has (.map (p :: r)) p.1 = true := by
        show (p :: r).any (fun q => q.1.sameKey p.1) = true
        simp [WideAt.sameKey_self (hk p (by simp))]
      obtain ⟨e, he, hke⟩ := h.key _ hp
      rw [← hke] at hp
      exact absurd ((h.mem e he).1 hp) (hn e he)
end Go.Proofs.Ytbnjdldobfckjaa
