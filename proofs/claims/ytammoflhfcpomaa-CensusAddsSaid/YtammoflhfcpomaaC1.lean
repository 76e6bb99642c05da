/- Events counted: the plain mathematics; events in memory; the document's counts. -/
import Derived.Test.YtammoflhfcpomaaB0
import Derived.Lib.Hide
import Derived.IntWalk
namespace Go.Proofs.Ytammoflhfcpomaa
open Go Go.RowKit
set_option linter.unusedVariables false
set_option linter.unusedSimpArgs false
set_option maxRecDepth 100000

/-- An event: its numbers. -/
structure Ev where
  kind : Int
  g : Int
  other : Int
  thread : Int
  proc : Int
/-- A Kind that is one; 0 of others. -/
def kn (k : Int) : Nat := if 1 ≤ k ∧ k ≤ 11 then k.toNat else 0
theorem kn_lt (k : Int) : kn k < 12 := by unfold kn; split <;> omega
/-- How many of the first n are of a Kind. -/
def cK (ev : Nat → Ev) : Nat → Nat → Nat
  | 0, _ => 0
  | n + 1, k => cK ev n k + (if kn (ev n).kind = k then 1 else 0)
theorem cK_le (ev : Nat → Ev) : ∀ n k, cK ev n k ≤ n
  | 0, _ => Nat.le_refl _
  | n + 1, k => by have := cK_le ev n k; unfold cK; split <;> omega
/-- Does an event count in field f of goroutine i's row? -/
def hit (e : Ev) (i f : Nat) : Bool := (f == 0 && e.kind == 1 && e.g == (i : Int)) || (f == 1 && e.kind == 9 && e.g == (i : Int)) || (f == 2 && e.kind == 2 && e.other == (i : Int))
def cR (ev : Nat → Ev) : Nat → Nat → Nat → Nat
  | 0, _, _ => 0
  | n + 1, i, f => cR ev n i f + (if hit (ev n) i f = true then 1 else 0)
theorem cR_le (ev : Nat → Ev) : ∀ n i f, cR ev n i f ≤ n
  | 0, _, _ => Nat.le_refl _
  | n + 1, i, f => by have := cR_le ev n i f; unfold cR; split <;> omega
/-- Does an event let one run with processor p? -/
def runs (e : Ev) (p : Nat) : Bool := (e.kind == 1 || e.kind == 9) && e.proc == (p : Int)
def cP (ev : Nat → Ev) : Nat → Nat → Nat
  | 0, _ => 0
  | n + 1, p => cP ev n p + (if runs (ev n) p = true then 1 else 0)
theorem cP_le (ev : Nat → Ev) : ∀ n p, cP ev n p ≤ n
  | 0, _ => Nat.le_refl _
  | n + 1, p => by have := cP_le ev n p; unfold cP; split <;> omega
/-- How many more run behind an event of a Kind. -/
def ch (k : Int) : Int := if k = 1 ∨ k = 9 then 1 else if k = 4 ∨ k = 5 ∨ k = 6 ∨ k = 8 ∨ k = 11 then -1 else 0
def nowN (ev : Nat → Ev) : Nat → Int
  | 0 => 0
  | n + 1 => nowN ev n + ch (ev n).kind
def mostN (ev : Nat → Ev) : Nat → Int
  | 0 => 0
  | n + 1 => max (mostN ev n) (nowN ev (n + 1))
theorem ch_bd (k : Int) : -1 ≤ ch k ∧ ch k ≤ 1 := by unfold ch; split <;> (try split) <;> omega
theorem nowN_bd (ev : Nat → Ev) : ∀ n : Nat, -(n : Int) ≤ nowN ev n ∧ nowN ev n ≤ n
  | 0 => ⟨by simp [nowN], by simp [nowN]⟩
  | n + 1 => by have := nowN_bd ev n; have := ch_bd (ev n).kind; unfold nowN; omega
theorem mostN_bd (ev : Nat → Ev) : ∀ n : Nat, 0 ≤ mostN ev n ∧ mostN ev n ≤ n
  | 0 => ⟨by simp [mostN], by simp [mostN]⟩
  | n + 1 => by have := mostN_bd ev n; have := nowN_bd ev (n + 1); unfold mostN; omega
theorem ch_kn (k : Int) : ch k = ((if kn k = 1 then 1 else 0 : Int) + (if kn k = 9 then 1 else 0)) - ((if kn k = 4 then 1 else 0) + (if kn k = 5 then 1 else 0) + (if kn k = 6 then 1 else 0) + (if kn k = 8 then 1 else 0) + (if kn k = 11 then 1 else 0)) := by
  unfold ch kn
  by_cases h : 1 ≤ k ∧ k ≤ 11
  · obtain ⟨n, rfl⟩ : ∃ n : Nat, k = (n : Int) := ⟨k.toNat, by omega⟩
    have hn : 1 ≤ n ∧ n ≤ 11 := by omega
    rw [if_pos h]
    simp only [Int.toNat_natCast]
    have : ∀ m : Fin 12, 1 ≤ m.val → ((if ((m.val : Nat) : Int) = 1 ∨ ((m.val : Nat) : Int) = 9 then 1 else if ((m.val : Nat) : Int) = 4 ∨ ((m.val : Nat) : Int) = 5 ∨ ((m.val : Nat) : Int) = 6 ∨ ((m.val : Nat) : Int) = 8 ∨ ((m.val : Nat) : Int) = 11 then -1 else 0 : Int)) = ((if m.val = 1 then 1 else 0 : Int) + (if m.val = 9 then 1 else 0)) - ((if m.val = 4 then 1 else 0) + (if m.val = 5 then 1 else 0) + (if m.val = 6 then 1 else 0) + (if m.val = 8 then 1 else 0) + (if m.val = 11 then 1 else 0)) := by decide +kernel
    exact this ⟨n, by omega⟩ hn.1
  · rw [if_neg h, if_neg (by omega), if_neg (by omega)]; simp
theorem cast_if (p : Prop) [Decidable p] : (((if p then 1 else 0 : Nat)) : Int) = if p then 1 else 0 := by split <;> rfl
theorem nowN_cK (ev : Nat → Ev) : ∀ n : Nat, nowN ev n = ((cK ev n 1 : Nat) : Int) + (cK ev n 9 : Nat) - ((cK ev n 4 : Nat) + (cK ev n 5 : Nat) + (cK ev n 6 : Nat) + (cK ev n 8 : Nat) + (cK ev n 11 : Nat))
  | 0 => by simp [nowN, cK]
  | n + 1 => by
    have h := nowN_cK ev n
    have e := ch_kn (ev n).kind
    unfold nowN cK
    simp only [Int.natCast_add, cast_if]
    omega

/-- n events, seen in memory below block B. -/
def SeesE (w : World) (B : Nat) (A : Option Addr) (n : Nat) (ev : Nat → Ev) : Prop :=
  0 < n → ∃ b off : Nat, A = some ⟨b, off, none⟩ ∧ b < B ∧ ∀ i, i < n → w.cell? ⟨b, off + i * 5, none⟩ = some (.int .i64 (ev i).kind) ∧ w.cell? ⟨b, off + i * 5 + 1, none⟩ = some (.int .i64 (ev i).g) ∧ w.cell? ⟨b, off + i * 5 + 2, none⟩ = some (.int .i64 (ev i).other) ∧ w.cell? ⟨b, off + i * 5 + 3, none⟩ = some (.int .i64 (ev i).thread) ∧ w.cell? ⟨b, off + i * 5 + 4, none⟩ = some (.int .i64 (ev i).proc)
theorem SeesE.same {w w' : World} {B n : Nat} {A : Option Addr} {ev : Nat → Ev} (h : SeesE w B A n ev) (hb : ∀ b, b < B → b < w.heap.size → w'.heap[b]? = w.heap[b]?) : SeesE w' B A n ev := fun hn => by
  obtain ⟨b, off, e, h1, h2⟩ := h hn
  have hk := hb b h1 (cell_lt (h2 0 hn).1)
  have k : ∀ o v, w.cell? ⟨b, o, none⟩ = some v → w'.cell? ⟨b, o, none⟩ = some v := fun o v hv => (World.cell?_of_block (a := ⟨b, o, none⟩) hk).trans hv
  exact ⟨b, off, e, h1, fun i hi => ⟨k _ _ (h2 i hi).1, k _ _ (h2 i hi).2.1, k _ _ (h2 i hi).2.2.1, k _ _ (h2 i hi).2.2.2.1, k _ _ (h2 i hi).2.2.2.2⟩⟩
theorem SeesE.less {w : World} {B n m : Nat} {A : Option Addr} {ev : Nat → Ev} (h : SeesE w B A n ev) (hm : m ≤ n) : SeesE w B A m ev := fun h0 => by
  obtain ⟨b, off, e, h1, h2⟩ := h (by omega)
  exact ⟨b, off, e, h1, fun i hi => h2 i (by omega)⟩

theorem refKind_any (w : World) (B n cap k : Nat) (A : Option Addr) (ev : Nat → Ev) (ki : Int) (hki : ki = (k : Int)) (hk : k < 12) (hn : n ≤ 1000) (h : SeesE w B A n ev) :
    Calls Try.prog 14 #[.slice A n cap, .int .i64 ki] w fun e w' => e = .returned (.int .i64 ((cK ev n k : Nat) : Int)) ∧ w = w' := by
  subst hki
  have HS := Lib.hid h
  clear h
  go_enter Try.func14, Try.ntmps14
  go_wp2_with fail
  go_loop [5, 6] (fun c i => ∃ j : Nat, j ≤ n ∧ i = .int .i64 j ∧ c = .int .i64 ((cK ev j k : Nat) : Int)) (fun _ i => n - (intOf i).toNat)
  case atStart => exact ⟨0, Nat.zero_le _, rfl, rfl⟩
  case round =>
    obtain ⟨j, hj, rfl, rfl⟩ := hrel
    have hle := cK_le ev j k
    by_cases hlt : j < n
    · obtain ⟨b, off, rfl, hB, hc⟩ := HS.out (by omega)
      have c0 := (hc j hlt).1
      have hkl := kn_lt (ev j).kind
      have HU : Hid (cK ev (j + 1) k = cK ev j k + (if kn (ev j).kind = k then 1 else 0)) := rfl
      clear hc
      by_cases hr : 1 ≤ (ev j).kind ∧ (ev j).kind ≤ 11
      · obtain ⟨h1, h2⟩ := hr
        have HN : Hid (((kn (ev j).kind : Nat) : Int) = (ev j).kind) := by show _ = _; unfold kn; rw [if_pos ⟨h1, h2⟩]; omega
        by_cases he : (ev j).kind = (k : Int)
        · have HE : Hid (cK ev (j + 1) k = cK ev j k + 1) := by have := HN.out; have e := HU.out; rw [if_pos (by omega)] at e; exact e
          clear hkl
          generalize (ev j).kind = kk at *
          subst he
          generalize cK ev j k = cc at *
          go_wp2_with fail
          go_round
          case rel => exact ⟨j + 1, by omega, by go_num, by rw [HE.out]; go_num⟩
          case measure => simp [intOf]; omega
        · have HE : Hid (cK ev (j + 1) k = cK ev j k) := by have := HN.out; have e := HU.out; rw [if_neg (by omega)] at e; exact e
          have hd : ((ev j).kind == (k : Int)) = false := by simpa using he
          clear hkl
          generalize (ev j).kind = kk at *
          generalize cK ev j k = cc at *
          go_wp2_with fail
          go_round
          case rel => exact ⟨j + 1, by omega, by go_num, by rw [HE.out]⟩
          case measure => simp [intOf]; omega
      · have HN : Hid (kn (ev j).kind = 0) := by show _ = _; unfold kn; rw [if_neg hr]
        by_cases hk0 : k = 0
        · have HE : Hid (cK ev (j + 1) k = cK ev j k + 1) := by have e := HU.out; rw [HN.out, if_pos hk0.symm] at e; exact e
          subst hk0
          clear hkl
          rcases (show (ev j).kind < 1 ∨ (1 ≤ (ev j).kind ∧ 11 < (ev j).kind) by omega) with h1 | ⟨h1, h2⟩
          all_goals
            generalize (ev j).kind = kk at *
            generalize cK ev j 0 = cc at *
            go_wp2_with fail
            go_round
            case rel => exact ⟨j + 1, by omega, by go_num, by rw [HE.out]; go_num⟩
            case measure => simp [intOf]; omega
        · have HE : Hid (cK ev (j + 1) k = cK ev j k) := by have e := HU.out; rw [HN.out, if_neg (fun h => hk0 h.symm)] at e; exact e
          have hd : ((0 : Int) == (k : Int)) = false := by simp; omega
          have hd2 : ¬ ((0 : Int) = (k : Int)) := by omega
          clear hkl
          rcases (show (ev j).kind < 1 ∨ (1 ≤ (ev j).kind ∧ 11 < (ev j).kind) by omega) with h1 | ⟨h1, h2⟩
          all_goals
            generalize (ev j).kind = kk at *
            generalize cK ev j k = cc at *
            go_wp2_with fail
            go_round
            case rel => exact ⟨j + 1, by omega, by go_num, by rw [HE.out]⟩
            case measure => simp [intOf]; omega
    · obtain rfl : j = n := by omega
      go_wp2_with fail
      go_ret
      exact ⟨rfl, rfl⟩
end Go.Proofs.Ytammoflhfcpomaa
