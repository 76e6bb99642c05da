/- The contracts of a code's methods: Len, Long, At. -/
import Derived.Test.YtlnjjcfkcoaceaaKRead
namespace Go.Proofs.Ytlnjjcfkcoaceaa
open Go Go.RowKit
set_option linter.unusedVariables false
set_option maxRecDepth 100000
set_option linter.unusedSimpArgs false

theorem clen_nil (w : World) : Calls Try.prog 47 #[.pointer none] w fun e w' => e = .returned (.int .i64 0) ∧ w = w' := by
  go_enter Try.func47, Try.ntmps47
  go_wp2_with fail
  go_ret
  exact ⟨rfl, rfl⟩
theorem IsCode.cell {w : World} {c g : Nat} {f : Nat → Int} {L : List (Nat × Nat)} (h : IsCode w c g f L) : w.cell? ⟨c, 0, none⟩ = some (.slice (some ⟨g, 0, none⟩) L.length L.length) := by simp [World.cell?, h.main]
theorem clen_some (c g : Nat) (f : Nat → Int) (L : List (Nat × Nat)) (w : World) (h : IsCode w c g f L) : Calls Try.prog 47 #[.pointer (some ⟨c, 0, none⟩)] w fun e w' => e = .returned (.int .i64 (L.length : Nat)) ∧ w = w' := by
  have h0 := h.cell
  clear h
  go_enter Try.func47, Try.ntmps47
  go_wp2_with fail
  go_ret
  exact ⟨rfl, rfl⟩
theorem program_nil (p : Int) (w : World) : Calls Try.prog 140 #[.pointer none, .int .i64 p] w fun e w' => e = .returned (.slice none 0 0) ∧ w = w' := by
  by_cases h : p < 0
  · go_enter Try.func140, Try.ntmps140
    go_wp2_with fail
    go_ret
    exact ⟨rfl, rfl⟩
  · go_enter Try.func140, Try.ntmps140
    go_wp2_with fail
    go_at_call 47; refine (clen_nil _).mono ?_; rintro e w1 ⟨rfl, rfl⟩
    go_wp2_with fail
    go_ret
    exact ⟨rfl, rfl⟩
theorem program_no (c g : Nat) (f : Nat → Int) (L : List (Nat × Nat)) (p : Int) (w : World) (h : IsCode w c g f L) (hp : p < 0 ∨ (L.length : Int) ≤ p) : Calls Try.prog 140 #[.pointer (some ⟨c, 0, none⟩), .int .i64 p] w fun e w' => e = .returned (.slice none 0 0) ∧ w = w' := by
  by_cases h0 : p < 0
  · clear h
    go_enter Try.func140, Try.ntmps140
    go_wp2_with fail
    go_ret
    exact ⟨rfl, rfl⟩
  · have hl := clen_some c g f L w h
    have hp2 : (L.length : Int) ≤ p := by omega
    clear h
    go_enter Try.func140, Try.ntmps140
    go_wp2_with fail
    go_at_call 47; refine hl.mono ?_; rintro e w1 ⟨rfl, rfl⟩
    go_wp2_with fail
    go_ret
    exact ⟨rfl, rfl⟩
theorem program_ok (c g : Nat) (f : Nat → Int) (L : List (Nat × Nat)) (p : Nat) (x : Nat × Nat) (w : World) (h : IsCode w c g f L) (hx : L[p]? = some x) : Calls Try.prog 140 #[.pointer (some ⟨c, 0, none⟩), .int .i64 p] w fun e w' => ∃ (A1 : Option Addr) (c1 : Nat), e = .returned (.slice A1 x.2 c1) ∧ (x.2 ≤ c1 ∧ c1 ≤ maxLen ∧ SeesI w 0 w.heap.size A1 x.2 (fun j => f (x.1 + j)) (L.length : Nat)) ∧ w = w' := by
  have hl := clen_some c g f L w h
  have h0 := h.cell
  have hp : p < L.length := (List.getElem?_eq_some_iff.1 hx).1
  obtain ⟨cur, r1, r2, r3⟩ := h.row
  obtain ⟨A1, c1, q1, q2, q3, q4⟩ := r3 p x hx
  have hc : w.cell? ⟨g, p, none⟩ = some (.slice A1 x.2 c1) := by simp only [World.cell?, r1]; simpa using q1
  have HQ : Hid (x.2 ≤ c1 ∧ c1 ≤ maxLen ∧ SeesI w 0 w.heap.size A1 x.2 (fun j => f (x.1 + j)) (L.length : Nat)) := ⟨q2, q3, q4⟩
  clear h r1 r2 r3 q1 q2 q3 q4
  go_enter Try.func140, Try.ntmps140
  go_wp2_with fail
  go_at_call 47; refine hl.mono ?_; clear hl; rintro e w1 ⟨rfl, rfl⟩
  go_wp2_with fail
  go_ret
  exact ⟨A1, c1, rfl, HQ.out, rfl⟩

/-- Where the word of a place lies. -/
def look (L : List (Nat × Nat)) (p i : Int) : Option Nat :=
  if 0 ≤ p ∧ 0 ≤ i then (match L[p.toNat]? with | some x => if i < (x.2 : Int) then some (x.1 + i.toNat) else none | none => none) else none
def lookK (f : Nat → Int) (L : List (Nat × Nat)) (p i : Int) : Int := match look L p i with | some j => kd (f j) | none => 0
def lookA (f : Nat → Int) (L : List (Nat × Nat)) (m p i : Int) : Int := match look L p i with | some j => ag (f j) m | none => 0
theorem look_no {L : List (Nat × Nat)} {p i : Int} (h : p < 0 ∨ (L.length : Int) ≤ p ∨ i < 0) : look L p i = none := by
  unfold look
  split
  · rw [List.getElem?_eq_none (by omega)]
  · rfl
theorem look_far {L : List (Nat × Nat)} {p : Nat} {x : Nat × Nat} {i : Int} (hx : L[p]? = some x) (h : i < 0 ∨ (x.2 : Int) ≤ i) : look L p i = none := by
  unfold look
  split
  · simp only [Int.toNat_natCast, hx]
    rw [if_neg (by omega)]
  · rfl
theorem look_ok {L : List (Nat × Nat)} {p i : Nat} {x : Nat × Nat} (hx : L[p]? = some x) (h : i < x.2) : look L p i = some (x.1 + i) := by
  unfold look
  rw [if_pos (by omega)]
  simp only [Int.toNat_natCast, hx]
  rw [if_pos (by omega)]

theorem at_nil (p i : Int) (w : World) : Calls Try.prog 102 #[.pointer none, .int .i64 p, .int .i64 i] w fun e w' => e = .returned (.agg #[.int .i64 0, .int .i64 0]) ∧ Below w.heap.size w w' := by
  by_cases h : i < 0
  all_goals
    go_enter Try.func102, Try.ntmps102
    go_wp2_with fail
    go_at_call 140; refine (program_nil p _).mono ?_; rintro e w1 ⟨rfl, rfl⟩
    go_wp2_with fail
    go_returns
    exact ⟨rfl, (Below.refl _ _).alloc (Nat.le_refl _) _⟩
theorem at_no (c g : Nat) (f : Nat → Int) (L : List (Nat × Nat)) (p i : Int) (w : World) (h : IsCode w c g f L) (hp : p < 0 ∨ (L.length : Int) ≤ p) : Calls Try.prog 102 #[.pointer (some ⟨c, 0, none⟩), .int .i64 p, .int .i64 i] w fun e w' => e = .returned (.agg #[.int .i64 0, .int .i64 0]) ∧ Below w.heap.size w w' := by
  have hP := program_no c g f L p (w.alloc (.cells #[.int .i64 0, .int .i64 0] 90)) (h.below ((Below.refl _ _).alloc (Nat.le_refl _) _)) hp
  clear h
  by_cases h : i < 0
  all_goals
    go_enter Try.func102, Try.ntmps102
    go_wp2_with fail
    go_at_call 140; refine hP.mono ?_; rintro e w1 ⟨rfl, rfl⟩
    go_wp2_with fail
    go_returns
    exact ⟨rfl, (Below.refl _ _).alloc (Nat.le_refl _) _⟩
theorem at_far (c g : Nat) (f : Nat → Int) (L : List (Nat × Nat)) (p : Nat) (x : Nat × Nat) (i : Int) (w : World) (h : IsCode w c g f L) (hx : L[p]? = some x) (hi : i < 0 ∨ (x.2 : Int) ≤ i) : Calls Try.prog 102 #[.pointer (some ⟨c, 0, none⟩), .int .i64 p, .int .i64 i] w fun e w' => e = .returned (.agg #[.int .i64 0, .int .i64 0]) ∧ Below w.heap.size w w' := by
  have hP := program_ok c g f L p x (w.alloc (.cells #[.int .i64 0, .int .i64 0] 90)) (h.below ((Below.refl _ _).alloc (Nat.le_refl _) _)) hx
  clear h
  by_cases h : i < 0
  all_goals
    go_enter Try.func102, Try.ntmps102
    go_wp2_with fail
    go_at_call 140; refine hP.mono ?_; rintro e w1 ⟨A1, c1, rfl, _, rfl⟩
    go_wp2_with fail
    go_returns
    exact ⟨rfl, (Below.refl _ _).alloc (Nat.le_refl _) _⟩
theorem at_ok (c g : Nat) (f : Nat → Int) (L : List (Nat × Nat)) (p i : Nat) (x : Nat × Nat) (w : World) (h : IsCode w c g f L) (hx : L[p]? = some x) (hi : i < x.2) : Calls Try.prog 102 #[.pointer (some ⟨c, 0, none⟩), .int .i64 p, .int .i64 i] w fun e w' => e = .returned (.agg #[.int .i64 (kd (f (x.1 + i))), .int .i64 (ag (f (x.1 + i)) (L.length : Nat))]) ∧ Below w.heap.size w w' := by
  have hP := program_ok c g f L p x (w.alloc (.cells #[.int .i64 0, .int .i64 0] 90)) (h.below ((Below.refl _ _).alloc (Nat.le_refl _) _)) hx
  clear h
  go_enter Try.func102, Try.ntmps102
  go_wp2_with fail
  go_at_call 140; refine hP.mono ?_; rintro e w1 ⟨A1, c1, rfl, ⟨q1, q2, q3⟩, rfl⟩
  obtain ⟨b, off, rfl, _, hb, hc⟩ := q3 (by omega)
  obtain ⟨e1, e2⟩ := hc i hi
  clear hP hc q3
  go_wp2_with fail
  go_returns
  exact ⟨rfl, (Below.refl _ _).alloc (Nat.le_refl _) _⟩
end Go.Proofs.Ytlnjjcfkcoaceaa
