/- The contract of the law's helper Alike. -/
import Derived.Test.YthjfbknmdligeaaGreatNew
namespace Go.Proofs.YthjfbknmdligeaaGreat
open Go Go.RowKit
set_option linter.unusedVariables false
set_option maxRecDepth 100000
set_option linter.unusedSimpArgs false

theorem last_spelt (w : World) (A : Option Addr) (cap c b n : Nat) (s : St) (h : Is w 114 A cap c b n s) : Calls Tryz.prog 53 #[.pointer (some ⟨c, 0, none⟩)] w fun e w' => e = .returned (.agg #[.int .i64 s.kind, .int .i64 s.who, .int .i64 s.at', .int .u64 s.old, .int .u64 s.new, .bool s.done]) ∧ Below w.heap.size w w' := last_any w A cap c b n s h

set_option maxHeartbeats 4000000 in
theorem alike_any (w : World) (A A' : Option Addr) (cap cap' c b c' b' n : Nat) (s : St) (hn : n ≤ 1000000) (h : Two w A A' cap cap' c b c' b' n s) :
    Calls Tryz.prog 21 #[.pointer (some ⟨c, 0, none⟩), .pointer (some ⟨c', 0, none⟩)] w fun e w' => e = .returned (.bool true) ∧ Below w.heap.size w w' := by
  have H : Hid (Two w A A' cap cap' c b c' b' n s) := h
  obtain ⟨d0, d1, d2, d3, d4, d5, d6, d7, d8⟩ := h.r.cells
  have hlt : c' < w.heap.size := h.r.lt
  clear h
  have hP := peek_any w A cap c b n s s.at' H.out.m hn
  have hQ := rpeek_any w A' cap' c' b' n s s.at' hn H.out.r
  generalize peekT n s s.at' = x at hP hQ
  generalize decide (0 ≤ s.at' ∧ s.at' < n) = y at hP hQ
  go_enter Tryz.func21, Tryz.ntmps21
  go_wp2_with fail
  go_at_call 26; refine hP.mono ?_; clear hP; rintro e w1 ⟨rfl, rfl⟩
  go_wp2_with fail
  go_at_call 51; refine hQ.mono ?_; clear hQ; rintro e w2 ⟨rfl, rfl⟩
  have hM : Hid (∀ X, Below w.heap.size w X → Is X 114 A cap c b n s) := fun X hX => H.out.m.below hX
  have hH : Hid (w.drew.cell? ⟨c', 1, none⟩ = some (.int .i64 s.clock) ∧ w.drew.cell? ⟨c', 2, none⟩ = some (.int .i64 s.bad) ∧ w.drew.cell? ⟨c', 3, none⟩ = some (.int .i64 s.kind) ∧ w.drew.cell? ⟨c', 4, none⟩ = some (.int .i64 s.who) ∧ w.drew.cell? ⟨c', 5, none⟩ = some (.int .i64 s.at') ∧ w.drew.cell? ⟨c', 6, none⟩ = some (.int .u64 s.old) ∧ w.drew.cell? ⟨c', 7, none⟩ = some (.int .u64 s.new) ∧ w.drew.cell? ⟨c', 8, none⟩ = some (.bool s.done) ∧ Below w.heap.size w w.drew) :=
    ⟨d1, d2, d3, d4, d5, d6, d7, d8, (Below.refl _ _).drew⟩
  have KEEP : Hid (∀ X w' : World, (X.cell? ⟨c', 1, none⟩ = some (.int .i64 s.clock) ∧ X.cell? ⟨c', 2, none⟩ = some (.int .i64 s.bad) ∧ X.cell? ⟨c', 3, none⟩ = some (.int .i64 s.kind) ∧ X.cell? ⟨c', 4, none⟩ = some (.int .i64 s.who) ∧ X.cell? ⟨c', 5, none⟩ = some (.int .i64 s.at') ∧ X.cell? ⟨c', 6, none⟩ = some (.int .u64 s.old) ∧ X.cell? ⟨c', 7, none⟩ = some (.int .u64 s.new) ∧ X.cell? ⟨c', 8, none⟩ = some (.bool s.done) ∧ Below w.heap.size w X) → Below X.heap.size X w' →
      (w'.cell? ⟨c', 1, none⟩ = some (.int .i64 s.clock) ∧ w'.cell? ⟨c', 2, none⟩ = some (.int .i64 s.bad) ∧ w'.cell? ⟨c', 3, none⟩ = some (.int .i64 s.kind) ∧ w'.cell? ⟨c', 4, none⟩ = some (.int .i64 s.who) ∧ w'.cell? ⟨c', 5, none⟩ = some (.int .i64 s.at') ∧ w'.cell? ⟨c', 6, none⟩ = some (.int .u64 s.old) ∧ w'.cell? ⟨c', 7, none⟩ = some (.int .u64 s.new) ∧ w'.cell? ⟨c', 8, none⟩ = some (.bool s.done) ∧ Below w.heap.size w w')) := by
    show ∀ _ _, _
    rintro X w' ⟨e1, e2, e3, e4, e5, e6, e7, e8, hb⟩ hB
    have hs := hb.size
    exact ⟨(hB.cell (p := ⟨c', 1, none⟩) (Nat.lt_of_lt_of_le hlt hs)).trans e1, (hB.cell (p := ⟨c', 2, none⟩) (Nat.lt_of_lt_of_le hlt hs)).trans e2, (hB.cell (p := ⟨c', 3, none⟩) (Nat.lt_of_lt_of_le hlt hs)).trans e3, (hB.cell (p := ⟨c', 4, none⟩) (Nat.lt_of_lt_of_le hlt hs)).trans e4, (hB.cell (p := ⟨c', 5, none⟩) (Nat.lt_of_lt_of_le hlt hs)).trans e5, (hB.cell (p := ⟨c', 6, none⟩) (Nat.lt_of_lt_of_le hlt hs)).trans e6, (hB.cell (p := ⟨c', 7, none⟩) (Nat.lt_of_lt_of_le hlt hs)).trans e7, (hB.cell (p := ⟨c', 8, none⟩) (Nat.lt_of_lt_of_le hlt hs)).trans e8, hb.trans (hB.mono hs)⟩
  clear H
  go_wp2_with fail
  go_region_held3 (fun w' => w'.cell? ⟨c', 1, none⟩ = some (.int .i64 s.clock) ∧ w'.cell? ⟨c', 2, none⟩ = some (.int .i64 s.bad) ∧ w'.cell? ⟨c', 3, none⟩ = some (.int .i64 s.kind) ∧ w'.cell? ⟨c', 4, none⟩ = some (.int .i64 s.who) ∧ w'.cell? ⟨c', 5, none⟩ = some (.int .i64 s.at') ∧ w'.cell? ⟨c', 6, none⟩ = some (.int .u64 s.old) ∧ w'.cell? ⟨c', 7, none⟩ = some (.int .u64 s.new) ∧ w'.cell? ⟨c', 8, none⟩ = some (.bool s.done) ∧ Below w.heap.size w w') (first | exact hH | assumption | exact KEEP.out _ _ ‹_› ‹_›) (first | (go_at_call 31; refine (clock_any _ A cap c b n s (hM.out _ (by simp only [*]))).mono ?_; rintro e w3 ⟨rfl, rfl⟩) | (go_at_call 28; refine (bad_any _ A cap c b n s (hM.out _ (by simp only [*]))).mono ?_; rintro e w3 ⟨rfl, rfl⟩) | (go_at_call 53; refine (last_spelt _ A cap c b n s (hM.out _ (by simp only [*]))).mono ?_; rintro e w3 ⟨rfl, hb3⟩))
  rename_i hS
  have hb := hS.2.2.2.2.2.2.2.2
  clear hS hM hH KEEP d0 d1 d2 d3 d4 d5 d6 d7 d8
  go_wp2_with fail
  go_ret
  exact ⟨rfl, hb⟩
end Go.Proofs.YthjfbknmdligeaaGreat
