/- The contracts of the reference's memory, put together; its Peek and its making. -/
import Derived.Test.YthjfbknmdligeaaGreatRef
namespace Go.Proofs.YthjfbknmdligeaaGreat
open Go Go.RowKit
set_option linter.unusedVariables false
set_option maxRecDepth 100000
set_option linter.unusedSimpArgs false

theorem rdo_load_any (w : World) (A : Option Addr) (cap c b n : Nat) (s : St) (who i old : Int) (hn : n ≤ 1000000) (hl : Low s 1000000) (h : Is w 64 A cap c b n s) :
    Calls Tryz.prog 41 #[.pointer (some ⟨c, 0, none⟩), .int .i64 1, .int .i64 who, .int .i64 i, .int .u64 old, .int .u64 0] w fun e w' => e = .returned (.int .u64 (ans 1 i 0 0 n s)) ∧ Is w' 64 A cap c b n (stp 1 who i 0 0 n s) ∧ But [c, b] w w' := by
  by_cases hi : 0 ≤ i ∧ i < n
  · obtain ⟨j, rfl⟩ : ∃ j : Nat, i = (j : Int) := ⟨i.toNat, by omega⟩
    have hj : j < n := by omega
    have e1 : ans 1 j 0 0 n s = s.f j := by unfold ans; rw [if_pos hi]; simp
    have e2 : stp 1 who j 0 0 n s = { s with clock := s.clock + 1, kind := 1, who := who, at' := (j : Int), old := s.f j, new := 0, done := true } := by unfold stp; rw [if_pos hi]; simp
    rw [e1, e2]
    exact rdo_load w A cap c b n s who old j hj hn hl h
  · have e1 : ans 1 i 0 0 n s = 0 := by unfold ans; rw [if_neg hi]
    have e2 : stp 1 who i 0 0 n s = { s with clock := s.clock + 1, bad := s.bad + 1, kind := 1, who := who, at' := i, old := 0, new := 0, done := false } := by unfold stp; rw [if_neg hi]
    rw [e1, e2]
    by_cases h0 : i < 0
    · exact rdo_bad1_lo w A cap c b n s who i old h0 hn hl h
    · exact rdo_bad1_hi w A cap c b n s who i old (by omega) hn hl h
theorem rdo_store_any (w : World) (A : Option Addr) (cap c b n : Nat) (s : St) (who i old new : Int) (hnb : 0 ≤ new ∧ new ≤ 18446744073709551615) (hn : n ≤ 1000000) (hl : Low s 1000000) (h : Is w 64 A cap c b n s) :
    Calls Tryz.prog 41 #[.pointer (some ⟨c, 0, none⟩), .int .i64 2, .int .i64 who, .int .i64 i, .int .u64 old, .int .u64 new] w fun e w' => e = .returned (.int .u64 0) ∧ Is w' 64 A cap c b n (stp 2 who i 0 new n s) ∧ But [c, b] w w' := by
  by_cases hi : 0 ≤ i ∧ i < n
  · obtain ⟨j, rfl⟩ : ∃ j : Nat, i = (j : Int) := ⟨i.toNat, by omega⟩
    have hj : j < n := by omega
    have e2 : stp 2 who j 0 new n s = { s with f := upd s.f j new, clock := s.clock + 1, kind := 2, who := who, at' := (j : Int), old := s.f j, new := new, done := true } := by unfold stp; rw [if_pos hi]; simp
    rw [e2]
    exact rdo_store w A cap c b n s who old new j hj hnb hn hl h
  · have e2 : stp 2 who i 0 new n s = { s with clock := s.clock + 1, bad := s.bad + 1, kind := 2, who := who, at' := i, old := 0, new := new, done := false } := by unfold stp; rw [if_neg hi]
    rw [e2]
    by_cases h0 : i < 0
    · exact rdo_bad2_lo w A cap c b n s who i old new h0 hn hl h
    · exact rdo_bad2_hi w A cap c b n s who i old new (by omega) hn hl h
theorem rdo_swap_any (w : World) (A : Option Addr) (cap c b n : Nat) (s : St) (who i old new : Int) (hnb : 0 ≤ new ∧ new ≤ 18446744073709551615) (hn : n ≤ 1000000) (hl : Low s 1000000) (h : Is w 64 A cap c b n s) :
    Calls Tryz.prog 41 #[.pointer (some ⟨c, 0, none⟩), .int .i64 3, .int .i64 who, .int .i64 i, .int .u64 old, .int .u64 new] w fun e w' => e = .returned (.int .u64 (ans 3 i old new n s)) ∧ Is w' 64 A cap c b n (stp 3 who i old new n s) ∧ But [c, b] w w' := by
  by_cases hi : 0 ≤ i ∧ i < n
  · obtain ⟨j, rfl⟩ : ∃ j : Nat, i = (j : Int) := ⟨i.toNat, by omega⟩
    have hj : j < n := by omega
    by_cases hx : s.f j = old
    · have e1 : ans 3 j old new n s = 1 := by unfold ans; rw [if_pos hi]; simp [hx]
      have e2 : stp 3 who j old new n s = { s with f := upd s.f j new, clock := s.clock + 1, kind := 3, who := who, at' := (j : Int), old := s.f j, new := new, done := true } := by unfold stp; rw [if_pos hi]; simp [hx]
      rw [e1, e2]
      exact rdo_swap_done w A cap c b n s who old new j hj hnb hx hn hl h
    · have e1 : ans 3 j old new n s = 0 := by unfold ans; rw [if_pos hi]; simp [hx]
      have e2 : stp 3 who j old new n s = { s with clock := s.clock + 1, kind := 3, who := who, at' := (j : Int), old := s.f j, new := new, done := false } := by unfold stp; rw [if_pos hi]; simp [hx]
      rw [e1, e2]
      exact rdo_swap_not w A cap c b n s who old new j hj hnb hx hn hl h
  · have e1 : ans 3 i old new n s = 0 := by unfold ans; rw [if_neg hi]
    have e2 : stp 3 who i old new n s = { s with clock := s.clock + 1, bad := s.bad + 1, kind := 3, who := who, at' := i, old := 0, new := new, done := false } := by unfold stp; rw [if_neg hi]
    rw [e1, e2]
    by_cases h0 : i < 0
    · exact rdo_bad3_lo w A cap c b n s who i old new h0 hn hl h
    · exact rdo_bad3_hi w A cap c b n s who i old new (by omega) hn hl h
theorem rdo_add_any (w : World) (A : Option Addr) (cap c b n : Nat) (s : St) (who i old new : Int) (hnb : 0 ≤ new ∧ new ≤ 18446744073709551615) (hn : n ≤ 1000000) (hl : Low s 1000000) (h : Is w 64 A cap c b n s) :
    Calls Tryz.prog 41 #[.pointer (some ⟨c, 0, none⟩), .int .i64 4, .int .i64 who, .int .i64 i, .int .u64 old, .int .u64 new] w fun e w' => e = .returned (.int .u64 (ans 4 i 0 new n s)) ∧ Is w' 64 A cap c b n (stp 4 who i 0 new n s) ∧ But [c, b] w w' := by
  by_cases hi : 0 ≤ i ∧ i < n
  · obtain ⟨j, rfl⟩ : ∃ j : Nat, i = (j : Int) := ⟨i.toNat, by omega⟩
    have hj : j < n := by omega
    have e1 : ans 4 j 0 new n s = (s.f j + new) % 4294967296 := by unfold ans; rw [if_pos hi]; simp
    have e2 : stp 4 who j 0 new n s = { s with f := upd s.f j ((s.f j + new) % 4294967296), clock := s.clock + 1, kind := 4, who := who, at' := (j : Int), old := s.f j, new := (s.f j + new) % 4294967296, done := true } := by unfold stp; rw [if_pos hi]; simp
    rw [e1, e2]
    exact rdo_add w A cap c b n s who old new j hj hnb hn hl h
  · have e1 : ans 4 i 0 new n s = 0 := by unfold ans; rw [if_neg hi]
    have e2 : stp 4 who i 0 new n s = { s with clock := s.clock + 1, bad := s.bad + 1, kind := 4, who := who, at' := i, old := 0, new := new, done := false } := by unfold stp; rw [if_neg hi]
    rw [e1, e2]
    by_cases h0 : i < 0
    · exact rdo_bad4_lo w A cap c b n s who i old new h0 hn hl h
    · exact rdo_bad4_hi w A cap c b n s who i old new (by omega) hn hl h

theorem rpeek_any (w : World) (A : Option Addr) (cap c b n : Nat) (s : St) (i : Int) (hn : n ≤ 1000000) (h : Is w 64 A cap c b n s) :
    Calls Tryz.prog 51 #[.pointer (some ⟨c, 0, none⟩), .int .i64 i] w fun e w' => e = .returned (.tuple #[.int .u64 (peekT n s i), .bool (decide (0 ≤ i ∧ i < n))]) ∧ w = w' := by
  have c0 := h.cells.1
  by_cases hi : 0 ≤ i ∧ i < n
  · rw [show decide (0 ≤ i ∧ i < n) = true by simpa using hi]
    obtain ⟨j, rfl⟩ : ∃ j : Nat, i = (j : Int) := ⟨i.toNat, by omega⟩
    have hj : j < n := by omega
    have e1 : peekT n s j = s.f j := by unfold peekT; rw [if_pos hi]; simp
    rw [e1]
    have hw := h.word hj
    obtain ⟨rfl, -, -⟩ := h.wds (by omega)
    clear h e1 hi
    go_enter Tryz.func51, Tryz.ntmps51
    go_wp2_with fail
    go_returns
    exact ⟨rfl, rfl⟩
  · rw [show decide (0 ≤ i ∧ i < n) = false by simpa using hi]
    have e1 : peekT n s i = 0 := by unfold peekT; rw [if_neg hi]
    rw [e1]
    clear h e1
    by_cases h0 : i < 0
    · clear hi
      go_enter Tryz.func51, Tryz.ntmps51
      go_wp2_with fail
      go_returns
      exact ⟨rfl, rfl⟩
    · have h1 : (n : Int) ≤ i := by omega
      clear hi
      go_enter Tryz.func51, Tryz.ntmps51
      go_wp2_with fail
      go_returns
      exact ⟨rfl, rfl⟩
end Go.Proofs.YthjfbknmdligeaaGreat
