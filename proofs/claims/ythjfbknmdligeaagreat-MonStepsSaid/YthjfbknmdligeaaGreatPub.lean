/- The contracts of a memory's methods: Load, Store, Swap, Add. -/
import Derived.Test.YthjfbknmdligeaaGreatAcc3
namespace Go.Proofs.YthjfbknmdligeaaGreat
open Go Go.RowKit
set_option linter.unusedVariables false
set_option maxRecDepth 100000
set_option linter.unusedSimpArgs false

/-- What an access of kind k (1 to 4) does. -/
def stp (k who i old new : Int) (n : Nat) (s : St) : St :=
  if 0 ≤ i ∧ i < n then
    { f := if k = 2 ∨ (k = 3 ∧ s.f i.toNat = old) then upd s.f i.toNat new else if k = 4 then upd s.f i.toNat ((s.f i.toNat + new) % 4294967296) else s.f,
      clock := s.clock + 1, bad := s.bad, kind := k, who := who, at' := i, old := s.f i.toNat, new := if k = 4 then (s.f i.toNat + new) % 4294967296 else new, done := if k = 3 then decide (s.f i.toNat = old) else true }
  else { s with clock := s.clock + 1, bad := s.bad + 1, kind := k, who := who, at' := i, old := 0, new := new, done := false }
/-- What it answers. -/
def ans (k i old new : Int) (n : Nat) (s : St) : Int :=
  if 0 ≤ i ∧ i < n then (if k = 1 then s.f i.toNat else if k = 3 then (if s.f i.toNat = old then 1 else 0) else if k = 4 then (s.f i.toNat + new) % 4294967296 else 0) else 0

/-- How far counts may have come. -/
structure Low (s : St) (m : Int) : Prop where
  clock : 0 ≤ s.clock ∧ s.clock ≤ m
  bad : 0 ≤ s.bad ∧ s.bad ≤ m
theorem stp_low {s : St} {m : Int} (h : Low s m) (k who i old new : Int) (n : Nat) : Low (stp k who i old new n s) (m + 1) := by
  obtain ⟨⟨h1, h2⟩, h3, h4⟩ := h
  unfold stp
  split
  · exact ⟨⟨by dsimp only; omega, by dsimp only; omega⟩, ⟨by dsimp only; omega, by dsimp only; omega⟩⟩
  · exact ⟨⟨by dsimp only; omega, by dsimp only; omega⟩, ⟨by dsimp only; omega, by dsimp only; omega⟩⟩

theorem field_old (w : World) (a b c d e f : Value) : (Instr.field 48 (.agg #[a, b, c, d, e, f]) 3).run Tryz.prog w = .ok d w := by
  unfold Instr.field
  rw [Sem.run_bind, run_underlying Tryz.underlying48 w]
  simp [go_sem, part, asAgg, isAgg, sizeOf, typeInfo, Result.andThen]
theorem field_done (w : World) (a b c d e f : Value) : (Instr.field 48 (.agg #[a, b, c, d, e, f]) 5).run Tryz.prog w = .ok f w := by
  unfold Instr.field
  rw [Sem.run_bind, run_underlying Tryz.underlying48 w]
  simp [go_sem, part, asAgg, isAgg, sizeOf, typeInfo, Result.andThen]

theorem load_any (w : World) (A : Option Addr) (cap c b n : Nat) (s : St) (who i : Int) (h : Is w 114 A cap c b n s) (hn : n ≤ 1000000) (hl : Low s 1000000) :
    Calls Tryz.prog 43 #[.pointer (some ⟨c, 0, none⟩), .int .i64 who, .int .i64 i] w fun e w' => e = .returned (.int .u64 (ans 1 i 0 0 n s)) ∧ Is w' 114 A cap c b n (stp 1 who i 0 0 n s) ∧ But [c, b] w w' := by
  have hb : But [c, b] w (w.alloc (.cells #[.int .i64 1, .int .i64 who, .int .i64 i, .int .u64 0, .int .u64 0, .bool false] 48)) := (But.refl _ _).alloc _
  have H : Hid (Is (w.alloc (.cells #[.int .i64 1, .int .i64 who, .int .i64 i, .int .u64 0, .int .u64 0, .bool false] 48)) 114 A cap c b n s) := h.below ((Below.refl _ _).alloc (Nat.le_refl _) _)
  clear h
  by_cases hi : 0 ≤ i ∧ i < n
  · have HA : Hid _ := hi
    obtain ⟨j, rfl⟩ : ∃ j : Nat, i = (j : Int) := ⟨i.toNat, by omega⟩
    have hj : j < n := by omega
    have e1 : ans 1 j 0 0 n s = s.f j := by unfold ans; rw [if_pos hi]; simp
    have e2 : stp 1 who j 0 0 n s = { s with clock := s.clock + 1, kind := 1, who := who, at' := (j : Int), old := s.f j, new := 0, done := true } := by unfold stp; rw [if_pos hi]; simp
    rw [e1, e2]
    clear e1 e2 hi
    have hfo := field_old
    go_enter Tryz.func43, Tryz.ntmps43
    go_wp2_with fail
    go_at_call 56; refine (access_load _ A cap c b n s who j H.out hj hn hl.clock).mono ?_; rintro e w1 ⟨rfl, hI, hB⟩
    go_wp2_with fail
    go_ret
    exact ⟨rfl, hI, hb.trans hB⟩
  · have e1 : ans 1 i 0 0 n s = 0 := by unfold ans; rw [if_neg hi]
    have e2 : stp 1 who i 0 0 n s = { s with clock := s.clock + 1, bad := s.bad + 1, kind := 1, who := who, at' := i, old := 0, new := 0, done := false } := by unfold stp; rw [if_neg hi]
    rw [e1, e2]
    clear e1 e2
    have HA : Hid _ := hi
    clear hi
    have hfo := field_old
    go_enter Tryz.func43, Tryz.ntmps43
    go_wp2_with fail
    go_at_call 56; refine (access_bad _ A cap c b n s 1 who i 0 _ H.out HA.out hn hl.clock hl.bad).mono ?_; rintro e w1 ⟨rfl, hI, hB⟩
    go_wp2_with fail
    go_ret
    exact ⟨rfl, hI, hb.trans hB⟩

theorem store_any (w : World) (A : Option Addr) (cap c b n : Nat) (s : St) (who i new : Int) (h : Is w 114 A cap c b n s) (hn : n ≤ 1000000) (hl : Low s 1000000) (hnb : 0 ≤ new ∧ new ≤ 18446744073709551615) :
    Calls Tryz.prog 40 #[.pointer (some ⟨c, 0, none⟩), .int .i64 who, .int .i64 i, .int .u64 new] w fun e w' => (∃ v, e = .returned v) ∧ Is w' 114 A cap c b n (stp 2 who i 0 new n s) ∧ But [c, b] w w' := by
  have hb : But [c, b] w (w.alloc (.cells #[.int .i64 2, .int .i64 who, .int .i64 i, .int .u64 0, .int .u64 new, .bool false] 48)) := (But.refl _ _).alloc _
  have H : Hid (Is (w.alloc (.cells #[.int .i64 2, .int .i64 who, .int .i64 i, .int .u64 0, .int .u64 new, .bool false] 48)) 114 A cap c b n s) := h.below ((Below.refl _ _).alloc (Nat.le_refl _) _)
  clear h
  by_cases hi : 0 ≤ i ∧ i < n
  · have HA : Hid _ := hi
    obtain ⟨j, rfl⟩ : ∃ j : Nat, i = (j : Int) := ⟨i.toNat, by omega⟩
    have hj : j < n := by omega
    have e2 : stp 2 who j 0 new n s = { s with f := upd s.f j new, clock := s.clock + 1, kind := 2, who := who, at' := (j : Int), old := s.f j, new := new, done := true } := by unfold stp; rw [if_pos hi]; simp
    rw [e2]
    clear e2 hi
    go_enter Tryz.func40, Tryz.ntmps40
    go_wp2_with fail
    go_at_call 56; refine (access_store _ A cap c b n s who j H.out hj hn hl.clock new hnb).mono ?_; rintro e w1 ⟨rfl, hI, hB⟩
    go_wp2_with fail
    go_end0
    exact ⟨⟨_, rfl⟩, hI, hb.trans hB⟩
  · have e2 : stp 2 who i 0 new n s = { s with clock := s.clock + 1, bad := s.bad + 1, kind := 2, who := who, at' := i, old := 0, new := new, done := false } := by unfold stp; rw [if_neg hi]
    rw [e2]
    clear e2
    have HA : Hid _ := hi
    clear hi
    go_enter Tryz.func40, Tryz.ntmps40
    go_wp2_with fail
    go_at_call 56; refine (access_bad _ A cap c b n s 2 who i new _ H.out HA.out hn hl.clock hl.bad).mono ?_; rintro e w1 ⟨rfl, hI, hB⟩
    go_wp2_with fail
    go_end0
    exact ⟨⟨_, rfl⟩, hI, hb.trans hB⟩

theorem swap_any (w : World) (A : Option Addr) (cap c b n : Nat) (s : St) (who i old new : Int) (h : Is w 114 A cap c b n s) (hn : n ≤ 1000000) (hl : Low s 1000000) (hnb : 0 ≤ new ∧ new ≤ 18446744073709551615) :
    Calls Tryz.prog 42 #[.pointer (some ⟨c, 0, none⟩), .int .i64 who, .int .i64 i, .int .u64 old, .int .u64 new] w fun e w' => e = .returned (.bool (decide (ans 3 i old new n s = 1))) ∧ Is w' 114 A cap c b n (stp 3 who i old new n s) ∧ But [c, b] w w' := by
  have hb : But [c, b] w ((w.alloc (.cells #[.int .u64 old] 41)).alloc (.cells #[.int .i64 3, .int .i64 who, .int .i64 i, .int .u64 0, .int .u64 new, .bool false] 48)) := ((But.refl _ _).alloc _).alloc _
  have hB : Below w.heap.size w ((w.alloc (.cells #[.int .u64 old] 41)).alloc (.cells #[.int .i64 3, .int .i64 who, .int .i64 i, .int .u64 0, .int .u64 new, .bool false] 48)) := ((Below.refl _ _).alloc (Nat.le_refl _) _).alloc (by simp) _
  have H : Hid (Is ((w.alloc (.cells #[.int .u64 old] 41)).alloc (.cells #[.int .i64 3, .int .i64 who, .int .i64 i, .int .u64 0, .int .u64 new, .bool false] 48)) 114 A cap c b n s) := h.below hB
  have hr : ((w.alloc (.cells #[.int .u64 old] 41)).alloc (.cells #[.int .i64 3, .int .i64 who, .int .i64 i, .int .u64 0, .int .u64 new, .bool false] 48)).cell? ⟨w.heap.size, 0, none⟩ = some (.int .u64 old) := by
    have h1 := heap_alloc2_old w (.cells #[.int .u64 old] 41) (.cells #[.int .i64 3, .int .i64 who, .int .i64 i, .int .u64 0, .int .u64 new, .bool false] 48)
    simp [World.cell?, h1]
  have HR : Hid _ := hr
  have hc := h.lt
  have hbn := h.blt
  clear h hB hr
  have hfd := field_done
  by_cases hi : 0 ≤ i ∧ i < n
  · have hne : w.heap.size ≠ c ∧ w.heap.size ≠ b := ⟨by omega, by have := hbn (by omega); omega⟩
    obtain ⟨j, rfl⟩ : ∃ j : Nat, i = (j : Int) := ⟨i.toNat, by omega⟩
    have hj : j < n := by omega
    by_cases hx : s.f j = old
    · have e1 : decide (ans 3 j old new n s = 1) = true := by unfold ans; rw [if_pos hi]; simp [hx]
      have e2 : stp 3 who j old new n s = { s with f := upd s.f j new, clock := s.clock + 1, kind := 3, who := who, at' := (j : Int), old := s.f j, new := new, done := true } := by unfold stp; rw [if_pos hi]; simp [hx]
      rw [e1, e2]
      clear e1 e2 hi hbn hc
      have hx' := hx.symm
      have HX : Hid _ := hx'
      clear hx hx'
      go_enter Tryz.func42, Tryz.ntmps42
      go_wp2_with fail
      go_at_call 56; refine (access_swap_done _ A cap c b n s who j H.out hj hn hl.clock new old w.heap.size hnb HR.out hne HX.out).mono ?_; rintro e w1 ⟨rfl, hI, hB⟩
      go_wp2_with fail
      go_ret
      exact ⟨rfl, hI, hb.trans hB⟩
    · have e1 : decide (ans 3 j old new n s = 1) = false := by unfold ans; rw [if_pos hi]; simp [hx]
      have e2 : stp 3 who j old new n s = { s with clock := s.clock + 1, kind := 3, who := who, at' := (j : Int), old := s.f j, new := new, done := false } := by unfold stp; rw [if_pos hi]; simp [hx]
      rw [e1, e2]
      clear e1 e2 hi hbn hc
      have HX : Hid _ := hx
      clear hx
      go_enter Tryz.func42, Tryz.ntmps42
      go_wp2_with fail
      go_at_call 56; refine (access_swap_not _ A cap c b n s who j H.out hj hn hl.clock new old w.heap.size hnb HR.out hne HX.out).mono ?_; rintro e w1 ⟨rfl, hI, hB⟩
      go_wp2_with fail
      go_ret
      exact ⟨rfl, hI, hb.trans hB⟩
  · have e1 : decide (ans 3 i old new n s = 1) = false := by unfold ans; rw [if_neg hi]; rfl
    have e2 : stp 3 who i old new n s = { s with clock := s.clock + 1, bad := s.bad + 1, kind := 3, who := who, at' := i, old := 0, new := new, done := false } := by unfold stp; rw [if_neg hi]
    rw [e1, e2]
    clear e1 e2 hbn hc
    have HA : Hid _ := hi
    clear hi
    go_enter Tryz.func42, Tryz.ntmps42
    go_wp2_with fail
    go_at_call 56; refine (access_bad _ A cap c b n s 3 who i new _ H.out HA.out hn hl.clock hl.bad).mono ?_; rintro e w1 ⟨rfl, hI, hB⟩
    go_wp2_with fail
    go_ret
    exact ⟨rfl, hI, hb.trans hB⟩
end Go.Proofs.YthjfbknmdligeaaGreat
