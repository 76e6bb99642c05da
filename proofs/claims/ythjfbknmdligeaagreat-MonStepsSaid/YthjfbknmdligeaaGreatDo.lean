/- The contract of the laws' helper Do: an act done by both memories. -/
import Derived.Test.YthjfbknmdligeaaGreatTwo
namespace Go.Proofs.YthjfbknmdligeaaGreat
open Go Go.RowKit
set_option linter.unusedVariables false
set_option maxRecDepth 100000
set_option linter.unusedSimpArgs false

set_option maxHeartbeats 1000000 in
theorem do_store (w : World) (A A' : Option Addr) (cap cap' c b c' b' n : Nat) (s : St) (who i old new : Int) (hn : n ≤ 1000000) (hl : Low s 1000000) (hnb : 0 ≤ new ∧ new ≤ 18446744073709551615) (h : Two w A A' cap cap' c b c' b' n s) :
    Calls Tryz.prog 11 #[.pointer (some ⟨c, 0, none⟩), .pointer (some ⟨c', 0, none⟩), .agg #[.int .i64 2, .int .i64 who, .int .i64 i, .int .u64 old, .int .u64 new]] w (Did w A A' cap cap' c b c' b' n (stp 2 who i 0 new n s)) := by
  have H : Hid (Two w A A' cap cap' c b c' b' n s) := h
  have hI : Hid (Is (w.alloc (.cells #[.int .i64 2, .int .i64 who, .int .i64 i, .int .u64 old, .int .u64 new] 43)) 114 A cap c b n s) := h.m.below ((Below.refl _ _).alloc (Nat.le_refl _) _)
  clear h
  go_enter Tryz.func11, Tryz.ntmps11
  go_wp2_with fail
  go_at_call 40; refine (store_any _ A cap c b n s who i new hI.out hn hl hnb).mono ?_; rintro e w1 ⟨⟨v, rfl⟩, hM, hB⟩
  have hH : Hid _ := half_of (k := 2) (who := who) (i := i) (old := old) (new := new) H.out hM hB
  clear hM hB hI H
  obtain ⟨d0, d1, d2, d3, d4⟩ := hH.out.act.cells
  go_wp2_with fail
  go_at_call 41; refine (rdo_store_any _ A' cap' c' b' n s who i 0 new hnb hn hl hH.out.r).mono ?_; rintro e w2 ⟨rfl, hR, hB2⟩
  obtain ⟨hT, hB3⟩ := hH.out.done hR hB2
  clear hR hB2 hH d0 d1 d2 d3 d4
  go_wp2_with fail
  go_ret
  exact ⟨rfl, hT, hB3⟩

set_option maxHeartbeats 1000000 in
theorem do_swap (w : World) (A A' : Option Addr) (cap cap' c b c' b' n : Nat) (s : St) (who i old new : Int) (hn : n ≤ 1000000) (hl : Low s 1000000) (hnb : 0 ≤ new ∧ new ≤ 18446744073709551615) (h : Two w A A' cap cap' c b c' b' n s) :
    Calls Tryz.prog 11 #[.pointer (some ⟨c, 0, none⟩), .pointer (some ⟨c', 0, none⟩), .agg #[.int .i64 3, .int .i64 who, .int .i64 i, .int .u64 old, .int .u64 new]] w (Did w A A' cap cap' c b c' b' n (stp 3 who i old new n s)) := by
  have H : Hid (Two w A A' cap cap' c b c' b' n s) := h
  have hI : Hid (Is (w.alloc (.cells #[.int .i64 3, .int .i64 who, .int .i64 i, .int .u64 old, .int .u64 new] 43)) 114 A cap c b n s) := h.m.below ((Below.refl _ _).alloc (Nat.le_refl _) _)
  clear h
  go_enter Tryz.func11, Tryz.ntmps11
  go_wp2_with fail
  go_at_call 42; refine (swap_any _ A cap c b n s who i old new hI.out hn hl hnb).mono ?_; rintro e w1 ⟨rfl, hM, hB⟩
  have hH : Hid _ := half_of (k := 3) (who := who) (i := i) (old := old) (new := new) H.out hM hB
  clear hM hB hI H
  obtain ⟨d0, d1, d2, d3, d4⟩ := hH.out.act.cells
  go_wp2_with fail
  go_at_call 41; refine (rdo_swap_any _ A' cap' c' b' n s who i old new hnb hn hl hH.out.r).mono ?_; rintro e w2 ⟨rfl, hR, hB2⟩
  obtain ⟨hT, hB3⟩ := hH.out.done hR hB2
  clear hR hB2 hH d0 d1 d2 d3 d4
  go_wp2_with fail
  go_ret
  exact ⟨ret_bool (by simp; rfl), hT, hB3⟩

set_option maxHeartbeats 1000000 in
theorem do_add (w : World) (A A' : Option Addr) (cap cap' c b c' b' n : Nat) (s : St) (who i old new : Int) (hn : n ≤ 1000000) (hl : Low s 1000000) (hnb : 0 ≤ new ∧ new ≤ 18446744073709551615) (h : Two w A A' cap cap' c b c' b' n s) :
    Calls Tryz.prog 11 #[.pointer (some ⟨c, 0, none⟩), .pointer (some ⟨c', 0, none⟩), .agg #[.int .i64 4, .int .i64 who, .int .i64 i, .int .u64 old, .int .u64 new]] w (Did w A A' cap cap' c b c' b' n (stp 4 who i 0 new n s)) := by
  have H : Hid (Two w A A' cap cap' c b c' b' n s) := h
  have hI : Hid (Is (w.alloc (.cells #[.int .i64 4, .int .i64 who, .int .i64 i, .int .u64 old, .int .u64 new] 43)) 114 A cap c b n s) := h.m.below ((Below.refl _ _).alloc (Nat.le_refl _) _)
  clear h
  go_enter Tryz.func11, Tryz.ntmps11
  go_wp2_with fail
  go_at_call 27; refine (add_any _ A cap c b n s who i new hI.out hn hl hnb).mono ?_; rintro e w1 ⟨rfl, hM, hB⟩
  have hH : Hid _ := half_of (k := 4) (who := who) (i := i) (old := old) (new := new) H.out hM hB
  clear hM hB hI H
  obtain ⟨d0, d1, d2, d3, d4⟩ := hH.out.act.cells
  go_wp2_with fail
  go_at_call 41; refine (rdo_add_any _ A' cap' c' b' n s who i 0 new hnb hn hl hH.out.r).mono ?_; rintro e w2 ⟨rfl, hR, hB2⟩
  obtain ⟨hT, hB3⟩ := hH.out.done hR hB2
  clear hR hB2 hH d0 d1 d2 d3 d4
  go_wp2_with fail
  go_ret
  exact ⟨ret_bool (by simp), hT, hB3⟩

set_option maxHeartbeats 1000000 in
theorem do_load (w : World) (A A' : Option Addr) (cap cap' c b c' b' n : Nat) (s : St) (k who i old new : Int) (h2 : (k == 2) = false) (h3 : (k == 3) = false) (h4 : (k == 4) = false) (hn : n ≤ 1000000) (hl : Low s 1000000) (hnb : 0 ≤ new ∧ new ≤ 18446744073709551615) (h : Two w A A' cap cap' c b c' b' n s) :
    Calls Tryz.prog 11 #[.pointer (some ⟨c, 0, none⟩), .pointer (some ⟨c', 0, none⟩), .agg #[.int .i64 k, .int .i64 who, .int .i64 i, .int .u64 old, .int .u64 new]] w (Did w A A' cap cap' c b c' b' n (stp 1 who i 0 0 n s)) := by
  have H : Hid (Two w A A' cap cap' c b c' b' n s) := h
  have hI : Hid (Is (w.alloc (.cells #[.int .i64 k, .int .i64 who, .int .i64 i, .int .u64 old, .int .u64 new] 43)) 114 A cap c b n s) := h.m.below ((Below.refl _ _).alloc (Nat.le_refl _) _)
  clear h
  go_enter Tryz.func11, Tryz.ntmps11
  go_wp2_with fail
  go_at_call 43; refine (load_any _ A cap c b n s who i hI.out hn hl).mono ?_; rintro e w1 ⟨rfl, hM, hB⟩
  have hH : Hid _ := half_of (k := k) (who := who) (i := i) (old := old) (new := new) H.out hM hB
  clear hM hB hI H
  obtain ⟨d0, d1, d2, d3, d4⟩ := hH.out.act.cells
  go_wp2_with fail
  go_at_call 41; refine (rdo_load_any _ A' cap' c' b' n s who i 0 hn hl hH.out.r).mono ?_; rintro e w2 ⟨rfl, hR, hB2⟩
  obtain ⟨hT, hB3⟩ := hH.out.done hR hB2
  clear hR hB2 hH d0 d1 d2 d3 d4
  go_wp2_with fail
  go_ret
  exact ⟨ret_bool (by simp), hT, hB3⟩

theorem do_any (w : World) (A A' : Option Addr) (cap cap' c b c' b' n : Nat) (s : St) (k who i old new : Int) (hn : n ≤ 1000000) (hl : Low s 1000000) (hnb : 0 ≤ new ∧ new ≤ 18446744073709551615) (h : Two w A A' cap cap' c b c' b' n s) :
    Calls Tryz.prog 11 #[.pointer (some ⟨c, 0, none⟩), .pointer (some ⟨c', 0, none⟩), .agg #[.int .i64 k, .int .i64 who, .int .i64 i, .int .u64 old, .int .u64 new]] w (Did w A A' cap cap' c b c' b' n (actS k who i old new n s)) := by
  unfold actS
  by_cases h2 : k = 2
  · subst h2; exact do_store w A A' cap cap' c b c' b' n s who i old new hn hl hnb h
  rw [if_neg h2]
  by_cases h3 : k = 3
  · subst h3; exact do_swap w A A' cap cap' c b c' b' n s who i old new hn hl hnb h
  rw [if_neg h3]
  by_cases h4 : k = 4
  · subst h4; exact do_add w A A' cap cap' c b c' b' n s who i old new hn hl hnb h
  rw [if_neg h4]
  exact do_load w A A' cap cap' c b c' b' n s k who i old new (by simpa using h2) (by simpa using h3) (by simpa using h4) hn hl hnb h
end Go.Proofs.YthjfbknmdligeaaGreat
