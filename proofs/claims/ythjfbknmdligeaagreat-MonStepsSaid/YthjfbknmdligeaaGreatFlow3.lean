/- The contract of act, which does what comes next: the accesses. -/
import Derived.Test.YthjfbknmdligeaaGreatTwo
import Derived.Test.YthjfbknmdligeaaGreatFlow1
namespace Go.Proofs.YthjfbknmdligeaaGreat
open Go Go.RowKit
set_option linter.unusedVariables false
set_option maxRecDepth 100000
set_option linter.unusedSimpArgs false

/-- What an access of a chain answers. -/
def actA (k i old new : Int) (n : Nat) (s : St) : Int := if k = 2 then 0 else if k = 3 then ans 3 i old new n s else if k = 4 then ans 4 i 0 new n s else ans 1 i 0 0 n s
theorem ans_swap (i old new : Int) (n : Nat) (s : St) : ans 3 i old new n s = 0 ∨ ans 3 i old new n s = 1 := by
  unfold ans
  split
  · simp; by_cases h : s.f i.toNat = old <;> simp [h]
  · simp

/-- The world in which act does the access. -/
def actW (w : World) (q cm : Nat) (k ao i old new : Int) (d : Bool) : World := (w.alloc (.cells #[.pointer (some ⟨cm, 0, none⟩)] 29)).alloc (.cells #[.int .i64 k, .int .i64 ao, .int .i64 i, .int .u64 old, .int .u64 new, .bool d] 48)
theorem actW_below (w : World) (q cm : Nat) (k ao i old new : Int) (d : Bool) : Below w.heap.size w (actW w q cm k ao i old new d) := ((Below.refl _ _).alloc (Nat.le_refl _) _).alloc (by simp) _

theorem act_load (w : World) (A : Option Addr) (cp cm b n : Nat) (s : St) (q : Nat) (who ao i old new : Int) (d : Bool) (thn : Value) (asl asked : Bool) (h : Is w 114 A cp cm b n s) (hn : n ≤ 1000000) (hl : Low s 1000000) (hnb : 0 ≤ new ∧ new ≤ 18446744073709551615)
    (hq : Blk w q (comCells 1 ao i old new d .nilIface thn asl asked) 148) :
    Calls Tryz.prog 79 #[.pointer (some ⟨q, 0, none⟩), .int .i64 who, .pointer (some ⟨cm, 0, none⟩)] w fun e w' => e = .returned (.tuple #[.int .u64 (ans 1 i 0 0 n s), .bool true]) ∧ Is w' 114 A cp cm b n (stp 1 who i 0 0 n s) ∧ But [cm, b] w w' := by
  have c0 := hq.cell 0 (v := .int .i64 1) rfl
  have c1 := hq.cell 1 (v := .int .i64 ao) rfl
  have c2 := hq.cell 2 (v := .int .i64 i) rfl
  have c3 := hq.cell 3 (v := .int .u64 old) rfl
  have c4 := hq.cell 4 (v := .int .u64 new) rfl
  have c5 := hq.cell 5 (v := .bool d) rfl
  have c6 := hq.cell 6 (v := .nilIface) rfl
  have hlt := hq.lt
  have hI := h.below (actW_below w q cm 1 ao i old new d)
  have hW := actW_below w q cm 1 ao i old new d
  have HI : Hid _ := hI
  have HW : Hid _ := hW
  clear h hq hI hW
  go_enter Tryz.func79, Tryz.ntmps79
  go_wp2_with fail
  go_at_call 43; refine (load_any _ A cp cm b n s who i HI.out hn hl).mono ?_; rintro e w1 ⟨rfl, h1, h2⟩
  go_wp2_with fail
  go_returns
  exact ⟨rfl, h1, (But.of_below HW.out).trans h2⟩

theorem act_store (w : World) (A : Option Addr) (cp cm b n : Nat) (s : St) (q : Nat) (who ao i old new : Int) (d : Bool) (thn : Value) (asl asked : Bool) (h : Is w 114 A cp cm b n s) (hn : n ≤ 1000000) (hl : Low s 1000000) (hnb : 0 ≤ new ∧ new ≤ 18446744073709551615)
    (hq : Blk w q (comCells 2 ao i old new d .nilIface thn asl asked) 148) :
    Calls Tryz.prog 79 #[.pointer (some ⟨q, 0, none⟩), .int .i64 who, .pointer (some ⟨cm, 0, none⟩)] w fun e w' => e = .returned (.tuple #[.int .u64 (0), .bool true]) ∧ Is w' 114 A cp cm b n (stp 2 who i 0 new n s) ∧ But [cm, b] w w' := by
  have c0 := hq.cell 0 (v := .int .i64 2) rfl
  have c1 := hq.cell 1 (v := .int .i64 ao) rfl
  have c2 := hq.cell 2 (v := .int .i64 i) rfl
  have c3 := hq.cell 3 (v := .int .u64 old) rfl
  have c4 := hq.cell 4 (v := .int .u64 new) rfl
  have c5 := hq.cell 5 (v := .bool d) rfl
  have c6 := hq.cell 6 (v := .nilIface) rfl
  have hlt := hq.lt
  have hI := h.below (actW_below w q cm 2 ao i old new d)
  have hW := actW_below w q cm 2 ao i old new d
  have HI : Hid _ := hI
  have HW : Hid _ := hW
  clear h hq hI hW
  go_enter Tryz.func79, Tryz.ntmps79
  go_wp2_with fail
  go_at_call 40; refine (store_any _ A cp cm b n s who i new HI.out hn hl hnb).mono ?_; rintro e w1 ⟨⟨v, rfl⟩, h1, h2⟩
  go_wp2_with fail
  go_returns
  exact ⟨rfl, h1, (But.of_below HW.out).trans h2⟩

theorem act_swap (w : World) (A : Option Addr) (cp cm b n : Nat) (s : St) (q : Nat) (who ao i old new : Int) (d : Bool) (thn : Value) (asl asked : Bool) (h : Is w 114 A cp cm b n s) (hn : n ≤ 1000000) (hl : Low s 1000000) (hnb : 0 ≤ new ∧ new ≤ 18446744073709551615)
    (hq : Blk w q (comCells 3 ao i old new d .nilIface thn asl asked) 148) :
    Calls Tryz.prog 79 #[.pointer (some ⟨q, 0, none⟩), .int .i64 who, .pointer (some ⟨cm, 0, none⟩)] w fun e w' => e = .returned (.tuple #[.int .u64 (ans 3 i old new n s), .bool true]) ∧ Is w' 114 A cp cm b n (stp 3 who i old new n s) ∧ But [cm, b] w w' := by
  rcases ans_swap i old new n s with h0 | h0
  · rw [h0]
    have c0 := hq.cell 0 (v := .int .i64 3) rfl
    have c1 := hq.cell 1 (v := .int .i64 ao) rfl
    have c2 := hq.cell 2 (v := .int .i64 i) rfl
    have c3 := hq.cell 3 (v := .int .u64 old) rfl
    have c4 := hq.cell 4 (v := .int .u64 new) rfl
    have c5 := hq.cell 5 (v := .bool d) rfl
    have c6 := hq.cell 6 (v := .nilIface) rfl
    have hlt := hq.lt
    have hI := h.below (actW_below w q cm 3 ao i old new d)
    have hW := actW_below w q cm 3 ao i old new d
    have HI : Hid _ := hI
    have HW : Hid _ := hW
    clear h hq hI hW
    go_enter Tryz.func79, Tryz.ntmps79
    go_wp2_with fail
    go_at_call 42; refine (swap_any _ A cp cm b n s who i old new HI.out hn hl hnb).mono ?_; rintro e w1 ⟨rfl, h1, h2⟩
    rw [h0]
    rw [show decide ((0 : Int) = 1) = false by rfl]
    go_wp2_with fail
    go_returns
    exact ⟨rfl, h1, (But.of_below HW.out).trans h2⟩
  · rw [h0]
    have c0 := hq.cell 0 (v := .int .i64 3) rfl
    have c1 := hq.cell 1 (v := .int .i64 ao) rfl
    have c2 := hq.cell 2 (v := .int .i64 i) rfl
    have c3 := hq.cell 3 (v := .int .u64 old) rfl
    have c4 := hq.cell 4 (v := .int .u64 new) rfl
    have c5 := hq.cell 5 (v := .bool d) rfl
    have c6 := hq.cell 6 (v := .nilIface) rfl
    have hlt := hq.lt
    have hI := h.below (actW_below w q cm 3 ao i old new d)
    have hW := actW_below w q cm 3 ao i old new d
    have HI : Hid _ := hI
    have HW : Hid _ := hW
    clear h hq hI hW
    go_enter Tryz.func79, Tryz.ntmps79
    go_wp2_with fail
    go_at_call 42; refine (swap_any _ A cp cm b n s who i old new HI.out hn hl hnb).mono ?_; rintro e w1 ⟨rfl, h1, h2⟩
    rw [h0]
    rw [show decide ((1 : Int) = 1) = true by rfl]
    go_wp2_with fail
    go_returns
    exact ⟨rfl, h1, (But.of_below HW.out).trans h2⟩

theorem act_add (w : World) (A : Option Addr) (cp cm b n : Nat) (s : St) (q : Nat) (who ao i old new : Int) (d : Bool) (thn : Value) (asl asked : Bool) (h : Is w 114 A cp cm b n s) (hn : n ≤ 1000000) (hl : Low s 1000000) (hnb : 0 ≤ new ∧ new ≤ 18446744073709551615)
    (hq : Blk w q (comCells 4 ao i old new d .nilIface thn asl asked) 148) :
    Calls Tryz.prog 79 #[.pointer (some ⟨q, 0, none⟩), .int .i64 who, .pointer (some ⟨cm, 0, none⟩)] w fun e w' => e = .returned (.tuple #[.int .u64 (ans 4 i 0 new n s), .bool true]) ∧ Is w' 114 A cp cm b n (stp 4 who i 0 new n s) ∧ But [cm, b] w w' := by
  have c0 := hq.cell 0 (v := .int .i64 4) rfl
  have c1 := hq.cell 1 (v := .int .i64 ao) rfl
  have c2 := hq.cell 2 (v := .int .i64 i) rfl
  have c3 := hq.cell 3 (v := .int .u64 old) rfl
  have c4 := hq.cell 4 (v := .int .u64 new) rfl
  have c5 := hq.cell 5 (v := .bool d) rfl
  have c6 := hq.cell 6 (v := .nilIface) rfl
  have hlt := hq.lt
  have hI := h.below (actW_below w q cm 4 ao i old new d)
  have hW := actW_below w q cm 4 ao i old new d
  have HI : Hid _ := hI
  have HW : Hid _ := hW
  clear h hq hI hW
  go_enter Tryz.func79, Tryz.ntmps79
  go_wp2_with fail
  go_at_call 27; refine (add_any _ A cp cm b n s who i new HI.out hn hl hnb).mono ?_; rintro e w1 ⟨rfl, h1, h2⟩
  go_wp2_with fail
  go_returns
  exact ⟨rfl, h1, (But.of_below HW.out).trans h2⟩

theorem act_any (w : World) (A : Option Addr) (cp cm b n : Nat) (s : St) (q : Nat) (k who ao i old new : Int) (d : Bool) (thn : Value) (asl asked : Bool) (hk : 1 ≤ k ∧ k ≤ 4) (h : Is w 114 A cp cm b n s) (hn : n ≤ 1000000) (hl : Low s 1000000) (hnb : 0 ≤ new ∧ new ≤ 18446744073709551615)
    (hq : Blk w q (comCells k ao i old new d .nilIface thn asl asked) 148) :
    Calls Tryz.prog 79 #[.pointer (some ⟨q, 0, none⟩), .int .i64 who, .pointer (some ⟨cm, 0, none⟩)] w fun e w' => e = .returned (.tuple #[.int .u64 (actA k i old new n s), .bool true]) ∧ Is w' 114 A cp cm b n (actS k who i old new n s) ∧ But [cm, b] w w' := by
  obtain rfl | rfl | rfl | rfl : k = 1 ∨ k = 2 ∨ k = 3 ∨ k = 4 := by omega
  · exact act_load w A cp cm b n s q who ao i old new d thn asl asked h hn hl hnb hq
  · exact act_store w A cp cm b n s q who ao i old new d thn asl asked h hn hl hnb hq
  · exact act_swap w A cp cm b n s q who ao i old new d thn asl asked h hn hl hnb hq
  · exact act_add w A cp cm b n s q who ao i old new d thn asl asked h hn hl hnb hq
end Go.Proofs.YthjfbknmdligeaaGreat
