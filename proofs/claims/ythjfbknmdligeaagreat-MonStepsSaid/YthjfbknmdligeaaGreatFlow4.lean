/- The contracts of sleeps, sleep, and of act where it sleeps. -/
import Derived.Test.YthjfbknmdligeaaGreatFlow3
namespace Go.Proofs.YthjfbknmdligeaaGreat
open Go Go.RowKit
set_option linter.unusedVariables false
set_option maxRecDepth 100000
set_option linter.unusedSimpArgs false

theorem sleeps_any (w : World) (A : Option Addr) (cp cm b n : Nat) (s : St) (q : Nat) (k ao i old new : Int) (d : Bool) (thn : Value) (asl asked : Bool) (h : Is w 114 A cp cm b n s) (hn : n ≤ 1000000)
    (hq : Blk w q (comCells k ao i old new d .nilIface thn asl asked) 148) :
    Calls Tryz.prog 97 #[.pointer (some ⟨q, 0, none⟩), .pointer (some ⟨cm, 0, none⟩)] w fun e w' => e = .returned (.bool (asl && decide (peekT n s i = 0))) ∧ Below w.heap.size w w' := by
  have c2 := hq.cell 2 (v := .int .i64 i) rfl
  have c6 := hq.cell 6 (v := .nilIface) rfl
  have c8 := hq.cell 8 (v := .bool asl) rfl
  have hlt := hq.lt
  have hb : Below w.heap.size w (w.alloc (.cells #[.pointer (some ⟨cm, 0, none⟩)] 29)) := (Below.refl _ _).alloc (Nat.le_refl _) _
  have HP : Hid (∀ m, Calls Tryz.prog 26 #[.pointer (some ⟨cm, 0, none⟩), .int .i64 i] ((w.alloc (.cells #[.pointer (some ⟨cm, 0, none⟩)] 29)).drewN m) fun e w' => e = .returned (.tuple #[.int .u64 (peekT n s i), .bool (decide (0 ≤ i ∧ i < n))]) ∧ w' = (w.alloc (.cells #[.pointer (some ⟨cm, 0, none⟩)] 29)).drewN m) := fun m => (peek_any _ A cp cm b n s i (h.below (Below.drewN' hb m)) hn).mono fun _ _ h => ⟨h.1, h.2.symm⟩
  clear h hq
  cases asl
  · go_enter Tryz.func97, Tryz.ntmps97
    go_wp2_with fail
    go_quiet ((go_at_call 26; exact Calls.quiet_of_same (HP.out _)))
    go_wp2_with fail
    go_ret
    exact ⟨rfl, Below.drewN' hb _⟩
  · go_enter Tryz.func97, Tryz.ntmps97
    go_wp2_with fail
    go_quiet ((go_at_call 26; exact Calls.quiet_of_same (HP.out _)))
    go_wp2_with fail
    go_ret
    exact ⟨ret_bool (by by_cases h : peekT n s i = 0 <;> simp [h]), Below.drewN' hb _⟩

section
variable (w : World) (A : Option Addr) (cp cm b n : Nat) (s : St) (q : Nat) (k who ao i old new : Int) (d : Bool) (thn : Value) (asl asked : Bool) (h : Is w 114 A cp cm b n s) (hn : n ≤ 1000000)
    (hq : Blk w q (comCells k ao i old new d .nilIface thn asl asked) 148)
include h hn hq
theorem sleep_still (ha : asl = true) (h0 : peekT n s i = 0) :
    Calls Tryz.prog 91 #[.pointer (some ⟨q, 0, none⟩), .int .i64 who, .pointer (some ⟨cm, 0, none⟩)] w fun e w' => e = .returned (.tuple #[.int .u64 0, .bool false]) ∧ Below w.heap.size w w' := by
  have hS := sleeps_any w A cp cm b n s q k ao i old new d thn asl asked h hn hq
  rw [ha, h0] at hS
  rw [show (true && decide ((0 : Int) = 0)) = true from rfl] at hS
  clear h hq
  go_enter Tryz.func91, Tryz.ntmps91
  go_wp2_with fail
  go_at_call 97; refine hS.mono ?_; rintro e w1 ⟨rfl, h1⟩
  go_wp2_with fail
  go_returns
  exact ⟨rfl, h1⟩
theorem sleep_load (hl : Low s 1000000) (hqc : q ≠ cm) (hqb : q ≠ b) (h0 : (asl && decide (peekT n s i = 0)) = false) :
    Calls Tryz.prog 91 #[.pointer (some ⟨q, 0, none⟩), .int .i64 who, .pointer (some ⟨cm, 0, none⟩)] w fun e w' => e = .returned (.tuple #[.int .u64 (ans 1 i 0 0 n s), .bool (decide (ans 1 i 0 0 n s ≠ 0))]) ∧ Is w' 114 A cp cm b n (stp 1 who i 0 0 n s) ∧ Blk w' q (comCells k ao i old new d .nilIface thn (decide (ans 1 i 0 0 n s = 0)) asked) 148 ∧ But [cm, b, q] w w' := by
  have hS := sleeps_any w A cp cm b n s q k ao i old new d thn asl asked h hn hq
  rw [h0] at hS
  have H : Hid (Is w 114 A cp cm b n s) := h
  have HQ : Hid (Blk w q (comCells k ao i old new d .nilIface thn asl asked) 148) := hq
  clear h hq h0
  go_enter Tryz.func91, Tryz.ntmps91
  go_wp2_with fail
  go_at_call 97; refine hS.mono ?_; rintro e w1 ⟨rfl, h1⟩
  have HQ1 : Hid (Blk w1 q (comCells k ao i old new d .nilIface thn asl asked) 148) := HQ.out.but (But.of_below (l := []) h1) (by simp)
  have HI1 : Hid (Is w1 114 A cp cm b n s) := H.out.below h1
  have HB1 : Hid (Below w.heap.size w w1) := h1
  have c2 := HQ1.out.cell 2 (v := .int .i64 i) rfl
  clear h1 hS
  go_wp2_with fail
  go_at_call 43; refine (load_any _ A cp cm b n s who i HI1.out hn hl).mono ?_; rintro e w2 ⟨rfl, h2, h3⟩
  have HQ2 : Hid (Blk w2 q (comCells k ao i old new d .nilIface thn asl asked) 148) := HQ1.out.but h3 (by simp [hqc, hqb])
  have c8 := HQ2.out.cell 8 (v := .bool asl) rfl
  have f8 := HQ2.out.fro 8
  have HI2 : Hid _ := h2
  have HB2 : Hid (But [cm, b] w1 w2) := h3
  clear h2 h3 c2
  generalize hvv : ans 1 i 0 0 n s = v
  have HVV : Hid (ans 1 i 0 0 n s = v) := hvv
  clear hvv
  go_wp2_with fail
  go_returns
  rw [HVV.out]
  refine ⟨?_, ?_, ?_, ?_⟩
  · by_cases hv : v = 0 <;> simp [hv]
  · exact HI2.out.keep (by rw [size_set]; exact Nat.le_refl _) (heap_set_ne _ (Ne.symm hqc) _ _) (fun _ => heap_set_ne _ (Ne.symm hqb) _ _)
  · rw [show decide (v = 0) = (v == 0) from rfl]
    exact HQ2.out.set 8 (.bool (v == 0))
  · exact ((But.of_below HB1.out).trans (HB2.out.more (l' := [cm, b, q]) (by intro k _ hk; simp at hk ⊢; omega))).set (g := q) (.inl (by simp)) _ _

theorem act_still (hk : k = 0) (ha : asl = true) (h0 : peekT n s i = 0) :
    Calls Tryz.prog 79 #[.pointer (some ⟨q, 0, none⟩), .int .i64 who, .pointer (some ⟨cm, 0, none⟩)] w fun e w' => e = .returned (.tuple #[.int .u64 0, .bool false]) ∧ Below w.heap.size w w' := by
  subst hk
  have c0 := hq.cell 0 (v := .int .i64 0) rfl
  have c1 := hq.cell 1 (v := .int .i64 ao) rfl
  have c2 := hq.cell 2 (v := .int .i64 i) rfl
  have c3 := hq.cell 3 (v := .int .u64 old) rfl
  have c4 := hq.cell 4 (v := .int .u64 new) rfl
  have c5 := hq.cell 5 (v := .bool d) rfl
  have c6 := hq.cell 6 (v := .nilIface) rfl
  have hlt := hq.lt
  have HW : Hid (Below w.heap.size w (actW w q cm 0 ao i old new d)) := actW_below w q cm 0 ao i old new d
  have hS := sleep_still (actW w q cm 0 ao i old new d) A cp cm b n s q 0 who ao i old new d thn asl asked (h.below HW.out) hn (hq.but (But.of_below (l := []) HW.out) (by simp)) ha h0
  clear h hq
  go_enter Tryz.func79, Tryz.ntmps79
  go_wp2_with fail
  go_at_call 91; refine hS.mono ?_; rintro e w1 ⟨rfl, h1⟩
  have hB := HW.out.trans (h1.mono HW.out.size)
  clear hS h1
  go_wp2_with fail
  go_returns
  exact ⟨rfl, hB⟩
theorem act_sleep (hk : k = 0) (hl : Low s 1000000) (hqc : q ≠ cm) (hqb : q ≠ b) (h0 : (asl && decide (peekT n s i = 0)) = false) :
    Calls Tryz.prog 79 #[.pointer (some ⟨q, 0, none⟩), .int .i64 who, .pointer (some ⟨cm, 0, none⟩)] w fun e w' => e = .returned (.tuple #[.int .u64 (ans 1 i 0 0 n s), .bool (decide (ans 1 i 0 0 n s ≠ 0))]) ∧ Is w' 114 A cp cm b n (stp 1 who i 0 0 n s) ∧ Blk w' q (comCells k ao i old new d .nilIface thn (decide (ans 1 i 0 0 n s = 0)) asked) 148 ∧ But [cm, b, q] w w' := by
  subst hk
  have c0 := hq.cell 0 (v := .int .i64 0) rfl
  have c1 := hq.cell 1 (v := .int .i64 ao) rfl
  have c2 := hq.cell 2 (v := .int .i64 i) rfl
  have c3 := hq.cell 3 (v := .int .u64 old) rfl
  have c4 := hq.cell 4 (v := .int .u64 new) rfl
  have c5 := hq.cell 5 (v := .bool d) rfl
  have c6 := hq.cell 6 (v := .nilIface) rfl
  have hlt := hq.lt
  have HW : Hid (Below w.heap.size w (actW w q cm 0 ao i old new d)) := actW_below w q cm 0 ao i old new d
  have hS := sleep_load (actW w q cm 0 ao i old new d) A cp cm b n s q 0 who ao i old new d thn asl asked (h.below HW.out) hn (hq.but (But.of_below (l := []) HW.out) (by simp)) hl hqc hqb h0
  clear h hq h0
  generalize hz : decide (ans 1 i 0 0 n s ≠ 0) = z at hS ⊢
  clear hz
  go_enter Tryz.func79, Tryz.ntmps79
  go_wp2_with fail
  go_at_call 91; refine hS.mono ?_; rintro e w1 ⟨rfl, h1, h2, h3⟩
  have h4 := (But.of_below (l := [cm, b, q]) HW.out).trans h3
  clear hS h3
  go_wp2_with fail
  go_returns
  exact ⟨rfl, h1, h2, h4⟩
end
end Go.Proofs.YthjfbknmdligeaaGreat
