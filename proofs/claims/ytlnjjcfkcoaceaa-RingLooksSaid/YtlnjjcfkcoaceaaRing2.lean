/- Looking at a ring: what is made, what follows, and the steps. -/
import Derived.Test.YtlnjjcfkcoaceaaRing1
import Derived.Test.YtlnjjcfkcoaceaaLock3
namespace Go.Proofs.Ytlnjjcfkcoaceaa
open Go Go.RowKit
set_option linter.unusedVariables false
set_option maxRecDepth 100000
set_option linter.unusedSimpArgs false


theorem look_new (w : World) (cl : Nat) (P T G who p : Int) (hL : Lay w cl P T G) (hp : 0 ≤ P ∧ P ≤ 64) :
    Calls Try.prog 63 #[.pointer (some ⟨cl, 0, none⟩), .int .i64 who, .int .i64 p] w fun e w' => ∃ x q, e = .returned (.pointer (some ⟨x, 0, none⟩)) ∧ Blk w' x (lookCells who (some ⟨q, 0, none⟩) cl p 0 0 0 false) 184 ∧ Blk w' q (comCells 1 0 (wd 20 P 264 p 1) 0 0 false .nilIface (.func (.func 116) #[.pointer (some ⟨x, 0, none⟩)] #[]) false false) 199 ∧ Below w.heap.size w w' ∧ w.heap.size ≤ x ∧ x < q := by
  have hB := Blk.new w (lookCells 0 none cl p 0 0 0 false) 184
  have hF := fof_any _ w.heap.size _ 184 who hB (by simp [lookCells])
  have hb0 : Below w.heap.size w (w.alloc (.cells (lookCells 0 none cl p 0 0 0 false) 184)) := (Below.refl _ _).alloc (Nat.le_refl _) _
  have HL : Hid (Lay w cl P T G) := hL
  have hlt := hL.lt
  clear hL
  go_enter Try.func63, Try.ntmps63
  go_wp2_with fail
  go_at_call 70; refine hF.mono ?_; rintro e w3 ⟨⟨v, rfl⟩, hw3⟩
  have h3 : Blk w3 w.heap.size (lookCells who none cl p 0 0 0 false) 184 := by rw [hw3]; exact hB.set 0 _
  have hb3 : Below w.heap.size w w3 := by rw [hw3]; exact hb0.setCell (p := ⟨w.heap.size, 0, none⟩) (Nat.le_refl _) _
  have hL3 : Lay w3 cl P T G := HL.out.below hb3 hlt
  have hN := look_load w3 w.heap.size cl 116 P T G who p 0 0 0 1 none false #[.pointer (some ⟨w.heap.size, 0, none⟩)] #[] h3 hL3 hp (by omega)
  have hx3 := h3.lt
  clear hF hB hw3 hb0 HL hL3 h3
  go_wp2_with fail
  go_at_call 115; refine hN.mono ?_; rintro e w5 ⟨⟨v2, rfl⟩, q, hC⟩
  have h1 := hC.own
  have h2 := hC.com
  have hq := hC.fresh
  have hb5 : Below w.heap.size w w5 := hb3.trans (hC.but.below (by simp) hb3.size)
  clear hN hC
  go_wp2_with fail
  go_ret
  exact ⟨_, q, rfl, h1, h2, hb5, Nat.le_refl _, by omega⟩


theorem seeHead_any (w : World) (x cl : Nat) (P T G who p hd tl nt a : Int) (nx : Option Addr) (em : Bool) (h : Blk w x (lookCells who nx cl p hd tl nt em) 184) (hL : Lay w cl P T G) (hne : cl ≠ x) (hp : 0 ≤ P ∧ P ≤ 64) :
    Calls Try.prog 116 #[.pointer (some ⟨x, 0, none⟩), .int .u64 a] w fun e w' => (∃ v, e = .returned v) ∧ ∃ q, CameAt w w' x (lookCells who nx cl p a tl nt em) 184 (comCells 1 0 (wd 20 P 264 p 2) 0 0 false .nilIface (.func (.func 151) #[.pointer (some ⟨x, 0, none⟩)] #[]) false false) q := by
  have c := h.cell 4 (v := .int .u64 hd) rfl
  have f := h.fro 4
  have hs : Blk (w.setCell ⟨x, 4, none⟩ (.int .u64 a)) x (lookCells who nx cl p a tl nt em) 184 := h.set 4 (.int .u64 a)
  have hB : But [x] w (w.setCell ⟨x, 4, none⟩ (.int .u64 a)) := (But.refl _ w).set (g := x) (.inl (by simp)) 4 _
  have hL2 : Lay (w.setCell ⟨x, 4, none⟩ (.int .u64 a)) cl P T G := (heap_set_ne w hne _ _).trans hL
  have hN := look_load _ x cl 151 P T G who p a tl nt 2 nx em #[.pointer (some ⟨x, 0, none⟩)] #[] hs hL2 hp (by omega)
  have HB : Hid _ := hB
  clear h hL hs hL2 hB
  go_enter Try.func116, Try.ntmps116
  go_wp2_with fail
  go_at_call 115; refine hN.mono ?_; rintro e w5 ⟨⟨v2, rfl⟩, q, hC⟩
  have hC2 : CameAt w w5 x (lookCells who nx cl p a tl nt em) 184 (comCells 1 0 (wd 20 P 264 p 2) 0 0 false .nilIface (.func (.func 151) #[.pointer (some ⟨x, 0, none⟩)] #[]) false false) q := ⟨Nat.le_trans HB.out.size hC.fresh, hC.own, hC.com, HB.out.trans hC.but⟩
  clear hN hC c f HB
  go_wp2_with fail
  go_end0
  exact ⟨⟨_, rfl⟩, q, hC2⟩

theorem seeTail_any (w : World) (x cl : Nat) (P T G who p hd tl nt a : Int) (nx : Option Addr) (em : Bool) (h : Blk w x (lookCells who nx cl p hd tl nt em) 184) (hL : Lay w cl P T G) (hne : cl ≠ x) (hp : 0 ≤ P ∧ P ≤ 64) :
    Calls Try.prog 151 #[.pointer (some ⟨x, 0, none⟩), .int .u64 a] w fun e w' => (∃ v, e = .returned v) ∧ ∃ q, CameAt w w' x (lookCells who nx cl p hd a nt em) 184 (comCells 1 0 (wd 20 P 264 p 3) 0 0 false .nilIface (.func (.func 168) #[.pointer (some ⟨x, 0, none⟩)] #[]) false false) q := by
  have c := h.cell 5 (v := .int .u64 tl) rfl
  have f := h.fro 5
  have hs : Blk (w.setCell ⟨x, 5, none⟩ (.int .u64 a)) x (lookCells who nx cl p hd a nt em) 184 := h.set 5 (.int .u64 a)
  have hB : But [x] w (w.setCell ⟨x, 5, none⟩ (.int .u64 a)) := (But.refl _ w).set (g := x) (.inl (by simp)) 5 _
  have hL2 : Lay (w.setCell ⟨x, 5, none⟩ (.int .u64 a)) cl P T G := (heap_set_ne w hne _ _).trans hL
  have hN := look_load _ x cl 168 P T G who p hd a nt 3 nx em #[.pointer (some ⟨x, 0, none⟩)] #[] hs hL2 hp (by omega)
  have HB : Hid _ := hB
  clear h hL hs hL2 hB
  go_enter Try.func151, Try.ntmps151
  go_wp2_with fail
  go_at_call 115; refine hN.mono ?_; rintro e w5 ⟨⟨v2, rfl⟩, q, hC⟩
  have hC2 : CameAt w w5 x (lookCells who nx cl p hd a nt em) 184 (comCells 1 0 (wd 20 P 264 p 3) 0 0 false .nilIface (.func (.func 168) #[.pointer (some ⟨x, 0, none⟩)] #[]) false false) q := ⟨Nat.le_trans HB.out.size hC.fresh, hC.own, hC.com, HB.out.trans hC.but⟩
  clear hN hC c f HB
  go_wp2_with fail
  go_end0
  exact ⟨⟨_, rfl⟩, q, hC2⟩

theorem seeNext_any (w : World) (x cl : Nat) (P T G who p hd tl nt a : Int) (nx : Option Addr) (em : Bool) (h : Blk w x (lookCells who nx cl p hd tl nt em) 184) (hL : Lay w cl P T G) (hne : cl ≠ x) (hp : 0 ≤ P ∧ P ≤ 64) :
    Calls Try.prog 168 #[.pointer (some ⟨x, 0, none⟩), .int .u64 a] w fun e w' => (∃ v, e = .returned v) ∧ ∃ q, CameAt w w' x (lookCells who nx cl p hd tl a em) 184 (comCells 1 0 (wd 20 P 264 p 2) 0 0 false .nilIface (.func (.func 173) #[.pointer (some ⟨x, 0, none⟩)] #[]) false false) q := by
  have c := h.cell 6 (v := .int .u64 nt) rfl
  have f := h.fro 6
  have hs : Blk (w.setCell ⟨x, 6, none⟩ (.int .u64 a)) x (lookCells who nx cl p hd tl a em) 184 := h.set 6 (.int .u64 a)
  have hB : But [x] w (w.setCell ⟨x, 6, none⟩ (.int .u64 a)) := (But.refl _ w).set (g := x) (.inl (by simp)) 6 _
  have hL2 : Lay (w.setCell ⟨x, 6, none⟩ (.int .u64 a)) cl P T G := (heap_set_ne w hne _ _).trans hL
  have hN := look_load _ x cl 173 P T G who p hd tl a 2 nx em #[.pointer (some ⟨x, 0, none⟩)] #[] hs hL2 hp (by omega)
  have HB : Hid _ := hB
  clear h hL hs hL2 hB
  go_enter Try.func168, Try.ntmps168
  go_wp2_with fail
  go_at_call 115; refine hN.mono ?_; rintro e w5 ⟨⟨v2, rfl⟩, q, hC⟩
  have hC2 : CameAt w w5 x (lookCells who nx cl p hd tl a em) 184 (comCells 1 0 (wd 20 P 264 p 2) 0 0 false .nilIface (.func (.func 173) #[.pointer (some ⟨x, 0, none⟩)] #[]) false false) q := ⟨Nat.le_trans HB.out.size hC.fresh, hC.own, hC.com, HB.out.trans hC.but⟩
  clear hN hC c f HB
  go_wp2_with fail
  go_end0
  exact ⟨⟨_, rfl⟩, q, hC2⟩

theorem judge_any (w : World) (x cl : Nat) (who p hd tl nt a : Int) (nx : Option Addr) (em : Bool) (h : Blk w x (lookCells who nx cl p hd tl nt em) 184) :
    Calls Try.prog 173 #[.pointer (some ⟨x, 0, none⟩), .int .u64 a] w fun e w' => (∃ v, e = .returned v) ∧ Blk w' x (lookCells who nx cl p hd tl nt (decide (a = tl ∧ a = hd ∧ nt = 0))) 184 ∧ But [x] w w' := by
  have c4 := h.cell 4 (v := .int .u64 hd) rfl
  have c5 := h.cell 5 (v := .int .u64 tl) rfl
  have c6 := h.cell 6 (v := .int .u64 nt) rfl
  have c7 := h.cell 7 (v := .bool em) rfl
  have f7 := h.fro 7
  have H : ∀ z, Hid (Blk (w.setCell ⟨x, 7, none⟩ (.bool z)) x (lookCells who nx cl p hd tl nt z) 184 ∧ But [x] w (w.setCell ⟨x, 7, none⟩ (.bool z))) := fun z => ⟨h.set 7 (.bool z), (But.refl _ w).set (g := x) (.inl (by simp)) 7 _⟩
  have H2 : Hid (∀ z, z = decide (a = tl ∧ a = hd ∧ nt = 0) → Blk (w.setCell ⟨x, 7, none⟩ (.bool z)) x (lookCells who nx cl p hd tl nt (decide (a = tl ∧ a = hd ∧ nt = 0))) 184 ∧ But [x] w (w.setCell ⟨x, 7, none⟩ (.bool z))) := fun z e => by rw [← e]; exact (H z).out
  clear h H
  go_enter Try.func173, Try.ntmps173
  go_wp2_with fail
  all_goals
    go_end0
    exact ⟨⟨_, rfl⟩, H2.out _ (by rw [Bool.eq_iff_iff]; simp [*])⟩

end Go.Proofs.Ytlnjjcfkcoaceaa
