/- The machine that puts into a ring: how it begins, what it holds. -/
import Derived.Test.YtggbohakpkplkaaGreatLaw
import Derived.Test.YtggbohakpkplkaaGreatLock1
import Derived.Deep.RegionHeld3
import Derived.Test.YtggbohakpkplkaaGreatGg0
import Derived.Test.YtggbohakpkplkaaGreatRunD
import Derived.BigRegion
namespace Go.Proofs.YtggbohakpkplkaaGreat
open Go Go.RowKit
set_option linter.unusedVariables false
set_option maxRecDepth 100000
set_option linter.unusedSimpArgs false

theorem mny_any (h t : Int) (w : World) (hh : 0 ≤ h ∧ h ≤ 18446744073709551615) (ht : 0 ≤ t ∧ t ≤ 18446744073709551615) :
    Calls Tryz.prog 134 #[.int .u64 h, .int .u64 t] w fun e w' => e = .returned (.int .u64 ((t - h) % 4294967296)) ∧ w = w' := by
  have e1 : IntKind.u64.wrap (t - h) = (t - h) % 18446744073709551616 := by simp [IntKind.wrap, IntKind.bits, IntKind.signed]
  have hb : 0 ≤ (t - h) % 18446744073709551616 := Int.emod_nonneg _ (by omega)
  have e2 : Int.tmod ((t - h) % 18446744073709551616) 4294967296 = (t - h) % 4294967296 := by
    rw [Int.tmod_eq_emod_of_nonneg hb]
    omega
  have e3 : IntKind.u64.wrap ((t - h) % 4294967296) = (t - h) % 4294967296 := wrap_u64 (by omega)
  go_enter Tryz.func134, Tryz.ntmps134
  go_wp2_with fail
  go_ret
  first
    | exact ⟨rfl, rfl⟩
    | exact ⟨by rw [e1, e2, e3], rfl⟩
    | exact ⟨by rw [e1, e2], rfl⟩

theorem rmny_any (h t : Int) (w : World) (hh : 0 ≤ h ∧ h ≤ 18446744073709551615) (ht : 0 ≤ t ∧ t ≤ 18446744073709551615) :
    Calls Tryz.prog 61 #[.int .u64 h, .int .u64 t] w fun e w' => e = .returned (.int .u64 ((t - h) % 4294967296)) ∧ w = w' := by
  have e1 : Int.tmod h 4294967296 = h % 4294967296 := Int.tmod_eq_emod_of_nonneg hh.1
  have e2 : Int.tmod t 4294967296 = t % 4294967296 := Int.tmod_eq_emod_of_nonneg ht.1
  have e3 : IntKind.u64.wrap (h % 4294967296) = h % 4294967296 := wrap_u64 (by omega)
  have e4 : IntKind.u64.wrap (t % 4294967296) = t % 4294967296 := wrap_u64 (by omega)
  by_cases hlt : t % 4294967296 < h % 4294967296
  · have e5 : IntKind.u64.wrap (t % 4294967296 + 4294967296) = t % 4294967296 + 4294967296 := wrap_u64 (by omega)
    have e6 : IntKind.u64.wrap (t % 4294967296 + 4294967296 - h % 4294967296) = (t - h) % 4294967296 := by rw [wrap_u64 (by omega)]; omega
    go_enter Tryz.func61, Tryz.ntmps61
    go_wp2_with fail
    go_ret
    first
      | exact ⟨rfl, rfl⟩
      | exact ⟨by rw [← e6], rfl⟩
  · have d : decide (t % 4294967296 < h % 4294967296) = false := decide_eq_false hlt
    have e6 : IntKind.u64.wrap (t % 4294967296 - h % 4294967296) = (t - h) % 4294967296 := by rw [wrap_u64 (by omega)]; omega
    clear hlt
    go_enter Tryz.func61, Tryz.ntmps61
    go_wp2_with fail
    go_ret
    first
      | exact ⟨rfl, rfl⟩
      | exact ⟨by rw [← e6], rfl⟩

theorem lprc_any (o : Option Addr) (P T G n f : Int) (w : World) (h : LayO w P T G o) (hp : 0 ≤ P ∧ P ≤ 64) (hf : 0 ≤ f ∧ f < 8) : Calls Tryz.prog 133 #[.pointer o, .int .i64 n, .int .i64 f] w fun e w' => e = .returned (.int .i64 (wd 20 P 264 n f)) ∧ Below w.heap.size w w' := by
  have HL : Hid _ := h
  have d1 : decide (8 ≤ f) = false := decide_eq_false (by omega)
  clear h
  go_enter Tryz.func133, Tryz.ntmps133
  go_wp2_with fail
  go_at_call 129; refine (procs_any o P T G _ HL.out).mono ?_; rintro e w1 ⟨rfl, h1⟩
  go_wp2_with fail
  go_at_call 92; refine (word_any 20 P 264 n f _ (by omega) (by omega) (by omega)).mono ?_; rintro e w2 ⟨rfl, h2⟩
  have hb := seq h1 h2
  go_wp2_with fail
  go_ret
  exact ⟨rfl, hb⟩

theorem lrng_any (o : Option Addr) (P T G n i : Int) (w : World) (h : LayO w P T G o) (hp : 0 ≤ P ∧ P ≤ 64) (hi : 0 ≤ i ∧ i ≤ 18446744073709551615) : Calls Tryz.prog 135 #[.pointer o, .int .i64 n, .int .u64 i] w fun e w' => e = .returned (.int .i64 (wd 20 P 264 n (8 + i % 256))) ∧ Below w.heap.size w w' := by
  have HL : Hid _ := h
  have e1 : i.tmod 256 = i % 256 := Int.tmod_eq_emod_of_nonneg (by omega)
  generalize hz : i % 256 = z at *
  have e2 : IntKind.i64.wrap z = z := by simp [IntKind.wrap, IntKind.bits, IntKind.signed]; omega
  have e3 : IntKind.i64.wrap (8 + z) = 8 + z := by simp [IntKind.wrap, IntKind.bits, IntKind.signed]; omega
  have hzb : 0 ≤ z ∧ z < 256 := by omega
  clear h hz hi
  go_enter Tryz.func135, Tryz.ntmps135
  go_wp2_with fail
  go_at_call 129; refine (procs_any o P T G _ HL.out).mono ?_; rintro e w1 ⟨rfl, h1⟩
  go_wp2_with fail
  go_at_call 92; refine (word_any 20 P 264 n (8 + z) _ (by omega) (by omega) (by omega)).mono ?_; rintro e w2 ⟨rfl, h2⟩
  have hb := seq h1 h2
  go_wp2_with fail
  go_ret
  exact ⟨rfl, hb⟩


theorem rprc_any (p f : Int) (w : World) (hp : 0 ≤ p ∧ p ≤ 64) (hf : 0 ≤ f ∧ f < 8) : Calls Tryz.prog 107 #[.int .i64 p, .int .i64 f] w fun e w' => e = .returned (.int .i64 (20 + 264 * p + f)) ∧ w = w' := by
  go_enter Tryz.func107, Tryz.ntmps107
  go_wp2_with fail
  go_ret
  exact ⟨ret_int (by first | rfl | omega | (unfold wrap64; omega)), rfl⟩
theorem rprcAt_any (P T G p f : Int) (w : World) (hp : 0 ≤ p ∧ p < P) (hP : P ≤ 64) (hf : 0 ≤ f ∧ f < 8) :
    Calls Tryz.prog 58 #[.agg #[.int .i64 P, .int .i64 T, .int .i64 G], .int .i64 p, .int .i64 f] w fun e w' => e = .returned (.int .i64 (wd 20 P 264 p f)) ∧ Below w.heap.size w w' := by
  have hb : Below w.heap.size w (w.alloc (.cells #[.int .i64 P, .int .i64 T, .int .i64 G] 23)) := (Below.refl _ _).alloc (Nat.le_refl _) _
  have hT := rprc_any p f (w.alloc (.cells #[.int .i64 P, .int .i64 T, .int .i64 G] 23)) (by omega) hf
  have e : 20 + 264 * p + f = wd 20 P 264 p f := by unfold wd; rw [if_pos ⟨hp.1, hp.2, by omega, by omega⟩]; omega
  rw [e] at hT
  generalize wd 20 P 264 p f = nt at *
  clear e
  have d1 : decide (p < 0) = false := decide_eq_false (by omega)
  have d2 : decide (P ≤ p) = false := decide_eq_false (by omega)
  go_enter Tryz.func58, Tryz.ntmps58
  go_wp2_with fail
  go_at_call 107; refine hT.mono ?_; rintro e w1 ⟨rfl, rfl⟩
  go_wp2_with fail
  go_ret
  exact ⟨rfl, hb⟩

theorem rrng_any (p i : Int) (w : World) (hp : 0 ≤ p ∧ p ≤ 64) (hi : 0 ≤ i ∧ i ≤ 18446744073709551615) : Calls Tryz.prog 109 #[.int .i64 p, .int .u64 i] w fun e w' => e = .returned (.int .i64 (28 + 264 * p + i % 256)) ∧ w = w' := by
  have e1 : i.tmod 256 = i % 256 := Int.tmod_eq_emod_of_nonneg (by omega)
  generalize hz : i % 256 = z at *
  have e2 : IntKind.i64.wrap z = z := by simp [IntKind.wrap, IntKind.bits, IntKind.signed] <;> omega
  have hzb : 0 ≤ z ∧ z < 256 := by omega
  clear hz hi
  go_enter Tryz.func109, Tryz.ntmps109
  go_wp2_with fail
  go_ret
  exact ⟨ret_int (by first | rfl | omega | (unfold wrap64; omega)), rfl⟩
theorem rrngAt_any (P T G p i : Int) (w : World) (hp : 0 ≤ p ∧ p < P) (hP : P ≤ 64) (hi : 0 ≤ i ∧ i ≤ 18446744073709551615) :
    Calls Tryz.prog 63 #[.agg #[.int .i64 P, .int .i64 T, .int .i64 G], .int .i64 p, .int .u64 i] w fun e w' => e = .returned (.int .i64 (wd 20 P 264 p (8 + i % 256))) ∧ Below w.heap.size w w' := by
  have hb : Below w.heap.size w (w.alloc (.cells #[.int .i64 P, .int .i64 T, .int .i64 G] 23)) := (Below.refl _ _).alloc (Nat.le_refl _) _
  have hT := rrng_any p i (w.alloc (.cells #[.int .i64 P, .int .i64 T, .int .i64 G] 23)) (by omega) hi
  have e : 28 + 264 * p + i % 256 = wd 20 P 264 p (8 + i % 256) := by unfold wd; rw [if_pos ⟨hp.1, hp.2, by omega, by omega⟩]; omega
  rw [e] at hT
  generalize wd 20 P 264 p (8 + i % 256) = nt at *
  clear e
  have d1 : decide (p < 0) = false := decide_eq_false (by omega)
  have d2 : decide (P ≤ p) = false := decide_eq_false (by omega)
  go_enter Tryz.func63, Tryz.ntmps63
  go_wp2_with fail
  go_at_call 109; refine hT.mono ?_; rintro e w1 ⟨rfl, rfl⟩
  go_wp2_with fail
  go_ret
  exact ⟨rfl, hb⟩
end Go.Proofs.YtggbohakpkplkaaGreat

namespace Go.Proofs.YtggbohakpkplkaaGreat
open Go Go.RowKit
set_option linter.unusedVariables false
set_option maxRecDepth 100000
set_option linter.unusedSimpArgs false

def rpCells (who : Int) (nx : Option Addr) (cl : Nat) (p g : Int) (has : Bool) (nt hd tl : Int) (rest : List Value) : Array Value := (.int .i64 who :: .pointer nx :: .pointer (some ⟨cl, 0, none⟩) :: .int .i64 p :: .int .i64 g :: .bool has :: .int .u64 nt :: .int .u64 hd :: .int .u64 tl :: rest).toArray
def rpw (g : Int) : Int := IntKind.u64.wrap (IntKind.u64.wrap g + 1)
section
variable {who : Int} {nx : Option Addr} {cl : Nat} {p g : Int} {has : Bool} {nt hd tl : Int} {rest : List Value}
theorem rp_size : 2 ≤ (rpCells who nx cl p g has nt hd tl rest).size := by simp [rpCells]
theorem rp_c0 : (rpCells who nx cl p g has nt hd tl rest)[0]? = some (.int .i64 who) := by simp [rpCells]
theorem rp_c1 : (rpCells who nx cl p g has nt hd tl rest)[1]? = some (.pointer nx) := by simp [rpCells]
theorem rp_c2 : (rpCells who nx cl p g has nt hd tl rest)[2]? = some (.pointer (some ⟨cl, 0, none⟩)) := by simp [rpCells]
theorem rp_c3 : (rpCells who nx cl p g has nt hd tl rest)[3]? = some (.int .i64 p) := by simp [rpCells]
theorem rp_c4 : (rpCells who nx cl p g has nt hd tl rest)[4]? = some (.int .i64 g) := by simp [rpCells]
theorem rp_c5 : (rpCells who nx cl p g has nt hd tl rest)[5]? = some (.bool has) := by simp [rpCells]
theorem rp_c6 : (rpCells who nx cl p g has nt hd tl rest)[6]? = some (.int .u64 nt) := by simp [rpCells]
theorem rp_c7 : (rpCells who nx cl p g has nt hd tl rest)[7]? = some (.int .u64 hd) := by simp [rpCells]
theorem rp_c8 : (rpCells who nx cl p g has nt hd tl rest)[8]? = some (.int .u64 tl) := by simp [rpCells]
theorem rp_s1 (nx' : Option Addr) : (rpCells who nx cl p g has nt hd tl rest).setIfInBounds 1 (.pointer nx') = (rpCells who nx' cl p g has nt hd tl rest) := by simp [rpCells]
theorem rp_s4 (g' : Int) : (rpCells who nx cl p g has nt hd tl rest).setIfInBounds 4 (.int .i64 g') = (rpCells who nx cl p g' has nt hd tl rest) := by simp [rpCells]
theorem rp_s5 (h' : Bool) : (rpCells who nx cl p g has nt hd tl rest).setIfInBounds 5 (.bool h') = (rpCells who nx cl p g h' nt hd tl rest) := by simp [rpCells]
theorem rp_s6 (v' : Int) : (rpCells who nx cl p g has nt hd tl rest).setIfInBounds 6 (.int .u64 v') = (rpCells who nx cl p g has v' hd tl rest) := by simp [rpCells]
theorem rp_s7 (v' : Int) : (rpCells who nx cl p g has nt hd tl rest).setIfInBounds 7 (.int .u64 v') = (rpCells who nx cl p g has nt v' tl rest) := by simp [rpCells]
theorem rp_s8 (v' : Int) : (rpCells who nx cl p g has nt hd tl rest).setIfInBounds 8 (.int .u64 v') = (rpCells who nx cl p g has nt hd v' rest) := by simp [rpCells]
end
section
variable (w : World) (x cl : Nat) (who p g P T G nt hd tl : Int) (has : Bool) (rest : List Value) (nx : Option Addr) (hB : Blk w x (rpCells who nx cl p g has nt hd tl rest) 110) (hl : Lay w cl P T G) (hp : 0 ≤ P ∧ P ≤ 64)
include hB hl hp
theorem rp_proc (f : Int) (hf : 0 ≤ f ∧ f < 8) : Calls Tryz.prog 101 #[.pointer (some ⟨x, 0, none⟩), .int .i64 f] w fun e w' => e = .returned (.int .i64 (wd 20 P 264 p f)) ∧ Below w.heap.size w w' := by
  have c2 := hB.cell 2 rp_c2
  have c3 := hB.cell 3 rp_c3
  have hPr := lprc_any (some ⟨cl, 0, none⟩) P T G p f w.drew (.some cl (hl.below ((Below.refl _ _).drew) hl.lt)) hp hf
  have hD : Hid (Below w.heap.size w w.drew) := (Below.refl _ _).drew
  generalize wd 20 P 264 p f = at' at *
  clear hB hl hp hf
  go_enter Tryz.func101, Tryz.ntmps101
  go_wp2_with fail
  go_region_with (first | (go_at_call 133; refine hPr.mono ?_; rintro e w4 ⟨rfl, k⟩))
  all_goals
    have hF : Hid (Below w.heap.size w w4) := hD.out.trans (k.mono hD.out.size)
    clear hPr k c2 c3
    go_wp2_with fail
    go_ret
    exact ⟨rfl, hF.out⟩
omit hl hp in
theorem rp_word : Calls Tryz.prog 136 #[.pointer (some ⟨x, 0, none⟩)] w fun e w' => e = .returned (.int .u64 (rpw g)) ∧ w = w' := by
  have c4 := hB.cell 4 rp_c4
  clear hB
  go_enter Tryz.func136, Tryz.ntmps136
  go_wp2_with fail
  go_ret
  exact ⟨rfl, rfl⟩
theorem rp_lookNext : Calls Tryz.prog 52 #[.pointer (some ⟨x, 0, none⟩)] w fun e w' => (∃ v, e = .returned v) ∧ Came w w' x (rpCells who nx cl p g has nt hd tl rest) 110 (axLd (wd 20 P 264 p 3)) (.told 102) := by
  have hPr := rp_proc w.drew x cl who p g P T G nt hd tl has rest nx hB.drew (hl.below ((Below.refl _ _).drew) hl.lt) hp 3 (by omega)
  have HS : Hid (∀ w4, Below w.drew.heap.size w.drew w4 → Calls Tryz.prog 84 #[.pointer (some ⟨x, 0, none⟩), .int .i64 (wd 20 P 264 p 3), .func (.func 102) #[.pointer (some ⟨x, 0, none⟩)] #[]] w4 fun e w' => (∃ v, e = .returned v) ∧ Came w w' x (rpCells who nx cl p g has nt hd tl rest) 110 (axLd (wd 20 P 264 p 3)) (.told 102)) := by
    intro w4 k
    have h4 : Blk w4 x (rpCells who nx cl p g has nt hd tl rest) 110 := hB.drew.but (But.of_below (l := []) k) (by simp)
    refine (came_load w4 x _ 110 h4 rp_size _ _).mono ?_
    rintro e w5 ⟨hv, hC⟩
    exact ⟨hv, hC.before ((But.refl [x] w).drew.trans (But.of_below k))⟩
  generalize wd 20 P 264 p 3 = at' at *
  clear hB hl hp
  go_enter Tryz.func52, Tryz.ntmps52
  go_wp2_with fail
  go_region_with (first | (go_at_call 101; refine hPr.mono ?_; rintro e w4 ⟨rfl, k⟩) | (go_at_call 84; refine (HS.out _ k).mono ?_; rintro e w5 ⟨⟨v, rfl⟩, hC⟩))
  all_goals
    clear hPr k HS
    go_wp2_with fail
    go_end0
    exact ⟨⟨_, rfl⟩, hC⟩
theorem rp_lookHead : Calls Tryz.prog 53 #[.pointer (some ⟨x, 0, none⟩)] w fun e w' => (∃ v, e = .returned v) ∧ Came w w' x (rpCells who nx cl p g has nt hd tl rest) 110 (axLd (wd 20 P 264 p 1)) (.told 103) := by
  have hPr := rp_proc w.drew x cl who p g P T G nt hd tl has rest nx hB.drew (hl.below ((Below.refl _ _).drew) hl.lt) hp 1 (by omega)
  have HS : Hid (∀ w4, Below w.drew.heap.size w.drew w4 → Calls Tryz.prog 84 #[.pointer (some ⟨x, 0, none⟩), .int .i64 (wd 20 P 264 p 1), .func (.func 103) #[.pointer (some ⟨x, 0, none⟩)] #[]] w4 fun e w' => (∃ v, e = .returned v) ∧ Came w w' x (rpCells who nx cl p g has nt hd tl rest) 110 (axLd (wd 20 P 264 p 1)) (.told 103)) := by
    intro w4 k
    have h4 : Blk w4 x (rpCells who nx cl p g has nt hd tl rest) 110 := hB.drew.but (But.of_below (l := []) k) (by simp)
    refine (came_load w4 x _ 110 h4 rp_size _ _).mono ?_
    rintro e w5 ⟨hv, hC⟩
    exact ⟨hv, hC.before ((But.refl [x] w).drew.trans (But.of_below k))⟩
  generalize wd 20 P 264 p 1 = at' at *
  clear hB hl hp
  go_enter Tryz.func53, Tryz.ntmps53
  go_wp2_with fail
  go_region_with (first | (go_at_call 101; refine hPr.mono ?_; rintro e w4 ⟨rfl, k⟩) | (go_at_call 84; refine (HS.out _ k).mono ?_; rintro e w5 ⟨⟨v, rfl⟩, hC⟩))
  all_goals
    clear hPr k HS
    go_wp2_with fail
    go_end0
    exact ⟨⟨_, rfl⟩, hC⟩
theorem rp_lookTail (v : Int) (hxc : cl ≠ x) : Calls Tryz.prog 103 #[.pointer (some ⟨x, 0, none⟩), .int .u64 v] w fun e w' => (∃ v, e = .returned v) ∧ Came w w' x (rpCells who nx cl p g has nt v tl rest) 110 (axLd (wd 20 P 264 p 2)) (.told 138) := by
  have c7 := hB.cell 7 rp_c7
  have hlt := hB.lt
  have f7 := hB.fro 7
  have hB' : Blk (w.setCell ⟨x, 7, none⟩ (.int .u64 v)) x (rpCells who nx cl p g has nt v tl rest) 110 := by
    have := hB.set 7 (.int .u64 v)
    rw [rp_s7] at this
    exact this
  have hU : But [x] w (w.setCell ⟨x, 7, none⟩ (.int .u64 v)) := (But.refl _ w).set (g := x) (.inl (by simp)) 7 _
  have hl' : Lay (w.setCell ⟨x, 7, none⟩ (.int .u64 v)) cl P T G := (hU.block cl hl.lt (by simpa using hxc)).trans hl
  generalize hV : w.setCell ⟨x, 7, none⟩ (.int .u64 v) = V at hB' hU hl'
  have hPr := rp_proc V.drew x cl who p g P T G nt v tl has rest nx hB'.drew (hl'.below ((Below.refl _ _).drew) hl'.lt) hp 2 (by omega)
  have HS : Hid (∀ w4, Below V.drew.heap.size V.drew w4 → Calls Tryz.prog 84 #[.pointer (some ⟨x, 0, none⟩), .int .i64 (wd 20 P 264 p 2), .func (.func 138) #[.pointer (some ⟨x, 0, none⟩)] #[]] w4 fun e w' => (∃ v, e = .returned v) ∧ Came w w' x (rpCells who nx cl p g has nt v tl rest) 110 (axLd (wd 20 P 264 p 2)) (.told 138)) := by
    intro w4 k
    have h4 : Blk w4 x (rpCells who nx cl p g has nt v tl rest) 110 := hB'.drew.but (But.of_below (l := []) k) (by simp)
    refine (came_load w4 x _ 110 h4 rp_size _ _).mono ?_
    rintro e w5 ⟨hv, hC⟩
    exact ⟨hv, hC.before (hU.drew.trans (But.of_below k))⟩
  generalize wd 20 P 264 p 2 = at' at *
  clear hB hB' hU hl' hl hp hxc
  go_enter Tryz.func103, Tryz.ntmps103
  go_wp2_with fail
  try rw [hV]
  clear hV c7 f7
  go_region_with (first | (go_at_call 101; refine hPr.mono ?_; rintro e w4 ⟨rfl, k⟩) | (go_at_call 84; refine (HS.out _ k).mono ?_; rintro e w5 ⟨⟨v, rfl⟩, hC⟩))
  all_goals
    clear hPr k HS
    go_wp2_with fail
    go_end0
    exact ⟨⟨_, rfl⟩, hC⟩
set_option maxHeartbeats 2000000 in
theorem rp_replace (v : Int) (hxc : cl ≠ x) : Calls Tryz.prog 102 #[.pointer (some ⟨x, 0, none⟩), .int .u64 v] w fun e w' => (∃ v, e = .returned v) ∧ Came w w' x (rpCells who nx cl p g has v hd tl rest) 110 (axSw (wd 20 P 264 p 3) v (rpw g)) (.swap 137) := by
  have c6 := hB.cell 6 rp_c6
  have hlt := hB.lt
  have f6 := hB.fro 6
  have hB' : Blk (w.setCell ⟨x, 6, none⟩ (.int .u64 v)) x (rpCells who nx cl p g has v hd tl rest) 110 := by
    have := hB.set 6 (.int .u64 v)
    rw [rp_s6] at this
    exact this
  have hU : But [x] w (w.setCell ⟨x, 6, none⟩ (.int .u64 v)) := (But.refl _ w).set (g := x) (.inl (by simp)) 6 _
  have hl' : Lay (w.setCell ⟨x, 6, none⟩ (.int .u64 v)) cl P T G := (hU.block cl hl.lt (by simpa using hxc)).trans hl
  generalize hV : w.setCell ⟨x, 6, none⟩ (.int .u64 v) = V at hB' hU hl'
  have HPr : Hid (∀ Y, Below V.drew.heap.size V.drew Y → Calls Tryz.prog 101 #[.pointer (some ⟨x, 0, none⟩), .int .i64 3] Y fun e w' => e = .returned (.int .i64 (wd 20 P 264 p 3)) ∧ Below V.drew.heap.size V.drew w') := fun Y k => (rp_proc Y x cl who p g P T G v hd tl has rest nx (hB'.drew.but (But.of_below (l := []) k) (by simp)) (Lay.below (w := V.drew) hl' k hl'.lt) hp 3 (by omega)).mono fun e w' hh => ⟨hh.1, k.trans (hh.2.mono k.size)⟩
  have HW : Hid (∀ Y, Below V.drew.heap.size V.drew Y → Calls Tryz.prog 136 #[.pointer (some ⟨x, 0, none⟩)] Y fun e w' => e = .returned (.int .u64 (rpw g)) ∧ Y = w') := fun Y k => rp_word Y x cl who p g v hd tl has rest nx (hB'.drew.but (But.of_below (l := []) k) (by simp))
  have HS : Hid (∀ w4, Below V.drew.heap.size V.drew w4 → Calls Tryz.prog 126 #[.pointer (some ⟨x, 0, none⟩), .int .i64 (wd 20 P 264 p 3), .int .u64 v, .int .u64 (rpw g), .func (.func 137) #[.pointer (some ⟨x, 0, none⟩)] #[]] w4 fun e w' => (∃ v, e = .returned v) ∧ Came w w' x (rpCells who nx cl p g has v hd tl rest) 110 (axSw (wd 20 P 264 p 3) v (rpw g)) (.swap 137)) := by
    intro w4 k
    have h4 : Blk w4 x (rpCells who nx cl p g has v hd tl rest) 110 := hB'.drew.but (But.of_below (l := []) k) (by simp)
    refine (came_swap w4 x _ 110 h4 rp_size _ _ _ _).mono ?_
    rintro e w5 ⟨hv, hC⟩
    exact ⟨hv, hC.before (hU.drew.trans (But.of_below k))⟩
  have hD : Hid (Below V.drew.heap.size V.drew V.drew) := Below.refl _ _
  generalize wd 20 P 264 p 3 = at' at *
  generalize rpw g = gv at *
  clear hB hB' hU hl' hl hp hxc
  go_enter Tryz.func102, Tryz.ntmps102
  go_wp2_with fail
  try rw [hV]
  clear hV c6 f6
  go_region_with (first | (go_at_call 101; refine (HPr.out _ hD.out).mono ?_; rintro e w4 ⟨rfl, k⟩) | (go_at_call 136; refine (HW.out _ (by first | exact k | exact hD.out)).mono ?_; rintro e w6 ⟨rfl, rfl⟩) | (go_at_call 126; refine (HS.out _ k).mono ?_; rintro e w5 ⟨⟨v, rfl⟩, hC⟩))
  all_goals
    clear HPr HW k HS hD
    go_wp2_with fail
    go_end0
    exact ⟨⟨_, rfl⟩, hC⟩
theorem rp_replaced_no : Calls Tryz.prog 137 #[.pointer (some ⟨x, 0, none⟩), .bool false] w fun e w' => (∃ v, e = .returned v) ∧ Came w w' x (rpCells who nx cl p g has nt hd tl rest) 110 (axLd (wd 20 P 264 p 3)) (.told 102) := by
  have H := rp_lookNext w x cl who p g P T G nt hd tl has rest nx hB hl hp
  clear hB hl hp
  go_enter Tryz.func137, Tryz.ntmps137
  go_wp2_with fail
  go_at_call 52; refine H.mono ?_; rintro e w1 ⟨⟨v, rfl⟩, hC⟩
  clear H
  go_wp2_with fail
  go_end0
  exact ⟨⟨_, rfl⟩, hC⟩
omit hl hp in
theorem rp_replaced_none (h0 : nt = 0) : Calls Tryz.prog 137 #[.pointer (some ⟨x, 0, none⟩), .bool true] w fun e w' => (∃ v, e = .returned v) ∧ Blk w' x (rpCells who nx cl p g false nt hd tl rest) 110 ∧ But [x] w w' := by
  have c6 := hB.cell 6 rp_c6
  rw [h0] at c6
  have c5 := hB.cell 5 rp_c5
  have f5 := hB.fro 5
  have hlt := hB.lt
  have HF : Hid (Blk (w.setCell ⟨x, 5, none⟩ (.bool false)) x (rpCells who nx cl p g false nt hd tl rest) 110 ∧ But [x] w (w.setCell ⟨x, 5, none⟩ (.bool false))) := ⟨by
    have := hB.set 5 (.bool false)
    rw [rp_s5] at this
    exact this, (But.refl [x] w).set (g := x) (.inl (by simp)) 5 (.bool false)⟩
  clear hB
  go_enter Tryz.func137, Tryz.ntmps137
  go_wp2_with fail
  go_end0
  exact ⟨⟨_, rfl⟩, HF.out⟩
theorem rp_replaced_some (h0 : nt ≠ 0) (hxc : cl ≠ x) : Calls Tryz.prog 137 #[.pointer (some ⟨x, 0, none⟩), .bool true] w fun e w' => (∃ v, e = .returned v) ∧ Came w w' x (rpCells who nx cl p (gw nt) has nt hd tl rest) 110 (axLd (wd 20 P 264 p 1)) (.told 103) := by
  have hd0 : (nt == 0) = false := by simpa using h0
  have c6 := hB.cell 6 rp_c6
  have c4 := hB.cell 4 rp_c4
  obtain ⟨y, hy⟩ : ∃ y, IntKind.u64.wrap (nt - 1) = y := ⟨_, rfl⟩
  obtain ⟨gx, hgx⟩ : ∃ gx, IntKind.i64.wrap y = gx := ⟨_, rfl⟩
  have hgw : gw nt = gx := by unfold gw; rw [hy, hgx]
  rw [hgw]
  have hlt := hB.lt
  have f4 := hB.fro 4
  have hB' : Blk (w.setCell ⟨x, 4, none⟩ (.int .i64 gx)) x (rpCells who nx cl p gx has nt hd tl rest) 110 := by
    have := hB.set 4 (.int .i64 gx)
    rw [rp_s4] at this
    exact this
  have hU : But [x] w (w.setCell ⟨x, 4, none⟩ (.int .i64 gx)) := (But.refl _ w).set (g := x) (.inl (by simp)) 4 _
  have hl' : Lay (w.setCell ⟨x, 4, none⟩ (.int .i64 gx)) cl P T G := (hU.block cl hl.lt (by simpa using hxc)).trans hl
  generalize hV : w.setCell ⟨x, 4, none⟩ (.int .i64 gx) = V at hB' hU hl'
  have H := rp_lookHead V x cl who p gx P T G nt hd tl has rest nx hB' hl' hp
  have HU : Hid (But [x] w V) := hU
  clear hB hB' hl' hl hp hxc hU hgw
  go_enter Tryz.func137, Tryz.ntmps137
  go_wp2_with fail
  try rw [hV]
  clear hV c4 c6 f4
  go_at_call 53; refine H.mono ?_; rintro e w1 ⟨⟨v, rfl⟩, hC⟩
  have hCb := hC.before HU.out
  clear H hC
  go_wp2_with fail
  go_end0
  exact ⟨⟨_, rfl⟩, hCb⟩
omit hl hp in
theorem rp_leave : Calls Tryz.prog 176 #[.pointer (some ⟨x, 0, none⟩)] w fun e w' => (∃ v, e = .returned v) ∧ Blk w' x (rpCells who nx cl p g false nt hd tl rest) 110 ∧ But [x] w w' := by
  have c5 := hB.cell 5 rp_c5
  have f5 := hB.fro 5
  have hlt := hB.lt
  have HF : Hid (Blk (w.setCell ⟨x, 5, none⟩ (.bool false)) x (rpCells who nx cl p g false nt hd tl rest) 110 ∧ But [x] w (w.setCell ⟨x, 5, none⟩ (.bool false))) := ⟨by
    have := hB.set 5 (.bool false)
    rw [rp_s5] at this
    exact this, (But.refl [x] w).set (g := x) (.inl (by simp)) 5 (.bool false)⟩
  clear hB
  go_enter Tryz.func176, Tryz.ntmps176
  go_wp2_with fail
  go_end0
  exact ⟨⟨_, rfl⟩, HF.out⟩
end
end Go.Proofs.YtggbohakpkplkaaGreat

namespace Go.Proofs.YtggbohakpkplkaaGreat
open Go Go.RowKit
set_option linter.unusedVariables false
set_option maxRecDepth 100000
set_option linter.unusedSimpArgs false

/-- The cells behind Tail: what is given, how many are loaded, what puts them. -/
def rpRest (gv : List Int) (ld : Int) (qu : Option Addr) : List Value := gv.map (Value.int .i64) ++ [.int .i64 ld, .pointer qu]
section
variable {who : Int} {nx : Option Addr} {cl : Nat} {p g : Int} {has : Bool} {nt hd tl : Int} {gv : List Int} {ld : Int} {qu : Option Addr} (h : gv.length = 128)
include h
theorem rp_c137 : (rpCells who nx cl p g has nt hd tl (rpRest gv ld qu))[137]? = some (.int .i64 ld) := by
  unfold rpCells
  rw [List.getElem?_toArray]
  show (rpRest gv ld qu)[128]? = _
  unfold rpRest
  rw [List.getElem?_append_right (by simp [h])]
  simp [h]
theorem rp_c138 : (rpCells who nx cl p g has nt hd tl (rpRest gv ld qu))[138]? = some (.pointer qu) := by
  unfold rpCells
  rw [List.getElem?_toArray]
  show (rpRest gv ld qu)[129]? = _
  unfold rpRest
  rw [List.getElem?_append_right (by simp [h])]
  simp [h]
theorem rp_given (k : Nat) (hk : k < 128) : (rpCells who nx cl p g has nt hd tl (rpRest gv ld qu))[9 + k]? = some (.int .i64 (gv.getD k 0)) := by
  unfold rpCells
  rw [List.getElem?_toArray, Nat.add_comm]
  show (rpRest gv ld qu)[k]? = _
  unfold rpRest
  rw [List.getElem?_append_left (by simp [h]; omega), List.getElem?_map, List.getElem?_eq_getElem (by omega), List.getD_eq_getElem?_getD, List.getElem?_eq_getElem (by omega)]
  rfl
theorem rp_s137 (l' : Int) : (rpCells who nx cl p g has nt hd tl (rpRest gv ld qu)).setIfInBounds 137 (.int .i64 l') = (rpCells who nx cl p g has nt hd tl (rpRest gv l' qu)) := by
  unfold rpCells
  rw [List.setIfInBounds_toArray]
  congr 1
  show _ :: _ :: _ :: _ :: _ :: _ :: _ :: _ :: _ :: (rpRest gv ld qu).set 128 _ = _
  unfold rpRest
  rw [List.set_append_right _ _ (by simp [h])]
  simp [h]
theorem rp_s138 (q' : Option Addr) : (rpCells who nx cl p g has nt hd tl (rpRest gv ld qu)).setIfInBounds 138 (.pointer q') = (rpCells who nx cl p g has nt hd tl (rpRest gv ld q')) := by
  unfold rpCells
  rw [List.setIfInBounds_toArray]
  congr 1
  show _ :: _ :: _ :: _ :: _ :: _ :: _ :: _ :: _ :: (rpRest gv ld qu).set 129 _ = _
  unfold rpRest
  rw [List.set_append_right _ _ (by simp [h])]
  simp [h]
theorem rp_sgiven (k : Nat) (hk : k < 128) (v : Int) : (rpCells who nx cl p g has nt hd tl (rpRest gv ld qu)).setIfInBounds (9 + k) (.int .i64 v) = (rpCells who nx cl p g has nt hd tl (rpRest (gv.set k v) ld qu)) := by
  unfold rpCells
  rw [List.setIfInBounds_toArray, Nat.add_comm 9 k]
  congr 1
  show _ :: _ :: _ :: _ :: _ :: _ :: _ :: _ :: _ :: (rpRest gv ld qu).set k _ = _
  unfold rpRest
  rw [List.set_append_left _ _ (by simp [h]; omega), List.map_set]
end
section
variable (w : World) (x cl : Nat) (who p g P T G nt hd tl : Int) (has : Bool) (gv : List Int) (ld : Int) (qu nx : Option Addr) (hB : Blk w x (rpCells who nx cl p g has nt hd tl (rpRest gv ld qu)) 110) (hl : Lay w cl P T G) (hp : 0 ≤ P ∧ P ≤ 64)
include hB hl hp
set_option maxHeartbeats 2000000 in
theorem rp_lengthen (htb : 0 ≤ tl ∧ tl ≤ 18446744073709551615) : Calls Tryz.prog 157 #[.pointer (some ⟨x, 0, none⟩)] w fun e w' => (∃ v, e = .returned v) ∧ Came w w' x (rpCells who nx cl p g has nt hd tl (rpRest gv ld qu)) 110 (axSt (wd 20 P 264 p 2) ((tl + 1) % 4294967296)) (.untold 176) := by
  have c8 := hB.cell 8 rp_c8
  obtain ⟨a, ha⟩ : ∃ a, IntKind.u64.wrap (tl + 1) = a := ⟨_, rfl⟩
  have ha0 : 0 ≤ a ∧ a ≤ 18446744073709551615 := by rw [← ha]; simp [IntKind.wrap, IntKind.bits, IntKind.signed] <;> omega
  have e1 : a.tmod 4294967296 = (tl + 1) % 4294967296 := by
    rw [Int.tmod_eq_emod_of_nonneg ha0.1, ← ha]; simp [IntKind.wrap, IntKind.bits, IntKind.signed] <;> omega
  have e2 : IntKind.u64.wrap ((tl + 1) % 4294967296) = (tl + 1) % 4294967296 := wrap_u64 (by omega)
  have hPr := rp_proc w.drew x cl who p g P T G nt hd tl has (rpRest gv ld qu) nx hB.drew (hl.below ((Below.refl _ _).drew) hl.lt) hp 2 (by omega)
  generalize hh1 : (tl + 1) % 4294967296 = h1 at *
  have HS : Hid (∀ w4, Below w.drew.heap.size w.drew w4 → Calls Tryz.prog 147 #[.pointer (some ⟨x, 0, none⟩), .int .i64 (wd 20 P 264 p 2), .int .u64 h1, .func (.func 176) #[.pointer (some ⟨x, 0, none⟩)] #[]] w4 fun e w' => (∃ v, e = .returned v) ∧ Came w w' x (rpCells who nx cl p g has nt hd tl (rpRest gv ld qu)) 110 (axSt (wd 20 P 264 p 2) h1) (.untold 176)) := by
    intro w4 k
    have h4 : Blk w4 x (rpCells who nx cl p g has nt hd tl (rpRest gv ld qu)) 110 := hB.drew.but (But.of_below (l := []) k) (by simp)
    refine (came_store w4 x _ 110 h4 rp_size _ _ _).mono ?_
    rintro e w5 ⟨hv, hC⟩
    exact ⟨hv, hC.before ((But.refl [x] w).drew.trans (But.of_below k))⟩
  have hH : Hid (w.drew.cell? ⟨x, 8, none⟩ = some (.int .u64 tl)) := c8
  have KB : Hid (∀ w4, Below w.drew.heap.size w.drew w4 → w4.cell? ⟨x, 8, none⟩ = some (.int .u64 tl)) := fun w4 k => (hB.drew.but (But.of_below (l := []) k) (by simp)).cell 8 rp_c8
  generalize wd 20 P 264 p 2 = at' at *
  have KC : Hid (∀ w5, Came w w5 x (rpCells who nx cl p g has nt hd tl (rpRest gv ld qu)) 110 (axSt at' h1) (.untold 176) → w5.cell? ⟨x, 8, none⟩ = some (.int .u64 tl)) := fun w5 hC => by
    obtain ⟨q, Lc, g1, -⟩ := hC
    rw [rp_s1] at g1
    exact g1.cell 8 rp_c8
  clear hB hl hp hh1 ha0 htb
  go_enter Tryz.func157, Tryz.ntmps157
  go_wp2_with fail
  go_region_held3 (fun w' => w'.cell? ⟨x, 8, none⟩ = some (.int .u64 tl)) (first | exact hH.out | exact KB.out _ ‹_› | exact KC.out _ ‹_›) (first | (go_at_call 101; refine hPr.mono ?_; rintro e w4 ⟨rfl, k⟩) | (go_at_call 147; refine (HS.out _ ‹_›).mono ?_; rintro e w5 ⟨⟨v, rfl⟩, hC⟩))
  all_goals
    clear hPr k HS hH KB KC c8
    go_wp2_with fail
    go_end0
    exact ⟨⟨_, rfl⟩, hC⟩
set_option maxHeartbeats 4000000 in
theorem rp_choose_room (t : Int) (hxc : cl ≠ x) (ht : 0 ≤ t ∧ t ≤ 18446744073709551615) (hh : 0 ≤ hd ∧ hd ≤ 18446744073709551615) (hm : (t - hd) % 4294967296 < 256) : Calls Tryz.prog 138 #[.pointer (some ⟨x, 0, none⟩), .int .u64 t] w fun e w' => (∃ v, e = .returned v) ∧ Came w w' x (rpCells who nx cl p g has nt hd t (rpRest gv ld qu)) 110 (axSt (wd 20 P 264 p (8 + t % 256)) (rpw g)) (.untold 157) := by
  have c8 := hB.cell 8 rp_c8
  have hlt := hB.lt
  have f8 := hB.fro 8
  have hB' : Blk (w.setCell ⟨x, 8, none⟩ (.int .u64 t)) x (rpCells who nx cl p g has nt hd t (rpRest gv ld qu)) 110 := by
    have := hB.set 8 (.int .u64 t)
    rw [rp_s8] at this
    exact this
  have hU : But [x] w (w.setCell ⟨x, 8, none⟩ (.int .u64 t)) := (But.refl _ w).set (g := x) (.inl (by simp)) 8 _
  have hl' : Lay (w.setCell ⟨x, 8, none⟩ (.int .u64 t)) cl P T G := (hU.block cl hl.lt (by simpa using hxc)).trans hl
  generalize hV : w.setCell ⟨x, 8, none⟩ (.int .u64 t) = V at hB' hU hl'
  have c2 := hB'.cell 2 rp_c2
  have c3 := hB'.cell 3 rp_c3
  have c7 := hB'.cell 7 rp_c7
  have hM := fun w => mny_any hd t w hh ht
  have hd1 : decide ((t - hd) % 4294967296 < 256) = true := decide_eq_true hm
  have HRG : Hid (∀ Y, Below V.drew.heap.size V.drew Y → Calls Tryz.prog 135 #[.pointer (some ⟨cl, 0, none⟩), .int .i64 p, .int .u64 t] Y fun e w' => e = .returned (.int .i64 (wd 20 P 264 p (8 + t % 256))) ∧ Below V.drew.heap.size V.drew w') := fun Y k => (lrng_any (some ⟨cl, 0, none⟩) P T G p t Y (.some cl (Lay.below (w := V.drew) hl' k hl'.lt)) hp ht).mono fun e w' hh => ⟨hh.1, k.trans (hh.2.mono k.size)⟩
  have HW : Hid (∀ Y, Below V.drew.heap.size V.drew Y → Calls Tryz.prog 136 #[.pointer (some ⟨x, 0, none⟩)] Y fun e w' => e = .returned (.int .u64 (rpw g)) ∧ Y = w') := fun Y k => rp_word Y x cl who p g nt hd t has (rpRest gv ld qu) nx (hB'.drew.but (But.of_below (l := []) k) (by simp))
  have HS : Hid (∀ w4, Below V.drew.heap.size V.drew w4 → Calls Tryz.prog 147 #[.pointer (some ⟨x, 0, none⟩), .int .i64 (wd 20 P 264 p (8 + t % 256)), .int .u64 (rpw g), .func (.func 157) #[.pointer (some ⟨x, 0, none⟩)] #[]] w4 fun e w' => (∃ v, e = .returned v) ∧ Came w w' x (rpCells who nx cl p g has nt hd t (rpRest gv ld qu)) 110 (axSt (wd 20 P 264 p (8 + t % 256)) (rpw g)) (.untold 157)) := by
    intro w4 k
    have h4 : Blk w4 x (rpCells who nx cl p g has nt hd t (rpRest gv ld qu)) 110 := hB'.drew.but (But.of_below (l := []) k) (by simp)
    refine (came_store w4 x _ 110 h4 rp_size _ _ _).mono ?_
    rintro e w5 ⟨hv, hC⟩
    exact ⟨hv, hC.before (hU.drew.trans (But.of_below k))⟩
  generalize wd 20 P 264 p (8 + t % 256) = at' at *
  generalize (t - hd) % 4294967296 = mm at *
  generalize rpw g = gw' at *
  have hD : Hid (Below V.drew.heap.size V.drew V.drew) := Below.refl _ _
  have hH : Hid (V.drew.cell? ⟨x, 2, none⟩ = some (.pointer (some ⟨cl, 0, none⟩)) ∧ V.drew.cell? ⟨x, 3, none⟩ = some (.int .i64 p)) := ⟨c2, c3⟩
  have KB : Hid (∀ w4, Below V.drew.heap.size V.drew w4 → w4.cell? ⟨x, 2, none⟩ = some (.pointer (some ⟨cl, 0, none⟩)) ∧ w4.cell? ⟨x, 3, none⟩ = some (.int .i64 p)) := fun w4 k => by
    have h4 : Blk w4 x (rpCells who nx cl p g has nt hd t (rpRest gv ld qu)) 110 := hB'.drew.but (But.of_below (l := []) k) (by simp)
    exact ⟨h4.cell 2 rp_c2, h4.cell 3 rp_c3⟩
  have KC : Hid (∀ w5, Came w w5 x (rpCells who nx cl p g has nt hd t (rpRest gv ld qu)) 110 (axSt at' gw') (.untold 157) → w5.cell? ⟨x, 2, none⟩ = some (.pointer (some ⟨cl, 0, none⟩)) ∧ w5.cell? ⟨x, 3, none⟩ = some (.int .i64 p)) := fun w5 hC => by
    obtain ⟨q, Lc, h1, -⟩ := hC
    rw [rp_s1] at h1
    exact ⟨h1.cell 2 rp_c2, h1.cell 3 rp_c3⟩
  clear hB hB' hU hl' hl hp hxc ht hh hm
  go_enter Tryz.func138, Tryz.ntmps138
  go_wp2_with fail
  try rw [hV]
  clear hV c8 f8
  go_at_call 134; refine (hM _).mono ?_; rintro e w1 ⟨rfl, rfl⟩
  clear hM c7
  go_wp2_with fail
  go_region_held3 (fun w' => w'.cell? ⟨x, 2, none⟩ = some (.pointer (some ⟨cl, 0, none⟩)) ∧ w'.cell? ⟨x, 3, none⟩ = some (.int .i64 p)) (first | exact hH.out | exact KB.out _ ‹_› | exact KC.out _ ‹_›) (first | (go_at_call 135; refine (HRG.out _ hD.out).mono ?_; rintro e w4 ⟨rfl, k⟩) | (go_at_call 136; refine (HW.out _ ‹_›).mono ?_; rintro e w6 ⟨rfl, rfl⟩) | (go_at_call 147; refine (HS.out _ ‹_›).mono ?_; rintro e w7 ⟨⟨v, rfl⟩, hC⟩))
  all_goals
    clear HRG HW HS c2 c3 hH KB KC hD
    go_wp2_with fail
    refine bodyPost_ret (results_none rfl _ _ _) rfl ?_
    exact ⟨⟨_, rfl⟩, hC⟩
set_option maxHeartbeats 4000000 in
theorem rp_gather_swap (h128 : ld = 128) (hg : gv.length = 128) (hh : 0 ≤ hd ∧ hd ≤ 18446744073709551615) : Calls Tryz.prog 158 #[.pointer (some ⟨x, 0, none⟩)] w fun e w' => (∃ v, e = .returned v) ∧ Came w w' x (rpCells who nx cl p g has nt hd tl (rpRest gv ld qu)) 110 (axSw (wd 20 P 264 p 1) hd ((hd + 128) % 4294967296)) (.swap 177) := by
  have c137 := hB.cell 137 (rp_c137 hg)
  rw [h128] at c137
  have c7 := hB.cell 7 rp_c7
  obtain ⟨a, ha⟩ : ∃ a, IntKind.u64.wrap (hd + 128) = a := ⟨_, rfl⟩
  have ha0 : 0 ≤ a ∧ a ≤ 18446744073709551615 := by rw [← ha]; simp [IntKind.wrap, IntKind.bits, IntKind.signed] <;> omega
  have e1 : a.tmod 4294967296 = (hd + 128) % 4294967296 := by
    rw [Int.tmod_eq_emod_of_nonneg ha0.1, ← ha]; simp [IntKind.wrap, IntKind.bits, IntKind.signed] <;> omega
  have e2 : IntKind.u64.wrap ((hd + 128) % 4294967296) = (hd + 128) % 4294967296 := wrap_u64 (by omega)
  have hPr := rp_proc w.drew x cl who p g P T G nt hd tl has (rpRest gv ld qu) nx hB.drew (hl.below ((Below.refl _ _).drew) hl.lt) hp 1 (by omega)
  generalize hh1 : (hd + 128) % 4294967296 = h1 at *
  have HS : Hid (∀ w4, Below w.drew.heap.size w.drew w4 → Calls Tryz.prog 126 #[.pointer (some ⟨x, 0, none⟩), .int .i64 (wd 20 P 264 p 1), .int .u64 hd, .int .u64 h1, .func (.func 177) #[.pointer (some ⟨x, 0, none⟩)] #[]] w4 fun e w' => (∃ v, e = .returned v) ∧ Came w w' x (rpCells who nx cl p g has nt hd tl (rpRest gv ld qu)) 110 (axSw (wd 20 P 264 p 1) hd h1) (.swap 177)) := by
    intro w4 k
    have h4 : Blk w4 x (rpCells who nx cl p g has nt hd tl (rpRest gv ld qu)) 110 := hB.drew.but (But.of_below (l := []) k) (by simp)
    refine (came_swap w4 x _ 110 h4 rp_size _ _ _ _).mono ?_
    rintro e w5 ⟨hv, hC⟩
    exact ⟨hv, hC.before ((But.refl [x] w).drew.trans (But.of_below k))⟩
  have hH : Hid (w.drew.cell? ⟨x, 7, none⟩ = some (.int .u64 hd)) := c7
  have KB : Hid (∀ w4, Below w.drew.heap.size w.drew w4 → w4.cell? ⟨x, 7, none⟩ = some (.int .u64 hd)) := fun w4 k => (hB.drew.but (But.of_below (l := []) k) (by simp)).cell 7 rp_c7
  generalize wd 20 P 264 p 1 = at' at *
  have KC : Hid (∀ w5, Came w w5 x (rpCells who nx cl p g has nt hd tl (rpRest gv ld qu)) 110 (axSw at' hd h1) (.swap 177) → w5.cell? ⟨x, 7, none⟩ = some (.int .u64 hd)) := fun w5 hC => by
    obtain ⟨q, Lc, g1, -⟩ := hC
    rw [rp_s1] at g1
    exact g1.cell 7 rp_c7
  clear hB hl hp hh1 ha0 hh h128 hg
  go_enter Tryz.func158, Tryz.ntmps158
  go_wp2_with fail
  go_region_held3 (fun w' => w'.cell? ⟨x, 7, none⟩ = some (.int .u64 hd)) (first | exact hH.out | exact KB.out _ ‹_› | exact KC.out _ ‹_›) (first | (go_at_call 101; refine hPr.mono ?_; rintro e w4 ⟨rfl, k⟩) | (go_at_call 126; refine (HS.out _ ‹_›).mono ?_; rintro e w5 ⟨⟨v, rfl⟩, hC⟩))
  all_goals
    clear hPr k HS hH KB KC c7 c137
    go_wp2_with fail
    refine bodyPost_ret (results_none rfl _ _ _) rfl ?_
    exact ⟨⟨_, rfl⟩, hC⟩
set_option maxHeartbeats 4000000 in
theorem rp_gather_load (k : Nat) (hk : k < 128) (hld : ld = k) (hg : gv.length = 128) : Calls Tryz.prog 158 #[.pointer (some ⟨x, 0, none⟩)] w fun e w' => (∃ v, e = .returned v) ∧ Came w w' x (rpCells who nx cl p g has nt hd tl (rpRest gv ld qu)) 110 (axLd (wd 20 P 264 p (8 + IntKind.u64.wrap (hd + k) % 256))) (.told 178) := by
  have c137 := hB.cell 137 (rp_c137 hg)
  subst hld
  have c2 := hB.cell 2 rp_c2
  have c3 := hB.cell 3 rp_c3
  have c7 := hB.cell 7 rp_c7
  obtain ⟨z, hz⟩ : ∃ z, IntKind.u64.wrap (hd + k) = z := ⟨_, rfl⟩
  have hzb : 0 ≤ z ∧ z ≤ 18446744073709551615 := by rw [← hz]; generalize hd + (k : Int) = y; simp [IntKind.wrap, IntKind.bits, IntKind.signed]; omega
  rw [hz]
  have e0 : IntKind.u64.wrap (k : Int) = (k : Int) := wrap_u64 (by omega)
  have hk1 : decide ((k : Int) = 128) = false := decide_eq_false (by omega)
  have hk2 : ((k : Int) == 128) = false := by rw [beq_eq_false_iff_ne]; omega
  have hPr := lrng_any (some ⟨cl, 0, none⟩) P T G p z w.drew (.some cl (hl.below ((Below.refl _ _).drew) hl.lt)) hp hzb
  have HS : Hid (∀ w4, Below w.drew.heap.size w.drew w4 → Calls Tryz.prog 84 #[.pointer (some ⟨x, 0, none⟩), .int .i64 (wd 20 P 264 p (8 + z % 256)), .func (.func 178) #[.pointer (some ⟨x, 0, none⟩)] #[]] w4 fun e w' => (∃ v, e = .returned v) ∧ Came w w' x (rpCells who nx cl p g has nt hd tl (rpRest gv k qu)) 110 (axLd (wd 20 P 264 p (8 + z % 256))) (.told 178)) := by
    intro w4 k
    have h4 := hB.drew.but (But.of_below (l := []) k) (by simp)
    refine (came_load w4 x _ 110 h4 rp_size _ _).mono ?_
    rintro e w5 ⟨hv, hC⟩
    exact ⟨hv, hC.before ((But.refl [x] w).drew.trans (But.of_below k))⟩
  generalize wd 20 P 264 p (8 + z % 256) = at' at *
  have hH : Hid (w.drew.cell? ⟨x, 2, none⟩ = some (.pointer (some ⟨cl, 0, none⟩)) ∧ w.drew.cell? ⟨x, 3, none⟩ = some (.int .i64 p) ∧ w.drew.cell? ⟨x, 7, none⟩ = some (.int .u64 hd) ∧ w.drew.cell? ⟨x, 137, none⟩ = some (.int .i64 k)) := ⟨c2, c3, c7, c137⟩
  have KB : Hid (∀ w4, Below w.drew.heap.size w.drew w4 → (w4.cell? ⟨x, 2, none⟩ = some (.pointer (some ⟨cl, 0, none⟩)) ∧ w4.cell? ⟨x, 3, none⟩ = some (.int .i64 p) ∧ w4.cell? ⟨x, 7, none⟩ = some (.int .u64 hd) ∧ w4.cell? ⟨x, 137, none⟩ = some (.int .i64 k))) := fun w4 k4 => by
    have h4 := hB.drew.but (But.of_below (l := []) k4) (by simp)
    exact ⟨h4.cell 2 rp_c2, h4.cell 3 rp_c3, h4.cell 7 rp_c7, h4.cell 137 (rp_c137 hg)⟩
  have KC : Hid (∀ w5, Came w w5 x (rpCells who nx cl p g has nt hd tl (rpRest gv k qu)) 110 (axLd at') (.told 178) → (w5.cell? ⟨x, 2, none⟩ = some (.pointer (some ⟨cl, 0, none⟩)) ∧ w5.cell? ⟨x, 3, none⟩ = some (.int .i64 p) ∧ w5.cell? ⟨x, 7, none⟩ = some (.int .u64 hd) ∧ w5.cell? ⟨x, 137, none⟩ = some (.int .i64 k))) := fun w5 hC => by
    obtain ⟨q, Lc, h1, -⟩ := hC
    rw [rp_s1] at h1
    exact ⟨h1.cell 2 rp_c2, h1.cell 3 rp_c3, h1.cell 7 rp_c7, h1.cell 137 (rp_c137 hg)⟩
  clear hB hl hp hg hzb
  go_enter Tryz.func158, Tryz.ntmps158
  go_wp2_with fail
  go_region_held3 (fun w' => w'.cell? ⟨x, 2, none⟩ = some (.pointer (some ⟨cl, 0, none⟩)) ∧ w'.cell? ⟨x, 3, none⟩ = some (.int .i64 p) ∧ w'.cell? ⟨x, 7, none⟩ = some (.int .u64 hd) ∧ w'.cell? ⟨x, 137, none⟩ = some (.int .i64 k)) (first | exact hH.out | exact KB.out _ ‹_› | exact KC.out _ ‹_›) (first | (go_at_call 135; refine hPr.mono ?_; rintro e w4 ⟨rfl, k4⟩) | (go_at_call 84; refine (HS.out _ ‹_›).mono ?_; rintro e w5 ⟨⟨v, rfl⟩, hC⟩))
  all_goals
    clear hPr k4 HS hH KB KC c2 c3 c7 c137
    go_wp2_with fail
    go_end0
    exact ⟨⟨_, rfl⟩, hC⟩
end
end Go.Proofs.YtggbohakpkplkaaGreat

namespace Go.Proofs.YtggbohakpkplkaaGreat
open Go Go.RowKit
set_option linter.unusedVariables false
set_option maxRecDepth 100000
set_option linter.unusedSimpArgs false

section
variable (w : World) (x cl : Nat) (who p g P T G nt hd tl : Int) (has : Bool) (gv : List Int) (ld : Int) (qu nx : Option Addr) (hB : Blk w x (rpCells who nx cl p g has nt hd tl (rpRest gv ld qu)) 110) (hl : Lay w cl P T G) (hp : 0 ≤ P ∧ P ≤ 64)
include hB hl hp
set_option maxHeartbeats 4000000 in
theorem rp_choose_full (t : Int) (hxc : cl ≠ x) (hg : gv.length = 128) (ht : 0 ≤ t ∧ t ≤ 18446744073709551615) (hh : 0 ≤ hd ∧ hd ≤ 18446744073709551615) (hm : ¬ (t - hd) % 4294967296 < 256) : Calls Tryz.prog 138 #[.pointer (some ⟨x, 0, none⟩), .int .u64 t] w fun e w' => (∃ v, e = .returned v) ∧ Came w w' x (rpCells who nx cl p g has nt hd t (rpRest gv 0 qu)) 110 (axLd (wd 20 P 264 p (8 + IntKind.u64.wrap (hd + 0) % 256))) (.told 178) := by
  have c8 := hB.cell 8 rp_c8
  have f8 := hB.fro 8
  have hlt := hB.lt
  have hB1 : Blk (w.setCell ⟨x, 8, none⟩ (.int .u64 t)) x (rpCells who nx cl p g has nt hd t (rpRest gv ld qu)) 110 := by
    have := hB.set 8 (.int .u64 t)
    rw [rp_s8] at this
    exact this
  have c7 := hB1.cell 7 rp_c7
  have c137 := hB1.cell 137 (rp_c137 hg)
  have f137 := hB1.fro 137
  have hB2 : Blk ((w.setCell ⟨x, 8, none⟩ (.int .u64 t)).setCell ⟨x, 137, none⟩ (.int .i64 0)) x (rpCells who nx cl p g has nt hd t (rpRest gv 0 qu)) 110 := by
    have := hB1.set 137 (.int .i64 0)
    rw [rp_s137 hg] at this
    exact this
  have hU : But [x] w ((w.setCell ⟨x, 8, none⟩ (.int .u64 t)).setCell ⟨x, 137, none⟩ (.int .i64 0)) := ((But.refl _ w).set (g := x) (.inl (by simp)) 8 _).set (g := x) (.inl (by simp)) 137 _
  have hl2 := (hU.block cl hl.lt (by simpa using hxc)).trans hl
  have H := rp_gather_load _ x cl who p g P T G nt hd t has gv 0 qu nx hB2 hl2 hp 0 (by omega) rfl hg
  have HU : Hid (But [x] w ((w.setCell ⟨x, 8, none⟩ (.int .u64 t)).setCell ⟨x, 137, none⟩ (.int .i64 0))) := hU
  have hM := fun w => mny_any hd t w hh ht
  have hd1 : decide ((t - hd) % 4294967296 < 256) = false := decide_eq_false hm
  generalize (t - hd) % 4294967296 = mm at *
  generalize hV : w.setCell ⟨x, 8, none⟩ (.int .u64 t) = V at *
  generalize hV2 : V.setCell ⟨x, 137, none⟩ (.int .i64 0) = V2 at *
  have hltV : x < V.heap.size := hB1.lt
  clear hB hB1 hB2 hU hl hl2 hp hxc ht hh hm
  go_enter Tryz.func138, Tryz.ntmps138
  go_wp2_with fail
  try rw [hV]
  go_at_call 134; refine (hM _).mono ?_; rintro e w1 ⟨rfl, rfl⟩
  clear hM
  go_wp2_with fail
  try rw [hV2]
  go_at_call 158; refine H.mono ?_; rintro e w1 ⟨⟨v, rfl⟩, hC⟩
  have hCb := hC.before HU.out
  clear H hC hV hV2 c7 c8 f8 c137 f137
  go_wp2_with fail
  go_end0
  exact ⟨⟨_, rfl⟩, hCb⟩
end
section
variable (w : World) (x cl : Nat) (who p g P T G nt hd tl : Int) (has : Bool) (gv : List Int) (k : Nat) (qu nx : Option Addr) (hB : Blk w x (rpCells who nx cl p g has nt hd tl (rpRest gv k qu)) 110) (hl : Lay w cl P T G) (hp : 0 ≤ P ∧ P ≤ 64) (hk : k < 128) (hg : gv.length = 128) (hxc : cl ≠ x)
include hB hl hp hk hg hxc
omit hp in
/-- The world in which one more is kept. -/
theorem rp_kept (v : Int) : Blk (((w.setCell ⟨x, 9 + k, none⟩ (.int .i64 (gw v))).drew).setCell ⟨x, 137, none⟩ (.int .i64 ((k + 1 : Nat) : Int))) x (rpCells who nx cl p g has nt hd tl (rpRest (gv.set k (gw v)) ((k + 1 : Nat) : Int) qu)) 110 ∧ But [x] w (((w.setCell ⟨x, 9 + k, none⟩ (.int .i64 (gw v))).drew).setCell ⟨x, 137, none⟩ (.int .i64 ((k + 1 : Nat) : Int))) ∧ Lay (((w.setCell ⟨x, 9 + k, none⟩ (.int .i64 (gw v))).drew).setCell ⟨x, 137, none⟩ (.int .i64 ((k + 1 : Nat) : Int))) cl P T G := by
  have hU : But [x] w (((w.setCell ⟨x, 9 + k, none⟩ (.int .i64 (gw v))).drew).setCell ⟨x, 137, none⟩ (.int .i64 ((k + 1 : Nat) : Int))) := ((But.refl _ w).set (g := x) (.inl (by simp)) (9 + k) _).drew.set (g := x) (.inl (by simp)) 137 _
  refine ⟨?_, hU, (hU.block cl hl.lt (by simpa using hxc)).trans hl⟩
  have h1 := hB.set (9 + k) (.int .i64 (gw v))
  rw [rp_sgiven hg k hk] at h1
  have h2 := h1.drew.set 137 (.int .i64 ((k + 1 : Nat) : Int))
  rw [rp_s137 (by rw [List.length_set]; exact hg)] at h2
  exact h2
set_option maxHeartbeats 4000000 in
theorem rp_keep_on (v : Int) (hk2 : k + 1 < 128) : Calls Tryz.prog 178 #[.pointer (some ⟨x, 0, none⟩), .int .u64 v] w fun e w' => (∃ v, e = .returned v) ∧ Came w w' x (rpCells who nx cl p g has nt hd tl (rpRest (gv.set k (gw v)) ((k + 1 : Nat) : Int) qu)) 110 (axLd (wd 20 P 264 p (8 + IntKind.u64.wrap (hd + ((k + 1 : Nat) : Int)) % 256))) (.told 178) := by
  obtain ⟨h1, h2, h3⟩ := rp_kept w x cl who p g P T G nt hd tl has gv k qu nx hB hl hk hg hxc v
  have H := rp_gather_load _ x cl who p g P T G nt hd tl has (gv.set k (gw v)) _ qu nx h1 h3 hp (k + 1) hk2 rfl (by rw [List.length_set]; exact hg)
  have HU : Hid (But [x] w (((w.setCell ⟨x, 9 + k, none⟩ (.int .i64 (gw v))).drew).setCell ⟨x, 137, none⟩ (.int .i64 ((k + 1 : Nat) : Int)))) := h2
  have c137 := hB.cell 137 (rp_c137 hg)
  have ck := hB.cell (9 + k) (rp_given hg k hk)
  have fk := hB.fro (9 + k)
  have hlt := hB.lt
  obtain ⟨y, hy⟩ : ∃ y, IntKind.u64.wrap (v - 1) = y := ⟨_, rfl⟩
  obtain ⟨gx, hgx⟩ : ∃ gx, IntKind.i64.wrap y = gx := ⟨_, rfl⟩
  have hgw : gw v = gx := by unfold gw; rw [hy, hgx]
  rw [hgw] at h1 h2 h3 H HU ⊢
  have hk0 : (0 : Int) ≤ (k : Int) := by omega
  have hk1 : (k : Int) < 128 := by omega
  have e5 : wrap64 ((k : Int) + 1) = (k : Int) + 1 := by unfold wrap64; omega
  have HB1 : Hid (Blk ((w.setCell ⟨x, 9 + k, none⟩ (.int .i64 gx)).drew) x (rpCells who nx cl p g has nt hd tl (rpRest (gv.set k gx) k qu)) 110) := by
    have h4 := hB.set (9 + k) (.int .i64 gx)
    rw [rp_sgiven hg k hk] at h4
    exact h4.drew
  have hg2 : Hid ((gv.set k gx).length = 128) := (by rw [List.length_set]; exact hg : (gv.set k gx).length = 128)
  have hcast : ((k + 1 : Nat) : Int) = (k : Int) + 1 := by omega
  rw [hcast] at H HU ⊢
  clear hB hl hp hg h1 h2 h3 hgw hxc
  go_enter Tryz.func178, Tryz.ntmps178
  go_wp2_with fail
  go_region
  generalize (w.setCell ⟨x, 9 + k, none⟩ (.int .i64 gx)).drew = V at *
  have d137 := HB1.out.cell 137 (rp_c137 hg2.out)
  have f137 := HB1.out.fro 137
  have hltV := HB1.out.lt
  clear c137 ck fk HB1 hlt
  go_wp2_with fail
  generalize V.setCell ⟨x, 137, none⟩ (.int .i64 ((k : Int) + 1)) = V2 at *
  go_at_call 158; refine H.mono ?_; rintro e w1 ⟨⟨v, rfl⟩, hC⟩
  have hCb := hC.before HU.out
  clear H hC d137 f137
  go_wp2_with fail
  go_end0
  exact ⟨⟨_, rfl⟩, hCb⟩
set_option maxHeartbeats 4000000 in
theorem rp_keep_all (v : Int) (hh : 0 ≤ hd ∧ hd ≤ 18446744073709551615) (hk2 : k + 1 = 128) : Calls Tryz.prog 178 #[.pointer (some ⟨x, 0, none⟩), .int .u64 v] w fun e w' => (∃ v, e = .returned v) ∧ Came w w' x (rpCells who nx cl p g has nt hd tl (rpRest (gv.set k (gw v)) ((k + 1 : Nat) : Int) qu)) 110 (axSw (wd 20 P 264 p 1) hd ((hd + 128) % 4294967296)) (.swap 177) := by
  obtain ⟨h1, h2, h3⟩ := rp_kept w x cl who p g P T G nt hd tl has gv k qu nx hB hl hk hg hxc v
  have H := rp_gather_swap _ x cl who p g P T G nt hd tl has (gv.set k (gw v)) _ qu nx h1 h3 hp (by omega) (by rw [List.length_set]; exact hg) hh
  have HU : Hid (But [x] w (((w.setCell ⟨x, 9 + k, none⟩ (.int .i64 (gw v))).drew).setCell ⟨x, 137, none⟩ (.int .i64 ((k + 1 : Nat) : Int)))) := h2
  have c137 := hB.cell 137 (rp_c137 hg)
  have ck := hB.cell (9 + k) (rp_given hg k hk)
  have fk := hB.fro (9 + k)
  have hlt := hB.lt
  obtain ⟨y, hy⟩ : ∃ y, IntKind.u64.wrap (v - 1) = y := ⟨_, rfl⟩
  obtain ⟨gx, hgx⟩ : ∃ gx, IntKind.i64.wrap y = gx := ⟨_, rfl⟩
  have hgw : gw v = gx := by unfold gw; rw [hy, hgx]
  rw [hgw] at h1 h2 h3 H HU ⊢
  have hk0 : (0 : Int) ≤ (k : Int) := by omega
  have hk1 : (k : Int) < 128 := by omega
  have e5 : wrap64 ((k : Int) + 1) = (k : Int) + 1 := by unfold wrap64; omega
  have HB1 : Hid (Blk ((w.setCell ⟨x, 9 + k, none⟩ (.int .i64 gx)).drew) x (rpCells who nx cl p g has nt hd tl (rpRest (gv.set k gx) k qu)) 110) := by
    have h4 := hB.set (9 + k) (.int .i64 gx)
    rw [rp_sgiven hg k hk] at h4
    exact h4.drew
  have hg2 : Hid ((gv.set k gx).length = 128) := (by rw [List.length_set]; exact hg : (gv.set k gx).length = 128)
  have hcast : ((k + 1 : Nat) : Int) = (k : Int) + 1 := by omega
  rw [hcast] at H HU ⊢
  clear hB hl hp hg h1 h2 h3 hgw hxc
  go_enter Tryz.func178, Tryz.ntmps178
  go_wp2_with fail
  go_region
  generalize (w.setCell ⟨x, 9 + k, none⟩ (.int .i64 gx)).drew = V at *
  have d137 := HB1.out.cell 137 (rp_c137 hg2.out)
  have f137 := HB1.out.fro 137
  have hltV := HB1.out.lt
  clear c137 ck fk HB1 hlt
  go_wp2_with fail
  generalize V.setCell ⟨x, 137, none⟩ (.int .i64 ((k : Int) + 1)) = V2 at *
  go_at_call 158; refine H.mono ?_; rintro e w1 ⟨⟨v, rfl⟩, hC⟩
  have hCb := hC.before HU.out
  clear H hC d137 f137
  go_wp2_with fail
  go_end0
  exact ⟨⟨_, rfl⟩, hCb⟩
end
end Go.Proofs.YtggbohakpkplkaaGreat

namespace Go.Proofs.YtggbohakpkplkaaGreat
open Go Go.RowKit
set_option linter.unusedVariables false
set_option maxRecDepth 100000
set_option linter.unusedSimpArgs false

/-- The cells of a machine that begins. -/
def rpZ (nx : Option Addr) (who p g : Int) (cl : Nat) : Array Value := rpCells who nx cl p g true 0 0 0 (rpRest (List.replicate 128 0) 0 none)
def RpNew (w : World) (cl : Nat) (who p g P : Int) (nxt : Bool) (e : Ending) (w' : World) : Prop := ∃ (x q : Nat) (Lc : List Nat), e = .returned (.pointer (some ⟨x, 0, none⟩)) ∧ Blk w' x (rpZ (some ⟨q, 0, none⟩) who p g cl) 110 ∧ Com w' x q (axLd (wd 20 P 264 p (if nxt = true then 3 else 1))) (if nxt = true then .told 102 else .told 103) Lc ∧ x ∉ Lc ∧ Below w.heap.size w w' ∧ (∀ k ∈ Lc, w.heap.size ≤ k) ∧ w.heap.size ≤ x
theorem rp_zero (who p g : Int) (cl : Nat) : (((Tryz.zeroCells110.setIfInBounds 2 (.pointer (some ⟨cl, 0, none⟩))).setIfInBounds 3 (.int .i64 p)).setIfInBounds 4 (.int .i64 g)).setIfInBounds 5 (.bool true) = rpZ none 0 p g cl := by kernel_rfl
theorem rp_zset (who p g : Int) (cl : Nat) (nx : Option Addr) (v : Value) : (rpZ nx 0 p g cl).setIfInBounds 0 (.int .i64 who) = rpZ nx who p g cl := by simp [rpZ, rpCells]
theorem rp_new_step (w : World) (cl : Nat) (who p g P T G : Int) (nxt : Bool) (hl : Lay w cl P T G) (hP : 0 ≤ P ∧ P ≤ 64) :
    Calls Tryz.prog 10 #[.pointer (some ⟨cl, 0, none⟩), .int .i64 who, .int .i64 p, .int .i64 g, .bool nxt] w fun e w' => RpNew w cl who p g P nxt e w' := by
  have hB : Blk (w.alloc (.cells (rpZ none 0 p g cl) 110)) w.heap.size (rpZ none 0 p g cl) 110 := Blk.new _ _ _
  have hb : Below w.heap.size w (w.alloc (.cells (rpZ none 0 p g cl) 110)) := (Below.refl _ _).alloc (Nat.le_refl _) _
  have hF := fof_any _ w.heap.size _ 110 who hB (by simp [rpZ, rpCells])
  have HH : Hid (Blk _ w.heap.size _ 110 ∧ Below w.heap.size w _) := ⟨hB, hb⟩
  have hsz := World.size_alloc w (.cells (rpZ none 0 p g cl) 110)
  have HLY : Hid (Lay w cl P T G) := hl
  clear hB hb hl
  go_enter Tryz.func10, Tryz.ntmps10
  go_wp2_with fail
  rw [rp_zero who p g cl]
  generalize w.alloc (.cells (rpZ none 0 p g cl) 110) = W at *
  go_at_call 51; refine hF.mono ?_; rintro e w3 ⟨⟨v, rfl⟩, hw3⟩
  have h3 : Blk w3 w.heap.size (rpZ none who p g cl) 110 := by
    rw [hw3]
    have := HH.out.1.set 0 (.int .i64 who)
    rw [rp_zset who p g cl none (.int .i64 0)] at this
    exact this
  have hb3 : Hid (Below w.heap.size w w3) := by rw [hw3]; exact HH.out.2.trans (((But.refl [w.heap.size] W).set (g := w.heap.size) (.inl (by simp)) 0 _).below (by simp) (by rw [hsz]; omega))
  have hlt := h3.lt
  cases nxt with
  | true =>
    have hL := rp_lookNext w3 w.heap.size cl who p g P T G 0 0 0 true (rpRest (List.replicate 128 0) 0 none) none h3 (HLY.out.below hb3.out HLY.out.lt) hP
    clear hF hw3 HH h3 HLY
    go_wp2_with fail
    go_at_call 52; refine hL.mono ?_; rintro e w2 ⟨⟨v2, rfl⟩, hC⟩
    obtain ⟨q, Lc, c1, c2, c3, c4⟩ := hC
    rw [rp_s1] at c1
    have hF : Hid (Below w.heap.size w w2 ∧ (∀ k ∈ Lc, w.heap.size ≤ k) ∧ w.heap.size ∉ Lc) := ⟨hb3.out.trans (c3.below (by simp) hb3.out.size), fun k hk => by have := c4 k hk; omega, fun hm => by have := c4 _ hm; omega⟩
    have HC : Hid (Blk w2 w.heap.size (rpZ (some ⟨q, 0, none⟩) who p g cl) 110 ∧ Com w2 w.heap.size q (axLd (wd 20 P 264 p 3)) (.told 102) Lc) := ⟨c1, c2⟩
    clear hL c1 c2 c3 c4
    go_wp2_with fail
    go_ret
    exact ⟨w.heap.size, q, Lc, rfl, HC.out.1, HC.out.2, hF.out.2.2, hF.out.1, hF.out.2.1, Nat.le_refl _⟩
  | false =>
    have hL := rp_lookHead w3 w.heap.size cl who p g P T G 0 0 0 true (rpRest (List.replicate 128 0) 0 none) none h3 (HLY.out.below hb3.out HLY.out.lt) hP
    clear hF hw3 HH h3 HLY
    go_wp2_with fail
    go_at_call 53; refine hL.mono ?_; rintro e w2 ⟨⟨v2, rfl⟩, hC⟩
    obtain ⟨q, Lc, c1, c2, c3, c4⟩ := hC
    rw [rp_s1] at c1
    have hF : Hid (Below w.heap.size w w2 ∧ (∀ k ∈ Lc, w.heap.size ≤ k) ∧ w.heap.size ∉ Lc) := ⟨hb3.out.trans (c3.below (by simp) hb3.out.size), fun k hk => by have := c4 k hk; omega, fun hm => by have := c4 _ hm; omega⟩
    have HC : Hid (Blk w2 w.heap.size (rpZ (some ⟨q, 0, none⟩) who p g cl) 110 ∧ Com w2 w.heap.size q (axLd (wd 20 P 264 p 1)) (.told 103) Lc) := ⟨c1, c2⟩
    clear hL c1 c2 c3 c4
    go_wp2_with fail
    go_ret
    exact ⟨w.heap.size, q, Lc, rfl, HC.out.1, HC.out.2, hF.out.2.2, hF.out.1, hF.out.2.1, Nat.le_refl _⟩
theorem rp_take_no (w : World) (x cl : Nat) (who p g P T G nt hd tl : Int) (has : Bool) (rest : List Value) (nx : Option Addr) (hB : Blk w x (rpCells who nx cl p g has nt hd tl rest) 110) (hl : Lay w cl P T G) (hp : 0 ≤ P ∧ P ≤ 64) :
    Calls Tryz.prog 177 #[.pointer (some ⟨x, 0, none⟩), .bool false] w fun e w' => (∃ v, e = .returned v) ∧ Came w w' x (rpCells who nx cl p g has nt hd tl rest) 110 (axLd (wd 20 P 264 p 1)) (.told 103) := by
  have H := rp_lookHead w x cl who p g P T G nt hd tl has rest nx hB hl hp
  clear hB hl hp
  go_enter Tryz.func177, Tryz.ntmps177
  go_wp2_with fail
  go_at_call 53; refine H.mono ?_; rintro e w1 ⟨⟨v, rfl⟩, hC⟩
  clear H
  go_wp2_with fail
  refine bodyPost_ret (results_none rfl _ _ _) rfl ?_
  exact ⟨⟨_, rfl⟩, hC⟩
theorem rp_moved (w : World) (x cl : Nat) (who p g nt hd tl : Int) (has : Bool) (gv : List Int) (ld : Int) (qu nx : Option Addr) (hB : Blk w x (rpCells who nx cl p g has nt hd tl (rpRest gv ld qu)) 110) (hg : gv.length = 128) :
    Calls Tryz.prog 14 #[.pointer (some ⟨x, 0, none⟩)] w fun e w' => e = .returned (.int .i64 (if qu.isNone = true then 0 else 129)) ∧ w = w' := by
  have c138 := hB.cell 138 (rp_c138 hg)
  clear hB
  cases qu with
  | none =>
    go_enter Tryz.func14, Tryz.ntmps14
    go_wp2_with fail
    go_ret
    exact ⟨rfl, rfl⟩
  | some a =>
    go_enter Tryz.func14, Tryz.ntmps14
    go_wp2_with fail
    go_ret
    exact ⟨rfl, rfl⟩
theorem rp_moved_nil (w : World) : Calls Tryz.prog 14 #[.pointer none] w fun e w' => e = .returned (.int .i64 0) ∧ w = w' := by
  go_enter Tryz.func14, Tryz.ntmps14
  go_wp2_with fail
  go_ret
  exact ⟨rfl, rfl⟩
theorem rp_holds_nil (w : World) : Calls Tryz.prog 16 #[.pointer none] w fun e w' => e = .returned (.slice none 0 0) ∧ w = w' := by
  go_enter Tryz.func16, Tryz.ntmps16
  go_wp2_with fail
  go_ret
  exact ⟨rfl, rfl⟩
end Go.Proofs.YtggbohakpkplkaaGreat
