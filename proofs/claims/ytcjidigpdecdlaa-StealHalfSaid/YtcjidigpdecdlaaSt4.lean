/- The machine that steals: how many it chooses; how it begins. -/
import Derived.Test.YtcjidigpdecdlaaSt3
namespace Go.Proofs.Ytcjidigpdecdlaa
open Go Go.RowKit
set_option linter.unusedVariables false
set_option maxRecDepth 100000
set_option linter.unusedSimpArgs false

section
variable (w : World) (x cl : Nat) (who p fr P T G : Int) (la : Bool) (d : StD) (nx : Option Addr) (hB : Blk w x (stC who nx cl p fr la d) 66) (hl : Lay w cl P T G) (hp : 0 ≤ P ∧ P ≤ 64)
/-- How many are to be stolen. -/
def stMany (he t : Int) : Int := (t - he) % 4294967296 - (t - he) % 4294967296 / 2
theorem stMany_facts (he t : Int) : ∃ mm h2, (t - he) % 4294967296 = mm ∧ Int.tdiv mm 2 = h2 ∧ IntKind.u64.wrap h2 = h2 ∧ IntKind.u64.wrap (mm - h2) = stMany he t ∧ IntKind.i64.wrap (stMany he t) = stMany he t ∧ 0 ≤ stMany he t := by
  refine ⟨_, _, rfl, rfl, ?_, ?_, ?_, ?_⟩
  · rw [Int.tdiv_eq_ediv_of_nonneg (by omega)]; exact wrap_u64 (by omega)
  · rw [Int.tdiv_eq_ediv_of_nonneg (by omega)]; unfold stMany; exact wrap_u64 (by omega)
  · unfold stMany; simp [IntKind.wrap, IntKind.bits, IntKind.signed] <;> omega
  · unfold stMany; omega
include hB
theorem st_choose_none (t : Int) (hh : 0 ≤ d.he ∧ d.he ≤ 18446744073709551615) (ht : 0 ≤ t ∧ t ≤ 18446744073709551615) (hm : stMany d.he t = 0) (hla : la = false) : Calls Try.prog 51 #[.pointer (some ⟨x, 0, none⟩), .int .u64 t] w fun e w' => (∃ v, e = .returned v) ∧ w = w' := by
  subst hla
  have c8 := hB.cell 8 st_c8
  have c5 := hB.cell 5 st_c5
  have hM := mny_any d.he t w hh ht
  obtain ⟨mm, h2, m1, m2, m3, m4, m5, -⟩ := stMany_facts d.he t
  rw [m1] at hM
  rw [hm] at m4 m5
  clear hB hh ht hm m1
  go_enter Try.func51, Try.ntmps51
  go_wp2_with fail
  go_at_call 31; refine hM.mono ?_; rintro e w1 ⟨rfl, rfl⟩
  clear hM
  go_wp2_with fail
  go_end0
  exact ⟨⟨_, rfl⟩, rfl⟩
include hl hp
theorem st_choose_next (t : Int) (hh : 0 ≤ d.he ∧ d.he ≤ 18446744073709551615) (ht : 0 ≤ t ∧ t ≤ 18446744073709551615) (hm : stMany d.he t = 0) (hla : la = true) : Calls Try.prog 51 #[.pointer (some ⟨x, 0, none⟩), .int .u64 t] w fun e w' => (∃ v, e = .returned v) ∧ Came w w' x (stC who nx cl p fr la d) 66 (axLd (wd 20 P 264 fr 3)) (.told 59) := by
  have c8 := hB.cell 8 st_c8
  have c5 := hB.cell 5 st_c5
  rw [hla] at c5
  have hM := mny_any d.he t w hh ht
  obtain ⟨mm, h2, m1, m2, m3, m4, m5, -⟩ := stMany_facts d.he t
  rw [m1] at hM
  rw [hm] at m4 m5
  have hPr := st_other w.drew x cl who p fr P T G la d nx hB.drew (hl.below ((Below.refl _ _).drew) hl.lt) hp 3 (by omega)
  have HS : Hid (∀ w4, Below w.drew.heap.size w.drew w4 → Calls Try.prog 21 #[.pointer (some ⟨x, 0, none⟩), .int .i64 (wd 20 P 264 fr 3), .func (.func 59) #[.pointer (some ⟨x, 0, none⟩)] #[]] w4 fun e w' => (∃ v, e = .returned v) ∧ Came w w' x (stC who nx cl p fr la d) 66 (axLd (wd 20 P 264 fr 3)) (.told 59)) := by
    intro w4 k
    have h4 := hB.drew.but (But.of_below (l := []) k) (by simp)
    refine (came_load w4 x _ 66 h4 st_size _ _).mono ?_
    rintro e w5 ⟨hv, hC⟩
    exact ⟨hv, hC.before ((But.refl [x] w).drew.trans (But.of_below k))⟩
  generalize wd 20 P 264 fr 3 = at' at *
  clear hB hl hp hh ht hm m1 hla
  go_enter Try.func51, Try.ntmps51
  go_wp2_with fail
  go_at_call 31; refine hM.mono ?_; rintro e w1 ⟨rfl, rfl⟩
  clear hM
  go_wp2_with fail
  go_region_with (first | (go_at_call 41; refine hPr.mono ?_; rintro e w4 ⟨rfl, k⟩) | (go_at_call 21; refine (HS.out _ k).mono ?_; rintro e w5 ⟨⟨v, rfl⟩, hC⟩))
  all_goals
    clear hPr k HS c8 c5
    go_wp2_with fail
    go_end0
    exact ⟨⟨_, rfl⟩, hC⟩
theorem st_choose_some (t : Int) (hh : 0 ≤ d.he ∧ d.he ≤ 18446744073709551615) (ht : 0 ≤ t ∧ t ≤ 18446744073709551615) (hm : 0 < stMany d.he t ∧ stMany d.he t ≤ 128) (hg : d.lo.length = 128) (hxc : cl ≠ x) : Calls Try.prog 51 #[.pointer (some ⟨x, 0, none⟩), .int .u64 t] w fun e w' => (∃ v, e = .returned v) ∧ Came w w' x (stC who nx cl p fr la { d with n := stMany d.he t, co := 0 }) 66 (axLd (wd 20 P 264 fr (8 + IntKind.u64.wrap (d.he + ((0 : Nat) : Int)) % 256))) (.told 62) := by
  have c8 := hB.cell 8 st_c8
  have hM := mny_any d.he t w hh ht
  obtain ⟨mm, h2, m1, m2, m3, m4, m5, -⟩ := stMany_facts d.he t
  rw [m1] at hM
  obtain ⟨nn, hnn⟩ : ∃ nn, stMany d.he t = nn := ⟨_, rfl⟩
  rw [hnn] at m4 m5 hm ⊢
  have c137 := hB.cell 137 (st_c137 hg)
  have c138 := hB.cell 138 (st_c138 hg)
  have f137 := hB.fro 137
  have f138 := hB.fro 138
  have hlt := hB.lt
  have hB1 : Blk (w.setCell ⟨x, 137, none⟩ (.int .i64 nn)) x (stC who nx cl p fr la { d with n := nn }) 66 := by
    have := hB.set 137 (.int .i64 nn)
    rw [st_s137 hg] at this
    exact this
  have hB' : Blk ((w.setCell ⟨x, 137, none⟩ (.int .i64 nn)).setCell ⟨x, 138, none⟩ (.int .i64 0)) x (stC who nx cl p fr la { d with n := nn, co := 0 }) 66 := by
    have := hB1.set 138 (.int .i64 0)
    rw [st_s138 (d := { d with n := nn }) hg] at this
    exact this
  have hU : But [x] w ((w.setCell ⟨x, 137, none⟩ (.int .i64 nn)).setCell ⟨x, 138, none⟩ (.int .i64 0)) := ((But.refl _ w).set (g := x) (.inl (by simp)) 137 _).set (g := x) (.inl (by simp)) 138 _
  have hl' : Lay ((w.setCell ⟨x, 137, none⟩ (.int .i64 nn)).setCell ⟨x, 138, none⟩ (.int .i64 0)) cl P T G := (hU.block cl hl.lt (by simpa using hxc)).trans hl
  have H := st_gather_load _ x cl who p fr P T G la { d with n := nn, co := 0 } nx hB' hl' hp 0 (by show ((0 : Nat) : Int) < nn; omega) (by omega) rfl hg
  have HU : Hid (But [x] w ((w.setCell ⟨x, 137, none⟩ (.int .i64 nn)).setCell ⟨x, 138, none⟩ (.int .i64 0))) := hU
  generalize hV : (w.setCell ⟨x, 137, none⟩ (.int .i64 nn)).setCell ⟨x, 138, none⟩ (.int .i64 0) = V at *
  have hm1 : ¬ 128 < nn := by omega
  have hm2 : 0 < nn := hm.1
  clear hB hB1 hB' hU hl' hl hp hxc hh ht hm m1 hg hnn
  go_enter Try.func51, Try.ntmps51
  go_wp2_with fail
  go_at_call 31; refine hM.mono ?_; rintro e w1 ⟨rfl, rfl⟩
  clear hM
  go_wp2_with fail
  try rw [hV]
  clear hV c137 c138 f137 f138
  go_at_call 58; refine H.mono ?_; rintro e w1 ⟨⟨v, rfl⟩, hC⟩
  have hCb := hC.before HU.out
  clear H hC c8
  go_wp2_with fail
  go_end0
  exact ⟨⟨_, rfl⟩, hCb⟩
omit hp in
theorem st_choose_more_end (t : Int) (hh : 0 ≤ d.he ∧ d.he ≤ 18446744073709551615) (ht : 0 ≤ t ∧ t ≤ 18446744073709551615) (hm : 128 < stMany d.he t) (htr : d.tr = 3) : Calls Try.prog 51 #[.pointer (some ⟨x, 0, none⟩), .int .u64 t] w fun e w' => (∃ v, e = .returned v) ∧ w = w' := by
  have c8 := hB.cell 8 st_c8
  have hM := mny_any d.he t w hh ht
  obtain ⟨mm, h2, m1, m2, m3, m4, m5, -⟩ := stMany_facts d.he t
  rw [m1] at hM
  have H := (fun W (h : Blk W x (stC who nx cl p fr la d) 66) (hl : Lay W cl P T G) => st_try_end W x cl who p fr la d nx h htr) w hB hl
  generalize stMany d.he t = nn at *
  clear hB hl hh ht m1
  go_enter Try.func51, Try.ntmps51
  go_wp2_with fail
  go_at_call 31; refine hM.mono ?_; rintro e w1 ⟨rfl, rfl⟩
  clear hM
  go_wp2_with fail
  go_at_call 36; refine H.mono ?_; rintro e w1 ⟨⟨v, rfl⟩, hC⟩
  clear H c8
  go_wp2_with fail
  go_end0
  exact ⟨⟨_, rfl⟩, hC⟩
theorem st_choose_more_on (t : Int) (hh : 0 ≤ d.he ∧ d.he ≤ 18446744073709551615) (ht : 0 ≤ t ∧ t ≤ 18446744073709551615) (hm : 128 < stMany d.he t) (htr : 0 ≤ d.tr ∧ d.tr < 3) (hxc : cl ≠ x) : Calls Try.prog 51 #[.pointer (some ⟨x, 0, none⟩), .int .u64 t] w fun e w' => (∃ v, e = .returned v) ∧ Came w w' x (stC who nx cl p fr la { d with tr := d.tr + 1 }) 66 (axLd (wd 20 P 264 fr 1)) (.told 42) := by
  have c8 := hB.cell 8 st_c8
  have hM := mny_any d.he t w hh ht
  obtain ⟨mm, h2, m1, m2, m3, m4, m5, -⟩ := stMany_facts d.he t
  rw [m1] at hM
  have H := (fun W (h : Blk W x (stC who nx cl p fr la d) 66) (hl : Lay W cl P T G) => st_try_on W x cl who p fr P T G la d nx h hl hp htr hxc) w hB hl
  generalize stMany d.he t = nn at *
  clear hB hl hh ht m1
  go_enter Try.func51, Try.ntmps51
  go_wp2_with fail
  go_at_call 31; refine hM.mono ?_; rintro e w1 ⟨rfl, rfl⟩
  clear hM
  go_wp2_with fail
  go_at_call 36; refine H.mono ?_; rintro e w1 ⟨⟨v, rfl⟩, hC⟩
  clear H c8
  go_wp2_with fail
  go_end0
  exact ⟨⟨_, rfl⟩, hC⟩
end
theorem st_g_none (w : World) (x cl : Nat) (who p fr : Int) (la : Bool) (d : StD) (nx : Option Addr) (hB : Blk w x (stC who nx cl p fr la d) 66) (hg : d.lo.length = 128) (hs : d.st = false) :
    Calls Try.prog 10 #[.pointer (some ⟨x, 0, none⟩)] w fun e w' => e = .returned (.int .i64 (-1)) ∧ w = w' := by
  have c139 := hB.cell 139 (st_c139 hg)
  rw [hs] at c139
  clear hB
  go_enter Try.func10, Try.ntmps10
  go_wp2_with fail
  go_ret
  exact ⟨rfl, rfl⟩
theorem st_g_some (w : World) (x cl : Nat) (who p fr : Int) (la : Bool) (d : StD) (nx : Option Addr) (n : Nat) (hB : Blk w x (stC who nx cl p fr la d) 66) (hg : d.lo.length = 128) (hs : d.st = true) (hn : d.n = n) (hnb : 1 ≤ n ∧ n ≤ 128) :
    Calls Try.prog 10 #[.pointer (some ⟨x, 0, none⟩)] w fun e w' => e = .returned (.int .i64 (d.lo.getD (n - 1) 0)) ∧ ∃ k, w' = w.drewN k := by
  have c139 := hB.cell 139 (st_c139 hg)
  rw [hs] at c139
  have c137 := hB.cell 137 (st_c137 hg)
  rw [hn] at c137
  obtain ⟨m, hm⟩ : ∃ m, n - 1 = m := ⟨_, rfl⟩
  have ck := hB.cell (9 + m) (st_loot hg m (by omega))
  rw [hm]
  generalize d.lo.getD m 0 = gx at *
  have e1 : IntKind.i64.wrap ((n : Int) - 1) = (m : Int) := by simp [IntKind.wrap, IntKind.bits, IntKind.signed] <;> omega
  have hk0 : (0 : Int) ≤ (m : Int) := by omega
  have hk1 : (m : Int) < 128 := by omega
  clear hB hn hnb hm
  go_enter Try.func10, Try.ntmps10
  go_wp2_with fail
  go_quiet (fail)
  go_wp2_with fail
  go_ret
  exact ⟨rfl, _, rfl⟩
end Go.Proofs.Ytcjidigpdecdlaa
