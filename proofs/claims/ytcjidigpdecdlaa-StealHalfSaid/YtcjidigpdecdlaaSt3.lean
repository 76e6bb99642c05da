/- The machine that steals: what it has, and how it chooses. -/
import Derived.Test.YtcjidigpdecdlaaSt2
namespace Go.Proofs.Ytcjidigpdecdlaa
open Go Go.RowKit
set_option linter.unusedVariables false
set_option maxRecDepth 100000
set_option linter.unusedSimpArgs false

section
variable (w : World) (x cl : Nat) (who p fr P T G : Int) (la : Bool) (d : StD) (nx : Option Addr) (hB : Blk w x (stC who nx cl p fr la d) 66) (hl : Lay w cl P T G) (hp : 0 ≤ P ∧ P ≤ 64)
include hB hl hp
omit hl hp in
theorem st_have_one (hn : d.n ≤ 1) (hg : d.lo.length = 128) : Calls Try.prog 64 #[.pointer (some ⟨x, 0, none⟩), .bool true] w fun e w' => (∃ v, e = .returned v) ∧ Blk w' x (stC who nx cl p fr la { d with st := true }) 66 ∧ But [x] w w' := by
  have c137 := hB.cell 137 (st_c137 hg)
  have c139 := hB.cell 139 (st_c139 hg)
  have f139 := hB.fro 139
  have hlt := hB.lt
  have hn1 : ¬ 1 < d.n := by omega
  have HF : Hid (Blk (w.setCell ⟨x, 139, none⟩ (.bool true)) x (stC who nx cl p fr la { d with st := true }) 66 ∧ But [x] w (w.setCell ⟨x, 139, none⟩ (.bool true))) := ⟨by
    have := hB.set 139 (.bool true)
    rw [st_s139 hg] at this
    exact this, (But.refl [x] w).set (g := x) (.inl (by simp)) 139 _⟩
  clear hB hn
  go_enter Try.func64, Try.ntmps64
  go_wp2_with fail
  go_end0
  exact ⟨⟨_, rfl⟩, HF.out⟩
set_option maxHeartbeats 8000000 in
theorem st_have_more (hn : 1 < d.n ∧ d.n ≤ 128) (hg : d.lo.length = 128) (ht : 0 ≤ d.ta ∧ d.ta ≤ 18446744073709551615) (hxc : cl ≠ x) : Calls Try.prog 64 #[.pointer (some ⟨x, 0, none⟩), .bool true] w fun e w' => (∃ v, e = .returned v) ∧ Came w w' x (stC who nx cl p fr la { d with st := true }) 66 (axSt (wd 20 P 264 p 2) ((d.ta + (d.n - 1)) % 4294967296)) (.untold 67) := by
  have c139 := hB.cell 139 (st_c139 hg)
  have f139 := hB.fro 139
  have hlt := hB.lt
  have hn1 : 1 < d.n := hn.1
  have hB' : Blk (w.setCell ⟨x, 139, none⟩ (.bool true)) x (stC who nx cl p fr la { d with st := true }) 66 := by
    have := hB.set 139 (.bool true)
    rw [st_s139 hg] at this
    exact this
  have hU : But [x] w (w.setCell ⟨x, 139, none⟩ (.bool true)) := (But.refl _ w).set (g := x) (.inl (by simp)) 139 _
  have hl' : Lay (w.setCell ⟨x, 139, none⟩ (.bool true)) cl P T G := (hU.block cl hl.lt (by simpa using hxc)).trans hl
  generalize hV : w.setCell ⟨x, 139, none⟩ (.bool true) = V at hB' hU hl'
  obtain ⟨a, ha⟩ : ∃ a, IntKind.u64.wrap (d.ta + (d.n - 1)) = a := ⟨_, rfl⟩
  have ha0 : 0 ≤ a ∧ a ≤ 18446744073709551615 := by rw [← ha]; simp [IntKind.wrap, IntKind.bits, IntKind.signed] <;> omega
  have e1 : a.tmod 4294967296 = (d.ta + (d.n - 1)) % 4294967296 := by
    rw [Int.tmod_eq_emod_of_nonneg ha0.1, ← ha]; simp [IntKind.wrap, IntKind.bits, IntKind.signed] <;> omega
  have e3 : IntKind.i64.wrap (d.n - 1) = d.n - 1 := by simp [IntKind.wrap, IntKind.bits, IntKind.signed] <;> omega
  have e4 : IntKind.u64.wrap (d.n - 1) = d.n - 1 := wrap_u64 (by omega)
  obtain ⟨h1, hh1⟩ : ∃ h1, (d.ta + (d.n - 1)) % 4294967296 = h1 := ⟨_, rfl⟩
  have e2 : IntKind.u64.wrap h1 = h1 := by rw [← hh1]; exact wrap_u64 (by omega)
  obtain ⟨at', hat⟩ : ∃ a, wd 20 P 264 p 2 = a := ⟨_, rfl⟩
  rw [hat, hh1]
  rw [hh1] at e1
  have c137 := hB'.cell 137 (st_c137 hg)
  have c2 := hB'.cell 2 st_c2
  have c3 := hB'.cell 3 st_c3
  have c7 := hB'.cell 7 st_c7
  have hltV := hB'.lt
  have hPr := lprc_any (some ⟨cl, 0, none⟩) P T G p 2 V.drew (.some cl (hl'.below ((Below.refl _ _).drew) hl'.lt)) hp (by omega)
  rw [hat] at hPr
  have hBd : Blk V.drew x (stC who nx cl p fr la { d with st := true }) 66 := hB'.drew
  have HS : Hid (∀ w4, Below V.drew.heap.size V.drew w4 → Calls Try.prog 65 #[.pointer (some ⟨x, 0, none⟩), .int .i64 at', .int .u64 h1, .func (.func 67) #[.pointer (some ⟨x, 0, none⟩)] #[]] w4 fun e w' => (∃ v, e = .returned v) ∧ Came w w' x (stC who nx cl p fr la { d with st := true }) 66 (axSt at' h1) (.untold 67)) := by
    intro w4 k4
    have h4 := hBd.but (But.of_below (l := []) k4) (by simp)
    refine (came_store w4 x _ 66 h4 st_size _ _ _).mono ?_
    rintro e w5 ⟨hv, hC⟩
    exact ⟨hv, hC.before (hU.drew.trans (But.of_below k4))⟩
  have hH : Hid (V.drew.cell? ⟨x, 2, none⟩ = some (.pointer (some ⟨cl, 0, none⟩)) ∧ V.drew.cell? ⟨x, 3, none⟩ = some (.int .i64 p) ∧ V.drew.cell? ⟨x, 7, none⟩ = some (.int .u64 d.ta) ∧ V.drew.cell? ⟨x, 137, none⟩ = some (.int .i64 d.n)) := ⟨c2, c3, c7, c137⟩
  have KB : Hid (∀ w4, Below V.drew.heap.size V.drew w4 → (w4.cell? ⟨x, 2, none⟩ = some (.pointer (some ⟨cl, 0, none⟩)) ∧ w4.cell? ⟨x, 3, none⟩ = some (.int .i64 p) ∧ w4.cell? ⟨x, 7, none⟩ = some (.int .u64 d.ta) ∧ w4.cell? ⟨x, 137, none⟩ = some (.int .i64 d.n))) := fun w4 k4 => by
    have h4 := hBd.but (But.of_below (l := []) k4) (by simp)
    exact ⟨h4.cell 2 st_c2, h4.cell 3 st_c3, h4.cell 7 st_c7, h4.cell 137 (st_c137 hg)⟩
  have KC : Hid (∀ w5, Came w w5 x (stC who nx cl p fr la { d with st := true }) 66 (axSt at' h1) (.untold 67) → (w5.cell? ⟨x, 2, none⟩ = some (.pointer (some ⟨cl, 0, none⟩)) ∧ w5.cell? ⟨x, 3, none⟩ = some (.int .i64 p) ∧ w5.cell? ⟨x, 7, none⟩ = some (.int .u64 d.ta) ∧ w5.cell? ⟨x, 137, none⟩ = some (.int .i64 d.n))) := fun w5 hC => by
    obtain ⟨q, Lc, h1, -⟩ := hC
    rw [st_s1] at h1
    exact ⟨h1.cell 2 st_c2, h1.cell 3 st_c3, h1.cell 7 st_c7, h1.cell 137 (st_c137 hg)⟩
  clear hB hB' hU hl hl' hp hxc hBd hat hh1 ha0 ht hn hg
  go_enter Try.func64, Try.ntmps64
  go_wp2_with fail
  try rw [hV]
  clear hV c139 f139
  go_region_held3 (fun w' => w'.cell? ⟨x, 2, none⟩ = some (.pointer (some ⟨cl, 0, none⟩)) ∧ w'.cell? ⟨x, 3, none⟩ = some (.int .i64 p) ∧ w'.cell? ⟨x, 7, none⟩ = some (.int .u64 d.ta) ∧ w'.cell? ⟨x, 137, none⟩ = some (.int .i64 d.n)) (first | exact hH.out | exact KB.out _ ‹_› | exact KC.out _ ‹_›) (first | (go_at_call 22; refine hPr.mono ?_; rintro e w4 ⟨rfl, k4⟩) | (go_at_call 65; refine (HS.out _ ‹_›).mono ?_; rintro e w5 ⟨⟨v, rfl⟩, hC⟩))
  all_goals
    clear hPr k4 HS hH KB KC c2 c3 c7 c137
    go_wp2_with fail
    go_end0
    exact ⟨⟨_, rfl⟩, hC⟩
theorem st_next_some (v : Int) (hv : v ≠ 0) (hg : d.lo.length = 128) (hxc : cl ≠ x) : Calls Try.prog 59 #[.pointer (some ⟨x, 0, none⟩), .int .u64 v] w fun e w' => (∃ v, e = .returned v) ∧ Came w w' x (stC who nx cl p fr la { d with lo := d.lo.set 0 (gw v), n := 1 }) 66 (axSw (wd 20 P 264 fr 3) v 0) (.swap 64) := by
  have hd : (v == 0) = false := by simpa using hv
  have c9 := hB.cell 9 (st_loot hg 0 (by omega))
  have f9 := hB.fro 9
  have c137 := hB.cell 137 (st_c137 hg)
  have f137 := hB.fro 137
  have hlt := hB.lt
  obtain ⟨y, hy⟩ : ∃ y, IntKind.u64.wrap (v - 1) = y := ⟨_, rfl⟩
  obtain ⟨gx, hgx⟩ : ∃ gx, IntKind.i64.wrap y = gx := ⟨_, rfl⟩
  have hgw : gw v = gx := by unfold gw; rw [hy, hgx]
  rw [hgw]
  have hB1 : Blk (w.setCell ⟨x, 9, none⟩ (.int .i64 gx)) x (stC who nx cl p fr la { d with lo := d.lo.set 0 gx }) 66 := by
    have := hB.set 9 (.int .i64 gx)
    rw [show (9 : Nat) = 9 + 0 from rfl, st_sloot hg 0 (by omega)] at this
    exact this
  have hg2 : (d.lo.set 0 gx).length = 128 := by rw [List.length_set]; exact hg
  have hB' : Blk ((w.setCell ⟨x, 9, none⟩ (.int .i64 gx)).setCell ⟨x, 137, none⟩ (.int .i64 1)) x (stC who nx cl p fr la { d with lo := d.lo.set 0 gx, n := 1 }) 66 := by
    have := hB1.set 137 (.int .i64 1)
    rw [st_s137 hg2] at this
    exact this
  have hU : But [x] w ((w.setCell ⟨x, 9, none⟩ (.int .i64 gx)).setCell ⟨x, 137, none⟩ (.int .i64 1)) := ((But.refl _ w).set (g := x) (.inl (by simp)) 9 _).set (g := x) (.inl (by simp)) 137 _
  have hl' : Lay ((w.setCell ⟨x, 9, none⟩ (.int .i64 gx)).setCell ⟨x, 137, none⟩ (.int .i64 1)) cl P T G := (hU.block cl hl.lt (by simpa using hxc)).trans hl
  generalize hV : (w.setCell ⟨x, 9, none⟩ (.int .i64 gx)).setCell ⟨x, 137, none⟩ (.int .i64 1) = V at hB' hU hl'
  have hPr := st_other V.drew x cl who p fr P T G la { d with lo := d.lo.set 0 gx, n := 1 } nx hB'.drew (hl'.below ((Below.refl _ _).drew) hl'.lt) hp 3 (by omega)
  have HS : Hid (∀ w4, Below V.drew.heap.size V.drew w4 → Calls Try.prog 63 #[.pointer (some ⟨x, 0, none⟩), .int .i64 (wd 20 P 264 fr 3), .int .u64 v, .int .u64 0, .func (.func 64) #[.pointer (some ⟨x, 0, none⟩)] #[]] w4 fun e w' => (∃ v, e = .returned v) ∧ Came w w' x (stC who nx cl p fr la { d with lo := d.lo.set 0 gx, n := 1 }) 66 (axSw (wd 20 P 264 fr 3) v 0) (.swap 64)) := by
    intro w4 k
    have h4 := hB'.drew.but (But.of_below (l := []) k) (by simp)
    refine (came_swap w4 x _ 66 h4 st_size _ _ _ _).mono ?_
    rintro e w5 ⟨hv, hC⟩
    exact ⟨hv, hC.before (hU.drew.trans (But.of_below k))⟩
  generalize wd 20 P 264 fr 3 = at' at *
  clear hB hB1 hB' hU hl' hl hp hxc hv hg2 hg hgw
  go_enter Try.func59, Try.ntmps59
  go_wp2_with fail
  try rw [hV]
  clear hV c9 f9 c137 f137
  go_region_with (first | (go_at_call 41; refine hPr.mono ?_; rintro e w4 ⟨rfl, k⟩) | (go_at_call 63; refine (HS.out _ k).mono ?_; rintro e w5 ⟨⟨v, rfl⟩, hC⟩))
  all_goals
    clear hPr k HS
    go_wp2_with fail
    go_end0
    exact ⟨⟨_, rfl⟩, hC⟩
end
end Go.Proofs.Ytcjidigpdecdlaa
