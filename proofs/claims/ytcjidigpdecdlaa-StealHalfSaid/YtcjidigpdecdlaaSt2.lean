/- The machine that steals: what it chooses, copies, takes. -/
import Derived.Test.YtcjidigpdecdlaaSt1
namespace Go.Proofs.Ytcjidigpdecdlaa
open Go Go.RowKit
set_option linter.unusedVariables false
set_option maxRecDepth 100000
set_option linter.unusedSimpArgs false

section
variable (w : World) (x cl : Nat) (who p fr P T G : Int) (la : Bool) (d : StD) (nx : Option Addr) (hB : Blk w x (stC who nx cl p fr la d) 66) (hl : Lay w cl P T G) (hp : 0 ≤ P ∧ P ≤ 64)
include hB hl hp
set_option maxHeartbeats 4000000 in
theorem st_gather_load (k : Nat) (hk : (k : Int) < d.n) (hk2 : k < 128) (hco : d.co = k) (hg : d.lo.length = 128) : Calls Try.prog 58 #[.pointer (some ⟨x, 0, none⟩)] w fun e w' => (∃ v, e = .returned v) ∧ Came w w' x (stC who nx cl p fr la d) 66 (axLd (wd 20 P 264 fr (8 + IntKind.u64.wrap (d.he + k) % 256))) (.told 62) := by
  have c137 := hB.cell 137 (st_c137 hg)
  have c138 := hB.cell 138 (st_c138 hg)
  rw [hco] at c138
  obtain ⟨z, hz⟩ : ∃ z, IntKind.u64.wrap (d.he + k) = z := ⟨_, rfl⟩
  have hzb : 0 ≤ z ∧ z ≤ 18446744073709551615 := by rw [← hz]; generalize d.he + (k : Int) = y; simp [IntKind.wrap, IntKind.bits, IntKind.signed]; omega
  rw [hz]
  obtain ⟨at', hat⟩ : ∃ a, wd 20 P 264 fr (8 + z % 256) = a := ⟨_, rfl⟩
  rw [hat]
  have HAT : Hid (wd 20 P 264 fr (8 + z % 256) = at') := hat
  clear hat
  have e0 : IntKind.u64.wrap (k : Int) = (k : Int) := wrap_u64 (by omega)
  have HB : Hid (Blk w x (stC who nx cl p fr la d) 66 ∧ Lay w cl P T G ∧ (0 ≤ P ∧ P ≤ 64) ∧ d.lo.length = 128 ∧ d.co = k ∧ (0 ≤ z ∧ z ≤ 18446744073709551615)) := ⟨hB, hl, hp, hg, hco, hzb⟩
  have hlt := hB.lt
  clear hB hl hp hg hzb hco
  go_enter Try.func58, Try.ntmps58
  go_wp2_with fail
  go_quiet (fail)
  have hUW : But [x] w (w.drewN nq) := (But.refl _ w).drewN nq
  have hBW := HB.out.1.drewN nq
  have hlW : Lay (w.drewN nq) cl P T G := HB.out.2.1.below (Below.drewN' (Below.refl _ _) nq) HB.out.2.1.lt
  have hco := HB.out.2.2.2.2.1
  have hg := HB.out.2.2.2.1
  generalize w.drewN nq = W at *
  have c2 := hBW.cell 2 st_c2
  have c4 := hBW.cell 4 st_c4
  have c8 := hBW.cell 8 st_c8
  have c138 := hBW.cell 138 (st_c138 hg)
  rw [hco] at c138
  have hltW := hBW.lt
  have hPr := lrng_any (some ⟨cl, 0, none⟩) P T G fr z W.drew (.some cl (hlW.below ((Below.refl _ _).drew) hlW.lt)) HB.out.2.2.1 HB.out.2.2.2.2.2
  rw [HAT.out] at hPr
  have hBd : Blk W.drew x (stC who nx cl p fr la d) 66 := hBW.drew
  have HS : Hid (∀ w4, Below W.drew.heap.size W.drew w4 → Calls Try.prog 21 #[.pointer (some ⟨x, 0, none⟩), .int .i64 at', .func (.func 62) #[.pointer (some ⟨x, 0, none⟩)] #[]] w4 fun e w' => (∃ v, e = .returned v) ∧ Came w w' x (stC who nx cl p fr la d) 66 (axLd at') (.told 62)) := by
    intro w4 k4
    have h4 := hBd.but (But.of_below (l := []) k4) (by simp)
    refine (came_load w4 x _ 66 h4 st_size _ _).mono ?_
    rintro e w5 ⟨hv, hC⟩
    exact ⟨hv, hC.before (hUW.drew.trans (But.of_below k4))⟩
  have hH : Hid (W.drew.cell? ⟨x, 2, none⟩ = some (.pointer (some ⟨cl, 0, none⟩)) ∧ W.drew.cell? ⟨x, 4, none⟩ = some (.int .i64 fr) ∧ W.drew.cell? ⟨x, 8, none⟩ = some (.int .u64 d.he) ∧ W.drew.cell? ⟨x, 138, none⟩ = some (.int .i64 k)) := ⟨c2, c4, c8, c138⟩
  have KB : Hid (∀ w4, Below W.drew.heap.size W.drew w4 → (w4.cell? ⟨x, 2, none⟩ = some (.pointer (some ⟨cl, 0, none⟩)) ∧ w4.cell? ⟨x, 4, none⟩ = some (.int .i64 fr) ∧ w4.cell? ⟨x, 8, none⟩ = some (.int .u64 d.he) ∧ w4.cell? ⟨x, 138, none⟩ = some (.int .i64 k))) := fun w4 k4 => by
    have h4 := hBd.but (But.of_below (l := []) k4) (by simp)
    have h138 := h4.cell 138 (st_c138 hg)
    rw [hco] at h138
    exact ⟨h4.cell 2 st_c2, h4.cell 4 st_c4, h4.cell 8 st_c8, h138⟩
  have KC : Hid (∀ w5, Came w w5 x (stC who nx cl p fr la d) 66 (axLd at') (.told 62) → (w5.cell? ⟨x, 2, none⟩ = some (.pointer (some ⟨cl, 0, none⟩)) ∧ w5.cell? ⟨x, 4, none⟩ = some (.int .i64 fr) ∧ w5.cell? ⟨x, 8, none⟩ = some (.int .u64 d.he) ∧ w5.cell? ⟨x, 138, none⟩ = some (.int .i64 k))) := fun w5 hC => by
    obtain ⟨q, Lc, h1, -⟩ := hC
    rw [st_s1] at h1
    have h138 := h1.cell 138 (st_c138 hg)
    rw [hco] at h138
    exact ⟨h1.cell 2 st_c2, h1.cell 4 st_c4, h1.cell 8 st_c8, h138⟩
  clear hBW hlW hUW hBd hg hco HB
  go_wp2_with fail
  go_region_held3 (fun w' => w'.cell? ⟨x, 2, none⟩ = some (.pointer (some ⟨cl, 0, none⟩)) ∧ w'.cell? ⟨x, 4, none⟩ = some (.int .i64 fr) ∧ w'.cell? ⟨x, 8, none⟩ = some (.int .u64 d.he) ∧ w'.cell? ⟨x, 138, none⟩ = some (.int .i64 k)) (first | exact hH.out | exact KB.out _ ‹_› | exact KC.out _ ‹_›) (first | (go_at_call 19; refine hPr.mono ?_; rintro e w4 ⟨rfl, k4⟩) | (go_at_call 21; refine (HS.out _ ‹_›).mono ?_; rintro e w5 ⟨⟨v, rfl⟩, hC⟩))
  all_goals
    clear hPr k4 HS hH KB KC c2 c4 c8 c138 c137
    go_wp2_with fail
    refine bodyPost_ret (results_none rfl _ _ _) rfl ?_
    exact ⟨⟨_, rfl⟩, hC⟩
set_option maxHeartbeats 4000000 in
theorem st_gather_swap (h0 : d.co = d.n) (hn : 0 ≤ d.n ∧ d.n ≤ 128) (hg : d.lo.length = 128) (hh : 0 ≤ d.he ∧ d.he ≤ 18446744073709551615) : Calls Try.prog 58 #[.pointer (some ⟨x, 0, none⟩)] w fun e w' => (∃ v, e = .returned v) ∧ Came w w' x (stC who nx cl p fr la d) 66 (axSw (wd 20 P 264 fr 1) d.he ((d.he + d.n) % 4294967296)) (.swap 64) := by
  have c137 := hB.cell 137 (st_c137 hg)
  have c138 := hB.cell 138 (st_c138 hg)
  rw [h0] at c138
  obtain ⟨a, ha⟩ : ∃ a, IntKind.u64.wrap (d.he + d.n) = a := ⟨_, rfl⟩
  have ha0 : 0 ≤ a ∧ a ≤ 18446744073709551615 := by rw [← ha]; simp [IntKind.wrap, IntKind.bits, IntKind.signed] <;> omega
  have e1 : a.tmod 4294967296 = (d.he + d.n) % 4294967296 := by
    rw [Int.tmod_eq_emod_of_nonneg ha0.1, ← ha]; simp [IntKind.wrap, IntKind.bits, IntKind.signed] <;> omega
  have e3 : IntKind.u64.wrap d.n = d.n := wrap_u64 (by omega)
  obtain ⟨h1, hh1⟩ : ∃ h1, (d.he + d.n) % 4294967296 = h1 := ⟨_, rfl⟩
  have e2 : IntKind.u64.wrap h1 = h1 := by rw [← hh1]; exact wrap_u64 (by omega)
  obtain ⟨at', hat⟩ : ∃ a, wd 20 P 264 fr 1 = a := ⟨_, rfl⟩
  rw [hat, hh1]
  rw [hh1] at e1
  have HAT : Hid (wd 20 P 264 fr 1 = at') := hat
  have HB : Hid (Blk w x (stC who nx cl p fr la d) 66 ∧ Lay w cl P T G ∧ (0 ≤ P ∧ P ≤ 64) ∧ d.lo.length = 128) := ⟨hB, hl, hp, hg⟩
  have hlt := hB.lt
  have hnn : ¬ d.n < d.n := by omega
  clear hB hl hp hg hat hh1 hh ha0 hn h0
  go_enter Try.func58, Try.ntmps58
  go_wp2_with fail
  go_quiet (fail)
  have hUW : But [x] w (w.drewN nq) := (But.refl _ w).drewN nq
  have hBW := HB.out.1.drewN nq
  have hlW : Lay (w.drewN nq) cl P T G := HB.out.2.1.below (Below.drewN' (Below.refl _ _) nq) HB.out.2.1.lt
  have hg := HB.out.2.2.2
  generalize w.drewN nq = W at *
  have c137 := hBW.cell 137 (st_c137 hg)
  have c8 := hBW.cell 8 st_c8
  have hltW := hBW.lt
  have hPr := st_other W.drew x cl who p fr P T G la d nx hBW.drew (hlW.below ((Below.refl _ _).drew) hlW.lt) HB.out.2.2.1 1 (by omega)
  rw [HAT.out] at hPr
  have hBd : Blk W.drew x (stC who nx cl p fr la d) 66 := hBW.drew
  have HS : Hid (∀ w4, Below W.drew.heap.size W.drew w4 → Calls Try.prog 63 #[.pointer (some ⟨x, 0, none⟩), .int .i64 at', .int .u64 d.he, .int .u64 h1, .func (.func 64) #[.pointer (some ⟨x, 0, none⟩)] #[]] w4 fun e w' => (∃ v, e = .returned v) ∧ Came w w' x (stC who nx cl p fr la d) 66 (axSw at' d.he h1) (.swap 64)) := by
    intro w4 k4
    have h4 := hBd.but (But.of_below (l := []) k4) (by simp)
    refine (came_swap w4 x _ 66 h4 st_size _ _ _ _).mono ?_
    rintro e w5 ⟨hv, hC⟩
    exact ⟨hv, hC.before (hUW.drew.trans (But.of_below k4))⟩
  have hH : Hid (W.drew.cell? ⟨x, 8, none⟩ = some (.int .u64 d.he) ∧ W.drew.cell? ⟨x, 137, none⟩ = some (.int .i64 d.n)) := ⟨c8, c137⟩
  have KB : Hid (∀ w4, Below W.drew.heap.size W.drew w4 → (w4.cell? ⟨x, 8, none⟩ = some (.int .u64 d.he) ∧ w4.cell? ⟨x, 137, none⟩ = some (.int .i64 d.n))) := fun w4 k4 => by
    have h4 := hBd.but (But.of_below (l := []) k4) (by simp)
    exact ⟨h4.cell 8 st_c8, h4.cell 137 (st_c137 hg)⟩
  have KC : Hid (∀ w5, Came w w5 x (stC who nx cl p fr la d) 66 (axSw at' d.he h1) (.swap 64) → (w5.cell? ⟨x, 8, none⟩ = some (.int .u64 d.he) ∧ w5.cell? ⟨x, 137, none⟩ = some (.int .i64 d.n))) := fun w5 hC => by
    obtain ⟨q, Lc, h1, -⟩ := hC
    rw [st_s1] at h1
    exact ⟨h1.cell 8 st_c8, h1.cell 137 (st_c137 hg)⟩
  clear hBW hlW hUW hBd hg HB
  go_wp2_with fail
  go_region_held3 (fun w' => w'.cell? ⟨x, 8, none⟩ = some (.int .u64 d.he) ∧ w'.cell? ⟨x, 137, none⟩ = some (.int .i64 d.n)) (first | exact hH.out | exact KB.out _ ‹_› | exact KC.out _ ‹_›) (first | (go_at_call 41; refine hPr.mono ?_; rintro e w4 ⟨rfl, k4⟩) | (go_at_call 63; refine (HS.out _ ‹_›).mono ?_; rintro e w5 ⟨⟨v, rfl⟩, hC⟩))
  all_goals
    clear hPr k4 HS hH KB KC c8 c137
    go_wp2_with fail
    go_end0
    exact ⟨⟨_, rfl⟩, hC⟩
set_option maxHeartbeats 8000000 in
theorem st_lay (k : Nat) (v : Int) (hk : k < 128) (hco : d.co = k) (hg : d.lo.length = 128) (hxc : cl ≠ x) : Calls Try.prog 62 #[.pointer (some ⟨x, 0, none⟩), .int .u64 v] w fun e w' => (∃ v, e = .returned v) ∧ Came w w' x (stC who nx cl p fr la { d with lo := d.lo.set k (gw v), co := ((k + 1 : Nat) : Int) }) 66 (axSt (wd 20 P 264 p (8 + IntKind.u64.wrap (d.ta + k) % 256)) v) (.untold 58) := by
  have c138 := hB.cell 138 (st_c138 hg)
  rw [hco] at c138
  have c2 := hB.cell 2 st_c2
  have c3 := hB.cell 3 st_c3
  have c7 := hB.cell 7 st_c7
  obtain ⟨z, hz⟩ : ∃ z, IntKind.u64.wrap (d.ta + k) = z := ⟨_, rfl⟩
  have hzb : 0 ≤ z ∧ z ≤ 18446744073709551615 := by rw [← hz]; generalize d.ta + (k : Int) = y; simp [IntKind.wrap, IntKind.bits, IntKind.signed]; omega
  rw [hz]
  obtain ⟨at', hat⟩ : ∃ a, wd 20 P 264 p (8 + z % 256) = a := ⟨_, rfl⟩
  have e0 : IntKind.u64.wrap (k : Int) = (k : Int) := wrap_u64 (by omega)
  have hPr := lrng_any (some ⟨cl, 0, none⟩) P T G p z w.drew (.some cl (hl.below ((Below.refl _ _).drew) hl.lt)) hp hzb
  rw [hat] at hPr ⊢
  obtain ⟨y, hy⟩ : ∃ y, IntKind.u64.wrap (v - 1) = y := ⟨_, rfl⟩
  obtain ⟨gx, hgx⟩ : ∃ gx, IntKind.i64.wrap y = gx := ⟨_, rfl⟩
  have hgw : gw v = gx := by unfold gw; rw [hy, hgx]
  rw [hgw]
  have HB : Hid (Blk w.drew x (stC who nx cl p fr la d) 66 ∧ d.lo.length = 128 ∧ d.co = k ∧ But [x] w w.drew ∧ k < 128) := ⟨hB.drew, hg, hco, (But.refl _ _).drew, hk⟩
  have hH : Hid ((w.drew.cell? ⟨x, 2, none⟩ = some (.pointer (some ⟨cl, 0, none⟩)) ∧ w.drew.cell? ⟨x, 3, none⟩ = some (.int .i64 p) ∧ w.drew.cell? ⟨x, 7, none⟩ = some (.int .u64 d.ta) ∧ w.drew.cell? ⟨x, 138, none⟩ = some (.int .i64 k)) ∧ Below w.drew.heap.size w.drew w.drew) := ⟨⟨c2, c3, c7, c138⟩, Below.refl _ _⟩
  have KB : Hid (∀ w4, Below w.drew.heap.size w.drew w4 → ((w4.cell? ⟨x, 2, none⟩ = some (.pointer (some ⟨cl, 0, none⟩)) ∧ w4.cell? ⟨x, 3, none⟩ = some (.int .i64 p) ∧ w4.cell? ⟨x, 7, none⟩ = some (.int .u64 d.ta) ∧ w4.cell? ⟨x, 138, none⟩ = some (.int .i64 k)) ∧ Below w.drew.heap.size w.drew w4)) := fun w4 k4 => by
    have h4 := hB.drew.but (But.of_below (l := []) k4) (by simp)
    have h138 := h4.cell 138 (st_c138 hg)
    rw [hco] at h138
    exact ⟨⟨h4.cell 2 st_c2, h4.cell 3 st_c3, h4.cell 7 st_c7, h138⟩, k4⟩
  have hlt := hB.lt
  have hk0 : (0 : Int) ≤ (k : Int) := by omega
  have hk1 : (k : Int) < 128 := by omega
  have e5 : wrap64 ((k : Int) + 1) = (k : Int) + 1 := by unfold wrap64; omega
  have hcast : ((k + 1 : Nat) : Int) = (k : Int) + 1 := by omega
  rw [hcast]
  clear hB hl hp hg hzb hco hgw hat hxc hk
  go_enter Try.func62, Try.ntmps62
  go_wp2_with fail
  go_region_held3 (fun w' => (w'.cell? ⟨x, 2, none⟩ = some (.pointer (some ⟨cl, 0, none⟩)) ∧ w'.cell? ⟨x, 3, none⟩ = some (.int .i64 p) ∧ w'.cell? ⟨x, 7, none⟩ = some (.int .u64 d.ta) ∧ w'.cell? ⟨x, 138, none⟩ = some (.int .i64 k)) ∧ Below w.drew.heap.size w.drew w') (first | exact hH.out | exact KB.out _ ‹_›) (first | (go_at_call 19; refine hPr.mono ?_; rintro e w4 ⟨rfl, k4⟩))
  all_goals
    have hg := HB.out.2.1
    have hkk := HB.out.2.2.2.2
    have h4 := HB.out.1.but (But.of_below (l := []) k4) (by simp)
    have hU4 : But [x] w w4 := HB.out.2.2.2.1.trans (But.of_below k4)
    have d138 := h4.cell 138 (st_c138 hg)
    rw [HB.out.2.2.1] at d138
    have ck := h4.cell (9 + k) (st_loot hg k hkk)
    have fk := h4.fro (9 + k)
    have hlt4 := h4.lt
    have HB1 : Hid (Blk ((w4.setCell ⟨x, 9 + k, none⟩ (.int .i64 gx)).drew) x (stC who nx cl p fr la { d with lo := d.lo.set k gx }) 66 ∧ But [x] w ((w4.setCell ⟨x, 9 + k, none⟩ (.int .i64 gx)).drew) ∧ (d.lo.set k gx).length = 128 ∧ d.co = k) := ⟨by
      have h5 := h4.set (9 + k) (.int .i64 gx)
      rw [st_sloot hg k hkk] at h5
      exact h5.drew, (hU4.set (g := x) (.inl (by simp)) (9 + k) _).drew, by rw [List.length_set]; exact hg, HB.out.2.2.1⟩
    clear hPr k4 hH KB c2 c3 c7 c138 h4 hU4 hg hkk HB hlt
    go_wp2_with fail
    go_region
    generalize (w4.setCell ⟨x, 9 + k, none⟩ (.int .i64 gx)).drew = V at *
    have c138 := HB1.out.1.cell 138 (st_c138 HB1.out.2.2.1)
    rw [show ({ d with lo := d.lo.set k gx } : StD).co = k from HB1.out.2.2.2] at c138
    have f138 := HB1.out.1.fro 138
    have hltV := HB1.out.1.lt
    have hB2 : Blk (V.setCell ⟨x, 138, none⟩ (.int .i64 ((k : Int) + 1))) x (stC who nx cl p fr la { d with lo := d.lo.set k gx, co := (k : Int) + 1 }) 66 := by
      have h5 := HB1.out.1.set 138 (.int .i64 ((k : Int) + 1))
      rw [st_s138 HB1.out.2.2.1] at h5
      exact h5
    have HU2 : Hid (But [x] w (V.setCell ⟨x, 138, none⟩ (.int .i64 ((k : Int) + 1)))) := HB1.out.2.1.set (g := x) (.inl (by simp)) 138 _
    have hS := came_store (V.setCell ⟨x, 138, none⟩ (.int .i64 ((k : Int) + 1))) x _ 66 hB2 st_size at' v 58
    clear d138 ck fk hlt4 HB1 hB2
    go_wp2_with fail
    generalize V.setCell ⟨x, 138, none⟩ (.int .i64 ((k : Int) + 1)) = V2 at *
    go_at_call 65; refine hS.mono ?_; rintro e w6 ⟨⟨v6, rfl⟩, hC⟩
    have hCb := hC.before HU2.out
    clear hS hC c138 f138
    go_wp2_with fail
    go_end0
    exact ⟨⟨_, rfl⟩, hCb⟩
end
end Go.Proofs.Ytcjidigpdecdlaa
