/- A monitor is made; what it tells. -/
import Derived.Test.YthjfbknmdligeaaGreatMo2
namespace Go.Proofs.YthjfbknmdligeaaGreat
open Go Go.RowKit
set_option linter.unusedVariables false
set_option maxRecDepth 100000
set_option linter.unusedSimpArgs false
set_option linter.unusedSectionVars false

theorem info66 : (Tryz.prog.info? 66).map (fun i => (i.zero, i.size, i.bytes)) = some (some (.agg #[.int .u64 0, .int .u64 0, .int .u64 0, .int .u64 0]), 4, 32) := by kernel_rfl
def zr (n : Nat) : Array Value := madeCells #[.int .u64 0, .int .u64 0, .int .u64 0, .int .u64 0] (n * 4)
theorem make_rows (n : Nat) (hn : n ≤ 1000000) (w : World) : (Instr.makeSlice 90 (.int .i64 n) (.int .i64 n)).run Tryz.prog w = .ok (.slice (some ⟨w.heap.size, 0, none⟩) n n) (w.alloc (.cells (zr n) 66)) := by
  obtain ⟨i0, hi, hz0, hz1, hz2⟩ := info_parts info66
  have := run_make (P := Tryz.prog) w 90 66 i0 _ Tryz.underlying90 hi hz0 .i64 .i64 n n (by omega) (Int.le_refl _) (by rw [hz2]; omega) (by omega)
  rw [hz1] at this
  simpa [zr, Value.cells] using this
theorem zr_row (n : Nat) (w : World) : RwAt (w.alloc (.cells (zr n) 66)) w.heap.size (4 * n) (fun _ => 0) := by
  refine ⟨zr n, heap_alloc_new _ _, (size_madeCells _ _).trans (by omega), fun k hk => ?_⟩
  unfold zr madeCells
  rw [Array.getElem?_map, Array.getElem?_range]
  rw [if_pos (by omega)]
  have h4 : k % 4 < 4 := Nat.mod_lt _ (by omega)
  simp only [Option.map_some, Option.some.injEq]
  show (#[Value.int .u64 0, Value.int .u64 0, Value.int .u64 0, Value.int .u64 0])[k % 4]! = _
  rcases (by omega : k % 4 = 0 ∨ k % 4 = 1 ∨ k % 4 = 2 ∨ k % 4 = 3) with h | h | h | h <;> rw [h] <;> rfl
def moD0 : MoD := ⟨fun _ => 0, 0, false, 0, 0, 0, false, none, 0, 0, 0, none⟩
set_option maxHeartbeats 4000000 in
theorem mo_new (w : World) (cl P : Nat) (T G : Int) (hl : Lay w cl P T G) (hp : P ≤ 64) :
    Calls Tryz.prog 9 #[.pointer (some ⟨cl, 0, none⟩)] w fun e w' => ∃ x r L, e = .returned (.pointer (some ⟨x, 0, none⟩)) ∧ moI T cl r P w' x (.nw, moD0) L ∧ Below w.heap.size w w' ∧ (∀ k ∈ L, w.heap.size ≤ k) ∧ w.heap.size ≤ x := by
  have hC := config_any (some ⟨cl, 0, none⟩) P T G w (.some cl hl)
  have hmk := make_rows P (by omega)
  have HL : Hid (Lay w cl P T G) := hl
  clear hl hp
  go_enter Tryz.func9, Tryz.ntmps9
  go_wp2_with fail
  go_at_call 37; refine hC.mono ?_; rintro e w1 ⟨rfl, h1⟩
  obtain ⟨V, hV⟩ : ∃ V, ((w1.alloc (.cells (zr P) 66)).alloc (.cells (moCells 0 none cl w1.heap.size P moD0) 98)) = V := ⟨_, rfl⟩
  have hr : RwAt V w1.heap.size (4 * P) (fun _ => 0) := by rw [← hV]; exact (zr_row P w1).keep (heap_al _ (by simp) _)
  have hB : Blk V (w1.heap.size + 1) (moCells 0 none cl w1.heap.size P moD0) 98 := by
    rw [← hV]
    have := Blk.new (w1.alloc (.cells (zr P) 66)) (moCells 0 none cl w1.heap.size P moD0) 98
    rw [World.size_alloc] at this
    exact this
  have hb1 : Below w1.heap.size w1 V := by rw [← hV]; exact ((Below.refl _ _).alloc (Nat.le_refl _) _).alloc (by simp) _
  have hbw : Below w.heap.size w V := h1.trans (hb1.mono h1.size)
  have HV : Hid _ := hV
  have hsz1 := h1.size
  have HF : Hid (RwAt V w1.heap.size (4 * P) (fun _ => 0) ∧ Blk V (w1.heap.size + 1) (moCells 0 none cl w1.heap.size P moD0) 98 ∧ Below w.heap.size w V ∧ Lay V cl P T G ∧ w.heap.size ≤ w1.heap.size) := ⟨hr, hB, hbw, HL.out.below hbw HL.out.lt, hsz1⟩
  clear hV hr hB hb1 hbw hC h1 hsz1 HL
  unfold moCells moD0 at HV
  dsimp only at HV
  rw [show ((0 : Nat) : Int) = 0 from rfl] at HV
  have fc0 := field_c0
  have fc1 := field_c1
  go_wp2_with fail
  rw [HV.out]
  clear HV
  generalize w1.heap.size = r at *
  have hC2 := config_any (some ⟨cl, 0, none⟩) P T G V.drew (.some cl HF.out.2.2.2.1)
  go_region_with (first | (go_at_call 37; refine hC2.mono ?_; rintro e w3 ⟨rfl, h3⟩; have hO := fof_any w3 (r + 1) _ 98 T (HF.out.2.1.drew.but (But.of_below (l := []) h3) (by simp)) (by simp [moCells])) | (go_at_call 38; refine hO.mono ?_; rintro e w4 ⟨⟨v, rfl⟩, hw4⟩; have HW4 : Hid (w4 = w3.setCell ⟨r + 1, 0, none⟩ (.int .i64 T)) := hw4; clear hw4))
  all_goals
    have hw4 := HW4.out
    have hB3 : But [r + 1] V w4 := by rw [hw4]; exact (((But.refl _ _).drew).trans (But.of_below h3)).set (g := r + 1) (.inl (by simp)) 0 _
    have h4 : Blk w4 (r + 1) (moCells T none cl r P moD0) 98 := by rw [hw4]; exact (HF.out.2.1.drew.but (But.of_below (l := []) h3) (by simp)).set 0 _
    have h5 : RwAt w4 r (4 * P) moD0.f := HF.out.1.but hB3 (by simp)
    have H := mo_begin w4 (r + 1) cl r P T moD0 h4
    have HG : Hid (RwAt w4 r (4 * P) moD0.f ∧ But [r + 1] V w4 ∧ w.heap.size ≤ r ∧ Below w.heap.size w V ∧ r + 1 < w4.heap.size) := ⟨h5, hB3, HF.out.2.2.2.2, HF.out.2.2.1, h4.lt⟩
    clear hC2 hO hw4 HW4 h3 hB3 h4 h5 HF hmk
    go_wp2_with fail
    go_at_call 39; refine H.mono ?_; rintro e w5 ⟨⟨u, rfl⟩, hC⟩
    have hD : MoLand T cl r P w4 w5 (r + 1) (.nw, moD0) := MoLand.of (s := (.nw, moD0)) HG.out.1 hC
    obtain ⟨⟨L, g1, g2⟩, g3, -⟩ := hD.mach HG.out.2.2.2.2 HG.out.1.lt (by omega)
    have hsz : Hid (∀ k ∈ L, w.heap.size ≤ k) := fun k hk => by
      have h1 := HG.out.2.2.1
      have h2 := HG.out.2.1.size
      have h3 := HG.out.2.2.2.1.size
      rcases g2 k hk with rfl | rfl | h
      · omega
      · omega
      · omega
    have HZ : Hid (moI T cl r P w5 (r + 1) (.nw, moD0) L ∧ Below w.heap.size w w5) := ⟨g1, HG.out.2.2.2.1.trans (((HG.out.2.1.more (l' := [r + 1, r]) (by intro k _ hk; simp at hk ⊢; exact .inl hk)).trans g3).below (by intro k hk; simp at hk; have := HG.out.2.2.1; omega) HG.out.2.2.2.1.size)⟩
    have hwr := HG.out.2.2.1
    clear H hC hD g1 g2 g3 HG
    go_wp2_with fail
    go_ret
    exact ⟨r + 1, r, L, rfl, HZ.out.1, HZ.out.2, hsz.out, by omega⟩
theorem hover_nil_h (w : World) : Calls Tryz.prog 49 #[.pointer none] w fun e w' => e = .returned (.int .i64 (-1)) ∧ w = w' := by
  go_enter Tryz.func49, Tryz.ntmps49
  go_wp2_with fail
  go_ret
  exact ⟨rfl, rfl⟩
theorem hover_nil_c (w : World) : Calls Tryz.prog 50 #[.pointer none] w fun e w' => e = .returned (.bool false) ∧ w = w' := by
  go_enter Tryz.func50, Tryz.ntmps50
  go_wp2_with fail
  go_ret
  exact ⟨rfl, rfl⟩
section
variable (w : World) (x cl r P : Nat) (who : Int) (t : MoP × MoD) (L : List Nat) (h : moI who cl r P w x t L)
include h
theorem mo_between : Calls Tryz.prog 13 #[.pointer (some ⟨x, 0, none⟩)] w fun e w' => e = .returned (.bool (!t.2.un)) ∧ w = w' := by
  obtain ⟨q, Lc, h1, -⟩ := h
  have c5 := h1.cell 5 (v := .bool t.2.un) rfl
  clear h1
  go_enter Tryz.func13, Tryz.ntmps13
  go_wp2_with fail
  go_ret
  exact ⟨rfl, rfl⟩
theorem mo_passes : Calls Tryz.prog 14 #[.pointer (some ⟨x, 0, none⟩)] w fun e w' => e = .returned (.int .i64 t.2.ps) ∧ w = w' := by
  obtain ⟨q, Lc, h1, -⟩ := h
  have c4 := h1.cell 4 (v := .int .i64 t.2.ps) rfl
  clear h1
  go_enter Tryz.func14, Tryz.ntmps14
  go_wp2_with fail
  go_ret
  exact ⟨rfl, rfl⟩
theorem mo_hand_none (ho : t.2.ov = none) : Calls Tryz.prog 16 #[.pointer (some ⟨x, 0, none⟩)] w fun e w' => e = .returned (.int .i64 (-1)) ∧ w = w' := by
  obtain ⟨q, Lc, h1, -⟩ := h
  have c14 := h1.cell 14 (v := .pointer t.2.ov) rfl
  rw [ho] at c14
  have H := hover_nil_h
  clear h1 ho
  go_enter Tryz.func16, Tryz.ntmps16
  go_wp2_with fail
  go_at_call 49; refine (H _).mono ?_; rintro e w1 ⟨rfl, rfl⟩
  go_wp2_with fail
  go_ret
  exact ⟨rfl, rfl⟩
theorem mo_counts_none (ho : t.2.ov = none) : Calls Tryz.prog 17 #[.pointer (some ⟨x, 0, none⟩)] w fun e w' => e = .returned (.bool false) ∧ w = w' := by
  obtain ⟨q, Lc, h1, -⟩ := h
  have c14 := h1.cell 14 (v := .pointer t.2.ov) rfl
  rw [ho] at c14
  have H := hover_nil_c
  clear h1 ho
  go_enter Tryz.func17, Tryz.ntmps17
  go_wp2_with fail
  go_at_call 50; refine (H _).mono ?_; rintro e w1 ⟨rfl, rfl⟩
  go_wp2_with fail
  go_ret
  exact ⟨rfl, rfl⟩
end
end Go.Proofs.YthjfbknmdligeaaGreat
