/- A run of a script, made up. -/
import Derived.Test.YteibdjbipfimeaaR2
import Derived.RegionCalls
namespace Go.Proofs.Yteibdjbipfimeaa
open Go Go.RowKit
set_option linter.unusedVariables false
set_option linter.unusedSimpArgs false
set_option maxRecDepth 100000

/-- A run, of the dice's state and so many threads; and how many numbers it takes. -/
def runL (S T : Nat) : List (Int × Int) :=
  if rem (num S 1) 8 = 0 then List.replicate (1 + rem (num S 2) 16) (2, 0)
  else if rem (num S 1) 8 = 1 then List.replicate (1 + rem (num S 2) 16) (3, 0)
  else if rem (num S 1) 8 = 2 then [(4, ((rem (num S 2) T : Nat) : Int))]
  else List.replicate (1 + rem (num S 3) 16) (1, ((rem (num S 2) T : Nat) : Int))
def runN (S : Nat) : Nat := if rem (num S 1) 8 = 0 ∨ rem (num S 1) 8 = 1 ∨ rem (num S 1) 8 = 2 then 2 else 3
theorem st_st2 (s j k : Nat) : st (st s j) k = st s (j + k) := by unfold st; omega
theorem num_st2 (s j k : Nat) : num (st s j) k = num s (j + k) := by unfold num; rw [st_st2]

/-- What a run answers: a row of its own at block g. -/
def Ran (w : World) (c S T : Nat) (e : Ending) (w' : World) : Prop :=
  ∃ g : Nat, e = .returned (.slice (some ⟨g, 0, none⟩) (runL S T).length (runL S T).length) ∧ w.heap.size ≤ g ∧ w'.heap[g]? = some (.cells (flat (runL S T)).toArray 48 (0, 0)) ∧ Dc w' c (st S (runN S)) ∧ But [c] w w'

theorem below_lit (w : World) (c S : Nat) (m kv : Int) (k : Nat) (hm : m = (k : Int)) (hS : S < 18446744073709551616) (h : Dc w c S) (hk : 1 ≤ k) (hk2 : k ≤ 9223372036854775807) (hkv : ((rem (num S 1) k : Nat) : Int) = kv) :
    Calls Try.prog 9 #[.pointer (some ⟨c, 0, none⟩), .int .i64 m] w fun e w' => e = .returned (.int .i64 kv) ∧ Dc w' c (st S 1) ∧ But [c] w w' := by
  subst hm; subst hkv; exact below_any w c S k hS h hk hk2

theorem repeat_lit (b cp : Nat) (k x m : Int) (c : Nat) (hm : m = (c : Int)) (h1 : 1 ≤ c) (h16 : c ≤ 16) (w : World) (e0 : w.cell? ⟨b, 0, none⟩ = some (.int .i64 k)) (e1 : w.cell? ⟨b, 1, none⟩ = some (.int .i64 x)) :
    Calls Try.prog 26 #[.slice (some ⟨b, 0, none⟩) 1 cp, .int .i64 m] w fun e w' => ∃ g : Nat, e = .returned (.slice (some ⟨g, 0, none⟩) c c) ∧ w.heap.size ≤ g ∧ w'.heap[g]? = some (.cells (flat (List.replicate c (k, x))).toArray 48 (0, 0)) ∧ Below w.heap.size w w' := by
  subst hm; exact repeat_one b 0 cp k x c h1 h16 w e0 e1

theorem run_a {Y w2 : World} {c : Nat} {k x : Int} (hB : But [c] (Y.alloc (.cells #[.int .i64 k, .int .i64 x] 48)).drew w2) (hc : c < Y.heap.size) :
    w2.cell? ⟨Y.heap.size, 0, none⟩ = some (.int .i64 k) ∧ w2.cell? ⟨Y.heap.size, 1, none⟩ = some (.int .i64 x) ∧ Hid (But [c] Y w2) := by
  have s0 : w2.heap[Y.heap.size]? = some (.cells #[.int .i64 k, .int .i64 x] 48 (0, 0)) := (hB.block Y.heap.size (by show _ < (Y.heap.push _).size; simp) (by simp; omega)).trans (heap_alloc_new Y _)
  exact ⟨by simp [World.cell?, s0], by simp [World.cell?, s0], (((But.refl _ _).alloc _).drew).trans hB⟩
theorem run_b {Y w2 : World} {c z : Nat} {k x : Int} (hB : But [c] Y.drew w2) (hY : Y.heap[z]? = some (.cells #[.int .i64 k, .int .i64 x] 48 (0, 0))) (hc : c < z) :
    w2.cell? ⟨z, 0, none⟩ = some (.int .i64 k) ∧ w2.cell? ⟨z, 1, none⟩ = some (.int .i64 x) ∧ Hid (But [c] Y w2) := by
  have s0 : w2.heap[z]? = some (.cells #[.int .i64 k, .int .i64 x] 48 (0, 0)) := (hB.block z (block_lt hY) (by simp; omega)).trans hY
  have h : But [c] Y w2 := ⟨hB.os, hB.tape, hB.output, hB.size, hB.block⟩
  exact ⟨by simp [World.cell?, s0], by simp [World.cell?, s0], h⟩

/-- What becomes of the box of the entry, at block z, behind a first number. -/
theorem box_kept {w w1 : World} {c z : Nat} {o : Obj} (hz : w.heap.size = z) (hB : But [c] (w.alloc o) w1) (hcz : c < z) : w1.heap[z]? = some o := by
  subst hz; exact (hB.block _ (by show _ < (w.heap.push _).size; simp) (by simp; omega)).trans (heap_alloc_new w o)
theorem ran_end {w Y w2 w3 : World} {c S T g n r : Nat} {k x : Int} (hb1 : Hid (But [c] w Y)) (hb2 : Hid (But [c] Y w2)) (hD : Hid (Dc w2 c (st S n))) (hL : runL S T = List.replicate (1 + r) (k, x)) (hn : runN S = n)
    (hc : w3.heap[g]? = some (.cells (flat (List.replicate (1 + r) (k, x))).toArray 48 (0, 0))) (hg : w2.heap.size ≤ g) (hb3 : Below w2.heap.size w2 w3) : Ran w c S T (.returned (.slice (some ⟨g, 0, none⟩) (1 + r) (1 + r))) w3 := by
  have hs := (hb1.out.trans hb2.out).size
  have hlt := hD.out.lt
  subst hn
  refine ⟨g, ?_, by omega, by rw [hL]; exact hc, hD.out.below hb3 hlt, (hb1.out.trans hb2.out).trans (But.of_below hb3)⟩
  rw [hL]; simp
theorem ran_end2 {w Y w2 w3 : World} {c S T g n r : Nat} {k x : Int} {o : Obj} (hb1 : Hid (But [c] w Y)) (hb2 : Hid (But [c] Y w2)) (hD : Hid (Dc w2 c (st S n))) (hL : runL S T = List.replicate (1 + r) (k, x)) (hn : runN S = n)
    (hc : w3.heap[g]? = some (.cells (flat (List.replicate (1 + r) (k, x))).toArray 48 (0, 0))) (hg : (w2.alloc o).heap.size ≤ g) (hb3 : Below (w2.alloc o).heap.size (w2.alloc o) w3) : Ran w c S T (.returned (.slice (some ⟨g, 0, none⟩) (1 + r) (1 + r))) w3 := by
  have e : (w2.alloc o).heap.size = w2.heap.size + 1 := by simp
  exact ran_end hb1 hb2 hD hL hn hc (by omega) (((Below.refl _ _).alloc (Nat.le_refl _) o).trans (hb3.mono (by omega)))

set_option maxHeartbeats 2000000 in
theorem run_0 (w : World) (c S T : Nat) (hS : S < 18446744073709551616) (h : Dc w c S) (h0 : rem (num S 1) 8 = 0) :
    Calls Try.prog 23 #[.pointer (some ⟨c, 0, none⟩), .int .i64 (T : Int)] w (Ran w c S T) := by
  have hclt := h.lt
  have HH : Hid (Dc w c S) := h
  have H0 : Hid (rem (num S 1) 8 = 0) := h0
  have HS : Hid (S < 18446744073709551616) := hS
  clear h h0 hS
  generalize hz : w.heap.size = z at hclt
  have HZ : Hid (w.heap.size = z) := hz
  go_enter Try.func23, Try.ntmps23
  go_wp2_with fail
  refine (below_lit _ c S 8 0 8 rfl HS.out (HH.out.below ((Below.refl _ _).alloc (Nat.le_refl _) _) (by omega)) (by omega) (by omega) (by rw [H0.out]; rfl)).mono ?_; rintro e w1 ⟨rfl, hD, hB⟩
  have hX := box_kept HZ.out hB hclt
  have HX : Hid (But [c] w w1) := (But.refl _ _).alloc _ |>.trans hB
  have p0 : w1.cell? ⟨z, 0, none⟩ = some (.int .i64 0) := by simp [World.cell?, hX]
  have f0 : w1.frozen? ⟨z, 0, none⟩ = false := by simp [World.frozen?, hX]
  have HXX : Hid (w1.heap[z]? = _) := hX
  have HD : Hid (Dc w1 c (st S 1)) := hD
  clear hX hD hB hz
  go_wp2_with fail
  generalize hY : w1.setCell ⟨z, 0, none⟩ (.int .i64 2) = Y
  have hYh : Y.heap[z]? = some (.cells #[.int .i64 2, .int .i64 0] 48 (0, 0)) := by rw [← hY]; exact heap_set HXX.out 0 _
  have hzs : z < Y.heap.size := block_lt hYh
  have HYD : Hid (Dc Y c (st S 1)) := by rw [← hY]; exact HD.out.but ((But.refl [z] _).set (Or.inl (by simp)) 0 _) (by simp; omega)
  have HYB : Hid (But [c] w Y) := by rw [← hY]; exact HX.out.set (Or.inr (by have := HZ.out; omega)) 0 _
  have q0 : Y.cell? ⟨z, 0, none⟩ = some (.int .i64 2) := by simp [World.cell?, hYh]
  have q1 : Y.cell? ⟨z, 1, none⟩ = some (.int .i64 0) := by simp [World.cell?, hYh]
  have HYh : Hid (Y.heap[z]? = some (.cells #[.int .i64 2, .int .i64 0] 48 (0, 0))) := hYh
  have HR : Hid (∃ r : Nat, r = rem (num S 2) 16 ∧ r < 16) := ⟨_, rfl, rem_lt _ _ (by omega)⟩
  clear hY p0 f0 hYh
  obtain ⟨r, hr, hr16⟩ := HR.out
  have HRR : Hid (((rem (num (st S 1) 1) 16 : Nat) : Int) = (r : Int)) := by show _ = _; rw [num_st2, hr]
  have HSS : Hid (st S 1 < 18446744073709551616) := st_lt _ _
  have hwr : IntKind.i64.wrap (1 + (r : Int)) = 1 + (r : Int) := IntWalk.i64_in _ (by omega)
  have HRL : Hid (runL S T = List.replicate (1 + r) (2, 0) ∧ runN S = 2) := by
    show _ ∧ _
    unfold runL runN; rw [hr]; simp [H0.out]
  clear hr HR
  go_region_with (first | (go_at_call 9; refine (below_lit _ c (st S 1) 16 r 16 rfl HSS.out (by first | exact HYD.out | exact (HYD.out.below ((Below.refl _ _).alloc (Nat.le_refl _) _).drew (by omega))) (by omega) (by omega) HRR.out).mono ?_; rintro e w2 ⟨rfl, hD2, hB2⟩; (first | obtain ⟨s1, s2, hB3⟩ := run_a hB2 (by omega) | obtain ⟨s1, s2, hB3⟩ := run_b hB2 HYh.out hclt); have HD2 : Hid (Dc w2 c (st (st S 1) 1)) := hD2; clear hB2 hD2) | (go_at_call 26; (refine (repeat_lit _ 1 2 0 (1 + r) (1 + r) (by omega) (by omega) (by omega) _ (by first | assumption | go_simp) (by first | assumption | go_simp)).mono ?_; rintro e w3 ⟨g, rfl, hg, hcl, hb3⟩)) | fail)
  all_goals
    have HD3 : Hid (Dc w2 c (st S 2)) := by have := HD2.out; rw [st_st2] at this; exact this
    have hF : Ran w c S T (.returned (.slice (some ⟨g, 0, none⟩) (1 + r) (1 + r))) w3 := by first | exact ran_end HYB hB3 HD3 HRL.out.1 HRL.out.2 hcl hg hb3 | exact ran_end2 HYB hB3 HD3 HRL.out.1 HRL.out.2 hcl hg hb3
    clear s1 s2 hcl hg hb3 q0 q1 hwr
    go_wp2_with fail
    go_ret
    exact hF

set_option maxHeartbeats 2000000 in
theorem run_1 (w : World) (c S T : Nat) (hS : S < 18446744073709551616) (h : Dc w c S) (h0 : rem (num S 1) 8 = 1) :
    Calls Try.prog 23 #[.pointer (some ⟨c, 0, none⟩), .int .i64 (T : Int)] w (Ran w c S T) := by
  have hclt := h.lt
  have HH : Hid (Dc w c S) := h
  have H0 : Hid (rem (num S 1) 8 = 1) := h0
  have HS : Hid (S < 18446744073709551616) := hS
  clear h h0 hS
  generalize hz : w.heap.size = z at hclt
  have HZ : Hid (w.heap.size = z) := hz
  go_enter Try.func23, Try.ntmps23
  go_wp2_with fail
  refine (below_lit _ c S 8 1 8 rfl HS.out (HH.out.below ((Below.refl _ _).alloc (Nat.le_refl _) _) (by omega)) (by omega) (by omega) (by rw [H0.out]; rfl)).mono ?_; rintro e w1 ⟨rfl, hD, hB⟩
  have hX := box_kept HZ.out hB hclt
  have HX : Hid (But [c] w w1) := (But.refl _ _).alloc _ |>.trans hB
  have p0 : w1.cell? ⟨z, 0, none⟩ = some (.int .i64 0) := by simp [World.cell?, hX]
  have f0 : w1.frozen? ⟨z, 0, none⟩ = false := by simp [World.frozen?, hX]
  have HXX : Hid (w1.heap[z]? = _) := hX
  have HD : Hid (Dc w1 c (st S 1)) := hD
  clear hX hD hB hz
  go_wp2_with fail
  generalize hY : w1.setCell ⟨z, 0, none⟩ (.int .i64 3) = Y
  have hYh : Y.heap[z]? = some (.cells #[.int .i64 3, .int .i64 0] 48 (0, 0)) := by rw [← hY]; exact heap_set HXX.out 0 _
  have hzs : z < Y.heap.size := block_lt hYh
  have HYD : Hid (Dc Y c (st S 1)) := by rw [← hY]; exact HD.out.but ((But.refl [z] _).set (Or.inl (by simp)) 0 _) (by simp; omega)
  have HYB : Hid (But [c] w Y) := by rw [← hY]; exact HX.out.set (Or.inr (by have := HZ.out; omega)) 0 _
  have q0 : Y.cell? ⟨z, 0, none⟩ = some (.int .i64 3) := by simp [World.cell?, hYh]
  have q1 : Y.cell? ⟨z, 1, none⟩ = some (.int .i64 0) := by simp [World.cell?, hYh]
  have HYh : Hid (Y.heap[z]? = some (.cells #[.int .i64 3, .int .i64 0] 48 (0, 0))) := hYh
  have HR : Hid (∃ r : Nat, r = rem (num S 2) 16 ∧ r < 16) := ⟨_, rfl, rem_lt _ _ (by omega)⟩
  clear hY p0 f0 hYh
  obtain ⟨r, hr, hr16⟩ := HR.out
  have HRR : Hid (((rem (num (st S 1) 1) 16 : Nat) : Int) = (r : Int)) := by show _ = _; rw [num_st2, hr]
  have HSS : Hid (st S 1 < 18446744073709551616) := st_lt _ _
  have hwr : IntKind.i64.wrap (1 + (r : Int)) = 1 + (r : Int) := IntWalk.i64_in _ (by omega)
  have HRL : Hid (runL S T = List.replicate (1 + r) (3, 0) ∧ runN S = 2) := by
    show _ ∧ _
    unfold runL runN; rw [hr]; simp [H0.out]
  clear hr HR
  go_region_with (first | (go_at_call 9; refine (below_lit _ c (st S 1) 16 r 16 rfl HSS.out (by first | exact HYD.out | exact (HYD.out.below ((Below.refl _ _).alloc (Nat.le_refl _) _).drew (by omega))) (by omega) (by omega) HRR.out).mono ?_; rintro e w2 ⟨rfl, hD2, hB2⟩; (first | obtain ⟨s1, s2, hB3⟩ := run_a hB2 (by omega) | obtain ⟨s1, s2, hB3⟩ := run_b hB2 HYh.out hclt); have HD2 : Hid (Dc w2 c (st (st S 1) 1)) := hD2; clear hB2 hD2) | (go_at_call 26; (refine (repeat_lit _ 1 3 0 (1 + r) (1 + r) (by omega) (by omega) (by omega) _ (by first | assumption | go_simp) (by first | assumption | go_simp)).mono ?_; rintro e w3 ⟨g, rfl, hg, hcl, hb3⟩)) | fail)
  all_goals
    have HD3 : Hid (Dc w2 c (st S 2)) := by have := HD2.out; rw [st_st2] at this; exact this
    have hF : Ran w c S T (.returned (.slice (some ⟨g, 0, none⟩) (1 + r) (1 + r))) w3 := by first | exact ran_end HYB hB3 HD3 HRL.out.1 HRL.out.2 hcl hg hb3 | exact ran_end2 HYB hB3 HD3 HRL.out.1 HRL.out.2 hcl hg hb3
    clear s1 s2 hcl hg hb3 q0 q1 hwr
    go_wp2_with fail
    go_ret
    exact hF

set_option maxHeartbeats 2000000 in
theorem run_2 (w : World) (c S T : Nat) (hS : S < 18446744073709551616) (hT : 1 ≤ T) (hT2 : T ≤ 256) (h : Dc w c S) (h0 : rem (num S 1) 8 = 2) :
    Calls Try.prog 23 #[.pointer (some ⟨c, 0, none⟩), .int .i64 (T : Int)] w (Ran w c S T) := by
  have hclt := h.lt
  have HH : Hid (Dc w c S) := h
  have H0 : Hid (rem (num S 1) 8 = 2) := h0
  have HS : Hid (S < 18446744073709551616) := hS
  clear h h0 hS
  generalize hz : w.heap.size = z at hclt
  have HZ : Hid (w.heap.size = z) := hz
  go_enter Try.func23, Try.ntmps23
  go_wp2_with fail
  refine (below_lit _ c S 8 2 8 rfl HS.out (HH.out.below ((Below.refl _ _).alloc (Nat.le_refl _) _) (by omega)) (by omega) (by omega) (by rw [H0.out]; rfl)).mono ?_; rintro e w1 ⟨rfl, hD, hB⟩
  have HX : Hid (But [c] w w1) := (But.refl _ _).alloc _ |>.trans hB
  have HD : Hid (Dc w1 c (st S 1)) := hD
  clear hD hB hz
  have HSS : Hid (st S 1 < 18446744073709551616) := st_lt _ _
  go_wp2_with fail
  refine (below_any _ c (st S 1) T HSS.out HD.out (by omega) (by omega)).mono ?_; rintro e w2 ⟨rfl, hD2, hB2⟩
  rw [num_st2]
  have HD2 : Hid (Dc w2 c (st (st S 1) 1)) := hD2
  have HB2 : Hid (But [c] w1 w2) := hB2
  have HRL : Hid (runL S T = [(4, ((rem (num S 2) T : Nat) : Int))] ∧ runN S = 2) := by
    show _ ∧ _
    unfold runL runN; simp [H0.out]
  clear hD2 hB2
  generalize rem (num S (1 + 1)) T = u at *
  go_wp2_with fail
  go_ret
  refine ⟨w2.heap.size, by rw [HRL.out.1]; rfl, (HX.out.trans HB2.out).size, by rw [HRL.out.1]; exact heap_alloc_new _ _, ?_, (HX.out.trans HB2.out).alloc _⟩
  rw [HRL.out.2]
  have e := HD2.out
  rw [st_st2] at e
  exact e.below ((Below.refl _ _).alloc (Nat.le_refl _) _) e.lt

set_option maxHeartbeats 2000000 in
theorem run_x (w : World) (c S T : Nat) (hS : S < 18446744073709551616) (hT : 1 ≤ T) (hT2 : T ≤ 256) (h : Dc w c S) (h0 : 3 ≤ rem (num S 1) 8) :
    Calls Try.prog 23 #[.pointer (some ⟨c, 0, none⟩), .int .i64 (T : Int)] w (Ran w c S T) := by
  have hclt := h.lt
  have HH : Hid (Dc w c S) := h
  have H0 : Hid (3 ≤ rem (num S 1) 8) := h0
  have HS : Hid (S < 18446744073709551616) := hS
  clear h h0 hS
  generalize hz : w.heap.size = z at hclt
  have HZ : Hid (w.heap.size = z) := hz
  go_enter Try.func23, Try.ntmps23
  go_wp2_with fail
  obtain ⟨kv, HKV⟩ : ∃ kv : Int, Hid (((rem (num S 1) 8 : Nat) : Int) = kv) := ⟨_, rfl⟩
  have n0 : ¬ kv = 0 := by have := HKV.out; have := H0.out; omega
  have n1 : ¬ kv = 1 := by have := HKV.out; have := H0.out; omega
  have n2 : ¬ kv = 2 := by have := HKV.out; have := H0.out; omega
  refine (below_lit _ c S 8 kv 8 rfl HS.out (HH.out.below ((Below.refl _ _).alloc (Nat.le_refl _) _) (by omega)) (by omega) (by omega) HKV.out).mono ?_; rintro e w1 ⟨rfl, hD, hB⟩
  have hX := box_kept HZ.out hB hclt
  have HX : Hid (But [c] w w1) := (But.refl _ _).alloc _ |>.trans hB
  have HXX : Hid (w1.heap[z]? = _) := hX
  have HD : Hid (Dc w1 c (st S 1)) := hD
  have HSS1 : Hid (st S 1 < 18446744073709551616) := st_lt _ _
  have d0 : (kv == 0) = false := by simpa using n0
  have d1 : (kv == 1) = false := by simpa using n1
  have d2 : (kv == 2) = false := by simpa using n2
  clear hX hD hB hz n0 n1 n2
  go_wp2_with fail
  refine (below_any _ c (st S 1) T HSS1.out HD.out (by omega) (by omega)).mono ?_; rintro e w2 ⟨rfl, hD2, hB2⟩
  rw [num_st2]
  have hX := (hB2.block z (block_lt HXX.out) (by simp; omega)).trans HXX.out
  have HX2 : Hid (But [c] w w2) := HX.out.trans hB2
  have HXX2 : Hid (w2.heap[z]? = _) := hX
  have HD2 : Hid (Dc w2 c (st S 2)) := by rw [st_st2] at hD2; exact hD2
  have p0 : w2.cell? ⟨z, 0, none⟩ = some (.int .i64 0) := by simp [World.cell?, hX]
  have f0 : w2.frozen? ⟨z, 0, none⟩ = false := by simp [World.frozen?, hX]
  have p1 : w2.cell? ⟨z, 1, none⟩ = some (.int .i64 0) := by simp [World.cell?, hX]
  have f1 : w2.frozen? ⟨z, 1, none⟩ = false := by simp [World.frozen?, hX]
  obtain ⟨u, HU⟩ : ∃ u : Int, Hid (((rem (num S 2) T : Nat) : Int) = u) := ⟨_, rfl⟩
  rw [show ((rem (num S (1 + 1)) T : Nat) : Int) = u from HU.out]
  clear hD2 hB2 hX HD HXX HX
  go_wp2_with fail
  generalize hY : (w2.setCell ⟨z, 0, none⟩ (.int .i64 1)).setCell ⟨z, 1, none⟩ (.int .i64 u) = Y
  have hYh : Y.heap[z]? = some (.cells #[.int .i64 1, .int .i64 u] 48 (0, 0)) := by rw [← hY]; exact heap_set (heap_set HXX2.out 0 _) 1 _
  have hzs : z < Y.heap.size := block_lt hYh
  have HYD : Hid (Dc Y c (st S 2)) := by rw [← hY]; exact HD2.out.but (((But.refl [z] _).set (Or.inl (by simp)) 0 _).set (Or.inl (by simp)) 1 _) (by simp; omega)
  have HYB : Hid (But [c] w Y) := by rw [← hY]; exact (HX2.out.set (Or.inr (by have := HZ.out; omega)) 0 _).set (Or.inr (by have := HZ.out; omega)) 1 _
  have q0 : Y.cell? ⟨z, 0, none⟩ = some (.int .i64 1) := by simp [World.cell?, hYh]
  have q1 : Y.cell? ⟨z, 1, none⟩ = some (.int .i64 u) := by simp [World.cell?, hYh]
  have HYh : Hid (Y.heap[z]? = some (.cells #[.int .i64 1, .int .i64 u] 48 (0, 0))) := hYh
  have HR : Hid (∃ r : Nat, r = rem (num S 3) 16 ∧ r < 16) := ⟨_, rfl, rem_lt _ _ (by omega)⟩
  clear hY p0 f0 p1 f1 hYh
  obtain ⟨r, hr, hr16⟩ := HR.out
  have HRR : Hid (((rem (num (st S 2) 1) 16 : Nat) : Int) = (r : Int)) := by show _ = _; rw [num_st2, hr]
  have HSS : Hid (st S 2 < 18446744073709551616) := st_lt _ _
  have hwr : IntKind.i64.wrap (1 + (r : Int)) = 1 + (r : Int) := IntWalk.i64_in _ (by omega)
  have HRL : Hid (runL S T = List.replicate (1 + r) (1, u) ∧ runN S = 3) := by
    show _ ∧ _
    have a := H0.out; have a0 : ¬ rem (num S 1) 8 = 0 := by omega
    have a1 : ¬ rem (num S 1) 8 = 1 := by omega
    have a2 : ¬ rem (num S 1) 8 = 2 := by omega
    unfold runL runN; rw [hr, HU.out]; simp [a0, a1, a2]
  clear hr HR
  go_region_with (first | (go_at_call 9; refine (below_lit _ c (st S 2) 16 r 16 rfl HSS.out (by first | exact HYD.out | exact (HYD.out.below ((Below.refl _ _).alloc (Nat.le_refl _) _).drew (by omega))) (by omega) (by omega) HRR.out).mono ?_; rintro e w4 ⟨rfl, hD2, hB2⟩; (first | obtain ⟨s1, s2, hB3⟩ := run_a hB2 (by omega) | obtain ⟨s1, s2, hB3⟩ := run_b hB2 HYh.out hclt); have HD2 : Hid (Dc w4 c (st (st S 2) 1)) := hD2; clear hB2 hD2) | (go_at_call 26; (refine (repeat_lit _ 1 1 u (1 + r) (1 + r) (by omega) (by omega) (by omega) _ (by first | assumption | go_simp) (by first | assumption | go_simp)).mono ?_; rintro e w5 ⟨g, rfl, hg, hcl, hb3⟩)) | fail)
  all_goals
    have HD3 : Hid (Dc w4 c (st S 3)) := by have := HD2.out; rw [st_st2] at this; exact this
    have hF : Ran w c S T (.returned (.slice (some ⟨g, 0, none⟩) (1 + r) (1 + r))) w5 := by first | exact ran_end HYB hB3 HD3 HRL.out.1 HRL.out.2 hcl hg hb3 | exact ran_end2 HYB hB3 HD3 HRL.out.1 HRL.out.2 hcl hg hb3
    clear s1 s2 hcl hg hb3 q0 q1 hwr
    go_wp2_with fail
    go_ret
    exact hF

theorem run_any (w : World) (c S T : Nat) (hS : S < 18446744073709551616) (hT : 1 ≤ T) (hT2 : T ≤ 256) (h : Dc w c S) :
    Calls Try.prog 23 #[.pointer (some ⟨c, 0, none⟩), .int .i64 (T : Int)] w (Ran w c S T) := by
  by_cases h0 : rem (num S 1) 8 = 0
  · exact run_0 w c S T hS h h0
  by_cases h1 : rem (num S 1) 8 = 1
  · exact run_1 w c S T hS h h1
  by_cases h2 : rem (num S 1) 8 = 2
  · exact run_2 w c S T hS hT hT2 h h2
  · exact run_x w c S T hS hT hT2 h (by omega)
end Go.Proofs.Yteibdjbipfimeaa
