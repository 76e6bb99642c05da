/- slices.Repeat of one entry. -/
import Derived.Test.YtemdhcegelddlaaDoorE1
import Derived.Lib.SlBuf
import Derived.Laws.CopyOwn
import Derived.Laws.MakeOwn
import Derived.BigRegion
import Derived.Deep.RegionLaw
namespace Go.Proofs.YtemdhcegelddlaaDoor
open Go Go.RowKit
set_option linter.unusedVariables false
set_option linter.unusedSimpArgs false

/-- c entries laid, the rest not yet -/
def half (e : En) (c n : Nat) : Array Value := (flat (List.replicate c e) ++ flat (List.replicate (n - c) ⟨0, 0⟩)).toArray
theorem half_size (e : En) (c n : Nat) (h : c ≤ n) : (half e c n).size = n * 2 := by
  simp only [half, List.size_toArray, List.length_append, flat_len, List.length_replicate]
  omega
theorem flat_rep_take (e : En) (c m : Nat) (h : m ≤ c) : (flat (List.replicate c e)).take (m * 2) = flat (List.replicate m e) := by
  have : List.replicate c e = List.replicate m e ++ List.replicate (c - m) e := by rw [List.replicate_append_replicate]; congr 1; omega
  rw [this, flat_app, List.take_append_of_le_length (by rw [flat_len]; simp), List.take_of_length_le (by rw [flat_len]; simp)]
theorem flat_rep_drop (e : En) (c m : Nat) (h : m ≤ c) : (flat (List.replicate c e)).drop (m * 2) = flat (List.replicate (c - m) e) := by
  have : List.replicate c e = List.replicate m e ++ List.replicate (c - m) e := by rw [List.replicate_append_replicate]; congr 1; omega
  rw [this, flat_app, List.drop_append_of_le_length (by rw [flat_len]; simp), List.drop_of_length_le (by rw [flat_len]; simp), List.nil_append]
/-- one more copy -/
theorem half_next (e : En) (c m n : Nat) (hm : m ≤ n - c) (hc : c ≤ n) : ((half e c n).toList.take (c * 2) ++ flat (List.replicate m e) ++ (half e c n).toList.drop (c * 2 + (flat (List.replicate m e)).length)).toArray = half e (c + m) n := by
  unfold half
  congr 1
  have e1 : (flat (List.replicate c e) ++ flat (List.replicate (n - c) ⟨0, 0⟩)).take (c * 2) = flat (List.replicate c e) := by
    rw [List.take_append_of_le_length (by rw [flat_len]; simp), List.take_of_length_le (by rw [flat_len]; simp)]
  have e2 : (flat (List.replicate c e) ++ flat (List.replicate (n - c) ⟨0, 0⟩)).drop (c * 2 + (flat (List.replicate m e)).length) = flat (List.replicate (n - (c + m)) ⟨0, 0⟩) := by
    rw [flat_len, List.length_replicate, ← List.drop_drop]
    have e3 : (flat (List.replicate c e) ++ flat (List.replicate (n - c) ⟨0, 0⟩)).drop (c * 2) = flat (List.replicate (n - c) ⟨0, 0⟩) := by
      rw [List.drop_append_of_le_length (by rw [flat_len]; simp), List.drop_of_length_le (by rw [flat_len]; simp), List.nil_append]
    rw [e3, flat_rep_drop _ _ _ hm]
    congr 2
    omega
  show (flat (List.replicate c e) ++ flat (List.replicate (n - c) ⟨0, 0⟩)).take (c * 2) ++ _ ++ (flat (List.replicate c e) ++ flat (List.replicate (n - c) ⟨0, 0⟩)).drop _ = _
  rw [e1, e2, ← flat_app, List.replicate_append_replicate]
theorem flat_zero (n : Nat) : ∀ v ∈ flat (List.replicate n (⟨0, 0⟩ : En)), v = .int .i64 0 := by
  induction n with
  | zero => intro v hv; simp [flat] at hv
  | succ n ih =>
    intro v hv
    rw [List.replicate_succ] at hv
    simp only [flat, List.mem_cons] at hv
    rcases hv with rfl | rfl | hv
    · rfl
    · rfl
    · exact ih v hv
theorem made_half (e : En) (n : Nat) : madeCells #[.int .i64 0, .int .i64 0] (n * 2) = half e 0 n := by
  apply Array.ext
  · rw [size_madeCells, half_size e 0 n (by omega)]
  · intro i h1 h2
    have hr : (half e 0 n)[i] = .int .i64 0 := by
      have hm : (half e 0 n)[i] ∈ flat (List.replicate n (⟨0, 0⟩ : En)) := by
        have : (half e 0 n).toList = flat (List.replicate n (⟨0, 0⟩ : En)) := by simp [half, flat]
        rw [← this]
        exact Array.getElem_mem_toList h2
      exact flat_zero n _ hm
    rw [hr]
    have hm : i % 2 = 0 ∨ i % 2 = 1 := by omega
    simp only [madeCells, Array.getElem_map, Array.getElem_range]
    rcases hm with hm | hm <;> simp [hm]
theorem step_copy_run {P : Program} (w : World) {ops : Array Oper} {o : Oper} {a : Act} {K : Act → World → Prop} {Q : Exit → Act → World → Prop} {E : Prop} (hgd : o.guard = none) (d s : Operand) (t t' : TypeId)
    (ho : o.op = .call { callee := .builtin .copy, args := #[d, s], argTypes := #[t, t'] }) (v u : Value) (hd : a.eval d = v) (hs : a.eval s = u) {v' : Value} {w' : World}
    (hr : (Builtin.copy_ #[t, t'] o.type #[v, u]).run P w = .ok v' w') (h : K (a.put o.dst v') w') : if Region.wanted o (yielded ops a.tmps) = true then Oper.wp P o a w K Q else E := by
  have hw : Region.wanted o (yielded ops a.tmps) = true := by simp [Region.wanted, hgd]
  rw [if_pos hw]
  exact Lib.wp_copy_run w d s t t' ho v u hd hs hr h
/-- one copy within the row -/
theorem copy_half (e : En) (c m n G : Nat) (w : World) (ty : TypeId) (hm : m = Nat.min c (n - c)) (hc : 1 ≤ c ∧ c < n) (hg : w.heap[G]? = some (.cells (half e c n) 36 (0, 0))) :
    (Builtin.copy_ #[33, 33] ty #[.slice (some ⟨G, c * 2, none⟩) (n - c) (n - c), .slice (some ⟨G, 0, none⟩) c n]).run Tryd.prog w = .ok (.int .i64 (m : Int)) (w.setRow G (half e (c + m) n)) := by
  obtain ⟨i0, hi, hz0, hz1, hz2⟩ := info_parts info36
  have hm2 : m ≤ c ∧ m ≤ n - c := by subst hm; exact ⟨Nat.min_le_left _ _, Nat.min_le_right _ _⟩
  have h := run_copy_rowN (P := Tryd.prog) w 33 33 ty 36 G (c * 2) (n - c) (n - c) ⟨G, 0, none⟩ c n (half e c n) 36 (flat (List.replicate m e)) 2 Tryd.underlying33 (by rw [hi]; simp [hz1]) hg (by rw [flat_len, List.length_replicate, hm]) (fun j v hj => by
    refine World.news_of_block hg j v ?_
    have hjl : j < m * 2 := by
      rcases Nat.lt_or_ge j (m * 2) with h | h
      · exact h
      · rw [List.getElem?_eq_none (by rw [flat_len, List.length_replicate]; omega)] at hj; cases hj
    rw [← flat_rep_take e c m hm2.1, List.getElem?_take, if_pos hjl] at hj
    show (flat (List.replicate c e) ++ flat (List.replicate (n - c) ⟨0, 0⟩))[j]? = some v
    rw [List.getElem?_append_left (by rw [flat_len, List.length_replicate]; omega)]
    exact hj) (by rw [flat_len, List.length_replicate, half_size e c n (by omega)]; omega) (flat_one _)
  rw [h, half_next e c m n hm2.2 (by omega), ← hm]
  rfl
theorem copy_first (e : En) (n G g0 : Nat) (w : World) (ty : TypeId) (hn : 1 ≤ n) (hg : w.heap[G]? = some (.cells (half e 0 n) 36 (0, 0))) (h0 : w.cell? ⟨g0, 0, none⟩ = some (.int .i64 e.k)) (h1 : w.cell? ⟨g0, 1, none⟩ = some (.int .i64 e.w)) :
    (Builtin.copy_ #[33, 33] ty #[.slice (some ⟨G, 0, none⟩) n n, .slice (some ⟨g0, 0, none⟩) 1 1]).run Tryd.prog w = .ok (.int .i64 1) (w.setRow G (half e 1 n)) := by
  obtain ⟨i0, hi, hz0, hz1, hz2⟩ := info_parts info36
  have hmin : Nat.min 1 n = 1 := Nat.min_eq_left hn
  have h := run_copy_rowN (P := Tryd.prog) w 33 33 ty 36 G 0 n n ⟨g0, 0, none⟩ 1 1 (half e 0 n) 36 (flat (List.replicate 1 e)) 2 Tryd.underlying33 (by rw [hi]; simp [hz1]) hg (by rw [hmin]; rfl) (fun j v hj => by
    have hjl : j = 0 ∨ j = 1 := by
      rcases Nat.lt_or_ge j 2 with h | h
      · omega
      · rw [List.getElem?_eq_none (by simp [flat]; omega)] at hj; cases hj
    rcases hjl with rfl | rfl
    · have : v = .int .i64 e.k := by simpa [flat] using hj.symm
      rw [this]; simpa [Addr.add] using h0
    · have : v = .int .i64 e.w := by simpa [flat] using hj.symm
      rw [this]; simpa [Addr.add] using h1) (by rw [half_size e 0 n (by omega)]; simp [flat]; omega) (flat_one _)
  have hx := half_next e 0 1 n (by omega) (by omega)
  rw [Nat.zero_mul] at hx
  rw [h, hx, hmin]
  rfl

set_option maxRecDepth 100000 in
set_option maxHeartbeats 4000000 in
theorem repeat_any (g0 : Nat) (e : En) (n : Nat) (hn : 1 ≤ n ∧ n ≤ 65536) (w : World) (h0 : w.cell? ⟨g0, 0, none⟩ = some (.int .i64 e.k)) (h1 : w.cell? ⟨g0, 1, none⟩ = some (.int .i64 e.w)) :
    Calls Tryd.prog 38 #[.slice (some ⟨g0, 0, none⟩) 1 1, .int .i64 (n : Int)] w fun r w' => ∃ g, r = .returned (.slice (some ⟨g, 0, none⟩) n n) ∧ w'.heap[g]? = some (.cells (half e n n) 36 (0, 0)) ∧ w.heap.size ≤ g ∧ Below w.heap.size w w' := by
  obtain ⟨i0, hi, hz0, hz1, hz2⟩ := info_parts info36
  have HM := Lib.hid (bits_Mul 1 n (by decide) (by omega) w)
  have e1 : (1 * n / 18446744073709551616 : Nat) = 0 := by omega
  have e2 : (1 * n % 18446744073709551616 : Nat) = n := by omega
  rw [e1, e2] at HM
  clear e1 e2
  have hmk : (Instr.makeSlice 33 (.int .i64 (n : Int)) (.int .i64 (n : Int))).run Tryd.prog w = .ok (.slice (some ⟨w.heap.size, 0, none⟩) n n) (w.alloc (.cells (half e 0 n) 36)) := by
    have h := run_make (P := Tryd.prog) w 33 36 i0 _ Tryd.underlying33 hi hz0 .i64 .i64 (n : Int) (n : Int) (by omega) (by omega) (by rw [hz2]; omega) (by omega)
    rw [h, hz1, Int.toNat_natCast, ← made_half e n]
    rfl
  have HG : Hid ((w.alloc (.cells (half e 0 n) 36)).heap[w.heap.size]? = some (.cells (half e 0 n) 36 (0, 0))) := heap_alloc_new _ _
  have HBA := Lib.hid ((Below.refl w.heap.size w).alloc (Nat.le_refl _) (.cells (half e 0 n) 36))
  have hlt : g0 < w.heap.size := cell_lt h0
  have HCF := Lib.hid (fun ty => copy_first e n w.heap.size g0 (w.alloc (.cells (half e 0 n) 36)) ty hn.1 HG.out (by rw [World.cell?_of_block (heap_al w hlt _)]; exact h0) (by rw [World.cell?_of_block (heap_al w hlt _)]; exact h1))
  have HN := Lib.hid hn
  have hn0 : ¬ (n : Int) < 0 := by omega
  have hn1 : (n : Int) ≤ 65536 := by omega
  clear hn h0 h1 hlt
  go_enter Tryd.func38, Tryd.ntmps38
  go_wp2_with fail
  change Calls Tryd.prog 57 #[.int .u64 ((1 : Nat) : Int), .int .u64 (n : Int)] w _
  go_at_call 57
  refine HM.out.mono ?_
  rintro r w1 ⟨rfl, rfl⟩
  have hcf := HCF.out 3
  go_wp2_with fail
  have HS0 : Hid (((w1.alloc (.cells (half e 0 n) 36)).setRow w1.heap.size (half e 1 n)).heap[w1.heap.size]? = some (.cells (half e 1 n) 36 (0, 0)) ∧ Below w1.heap.size w1 ((w1.alloc (.cells (half e 0 n) 36)).setRow w1.heap.size (half e 1 n))) := ⟨setRow_heap _ _ _ _ _ _ HG.out, below_setRow HBA.out (Nat.le_refl _) _⟩
  generalize (w1.alloc (.cells (half e 0 n) 36)).setRow w1.heap.size (half e 1 n) = Y at *
  clear hmk HM HCF HG HBA hcf
  go_loopw [8] (fun i wx => ∃ c : Nat, i = .int .i64 (c : Int) ∧ 1 ≤ c ∧ c ≤ n ∧ Hid (wx.heap[w1.heap.size]? = some (.cells (half e c n) 36 (0, 0)) ∧ Below w1.heap.size w1 wx)) (fun i _ => n - (intOf i).toNat)
  case atStart => exact ⟨1, rfl, by omega, HN.out.1, HS0⟩
  case round =>
    obtain ⟨c, rfl, hc1, hc2, HX⟩ := hrel
    by_cases hcn : c < n
    · have hci : (c : Int) < (n : Int) := by omega
      have hc0 : ¬ n - c = 0 := by omega
      have hc0' : ¬ n ≤ c := by omega
      obtain ⟨m, hm⟩ : ∃ m, m = Nat.min c (n - c) := ⟨_, rfl⟩
      have HM2 : Hid (1 ≤ m ∧ c + m ≤ n) := by
        have h1 : m ≤ c := by rw [hm]; exact Nat.min_le_left _ _
        have h2 : m ≤ n - c := by rw [hm]; exact Nat.min_le_right _ _
        have h3 : 1 ≤ m := by rw [hm]; exact Nat.le_min.2 ⟨by omega, by omega⟩
        show 1 ≤ m ∧ c + m ≤ n
        omega
      have HCH := Lib.hid (fun ty => copy_half e c m n w1.heap.size wr.drew ty hm ⟨hc1, hcn⟩ HX.out.1)
      have HNX : Hid ((wr.drew.setRow w1.heap.size (half e (c + m) n)).heap[w1.heap.size]? = some (.cells (half e (c + m) n) 36 (0, 0)) ∧ Below w1.heap.size w1 (wr.drew.setRow w1.heap.size (half e (c + m) n))) := ⟨setRow_heap wr.drew _ _ _ _ _ HX.out.1, below_setRow HX.out.2.drew (Nat.le_refl _) _⟩
      have hmi : (m : Int) ≤ 65536 := by have := HM2.out; omega
      have hm0 : (0 : Int) ≤ (m : Int) := by omega
      clear hm
      go_wp2_with fail
      have hch := HCH.out 3
      go_region
      go_wp2_with fail
      go_roundw
      case rel => exact ⟨c + m, by go_num, by omega, HM2.out.2, HNX⟩
      case measure => have := HM2.out; simp [intOf]; omega
    · obtain rfl : c = n := by omega
      have hci : ¬ (c : Int) < (c : Int) := by omega
      go_wp2_with fail
      go_ret
      exact ⟨w1.heap.size, rfl, HX.out.1, Nat.le_refl _, HX.out.2⟩
end Go.Proofs.YtemdhcegelddlaaDoor
