/- The agenda's methods: First, At, Drop, Move. -/
import Derived.Test.YtideofojmgmboaaC3
namespace Go.Proofs.Ytideofojmgmboaa
open Go Go.RowKit
set_option linter.unusedVariables false
set_option linter.unusedSimpArgs false
set_option maxRecDepth 100000
variable {w : World} {a : Nat} {F : Nat → Prop} {L : List It}

theorem first_ok (h : Ag w a F L) (h0 : 0 < L.length) : Calls Try.prog 7 #[.pointer (some ⟨a, 0, none⟩)] w fun e w' => e = .returned (.tuple #[itV (at_ L 0), .bool true]) ∧ Below w.heap.size w w' := by
  have BA := (Below.refl w.heap.size w).alloc (Nat.le_refl _) (.cells #[.int .i64 0, .int .i64 0] 23)
  have hA := h.below BA
  have HL := Lib.hid (Len_ag hA)
  have HB := Lib.hid BA
  have HN := Lib.hid (heap_alloc_new w (.cells #[.int .i64 0, .int .i64 0] 23))
  have r0 := cell_of HN.out 0
  have r1 := cell_of HN.out 1
  have g0 := frozen_of HN.out 0
  have g1 := frozen_of HN.out 1
  simp only [List.getElem?_toArray, List.getElem?_cons_succ, List.getElem?_cons_zero] at r0 r1
  rcases hA.2 with ⟨_, rfl⟩ | ⟨lb, mb, cap, clk, ⟨cur, M, h2⟩, _, _⟩
  · simp at h0
  have c0 := h2.c0
  have l0 := h2.l0 (i := 0) h0
  have l1 := h2.l1 (i := 0) h0
  rw [Nat.zero_mul] at l0 l1
  rw [Nat.zero_add] at l1
  have hn0 : ¬ ((L.length : Int) = 0) := by omega
  have hn1 : (((L.length : Nat) : Int) == 0) = false := by simpa using hn0
  have hn2 : 0 < L.length := h0
  clear h hA h2 BA h0
  generalize at_ L 0 = x at *
  obtain ⟨d, k⟩ := x
  unfold itV
  simp only at l0 l1
  generalize L.length = n at *
  go_enter Try.func7, Try.ntmps7
  go_wp2_with fail
  generalize hW : w.alloc (.cells #[.int .i64 0, .int .i64 0] 23) = W at *
  generalize hbw : w.heap.size = B at *
  clear hW
  go_at_call 15; refine HL.out.mono ?_; rintro e w1 ⟨rfl, rfl⟩
  go_wp2_with fail
  have zb : ((w1.setCell ⟨B, 0, none⟩ (.int .i64 d)).setCell ⟨B, 1, none⟩ (.int .i64 k)).heap[B]? = some (.cells #[.int .i64 d, .int .i64 k] 23 (0, 0)) := by rw [heap_set (heap_set HN.out 0 _) 1 _]; rfl
  exact bodyPost_ret (v := .tuple #[.agg #[.int .i64 d, .int .i64 k], .bool true]) (res_pair rfl _ _ B _ _ rfl rfl (run_loadVar_row _ B 23 23 #[.int .i64 d, .int .i64 k] (0, 0) _ zb Try.underlying23 rfl size23)) rfl
    ⟨rfl, by rw [hbw]; exact (HB.out.setCell (p := ⟨B, 0, none⟩) (Nat.le_refl _) _).setCell (p := ⟨B, 1, none⟩) (Nat.le_refl _) _⟩
theorem at_no (h : Ag w a F L) (k : Int) (hp : pos L k = none) : Calls Try.prog 8 #[.pointer (some ⟨a, 0, none⟩), .int .i64 k] w fun e w' => e = .returned (.tuple #[.int .i64 0, .bool false]) ∧ w' = w := by
  have HP := Lib.hid (place_ag h k)
  rw [hp] at HP
  simp only [Option.isSome_none, Option.getD_none] at HP
  clear h hp
  go_enter Try.func8, Try.ntmps8
  go_wp2_with fail
  go_at_call 22; refine HP.out.mono ?_; rintro e w1 ⟨rfl, rfl⟩
  go_wp2_with fail
  go_ret2
  simp
theorem at_some (h : Ag w a F L) (k : Int) (i : Nat) (hp : pos L k = some i) : Calls Try.prog 8 #[.pointer (some ⟨a, 0, none⟩), .int .i64 k] w fun e w' => e = .returned (.tuple #[.int .i64 (at_ L i).1, .bool true]) ∧ w' = w := by
  have HP := Lib.hid (place_ag h k)
  obtain ⟨hi, _⟩ := pos_some hp
  rw [hp] at HP
  simp only [Option.isSome_some, Option.getD_some] at HP
  rcases h.2 with ⟨_, rfl⟩ | ⟨lb, mb, cap, clk, ⟨cur, M, h2⟩, _, _⟩
  · simp at hi
  have c0 := h2.c0
  have l0 := h2.l0 hi
  clear h hp h2
  generalize at_ L i = x at *
  generalize L.length = n at *
  go_enter Try.func8, Try.ntmps8
  go_wp2_with fail
  go_at_call 22; refine HP.out.mono ?_; rintro e w1 ⟨rfl, rfl⟩
  go_wp2_with fail
  go_ret2
  simp
theorem drop_no (h : Ag w a F L) (k : Int) (hp : pos L k = none) : Calls Try.prog 11 #[.pointer (some ⟨a, 0, none⟩), .int .i64 k] w fun e w' => e = .returned (.bool false) ∧ w' = w := by
  have HP := Lib.hid (place_ag h k)
  rw [hp] at HP
  simp only [Option.isSome_none, Option.getD_none] at HP
  clear h hp
  go_enter Try.func11, Try.ntmps11
  go_wp2_with fail
  go_at_call 22; refine HP.out.mono ?_; rintro e w1 ⟨rfl, rfl⟩
  go_wp2_with fail
  go_ret
  simp
theorem drop_some (h : Ag w a F L) (k : Int) (i : Nat) (hp : pos L k = some i) (hcap : L.length < 2305843009213693951) : Calls Try.prog 11 #[.pointer (some ⟨a, 0, none⟩), .int .i64 k] w fun e w' => e = .returned (.bool true) ∧ Kp F w w' ∧ Ag w' a (And0 F w.heap.size) (hrem L i) := by
  have HP := Lib.hid (place_ag h k)
  obtain ⟨hi, _⟩ := pos_some hp
  rw [hp] at HP
  simp only [Option.isSome_some, Option.getD_some] at HP
  rcases h.2 with ⟨_, rfl⟩ | ⟨lb, mb, cap, clk, h2, h3, h4⟩
  · simp at hi
  have hF := h.1
  obtain ⟨n, hn⟩ : ∃ n, L.length = n + 1 := ⟨L.length - 1, by omega⟩
  have HR := Lib.hid (heapRem_any swap_c L i n hn hi hcap h2)
  have HF := Lib.hid (And.intro hF (And.intro h3 h4))
  clear h h2 hp hn hi hcap hF h3 h4
  go_enter Try.func11, Try.ntmps11
  go_wp2_with fail
  go_at_call 22; refine HP.out.mono ?_; rintro e w1 ⟨rfl, rfl⟩
  go_wp2_with fail
  go_at_call 24; refine HR.out.mono ?_; rintro e w2 ⟨⟨v, rfl⟩, hb, ha⟩
  have HX := Lib.hid (ag_of HF.out.1 HF.out.2.1 HF.out.2.2 hb ha)
  clear hb ha
  go_wp2_with fail
  go_ret
  exact ⟨rfl, HX.out⟩
theorem move_no (h : Ag w a F L) (k d : Int) (hp : pos L k = none) : Calls Try.prog 12 #[.pointer (some ⟨a, 0, none⟩), .int .i64 k, .int .i64 d] w fun e w' => e = .returned (.bool false) ∧ w' = w := by
  have HP := Lib.hid (place_ag h k)
  rw [hp] at HP
  simp only [Option.isSome_none, Option.getD_none] at HP
  clear h hp
  go_enter Try.func12, Try.ntmps12
  go_wp2_with fail
  go_at_call 22; refine HP.out.mono ?_; rintro e w1 ⟨rfl, rfl⟩
  go_wp2_with fail
  go_ret
  simp
theorem flat_set0 : ∀ (l : List It) (i : Nat) (d : Int), i < l.length → (flat l).set (2 * i) (.int .i64 d) = flat (l.set i (d, (at_ l i).2))
  | p :: l, 0, d, h => rfl
  | p :: l, i + 1, d, h => by
    rw [show 2 * (i + 1) = 2 * i + 1 + 1 by omega]
    simp only [flat, List.set_cons_succ]
    rw [flat_set0 l i d (by simpa using h)]
    rfl
theorem Mok.due {M : List Ent} {clk : Nat} (h : Mok M clk L) (i : Nat) (d : Int) (hi : i < L.length) : Mok M clk (L.set i (d, (at_ L i).2)) := by
  refine ⟨h.keys, h.born, h.time, fun k v => ?_⟩
  rw [h.says k v, List.length_set]
  refine exists_congr fun t => ?_
  have : (at_ (L.set i (d, (at_ L i).2)) t).2 = (at_ L t).2 := by
    rw [at_set _ _ _ hi]
    split
    · rename_i e; rw [e]
    · rfl
  rw [this]
theorem move_some (h : Ag w a F L) (k d : Int) (i : Nat) (hp : pos L k = some i) (hcap : L.length < 2305843009213693951) : Calls Try.prog 12 #[.pointer (some ⟨a, 0, none⟩), .int .i64 k, .int .i64 d] w fun e w' => e = .returned (.bool true) ∧ Kp F w w' ∧ Ag w' a (And0 F w.heap.size) (hfixAt (L.set i (d, k)) i L.length) := by
  have HP := Lib.hid (place_ag h k)
  obtain ⟨hi, hk⟩ := pos_some hp
  rw [hp] at HP
  simp only [Option.isSome_some, Option.getD_some] at HP
  rcases h.2 with ⟨_, rfl⟩ | ⟨lb, mb, cap, clk, ⟨cur, M, h2⟩, h3, h4⟩
  · simp at hi
  have hF := h.1
  have HF := Lib.hid (And.intro hF (And.intro h3 h4))
  have c0 := h2.c0
  have l0 := h2.l0 hi
  have f0 := frozen_of h2.hl (i * 2)
  obtain ⟨n1, n2, n3⟩ := h2.ne
  have hset : L.set i (d, k) = L.set i (d, (at_ L i).2) := by rw [hk]
  have HA : Hid (AgL (w.setCell ⟨lb, i * 2, none⟩ (.int .i64 d)) a lb mb cap clk (L.set i (d, k))) := by
    rw [hset]
    refine ⟨cur.setIfInBounds (i * 2) (.int .i64 d), M, ?_, ?_, ?_, ?_, ?_, ?_, h2.mok.due i d hi⟩
    · rw [heap_set_ne _ n1, h2.ha, List.length_set]
    · exact heap_set h2.hl _ _
    · rw [heap_set_ne _ (Ne.symm n3)]; exact h2.hm
    · rw [List.length_set]; exact h2.le
    · rw [Array.size_setIfInBounds]; exact h2.size
    · rw [Array.toList_setIfInBounds, List.length_set, List.take_set, h2.take, Nat.mul_comm i 2, flat_set0 L i d hi]
  have HU : Hid (But [a, lb, mb] w (w.setCell ⟨lb, i * 2, none⟩ (.int .i64 d))) := (But.refl _ w).set (Or.inl (by simp)) _ _
  have HX := Lib.hid (fun (X : World) (hX : AgL X a lb mb cap clk (L.set i (d, k))) => heapFix_any swap_c (L.set i (d, k)) i (by rw [List.length_set]; exact hi) (by rw [List.length_set]; exact hcap) hX)
  rw [List.length_set] at HX
  clear h h2 hp hset hF h3 h4 hk n1 n2 n3 hcap
  generalize L.length = n at *
  generalize (at_ L i).1 = d0 at *
  go_enter Try.func12, Try.ntmps12
  go_wp2_with fail
  go_at_call 22; refine HP.out.mono ?_; rintro e w1 ⟨rfl, rfl⟩
  go_wp2_with fail
  go_at_call 25; refine (HX.out _ HA.out).mono ?_; rintro e w2 ⟨⟨v, rfl⟩, hb, ha⟩
  have HZ := Lib.hid (ag_of HF.out.1 HF.out.2.1 HF.out.2.2 (HU.out.trans hb) ha)
  clear hb ha
  go_wp2_with fail
  go_ret
  exact ⟨rfl, HZ.out⟩
end Go.Proofs.Ytideofojmgmboaa
