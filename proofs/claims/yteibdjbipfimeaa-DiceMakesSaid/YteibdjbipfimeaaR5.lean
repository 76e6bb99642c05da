/- The script, made up. -/
import Derived.Test.YteibdjbipfimeaaR4
namespace Go.Proofs.Yteibdjbipfimeaa
open Go Go.RowKit
set_option linter.unusedVariables false
set_option linter.unusedSimpArgs false
set_option maxRecDepth 100000

/-- Runs, one behind the other, until there are so many entries; and the state then. -/
def scrGo (T N : Nat) : Nat → List (Int × Int) → Nat → List (Int × Int) × Nat
  | 0, L, S => (L, S)
  | f + 1, L, S => if L.length < N then scrGo T N f (L ++ (runL S T).take (N - L.length)) (st S (runN S)) else (L, S)
def scr (T N S : Nat) : List (Int × Int) × Nat := scrGo T N N [] S
theorem runL_pos (S T : Nat) : 1 ≤ (runL S T).length ∧ (runL S T).length ≤ 16 := by
  have a := rem_lt (num S 2) 16 (by omega)
  have b := rem_lt (num S 3) 16 (by omega)
  unfold runL
  split
  · simp; omega
  · split
    · simp; omega
    · split
      · simp
      · simp; omega
theorem scrGo_end (T N f : Nat) (L : List (Int × Int)) (S : Nat) (h : N ≤ L.length) : scrGo T N f L S = (L, S) := by
  cases f with
  | zero => rfl
  | succ f => unfold scrGo; rw [if_neg (by omega)]
theorem scrGo_step (T N f : Nat) (L : List (Int × Int)) (S : Nat) (h : L.length < N) (hf : N ≤ f + L.length) : ∃ f', f = f' + 1 ∧ scrGo T N f L S = scrGo T N f' (L ++ (runL S T).take (N - L.length)) (st S (runN S)) ∧ N ≤ f' + (L ++ (runL S T).take (N - L.length)).length := by
  cases f with
  | zero => omega
  | succ f =>
    have hr := runL_pos S T
    refine ⟨f, rfl, ?_, ?_⟩
    · show scrGo T N (f + 1) L S = _
      rw [show scrGo T N (f + 1) L S = if L.length < N then scrGo T N f (L ++ (runL S T).take (N - L.length)) (st S (runN S)) else (L, S) from rfl, if_pos h]
    · simp; omega

theorem script_wrong (w : World) (p : Option Addr) (P T G n : Int) (h : p = none ∨ T < 1 ∨ 256 < T) :
    Calls Try.prog 14 #[.pointer p, .agg #[.int .i64 P, .int .i64 T, .int .i64 G], .int .i64 n] w fun e w' => e = .returned (.slice none 0 0) ∧ Below w.heap.size w w' := by
  have hB := (Below.refl w.heap.size w).alloc (Nat.le_refl _) (.cells #[.int .i64 P, .int .i64 T, .int .i64 G] 34)
  rcases h with rfl | h
  · go_enter Try.func14, Try.ntmps14
    go_wp2_with fail
    go_ret
    exact ⟨rfl, hB⟩
  · cases p with
    | none =>
      go_enter Try.func14, Try.ntmps14
      go_wp2_with fail
      go_ret
      exact ⟨rfl, hB⟩
    | some a =>
      rcases h with h | h
      · go_enter Try.func14, Try.ntmps14
        go_wp2_with fail
        go_ret
        exact ⟨rfl, hB⟩
      · have h2 : ¬ T < 1 := by omega
        go_enter Try.func14, Try.ntmps14
        go_wp2_with fail
        go_ret
        exact ⟨rfl, hB⟩

theorem owns_less {w : World} {b b' : Nat} {e : TypeId} {size : Nat} {v : Value} {n : Nat} {xs : List Value} (h : w.ownsRow b e size v n xs) (hb : b' ≤ b) : w.ownsRow b' e size v n xs := by
  refine ⟨h.1, ?_⟩
  rcases h.2 with h | ⟨g, cap, cur, h1, h2, h3⟩
  · exact .inl h
  · exact .inr ⟨g, cap, cur, h1, by omega, h3⟩
theorem But.grownBy {c : Nat} {w w' : World} (h : But [c] w w') : w.grownBy w' (some c) := ⟨h.os, h.tape, h.output, h.size, fun k hk hc => h.block k hk (by simpa using hc)⟩
theorem But.thenGrown {l : List Nat} {w X X' : World} {row : Option Nat} (h : But l w X) (hg : X.grownBy X' row) (hrow : ∀ k, row = some k → w.heap.size ≤ k) : But l w X' :=
  ⟨hg.os.trans h.os, hg.tape.trans h.tape, hg.output.trans h.output, Nat.le_trans h.size hg.size, fun k hk hc => (hg.block k (Nat.lt_of_lt_of_le hk h.size) (fun e => absurd (hrow k e.symm) (by omega))).trans (h.block k hk hc)⟩

/-- What a script answers. -/
def Scr (w : World) (c S T N : Nat) (e : Ending) (w' : World) : Prop :=
  ∃ (A : Option Addr) (cp : Nat), e = .returned (.slice A N cp) ∧ w'.ownsRow w.heap.size 48 2 (.slice A N cp) N (flat (scr T N S).1) ∧ (scr T N S).1.length = N ∧ Dc w' c (scr T N S).2 ∧ But [c] w w'

/-- Where the loop of Script stands. -/
structure ScrOn (w wr : World) (c z S T N f k cp S' : Nat) (A : Option Addr) (L : List (Int × Int)) (P G : Int) : Prop where
  go : scrGo T N f L S' = scr T N S
  fl : N ≤ f + L.length
  le : L.length = k ∧ k ≤ N
  own : wr.ownsRow (z + 1) 48 2 (.slice A k cp) k (flat L)
  dc : Dc wr c S'
  lt : S' < 18446744073709551616
  box : wr.heap[z]? = some (.cells #[.int .i64 P, .int .i64 (T : Int), .int .i64 G] 34 (0, 0))
  but : But [c] w wr
  cz : c < z ∧ z = w.heap.size

theorem scrOn_step {w wr w1 w2 : World} {c z S T N f k cp S' g cp' : Nat} {A : Option Addr} {L : List (Int × Int)} {P G : Int} (h : ScrOn w wr c z S T N f k cp S' A L P G) (hk : k < N)
    (h1D : Dc w1 c (st S' (runN S'))) (h1B : But [c] wr w1) (q : Nat) (hq : q = min (runL S' T).length (N - k))
    (hO : w2.ownsRow (z + 1) 48 2 (.slice (some ⟨g, 0, none⟩) (k + q) cp') (k + q) (flat (L ++ (runL S' T).take q))) (hG : w1.grownBy w2 (Value.slice A k cp).ownBlock) :
    ∃ f', ScrOn w w2 c z S T N f' (k + q) cp' (st S' (runN S')) (some ⟨g, 0, none⟩) (L ++ (runL S' T).take q) P G ∧ k < k + q := by
  have hr := runL_pos S' T
  have hlow := h.own.lt
  have ht : (runL S' T).take q = (runL S' T).take (N - L.length) := by
    rw [h.le.1, hq]
    rcases Nat.le_total (runL S' T).length (N - k) with hh | hh
    · rw [Nat.min_eq_left hh, List.take_of_length_le (Nat.le_refl _), List.take_of_length_le hh]
    · rw [Nat.min_eq_right hh]
  obtain ⟨f', _, e1, e2⟩ := scrGo_step T N f L S' (by rw [h.le.1]; exact hk) h.fl
  have hcz := h.cz
  have hzlt := block_lt h.box
  have hne : (Value.slice A k cp).ownBlock ≠ some c := fun e => by have := (hlow c e).1; omega
  have hnz : (Value.slice A k cp).ownBlock ≠ some z := fun e => by have := (hlow z e).1; omega
  refine ⟨f', ⟨?_, ?_, ⟨?_, by omega⟩, hO, ?_, st_lt _ _, ?_, ?_, hcz⟩, by omega⟩
  · rw [ht, ← e1]; exact h.go
  · rw [ht]; exact e2
  · rw [List.length_append, h.le.1, List.length_take]; omega
  · exact (hG.block c h1D.lt (fun e => hne e.symm)).trans h1D
  · exact (hG.block z (Nat.lt_of_lt_of_le hzlt h1B.size) (fun e => hnz e.symm)).trans ((h1B.block z hzlt (by simp; omega)).trans h.box)
  · exact (h.but.trans h1B).thenGrown hG (fun j hj => by have := (hlow j hj).1; omega)

set_option maxHeartbeats 1000000 in
theorem script_any (w : World) (c S T N : Nat) (P G : Int) (hS : S < 18446744073709551616) (hT : 1 ≤ T) (hT2 : T ≤ 256) (hN : N ≤ 300) (h : Dc w c S) :
    Calls Try.prog 14 #[.pointer (some ⟨c, 0, none⟩), .agg #[.int .i64 P, .int .i64 (T : Int), .int .i64 G], .int .i64 (N : Int)] w (Scr w c S T N) := by
  have hclt := h.lt
  have HH : Hid (Dc w c S) := h
  have d1 : decide ((T : Int) < 1) = false := by simp; omega
  have d2 : decide (256 < (T : Int)) = false := by simp; omega
  have d3 : decide ((N : Int) < 0) = false := by simp
  have HST : Hid (ScrOn w (w.alloc (.cells #[.int .i64 P, .int .i64 (T : Int), .int .i64 G] 34)) c w.heap.size S T N N 0 0 S none [] P G) :=
    ⟨rfl, by simp, ⟨rfl, by omega⟩, World.ownsRow_nil _ _ _ _, h.below ((Below.refl _ _).alloc (Nat.le_refl _) _) hclt, hS, heap_alloc_new _ _, (But.refl _ _).alloc _, hclt, rfl⟩
  clear h hS
  generalize hz : w.heap.size = z at HST ⊢
  have HZ : Hid (w.heap.size = z) := hz
  generalize hX : w.alloc (.cells #[.int .i64 P, .int .i64 (T : Int), .int .i64 G] 34) = X at HST ⊢
  have x1 : X.cell? ⟨z, 1, none⟩ = some (.int .i64 (T : Int)) := by have := HST.out.box; simp [World.cell?, this]
  have hN0 : ¬ (65536 < (N : Int)) := by omega
  have hN1 : ¬ ((N : Int) < 0) := by omega
  go_enter Try.func14, Try.ntmps14
  go_wp2_with fail
  clear x1 hX
  go_loopw [7] (fun v wr => ∃ (f k cp S' : Nat) (A : Option Addr) (L : List (Int × Int)), v = .slice A k cp ∧ ScrOn w wr c z S T N f k cp S' A L P G) (fun v _ => N - (match v with | .slice _ n _ => n | _ => 0))
  case atStart => exact ⟨N, 0, 0, S, none, [], rfl, HST.out⟩
  case round =>
    obtain ⟨f, k, cp, S', A, L, rfl, hR⟩ := hrel
    clear HST
    have hkN := hR.le.2
    by_cases hlt : k < N
    · have x1 : wr.cell? ⟨z, 1, none⟩ = some (.int .i64 (T : Int)) := by have := hR.box; simp [World.cell?, this]
      have HR : Hid (ScrOn w wr c z S T N f k cp S' A L P G) := hR
      have hzw := block_lt hR.box
      have hk63 : (k : Int) ≤ 9223372036854775807 := by omega
      clear hR
      go_wp2_with fail
      refine (run_any _ c S' T HR.out.lt hT hT2 HR.out.dc).mono ?_; rintro e w1 ⟨g, rfl, hg, hM, hD1, hB1⟩
      have hr := runL_pos S' T
      have HL : Hid ((runL S' T).length = (runL S' T).length) := rfl
      generalize hm : (runL S' T).length = m at hr ⊢
      have HM : Hid ((runL S' T).length = m) := hm
      have hO1 := HR.out.own.kept hB1.grownBy (Or.inr (fun e => by have := (HR.out.own.lt c e).1; have := HR.out.cz; omega))
      have HO1 : Hid (w1.ownsRow (z + 1) 48 2 (.slice A k cp) k (flat L)) := hO1
      have HMM : Hid (w1.heap[g]? = some (.cells (flat (runL S' T)).toArray 48 (0, 0))) := hM
      have HB1 : Hid (But [c] wr w1) := hB1
      have HD1 : Hid (Dc w1 c (st S' (runN S'))) := hD1
      have hs1 := hB1.size
      clear hm hM hB1 hD1 hO1 x1
      go_wp2_with fail
      refine (gather_any _ (z + 1) k cp A L (runL S' T) g m N (min m (N - k)) HO1.out (by omega) HMM.out HM.out hlt (by omega) hr.1 (by omega) rfl).mono ?_; rintro e w2 ⟨g2, cp2, rfl, hO2, hG2⟩
      obtain ⟨f', hS', hkq⟩ := scrOn_step HR.out hlt HD1.out HB1.out (min m (N - k)) (by rw [HM.out]) hO2 hG2
      have hq2 : k + min m (N - k) ≤ N := by omega
      generalize min m (N - k) = q at *
      clear hO2 hG2
      go_wp2_with fail
      go_roundw
      case rel => exact ⟨f', k + q, cp2, _, _, _, rfl, hS'⟩
      case measure => simp; omega
    · obtain rfl : k = N := by omega
      go_wp2_with fail
      go_ret
      have e1 := scrGo_end T k f L S' (by rw [hR.le.1]; exact Nat.le_refl _)
      rw [hR.go] at e1
      refine ⟨A, cp, rfl, ?_, ?_, ?_, hR.but⟩
      · rw [e1]; have := hR.cz; exact owns_less hR.own (by omega)
      · rw [e1]; exact hR.le.1
      · rw [e1]; exact hR.dc
end Go.Proofs.Yteibdjbipfimeaa
