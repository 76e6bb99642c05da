/- The contracts of package draw, walked. -/
import Derived.Test.YtlpfleefbngdaaaCurs
import Derived.BigRegion
import Derived.Deep.RegionHeld3
namespace Go.Proofs.Ytlpfleefbngdaaa
open Go Go.RowKit
set_option linter.unusedVariables false
set_option linter.unusedSimpArgs false

theorem at_out (A : Option Addr) (L cap : Nat) (i : Int) (w : World) (hL : L ≤ 9223372036854775807) (h : i < 0 ∨ L ≤ i) :
    Calls Try.prog 18 #[.slice A L cap, .int .i64 i] w fun e w' => e = .returned (.int .u64 0) ∧ w = w' := by
  rcases h with h | h
  · go_enter Try.func18, Try.ntmps18
    go_wp2_with fail
    go_ret
    exact ⟨rfl, rfl⟩
  · by_cases h0 : i < 0
    · go_enter Try.func18, Try.ntmps18
      go_wp2_with fail
      go_ret
      exact ⟨rfl, rfl⟩
    · go_enter Try.func18, Try.ntmps18
      go_wp2_with fail
      go_ret
      exact ⟨rfl, rfl⟩

theorem at_in (b off L cap i : Nat) (x : Int) (w : World) (hL : L ≤ 9223372036854775807) (h : i < L) (hc : w.cell? ⟨b, off + i, none⟩ = some (.int .u64 x)) :
    Calls Try.prog 18 #[.slice (some ⟨b, off, none⟩) L cap, .int .i64 i] w fun e w' => e = .returned (.int .u64 x) ∧ w = w' := by
  go_enter Try.func18, Try.ntmps18
  go_wp2_with fail
  go_ret
  exact ⟨rfl, rfl⟩

theorem left_any (w : World) (B c : Nat) (f : Nat → Int) (n T : Nat) (h : Curs w B c f n T) :
    Calls Try.prog 9 #[.pointer (some ⟨c, 0, none⟩)] w fun e w' => e = .returned (.int .i64 ((n - T : Nat) : Int)) ∧ w = w' := by
  obtain ⟨A, cap, hh, h1, h2, h3⟩ := h
  have c0 : w.cell? ⟨c, 0, none⟩ = some (.slice A (n - T) cap) := by simp [World.cell?, hh]
  clear h3
  generalize n - T = L at *
  go_enter Try.func9, Try.ntmps9
  go_wp2_with fail
  go_ret
  exact ⟨rfl, rfl⟩
theorem left_nil (w : World) : Calls Try.prog 9 #[.pointer none] w fun e w' => e = .returned (.int .i64 0) ∧ w = w' := by
  go_enter Try.func9, Try.ntmps9
  go_wp2_with fail
  go_ret
  exact ⟨rfl, rfl⟩
theorem told_any (w : World) (B c : Nat) (f : Nat → Int) (n T : Nat) (h : Curs w B c f n T) :
    Calls Try.prog 11 #[.pointer (some ⟨c, 0, none⟩)] w fun e w' => e = .returned (.int .i64 T) ∧ w = w' := by
  obtain ⟨A, cap, hh, h1, h2, h3⟩ := h
  have c1 : w.cell? ⟨c, 1, none⟩ = some (.int .i64 T) := by simp [World.cell?, hh]
  clear h3
  go_enter Try.func11, Try.ntmps11
  go_wp2_with fail
  go_ret
  exact ⟨rfl, rfl⟩
theorem told_nil (w : World) : Calls Try.prog 11 #[.pointer none] w fun e w' => e = .returned (.int .i64 0) ∧ w = w' := by
  go_enter Try.func11, Try.ntmps11
  go_wp2_with fail
  go_ret
  exact ⟨rfl, rfl⟩

theorem heap_set {w : World} {g : Nat} {cs : Array Value} {t : TypeId} {fr : Nat × Nat} (h : w.heap[g]? = some (.cells cs t fr)) (i : Nat) (u : Value) : (w.setCell ⟨g, i, none⟩ u).heap[g]? = some (.cells (cs.setIfInBounds i u) t fr) := by
  simp [World.setCell, Array.getElem?_modify, h]

/-- What 'pass' leaves: the cursor goes on. -/
theorem pass_left (w : World) (B c : Nat) (f : Nat → Int) (n T k : Nat) (A A' : Option Addr) (cap cap' : Nat) (hh : w.heap[c]? = some (.cells #[.slice A (n - T) cap, .int .i64 T] 44 (0, 0)))
    (h3 : 0 < n - T → ∃ b off : Nat, A = some ⟨b, off, none⟩ ∧ B ≤ b ∧ b < c ∧ ∀ i, i < n - T → w.cell? ⟨b, off + i, none⟩ = some (.int .u64 (f (T + i))))
    (h4 : n - T - k ≤ cap') (h5 : cap' ≤ maxLen) (hA : k < n - T → A' = A.map (fun x => x.add k)) (d : Nat) :
    Curs (((w.setCell ⟨c, 0, none⟩ (.slice A' (n - T - k) cap')).setCell ⟨c, 1, none⟩ (.int .i64 ((T : Int) + k))).drewN d) B c f n (T + k) ∧ But c w (((w.setCell ⟨c, 0, none⟩ (.slice A' (n - T - k) cap')).setCell ⟨c, 1, none⟩ (.int .i64 ((T : Int) + k))).drewN d) := by
  have hb : But c w (((w.setCell ⟨c, 0, none⟩ (.slice A' (n - T - k) cap')).setCell ⟨c, 1, none⟩ (.int .i64 ((T : Int) + k))).drewN d) := ((((But.refl c w).set 0 _).set 1 _).drewN d)
  refine ⟨⟨A', cap', ?_, by omega, h5, fun hn => ?_⟩, hb⟩
  · have e : n - (T + k) = n - T - k := by omega
    have e2 : ((T + k : Nat) : Int) = (T : Int) + k := by omega
    rw [e, e2]
    exact heap_set (heap_set hh 0 _) 1 _
  · have hn1 : 0 < n - T := by omega
    have hn2 : k < n - T := by omega
    have hlt := block_lt hh
    have hAA := hA hn2
    have hidx : ∀ i, i < n - (T + k) → k + i < n - T := fun i hi => by omega
    obtain ⟨b, off, e1, hB, hbc, hcell⟩ := h3 hn1
    clear h3 hA
    refine ⟨b, off + k, by rw [hAA, e1]; by_cases h0 : k = 0 <;> simp [Addr.add, h0], hB, hbc, fun i hi => ?_⟩
    have hc := hcell (k + i) (hidx i hi)
    rw [Nat.add_assoc, Nat.add_assoc]
    exact (World.cell?_of_block (w := w) (hb.block b (Nat.lt_trans hbc hlt) (Nat.ne_of_lt hbc))).trans hc

theorem pass_any (w : World) (B c : Nat) (f : Nat → Int) (n T k : Nat) (h : Curs w B c f n T) (hT : T ≤ 1000000) (hk : k ≤ 1000000) (hn : n ≤ 1000000) :
    Calls Try.prog 19 #[.pointer (some ⟨c, 0, none⟩), .int .i64 k] w fun e w' => e = .returned (.tuple #[]) ∧ Curs w' B c f n (T + k) ∧ But c w w' := by
  obtain ⟨A, cap, hh, h1, h2, h3⟩ := h
  have c0 : w.cell? ⟨c, 0, none⟩ = some (.slice A (n - T) cap) := by simp [World.cell?, hh]
  have c1 : w.cell? ⟨c, 1, none⟩ = some (.int .i64 T) := by simp [World.cell?, hh]
  have z0 : w.frozen? ⟨c, 0, none⟩ = false := by simp [World.frozen?, hh]
  have z1 : w.frozen? ⟨c, 1, none⟩ = false := by simp [World.frozen?, hh]
  have HP : Hid (∀ (A' : Option Addr) (cap' : Nat), n - T - k ≤ cap' → cap' ≤ maxLen → (k < n - T → A' = A.map (fun x => x.add k)) → ∀ d : Nat,
      Curs (((w.setCell ⟨c, 0, none⟩ (.slice A' (n - T - k) cap')).setCell ⟨c, 1, none⟩ (.int .i64 ((T : Int) + k))).drewN d) B c f n (T + k) ∧ But c w (((w.setCell ⟨c, 0, none⟩ (.slice A' (n - T - k) cap')).setCell ⟨c, 1, none⟩ (.int .i64 ((T : Int) + k))).drewN d)) :=
    fun A' cap' => pass_left w B c f n T k A A' cap cap' hh h3
  clear h3 hh
  have hLn : n - T ≤ 1000000 := by omega
  generalize n - T = L at *
  unfold maxLen at h2
  by_cases hkL : k < L
  · go_enter Try.func19, Try.ntmps19
    go_wp2_with fail
    go_region
    go_wp2_with fail
    go_returns
    exact ⟨rfl, HP.out (A.map (fun x => x.add k)) (cap - k) (by omega) (by unfold maxLen; omega) (fun _ => rfl) 1⟩
  · have e : L - k = 0 := by omega
    rw [e] at HP
    rcases Nat.lt_or_ge L k with hb1 | hb1
    · by_cases hcl : cap = L
      · go_enter Try.func19, Try.ntmps19
        go_wp2_with fail
        go_region
        go_wp2_with fail
        go_returns
        exact ⟨rfl, HP.out A 0 (by omega) (by unfold maxLen; omega) (fun h => absurd h hkL) 1⟩
      · go_enter Try.func19, Try.ntmps19
        go_wp2_with fail
        go_region
        go_wp2_with fail
        go_returns
        exact ⟨rfl, HP.out (A.map (fun x => x.add L)) (cap - L) (by omega) (by unfold maxLen; omega) (fun h => absurd h hkL) 1⟩
    · obtain rfl : k = L := by omega
      by_cases hcl : cap = k
      · go_enter Try.func19, Try.ntmps19
        go_wp2_with fail
        go_region
        go_wp2_with fail
        go_returns
        exact ⟨rfl, HP.out A 0 (by omega) (by unfold maxLen; omega) (fun h => absurd h hkL) 1⟩
      · go_enter Try.func19, Try.ntmps19
        go_wp2_with fail
        go_region
        go_wp2_with fail
        go_returns
        exact ⟨rfl, HP.out (A.map (fun x => x.add k)) (cap - k) (by omega) (by unfold maxLen; omega) (fun h => absurd h hkL) 1⟩

end Go.Proofs.Ytlpfleefbngdaaa
