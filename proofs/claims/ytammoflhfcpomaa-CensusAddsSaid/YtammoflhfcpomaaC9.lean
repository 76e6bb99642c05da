/- The page's example. -/
import Derived.Test.YtammoflhfcpomaaC7
import Derived.Test.YtammoflhfcpomaaC8
namespace Go.Proofs.Ytammoflhfcpomaa
open Go Go.RowKit
set_option linter.unusedVariables false
set_option linter.unusedSimpArgs false
set_option maxRecDepth 100000

/-- The example's events. -/
def exEv : Nat → Ev
  | 0 => ⟨1, 0, -1, 0, 0⟩
  | 1 => ⟨4, 0, -1, 0, 0⟩
  | _ => ⟨1, 0, -1, 0, 0⟩
theorem ex_sees (w : World) : SeesE (w.alloc (.cells #[.int .i64 1, .int .i64 0, .int .i64 (-1), .int .i64 0, .int .i64 0, .int .i64 4, .int .i64 0, .int .i64 (-1), .int .i64 0, .int .i64 0, .int .i64 1, .int .i64 0, .int .i64 (-1), .int .i64 0, .int .i64 0] 40)) (w.alloc (.cells #[.int .i64 1, .int .i64 0, .int .i64 (-1), .int .i64 0, .int .i64 0, .int .i64 4, .int .i64 0, .int .i64 (-1), .int .i64 0, .int .i64 0, .int .i64 1, .int .i64 0, .int .i64 (-1), .int .i64 0, .int .i64 0] 40)).heap.size (some ⟨w.heap.size, 0, none⟩) 3 exEv := fun _ => by
  have h := heap_alloc_new w (.cells #[.int .i64 1, .int .i64 0, .int .i64 (-1), .int .i64 0, .int .i64 0, .int .i64 4, .int .i64 0, .int .i64 (-1), .int .i64 0, .int .i64 0, .int .i64 1, .int .i64 0, .int .i64 (-1), .int .i64 0, .int .i64 0] 40)
  refine ⟨w.heap.size, 0, rfl, by rw [size_al]; omega, fun i hi => ?_⟩
  match i, hi with
  | 0, _ | 1, _ | 2, _ => exact ⟨by simp only [World.cell?, h]; rfl, by simp only [World.cell?, h]; rfl, by simp only [World.cell?, h]; rfl, by simp only [World.cell?, h]; rfl, by simp only [World.cell?, h]; rfl⟩
  | n + 3, h => omega
/-- The example's counts. -/
def exK : Nat → Int := fun k => ((cK exEv 3 k : Nat) : Int)
theorem exK_bd (k : Nat) : 0 ≤ exK k ∧ exK k ≤ 1000 := by have := cK_le exEv 3 k; unfold exK; omega
def exVal (g h : Nat) : Array Value := #[.int .i64 0, .int .i64 2, .int .i64 0, .int .i64 0, .int .i64 1, .int .i64 0, .int .i64 0, .int .i64 0, .int .i64 0, .int .i64 0, .int .i64 0, .int .i64 0, .slice (some ⟨g, 0, none⟩) 1 1, .slice (some ⟨h, 0, none⟩) 1 1, .int .i64 1, .int .i64 1]
theorem exVal_eq (g h : Nat) : cenVal (fun k => ((cK exEv 3 k : Nat) : Int)) g 1 h 1 (mostN exEv 3) (nowN exEv 3) = .agg (exVal g h) := rfl
theorem ex_live (w : World) (g h : Nat) : Calls Try.prog 10 #[.agg (exVal g h)] w fun e w' => e = .returned (.int .i64 1) ∧ Below w.heap.size w w' :=
  live_any w exK (some ⟨g, 0, none⟩) 1 1 (some ⟨h, 0, none⟩) 1 1 1 1 exK_bd
theorem ex_total (w : World) (g h : Nat) : Calls Try.prog 7 #[.agg (exVal g h)] w fun e w' => e = .returned (.int .i64 3) ∧ Below w.heap.size w w' :=
  total_any w exK (some ⟨g, 0, none⟩) 1 1 (some ⟨h, 0, none⟩) 1 1 1 1 exK_bd
set_option maxHeartbeats 2000000 in
theorem awake_any (w : World) : Calls Try.prog 5 #[] w fun e w' => e = .returned (.bool true) ∧ Below w.heap.size w w' := by
  have HS := Lib.hid (ex_sees w)
  have HL := Lib.hid ex_live
  have HT := Lib.hid ex_total
  have HB0 := Lib.hid (fun o => (Below.refl w.heap.size w).alloc (Nat.le_refl _) o)
  go_enter Try.func5, Try.ntmps5
  go_wp2_with fail
  refine (of_ok _ 1 1 1 3 3 _ exEv (by omega) (by omega) (by omega) HS.out).mono ?_
  rintro e w1 ⟨x, g, h, he, _, _, hb, _, _⟩
  rw [exVal_eq] at he
  obtain rfl := he
  have HB1 := Lib.hid ((HB0.out _).trans (hb.mono (by rw [size_al]; omega)))
  clear hb HS HB0
  unfold exVal
  go_wp2_with fail
  refine (HL.out _ g h).mono ?_
  rintro e w2 ⟨rfl, hb2⟩
  have hx2 : w2.heap[w1.heap.size]? = some (.cells (exVal g h) 30 (0, 0)) := (hb2.block _ (by rw [size_al]; omega)).trans (heap_alloc_new w1 _)
  have HB2 := Lib.hid ((HB1.out.alloc HB1.out.size _).trans (hb2.mono (by have := HB1.out.size; rw [size_al]; omega)))
  have kk : ∀ (i : Nat) (v : Value), (exVal g h)[i]? = some v → w2.cell? ⟨w1.heap.size, i, none⟩ = some v := fun i v hv => by simp only [World.cell?, hx2]; exact hv
  have k0 := kk 0 _ rfl
  have k1 := kk 1 _ rfl
  have k2 := kk 2 _ rfl
  have k3 := kk 3 _ rfl
  have k4 := kk 4 _ rfl
  have k5 := kk 5 _ rfl
  have k6 := kk 6 _ rfl
  have k7 := kk 7 _ rfl
  have k8 := kk 8 _ rfl
  have k9 := kk 9 _ rfl
  have k10 := kk 10 _ rfl
  have k11 := kk 11 _ rfl
  have k12 := kk 12 _ rfl
  have k13 := kk 13 _ rfl
  have k14 := kk 14 _ rfl
  have k15 := kk 15 _ rfl
  clear kk hx2 hb2 HB1
  go_wp2_with fail
  refine (HT.out _ g h).mono ?_
  rintro e w3 ⟨rfl, hb3⟩
  have HB3 := Lib.hid (HB2.out.trans (hb3.mono HB2.out.size))
  clear hb3
  go_wp2_with fail
  go_ret
  exact ⟨rfl, HB3.out⟩
end Go.Proofs.Ytammoflhfcpomaa
