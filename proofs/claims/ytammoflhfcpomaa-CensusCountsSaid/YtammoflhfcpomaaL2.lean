/- CensusCounts: the walk of the law, where there is a census. -/
import Derived.Test.YtammoflhfcpomaaF2
namespace Go.Proofs.Ytammoflhfcpomaa
open Go Go.RowKit
set_option linter.unusedVariables false
set_option linter.unusedSimpArgs false
set_option maxRecDepth 100000

set_option maxHeartbeats 4000000 in
theorem counts_ok (p gs : Nat) (T : Int) (n cap : Nat) (A : Option Addr) (ev : Nat → Ev) (W : World) (hn : n ≤ 100) (hp : 1 ≤ p ∧ p ≤ 64) (hg : 1 ≤ gs ∧ gs ≤ 60) (hcap : n ≤ cap) (hA : A = none → cap = 0) (hcap2 : cap ≤ 9223372036854775807) (hs : SeesE W W.heap.size A n ev) :
    Calls Try.prog 3 #[.agg #[.int .i64 (p : Int), .int .i64 T, .int .i64 (gs : Int)], .slice A n cap] W fun e W' => e = .returned (.bool true) ∧ Below W.heap.size W W' := by
  have HAW := Lib.hid awake_any
  have HB0 := Lib.hid (fun o => (Below.refl W.heap.size W).alloc (Nat.le_refl _) o)
  have HS := Lib.hid hs
  have HS0 := Lib.hid (show ∀ o, SeesE (W.alloc o) (W.alloc o).heap.size A n ev from fun o hn0 => by
    obtain ⟨b, off, e, h1, h2⟩ := hs.bel (HB0.out o) hn0
    exact ⟨b, off, e, by rw [size_al]; omega, h2⟩)
  have HFT := Lib.hid (show ∀ w g h, Below W.heap.size W w → RowsAt w g gs (fun i f => ((cR ev n i f : Nat) : Int)) → IntsAt w h p (fun q => ((cP ev n q : Nat) : Int)) → _ from fun w g h hb hr hi => fits_any w g h p gs T W.heap.size n cap A ev (by omega) (by omega) hn hcap hA hcap2 (hs.bel hb) hr hi)
  have HOF := Lib.hid (show ∀ w, SeesE w w.heap.size A n ev → _ from fun w hw => of_ok w p gs T n cap A ev hp hg hn hw)
  have d1 : decide ((100 : Int) < (n : Int)) = false := decide_eq_false (by omega)
  have d2 : decide ((60 : Int) < (gs : Int)) = false := decide_eq_false (by omega)
  have d3 : decide ((p : Int) < 1) = false := decide_eq_false (by omega)
  have d4 : decide ((64 : Int) < (p : Int)) = false := decide_eq_false (by omega)
  have d5 : decide ((gs : Int) < 1) = false := decide_eq_false (by omega)
  have d6 : decide ((65536 : Int) < (gs : Int)) = false := decide_eq_false (by omega)
  clear hs hcap hA hcap2
  go_enter Try.func3, Try.ntmps3
  go_wp2_with fail
  go_at_call 6
  refine (HOF.out _ (HS0.out _)).mono ?_
  rintro e w1 ⟨x, g, h, rfl, hr, hi, hb, _, _⟩
  have HB1 := Lib.hid ((HB0.out (.cells #[.int .i64 (p : Int), .int .i64 T, .int .i64 (gs : Int)] 23)).trans (hb.mono (by rw [size_al]; omega)))
  have hcf := (hb.block W.heap.size (by rw [size_al]; omega)).trans (heap_alloc_new W (.cells #[.int .i64 (p : Int), .int .i64 T, .int .i64 (gs : Int)] 23))
  have hne := block_lt hcf
  have c0 : w1.cell? ⟨W.heap.size, 0, none⟩ = some (.int .i64 (p : Int)) := by simp only [World.cell?, hcf]; rfl
  have c1 : w1.cell? ⟨W.heap.size, 1, none⟩ = some (.int .i64 T) := by simp only [World.cell?, hcf]; rfl
  have c2 : w1.cell? ⟨W.heap.size, 2, none⟩ = some (.int .i64 (gs : Int)) := by simp only [World.cell?, hcf]; rfl
  have HR := Lib.hid hr
  have HI := Lib.hid hi
  have HCF := Lib.hid hcf
  clear hb hcf hr hi
  unfold cenVal cenCells
  go_wp2_with fail
  refine (HAW.out _).mono ?_
  rintro e w2 ⟨rfl, hb2⟩
  have hx2 : w2.heap[w1.heap.size]? = some (.cells (cenCells (fun k => ((cK ev n k : Nat) : Int)) g gs h p (mostN ev n) (nowN ev n)) 30 (0, 0)) := (hb2.block _ (by rw [size_al]; omega)).trans (heap_alloc_new w1 _)
  have hw12 : Below w1.heap.size w1 w2 := ((Below.refl w1.heap.size w1).alloc (Nat.le_refl _) _).trans (hb2.mono (by rw [size_al]; omega))
  have HB2 := Lib.hid (HB1.out.trans (hw12.mono HB1.out.size))
  have HR2 := Lib.hid (HR.out.but (But.of_below (l := []) hw12) (by simp))
  have HI2 := Lib.hid (HI.out.but (But.of_below (l := []) hw12) (by simp))
  have hcf2 := (hw12.block W.heap.size hne).trans HCF.out
  have e0 : w2.cell? ⟨W.heap.size, 0, none⟩ = some (.int .i64 (p : Int)) := by simp only [World.cell?, hcf2]; rfl
  have e1 : w2.cell? ⟨W.heap.size, 1, none⟩ = some (.int .i64 T) := by simp only [World.cell?, hcf2]; rfl
  have e2 : w2.cell? ⟨W.heap.size, 2, none⟩ = some (.int .i64 (gs : Int)) := by simp only [World.cell?, hcf2]; rfl
  have kk : ∀ (i : Nat) (v : Value), (cenCells (fun k => ((cK ev n k : Nat) : Int)) g gs h p (mostN ev n) (nowN ev n))[i]? = some v → w2.cell? ⟨w1.heap.size, i, none⟩ = some v := fun i v hv => by simp only [World.cell?, hx2]; exact hv
  have k0 := kk 0 _ rfl
  have k1 := kk 1 _ rfl
  have k2 := kk 2 _ rfl
  have k3 := kk 3 _ rfl
  have k4 := kk 4 _ rfl
  have k5 := kk 5 _ rfl
  have k6 := kk 6 _ rfl
  have k7 := kk 7 _ rfl
  have k8 := kk 8 _ rfl
  have k9 := kk 9 _ rfl
  have k10 := kk 10 _ rfl
  have k11 := kk 11 _ rfl
  have k12 := kk 12 _ rfl
  have k13 := kk 13 _ rfl
  have k14 := kk 14 _ rfl
  have k15 := kk 15 _ rfl
  clear kk hx2 hb2 hw12 hcf2 HB1 HR HI HCF c0 c1 c2
  have FF := Lib.hid (HFT.out w2 g h HB2.out HR2.out HI2.out)
  clear HFT
  go_wp2_with fail
  refine (show Calls Try.prog 8 #[.agg (cenCells (fun k => ((cK ev n k : Nat) : Int)) g gs h p (mostN ev n) (nowN ev n)), .agg #[.int .i64 (p : Int), .int .i64 T, .int .i64 (gs : Int)], .slice A n cap] w2 _ from FF.out).mono ?_
  rintro e w3 ⟨rfl, hb3⟩
  have HB3 := Lib.hid (HB2.out.trans (hb3.mono HB2.out.size))
  clear hb3
  go_wp2_with fail
  go_ret
  exact ⟨rfl, HB3.out⟩
end Go.Proofs.Ytammoflhfcpomaa
