/- A census of events: the walk. -/
import Derived.Test.YtammoflhfcpomaaC6
namespace Go.Proofs.Ytammoflhfcpomaa
open Go Go.RowKit
set_option linter.unusedVariables false
set_option linter.unusedSimpArgs false
set_option maxRecDepth 100000

/-- A census as a value. -/
def cenVal (K : Nat → Int) (g gs h ps : Nat) (most now : Int) : Value := .agg (cenCells K g gs h ps most now)
set_option maxHeartbeats 4000000 in
theorem of_ok (w : World) (p gs : Nat) (T : Int) (n cap : Nat) (A : Option Addr) (ev : Nat → Ev) (hp : 1 ≤ p ∧ p ≤ 64) (hg : 1 ≤ gs ∧ gs ≤ 60) (hn : n ≤ 100) (hs : SeesE w w.heap.size A n ev) :
    Calls Try.prog 6 #[.agg #[.int .i64 p, .int .i64 T, .int .i64 gs], .slice A n cap] w fun e w' => ∃ x g h : Nat, e = .returned (.tuple #[cenVal (fun k => ((cK ev n k : Nat) : Int)) g gs h p (mostN ev n) (nowN ev n), .int .i64 0]) ∧ RowsAt w' g gs (fun i f => ((cR ev n i f : Nat) : Int)) ∧ IntsAt w' h p (fun q => ((cP ev n q : Nat) : Int)) ∧ Below w.heap.size w w' ∧ w.heap.size ≤ g ∧ w.heap.size ≤ h := by
  have HS := Lib.hid hs
  obtain ⟨cg, hcg, hmg⟩ := make27 gs (by omega)
  obtain ⟨ch, hch, hmh⟩ := make28 p (by omega)
  have HG := Lib.hid hcg
  have HH := Lib.hid hch
  have HPG := Lib.hid (And.intro hp hg)
  clear hs hcg hch
  go_enter Try.func6, Try.ntmps6
  go_wp2_with fail
  go_region
  all_goals
    clear hmg hmh
    refine five _ _ _ _ _ _ ?_
    intro V hb h1 h2 h3 h4
    first
      | (have HI := Lib.hid (OfI.start (ev := ev) HG HH hb h1 h2 h3 h4 (by omega) (by omega)); clear hb h1 h2 h3 h4; generalize (w.heap.size + 1 + 1 + 1 + 1) = h at HI ⊢; generalize (w.heap.size + 1 + 1 + 1) = g at HI ⊢; generalize (w.heap.size + 1 + 1) = x at HI ⊢)
      | (have HI := Lib.hid (OfI.start (ev := ev) HG HH hb h1 h2 h4 h3 (by omega) (by omega)); clear hb h1 h2 h3 h4; generalize (w.heap.size + 1 + 1 + 1 + 1) = g at HI ⊢; generalize (w.heap.size + 1 + 1 + 1) = h at HI ⊢; generalize (w.heap.size + 1 + 1) = x at HI ⊢)
      | (have HI := Lib.hid (OfI.start (ev := ev) HG HH hb h1 h3 h2 h4 (by omega) (by omega)); clear hb h1 h2 h3 h4; generalize (w.heap.size + 1 + 1 + 1 + 1) = h at HI ⊢; generalize (w.heap.size + 1 + 1 + 1) = x at HI ⊢; generalize (w.heap.size + 1 + 1) = g at HI ⊢)
      | (have HI := Lib.hid (OfI.start (ev := ev) HG HH hb h1 h3 h4 h2 (by omega) (by omega)); clear hb h1 h2 h3 h4; generalize (w.heap.size + 1 + 1 + 1 + 1) = g at HI ⊢; generalize (w.heap.size + 1 + 1 + 1) = x at HI ⊢; generalize (w.heap.size + 1 + 1) = h at HI ⊢)
      | (have HI := Lib.hid (OfI.start (ev := ev) HG HH hb h1 h4 h2 h3 (by omega) (by omega)); clear hb h1 h2 h3 h4; generalize (w.heap.size + 1 + 1 + 1 + 1) = x at HI ⊢; generalize (w.heap.size + 1 + 1 + 1) = h at HI ⊢; generalize (w.heap.size + 1 + 1) = g at HI ⊢)
      | (have HI := Lib.hid (OfI.start (ev := ev) HG HH hb h1 h4 h3 h2 (by omega) (by omega)); clear hb h1 h2 h3 h4; generalize (w.heap.size + 1 + 1 + 1 + 1) = x at HI ⊢; generalize (w.heap.size + 1 + 1 + 1) = g at HI ⊢; generalize (w.heap.size + 1 + 1) = h at HI ⊢)
  rotate_left 1

  all_goals
    go_wp2_with fail
    go_loopw [37] (fun i wr => ∃ j : Nat, j ≤ n ∧ i = .int .i64 j ∧ OfI w wr x g h gs p ev j) (fun i _ => n - (intOf i).toNat)
    case atStart => exact ⟨0, Nat.zero_le _, rfl, HI.out⟩
    case round =>
      obtain ⟨j, hj, rfl, hI⟩ := hrel
      have HJ := Lib.hid hI
      clear HI hI
      by_cases hlt : j < n
      · obtain ⟨b, off, rfl, hB, hc⟩ := HS.out (by omega)
        have hk := fun o => HJ.out.bel.cell (p := ⟨b, o, none⟩) hB
        have c0 := (hk _).trans (hc j hlt).1
        have c1 := (hk _).trans (hc j hlt).2.1
        have c2 := (hk _).trans (hc j hlt).2.2.1
        have c3 := (hk _).trans (hc j hlt).2.2.2.1
        have c4 := (hk _).trans (hc j hlt).2.2.2.2
        clear hc hk
        have b1 := cK_le ev j
        have b2 := cR_le ev j
        have b3 := cP_le ev j
        have b4 := nowN_bd ev j
        have b5 := mostN_bd ev j
        have HCA := Lib.hid (fun (o : Obj) => count_any (wr.alloc o) x g h gs p (ev j) _ _ _ _ _ (HJ.out.cen.but ((But.refl [] wr).alloc o) (by simp) (by simp) (by simp)) (fun k => ⟨by omega, by have := b1 k; omega⟩) (fun i f => ⟨by omega, by have := b2 i f; omega⟩) (fun q => ⟨by omega, by have := b3 q; omega⟩) (by omega) (by omega) (by omega) (by omega))
        clear b1 b2 b3 b4 b5
        generalize hev : ev j = E at c0 c1 c2 c3 c4
        go_wp2_with fail
        subst hev
        refine (HCA.out _).mono ?_
        rintro e w2 hc
        obtain rfl := hc.1
        have HN := Lib.hid (HJ.out.step _ hc)
        clear hc HCA HJ
        go_wp2_with fail
        go_roundw
        case rel => exact ⟨j + 1, by omega, by go_num, HN.out⟩
        case measure => simp [intOf]; omega
      · obtain rfl : j = n := by omega
        have hCM := HJ.out.cen.main
        unfold CenAt at hCM
        have hone := cen_one (fun k => ((cK ev j k : Nat) : Int)) g gs h p (mostN ev j) (nowN ev j)
        have hsz : (cenCells (fun k => ((cK ev j k : Nat) : Int)) g gs h p (mostN ev j) (nowN ev j)).size = 16 := rfl
        have HF := Lib.hid (show ∀ (CS : Array Value) (L : World), cenCells (fun k => ((cK ev j k : Nat) : Int)) g gs h p (mostN ev j) (nowN ev j) = CS → L = wr.setRow (w.heap.size + 1) CS → ∃ x g h : Nat, Ending.returned (.tuple #[.agg CS, .int .i64 0]) = .returned (.tuple #[cenVal (fun k => ((cK ev j k : Nat) : Int)) g gs h p (mostN ev j) (nowN ev j), .int .i64 0]) ∧ RowsAt L g gs (fun i f => ((cR ev j i f : Nat) : Int)) ∧ IntsAt L h p (fun q => ((cP ev j q : Nat) : Int)) ∧ Below w.heap.size w L ∧ w.heap.size ≤ g ∧ w.heap.size ≤ h from by
          rintro CS L rfl rfl
          have hb := row_but wr (w.heap.size + 1) (cenCells (fun k => ((cK ev j k : Nat) : Int)) g gs h p (mostN ev j) (nowN ev j))
          have lo := HJ.out.lo
          refine ⟨x, g, h, rfl, HJ.out.cen.rows.but hb (by simp; omega), HJ.out.cen.procs.but hb (by simp; omega), HJ.out.bel.trans (hb.below (by simp) HJ.out.bel.size), by omega, by omega⟩)
        generalize hCS : cenCells (fun k => ((cK ev j k : Nat) : Int)) g gs h p (mostN ev j) (nowN ev j) = CS at hCM hone hsz
        have HX := Lib.hid hCM
        have HON := Lib.hid hone
        have HSZ := Lib.hid (show (Try.prog.info? 30).map (·.size) = some CS.size from by rw [hsz]; exact info30)
        have HSY := Lib.hid (show zero16.size = CS.size from by rw [hsz]; rfl)
        have HRS := Lib.hid HJ.out.res
        have HEND := Lib.hid (HF.out CS (wr.setRow (w.heap.size + 1) CS) hCS rfl)
        clear HF hCM hone hsz hCS HJ HS HG HH
        go_wp2_with (first | (refine wpList_load_row rfl 30 _ rfl x rfl 30 CS (0, 0) _ HX.out Try.underlying30 rfl HSZ.out ?_) | (refine wpList_store_row rfl 30 _ _ rfl (w.heap.size + 1) CS rfl rfl 30 zero16 HRS.out HSZ.out HSY.out HON.out ?_))
        exact bodyPost_ret (v := .tuple #[.agg CS, .int .i64 0]) (res_pair rfl _ _ (w.heap.size + 1) _ _ rfl rfl (run_loadVar_row _ (w.heap.size + 1) 30 30 CS (0, 0) _ (setRow_heap wr _ _ CS 30 (0, 0) HRS.out) Try.underlying30 rfl HSZ.out)) rfl HEND.out
end Go.Proofs.Ytammoflhfcpomaa
