/- Does a census fit? What stays through the walk; the sum of all Kinds. -/
import Derived.Test.YtammoflhfcpomaaC9
import Derived.Deep.QuietTactic
import Derived.BigQuiet
namespace Go.Proofs.Ytammoflhfcpomaa
open Go Go.RowKit
set_option linter.unusedVariables false
set_option linter.unusedSimpArgs false
set_option maxRecDepth 100000

theorem sum_cK (ev : Nat → Ev) : ∀ n : Nat, sumK (fun k => ((cK ev n k : Nat) : Int)) 12 = n
  | 0 => by simp [sumK, cK]
  | n + 1 => by
    have ih := sum_cK ev n
    have hk := kn_lt (ev n).kind
    have e : ∀ k, ((cK ev (n + 1) k : Nat) : Int) = ((cK ev n k : Nat) : Int) + (if kn (ev n).kind = k then 1 else 0) := fun k => by
      show ((cK ev n k + (if kn (ev n).kind = k then 1 else 0) : Nat) : Int) = _
      split <;> simp
    simp only [sumK] at ih ⊢
    simp only [e]
    generalize kn (ev n).kind = q at hk ⊢
    match q, hk with
    | 0, _ | 1, _ | 2, _ | 3, _ | 4, _ | 5, _ | 6, _ | 7, _ | 8, _ | 9, _ | 10, _ | 11, _ => simp; omega
    | m + 12, h => omega
/-- What stays while a census is held against events. -/
structure Fit (w wr : World) (K : Nat → Int) (g gs h p : Nat) (T most now : Int) : Prop where
  bel : Below w.heap.size w wr
  bx : CenAt wr w.heap.size K g gs h p most now
  bc : wr.heap[w.heap.size + 1]? = some (.cells #[.int .i64 (p : Int), .int .i64 T, .int .i64 (gs : Int)] 23 (0, 0))
theorem Fit.step {w wr w' : World} {K : Nat → Int} {g gs h p : Nat} {T most now : Int} (F : Fit w wr K g gs h p T most now) (hb : Below wr.heap.size wr w') : Fit w w' K g gs h p T most now := by
  have l1 := block_lt F.bx
  have l2 := block_lt F.bc
  exact ⟨F.bel.trans (hb.mono F.bel.size), (hb.block _ l1).trans F.bx, (hb.block _ l2).trans F.bc⟩
theorem drewN_bel (w : World) (n : Nat) : Below w.heap.size w (w.drewN n) := ⟨rfl, rfl, rfl, Nat.le_refl _, fun _ _ => rfl⟩
theorem drew_bel (w : World) : Below w.heap.size w w.drew := (Below.refl _ _).drew
theorem Fit.c {w wr : World} {K : Nat → Int} {g gs h p : Nat} {T most now : Int} (F : Fit w wr K g gs h p T most now) :
    wr.cell? ⟨w.heap.size + 1, 0, none⟩ = some (.int .i64 (p : Int)) ∧ wr.cell? ⟨w.heap.size + 1, 1, none⟩ = some (.int .i64 T) ∧ wr.cell? ⟨w.heap.size + 1, 2, none⟩ = some (.int .i64 (gs : Int)) := by
  have h := F.bc
  exact ⟨by simp only [World.cell?, h]; rfl, by simp only [World.cell?, h]; rfl, by simp only [World.cell?, h]; rfl⟩
theorem Fit.start (w : World) (K : Nat → Int) (g gs h p : Nat) (T most now : Int) : Fit w ((w.alloc (.cells (cenCells K g gs h p most now) 30)).alloc (.cells #[.int .i64 (p : Int), .int .i64 T, .int .i64 (gs : Int)] 23)) K g gs h p T most now := by
  refine ⟨((Below.refl _ _).alloc (Nat.le_refl _) _).alloc (by rw [size_al]; omega) _, ?_, heap_alloc2_new w _ _⟩
  exact (heap_al _ (by rw [size_al]; omega) _).trans (heap_alloc_new w _)
/-- The page's counts, as a world that has only drawn sees them. -/
structure Refs (w wr : World) (B n cap : Nat) (A : Option Addr) (ev : Nat → Ev) : Prop where
  sees : SeesE wr B A n ev
theorem SeesE.bel {w wr : World} {B n : Nat} {A : Option Addr} {ev : Nat → Ev} (h : SeesE w B A n ev) (hb : Below w.heap.size w wr) : SeesE wr B A n ev := h.same (fun b _ hl => hb.block b hl)
theorem q12 {w : World} {B n cap : Nat} {A : Option Addr} {ev : Nat → Ev} (h : SeesE w B A n ev) (hn : n ≤ 1000) (hcap : n ≤ cap) (hA : A = none → cap = 0) (hcap2 : cap ≤ 9223372036854775807) (m : Nat) :
    Calls Try.prog 12 #[.slice A n cap] (w.drewN m) fun e w' => e = .returned (.int .i64 (mostN ev n)) ∧ w' = w.drewN m :=
  (refMost_any _ B n cap A ev hn hcap hA hcap2 (h.bel (drewN_bel w m))).mono fun _ _ h => ⟨h.1, h.2.symm⟩
theorem q13 {w : World} {B n : Nat} {A : Option Addr} {ev : Nat → Ev} (h : SeesE w B A n ev) (cap : Nat) (hn : n ≤ 1000) (m : Nat) :
    Calls Try.prog 13 #[.slice A n cap] (w.drewN m) fun e w' => e = .returned (.int .i64 (nowN ev n)) ∧ w' = w.drewN m :=
  (refNow_any _ B n cap A ev hn (h.bel (drewN_bel w m))).mono fun _ _ h => ⟨h.1, h.2.symm⟩
theorem q14 {w : World} {B n : Nat} {A : Option Addr} {ev : Nat → Ev} (h : SeesE w B A n ev) (cap : Nat) (hn : n ≤ 1000) (k : Nat) (hk : k < 12) (m : Nat) :
    Calls Try.prog 14 #[.slice A n cap, .int .i64 (k : Int)] (w.drewN m) fun e w' => e = .returned (.int .i64 ((cK ev n k : Nat) : Int)) ∧ w' = w.drewN m :=
  (refKind_any _ B n cap k A ev k rfl hk hn (h.bel (drewN_bel w m))).mono fun _ _ h => ⟨h.1, h.2.symm⟩
theorem q15a {w : World} {B n : Nat} {A : Option Addr} {ev : Nat → Ev} (h : SeesE w B A n ev) (cap : Nat) (hn : n ≤ 1000) (q : Nat) (m : Nat) :
    Calls Try.prog 15 #[.slice A n cap, .int .i64 1, .int .i64 (q : Int)] (w.drewN m) fun e w' => e = .returned (.int .i64 ((cR ev n q 0 : Nat) : Int)) ∧ w' = w.drewN m :=
  (refOf_1 _ B n cap q A ev hn (h.bel (drewN_bel w m))).mono fun _ _ h => ⟨h.1, h.2.symm⟩
theorem q15b {w : World} {B n : Nat} {A : Option Addr} {ev : Nat → Ev} (h : SeesE w B A n ev) (cap : Nat) (hn : n ≤ 1000) (q : Nat) (m : Nat) :
    Calls Try.prog 15 #[.slice A n cap, .int .i64 9, .int .i64 (q : Int)] (w.drewN m) fun e w' => e = .returned (.int .i64 ((cR ev n q 1 : Nat) : Int)) ∧ w' = w.drewN m :=
  (refOf_9 _ B n cap q A ev hn (h.bel (drewN_bel w m))).mono fun _ _ h => ⟨h.1, h.2.symm⟩
theorem q15c {w : World} {B n : Nat} {A : Option Addr} {ev : Nat → Ev} (h : SeesE w B A n ev) (cap : Nat) (hn : n ≤ 1000) (q : Nat) (m : Nat) :
    Calls Try.prog 15 #[.slice A n cap, .int .i64 2, .int .i64 (q : Int)] (w.drewN m) fun e w' => e = .returned (.int .i64 ((cR ev n q 2 : Nat) : Int)) ∧ w' = w.drewN m :=
  (refOf_2 _ B n cap q A ev hn (h.bel (drewN_bel w m))).mono fun _ _ h => ⟨h.1, h.2.symm⟩
theorem q16 {w : World} {B n : Nat} {A : Option Addr} {ev : Nat → Ev} (h : SeesE w B A n ev) (cap : Nat) (hn : n ≤ 1000) (q : Nat) (m : Nat) :
    Calls Try.prog 16 #[.slice A n cap, .int .i64 (q : Int)] (w.drewN m) fun e w' => e = .returned (.int .i64 ((cP ev n q : Nat) : Int)) ∧ w' = w.drewN m :=
  (refProc_any _ B n cap q A ev hn (h.bel (drewN_bel w m))).mono fun _ _ h => ⟨h.1, h.2.symm⟩
end Go.Proofs.Ytammoflhfcpomaa
