/- Chains: the page's example. -/
import Derived.Test.YtlnjjcfkcoaceaaChn4
import Derived.Test.YtlnjjcfkcoaceaaNew
namespace Go.Proofs.Ytlnjjcfkcoaceaa
open Go Go.RowKit
set_option linter.unusedVariables false
set_option maxRecDepth 100000
set_option linter.unusedSimpArgs false

def exL (j : Nat) : Acc := if j = 0 then ⟨1, 0, 0, 0, 0, false⟩ else ⟨2, 0, 1, 0, 5, false⟩
theorem exL_ok : okL exL 2 = [⟨1, 0, 0, 0, 0, false⟩, ⟨2, 0, 1, 0, 5, false⟩] := by simp [okL, exL]

theorem newed_cs {w w' : World} {x : Nat} {who : Int} {F : List Acc} (h : Newed w w' x who F) (hF : F ≠ []) : ∃ q ba, CS w' x who ba F.length (fun j => F.getD j noAcc) 0 q false none 0 (fun _ => 0) ∧ w.heap.size < q ∧ w.heap.size < ba := by
  cases h with
  | none A ca e hb => exact absurd e hF
  | some q ba m e h1 h2 h3 h4 hC hq => exact ⟨q, ba, .next 0 q m false none 0 _ (by omega) hC hq h3 h4 (fun k e => by cases e), h1, h2⟩
theorem newed_nil {w w' : World} {x : Nat} {who : Int} {F : List Acc} (h : Newed w w' x who F) (hF : F = []) : w'.cell? ⟨x, 1, none⟩ = some (.pointer none) := by
  cases h with
  | none A ca e hb => exact hb.cell 1 rfl
  | some q ba m e h1 h2 h3 h4 hC hq => subst hF; cases e

theorem ex_sees (w : World) (b : Nat) (h : Blk w b #[.int .i64 1, .int .i64 0, .int .i64 0, .int .u64 0, .int .u64 0, .bool false, .int .i64 2, .int .i64 0, .int .i64 1, .int .u64 0, .int .u64 5, .bool false] 41) : SeesC w w.heap.size (some ⟨b, 0, none⟩) 2 6 (fun j => accC (exL j)) := fun _ => by
  refine ⟨b, 0, rfl, h.lt, fun j hj i u hu => h.cell _ ?_⟩
  have hi : i < 6 := by
    have := (List.getElem?_eq_some_iff.1 hu).1
    rwa [accC_len] at this
  obtain rfl | rfl : j = 0 ∨ j = 1 := by omega
  · rcases (by omega : i = 0 ∨ i = 1 ∨ i = 2 ∨ i = 3 ∨ i = 4 ∨ i = 5) with rfl | rfl | rfl | rfl | rfl | rfl <;> exact hu
  · rcases (by omega : i = 0 ∨ i = 1 ∨ i = 2 ∨ i = 3 ∨ i = 4 ∨ i = 5) with rfl | rfl | rfl | rfl | rfl | rfl <;> exact hu

def exG (j : Nat) : Acc := [(⟨1, 0, 0, 0, 0, false⟩ : Acc), ⟨2, 0, 1, 0, 5, false⟩].getD j noAcc
def cs0 : St := fresh (fun _ => 0)
def cs1 : St := actS 1 0 0 0 0 2 cs0
def cs2 : St := actS 2 0 1 0 5 2 cs1

set_option maxHeartbeats 2000000 in
theorem chain_awake (w : World) : Calls Try.prog 11 #[] w fun e w' => e = .returned (.bool true) ∧ Below w.heap.size w w' := by
  have hN := new_any w 2 (by omega)
  go_enter Try.func11, Try.ntmps11
  go_wp2_with fail
  go_at_call 68; refine hN.mono ?_; rintro e w1 ⟨A, cap, c, b, rfl, hI, hb, h1, h2⟩
  have HB1 : Hid (Below w.heap.size w w1) := hb
  have hY : Blk (w1.alloc (.cells #[.int .i64 1, .int .i64 0, .int .i64 0, .int .u64 0, .int .u64 0, .bool false, .int .i64 2, .int .i64 0, .int .i64 1, .int .u64 0, .int .u64 5, .bool false] 41)) w1.heap.size #[.int .i64 1, .int .i64 0, .int .i64 0, .int .u64 0, .int .u64 0, .bool false, .int .i64 2, .int .i64 0, .int .i64 1, .int .u64 0, .int .u64 5, .bool false] 41 := Blk.new _ _ _
  have hNw := chnew_any _ _ 2 2 exL 0 (ex_sees _ _ hY) (by omega)
  have hb1 : Below w1.heap.size w1 (w1.alloc (.cells #[.int .i64 1, .int .i64 0, .int .i64 0, .int .u64 0, .int .u64 0, .bool false, .int .i64 2, .int .i64 0, .int .i64 1, .int .u64 0, .int .u64 5, .bool false] 41)) := (Below.refl _ _).alloc (Nat.le_refl _) _
  have HI : Hid (Is (w1.alloc (.cells #[.int .i64 1, .int .i64 0, .int .i64 0, .int .u64 0, .int .u64 0, .bool false, .int .i64 2, .int .i64 0, .int .i64 1, .int .u64 0, .int .u64 5, .bool false] 41)) 122 A cap c b 2 cs0) := hI.below hb1
  have HB2 : Hid (Below w.heap.size w (w1.alloc (.cells #[.int .i64 1, .int .i64 0, .int .i64 0, .int .u64 0, .int .u64 0, .bool false, .int .i64 2, .int .i64 0, .int .i64 1, .int .u64 0, .int .u64 5, .bool false] 41))) := seq hb hb1
  clear hN hI hb hb1 hY
  go_wp2_with fail
  generalize w1.alloc (.cells #[.int .i64 1, .int .i64 0, .int .i64 0, .int .u64 0, .int .u64 0, .bool false, .int .i64 2, .int .i64 0, .int .i64 1, .int .u64 0, .int .u64 5, .bool false] 41) = W at *
  go_at_call 14; refine hNw.mono ?_; rintro e w2 ⟨rfl, hNd, hBd⟩
  rw [exL_ok] at hNd
  obtain ⟨q, ba, hC, hq, hba⟩ := newed_cs hNd (by simp)
  have hI2 : Is w2 122 A cap c b 2 cs0 := HI.out.below hBd
  have hcl := HI.out.lt
  have hbl := HI.out.bl
  have HB3 : Hid (Below w.heap.size w w2) := seq HB2.out hBd
  have hWs := HB2.out.size
  have k0 := chain_acc w2 A cap c b 2 cs0 hI2 (by omega) ((low_fresh _).more (by omega)) W.heap.size 0 ba 2 exG 0 q none 0 _ hC (by omega) (by omega) (by decide) (by decide) (by omega) (by omega) (by omega) (fun k e => by cases e)
  clear hNw hC hI2
  go_wp2_with fail
  go_at_call 21; refine k0.mono ?_; rintro e w3 ⟨rfl, q3, gb, cap3, hC, hI, hB, hq3, hg⟩
  have hg' : w2.heap.size ≤ gb := by
    rcases hg with e | e
    · cases e
    · exact e
  have hW2 := hBd.size
  have hs3 := hB.size
  have k1 := chain_acc w3 A cap c b 2 cs1 hI (by omega) ((actS_low (low_fresh _) _ _ _ _ _ _).more (by omega)) W.heap.size 0 ba 2 exG 1 q3 (some ⟨gb, 0, none⟩) cap3 _ hC (by omega) (by omega) (by decide) (by decide) (by omega) (by omega) (by omega) (fun k e => by cases e; simp; omega)
  have HB4 : Hid (But [c, b, W.heap.size] w2 w3) := hB
  clear k0 hI hB hC
  go_wp2_with fail
  go_at_call 21; refine k1.mono ?_; rintro e w4 ⟨rfl, q4, gb4, cap4, hC, hI, hB, hq4, hg4⟩
  have HB5 : Hid (But [gb, c, b, W.heap.size] w3 w4) := hB.more (by intro k _ hk; simp [gotL] at hk ⊢; omega)
  have HB6 : Hid (But [gb, c, b, W.heap.size] w2 w4) := (HB4.out.more (by intro k _ hk; simp at hk ⊢; omega)).trans HB5.out
  have hP := peek_any w4 A cap c b 2 cs2 1 hI (by omega)
  obtain ⟨nx, hnx, hnn⟩ := hC.nxt
  have hD := chain_done w4 W.heap.size nx hnx
  rw [hnn] at hD
  rw [show peekT 2 cs2 1 = 5 by decide] at hP
  clear k1 hI hB hC
  go_wp2_with fail
  go_at_call 36; refine hP.mono ?_; rintro e w6 ⟨rfl, rfl⟩
  go_wp2_with fail
  go_at_call 18; refine hD.mono ?_; rintro e w6 ⟨rfl, rfl⟩
  go_wp2_with fail
  go_ret
  refine ⟨rfl, HB3.out.trans (HB6.out.below ?_ HB3.out.size)⟩
  intro k hk
  have := HB3.out.size
  simp at hk
  omega
end Go.Proofs.Ytlnjjcfkcoaceaa
