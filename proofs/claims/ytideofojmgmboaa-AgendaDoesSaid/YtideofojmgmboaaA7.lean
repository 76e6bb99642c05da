/- Up and down, walked. -/
import Derived.Test.YtideofojmgmboaaA6
namespace Go.Proofs.Ytideofojmgmboaa
open Go Go.RowKit
set_option linter.unusedVariables false
set_option linter.unusedSimpArgs false
set_option maxRecDepth 100000
variable {w : World} {a lb mb cap clk : Nat}

/-- an agenda that once had an item, its row and its map whatever they are -/
def AgL (w : World) (a lb mb cap clk : Nat) (L : List It) : Prop := ∃ cur M, Ag1 w a lb mb cap cur M clk L
theorem AgL.kept {L : List It} {w' : World} (h : AgL w a lb mb cap clk L) (ka : w'.heap[a]? = w.heap[a]?) (kl : w'.heap[lb]? = w.heap[lb]?) (km : w'.heap[mb]? = w.heap[mb]?) : AgL w' a lb mb cap clk L :=
  let ⟨_, _, h⟩ := h; ⟨_, _, h.kept ka kl km⟩
theorem AgL.below {L : List It} {w' : World} (h : AgL w a lb mb cap clk L) (hb : Below w.heap.size w w') : AgL w' a lb mb cap clk L :=
  let ⟨_, _, h⟩ := h; ⟨_, _, h.below hb⟩
theorem But.of_bel {l : List Nat} {x y z : World} (h : But l x y) (hb : Below y.heap.size y z) : But l x z := h.trans (But.of_below hb)

/-- the contract of Less, of Swap -/
def LessC : Prop := ∀ (w : World) (a lb mb cap clk : Nat) (L : List It) (i j : Nat), AgL w a lb mb cap clk L → i < L.length → j < L.length → Calls Try.prog 73 #[.pointer (some ⟨a, 0, none⟩), .int .i64 i, .int .i64 j] w fun e w' => e = .returned (.bool (ltI (at_ L i) (at_ L j))) ∧ Below w.heap.size w w'
def SwapC : Prop := ∀ (w : World) (a lb mb cap clk : Nat) (L : List It) (i j : Nat), AgL w a lb mb cap clk L → i < L.length → j < L.length → Calls Try.prog 76 #[.pointer (some ⟨a, 0, none⟩), .int .i64 i, .int .i64 j] w fun e w' => (∃ v, e = .returned v) ∧ But [a, lb, mb] w w' ∧ AgL w' a lb mb cap clk (swp L i j)
theorem less_c : LessC := fun w a lb mb cap clk L i j ⟨_, _, h⟩ hi hj => less_any h i j hi hj

theorem up_wrap (k m : Nat) (h : 0 < k) (hb : k < 4611686018427387904) (hm : m = (k - 1) / 2) : wrap64 ((wrap64 ((k : Int) - 1)).tdiv 2) = (m : Int) := by
  subst hm
  have e1 : wrap64 ((k : Int) - 1) = (k : Int) - 1 := by unfold wrap64; omega
  rw [e1, Int.tdiv_eq_ediv_of_nonneg (by omega)]
  unfold wrap64; omega
set_option maxHeartbeats 4000000 in
theorem up_any (SW : SwapC) (L : List It) (j : Nat) (hj : j < L.length) (hcap : L.length < 4611686018427387904) (h : AgL w a lb mb cap clk L) :
    Calls Try.prog 33 #[.iface 59 (.pointer (some ⟨a, 0, none⟩)), .int .i64 j] w fun e w' => (∃ v, e = .returned v) ∧ But [a, lb, mb] w w' ∧ AgL w' a lb mb cap clk (up L j) := by
  have H0 := Lib.hid h
  have HJ := Lib.hid hj
  have HC := Lib.hid hcap
  have HS := Lib.hid SW
  clear SW h hj hcap
  go_enter Try.func33, Try.ntmps33
  go_wp2_with fail
  go_loopw [1] (fun v wr => ∃ (k : Nat) (K : List It), v = .int .i64 k ∧ Hid (k < K.length) ∧ K.length = L.length ∧ But [a, lb, mb] w wr ∧ Hid (AgL wr a lb mb cap clk K) ∧ Hid (up K k = up L j)) (fun v _ => (intOf v).toNat)
  case atStart => exact ⟨j, L, rfl, HJ, rfl, But.refl _ _, H0, rfl⟩
  case round =>
    obtain ⟨k, K, rfl, hk, hlen, hB, hA, hU⟩ := hrel
    have HB := Lib.hid hB
    have HL := Lib.hid hlen
    clear hB hlen
    by_cases k0 : k = 0
    · subst k0
      go_wp2_with fail
      exact bodyPost_end (results_none rfl _ _ _) rfl ⟨⟨_, rfl⟩, HB.out, by have := hU.out; rw [up_eq, if_pos rfl] at this; rw [← this]; exact hA.out⟩
    · obtain ⟨m, hm⟩ : ∃ m, m = (k - 1) / 2 := ⟨_, rfl⟩
      have hkk := hk.out
      have hlc := HC.out
      have hll := HL.out
      have hw := up_wrap k m (by omega) (by omega) hm
      have hmk : ¬ m = k := by omega
      have hmK := Lib.hid (show m < K.length by omega)
      have hmlt := Lib.hid (show m < k by omega)
      have HE := Lib.hid (up_eq K k)
      rw [hU.out] at HE
      have HM := Lib.hid hm
      have HLess := Lib.hid (less_c wr a lb mb cap clk K k m hA.out hk.out hmK.out)
      clear hkk hlc hll hm
      by_cases hlt : ltI (at_ K k) (at_ K m) = true
      · go_wp2_with fail
        go_at_call 73; refine HLess.out.mono ?_; rintro e w1 ⟨rfl, hb1⟩
        rw [hlt]
        have HA1 := Lib.hid (hA.out.below hb1)
        have HB1 := Lib.hid (HB.out.of_bel hb1)
        have HSw := Lib.hid (HS.out w1 a lb mb cap clk K m k HA1.out hmK.out hk.out)
        clear hb1
        go_wp2_with fail
        go_at_call 76; refine HSw.out.mono ?_; rintro e w2 ⟨⟨v, rfl⟩, hb2, ha2⟩
        have HA2 := Lib.hid ha2
        have HB2 := Lib.hid (HB1.out.trans hb2)
        clear ha2 hb2
        go_wp2_with fail
        go_roundw
        case rel =>
          have e1 := HE.out
          rw [if_neg k0, ← HM.out, if_pos hlt] at e1
          exact ⟨m, _, rfl, (by rw [swp_len]; exact hmK.out), (by rw [swp_len]; exact HL.out), HB2.out, HA2.out, e1.symm⟩
        case measure => have := hmlt.out; simp [intOf]; omega
      · have hlf : ltI (at_ K k) (at_ K m) = false := by simpa using hlt
        go_wp2_with fail
        go_at_call 73; refine HLess.out.mono ?_; rintro e w1 ⟨rfl, hb1⟩
        rw [hlf]
        have HA1 := Lib.hid (hA.out.below hb1)
        have HB1 := Lib.hid (HB.out.of_bel hb1)
        clear hb1
        go_wp2_with fail
        have e1 := HE.out
        rw [if_neg k0, ← HM.out, hlf] at e1
        exact bodyPost_end (results_none rfl _ _ _) rfl ⟨⟨_, rfl⟩, HB1.out, by rw [e1]; exact HA1.out⟩
end Go.Proofs.Ytideofojmgmboaa
