/- The document's At, Drop; is an answer the first item? -/
import Derived.Test.YtideofojmgmboaaC2
namespace Go.Proofs.Ytideofojmgmboaa
open Go Go.RowKit
set_option linter.unusedVariables false
set_option linter.unusedSimpArgs false
set_option maxRecDepth 100000

/-- the place of a key, or -1 -/
def posI (S : List It) (k : Int) : Int := match pos S k with | some i => (i : Int) | none => -1
theorem pos_first {S : List It} {k : Int} {i : Nat} (hi : i < S.length) (h : (at_ S i).2 = k) (hb : ∀ j, j < i → (at_ S j).2 ≠ k) : pos S k = some i := by
  unfold pos
  rw [List.findIdx?_eq_some_iff_getElem]
  have e : ∀ j (hj : j < S.length), S[j] = at_ S j := fun j hj => by unfold at_; rw [List.getD_eq_getElem?_getD, List.getElem?_eq_getElem hj]; rfl
  refine ⟨hi, by rw [e i hi]; simpa using h, fun j hj => ?_⟩
  rw [e j (by omega)]
  simpa using hb j hj
theorem pos_not {S : List It} {k : Int} (hb : ∀ j, j < S.length → (at_ S j).2 ≠ k) : pos S k = none := by
  cases h : pos S k with
  | none => rfl
  | some i => obtain ⟨h1, h2⟩ := pos_some h; exact absurd h2 (hb i h1)
set_option maxHeartbeats 2000000 in
theorem refAt_any (w : World) (b : Nat) (A : Option Addr) (cp : Nat) (S : List It) (k : Int) (n : Nat) (hn : S.length = n) (h : Sees w b A S) (hl : n < 100000) :
    Calls Try.prog 20 #[.slice A n cp, .int .i64 k] w fun e w' => e = .returned (.int .i64 (posI S k)) ∧ w' = w := by
  have HS := Lib.hid h
  have HN := Lib.hid hn
  have HL := Lib.hid hl
  clear h hn hl
  go_enter Try.func20, Try.ntmps20
  go_wp2_with fail
  go_loopw [5] (fun i wr => ∃ (j : Nat), i = .int .i64 j ∧ j ≤ n ∧ wr = w ∧ Hid (∀ t, t < j → (at_ S t).2 ≠ k)) (fun i _ => n - (intOf i).toNat)
  case atStart => exact ⟨0, rfl, by omega, rfl, fun t ht => absurd ht (Nat.not_lt_zero t)⟩
  case round =>
    obtain ⟨j, rfl, hj, rfl, hb⟩ := hrel
    by_cases hjn : j < n
    · have hji : (j : Int) < (n : Int) := by omega
      have hcap : (j : Int) < 100000 := by have := HL.out; omega
      have HKL : Hid (j < S.length) := by show j < S.length; rw [HN.out]; exact hjn
      obtain ⟨off, rfl, hcs⟩ := HS.out (by have := HKL.out; omega)
      obtain ⟨hy0, hy1⟩ := hcs j HKL.out
      clear hcs
      have hye : ∃ y, at_ S j = y := ⟨_, rfl⟩
      obtain ⟨y, hy⟩ := hye
      rw [hy] at hy0 hy1
      have HY := Lib.hid hy
      obtain ⟨y0, y1⟩ := y
      clear hy
      simp only at hy0 hy1
      by_cases hk : y1 = k
      · subst hk
        go_wp2_with fail
        go_ret
        refine ⟨?_, rfl⟩
        unfold posI
        rw [pos_first HKL.out (by rw [HY.out]) hb.out]
        rfl
      · have hk1 : (y1 == k) = false := by simpa using hk
        have HK := Lib.hid hk
        go_wp2_with fail
        go_roundw
        case rel => exact ⟨j + 1, by go_num, by omega, trivial, fun t ht => by
          rcases Nat.lt_succ_iff_lt_or_eq.1 ht with h | h
          · exact hb.out t h
          · subst h; rw [HY.out]; exact HK.out⟩
        case measure => simp [intOf]; omega
    · obtain rfl : j = n := by omega
      have hji : ¬ (j : Int) < (j : Int) := by omega
      go_wp2_with fail
      go_ret
      refine ⟨?_, rfl⟩
      unfold posI
      rw [pos_not (by rw [HN.out]; exact hb.out)]
      rfl
theorem gr_app {w wr w1 : World} {T : TypeId} {B cp g cap m : Nat} {A : Option Addr} {O : List It} {x y : Int} (h : Gr w wr T B A cp O) (hm : O.length = m)
    (hO : w1.ownsRow B T 2 (.slice (some ⟨g, 0, none⟩) (m + 1) cap) (m + 1) (flat O ++ [.int .i64 x, .int .i64 y])) (hG : (wr.alloc (.cells #[.int .i64 x, .int .i64 y] T)).grownBy w1 (Value.slice A m cp).ownBlock) :
    Gr w w1 T B (some ⟨g, 0, none⟩) cap (O ++ [(x, y)]) := by
  subst hm
  exact (h.app hO hG).1
/-- without a place -/
def ddrop (S : List It) (at' : Int) : List It := ((List.range S.length).filter (fun i : Nat => decide ((i : Int) ≠ at'))).map (at_ S)
def ddropTo (S : List It) (at' : Int) (k : Nat) : List It := ((List.range k).filter (fun i : Nat => decide ((i : Int) ≠ at'))).map (at_ S)
theorem ddrop_in (S : List It) (at' : Int) (k : Nat) (h : (k : Int) ≠ at') : ddropTo S at' (k + 1) = ddropTo S at' k ++ [at_ S k] := by
  unfold ddropTo
  rw [List.range_succ, List.filter_append, List.map_append]
  simp [h]
theorem ddrop_out (S : List It) (at' : Int) (k : Nat) (h : (k : Int) = at') : ddropTo S at' (k + 1) = ddropTo S at' k := by
  unfold ddropTo
  rw [List.range_succ, List.filter_append, List.map_append]
  simp [h]
theorem ddrop_le (S : List It) (at' : Int) (k : Nat) : (ddropTo S at' k).length ≤ k := by
  unfold ddropTo
  rw [List.length_map]
  exact Nat.le_trans (List.length_filter_le _ _) (by simp)
set_option maxHeartbeats 4000000 in
theorem refDrop_any (w : World) (b : Nat) (A : Option Addr) (cp : Nat) (S : List It) (at' : Int) (n : Nat) (hn : S.length = n) (h : Sees w b A S) (hl : n < 100000) :
    Calls Try.prog 30 #[.slice A n cp, .int .i64 at'] w fun e w' => ∃ A' m cp', e = .returned (.slice A' m cp') ∧ (ddrop S at').length = m ∧ Gr w w' 42 w.heap.size A' cp' (ddrop S at') := by
  obtain ⟨i0, hi, hz0, hz1, hz2⟩ := info_parts info42
  have HS := Lib.hid (fun (X : World) (hb : Below w.heap.size w X) => h.below hb)
  have HN := Lib.hid hn
  have HL := Lib.hid hl
  have HG0 := Lib.hid (Gr.nil w 42 (Below.refl w.heap.size w))
  clear h hn hl
  go_enter Try.func30, Try.ntmps30
  go_wp2_with fail
  go_loopw [5, 6] (fun v i wr => ∃ (k m cp' : Nat) (A' : Option Addr), v = .slice A' m cp' ∧ i = .int .i64 k ∧ k ≤ n ∧ Hid ((ddropTo S at' k).length = m) ∧ Hid (Gr w wr 42 w.heap.size A' cp' (ddropTo S at' k))) (fun _ i _ => n - (intOf i).toNat)
  case atStart => exact ⟨0, 0, 0, none, rfl, rfl, by omega, rfl, HG0.out⟩
  case round =>
    obtain ⟨k, m, cp', A', rfl, rfl, hk, HM, HG⟩ := hrel
    clear HG0
    by_cases hkn : k < n
    · have hki : (k : Int) < (n : Int) := by omega
      have hcap : (k : Int) < 100000 := by have := HL.out; omega
      have HKL : Hid (k < S.length) := by show k < S.length; rw [HN.out]; exact hkn
      by_cases hat : (k : Int) = at'
      · subst hat
        have HD := Lib.hid (ddrop_out S (k : Int) k rfl)
        go_wp2_with fail
        go_roundw
        case rel => exact ⟨k + 1, m, cp', A', rfl, by go_num, by omega, (by rw [HD.out]; exact HM), (by rw [HD.out]; exact HG)⟩
        case measure => simp [intOf]; omega
      · have hat1 : ((k : Int) == at') = false := by simpa using hat
        have HD := Lib.hid (ddrop_in S at' k hat)
        obtain ⟨off, rfl, hcs⟩ := HS.out wr HG.out.bel (by have := HKL.out; omega)
        obtain ⟨hy0, hy1⟩ := hcs k HKL.out
        clear hcs
        have hye : ∃ y, at_ S k = y := ⟨_, rfl⟩
        obtain ⟨y, hy⟩ := hye
        rw [hy] at hy0 hy1
        have HY := Lib.hid hy
        obtain ⟨y0, y1⟩ := y
        clear hy
        simp only at hy0 hy1
        have hml : m ≤ 100000 := by have h1 := ddrop_le S at' k; rw [HM.out] at h1; have := HL.out; omega
        have HOWN : Hid (wr.ownsRow w.heap.size 42 2 (.slice A' m cp') m (flat (ddropTo S at' k))) := by have q := HG.out.own; rw [HM.out] at q; exact q
        have HWB := Lib.hid HG.out.lo
        have hat2 : ((k : Int) != at') = true := by simpa using hat
        have HAT := Lib.hid hat
        clear hat
        go_wp2_with (refine wpList_append_lies _ rfl (.tmp 16) (.tmp 21) 40 rfl w.heap.size 42 i0 _ 2 16 Try.underlying40 hi hz0 hz1 hz2 rfl (by omega) (.slice A' m cp') m (flat (ddropTo S at' k)) rfl (HOWN.out.alloc _) ⟨_, 0, none⟩ 1 1 [.int .i64 y0, .int .i64 y1] rfl rfl (news2' _ _ _ _) (flat_one [(y0, y1)]) (by omega) (by unfold maxLen; omega) (by omega) (by have := HWB.out; rw [size_al]; omega) _ rfl ?_; intro g3 cap3 w5 hO2 hG2 _ _; have HU := Lib.hid (gr_app HG.out HM.out hO2 hG2); clear hO2 hG2)
        go_roundw
        case rel =>
          have hU := HU.out
          rw [← HY.out, ← HD.out] at hU
          first | exact ⟨k + 1, m + 1, cap3, some ⟨g3, 0, none⟩, rfl, by go_num, by omega, (by show (ddropTo S at' (k + 1)).length = _; rw [HD.out, List.length_append, HM.out]; rfl), hU⟩ | (repeat apply Exists.intro; exact ⟨⟨k + 1, m + 1, cap3, some ⟨g3, 0, none⟩, rfl, by go_num, by omega, (by show (ddropTo S at' (k + 1)).length = _; rw [HD.out, List.length_append, HM.out]; rfl), hU⟩, rfl⟩)
        case measure => simp [intOf]; omega
    · obtain rfl : k = n := by omega
      have hki : ¬ (k : Int) < (k : Int) := by omega
      have he : ddropTo S at' k = ddrop S at' := by unfold ddrop; rw [HN.out]; rfl
      have HEE := Lib.hid he
      clear he
      go_wp2_with fail
      go_ret
      rw [HEE.out] at HM HG
      exact ⟨A', m, cp', rfl, HM.out, HG.out⟩
end Go.Proofs.Ytideofojmgmboaa
