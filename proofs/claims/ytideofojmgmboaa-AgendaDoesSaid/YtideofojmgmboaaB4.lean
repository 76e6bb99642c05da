/- The library's Push, Pop, Remove, Fix. -/
import Derived.Test.YtideofojmgmboaaA8
import Derived.Test.YtideofojmgmboaaB2
import Derived.Test.YtideofojmgmboaaB3
namespace Go.Proofs.Ytideofojmgmboaa
open Go Go.RowKit
set_option linter.unusedVariables false
set_option linter.unusedSimpArgs false
set_option maxRecDepth 100000
variable {w : World} {a lb mb cap clk : Nat}

theorem lenL_any {L : List It} (h : AgL w a lb mb cap clk L) : Calls Try.prog 29 #[.pointer (some ⟨a, 0, none⟩)] w fun e w' => e = .returned (.int .i64 L.length) ∧ w' = w := let ⟨_, _, h⟩ := h; len_any h
theorem popL_any {L : List It} (n : Nat) (h : AgL w a lb mb cap clk L) (hL : L.length = n + 1) : Calls Try.prog 74 #[.pointer (some ⟨a, 0, none⟩)] w fun e w' => e = .returned (.iface 23 (.agg #[.int .i64 (at_ L n).1, .int .i64 (at_ L n).2])) ∧ But [a, lb, mb] w w' ∧ AgL w' a lb mb cap clk (L.take n) := let ⟨_, _, h⟩ := h; pop_any n h hL
theorem pushL_any {L : List It} (h : AgL w a lb mb cap clk L) (x : It) (hx : pos L x.2 = none) (hlen : L.length < 65536) :
    Calls Try.prog 75 #[.pointer (some ⟨a, 0, none⟩), .iface 23 (.agg #[.int .i64 x.1, .int .i64 x.2])] w fun e w' => (∃ v, e = .returned v) ∧ But [a, lb, mb] w w' ∧
      ∃ lb' cap', AgL w' a lb' mb cap' (clk + 1) (L ++ [x]) ∧ (lb' = lb ∨ w.heap.size ≤ lb') := let ⟨_, _, h⟩ := h; push_1 h x hx hlen

/-- what is taken ahead of all, what is left -/
def hpop (L : List It) : It × List It :=
  let r := (down (swp L 0 (L.length - 1)) 0 (L.length - 1)).1
  (at_ r (L.length - 1), r.take (L.length - 1))
def hfixAt (L : List It) (i n : Nat) : List It := if i < (down L i n).2 then (down L i n).1 else up (down L i n).1 i
def hrem (L : List It) (i : Nat) : List It :=
  (if L.length - 1 = i then L else hfixAt (swp L i (L.length - 1)) i (L.length - 1)).take (L.length - 1)

theorem len_wrap (n : Nat) (h : n < 2305843009213693951) : wrap64 (((n + 1 : Nat) : Int) - 1) = (n : Int) := by unfold wrap64; omega
set_option maxHeartbeats 4000000 in
theorem heapPop_any (SW : SwapC) (L : List It) (n : Nat) (hL : L.length = n + 1) (hcap : L.length < 2305843009213693951) (h : AgL w a lb mb cap clk L) :
    Calls Try.prog 32 #[.iface 59 (.pointer (some ⟨a, 0, none⟩))] w fun e w' => e = .returned (.iface 23 (.agg #[.int .i64 (hpop L).1.1, .int .i64 (hpop L).1.2])) ∧ But [a, lb, mb] w w' ∧ AgL w' a lb mb cap clk (hpop L).2 := by
  have HLn := Lib.hid (lenL_any h)
  have HS1 := Lib.hid (SW w a lb mb cap clk L 0 n h (by omega) (by omega))
  have HD := Lib.hid (fun (X : World) (hX : AgL X a lb mb cap clk (swp L 0 n)) => down_any SW (swp L 0 n) 0 n (by rw [swp_len]; omega) (by rw [swp_len]; omega) (by rw [swp_len]; exact hcap) hX)
  have hlen2 : (down (swp L 0 n) 0 n).1.length = n + 1 := by rw [down_len, swp_len, hL]
  have HP := Lib.hid (fun (X : World) (hX : AgL X a lb mb cap clk (down (swp L 0 n) 0 n).1) => popL_any n hX hlen2)
  have hw := len_wrap n (by omega)
  have hw' : wrap64 (n : Int) = (n : Int) := by unfold wrap64; omega
  have HE : Hid (hpop L = (at_ (down (swp L 0 n) 0 n).1 n, (down (swp L 0 n) 0 n).1.take n)) := by show hpop L = _; simp [hpop, hL]
  have HL := Lib.hid hL
  clear h hlen2 hcap SW
  rw [hL] at HLn
  generalize hq : (down (swp L 0 n) 0 n) = q at *
  clear hq
  rw [HE.out]
  clear HE hL
  go_enter Try.func32, Try.ntmps32
  go_wp2_with fail
  go_at_call 29; refine HLn.out.mono ?_; rintro e w1 ⟨rfl, rfl⟩
  go_wp2_with fail
  go_at_call 76; refine HS1.out.mono ?_; rintro e w2 ⟨⟨v, rfl⟩, hb2, ha2⟩
  have HB2 := Lib.hid hb2
  have HA2 := Lib.hid ha2
  clear hb2 ha2
  go_wp2_with fail
  go_at_call 34; refine (HD.out _ HA2.out).mono ?_; rintro e w3 ⟨rfl, hb3, ha3⟩
  have HB3 := Lib.hid (HB2.out.trans hb3)
  have HA3 := Lib.hid ha3
  clear hb3 ha3
  go_wp2_with fail
  go_at_call 74; refine (HP.out _ HA3.out).mono ?_; rintro e w4 ⟨rfl, hb4, ha4⟩
  have HB4 := Lib.hid (HB3.out.trans hb4)
  have HA4 := Lib.hid ha4
  clear hb4 ha4
  go_wp2_with fail
  go_ret
  exact ⟨rfl, HB4.out, HA4.out⟩
set_option maxHeartbeats 4000000 in
theorem heapFix_any (SW : SwapC) (L : List It) (i : Nat) (hi : i < L.length) (hcap : L.length < 2305843009213693951) (h : AgL w a lb mb cap clk L) :
    Calls Try.prog 25 #[.iface 59 (.pointer (some ⟨a, 0, none⟩)), .int .i64 i] w fun e w' => (∃ v, e = .returned v) ∧ But [a, lb, mb] w w' ∧ AgL w' a lb mb cap clk (hfixAt L i L.length) := by
  have HLn := Lib.hid (lenL_any h)
  have HD := Lib.hid (down_any SW L i L.length hi (Nat.le_refl _) hcap h)
  have HU := Lib.hid (fun (X : World) (K : List It) (hk : K.length = L.length) (hX : AgL X a lb mb cap clk K) => up_any SW K i (by omega) (by omega) hX)
  have hlen : (down L i L.length).1.length = L.length := down_len _ _ _
  have HLE := Lib.hid hlen
  have HE : Hid (hfixAt L i L.length = if i < (down L i L.length).2 then (down L i L.length).1 else up (down L i L.length).1 i) := rfl
  clear h hcap SW hlen hi
  generalize hq : (down L i L.length) = q at *
  clear hq
  rw [HE.out]
  clear HE
  by_cases hm : i < q.2
  · rw [if_pos hm]
    have hm' : decide (i < q.2) = true := by simpa using hm
    rw [hm'] at HD
    go_enter Try.func25, Try.ntmps25
    go_wp2_with fail
    go_at_call 29; refine HLn.out.mono ?_; rintro e w1 ⟨rfl, rfl⟩
    go_wp2_with fail
    go_at_call 34; refine HD.out.mono ?_; rintro e w2 ⟨rfl, hb2, ha2⟩
    have HF := Lib.hid (And.intro hb2 ha2)
    clear hb2 ha2
    go_wp2_with fail
    exact bodyPost_end (results_none rfl _ _ _) rfl ⟨⟨_, rfl⟩, HF.out⟩
  · rw [if_neg hm]
    have hm' : decide (i < q.2) = false := by simpa using hm
    rw [hm'] at HD
    go_enter Try.func25, Try.ntmps25
    go_wp2_with fail
    go_at_call 29; refine HLn.out.mono ?_; rintro e w1 ⟨rfl, rfl⟩
    go_wp2_with fail
    go_at_call 34; refine HD.out.mono ?_; rintro e w2 ⟨rfl, hb2, ha2⟩
    have HB2 := Lib.hid hb2
    have HU2 := Lib.hid (HU.out w2 q.1 HLE.out ha2)
    clear hb2 ha2
    go_wp2_with fail
    go_at_call 33; refine HU2.out.mono ?_; rintro e w3 ⟨⟨v, rfl⟩, hb3, ha3⟩
    have HF := Lib.hid (And.intro (HB2.out.trans hb3) ha3)
    clear hb3 ha3
    go_wp2_with fail
    exact bodyPost_end (results_none rfl _ _ _) rfl ⟨⟨_, rfl⟩, HF.out⟩
theorem hfixAt_len (L : List It) (i n : Nat) : (hfixAt L i n).length = L.length := by
  unfold hfixAt; split
  · exact down_len _ _ _
  · rw [up_len, down_len]
set_option maxHeartbeats 4000000 in
theorem heapRem_any (SW : SwapC) (L : List It) (i n : Nat) (hL : L.length = n + 1) (hi : i < L.length) (hcap : L.length < 2305843009213693951) (h : AgL w a lb mb cap clk L) :
    Calls Try.prog 24 #[.iface 59 (.pointer (some ⟨a, 0, none⟩)), .int .i64 i] w fun e w' => (∃ v, e = .returned v) ∧ But [a, lb, mb] w w' ∧ AgL w' a lb mb cap clk (hrem L i) := by
  have HLn := Lib.hid (lenL_any h)
  rw [hL] at HLn
  have hw := len_wrap n (by omega)
  have hw' : wrap64 (n : Int) = (n : Int) := by unfold wrap64; omega
  by_cases hin : n = i
  · have HE : hrem L i = L.take n := by unfold hrem; rw [hL, if_pos (by omega)]; rfl
    rw [HE]
    have HP := Lib.hid (popL_any n h hL)
    clear HE h hcap SW hL hi
    subst hin
    go_enter Try.func24, Try.ntmps24
    go_wp2_with fail
    go_at_call 29; refine HLn.out.mono ?_; rintro e w1 ⟨rfl, rfl⟩
    go_wp2_with fail
    go_at_call 74; refine HP.out.mono ?_; rintro e w4 ⟨rfl, hb4, ha4⟩
    have HF := Lib.hid (And.intro hb4 ha4)
    clear hb4 ha4
    go_wp2_with fail
    go_ret
    exact ⟨⟨_, rfl⟩, HF.out⟩
  · have HS1 := Lib.hid (SW w a lb mb cap clk L i n h hi (by omega))
    have HD := Lib.hid (fun (X : World) (hX : AgL X a lb mb cap clk (swp L i n)) => down_any SW (swp L i n) i n (by rw [swp_len]; omega) (by rw [swp_len]; omega) (by rw [swp_len]; exact hcap) hX)
    have HU := Lib.hid (fun (X : World) (K : List It) (hk : K.length = L.length) (hX : AgL X a lb mb cap clk K) => up_any SW K i (by omega) (by omega) hX)
    have hlen : (down (swp L i n) i n).1.length = L.length := by rw [down_len, swp_len]
    have HLE := Lib.hid hlen
    have HLL := Lib.hid hL
    have HP := Lib.hid (fun (X : World) (K : List It) (hk : K.length = L.length) (hX : AgL X a lb mb cap clk K) => popL_any n hX (by omega))
    have HE : Hid (hrem L i = (if i < (down (swp L i n) i n).2 then (down (swp L i n) i n).1 else up (down (swp L i n) i n).1 i).take n) := by
      show hrem L i = _
      unfold hrem hfixAt
      simp only [hL, Nat.add_sub_cancel, if_neg hin]
    clear h hcap SW hlen hi hL
    generalize hq : (down (swp L i n) i n) = q at *
    clear hq
    rw [HE.out]
    clear HE
    by_cases hm : i < q.2
    · rw [if_pos hm]
      have hm' : decide (i < q.2) = true := by simpa using hm
      rw [hm'] at HD
      go_enter Try.func24, Try.ntmps24
      go_wp2_with fail
      go_at_call 29; refine HLn.out.mono ?_; rintro e w1 ⟨rfl, rfl⟩
      go_wp2_with fail
      go_at_call 76; refine HS1.out.mono ?_; rintro e w2 ⟨⟨v, rfl⟩, hb2, ha2⟩
      have HB2 := Lib.hid hb2
      have HD2 := Lib.hid (HD.out _ ha2)
      clear hb2 ha2
      go_wp2_with fail
      go_at_call 34; refine HD2.out.mono ?_; rintro e w3 ⟨rfl, hb3, ha3⟩
      have HB3 := Lib.hid (HB2.out.trans hb3)
      have HP3 := Lib.hid (HP.out _ _ HLE.out ha3)
      clear hb3 ha3
      go_wp2_with fail
      go_at_call 74; refine HP3.out.mono ?_; rintro e w4 ⟨rfl, hb4, ha4⟩
      have HF := Lib.hid (And.intro (HB3.out.trans hb4) ha4)
      clear hb4 ha4
      go_wp2_with fail
      go_ret
      exact ⟨⟨_, rfl⟩, HF.out⟩
    · rw [if_neg hm]
      have hm' : decide (i < q.2) = false := by simpa using hm
      rw [hm'] at HD
      go_enter Try.func24, Try.ntmps24
      go_wp2_with fail
      go_at_call 29; refine HLn.out.mono ?_; rintro e w1 ⟨rfl, rfl⟩
      go_wp2_with fail
      go_at_call 76; refine HS1.out.mono ?_; rintro e w2 ⟨⟨v, rfl⟩, hb2, ha2⟩
      have HB2 := Lib.hid hb2
      have HD2 := Lib.hid (HD.out _ ha2)
      clear hb2 ha2
      go_wp2_with fail
      go_at_call 34; refine HD2.out.mono ?_; rintro e w3 ⟨rfl, hb3, ha3⟩
      have HB3 := Lib.hid (HB2.out.trans hb3)
      have HU3 := Lib.hid (HU.out _ _ HLE.out ha3)
      clear hb3 ha3
      go_wp2_with fail
      go_at_call 33; refine HU3.out.mono ?_; rintro e w4 ⟨⟨v, rfl⟩, hb4, ha4⟩
      have HB4 := Lib.hid (HB3.out.trans hb4)
      have HP4 := Lib.hid (HP.out _ _ (by rw [up_len]; exact HLE.out) ha4)
      clear hb4 ha4
      go_wp2_with fail
      go_at_call 74; refine HP4.out.mono ?_; rintro e w5 ⟨rfl, hb5, ha5⟩
      have HF := Lib.hid (And.intro (HB4.out.trans hb5) ha5)
      clear hb5 ha5
      go_wp2_with fail
      go_ret
      exact ⟨⟨_, rfl⟩, HF.out⟩
set_option maxHeartbeats 4000000 in
theorem heapPush_1 (SW : SwapC) (L : List It) (x : It) (hx : pos L x.2 = none) (hlen : L.length < 65536) (h : AgL w a lb mb cap clk L) :
    Calls Try.prog 23 #[.iface 59 (.pointer (some ⟨a, 0, none⟩)), .iface 23 (.agg #[.int .i64 x.1, .int .i64 x.2])] w fun e w' => (∃ v, e = .returned v) ∧ ∃ lb' cap' X, But [a, lb, mb] w X ∧ But [a, lb', mb] X w' ∧ w.heap.size ≤ X.heap.size ∧
      AgL w' a lb' mb cap' (clk + 1) (up (L ++ [x]) L.length) ∧ (lb' = lb ∨ w.heap.size ≤ lb') := by
  have HP := Lib.hid (pushL_any h x hx hlen)
  have HLn := Lib.hid (fun (X : World) (lb' cap' : Nat) (hX : AgL X a lb' mb cap' (clk + 1) (L ++ [x])) => lenL_any hX)
  have HU := Lib.hid (fun (X : World) (lb' cap' : Nat) (hX : AgL X a lb' mb cap' (clk + 1) (L ++ [x])) => up_any SW (L ++ [x]) L.length (by simp) (by simp; omega) hX)
  have hw := len_wrap L.length (by omega)
  have hw' : wrap64 (L.length : Int) = (L.length : Int) := by unfold wrap64; omega
  have hll : (L ++ [x]).length = L.length + 1 := by simp
  rw [hll] at HLn
  obtain ⟨d, k⟩ := x
  clear h hx SW hll hlen
  generalize L.length = n at *
  go_enter Try.func23, Try.ntmps23
  go_wp2_with fail
  go_at_call 75; refine HP.out.mono ?_; rintro e w1 ⟨⟨v, rfl⟩, hb1, lb', cap', ha1, ho1⟩
  have HB1 := Lib.hid hb1
  have HO1 := Lib.hid ho1
  have HL1 := Lib.hid (HLn.out _ _ _ ha1)
  have HU1 := Lib.hid (HU.out _ _ _ ha1)
  clear hb1 ho1 ha1
  go_wp2_with fail
  go_at_call 29; refine HL1.out.mono ?_; rintro e w2 ⟨rfl, rfl⟩
  go_wp2_with fail
  go_at_call 33; refine HU1.out.mono ?_; rintro e w3 ⟨⟨v, rfl⟩, hb3, ha3⟩
  have HF := Lib.hid (And.intro hb3 ha3)
  clear hb3 ha3
  go_wp2_with fail
  exact bodyPost_end (results_none rfl _ _ _) rfl ⟨⟨_, rfl⟩, lb', cap', _, HB1.out, HF.out.1, HB1.out.size, HF.out.2, HO1.out⟩
set_option maxHeartbeats 4000000 in
theorem heapPush_0 (SW : SwapC) (x : It) (h : w.heap[a]? = some (.cells #[.slice none 0 0, .map none] 56 (0, 0))) :
    Calls Try.prog 23 #[.iface 59 (.pointer (some ⟨a, 0, none⟩)), .iface 23 (.agg #[.int .i64 x.1, .int .i64 x.2])] w fun e w' => (∃ v, e = .returned v) ∧ ∃ lb' mb' cap' X, But [a] w X ∧ But [a, lb', mb'] X w' ∧ w.heap.size ≤ X.heap.size ∧
      AgL w' a lb' mb' cap' 1 [x] ∧ w.heap.size ≤ lb' ∧ w.heap.size ≤ mb' := by
  have HP := Lib.hid (push_0 h x)
  have HLn := Lib.hid (fun (X : World) (lb' mb' cap' : Nat) (hX : AgL X a lb' mb' cap' 1 [x]) => lenL_any hX)
  have HU := Lib.hid (fun (X : World) (lb' mb' cap' : Nat) (hX : AgL X a lb' mb' cap' 1 [x]) => up_any SW [x] 0 (by simp) (by simp) hX)
  have hu : up [x] 0 = [x] := by rw [up_eq, if_pos rfl]
  rw [hu] at HU
  obtain ⟨d, k⟩ := x
  clear h SW hu
  go_enter Try.func23, Try.ntmps23
  go_wp2_with fail
  go_at_call 75; refine HP.out.mono ?_; rintro e w1 ⟨⟨v, rfl⟩, hb1, lb', mb', cap', ha1, ho1, ho2⟩
  have HB1 := Lib.hid hb1
  have HO1 := Lib.hid (And.intro ho1 ho2)
  have HL1 := Lib.hid (HLn.out _ _ _ _ ha1)
  have HU1 := Lib.hid (HU.out _ _ _ _ ha1)
  clear hb1 ho1 ho2 ha1
  go_wp2_with fail
  go_at_call 29; refine HL1.out.mono ?_; rintro e w2 ⟨rfl, rfl⟩
  go_wp2_with fail
  go_at_call 33; refine HU1.out.mono ?_; rintro e w3 ⟨⟨v, rfl⟩, hb3, ha3⟩
  have HF := Lib.hid (And.intro hb3 ha3)
  clear hb3 ha3
  go_wp2_with fail
  exact bodyPost_end (results_none rfl _ _ _) rfl ⟨⟨_, rfl⟩, lb', mb', cap', _, HB1.out, HF.out.1, HB1.out.size, HF.out.2, HO1.out⟩
end Go.Proofs.Ytideofojmgmboaa
