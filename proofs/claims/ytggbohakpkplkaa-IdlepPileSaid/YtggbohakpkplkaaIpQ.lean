/- The walk of the law IdlepPile. -/
import Derived.Test.YtggbohakpkplkaaIpP
import Derived.Test.YtggbohakpkplkaaIpAw
import Derived.Test.YtggbohakpkplkaaRefIb
import Derived.Test.YtggbohakpkplkaaBytes
namespace Go.Proofs.Ytggbohakpkplkaa
open Go Go.RowKit
set_option linter.unusedVariables false
set_option maxRecDepth 100000
set_option linter.unusedSimpArgs false

theorem row_pop {w : World} {base : Nat} {e : TypeId} {g n cap : Nat} {xs : List Value} (h : w.ownsRow base e 1 (.slice (some ⟨g, 0, none⟩) (n + 1) cap) (n + 1) xs) : w.ownsRow base e 1 (.slice (some ⟨g, 0, none⟩) n cap) n (xs.take n) := by
  obtain ⟨h1, h2⟩ := h
  refine ⟨by rw [List.length_take, h1]; omega, ?_⟩
  rcases h2 with ⟨e0, -⟩ | ⟨gb, cp, cur, e0, h3, h4, h5, h6, h7, h8⟩
  · cases e0
  · injection e0 with e1 e2 e3
    injection e1 with e1
    injection e1 with e1
    subst e1 e3
    refine .inr ⟨g, cap, cur, rfl, h3, h4, by omega, h6, h7, ?_⟩
    rw [← h8, List.take_take]
    congr 1
    omega
theorem idlepPile_bad (P : Int) (E : Option Addr) (mp cq : Nat) (w : World) (hmp : mp ≤ 9223372036854775807) (h : P < 1 ∨ 4 < P ∨ 100 < mp) :
    Calls Try.prog 6 #[.int .i64 P, .slice E mp cq] w fun e w' => e = .returned (.bool true) ∧ Below w.heap.size w w' := by
  by_cases h1 : P < 1
  · clear h
    go_enter Try.func6, Try.ntmps6
    go_wp2_with fail
    go_at_call 11; refine (idlep_awake _).mono ?_; rintro e w2 ⟨rfl, h2⟩
    go_wp2_with fail
    go_ret
    exact ⟨rfl, h2⟩
  have d1 : decide (P < 1) = false := decide_eq_false h1
  by_cases h3 : 4 < P
  · clear h
    go_enter Try.func6, Try.ntmps6
    go_wp2_with fail
    go_at_call 11; refine (idlep_awake _).mono ?_; rintro e w2 ⟨rfl, h2⟩
    go_wp2_with fail
    go_ret
    exact ⟨rfl, h2⟩
  have d2 : decide (4 < P) = false := decide_eq_false h3
  have h4 : 100 < mp := by omega
  clear h
  go_enter Try.func6, Try.ntmps6
  go_wp2_with fail
  go_at_call 11; refine (idlep_awake _).mono ?_; rintro e w2 ⟨rfl, h2⟩
  go_wp2_with fail
  go_ret
  exact ⟨rfl, h2⟩

set_option maxHeartbeats 16000000 in
theorem idlepPile_ok (P : Int) (E : Option Addr) (mp cq : Nat) (pk : Nat → Nat) (w : World) (hP : 1 ≤ P ∧ P ≤ 4) (hmp : mp ≤ 100) (hB : SeesB8 w w.heap.size E mp pk) :
    Calls Try.prog 6 #[.int .i64 P, .slice E mp cq] w fun e w' => e = .returned (.bool true) ∧ Below w.heap.size w w' := by
  obtain ⟨i0, hi, hz0, hz1, hz2⟩ := info_parts RI.lists_info3
  obtain ⟨n, hn⟩ : ∃ n : Nat, (n : Int) = 22 + 267 * P := ⟨(22 + 267 * P).toNat, by omega⟩
  have hL := lay_some P P 1 none 0 0 n (fun _ => 0) (fun _ => 0) w (by omega) ⟨⟨by omega⟩, by omega, by omega, by omega⟩ (by omega) (fun h => absurd h (by omega)) (fun i h => absurd h (by omega))
  have HN : Hid ((n : Int) = 22 + 267 * P) := hn
  have HN6 : Hid (n ≤ 1000000) := (by omega : n ≤ 1000000)
  have HP : Hid (1 ≤ P ∧ P ≤ 4) := hP
  have HPB : Hid (SeesB8 w w.heap.size E mp pk) := hB
  have d1 : decide (P < 1) = false := decide_eq_false (by omega)
  have d2 : decide (4 < P) = false := decide_eq_false (by omega)
  have d3 : decide ((100 : Int) < (mp : Int)) = false := decide_eq_false (by omega)
  clear hn hB hP
  go_enter Try.func6, Try.ntmps6
  go_wp2_with fail
  go_at_call 10; refine hL.mono ?_; rintro e w1 ⟨cl, A, A', cap, cap', c, b, c', b', rfl, hLd⟩
  have HB1 : Hid (Below w.heap.size w w1) := hLd.below
  have HI0 : Hid (Is w1 111 A cap c b n (fresh (fun _ => 0))) := hLd.two.m
  have HY0 : Hid (Lay w1 cl P P 1) := hLd.lay
  have hne : Hid (cl ≠ c ∧ cl ≠ b) := lay_ne hLd.lay (by decide) hLd.two.m (by have := HN.out; have := HP.out; omega)
  have hup : Hid (w.heap.size ≤ c ∧ w.heap.size ≤ b) := ⟨hLd.up.2.1, hLd.up.2.2.1⟩
  have hlo : Hid (c < w1.heap.size ∧ b < w1.heap.size ∧ cl < w1.heap.size) := ⟨hLd.two.m.lt, hLd.two.m.bl, hLd.lay.lt⟩
  have HR0 : Hid (RI.IntsOn w1 w1.heap.size (.slice none 0 0) ([] : List Int).reverse) := ⟨World.ownsRow_nil _ _ _ _⟩
  have HBS : Hid (w.heap.size ≤ w1.heap.size) := HB1.out.size
  have HQ0 : Hid (Pil P n (fresh (fun _ => 0)) [] ∧ Low (fresh (fun _ => 0)) (8 * (0 : Nat) : Int)) := ⟨pil_start (fun _ => rfl), low_fresh _⟩
  generalize hbb : w1.heap.size = B0 at HR0 hlo HBS
  have HBB0 : Hid (B0 ≤ w1.heap.size) := (by omega : B0 ≤ w1.heap.size)
  have HRF : Hid (∀ (W : World) (v : Value) (l : List Int), Lay W cl P P 1 → RI.IntsOn W B0 v l → (∀ k ∈ ((Rd.lay cl P P 1).and (Rd.ints B0 v l)).B, k < W.heap.size) ∧ (c ∉ ((Rd.lay cl P P 1).and (Rd.ints B0 v l)).B ∧ b ∉ ((Rd.lay cl P P 1).and (Rd.ints B0 v l)).B)) := fun W v l hy hv => by
    have hU := hv.up
    refine ⟨fun k hk => ?_, fun hm => ?_, fun hm => ?_⟩
    · rcases List.mem_append.1 hk with hk | hk
      · have : k = cl := List.mem_singleton.1 hk
        rw [this]; exact hy.lt
      · exact (hU k hk).2
    · rcases List.mem_append.1 hm with hm | hm
      · exact hne.out.1 (List.mem_singleton.1 hm).symm
      · have h1 := (hU _ hm).1; have h2 := hlo.out; omega
    · rcases List.mem_append.1 hm with hm | hm
      · exact hne.out.2 (List.mem_singleton.1 hm).symm
      · have h1 := (hU _ hm).1; have h2 := hlo.out; omega
  clear hL hLd hbb
  go_wp2_with fail
  go_loopw [9, 10] (fun vv i wr => ∃ (j : Nat) (v : Value) (s : St) (r : List Int), v = vv ∧ j ≤ mp ∧ i = .int .i64 j ∧ Hid (Is wr 111 A cap c b n s) ∧ Hid (Lay wr cl P P 1) ∧ Hid (Below w.heap.size w wr) ∧ Hid (RI.IntsOn wr B0 v r.reverse) ∧ Hid (B0 ≤ wr.heap.size) ∧ Hid (Pil P n s r ∧ Low s (8 * j : Int))) (fun v i _ => mp - (intOf i).toNat)
  case atStart => exact ⟨0, _, _, [], rfl, Nat.zero_le _, rfl, HI0, HY0, HB1, HR0, HBB0, HQ0⟩
  case round =>
    clear HI0 HY0 HB1 HR0 HBB0 HQ0
    obtain ⟨j, v, s, r, rfl, hj, rfl, HI, HY, HB, HV, HBB, HQ⟩ := hrel
    by_cases hlt : j < mp
    · obtain ⟨fb, foff, rfl, hfb, hcell⟩ := HPB.out (by omega)
      have hk1 : (j : Int) < (mp : Int) := by omega
      have hk0 : (0 : Int) ≤ (j : Int) := by omega
      obtain ⟨bt, hbt⟩ : ∃ bt, pk j = bt := ⟨_, rfl⟩
      have HPZ : Hid (∀ W, Below w.heap.size w W → W.cell? ⟨fb, foff + j, none⟩ = some (.int .u8 (bt : Int))) := fun W hW => by
        rw [← hbt]
        exact (hW.cell (p := ⟨fb, foff + j, none⟩) hfb).trans (hcell j hlt).1
      have hb255 : bt ≤ 255 := by rw [← hbt]; exact (hcell j hlt).2
      have pz := HPZ.out wr HB.out
      obtain ⟨y, hy⟩ : ∃ y : Nat, bt / 2 % P.toNat = y := ⟨_, rfl⟩
      have HYP : Hid (0 ≤ (y : Int) ∧ (y : Int) < P) := ⟨by omega, by have := HP.out; have := Nat.mod_lt (bt / 2) (show 0 < P.toNat by omega); omega⟩
      have q1 : Int.tdiv (bt : Int) 2 = ((bt / 2 : Nat) : Int) := by rw [Int.tdiv_eq_ediv_of_nonneg (by omega)]; omega
      have q2 : IntKind.u8.wrap ((bt / 2 : Nat) : Int) = ((bt / 2 : Nat) : Int) := by simp [IntKind.wrap, IntKind.bits, IntKind.signed]; omega
      have q3 : IntKind.i64.wrap ((bt / 2 : Nat) : Int) = ((bt / 2 : Nat) : Int) := by simp [IntKind.wrap, IntKind.bits, IntKind.signed]; omega
      have q4 : Int.tmod ((bt / 2 : Nat) : Int) P = (y : Int) := by
        have := HP.out
        rw [← hy, show P = ((P.toNat : Nat) : Int) by omega, tmod_nat]
        rfl
      have q5 : wrap64 (y : Int) = (y : Int) := by have := HYP.out; have := HP.out; unfold wrap64; omega
      have q6 : (P == 0) = false := by have := HP.out; simp; omega
      have q7 : P ≠ 0 := by have := HP.out; omega
      obtain ⟨z2, hz2'⟩ : ∃ z2, bt % 2 = z2 := ⟨_, rfl⟩
      have r1 : Int.tmod (bt : Int) 2 = (z2 : Int) := by rw [Int.tmod_eq_emod_of_nonneg (by omega)]; omega
      have r2 : IntKind.u8.wrap (z2 : Int) = (z2 : Int) := by simp [IntKind.wrap, IntKind.bits, IntKind.signed]; omega
      have HZZ : Hid (z2 = 0 ∨ z2 = 1) := (by omega : z2 = 0 ∨ z2 = 1)
      have HLN : Hid (r.length ≤ 4) := by
        have h := nodup_room P.toNat r HQ.out.1.nd (fun x hx => by have := HQ.out.1.rg x hx; omega)
        have := HP.out
        show r.length ≤ 4
        omega
      generalize (bt / 2 : Nat) = bh at *
      clear hcell hb255 hbt hz2' hy
      obtain ⟨Av, capv, hvs⟩ := RI.lists_slice HV.out.own
      rw [List.length_reverse] at hvs
      subst hvs
      go_wp2_with fail
      go_loopw [12, 13] (fun zl kk wi => ∃ (q : Nat) (z : Bool), q ≤ r.length ∧ kk = .int .i64 q ∧ zl = .bool z ∧ wi = wr ∧ Hid (z = decide ((y : Int) ∈ r.reverse.take q))) (fun _ kk _ => r.length - (intOf kk).toNat)
      case atStart => exact ⟨0, false, Nat.zero_le _, rfl, rfl, rfl, (by show false = decide ((y : Int) ∈ List.take 0 r.reverse); simp)⟩
      case round =>
        obtain ⟨q, z, hq, rfl, rfl, rfl, HZ⟩ := hrel
        have hq4 : q ≤ 4 := by have := HLN.out; omega
        by_cases hql : q < r.length
        · obtain ⟨ga, cpa, ha1, ha2⟩ := RI.IntsOn.cell HV.out (j := q) (by rw [List.length_reverse]; exact hql)
          injection ha1 with ha1 ha3 ha4
          subst ha1
          have hj0 : (0 : Int) ≤ (q : Int) := by omega
          have hj1 : (q : Int) < (r.length : Int) := by omega
          have HTK : Hid (∀ o, r.reverse.getD q 0 = o → decide ((y : Int) ∈ r.reverse.take (q + 1)) = (decide ((y : Int) ∈ r.reverse.take q) || decide (o = (y : Int)))) := fun o ho => by
            have hlen : q < r.reverse.length := by rw [List.length_reverse]; exact hql
            rw [List.take_add_one, List.getElem?_eq_getElem hlen]
            rw [List.getD_eq_getElem?_getD, List.getElem?_eq_getElem hlen] at ho
            simp only [Option.getD_some] at ho
            rw [ho]
            simp only [Option.toList_some, List.mem_append, List.mem_singleton, Bool.decide_or]
            congr 1
            exact decide_eq_decide.2 eq_comm
          obtain ⟨o, ho⟩ : ∃ o, r.reverse.getD q 0 = o := ⟨_, rfl⟩
          rw [ho] at ha2
          have HT2 := HTK.out o ho
          clear HTK ho ha3 ha4
          cases z with
          | true =>
            clear ha2
            have HZ2 : Hid (true = decide ((y : Int) ∈ r.reverse.take (q + 1))) := by rw [HT2, ← HZ.out]; rfl
            clear HT2
            go_wp2_with fail
            go_roundw
            case rel => exact ⟨q + 1, true, by omega, by go_num, rfl, trivial, HZ2⟩
            case measure => simp [intOf]; omega
          | false =>
            by_cases ho : o = (y : Int)
            · have hde : (o == (y : Int)) = true := by simpa using ho
              have HZ2 : Hid (true = decide ((y : Int) ∈ r.reverse.take (q + 1))) := by rw [HT2, decide_eq_true ho, Bool.or_true]; rfl
              clear HT2 ho
              go_wp2_with fail
              go_roundw
              case rel => exact ⟨q + 1, true, by omega, by go_num, by first | rfl | simp [hde], trivial, HZ2⟩
              case measure => simp [intOf]; omega
            · have hde : (o == (y : Int)) = false := by simpa using ho
              have HZ2 : Hid (false = decide ((y : Int) ∈ r.reverse.take (q + 1))) := by rw [HT2, decide_eq_false ho, ← HZ.out]; rfl
              clear HT2 ho
              go_wp2_with fail
              go_roundw
              case rel => exact ⟨q + 1, false, by omega, by go_num, by first | rfl | simp [hde], trivial, HZ2⟩
              case measure => simp [intOf]; omega
        · obtain rfl : q = r.length := by omega
          have hgd : decide ((r.length : Int) < (r.length : Int)) = false := by simp
          have HZ9 : Hid (z = decide ((y : Int) ∈ r)) := by
            have := HZ.out
            rw [List.take_of_length_le (by rw [List.length_reverse]; exact Nat.le_refl _)] at this
            show z = decide ((y : Int) ∈ r)
            rw [this]
            simp
          clear HZ
          have HLw : Hid (Low s (8 * j : Int)) := HQ.out.2
          by_cases he : z2 = 0
          · subst he
            by_cases hin : (y : Int) ∈ r
            · have hzt : z = true := by rw [HZ9.out]; exact decide_eq_true hin
              subst hzt
              have HQ2 : Hid (Pil P n s r ∧ Low s (8 * (j : Int) + 8)) := ⟨HQ.out.1, HQ.out.2.more (by omega)⟩
              clear HZ9 HLw HQ hin
              obtain ⟨f1, f2, f3⟩ := HQ2.out.1.list HN.out HP.out.1
              have hLs := iplist_any _ A cap c b n cl s P P 1 HI.out HN6.out HY.out (by have := HP.out; omega) (by have := HP.out; omega)
              rw [f1] at hLs
              have HF2 : Hid (peekT n s 10 = (r).length) := f2
              have HF3 : Hid (peekT n s 19 = maskOf (r)) := f3
              have HLN2 : Hid ((r).length ≤ 4 ∧ 0 ≤ maskOf (r) ∧ maskOf (r) ≤ 15) := by
                have h := nodup_room P.toNat (r) HQ2.out.1.nd (fun x hx => by have := HQ2.out.1.rg x hx; omega)
                have := HP.out
                exact ⟨by omega, maskOf_bd _ HQ2.out.1.nd (fun x hx => by have := HQ2.out.1.rg x hx; omega)⟩
              clear f1 f2 f3
              go_wp2_with fail
              go_at_call 27; refine hLs.mono ?_; rintro e w7 ⟨vl, rfl, hv7, hb7⟩
              have HI7 : Hid (Is w7 111 A cap c b n s) := HI.out.below hb7
              have HY7 : Hid (Lay w7 cl P P 1) := HY.out.below hb7 HY.out.lt
              have HB7 : Hid (Below w.heap.size w w7) := seq HB.out hb7
              have HBB7 : Hid (B0 ≤ w7.heap.size) := Nat.le_trans HBB.out hb7.size
              have HV7 : Hid (RI.IntsOn w7 B0 (.slice Av (r).length capv) (r).reverse) := HV.out.keep (But.of_below (l := []) hb7) (fun k _ h => by cases h)
              obtain ⟨Al, capl, hvl⟩ := RI.lists_slice (show RI.IntsOn w7 _ vl (r) from ⟨hv7.own⟩).own
              subst hvl
              have HVL : Hid (RI.IntsOn w7 _ (.slice Al (r).length capl) (r)) := ⟨hv7.own⟩
              have hP1 := peek_any w7 A cap c b n s 10 HI7.out HN6.out
              have hP2 := peek_any w7 A cap c b n s 19 HI7.out HN6.out
              rw [HF2.out] at hP1
              rw [HF3.out] at hP2
              clear hLs hv7 hb7 HI HY HB HV HBB HF2 HF3
              go_wp2_with fail
              go_at_call 34; refine hP1.mono ?_; rintro e w8 ⟨rfl, rfl⟩
              clear hP1
              go_wp2_with fail
              go_at_call 34; refine hP2.mono ?_; rintro e w8 ⟨rfl, rfl⟩
              clear hP2
              go_wp2_with fail
              go_loopw [26, 27] (fun bb kk wi => ∃ (q dr : Nat) (m : Int), q ≤ (r).length ∧ kk = .int .i64 q ∧ bb = .int .u64 m ∧ wi = w7.drewN dr ∧ Hid (m = maskOf ((r).reverse.take q) ∧ 0 ≤ m ∧ m ≤ 15)) (fun _ kk _ => (r).length - (intOf kk).toNat)
              case atStart => exact ⟨0, 0, 0, Nat.zero_le _, rfl, rfl, rfl, by simp [maskOf], by omega, by omega⟩
              case round =>
                obtain ⟨q, dr, m, hq, rfl, rfl, rfl, HM⟩ := hrel
                have hq4 : q ≤ 4 := by have := HLN2.out; omega
                by_cases hql : q < (r).length
                · obtain ⟨ga, cpa, ha1, ha2⟩ := RI.IntsOn.cell HV7.out (j := q) (by rw [List.length_reverse]; exact hql)
                  obtain ⟨gb, cpb, hb1, hb2⟩ := RI.IntsOn.cell HVL.out (j := (r).length - 1 - q) (by omega)
                  injection ha1 with ha1 ha3 ha4
                  injection hb1 with hb1 hb3 hb4
                  cases ha1
                  cases hb1
                  have hj0 : (0 : Int) ≤ (q : Int) := by omega
                  have hj1 : (q : Int) < ((r).length : Int) := by omega
                  have hd1 : decide (((r).length : Int) ≤ (q : Int)) = false := decide_eq_false (by omega)
                  obtain ⟨kb, hkb⟩ : ∃ kb, (r).length - 1 - q = kb := ⟨_, rfl⟩
                  have HEQ : Hid ((r).reverse.getD q 0 = (r).getD ((r).length - 1 - q) 0 ∧ (r).reverse.getD q 0 ∈ (r) ∧ (r).reverse.take (q + 1) = (r).reverse.take q ++ [(r).reverse.getD q 0]) := by
                    have hlen : q < (r).reverse.length := by rw [List.length_reverse]; exact hql
                    refine ⟨?_, ?_, ?_⟩
                    · rw [List.getD_eq_getElem?_getD, List.getD_eq_getElem?_getD, List.getElem?_reverse hql]
                    · rw [List.getD_eq_getElem?_getD, List.getElem?_eq_getElem hlen]
                      exact List.mem_reverse.1 (List.getElem_mem _)
                    · rw [List.take_add_one, List.getElem?_eq_getElem hlen, List.getD_eq_getElem?_getD, List.getElem?_eq_getElem hlen]
                      rfl
                  obtain ⟨o, ho⟩ : ∃ o, (r).reverse.getD q 0 = o := ⟨_, rfl⟩
                  have ho2 : (r).getD kb 0 = o := by rw [← ho, ← hkb]; exact HEQ.out.1.symm
                  rw [ho] at ha2
                  rw [hkb, ho2] at hb2
                  obtain ⟨ln1, hln1⟩ : ∃ ln1, (r).length - 1 = ln1 := ⟨_, rfl⟩
                  have w1e : wrap64 (((r).length : Int) - 1) = (ln1 : Int) := by have := HLN2.out; unfold wrap64; omega
                  have w2e : wrap64 ((ln1 : Int) - (q : Int)) = (kb : Int) := by have := HLN2.out; unfold wrap64; omega
                  have w1f : IntKind.i64.wrap (((r).length : Int) - 1) = (ln1 : Int) := by have h9 := HLN2.out.1; generalize (r).length = ln at *; simp [IntKind.wrap, IntKind.bits, IntKind.signed]; omega
                  have w2f : IntKind.i64.wrap ((ln1 : Int) - (q : Int)) = (kb : Int) := by have h9 := HLN2.out.1; generalize (r).length = ln at *; simp [IntKind.wrap, IntKind.bits, IntKind.signed]; omega
                  clear hln1
                  have hkb1 : (kb : Int) < ((r).length : Int) := by omega
                  have hkb0 : (0 : Int) ≤ (kb : Int) := by omega
                  have hoo : (o != o) = false := by simp
                  have hoo2 : decide (o ≠ o) = false := by simp
                  have HBT := rbit_any o (w7.drewN dr)
                  have HOR : Hid (0 ≤ o ∧ o < 4) := by
                    have h1 := HEQ.out.2.1
                    rw [ho] at h1
                    have := HQ2.out.1.rg o h1
                    have := HP.out
                    exact ⟨by omega, by omega⟩
                  have hbo : 0 ≤ bitOf o ∧ bitOf o ≤ 8 := by
                    have h4 := HOR.out
                    rcases (by omega : o = 0 ∨ o = 1 ∨ o = 2 ∨ o = 3) with rfl | rfl | rfl | rfl <;> decide
                  have HM2 : Hid (m + bitOf o = maskOf ((r).reverse.take (q + 1)) ∧ 0 ≤ m + bitOf o ∧ m + bitOf o ≤ 15) := by
                    have e := HM.out
                    have e2 : m + bitOf o = maskOf ((r).reverse.take (q + 1)) := by
                      rw [HEQ.out.2.2, maskOf_append, ← e.1, ho]
                      simp [maskOf]
                    refine ⟨e2, by omega, ?_⟩
                    rw [e2]
                    exact (maskOf_bd _ ((List.reverse_perm (r)).nodup_iff.2 HQ2.out.1.nd |>.sublist (List.take_sublist _ _)) (fun x hx => by have := HQ2.out.1.rg x (List.mem_reverse.1 (List.mem_of_mem_take hx)); have := HP.out; omega)).2
                  have w3e : IntKind.u64.wrap (m + bitOf o) = m + bitOf o := wrap_u64 (by have := HM2.out; omega)
                  generalize bitOf o = bo at *
                  clear ho ho2 HEQ ha3 ha4 hb3 hb4 hbo HM hkb HOR
                  go_wp2_with fail
                  go_at_call 31; refine HBT.mono ?_; rintro e w9 ⟨rfl, rfl⟩
                  clear HBT
                  go_wp2_with fail
                  go_quiet (fail)
                  go_wp2_with fail
                  go_roundw
                  case rel => exact ⟨q + 1, _, m + bo, by omega, by go_num, rfl, rfl, HM2⟩
                  case measure => simp [intOf]; omega
                · obtain rfl : q = (r).length := by omega
                  have hgd2 : decide (((r).length : Int) < ((r).length : Int)) = false := by simp
                  have hm9 : m = maskOf (r) := by
                    have := HM.out.1
                    rw [List.take_of_length_le (by rw [List.length_reverse]; exact Nat.le_refl _), maskOf_reverse] at this
                    exact this
                  have wle : IntKind.u64.wrap ((r).length : Int) = ((r).length : Int) := wrap_u64 (by have := HLN2.out; omega)
                  have HEND : Hid (∃ (jj : Nat) (vv : Value) (ss : St) (rr : List Int), vv = .slice Av (r).length capv ∧ jj = j + 1 ∧ Hid (Is (w7.drewN dr) 111 A cap c b n ss) ∧ Hid (Lay (w7.drewN dr) cl P P 1) ∧ Hid (Below w.heap.size w (w7.drewN dr)) ∧ Hid (RI.IntsOn (w7.drewN dr) B0 vv rr.reverse) ∧ Hid (B0 ≤ (w7.drewN dr).heap.size) ∧ Hid (Pil P n ss rr ∧ Low ss (8 * jj : Int))) := by
                    have hd : Below w7.heap.size w7 (w7.drewN dr) := Below.drewN' (Below.refl _ _) dr
                    exact ⟨j + 1, _, s, r, rfl, rfl, HI7.out.below hd, HY7.out.below hd HY7.out.lt, seq HB7.out hd, HV7.out.keep (But.of_below (l := []) hd) (fun k _ h => by cases h), Nat.le_trans HBB7.out hd.size, HQ2.out.1, by have := HQ2.out.2; rw [show ((8 * ((j + 1 : Nat) : Int))) = 8 * (j : Int) + 8 by omega]; exact this⟩
                  subst hm9
                  generalize maskOf (r) = mr at *
                  clear HI7 HY7 HB7 HV7 HBB7 HVL HM HQ2
                  go_wp2_with fail
                  go_roundw
                  case rel =>
                    obtain ⟨jj, vv, ss, rr, e1, e2, g1, g2, g3, g4, g5, g6⟩ := HEND.out
                    subst e2
                    exact ⟨j + 1, vv, ss, rr, e1, by omega, by go_num, g1, g2, g3, g4, g5, g6⟩
                  case measure => simp [intOf]; omega
            · have hzt : z = false := by rw [HZ9.out]; exact decide_eq_false hin
              subst hzt
              have HIN : Hid ((y : Int) ∉ r) := hin
              clear HZ9 hin
              have hN := fun Y => ip_new Y cl 0 (y : Int) P
              go_wp2_with fail
              go_at_call 12; refine (hN _).mono ?_; rintro e w3 ⟨xp, L0, rfl, hi0, hb3, hu1, -⟩
              have HZ0 : Hid (Solo ((ipFl 0 (y : Int) cl).I (ipPM P (y : Int))) ((Rd.lay cl P P 1).and (Rd.ints B0 (.slice Av r.length capv) r.reverse)) w w3 A cap c b n ((ipPM P (y : Int)).steps 0 n 0 (IpT.m0, s)).2 xp ((ipPM P (y : Int)).steps 0 n 0 (IpT.m0, s)).1 L0) := Solo.begin HI.out hb3 HB.out hup.out hi0 hu1 ⟨HY.out, HV.out⟩ (HRF.out _ _ _ HY.out HV.out).1 (HRF.out _ _ _ HY.out HV.out).2
              have HLO : Hid (∀ q : Nat, q ≤ 8 → Low ((ipPM P (y : Int)).steps 0 n q (IpT.m0, s)).2 1000000) := fun q hq => (PM.steps_low (ipPM P (y : Int)) 0 n q (IpT.m0, s) HLw.out).more (by omega)
              have HG : Hid (((ipFl 0 (y : Int) cl).I (ipPM P (y : Int))).Good (ipPM P (y : Int)) ∧ Steps (ipPM P (y : Int)) ((ipFl 0 (y : Int) cl).I (ipPM P (y : Int))) (Rd.lay cl P P 1) 18 0) := ⟨Fl.good (ip_laws 0 P P 1 (y : Int) cl (by have := HP.out; omega) (by have := HP.out; omega)), Fl.steps (ip_laws 0 P P 1 (y : Int) cl (by have := HP.out; omega) (by have := HP.out; omega)) stepby_ipp⟩
              have HB3 : Hid (B0 ≤ w3.heap.size) := Nat.le_trans HBB.out hb3.size
              clear hN hi0 hb3 hu1 HI HY HB HV HBB
              go_wp2_with fail
              go_loopw [15] (fun kk wi => ∃ (q : Nat) (L : List Nat), q ≤ 8 ∧ kk = .int .i64 q ∧ Hid (Solo ((ipFl 0 (y : Int) cl).I (ipPM P (y : Int))) ((Rd.lay cl P P 1).and (Rd.ints B0 (.slice Av r.length capv) r.reverse)) w wi A cap c b n ((ipPM P (y : Int)).steps 0 n q (IpT.m0, s)).2 xp ((ipPM P (y : Int)).steps 0 n q (IpT.m0, s)).1 L) ∧ Hid (B0 ≤ wi.heap.size)) (fun kk _ => 8 - (intOf kk).toNat)
              case atStart => exact ⟨0, L0, by omega, rfl, HZ0, HB3⟩
              case round =>
                clear HZ0 HB3
                obtain ⟨q, L, hq, rfl, HS, HBB⟩ := hrel
                by_cases hq9 : q < 8
                · have hSt := HS.out.stepUp HG.out.1 HG.out.2 (fun Y (h : ((Rd.lay cl P P 1).and (Rd.ints B0 (.slice Av r.length capv) r.reverse)).P Y) => h.1) (fun k hk => List.mem_append_left _ hk) HN6.out (HLO.out q hq)
                  rw [show (ipPM P (y : Int)).goS 0 n ((ipPM P (y : Int)).steps 0 n q (IpT.m0, s)).1 ((ipPM P (y : Int)).steps 0 n q (IpT.m0, s)).2 = ((ipPM P (y : Int)).steps 0 n (q + 1) (IpT.m0, s)).2 by rw [PM.steps_succ], show (ipPM P (y : Int)).goT n ((ipPM P (y : Int)).steps 0 n q (IpT.m0, s)).1 ((ipPM P (y : Int)).steps 0 n q (IpT.m0, s)).2 = ((ipPM P (y : Int)).steps 0 n (q + 1) (IpT.m0, s)).1 by rw [PM.steps_succ]] at hSt
                  have hq1 : (q : Int) < 8 := by omega
                  have hq0 : (0 : Int) ≤ (q : Int) := by omega
                  clear HS
                  go_wp2_with fail
                  go_at_call 18; refine hSt.mono ?_; rintro e w4 ⟨rfl, hsz', L', hS'⟩
                  have HS' : Hid _ := hS'
                  have HBB' : Hid (B0 ≤ w4.heap.size) := Nat.le_trans HBB.out hsz'
                  clear hSt hS'
                  go_wp2_with fail
                  go_roundw
                  case rel => exact ⟨q + 1, L', by omega, by go_num, HS', HBB'⟩
                  case measure => simp [intOf]; omega
                · obtain rfl : q = 8 := by omega
                  clear HLO
                  obtain ⟨g1, g2⟩ := pil_put HQ.out.1 HN.out HP.out HYP.out HIN.out
                  have HQ2 : Hid (Pil P n ((ipPM P (y : Int)).steps 0 n 8 (IpT.m0, s)).2 ((y : Int) :: r) ∧ Low ((ipPM P (y : Int)).steps 0 n 8 (IpT.m0, s)).2 (8 * (j : Int) + 8)) := ⟨g2, PM.steps_low _ 0 n 8 _ HQ.out.2⟩
                  clear g1 g2
                  have HO : Hid (RI.IntsOn _ B0 (.slice Av r.length capv) r.reverse) := HS.out.rd.2
                  have hOO := HO.out.own
                  rw [List.length_reverse] at hOO
                  have HF : Hid _ := HS.out
                  have HPG : Hid (∀ (o : Obj) (W : World), (wr.alloc o).grownBy W (Value.slice Av r.length capv).ownBlock → W.cell? ⟨fb, foff + j, none⟩ = some (.int .u8 (bt : Int))) := fun o W hg => by
                    have hBu : But (rowB (.slice Av r.length capv)) wr W := ((But.refl _ _).alloc _).grown hg (fun k hk => .inl (rowB_mem hk))
                    have hUP := HO.out.up
                    exact HPZ.out W (HF.out.below.trans (hBu.below (fun k hk => by have h1 := (hUP _ hk).1; have := HBS.out; omega) HF.out.below.size))
                  clear HS
                  go_wp2_with (at_builtin; refine wpList_append_own _ rfl _ _ 62 rfl B0 3 i0 (.int .i64 0) 1 8 Try.underlying62 hi hz0 hz1 hz2 rfl (by decide) _ _ _ rfl (hOO.alloc _) ⟨wr.heap.size, 0, none⟩ 1 1 [.int .i64 (y : Int)] rfl rfl (cell_one_new _ _ _) (ints_oneCell .i64 [(y : Int)]) (by unfold maxLen; have := HLN.out; omega) (by omega) (by have := HBB.out; simp; omega) ?_; intro v' w5 hown' hgrow2 hnil2; have pz2 := HPG.out _ _ hgrow2)
                  have hBu : But (rowB (.slice Av r.length capv)) wr w5 := ((But.refl _ _).alloc _).grown hgrow2 (fun k hk => .inl (rowB_mem hk))
                  have hUP := HO.out.up
                  have HI : Hid (Is w5 111 A cap c b n ((ipPM P (y : Int)).steps 0 n 8 (IpT.m0, s)).2) := HF.out.mem.but hBu (fun hm => HF.out.rfar.1 (List.mem_append_right _ hm)) (fun hm => HF.out.rfar.2 (List.mem_append_right _ hm))
                  have HY : Hid (Lay w5 cl P P 1) := (hBu.block cl (HF.out.rd.1 : Lay wr cl P P 1).lt (fun hm => by have h1 := (hUP _ hm).1; have h2 := hlo.out; omega)).trans (HF.out.rd.1 : Lay wr cl P P 1)
                  have HB : Hid (Below w.heap.size w w5) := HF.out.below.trans (hBu.below (fun k hk => by have h1 := (hUP _ hk).1; have := HBS.out; omega) HF.out.below.size)
                  have HBB5 : Hid (B0 ≤ w5.heap.size) := Nat.le_trans HBB.out hBu.size
                  have HV : Hid (RI.IntsOn w5 B0 v' ((y : Int) :: r).reverse) := ⟨by
                    rw [List.reverse_cons, List.map_append, List.length_append, List.length_reverse]
                    exact hown'⟩
                  clear hown' hgrow2 hnil2 hBu hUP hOO HO HF HBB
                  have HBB := HBB5
                  clear HBB5
                  generalize ((ipPM P (y : Int)).steps 0 n 8 (IpT.m0, s)).2 = s2 at *
                  clear HLw HQ HIN HPG
                  generalize ((y : Int) :: r) = r2 at *
                  obtain ⟨Aw, capw, hvw⟩ := RI.lists_slice HV.out.own
                  rw [List.length_reverse] at hvw
                  subst hvw
                  obtain ⟨f1, f2, f3⟩ := HQ2.out.1.list HN.out HP.out.1
                  have hLs := iplist_any _ A cap c b n cl s2 P P 1 HI.out HN6.out HY.out (by have := HP.out; omega) (by have := HP.out; omega)
                  rw [f1] at hLs
                  have HF2 : Hid (peekT n s2 10 = (r2).length) := f2
                  have HF3 : Hid (peekT n s2 19 = maskOf (r2)) := f3
                  have HLN2 : Hid ((r2).length ≤ 4 ∧ 0 ≤ maskOf (r2) ∧ maskOf (r2) ≤ 15) := by
                    have h := nodup_room P.toNat (r2) HQ2.out.1.nd (fun x hx => by have := HQ2.out.1.rg x hx; omega)
                    have := HP.out
                    exact ⟨by omega, maskOf_bd _ HQ2.out.1.nd (fun x hx => by have := HQ2.out.1.rg x hx; omega)⟩
                  clear f1 f2 f3
                  go_wp2_with fail
                  go_at_call 27; refine hLs.mono ?_; rintro e w7 ⟨vl, rfl, hv7, hb7⟩
                  have HI7 : Hid (Is w7 111 A cap c b n s2) := HI.out.below hb7
                  have HY7 : Hid (Lay w7 cl P P 1) := HY.out.below hb7 HY.out.lt
                  have HB7 : Hid (Below w.heap.size w w7) := seq HB.out hb7
                  have HBB7 : Hid (B0 ≤ w7.heap.size) := Nat.le_trans HBB.out hb7.size
                  have HV7 : Hid (RI.IntsOn w7 B0 (.slice Aw (r2).length capw) (r2).reverse) := HV.out.keep (But.of_below (l := []) hb7) (fun k _ h => by cases h)
                  obtain ⟨Al, capl, hvl⟩ := RI.lists_slice (show RI.IntsOn w7 _ vl (r2) from ⟨hv7.own⟩).own
                  subst hvl
                  have HVL : Hid (RI.IntsOn w7 _ (.slice Al (r2).length capl) (r2)) := ⟨hv7.own⟩
                  have hP1 := peek_any w7 A cap c b n s2 10 HI7.out HN6.out
                  have hP2 := peek_any w7 A cap c b n s2 19 HI7.out HN6.out
                  rw [HF2.out] at hP1
                  rw [HF3.out] at hP2
                  clear hLs hv7 hb7 HI HY HB HV HBB HF2 HF3
                  go_wp2_with fail
                  go_at_call 34; refine hP1.mono ?_; rintro e w8 ⟨rfl, rfl⟩
                  clear hP1
                  go_wp2_with fail
                  go_at_call 34; refine hP2.mono ?_; rintro e w8 ⟨rfl, rfl⟩
                  clear hP2
                  go_wp2_with fail
                  go_loopw [26, 27] (fun bb kk wi => ∃ (q dr : Nat) (m : Int), q ≤ (r2).length ∧ kk = .int .i64 q ∧ bb = .int .u64 m ∧ wi = w7.drewN dr ∧ Hid (m = maskOf ((r2).reverse.take q) ∧ 0 ≤ m ∧ m ≤ 15)) (fun _ kk _ => (r2).length - (intOf kk).toNat)
                  case atStart => exact ⟨0, 0, 0, Nat.zero_le _, rfl, rfl, rfl, by simp [maskOf], by omega, by omega⟩
                  case round =>
                    obtain ⟨q, dr, m, hq, rfl, rfl, rfl, HM⟩ := hrel
                    have hq4 : q ≤ 4 := by have := HLN2.out; omega
                    by_cases hql : q < (r2).length
                    · obtain ⟨ga, cpa, ha1, ha2⟩ := RI.IntsOn.cell HV7.out (j := q) (by rw [List.length_reverse]; exact hql)
                      obtain ⟨gb, cpb, hb1, hb2⟩ := RI.IntsOn.cell HVL.out (j := (r2).length - 1 - q) (by omega)
                      injection ha1 with ha1 ha3 ha4
                      injection hb1 with hb1 hb3 hb4
                      cases ha1
                      cases hb1
                      have hj0 : (0 : Int) ≤ (q : Int) := by omega
                      have hj1 : (q : Int) < ((r2).length : Int) := by omega
                      have hd1 : decide (((r2).length : Int) ≤ (q : Int)) = false := decide_eq_false (by omega)
                      obtain ⟨kb, hkb⟩ : ∃ kb, (r2).length - 1 - q = kb := ⟨_, rfl⟩
                      have HEQ : Hid ((r2).reverse.getD q 0 = (r2).getD ((r2).length - 1 - q) 0 ∧ (r2).reverse.getD q 0 ∈ (r2) ∧ (r2).reverse.take (q + 1) = (r2).reverse.take q ++ [(r2).reverse.getD q 0]) := by
                        have hlen : q < (r2).reverse.length := by rw [List.length_reverse]; exact hql
                        refine ⟨?_, ?_, ?_⟩
                        · rw [List.getD_eq_getElem?_getD, List.getD_eq_getElem?_getD, List.getElem?_reverse hql]
                        · rw [List.getD_eq_getElem?_getD, List.getElem?_eq_getElem hlen]
                          exact List.mem_reverse.1 (List.getElem_mem _)
                        · rw [List.take_add_one, List.getElem?_eq_getElem hlen, List.getD_eq_getElem?_getD, List.getElem?_eq_getElem hlen]
                          rfl
                      obtain ⟨o, ho⟩ : ∃ o, (r2).reverse.getD q 0 = o := ⟨_, rfl⟩
                      have ho2 : (r2).getD kb 0 = o := by rw [← ho, ← hkb]; exact HEQ.out.1.symm
                      rw [ho] at ha2
                      rw [hkb, ho2] at hb2
                      obtain ⟨ln1, hln1⟩ : ∃ ln1, (r2).length - 1 = ln1 := ⟨_, rfl⟩
                      have w1e : wrap64 (((r2).length : Int) - 1) = (ln1 : Int) := by have := HLN2.out; unfold wrap64; omega
                      have w2e : wrap64 ((ln1 : Int) - (q : Int)) = (kb : Int) := by have := HLN2.out; unfold wrap64; omega
                      have w1f : IntKind.i64.wrap (((r2).length : Int) - 1) = (ln1 : Int) := by have h9 := HLN2.out.1; generalize (r2).length = ln at *; simp [IntKind.wrap, IntKind.bits, IntKind.signed]; omega
                      have w2f : IntKind.i64.wrap ((ln1 : Int) - (q : Int)) = (kb : Int) := by have h9 := HLN2.out.1; generalize (r2).length = ln at *; simp [IntKind.wrap, IntKind.bits, IntKind.signed]; omega
                      clear hln1
                      have hkb1 : (kb : Int) < ((r2).length : Int) := by omega
                      have hkb0 : (0 : Int) ≤ (kb : Int) := by omega
                      have hoo : (o != o) = false := by simp
                      have hoo2 : decide (o ≠ o) = false := by simp
                      have HBT := rbit_any o (w7.drewN dr)
                      have HOR : Hid (0 ≤ o ∧ o < 4) := by
                        have h1 := HEQ.out.2.1
                        rw [ho] at h1
                        have := HQ2.out.1.rg o h1
                        have := HP.out
                        exact ⟨by omega, by omega⟩
                      have hbo : 0 ≤ bitOf o ∧ bitOf o ≤ 8 := by
                        have h4 := HOR.out
                        rcases (by omega : o = 0 ∨ o = 1 ∨ o = 2 ∨ o = 3) with rfl | rfl | rfl | rfl <;> decide
                      have HM2 : Hid (m + bitOf o = maskOf ((r2).reverse.take (q + 1)) ∧ 0 ≤ m + bitOf o ∧ m + bitOf o ≤ 15) := by
                        have e := HM.out
                        have e2 : m + bitOf o = maskOf ((r2).reverse.take (q + 1)) := by
                          rw [HEQ.out.2.2, maskOf_append, ← e.1, ho]
                          simp [maskOf]
                        refine ⟨e2, by omega, ?_⟩
                        rw [e2]
                        exact (maskOf_bd _ ((List.reverse_perm (r2)).nodup_iff.2 HQ2.out.1.nd |>.sublist (List.take_sublist _ _)) (fun x hx => by have := HQ2.out.1.rg x (List.mem_reverse.1 (List.mem_of_mem_take hx)); have := HP.out; omega)).2
                      have w3e : IntKind.u64.wrap (m + bitOf o) = m + bitOf o := wrap_u64 (by have := HM2.out; omega)
                      generalize bitOf o = bo at *
                      clear ho ho2 HEQ ha3 ha4 hb3 hb4 hbo HM hkb HOR
                      go_wp2_with fail
                      go_at_call 31; refine HBT.mono ?_; rintro e w9 ⟨rfl, rfl⟩
                      clear HBT
                      go_wp2_with fail
                      go_quiet (fail)
                      go_wp2_with fail
                      go_roundw
                      case rel => exact ⟨q + 1, _, m + bo, by omega, by go_num, rfl, rfl, HM2⟩
                      case measure => simp [intOf]; omega
                    · obtain rfl : q = (r2).length := by omega
                      have hgd2 : decide (((r2).length : Int) < ((r2).length : Int)) = false := by simp
                      have hm9 : m = maskOf (r2) := by
                        have := HM.out.1
                        rw [List.take_of_length_le (by rw [List.length_reverse]; exact Nat.le_refl _), maskOf_reverse] at this
                        exact this
                      have wle : IntKind.u64.wrap ((r2).length : Int) = ((r2).length : Int) := wrap_u64 (by have := HLN2.out; omega)
                      have HEND : Hid (∃ (jj : Nat) (vv : Value) (ss : St) (rr : List Int), vv = .slice Aw (r2).length capw ∧ jj = j + 1 ∧ Hid (Is (w7.drewN dr) 111 A cap c b n ss) ∧ Hid (Lay (w7.drewN dr) cl P P 1) ∧ Hid (Below w.heap.size w (w7.drewN dr)) ∧ Hid (RI.IntsOn (w7.drewN dr) B0 vv rr.reverse) ∧ Hid (B0 ≤ (w7.drewN dr).heap.size) ∧ Hid (Pil P n ss rr ∧ Low ss (8 * jj : Int))) := by
                        have hd : Below w7.heap.size w7 (w7.drewN dr) := Below.drewN' (Below.refl _ _) dr
                        exact ⟨j + 1, _, s2, r2, rfl, rfl, HI7.out.below hd, HY7.out.below hd HY7.out.lt, seq HB7.out hd, HV7.out.keep (But.of_below (l := []) hd) (fun k _ h => by cases h), Nat.le_trans HBB7.out hd.size, HQ2.out.1, by have := HQ2.out.2; rw [show ((8 * ((j + 1 : Nat) : Int))) = 8 * (j : Int) + 8 by omega]; exact this⟩
                      subst hm9
                      generalize maskOf (r2) = mr at *
                      clear HI7 HY7 HB7 HV7 HBB7 HVL HM HQ2
                      go_wp2_with fail
                      go_roundw
                      case rel =>
                        obtain ⟨jj, vv, ss, rr, e1, e2, g1, g2, g3, g4, g5, g6⟩ := HEND.out
                        subst e2
                        exact ⟨j + 1, vv, ss, rr, e1, by omega, by go_num, g1, g2, g3, g4, g5, g6⟩
                      case measure => simp [intOf]; omega
          · have he1 : z2 = 1 := by rcases HZZ.out with h | h; exact absurd h he; exact h
            subst he1
            clear he HZ9
            have hN := fun Y => ig_new Y cl 0 P
            go_wp2_with fail
            go_at_call 25; refine (hN _).mono ?_; rintro e w3 ⟨xg, L0, rfl, hi0, hb3, hu1, -⟩
            have HZ0 : Hid (Solo ((igFl 0 cl).I (igPM P)) ((Rd.lay cl P P 1).and (Rd.ints B0 (.slice Av r.length capv) r.reverse)) w w3 A cap c b n ((igPM P).steps 0 n 0 (IgT.ld, s)).2 xg ((igPM P).steps 0 n 0 (IgT.ld, s)).1 L0) := Solo.begin HI.out hb3 HB.out hup.out hi0 hu1 ⟨HY.out, HV.out⟩ (HRF.out _ _ _ HY.out HV.out).1 (HRF.out _ _ _ HY.out HV.out).2
            have HLO : Hid (∀ q : Nat, q ≤ 8 → Low ((igPM P).steps 0 n q (IgT.ld, s)).2 1000000) := fun q hq => (PM.steps_low (igPM P) 0 n q (IgT.ld, s) HLw.out).more (by omega)
            have HG : Hid (((igFl 0 cl).I (igPM P)).Good (igPM P) ∧ Steps (igPM P) ((igFl 0 cl).I (igPM P)) (Rd.lay cl P P 1) 23 0) := ⟨Fl.good (ig_laws 0 P P 1 cl (by have := HP.out; omega) (by have := HP.out; omega)), Fl.steps (ig_laws 0 P P 1 cl (by have := HP.out; omega) (by have := HP.out; omega)) stepby_ipg⟩
            have HB3 : Hid (B0 ≤ w3.heap.size) := Nat.le_trans HBB.out hb3.size
            clear hN hi0 hb3 hu1 HI HY HB HV HBB
            go_wp2_with fail
            go_loopw [17] (fun kk wi => ∃ (q : Nat) (L : List Nat), q ≤ 8 ∧ kk = .int .i64 q ∧ Hid (Solo ((igFl 0 cl).I (igPM P)) ((Rd.lay cl P P 1).and (Rd.ints B0 (.slice Av r.length capv) r.reverse)) w wi A cap c b n ((igPM P).steps 0 n q (IgT.ld, s)).2 xg ((igPM P).steps 0 n q (IgT.ld, s)).1 L) ∧ Hid (B0 ≤ wi.heap.size)) (fun kk _ => 8 - (intOf kk).toNat)
            case atStart => exact ⟨0, L0, by omega, rfl, HZ0, HB3⟩
            case round =>
              clear HZ0 HB3
              obtain ⟨q, L, hq, rfl, HS, HBB⟩ := hrel
              by_cases hq9 : q < 8
              · have hSt := HS.out.stepUp HG.out.1 HG.out.2 (fun Y (h : ((Rd.lay cl P P 1).and (Rd.ints B0 (.slice Av r.length capv) r.reverse)).P Y) => h.1) (fun k hk => List.mem_append_left _ hk) HN6.out (HLO.out q hq)
                rw [show (igPM P).goS 0 n ((igPM P).steps 0 n q (IgT.ld, s)).1 ((igPM P).steps 0 n q (IgT.ld, s)).2 = ((igPM P).steps 0 n (q + 1) (IgT.ld, s)).2 by rw [PM.steps_succ], show (igPM P).goT n ((igPM P).steps 0 n q (IgT.ld, s)).1 ((igPM P).steps 0 n q (IgT.ld, s)).2 = ((igPM P).steps 0 n (q + 1) (IgT.ld, s)).1 by rw [PM.steps_succ]] at hSt
                have hq1 : (q : Int) < 8 := by omega
                have hq0 : (0 : Int) ≤ (q : Int) := by omega
                clear HS
                go_wp2_with fail
                go_at_call 23; refine hSt.mono ?_; rintro e w4 ⟨rfl, hsz', L', hS'⟩
                have HS' : Hid _ := hS'
                have HBB' : Hid (B0 ≤ w4.heap.size) := Nat.le_trans HBB.out hsz'
                clear hSt hS'
                go_wp2_with fail
                go_roundw
                case rel => exact ⟨q + 1, L', by omega, by go_num, HS', HBB'⟩
                case measure => simp [intOf]; omega
              · obtain rfl : q = 8 := by omega
                clear HLO
                have pz2 := HPZ.out _ HS.out.below
                cases r with
                | nil =>
                  obtain ⟨g1, g2⟩ := pil_none HQ.out.1 HN.out HP.out
                  have HQ2 : Hid (Pil P n ((igPM P).steps 0 n 8 (IgT.ld, s)).2 [] ∧ Low ((igPM P).steps 0 n 8 (IgT.ld, s)).2 (8 * (j : Int) + 8)) := ⟨g2, PM.steps_low _ 0 n 8 _ HQ.out.2⟩
                  have hGv := ig_got HS.out.mach
                  have hD : Calls Try.prog 22 #[.pointer (some ⟨xg, 0, none⟩)] wr fun e w' => e = .returned (.bool true) ∧ wr = w' := by
                    obtain ⟨nx, u1, u2⟩ := HG.out.1.next HS.out.mach
                    rw [g1] at u2
                    rw [show true = nx.isNone by rw [u2]; rfl]
                    exact done_ipg wr xg nx u1
                  rw [g1, show IgT.none'.obs = -1 from rfl] at hGv
                  have HI : Hid _ := HS.out.mem
                  have HY : Hid (Lay _ cl P P 1) := HS.out.rd.1
                  have HB : Hid _ := HS.out.below
                  have HV : Hid (RI.IntsOn _ B0 (.slice Av ([] : List Int).length capv) ([] : List Int).reverse) := HS.out.rd.2
                  clear HS g1 g2 HLw HQ
                  generalize ((igPM P).steps 0 n 8 (IgT.ld, s)).2 = s2 at *
                  go_wp2_with fail
                  go_at_call 22; refine hD.mono ?_; rintro e w9 ⟨rfl, rfl⟩
                  clear hD
                  go_wp2_with fail
                  go_at_call 24; refine hGv.mono ?_; rintro e w9 ⟨rfl, rfl⟩
                  clear hGv
                  obtain ⟨f1, f2, f3⟩ := HQ2.out.1.list HN.out HP.out.1
                  have hLs := iplist_any _ A cap c b n cl s2 P P 1 HI.out HN6.out HY.out (by have := HP.out; omega) (by have := HP.out; omega)
                  rw [f1] at hLs
                  have HF2 : Hid (peekT n s2 10 = (([] : List Int)).length) := f2
                  have HF3 : Hid (peekT n s2 19 = maskOf (([] : List Int))) := f3
                  have HLN2 : Hid ((([] : List Int)).length ≤ 4 ∧ 0 ≤ maskOf (([] : List Int)) ∧ maskOf (([] : List Int)) ≤ 15) := by
                    have h := nodup_room P.toNat (([] : List Int)) HQ2.out.1.nd (fun x hx => by have := HQ2.out.1.rg x hx; omega)
                    have := HP.out
                    exact ⟨by omega, maskOf_bd _ HQ2.out.1.nd (fun x hx => by have := HQ2.out.1.rg x hx; omega)⟩
                  clear f1 f2 f3
                  go_wp2_with fail
                  go_at_call 27; refine hLs.mono ?_; rintro e w7 ⟨vl, rfl, hv7, hb7⟩
                  have HI7 : Hid (Is w7 111 A cap c b n s2) := HI.out.below hb7
                  have HY7 : Hid (Lay w7 cl P P 1) := HY.out.below hb7 HY.out.lt
                  have HB7 : Hid (Below w.heap.size w w7) := seq HB.out hb7
                  have HBB7 : Hid (B0 ≤ w7.heap.size) := Nat.le_trans HBB.out hb7.size
                  have HV7 : Hid (RI.IntsOn w7 B0 (.slice Av (([] : List Int)).length capv) (([] : List Int)).reverse) := HV.out.keep (But.of_below (l := []) hb7) (fun k _ h => by cases h)
                  obtain ⟨Al, capl, hvl⟩ := RI.lists_slice (show RI.IntsOn w7 _ vl (([] : List Int)) from ⟨hv7.own⟩).own
                  subst hvl
                  have HVL : Hid (RI.IntsOn w7 _ (.slice Al (([] : List Int)).length capl) (([] : List Int))) := ⟨hv7.own⟩
                  have hP1 := peek_any w7 A cap c b n s2 10 HI7.out HN6.out
                  have hP2 := peek_any w7 A cap c b n s2 19 HI7.out HN6.out
                  rw [HF2.out] at hP1
                  rw [HF3.out] at hP2
                  clear hLs hv7 hb7 HI HY HB HV HBB HF2 HF3
                  go_wp2_with fail
                  go_at_call 34; refine hP1.mono ?_; rintro e w8 ⟨rfl, rfl⟩
                  clear hP1
                  go_wp2_with fail
                  go_at_call 34; refine hP2.mono ?_; rintro e w8 ⟨rfl, rfl⟩
                  clear hP2
                  go_wp2_with fail
                  go_loopw [26, 27] (fun bb kk wi => ∃ (q dr : Nat) (m : Int), q ≤ (([] : List Int)).length ∧ kk = .int .i64 q ∧ bb = .int .u64 m ∧ wi = w7.drewN dr ∧ Hid (m = maskOf ((([] : List Int)).reverse.take q) ∧ 0 ≤ m ∧ m ≤ 15)) (fun _ kk _ => (([] : List Int)).length - (intOf kk).toNat)
                  case atStart => exact ⟨0, 0, 0, Nat.zero_le _, rfl, rfl, rfl, by simp [maskOf], by omega, by omega⟩
                  case round =>
                    obtain ⟨q, dr, m, hq, rfl, rfl, rfl, HM⟩ := hrel
                    have hq4 : q ≤ 4 := by have := HLN2.out; omega
                    by_cases hql : q < (([] : List Int)).length
                    · exact absurd hql (by simp)
                    · obtain rfl : q = (([] : List Int)).length := by omega
                      have hgd2 : decide (((([] : List Int)).length : Int) < ((([] : List Int)).length : Int)) = false := by simp
                      have hm9 : m = maskOf (([] : List Int)) := by
                        have := HM.out.1
                        rw [List.take_of_length_le (by rw [List.length_reverse]; exact Nat.le_refl _), maskOf_reverse] at this
                        exact this
                      have wle : IntKind.u64.wrap ((([] : List Int)).length : Int) = ((([] : List Int)).length : Int) := wrap_u64 (by have := HLN2.out; omega)
                      have HEND : Hid (∃ (jj : Nat) (vv : Value) (ss : St) (rr : List Int), vv = .slice Av (([] : List Int)).length capv ∧ jj = j + 1 ∧ Hid (Is (w7.drewN dr) 111 A cap c b n ss) ∧ Hid (Lay (w7.drewN dr) cl P P 1) ∧ Hid (Below w.heap.size w (w7.drewN dr)) ∧ Hid (RI.IntsOn (w7.drewN dr) B0 vv rr.reverse) ∧ Hid (B0 ≤ (w7.drewN dr).heap.size) ∧ Hid (Pil P n ss rr ∧ Low ss (8 * jj : Int))) := by
                        have hd : Below w7.heap.size w7 (w7.drewN dr) := Below.drewN' (Below.refl _ _) dr
                        exact ⟨j + 1, _, s2, ([] : List Int), rfl, rfl, HI7.out.below hd, HY7.out.below hd HY7.out.lt, seq HB7.out hd, HV7.out.keep (But.of_below (l := []) hd) (fun k _ h => by cases h), Nat.le_trans HBB7.out hd.size, HQ2.out.1, by have := HQ2.out.2; rw [show ((8 * ((j + 1 : Nat) : Int))) = 8 * (j : Int) + 8 by omega]; exact this⟩
                      subst hm9
                      generalize maskOf (([] : List Int)) = mr at *
                      clear HI7 HY7 HB7 HV7 HBB7 HVL HM HQ2
                      go_wp2_with fail
                      go_roundw
                      case rel =>
                        obtain ⟨jj, vv, ss, rr, e1, e2, g1, g2, g3, g4, g5, g6⟩ := HEND.out
                        subst e2
                        exact ⟨j + 1, vv, ss, rr, e1, by omega, by go_num, g1, g2, g3, g4, g5, g6⟩
                      case measure => simp [intOf]; omega
                | cons y1 r1 =>
                  obtain ⟨⟨l1, g1⟩, g2⟩ := pil_get HQ.out.1 HN.out HP.out
                  have HQ2 : Hid (Pil P n ((igPM P).steps 0 n 8 (IgT.ld, s)).2 r1 ∧ Low ((igPM P).steps 0 n 8 (IgT.ld, s)).2 (8 * (j : Int) + 8)) := ⟨g2, PM.steps_low _ 0 n 8 _ HQ.out.2⟩
                  have hGv := ig_got HS.out.mach
                  have hD : Calls Try.prog 22 #[.pointer (some ⟨xg, 0, none⟩)] wr fun e w' => e = .returned (.bool true) ∧ wr = w' := by
                    obtain ⟨nx, u1, u2⟩ := HG.out.1.next HS.out.mach
                    rw [g1] at u2
                    rw [show true = nx.isNone by rw [u2]; rfl]
                    exact done_ipg wr xg nx u1
                  rw [g1, show (IgT.over y1 l1).obs = y1 from rfl] at hGv
                  have HI : Hid _ := HS.out.mem
                  have HY : Hid (Lay _ cl P P 1) := HS.out.rd.1
                  have HB : Hid _ := HS.out.below
                  have hV0 : RI.IntsOn wr B0 (.slice Av (y1 :: r1).length capv) (y1 :: r1).reverse := HS.out.rd.2
                  obtain ⟨ga, cpa, ha1, ha2⟩ := RI.IntsOn.cell hV0 (j := r1.length) (by simp)
                  injection ha1 with ha1 ha3 ha4
                  subst ha1 ha4
                  have hlast : (y1 :: r1).reverse.getD r1.length 0 = y1 := by
                    rw [List.getD_eq_getElem?_getD, List.getElem?_reverse (by simp)]
                    simp
                  rw [hlast] at ha2
                  have HV : Hid (RI.IntsOn wr B0 (.slice (some ⟨ga, 0, none⟩) r1.length capv) r1.reverse) := by
                    have h := hV0.own
                    rw [List.length_reverse] at h
                    have h2 := row_pop (n := r1.length) h
                    refine ⟨?_⟩
                    rw [List.length_reverse]
                    have e : (List.map (Value.int .i64) (y1 :: r1).reverse).take r1.length = List.map (Value.int .i64) r1.reverse := by
                      rw [List.reverse_cons, List.map_append, List.take_append_of_le_length (by simp), List.take_of_length_le (by simp)]
                    rw [e] at h2
                    exact h2
                  have HCAP : Hid (r1.length + 1 ≤ capv) := by
                    rcases hV0.own.2 with ⟨e0, -⟩ | ⟨gb, cp, cur, e0, -, -, h5, -⟩
                    · cases e0
                    · injection e0 with e1 e2 e3
                      subst e3
                      rw [List.length_reverse] at h5
                      exact h5
                  have hlc : ((y1 :: r1).length : Int) = (r1.length : Int) + 1 := by simp
                  have hw1 : wrap64 ((r1.length : Int) + 1 - 1) = (r1.length : Int) := by have := HLN.out; simp at this; unfold wrap64; omega
                  have hpos : (0 : Int) < (r1.length : Int) + 1 := by omega
                  have hlt1 : (r1.length : Int) < (r1.length : Int) + 1 := by omega
                  have hcp := HCAP.out
                  clear HS g1 g2 HLw HQ hV0 hlast ha3
                  generalize ((igPM P).steps 0 n 8 (IgT.ld, s)).2 = s2 at *
                  go_wp2_with fail
                  go_at_call 22; refine hD.mono ?_; rintro e w9 ⟨rfl, rfl⟩
                  clear hD
                  go_wp2_with fail
                  go_at_call 24; refine hGv.mono ?_; rintro e w9 ⟨rfl, rfl⟩
                  clear hGv ha2 HCAP hcp
                  obtain ⟨f1, f2, f3⟩ := HQ2.out.1.list HN.out HP.out.1
                  have hLs := iplist_any _ A cap c b n cl s2 P P 1 HI.out HN6.out HY.out (by have := HP.out; omega) (by have := HP.out; omega)
                  rw [f1] at hLs
                  have HF2 : Hid (peekT n s2 10 = (r1).length) := f2
                  have HF3 : Hid (peekT n s2 19 = maskOf (r1)) := f3
                  have HLN2 : Hid ((r1).length ≤ 4 ∧ 0 ≤ maskOf (r1) ∧ maskOf (r1) ≤ 15) := by
                    have h := nodup_room P.toNat (r1) HQ2.out.1.nd (fun x hx => by have := HQ2.out.1.rg x hx; omega)
                    have := HP.out
                    exact ⟨by omega, maskOf_bd _ HQ2.out.1.nd (fun x hx => by have := HQ2.out.1.rg x hx; omega)⟩
                  clear f1 f2 f3
                  go_wp2_with fail
                  go_at_call 27; refine hLs.mono ?_; rintro e w7 ⟨vl, rfl, hv7, hb7⟩
                  have HI7 : Hid (Is w7 111 A cap c b n s2) := HI.out.below hb7
                  have HY7 : Hid (Lay w7 cl P P 1) := HY.out.below hb7 HY.out.lt
                  have HB7 : Hid (Below w.heap.size w w7) := seq HB.out hb7
                  have HBB7 : Hid (B0 ≤ w7.heap.size) := Nat.le_trans HBB.out hb7.size
                  have HV7 : Hid (RI.IntsOn w7 B0 (.slice (some ⟨ga, 0, none⟩) (r1).length capv) (r1).reverse) := HV.out.keep (But.of_below (l := []) hb7) (fun k _ h => by cases h)
                  obtain ⟨Al, capl, hvl⟩ := RI.lists_slice (show RI.IntsOn w7 _ vl (r1) from ⟨hv7.own⟩).own
                  subst hvl
                  have HVL : Hid (RI.IntsOn w7 _ (.slice Al (r1).length capl) (r1)) := ⟨hv7.own⟩
                  have hP1 := peek_any w7 A cap c b n s2 10 HI7.out HN6.out
                  have hP2 := peek_any w7 A cap c b n s2 19 HI7.out HN6.out
                  rw [HF2.out] at hP1
                  rw [HF3.out] at hP2
                  clear hLs hv7 hb7 HI HY HB HV HBB HF2 HF3
                  go_wp2_with fail
                  go_at_call 34; refine hP1.mono ?_; rintro e w8 ⟨rfl, rfl⟩
                  clear hP1
                  go_wp2_with fail
                  go_at_call 34; refine hP2.mono ?_; rintro e w8 ⟨rfl, rfl⟩
                  clear hP2
                  go_wp2_with fail
                  go_loopw [26, 27] (fun bb kk wi => ∃ (q dr : Nat) (m : Int), q ≤ (r1).length ∧ kk = .int .i64 q ∧ bb = .int .u64 m ∧ wi = w7.drewN dr ∧ Hid (m = maskOf ((r1).reverse.take q) ∧ 0 ≤ m ∧ m ≤ 15)) (fun _ kk _ => (r1).length - (intOf kk).toNat)
                  case atStart => exact ⟨0, 0, 0, Nat.zero_le _, rfl, rfl, rfl, by simp [maskOf], by omega, by omega⟩
                  case round =>
                    obtain ⟨q, dr, m, hq, rfl, rfl, rfl, HM⟩ := hrel
                    have hq4 : q ≤ 4 := by have := HLN2.out; omega
                    by_cases hql : q < (r1).length
                    · obtain ⟨ga, cpa, ha1, ha2⟩ := RI.IntsOn.cell HV7.out (j := q) (by rw [List.length_reverse]; exact hql)
                      obtain ⟨gb, cpb, hb1, hb2⟩ := RI.IntsOn.cell HVL.out (j := (r1).length - 1 - q) (by omega)
                      injection ha1 with ha1 ha3 ha4
                      injection hb1 with hb1 hb3 hb4
                      cases ha1
                      cases hb1
                      have hj0 : (0 : Int) ≤ (q : Int) := by omega
                      have hj1 : (q : Int) < ((r1).length : Int) := by omega
                      have hd1 : decide (((r1).length : Int) ≤ (q : Int)) = false := decide_eq_false (by omega)
                      obtain ⟨kb, hkb⟩ : ∃ kb, (r1).length - 1 - q = kb := ⟨_, rfl⟩
                      have HEQ : Hid ((r1).reverse.getD q 0 = (r1).getD ((r1).length - 1 - q) 0 ∧ (r1).reverse.getD q 0 ∈ (r1) ∧ (r1).reverse.take (q + 1) = (r1).reverse.take q ++ [(r1).reverse.getD q 0]) := by
                        have hlen : q < (r1).reverse.length := by rw [List.length_reverse]; exact hql
                        refine ⟨?_, ?_, ?_⟩
                        · rw [List.getD_eq_getElem?_getD, List.getD_eq_getElem?_getD, List.getElem?_reverse hql]
                        · rw [List.getD_eq_getElem?_getD, List.getElem?_eq_getElem hlen]
                          exact List.mem_reverse.1 (List.getElem_mem _)
                        · rw [List.take_add_one, List.getElem?_eq_getElem hlen, List.getD_eq_getElem?_getD, List.getElem?_eq_getElem hlen]
                          rfl
                      obtain ⟨o, ho⟩ : ∃ o, (r1).reverse.getD q 0 = o := ⟨_, rfl⟩
                      have ho2 : (r1).getD kb 0 = o := by rw [← ho, ← hkb]; exact HEQ.out.1.symm
                      rw [ho] at ha2
                      rw [hkb, ho2] at hb2
                      obtain ⟨ln1, hln1⟩ : ∃ ln1, (r1).length - 1 = ln1 := ⟨_, rfl⟩
                      have w1e : wrap64 (((r1).length : Int) - 1) = (ln1 : Int) := by have := HLN2.out; unfold wrap64; omega
                      have w2e : wrap64 ((ln1 : Int) - (q : Int)) = (kb : Int) := by have := HLN2.out; unfold wrap64; omega
                      have w1f : IntKind.i64.wrap (((r1).length : Int) - 1) = (ln1 : Int) := by have h9 := HLN2.out.1; generalize (r1).length = ln at *; simp [IntKind.wrap, IntKind.bits, IntKind.signed]; omega
                      have w2f : IntKind.i64.wrap ((ln1 : Int) - (q : Int)) = (kb : Int) := by have h9 := HLN2.out.1; generalize (r1).length = ln at *; simp [IntKind.wrap, IntKind.bits, IntKind.signed]; omega
                      clear hln1
                      have hkb1 : (kb : Int) < ((r1).length : Int) := by omega
                      have hkb0 : (0 : Int) ≤ (kb : Int) := by omega
                      have hoo : (o != o) = false := by simp
                      have hoo2 : decide (o ≠ o) = false := by simp
                      have HBT := rbit_any o (w7.drewN dr)
                      have HOR : Hid (0 ≤ o ∧ o < 4) := by
                        have h1 := HEQ.out.2.1
                        rw [ho] at h1
                        have := HQ2.out.1.rg o h1
                        have := HP.out
                        exact ⟨by omega, by omega⟩
                      have hbo : 0 ≤ bitOf o ∧ bitOf o ≤ 8 := by
                        have h4 := HOR.out
                        rcases (by omega : o = 0 ∨ o = 1 ∨ o = 2 ∨ o = 3) with rfl | rfl | rfl | rfl <;> decide
                      have HM2 : Hid (m + bitOf o = maskOf ((r1).reverse.take (q + 1)) ∧ 0 ≤ m + bitOf o ∧ m + bitOf o ≤ 15) := by
                        have e := HM.out
                        have e2 : m + bitOf o = maskOf ((r1).reverse.take (q + 1)) := by
                          rw [HEQ.out.2.2, maskOf_append, ← e.1, ho]
                          simp [maskOf]
                        refine ⟨e2, by omega, ?_⟩
                        rw [e2]
                        exact (maskOf_bd _ ((List.reverse_perm (r1)).nodup_iff.2 HQ2.out.1.nd |>.sublist (List.take_sublist _ _)) (fun x hx => by have := HQ2.out.1.rg x (List.mem_reverse.1 (List.mem_of_mem_take hx)); have := HP.out; omega)).2
                      have w3e : IntKind.u64.wrap (m + bitOf o) = m + bitOf o := wrap_u64 (by have := HM2.out; omega)
                      generalize bitOf o = bo at *
                      clear ho ho2 HEQ ha3 ha4 hb3 hb4 hbo HM hkb HOR
                      go_wp2_with fail
                      go_at_call 31; refine HBT.mono ?_; rintro e w9 ⟨rfl, rfl⟩
                      clear HBT
                      go_wp2_with fail
                      go_quiet (fail)
                      go_wp2_with fail
                      go_roundw
                      case rel => exact ⟨q + 1, _, m + bo, by omega, by go_num, rfl, rfl, HM2⟩
                      case measure => simp [intOf]; omega
                    · obtain rfl : q = (r1).length := by omega
                      have hgd2 : decide (((r1).length : Int) < ((r1).length : Int)) = false := by simp
                      have hm9 : m = maskOf (r1) := by
                        have := HM.out.1
                        rw [List.take_of_length_le (by rw [List.length_reverse]; exact Nat.le_refl _), maskOf_reverse] at this
                        exact this
                      have wle : IntKind.u64.wrap ((r1).length : Int) = ((r1).length : Int) := wrap_u64 (by have := HLN2.out; omega)
                      have HEND : Hid (∃ (jj : Nat) (vv : Value) (ss : St) (rr : List Int), vv = .slice (some ⟨ga, 0, none⟩) (r1).length capv ∧ jj = j + 1 ∧ Hid (Is (w7.drewN dr) 111 A cap c b n ss) ∧ Hid (Lay (w7.drewN dr) cl P P 1) ∧ Hid (Below w.heap.size w (w7.drewN dr)) ∧ Hid (RI.IntsOn (w7.drewN dr) B0 vv rr.reverse) ∧ Hid (B0 ≤ (w7.drewN dr).heap.size) ∧ Hid (Pil P n ss rr ∧ Low ss (8 * jj : Int))) := by
                        have hd : Below w7.heap.size w7 (w7.drewN dr) := Below.drewN' (Below.refl _ _) dr
                        exact ⟨j + 1, _, s2, r1, rfl, rfl, HI7.out.below hd, HY7.out.below hd HY7.out.lt, seq HB7.out hd, HV7.out.keep (But.of_below (l := []) hd) (fun k _ h => by cases h), Nat.le_trans HBB7.out hd.size, HQ2.out.1, by have := HQ2.out.2; rw [show ((8 * ((j + 1 : Nat) : Int))) = 8 * (j : Int) + 8 by omega]; exact this⟩
                      subst hm9
                      generalize maskOf (r1) = mr at *
                      clear HI7 HY7 HB7 HV7 HBB7 HVL HM HQ2
                      go_wp2_with fail
                      go_roundw
                      case rel =>
                        obtain ⟨jj, vv, ss, rr, e1, e2, g1, g2, g3, g4, g5, g6⟩ := HEND.out
                        subst e2
                        exact ⟨j + 1, vv, ss, rr, e1, by omega, by go_num, g1, g2, g3, g4, g5, g6⟩
                      case measure => simp [intOf]; omega
    · obtain rfl : j = mp := by omega
      have hgd : decide ((j : Int) < (j : Int)) = false := by simp
      have hBd := fun Y (hY : Below wr.heap.size wr Y) => bad_any Y A cap c b n s (HI.out.below hY)
      have HBD : Hid _ := hBd
      have HS0 : Hid (s.bad = 0) := HQ.out.1.bad
      have hA := idlep_awake wr
      have HBF : Hid _ := HB.out
      clear hBd HI HY HB HV HBB HQ
      go_wp2_with fail
      go_at_call 11; refine hA.mono ?_; rintro e w9 ⟨rfl, h9⟩
      have hBd := HBD.out w9 h9
      rw [HS0.out] at hBd
      have HFF : Hid (Below w.heap.size w w9) := seq HBF.out h9
      clear hA h9 HBD
      go_wp2_with fail
      go_at_call 35; refine hBd.mono ?_; rintro e w8 ⟨rfl, rfl⟩
      clear hBd
      go_wp2_with fail
      go_ret
      exact ⟨rfl, HFF.out⟩
theorem idlepPile_walk (P : Int) (E : Option Addr) (mp cq : Nat) (pk : Nat → Nat) (w : World) (hmp : mp ≤ 9223372036854775807) (hB : SeesB8 w w.heap.size E mp pk) :
    Calls Try.prog 6 #[.int .i64 P, .slice E mp cq] w fun e w' => e = .returned (.bool true) ∧ Below w.heap.size w w' := by
  by_cases h : P < 1 ∨ 4 < P ∨ 100 < mp
  · exact idlepPile_bad P E mp cq w hmp h
  · exact idlepPile_ok P E mp cq pk w (by omega) (by omega) hB
end Go.Proofs.Ytggbohakpkplkaa
