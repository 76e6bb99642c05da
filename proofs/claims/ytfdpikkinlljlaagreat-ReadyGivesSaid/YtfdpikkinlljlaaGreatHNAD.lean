/- A struct of four ints, as it comes in. -/
import Derived.Test.YtfdpikkinlljlaaGreatHNAC
import Derived.Test.YtfdpikkinlljlaaGreatHMAA
namespace Go.Proofs.YtfdpikkinlljlaaGreat
open Go Go.RowKit Go.Maps
set_option linter.unusedVariables false
set_option maxRecDepth 100000
set_option linter.unusedSimpArgs false

def gsOk (G w : Int) : Bool := decide (w ≠ 0 ∧ w ≤ G)
def gsL (G : Int) (l : List Int) : List Int := (l.filter (gsOk G)).map gw
def rwN (nx : Int) (l : List Int) : List Int := if nx = 0 then l else l ++ [nx]
theorem gsL_snoc (G : Int) (l : List Int) (x : Int) : gsL G (l ++ [x]) = if gsOk G x = true then gsL G l ++ [gw x] else gsL G l := by
  unfold gsL
  rw [List.filter_append]
  cases h : gsOk G x
  · simp [List.filter, h]
  · simp [List.filter, h]
theorem WordsOn.cell {w : World} {base : Nat} {v : Value} {l : List Int} (h : WordsOn w base v l) {j : Nat} (hj : j < l.length) : ∃ gb cap, v = .slice (some ⟨gb, 0, none⟩) l.length cap ∧ gb < w.heap.size ∧ w.cell? ⟨gb, j, none⟩ = some (.int .u64 (l.getD j 0)) := by
  rcases h.own.2 with ⟨e, h0⟩ | ⟨gb, cp, cur, e, hb, hh, hnc, hcm, hcs, htk⟩
  · omega
  · subst e
    refine ⟨gb, cp, rfl, block_lt hh, ?_⟩
    have hc := h.own.cellAt j (by omega)
    rw [List.getElem?_map, List.getElem?_eq_getElem hj] at hc
    rw [List.getD_eq_getElem?_getD, List.getElem?_eq_getElem hj]
    exact hc
theorem WordsOn.slice {w : World} {base : Nat} {v : Value} {l : List Int} (h : WordsOn w base v l) : ∃ A cap, v = .slice A l.length cap := by
  rcases h.own.2 with ⟨e0, h0⟩ | ⟨gb, cp, cur, e0, hb, hh, rest⟩
  · exact ⟨none, 0, by rw [e0, h0]⟩
  · exact ⟨_, _, e0⟩
theorem RI.IntsOn.mono {w : World} {base base' : Nat} {v : Value} {l : List Int} (h : RI.IntsOn w base v l) (hb : base' ≤ base) : RI.IntsOn w base' v l := by
  refine ⟨h.own.1, ?_⟩
  rcases h.own.2 with h0 | ⟨gb, cp, cur, e0, hb0, rest⟩
  · exact .inl h0
  · exact .inr ⟨gb, cp, cur, e0, Nat.le_trans hb hb0, rest⟩
/-- All goroutines that are seen, and whether all are some. -/
def rgsL (P G p : Int) (n : Nat) (s : St) : List Int := rwN (peekT n s (wd 20 P 264 p 3)) (rwL P p n s (peekT n s (wd 20 P 264 p 1)) (rK P p n s))
theorem rgsL_bd {w : World} {T : TypeId} {A : Option Addr} {cap c b n : Nat} {s : St} (hI : Is w T A cap c b n s) (P G p : Int) : ∀ x ∈ rgsL P G p n s, 0 ≤ x ∧ x ≤ 18446744073709551615 := by
  intro x hx
  unfold rgsL rwN at hx
  have h1 : ∀ x ∈ rwL P p n s (peekT n s (wd 20 P 264 p 1)) (rK P p n s), 0 ≤ x ∧ x ≤ 18446744073709551615 := by
    intro x hx
    unfold rwL at hx
    obtain ⟨i, -, rfl⟩ := List.mem_map.1 hx
    exact rsf_bd hI _
  split at hx
  · exact h1 x hx
  · rcases List.mem_append.1 hx with h | h
    · exact h1 x h
    · rw [List.mem_singleton.1 h]; exact rsf_bd hI _
theorem rK_le (P p : Int) (n : Nat) (s : St) : rK P p n s ≤ 256 := by
  have h0 : 0 ≤ rMany P p n s := Int.emod_nonneg _ (by omega)
  unfold rK
  split <;> omega

set_option maxHeartbeats 4000000 in
theorem rgs_any (w : World) (cl : Nat) (P T G p : Int) (A : Option Addr) (cap c b n : Nat) (s : St) (hL : Lay w cl P T G) (hp : 0 ≤ P ∧ P ≤ 64) (hG : 0 ≤ G ∧ G ≤ 65536) (hI : Is w 141 A cap c b n s) (hn : n ≤ 1000000) :
    Calls Tryz.prog 65 #[.pointer (some ⟨cl, 0, none⟩), .pointer (some ⟨c, 0, none⟩), .int .i64 p] w fun e w' => ∃ v, e = .returned (.tuple #[v, .bool (decide (rMany P p n s ≤ 256) && (rgsL P G p n s).all (gsOk G))]) ∧ RI.IntsOn w' w.heap.size v (gsL G (rgsL P G p n s)) ∧ Below w.heap.size w w' := by
  obtain ⟨i0, hi, hz0, hz1, hz2⟩ := info_parts info39
  obtain ⟨i3, hi3, hz03, hz13, hz23⟩ := info_parts RI.lists_info3
  have hS := rsee_any w cl P T G p A cap c b n s hL hp hI hn
  have HW : Hid (∀ Y, Below w.heap.size w Y → Calls Tryz.prog 120 #[.pointer (some ⟨cl, 0, none⟩), .pointer (some ⟨c, 0, none⟩), .int .i64 p] Y fun e w' => ∃ v, e = .returned (.tuple #[v, .int .u64 (peekT n s (wd 20 P 264 p 3))]) ∧ WordsOn w' Y.heap.size v (rwL P p n s (peekT n s (wd 20 P 264 p 1)) (rK P p n s)) ∧ Below Y.heap.size Y w') := fun Y hY => rwords_any Y cl P T G p A cap c b n s (hL.below hY hL.lt) hp (hI.below hY) hn
  have HC : Hid (∀ Y, Below w.heap.size w Y → Calls Tryz.prog 106 #[.pointer (some ⟨cl, 0, none⟩)] Y fun e w' => e = .returned (.agg #[.int .i64 P, .int .i64 T, .int .i64 G]) ∧ Below Y.heap.size Y w') := fun Y hY => config_any _ P T G Y (.some cl (hL.below hY hL.lt))
  have hfc := field_c2
  have HBD : Hid (∀ x ∈ rgsL P G p n s, 0 ≤ x ∧ x ≤ 18446744073709551615) := rgsL_bd hI P G p
  have hkl := rK_le P p n s
  have hll : (rwL P p n s (peekT n s (wd 20 P 264 p 1)) (rK P p n s)).length = rK P p n s := rwL_len _ _ _ _ _ _
  have hRL : rgsL P G p n s = rwN (peekT n s (wd 20 P 264 p 3)) (rwL P p n s (peekT n s (wd 20 P 264 p 1)) (rK P p n s)) := rfl
  rw [show (peekT n s (wd 20 P 264 p 2) - peekT n s (wd 20 P 264 p 1)) % 4294967296 = rMany P p n s from rfl] at hS
  generalize rwL P p n s (peekT n s (wd 20 P 264 p 1)) (rK P p n s) = l0 at *
  generalize peekT n s (wd 20 P 264 p 1) = hh at *
  generalize peekT n s (wd 20 P 264 p 3) = nn at *
  generalize rMany P p n s = mm at *
  generalize rgsL P G p n s = ll at *
  have e3 : IntKind.u64.wrap G = G := wrap_u64 (by omega)
  have HLL : Hid (l0.length ≤ 256 ∧ ll = rwN nn l0) := ⟨by omega, hRL⟩
  clear hL hI hkl hll hRL
  go_enter Tryz.func65, Tryz.ntmps65
  go_wp2_with fail
  go_at_call 119; refine hS.mono ?_; rintro e w1 ⟨rfl, h1⟩
  have HB1 : Hid (Below w.heap.size w w1) := h1
  have hW := HW.out w1 h1
  clear hS h1
  generalize hdm : decide (mm ≤ 256) = dm at *
  go_wp2_with fail
  go_at_call 120; refine hW.mono ?_; rintro e w2 ⟨v0, rfl, hv0, h2⟩
  have HV0 : Hid (WordsOn w2 w1.heap.size v0 l0) := hv0
  have HB2 : Hid (Below w.heap.size w w2) := seq HB1.out h2
  have hs12 : Hid (w.heap.size ≤ w1.heap.size ∧ w1.heap.size ≤ w2.heap.size) := ⟨HB1.out.size, h2.size⟩
  clear hW hv0 h2
  by_cases hn0 : nn = 0
  · subst hn0
    have HLE : Hid (ll = l0) := HLL.out.2.trans (if_pos rfl)
    obtain ⟨A0, cp0, rfl⟩ := HV0.out.slice
    have HVX : Hid (WordsOn w2 w1.heap.size (.slice A0 ll.length cp0) ll) := by rw [HLE.out]; exact HV0.out
    have hsX : Hid (w.heap.size ≤ w2.heap.size) := HB2.out.size
    have HBX : Hid (Below w.heap.size w w2) := HB2.out
    have HLN : Hid (ll.length ≤ 257) := (by rw [HLE.out]; have := HLL.out.1; omega : ll.length ≤ 257)
    have hll : (l0.length : Int) = (ll.length : Int) := by rw [HLE.out]
    rw [← HLE.out]
    go_wp2_with fail
    go_loopw [11, 14, 42] (fun rr gg i wr => ∃ (j : Nat) (g : Value), g = gg ∧ j ≤ ll.length ∧ i = .int .i64 j ∧ rr = .bool (dm && (ll.take j).all (gsOk G)) ∧ Hid (RI.IntsOn wr w2.heap.size g (gsL G (ll.take j))) ∧ Hid (Below w2.heap.size w2 wr)) (fun _ _ i _ => ll.length - (intOf i).toNat)
    case atStart => exact ⟨0, _, rfl, Nat.zero_le _, rfl, by simp, ⟨World.ownsRow_nil _ _ _ _⟩, Below.refl _ _⟩
    case round =>
      obtain ⟨j, g, rfl, hj, rfl, rfl, HV, HB⟩ := hrel
      have hln9 : ll.length ≤ 257 := HLN.out
      by_cases hlt : j < ll.length
      · obtain ⟨gb, cp, ea, hgb, hcell⟩ := HVX.out.cell hlt
        injection ea with ea1 ea2 ea3
        subst ea1
        have hk1 : (j : Int) < (ll.length : Int) := by omega
        have hk0 : (0 : Int) ≤ (j : Int) := by omega
        have hc := (HB.out.cell (p := ⟨gb, j, none⟩) hgb).trans hcell
        have HTK : Hid (ll.take (j + 1) = ll.take j ++ [ll.getD j 0]) := by
          show ll.take (j + 1) = _
          rw [List.take_add_one, List.getD_eq_getElem?_getD, List.getElem?_eq_getElem hlt]
          rfl
        have hxb := HBD.out (ll.getD j 0) (by rw [List.getD_eq_getElem?_getD, List.getElem?_eq_getElem hlt]; exact List.getElem_mem hlt)
        generalize ll.getD j 0 = x at *
        generalize hdq : (dm && (ll.take j).all (gsOk G)) = dq
        have HDQ : Hid ((dm && (ll.take j).all (gsOk G)) = dq) := hdq
        clear hcell hdq ea2 ea3
        by_cases h0 : x = 0
        · subst h0
          have HF : Hid ((dm && (ll.take (j + 1)).all (gsOk G)) = false ∧ gsL G (ll.take (j + 1)) = gsL G (ll.take j)) := by
            rw [HTK.out]
            have hk : gsOk G 0 = false := by simp [gsOk]
            exact ⟨by simp [hk], by rw [gsL_snoc, hk]; rfl⟩
          go_wp2_with fail
          go_roundw
          case rel => exact ⟨j + 1, g, rfl, by omega, by go_num, by rw [HF.out.1], (by rw [HF.out.2]; exact HV.out : RI.IntsOn _ _ _ _), HB⟩
          case measure => simp [intOf]; omega
        · have hd0 : (x == 0) = false := by simpa using h0
          have hC := HC.out wr (HBX.out.trans (HB.out.mono hsX.out))
          go_wp2_with fail
          go_at_call 106; refine hC.mono ?_; rintro e w7 ⟨rfl, h7⟩
          have HB7 : Hid (Below w2.heap.size w2 w7) := seq HB.out h7
          have HV7 : Hid (RI.IntsOn w7 w2.heap.size g (gsL G (ll.take j))) := HV.out.keep (But.of_below (l := []) h7) (fun k _ => by simp)
          clear hC h7 hc HV HB
          by_cases hgt : G < x
          · have hdg : decide (G < x) = true := decide_eq_true hgt
            have HF : Hid ((dm && (ll.take (j + 1)).all (gsOk G)) = false ∧ gsL G (ll.take (j + 1)) = gsL G (ll.take j)) := by
              rw [HTK.out]
              have hk : gsOk G x = false := by simp [gsOk]; omega
              exact ⟨by simp [hk], by rw [gsL_snoc, hk]; rfl⟩
            go_wp2_with fail
            go_roundw
            case rel => exact ⟨j + 1, g, rfl, by omega, by go_num, by rw [HF.out.1], (by rw [HF.out.2]; exact HV7.out : RI.IntsOn _ _ _ _), HB7⟩
            case measure => simp [intOf]; omega
          · have hdg : decide (G < x) = false := decide_eq_false hgt
            have HF : Hid ((dm && (ll.take (j + 1)).all (gsOk G)) = dq ∧ gsL G (ll.take (j + 1)) = gsL G (ll.take j) ++ [gw x]) := by
              rw [HTK.out]
              have hk : gsOk G x = true := by simp [gsOk]; omega
              exact ⟨by rw [← HDQ.out]; simp [hk], by rw [gsL_snoc, hk]; rfl⟩
            obtain ⟨y, hy⟩ : ∃ y, IntKind.u64.wrap (x - 1) = y := ⟨_, rfl⟩
            obtain ⟨gx, hgx⟩ : ∃ gx, IntKind.i64.wrap y = gx := ⟨_, rfl⟩
            have HGX : Hid (gw x = gx) := by
              show gw x = gx
              unfold gw; rw [hy, hgx]
            have hOO := HV7.out.own
            have hlj : (gsL G (ll.take j)).length ≤ 257 := by
              unfold gsL
              rw [List.length_map]
              refine Nat.le_trans (List.length_filter_le _ _) ?_
              rw [List.length_take]; have := HLN.out; omega
            have hsz7 := HB7.out.size
            generalize hln : (gsL G (ll.take j)).length = ln at *
            have HLJ : Hid ((gsL G (ll.take j)).length = ln) := hln
            clear hln
            go_wp2_with (at_builtin; refine wpList_append_own _ rfl _ _ 49 rfl w2.heap.size 3 i3 (.int .i64 0) 1 8 Tryz.underlying49 hi3 hz03 hz13 hz23 rfl (by decide) _ _ _ rfl (hOO.alloc _) ⟨w7.heap.size, 0, none⟩ 1 1 [.int .i64 gx] rfl rfl (cell_one_new _ _ _) (ints_oneCell .i64 [gx]) (by unfold maxLen; omega) (by omega) (by simp; omega) ?_; intro v' w9 hown' hgrow2 hnil2)
            have HB9 : Hid (Below w2.heap.size w2 w9) := (HB7.out.alloc HB7.out.size _).grown hgrow2 (by simp; omega) (fun k hk => (hOO.lt k hk).1)
            have HV9 : Hid (RI.IntsOn w9 w2.heap.size v' (gsL G (ll.take (j + 1)))) := ⟨by
              rw [HF.out.2, List.map_append, List.length_append, HLJ.out, HGX.out]
              exact hown'⟩
            clear hown' hgrow2 hnil2 hOO
            go_wp2_with fail
            go_roundw
            case rel => exact ⟨j + 1, v', rfl, by omega, by go_num, by rw [HF.out.1], HV9, HB9⟩
            case measure => simp [intOf]; omega
      · obtain rfl : j = ll.length := by omega
        have HF : Hid (RI.IntsOn wr w.heap.size g (gsL G ll)) := by
          have := HV.out
          rw [List.take_length] at this
          exact this.mono hsX.out
        have HD : Hid ((dm && (ll.take ll.length).all (gsOk G)) = (dm && ll.all (gsOk G))) := by
          show _ = _
          rw [List.take_length]
        have HBF : Hid (Below w.heap.size w wr) := HBX.out.trans (HB.out.mono hsX.out)
        have hgd : decide ((ll.length : Int) < (ll.length : Int)) = false := by simp
        rw [HD.out]
        clear HV HB
        go_wp2_with fail
        go_returns
        exact ⟨g, by rw [hdm]; rfl, HF.out, HBF.out⟩
  · have hd0 : (nn == 0) = false := by simpa using hn0
    have hd1 : (nn != 0) = true := by simpa using hn0
    have HLE : Hid (ll = l0 ++ [nn]) := HLL.out.2.trans (if_neg hn0)
    have hOO := HV0.out.own
    have hlen := HLL.out.1
    have h12 := hs12.out
    go_wp2_with (at_builtin; refine wpList_append_own _ rfl _ _ 38 rfl w1.heap.size 39 i0 (.int .u64 0) 1 8 Tryz.underlying38 hi hz0 hz1 hz2 rfl (by decide) _ _ _ rfl (hOO.alloc _) ⟨w2.heap.size, 0, none⟩ 1 1 [.int .u64 nn] rfl rfl (cell_one_new _ _ _) (ints_oneCell .u64 [nn]) (by unfold maxLen; omega) (by omega) (by simp; omega) ?_; intro v' w5 hown' hgrow2 hnil2; generalize hq : l0.length + 1 = q at hown' ⊢; obtain rfl : q = ll.length := (by rw [← hq, HLE.out, List.length_append]; rfl); clear hq; obtain ⟨A0, cp0, rfl⟩ := RI.lists_slice hown')
    have HVX0 : Hid (WordsOn w5 w1.heap.size (.slice A0 ll.length cp0) ll) := ⟨by
      have := hown'
      rw [show ll.map (Value.int .u64) = l0.map (Value.int .u64) ++ [Value.int .u64 nn] by rw [HLE.out, List.map_append]; rfl]
      exact this⟩
    have hbx : Below w.heap.size w w5 := (HB2.out.alloc HB2.out.size _).grown hgrow2 (by simp; omega) (fun k hk => by have := (hOO.lt k hk).1; omega)
    have hsX : Hid (w.heap.size ≤ w5.heap.size) := hbx.size
    have HBX : Hid (Below w.heap.size w w5) := hbx
    have HLN : Hid (ll.length ≤ 257) := (by rw [HLE.out, List.length_append]; have := HLL.out.1; simp; omega : ll.length ≤ 257)
    have HVX : Hid (WordsOn w5 w1.heap.size (.slice A0 ll.length cp0) ll) := HVX0.out
    clear hown' hgrow2 hnil2 hOO hbx HVX0 h12 hlen
    go_loopw [11, 14, 42] (fun rr gg i wr => ∃ (j : Nat) (g : Value), g = gg ∧ j ≤ ll.length ∧ i = .int .i64 j ∧ rr = .bool (dm && (ll.take j).all (gsOk G)) ∧ Hid (RI.IntsOn wr w5.heap.size g (gsL G (ll.take j))) ∧ Hid (Below w5.heap.size w5 wr)) (fun _ _ i _ => ll.length - (intOf i).toNat)
    case atStart => exact ⟨0, _, rfl, Nat.zero_le _, rfl, by simp, ⟨World.ownsRow_nil _ _ _ _⟩, Below.refl _ _⟩
    case round =>
      obtain ⟨j, g, rfl, hj, rfl, rfl, HV, HB⟩ := hrel
      have hln9 : ll.length ≤ 257 := HLN.out
      by_cases hlt : j < ll.length
      · obtain ⟨gb, cp, ea, hgb, hcell⟩ := HVX.out.cell hlt
        injection ea with ea1 ea2 ea3
        subst ea1
        have hk1 : (j : Int) < (ll.length : Int) := by omega
        have hk0 : (0 : Int) ≤ (j : Int) := by omega
        have hc := (HB.out.cell (p := ⟨gb, j, none⟩) hgb).trans hcell
        have HTK : Hid (ll.take (j + 1) = ll.take j ++ [ll.getD j 0]) := by
          show ll.take (j + 1) = _
          rw [List.take_add_one, List.getD_eq_getElem?_getD, List.getElem?_eq_getElem hlt]
          rfl
        have hxb := HBD.out (ll.getD j 0) (by rw [List.getD_eq_getElem?_getD, List.getElem?_eq_getElem hlt]; exact List.getElem_mem hlt)
        generalize ll.getD j 0 = x at *
        generalize hdq : (dm && (ll.take j).all (gsOk G)) = dq
        have HDQ : Hid ((dm && (ll.take j).all (gsOk G)) = dq) := hdq
        clear hcell hdq ea2 ea3
        by_cases h0 : x = 0
        · subst h0
          have HF : Hid ((dm && (ll.take (j + 1)).all (gsOk G)) = false ∧ gsL G (ll.take (j + 1)) = gsL G (ll.take j)) := by
            rw [HTK.out]
            have hk : gsOk G 0 = false := by simp [gsOk]
            exact ⟨by simp [hk], by rw [gsL_snoc, hk]; rfl⟩
          go_wp2_with fail
          go_roundw
          case rel => exact ⟨j + 1, g, rfl, by omega, by go_num, by rw [HF.out.1], (by rw [HF.out.2]; exact HV.out : RI.IntsOn _ _ _ _), HB⟩
          case measure => simp [intOf]; omega
        · have hd0 : (x == 0) = false := by simpa using h0
          have hC := HC.out wr (HBX.out.trans (HB.out.mono hsX.out))
          go_wp2_with fail
          go_at_call 106; refine hC.mono ?_; rintro e w7 ⟨rfl, h7⟩
          have HB7 : Hid (Below w5.heap.size w5 w7) := seq HB.out h7
          have HV7 : Hid (RI.IntsOn w7 w5.heap.size g (gsL G (ll.take j))) := HV.out.keep (But.of_below (l := []) h7) (fun k _ => by simp)
          clear hC h7 hc HV HB
          by_cases hgt : G < x
          · have hdg : decide (G < x) = true := decide_eq_true hgt
            have HF : Hid ((dm && (ll.take (j + 1)).all (gsOk G)) = false ∧ gsL G (ll.take (j + 1)) = gsL G (ll.take j)) := by
              rw [HTK.out]
              have hk : gsOk G x = false := by simp [gsOk]; omega
              exact ⟨by simp [hk], by rw [gsL_snoc, hk]; rfl⟩
            go_wp2_with fail
            go_roundw
            case rel => exact ⟨j + 1, g, rfl, by omega, by go_num, by rw [HF.out.1], (by rw [HF.out.2]; exact HV7.out : RI.IntsOn _ _ _ _), HB7⟩
            case measure => simp [intOf]; omega
          · have hdg : decide (G < x) = false := decide_eq_false hgt
            have HF : Hid ((dm && (ll.take (j + 1)).all (gsOk G)) = dq ∧ gsL G (ll.take (j + 1)) = gsL G (ll.take j) ++ [gw x]) := by
              rw [HTK.out]
              have hk : gsOk G x = true := by simp [gsOk]; omega
              exact ⟨by rw [← HDQ.out]; simp [hk], by rw [gsL_snoc, hk]; rfl⟩
            obtain ⟨y, hy⟩ : ∃ y, IntKind.u64.wrap (x - 1) = y := ⟨_, rfl⟩
            obtain ⟨gx, hgx⟩ : ∃ gx, IntKind.i64.wrap y = gx := ⟨_, rfl⟩
            have HGX : Hid (gw x = gx) := by
              show gw x = gx
              unfold gw; rw [hy, hgx]
            have hOO := HV7.out.own
            have hlj : (gsL G (ll.take j)).length ≤ 257 := by
              unfold gsL
              rw [List.length_map]
              refine Nat.le_trans (List.length_filter_le _ _) ?_
              rw [List.length_take]; have := HLN.out; omega
            have hsz7 := HB7.out.size
            generalize hln : (gsL G (ll.take j)).length = ln at *
            have HLJ : Hid ((gsL G (ll.take j)).length = ln) := hln
            clear hln
            go_wp2_with (at_builtin; refine wpList_append_own _ rfl _ _ 49 rfl w5.heap.size 3 i3 (.int .i64 0) 1 8 Tryz.underlying49 hi3 hz03 hz13 hz23 rfl (by decide) _ _ _ rfl (hOO.alloc _) ⟨w7.heap.size, 0, none⟩ 1 1 [.int .i64 gx] rfl rfl (cell_one_new _ _ _) (ints_oneCell .i64 [gx]) (by unfold maxLen; omega) (by omega) (by simp; omega) ?_; intro v' w9 hown' hgrow2 hnil2)
            have HB9 : Hid (Below w5.heap.size w5 w9) := (HB7.out.alloc HB7.out.size _).grown hgrow2 (by simp; omega) (fun k hk => (hOO.lt k hk).1)
            have HV9 : Hid (RI.IntsOn w9 w5.heap.size v' (gsL G (ll.take (j + 1)))) := ⟨by
              rw [HF.out.2, List.map_append, List.length_append, HLJ.out, HGX.out]
              exact hown'⟩
            clear hown' hgrow2 hnil2 hOO
            go_wp2_with fail
            go_roundw
            case rel => exact ⟨j + 1, v', rfl, by omega, by go_num, by rw [HF.out.1], HV9, HB9⟩
            case measure => simp [intOf]; omega
      · obtain rfl : j = ll.length := by omega
        have HF : Hid (RI.IntsOn wr w.heap.size g (gsL G ll)) := by
          have := HV.out
          rw [List.take_length] at this
          exact this.mono hsX.out
        have HD : Hid ((dm && (ll.take ll.length).all (gsOk G)) = (dm && ll.all (gsOk G))) := by
          show _ = _
          rw [List.take_length]
        have HBF : Hid (Below w.heap.size w wr) := HBX.out.trans (HB.out.mono hsX.out)
        have hgd : decide ((ll.length : Int) < (ll.length : Int)) = false := by simp
        rw [HD.out]
        clear HV HB
        go_wp2_with fail
        go_returns
        exact ⟨g, by rw [hdm]; rfl, HF.out, HBF.out⟩
end Go.Proofs.YtfdpikkinlljlaaGreat

namespace Go.Proofs.YtfdpikkinlljlaaGreat
open Go Go.ChangeShapes Go.WideShapes Go.ChangeAt Go.RowKit Go.Joins Go.Deep
set_option linter.unusedVariables false
set_option maxRecDepth 100000
set_option linter.unusedSimpArgs false
section
variable {H : Type} {enc : TypeId × Value → H} {P : Program} {W : World} {base b0 : Nat} {t : TypeId} {v : Value} {d : DataW H} {p : List MemPlace}
end
end Go.Proofs.YtfdpikkinlljlaaGreat

namespace Go.Proofs.YtfdpikkinlljlaaGreat
open Go Go.ChangeShapes Go.WideShapes Go.ChangeAt Go.RowKit Go.Joins Go.Deep
set_option linter.unusedVariables false
set_option maxRecDepth 100000
set_option linter.unusedSimpArgs false

section
variable {H : Type} {enc : TypeId × Value → H} {P : Program} {W : World} {base b0 : Nat} {t : TypeId} {v : Value} {d : DataW H} {p : List MemPlace}
theorem open_int4 {f0 f1 f2 f3 : Field} (hs : P.underlying t = some (.struct #[f0, f1, f2, f3])) (hone : oneCellFields P #[f0, f1, f2, f3] = true) (hC : P.cellsOf t = 4) (u0 : P.underlying f0.type = some (.int .i64)) (u1 : P.underlying f1.type = some (.int .i64)) (u2 : P.underlying f2.type = some (.int .i64)) (u3 : P.underlying f3.type = some (.int .i64))
    (hv : Value.okWide P W .any b0 t v) (h : DataW.Trod enc P W base (fun _ => true) true t v d p) :
    ∃ (a b c e : Int), v = .agg #[.int .i64 a, .int .i64 b, .int .i64 c, .int .i64 e] ∧ (-9223372036854775808 ≤ c ∧ c ≤ 9223372036854775807) := by
  obtain ⟨v0, v1, v2, v3, y0, y1, y2, y3, n, rfl, _, _, h0, h1, h2, h3⟩ := open_agg4 hs hone hC hv h
  obtain ⟨a, e0, _, wa⟩ := DataW.trod_int u0 h0
  obtain ⟨b, e1, _, wb⟩ := DataW.trod_int u1 h1
  obtain ⟨c, e2, _, wc⟩ := DataW.trod_int u2 h2
  obtain ⟨e, e3, _, we⟩ := DataW.trod_int u3 h3
  simp at e0 e1 e2 e3
  exact ⟨a, b, c, e, by rw [e0, e1, e2, e3], bounds_i64 wc⟩
end
end Go.Proofs.YtfdpikkinlljlaaGreat
