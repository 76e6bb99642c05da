/- The reference's list (rlist18). -/
import Derived.Test.YtggbohakpkplkaaLinks
import Derived.Test.YtggbohakpkplkaaRefL17
import Derived.Test.YtggbohakpkplkaaGwEq
namespace Go.Proofs.Ytggbohakpkplkaa
open Go Go.RowKit
set_option linter.unusedVariables false
set_option maxRecDepth 100000
set_option linter.unusedSimpArgs false

set_option maxHeartbeats 4000000 in
theorem rlist18_any (w : World) (A : Option Addr) (cap c b n : Nat) (s : St) (P T G : Int) (hI : Is w 58 A cap c b n s) (hn : (n : Int) = 20 + 264 * P + 3 * G + 2 * T) (hp : 0 ≤ P ∧ P ≤ 64) (hT : 0 ≤ T ∧ T ≤ 65536) (hG : 0 ≤ G ∧ G ≤ 65536) :
    Calls Try.prog 47 #[.agg #[.int .i64 P, .int .i64 G, .int .i64 T], .pointer (some ⟨c, 0, none⟩)] w fun e w' => ∃ v, e = .returned (.tuple #[v, .bool (lsOf (fun g => peekT n s (wd (20 + P * 264) G 3 g 2)) G (peekT n s 11)).2]) ∧ IntsOn w' (w.heap.size + 1) v (lsOf (fun g => peekT n s (wd (20 + P * 264) G 3 g 2)) G (peekT n s 11)).1 ∧ Below w.heap.size w w' := by
  obtain ⟨i0, hi, hz0, hz1, hz2⟩ := info_parts lists_info3
  have hn6 : n ≤ 1000000 := by omega
  have hb0 : Below w.heap.size w (w.alloc (.cells #[.int .i64 P, .int .i64 G, .int .i64 T] 23)) := (Below.refl _ _).alloc (Nat.le_refl _) _
  have HX : Hid (Blk (w.alloc (.cells #[.int .i64 P, .int .i64 G, .int .i64 T] 23)) w.heap.size #[.int .i64 P, .int .i64 G, .int .i64 T] 23) := Blk.new _ _ _
  have HI : Hid (∀ W, Below w.heap.size w W → Is W 58 A cap c b n s) := fun W h => hI.below h
  have HPB : Hid (∀ i, 0 ≤ peekT n s i ∧ peekT n s i ≤ 18446744073709551615) := fun i => by
    unfold peekT
    split
    · exact hI.bd _ (by omega)
    · omega
  have HGA : Hid (∀ g W, Calls Try.prog 82 #[.agg #[.int .i64 P, .int .i64 G, .int .i64 T], .int .i64 g, .int .i64 2] W fun e w' => e = .returned (.int .i64 (wd (20 + P * 264) G 3 g 2)) ∧ Below W.heap.size W w') := fun g W => rthrAt_all P G T g 2 W hp hG.2 (by omega)
  have HIS : Hid (∀ v, 0 ≤ v ∧ v ≤ 18446744073709551615 → v ≠ 0 → (v ≤ G → gw v = v - 1) ∧ decide (0 ≤ wd (20 + P * 264) G 3 (gw v) 2 ∧ wd (20 + P * 264) G 3 (gw v) 2 < n) = decide (v ≤ G)) := fun v hv h0 => il_isw (20 + P * 264) G 3 2 n v (by omega) (by omega) (fun y h1 h2 => by omega) hv h0
  have HB0 : Hid _ := hb0
  have hP1 := rpeek_any (w.alloc (.cells #[.int .i64 P, .int .i64 G, .int .i64 T] 23)) A cap c b n s 11 hn6 (hI.below hb0)
  have HR : Hid (∃ r, lsOf (fun g => peekT n s (wd (20 + P * 264) G 3 g 2)) G (peekT n s 11) = r) := ⟨_, rfl⟩
  obtain ⟨r, hr⟩ := HR.out
  rw [hr]
  have HNX : Hid (∃ pl : Int → Int, (fun g => wd (20 + P * 264) G 3 g 2) = pl) := ⟨_, rfl⟩
  obtain ⟨pl, hpl⟩ := HNX.out
  have hplg : ∀ g, wd (20 + P * 264) G 3 g 2 = pl g := fun g => congrFun hpl g
  simp only [hplg] at HGA HIS hr
  clear hI HR HNX hb0 hp hT hpl hplg hn
  go_enter Try.func47, Try.ntmps47
  go_wp2_with fail
  have hsz : (w.alloc (.cells #[.int .i64 P, .int .i64 G, .int .i64 T] 23)).heap.size = w.heap.size + 1 := World.size_alloc _ _
  generalize w.alloc (.cells #[.int .i64 P, .int .i64 G, .int .i64 T] 23) = W at *
  go_at_call 48; refine hP1.mono ?_; rintro e w2 ⟨rfl, hw2⟩
  subst hw2
  have HW0 : Hid (0 ≤ peekT n s 11 ∧ peekT n s 11 ≤ 18446744073709551615) := HPB.out 11
  have HR0 : Hid (lsGo (fun g => peekT n s (pl g)) G (G.toNat + 1) [] (peekT n s 11) = r) := hr
  generalize peekT n s 11 = fw at *
  clear hP1 hr
  go_wp2_with fail
  go_loopw [6, 7, 9] (fun v x k wr => ∃ (acc : List Int) (wv : Int), x = .int .u64 wv ∧ k = .int .i64 acc.length ∧ Hid (0 ≤ wv ∧ wv ≤ 18446744073709551615) ∧ Hid (wr.ownsRow (w.heap.size + 1) 3 1 v acc.length (acc.map (Value.int .i64))) ∧
      Hid (Below w.heap.size w wr) ∧ w.heap.size + 1 ≤ wr.heap.size ∧ Hid (Blk wr w.heap.size #[.int .i64 P, .int .i64 G, .int .i64 T] 23) ∧ Hid (acc.Nodup ∧ ∀ y ∈ acc, 0 ≤ y ∧ y < G) ∧ acc.length ≤ G.toNat ∧ Hid (lsGo (fun g => peekT n s (pl g)) G (G.toNat + 1 - acc.length) acc wv = r))
    (fun _ _ k _ => G.toNat + 1 - (intOf k).toNat)
  case atStart => exact ⟨[], fw, rfl, rfl, HW0, World.ownsRow_nil _ _ _ _, HB0, by omega, HX, ⟨List.nodup_nil, by simp⟩, by simp, HR0⟩
  case round =>
    clear HW0 HR0 HB0 HX
    obtain ⟨acc, wv, rfl, rfl, HWB, HO, HB, hsz2, HK, HN, hlen, HRR⟩ := hrel
    have k2 := HK.out.cell 1 (v := .int .i64 G) rfl
    have hlG : (acc.length : Int) ≤ G := by omega
    by_cases h0 : wv = 0
    · subst h0
      have HE : Hid (r = (acc, true)) := by
        have := HRR.out
        obtain ⟨f, hf⟩ : ∃ f, G.toNat + 1 - acc.length = f + 1 := ⟨G.toNat - acc.length, by omega⟩
        rw [hf] at this
        exact this.symm.trans (if_pos rfl)
      clear HRR
      go_wp2_with fail
      go_returns
      rw [HE.out]
      exact ⟨_, rfl, ⟨HO.out⟩, HB.out⟩
    · have hd0 : (wv == 0) = false := by simpa using h0
      have hd1 : (wv != 0) = true := by simpa using h0
      obtain ⟨q1, q2⟩ := HIS.out wv HWB.out h0
      have e1 : wrap64 (IntKind.i64.wrap wv - 1) = gw wv := gw_eq wv HWB.out
      have hGA := HGA.out (gw wv)
      have HQ1 : Hid (wv ≤ G → gw wv = wv - 1) := q1
      have HH0 : Hid (wv ≠ 0) := h0
      have k0 := HK.out.cell 0 (v := .int .i64 P) rfl
      have k1 := HK.out.cell 2 (v := .int .i64 T) rfl
      generalize hgg : gw wv = gv at *
      have HGG : Hid (gw wv = gv) := hgg
      clear q1 hgg
      generalize hii : IntKind.i64.wrap wv = iv at *
      go_wp2_with fail
      go_at_call 82; refine (hGA _).mono ?_; rintro e w3 ⟨rfl, h3⟩
      have HB3 : Hid (Below w.heap.size w w3) := seq HB.out h3
      have HO3 : Hid (w3.ownsRow (w.heap.size + 1) 3 1 _ acc.length (acc.map (Value.int .i64))) := row_below HO.out h3
      have HK3 : Hid (Blk w3 w.heap.size #[.int .i64 P, .int .i64 G, .int .i64 T] 23) := HK.out.but (But.of_below (l := []) h3) (by simp)
      have hs3 : w.heap.size + 1 ≤ w3.heap.size := Nat.le_trans hsz2 h3.size
      have hP := rpeek_any w3 A cap c b n s (pl gv) hn6 (HI.out w3 HB3.out)
      rw [q2] at hP
      clear hGA h3 HB HO HK k0 k1 k2 q2
      by_cases hle : wv ≤ G
      · rw [decide_eq_true hle] at hP
        have HLE : Hid (wv ≤ G) := hle
        have hgv : gv = wv - 1 := HQ1.out hle
        have HGV : Hid (gv = wv - 1) := hgv
        have HPV : Hid (0 ≤ peekT n s (pl gv) ∧ peekT n s (pl gv) ≤ 18446744073709551615) := HPB.out _
        have HNXT : Hid (∀ f, (wv - 1) ∉ acc → lsGo (fun g => peekT n s (pl g)) G (f + 1) acc wv = lsGo (fun g => peekT n s (pl g)) G f (acc ++ [gv]) (peekT n s (pl gv))) := fun f hf => by
          rw [lsGo, if_neg HH0.out, if_neg (fun h => by rcases h with h | h; exact hf h; have := HLE.out; omega), ← HGV.out]
        generalize peekT n s (pl gv) = nv at *
        clear hle hgv
        go_wp2_with fail
        go_at_call 48; refine hP.mono ?_; rintro e w4 ⟨rfl, hw4⟩
        subst hw4
        clear hP
        go_wp2_with fail
        go_loopw [13] (fun i wi => ∃ j : Nat, j ≤ acc.length ∧ i = .int .i64 j ∧ wi = w3 ∧ Hid (∀ q, q < j → acc.getD q 0 ≠ gv)) (fun i _ => acc.length - (intOf i).toNat)
        case atStart => exact ⟨0, Nat.zero_le _, rfl, rfl, fun q hq => absurd hq (Nat.not_lt_zero q)⟩
        case round =>
          obtain ⟨j, hj, rfl, rfl, HNE⟩ := hrel
          obtain ⟨Ao, co, hvo⟩ := lists_slice HO3.out
          by_cases hlt : j < acc.length
          · obtain ⟨gb, cp, hv2, hc2⟩ := IntsOn.cell ⟨HO3.out⟩ hlt
            subst hv2
            have hj0 : (0 : Int) ≤ (j : Int) := by omega
            have hj1 : (j : Int) < (acc.length : Int) := by omega
            have HMEM : Hid (acc.getD j 0 ∈ acc) := by
              rw [List.getD_eq_getElem?_getD, List.getElem?_eq_getElem hlt]
              exact List.getElem_mem _
            have HJ : Hid (∃ o, acc.getD j 0 = o) := ⟨_, rfl⟩
            obtain ⟨o, ho⟩ := HJ.out
            rw [ho] at hc2
            have HOO : Hid (acc.getD j 0 = o) := ho
            clear ho HJ hvo
            by_cases heq : o = gv
            · subst heq
              have HE : Hid (r = (acc, false)) := by
                have h1 := HRR.out
                obtain ⟨f, hf⟩ : ∃ f, G.toNat + 1 - acc.length = f + 1 := ⟨G.toNat - acc.length, by omega⟩
                rw [hf, lsGo, if_neg HH0.out, if_pos (.inl (by rw [← HGV.out, ← HOO.out]; exact HMEM.out))] at h1
                exact h1.symm
              clear HRR
              go_wp2_with fail
              go_returns
              rw [HE.out]
              exact ⟨_, rfl, ⟨HO3.out⟩, HB3.out⟩
            · have hdq : decide (o = gv) = false := decide_eq_false heq
              have HNE2 : Hid (∀ q, q < j + 1 → acc.getD q 0 ≠ gv) := fun q hq => by
                by_cases h : q < j
                · exact HNE.out q h
                · obtain rfl : q = j := by omega
                  rw [HOO.out]; exact heq
              clear HNE
              go_wp2_with fail
              go_roundw
              case rel => exact ⟨j + 1, by omega, by go_num, trivial, HNE2⟩
              case measure => simp [intOf]; omega
          · obtain rfl : j = acc.length := by omega
            have hnin : (wv - 1) ∉ acc := fun hm => by
              obtain ⟨q, hq, he⟩ := List.mem_iff_getElem.1 hm
              refine HNE.out q hq ?_
              rw [List.getD_eq_getElem?_getD, List.getElem?_eq_getElem hq]
              simp only [Option.getD_some]
              rw [he, HGV.out]
            have hN2 : (acc ++ [gv]).Nodup ∧ ∀ y ∈ acc ++ [gv], 0 ≤ y ∧ y < G := by
              have h1 := HGV.out
              have h2 := HLE.out
              have h3 := HWB.out
              have h4 := HH0.out
              refine ⟨List.nodup_append.2 ⟨HN.out.1, by simp, ?_⟩, fun y hy => ?_⟩
              · intro a ha b hb
                simp at hb
                rintro rfl
                exact hnin (by rw [← h1, ← hb]; exact ha)
              · rcases List.mem_append.1 hy with hy | hy
                · exact HN.out.2 y hy
                · simp at hy; omega
            have hlen2 : acc.length + 1 ≤ G.toNat := by
              have := nodup_room G.toNat _ hN2.1 (fun x hx => by have := hN2.2 x hx; omega)
              simpa using this
            have HN2 : Hid _ := hN2
            have HE : Hid (lsGo (fun g => peekT n s (pl g)) G (G.toNat + 1 - (acc.length + 1)) (acc ++ [gv]) nv = r) := by
              have h1 := HRR.out
              rw [show G.toNat + 1 - acc.length = (G.toNat + 1 - (acc.length + 1)) + 1 by omega, HNXT.out _ hnin] at h1
              exact h1
            have hml : acc.length + 1 < maxLen := by unfold maxLen; omega
            have hO3 := HO3.out
            have hd9 : decide ((acc.length : Int) < (acc.length : Int)) = false := by simp
            clear HNE hnin hN2 HNXT HRR
            go_wp2_with (at_builtin; refine wpList_append_own _ rfl _ _ 62 rfl (w.heap.size + 1) 3 i0 (.int .i64 0) 1 8 Try.underlying62 hi hz0 hz1 hz2 rfl (by decide) _ _ _ rfl (hO3.alloc _) ⟨_, 0, none⟩ 1 1 [.int .i64 gv] rfl rfl (cell_one_new _ _ _) (ints_oneCell .i64 [gv]) (by unfold maxLen; omega) (by omega) (by simp; omega) ?_; intro v' w5 hown' hgrow2 hnil2)
            have s2 := hgrow2.size
            simp at s2
            have HO5 : Hid (w5.ownsRow (w.heap.size + 1) 3 1 v' (acc.length + 1) (List.map (Value.int .i64) acc ++ [Value.int .i64 gv])) := hown'
            have HB5 : Hid (Below w.heap.size w w5) := (HB3.out.alloc HB3.out.size _).grown hgrow2 (by simp; omega) (fun j hj => Nat.le_trans (Nat.le_succ _) (hO3.lt j hj).1)
            have HK5 : Hid (Blk w5 w.heap.size #[.int .i64 P, .int .i64 G, .int .i64 T] 23) := (HK3.out.al _).keep (hgrow2.block _ (by have := HK3.out.lt; simp; omega) (fun e => by have := (hO3.lt _ e.symm).1; omega))
            have hs5 : w.heap.size + 1 ≤ w5.heap.size := by omega
            clear hown' hgrow2 hnil2 s2 hO3 HO3 HB3 HK3 hvo
            go_wp2_with fail
            go_roundw
            case rel =>
              refine ⟨acc ++ [gv], nv, rfl, by rw [List.length_append]; go_num, HPV, ?_, HB5, hs5, HK5, HN2, by simpa using hlen2, by rw [List.length_append]; exact HE.out⟩
              have := HO5.out
              rw [List.length_append, List.map_append]
              exact this
            case measure => simp [intOf]; omega
      · rw [decide_eq_false hle] at hP
        have HE : Hid (r = (acc, false)) := by
          have h1 := HRR.out
          obtain ⟨f, hf⟩ : ∃ f, G.toNat + 1 - acc.length = f + 1 := ⟨G.toNat - acc.length, by omega⟩
          rw [hf, lsGo, if_neg h0, if_pos (.inr (by omega))] at h1
          exact h1.symm
        clear HRR hle
        generalize peekT n s (pl gv) = nv at *
        go_wp2_with fail
        go_at_call 48; refine hP.mono ?_; rintro e w4 ⟨rfl, hw4⟩
        subst hw4
        clear hP
        go_wp2_with fail
        go_returns
        rw [HE.out]
        exact ⟨_, rfl, ⟨HO3.out⟩, HB3.out⟩
end Go.Proofs.Ytggbohakpkplkaa
