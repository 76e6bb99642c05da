/- The law of the order, walked. -/
import Derived.Test.YtideofojmgmboaaC2
namespace Go.Proofs.Ytideofojmgmboaa
open Go Go.RowKit
set_option linter.unusedVariables false
set_option linter.unusedSimpArgs false
set_option maxRecDepth 100000
variable {w : World} {a : Nat} {E : List Nat} {K : List It}

theorem own_low {w : World} {B B' : Nat} {T : TypeId} {v : Value} {n : Nat} {l : List Value} (h : w.ownsRow B T 2 v n l) (hb : B' ≤ B) : w.ownsRow B' T 2 v n l := by
  refine ⟨h.1, ?_⟩
  rcases h.2 with h2 | ⟨g, cap, cur, e, h3, h4⟩
  · exact Or.inl h2
  · exact Or.inr ⟨g, cap, cur, e, Nat.le_trans hb h3, h4⟩
/-- a row that a call has made is the caller's -/
theorem Own.fresh {X Y : World} {T : TypeId} {A : Option Addr} {cp : Nat} {O : List It} (hX : Own E w X a K) (hG : Gr X Y T (X.heap.size + 1) A cp O) :
    ∃ l, Own (l ++ E) w Y a K ∧ Row (l ++ E) w Y T (.slice A O.length cp) O := by
  have hb : Below X.heap.size X Y := hG.bel
  have hlt := hG.own.lt
  rcases A with _ | g
  · refine ⟨[], hX.mine hb [] (by simp), own_low hG.own (by have := hX.bel.size; omega), fun g hg => by simp [Value.ownBlock] at hg⟩
  · have h1 := hlt g.block rfl
    refine ⟨[g.block], hX.mine hb [g.block] (by simp; omega), own_low hG.own (by have := hX.bel.size; omega), fun k hg => ?_⟩
    simp [Value.ownBlock] at hg
    simp [hg]
/-- the agenda is the list in order -/
structure Is (L S : List It) : Prop where
  hp : Hp L L.length
  perm : List.Perm L S
  srt : Srt S
theorem Is.nil : Is [] [] := ⟨fun k h1 h2 => by simp at h2, List.Perm.refl _, List.Pairwise.nil⟩
theorem pos_perm {L S : List It} (h : List.Perm L S) (k : Int) : (pos L k).isSome = (pos S k).isSome := by
  have e : ∀ M : List It, (pos M k).isSome = M.any (fun x => x.2 == k) := fun M => by
    unfold pos
    rw [List.findIdx?_isSome]
  rw [e, e]
  exact h.any_eq
theorem Is.put {L S : List It} (h : Is L S) {x : It} (hx : pos L x.2 = none) : Is (putL L x) (dput S x) := by
  obtain ⟨h1, h2⟩ := put_hp h.hp x
  refine ⟨h1, h2.trans ((h.perm.cons x).trans (dput_perm S x).symm), dput_srt S x h.srt fun y hy => ?_⟩
  have hS : pos S x.2 = none := by
    have := pos_perm h.perm x.2
    rw [hx] at this
    simpa using this.symm
  obtain ⟨k, hk, rfl⟩ := mem_at hy
  exact pos_none hS k hk
theorem Is.pop {L S : List It} {s : It} (h : Is L (s :: S)) : (hpop L).1 = s ∧ Is (hpop L).2 S := by
  obtain ⟨h1, h2, h3, _⟩ := pop_srt h.hp h.srt h.perm
  exact ⟨h1, h2, h3, (List.pairwise_cons.1 h.srt).2⟩
theorem law_many (A : Option Addr) (n cp : Nat) (hn : 200 < n) (w : World) : Calls Try.prog 4 #[.slice A n cp] w fun e w' => e = .returned (.bool true) ∧ Below w.heap.size w w' := by
  have HA := Lib.hid (awake_any w)
  have h : (200 : Int) < (n : Int) := by omega
  go_enter Try.func4, Try.ntmps4
  go_wp2_with fail
  go_at_call 9; refine HA.out.mono ?_; rintro e w1 ⟨rfl, hb⟩
  have HB := Lib.hid hb
  clear hb
  go_wp2_with fail
  go_ret
  exact ⟨rfl, HB.out⟩
/-- an item is appended to the one row, the other is kept -/
theorem own_app {X Y : World} {T T' : TypeId} {A : Option Addr} {cp g cap j : Nat} {O O' : List It} {v : Value} {x0 x1 : Int} {e0 : Nat} (hX : Own (e0 :: E) w X a K) (hR : Row (e0 :: E) w X T (.slice A j cp) O) (hW : Row (e0 :: E) w X T' v O') (hj : O.length = j)
    (hO : Y.ownsRow w.heap.size T 2 (.slice (some ⟨g, 0, none⟩) (j + 1) cap) (j + 1) (flat O ++ [.int .i64 x0, .int .i64 x1])) (hG : (X.alloc (.cells #[.int .i64 x0, .int .i64 x1] T)).grownBy Y (Value.slice A j cp).ownBlock)
    (hg : (Value.slice A j cp).ownBlock = some g ∨ g = (X.alloc (.cells #[.int .i64 x0, .int .i64 x1] T)).heap.size) (hgl : g < Y.heap.size) (hT : T ≠ T') :
    Own (g :: e0 :: E) w Y a K ∧ Row (g :: e0 :: E) w Y T (.slice (some ⟨g, 0, none⟩) (j + 1) cap) (O ++ [(x0, x1)]) ∧ Row (g :: e0 :: E) w Y T' v O' := by
  subst hj
  rw [size_al] at hg
  have hne : ∀ k, v.ownBlock = some k → (Value.slice A O.length cp).ownBlock ≠ some k := by
    intro k h1 h2
    rcases hW.own.2 with ⟨h4, _⟩ | ⟨k1, c1, u1, rfl, h5, h6, h7⟩
    · rw [h4] at h1; simp [Value.ownBlock] at h1
    · rcases hR.own.2 with ⟨h4, _⟩ | ⟨k2, c2, u2, h8, h9, h10, h11⟩
      · rw [h4] at h2; simp [Value.ownBlock] at h2
      · rw [h8] at h2
        simp [Value.ownBlock] at h1 h2
        subst h1
        subst h2
        rw [h10] at h6
        simp at h6
        exact hT h6.2
  obtain ⟨h1, h2, h3⟩ := hX.append (x := (x0, x1)) hR hO hG hg hgl
  refine ⟨h1, h2, ⟨⟨hW.own.1, ?_⟩, fun k hk => List.mem_cons_of_mem _ (hW.mine k hk)⟩⟩
  rcases hW.own.2 with h4 | ⟨k, cap, cur, rfl, h5, h6, h7⟩
  · exact Or.inl h4
  · exact Or.inr ⟨k, cap, cur, rfl, h5, (h3 k (block_lt h6) (fun g' e e2 => hne k rfl (by rw [e, e2]))).trans h6, h7⟩
set_option maxHeartbeats 8000000 in
theorem order_walk (b : Nat) (A : Option Addr) (n cp : Nat) (I : List It) (hn : I.length = n) (hl : n ≤ 200) (w : World) (hS : Sees w b A I) : Calls Try.prog 4 #[.slice A n cp] w fun e w' => e = .returned (.bool true) ∧ Below w.heap.size w w' := by
  obtain ⟨i0, hi, hz0, hz1, hz2⟩ := info_parts info23
  have HS := Lib.hid (fun (X : World) (hb : Below w.heap.size w X) => hS.below hb)
  have HN := Lib.hid hn
  have HL := Lib.hid hl
  have HNew := Lib.hid (own_new w)
  have hl0 : ¬ (200 : Int) < (n : Int) := by omega
  clear hS hn hl
  go_enter Try.func4, Try.ntmps4
  go_wp2_with fail
  go_at_call 16; refine HNew.out.mono ?_; rintro e w0 ⟨rfl, hO⟩
  have HO := Lib.hid hO
  clear hO HNew
  go_wp2_with fail
  generalize hak : w.heap.size = ak at HO ⊢
  have HAK := Lib.hid hak
  clear hak
  go_loopw [4, 5] (fun v i wr => ∃ (k cw : Nat) (Aw : Option Addr) (L S : List It) (E : List Nat), v = .slice Aw S.length cw ∧ i = .int .i64 k ∧ k ≤ n ∧ Hid (S.length ≤ k) ∧ Hid (Own E w wr ak L) ∧ Hid (Row E w wr 42 (.slice Aw S.length cw) S) ∧ Hid (Is L S)) (fun _ i _ => n - (intOf i).toNat)
  case atStart => exact ⟨0, 0, none, [], [], [], rfl, rfl, by omega, Nat.le_refl _, HO.out, Row.nil _ _, Is.nil⟩
  case round =>
    obtain ⟨k, cw, Aw, L, S, E, rfl, rfl, hk, hSk, hOw, hRo, hIs⟩ := hrel
    clear HO
    by_cases hkn : k < n
    · have hki : (k : Int) < (n : Int) := by omega
      have hcap : (k : Int) < 100000 := by have := HL.out; omega
      have HKL : Hid (k < I.length) := by show k < I.length; rw [HN.out]; exact hkn
      obtain ⟨off, rfl, hcs⟩ := HS.out wr hOw.out.bel (by have := HKL.out; omega)
      obtain ⟨hy0, hy1⟩ := hcs k HKL.out
      have HCC : Hid (∀ X : World, Below w.heap.size w X → X.cell? ⟨b, off + k * 2, none⟩ = some (.int .i64 (at_ I k).1) ∧ X.cell? ⟨b, off + k * 2 + 1, none⟩ = some (.int .i64 (at_ I k).2)) := fun X hb => by
        obtain ⟨off', e, hc⟩ := HS.out X hb (by have := HKL.out; omega)
        cases e
        exact hc k HKL.out
      clear hcs
      generalize at_ I k = y at *
      obtain ⟨d, q⟩ := y
      simp only at hy0 hy1
      cases hp : pos L q with
      | some p =>
        have HPut := Lib.hid (put_twice hOw.out.ag (d, q) (by rw [hp]; rfl))
        unfold itV at HPut
        clear hp
        go_wp2_with fail
        go_at_call 10; refine HPut.out.mono ?_; rintro e w1 ⟨rfl, hb⟩
        have HO1 := Lib.hid (hOw.out.below hb)
        have HR1 := Lib.hid (hRo.out.below hOw.out.lt hb)
        clear hb
        go_wp2_with fail
        go_roundw
        case rel => first | exact ⟨k + 1, cw, Aw, L, S, E, rfl, by go_num, by omega, Lib.hid (by have := hSk.out; omega), HO1, HR1, hIs⟩ | (repeat apply Exists.intro; exact ⟨⟨k + 1, cw, Aw, L, S, E, rfl, by go_num, by omega, Lib.hid (by have := hSk.out; omega), HO1, HR1, hIs⟩, rfl⟩)
        case measure => simp [intOf]; omega
      | none =>
        have HP := Lib.hid hp
        have HPut := Lib.hid (own_put wr L (d, q) hOw.out hp (by have := hIs.out.perm.length_eq; have := hSk.out; have := HL.out; omega))
        unfold itV at HPut
        clear hp
        go_wp2_with fail
        go_at_call 10; refine HPut.out.mono ?_; rintro e w1 ⟨rfl, hO1, hk1⟩
        have HO1 := Lib.hid (hO1.below (Below.refl _ _).drew)
        have HR1 := Lib.hid ((hRo.out.kept hk1).below hO1.lt (Below.refl _ _).drew)
        have hz := HCC.out w1 hO1.bel
        have hz0 := hz.1
        have hz1 := hz.2

        have HI1 := Lib.hid (hIs.out.put (x := (d, q)) HP.out)
        clear hO1 hk1 hz hy0 hy1
        obtain ⟨g0, hg0⟩ := HR1.out.sees
        have HRP := Lib.hid (refPut_any w1.drew g0 Aw cw S (d, q) S.length rfl hg0 (by have := hSk.out; have := HL.out; omega))
        simp only at HRP
        clear hg0
        go_wp2_with fail
        go_region_with (go_at_call 17; refine HRP.out.mono ?_; rintro e w3 ⟨A', cap', rfl, hG⟩)
        all_goals (
          obtain ⟨l, h1, h2⟩ := HO1.out.fresh hG
          have HO3 := Lib.hid h1
          have HR3 := Lib.hid h2
          rw [dput_len] at HR3
          clear hG h1 h2
          go_wp2_with fail
          go_roundw
          case rel => first | exact ⟨k + 1, cap', A', _, dput S (d, q), _, (by rw [dput_len]), (by go_num), by omega, Lib.hid (by rw [dput_len]; have := hSk.out; omega), HO3, (by rw [dput_len]; exact HR3), HI1⟩ | (repeat apply Exists.intro; exact ⟨⟨k + 1, cap', A', _, dput S (d, q), _, (by rw [dput_len]), (by go_num), by omega, Lib.hid (by rw [dput_len]; have := hSk.out; omega), HO3, (by rw [dput_len]; exact HR3), HI1⟩, rfl⟩)
          case measure => simp [intOf]; omega)
    · obtain rfl : k = n := by omega
      have hki : ¬ (k : Int) < (k : Int) := by omega
      have HSN : Hid (S.length ≤ 200) := by have := hSk.out; have := HL.out; show S.length ≤ 200; omega
      clear HS HL HN hSk
      generalize hsl : S.length = m at *
      have HSL := Lib.hid hsl
      go_wp2_with fail
      have HOw := Lib.hid hOw.out
      have HRw := Lib.hid hRo.out
      have HIs := Lib.hid hIs.out
      clear hOw hRo hIs hsl
      go_loopw [6, 7] (fun v i wx => ∃ (k cg : Nat) (Ag' : Option Addr) (L' : List It) (E' : List Nat), v = .slice Ag' k cg ∧ i = .int .i64 k ∧ k ≤ m ∧ Hid (Own E' w wx ak L') ∧ Hid (Row E' w wx 23 (.slice Ag' k cg) (S.take k)) ∧ Hid (Row E' w wx 42 (.slice Aw m cw) S) ∧ Hid (Is L' (S.drop k))) (fun _ i _ => m - (intOf i).toNat)
      case atStart => exact ⟨0, 0, none, L, E, rfl, rfl, by omega, HOw, Row.nil _ _, HRw, HIs⟩
      case round =>
        obtain ⟨j, cg, Ag', L', E', rfl, rfl, hj, hO, hR, hW, hI⟩ := hrel
        clear HOw HRw HIs
        by_cases hjm : j < m
        · have hji : (j : Int) < (m : Int) := by omega
          have hcap : (j : Int) < 100000 := by have := HSN.out; omega
          have hjS : j < S.length := by rw [HSL.out]; exact hjm
          have hlen : (S.take j).length = j := by rw [List.length_take]; omega
          have HIs := hI.out
          rw [drop_at hjS] at HIs
          have hLl : ∃ n', L'.length = n' + 1 := ⟨L'.length - 1, by have := HIs.perm.length_eq; simp at this; omega⟩
          obtain ⟨n', hLl⟩ := hLl
          have hLs : L'.length ≤ 200 := by have h1 := HIs.perm.length_eq; rw [List.length_cons, List.length_drop] at h1; have := HSN.out; have := HSL.out; omega
          obtain ⟨p1, p2⟩ := HIs.pop
          have HPop := Lib.hid (own_pop wr L' n' hO.out hLl (by omega))
          rw [p1] at HPop
          have HT := Lib.hid (take_at hjS)
          have HI2 := Lib.hid p2
          have HLEN := Lib.hid hlen
          have HJM := Lib.hid hjm
          clear p1 p2 HIs hLl hLs hlen hjS
          generalize at_ S j = y at *
          obtain ⟨d, q⟩ := y
          unfold itV at HPop
          simp only at HPop
          go_wp2_with fail
          go_at_call 6; refine HPop.out.mono ?_; rintro e w1 ⟨rfl, hO1, hk1⟩
          have HO1 := Lib.hid (hO1.box (.cells #[.int .i64 d, .int .i64 q] 23))
          have BA := (Below.refl w1.heap.size w1).alloc (Nat.le_refl _) (.cells #[.int .i64 d, .int .i64 q] 23)
          have HR1 : Hid (Row (w1.heap.size :: E') w (w1.alloc (.cells #[.int .i64 d, .int .i64 q] 23)) 23 (.slice Ag' j cg) (S.take j)) := ((hR.out.kept hk1).below hO1.lt BA).more (l := [w1.heap.size])
          have HW1 : Hid (Row (w1.heap.size :: E') w (w1.alloc (.cells #[.int .i64 d, .int .i64 q] 23)) 42 (.slice Aw m cw) S) := ((hW.out.kept hk1).below hO1.lt BA).more (l := [w1.heap.size])
          have hN1 := heap_alloc_new w1 (.cells #[.int .i64 d, .int .i64 q] 23)
          have b0 : (w1.alloc (.cells #[.int .i64 d, .int .i64 q] 23)).cell? ⟨w1.heap.size, 0, none⟩ = some (.int .i64 d) := by simp [cell_of hN1]
          have b1 : (w1.alloc (.cells #[.int .i64 d, .int .i64 q] 23)).cell? ⟨w1.heap.size, 1, none⟩ = some (.int .i64 q) := by simp [cell_of hN1]
          clear hO1 hk1 BA hN1
          have HOWN : Hid ((w1.alloc (.cells #[.int .i64 d, .int .i64 q] 23)).ownsRow w.heap.size 23 2 (.slice Ag' j cg) j (flat (S.take j))) := by have q := HR1.out.own; rw [HLEN.out] at q; exact q
          have HWB := Lib.hid HO1.out.bel.size
          have HNW : Hid (∀ j u, ([.int .i64 d, .int .i64 q] : List Value)[j]? = some u → ((w1.alloc (.cells #[.int .i64 d, .int .i64 q] 23)).alloc (.cells #[.int .i64 d, .int .i64 q] 23)).cell? ((⟨w1.heap.size + 1, 0, none⟩ : Addr).add j) = some u) := by
            have := news2' (w1.alloc (.cells #[.int .i64 d, .int .i64 q] 23)) (.int .i64 d) (.int .i64 q) 23
            rw [size_al] at this
            exact this
          go_wp2_with (refine wpList_append_lies _ rfl (.tmp 56) (.tmp 58) 34 rfl w.heap.size 23 i0 _ 2 16 Try.underlying34 hi hz0 hz1 hz2 rfl (by omega) (.slice Ag' j cg) j (flat (S.take j)) rfl (HOWN.out.alloc _) ⟨_, 0, none⟩ 1 1 [.int .i64 d, .int .i64 q] rfl rfl HNW.out (flat_one [(d, q)]) (by omega) (by unfold maxLen; omega) (by omega) (by have := HWB.out; rw [size_al]; omega) _ rfl ?_; intro g3 cap3 w5 hO2 hG2 hor2 hlt2; have HU := Lib.hid (own_app HO1.out HR1.out HW1.out HLEN.out hO2 hG2 hor2 hlt2 (by decide)); clear hO2 hG2 hor2 hlt2)
          go_roundw
          case rel =>
            have hR5 := HU.out.2.1
            rw [← HT.out] at hR5
            first | exact ⟨j + 1, cap3, some ⟨g3, 0, none⟩, _, _, rfl, (by go_num), by omega, HU.out.1, hR5, HU.out.2.2, HI2⟩ | (repeat apply Exists.intro; exact ⟨⟨j + 1, cap3, some ⟨g3, 0, none⟩, _, _, rfl, (by go_num), by omega, HU.out.1, hR5, HU.out.2.2, HI2⟩, rfl⟩)
          case measure => simp [intOf]; omega
        · obtain rfl : j = m := by omega
          have hji : ¬ (j : Int) < (j : Int) := by omega
          have hL0 : L' = [] := by
            have h1 := hI.out.perm
            rw [← HSL.out, List.drop_length] at h1
            exact h1.eq_nil
          subst hL0
          have hTS : S.take j = S := by rw [← HSL.out, List.take_length]
          rw [hTS] at hR
          have HPop := Lib.hid (pop_none hO.out.ag)
          unfold noIt at HPop
          clear hTS hI
          go_wp2_with fail
          go_at_call 6; refine HPop.out.mono ?_; rintro e w1 ⟨rfl, hb⟩
          have BA := hb.alloc hb.size (.cells #[.int .i64 0, .int .i64 0] 23)
          have HO1 := Lib.hid (hO.out.below BA)
          have HR1 := Lib.hid (hR.out.below hO.out.lt BA)
          have HW1 := Lib.hid (hW.out.below hO.out.lt BA)
          have HAw := Lib.hid (awake_any (w1.alloc (.cells #[.int .i64 0, .int .i64 0] 23)))
          clear hb BA
          go_wp2_with fail
          go_at_call 9; refine HAw.out.mono ?_; rintro e w2 ⟨rfl, hb⟩
          have HO2 := Lib.hid (HO1.out.below hb)
          obtain ⟨g1, hg1⟩ := (HR1.out.below HO1.out.lt hb).sees
          obtain ⟨g2, hg2⟩ := (HW1.out.below HO1.out.lt hb).sees
          have HSame := Lib.hid (same_any w2 g1 g2 Ag' Aw cg cw S j HSL.out (by have := HSN.out; omega) hg1 hg2)
          clear hb hg1 hg2
          go_wp2_with fail
          go_at_call 18; refine HSame.out.mono ?_; rintro e w3 ⟨rfl, hb⟩
          have HO3 := Lib.hid (HO2.out.below hb)
          have HLen := Lib.hid (Len_ag HO3.out.ag)
          clear hb
          go_wp2_with fail
          go_at_call 15; refine HLen.out.mono ?_; rintro e w4 ⟨rfl, rfl⟩
          go_wp2_with fail
          go_ret
          exact ⟨rfl, HO3.out.bel⟩
end Go.Proofs.Ytideofojmgmboaa
