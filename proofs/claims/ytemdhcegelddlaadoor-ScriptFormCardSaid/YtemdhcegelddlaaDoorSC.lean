/- The runs of equal entries. -/
import Derived.Test.YtemdhcegelddlaaDoorE1
import Derived.BigRegion
import Derived.Deep.RegionHeld3
import Derived.BigQuiet
import Derived.Deep.QuietTactic
import Derived.Handy
namespace Go.Proofs.YtemdhcegelddlaaDoor
open Go Go.RowKit
set_option linter.unusedVariables false
set_option linter.unusedSimpArgs false

/-- what is gathered: runs R, a rest r of f entries at most -/
structure Rn (w x : World) (l : List En) (b : Nat) (A2 : Option Addr) (r : List En) (A' : Option Addr) (c' : Nat) (R : List (En × Nat)) : Prop where
  own : x.ownsRow w.heap.size 76 3 (.slice A' R.length c') R.length (flatR R)
  bel : Below w.heap.size w x
  see : ∀ X, Below w.heap.size w X → Sees X b A2 r
  grp : ∃ f, r.length ≤ f ∧ grp l.length l = R ++ Go.Proofs.YtemdhcegelddlaaDoor.grp f r
  len : R.length + r.length ≤ l.length
theorem Rn.keep {w x y : World} {l : List En} {b : Nat} {A2 A' : Option Addr} {r : List En} {c' : Nat} {R : List (En × Nat)} (h : Rn w x l b A2 r A' c' R) (hb : Below x.heap.size x y) : Rn w y l b A2 r A' c' R :=
  ⟨own_below h.own hb, h.bel.trans (hb.mono h.bel.size), h.see, h.grp, h.len⟩
theorem Rn.drewN {w x : World} {l : List En} {b : Nat} {A2 A' : Option Addr} {r : List En} {c' : Nat} {R : List (En × Nat)} (h : Rn w x l b A2 r A' c' R) (n : Nat) : Rn w (x.drewN n) l b A2 r A' c' R :=
  ⟨h.own, ⟨h.bel.os, h.bel.tape, h.bel.output, h.bel.size, h.bel.block⟩, h.see, h.grp, h.len⟩
/-- one more run, behind an append -/
theorem own_app {w x Z y : World} {A' : Option Addr} {c' g cap : Nat} {R : List (En × Nat)} {e : En} {j : Nat} (ho : x.ownsRow w.heap.size 76 3 (.slice A' R.length c') R.length (flatR R)) (hbel : Below w.heap.size w x) (hz : Below x.heap.size x Z)
    (hO : y.ownsRow w.heap.size 76 3 (.slice (some ⟨g, 0, none⟩) (R.length + 1) cap) (R.length + 1) (flatR R ++ [.int .i64 e.k, .int .i64 e.w, .int .i64 (j : Int)])) (hG : Z.grownBy y (Value.slice A' R.length c').ownBlock) :
    y.ownsRow w.heap.size 76 3 (.slice (some ⟨g, 0, none⟩) (R ++ [(e, j)]).length cap) (R ++ [(e, j)]).length (flatR (R ++ [(e, j)])) ∧ Below w.heap.size w y := by
  have hlow := ho.lt
  have s1 := hz.size
  have s2 := hG.size
  have s3 := hbel.size
  refine ⟨?_, hG.os.trans (hz.os.trans hbel.os), hG.tape.trans (hz.tape.trans hbel.tape), hG.output.trans (hz.output.trans hbel.output), by omega, fun i hi => ?_⟩
  · rw [flatR_app, List.length_append]
    exact hO
  · exact (hG.block i (by omega) (fun e => by have := (hlow i e.symm).1; omega)).trans ((hz.block i (by omega)).trans (hbel.block i hi))
theorem Rn.next {w x y : World} {l : List En} {b : Nat} {A2 A' : Option Addr} {r : List En} {c' g cap : Nat} {R : List (En × Nat)} (h : Rn w x l b A2 r A' c' R) {j : Nat} (h0 : 0 < r.length) (h1 : ∀ i, i < j → at_ r i = at_ r 0) (h2 : 1 ≤ j) (h3 : j < r.length) (h4 : at_ r j ≠ at_ r 0)
    (hO : y.ownsRow w.heap.size 76 3 (.slice (some ⟨g, 0, none⟩) (R ++ [(at_ r 0, j)]).length cap) (R ++ [(at_ r 0, j)]).length (flatR (R ++ [(at_ r 0, j)]))) (hb : Below w.heap.size w y) (off : Nat) (hA : A2 = some ⟨b, off, none⟩) :
    Rn w y l b (some ⟨b, off + j * 2, none⟩) (r.drop j) (some ⟨g, 0, none⟩) cap (R ++ [(at_ r 0, j)]) := by
  refine ⟨hO, hb, fun X hX hS => ?_, ?_, ?_⟩
  · obtain ⟨off', e, hc⟩ := h.see X hX h0
    rw [hA] at e
    cases e
    refine ⟨off + j * 2, rfl, fun i hi => ?_⟩
    have := hc (j + i) (by simp at hi; omega)
    rw [at_drop]
    rw [show off + j * 2 + i * 2 = off + (j + i) * 2 by omega]
    exact this
  · obtain ⟨f, hf, hg⟩ := h.grp
    cases f with
    | zero => omega
    | succ f =>
      refine ⟨f, by simp; omega, ?_⟩
      rw [hg, grp_cons f r j h0 h1 h2 (by omega) (fun _ => h4)]
      simp
  · have := h.len
    simp; omega
theorem Rn.last {w x : World} {l : List En} {b : Nat} {A2 A' : Option Addr} {r : List En} {c' : Nat} {R : List (En × Nat)} (h : Rn w x l b A2 r A' c' R) (h0 : 0 < r.length) (h1 : ∀ i, i < r.length → at_ r i = at_ r 0) : Go.Proofs.YtemdhcegelddlaaDoor.grp l.length l = R ++ [(at_ r 0, r.length)] := by
  obtain ⟨f, hf, hg⟩ := h.grp
  cases f with
  | zero => omega
  | succ f =>
    rw [hg, grp_cons f r r.length h0 h1 (by omega) (by omega) (fun h => by omega), List.drop_length, grp_nil]

set_option maxRecDepth 100000 in
set_option maxHeartbeats 8000000 in
theorem runs_any (w : World) (b : Nat) (A : Option Addr) (cp : Nat) (l : List En) (n : Nat) (hn : l.length = n) (hl : n ≤ 65536) (hcp : n ≤ cp) (hs : Sees w b A l) : Calls Tryd.prog 32 #[.slice A n cp] w fun e w' =>
    ∃ A' c', e = .returned (.slice A' (grp l.length l).length c') ∧ w'.ownsRow w.heap.size 76 3 (.slice A' (grp l.length l).length c') (grp l.length l).length (flatR (grp l.length l)) ∧ Below w.heap.size w w' := by
  obtain ⟨i0, hi, hz0, hz1, hz2⟩ := info_parts info76
  have HL := Lib.hid hl
  have HR0 : Hid (Rn w w l b A l none 0 []) := ⟨World.ownsRow_nil _ _ _ _, Below.refl _ _, fun X hX => hs.below hX, ⟨l.length, Nat.le_refl _, rfl⟩, by simp⟩
  have HN := Lib.hid hn
  have HCP := Lib.hid hcp
  clear hs hn hl hcp
  go_enter Tryd.func32, Tryd.ntmps32
  go_wp2_with fail
  go_step3
  go_wp2_with fail
  go_step3
  go_wp2_with fail
  go_loopg [0, 3] n (fun k s v wx => ∃ (A2 : Option Addr) (cp2 : Nat) (r : List En) (A' : Option Addr) (c' : Nat) (R : List (En × Nat)), s = .slice A2 k cp2 ∧ v = .slice A' R.length c' ∧ Hid (k = r.length ∧ k ≤ cp2) ∧ Hid (Rn w wx l b A2 r A' c' R))
  case atStart => exact ⟨A, cp, l, none, 0, [], rfl, rfl, ⟨HN.out.symm, HCP.out⟩, HR0⟩
  case round =>
    obtain ⟨A2, cp2, r, A', c', R, rfl, rfl, HK, HR⟩ := hrel
    obtain ⟨hK, hC⟩ := HK.out
    clear HK
    subst hK
    have HC2 := Lib.hid hC
    clear hC
    have HRl : Hid (r.length ≤ 65536 ∧ R.length + r.length ≤ 65536) := by have h1 := HR.out.len; have h2 := HN.out; have h3 := HL.out; show _ ∧ _; omega
    by_cases h0 : r.length = 0
    · have hr : r = [] := List.eq_nil_of_length_eq_zero h0
      have HG : Hid (grp l.length l = R) := by
        obtain ⟨f, hf, hg⟩ := HR.out.grp
        rw [hr, grp_nil, List.append_nil] at hg
        exact hg
      have hri : ¬ (0 : Int) < (r.length : Int) := by omega
      go_wp2_with fail
      go_ret
      rw [HG.out]
      exact ⟨A', c', rfl, HR.out.own, HR.out.bel⟩
    · have hri : (0 : Int) < (r.length : Int) := by omega
      have H0 : Hid (0 < r.length) := by show 0 < _; omega
      go_wp2_with fail
      go_loopg [0, 3, 11] r.length (fun k s v i wi => s = .slice A2 r.length cp2 ∧ v = .slice A' R.length c' ∧ ∃ j : Nat, j + k = r.length ∧ i = .int .i64 (j : Int) ∧ Hid (Rn w wi l b A2 r A' c' R) ∧ Hid (∀ t, t < j → at_ r t = at_ r 0))
      case atStart => exact ⟨rfl, rfl, 0, by omega, rfl, HR, fun t ht => by omega⟩
      case round =>
        obtain ⟨rfl, rfl, j, hjk, rfl, HI, HQ⟩ := hrel
        obtain ⟨wi, hwi⟩ : ∃ X, X = wr := ⟨_, rfl⟩
        subst hwi
        have HJK := Lib.hid hjk
        by_cases hjl : j < r.length
        · have hji : (j : Int) < (r.length : Int) := by omega
          have hjb : (j : Int) < 100000 := by have := HRl.out; omega
          obtain ⟨off, rfl, hcs⟩ := HI.out.see wi HI.out.bel H0.out
          obtain ⟨x, hx⟩ : ∃ x, at_ r j = x := ⟨_, rfl⟩
          obtain ⟨y, hy⟩ : ∃ y, at_ r 0 = y := ⟨_, rfl⟩
          have HXY : Hid (at_ r j = x ∧ at_ r 0 = y) := ⟨hx, hy⟩
          obtain ⟨c0, c1⟩ := hcs j hjl
          obtain ⟨d0, d1⟩ := hcs 0 H0.out
          rw [hx] at c0 c1
          rw [hy] at d0 d1
          clear hx hy hcs
          obtain ⟨x0, x1⟩ := x
          obtain ⟨y0, y1⟩ := y
          simp only [Nat.zero_mul, Nat.add_zero] at c0 c1 d0 d1
          have HZ1 := Lib.hid ((Below.refl wi.heap.size wi).alloc (Nat.le_refl _) (.cells #[.int .i64 x0, .int .i64 x1] 36))
          have hbl : b < wi.heap.size := cell_lt c0
          by_cases e0 : x0 = y0
          · subst e0
            by_cases e1 : x1 = y1
            · subst e1
              have HQ2 : Hid (∀ t, t < j + 1 → at_ r t = at_ r 0) := fun t ht => by
                by_cases e : t = j
                · subst e; rw [HXY.out.1, HXY.out.2]
                · exact HQ.out t (by omega)
              have HI2 := Lib.hid (fun q => (HI.out.keep HZ1.out).drewN q)
              clear hjk
              go_wp2_with fail
              go_quiet (fail)
              go_wp2_with fail
              go_roundg (r.length - (j + 1))
              case measure => have := HJK.out; omega
              case rel => exact ⟨rfl, rfl, j + 1, by omega, by go_num, HI2.out nq, HQ2⟩
            · have en : (x1 == y1) = false := by rw [beq_eq_false_iff_ne]; exact e1
              have HNE : Hid (at_ r j ≠ at_ r 0 ∧ 1 ≤ j) := by
                have h : at_ r j ≠ at_ r 0 := fun h => by
                  rw [HXY.out.1, HXY.out.2] at h
                  cases h
                  exact e1 rfl
                refine ⟨h, ?_⟩
                by_cases hj0 : j = 0
                · subst hj0; exact absurd rfl h
                · omega
              clear hjk
              go_wp2_with fail
              go_quiet (fail)
              have HX := Lib.hid ((HI.out.keep HZ1.out).drewN nq)
              obtain ⟨off', e, hcs⟩ := HX.out.see _ HX.out.bel H0.out
              cases e
              obtain ⟨f0, f1⟩ := hcs 0 H0.out
              rw [HXY.out.2] at f0 f1
              simp only [Nat.zero_mul, Nat.add_zero] at f0 f1
              clear c0 c1 d0 d1 hcs hbl
              generalize (wi.alloc (.cells #[.int .i64 x0, .int .i64 x1] 36)).drewN nq = X at *
              have hc1 : ¬ cp2 - j = 0 := by have := HC2.out; omega
              have hc2 : (j : Int) < (cp2 : Int) := by have := HC2.out; omega
              have hc3 : ¬ cp2 = j := by omega
              have hc4 : ¬ cp2 ≤ j := by omega
              have hbx : b < X.heap.size := cell_lt f0
              have HZX := Lib.hid ((Below.refl X.heap.size X).alloc (Nat.le_refl _) (.cells #[.int .i64 x0, .int .i64 y1, .int .i64 (j : Int)] 76))
              go_wp2_with (first | (refine wpList_append_lies _ rfl (.tmp 21) (.tmp 27) 73 rfl w.heap.size 76 i0 _ 3 24 Tryd.underlying73 hi hz0 hz1 hz2 rfl (by decide) (.slice A' R.length c') R.length (flatR R) rfl (own_below HX.out.own HZX.out) ⟨_, 0, none⟩ 1 1 [.int .i64 x0, .int .i64 y1, .int .i64 (j : Int)] rfl rfl (news3 _ _ _ _ _ _ rfl) (flatR_one [(⟨x0, y1⟩, j)]) (by omega) (by have := HRl.out; unfold maxLen; omega) (by have := HRl.out; omega) (by have := HX.out.bel.size; rw [size_al]; omega) _ rfl ?_; intro g1 cap1 w3 hO2 hG2 _ _; have HA := Lib.hid (own_app (e := ⟨x0, y1⟩) (j := j) HX.out.own HX.out.bel HZX.out hO2 hG2); clear hO2 hG2))
              go_roundg (r.length - j)
              case measure => have := HNE.out.2; omega
              case rel =>
                refine ⟨some ⟨b, off + j * 2, none⟩, cp2 - j, r.drop j, some ⟨g1, 0, none⟩, cap1, R ++ [(⟨x0, y1⟩, j)], by first | rfl | simp, by simp, ⟨by simp, by have := HC2.out; omega⟩, ?_⟩
                have h := Rn.next (g := g1) (cap := cap1) (y := w3) HX.out H0.out HQ.out HNE.out.2 hjl HNE.out.1 (by rw [HXY.out.2]; exact HA.out.1) HA.out.2 off rfl
                rw [HXY.out.2] at h
                exact h
          · have en : (x0 == y0) = false := by rw [beq_eq_false_iff_ne]; exact e0
            have HNE : Hid (at_ r j ≠ at_ r 0 ∧ 1 ≤ j) := by
              have h : at_ r j ≠ at_ r 0 := fun h => by
                rw [HXY.out.1, HXY.out.2] at h
                cases h
                exact e0 rfl
              refine ⟨h, ?_⟩
              by_cases hj0 : j = 0
              · subst hj0; exact absurd rfl h
              · omega
            clear hjk
            go_wp2_with fail
            go_quiet (fail)
            have HX := Lib.hid ((HI.out.keep HZ1.out).drewN nq)
            obtain ⟨off', e, hcs⟩ := HX.out.see _ HX.out.bel H0.out
            cases e
            obtain ⟨f0, f1⟩ := hcs 0 H0.out
            rw [HXY.out.2] at f0 f1
            simp only [Nat.zero_mul, Nat.add_zero] at f0 f1
            clear c0 c1 d0 d1 hcs hbl
            generalize (wi.alloc (.cells #[.int .i64 x0, .int .i64 x1] 36)).drewN nq = X at *
            have hc1 : ¬ cp2 - j = 0 := by have := HC2.out; omega
            have hc2 : (j : Int) < (cp2 : Int) := by have := HC2.out; omega
            have hc3 : ¬ cp2 = j := by omega
            have hc4 : ¬ cp2 ≤ j := by omega
            have hbx : b < X.heap.size := cell_lt f0
            have HZX := Lib.hid ((Below.refl X.heap.size X).alloc (Nat.le_refl _) (.cells #[.int .i64 y0, .int .i64 y1, .int .i64 (j : Int)] 76))
            go_wp2_with (first | (refine wpList_append_lies _ rfl (.tmp 21) (.tmp 27) 73 rfl w.heap.size 76 i0 _ 3 24 Tryd.underlying73 hi hz0 hz1 hz2 rfl (by decide) (.slice A' R.length c') R.length (flatR R) rfl (own_below HX.out.own HZX.out) ⟨_, 0, none⟩ 1 1 [.int .i64 y0, .int .i64 y1, .int .i64 (j : Int)] rfl rfl (news3 _ _ _ _ _ _ rfl) (flatR_one [(⟨y0, y1⟩, j)]) (by omega) (by have := HRl.out; unfold maxLen; omega) (by have := HRl.out; omega) (by have := HX.out.bel.size; rw [size_al]; omega) _ rfl ?_; intro g1 cap1 w3 hO2 hG2 _ _; have HA := Lib.hid (own_app (e := ⟨y0, y1⟩) (j := j) HX.out.own HX.out.bel HZX.out hO2 hG2); clear hO2 hG2))
            go_roundg (r.length - j)
            case measure => have := HNE.out.2; omega
            case rel =>
              refine ⟨some ⟨b, off + j * 2, none⟩, cp2 - j, r.drop j, some ⟨g1, 0, none⟩, cap1, R ++ [(⟨y0, y1⟩, j)], by first | rfl | simp, by simp, ⟨by simp, by have := HC2.out; omega⟩, ?_⟩
              have h := Rn.next (g := g1) (cap := cap1) (y := w3) HX.out H0.out HQ.out HNE.out.2 hjl HNE.out.1 (by rw [HXY.out.2]; exact HA.out.1) HA.out.2 off rfl
              rw [HXY.out.2] at h
              exact h
        · obtain rfl : j = r.length := by omega
          have hji : ¬ (r.length : Int) < (r.length : Int) := by omega
          obtain ⟨off, rfl, hcs⟩ := HI.out.see wi HI.out.bel H0.out
          obtain ⟨⟨y0, y1⟩, hy⟩ : ∃ y, at_ r 0 = y := ⟨_, rfl⟩
          obtain ⟨d0, d1⟩ := hcs 0 H0.out
          rw [hy] at d0 d1
          simp only [Nat.zero_mul, Nat.add_zero] at d0 d1
          have HG := Lib.hid (HI.out.last H0.out HQ.out)
          rw [hy] at HG
          clear hy hcs hjk
          have hbl : b < wi.heap.size := cell_lt d0
          have HZX := Lib.hid ((Below.refl wi.heap.size wi).alloc (Nat.le_refl _) (.cells #[.int .i64 y0, .int .i64 y1, .int .i64 (r.length : Int)] 76))
          go_wp2_with (first | (refine wpList_append_lies _ rfl (.tmp 33) (.tmp 40) 73 rfl w.heap.size 76 i0 _ 3 24 Tryd.underlying73 hi hz0 hz1 hz2 rfl (by decide) (.slice A' R.length c') R.length (flatR R) rfl (own_below HI.out.own HZX.out) ⟨_, 0, none⟩ 1 1 [.int .i64 y0, .int .i64 y1, .int .i64 (r.length : Int)] rfl rfl (news3 _ _ _ _ _ _ rfl) (flatR_one [(⟨y0, y1⟩, r.length)]) (by omega) (by have := HRl.out; unfold maxLen; omega) (by have := HRl.out; omega) (by have := HI.out.bel.size; rw [size_al]; omega) _ rfl ?_; intro g1 cap1 w3 hO2 hG2 _ _; have HA := Lib.hid (own_app (e := ⟨y0, y1⟩) (j := r.length) HI.out.own HI.out.bel HZX.out hO2 hG2); clear hO2 hG2))
          try rw [Exit.noGoto_ret]
          go_ret
          rw [HG.out]
          exact ⟨some ⟨g1, 0, none⟩, cap1, by simp, HA.out.1, HA.out.2⟩
end Go.Proofs.YtemdhcegelddlaaDoor
