/- The law ScriptForm. -/
import Derived.Test.YtemdhcegelddlaaDoorH8
namespace Go.Proofs.YtemdhcegelddlaaDoor
open Go Go.RowKit
set_option linter.unusedVariables false
set_option linter.unusedSimpArgs false

theorem tm4 (u : Nat) : ∃ q : Nat, q ≤ 3 ∧ Int.tmod (u : Int) 4 = (q : Int) := ⟨u % 4, by omega, by rw [Int.tmod_eq_emod_of_nonneg (by omega)]; omega⟩
/-- the entries gathered, m of them at most -/
structure Fm (w x : World) (O : List En) (A : Option Addr) (c m : Nat) : Prop where
  own : x.ownsRow w.heap.size 36 2 (.slice A O.length c) O.length (flat O)
  bel : Below w.heap.size w x
  ok : oksS O
  len : O.length ≤ m
theorem Fm.keep {w x y : World} {O : List En} {A : Option Addr} {c m : Nat} (h : Fm w x O A c m) (hb : Below x.heap.size x y) : Fm w y O A c m :=
  ⟨own_below h.own hb, h.bel.trans (hb.mono h.bel.size), h.ok, h.len⟩
theorem Fm.next {w x Z y : World} {O : List En} {A : Option Addr} {c m g cap : Nat} {e : En} (h : Fm w x O A c m) (he : e.ok) (hz : Below x.heap.size x Z)
    (hO : y.ownsRow w.heap.size 36 2 (.slice (some ⟨g, 0, none⟩) (O.length + 1) cap) (O.length + 1) (flat O ++ [.int .i64 e.k, .int .i64 e.w])) (hG : Z.grownBy y (Value.slice A O.length c).ownBlock) :
    Fm w y (O ++ [e]) (some ⟨g, 0, none⟩) cap (m + 1) := by
  have hlow := h.own.lt
  have s1 := hz.size
  have s2 := hG.size
  have s3 := h.bel.size
  have hbel := h.bel
  refine ⟨?_, ⟨hG.os.trans (hz.os.trans hbel.os), hG.tape.trans (hz.tape.trans hbel.tape), hG.output.trans (hz.output.trans hbel.output), by omega, fun i hi => ?_⟩, ?_, ?_⟩
  · rw [flat_app, List.length_append]
    exact hO
  · exact (hG.block i (by omega) (fun e => by have := (hlow i e.symm).1; omega)).trans ((hz.block i (by omega)).trans (hbel.block i hi))
  · intro x hx
    rcases List.mem_append.1 hx with hx | hx
    · exact h.ok x hx
    · rw [List.mem_singleton] at hx; subst hx; exact he
  · have := h.len
    simp; omega

set_option maxRecDepth 100000 in
theorem lawForm_big (w : World) (hT : Tab w) (A : Option Addr) (cp n : Nat) (u : Int) (h : 200 < n) : Calls Tryd.prog 5 #[.slice A n cp, .int .u8 u] w fun e w' => e = .returned (.bool true) ∧ Below w.heap.size w w' := by
  have HA := Lib.hid (awake_any w hT)
  clear hT
  have h1i : (200 : Int) < (n : Int) := by omega
  go_enter Tryd.func5, Tryd.ntmps5
  go_wp2_with fail
  go_at_call 11
  refine HA.out.mono ?_
  rintro e w1 ⟨rfl, hb⟩
  go_wp2
  go_ret
  exact ⟨rfl, hb⟩

set_option maxRecDepth 100000 in
set_option maxHeartbeats 8000000 in
theorem lawForm_any (w : World) (hT : Tab w) (b : Nat) (A : Option Addr) (cp : Nat) (l : List En) (n : Nat) (hn : l.length = n) (hl : n ≤ 200) (hs : Sees w b A l) (u : Int) (hu : 0 ≤ u ∧ u ≤ 255) : Calls Tryd.prog 5 #[.slice A n cp, .int .u8 u] w fun e w' => e = .returned (.bool true) ∧ Below w.heap.size w w' := by
  obtain ⟨i0, hi, hz0, hz1, hz2⟩ := info_parts info36
  have HN := Lib.hid hn
  have HL := Lib.hid hl
  have HS := Lib.hid (fun (X : World) (hb : Below w.heap.size w X) => hs.below hb)
  have HTT := Lib.hid (fun (X : World) (hb : Below w.heap.size w X) => hT.below hb hT.size)
  have HA := Lib.hid (fun (x : World) (hx : Below w.heap.size w x) => awake_any x (HTT.out x hx))
  have h1i : ¬ (200 : Int) < (n : Int) := by omega
  obtain ⟨u, rfl⟩ := Int.eq_ofNat_of_zero_le hu.1
  have hwu : IntKind.i64.wrap (u : Int) = (u : Int) := IntWalk.i64_in _ (by omega)
  have hwu2 : wrap64 (u : Int) = (u : Int) := by unfold wrap64; omega
  obtain ⟨q, hq3, hq⟩ := tm4 u
  have HQ3 := Lib.hid hq3
  clear hs hn hT hl hu hq3
  go_enter Tryd.func5, Tryd.ntmps5
  go_wp2_with fail
  go_loopg [5, 6] n (fun m o i wx => ∃ (k : Nat) (O : List En) (Ao : Option Addr) (co : Nat), m + k = n ∧ i = .int .i64 (k : Int) ∧ o = .slice Ao O.length co ∧ Hid (Fm w wx O Ao co (4 * k)))
  case atStart => exact ⟨0, [], none, 0, by omega, rfl, rfl, ⟨World.ownsRow_nil _ _ _ _, Below.refl _ _, fun x hx => by simp at hx, by simp⟩⟩
  case round =>
    obtain ⟨k, O, Ao, co, hmk, rfl, rfl, HF⟩ := hrel
    have HMK := Lib.hid hmk
    by_cases hlt : k < n
    · have hki : (k : Int) < (n : Int) := by omega
      have HKL : Hid (k < l.length) := by show k < _; rw [HN.out]; exact hlt
      obtain ⟨off, rfl, hcs⟩ := HS.out wr HF.out.bel (by have := HKL.out; omega)
      obtain ⟨⟨x0, x1⟩, hx⟩ : ∃ x, at_ l k = x := ⟨_, rfl⟩
      obtain ⟨c0, c1⟩ := hcs k HKL.out
      rw [hx] at c0 c1
      dsimp only at c0 c1
      have HR : Hid (∀ y, Calls Tryd.prog 13 #[.agg #[.int .i64 x0, .int .i64 x1], .int .i64 256] y fun r w' => r = .returned (.bool (decide (En.ok ⟨x0, x1⟩))) ∧ Below y.heap.size y w') := fun y => rright_any ⟨x0, x1⟩ y
      have HX := Lib.hid hx
      clear hx hcs hmk
      by_cases hok : En.ok ⟨x0, x1⟩
      · rw [decide_eq_true hok] at HR
        have HOK := Lib.hid hok
        clear hok
        go_wp2_with fail
        go_at_call 13
        refine (HR.out _).mono ?_
        rintro e w2 ⟨rfl, hb2⟩
        have HF2 := Lib.hid (HF.out.keep hb2)
        clear c0 c1 hb2 HR HF
        go_wp2_with fail
        go_loopg [5, 7] (q + 1) (fun m o jv wx => ∃ (j : Nat) (O : List En) (Ao : Option Addr) (co : Nat), m + j = q + 1 ∧ jv = .int .i64 (j : Int) ∧ o = .slice Ao O.length co ∧ Hid (Fm w wx O Ao co (4 * k + j)))
        case atStart => exact ⟨0, O, Ao, co, by omega, rfl, rfl, HF2⟩
        case round =>
          clear HF2
          obtain ⟨j, O, Ao, co, hmj, rfl, rfl, HF⟩ := hrel
          have HMJ := Lib.hid hmj
          clear hmj
          by_cases hjl : j ≤ q
          · have hji : (j : Int) ≤ (q : Int) := by omega
            have hjb : (j : Int) < 100000 := by have := HQ3.out; omega
            obtain ⟨off', e, hcs⟩ := HS.out wr HF.out.bel (by have := HKL.out; omega)
            cases e
            obtain ⟨c0, c1⟩ := hcs k HKL.out
            rw [HX.out] at c0 c1
            dsimp only at c0 c1
            clear hcs
            have HZX := Lib.hid ((Below.refl wr.heap.size wr).alloc (Nat.le_refl _) (.cells #[.int .i64 x0, .int .i64 x1] 36))
            have HLE : Hid (O.length ≤ 1000) := by have h1 := HF.out.len; have h2 := HL.out; have h3 := HQ3.out; show _ ≤ _; omega
            go_wp2_with (first | (refine wpList_append_lies _ rfl (.tmp 34) (.tmp 39) 33 rfl w.heap.size 36 i0 _ 2 16 Tryd.underlying33 hi hz0 hz1 hz2 rfl (by decide) (.slice Ao O.length co) O.length (flat O) rfl (own_below HF.out.own HZX.out) ⟨_, 0, none⟩ 1 1 [.int .i64 x0, .int .i64 x1] rfl rfl (news2 _ _ _ _ _ rfl) (flat_one [⟨x0, x1⟩]) (by omega) (by have := HLE.out; unfold maxLen; omega) (by have := HLE.out; omega) (by have := HF.out.bel.size; rw [size_al]; omega) _ rfl ?_; intro g1 cap1 w3 hO2 hG2 _ _; have HA2 := Lib.hid (HF.out.next (e := ⟨x0, x1⟩) HOK.out HZX.out hO2 hG2); clear hO2 hG2))
            go_roundg (q - j)
            case measure => have := HMJ.out; omega
            case rel => exact ⟨j + 1, O ++ [⟨x0, x1⟩], some ⟨g1, 0, none⟩, cap1, by omega, by go_num, by simp, HA2⟩
          · have hji : ¬ (j : Int) ≤ (q : Int) := by omega
            have HF3 : Hid (Fm w wr O Ao co (4 * (k + 1))) := ⟨HF.out.own, HF.out.bel, HF.out.ok, by have h1 := HF.out.len; have h2 := HMJ.out; have h3 := HQ3.out; omega⟩
            go_wp2_with fail
            go_roundg (n - (k + 1))
            case measure => have := HMK.out; omega
            case rel => exact ⟨k + 1, O, Ao, co, by omega, by go_num, rfl, HF3⟩
      · rw [decide_eq_false hok] at HR
        clear hok
        go_wp2_with fail
        go_at_call 13
        refine (HR.out _).mono ?_
        rintro e w2 ⟨rfl, hb2⟩
        have HB2 := Lib.hid (HF.out.bel.trans (hb2.mono HF.out.bel.size))
        clear c0 c1 hb2 HR HF
        go_wp2_with fail
        go_at_call 11
        refine (HA.out _ HB2.out).mono ?_
        rintro e w3 ⟨rfl, hb⟩
        have HB3 := Lib.hid (HB2.out.trans (hb.mono HB2.out.size))
        go_wp2_with fail
        go_ret
        exact ⟨rfl, HB3.out⟩
    · obtain rfl : k = n := by omega
      have hki : ¬ (k : Int) < (k : Int) := by omega
      have HOL : Hid (O.length ≤ 800) := by have h1 := HF.out.len; have h2 := HL.out; show _ ≤ _; omega
      obtain ⟨gg, -, hsO⟩ := row_sees HF.out.own
      have HRW := Lib.hid (rwrite_any wr gg Ao co O O.length rfl (by have := HOL.out; omega) hsO HF.out.ok)
      have hwl := wrS_len HF.out.ok (by have := HOL.out; omega)
      have HRDT := Lib.hid (rdS_wr HF.out.ok (by have := HOL.out; omega))
      have HRD := Lib.hid (fun (y : World) (hy : Tab y) => read_any (wrS O) (by have := HOL.out; omega) y hy)
      have HOS := Lib.hid (fun (X : World) (hb : Below wr.heap.size wr X) => own_below HF.out.own hb)
      obtain ⟨S, hS⟩ : ∃ X, bA (wrS O) = X := ⟨_, rfl⟩
      rw [hS] at HRW HRD
      clear hS hwl hsO
      go_wp2_with fail
      go_at_call 16
      refine HRW.out.mono ?_
      rintro e w1 ⟨rfl, hb1⟩
      have HB1 := Lib.hid (HF.out.bel.trans (hb1.mono HF.out.bel.size))
      have HC1 := Lib.hid hb1
      clear hb1 HRW
      go_wp2_with fail
      go_at_call 15
      refine (HRD.out _ (HTT.out _ HB1.out)).mono ?_
      rintro e w2 ⟨hb, (⟨m, A2, c2, hm, rfl, how⟩ | ⟨hm, rfl⟩)⟩
      case inr => rw [HRDT.out] at hm; cases hm
      rw [HRDT.out] at hm
      cases hm
      have HB2 := Lib.hid (HB1.out.trans (hb.mono HB1.out.size))
      have HC2 := Lib.hid (HC1.out.trans (hb.mono HC1.out.size))
      have HO2 := Lib.hid how
      clear hb HRD HRDT how
      go_wp2_with fail
      go_at_call 11
      refine (HA.out _ HB2.out).mono ?_
      rintro e w3 ⟨rfl, hb⟩
      have HB3 := Lib.hid (HB2.out.trans (hb.mono HB2.out.size))
      have HC3 := Lib.hid (HC2.out.trans (hb.mono HC2.out.size))
      have HO3 := Lib.hid (own_below HO2.out hb)
      clear hb HA HO2
      have HSA : Hid (Calls Tryd.prog 17 #[.slice A2 O.length c2, .slice Ao O.length co] w3 fun e w' => e = .returned (.bool true) ∧ Below w.heap.size w w') := by
        obtain ⟨ga, -, hs1⟩ := row_sees HO3.out
        obtain ⟨gb, -, hs2⟩ := row_sees (HOS.out _ HC3.out)
        have h := same_any w3 ga gb A2 Ao c2 co O O O.length O.length rfl rfl (by have := HOL.out; omega) (by have := HOL.out; omega) hs1 hs2
        refine h.mono ?_
        rintro e w' ⟨rfl, m, rfl⟩
        exact ⟨by simp, ⟨HB3.out.os, HB3.out.tape, HB3.out.output, HB3.out.size, HB3.out.block⟩⟩
      clear HO3 HOS
      go_wp2_with fail
      go_at_call 17
      refine HSA.out.mono ?_
      rintro e w7 ⟨rfl, hb⟩
      go_wp2_with fail
      go_ret
      exact ⟨rfl, hb⟩
end Go.Proofs.YtemdhcegelddlaaDoor
