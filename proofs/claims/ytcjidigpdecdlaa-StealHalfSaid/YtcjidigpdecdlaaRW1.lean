/- The words of a ring, and its goroutines, as they are seen. -/
import Derived.Test.YtcjidigpdecdlaaRg0
import Derived.Test.YtcjidigpdecdlaaGg0
import Derived.Maps.OwnSet
import Derived.Maps.AppendAt
import Derived.OwnWalk
import Derived.Laws.Cover1
namespace Go.Proofs.Ytcjidigpdecdlaa
open Go Go.RowKit Go.Maps
set_option linter.unusedVariables false
set_option maxRecDepth 100000
set_option linter.unusedSimpArgs false

theorem rsf_bd {w : World} {T : TypeId} {A : Option Addr} {cap c b n : Nat} {s : St} (h : Is w T A cap c b n s) (i : Int) : 0 ≤ peekT n s i ∧ peekT n s i ≤ 18446744073709551615 := by
  unfold peekT
  split
  · exact h.bd _ (by omega)
  · omega
theorem rsee_any (w : World) (cl : Nat) (P T G p : Int) (A : Option Addr) (cap c b n : Nat) (s : St) (hL : Lay w cl P T G) (hp : 0 ≤ P ∧ P ≤ 64) (hI : Is w 81 A cap c b n s) (hn : n ≤ 1000000) :
    Calls Try.prog 17 #[.pointer (some ⟨cl, 0, none⟩), .pointer (some ⟨c, 0, none⟩), .int .i64 p] w fun e w' => e = .returned (.tuple #[.int .u64 (peekT n s (wd 20 P 264 p 1)), .int .u64 ((peekT n s (wd 20 P 264 p 2) - peekT n s (wd 20 P 264 p 1)) % 4294967296), .int .u64 (peekT n s (wd 20 P 264 p 3))]) ∧ Below w.heap.size w w' := by
  have h1 := fun Y (hY : Lay Y cl P T G) => lprc_any (some ⟨cl, 0, none⟩) P T G p 1 Y (.some cl hY) hp (by omega)
  have h2 := fun Y (hY : Lay Y cl P T G) => lprc_any (some ⟨cl, 0, none⟩) P T G p 2 Y (.some cl hY) hp (by omega)
  have h3 := fun Y (hY : Lay Y cl P T G) => lprc_any (some ⟨cl, 0, none⟩) P T G p 3 Y (.some cl hY) hp (by omega)
  have HL : Hid (∀ Y, Below w.heap.size w Y → Lay Y cl P T G) := fun Y hY => hL.below hY hL.lt
  have HI : Hid (∀ Y, Below w.heap.size w Y → Is Y 81 A cap c b n s) := fun Y hY => hI.below hY
  have b1 := rsf_bd hI (wd 20 P 264 p 1)
  have b2 := rsf_bd hI (wd 20 P 264 p 2)
  generalize wd 20 P 264 p 1 = i1 at *
  generalize wd 20 P 264 p 2 = i2 at *
  generalize wd 20 P 264 p 3 = i3 at *
  have hM := fun w => mny_any (peekT n s i1) (peekT n s i2) w b1 b2
  have P1 := fun Y (h : Is Y 81 A cap c b n s) => peek_any Y A cap c b n s i1 h hn
  have P2 := fun Y (h : Is Y 81 A cap c b n s) => peek_any Y A cap c b n s i2 h hn
  have P3 := fun Y (h : Is Y 81 A cap c b n s) => peek_any Y A cap c b n s i3 h hn
  clear hL hI b1 b2
  generalize peekT n s i1 = v1 at *
  generalize peekT n s i2 = v2 at *
  generalize peekT n s i3 = v3 at *
  go_enter Try.func17, Try.ntmps17
  go_wp2_with fail
  go_at_call 22; refine (h1 w (HL.out w (Below.refl _ _))).mono ?_; rintro e w1 ⟨rfl, k1⟩
  go_wp2_with fail
  go_at_call 18; refine (P1 w1 (HI.out w1 k1)).mono ?_; rintro e w2 ⟨rfl, rfl⟩
  go_wp2_with fail
  go_at_call 22; refine (h2 w1 (HL.out w1 k1)).mono ?_; rintro e w3 ⟨rfl, k3⟩
  have k3' := seq k1 k3
  go_wp2_with fail
  go_at_call 18; refine (P2 w3 (HI.out w3 k3')).mono ?_; rintro e w4 ⟨rfl, rfl⟩
  go_wp2_with fail
  go_at_call 22; refine (h3 w3 (HL.out w3 k3')).mono ?_; rintro e w5 ⟨rfl, k5⟩
  have k5' := seq k3' k5
  go_wp2_with fail
  go_at_call 18; refine (P3 w5 (HI.out w5 k5')).mono ?_; rintro e w6 ⟨rfl, rfl⟩
  go_wp2_with fail
  go_at_call 31; refine (hM w5).mono ?_; rintro e w7 ⟨rfl, rfl⟩
  clear h1 h2 h3 P1 P2 P3 hM
  go_wp2_with fail
  go_returns
  exact ⟨rfl, k5'⟩

/-- A list of words that the call made. -/
structure WordsOn (w : World) (base : Nat) (v : Value) (l : List Int) : Prop where
  own : w.ownsRow base 27 1 v l.length (l.map (Value.int .u64))
theorem WordsOn.below {w w' : World} {base : Nat} {v : Value} {l : List Int} (h : WordsOn w base v l) (hB : Below w.heap.size w w') : WordsOn w' base v l := by
  refine ⟨h.own.1, ?_⟩
  rcases h.own.2 with h0 | ⟨gb, cp, cur, e0, hb, hh, rest⟩
  · exact .inl h0
  · exact .inr ⟨gb, cp, cur, e0, hb, ((But.of_below (l := []) hB).block gb (block_lt hh) (by simp)).trans hh, rest⟩
theorem make_cap (k : Nat) (hk : k ≤ 1000000) (w : World) : (Instr.makeSlice 38 (.int .i64 0) (.int .u64 k)).run Try.prog w = .ok (.slice (some ⟨w.heap.size, 0, none⟩) 0 k) (w.alloc (.cells (zs k) 27)) := by
  obtain ⟨i0, hi, hz0, hz1, hz2⟩ := info_parts info27
  have := run_make (P := Try.prog) w 38 27 i0 (.int .u64 0) Try.underlying38 hi hz0 .i64 .u64 0 k (by omega) (by omega) (by rw [hz2]; omega) (by omega)
  rw [hz1] at this
  simpa [zs, Value.cells] using this
/-- The word at one place of a ring. -/
def rwAt (P p : Int) (n : Nat) (s : St) (h : Int) (i : Nat) : Int := peekT n s (wd 20 P 264 p (8 + IntKind.u64.wrap (h + i) % 256))
def rwL (P p : Int) (n : Nat) (s : St) (h : Int) (k : Nat) : List Int := (List.range k).map (rwAt P p n s h)
theorem rwL_succ (P p : Int) (n : Nat) (s : St) (h : Int) (k : Nat) : rwL P p n s h (k + 1) = rwL P p n s h k ++ [rwAt P p n s h k] := by unfold rwL; rw [List.range_succ, List.map_append]; rfl
theorem rwL_len (P p : Int) (n : Nat) (s : St) (h : Int) (k : Nat) : (rwL P p n s h k).length = k := by unfold rwL; simp
def rMany (P p : Int) (n : Nat) (s : St) : Int := (peekT n s (wd 20 P 264 p 2) - peekT n s (wd 20 P 264 p 1)) % 4294967296
def rK (P p : Int) (n : Nat) (s : St) : Nat := if rMany P p n s ≤ 256 then (rMany P p n s).toNat else 256
set_option maxHeartbeats 4000000 in
theorem rwords_any (w : World) (cl : Nat) (P T G p : Int) (A : Option Addr) (cap c b n : Nat) (s : St) (hL : Lay w cl P T G) (hp : 0 ≤ P ∧ P ≤ 64) (hI : Is w 81 A cap c b n s) (hn : n ≤ 1000000) :
    Calls Try.prog 5 #[.pointer (some ⟨cl, 0, none⟩), .pointer (some ⟨c, 0, none⟩), .int .i64 p] w fun e w' => ∃ v, e = .returned (.tuple #[v, .int .u64 (peekT n s (wd 20 P 264 p 3))]) ∧ WordsOn w' w.heap.size v (rwL P p n s (peekT n s (wd 20 P 264 p 1)) (rK P p n s)) ∧ Below w.heap.size w w' := by
  obtain ⟨i0, hi, hz0, hz1, hz2⟩ := info_parts info27
  have hS := rsee_any w cl P T G p A cap c b n s hL hp hI hn
  have HL : Hid (∀ Y, Below w.heap.size w Y → Lay Y cl P T G) := fun Y hY => hL.below hY hL.lt
  have HI : Hid (∀ Y, Below w.heap.size w Y → Is Y 81 A cap c b n s) := fun Y hY => hI.below hY
  have HRG : Hid (∀ Y, Below w.heap.size w Y → ∀ i, 0 ≤ i ∧ i ≤ 18446744073709551615 → Calls Try.prog 19 #[.pointer (some ⟨cl, 0, none⟩), .int .i64 p, .int .u64 i] Y fun e w' => e = .returned (.int .i64 (wd 20 P 264 p (8 + i % 256))) ∧ Below Y.heap.size Y w') := fun Y hY i hi => lrng_any (some ⟨cl, 0, none⟩) P T G p i Y (.some cl (HL.out Y hY)) hp hi
  have HPK : Hid (∀ Y, Below w.heap.size w Y → ∀ i, Calls Try.prog 18 #[.pointer (some ⟨c, 0, none⟩), .int .i64 i] Y fun e w' => e = .returned (.tuple #[.int .u64 (peekT n s i), .bool (decide (0 ≤ i ∧ i < n))]) ∧ Y = w') := fun Y hY i => peek_any Y A cap c b n s i (HI.out Y hY) hn
  have hmk := fun k (hk : k ≤ 256) w => make_cap k (by omega) w
  have HK : Hid ((rK P p n s : Int) = if rMany P p n s ≤ 256 then rMany P p n s else 256) := by
    have h0 : 0 ≤ rMany P p n s := Int.emod_nonneg _ (by omega)
    show ((rK P p n s : Nat) : Int) = _
    unfold rK
    split <;> omega
  have HKB : Hid (rK P p n s ≤ 256) := by
    have h0 : 0 ≤ rMany P p n s := Int.emod_nonneg _ (by omega)
    show rK P p n s ≤ 256
    unfold rK
    split <;> omega
  rw [show (peekT n s (wd 20 P 264 p 2) - peekT n s (wd 20 P 264 p 1)) % 4294967296 = rMany P p n s from rfl] at hS
  generalize peekT n s (wd 20 P 264 p 1) = hh at *
  generalize peekT n s (wd 20 P 264 p 3) = nn at *
  generalize rMany P p n s = mm at *
  generalize rK P p n s = k at *
  clear hL hI
  go_enter Try.func5, Try.ntmps5
  go_wp2_with fail
  go_at_call 17; refine hS.mono ?_; rintro e w1 ⟨rfl, h1⟩
  have HB1 : Hid (Below w.heap.size w w1) := h1
  clear hS h1
  by_cases hm : mm ≤ 256
  · obtain rfl : mm = (k : Int) := by have := HK.out; rw [if_pos hm] at this; exact this.symm
    have hd : decide (256 < (k : Int)) = false := decide_eq_false (by omega)
    have hmk2 := hmk k HKB.out w1
    go_wp2_with fail
    have hB2 : Below w.heap.size w (w1.alloc (.cells (zs k) 27)) := HB1.out.trans (((Below.refl _ _).alloc (Nat.le_refl _) _).mono HB1.out.size)
    have HR0 : Hid (WordsOn (w1.alloc (.cells (zs k) 27)) w.heap.size (.slice (some ⟨w1.heap.size, 0, none⟩) 0 k) (rwL P p n s hh 0)) := ⟨World.ownsRow_made w1 (zs k) k HB1.out.size (by unfold maxLen; omega) (by rw [Nat.mul_one]; exact size_madeCells _ _)⟩
    have HB2 : Hid (Below w.heap.size w (w1.alloc (.cells (zs k) 27))) := hB2
    generalize w1.alloc (.cells (zs k) 27) = w2 at *
    clear hmk2 hB2 HB1
    go_loopw [11, 28] (fun vv i wr => ∃ (j : Nat) (v : Value), v = vv ∧ j ≤ k ∧ i = .int .u64 j ∧ Hid (WordsOn wr w.heap.size v (rwL P p n s hh j)) ∧ Hid (Below w.heap.size w wr)) (fun vv i _ => k - (intOf i).toNat)
    case atStart => exact ⟨0, _, rfl, Nat.zero_le _, rfl, HR0, HB2⟩
    case round =>
      clear HR0 HB2
      obtain ⟨j, v, rfl, hj, rfl, HV, HB⟩ := hrel
      by_cases hlt : j < k
      · have hk1 : (j : Int) < (k : Int) := by omega
        have hk2 : decide ((j : Int) < (k : Int)) = true := decide_eq_true (by omega)
        obtain ⟨z, hz⟩ : ∃ z, IntKind.u64.wrap (hh + j) = z := ⟨_, rfl⟩
        have hzb : 0 ≤ z ∧ z ≤ 18446744073709551615 := by rw [← hz]; generalize hh + (j : Int) = y; simp [IntKind.wrap, IntKind.bits, IntKind.signed]; omega
        have hR := HRG.out wr HB.out z hzb
        have HX : Hid (rwAt P p n s hh j = peekT n s (wd 20 P 264 p (8 + z % 256))) := by
          show rwAt P p n s hh j = _
          unfold rwAt
          rw [hz]
        go_wp2_with fail
        go_at_call 19; refine hR.mono ?_; rintro e w3 ⟨rfl, h3⟩
        have HB3 : Hid (Below w.heap.size w w3) := seq HB.out h3
        have hP := HPK.out w3 HB3.out (wd 20 P 264 p (8 + z % 256))
        have HV3 : Hid (WordsOn w3 w.heap.size v (rwL P p n s hh j)) := HV.out.below h3
        generalize decide (0 ≤ wd 20 P 264 p (8 + z % 256) ∧ wd 20 P 264 p (8 + z % 256) < n) = zz at *
        rw [← HX.out] at hP
        generalize wd 20 P 264 p (8 + z % 256) = at' at *
        generalize hgw : rwAt P p n s hh j = gv at *
        have HGW : Hid (rwAt P p n s hh j = gv) := hgw
        clear hR h3 HB HV hgw
        go_wp2_with fail
        go_at_call 18; refine hP.mono ?_; rintro e w4 ⟨rfl, rfl⟩
        have hOO := HV3.out.own
        rw [rwL_len] at hOO
        have hsz := HB3.out.size
        clear hP
        go_wp2_with (at_builtin; refine wpList_append_own _ rfl _ _ 38 rfl w.heap.size 27 i0 (.int .u64 0) 1 8 Try.underlying38 hi hz0 hz1 hz2 rfl (by decide) _ _ _ rfl (hOO.alloc _) ⟨w3.heap.size, 0, none⟩ 1 1 [.int .u64 gv] rfl rfl (cell_one_new _ _ _) (ints_oneCell .u64 [gv]) (by unfold maxLen; omega) (by omega) (by simp; omega) ?_; intro v' w5 hown' hgrow2 hnil2)
        have HB5 : Hid (Below w.heap.size w w5) := (HB3.out.alloc HB3.out.size _).grown hgrow2 (by simp; omega) (fun k hk => (hOO.lt k hk).1)
        have HV5 : Hid (WordsOn w5 w.heap.size v' (rwL P p n s hh (j + 1))) := ⟨by
          rw [rwL_len, rwL_succ, List.map_append, HGW.out]
          exact hown'⟩
        have e1 : IntKind.u64.wrap ((j : Int) + 1) = (j : Int) + 1 := wrap_u64 (by omega)
        clear hown' hgrow2 hnil2 hOO
        go_wp2_with fail
        go_roundw
        case rel => exact ⟨j + 1, v', rfl, by omega, by go_num, HV5, HB5⟩
        case measure => simp [intOf]; omega
      · obtain rfl : j = k := by omega
        have hk2 : decide ((j : Int) < (j : Int)) = false := by simp
        have HF : Hid (WordsOn wr w.heap.size v (rwL P p n s hh j)) := HV.out
        have HBF : Hid _ := HB.out
        clear HV HB
        go_wp2_with fail
        go_returns
        exact ⟨v, rfl, HF.out, HBF.out⟩
  · obtain rfl : k = 256 := by have := HK.out; rw [if_neg hm] at this; omega
    have hd : decide (256 < mm) = true := decide_eq_true (by omega)
    have hmk2 : (Instr.makeSlice 38 (.int .i64 0) (.int .u64 256)).run Try.prog w1 = .ok (.slice (some ⟨w1.heap.size, 0, none⟩) 0 256) (w1.alloc (.cells (zs 256) 27)) := hmk 256 HKB.out w1
    go_wp2_with fail
    have hB2 : Below w.heap.size w (w1.alloc (.cells (zs 256) 27)) := HB1.out.trans (((Below.refl _ _).alloc (Nat.le_refl _) _).mono HB1.out.size)
    have HR0 : Hid (WordsOn (w1.alloc (.cells (zs 256) 27)) w.heap.size (.slice (some ⟨w1.heap.size, 0, none⟩) 0 256) (rwL P p n s hh 0)) := ⟨World.ownsRow_made w1 (zs 256) 256 HB1.out.size (by unfold maxLen; omega) (by rw [Nat.mul_one]; exact size_madeCells _ _)⟩
    have HB2 : Hid (Below w.heap.size w (w1.alloc (.cells (zs 256) 27))) := hB2
    generalize w1.alloc (.cells (zs 256) 27) = w2 at *
    clear hmk2 hB2 HB1
    go_loopw [11, 28] (fun vv i wr => ∃ (j : Nat) (v : Value), v = vv ∧ j ≤ 256 ∧ i = .int .u64 j ∧ Hid (WordsOn wr w.heap.size v (rwL P p n s hh j)) ∧ Hid (Below w.heap.size w wr)) (fun vv i _ => 256 - (intOf i).toNat)
    case atStart => exact ⟨0, _, rfl, Nat.zero_le _, rfl, HR0, HB2⟩
    case round =>
      clear HR0 HB2
      obtain ⟨j, v, rfl, hj, rfl, HV, HB⟩ := hrel
      by_cases hlt : j < 256
      · have hk1 : (j : Int) < (256 : Int) := by omega
        have hk2 : decide ((j : Int) < 256) = true := decide_eq_true (by omega)
        obtain ⟨z, hz⟩ : ∃ z, IntKind.u64.wrap (hh + j) = z := ⟨_, rfl⟩
        have hzb : 0 ≤ z ∧ z ≤ 18446744073709551615 := by rw [← hz]; generalize hh + (j : Int) = y; simp [IntKind.wrap, IntKind.bits, IntKind.signed]; omega
        have hR := HRG.out wr HB.out z hzb
        have HX : Hid (rwAt P p n s hh j = peekT n s (wd 20 P 264 p (8 + z % 256))) := by
          show rwAt P p n s hh j = _
          unfold rwAt
          rw [hz]
        go_wp2_with fail
        go_at_call 19; refine hR.mono ?_; rintro e w3 ⟨rfl, h3⟩
        have HB3 : Hid (Below w.heap.size w w3) := seq HB.out h3
        have hP := HPK.out w3 HB3.out (wd 20 P 264 p (8 + z % 256))
        have HV3 : Hid (WordsOn w3 w.heap.size v (rwL P p n s hh j)) := HV.out.below h3
        generalize decide (0 ≤ wd 20 P 264 p (8 + z % 256) ∧ wd 20 P 264 p (8 + z % 256) < n) = zz at *
        rw [← HX.out] at hP
        generalize wd 20 P 264 p (8 + z % 256) = at' at *
        generalize hgw : rwAt P p n s hh j = gv at *
        have HGW : Hid (rwAt P p n s hh j = gv) := hgw
        clear hR h3 HB HV hgw
        go_wp2_with fail
        go_at_call 18; refine hP.mono ?_; rintro e w4 ⟨rfl, rfl⟩
        have hOO := HV3.out.own
        rw [rwL_len] at hOO
        have hsz := HB3.out.size
        clear hP
        go_wp2_with (at_builtin; refine wpList_append_own _ rfl _ _ 38 rfl w.heap.size 27 i0 (.int .u64 0) 1 8 Try.underlying38 hi hz0 hz1 hz2 rfl (by decide) _ _ _ rfl (hOO.alloc _) ⟨w3.heap.size, 0, none⟩ 1 1 [.int .u64 gv] rfl rfl (cell_one_new _ _ _) (ints_oneCell .u64 [gv]) (by unfold maxLen; omega) (by omega) (by simp; omega) ?_; intro v' w5 hown' hgrow2 hnil2)
        have HB5 : Hid (Below w.heap.size w w5) := (HB3.out.alloc HB3.out.size _).grown hgrow2 (by simp; omega) (fun k hk => (hOO.lt k hk).1)
        have HV5 : Hid (WordsOn w5 w.heap.size v' (rwL P p n s hh (j + 1))) := ⟨by
          rw [rwL_len, rwL_succ, List.map_append, HGW.out]
          exact hown'⟩
        have e1 : IntKind.u64.wrap ((j : Int) + 1) = (j : Int) + 1 := wrap_u64 (by omega)
        clear hown' hgrow2 hnil2 hOO
        go_wp2_with fail
        go_roundw
        case rel => exact ⟨j + 1, v', rfl, by omega, by go_num, HV5, HB5⟩
        case measure => simp [intOf]; omega
      · obtain rfl : j = 256 := by omega
        have hk2 : decide (((256 : Nat) : Int) < 256) = false := by decide
        have HF : Hid (WordsOn wr w.heap.size v (rwL P p n s hh 256)) := HV.out
        have HBF : Hid _ := HB.out
        clear HV HB
        go_wp2_with fail
        go_returns
        exact ⟨v, rfl, HF.out, HBF.out⟩
end Go.Proofs.Ytcjidigpdecdlaa
