/- RputFull: a full ring gives half of its goroutines, the oldest ones, and the new one behind them, to the global queue; one that is not full takes the new one in; from every word on, for every number of goroutines; no condition. -/
import Derived.Test.YthhlklfioipmgaaGreatRg0
import Derived.Test.YthhlklfioipmgaaGreatGg0
import Derived.Maps.OwnSet
import Derived.Maps.AppendAt
import Derived.OwnWalk
import Derived.Laws.Cover1
import Derived.Test.YthhlklfioipmgaaGreatVDA
import Derived.ProofKit
import Derived.Carry
import Derived.WalkKit
import Derived.OpenShut
import Derived.Test.YthhlklfioipmgaaGreatOpen
import Derived.Lib.SmallJoins
namespace Go.Proofs.YthhlklfioipmgaaGreat
open Go Go.RowKit Go.Maps
set_option linter.unusedVariables false
set_option maxRecDepth 100000
set_option linter.unusedSimpArgs false

theorem rsf_bd {w : World} {T : TypeId} {A : Option Addr} {cap c b n : Nat} {s : St} (h : Is w T A cap c b n s) (i : Int) : 0 ≤ peekT n s i ∧ peekT n s i ≤ 18446744073709551615 := by
  unfold peekT
  split
  · exact h.bd _ (by omega)
  · omega
theorem rsee_any (w : World) (cl : Nat) (P T G p : Int) (A : Option Addr) (cap c b n : Nat) (s : St) (hL : Lay w cl P T G) (hp : 0 ≤ P ∧ P ≤ 64) (hI : Is w 136 A cap c b n s) (hn : n ≤ 1000000) :
    Calls Tryz.prog 94 #[.pointer (some ⟨cl, 0, none⟩), .pointer (some ⟨c, 0, none⟩), .int .i64 p] w fun e w' => e = .returned (.tuple #[.int .u64 (peekT n s (wd 20 P 264 p 1)), .int .u64 ((peekT n s (wd 20 P 264 p 2) - peekT n s (wd 20 P 264 p 1)) % 4294967296), .int .u64 (peekT n s (wd 20 P 264 p 3))]) ∧ Below w.heap.size w w' := by
  have h1 := fun Y (hY : Lay Y cl P T G) => lprc_any (some ⟨cl, 0, none⟩) P T G p 1 Y (.some cl hY) hp (by omega)
  have h2 := fun Y (hY : Lay Y cl P T G) => lprc_any (some ⟨cl, 0, none⟩) P T G p 2 Y (.some cl hY) hp (by omega)
  have h3 := fun Y (hY : Lay Y cl P T G) => lprc_any (some ⟨cl, 0, none⟩) P T G p 3 Y (.some cl hY) hp (by omega)
  have HL : Hid (∀ Y, Below w.heap.size w Y → Lay Y cl P T G) := fun Y hY => hL.below hY hL.lt
  have HI : Hid (∀ Y, Below w.heap.size w Y → Is Y 136 A cap c b n s) := fun Y hY => hI.below hY
  have b1 := rsf_bd hI (wd 20 P 264 p 1)
  have b2 := rsf_bd hI (wd 20 P 264 p 2)
  generalize wd 20 P 264 p 1 = i1 at *
  generalize wd 20 P 264 p 2 = i2 at *
  generalize wd 20 P 264 p 3 = i3 at *
  have hM := fun w => mny_any (peekT n s i1) (peekT n s i2) w b1 b2
  have P1 := fun Y (h : Is Y 136 A cap c b n s) => peek_any Y A cap c b n s i1 h hn
  have P2 := fun Y (h : Is Y 136 A cap c b n s) => peek_any Y A cap c b n s i2 h hn
  have P3 := fun Y (h : Is Y 136 A cap c b n s) => peek_any Y A cap c b n s i3 h hn
  clear hL hI b1 b2
  generalize peekT n s i1 = v1 at *
  generalize peekT n s i2 = v2 at *
  generalize peekT n s i3 = v3 at *
  go_enter Tryz.func94, Tryz.ntmps94
  go_wp2_with fail
  go_at_call 137; refine (h1 w (HL.out w (Below.refl _ _))).mono ?_; rintro e w1 ⟨rfl, k1⟩
  go_wp2_with fail
  go_at_call 38; refine (P1 w1 (HI.out w1 k1)).mono ?_; rintro e w2 ⟨rfl, rfl⟩
  go_wp2_with fail
  go_at_call 137; refine (h2 w1 (HL.out w1 k1)).mono ?_; rintro e w3 ⟨rfl, k3⟩
  have k3' := seq k1 k3
  go_wp2_with fail
  go_at_call 38; refine (P2 w3 (HI.out w3 k3')).mono ?_; rintro e w4 ⟨rfl, rfl⟩
  go_wp2_with fail
  go_at_call 137; refine (h3 w3 (HL.out w3 k3')).mono ?_; rintro e w5 ⟨rfl, k5⟩
  have k5' := seq k3' k5
  go_wp2_with fail
  go_at_call 38; refine (P3 w5 (HI.out w5 k5')).mono ?_; rintro e w6 ⟨rfl, rfl⟩
  go_wp2_with fail
  go_at_call 138; refine (hM w5).mono ?_; rintro e w7 ⟨rfl, rfl⟩
  clear h1 h2 h3 P1 P2 P3 hM
  go_wp2_with fail
  go_returns
  exact ⟨rfl, k5'⟩

/-- A list of words that the call made. -/
structure WordsOn (w : World) (base : Nat) (v : Value) (l : List Int) : Prop where
  own : w.ownsRow base 39 1 v l.length (l.map (Value.int .u64))
theorem WordsOn.below {w w' : World} {base : Nat} {v : Value} {l : List Int} (h : WordsOn w base v l) (hB : Below w.heap.size w w') : WordsOn w' base v l := by
  refine ⟨h.own.1, ?_⟩
  rcases h.own.2 with h0 | ⟨gb, cp, cur, e0, hb, hh, rest⟩
  · exact .inl h0
  · exact .inr ⟨gb, cp, cur, e0, hb, ((But.of_below (l := []) hB).block gb (block_lt hh) (by simp)).trans hh, rest⟩
theorem make_cap (k : Nat) (hk : k ≤ 1000000) (w : World) : (Instr.makeSlice 38 (.int .i64 0) (.int .u64 k)).run Tryz.prog w = .ok (.slice (some ⟨w.heap.size, 0, none⟩) 0 k) (w.alloc (.cells (zs k) 39)) := by
  obtain ⟨i0, hi, hz0, hz1, hz2⟩ := info_parts info39
  have := run_make (P := Tryz.prog) w 38 39 i0 (.int .u64 0) Tryz.underlying38 hi hz0 .i64 .u64 0 k (by omega) (by omega) (by rw [hz2]; omega) (by omega)
  rw [hz1] at this
  simpa [zs, Value.cells] using this
/-- The word at one place of a ring. -/
def rwAt (P p : Int) (n : Nat) (s : St) (h : Int) (i : Nat) : Int := peekT n s (wd 20 P 264 p (8 + IntKind.u64.wrap (h + i) % 256))
def rwL (P p : Int) (n : Nat) (s : St) (h : Int) (k : Nat) : List Int := (List.range k).map (rwAt P p n s h)
theorem rwL_succ (P p : Int) (n : Nat) (s : St) (h : Int) (k : Nat) : rwL P p n s h (k + 1) = rwL P p n s h k ++ [rwAt P p n s h k] := by unfold rwL; rw [List.range_succ, List.map_append]; rfl
theorem rwL_len (P p : Int) (n : Nat) (s : St) (h : Int) (k : Nat) : (rwL P p n s h k).length = k := by unfold rwL; simp
def rMany (P p : Int) (n : Nat) (s : St) : Int := (peekT n s (wd 20 P 264 p 2) - peekT n s (wd 20 P 264 p 1)) % 4294967296
def rK (P p : Int) (n : Nat) (s : St) : Nat := if rMany P p n s ≤ 256 then (rMany P p n s).toNat else 256
set_option maxHeartbeats 4000000 in
theorem rwords_any (w : World) (cl : Nat) (P T G p : Int) (A : Option Addr) (cap c b n : Nat) (s : St) (hL : Lay w cl P T G) (hp : 0 ≤ P ∧ P ≤ 64) (hI : Is w 136 A cap c b n s) (hn : n ≤ 1000000) :
    Calls Tryz.prog 35 #[.pointer (some ⟨cl, 0, none⟩), .pointer (some ⟨c, 0, none⟩), .int .i64 p] w fun e w' => ∃ v, e = .returned (.tuple #[v, .int .u64 (peekT n s (wd 20 P 264 p 3))]) ∧ WordsOn w' w.heap.size v (rwL P p n s (peekT n s (wd 20 P 264 p 1)) (rK P p n s)) ∧ Below w.heap.size w w' := by
  obtain ⟨i0, hi, hz0, hz1, hz2⟩ := info_parts info39
  have hS := rsee_any w cl P T G p A cap c b n s hL hp hI hn
  have HL : Hid (∀ Y, Below w.heap.size w Y → Lay Y cl P T G) := fun Y hY => hL.below hY hL.lt
  have HI : Hid (∀ Y, Below w.heap.size w Y → Is Y 136 A cap c b n s) := fun Y hY => hI.below hY
  have HRG : Hid (∀ Y, Below w.heap.size w Y → ∀ i, 0 ≤ i ∧ i ≤ 18446744073709551615 → Calls Tryz.prog 95 #[.pointer (some ⟨cl, 0, none⟩), .int .i64 p, .int .u64 i] Y fun e w' => e = .returned (.int .i64 (wd 20 P 264 p (8 + i % 256))) ∧ Below Y.heap.size Y w') := fun Y hY i hi => lrng_any (some ⟨cl, 0, none⟩) P T G p i Y (.some cl (HL.out Y hY)) hp hi
  have HPK : Hid (∀ Y, Below w.heap.size w Y → ∀ i, Calls Tryz.prog 38 #[.pointer (some ⟨c, 0, none⟩), .int .i64 i] Y fun e w' => e = .returned (.tuple #[.int .u64 (peekT n s i), .bool (decide (0 ≤ i ∧ i < n))]) ∧ Y = w') := fun Y hY i => peek_any Y A cap c b n s i (HI.out Y hY) hn
  have hmk := fun k (hk : k ≤ 256) w => make_cap k (by omega) w
  have HK : Hid ((rK P p n s : Int) = if rMany P p n s ≤ 256 then rMany P p n s else 256) := by
    have h0 : 0 ≤ rMany P p n s := Int.emod_nonneg _ (by omega)
    show ((rK P p n s : Nat) : Int) = _
    unfold rK
    split <;> omega
  have HKB : Hid (rK P p n s ≤ 256) := by
    have h0 : 0 ≤ rMany P p n s := Int.emod_nonneg _ (by omega)
    show rK P p n s ≤ 256
    unfold rK
    split <;> omega
  rw [show (peekT n s (wd 20 P 264 p 2) - peekT n s (wd 20 P 264 p 1)) % 4294967296 = rMany P p n s from rfl] at hS
  generalize peekT n s (wd 20 P 264 p 1) = hh at *
  generalize peekT n s (wd 20 P 264 p 3) = nn at *
  generalize rMany P p n s = mm at *
  generalize rK P p n s = k at *
  clear hL hI
  go_enter Tryz.func35, Tryz.ntmps35
  go_wp2_with fail
  go_at_call 94; refine hS.mono ?_; rintro e w1 ⟨rfl, h1⟩
  have HB1 : Hid (Below w.heap.size w w1) := h1
  clear hS h1
  by_cases hm : mm ≤ 256
  · obtain rfl : mm = (k : Int) := by have := HK.out; rw [if_pos hm] at this; exact this.symm
    have hd : decide (256 < (k : Int)) = false := decide_eq_false (by omega)
    have hmk2 := hmk k HKB.out w1
    go_wp2_with fail
    have hB2 : Below w.heap.size w (w1.alloc (.cells (zs k) 39)) := HB1.out.trans (((Below.refl _ _).alloc (Nat.le_refl _) _).mono HB1.out.size)
    have HR0 : Hid (WordsOn (w1.alloc (.cells (zs k) 39)) w.heap.size (.slice (some ⟨w1.heap.size, 0, none⟩) 0 k) (rwL P p n s hh 0)) := ⟨World.ownsRow_made w1 (zs k) k HB1.out.size (by unfold maxLen; omega) (by rw [Nat.mul_one]; exact size_madeCells _ _)⟩
    have HB2 : Hid (Below w.heap.size w (w1.alloc (.cells (zs k) 39))) := hB2
    generalize w1.alloc (.cells (zs k) 39) = w2 at *
    clear hmk2 hB2 HB1
    go_loopw [11, 28] (fun vv i wr => ∃ (j : Nat) (v : Value), v = vv ∧ j ≤ k ∧ i = .int .u64 j ∧ Hid (WordsOn wr w.heap.size v (rwL P p n s hh j)) ∧ Hid (Below w.heap.size w wr)) (fun vv i _ => k - (intOf i).toNat)
    case atStart => exact ⟨0, _, rfl, Nat.zero_le _, rfl, HR0, HB2⟩
    case round =>
      clear HR0 HB2
      obtain ⟨j, v, rfl, hj, rfl, HV, HB⟩ := hrel
      by_cases hlt : j < k
      · have hk1 : (j : Int) < (k : Int) := by omega
        have hk2 : decide ((j : Int) < (k : Int)) = true := decide_eq_true (by omega)
        obtain ⟨z, hz⟩ : ∃ z, IntKind.u64.wrap (hh + j) = z := ⟨_, rfl⟩
        have hzb : 0 ≤ z ∧ z ≤ 18446744073709551615 := by rw [← hz]; generalize hh + (j : Int) = y; simp [IntKind.wrap, IntKind.bits, IntKind.signed]; omega
        have hR := HRG.out wr HB.out z hzb
        have HX : Hid (rwAt P p n s hh j = peekT n s (wd 20 P 264 p (8 + z % 256))) := by
          show rwAt P p n s hh j = _
          unfold rwAt
          rw [hz]
        go_wp2_with fail
        go_at_call 95; refine hR.mono ?_; rintro e w3 ⟨rfl, h3⟩
        have HB3 : Hid (Below w.heap.size w w3) := seq HB.out h3
        have hP := HPK.out w3 HB3.out (wd 20 P 264 p (8 + z % 256))
        have HV3 : Hid (WordsOn w3 w.heap.size v (rwL P p n s hh j)) := HV.out.below h3
        generalize decide (0 ≤ wd 20 P 264 p (8 + z % 256) ∧ wd 20 P 264 p (8 + z % 256) < n) = zz at *
        rw [← HX.out] at hP
        generalize wd 20 P 264 p (8 + z % 256) = at' at *
        generalize hgw : rwAt P p n s hh j = gv at *
        have HGW : Hid (rwAt P p n s hh j = gv) := hgw
        clear hR h3 HB HV hgw
        go_wp2_with fail
        go_at_call 38; refine hP.mono ?_; rintro e w4 ⟨rfl, rfl⟩
        have hOO := HV3.out.own
        rw [rwL_len] at hOO
        have hsz := HB3.out.size
        clear hP
        go_wp2_with (at_builtin; refine wpList_append_own _ rfl _ _ 38 rfl w.heap.size 39 i0 (.int .u64 0) 1 8 Tryz.underlying38 hi hz0 hz1 hz2 rfl (by decide) _ _ _ rfl (hOO.alloc _) ⟨w3.heap.size, 0, none⟩ 1 1 [.int .u64 gv] rfl rfl (cell_one_new _ _ _) (ints_oneCell .u64 [gv]) (by unfold maxLen; omega) (by omega) (by simp; omega) ?_; intro v' w5 hown' hgrow2 hnil2)
        have HB5 : Hid (Below w.heap.size w w5) := (HB3.out.alloc HB3.out.size _).grown hgrow2 (by simp; omega) (fun k hk => (hOO.lt k hk).1)
        have HV5 : Hid (WordsOn w5 w.heap.size v' (rwL P p n s hh (j + 1))) := ⟨by
          rw [rwL_len, rwL_succ, List.map_append, HGW.out]
          exact hown'⟩
        have e1 : IntKind.u64.wrap ((j : Int) + 1) = (j : Int) + 1 := wrap_u64 (by omega)
        clear hown' hgrow2 hnil2 hOO
        go_wp2_with fail
        go_roundw
        case rel => exact ⟨j + 1, v', rfl, by omega, by go_num, HV5, HB5⟩
        case measure => simp [intOf]; omega
      · obtain rfl : j = k := by omega
        have hk2 : decide ((j : Int) < (j : Int)) = false := by simp
        have HF : Hid (WordsOn wr w.heap.size v (rwL P p n s hh j)) := HV.out
        have HBF : Hid _ := HB.out
        clear HV HB
        go_wp2_with fail
        go_returns
        exact ⟨v, rfl, HF.out, HBF.out⟩
  · obtain rfl : k = 256 := by have := HK.out; rw [if_neg hm] at this; omega
    have hd : decide (256 < mm) = true := decide_eq_true (by omega)
    have hmk2 : (Instr.makeSlice 38 (.int .i64 0) (.int .u64 256)).run Tryz.prog w1 = .ok (.slice (some ⟨w1.heap.size, 0, none⟩) 0 256) (w1.alloc (.cells (zs 256) 39)) := hmk 256 HKB.out w1
    go_wp2_with fail
    have hB2 : Below w.heap.size w (w1.alloc (.cells (zs 256) 39)) := HB1.out.trans (((Below.refl _ _).alloc (Nat.le_refl _) _).mono HB1.out.size)
    have HR0 : Hid (WordsOn (w1.alloc (.cells (zs 256) 39)) w.heap.size (.slice (some ⟨w1.heap.size, 0, none⟩) 0 256) (rwL P p n s hh 0)) := ⟨World.ownsRow_made w1 (zs 256) 256 HB1.out.size (by unfold maxLen; omega) (by rw [Nat.mul_one]; exact size_madeCells _ _)⟩
    have HB2 : Hid (Below w.heap.size w (w1.alloc (.cells (zs 256) 39))) := hB2
    generalize w1.alloc (.cells (zs 256) 39) = w2 at *
    clear hmk2 hB2 HB1
    go_loopw [11, 28] (fun vv i wr => ∃ (j : Nat) (v : Value), v = vv ∧ j ≤ 256 ∧ i = .int .u64 j ∧ Hid (WordsOn wr w.heap.size v (rwL P p n s hh j)) ∧ Hid (Below w.heap.size w wr)) (fun vv i _ => 256 - (intOf i).toNat)
    case atStart => exact ⟨0, _, rfl, Nat.zero_le _, rfl, HR0, HB2⟩
    case round =>
      clear HR0 HB2
      obtain ⟨j, v, rfl, hj, rfl, HV, HB⟩ := hrel
      by_cases hlt : j < 256
      · have hk1 : (j : Int) < (256 : Int) := by omega
        have hk2 : decide ((j : Int) < 256) = true := decide_eq_true (by omega)
        obtain ⟨z, hz⟩ : ∃ z, IntKind.u64.wrap (hh + j) = z := ⟨_, rfl⟩
        have hzb : 0 ≤ z ∧ z ≤ 18446744073709551615 := by rw [← hz]; generalize hh + (j : Int) = y; simp [IntKind.wrap, IntKind.bits, IntKind.signed]; omega
        have hR := HRG.out wr HB.out z hzb
        have HX : Hid (rwAt P p n s hh j = peekT n s (wd 20 P 264 p (8 + z % 256))) := by
          show rwAt P p n s hh j = _
          unfold rwAt
          rw [hz]
        go_wp2_with fail
        go_at_call 95; refine hR.mono ?_; rintro e w3 ⟨rfl, h3⟩
        have HB3 : Hid (Below w.heap.size w w3) := seq HB.out h3
        have hP := HPK.out w3 HB3.out (wd 20 P 264 p (8 + z % 256))
        have HV3 : Hid (WordsOn w3 w.heap.size v (rwL P p n s hh j)) := HV.out.below h3
        generalize decide (0 ≤ wd 20 P 264 p (8 + z % 256) ∧ wd 20 P 264 p (8 + z % 256) < n) = zz at *
        rw [← HX.out] at hP
        generalize wd 20 P 264 p (8 + z % 256) = at' at *
        generalize hgw : rwAt P p n s hh j = gv at *
        have HGW : Hid (rwAt P p n s hh j = gv) := hgw
        clear hR h3 HB HV hgw
        go_wp2_with fail
        go_at_call 38; refine hP.mono ?_; rintro e w4 ⟨rfl, rfl⟩
        have hOO := HV3.out.own
        rw [rwL_len] at hOO
        have hsz := HB3.out.size
        clear hP
        go_wp2_with (at_builtin; refine wpList_append_own _ rfl _ _ 38 rfl w.heap.size 39 i0 (.int .u64 0) 1 8 Tryz.underlying38 hi hz0 hz1 hz2 rfl (by decide) _ _ _ rfl (hOO.alloc _) ⟨w3.heap.size, 0, none⟩ 1 1 [.int .u64 gv] rfl rfl (cell_one_new _ _ _) (ints_oneCell .u64 [gv]) (by unfold maxLen; omega) (by omega) (by simp; omega) ?_; intro v' w5 hown' hgrow2 hnil2)
        have HB5 : Hid (Below w.heap.size w w5) := (HB3.out.alloc HB3.out.size _).grown hgrow2 (by simp; omega) (fun k hk => (hOO.lt k hk).1)
        have HV5 : Hid (WordsOn w5 w.heap.size v' (rwL P p n s hh (j + 1))) := ⟨by
          rw [rwL_len, rwL_succ, List.map_append, HGW.out]
          exact hown'⟩
        have e1 : IntKind.u64.wrap ((j : Int) + 1) = (j : Int) + 1 := wrap_u64 (by omega)
        clear hown' hgrow2 hnil2 hOO
        go_wp2_with fail
        go_roundw
        case rel => exact ⟨j + 1, v', rfl, by omega, by go_num, HV5, HB5⟩
        case measure => simp [intOf]; omega
      · obtain rfl : j = 256 := by omega
        have hk2 : decide (((256 : Nat) : Int) < 256) = false := by decide
        have HF : Hid (WordsOn wr w.heap.size v (rwL P p n s hh 256)) := HV.out
        have HBF : Hid _ := HB.out
        clear HV HB
        go_wp2_with fail
        go_returns
        exact ⟨v, rfl, HF.out, HBF.out⟩
end Go.Proofs.YthhlklfioipmgaaGreat

namespace Go.Proofs.YthhlklfioipmgaaGreat
open Go Go.RowKit Go.Maps
set_option linter.unusedVariables false
set_option maxRecDepth 100000
set_option linter.unusedSimpArgs false

def gsOk (G w : Int) : Bool := decide (w ≠ 0 ∧ w ≤ G)
def gsL (G : Int) (l : List Int) : List Int := (l.filter (gsOk G)).map gw
def rwN (nx : Int) (l : List Int) : List Int := if nx = 0 then l else l ++ [nx]
theorem gsL_snoc (G : Int) (l : List Int) (x : Int) : gsL G (l ++ [x]) = if gsOk G x = true then gsL G l ++ [gw x] else gsL G l := by
  unfold gsL
  rw [List.filter_append]
  cases h : gsOk G x
  · simp [List.filter, h]
  · simp [List.filter, h]
theorem WordsOn.cell {w : World} {base : Nat} {v : Value} {l : List Int} (h : WordsOn w base v l) {j : Nat} (hj : j < l.length) : ∃ gb cap, v = .slice (some ⟨gb, 0, none⟩) l.length cap ∧ gb < w.heap.size ∧ w.cell? ⟨gb, j, none⟩ = some (.int .u64 (l.getD j 0)) := by
  rcases h.own.2 with ⟨e, h0⟩ | ⟨gb, cp, cur, e, hb, hh, hnc, hcm, hcs, htk⟩
  · omega
  · subst e
    refine ⟨gb, cp, rfl, block_lt hh, ?_⟩
    have hc := h.own.cellAt j (by omega)
    rw [List.getElem?_map, List.getElem?_eq_getElem hj] at hc
    rw [List.getD_eq_getElem?_getD, List.getElem?_eq_getElem hj]
    exact hc
theorem WordsOn.slice {w : World} {base : Nat} {v : Value} {l : List Int} (h : WordsOn w base v l) : ∃ A cap, v = .slice A l.length cap := by
  rcases h.own.2 with ⟨e0, h0⟩ | ⟨gb, cp, cur, e0, hb, hh, rest⟩
  · exact ⟨none, 0, by rw [e0, h0]⟩
  · exact ⟨_, _, e0⟩
theorem RI.IntsOn.mono {w : World} {base base' : Nat} {v : Value} {l : List Int} (h : RI.IntsOn w base v l) (hb : base' ≤ base) : RI.IntsOn w base' v l := by
  refine ⟨h.own.1, ?_⟩
  rcases h.own.2 with h0 | ⟨gb, cp, cur, e0, hb0, rest⟩
  · exact .inl h0
  · exact .inr ⟨gb, cp, cur, e0, Nat.le_trans hb hb0, rest⟩
/-- All goroutines that are seen, and whether all are some. -/
def rgsL (P G p : Int) (n : Nat) (s : St) : List Int := rwN (peekT n s (wd 20 P 264 p 3)) (rwL P p n s (peekT n s (wd 20 P 264 p 1)) (rK P p n s))
theorem rgsL_bd {w : World} {T : TypeId} {A : Option Addr} {cap c b n : Nat} {s : St} (hI : Is w T A cap c b n s) (P G p : Int) : ∀ x ∈ rgsL P G p n s, 0 ≤ x ∧ x ≤ 18446744073709551615 := by
  intro x hx
  unfold rgsL rwN at hx
  have h1 : ∀ x ∈ rwL P p n s (peekT n s (wd 20 P 264 p 1)) (rK P p n s), 0 ≤ x ∧ x ≤ 18446744073709551615 := by
    intro x hx
    unfold rwL at hx
    obtain ⟨i, -, rfl⟩ := List.mem_map.1 hx
    exact rsf_bd hI _
  split at hx
  · exact h1 x hx
  · rcases List.mem_append.1 hx with h | h
    · exact h1 x h
    · rw [List.mem_singleton.1 h]; exact rsf_bd hI _
theorem rK_le (P p : Int) (n : Nat) (s : St) : rK P p n s ≤ 256 := by
  have h0 : 0 ≤ rMany P p n s := Int.emod_nonneg _ (by omega)
  unfold rK
  split <;> omega

set_option maxHeartbeats 4000000 in
theorem rgs_any (w : World) (cl : Nat) (P T G p : Int) (A : Option Addr) (cap c b n : Nat) (s : St) (hL : Lay w cl P T G) (hp : 0 ≤ P ∧ P ≤ 64) (hG : 0 ≤ G ∧ G ≤ 65536) (hI : Is w 136 A cap c b n s) (hn : n ≤ 1000000) :
    Calls Tryz.prog 51 #[.pointer (some ⟨cl, 0, none⟩), .pointer (some ⟨c, 0, none⟩), .int .i64 p] w fun e w' => ∃ v, e = .returned (.tuple #[v, .bool (decide (rMany P p n s ≤ 256) && (rgsL P G p n s).all (gsOk G))]) ∧ RI.IntsOn w' w.heap.size v (gsL G (rgsL P G p n s)) ∧ Below w.heap.size w w' := by
  obtain ⟨i0, hi, hz0, hz1, hz2⟩ := info_parts info39
  obtain ⟨i3, hi3, hz03, hz13, hz23⟩ := info_parts RI.lists_info3
  have hS := rsee_any w cl P T G p A cap c b n s hL hp hI hn
  have HW : Hid (∀ Y, Below w.heap.size w Y → Calls Tryz.prog 35 #[.pointer (some ⟨cl, 0, none⟩), .pointer (some ⟨c, 0, none⟩), .int .i64 p] Y fun e w' => ∃ v, e = .returned (.tuple #[v, .int .u64 (peekT n s (wd 20 P 264 p 3))]) ∧ WordsOn w' Y.heap.size v (rwL P p n s (peekT n s (wd 20 P 264 p 1)) (rK P p n s)) ∧ Below Y.heap.size Y w') := fun Y hY => rwords_any Y cl P T G p A cap c b n s (hL.below hY hL.lt) hp (hI.below hY) hn
  have HC : Hid (∀ Y, Below w.heap.size w Y → Calls Tryz.prog 87 #[.pointer (some ⟨cl, 0, none⟩)] Y fun e w' => e = .returned (.agg #[.int .i64 P, .int .i64 T, .int .i64 G]) ∧ Below Y.heap.size Y w') := fun Y hY => config_any _ P T G Y (.some cl (hL.below hY hL.lt))
  have hfc := field_c2
  have HBD : Hid (∀ x ∈ rgsL P G p n s, 0 ≤ x ∧ x ≤ 18446744073709551615) := rgsL_bd hI P G p
  have hkl := rK_le P p n s
  have hll : (rwL P p n s (peekT n s (wd 20 P 264 p 1)) (rK P p n s)).length = rK P p n s := rwL_len _ _ _ _ _ _
  have hRL : rgsL P G p n s = rwN (peekT n s (wd 20 P 264 p 3)) (rwL P p n s (peekT n s (wd 20 P 264 p 1)) (rK P p n s)) := rfl
  rw [show (peekT n s (wd 20 P 264 p 2) - peekT n s (wd 20 P 264 p 1)) % 4294967296 = rMany P p n s from rfl] at hS
  generalize rwL P p n s (peekT n s (wd 20 P 264 p 1)) (rK P p n s) = l0 at *
  generalize peekT n s (wd 20 P 264 p 1) = hh at *
  generalize peekT n s (wd 20 P 264 p 3) = nn at *
  generalize rMany P p n s = mm at *
  generalize rgsL P G p n s = ll at *
  have e3 : IntKind.u64.wrap G = G := wrap_u64 (by omega)
  have HLL : Hid (l0.length ≤ 256 ∧ ll = rwN nn l0) := ⟨by omega, hRL⟩
  clear hL hI hkl hll hRL
  go_enter Tryz.func51, Tryz.ntmps51
  go_wp2_with fail
  go_at_call 94; refine hS.mono ?_; rintro e w1 ⟨rfl, h1⟩
  have HB1 : Hid (Below w.heap.size w w1) := h1
  have hW := HW.out w1 h1
  clear hS h1
  generalize hdm : decide (mm ≤ 256) = dm at *
  go_wp2_with fail
  go_at_call 35; refine hW.mono ?_; rintro e w2 ⟨v0, rfl, hv0, h2⟩
  have HV0 : Hid (WordsOn w2 w1.heap.size v0 l0) := hv0
  have HB2 : Hid (Below w.heap.size w w2) := seq HB1.out h2
  have hs12 : Hid (w.heap.size ≤ w1.heap.size ∧ w1.heap.size ≤ w2.heap.size) := ⟨HB1.out.size, h2.size⟩
  clear hW hv0 h2
  by_cases hn0 : nn = 0
  · subst hn0
    have HLE : Hid (ll = l0) := HLL.out.2.trans (if_pos rfl)
    obtain ⟨A0, cp0, rfl⟩ := HV0.out.slice
    have HVX : Hid (WordsOn w2 w1.heap.size (.slice A0 ll.length cp0) ll) := by rw [HLE.out]; exact HV0.out
    have hsX : Hid (w.heap.size ≤ w2.heap.size) := HB2.out.size
    have HBX : Hid (Below w.heap.size w w2) := HB2.out
    have HLN : Hid (ll.length ≤ 257) := (by rw [HLE.out]; have := HLL.out.1; omega : ll.length ≤ 257)
    have hll : (l0.length : Int) = (ll.length : Int) := by rw [HLE.out]
    rw [← HLE.out]
    go_wp2_with fail
    go_loopw [11, 14, 42] (fun rr gg i wr => ∃ (j : Nat) (g : Value), g = gg ∧ j ≤ ll.length ∧ i = .int .i64 j ∧ rr = .bool (dm && (ll.take j).all (gsOk G)) ∧ Hid (RI.IntsOn wr w2.heap.size g (gsL G (ll.take j))) ∧ Hid (Below w2.heap.size w2 wr)) (fun _ _ i _ => ll.length - (intOf i).toNat)
    case atStart => exact ⟨0, _, rfl, Nat.zero_le _, rfl, by simp, ⟨World.ownsRow_nil _ _ _ _⟩, Below.refl _ _⟩
    case round =>
      obtain ⟨j, g, rfl, hj, rfl, rfl, HV, HB⟩ := hrel
      have hln9 : ll.length ≤ 257 := HLN.out
      by_cases hlt : j < ll.length
      · obtain ⟨gb, cp, ea, hgb, hcell⟩ := HVX.out.cell hlt
        injection ea with ea1 ea2 ea3
        subst ea1
        have hk1 : (j : Int) < (ll.length : Int) := by omega
        have hk0 : (0 : Int) ≤ (j : Int) := by omega
        have hc := (HB.out.cell (p := ⟨gb, j, none⟩) hgb).trans hcell
        have HTK : Hid (ll.take (j + 1) = ll.take j ++ [ll.getD j 0]) := by
          show ll.take (j + 1) = _
          rw [List.take_add_one, List.getD_eq_getElem?_getD, List.getElem?_eq_getElem hlt]
          rfl
        have hxb := HBD.out (ll.getD j 0) (by rw [List.getD_eq_getElem?_getD, List.getElem?_eq_getElem hlt]; exact List.getElem_mem hlt)
        generalize ll.getD j 0 = x at *
        generalize hdq : (dm && (ll.take j).all (gsOk G)) = dq
        have HDQ : Hid ((dm && (ll.take j).all (gsOk G)) = dq) := hdq
        clear hcell hdq ea2 ea3
        by_cases h0 : x = 0
        · subst h0
          have HF : Hid ((dm && (ll.take (j + 1)).all (gsOk G)) = false ∧ gsL G (ll.take (j + 1)) = gsL G (ll.take j)) := by
            rw [HTK.out]
            have hk : gsOk G 0 = false := by simp [gsOk]
            exact ⟨by simp [hk], by rw [gsL_snoc, hk]; rfl⟩
          go_wp2_with fail
          go_roundw
          case rel => exact ⟨j + 1, g, rfl, by omega, by go_num, by rw [HF.out.1], (by rw [HF.out.2]; exact HV.out : RI.IntsOn _ _ _ _), HB⟩
          case measure => simp [intOf]; omega
        · have hd0 : (x == 0) = false := by simpa using h0
          have hC := HC.out wr (HBX.out.trans (HB.out.mono hsX.out))
          go_wp2_with fail
          go_at_call 87; refine hC.mono ?_; rintro e w7 ⟨rfl, h7⟩
          have HB7 : Hid (Below w2.heap.size w2 w7) := seq HB.out h7
          have HV7 : Hid (RI.IntsOn w7 w2.heap.size g (gsL G (ll.take j))) := HV.out.keep (But.of_below (l := []) h7) (fun k _ => by simp)
          clear hC h7 hc HV HB
          by_cases hgt : G < x
          · have hdg : decide (G < x) = true := decide_eq_true hgt
            have HF : Hid ((dm && (ll.take (j + 1)).all (gsOk G)) = false ∧ gsL G (ll.take (j + 1)) = gsL G (ll.take j)) := by
              rw [HTK.out]
              have hk : gsOk G x = false := by simp [gsOk]; omega
              exact ⟨by simp [hk], by rw [gsL_snoc, hk]; rfl⟩
            go_wp2_with fail
            go_roundw
            case rel => exact ⟨j + 1, g, rfl, by omega, by go_num, by rw [HF.out.1], (by rw [HF.out.2]; exact HV7.out : RI.IntsOn _ _ _ _), HB7⟩
            case measure => simp [intOf]; omega
          · have hdg : decide (G < x) = false := decide_eq_false hgt
            have HF : Hid ((dm && (ll.take (j + 1)).all (gsOk G)) = dq ∧ gsL G (ll.take (j + 1)) = gsL G (ll.take j) ++ [gw x]) := by
              rw [HTK.out]
              have hk : gsOk G x = true := by simp [gsOk]; omega
              exact ⟨by rw [← HDQ.out]; simp [hk], by rw [gsL_snoc, hk]; rfl⟩
            obtain ⟨y, hy⟩ : ∃ y, IntKind.u64.wrap (x - 1) = y := ⟨_, rfl⟩
            obtain ⟨gx, hgx⟩ : ∃ gx, IntKind.i64.wrap y = gx := ⟨_, rfl⟩
            have HGX : Hid (gw x = gx) := by
              show gw x = gx
              unfold gw; rw [hy, hgx]
            have hOO := HV7.out.own
            have hlj : (gsL G (ll.take j)).length ≤ 257 := by
              unfold gsL
              rw [List.length_map]
              refine Nat.le_trans (List.length_filter_le _ _) ?_
              rw [List.length_take]; have := HLN.out; omega
            have hsz7 := HB7.out.size
            generalize hln : (gsL G (ll.take j)).length = ln at *
            have HLJ : Hid ((gsL G (ll.take j)).length = ln) := hln
            clear hln
            go_wp2_with (at_builtin; refine wpList_append_own _ rfl _ _ 27 rfl w2.heap.size 3 i3 (.int .i64 0) 1 8 Tryz.underlying27 hi3 hz03 hz13 hz23 rfl (by decide) _ _ _ rfl (hOO.alloc _) ⟨w7.heap.size, 0, none⟩ 1 1 [.int .i64 gx] rfl rfl (cell_one_new _ _ _) (ints_oneCell .i64 [gx]) (by unfold maxLen; omega) (by omega) (by simp; omega) ?_; intro v' w9 hown' hgrow2 hnil2)
            have HB9 : Hid (Below w2.heap.size w2 w9) := (HB7.out.alloc HB7.out.size _).grown hgrow2 (by simp; omega) (fun k hk => (hOO.lt k hk).1)
            have HV9 : Hid (RI.IntsOn w9 w2.heap.size v' (gsL G (ll.take (j + 1)))) := ⟨by
              rw [HF.out.2, List.map_append, List.length_append, HLJ.out, HGX.out]
              exact hown'⟩
            clear hown' hgrow2 hnil2 hOO
            go_wp2_with fail
            go_roundw
            case rel => exact ⟨j + 1, v', rfl, by omega, by go_num, by rw [HF.out.1], HV9, HB9⟩
            case measure => simp [intOf]; omega
      · obtain rfl : j = ll.length := by omega
        have HF : Hid (RI.IntsOn wr w.heap.size g (gsL G ll)) := by
          have := HV.out
          rw [List.take_length] at this
          exact this.mono hsX.out
        have HD : Hid ((dm && (ll.take ll.length).all (gsOk G)) = (dm && ll.all (gsOk G))) := by
          show _ = _
          rw [List.take_length]
        have HBF : Hid (Below w.heap.size w wr) := HBX.out.trans (HB.out.mono hsX.out)
        have hgd : decide ((ll.length : Int) < (ll.length : Int)) = false := by simp
        rw [HD.out]
        clear HV HB
        go_wp2_with fail
        go_returns
        exact ⟨g, by rw [hdm]; rfl, HF.out, HBF.out⟩
  · have hd0 : (nn == 0) = false := by simpa using hn0
    have hd1 : (nn != 0) = true := by simpa using hn0
    have HLE : Hid (ll = l0 ++ [nn]) := HLL.out.2.trans (if_neg hn0)
    have hOO := HV0.out.own
    have hlen := HLL.out.1
    have h12 := hs12.out
    go_wp2_with (at_builtin; refine wpList_append_own _ rfl _ _ 38 rfl w1.heap.size 39 i0 (.int .u64 0) 1 8 Tryz.underlying38 hi hz0 hz1 hz2 rfl (by decide) _ _ _ rfl (hOO.alloc _) ⟨w2.heap.size, 0, none⟩ 1 1 [.int .u64 nn] rfl rfl (cell_one_new _ _ _) (ints_oneCell .u64 [nn]) (by unfold maxLen; omega) (by omega) (by simp; omega) ?_; intro v' w5 hown' hgrow2 hnil2; generalize hq : l0.length + 1 = q at hown' ⊢; obtain rfl : q = ll.length := (by rw [← hq, HLE.out, List.length_append]; rfl); clear hq; obtain ⟨A0, cp0, rfl⟩ := RI.lists_slice hown')
    have HVX0 : Hid (WordsOn w5 w1.heap.size (.slice A0 ll.length cp0) ll) := ⟨by
      have := hown'
      rw [show ll.map (Value.int .u64) = l0.map (Value.int .u64) ++ [Value.int .u64 nn] by rw [HLE.out, List.map_append]; rfl]
      exact this⟩
    have hbx : Below w.heap.size w w5 := (HB2.out.alloc HB2.out.size _).grown hgrow2 (by simp; omega) (fun k hk => by have := (hOO.lt k hk).1; omega)
    have hsX : Hid (w.heap.size ≤ w5.heap.size) := hbx.size
    have HBX : Hid (Below w.heap.size w w5) := hbx
    have HLN : Hid (ll.length ≤ 257) := (by rw [HLE.out, List.length_append]; have := HLL.out.1; simp; omega : ll.length ≤ 257)
    have HVX : Hid (WordsOn w5 w1.heap.size (.slice A0 ll.length cp0) ll) := HVX0.out
    clear hown' hgrow2 hnil2 hOO hbx HVX0 h12 hlen
    go_loopw [11, 14, 42] (fun rr gg i wr => ∃ (j : Nat) (g : Value), g = gg ∧ j ≤ ll.length ∧ i = .int .i64 j ∧ rr = .bool (dm && (ll.take j).all (gsOk G)) ∧ Hid (RI.IntsOn wr w5.heap.size g (gsL G (ll.take j))) ∧ Hid (Below w5.heap.size w5 wr)) (fun _ _ i _ => ll.length - (intOf i).toNat)
    case atStart => exact ⟨0, _, rfl, Nat.zero_le _, rfl, by simp, ⟨World.ownsRow_nil _ _ _ _⟩, Below.refl _ _⟩
    case round =>
      obtain ⟨j, g, rfl, hj, rfl, rfl, HV, HB⟩ := hrel
      have hln9 : ll.length ≤ 257 := HLN.out
      by_cases hlt : j < ll.length
      · obtain ⟨gb, cp, ea, hgb, hcell⟩ := HVX.out.cell hlt
        injection ea with ea1 ea2 ea3
        subst ea1
        have hk1 : (j : Int) < (ll.length : Int) := by omega
        have hk0 : (0 : Int) ≤ (j : Int) := by omega
        have hc := (HB.out.cell (p := ⟨gb, j, none⟩) hgb).trans hcell
        have HTK : Hid (ll.take (j + 1) = ll.take j ++ [ll.getD j 0]) := by
          show ll.take (j + 1) = _
          rw [List.take_add_one, List.getD_eq_getElem?_getD, List.getElem?_eq_getElem hlt]
          rfl
        have hxb := HBD.out (ll.getD j 0) (by rw [List.getD_eq_getElem?_getD, List.getElem?_eq_getElem hlt]; exact List.getElem_mem hlt)
        generalize ll.getD j 0 = x at *
        generalize hdq : (dm && (ll.take j).all (gsOk G)) = dq
        have HDQ : Hid ((dm && (ll.take j).all (gsOk G)) = dq) := hdq
        clear hcell hdq ea2 ea3
        by_cases h0 : x = 0
        · subst h0
          have HF : Hid ((dm && (ll.take (j + 1)).all (gsOk G)) = false ∧ gsL G (ll.take (j + 1)) = gsL G (ll.take j)) := by
            rw [HTK.out]
            have hk : gsOk G 0 = false := by simp [gsOk]
            exact ⟨by simp [hk], by rw [gsL_snoc, hk]; rfl⟩
          go_wp2_with fail
          go_roundw
          case rel => exact ⟨j + 1, g, rfl, by omega, by go_num, by rw [HF.out.1], (by rw [HF.out.2]; exact HV.out : RI.IntsOn _ _ _ _), HB⟩
          case measure => simp [intOf]; omega
        · have hd0 : (x == 0) = false := by simpa using h0
          have hC := HC.out wr (HBX.out.trans (HB.out.mono hsX.out))
          go_wp2_with fail
          go_at_call 87; refine hC.mono ?_; rintro e w7 ⟨rfl, h7⟩
          have HB7 : Hid (Below w5.heap.size w5 w7) := seq HB.out h7
          have HV7 : Hid (RI.IntsOn w7 w5.heap.size g (gsL G (ll.take j))) := HV.out.keep (But.of_below (l := []) h7) (fun k _ => by simp)
          clear hC h7 hc HV HB
          by_cases hgt : G < x
          · have hdg : decide (G < x) = true := decide_eq_true hgt
            have HF : Hid ((dm && (ll.take (j + 1)).all (gsOk G)) = false ∧ gsL G (ll.take (j + 1)) = gsL G (ll.take j)) := by
              rw [HTK.out]
              have hk : gsOk G x = false := by simp [gsOk]; omega
              exact ⟨by simp [hk], by rw [gsL_snoc, hk]; rfl⟩
            go_wp2_with fail
            go_roundw
            case rel => exact ⟨j + 1, g, rfl, by omega, by go_num, by rw [HF.out.1], (by rw [HF.out.2]; exact HV7.out : RI.IntsOn _ _ _ _), HB7⟩
            case measure => simp [intOf]; omega
          · have hdg : decide (G < x) = false := decide_eq_false hgt
            have HF : Hid ((dm && (ll.take (j + 1)).all (gsOk G)) = dq ∧ gsL G (ll.take (j + 1)) = gsL G (ll.take j) ++ [gw x]) := by
              rw [HTK.out]
              have hk : gsOk G x = true := by simp [gsOk]; omega
              exact ⟨by rw [← HDQ.out]; simp [hk], by rw [gsL_snoc, hk]; rfl⟩
            obtain ⟨y, hy⟩ : ∃ y, IntKind.u64.wrap (x - 1) = y := ⟨_, rfl⟩
            obtain ⟨gx, hgx⟩ : ∃ gx, IntKind.i64.wrap y = gx := ⟨_, rfl⟩
            have HGX : Hid (gw x = gx) := by
              show gw x = gx
              unfold gw; rw [hy, hgx]
            have hOO := HV7.out.own
            have hlj : (gsL G (ll.take j)).length ≤ 257 := by
              unfold gsL
              rw [List.length_map]
              refine Nat.le_trans (List.length_filter_le _ _) ?_
              rw [List.length_take]; have := HLN.out; omega
            have hsz7 := HB7.out.size
            generalize hln : (gsL G (ll.take j)).length = ln at *
            have HLJ : Hid ((gsL G (ll.take j)).length = ln) := hln
            clear hln
            go_wp2_with (at_builtin; refine wpList_append_own _ rfl _ _ 27 rfl w5.heap.size 3 i3 (.int .i64 0) 1 8 Tryz.underlying27 hi3 hz03 hz13 hz23 rfl (by decide) _ _ _ rfl (hOO.alloc _) ⟨w7.heap.size, 0, none⟩ 1 1 [.int .i64 gx] rfl rfl (cell_one_new _ _ _) (ints_oneCell .i64 [gx]) (by unfold maxLen; omega) (by omega) (by simp; omega) ?_; intro v' w9 hown' hgrow2 hnil2)
            have HB9 : Hid (Below w5.heap.size w5 w9) := (HB7.out.alloc HB7.out.size _).grown hgrow2 (by simp; omega) (fun k hk => (hOO.lt k hk).1)
            have HV9 : Hid (RI.IntsOn w9 w5.heap.size v' (gsL G (ll.take (j + 1)))) := ⟨by
              rw [HF.out.2, List.map_append, List.length_append, HLJ.out, HGX.out]
              exact hown'⟩
            clear hown' hgrow2 hnil2 hOO
            go_wp2_with fail
            go_roundw
            case rel => exact ⟨j + 1, v', rfl, by omega, by go_num, by rw [HF.out.1], HV9, HB9⟩
            case measure => simp [intOf]; omega
      · obtain rfl : j = ll.length := by omega
        have HF : Hid (RI.IntsOn wr w.heap.size g (gsL G ll)) := by
          have := HV.out
          rw [List.take_length] at this
          exact this.mono hsX.out
        have HD : Hid ((dm && (ll.take ll.length).all (gsOk G)) = (dm && ll.all (gsOk G))) := by
          show _ = _
          rw [List.take_length]
        have HBF : Hid (Below w.heap.size w wr) := HBX.out.trans (HB.out.mono hsX.out)
        have hgd : decide ((ll.length : Int) < (ll.length : Int)) = false := by simp
        rw [HD.out]
        clear HV HB
        go_wp2_with fail
        go_returns
        exact ⟨g, by rw [hdm]; rfl, HF.out, HBF.out⟩
end Go.Proofs.YthhlklfioipmgaaGreat

namespace Go.Proofs.YthhlklfioipmgaaGreat
open Go Go.RowKit
set_option linter.unusedVariables false
set_option maxRecDepth 100000
set_option linter.unusedSimpArgs false

def rpaM : PM RpT := rpPM 0 1 0 (fun y => wd (20 + 1 * 264 + 1 * 3) 4 2 y 1)
def rpaS0 : St := fresh (fun _ => 0)
def rpaS1 : St := (rpaM.steps 0 295 2 (rpStart 2 true, rpaS0)).2
def rpaS2 : St := (rpaM.steps 0 295 9 (rpStart 3 true, rpaS1)).2
def rpaT : RpT := (rpaM.steps 0 295 9 (rpStart 3 true, rpaS1)).1
theorem rpa_first : (rpaM.ax (rpaM.steps 0 295 2 (rpStart 2 true, rpaS0)).1).isNone = true := by decide +kernel
theorem rpa_list : gsL 4 (rgsL 1 4 0 295 rpaS2) = [2, 3] := by decide +kernel
theorem rpa_right : (decide (rMany 1 0 295 rpaS2 ≤ 256) && (rgsL 1 4 0 295 rpaS2).all (gsOk 4)) = true := by decide +kernel
theorem rpa_done : (rpaM.ax rpaT).isNone = true := by decide +kernel
theorem rpa_holds : rpaT.holds = [] := by decide +kernel
theorem rpa_low1 : Low rpaS1 9 := (PM.steps_low rpaM 0 295 2 (rpStart 2 true, rpaS0) (low_fresh _)).more (by omega)

set_option maxHeartbeats 8000000 in
theorem rput_awake (w : World) : Calls Tryz.prog 41 #[] w fun e w' => e = .returned (.bool true) ∧ Below w.heap.size w w' := by
  have hL := lay_some 1 1 4 none 0 0 295 (fun _ => 0) (fun _ => 0) w (by omega) ⟨⟨by omega⟩, by omega, by omega, by omega⟩ (by omega) (fun h => absurd h (by omega)) (fun i h => absurd h (by omega))
  go_enter Tryz.func41, Tryz.ntmps41
  go_wp2_with fail
  go_at_call 9; refine hL.mono ?_; rintro e w1 ⟨cl, A, A', cap, cap', c, b, c', b', rfl, hLd⟩
  have HI1 : Hid (Is w1 136 A cap c b 295 rpaS0) := hLd.two.m
  have HY1 : Hid (Lay w1 cl 1 1 4) := hLd.lay
  have HB1 : Hid (Below w.heap.size w w1) := hLd.below
  have hne : Hid (cl ≠ c ∧ cl ≠ b) := lay_ne hLd.lay (by decide) hLd.two.m (by omega)
  have hup : Hid (w.heap.size ≤ c ∧ w.heap.size ≤ b) := ⟨hLd.up.2.1, hLd.up.2.2.1⟩
  have hGM : (((rpCp 0 (fun y => wd (20 + 1 * 264 + 1 * 3) 4 2 y 1) 1 1 4 0 cl).I)).Good rpaM := rp_good (by omega) (by omega) (by omega) (by omega)
  have HST : Hid (Steps rpaM ((rpCp 0 (fun y => wd (20 + 1 * 264 + 1 * 3) 4 2 y 1) 1 1 4 0 cl).I) (Rd.lay cl 1 1 4) 37 0) := rp_steps (by omega) (by omega) (by omega) (by omega)
  have HRF : Hid (c ∉ ((Rd.lay cl 1 1 4)).B ∧ b ∉ ((Rd.lay cl 1 1 4)).B) := ⟨fun h => hne.out.1 (List.mem_singleton.1 h).symm, fun h => hne.out.2 (List.mem_singleton.1 h).symm⟩
  have hNA := rp_new_at w1 cl 0 0 2 1 1 4 (fun y => wd (20 + 1 * 264 + 1 * 3) 4 2 y 1) true HY1.out (by omega)
  clear hL hLd hne
  go_wp2_with fail
  go_at_call 36; refine hNA.mono ?_; rintro e w2 ⟨xa, La, rfl, ha1, ha2, ha3, -⟩
  have HSA : Hid (Solo ((rpCp 0 (fun y => wd (20 + 1 * 264 + 1 * 3) 4 2 y 1) 1 1 4 0 cl).I) (Rd.lay cl 1 1 4) w w2 A cap c b 295 rpaS0 xa (rpStart 2 true) La) := Solo.begin HI1.out ha2 HB1.out hup.out ha1 ha3 HY1.out (fun k hk => by obtain rfl : k = cl := List.mem_singleton.1 hk; exact HY1.out.lt) HRF.out
  clear hNA ha1 ha2 ha3 HI1 HY1 HB1
  have hS1 := HSA.out.step hGM HST.out (fun Y h => h) (fun k hk => hk) (by omega) ((low_fresh _).more (by omega) : Low rpaS0 1000000)
  go_wp2_with fail
  go_at_call 37; refine hS1.mono ?_; rintro e w3 ⟨rfl, L1, hs1⟩
  have HS1 : Hid (Solo ((rpCp 0 (fun y => wd (20 + 1 * 264 + 1 * 3) 4 2 y 1) 1 1 4 0 cl).I) (Rd.lay cl 1 1 4) w w3 A cap c b 295 (rpaM.steps 0 295 1 (rpStart 2 true, rpaS0)).2 xa (rpaM.steps 0 295 1 (rpStart 2 true, rpaS0)).1 L1) := hs1
  clear hS1 hs1 HSA
  have hS2 := HS1.out.step hGM HST.out (fun Y h => h) (fun k hk => hk) (by omega) ((PM.steps_low rpaM 0 295 1 (rpStart 2 true, rpaS0) (low_fresh _)).more (by omega))
  rw [show rpaM.goT 295 (rpaM.steps 0 295 1 (rpStart 2 true, rpaS0)).1 (rpaM.steps 0 295 1 (rpStart 2 true, rpaS0)).2 = (rpaM.steps 0 295 2 (rpStart 2 true, rpaS0)).1 by rw [PM.steps_succ rpaM 0 295 1], show rpaM.goS 0 295 (rpaM.steps 0 295 1 (rpStart 2 true, rpaS0)).1 (rpaM.steps 0 295 1 (rpStart 2 true, rpaS0)).2 = rpaS1 by unfold rpaS1; rw [PM.steps_succ rpaM 0 295 1], rpa_first] at hS2
  go_wp2_with fail
  go_at_call 37; refine hS2.mono ?_; rintro e w4 ⟨rfl, L2, hs2⟩
  have HI4 : Hid (Is w4 136 A cap c b 295 rpaS1) := hs2.mem
  have HY4 : Hid (Lay w4 cl 1 1 4) := hs2.rd
  have HB4 : Hid (Below w.heap.size w w4) := hs2.below
  clear hS2 hs2 HS1
  have hNB := rp_new_at w4 cl 0 0 3 1 1 4 (fun y => wd (20 + 1 * 264 + 1 * 3) 4 2 y 1) true HY4.out (by omega)
  go_wp2_with fail
  go_at_call 36; refine hNB.mono ?_; rintro e w5 ⟨xb, Lb, rfl, hb1, hb2, hb3, -⟩
  have HSB : Hid (Solo ((rpCp 0 (fun y => wd (20 + 1 * 264 + 1 * 3) 4 2 y 1) 1 1 4 0 cl).I) (Rd.lay cl 1 1 4) w w5 A cap c b 295 (rpaM.steps 0 295 0 (rpStart 3 true, rpaS1)).2 xb (rpaM.steps 0 295 0 (rpStart 3 true, rpaS1)).1 Lb) := Solo.begin HI4.out hb2 HB4.out hup.out hb1 hb3 HY4.out (fun k hk => by obtain rfl : k = cl := List.mem_singleton.1 hk; exact HY4.out.lt) HRF.out
  clear hNB hb1 hb2 hb3 HI4 HY4 HB4
  go_wp2_with fail
  have HLO : Hid (∀ q : Nat, q ≤ 9 → Low (rpaM.steps 0 295 q (rpStart 3 true, rpaS1)).2 1000000) := fun q hq => (PM.steps_low rpaM 0 295 q (rpStart 3 true, rpaS1) rpa_low1).more (by omega)
  go_loopw [8] (fun k wi => ∃ (q : Nat) (L : List Nat), q ≤ 9 ∧ k = .int .i64 q ∧ Hid (Solo ((rpCp 0 (fun y => wd (20 + 1 * 264 + 1 * 3) 4 2 y 1) 1 1 4 0 cl).I) (Rd.lay cl 1 1 4) w wi A cap c b 295 (rpaM.steps 0 295 q (rpStart 3 true, rpaS1)).2 xb (rpaM.steps 0 295 q (rpStart 3 true, rpaS1)).1 L)) (fun k _ => 9 - (intOf k).toNat)
  case atStart => exact ⟨0, _, by omega, rfl, HSB⟩
  case round =>
    clear HSB
    obtain ⟨q, L, hq, rfl, HS⟩ := hrel
    by_cases hq9 : q < 9
    · have hSt := HS.out.step hGM HST.out (fun Y h => h) (fun k hk => hk) (by omega) (HLO.out q hq)
      rw [show rpaM.goS 0 295 (rpaM.steps 0 295 q (rpStart 3 true, rpaS1)).1 (rpaM.steps 0 295 q (rpStart 3 true, rpaS1)).2 = (rpaM.steps 0 295 (q + 1) (rpStart 3 true, rpaS1)).2 by rw [PM.steps_succ], show rpaM.goT 295 (rpaM.steps 0 295 q (rpStart 3 true, rpaS1)).1 (rpaM.steps 0 295 q (rpStart 3 true, rpaS1)).2 = (rpaM.steps 0 295 (q + 1) (rpStart 3 true, rpaS1)).1 by rw [PM.steps_succ]] at hSt
      have hq1 : (q : Int) < 9 := by omega
      have hq0 : (0 : Int) ≤ (q : Int) := by omega
      clear HS
      go_wp2_with fail
      go_at_call 37; refine hSt.mono ?_; rintro e w4 ⟨rfl, L', hS'⟩
      have HS' : Hid _ := hS'
      clear hSt hS'
      go_wp2_with fail
      go_roundw
      case rel => exact ⟨q + 1, L', by omega, by go_num, HS'⟩
      case measure => simp [intOf]; omega
    · obtain rfl : q = 9 := by omega
      clear HLO
      rw [show ((9 : Nat) : Int) = 9 from rfl]
      have HI6 : Hid (Is wr 136 A cap c b 295 rpaS2) := HS.out.mem
      have hGs := rgs_any wr cl 1 1 4 0 A cap c b 295 rpaS2 HS.out.rd (by omega) (by omega) HI6.out (by omega)
      rw [rpa_list, rpa_right] at hGs
      have HMX : Hid (∀ Y, Below wr.heap.size wr Y → ((rpCp 0 (fun y => wd (20 + 1 * 264 + 1 * 3) 4 2 y 1) 1 1 4 0 cl).I) Y xb rpaT L) := fun Y hY => hGM.below HS.out.mach hY
      have HBF : Hid (Below w.heap.size w wr) := HS.out.below
      clear HS HI6
      go_wp2_with fail
      go_at_call 51; refine hGs.mono ?_; rintro e w7 ⟨v, rfl, hv, hb7⟩
      have HV : Hid (RI.SeesL w7 v [2, 3]) := RI.IntsOn.sees hv
      have HB7 : Hid (Below wr.heap.size wr w7) := hb7
      have hD : Calls Tryz.prog 39 #[.pointer (some ⟨xb, 0, none⟩)] w7 fun e w' => e = .returned (.bool true) ∧ w7 = w' := by
        obtain ⟨nx, q1, q2⟩ := hGM.next (HMX.out w7 HB7.out)
        rw [rpa_done] at q2
        rw [← q2]
        exact done_rput w7 xb nx q1
      clear hGs hv hb7
      go_wp2_with fail
      go_at_call 39; refine hD.mono ?_; rintro e w8 ⟨rfl, rfl⟩
      clear hD
      have hSm := RI.lsame_any (w7.alloc (.cells #[.int .i64 2, .int .i64 3] 3)) v _ [2, 3] (by decide) (HV.out.below ((Below.refl _ _).alloc (Nat.le_refl _) _)) (lit2_sees w7 2 3)
      have HA8 : Hid (Below w7.heap.size w7 (w7.alloc (.cells #[.int .i64 2, .int .i64 3] 3))) := (Below.refl _ _).alloc (Nat.le_refl _) _
      go_wp2_with fail
      go_at_call 16; refine hSm.mono ?_; rintro e w9 ⟨rfl, hb9⟩
      have HB9 : Hid (Below wr.heap.size wr w9) := seq HB7.out (seq HA8.out hb9)
      have hHo := rp_holds (HMX.out w9 HB9.out)
      rw [rpa_holds] at hHo
      clear hSm hb9 HA8 HV HB7
      go_wp2_with fail
      go_at_call 100; refine hHo.mono ?_; rintro e w10 ⟨vh, rfl, hvh, hb10⟩
      obtain ⟨Ah, ch, rfl, -, -⟩ := hvh
      have HFF : Hid (Below w.heap.size w w10) := seq HBF.out (seq HB9.out hb10)
      clear hHo hb10
      go_wp2_with fail
      go_ret
      exact ⟨rfl, HFF.out⟩
end Go.Proofs.YthhlklfioipmgaaGreat

namespace Go.Proofs.YthhlklfioipmgaaGreat
open Go Go.RowKit
set_option linter.unusedVariables false
set_option maxRecDepth 100000
set_option linter.unusedSimpArgs false

theorem WordsOn.keep {w w' : World} {base : Nat} {v : Value} {l : List Int} {ll : List Nat} (h : WordsOn w base v l) (hB : But ll w w') (hk : ∀ k ∈ rowB v, k ∉ ll) : WordsOn w' base v l := by
  refine ⟨h.own.1, ?_⟩
  rcases h.own.2 with h0 | ⟨gb, cp, cur, e0, hb, hh, rest⟩
  · exact .inl h0
  · exact .inr ⟨gb, cp, cur, e0, hb, (hB.block gb (block_lt hh) (hk gb (rowB_mem (by rw [e0]; rfl)))).trans hh, rest⟩
theorem WordsOn.up {w : World} {base : Nat} {v : Value} {l : List Int} (h : WordsOn w base v l) : ∀ k ∈ rowB v, base ≤ k ∧ k < w.heap.size := fun k hk => h.own.lt k (mem_rowB hk)
/-- A list of words that is only read. -/
def Rd.wrd (base : Nat) (v : Value) (l : List Int) : Rd := ⟨rowB v, fun w => WordsOn w base v l, fun w w' ll h hb hk => h.keep hb hk⟩
theorem WordsOn.at' {w : World} {base m cap : Nat} {A : Option Addr} {l : List Int} (h : WordsOn w base (.slice A m cap) l) (h0 : 0 < l.length) : ∃ gb : Nat, A = some ⟨gb, 0, none⟩ ∧ gb < w.heap.size ∧ l.length ≤ cap ∧ ∀ j, j < l.length → w.cell? ⟨gb, j, none⟩ = some (.int .u64 (l.getD j 0)) := by
  rcases h.own.2 with ⟨e, h1⟩ | ⟨gb, cp, cur, e, hb, hh, hnc, hcm, hcs, htk⟩
  · omega
  · injection e with e1 e2 e3
    refine ⟨gb, e1, block_lt hh, by omega, fun j hj => ?_⟩
    obtain ⟨gb', cp', e', -, hc⟩ := h.cell hj
    injection e' with e4 e5 e6
    rw [e1] at e4
    injection e4 with e4
    injection e4 with e4
    rw [e4]; exact hc
/-- A ring's words, from h on. -/
def rgW (f : Nat → Int) (h : Int) (m : Nat) : List Int := (List.range m).map fun (i : Nat) => f (28 + (h + (i : Int)) % 256).toNat
theorem rgW_len (f : Nat → Int) (h : Int) (m : Nat) : (rgW f h m).length = m := by unfold rgW; simp
theorem rgW_at (f : Nat → Int) (h : Int) (m j : Nat) (hj : j < m) : (rgW f h m).getD j 0 = f (28 + (h + (j : Int)) % 256).toNat := by
  unfold rgW
  rw [List.getD_eq_getElem?_getD, List.getElem?_map, List.getElem?_range hj]
  rfl
theorem rf_peek {s : St} {i : Int} (h : 0 ≤ i ∧ i < 407) : peekT 407 s i = s.f i.toNat := if_pos h
theorem rf_words {s : St} {h : Int} {m : Nat} (hb : 0 ≤ h ∧ h < 4294967296) (h1 : s.f 21 = h) (h2 : s.f 22 = (h + m) % 4294967296) (hm : m ≤ 256) : rwL 1 0 407 s (peekT 407 s (wd 20 1 264 0 1)) (rK 1 0 407 s) = rgW s.f h m := by
  have p1 : peekT 407 s (wd 20 1 264 0 1) = h := by rw [rf_w (by omega), rf_peek (by omega)]; exact h1
  have p2 : peekT 407 s (wd 20 1 264 0 2) = (h + m) % 4294967296 := by rw [rf_w (by omega), rf_peek (by omega)]; exact h2
  have hM : rMany 1 0 407 s = m := by unfold rMany; rw [p1, p2]; omega
  have hK : rK 1 0 407 s = m := by unfold rK; rw [hM, if_pos (by omega)]; omega
  rw [p1, hK]
  unfold rwL rgW
  refine List.map_congr_left (fun i hi => ?_)
  have := List.mem_range.1 hi
  unfold rwAt
  rw [show IntKind.u64.wrap (h + (i : Int)) = h + (i : Int) from wrap_u64 (by omega), rf_w (by omega), rf_peek (by omega)]
  congr 1
  omega
theorem rf_next {s : St} (h : s.f 23 = 0) : peekT 407 s (wd 20 1 264 0 3) = 0 := by rw [rf_w (by omega), rf_peek (by omega)]; exact h
theorem rf_vals {h : Int} {m : Nat} (hh : 0 ≤ h ∧ h < 4294967296) (i : Nat) : 0 ≤ rfV h m i ∧ rfV h m i ≤ 18446744073709551615 := by
  unfold rfV; (repeat' split) <;> omega
theorem rf_m257 (b : Nat) : Int.tmod (b : Int) 257 = ((b % 257 : Nat) : Int) := by rw [Int.tmod_eq_emod_of_nonneg (by omega)]; omega
theorem rf_m60 (b : Nat) : Int.tmod (b : Int) 60 = ((b % 60 : Nat) : Int) := by rw [Int.tmod_eq_emod_of_nonneg (by omega)]; omega
theorem rf_w64 (b : Nat) (h : b ≤ 65535) : IntKind.i64.wrap (b : Int) = (b : Int) := by simp [IntKind.wrap, IntKind.bits, IntKind.signed]; omega
theorem rf_wr64 (b : Nat) (h : b ≤ 65535) : wrap64 (b : Int) = (b : Int) := by unfold wrap64; omega
theorem rf_succ {m m1 : Nat} (h : m + 1 = m1) (h2 : m < 256) : wrap64 ((m : Int) + 1) = (m1 : Int) := by subst h; unfold wrap64; omega
theorem rf_wr64' (m : Nat) (h : m < 256) : wrap64 ((m : Int) + 1) = (m : Int) + 1 := by unfold wrap64; omega
set_option maxHeartbeats 16000000 in
theorem rputFull_walk (h : Int) (mn gg : Nat) (w : World) (hh : 0 ≤ h ∧ h < 4294967296) (hmn : mn ≤ 65535) (hgg : gg ≤ 255) :
    Calls Tryz.prog 5 #[.int .u32 h, .int .u16 mn, .int .u8 gg] w fun e w' => e = .returned (.bool true) ∧ Below w.heap.size w w' := by
  obtain ⟨m, hm⟩ : ∃ m, mn % 257 = m := ⟨_, rfl⟩
  obtain ⟨y, hy⟩ : ∃ y, gg % 60 = y := ⟨_, rfl⟩
  have HM : Hid (m ≤ 256 ∧ y < 60 ∧ 0 ≤ h ∧ h < 4294967296) := ⟨by omega, by omega, hh⟩
  have t3 : IntKind.i64.wrap (mn : Int) = (mn : Int) := rf_w64 mn hmn
  have t4 : IntKind.i64.wrap (gg : Int) = (gg : Int) := rf_w64 gg (by omega)
  have t5 : wrap64 (m : Int) = (m : Int) := rf_wr64 m (by omega)
  have t6 : wrap64 (y : Int) = (y : Int) := rf_wr64 y (by omega)
  have HFU : Hid (∀ W, Calls Tryz.prog 34 #[.agg #[.int .i64 1, .int .i64 1, .int .i64 60], .int .u32 h, .int .i64 m] W fun e w' => ∃ E cap, e = .returned (.agg #[.int .i64 1, .int .i64 1, .int .i64 60, .slice E (m + 2) cap]) ∧ SeesP w' w'.heap.size E (m + 2) (rfA h) (rfV h m) ∧ Below W.heap.size W w') := fun W => full_any W h m (by omega) hh
  have HLA : Hid (∀ (W : World) (E : Option Addr) (cp : Nat), SeesP W W.heap.size E (m + 2) (rfA h) (rfV h m) → Calls Tryz.prog 9 #[.agg #[.int .i64 1, .int .i64 1, .int .i64 60, .slice E (m + 2) cp]] W fun e w' => ∃ (cl : Nat) (A A' : Option Addr) (cap cap' c b c' b' : Nat), e = .returned (.tuple #[.pointer (some ⟨cl, 0, none⟩), .pointer (some ⟨c, 0, none⟩), .pointer (some ⟨c', 0, none⟩), .bool true]) ∧ Laid W w' 1 1 60 407 (putF (rfA h) (rfV h m) 407 (m + 2)) cl A A' cap cap' c b c' b') := fun W E cp hs => lay_some 1 1 60 E (m + 2) cp 407 (rfA h) (rfV h m) W (by omega) ⟨⟨by omega⟩, by omega, by omega, by omega⟩ (by omega) hs (fun i hi => rf_vals hh i)
  have HR0 : Hid (Rf (fresh (putF (rfA h) (rfV h m) 407 (m + 2))) h m) := rf_start hh (by omega)
  have HC0 : Hid (Below w.heap.size w (w.alloc (.cells #[.int .i64 1, .int .i64 1, .int .i64 60] 23))) := (Below.refl _ _).alloc (Nat.le_refl _) _
  have t1 : Int.tmod (mn : Int) 257 = (m : Int) := by rw [← hm]; exact rf_m257 mn
  have t2 : Int.tmod (gg : Int) 60 = (y : Int) := by rw [← hy]; exact rf_m60 gg
  clear hm hy hh hmn hgg
  go_enter Tryz.func5, Tryz.ntmps5
  go_wp2_with fail
  go_at_call 34; refine (HFU.out _).mono ?_; rintro e w1 ⟨E, cp, rfl, hse, hb1⟩
  have hL := HLA.out w1 E cp hse
  have HB1 : Hid (Below w.heap.size w w1) := seq HC0.out hb1
  clear HFU HLA HC0 hse hb1 t1 t2 t3 t4 t5 t6
  go_wp2_with fail
  go_at_call 9; refine hL.mono ?_; rintro e w2 ⟨cl, A, A', cap, cap', c, b, c', b', rfl, hLd⟩
  have HB2 : Hid (Below w.heap.size w w2) := seq HB1.out hLd.below
  have HI2 : Hid (Is w2 136 A cap c b 407 (fresh (putF (rfA h) (rfV h m) 407 (m + 2)))) := hLd.two.m
  have HY2 : Hid (Lay w2 cl 1 1 60) := hLd.lay
  have hne : Hid (cl ≠ c ∧ cl ≠ b) := lay_ne hLd.lay (by decide) hLd.two.m (by omega)
  have hup : Hid (w.heap.size ≤ c ∧ w.heap.size ≤ b) := ⟨by have := hLd.up.2.1; have := HB1.out.size; omega, by have := hLd.up.2.2.1; have := HB1.out.size; omega⟩
  have HLW0 : Hid (Low (fresh (putF (rfA h) (rfV h m) 407 (m + 2))) 0) := low_fresh _
  generalize fresh (putF (rfA h) (rfV h m) 407 (m + 2)) = s0 at *
  have hW := rwords_any w2 cl 1 1 60 0 A cap c b 407 s0 HY2.out (by omega) HI2.out (by omega)
  rw [rf_words HR0.out.hb HR0.out.hd HR0.out.tl HM.out.1, rf_next HR0.out.nw] at hW
  clear hL hLd
  go_wp2_with fail
  go_at_call 35; refine hW.mono ?_; rintro e w3 ⟨vb, rfl, hvb, hb3⟩
  obtain ⟨Ab, cpb, rfl⟩ := hvb.slice
  rw [rgW_len] at hvb
  rw [rgW_len]
  have HB3 : Hid (Below w.heap.size w w3) := seq HB2.out hb3
  have HI3 : Hid (Is w3 136 A cap c b 407 s0) := HI2.out.below hb3
  have HY3 : Hid (Lay w3 cl 1 1 60) := HY2.out.below hb3 HY2.out.lt
  have hlo : Hid (c < w2.heap.size ∧ b < w2.heap.size ∧ cl < w2.heap.size) := ⟨HI2.out.lt, HI2.out.bl, HY2.out.lt⟩
  generalize w2.heap.size = B0 at hlo hvb
  have HV3 : Hid (WordsOn w3 B0 (.slice Ab m cpb) (rgW s0.f h m)) := hvb
  have hN := rp_new_at w3 cl 0 0 (y : Int) 1 1 60 (quGl 60) false HY3.out (by omega)
  clear hW hvb hb3 HI2 HY2
  go_wp2_with fail
  go_at_call 36; refine hN.mono ?_; rintro e w4 ⟨x, L0, rfl, hi0, hb4, hu4, -⟩
  have HZ0 : Hid (Solo ((rpCp 0 (quGl 60) 1 1 60 0 cl).I) ((Rd.lay cl 1 1 60).and (Rd.wrd B0 (.slice Ab m cpb) (rgW s0.f h m))) w w4 A cap c b 407 (rfM.steps 0 407 0 (rpStart (y : Int) false, s0)).2 x (rfM.steps 0 407 0 (rpStart (y : Int) false, s0)).1 L0) := Solo.begin HI3.out hb4 HB3.out hup.out hi0 hu4 ⟨HY3.out, HV3.out⟩ (fun k hk => by
    rcases List.mem_append.1 hk with h | h
    · have : k = cl := List.mem_singleton.1 h
      rw [this]; exact HY3.out.lt
    · exact (HV3.out.up k h).2) ⟨fun hm => by
    rcases List.mem_append.1 hm with h | h
    · exact hne.out.1 (List.mem_singleton.1 h).symm
    · have := (HV3.out.up c h).1; have := hlo.out; omega, fun hm => by
    rcases List.mem_append.1 hm with h | h
    · exact hne.out.2 (List.mem_singleton.1 h).symm
    · have := (HV3.out.up b h).1; have := hlo.out; omega⟩
  have HLO : Hid (∀ q : Nat, q ≤ 300 → Low (rfM.steps 0 407 q (rpStart (y : Int) false, s0)).2 1000000) := fun q hq => (PM.steps_low rfM 0 407 q (rpStart (y : Int) false, s0) HLW0.out).more (by omega)
  have HG : Hid (((rpCp 0 (quGl 60) 1 1 60 0 cl).I).Good rfM ∧ Steps rfM ((rpCp 0 (quGl 60) 1 1 60 0 cl).I) (Rd.lay cl 1 1 60) 37 0) := ⟨rp_good (by omega) (by omega) (by omega) (by omega), rp_steps (by omega) (by omega) (by omega) (by omega)⟩
  clear hN hi0 hb4 hu4 HI3 HY3 HB3 HV3 HB1 HB2 HLW0
  go_wp2_with fail
  go_loopw [17] (fun kk wi => ∃ (q : Nat) (L : List Nat), q ≤ 300 ∧ kk = .int .i64 q ∧ Hid (Solo ((rpCp 0 (quGl 60) 1 1 60 0 cl).I) ((Rd.lay cl 1 1 60).and (Rd.wrd B0 (.slice Ab m cpb) (rgW s0.f h m))) w wi A cap c b 407 (rfM.steps 0 407 q (rpStart (y : Int) false, s0)).2 x (rfM.steps 0 407 q (rpStart (y : Int) false, s0)).1 L)) (fun kk _ => 300 - (intOf kk).toNat)
  case atStart => exact ⟨0, L0, by omega, rfl, HZ0⟩
  case round =>
    clear HZ0
    obtain ⟨q, L, hq, rfl, HS⟩ := hrel
    by_cases hq9 : q < 300
    · have hSt := HS.out.stepUp HG.out.1 HG.out.2 (fun Y (h : (((Rd.lay cl 1 1 60).and (Rd.wrd B0 (.slice Ab m cpb) (rgW s0.f h m)))).P Y) => h.1) (fun k hk => List.mem_append_left _ hk) (by omega) (HLO.out q hq)
      rw [show rfM.goS 0 407 (rfM.steps 0 407 q (rpStart (y : Int) false, s0)).1 (rfM.steps 0 407 q (rpStart (y : Int) false, s0)).2 = (rfM.steps 0 407 (q + 1) (rpStart (y : Int) false, s0)).2 by rw [PM.steps_succ], show rfM.goT 407 (rfM.steps 0 407 q (rpStart (y : Int) false, s0)).1 (rfM.steps 0 407 q (rpStart (y : Int) false, s0)).2 = (rfM.steps 0 407 (q + 1) (rpStart (y : Int) false, s0)).1 by rw [PM.steps_succ]] at hSt
      have hq1 : (q : Int) < 300 := by omega
      have hq0 : (0 : Int) ≤ (q : Int) := by omega
      clear HS
      go_wp2_with fail
      go_at_call 37; refine hSt.mono ?_; rintro e w5 ⟨rfl, hsz', L', hS'⟩
      have HS' : Hid _ := hS'
      clear hSt hS'
      go_wp2_with fail
      go_roundw
      case rel => exact ⟨q + 1, L', by omega, by go_num, HS'⟩
      case measure => simp [intOf]; omega
    · obtain rfl : q = 300 := by omega
      clear HLO
      rw [show ((300 : Nat) : Int) = 300 from rfl]
      by_cases hm : m < 256
      · obtain ⟨s', d, e1, hf, hbad⟩ := rf_room (g := (y : Int)) (n := 407) rfl HR0.out hm ⟨by omega, by have := HM.out; omega⟩
        have HS : Hid (Solo ((rpCp 0 (quGl 60) 1 1 60 0 cl).I) ((Rd.lay cl 1 1 60).and (Rd.wrd B0 (.slice Ab m cpb) (rgW s0.f h m))) w wr A cap c b 407 s' x (.over d) L) := (by have h := HS.out; rw [e1] at h; exact h : Solo ((rpCp 0 (quGl 60) 1 1 60 0 cl).I) ((Rd.lay cl 1 1 60).and (Rd.wrd B0 (.slice Ab m cpb) (rgW s0.f h m))) w wr A cap c b 407 s' x (.over d) L)
        obtain ⟨m1, hm1⟩ : ∃ m1 : Nat, m + 1 = m1 := ⟨_, rfl⟩
        have hb := HM.out.2.2
        have h21 : s'.f 21 = h := by rw [hf, if_neg (by omega), if_neg (by omega)]; exact HR0.out.hd
        have h22 : s'.f 22 = (h + (m1 : Int)) % 4294967296 := by rw [hf, if_pos rfl]; omega
        have h23 : s'.f 23 = 0 := by rw [hf, if_neg (by omega), if_neg (by omega)]; exact HR0.out.nw
        have h8 : peekT 407 s' 8 = 0 := by rw [rf_peek (by omega), hf, if_neg (by decide), if_neg (by omega)]; exact HR0.out.z 8 (by omega)
        have HAT : Hid (∀ j, j < m → (rgW s'.f h m1).getD j 0 = (rgW s0.f h m).getD j 0) := fun j hj => by
          rw [rgW_at _ _ _ _ (by omega), rgW_at _ _ _ _ hj, hf, if_neg (by omega), if_neg (by omega)]
        have HAN : Hid ((rgW s'.f h m1).getD m 0 = (y : Int) + 1) := (by
          rw [rgW_at _ _ _ _ (by omega), hf, if_neg (by omega), if_pos rfl] : (rgW s'.f h m1).getD m 0 = (y : Int) + 1)
        have HMM : Hid (m + 1 = m1 ∧ m < 256) := ⟨hm1, hm⟩
        have HI5 : Hid (Is wr 136 A cap c b 407 s') := HS.out.mem
        have HY5 : Hid (Lay wr cl 1 1 60) := HS.out.rd.1
        have HVB : Hid (WordsOn wr B0 (.slice Ab m cpb) (rgW s0.f h m)) := HS.out.rd.2
        have HBW : Hid (Below w.heap.size w wr) := HS.out.below
        have HMA : Hid (∀ Y, Below wr.heap.size wr Y → ((rpCp 0 (quGl 60) 1 1 60 0 cl).I) Y x (RpT.over d) L) := fun Y hY => HG.out.1.below HS.out.mach hY
        have hW := rwords_any wr cl 1 1 60 0 A cap c b 407 s' HY5.out (by omega) HI5.out (by omega)
        rw [rf_words hb h21 h22 (by omega), rf_next h23] at hW
        clear HS
        go_wp2_with fail
        go_at_call 35; refine hW.mono ?_; rintro e w5 ⟨va, rfl, hva, hb5⟩
        obtain ⟨Aa, cpa, rfl⟩ := hva.slice
        rw [rgW_len] at hva
        rw [rgW_len]
        have HVA : Hid (WordsOn w5 wr.heap.size (.slice Aa m1 cpa) (rgW s'.f h m1)) := hva
        have HB5 : Hid (Below wr.heap.size wr w5) := hb5
        have hP8 := peek_any w5 A cap c b 407 s' 8 (HI5.out.below hb5) (by omega)
        rw [h8] at hP8
        generalize decide ((0 : Int) ≤ 8 ∧ (8 : Int) < ((407 : Nat) : Int)) = zz at hP8
        clear hW hva hb5
        go_wp2_with fail
        go_at_call 38; refine hP8.mono ?_; rintro e w6 ⟨rfl, rfl⟩
        have hD : Calls Tryz.prog 39 #[.pointer (some ⟨x, 0, none⟩)] w5 fun e w' => e = .returned (.bool true) ∧ w5 = w' := by
          obtain ⟨nx, u1, u2⟩ := HG.out.1.next (HMA.out w5 HB5.out)
          rw [show (rfM.ax (RpT.over d)) = none from rfl] at u2
          rw [show true = nx.isNone by rw [u2]; rfl]
          exact done_rput w5 x nx u1
        clear hP8
        obtain ⟨ga, eA, hga, hca, hcell⟩ := HVA.out.at' (by rw [rgW_len]; omega)
        rw [rgW_len] at hca hcell
        have hcm := hcell m (by omega)
        rw [HAN.out] at hcm
        obtain ⟨g1, hg1⟩ : ∃ g1 : Int, (y : Int) + 1 = g1 := ⟨_, rfl⟩
        rw [hg1] at hcm
        subst eA
        have hMv := rp_moves (HMA.out w5 HB5.out)
        rw [show (RpT.over d).moved = 0 from rfl] at hMv
        have HSA : Hid (∀ Y, Below w5.heap.size w5 Y → SeesU Y Y.heap.size (some ⟨ga, 0, none⟩) m (fun j => (rgW s0.f h m).getD j 0) ∧ SeesU Y Y.heap.size Ab m (fun j => (rgW s0.f h m).getD j 0)) := fun Y hY => ⟨fun h0 => ⟨ga, 0, rfl, Nat.lt_of_lt_of_le hga hY.size, fun j hj => by
          rw [Nat.zero_add]
          refine (hY.cell (p := ⟨ga, j, none⟩) hga).trans ?_
          rw [hcell j (by omega), HAT.out j hj]⟩, fun h0 => by
          obtain ⟨gb, eB, hgb, -, hcb⟩ := HVB.out.at' (by rw [rgW_len]; exact h0)
          have hlt : gb < w5.heap.size := Nat.lt_of_lt_of_le hgb HB5.out.size
          refine ⟨gb, 0, eB, Nat.lt_of_lt_of_le hlt hY.size, fun j hj => ?_⟩
          rw [Nat.zero_add]
          refine (hY.cell (p := ⟨gb, j, none⟩) hlt).trans ((HB5.out.cell (p := ⟨gb, j, none⟩) hgb).trans ?_)
          exact hcb j (by rw [rgW_len]; exact hj)⟩
        have k2 : IntKind.u64.wrap (y : Int) = (y : Int) := wrap_u64 (by have := HM.out; omega)
        have k3 : IntKind.u64.wrap ((y : Int) + 1) = g1 := by rw [← hg1]; exact wrap_u64 (by have := HM.out; omega)
        have k4 : (m : Int) < (m1 : Int) := by omega
        have k5 : (m : Int) < 256 := by omega
        have k6 : (0 : Int) ≤ (m : Int) := by omega
        have k7 : (m : Int) ≤ (cpa : Int) := by omega
        have k8 : (m : Int) ≤ (m1 : Int) := by omega
        have y1 : ((m : Int) != (m : Int)) = false := by simp
        have y2 : ((m1 : Int) != (m1 : Int)) = false := by simp
        have y9 : (m1 : Int) = (m : Int) + 1 := by omega
        have y4 : ((m1 : Int) != (m : Int) + 1) = false := by simp [y9]
        have y6 : ((m1 : Int) == (m : Int) + 1) = true := by simp [y9]
        have y3 : (g1 != g1) = false := by simp
        have hmx : Hid (m ≤ 1000000) := (by omega : m ≤ 1000000)
        have HW5 : Hid (Below w.heap.size w w5) := seq HBW.out HB5.out
        have k1 : wrap64 ((m : Int) + 1) = (m1 : Int) := rf_succ HMM.out.1 HMM.out.2
        clear hcell hga hca e1 hf hbad h21 h22 h23 h8 hg1 hm1 hm hb
        go_wp2_with fail
        go_at_call 39; refine hD.mono ?_; rintro e w7 ⟨rfl, rfl⟩
        clear hD
        go_wp2_with fail
        go_at_call 40; refine hMv.mono ?_; rintro e w7 ⟨rfl, rfl⟩
        clear hMv
        go_wp2_with fail
        go_at_call 41; refine (rput_awake _).mono ?_; rintro e w7 ⟨rfl, hb7⟩
        have hSm := same_any w7 (some ⟨ga, 0, none⟩) Ab m cpa cpb _ hmx.out (HSA.out w7 hb7).1 (HSA.out w7 hb7).2
        have HW7 : Hid (Below w.heap.size w w7) := seq HW5.out hb7
        clear HSA hb7
        go_wp2_with fail
        go_at_call 23; refine hSm.mono ?_; rintro e w8 ⟨rfl, kk, rfl⟩
        clear hSm
        go_wp2_with fail
        go_ret
        exact ⟨rfl, Below.drewN' HW7.out kk⟩
      · obtain rfl : m = 256 := by have := HM.out.1; omega
        obtain ⟨s', d, q9, e1, g21, g22, h23, gc, g8, g7, hbad⟩ := rf_full (g := (y : Int)) (n := 407) rfl HR0.out ⟨by omega, by have := HM.out; omega⟩
        have HS : Hid (Solo ((rpCp 0 (quGl 60) 1 1 60 0 cl).I) ((Rd.lay cl 1 1 60).and (Rd.wrd B0 (.slice Ab 256 cpb) (rgW s0.f h 256))) w wr A cap c b 407 s' x (.rel d q9 .over) L) := (by have h := HS.out; rw [e1] at h; exact h : Solo ((rpCp 0 (quGl 60) 1 1 60 0 cl).I) ((Rd.lay cl 1 1 60).and (Rd.wrd B0 (.slice Ab 256 cpb) (rgW s0.f h 256))) w wr A cap c b 407 s' x (.rel d q9 .over) L)
        obtain ⟨h2, hh2⟩ : ∃ h2 : Int, (h + 128) % 4294967296 = h2 := ⟨_, rfl⟩
        have hb := HM.out.2.2
        have hb2 : 0 ≤ h2 ∧ h2 < 4294967296 := by omega
        have h21 : s'.f 21 = h2 := by rw [g21, hh2]
        have h22 : s'.f 22 = (h2 + ((128 : Nat) : Int)) % 4294967296 := by rw [g22]; omega
        have h8 : peekT 407 s' 8 = 129 := by rw [rf_peek (by omega)]; exact g8
        have h7 : peekT 407 s' 7 = (y : Int) + 1 := by rw [rf_peek (by omega)]; exact g7
        have HAT : Hid (∀ j, j < 128 → (rgW s'.f h2 128).getD j 0 = (rgW s0.f h 256).getD (128 + j) 0) := fun j hj => by
          rw [rgW_at _ _ _ _ hj, rgW_at _ _ _ _ (by omega), gc _ (by omega) (by omega)]
          congr 1
          omega
        have HI5 : Hid (Is wr 136 A cap c b 407 s') := HS.out.mem
        have HY5 : Hid (Lay wr cl 1 1 60) := HS.out.rd.1
        have HVB : Hid (WordsOn wr B0 (.slice Ab 256 cpb) (rgW s0.f h 256)) := HS.out.rd.2
        have HBW : Hid (Below w.heap.size w wr) := HS.out.below
        have HMA : Hid (∀ Y, Below wr.heap.size wr Y → ((rpCp 0 (quGl 60) 1 1 60 0 cl).I) Y x (RpT.rel d q9 .over) L) := fun Y hY => HG.out.1.below HS.out.mach hY
        have hW := rwords_any wr cl 1 1 60 0 A cap c b 407 s' HY5.out (by omega) HI5.out (by omega)
        rw [rf_words hb2 h21 h22 (by omega), rf_next h23] at hW
        clear HS
        go_wp2_with fail
        go_at_call 35; refine hW.mono ?_; rintro e w5 ⟨va, rfl, hva, hb5⟩
        obtain ⟨Aa, cpa, rfl⟩ := hva.slice
        rw [rgW_len] at hva
        rw [rgW_len]
        have HVA : Hid (WordsOn w5 wr.heap.size (.slice Aa 128 cpa) (rgW s'.f h2 128)) := hva
        have HB5 : Hid (Below wr.heap.size wr w5) := hb5
        have hP8 := peek_any w5 A cap c b 407 s' 8 (HI5.out.below hb5) (by omega)
        rw [h8] at hP8
        generalize decide ((0 : Int) ≤ 8 ∧ (8 : Int) < ((407 : Nat) : Int)) = zz at hP8
        clear hW hva hb5
        go_wp2_with fail
        go_at_call 38; refine hP8.mono ?_; rintro e w6 ⟨rfl, rfl⟩
        have hD : Calls Tryz.prog 39 #[.pointer (some ⟨x, 0, none⟩)] w5 fun e w' => e = .returned (.bool true) ∧ w5 = w' := by
          obtain ⟨nx, u1, u2⟩ := HG.out.1.next (HMA.out w5 HB5.out)
          rw [show (rfM.ax (RpT.rel d q9 .over)) = none from rfl] at u2
          rw [show true = nx.isNone by rw [u2]; rfl]
          exact done_rput w5 x nx u1
        clear hP8
        obtain ⟨ga, eA, hga, hca, hcell⟩ := HVA.out.at' (by rw [rgW_len]; omega)
        rw [rgW_len] at hca hcell
        obtain ⟨gb, eB, hgb, hcb2, hcb⟩ := HVB.out.at' (by rw [rgW_len]; omega)
        rw [rgW_len] at hcb2 hcb
        subst eA eB
        obtain ⟨g1, hg1⟩ : ∃ g1 : Int, (y : Int) + 1 = g1 := ⟨_, rfl⟩
        have hMv := rp_moves (HMA.out w5 HB5.out)
        rw [show (RpT.rel d q9 .over).moved = 129 from rfl] at hMv
        have hlt : gb < w5.heap.size := Nat.lt_of_lt_of_le hgb HB5.out.size
        have HSA : Hid (∀ Y, Below w5.heap.size w5 Y → SeesU Y Y.heap.size (some ⟨ga, 0, none⟩) 128 (fun j => (rgW s'.f h2 128).getD j 0) ∧ SeesU Y Y.heap.size (some ⟨gb, 128, none⟩) 128 (fun j => (rgW s'.f h2 128).getD j 0)) := fun Y hY => ⟨fun h0 => ⟨ga, 0, rfl, Nat.lt_of_lt_of_le hga hY.size, fun j hj => by
          rw [Nat.zero_add]
          exact (hY.cell (p := ⟨ga, j, none⟩) hga).trans (hcell j (by omega))⟩, fun h0 => ⟨gb, 128, rfl, Nat.lt_of_lt_of_le hlt hY.size, fun j hj => by
          refine (hY.cell (p := ⟨gb, 128 + j, none⟩) hlt).trans ((HB5.out.cell (p := ⟨gb, 128 + j, none⟩) hgb).trans ?_)
          show _ = some (Value.int .u64 ((rgW s'.f h2 128).getD j 0))
          rw [HAT.out j hj]
          exact hcb (128 + j) (by omega)⟩⟩
        have hP7 := peek_any w5 A cap c b 407 s' 7 (HI5.out.below HB5.out) (by omega)
        rw [h7, hg1] at hP7
        generalize decide ((0 : Int) ≤ 7 ∧ (7 : Int) < ((407 : Nat) : Int)) = zz7 at hP7
        have HMv : Hid (∀ Y, Below w5.heap.size w5 Y → Calls Tryz.prog 40 #[.pointer (some ⟨x, 0, none⟩)] Y fun e w' => e = .returned (.int .i64 129) ∧ Y = w') := fun Y hY => by
          have h := rp_moves (HMA.out Y (seq HB5.out hY))
          exact h
        have k2 : IntKind.u64.wrap (y : Int) = (y : Int) := wrap_u64 (by have := HM.out; omega)
        have k3 : IntKind.u64.wrap ((y : Int) + 1) = g1 := by rw [← hg1]; exact wrap_u64 (by have := HM.out; omega)
        have k7 : (256 : Int) ≤ (cpb : Int) := by omega
        have y3 : (g1 == g1) = true := by simp
        have HW5 : Hid (Below w.heap.size w w5) := seq HBW.out HB5.out
        clear hcell hcb hga hca e1 hbad h21 h22 h23 h8 h7 hg1 hb hb2 hh2 hgb hlt g21 g22 gc g8 g7 hm hMv
        go_wp2_with fail
        go_at_call 39; refine hD.mono ?_; rintro e w7 ⟨rfl, rfl⟩
        clear hD
        go_wp2_with fail
        go_at_call 38; refine hP7.mono ?_; rintro e w7 ⟨rfl, rfl⟩
        clear hP7
        go_wp2_with fail
        go_at_call 41; refine (rput_awake _).mono ?_; rintro e w7 ⟨rfl, hb7⟩
        have HS7 := HSA.out w7 hb7
        have HS7' : Hid _ := HS7
        have HM7 : Hid (∀ kk, Calls Tryz.prog 40 #[.pointer (some ⟨x, 0, none⟩)] (w7.drewN kk) fun e w' => e = .returned (.int .i64 129) ∧ w7.drewN kk = w') := fun kk => HMv.out _ (Below.drewN' hb7 kk)
        have HW7 : Hid (Below w.heap.size w w7) := seq HW5.out hb7
        clear HSA hb7 HMv HS7
        go_wp2_with fail
        have hSm := same_any w7 (some ⟨ga, 0, none⟩) (some ⟨gb, 128, none⟩) 128 cpa (cpb - 128) _ (by omega) HS7'.out.1 HS7'.out.2
        clear HS7'
        go_at_call 23; refine hSm.mono ?_; rintro e w8 ⟨rfl, kk, rfl⟩
        have hMk := HM7.out kk
        clear hSm HM7
        go_wp2_with fail
        go_at_call 40; refine hMk.mono ?_; rintro e w8 ⟨rfl, rfl⟩
        clear hMk
        go_wp2_with fail
        go_ret
        exact ⟨rfl, Below.drewN' HW7.out kk⟩
end Go.Proofs.YthhlklfioipmgaaGreat

namespace Go.Proofs.YthhlklfioipmgaaGreat
open Go Go.ChangeShapes Go.WideShapes Go.ChangeAt Go.RowKit

theorem below_trodAll {H : Type} {enc : TypeId × Value → H} {P : Program} (hl : laidOutB P = true) {W W' : World} (hb : Below W.heap.size W W') :
    ∀ (ts : List TypeId) (vs : List Value) (ds : List (DataW H)) (ps : List MemPlace), (ts.all fun t => P.readableRec t && decide (t < P.types.size)) = true →
      DataW.TrodAll enc P W 0 (fun _ => true) true ts vs ds ps → DataW.TrodAll enc P W' 0 (fun b => decide (b < W.heap.size)) true ts vs ds ps := by
  intro ts
  induction ts with
  | nil =>
    intro vs ds ps _ h
    cases vs <;> cases ds <;> first | exact h | exact (h : False).elim
  | cons t ts ih =>
    intro vs ds ps hall h
    cases vs with
    | nil => exact (h : False).elim
    | cons v vs =>
      cases ds with
      | nil => exact (h : False).elim
      | cons d ds =>
        obtain ⟨p, q, h1, h2, rfl⟩ := h
        simp only [List.all_cons, Bool.and_eq_true, decide_eq_true_eq] at hall
        have lt : ∀ x ∈ p, x.block < W.heap.size := by obtain ⟨m, hm⟩ := h1; exact DataW.trod_lt m _ _ _ hm
        exact ⟨p, q, Below.trod hl hall.1.1 hall.1.2 h1 hb lt, ih vs ds q hall.2 h2, rfl⟩

theorem law_post {H : Type} {enc : TypeId × Value → H} {P : Program} {f : Func} {s : ChangeSpec} {apart : Bool} {W W' : World} {args : Array Value} {ds gs : List (DataW H)} {before : List MemPlace} {bt : TypeId}
    (hl : laidOutB P = true) (hr : f.resultTypes.toList = [bt]) (hbt : P.underlying bt = some .bool) (hts : (f.params.toList.all fun t => P.readableRec t && decide (t < P.types.size)) = true)
    (hvars : s.vars = []) (hres : (s.fn H ds).results = [.lit (.bool true)]) (harg : (s.fn H ds).args = ds) (hvs : (s.fn H ds).vars = [])
    (hW : DataW.Whole enc P f.params.toList s.vars apart W args.toList ds gs before) (hb : Below W.heap.size W W') :
    s.post enc P f apart true false false W args (.bool true) W' := by
  have hW' := hW
  obtain ⟨p, q, hA, hV, rfl, hfz, hnd⟩ := hW
  have hg : gs = [] ∧ q = [] := by rw [hvars] at hV; exact trodVars_none hV
  obtain ⟨rfl, rfl⟩ := hg
  refine ⟨ds, [], _, [], p, [], hW', ?_, ?_, ?_, hb.frame _, fun h => by cases h⟩
  · have e : (Value.bool true).resultList f.resultTypes.size = [.bool true] := by
      have hs : f.resultTypes.size = 1 := by rw [← Array.length_toList, hr]; rfl
      rw [hs]; rfl
    rw [List.append_nil, hres, hr, e]
    exact trodAll_mk1 (shut_bool hbt _)
  · rw [List.append_nil, harg]
    exact below_trodAll hl hb _ _ _ _ hts hA
  · rw [List.append_nil, hvs, hvars]
    rfl
end Go.Proofs.YthhlklfioipmgaaGreat

namespace Go.Proofs.YthhlklfioipmgaaGreat
open Go Go.ChangeShapes Go.WideShapes Go.ChangeAt Go.RowKit Go.Joins
set_option linter.unusedVariables false
set_option linter.unusedSimpArgs false

theorem rf_u16 {n : Int} (h : (Lit.int .u16 n).wf = true) : 0 ≤ n ∧ n ≤ 65535 := by
  simp [Lit.wf, IntKind.min, IntKind.max, IntKind.signed, IntKind.bits] at h
  omega
theorem own_rputFull : ownKnob Tryz.prog.godebug = none := by kernel_rfl
theorem laidOut_rputFull : laidOutB Tryz.prog = true := by kernel_rfl

set_option maxRecDepth 100000 in
theorem lifted_rputFull (os : Os) (started : os.Started) (H : Type) (enc : TypeId × Value → H) :
    ReturnsInHanded {} Tryz.checked os 5 .any (Rows.rputFullSpec.pre6 enc Tryz.prog Tryz.f5 Rows.rputFullRow.domain false) (Rows.rputFullSpec.post enc Tryz.prog Tryz.f5 false true false false) := by
  refine returnsInHanded_of_change (C := Tryz.checked) own_rputFull started (by kernel_rfl) Tryz.func5
    (ChangeSpec.witness6 (enc := enc) (C := Tryz.checked) false ⟨#[], #[.int .u32 0, .int .u16 0, .int .u8 0], []⟩ 8 (by kernel_rfl) (by kernel_rfl) (by kernel_rfl) (by kernel_rfl)) ?_
  intro W base args ds gs before hval0 hW hcnd _
  have hval : ∀ (j : Nat) t v, Tryz.f5.params[j]? = some t → args[j]? = some v → Value.okWide Tryz.prog W .any base t v := hval0
  have hW' := hW
  obtain ⟨p, q, hA0, hV, rfl, hfz, hnd⟩ := hW
  have hA : DataW.TrodAll enc Tryz.prog W 0 (fun _ => true) true Tryz.f5.params.toList args.toList ds p := hA0
  rw [Tryz.params5] at hA hval
  obtain ⟨v0, vs0, d0, ds0, p0, q0, hargs, rfl, rfl, h0, r0⟩ := trodAll_cons hA
  obtain ⟨v1, vs1, d1, ds1, p1, q1, rfl, rfl, rfl, h1, r1⟩ := trodAll_cons r0
  obtain ⟨v2, vs2, d2, ds2, p2, q2, rfl, rfl, rfl, h2, r2⟩ := trodAll_cons r1
  obtain ⟨rfl, rfl, rfl⟩ := trodAll_nil r2
  obtain rfl : args = #[v0, v1, v2] := by cases args; simp_all
  obtain ⟨x0, rfl, rfl, rfl, wx0⟩ := open_int Tryz.underlying70 (hval 0 70 v0 rfl rfl) h0
  obtain ⟨x1, rfl, rfl, rfl, wx1⟩ := open_int Tryz.underlying71 (hval 1 71 v1 rfl rfl) h1
  have hbx1 := rf_u16 wx1
  obtain ⟨k1, rfl⟩ : ∃ k : Nat, x1 = (k : Int) := ⟨x1.toNat, by omega⟩
  obtain ⟨x2, rfl, rfl, rfl, wx2⟩ := open_int Tryz.underlying5 (hval 2 5 v2 rfl rfl) h2
  have hbx2 := bounds_u8 wx2
  obtain ⟨k2, rfl⟩ : ∃ k : Nat, x2 = (k : Int) := ⟨x2.toNat, by omega⟩
  clear hA0 hval0
  refine (rputFull_walk x0 k1 k2 W (by have := bounds_u32 wx0; omega) (by omega) (by omega)).mono fun e W' ⟨he, hb⟩ => ?_
  subst he
  exact ⟨_, rfl, law_post laidOut_rputFull rfl Tryz.underlying4 (by kernel_rfl) rfl rfl rfl rfl hW' hb⟩

theorem rputFull_holds : Rows.RputFullSaid :=
  OpenClaim.holds_of_wide 5 Tryz.f5 rfl rfl rfl rfl rfl rfl rfl ⟨rfl, rfl, rfl, rfl, rfl⟩ rfl rfl rfl rfl rfl (by kernel_rfl) Tryz.func5 (by kernel_rfl)
    (of_decide_eq_true (by kernel_rfl)) (by unfold Func.isWrapper; first | (rw [if_pos (by decide +kernel)]; kernel_rfl) | (rw [if_neg (by decide +kernel)]; exact ⟨rfl, rfl⟩))
    (fun os started H enc _ => lifted_rputFull os started H enc)
#print axioms rputFull_holds
end Go.Proofs.YthhlklfioipmgaaGreat
