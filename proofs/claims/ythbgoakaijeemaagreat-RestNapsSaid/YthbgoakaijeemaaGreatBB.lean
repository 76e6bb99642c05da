/- A machine that is gone on with by itself, so many steps. -/
import Derived.Test.YthbgoakaijeemaaGreatGnd0
import Derived.Test.YthbgoakaijeemaaGreatLay
import Derived.Test.YthbgoakaijeemaaGreatFlow1
import Derived.Test.YthbgoakaijeemaaGreatMem
import Derived.ProofKit
import Derived.OpenShut
import Derived.Lib.SmallJoins
import Derived.Deep.Fields
import Derived.Test.YthbgoakaijeemaaGreatPub3
import Derived.Deep.SlicePairs
import Derived.Test.YthbgoakaijeemaaGreatFl
import Derived.Test.YthbgoakaijeemaaGreatDo
import Derived.Test.YthbgoakaijeemaaGreatMake
namespace Go.Proofs.YthbgoakaijeemaaGreat
open Go Go.RowKit
set_option linter.unusedVariables false
set_option maxRecDepth 100000
set_option linter.unusedSimpArgs false


/-- A config of which laws go through all. -/
structure FewC (P T G : Int) : Prop where
  h : May P T G ∧ P ≤ 4 ∧ T ≤ 8 ∧ G ≤ 60
instance (P T G : Int) : Decidable (FewC P T G) := decidable_of_iff (May P T G ∧ P ≤ 4 ∧ T ≤ 8 ∧ G ≤ 60) ⟨fun h => ⟨h⟩, fun h => h.h⟩

theorem few_any (P T G : Int) (w : World) : Calls Tryz.prog 63 #[.agg #[.int .i64 P, .int .i64 T, .int .i64 G]] w fun e w' => e = .returned (.bool (decide (FewC P T G))) ∧ Below w.heap.size w w' := by
  have hb : Below w.heap.size w (w.alloc (.cells #[.int .i64 P, .int .i64 T, .int .i64 G] 23)) := (Below.refl _ _).alloc (Nat.le_refl _) _
  have hR := refRight_any P T G (w.alloc (.cells #[.int .i64 P, .int .i64 T, .int .i64 G] 23))
  have hc : Hid ((w.alloc (.cells #[.int .i64 P, .int .i64 T, .int .i64 G] 23)).heap[w.heap.size]? = some (.cells #[.int .i64 P, .int .i64 T, .int .i64 G] 23 (0, 0))) := heap_alloc_new _ _
  by_cases h : May P T G
  · rw [decide_eq_true h] at hR
    have hd : decide (FewC P T G) = decide (P ≤ 4 ∧ T ≤ 8 ∧ G ≤ 60) := by
      by_cases h2 : P ≤ 4 ∧ T ≤ 8 ∧ G ≤ 60
      · rw [decide_eq_true h2, decide_eq_true (FewC.mk ⟨h, h2⟩)]
      · rw [decide_eq_false h2, decide_eq_false (fun hf => h2 hf.h.2)]
    rw [hd]
    go_enter Tryz.func63, Tryz.ntmps63
    go_wp2_with fail
    go_at_call 119; refine hR.mono ?_; rintro e w1 ⟨rfl, h1⟩
    have hb1 := hb.trans (h1.mono (by simp))
    have hh := (h1.block w.heap.size (by simp)).trans hc.out
    have c0 : w1.cell? ⟨w.heap.size, 0, none⟩ = some (.int .i64 P) := by simp [World.cell?, hh]
    have c1 : w1.cell? ⟨w.heap.size, 1, none⟩ = some (.int .i64 T) := by simp [World.cell?, hh]
    have c2 : w1.cell? ⟨w.heap.size, 2, none⟩ = some (.int .i64 G) := by simp [World.cell?, hh]
    clear hR h1 hc hh hb
    by_cases a1 : P ≤ 4
    · by_cases a2 : T ≤ 8
      · by_cases a3 : G ≤ 60
        · go_wp2_with fail
          go_ret
          exact ⟨ret_bool (by simp [a1, a2, a3]), hb1⟩
        · have hd3 : decide (G ≤ 60) = false := by simpa using a3
          go_wp2_with fail
          go_ret
          exact ⟨ret_bool (by simp [a1, a2, a3]), hb1⟩
      · have hd2 : decide (T ≤ 8) = false := by simpa using a2
        go_wp2_with fail
        go_ret
        exact ⟨ret_bool (by simp [a1]; omega), hb1⟩
    · have hd1 : decide (P ≤ 4) = false := by simpa using a1
      go_wp2_with fail
      go_ret
      exact ⟨ret_bool (by simp; omega), hb1⟩
  · rw [decide_eq_false h] at hR
    rw [decide_eq_false (fun hf : FewC P T G => h hf.h.1)]
    go_enter Tryz.func63, Tryz.ntmps63
    go_wp2_with fail
    go_at_call 119; refine hR.mono ?_; rintro e w1 ⟨rfl, h1⟩
    have hb1 := hb.trans (h1.mono (by simp))
    clear hR h1 hc hb
    go_wp2_with fail
    go_ret
    exact ⟨rfl, hb1⟩
end Go.Proofs.YthbgoakaijeemaaGreat

namespace Go.Proofs.YthbgoakaijeemaaGreat
open Go Go.RowKit
set_option linter.unusedVariables false
set_option maxRecDepth 100000
set_option linter.unusedSimpArgs false

/-- A slice of m words that are laid, seen in memory below block B. -/
def SeesP (w : World) (B : Nat) (E : Option Addr) (m : Nat) (a v : Nat → Int) : Prop :=
  0 < m → ∃ b off : Nat, E = some ⟨b, off, none⟩ ∧ b < B ∧ ∀ j, j < m → w.cell? ⟨b, off + j * 2, none⟩ = some (.int .i64 (a j)) ∧ w.cell? ⟨b, off + j * 2 + 1, none⟩ = some (.int .u64 (v j))
theorem SeesP.below {w w' : World} {B B' m : Nat} {E : Option Addr} {a v : Nat → Int} (h : SeesP w B E m a v) (hb : Below B' w w') (hB : B ≤ B') : SeesP w' B E m a v := fun hm => by
  obtain ⟨b, off, e, hlt, hc⟩ := h hm
  exact ⟨b, off, e, hlt, fun j hj => ⟨(hb.cell (p := ⟨b, off + j * 2, none⟩) (Nat.lt_of_lt_of_le hlt hB)).trans (hc j hj).1, (hb.cell (p := ⟨b, off + j * 2 + 1, none⟩) (Nat.lt_of_lt_of_le hlt hB)).trans (hc j hj).2⟩⟩

/-- The words of a memory of n, when k of them are laid. -/
def putF (a v : Nat → Int) (n : Nat) : Nat → Nat → Int
  | 0 => fun _ => 0
  | k + 1 => if 0 ≤ a k ∧ a k < n then upd (putF a v n k) (a k).toNat (v k) else putF a v n k
theorem putF_bd {a v : Nat → Int} {n m : Nat} (hv : ∀ i, i < m → 0 ≤ v i ∧ v i ≤ 18446744073709551615) : ∀ k, k ≤ m → ∀ i, 0 ≤ putF a v n k i ∧ putF a v n k i ≤ 18446744073709551615
  | 0, _, i => by unfold putF; omega
  | k + 1, hk, i => by
    unfold putF
    split
    · unfold upd
      split
      · exact hv k (by omega)
      · exact putF_bd hv k (by omega) i
    · exact putF_bd hv k (by omega) i
theorem Row.put {w : World} {g n : Nat} {f : Nat → Int} (h : Row w g n n f) (j : Nat) (hj : j < n) (v : Int) : Row (w.setCell ⟨g, j, none⟩ (.int .u64 v)) g n n (upd f j v) := by
  obtain ⟨cur, hh, hs, hc⟩ := h
  refine ⟨_, heap_set hh j _, by simpa using hs, fun i hi => ?_⟩
  by_cases e : i = j
  · subst e; simp [hs, hj, upd]
  · rw [Array.getElem?_setIfInBounds_ne (by omega), hc i hi]; simp [upd, e]

theorem lay_none (P T G : Int) (E : Option Addr) (m cp : Nat) (w : World) (hm : m ≤ 9223372036854775807) (h : ¬ FewC P T G ∨ 400 < m) :
    Calls Tryz.prog 11 #[.agg #[.int .i64 P, .int .i64 T, .int .i64 G, .slice E m cp]] w fun e w' => e = .returned (.tuple #[.pointer none, .pointer none, .pointer none, .bool false]) ∧ Below w.heap.size w w' := by
  have hb : Below w.heap.size w (w.alloc (.cells #[.int .i64 P, .int .i64 T, .int .i64 G, .slice E m cp] 26)) := (Below.refl _ _).alloc (Nat.le_refl _) _
  have hF := few_any P T G (w.alloc (.cells #[.int .i64 P, .int .i64 T, .int .i64 G, .slice E m cp] 26))
  have hc : Hid ((w.alloc (.cells #[.int .i64 P, .int .i64 T, .int .i64 G, .slice E m cp] 26)).heap[w.heap.size]? = some (.cells #[.int .i64 P, .int .i64 T, .int .i64 G, .slice E m cp] 26 (0, 0))) := heap_alloc_new _ _
  by_cases hf : FewC P T G
  · rw [decide_eq_true hf] at hF
    have h4 : 400 < m := by rcases h with h | h; exact absurd hf h; exact h
    go_enter Tryz.func11, Tryz.ntmps11
    go_wp2_with fail
    go_at_call 63; refine hF.mono ?_; rintro e w1 ⟨rfl, h1⟩
    have hb1 := hb.trans (h1.mono (by simp))
    have hh := (h1.block w.heap.size (by simp)).trans hc.out
    have c3 : w1.cell? ⟨w.heap.size, 3, none⟩ = some (.slice E m cp) := by simp [World.cell?, hh]
    clear hF h1 hc hh hb
    go_wp2_with fail
    go_returns
    exact ⟨rfl, hb1⟩
  · rw [decide_eq_false hf] at hF
    go_enter Tryz.func11, Tryz.ntmps11
    go_wp2_with fail
    go_at_call 63; refine hF.mono ?_; rintro e w1 ⟨rfl, h1⟩
    have hb1 := hb.trans (h1.mono (by simp))
    clear hF h1 hc hb
    go_wp2_with fail
    go_returns
    exact ⟨rfl, hb1⟩

/-- What Lay leaves. -/
structure Laid (w w' : World) (P T G : Int) (n : Nat) (f : Nat → Int) (cl : Nat) (A A' : Option Addr) (cap cap' c b c' b' : Nat) : Prop where
  lay : Lay w' cl P T G
  two : Two w' A A' cap cap' c b c' b' n (fresh f)
  below : Below w.heap.size w w'
  up : w.heap.size ≤ cl ∧ w.heap.size ≤ c ∧ w.heap.size ≤ b ∧ w.heap.size ≤ c' ∧ w.heap.size ≤ b'

set_option maxHeartbeats 2000000 in
theorem lay_some (P T G : Int) (E : Option Addr) (m cp n : Nat) (a v : Nat → Int) (w : World) (hm : m ≤ 400) (hf : FewC P T G) (hn : (n : Int) = 20 + 264 * P + 3 * T + 2 * G) (hs : SeesP w w.heap.size E m a v) (hv : ∀ i, i < m → 0 ≤ v i ∧ v i ≤ 18446744073709551615) :
    Calls Tryz.prog 11 #[.agg #[.int .i64 P, .int .i64 T, .int .i64 G, .slice E m cp]] w fun e w' => ∃ (cl : Nat) (A A' : Option Addr) (cap cap' c b c' b' : Nat), e = .returned (.tuple #[.pointer (some ⟨cl, 0, none⟩), .pointer (some ⟨c, 0, none⟩), .pointer (some ⟨c', 0, none⟩), .bool true]) ∧ Laid w w' P T G n (putF a v n m) cl A A' cap cap' c b c' b' := by
  have hb : Below w.heap.size w (w.alloc (.cells #[.int .i64 P, .int .i64 T, .int .i64 G, .slice E m cp] 26)) := (Below.refl _ _).alloc (Nat.le_refl _) _
  have hF := few_any P T G (w.alloc (.cells #[.int .i64 P, .int .i64 T, .int .i64 G, .slice E m cp] 26))
  have hc : Hid ((w.alloc (.cells #[.int .i64 P, .int .i64 T, .int .i64 G, .slice E m cp] 26)).heap[w.heap.size]? = some (.cells #[.int .i64 P, .int .i64 T, .int .i64 G, .slice E m cp] 26 (0, 0))) := heap_alloc_new _ _
  rw [decide_eq_true hf] at hF
  have hM : May P T G := hf.h.1
  have hn1 : n ≤ 2000 := by have := hf.h; have := hM.h; omega
  have HN : Hid ((n : Int) = 20 + 264 * P + 3 * T + 2 * G) := hn
  have HS : Hid (SeesP w w.heap.size E m a v) := hs
  have HV : Hid (∀ i, i < m → 0 ≤ v i ∧ v i ≤ 18446744073709551615) := hv
  have HM : Hid (May P T G) := hM
  clear hs hn hv hM hf
  have hmk := make_run n (by omega)
  have h400 : decide ((400 : Int) < (m : Int)) = false := decide_eq_false (by omega)
  go_enter Tryz.func11, Tryz.ntmps11
  go_wp2_with fail
  go_at_call 63; refine hF.mono ?_; rintro e w1 ⟨rfl, h1⟩
  have hb1 := hb.trans (h1.mono (by simp))
  have hh := (h1.block w.heap.size (by simp)).trans hc.out
  have c0 : w1.cell? ⟨w.heap.size, 0, none⟩ = some (.int .i64 P) := by simp [World.cell?, hh]
  have c1 : w1.cell? ⟨w.heap.size, 1, none⟩ = some (.int .i64 T) := by simp [World.cell?, hh]
  have c2 : w1.cell? ⟨w.heap.size, 2, none⟩ = some (.int .i64 G) := by simp [World.cell?, hh]
  have c3 : w1.cell? ⟨w.heap.size, 3, none⟩ = some (.slice E m cp) := by simp [World.cell?, hh]
  have hB1 : Hid (Blk w1 w.heap.size #[.int .i64 P, .int .i64 T, .int .i64 G, .slice E m cp] 26) := ⟨hh⟩
  have hL := refLen_any P T G w1 HM.out
  rw [← HN.out] at hL
  clear hF h1 hc hh hb
  have HB1 : Hid (Below w.heap.size w w1) := hb1
  clear hb1
  go_wp2_with fail
  go_at_call 64; refine hL.mono ?_; rintro e w2 ⟨rfl, h2⟩
  have hB2 : Hid (Blk w2 w.heap.size #[.int .i64 P, .int .i64 T, .int .i64 G, .slice E m cp] 26) := hB1.out.but (But.of_below (l := []) h2) (by simp)
  have HB2 : Hid (Below w.heap.size w w2) := seq HB1.out h2
  have hR : Hid (Row (w2.alloc (.cells (zs n) 39)) w2.heap.size n n (putF a v n 0)) := zs_row n w2
  have hB3 : Hid (Blk (w2.alloc (.cells (zs n) 39)) w.heap.size #[.int .i64 P, .int .i64 T, .int .i64 G, .slice E m cp] 26) := hB2.out.al _
  have HB3 : Hid (Below w.heap.size w (w2.alloc (.cells (zs n) 39))) := HB2.out.alloc HB2.out.size _
  have hg : w.heap.size < w2.heap.size := hB2.out.lt
  clear hL h2 hB1 HB1 c0 c1 c2 c3 hB2 HB2
  go_wp2_with fail
  clear hmk
  generalize w2.alloc (.cells (zs n) 39) = w3 at *
  generalize w2.heap.size = g at *
  go_loopw [7] (fun i wr => ∃ k : Nat, k ≤ m ∧ i = .int .i64 k ∧ Hid (Row wr g n n (putF a v n k)) ∧ Hid (Blk wr w.heap.size #[.int .i64 P, .int .i64 T, .int .i64 G, .slice E m cp] 26) ∧ Hid (Below w.heap.size w wr)) (fun i _ => m - (intOf i).toNat)
  case atStart => exact ⟨0, Nat.zero_le _, rfl, hR, hB3, HB3⟩
  case round =>
    clear hR hB3 HB3
    obtain ⟨k, hk, rfl, HR, HX, HB⟩ := hrel
    have x3 := HX.out.cell 3 (v := .slice E m cp) rfl
    by_cases hlt : k < m
    · obtain ⟨b, off, rfl, hbB, hcell⟩ := HS.out (by omega)
      obtain ⟨hc1, hc2⟩ := hcell k hlt
      have d1 : wr.cell? ⟨b, off + k * 2, none⟩ = some (.int .i64 (a k)) := (HB.out.cell (p := ⟨b, off + k * 2, none⟩) hbB).trans hc1
      have d2 : wr.cell? ⟨b, off + k * 2 + 1, none⟩ = some (.int .u64 (v k)) := (HB.out.cell (p := ⟨b, off + k * 2 + 1, none⟩) hbB).trans hc2
      have hk0 : (0 : Int) ≤ (k : Int) := Int.natCast_nonneg _
      have hk1 : (k : Int) < (m : Int) := by omega
      clear hcell hc1 hc2
      have HP : Hid (putF a v n (k + 1) = if 0 ≤ a k ∧ a k < n then upd (putF a v n k) (a k).toNat (v k) else putF a v n k) := rfl
      by_cases h0 : 0 ≤ a k
      · obtain ⟨j, hj⟩ : ∃ j : Nat, a k = (j : Int) := ⟨(a k).toNat, by omega⟩
        rw [hj] at d1 HP
        clear h0 hj
        by_cases h1 : j < n
        · obtain ⟨ov, hov⟩ := HR.out.there j h1
          have hfz := HR.out.frozen j
          have hj1 : (j : Int) < (n : Int) := by omega
          have hj0 : (0 : Int) ≤ (j : Int) := by omega
          have h41 : decide ((0 : Int) ≤ (j : Int)) = true := by simp
          have hP2 : Hid (putF a v n (k + 1) = upd (putF a v n k) j (v k)) := by have := HP.out; rw [if_pos ⟨hj0, hj1⟩] at this; rw [Int.toNat_natCast] at this; exact this
          go_wp2_with fail
          go_region
          have HR2 : Hid (Row (wr.drew.setCell ⟨g, j, none⟩ (.int .u64 (v k))) g n n (putF a v n (k + 1))) := by rw [hP2.out]; exact HR.out.put j h1 (v k)
          have HX2 : Hid (Blk (wr.drew.setCell ⟨g, j, none⟩ (.int .u64 (v k))) w.heap.size #[.int .i64 P, .int .i64 T, .int .i64 G, .slice (some ⟨b, off, none⟩) m cp] 26) := HX.out.drew.setne (by omega) _ _
          have HB2 : Hid (Below w.heap.size w (wr.drew.setCell ⟨g, j, none⟩ (.int .u64 (v k)))) := HB.out.drew.setCell (p := ⟨g, j, none⟩) (by show w.heap.size ≤ g; omega) _
          clear HR HX HB x3 d1 d2 hov hfz HP
          go_wp2_with fail
          go_roundw
          case rel => exact ⟨k + 1, by omega, by go_num, HR2, HX2, HB2⟩
          case measure => simp [intOf]; omega
        · have hj0 : (0 : Int) ≤ (j : Int) := by omega
          have hd : decide ((j : Int) < (n : Int)) = false := by simpa using h1
          have hP2 : Hid (putF a v n (k + 1) = putF a v n k) := by have := HP.out; rw [if_neg (fun hh => absurd hh.2 (by omega))] at this; exact this
          go_wp2_with fail
          go_roundw
          case rel => exact ⟨k + 1, by omega, by go_num, (by rw [hP2.out]; exact HR), HX, HB⟩
          case measure => simp [intOf]; omega
      · have hd : decide (0 ≤ a k) = false := by simpa using h0
        have hP2 : Hid (putF a v n (k + 1) = putF a v n k) := by have := HP.out; rw [if_neg (fun hh => h0 hh.1)] at this; exact this
        clear h0 HP
        go_wp2_with fail
        go_roundw
        case rel => exact ⟨k + 1, by omega, by go_num, (by rw [hP2.out]; exact HR), HX, HB⟩
        case measure => simp [intOf]; omega
    · obtain rfl : k = m := by omega
      have y0 := HX.out.cell 0 (v := .int .i64 P) rfl
      have y1 := HX.out.cell 1 (v := .int .i64 T) rfl
      have y2 := HX.out.cell 2 (v := .int .i64 G) rfl
      have hO := of_ok P T G wr HM.out
      go_wp2_with fail
      go_at_call 65; refine hO.mono ?_; rintro e w4 ⟨cl, rfl, hLy, hcl, h4⟩
      have hR4 := Row.below HR.out h4 HR.out.lt
      have HB4 : Hid (Below w.heap.size w w4) := seq HB.out h4
      have HL4 : Hid (Lay w4 cl P T G) := hLy
      have hsz := HB.out.size
      have h5 := of_any w4 (some ⟨g, 0, none⟩) n n (putF a v n k) (by omega) (fun e => by cases e) (hR4.sees) (fun i _ => putF_bd HV.out k (Nat.le_refl _) i)
      have HR4 : Hid (Row w4 g n n (putF a v n k)) := hR4
      clear hO h4 hLy hR4 y0 y1 y2 x3
      go_wp2_with fail
      go_at_call 66; refine h5.mono ?_; rintro e w5 ⟨A1, cap1, c1, b1, rfl, hI1, hb5, hbb, hbc, hcc⟩
      have h6 := refNew_any w5 (some ⟨g, 0, none⟩) n n (putF a v n k) (by omega) ((HR4.out.below hb5 HR4.out.lt).sees) (fun i _ => putF_bd HV.out k (Nat.le_refl _) i)
      have HB5 : Hid (Below w.heap.size w w5) := seq HB4.out hb5
      have HL5 : Hid (Lay w5 cl P T G) := HL4.out.below hb5 HL4.out.lt
      have HI1 : Hid _ := hI1
      have hs4 := HB4.out.size
      clear h5 hb5 hI1
      go_wp2_with fail
      go_at_call 67; refine h6.mono ?_; rintro e w6 ⟨A2, cap2, c2, b2, rfl, hI2, hb6, hb2, hc2⟩
      have HB6 : Hid (Below w.heap.size w w6) := seq HB5.out hb6
      have HL6 : Hid (Lay w6 cl P T G) := HL5.out.below hb6 HL5.out.lt
      have HT6 : Hid _ := two_start HI1.out hbc hI2 hb6 hb2 hc2
      have hs5 := HB5.out.size
      clear h6 hb6 hI2
      go_wp2_with fail
      go_returns
      exact ⟨cl, A1, A2, cap1, cap2, c1, b1, c2, b2, rfl, HL6.out, HT6.out, HB6.out, by omega, by omega, by omega, by omega, by omega⟩
end Go.Proofs.YthbgoakaijeemaaGreat

namespace Go.Proofs.YthbgoakaijeemaaGreat
open Go Go.ChangeShapes Go.WideShapes Go.ChangeAt Go.RowKit Go.Joins Go.Deep
set_option linter.unusedVariables false
set_option maxRecDepth 100000
set_option linter.unusedSimpArgs false

theorem bounds_u64 {n : Int} (h : (Lit.int .u64 n).wf = true) : 0 ≤ n ∧ n ≤ 18446744073709551615 := by
  simp [Lit.wf, IntKind.min, IntKind.max, IntKind.signed, IntKind.bits] at h
  omega
theorem bounds_i64 {n : Int} (h : (Lit.int .i64 n).wf = true) : -9223372036854775808 ≤ n ∧ n ≤ 9223372036854775807 := by
  simp [Lit.wf, IntKind.min, IntKind.max, IntKind.signed, IntKind.bits] at h
  omega
theorem bounds_u8 {n : Int} (h : (Lit.int .u8 n).wf = true) : 0 ≤ n ∧ n ≤ 255 := by
  simp [Lit.wf, IntKind.min, IntKind.max, IntKind.signed, IntKind.bits] at h
  omega
section
variable {H : Type} {enc : TypeId × Value → H} {P : Program} {W : World} {base b0 : Nat} {t : TypeId} {v : Value} {d : DataW H} {p : List MemPlace}
theorem open_cfg {f0 f1 f2 : Field} (hs : P.underlying t = some (.struct #[f0, f1, f2])) (hone : oneCellFields P #[f0, f1, f2] = true) (hC : P.cellsOf t = 3) (u0 : P.underlying f0.type = some (.int .i64)) (u1 : P.underlying f1.type = some (.int .i64)) (u2 : P.underlying f2.type = some (.int .i64))
    (hv : Value.okWide P W .any b0 t v) (h : DataW.Trod enc P W base (fun _ => true) true t v d p) :
    ∃ a b c : Int, v = .agg #[.int .i64 a, .int .i64 b, .int .i64 c] ∧ (-9223372036854775808 ≤ a ∧ a ≤ 9223372036854775807) ∧ (-9223372036854775808 ≤ b ∧ b ≤ 9223372036854775807) ∧ (-9223372036854775808 ≤ c ∧ c ≤ 9223372036854775807) := by
  obtain ⟨v0, v1, v2, y0, y1, y2, n, rfl, _, _, h0, h1, h2⟩ := open_agg3 hs hone hC hv h
  obtain ⟨a, e0, _, wa⟩ := DataW.trod_int u0 h0
  obtain ⟨b, e1, _, wb⟩ := DataW.trod_int u1 h1
  obtain ⟨c, e2, _, wc⟩ := DataW.trod_int u2 h2
  simp at e0 e1 e2
  exact ⟨a, b, c, by rw [e0, e1, e2], bounds_i64 wa, bounds_i64 wb, bounds_i64 wc⟩
theorem open_ins {f0 f1 : Field} (hs : P.underlying t = some (.struct #[f0, f1])) (hone : oneCellFields P #[f0, f1] = true) (hC : P.cellsOf t = 2) (u0 : P.underlying f0.type = some (.int .i64)) (u1 : P.underlying f1.type = some (.int .i64))
    (hv : Value.okWide P W .any b0 t v) (h : DataW.Trod enc P W base (fun _ => true) true t v d p) :
    ∃ a b : Int, v = .agg #[.int .i64 a, .int .i64 b] ∧ (-9223372036854775808 ≤ a ∧ a ≤ 9223372036854775807) ∧ (-9223372036854775808 ≤ b ∧ b ≤ 9223372036854775807) := by
  obtain ⟨v0, v1, y0, y1, n, rfl, _, _, h0, h1⟩ := open_agg2 hs hone hC hv h
  obtain ⟨a, e0, _, wa⟩ := DataW.trod_int u0 h0
  obtain ⟨b, e1, _, wb⟩ := DataW.trod_int u1 h1
  simp at e0 e1
  exact ⟨a, b, by rw [e0, e1], bounds_i64 wa, bounds_i64 wb⟩
theorem open_two {e : TypeId} (ht : P.underlying t = some (.array 2 e)) (he : P.underlying e = some (.int .i64)) (hc : P.cellsOf e = 1) (hC : P.cellsOf t = 2)
    (hv : Value.okWide P W .any b0 t v) (h : DataW.Trod enc P W base (fun _ => true) true t v d p) :
    ∃ a b : Int, v = .agg #[.int .i64 a, .int .i64 b] ∧ (-9223372036854775808 ≤ a ∧ a ≤ 9223372036854775807) ∧ (-9223372036854775808 ≤ b ∧ b ≤ 9223372036854775807) := by
  obtain ⟨cs, rfl, hsz⟩ : ∃ cs, v = .agg cs ∧ cs.size = P.cellsOf t := by
    simp only [Value.okWide, ht] at hv
    obtain ⟨cs, h1, h2, _⟩ := hv
    exact ⟨cs, h1, h2⟩
  obtain ⟨c0, c1, rfl⟩ := array2 (hsz.trans hC)
  obtain ⟨fuel, hf⟩ := h
  obtain ⟨xs, m, _, _, _, hxl, hg⟩ := DataW.trod_array ht hf
  have g0 := hg 0 (by omega)
  have g1 := hg 1 (by omega)
  rw [hc, List.getElem?_eq_getElem (by omega)] at g0 g1
  simp [Value.cells] at g0 g1
  obtain ⟨a, e0, _, wa⟩ := DataW.trod_int he g0
  obtain ⟨b, e1, _, wb⟩ := DataW.trod_int he g1
  simp at e0 e1
  exact ⟨a, b, by rw [e0, e1], bounds_i64 wa, bounds_i64 wb⟩
theorem open_two8 {e : TypeId} (ht : P.underlying t = some (.array 2 e)) (he : P.underlying e = some (.int .u8)) (hc : P.cellsOf e = 1) (hC : P.cellsOf t = 2)
    (hv : Value.okWide P W .any b0 t v) (h : DataW.Trod enc P W base (fun _ => true) true t v d p) :
    ∃ a b : Int, v = .agg #[.int .u8 a, .int .u8 b] ∧ (0 ≤ a ∧ a ≤ 255) ∧ (0 ≤ b ∧ b ≤ 255) := by
  obtain ⟨cs, rfl, hsz⟩ : ∃ cs, v = .agg cs ∧ cs.size = P.cellsOf t := by
    simp only [Value.okWide, ht] at hv
    obtain ⟨cs, h1, h2, _⟩ := hv
    exact ⟨cs, h1, h2⟩
  obtain ⟨c0, c1, rfl⟩ := array2 (hsz.trans hC)
  obtain ⟨fuel, hf⟩ := h
  obtain ⟨xs, m, _, _, _, hxl, hg⟩ := DataW.trod_array ht hf
  have g0 := hg 0 (by omega)
  have g1 := hg 1 (by omega)
  rw [hc, List.getElem?_eq_getElem (by omega)] at g0 g1
  simp [Value.cells] at g0 g1
  obtain ⟨a, e0, _, wa⟩ := DataW.trod_int he g0
  obtain ⟨b, e1, _, wb⟩ := DataW.trod_int he g1
  simp at e0 e1
  exact ⟨a, b, by rw [e0, e1], bounds_u8 wa, bounds_u8 wb⟩
end
end Go.Proofs.YthbgoakaijeemaaGreat

namespace Go.Proofs.YthbgoakaijeemaaGreat
open Go Go.ChangeShapes Go.WideShapes Go.ChangeAt Go.RowKit Go.Deep
set_option linter.unusedVariables false
set_option maxRecDepth 100000
set_option linter.unusedSimpArgs false

theorem sees_words {H : Type} {enc : TypeId × Value → H} {P : Program} {W : World} {base b0 : Nat} {t e : TypeId} {v : Value} {d : DataW H} {p : List MemPlace} (ht : P.underlying t = some (.slice e)) (he : P.underlying e = some (.int .u64)) (hc : P.cellsOf e = 1)
    (hv : Value.okWide P W .any b0 t v) (h : DataW.Trod enc P W base (fun _ => true) true t v d p) :
    ∃ (A : Option Addr) (n cap : Nat) (f : Nat → Int), v = .slice A n cap ∧ n ≤ maxLen ∧ (A = none → n = 0 ∧ cap = 0) ∧ SeesU W W.heap.size A n f ∧ ∀ i, i < n → 0 ≤ f i ∧ f i ≤ 18446744073709551615 := by
  obtain ⟨A, n, cap, rfl⟩ := okWide_slice ht hv
  obtain ⟨fuel, hf⟩ := h
  rcases open_ints ht he hc hf with ⟨hcs, _⟩ | ⟨x, l, c, zs, hcs, _, hl, hm, hz, _, hcell, hwz⟩
  · simp [Value.cells] at hcs
    obtain ⟨rfl, rfl, rfl⟩ := hcs
    exact ⟨none, 0, 0, fun _ => 0, rfl, Nat.zero_le _, fun _ => ⟨rfl, rfl⟩, fun h => absurd h (Nat.lt_irrefl 0), fun i hi => absurd hi (Nat.not_lt_zero i)⟩
  · simp [Value.cells] at hcs
    obtain ⟨rfl, rfl, rfl⟩ := hcs
    have hz' : zs.length = cap := by simpa using hz
    refine ⟨some x, n, cap, fun i => zs.getD i 0, rfl, Nat.le_trans hl hm, (fun h => by cases h), ?_, ?_⟩
    · intro hn
      obtain ⟨b, off, spot⟩ := x
      have hs : spot = none := by
        have := hcell 0 (by omega)
        simpa [Addr.add] using World.cell?_spot this
      subst hs
      have hc0 := hcell 0 (by omega)
      simp [Addr.add] at hc0
      refine ⟨b, off, rfl, cell_lt hc0, fun i hi => ?_⟩
      have := hcell i (by omega)
      by_cases h0 : i = 0
      · subst h0; simpa [Addr.add] using this
      · simpa [Addr.add, h0] using this
    · intro i hi
      have : zs.getD i 0 ∈ zs := by
        rw [List.getD_eq_getElem?_getD, List.getElem?_eq_getElem (by omega)]
        exact List.getElem_mem _
      exact bounds_u64 (hwz _ this)


section
variable {H : Type} {enc : TypeId × Value → H} {P : Program} {W : World} {base : Nat} {sp : Nat → Bool} {held : Bool}
theorem one_int {T : TypeId} {q : IntKind} {cs : List Value} {xs : List (DataW H × List MemPlace)} {n j : Nat} {fl : Field} (o : fl.offset = j) (c : P.cellsOf fl.type = 1) (u : P.underlying fl.type = some (.int q)) (hlt : j < cs.length) (hx : j < xs.length)
    (g : DataW.trod enc P W base sp held n fl.type ((cs.drop fl.offset).take (P.cellsOf fl.type)) = xs[j]?) : ∃ a : Int, cs[j]? = some (.int q a) ∧ (Lit.int q a).wf = true := by
  rw [o, c, take1_drop cs j undef hlt, List.getElem?_eq_getElem hx] at g
  obtain ⟨a, e, _, wa⟩ := DataW.trod_int u g
  refine ⟨a, ?_, wa⟩
  simp only [List.cons.injEq, and_true] at e
  rw [List.getD_eq_getElem?_getD, List.getElem?_eq_getElem hlt] at e
  rw [List.getElem?_eq_getElem hlt]
  exact congrArg some e

variable {f0 f1 f2 f3 f4 : Field}
/-- A struct of three ints and two words: its cells. -/
theorem act_cells {e : TypeId} {fuel : Nat} {cs : List Value} {x : DataW H × List MemPlace} (hs : P.underlying e = some (.struct #[f0, f1, f2, f3, f4])) (ho : f0.offset = 0 ∧ f1.offset = 1 ∧ f2.offset = 2 ∧ f3.offset = 3 ∧ f4.offset = 4)
    (hc : P.cellsOf f0.type = 1 ∧ P.cellsOf f1.type = 1 ∧ P.cellsOf f2.type = 1 ∧ P.cellsOf f3.type = 1 ∧ P.cellsOf f4.type = 1)
    (hu : P.underlying f0.type = some (.int .i64) ∧ P.underlying f1.type = some (.int .i64) ∧ P.underlying f2.type = some (.int .i64) ∧ P.underlying f3.type = some (.int .u64) ∧ P.underlying f4.type = some (.int .u64)) (hl : cs.length = 5)
    (h : DataW.trod enc P W base sp held fuel e cs = some x) :
    ∃ k p i o v : Int, cs = [.int .i64 k, .int .i64 p, .int .i64 i, .int .u64 o, .int .u64 v] ∧ 0 ≤ v ∧ v ≤ 18446744073709551615 := by
  obtain ⟨xs, n, _, _, _, hxl, hg⟩ := DataW.trod_struct hs h
  have hxl' : xs.length = 5 := hxl
  obtain ⟨k, ek, _⟩ := one_int (T := e) ho.1 hc.1 hu.1 (by omega) (by omega) (hg 0 f0 rfl)
  obtain ⟨p, ep, _⟩ := one_int (T := e) ho.2.1 hc.2.1 hu.2.1 (by omega) (by omega) (hg 1 f1 rfl)
  obtain ⟨i, ei, _⟩ := one_int (T := e) ho.2.2.1 hc.2.2.1 hu.2.2.1 (by omega) (by omega) (hg 2 f2 rfl)
  obtain ⟨o, eo, _⟩ := one_int (T := e) ho.2.2.2.1 hc.2.2.2.1 hu.2.2.2.1 (by omega) (by omega) (hg 3 f3 rfl)
  obtain ⟨v, ev, wv⟩ := one_int (T := e) ho.2.2.2.2 hc.2.2.2.2 hu.2.2.2.2 (by omega) (by omega) (hg 4 f4 rfl)
  refine ⟨k, p, i, o, v, ?_, bounds_u64 wv⟩
  match cs, hl with
  | [c0, c1, c2, c3, c4], _ =>
    simp at ek ep ei eo ev
    rw [ek, ep, ei, eo, ev]


theorem one_bool {T : TypeId} {cs : List Value} {xs : List (DataW H × List MemPlace)} {n j : Nat} {fl : Field} (o : fl.offset = j) (c : P.cellsOf fl.type = 1) (u : P.underlying fl.type = some .bool) (hlt : j < cs.length) (hx : j < xs.length)
    (g : DataW.trod enc P W base sp held n fl.type ((cs.drop fl.offset).take (P.cellsOf fl.type)) = xs[j]?) : ∃ a : Bool, cs[j]? = some (.bool a) := by
  rw [o, c, take1_drop cs j undef hlt, List.getElem?_eq_getElem hx] at g
  obtain ⟨a, e, _⟩ := DataW.trod_bool u g
  refine ⟨a, ?_⟩
  simp only [List.cons.injEq, and_true] at e
  rw [List.getD_eq_getElem?_getD, List.getElem?_eq_getElem hlt] at e
  rw [List.getElem?_eq_getElem hlt]
  exact congrArg some e

/-- A struct of three ints: its cells. -/
theorem three_cells {e : TypeId} {fuel : Nat} {cs : List Value} {x : DataW H × List MemPlace} (hs : P.underlying e = some (.struct #[f0, f1, f2])) (ho : f0.offset = 0 ∧ f1.offset = 1 ∧ f2.offset = 2)
    (hc : P.cellsOf f0.type = 1 ∧ P.cellsOf f1.type = 1 ∧ P.cellsOf f2.type = 1) (hu : P.underlying f0.type = some (.int .i64) ∧ P.underlying f1.type = some (.int .i64) ∧ P.underlying f2.type = some (.int .i64)) (hl : cs.length = 3)
    (h : DataW.trod enc P W base sp held fuel e cs = some x) : ∃ a b c : Int, cs = [.int .i64 a, .int .i64 b, .int .i64 c] := by
  obtain ⟨xs, n, _, _, _, hxl, hg⟩ := DataW.trod_struct hs h
  have hxl' : xs.length = 3 := hxl
  obtain ⟨k, ek, _⟩ := one_int (T := e) ho.1 hc.1 hu.1 (by omega) (by omega) (hg 0 f0 rfl)
  obtain ⟨p, ep, _⟩ := one_int (T := e) ho.2.1 hc.2.1 hu.2.1 (by omega) (by omega) (hg 1 f1 rfl)
  obtain ⟨i, ei, _⟩ := one_int (T := e) ho.2.2 hc.2.2 hu.2.2 (by omega) (by omega) (hg 2 f2 rfl)
  refine ⟨k, p, i, ?_⟩
  match cs, hl with
  | [c0, c1, c2], _ =>
    simp at ek ep ei
    rw [ek, ep, ei]
/-- A struct of an int and a word: its cells. -/
theorem put_cells {e : TypeId} {fuel : Nat} {cs : List Value} {x : DataW H × List MemPlace} (hs : P.underlying e = some (.struct #[f0, f1])) (ho : f0.offset = 0 ∧ f1.offset = 1)
    (hc : P.cellsOf f0.type = 1 ∧ P.cellsOf f1.type = 1) (hu : P.underlying f0.type = some (.int .i64) ∧ P.underlying f1.type = some (.int .u64)) (hl : cs.length = 2)
    (h : DataW.trod enc P W base sp held fuel e cs = some x) : ∃ a b : Int, cs = [.int .i64 a, .int .u64 b] ∧ 0 ≤ b ∧ b ≤ 18446744073709551615 := by
  obtain ⟨xs, n, _, _, _, hxl, hg⟩ := DataW.trod_struct hs h
  have hxl' : xs.length = 2 := hxl
  obtain ⟨k, ek, _⟩ := one_int (T := e) ho.1 hc.1 hu.1 (by omega) (by omega) (hg 0 f0 rfl)
  obtain ⟨p, ep, wp⟩ := one_int (T := e) ho.2 hc.2 hu.2 (by omega) (by omega) (hg 1 f1 rfl)
  refine ⟨k, p, ?_, bounds_u64 wp⟩
  match cs, hl with
  | [c0, c1], _ =>
    simp at ek ep
    rw [ek, ep]
/-- A poke: a bool and an act. -/
theorem poke_cells {e : TypeId} {g0 g1 : Field} {fuel : Nat} {cs : List Value} {x : DataW H × List MemPlace} (hE : P.underlying e = some (.struct #[g0, g1])) (hgo : g0.offset = 0 ∧ g1.offset = 1) (hgc : P.cellsOf g0.type = 1 ∧ P.cellsOf g1.type = 5) (hgb : P.underlying g0.type = some .bool)
    (hs : P.underlying g1.type = some (.struct #[f0, f1, f2, f3, f4])) (ho : f0.offset = 0 ∧ f1.offset = 1 ∧ f2.offset = 2 ∧ f3.offset = 3 ∧ f4.offset = 4)
    (hc : P.cellsOf f0.type = 1 ∧ P.cellsOf f1.type = 1 ∧ P.cellsOf f2.type = 1 ∧ P.cellsOf f3.type = 1 ∧ P.cellsOf f4.type = 1)
    (hu : P.underlying f0.type = some (.int .i64) ∧ P.underlying f1.type = some (.int .i64) ∧ P.underlying f2.type = some (.int .i64) ∧ P.underlying f3.type = some (.int .u64) ∧ P.underlying f4.type = some (.int .u64)) (hl : cs.length = 6)
    (h : DataW.trod enc P W base sp held fuel e cs = some x) :
    ∃ (z : Bool) (k p i o v : Int), cs = [.bool z, .int .i64 k, .int .i64 p, .int .i64 i, .int .u64 o, .int .u64 v] ∧ 0 ≤ v ∧ v ≤ 18446744073709551615 := by
  obtain ⟨xs, n, _, _, _, hxl, hg⟩ := DataW.trod_struct hE h
  have hxl' : xs.length = 2 := hxl
  obtain ⟨z, ez⟩ := one_bool (T := e) hgo.1 hgc.1 hgb (by omega) (by omega) (hg 0 g0 rfl)
  have g := hg 1 g1 rfl
  rw [hgo.2, hgc.2, List.getElem?_eq_getElem (by omega)] at g
  obtain ⟨k, p, i, o, v, e1, hv⟩ := act_cells hs ho hc hu (by simp; omega) g
  refine ⟨z, k, p, i, o, v, ?_, hv⟩
  match cs, hl with
  | [c0, c1, c2, c3, c4, c5], _ =>
    simp at ez e1
    obtain ⟨r1, r2, r3, r4, r5⟩ := e1
    rw [ez, r1, r2, r3, r4, r5]
/-- An access: three ints, two words and a bool. -/
theorem acc_cells {e : TypeId} {f5 : Field} {fuel : Nat} {cs : List Value} {x : DataW H × List MemPlace} (hs : P.underlying e = some (.struct #[f0, f1, f2, f3, f4, f5])) (ho : f0.offset = 0 ∧ f1.offset = 1 ∧ f2.offset = 2 ∧ f3.offset = 3 ∧ f4.offset = 4 ∧ f5.offset = 5)
    (hc : P.cellsOf f0.type = 1 ∧ P.cellsOf f1.type = 1 ∧ P.cellsOf f2.type = 1 ∧ P.cellsOf f3.type = 1 ∧ P.cellsOf f4.type = 1 ∧ P.cellsOf f5.type = 1)
    (hu : P.underlying f0.type = some (.int .i64) ∧ P.underlying f1.type = some (.int .i64) ∧ P.underlying f2.type = some (.int .i64) ∧ P.underlying f3.type = some (.int .u64) ∧ P.underlying f4.type = some (.int .u64) ∧ P.underlying f5.type = some .bool) (hl : cs.length = 6)
    (h : DataW.trod enc P W base sp held fuel e cs = some x) :
    ∃ (k p i o v : Int) (z : Bool), cs = [.int .i64 k, .int .i64 p, .int .i64 i, .int .u64 o, .int .u64 v, .bool z] ∧ (0 ≤ o ∧ o ≤ 18446744073709551615) ∧ (0 ≤ v ∧ v ≤ 18446744073709551615) := by
  obtain ⟨xs, n, _, _, _, hxl, hg⟩ := DataW.trod_struct hs h
  have hxl' : xs.length = 6 := hxl
  obtain ⟨k, ek, _⟩ := one_int (T := e) ho.1 hc.1 hu.1 (by omega) (by omega) (hg 0 f0 rfl)
  obtain ⟨p, ep, _⟩ := one_int (T := e) ho.2.1 hc.2.1 hu.2.1 (by omega) (by omega) (hg 1 f1 rfl)
  obtain ⟨i, ei, _⟩ := one_int (T := e) ho.2.2.1 hc.2.2.1 hu.2.2.1 (by omega) (by omega) (hg 2 f2 rfl)
  obtain ⟨o, eo, wo⟩ := one_int (T := e) ho.2.2.2.1 hc.2.2.2.1 hu.2.2.2.1 (by omega) (by omega) (hg 3 f3 rfl)
  obtain ⟨v, ev, wv⟩ := one_int (T := e) ho.2.2.2.2.1 hc.2.2.2.2.1 hu.2.2.2.2.1 (by omega) (by omega) (hg 4 f4 rfl)
  obtain ⟨z, ez⟩ := one_bool (T := e) ho.2.2.2.2.2 hc.2.2.2.2.2 hu.2.2.2.2.2 (by omega) (by omega) (hg 5 f5 rfl)
  refine ⟨k, p, i, o, v, z, ?_, bounds_u64 wo, bounds_u64 wv⟩
  match cs, hl with
  | [c0, c1, c2, c3, c4, c5], _ =>
    simp at ek ep ei eo ev ez
    rw [ek, ep, ei, eo, ev, ez]
end

/-- A slice of n elements of k cells each, seen in memory below block B. -/
def SeesC (w : World) (B : Nat) (E : Option Addr) (n k : Nat) (C : Nat → List Value) : Prop :=
  0 < n → ∃ b off : Nat, E = some ⟨b, off, none⟩ ∧ b < B ∧ ∀ j, j < n → ∀ i u, (C j)[i]? = some u → w.cell? ⟨b, off + j * k + i, none⟩ = some u
theorem SeesC.below {w w' : World} {B B' n k : Nat} {E : Option Addr} {C : Nat → List Value} (h : SeesC w B E n k C) (hb : Below B' w w') (hB : B ≤ B') : SeesC w' B E n k C := fun hn => by
  obtain ⟨b, off, e, hlt, hc⟩ := h hn
  exact ⟨b, off, e, hlt, fun j hj i u hu => (hb.cell (p := ⟨b, off + j * k + i, none⟩) (Nat.lt_of_lt_of_le hlt hB)).trans (hc j hj i u hu)⟩
theorem SeesC.more {w : World} {B B' n k : Nat} {E : Option Addr} {C : Nat → List Value} (h : SeesC w B E n k C) (hB : B ≤ B') : SeesC w B' E n k C := fun hn => by
  obtain ⟨b, off, e, hlt, hc⟩ := h hn
  exact ⟨b, off, e, Nat.lt_of_lt_of_le hlt hB, hc⟩

theorem add_plain' (b off k : Nat) : (⟨b, off, none⟩ : Addr).add k = ⟨b, off + k, none⟩ := by
  unfold Addr.add; split <;> simp_all
theorem open_structs {H : Type} {enc : TypeId × Value → H} {P : Program} {W : World} {base : Nat} {t e : TypeId} {fuel k : Nat} {cs : List Value} {x : DataW H × List MemPlace} (Q : List Value → Prop) (ht : P.underlying t = some (.slice e)) (hC : P.cellsOf e = k) (hk : 0 < k)
    (hq : ∀ (f : Nat) (l : List Value) (y : DataW H × List MemPlace), l.length = k → DataW.trod enc P W base (fun _ => true) true f e l = some y → Q l)
    (h : DataW.trod enc P W base (fun _ => true) true fuel t cs = some x) :
    ∃ (A : Option Addr) (n cap : Nat) (C : Nat → List Value), cs = [.slice A n cap] ∧ n ≤ maxLen ∧ (A = none → n = 0 ∧ cap = 0) ∧ SeesC W W.heap.size A n k C ∧ ∀ j, j < n → (C j).length = k ∧ Q (C j) := by
  rcases open_slice ht h with ⟨hcs, _⟩ | ⟨a, l, c, m, q, D, Pl, hcs, _, hl, hm, hmm, _, hx⟩
  · exact ⟨none, 0, 0, fun _ => [], hcs, Nat.zero_le _, fun _ => ⟨rfl, rfl⟩, fun h => absurd h (Nat.lt_irrefl 0), fun i hi => absurd hi (Nat.not_lt_zero i)⟩
  · have hmm' : m = c := by simpa using hmm
    subst hmm'
    have each : ∀ j, j < l → ∃ C : List Value, (∀ i u, C[i]? = some u → W.cell? (a.add (j * k + i)) = some u) ∧ C.length = k ∧ Q C := by
      intro j hj
      obtain ⟨cs', h1, h2⟩ := hx j (by omega)
      rw [hC] at h1
      obtain ⟨_, hlen, hcell⟩ := World.cells?_some h1
      refine ⟨cs', fun i u hu => ?_, hlen, hq _ _ _ hlen h2⟩
      have hi : i < k := by rw [← hlen]; exact (List.getElem?_eq_some_iff.1 hu).1
      have := hcell i hi
      rw [add_add, hu] at this
      exact this
    obtain ⟨C, hy⟩ := choose_lt each
    refine ⟨some a, l, m, C, hcs, Nat.le_trans hl hm, (fun h => by cases h), fun hn => ?_, fun j hj => (hy j hj).2⟩
    obtain ⟨b, off, spot⟩ := a
    have hlen := (hy 0 hn).2.1
    have h0 := (hy 0 hn).1 0 ((C 0)[0]'(by omega)) (List.getElem?_eq_getElem (by omega))
    have hsp : spot = none := by
      simpa [Addr.add] using World.cell?_spot h0
    subst hsp
    rw [add_plain'] at h0
    refine ⟨b, off, rfl, cell_lt h0, fun j hj i u hu => ?_⟩
    have := (hy j hj).1 i u hu
    rw [add_plain'] at this
    rw [Nat.add_assoc]
    exact this

/-- A ground that came in. -/
theorem open_ground {H : Type} {enc : TypeId × Value → H} {W : World} {base b0 : Nat} {v : Value} {d : DataW H} {p : List MemPlace}
    (hv : Value.okWide Tryz.prog W .any b0 26 v) (h : DataW.Trod enc Tryz.prog W base (fun _ => true) true 26 v d p) :
    ∃ (P T G : Int) (E : Option Addr) (m cp : Nat) (a x : Nat → Int), v = .agg #[.int .i64 P, .int .i64 T, .int .i64 G, .slice E m cp] ∧ m ≤ maxLen ∧ SeesP W W.heap.size E m a x ∧ ∀ j, j < m → 0 ≤ x j ∧ x j ≤ 18446744073709551615 := by
  obtain ⟨cs, rfl, hsz⟩ := okWide_struct Tryz.underlying26 hv
  have hl : cs.toList.length = 4 := by
    have : Tryz.prog.cellsOf 26 = 4 := by kernel_rfl
    simpa using hsz.trans this
  obtain ⟨fuel, hf⟩ := h
  obtain ⟨xs, n, _, _, _, hxl, hg⟩ := DataW.trod_struct Tryz.underlying26 hf
  have hxl' : xs.length = 2 := hxl
  have g0 : DataW.trod enc Tryz.prog W base (fun _ => true) true n 23 ((cs.toList.drop 0).take (Tryz.prog.cellsOf 23)) = xs[0]? := hg 0 _ rfl
  have g1 : DataW.trod enc Tryz.prog W base (fun _ => true) true n 24 ((cs.toList.drop 3).take (Tryz.prog.cellsOf 24)) = xs[1]? := hg 1 _ rfl
  rw [List.getElem?_eq_getElem (by omega)] at g0 g1
  rw [show Tryz.prog.cellsOf 23 = 3 by kernel_rfl] at g0
  rw [show Tryz.prog.cellsOf 24 = 1 by kernel_rfl] at g1
  obtain ⟨P, T, G, e1⟩ := three_cells Tryz.underlying23 ⟨rfl, rfl, rfl⟩ ⟨by kernel_rfl, by kernel_rfl, by kernel_rfl⟩ ⟨Tryz.underlying3, Tryz.underlying3, Tryz.underlying3⟩ (by rw [List.length_take, List.length_drop, hl]; rfl) g0
  obtain ⟨E, m, cp, C, e2, hm, hnil, hC, hQ⟩ := open_structs (k := 2) (fun l => ∃ a b : Int, l = [.int .i64 a, .int .u64 b] ∧ 0 ≤ b ∧ b ≤ 18446744073709551615) Tryz.underlying24 (by kernel_rfl) (by omega)
    (fun f l y hl hy => put_cells Tryz.underlying93 ⟨rfl, rfl⟩ ⟨by kernel_rfl, by kernel_rfl⟩ ⟨Tryz.underlying3, Tryz.underlying39⟩ hl hy) g1
  obtain ⟨ab, hab⟩ := choose_lt (p := fun j (q : Int × Int) => C j = [.int .i64 q.1, .int .u64 q.2] ∧ 0 ≤ q.2 ∧ q.2 ≤ 18446744073709551615) (fun j hj => by obtain ⟨_, a, b, e, hb⟩ := hQ j hj; exact ⟨(a, b), e, hb⟩)
  refine ⟨P, T, G, E, m, cp, fun j => (ab j).1, fun j => (ab j).2, ?_, hm, ?_, fun j hj => (hab j hj).2⟩
  · have : cs.toList = [.int .i64 P, .int .i64 T, .int .i64 G, .slice E m cp] := by
      match hcs : cs.toList, hl with
      | [c0, c1, c2, c3], _ =>
        rw [hcs] at e1 e2
        simp at e1 e2
        obtain ⟨r1, r2, r3⟩ := e1
        rw [r1, r2, r3, e2]
    rw [← Array.toArray_toList (xs := cs), this]
  · intro hp
    obtain ⟨b, off, e, hlt, hc⟩ := hC hp
    refine ⟨b, off, e, hlt, fun j hj => ?_⟩
    have e3 := (hab j hj).1
    exact ⟨hc j hj 0 _ (by rw [e3]; rfl), hc j hj 1 _ (by rw [e3]; rfl)⟩
end Go.Proofs.YthbgoakaijeemaaGreat

namespace Go.Proofs.YthbgoakaijeemaaGreat
open Go Go.RowKit
set_option linter.unusedVariables false
set_option maxRecDepth 100000
set_option linter.unusedSimpArgs false

theorem lay_ne {w : World} {A : Option Addr} {cap c b n cl : Nat} {s : St} {P T G : Int} {T' : TypeId} (hL : Lay w cl P T G) (hT : T' ≠ 165) (hI : Is w T' A cap c b n s) (hn : 0 < n) : cl ≠ c ∧ cl ≠ b := by
  have h1 : w.heap[cl]? = some (.cells #[.int .i64 P, .int .i64 T, .int .i64 G] 165 (0, 0)) := hL
  constructor
  · rintro rfl
    have h2 := hI.main
    rw [h1] at h2
    simp at h2
    exact hT h2.2.symm
  · rintro rfl
    obtain ⟨_, _, cs, h2, h3⟩ := hI.wds hn
    rw [h1] at h2
    simp at h2

def Rd.blk (c : Nat) (cs : Array Value) (T : TypeId) : Rd := ⟨[c], fun w => Blk w c cs T, fun w w' l h hb hk => h.but hb (hk c (by simp))⟩

structure LawOn {σ : Type} (I : MI σ) (R : Rd) (W0 w : World) (A A' : Option Addr) (cap cap' c b c' b' n : Nat) (s s2 : St) (Ag : Option Addr) (capg m : Nat) (g : Nat → Int) (x : Nat) (t : σ) (L E : List Nat) : Prop where
  poke : PokeOn W0 w A A' cap cap' c b c' b' n s s2 Ag capg m g (L ++ E)
  mach : I w x t L
  rd : R.P w
  rb : ∀ k ∈ R.B, k ∈ E
  apart : ∀ k ∈ L, k ∉ E

section
variable {σ : Type} {I : MI σ} {M : PM σ} {R Rm : Rd} {W0 w w' : World} {A A' : Option Addr} {cap cap' c b c' b' n : Nat} {s s2 : St} {Ag : Option Addr} {capg m : Nat} {g : Nat → Int} {x : Nat} {t : σ} {L E : List Nat}
theorem LawOn.still (hG : I.Good M) (h : LawOn I R W0 w A A' cap cap' c b c' b' n s s2 Ag capg m g x t L E) (hb : Below w.heap.size w w') : LawOn I R W0 w' A A' cap cap' c b c' b' n s s2 Ag capg m g x t L E :=
  ⟨h.poke.still hb, hG.below h.mach hb, R.below h.rd hb, h.rb, h.apart⟩
theorem LawOn.pokes (hG : I.Good M) (h : LawOn I R W0 w A A' cap cap' c b c' b' n s s Ag capg m g x t L E) (hn : n ≤ 1000000) (hl : Low s 1000000) (k who i old new : Int) (hnb : 0 ≤ new ∧ new ≤ 18446744073709551615) :
    Calls Tryz.prog 14 #[.pointer (some ⟨c, 0, none⟩), .pointer (some ⟨c', 0, none⟩), .agg #[.int .i64 k, .int .i64 who, .int .i64 i, .int .u64 old, .int .u64 new]] w fun e w' => e = .returned (.bool true) ∧ LawOn I R W0 w' A A' cap cap' c b c' b' n (actS k who i old new n s) (actS k who i old new n s) Ag capg m g x t L E := by
  refine (h.poke.poke hn hl k who i old new hnb).mono ?_
  rintro e w' ⟨rfl, hO, hB⟩
  have hfar : ∀ z ∈ L ++ E, z ∉ [c, b, c', b'] := fun z hz => by
    obtain ⟨h1, h2, h3, h4⟩ := (h.poke.far z hz).1
    simp [h1, h2, h3, h4]
  exact ⟨rfl, hO, hG.keep h.mach hB (fun k hk => hfar k (List.mem_append_left _ hk)), R.keep _ _ _ h.rd hB (fun k hk => hfar k (List.mem_append_right _ (h.rb k hk))), h.rb, h.apart⟩
theorem LawOn.turn (hG : I.Good M) (h : LawOn I R W0 w A A' cap cap' c b c' b' n s s Ag capg m g x t L E) (hok : ∀ a, M.ax t = some a → a.Ok) (hn : n ≤ 1000000) (hl : Low s 1000000) (hm : m ≤ 1000) (who : Int) :
    Calls Tryz.prog 19 #[.pointer (some ⟨c', 0, none⟩), .agg (runCells (.slice Ag m capg) (M.rn t m)), .int .i64 who] w fun e w' => ∃ Ag' capg', e = .returned (.slice Ag' (M.goM n t s m) capg') ∧ LawOn I R W0 w' A A' cap cap' c b c' b' n s (M.goS who n t s) Ag' capg' (M.goM n t s m) (M.goG n t s g m) x t L E := by
  refine (pm_turn h.poke hok hn hl hm who).mono ?_
  rintro e w' ⟨Ag', capg', rfl, hO, hB⟩
  exact ⟨Ag', capg', rfl, hO, hG.keep h.mach hB (fun k hk => h.poke.apart (List.mem_append_left _ hk)), R.keep _ _ _ h.rd hB (fun k hk => h.poke.apart (List.mem_append_right _ (h.rb k hk))), h.rb, h.apart⟩
theorem LawOn.step (hG : I.Good M) {F : Nat} {who : Int} (hS : Steps M I Rm F who) (hRm : ∀ w, R.P w → Rm.P w) (hRb : ∀ k ∈ Rm.B, k ∈ R.B) (h : LawOn I R W0 w A A' cap cap' c b c' b' n s s2 Ag capg m g x t L E) (hn : n ≤ 1000000) (hl : Low s 1000000) :
    Calls Tryz.prog F #[.pointer (some ⟨x, 0, none⟩), .pointer (some ⟨c, 0, none⟩)] w fun e w' => (∃ z, e = .returned (.bool z)) ∧ ∃ L', LawOn I R W0 w' A A' cap cap' c b c' b' n (M.goS who n t s) s2 Ag capg m g x (M.goT n t s) L' E := by
  have hE : ∀ k ∈ E, k ∉ L := fun k hk hl => h.apart k hl hk
  have hfar := h.poke.far
  refine (hS w A cap c b n s x t L h.mach (hRm w h.rd) h.poke.mem hn hl (fun k hk => ⟨(hfar k (List.mem_append_left _ hk)).1.1, (hfar k (List.mem_append_left _ hk)).1.2.1, fun hr => h.apart k hk (h.rb k (hRb k hr))⟩)
    ⟨fun hr => (hfar c (List.mem_append_right _ (h.rb c (hRb c hr)))).1.1 rfl, fun hr => (hfar b (List.mem_append_right _ (h.rb b (hRb b hr)))).1.2.1 rfl⟩).mono ?_
  rintro e w' ⟨rfl, L', a1, a2, a3, a4⟩
  have hlt := hG.lt a1
  refine ⟨⟨_, rfl⟩, L', h.poke.stepped a2 a3 (fun k hk => ?_) (fun k hk => ?_), a1, R.keep _ _ _ h.rd a3 (fun k hk => ?_), h.rb, fun k hk hke => ?_⟩
  · simp only [List.mem_cons] at hk
    rcases hk with rfl | rfl | hk
    · exact .inl rfl
    · exact .inr (.inl rfl)
    · exact .inr (.inr (List.mem_append_left _ hk))
  · rcases List.mem_append.1 hk with hk | hk
    · refine ⟨?_, hlt k hk⟩
      rcases a4 k hk with h1 | h1
      · exact .inl (List.mem_append_left _ h1)
      · exact .inr h1
    · exact ⟨.inl (List.mem_append_right _ hk), Nat.lt_of_lt_of_le (hfar k (List.mem_append_right _ hk)).2.1 a3.size⟩
  · have hke := h.rb k hk
    have := hfar k (List.mem_append_right _ hke)
    simp only [List.mem_cons, not_or]
    exact ⟨this.1.1, this.1.2.1, hE k hke⟩
  · rcases a4 k hk with h1 | h1
    · exact h.apart k h1 hke
    · have := (hfar k (List.mem_append_right _ hke)).2.1
      omega
/-- How it begins. -/
theorem LawOn.begin {w2 w3 : World} (hT : Two w2 A A' cap cap' c b c' b' n s) (hb : Below w2.heap.size w2 w3) (hB2 : Below W0.heap.size W0 w2) (hup : W0.heap.size ≤ c ∧ W0.heap.size ≤ b ∧ W0.heap.size ≤ c' ∧ W0.heap.size ≤ b')
    (hm : I w3 x t L) (hG : I.Good M) (hL : ∀ k ∈ L, w2.heap.size ≤ k) (hr : R.P w3) (hrb : ∀ k ∈ R.B, k ∈ E) (hE : ∀ k ∈ E, (k ≠ c ∧ k ≠ b ∧ k ≠ c' ∧ k ≠ b') ∧ k < w2.heap.size ∧ W0.heap.size ≤ k) :
    LawOn I R W0 w3 A A' cap cap' c b c' b' n s s none 0 0 (fun _ => 0) x t L E := by
  have k1 := hT.m.lt
  have k2 := hT.m.bl
  have k3 := hT.r.lt
  have k4 := hT.r.bl
  have hsz := hB2.size
  have hlt := hG.lt hm
  refine ⟨⟨hT.m.below hb, hT.r.below hb, hT.ne, ⟨World.ownsRow_nil _ _ _ _⟩, (fun k e => by cases e), (fun k e => by cases e), fun k hk => ?_, hup, hB2.trans (hb.mono hsz)⟩, hm, hr, hrb, fun k hk hke => ?_⟩
  · rcases List.mem_append.1 hk with hk | hk
    · have h1 := hL k hk
      exact ⟨⟨by omega, by omega, by omega, by omega⟩, hlt k hk, Nat.le_trans hsz h1⟩
    · obtain ⟨h1, h2, h3⟩ := hE k hk
      exact ⟨h1, Nat.lt_of_lt_of_le h2 hb.size, h3⟩
  · have h1 := hL k hk
    have h2 := (hE k hke).2.1
    omega
end

theorem sameB_any (w : World) (A B : Option Addr) (n cap cap' : Nat) (f : Nat → Int) (hn : n ≤ 1000000) (hA : SeesU w w.heap.size A n f) (hB : SeesU w w.heap.size B n f) :
    Calls Tryz.prog 22 #[.slice A n cap, .slice B n cap'] w fun e w' => e = .returned (.bool true) ∧ Below w.heap.size w w' :=
  (same_any w A B n cap cap' f hn hA hB).mono fun e w' ⟨he, m, hm⟩ => ⟨he, by rw [hm]; exact Below.drewN' (Below.refl _ _) m⟩
theorem SeesP.up {w : World} {E : Option Addr} {m : Nat} {a v : Nat → Int} (hs : SeesP w w.heap.size E m a v) (o : Obj) : SeesP (w.alloc o) (w.alloc o).heap.size E m a v := fun hp => by
  obtain ⟨b0, off, e, hlt, hc⟩ := hs hp
  have hB : Below w.heap.size w (w.alloc o) := (Below.refl _ _).alloc (Nat.le_refl _) _
  exact ⟨b0, off, e, by simp; omega, fun j hj => ⟨(hB.cell (p := ⟨b0, off + j * 2, none⟩) hlt).trans (hc j hj).1, (hB.cell (p := ⟨b0, off + j * 2 + 1, none⟩) hlt).trans (hc j hj).2⟩⟩

def runL (v : Value) (r : Rn) : List Value := [v, .int .i64 r.used, .bool r.stop, .int .i64 r.k, .int .i64 0, .int .i64 r.i, .int .u64 r.old, .int .u64 r.new, .bool false, .bool r.sleep]
theorem RunOn.range {w : World} {x : Nat} {A : Option Addr} {cap m : Nat} {g : Nat → Int} {r : Rn} (h : RunOn w x A cap m g r) : w.rangeAt x 0 (runL (.slice A m cap) r) := by
  intro j v e
  rw [Nat.zero_add]
  exact h.blk.cell j (by rw [show runCells (.slice A m cap) r = (runL (.slice A m cap) r).toArray from rfl]; simpa using e)

theorem run_starts {w : World} {A : Option Addr} {cap m : Nat} {g : Nat → Int} (hG : GotOn w A cap m g) (hm : m ≤ 1000) : RunOn (w.alloc (.cells (runL (.slice A m cap) rn0).toArray 48)) w.heap.size A cap m g rn0 := by
  refine ⟨Blk.new _ _ _, hG.but (But.of_below (l := []) ((Below.refl _ _).alloc (Nat.le_refl _) _)) (fun b e => by simp), fun b e => ?_, by omega, Nat.zero_le _⟩
  rcases hG.form with ⟨e0, -, -⟩ | ⟨gb, e0, hl⟩
  · rw [e0] at e; cases e
  · rw [e0] at e; cases e; simp; omega
theorem wd_lock (lk f : Int) (h : 0 ≤ lk ∧ lk ≤ 1) (hf : 0 ≤ f ∧ f ≤ 2) : wd 0 2 3 lk f = 3 * lk + f := by
  unfold wd
  rw [if_pos ⟨h.1, by omega, hf.1, by omega⟩]
  omega

/-- The cells of a poke. -/
def pokeL (z : Bool) (k p i o v : Int) : List Value := [.bool z, .int .i64 k, .int .i64 p, .int .i64 i, .int .u64 o, .int .u64 v]
structure Pk where
  z : Bool
  k : Int
  p : Int
  i : Int
  o : Int
  v : Int
def pkC (P : Nat → Pk) (j : Nat) : List Value := pokeL (P j).z (P j).k (P j).p (P j).i (P j).o (P j).v


open Go.ChangeShapes Go.WideShapes Go.ChangeAt Go.Deep in
/-- Pokes that came in. -/
theorem open_pokes {H : Type} {enc : TypeId × Value → H} {W : World} {base b0 : Nat} {v : Value} {d : DataW H} {p : List MemPlace}
    (hv : Value.okWide Tryz.prog W .any b0 29 v) (h : DataW.Trod enc Tryz.prog W base (fun _ => true) true 29 v d p) :
    ∃ (F : Option Addr) (mp cq : Nat) (Pks : Nat → Pk), v = .slice F mp cq ∧ mp ≤ maxLen ∧ SeesC W W.heap.size F mp 6 (pkC Pks) ∧ ∀ j, j < mp → 0 ≤ (Pks j).v ∧ (Pks j).v ≤ 18446744073709551615 := by
  obtain ⟨A, n, cap, rfl⟩ := okWide_slice Tryz.underlying29 hv
  obtain ⟨fuel, hf⟩ := h
  obtain ⟨F, mp, cq, C, e2, hm, hnil, hC, hQ⟩ := open_structs (k := 6) (fun l => ∃ (z : Bool) (k p i o v : Int), l = [.bool z, .int .i64 k, .int .i64 p, .int .i64 i, .int .u64 o, .int .u64 v] ∧ 0 ≤ v ∧ v ≤ 18446744073709551615) Tryz.underlying29 (by kernel_rfl) (by omega)
    (fun f l y hl hy => poke_cells Tryz.underlying43 ⟨rfl, rfl⟩ ⟨by kernel_rfl, by kernel_rfl⟩ Tryz.underlying4 Tryz.underlying41 ⟨rfl, rfl, rfl, rfl, rfl⟩ ⟨by kernel_rfl, by kernel_rfl, by kernel_rfl, by kernel_rfl, by kernel_rfl⟩ ⟨Tryz.underlying3, Tryz.underlying3, Tryz.underlying3, Tryz.underlying39, Tryz.underlying39⟩ hl hy) hf
  have hinh : Inhabited Pk := ⟨⟨false, 0, 0, 0, 0, 0⟩⟩
  obtain ⟨ab, hab⟩ := choose_lt (p := fun j (q : Pk) => C j = pokeL q.z q.k q.p q.i q.o q.v ∧ 0 ≤ q.v ∧ q.v ≤ 18446744073709551615) (fun j hj => by obtain ⟨_, z, k, p, i, o, v, e, hb⟩ := hQ j hj; exact ⟨⟨z, k, p, i, o, v⟩, e, hb⟩)
  have e3 : Value.slice A n cap = .slice F mp cq := by simpa [Value.cells] using e2
  refine ⟨F, mp, cq, ab, e3, hm, ?_, fun j hj => (hab j hj).2⟩
  intro hp
  obtain ⟨b, off, e, hlt, hc⟩ := hC hp
  exact ⟨b, off, e, hlt, fun j hj i u hu => hc j hj i u (by rw [(hab j hj).1]; exact hu)⟩

end Go.Proofs.YthbgoakaijeemaaGreat

namespace Go.Proofs.YthbgoakaijeemaaGreat
open Go Go.RowKit
set_option linter.unusedVariables false
set_option maxRecDepth 100000
set_option linter.unusedSimpArgs false

/-- So many steps of a machine. -/
def PM.steps {σ : Type} (M : PM σ) (who : Int) (n : Nat) : Nat → σ × St → σ × St
  | 0, p => p
  | k + 1, p => PM.steps M who n k (M.goT n p.1 p.2, M.goS who n p.1 p.2)
theorem PM.steps_succ {σ : Type} (M : PM σ) (who : Int) (n : Nat) : ∀ (k : Nat) (p : σ × St), M.steps who n (k + 1) p = (M.goT n (M.steps who n k p).1 (M.steps who n k p).2, M.goS who n (M.steps who n k p).1 (M.steps who n k p).2)
  | 0, p => rfl
  | k + 1, p => PM.steps_succ M who n k (M.goT n p.1 p.2, M.goS who n p.1 p.2)
theorem PM.steps_low {σ : Type} (M : PM σ) (who : Int) (n : Nat) {m : Int} : ∀ (k : Nat) (p : σ × St), Low p.2 m → Low (M.steps who n k p).2 (m + k)
  | 0, p, h => h.more (by omega)
  | k + 1, p, h => (PM.steps_low M who n k (M.goT n p.1 p.2, M.goS who n p.1 p.2) (PM.goS_low h)).more (by omega)

/-- A machine over a memory, apart, with what is only read. -/
structure Solo {σ : Type} (I : MI σ) (R : Rd) (W0 w : World) (A : Option Addr) (cap c b n : Nat) (s : St) (x : Nat) (t : σ) (L : List Nat) : Prop where
  mem : Is w 128 A cap c b n s
  mach : I w x t L
  rd : R.P w
  far : ∀ k ∈ L, k ≠ c ∧ k ≠ b ∧ k ∉ R.B
  rfar : c ∉ R.B ∧ b ∉ R.B
  up : W0.heap.size ≤ c ∧ W0.heap.size ≤ b ∧ ∀ k ∈ L, W0.heap.size ≤ k
  rlt : ∀ k ∈ R.B, k < w.heap.size
  below : Below W0.heap.size W0 w
section
variable {σ : Type} {I : MI σ} {M : PM σ} {R Rm : Rd} {W0 w w' : World} {A : Option Addr} {cap c b n : Nat} {s : St} {x : Nat} {t : σ} {L : List Nat}
theorem Solo.still (hG : I.Good M) (h : Solo I R W0 w A cap c b n s x t L) (hb : Below w.heap.size w w') : Solo I R W0 w' A cap c b n s x t L :=
  ⟨h.mem.below hb, hG.below h.mach hb, R.below h.rd hb, h.far, h.rfar, h.up, fun k hk => Nat.lt_of_lt_of_le (h.rlt k hk) hb.size, h.below.trans (hb.mono h.below.size)⟩
theorem Solo.step (hG : I.Good M) {F : Nat} {who : Int} (hS : Steps M I Rm F who) (hRm : ∀ w, R.P w → Rm.P w) (hRb : ∀ k ∈ Rm.B, k ∈ R.B) (h : Solo I R W0 w A cap c b n s x t L) (hn : n ≤ 1000000) (hl : Low s 1000000) :
    Calls Tryz.prog F #[.pointer (some ⟨x, 0, none⟩), .pointer (some ⟨c, 0, none⟩)] w fun e w' => (e = .returned (.bool (M.ax (M.goT n t s)).isNone)) ∧ ∃ L', Solo I R W0 w' A cap c b n (M.goS who n t s) x (M.goT n t s) L' := by
  refine (hS w A cap c b n s x t L h.mach (hRm w h.rd) h.mem hn hl (fun k hk => ⟨(h.far k hk).1, (h.far k hk).2.1, fun hr => (h.far k hk).2.2 (hRb k hr)⟩) ⟨fun hr => h.rfar.1 (hRb c hr), fun hr => h.rfar.2 (hRb b hr)⟩).mono ?_
  rintro e w' ⟨rfl, L', a1, a2, a3, a4⟩
  have hsz := h.below.size
  have k1 := h.mem.lt
  have k2 := h.mem.bl
  refine ⟨rfl, L', a2, a1, R.keep _ _ _ h.rd a3 (fun k hk => ?_), fun k hk => ?_, h.rfar, ⟨h.up.1, h.up.2.1, fun k hk => ?_⟩, fun k hk => Nat.lt_of_lt_of_le (h.rlt k hk) a3.size, h.below.trans (a3.below ?_ hsz)⟩
  · simp only [List.mem_cons, not_or]
    exact ⟨fun e => h.rfar.1 (e ▸ hk), fun e => h.rfar.2 (e ▸ hk), fun hm => (h.far k hm).2.2 hk⟩
  · rcases a4 k hk with h1 | h1
    · exact h.far k h1
    · exact ⟨by omega, by omega, fun hr => by have := h.rlt k hr; omega⟩
  · rcases a4 k hk with h1 | h1
    · exact h.up.2.2 k h1
    · omega
  · intro k hk
    simp only [List.mem_cons] at hk
    rcases hk with rfl | rfl | hk
    · exact h.up.1
    · exact h.up.2.1
    · exact h.up.2.2 k hk
/-- How it begins. -/
theorem Solo.begin {w2 w3 : World} (hm : Is w2 128 A cap c b n s) (hb : Below w2.heap.size w2 w3) (hB2 : Below W0.heap.size W0 w2) (hup : W0.heap.size ≤ c ∧ W0.heap.size ≤ b) (hi : I w3 x t L) (hL : ∀ k ∈ L, w2.heap.size ≤ k) (hr : R.P w2) (hrl : ∀ k ∈ R.B, k < w2.heap.size) (hrf : c ∉ R.B ∧ b ∉ R.B) : Solo I R W0 w3 A cap c b n s x t L := by
  have k1 := hm.lt
  have k2 := hm.bl
  have hsz := hB2.size
  refine ⟨hm.below hb, hi, R.below hr hb, fun k hk => ?_, hrf, ⟨hup.1, hup.2, fun k hk => Nat.le_trans hsz (hL k hk)⟩, fun k hk => Nat.lt_of_lt_of_le (hrl k hk) hb.size, hB2.trans (hb.mono hsz)⟩
  have h1 := hL k hk
  exact ⟨by omega, by omega, fun hr => by have := hrl k hr; omega⟩
end
end Go.Proofs.YthbgoakaijeemaaGreat
