/- The contract of Lay: a ground's layout, and its two memories. -/
import Derived.Test.YthjfbknmdligeaaGreatGnd1
import Derived.Test.YthjfbknmdligeaaGreatFlow1
namespace Go.Proofs.YthjfbknmdligeaaGreat
open Go Go.RowKit
set_option linter.unusedVariables false
set_option maxRecDepth 100000
set_option linter.unusedSimpArgs false

/-- A slice of m words that are laid, seen in memory below block B. -/
def SeesP (w : World) (B : Nat) (E : Option Addr) (m : Nat) (a v : Nat → Int) : Prop :=
  0 < m → ∃ b off : Nat, E = some ⟨b, off, none⟩ ∧ b < B ∧ ∀ j, j < m → w.cell? ⟨b, off + j * 2, none⟩ = some (.int .i64 (a j)) ∧ w.cell? ⟨b, off + j * 2 + 1, none⟩ = some (.int .u64 (v j))
theorem SeesP.below {w w' : World} {B B' m : Nat} {E : Option Addr} {a v : Nat → Int} (h : SeesP w B E m a v) (hb : Below B' w w') (hB : B ≤ B') : SeesP w' B E m a v := fun hm => by
  obtain ⟨b, off, e, hlt, hc⟩ := h hm
  exact ⟨b, off, e, hlt, fun j hj => ⟨(hb.cell (p := ⟨b, off + j * 2, none⟩) (Nat.lt_of_lt_of_le hlt hB)).trans (hc j hj).1, (hb.cell (p := ⟨b, off + j * 2 + 1, none⟩) (Nat.lt_of_lt_of_le hlt hB)).trans (hc j hj).2⟩⟩

/-- The words of a memory of n, when k of them are laid. -/
def putF (a v : Nat → Int) (n : Nat) : Nat → Nat → Int
  | 0 => fun _ => 0
  | k + 1 => if 0 ≤ a k ∧ a k < n then upd (putF a v n k) (a k).toNat (v k) else putF a v n k
theorem putF_bd {a v : Nat → Int} {n m : Nat} (hv : ∀ i, i < m → 0 ≤ v i ∧ v i ≤ 18446744073709551615) : ∀ k, k ≤ m → ∀ i, 0 ≤ putF a v n k i ∧ putF a v n k i ≤ 18446744073709551615
  | 0, _, i => by unfold putF; omega
  | k + 1, hk, i => by
    unfold putF
    split
    · unfold upd
      split
      · exact hv k (by omega)
      · exact putF_bd hv k (by omega) i
    · exact putF_bd hv k (by omega) i
theorem Row.put {w : World} {g n : Nat} {f : Nat → Int} (h : Row w g n n f) (j : Nat) (hj : j < n) (v : Int) : Row (w.setCell ⟨g, j, none⟩ (.int .u64 v)) g n n (upd f j v) := by
  obtain ⟨cur, hh, hs, hc⟩ := h
  refine ⟨_, heap_set hh j _, by simpa using hs, fun i hi => ?_⟩
  by_cases e : i = j
  · subst e; simp [hs, hj, upd]
  · rw [Array.getElem?_setIfInBounds_ne (by omega), hc i hi]; simp [upd, e]

theorem lay_none (P T G : Int) (E : Option Addr) (m cp : Nat) (w : World) (hm : m ≤ 9223372036854775807) (h : ¬ FewC P T G ∨ 400 < m) :
    Calls Tryz.prog 7 #[.agg #[.int .i64 P, .int .i64 T, .int .i64 G, .slice E m cp]] w fun e w' => e = .returned (.tuple #[.pointer none, .pointer none, .pointer none, .bool false]) ∧ Below w.heap.size w w' := by
  have hb : Below w.heap.size w (w.alloc (.cells #[.int .i64 P, .int .i64 T, .int .i64 G, .slice E m cp] 26)) := (Below.refl _ _).alloc (Nat.le_refl _) _
  have hF := few_any P T G (w.alloc (.cells #[.int .i64 P, .int .i64 T, .int .i64 G, .slice E m cp] 26))
  have hc : Hid ((w.alloc (.cells #[.int .i64 P, .int .i64 T, .int .i64 G, .slice E m cp] 26)).heap[w.heap.size]? = some (.cells #[.int .i64 P, .int .i64 T, .int .i64 G, .slice E m cp] 26 (0, 0))) := heap_alloc_new _ _
  by_cases hf : FewC P T G
  · rw [decide_eq_true hf] at hF
    have h4 : 400 < m := by rcases h with h | h; exact absurd hf h; exact h
    go_enter Tryz.func7, Tryz.ntmps7
    go_wp2_with fail
    go_at_call 32; refine hF.mono ?_; rintro e w1 ⟨rfl, h1⟩
    have hb1 := hb.trans (h1.mono (by simp))
    have hh := (h1.block w.heap.size (by simp)).trans hc.out
    have c3 : w1.cell? ⟨w.heap.size, 3, none⟩ = some (.slice E m cp) := by simp [World.cell?, hh]
    clear hF h1 hc hh hb
    go_wp2_with fail
    go_returns
    exact ⟨rfl, hb1⟩
  · rw [decide_eq_false hf] at hF
    go_enter Tryz.func7, Tryz.ntmps7
    go_wp2_with fail
    go_at_call 32; refine hF.mono ?_; rintro e w1 ⟨rfl, h1⟩
    have hb1 := hb.trans (h1.mono (by simp))
    clear hF h1 hc hb
    go_wp2_with fail
    go_returns
    exact ⟨rfl, hb1⟩

/-- What Lay leaves. -/
structure Laid (w w' : World) (P T G : Int) (n : Nat) (f : Nat → Int) (cl : Nat) (A A' : Option Addr) (cap cap' c b c' b' : Nat) : Prop where
  lay : Lay w' cl P T G
  two : Two w' A A' cap cap' c b c' b' n (fresh f)
  below : Below w.heap.size w w'
  up : w.heap.size ≤ cl ∧ w.heap.size ≤ c ∧ w.heap.size ≤ b ∧ w.heap.size ≤ c' ∧ w.heap.size ≤ b'

set_option maxHeartbeats 2000000 in
theorem lay_some (P T G : Int) (E : Option Addr) (m cp n : Nat) (a v : Nat → Int) (w : World) (hm : m ≤ 400) (hf : FewC P T G) (hn : (n : Int) = 20 + 264 * P + 3 * T + 2 * G) (hs : SeesP w w.heap.size E m a v) (hv : ∀ i, i < m → 0 ≤ v i ∧ v i ≤ 18446744073709551615) :
    Calls Tryz.prog 7 #[.agg #[.int .i64 P, .int .i64 T, .int .i64 G, .slice E m cp]] w fun e w' => ∃ (cl : Nat) (A A' : Option Addr) (cap cap' c b c' b' : Nat), e = .returned (.tuple #[.pointer (some ⟨cl, 0, none⟩), .pointer (some ⟨c, 0, none⟩), .pointer (some ⟨c', 0, none⟩), .bool true]) ∧ Laid w w' P T G n (putF a v n m) cl A A' cap cap' c b c' b' := by
  have hb : Below w.heap.size w (w.alloc (.cells #[.int .i64 P, .int .i64 T, .int .i64 G, .slice E m cp] 26)) := (Below.refl _ _).alloc (Nat.le_refl _) _
  have hF := few_any P T G (w.alloc (.cells #[.int .i64 P, .int .i64 T, .int .i64 G, .slice E m cp] 26))
  have hc : Hid ((w.alloc (.cells #[.int .i64 P, .int .i64 T, .int .i64 G, .slice E m cp] 26)).heap[w.heap.size]? = some (.cells #[.int .i64 P, .int .i64 T, .int .i64 G, .slice E m cp] 26 (0, 0))) := heap_alloc_new _ _
  rw [decide_eq_true hf] at hF
  have hM : May P T G := hf.h.1
  have hn1 : n ≤ 2000 := by have := hf.h; have := hM.h; omega
  have HN : Hid ((n : Int) = 20 + 264 * P + 3 * T + 2 * G) := hn
  have HS : Hid (SeesP w w.heap.size E m a v) := hs
  have HV : Hid (∀ i, i < m → 0 ≤ v i ∧ v i ≤ 18446744073709551615) := hv
  have HM : Hid (May P T G) := hM
  clear hs hn hv hM hf
  have hmk := make_run n (by omega)
  have h400 : decide ((400 : Int) < (m : Int)) = false := decide_eq_false (by omega)
  go_enter Tryz.func7, Tryz.ntmps7
  go_wp2_with fail
  go_at_call 32; refine hF.mono ?_; rintro e w1 ⟨rfl, h1⟩
  have hb1 := hb.trans (h1.mono (by simp))
  have hh := (h1.block w.heap.size (by simp)).trans hc.out
  have c0 : w1.cell? ⟨w.heap.size, 0, none⟩ = some (.int .i64 P) := by simp [World.cell?, hh]
  have c1 : w1.cell? ⟨w.heap.size, 1, none⟩ = some (.int .i64 T) := by simp [World.cell?, hh]
  have c2 : w1.cell? ⟨w.heap.size, 2, none⟩ = some (.int .i64 G) := by simp [World.cell?, hh]
  have c3 : w1.cell? ⟨w.heap.size, 3, none⟩ = some (.slice E m cp) := by simp [World.cell?, hh]
  have hB1 : Hid (Blk w1 w.heap.size #[.int .i64 P, .int .i64 T, .int .i64 G, .slice E m cp] 26) := ⟨hh⟩
  have hL := refLen_any P T G w1 HM.out
  rw [← HN.out] at hL
  clear hF h1 hc hh hb
  have HB1 : Hid (Below w.heap.size w w1) := hb1
  clear hb1
  go_wp2_with fail
  go_at_call 33; refine hL.mono ?_; rintro e w2 ⟨rfl, h2⟩
  have hB2 : Hid (Blk w2 w.heap.size #[.int .i64 P, .int .i64 T, .int .i64 G, .slice E m cp] 26) := hB1.out.but (But.of_below (l := []) h2) (by simp)
  have HB2 : Hid (Below w.heap.size w w2) := seq HB1.out h2
  have hR : Hid (Row (w2.alloc (.cells (zs n) 41)) w2.heap.size n n (putF a v n 0)) := zs_row n w2
  have hB3 : Hid (Blk (w2.alloc (.cells (zs n) 41)) w.heap.size #[.int .i64 P, .int .i64 T, .int .i64 G, .slice E m cp] 26) := hB2.out.al _
  have HB3 : Hid (Below w.heap.size w (w2.alloc (.cells (zs n) 41))) := HB2.out.alloc HB2.out.size _
  have hg : w.heap.size < w2.heap.size := hB2.out.lt
  clear hL h2 hB1 HB1 c0 c1 c2 c3 hB2 HB2
  go_wp2_with fail
  clear hmk
  generalize w2.alloc (.cells (zs n) 41) = w3 at *
  generalize w2.heap.size = g at *
  go_loopw [7] (fun i wr => ∃ k : Nat, k ≤ m ∧ i = .int .i64 k ∧ Hid (Row wr g n n (putF a v n k)) ∧ Hid (Blk wr w.heap.size #[.int .i64 P, .int .i64 T, .int .i64 G, .slice E m cp] 26) ∧ Hid (Below w.heap.size w wr)) (fun i _ => m - (intOf i).toNat)
  case atStart => exact ⟨0, Nat.zero_le _, rfl, hR, hB3, HB3⟩
  case round =>
    clear hR hB3 HB3
    obtain ⟨k, hk, rfl, HR, HX, HB⟩ := hrel
    have x3 := HX.out.cell 3 (v := .slice E m cp) rfl
    by_cases hlt : k < m
    · obtain ⟨b, off, rfl, hbB, hcell⟩ := HS.out (by omega)
      obtain ⟨hc1, hc2⟩ := hcell k hlt
      have d1 : wr.cell? ⟨b, off + k * 2, none⟩ = some (.int .i64 (a k)) := (HB.out.cell (p := ⟨b, off + k * 2, none⟩) hbB).trans hc1
      have d2 : wr.cell? ⟨b, off + k * 2 + 1, none⟩ = some (.int .u64 (v k)) := (HB.out.cell (p := ⟨b, off + k * 2 + 1, none⟩) hbB).trans hc2
      have hk0 : (0 : Int) ≤ (k : Int) := Int.natCast_nonneg _
      have hk1 : (k : Int) < (m : Int) := by omega
      clear hcell hc1 hc2
      have HP : Hid (putF a v n (k + 1) = if 0 ≤ a k ∧ a k < n then upd (putF a v n k) (a k).toNat (v k) else putF a v n k) := rfl
      by_cases h0 : 0 ≤ a k
      · obtain ⟨j, hj⟩ : ∃ j : Nat, a k = (j : Int) := ⟨(a k).toNat, by omega⟩
        rw [hj] at d1 HP
        clear h0 hj
        by_cases h1 : j < n
        · obtain ⟨ov, hov⟩ := HR.out.there j h1
          have hfz := HR.out.frozen j
          have hj1 : (j : Int) < (n : Int) := by omega
          have hj0 : (0 : Int) ≤ (j : Int) := by omega
          have h41 : decide ((0 : Int) ≤ (j : Int)) = true := by simp
          have hP2 : Hid (putF a v n (k + 1) = upd (putF a v n k) j (v k)) := by have := HP.out; rw [if_pos ⟨hj0, hj1⟩] at this; rw [Int.toNat_natCast] at this; exact this
          go_wp2_with fail
          go_region
          have HR2 : Hid (Row (wr.drew.setCell ⟨g, j, none⟩ (.int .u64 (v k))) g n n (putF a v n (k + 1))) := by rw [hP2.out]; exact HR.out.put j h1 (v k)
          have HX2 : Hid (Blk (wr.drew.setCell ⟨g, j, none⟩ (.int .u64 (v k))) w.heap.size #[.int .i64 P, .int .i64 T, .int .i64 G, .slice (some ⟨b, off, none⟩) m cp] 26) := HX.out.drew.setne (by omega) _ _
          have HB2 : Hid (Below w.heap.size w (wr.drew.setCell ⟨g, j, none⟩ (.int .u64 (v k)))) := HB.out.drew.setCell (p := ⟨g, j, none⟩) (by show w.heap.size ≤ g; omega) _
          clear HR HX HB x3 d1 d2 hov hfz HP
          go_wp2_with fail
          go_roundw
          case rel => exact ⟨k + 1, by omega, by go_num, HR2, HX2, HB2⟩
          case measure => simp [intOf]; omega
        · have hj0 : (0 : Int) ≤ (j : Int) := by omega
          have hd : decide ((j : Int) < (n : Int)) = false := by simpa using h1
          have hP2 : Hid (putF a v n (k + 1) = putF a v n k) := by have := HP.out; rw [if_neg (fun hh => absurd hh.2 (by omega))] at this; exact this
          go_wp2_with fail
          go_roundw
          case rel => exact ⟨k + 1, by omega, by go_num, (by rw [hP2.out]; exact HR), HX, HB⟩
          case measure => simp [intOf]; omega
      · have hd : decide (0 ≤ a k) = false := by simpa using h0
        have hP2 : Hid (putF a v n (k + 1) = putF a v n k) := by have := HP.out; rw [if_neg (fun hh => h0 hh.1)] at this; exact this
        clear h0 HP
        go_wp2_with fail
        go_roundw
        case rel => exact ⟨k + 1, by omega, by go_num, (by rw [hP2.out]; exact HR), HX, HB⟩
        case measure => simp [intOf]; omega
    · obtain rfl : k = m := by omega
      have y0 := HX.out.cell 0 (v := .int .i64 P) rfl
      have y1 := HX.out.cell 1 (v := .int .i64 T) rfl
      have y2 := HX.out.cell 2 (v := .int .i64 G) rfl
      have hO := of_ok P T G wr HM.out
      go_wp2_with fail
      go_at_call 34; refine hO.mono ?_; rintro e w4 ⟨cl, rfl, hLy, hcl, h4⟩
      have hR4 := Row.below HR.out h4 HR.out.lt
      have HB4 : Hid (Below w.heap.size w w4) := seq HB.out h4
      have HL4 : Hid (Lay w4 cl P T G) := hLy
      have hsz := HB.out.size
      have h5 := of_any w4 (some ⟨g, 0, none⟩) n n (putF a v n k) (by omega) (fun e => by cases e) (hR4.sees) (fun i _ => putF_bd HV.out k (Nat.le_refl _) i)
      have HR4 : Hid (Row w4 g n n (putF a v n k)) := hR4
      clear hO h4 hLy hR4 y0 y1 y2 x3
      go_wp2_with fail
      go_at_call 35; refine h5.mono ?_; rintro e w5 ⟨A1, cap1, c1, b1, rfl, hI1, hb5, hbb, hbc, hcc⟩
      have h6 := refNew_any w5 (some ⟨g, 0, none⟩) n n (putF a v n k) (by omega) ((HR4.out.below hb5 HR4.out.lt).sees) (fun i _ => putF_bd HV.out k (Nat.le_refl _) i)
      have HB5 : Hid (Below w.heap.size w w5) := seq HB4.out hb5
      have HL5 : Hid (Lay w5 cl P T G) := HL4.out.below hb5 HL4.out.lt
      have HI1 : Hid _ := hI1
      have hs4 := HB4.out.size
      clear h5 hb5 hI1
      go_wp2_with fail
      go_at_call 36; refine h6.mono ?_; rintro e w6 ⟨A2, cap2, c2, b2, rfl, hI2, hb6, hb2, hc2⟩
      have HB6 : Hid (Below w.heap.size w w6) := seq HB5.out hb6
      have HL6 : Hid (Lay w6 cl P T G) := HL5.out.below hb6 HL5.out.lt
      have HT6 : Hid _ := two_start HI1.out hbc hI2 hb6 hb2 hc2
      have hs5 := HB5.out.size
      clear h6 hb6 hI2
      go_wp2_with fail
      go_returns
      exact ⟨cl, A1, A2, cap1, cap2, c1, b1, c2, b2, rfl, HL6.out, HT6.out, HB6.out, by omega, by omega, by omega, by omega, by omega⟩
end Go.Proofs.YthjfbknmdligeaaGreat
