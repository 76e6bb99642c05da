/- The contract of the law's helper 'does', the other kinds of acts. -/
import Derived.Test.YtlpfleefbngdaaaDoes2
namespace Go.Proofs.Ytlpfleefbngdaaa
open Go Go.RowKit
set_option linter.unusedVariables false
set_option linter.unusedSimpArgs false

/-- Three cells, and all below, kept over a call that makes memory. -/
theorem held3 {W : World} {a b c : Addr} {x y z : Value} (ha : a.block < W.heap.size) (hb : b.block < W.heap.size) (hc : c.block < W.heap.size) (X w' : World)
    (hS : X.cell? a = some x ∧ X.cell? b = some y ∧ X.cell? c = some z ∧ Below W.heap.size W X) (h : Below X.heap.size X w') :
    w'.cell? a = some x ∧ w'.cell? b = some y ∧ w'.cell? c = some z ∧ Below W.heap.size W w' :=
  ⟨(h.cell (Nat.lt_of_lt_of_le ha hS.2.2.2.size)).trans hS.1, (h.cell (Nat.lt_of_lt_of_le hb hS.2.2.2.size)).trans hS.2.1, (h.cell (Nat.lt_of_lt_of_le hc hS.2.2.2.size)).trans hS.2.2.1, hS.2.2.2.trans (h.mono hS.2.2.2.size)⟩

section
variable (w : World) (W Bc c r : Nat) (A : Option Addr) (f : Nat → Int) (n cap T : Nat)
set_option maxRecDepth 100000

theorem does_low (hn : n ≤ 100) (hT : T ≤ 20000) (N : Int) (hN : N < 1) (h : Both w W Bc c r A f n cap T) :
    Calls Try.prog 8 #[.pointer (some ⟨c, 0, none⟩), .pointer (some ⟨r, 0, none⟩), .agg #[.int .i64 1, .int .i64 N]] w (Did w W Bc c r A f n cap T) := by
  have H : Hid (Both w W Bc c r A f n cap T) := h
  have c0 := (h.below (box2 w (.int .i64 1) (.int .i64 N) 32)).ref.c0
  have c1 := (h.below (box2 w (.int .i64 1) (.int .i64 N) 32)).ref.c1
  have hw := h.wlt
  clear h
  go_enter Try.func8, Try.ntmps8
  go_wp2_with fail
  go_at_call 17; refine (does_begin w W Bc c r A f n cap T hn hT H.out 1 N).mono ?_; rintro e w1 ⟨rfl, hB1, hb1, a0, a1, hs1⟩
  clear c0 c1
  go_wp2_with fail
  go_at_call 13; refine (below_low _ N _ hN).mono ?_; rintro e w2 ⟨rfl, rfl⟩
  have hBe := hb1.mono hw
  clear a0 a1
  go_wp2_with fail
  go_ret
  exact ⟨rfl, T, by omega, by omega, hB1, hBe⟩

theorem does_below (hn : n ≤ 100) (hT : T ≤ 20000) (hf : ∀ i, i < n → 0 ≤ f i ∧ f i ≤ 18446744073709551615) (N : Int) (hN : 1 ≤ N) (hN2 : N ≤ 9223372036854775807) (h : Both w W Bc c r A f n cap T) :
    Calls Try.prog 8 #[.pointer (some ⟨c, 0, none⟩), .pointer (some ⟨r, 0, none⟩), .agg #[.int .i64 1, .int .i64 N]] w (Did w W Bc c r A f n cap T) := by
  have H : Hid (Both w W Bc c r A f n cap T) := h
  have HF : Hid (∀ i, i < n → 0 ≤ f i ∧ f i ≤ 18446744073709551615) := hf
  have hwd := wordAt_bd f n T hf
  have hrm := rem_bd (wordAt f n T) N hN
  have c0 := (h.below (box2 w (.int .i64 1) (.int .i64 N) 32)).ref.c0
  have c1 := (h.below (box2 w (.int .i64 1) (.int .i64 N) 32)).ref.c1
  have hw := h.wlt
  clear h hf
  go_enter Try.func8, Try.ntmps8
  go_wp2_with fail
  go_at_call 17; refine (does_begin w W Bc c r A f n cap T hn hT H.out 1 N).mono ?_; rintro e w1 ⟨rfl, hB1, hb1, a0, a1, hs1⟩
  clear c0 c1
  have c1 := hB1.ref.c1
  have z1 := hB1.ref.z 1
  have hrne : r ≠ w.heap.size := by have := H.out.ref.lt; omega
  have hM := told_more hB1 1
  go_wp2_with fail
  go_at_call 13; refine (below_any _ _ c f n T N hM.1 (by omega) (by omega) HF.out hN hN2).mono ?_; rintro e w2 ⟨rfl, hC2, hbt⟩
  have hE := both_again hB1 hM.2.1 hM.2.2.1 (by have := hB1.wlt; simpa [World.setCell] using this) hC2 hbt
  have hBe := (hb1.mono hw).trans (hM.2.2.2.trans hE.2)
  have hcw : w.heap.size ≠ c := by have := H.out.cur.lt; omega
  have a1' : w2.cell? ⟨w.heap.size, 1, none⟩ = some (.int .i64 N) := by
    have e1 : w2.cell? ⟨w.heap.size, 1, none⟩ = (w1.setCell ⟨r, 1, none⟩ (.int .i64 ((T : Int) + (1 : Nat)))).cell? ⟨w.heap.size, 1, none⟩ := World.cell?_of_block (hbt.block w.heap.size (by simpa [World.setCell] using hs1) hcw)
    have e2 : (w1.setCell ⟨r, 1, none⟩ (.int .i64 ((T : Int) + (1 : Nat)))).cell? ⟨w.heap.size, 1, none⟩ = w1.cell? ⟨w.heap.size, 1, none⟩ := World.cell?_of_block (Below.heap_setCell _ _ _ _ (by show w.heap.size ≠ r; omega))
    rw [e1, e2]; exact a1
  clear hM c1 z1 a0 a1 hbt hC2
  generalize wordAt f n T = x at hwd hrm ⊢
  go_wp2_with fail
  go_ret
  exact ⟨rfl, T + 1, by omega, by omega, hE.1, hBe⟩

theorem does_skip_neg (hn : n ≤ 100) (hT : T ≤ 20000) (N : Int) (hN : N < 0) (h : Both w W Bc c r A f n cap T) :
    Calls Try.prog 8 #[.pointer (some ⟨c, 0, none⟩), .pointer (some ⟨r, 0, none⟩), .agg #[.int .i64 2, .int .i64 N]] w (Did w W Bc c r A f n cap T) := by
  have H : Hid (Both w W Bc c r A f n cap T) := h
  have c0 := (h.below (box2 w (.int .i64 2) (.int .i64 N) 32)).ref.c0
  have c1 := (h.below (box2 w (.int .i64 2) (.int .i64 N) 32)).ref.c1
  have hw := h.wlt
  clear h
  go_enter Try.func8, Try.ntmps8
  go_wp2_with fail
  go_at_call 17; refine (does_begin w W Bc c r A f n cap T hn hT H.out 2 N).mono ?_; rintro e w1 ⟨rfl, hB1, hb1, a0, a1, hs1⟩
  clear c0 c1
  have hd : decide (N < 0) = true := by simpa using hN
  go_wp2_with fail
  go_quiet (fail)
  have hB2 : Both (w1.drewN nq) W Bc c r A f n cap T := ⟨hB1.cur, hB1.ref, hB1.sees, hB1.wb, hB1.bc, hB1.cr⟩
  have hb2 : Below w.heap.size w (w1.drewN nq) := Below.drewN' hb1 nq
  go_wp2_with fail
  go_at_call 15; refine (skip_out _ _ c f n T N hB2.cur (by omega) (Or.inl hN)).mono ?_; rintro e w2 ⟨rfl, rfl⟩
  have hBe := hb2.mono hw
  clear a0 a1
  go_wp2_with fail
  go_ret
  exact ⟨rfl, T, by omega, by omega, hB2, hBe⟩

theorem does_skip_far (hn : n ≤ 100) (hT : T ≤ 20000) (N : Int) (hN0 : 0 ≤ N) (hN : ((n - T : Nat) : Int) < N) (h : Both w W Bc c r A f n cap T) :
    Calls Try.prog 8 #[.pointer (some ⟨c, 0, none⟩), .pointer (some ⟨r, 0, none⟩), .agg #[.int .i64 2, .int .i64 N]] w (Did w W Bc c r A f n cap T) := by
  have H : Hid (Both w W Bc c r A f n cap T) := h
  have c0 := (h.below (box2 w (.int .i64 2) (.int .i64 N) 32)).ref.c0
  have c1 := (h.below (box2 w (.int .i64 2) (.int .i64 N) 32)).ref.c1
  have hw := h.wlt
  clear h
  go_enter Try.func8, Try.ntmps8
  go_wp2_with fail
  go_at_call 17; refine (does_begin w W Bc c r A f n cap T hn hT H.out 2 N).mono ?_; rintro e w1 ⟨rfl, hB1, hb1, a0, a1, hs1⟩
  clear c0 c1
  have hd : decide (N < 0) = false := by simpa using hN0
  have hr1 : r < w1.heap.size := hB1.ref.lt
  have KEEP : Hid (∀ X w' : World, (X.cell? ⟨w.heap.size, 1, none⟩ = some (.int .i64 N) ∧ X.cell? ⟨r, 0, none⟩ = some (.slice A n cap) ∧ X.cell? ⟨r, 1, none⟩ = some (.int .i64 T) ∧ Below w1.heap.size w1 X) → Below X.heap.size X w' →
      (w'.cell? ⟨w.heap.size, 1, none⟩ = some (.int .i64 N) ∧ w'.cell? ⟨r, 0, none⟩ = some (.slice A n cap) ∧ w'.cell? ⟨r, 1, none⟩ = some (.int .i64 T) ∧ Below w1.heap.size w1 w')) :=
    held3 (a := ⟨w.heap.size, 1, none⟩) (b := ⟨r, 0, none⟩) (c := ⟨r, 1, none⟩) hs1 hr1 hr1
  have hH : w1.drew.cell? ⟨w.heap.size, 1, none⟩ = some (.int .i64 N) ∧ w1.drew.cell? ⟨r, 0, none⟩ = some (.slice A n cap) ∧ w1.drew.cell? ⟨r, 1, none⟩ = some (.int .i64 T) ∧ Below w1.heap.size w1 w1.drew := ⟨a1, hB1.ref.c0, hB1.ref.c1, (Below.refl _ _).drew⟩
  have HN : Hid (((n - T : Nat) : Int) < N) := hN
  generalize hL : ((n - T : Nat) : Int) = L at hN
  have HL : Hid (((n - T : Nat) : Int) = L) := hL
  clear hL
  go_wp2_with fail
  go_region_held3 (fun w' => w'.cell? ⟨w.heap.size, 1, none⟩ = some (.int .i64 N) ∧ w'.cell? ⟨r, 0, none⟩ = some (.slice A n cap) ∧ w'.cell? ⟨r, 1, none⟩ = some (.int .i64 T) ∧ Below w1.heap.size w1 w') (first | exact hH | assumption | exact KEEP.out _ _ ‹_› ‹_›) (first | (go_at_call 10; refine (refLeft_any A n cap T _ (by omega) (by omega)).mono ?_; rintro e w' ⟨rfl, hbf⟩; rw [HL.out]))
  all_goals
    rename_i hS
    have hB2 := hB1.below hS.2.2.2
    have hb2 := hb1.trans (hS.2.2.2.mono (Nat.le_of_lt hs1))
    have a1' := hS.1
    clear hS hH a0 a1
    go_wp2_with fail
    go_at_call 15; refine (skip_out _ _ c f n T N hB2.cur (by omega) (Or.inr HN.out)).mono ?_; rintro e w2 ⟨rfl, rfl⟩
    have hBe := hb2.mono hw
    go_wp2_with fail
    go_ret
    exact ⟨rfl, T, by omega, by omega, hB2, hBe⟩

theorem does_skip_in (hn : n ≤ 100) (hT : T ≤ 20000) (k : Nat) (hk : k ≤ n - T) (h : Both w W Bc c r A f n cap T) :
    Calls Try.prog 8 #[.pointer (some ⟨c, 0, none⟩), .pointer (some ⟨r, 0, none⟩), .agg #[.int .i64 2, .int .i64 k]] w (Did w W Bc c r A f n cap T) := by
  have H : Hid (Both w W Bc c r A f n cap T) := h
  have c0 := (h.below (box2 w (.int .i64 2) (.int .i64 k) 32)).ref.c0
  have c1 := (h.below (box2 w (.int .i64 2) (.int .i64 k) 32)).ref.c1
  have hw := h.wlt
  clear h
  go_enter Try.func8, Try.ntmps8
  go_wp2_with fail
  go_at_call 17; refine (does_begin w W Bc c r A f n cap T hn hT H.out 2 k).mono ?_; rintro e w1 ⟨rfl, hB1, hb1, a0, a1, hs1⟩
  clear c0 c1
  have hr1 : r < w1.heap.size := hB1.ref.lt
  have KEEP : Hid (∀ X w' : World, (X.cell? ⟨w.heap.size, 1, none⟩ = some (.int .i64 k) ∧ X.cell? ⟨r, 0, none⟩ = some (.slice A n cap) ∧ X.cell? ⟨r, 1, none⟩ = some (.int .i64 T) ∧ Below w1.heap.size w1 X) → Below X.heap.size X w' →
      (w'.cell? ⟨w.heap.size, 1, none⟩ = some (.int .i64 k) ∧ w'.cell? ⟨r, 0, none⟩ = some (.slice A n cap) ∧ w'.cell? ⟨r, 1, none⟩ = some (.int .i64 T) ∧ Below w1.heap.size w1 w')) :=
    held3 (a := ⟨w.heap.size, 1, none⟩) (b := ⟨r, 0, none⟩) (c := ⟨r, 1, none⟩) hs1 hr1 hr1
  have hH : w1.drew.cell? ⟨w.heap.size, 1, none⟩ = some (.int .i64 k) ∧ w1.drew.cell? ⟨r, 0, none⟩ = some (.slice A n cap) ∧ w1.drew.cell? ⟨r, 1, none⟩ = some (.int .i64 T) ∧ Below w1.heap.size w1 w1.drew := ⟨a1, hB1.ref.c0, hB1.ref.c1, (Below.refl _ _).drew⟩
  have hk1 : (k : Int) ≤ ((n - T : Nat) : Int) := by omega
  generalize hL : ((n - T : Nat) : Int) = L at hk1
  have HL : Hid (((n - T : Nat) : Int) = L) := hL
  have HK : Hid (k ≤ n - T) := hk
  have hk2 : k ≤ 100 := by omega
  have hd : decide ((k : Int) < 0) = false := by simp
  clear hL hk
  go_wp2_with fail
  go_region_held3 (fun w' => w'.cell? ⟨w.heap.size, 1, none⟩ = some (.int .i64 k) ∧ w'.cell? ⟨r, 0, none⟩ = some (.slice A n cap) ∧ w'.cell? ⟨r, 1, none⟩ = some (.int .i64 T) ∧ Below w1.heap.size w1 w') (first | exact hH | assumption | exact KEEP.out _ _ ‹_› ‹_›) (first | (go_at_call 10; refine (refLeft_any A n cap T _ (by omega) (by omega)).mono ?_; rintro e w' ⟨rfl, hbf⟩; rw [HL.out]))
  all_goals
    rename_i hS
    have hB2 := hB1.below hS.2.2.2
    have hb2 := hb1.trans (hS.2.2.2.mono (Nat.le_of_lt hs1))
    have hsz := hS.2.2.2.size
    have a1' := hS.1
    have c1 := hS.2.2.1
    have c0 := hS.2.1
    clear hS hH a0 a1
    have z1 := hB2.ref.z 1
    go_wp2_with fail
    go_region
    have hM := told_more hB2 k
    have hC' : Curs (w'.setCell ⟨r, 1, none⟩ (.int .i64 ((T : Int) + k))).drew Bc c f n T := hM.1
    have hrne : w.heap.size ≠ r := by have := H.out.ref.lt; omega
    have a2 : (w'.setCell ⟨r, 1, none⟩ (.int .i64 ((T : Int) + k))).drew.cell? ⟨w.heap.size, 1, none⟩ = some (.int .i64 k) := by
      have e2 : (w'.setCell ⟨r, 1, none⟩ (.int .i64 ((T : Int) + k))).cell? ⟨w.heap.size, 1, none⟩ = w'.cell? ⟨w.heap.size, 1, none⟩ := World.cell?_of_block (Below.heap_setCell _ _ _ _ hrne)
      exact e2.trans a1'
    have hsz2 : W ≤ (w'.setCell ⟨r, 1, none⟩ (.int .i64 ((T : Int) + k))).drew.heap.size := by have := hB2.wlt; simpa [World.setCell] using this
    have hR' : RefC (w'.setCell ⟨r, 1, none⟩ (.int .i64 ((T : Int) + k))).drew r A n cap (T + k) := hM.2.1
    have hS' : SeesU (w'.setCell ⟨r, 1, none⟩ (.int .i64 ((T : Int) + k))).drew W A n f := hM.2.2.1
    have hBd : Below W w' (w'.setCell ⟨r, 1, none⟩ (.int .i64 ((T : Int) + k))).drew := hM.2.2.2.drew
    clear hM c0 c1 z1 a1'
    go_wp2_with fail
    go_at_call 15; refine (skip_in _ _ c f n T k hC' (by omega) (by omega) HK.out).mono ?_; rintro e w3 ⟨rfl, hC3, hbt3⟩
    have hE := both_again hB2 hR' hS' hsz2 hC3 hbt3
    have hBe := (hb2.mono hw).trans (hBd.trans hE.2)
    clear hC' a2 hR' hS' hBd hC3 hbt3
    go_wp2_with fail
    go_ret
    exact ⟨rfl, T + k, by omega, by omega, hE.1, hBe⟩

theorem does_peek (hn : n ≤ 100) (hT : T ≤ 20000) (k N : Int) (hk0 : (k == 0) = false) (hk1 : (k == 1) = false) (hk2 : (k == 2) = false) (h : Both w W Bc c r A f n cap T) :
    Calls Try.prog 8 #[.pointer (some ⟨c, 0, none⟩), .pointer (some ⟨r, 0, none⟩), .agg #[.int .i64 k, .int .i64 N]] w (Did w W Bc c r A f n cap T) := by
  have H : Hid (Both w W Bc c r A f n cap T) := h
  have c0 := (h.below (box2 w (.int .i64 k) (.int .i64 N) 32)).ref.c0
  have c1 := (h.below (box2 w (.int .i64 k) (.int .i64 N) 32)).ref.c1
  have hw := h.wlt
  clear h
  go_enter Try.func8, Try.ntmps8
  go_wp2_with fail
  go_at_call 17; refine (does_begin w W Bc c r A f n cap T hn hT H.out k N).mono ?_; rintro e w1 ⟨rfl, hB1, hb1, a0, a1, hs1⟩
  clear c0 c1
  have hr1 : r < w1.heap.size := hB1.ref.lt
  have KEEP : Hid (∀ X w' : World, (X.cell? ⟨w.heap.size, 1, none⟩ = some (.int .i64 N) ∧ X.cell? ⟨r, 0, none⟩ = some (.slice A n cap) ∧ X.cell? ⟨r, 1, none⟩ = some (.int .i64 T) ∧ Below w1.heap.size w1 X) → Below X.heap.size X w' →
      (w'.cell? ⟨w.heap.size, 1, none⟩ = some (.int .i64 N) ∧ w'.cell? ⟨r, 0, none⟩ = some (.slice A n cap) ∧ w'.cell? ⟨r, 1, none⟩ = some (.int .i64 T) ∧ Below w1.heap.size w1 w')) :=
    held3 (a := ⟨w.heap.size, 1, none⟩) (b := ⟨r, 0, none⟩) (c := ⟨r, 1, none⟩) hs1 hr1 hr1
  have hH : w1.drew.cell? ⟨w.heap.size, 1, none⟩ = some (.int .i64 N) ∧ w1.drew.cell? ⟨r, 0, none⟩ = some (.slice A n cap) ∧ w1.drew.cell? ⟨r, 1, none⟩ = some (.int .i64 T) ∧ Below w1.heap.size w1 w1.drew := ⟨a1, hB1.ref.c0, hB1.ref.c1, (Below.refl _ _).drew⟩
  have HC : Hid (∀ X : World, (X.cell? ⟨w.heap.size, 1, none⟩ = some (.int .i64 N) ∧ X.cell? ⟨r, 0, none⟩ = some (.slice A n cap) ∧ X.cell? ⟨r, 1, none⟩ = some (.int .i64 T) ∧ Below w1.heap.size w1 X) → Curs X Bc c f n T) := fun X hX => hB1.cur.below hX.2.2.2 hB1.cur.lt
  have HS : Hid (∀ X : World, (X.cell? ⟨w.heap.size, 1, none⟩ = some (.int .i64 N) ∧ X.cell? ⟨r, 0, none⟩ = some (.slice A n cap) ∧ X.cell? ⟨r, 1, none⟩ = some (.int .i64 T) ∧ Below w1.heap.size w1 X) → SeesU X X.heap.size A n f) := fun X hX => (hB1.sees.below hX.2.2.2 hB1.wlt).more (Nat.le_trans hB1.wlt hX.2.2.2.size)
  go_wp2_with fail
  go_region_held3 (fun w' => w'.cell? ⟨w.heap.size, 1, none⟩ = some (.int .i64 N) ∧ w'.cell? ⟨r, 0, none⟩ = some (.slice A n cap) ∧ w'.cell? ⟨r, 1, none⟩ = some (.int .i64 T) ∧ Below w1.heap.size w1 w') (first | exact hH | assumption | exact KEEP.out _ _ ‹_› ‹_›) (first | (go_at_call 14; refine (peek_any _ _ c f n T N (HC.out _ ‹_›) (by omega)).mono ?_; rintro e w' ⟨rfl, rfl⟩) | (go_at_call 17; refine (refPeek_any A n cap T N f _ (by omega) (by omega) (HS.out _ ‹_›)).mono ?_; rintro e w' ⟨rfl, hbf⟩))
  all_goals
    rename_i hS
    have hB2 := hB1.below hS.2.2.2
    have hb2 := hb1.trans (hS.2.2.2.mono (Nat.le_of_lt hs1))
    have hBe := hb2.mono hw
    clear hS hH a0 a1
    go_wp2_with fail
    go_ret
    exact ⟨ret_bool (by simp), T, by omega, by omega, hB2, hBe⟩
end
end Go.Proofs.Ytlpfleefbngdaaa
