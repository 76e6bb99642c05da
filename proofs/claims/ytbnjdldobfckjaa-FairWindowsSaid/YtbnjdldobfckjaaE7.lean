/- Right and Window of any config; the page's example. -/
import Derived.Test.YtbnjdldobfckjaaE6
namespace Go.Proofs.Ytbnjdldobfckjaa
open Go Go.RowKit Go.Maps
set_option linter.unusedVariables false
set_option linter.unusedSimpArgs false
set_option maxRecDepth 100000

theorem Sees.ext {w : World} {A : Option Addr} {n : Nat} {l l' : Nat → En} (h : Sees w A n l) (e : ∀ i, i < n → l i = l' i) : Sees w A n l' := fun h0 => by
  obtain ⟨b, off, ea, hc⟩ := h h0
  exact ⟨b, off, ea, fun j hj => by rw [← e j hj]; exact hc j hj⟩
theorem rdL_at (T n i : Nat) (h : i < n) : atL (rdL T n) i = rd T i := by
  simp [atL, rdL, List.getD_eq_getElem?_getD, h]
theorem round_sees (w : World) (P G : Int) (T : Nat) (h : mayB P T G = true) :
    Calls Try.prog 9 #[.agg #[.int .i64 P, .int .i64 (T : Int), .int .i64 G]] w fun e w' => ∃ A cap, e = .returned (.slice A (2 * T + 5) cap) ∧ Sees w' A (2 * T + 5) (rd T) ∧ Below w.heap.size w w' :=
  (round_ok w P G T h).mono fun e w' ⟨A, cap, B, h1, h2, h3, h4, h5⟩ => ⟨A, cap, h1, (sees_own h4 (rdL_len T _)).ext (fun i hi => rdL_at T _ i hi), h5⟩
theorem right_may (w : World) (P G : Int) (T : Nat) (n cap : Nat) (A : Option Addr) (l : Nat → En) (h : mayB P T G = true) (hn : n ≤ 1000000) (hl : ∀ i, i < n → EnOk (l i)) (hs : Sees w A n l) :
    Calls Try.prog 10 #[.agg #[.int .i64 P, .int .i64 (T : Int), .int .i64 G], .slice A n cap] w fun e w' => e = .returned (.bool (fairB T l n)) ∧ Below w.heap.size w w' := by
  have hT : T ≤ 256 := by have := mayB_true h; omega
  refine (right_gen w P T G (2 * T + 5) (rd T) n cap A l (fairB T l n) (by omega) hn (fun i _ => rd_ok hT) hl hs (allF_iff T l n (2 * T + 5)) (fun w => round_sees w P G T h)).mono fun e w' ⟨h1, h2⟩ => ⟨?_, h2⟩
  rw [h1, show decide (0 < 2 * T + 5) = true from decide_eq_true (by omega), Bool.true_and]
theorem right_not (w : World) (P T G : Int) (n cap : Nat) (A : Option Addr) (l : Nat → En) (h : mayB P T G = false) (hn : n ≤ 1000000) (hl : ∀ i, i < n → EnOk (l i)) (hs : Sees w A n l) :
    Calls Try.prog 10 #[.agg #[.int .i64 P, .int .i64 T, .int .i64 G], .slice A n cap] w fun e w' => e = .returned (.bool false) ∧ Below w.heap.size w w' :=
  (right_gen w P T G 0 (rd 0) n cap A l true (by omega) hn (fun i hi => absurd hi (Nat.not_lt_zero _)) hl hs ⟨fun _ i hi => absurd hi (Nat.not_lt_zero _), fun _ => rfl⟩ (fun w => (round_no w P T G h).mono fun e w' ⟨h1, h2⟩ => ⟨none, 0, h1, fun h0 => absurd h0 (Nat.not_lt_zero _), h2⟩)).mono fun e w' ⟨h1, h2⟩ => ⟨h1, h2⟩
/-- The window of entries. -/
def winN (T : Nat) (l : Nat → En) (n : Nat) : Nat := if fairB T l n = true then fm T l n (2 * T + 5) + 1 else 0
theorem window_may (w : World) (P G : Int) (T : Nat) (n cap : Nat) (A : Option Addr) (l : Nat → En) (h : mayB P T G = true) (hn : n ≤ 1000000) (hl : ∀ i, i < n → EnOk (l i)) (hs : Sees w A n l) :
    Calls Try.prog 11 #[.agg #[.int .i64 P, .int .i64 (T : Int), .int .i64 G], .slice A n cap] w fun e w' => e = .returned (.int .i64 (winN T l n : Nat)) ∧ Below w.heap.size w w' := by
  have hT : T ≤ 256 := by have := mayB_true h; omega
  unfold winN
  by_cases hf : fairB T l n = true
  · rw [if_pos hf]
    refine (window_yes w P G T n cap A l hT hn hl hs (fun wr hb => ?_) (fun w => round_sees w P G T h)).mono fun e w' ⟨M, h1, h2, h3⟩ => ⟨?_, h3⟩
    · rw [← hf]; exact right_may wr P G T n cap A l h hn hl (hs.bel hb)
    · rw [h1, h2.uniq (longest_fm T l n)]
  · have hf' : fairB T l n = false := by simpa using hf
    rw [if_neg hf]
    refine (window_no w P T G n cap A (fun wr hb => ?_)).mono fun e w' ⟨h1, h2⟩ => ⟨h1, h2⟩
    rw [← hf']; exact right_may wr P G T n cap A l h hn hl (hs.bel hb)
theorem window_not (w : World) (P T G : Int) (n cap : Nat) (A : Option Addr) (l : Nat → En) (h : mayB P T G = false) (hn : n ≤ 1000000) (hl : ∀ i, i < n → EnOk (l i)) (hs : Sees w A n l) :
    Calls Try.prog 11 #[.agg #[.int .i64 P, .int .i64 T, .int .i64 G], .slice A n cap] w fun e w' => e = .returned (.int .i64 0) ∧ Below w.heap.size w w' :=
  window_no w P T G n cap A (fun wr hb => right_not wr P T G n cap A l h hn hl (hs.bel hb))
theorem add0 (g j : Nat) : (⟨g, 0, none⟩ : Addr).add j = ⟨g, j, none⟩ := by unfold Addr.add; split <;> simp_all
theorem own_news {w : World} {B n cp g : Nat} {L : List En} (h : w.ownsRow B 33 2 (.slice (some ⟨g, 0, none⟩) n cp) n (flat L)) : ∀ j u, (flat L)[j]? = some u → w.cell? ((⟨g, 0, none⟩ : Addr).add j) = some u := fun j u hj => h.cells (g := g) rfl j u hj
theorem own_addr {w : World} {B n cp : Nat} {A : Option Addr} {L : List En} (h : w.ownsRow B 33 2 (.slice A n cp) n (flat L)) (hn : 0 < n) : ∃ g, A = some ⟨g, 0, none⟩ ∧ B ≤ g ∧ g < w.heap.size := by
  have hO := h
  rcases h.2 with ⟨h1, h2⟩ | ⟨g, cap, cur, h1, _⟩
  · omega
  · cases h1
    have := hO.lt g rfl
    exact ⟨g, rfl, this⟩
theorem aw_win : winN 2 (rd 2) 9 = 9 ∧ winN 2 (atL (rdL 2 9 ++ rdL 2 9)) 18 = 9 ∧ fairB 2 (rd 2) 9 = true ∧ fairB 2 (fun k => rd 2 (1 + k)) 8 = false := by decide +kernel
theorem aw_ok : ∀ i, i < 18 → ((-9223372036854775808 ≤ (atL (rdL 2 9 ++ rdL 2 9) i).1 ∧ (atL (rdL 2 9 ++ rdL 2 9) i).1 ≤ 9223372036854775807) ∧ (-9223372036854775808 ≤ (atL (rdL 2 9 ++ rdL 2 9) i).2 ∧ (atL (rdL 2 9 ++ rdL 2 9) i).2 ≤ 9223372036854775807)) := by decide +kernel
set_option maxHeartbeats 4000000 in
theorem awake_any (w : World) : Calls Try.prog 8 #[] w fun e w' => e = .returned (.bool true) ∧ Below w.heap.size w w' := by
  obtain ⟨i0, hi, hz0, hz1, hz2⟩ := info_parts info33
  have HB := Lib.hid (fun o1 => ((Below.refl w.heap.size w).alloc (Nat.le_refl _) o1))
  have hm : mayB 1 (2 : Nat) 1 = true := by decide
  go_enter Try.func8, Try.ntmps8
  go_wp2_with fail
  go_at_call 9; refine (round_ok _ 1 1 2 hm).mono ?_; rintro e w1 ⟨A1, cap1, B1, rfl, hB1, hB1s, hO1, hb1⟩
  obtain ⟨g1, rfl, hg1, hg1s⟩ := own_addr hO1 (by omega)
  have hbx := (hb1.block w.heap.size (by rw [size_al]; omega)).trans (heap_alloc_new w _)
  rw [size_al] at hB1
  have a0 : w1.cell? ⟨w.heap.size, 0, none⟩ = some (.int .i64 1) := by simp only [World.cell?, hbx]; rfl
  have a1 : w1.cell? ⟨w.heap.size, 1, none⟩ = some (.int .i64 2) := by simp only [World.cell?, hbx]; rfl
  have a2 : w1.cell? ⟨w.heap.size, 2, none⟩ = some (.int .i64 1) := by simp only [World.cell?, hbx]; rfl
  have HB1 := Lib.hid ((HB.out (.cells #[.int .i64 1, .int .i64 2, .int .i64 1] 23)).trans (hb1.mono (by rw [size_al]; omega)))
  have e1 : w1.cell? ⟨g1, 3, none⟩ = some (.int .i64 1) := own_news hO1 3 _ rfl
  have e2 : w1.cell? ⟨g1, 4, none⟩ = some (.int .i64 4) := own_news hO1 4 _ rfl
  have e3 : w1.cell? ⟨g1, 16, none⟩ = some (.int .i64 3) := own_news hO1 16 _ rfl
  have HO1 := Lib.hid (show w1.ownsRow B1 33 2 (.slice (some ⟨g1, 0, none⟩) 9 cap1) 9 (flat (rdL 2 9)) from hO1)
  have HBX := Lib.hid hbx
  have HG1 := Lib.hid (And.intro hg1 hg1s)
  have HBS := Lib.hid hB1
  clear hb1 hbx hO1 hB1 hB1s hg1 hg1s
  go_wp2_with fail
  go_at_call 9; refine (round_ok _ 1 1 2 hm).mono ?_; rintro e w2 ⟨A2, cap2, B2, rfl, hB2, hB2s, hO2, hb2⟩
  have HO2 := Lib.hid (show w2.ownsRow B2 33 2 (.slice A2 9 cap2) 9 (flat (rdL 2 9)) from hO2)
  have HB2 := Lib.hid hb2
  have HNW := Lib.hid (show ∀ j u, (flat (rdL 2 9))[j]? = some u → w2.cell? ((⟨g1, 0, none⟩ : Addr).add j) = some u from fun j u hj => (hb2.cell (p := (⟨g1, 0, none⟩ : Addr).add j) (by rw [add0]; exact HG1.out.2)).trans (own_news HO1.out j u hj))
  have HS2 := Lib.hid (And.intro hB2 hB2s)
  clear hO2 hb2 hB2 a0 a1 a2 e1 e2 e3
  go_wp2_with (refine wpList_append_lies _ rfl (.tmp 32) (.tmp 33) 30 rfl B2 33 i0 _ 2 16 Try.underlying30 hi hz0 hz1 hz2 rfl (by omega) (.slice A2 9 cap2) 9 (flat (rdL 2 9)) rfl HO2.out ⟨g1, 0, none⟩ 9 cap1 (flat (rdL 2 9)) rfl rfl HNW.out (flat_one _) (by omega) (by unfold maxLen; omega) (by omega) HS2.out.2 _ rfl ?_; intro g3 cap3 w3 hO3 hG3 _ _)
  have HB13 := Lib.hid (show Below w1.heap.size w1 w3 from ⟨hG3.os.trans HB2.out.os, hG3.tape.trans HB2.out.tape, hG3.output.trans HB2.out.output, Nat.le_trans HB2.out.size hG3.size, fun k hk => (hG3.block k (Nat.lt_of_lt_of_le hk HB2.out.size) (fun e => by have := (HO2.out.lt k e.symm).1; have := HS2.out.1; omega)).trans (HB2.out.block k hk)⟩)
  have HBW := Lib.hid (show Below w.heap.size w w3 from HB1.out.trans (HB13.out.mono HB1.out.size))
  have hbx3 := (HB13.out.block w.heap.size (block_lt HBX.out)).trans HBX.out
  have a0 : w3.cell? ⟨w.heap.size, 0, none⟩ = some (.int .i64 1) := by simp only [World.cell?, hbx3]; rfl
  have a1 : w3.cell? ⟨w.heap.size, 1, none⟩ = some (.int .i64 2) := by simp only [World.cell?, hbx3]; rfl
  have a2 : w3.cell? ⟨w.heap.size, 2, none⟩ = some (.int .i64 1) := by simp only [World.cell?, hbx3]; rfl
  have hz3 := block_lt hbx3
  have S1 : Sees w3 (some ⟨g1, 0, none⟩) 9 (rd 2) := ((sees_own HO1.out (rdL_len 2 9)).ext (fun i hi => rdL_at 2 9 i hi)).bel HB13.out
  have S2 : Sees w3 (some ⟨g3, 0, none⟩) 18 (atL (rdL 2 9 ++ rdL 2 9)) := sees_own (by rw [flat_app]; exact hO3) (by simp [rdL_len])
  obtain ⟨c1, rfl⟩ : ∃ c, cap1 = c + 9 := by
    rcases HO1.out.2 with ⟨h1, h2⟩ | ⟨g, cap, cur, h1, _, _, h4, _⟩
    · omega
    · cases h1; exact ⟨cap1 - 9, by omega⟩
  have W1 := Lib.hid (show ∀ X, Below w3.heap.size w3 X → Calls Try.prog 11 #[.agg #[.int .i64 1, .int .i64 2, .int .i64 1], .slice (some ⟨g1, 0, none⟩) 9 (c1 + 9)] X fun e w' => e = .returned (.int .i64 9) ∧ Below X.heap.size X w' from fun X hX => by
    have := window_may X 1 1 2 9 (c1 + 9) (some ⟨g1, 0, none⟩) (rd 2) hm (by omega) (fun i _ => rd_ok (by omega)) (S1.bel hX)
    rw [aw_win.1] at this; exact this)
  have W2 := Lib.hid (show ∀ X, Below w3.heap.size w3 X → Calls Try.prog 11 #[.agg #[.int .i64 1, .int .i64 2, .int .i64 1], .slice (some ⟨g3, 0, none⟩) 18 cap3] X fun e w' => e = .returned (.int .i64 9) ∧ Below X.heap.size X w' from fun X hX => by
    have := window_may X 1 1 2 18 cap3 (some ⟨g3, 0, none⟩) (atL (rdL 2 9 ++ rdL 2 9)) hm (by omega) aw_ok (S2.bel hX)
    rw [aw_win.2.1] at this; exact this)
  have W3 := Lib.hid (show ∀ X, Below w3.heap.size w3 X → Calls Try.prog 10 #[.agg #[.int .i64 1, .int .i64 2, .int .i64 1], .slice (some ⟨g1, 0, none⟩) 9 (c1 + 9)] X fun e w' => e = .returned (.bool true) ∧ Below X.heap.size X w' from fun X hX => by
    have := right_may X 1 1 2 9 (c1 + 9) (some ⟨g1, 0, none⟩) (rd 2) hm (by omega) (fun i _ => rd_ok (by omega)) (S1.bel hX)
    rw [aw_win.2.2.1] at this; exact this)
  have W4 := Lib.hid (show ∀ X, Below w3.heap.size w3 X → Calls Try.prog 10 #[.agg #[.int .i64 1, .int .i64 2, .int .i64 1], .slice (some ⟨g1, 2, none⟩) 8 (c1 + 8)] X fun e w' => e = .returned (.bool false) ∧ Below X.heap.size X w' from fun X hX => by
    have := right_may X 1 1 2 8 (c1 + 8) (some ⟨g1, 2, none⟩) (fun k => rd 2 (1 + k)) hm (by omega) (fun i _ => rd_ok (by omega)) (show Sees X (some ⟨g1, 0 + 1 * 2, none⟩) 8 (fun k => rd 2 (1 + k)) from (S1.bel hX).sub 1 8 (by omega))
    rw [aw_win.2.2.2] at this; exact this)
  have hH : Hid (w3.drew.cell? ⟨w.heap.size, 0, none⟩ = some (.int .i64 1) ∧ w3.drew.cell? ⟨w.heap.size, 1, none⟩ = some (.int .i64 2) ∧ w3.drew.cell? ⟨w.heap.size, 2, none⟩ = some (.int .i64 1) ∧ Below w3.heap.size w3 w3.drew) := ⟨a0, a1, a2, (Below.refl _ _).drew⟩
  have KEEP : Hid (∀ Y w' : World, (Y.cell? ⟨w.heap.size, 0, none⟩ = some (.int .i64 1) ∧ Y.cell? ⟨w.heap.size, 1, none⟩ = some (.int .i64 2) ∧ Y.cell? ⟨w.heap.size, 2, none⟩ = some (.int .i64 1) ∧ Below w3.heap.size w3 Y) → Below Y.heap.size Y w' → (w'.cell? ⟨w.heap.size, 0, none⟩ = some (.int .i64 1) ∧ w'.cell? ⟨w.heap.size, 1, none⟩ = some (.int .i64 2) ∧ w'.cell? ⟨w.heap.size, 2, none⟩ = some (.int .i64 1) ∧ Below w3.heap.size w3 w')) := by
    show ∀ _ _, _
    rintro Y w' ⟨e1, e2, e3, hb⟩ hB
    have hs := hb.size
    exact ⟨(hB.cell (p := ⟨w.heap.size, 0, none⟩) (by show w.heap.size < _; omega)).trans e1, (hB.cell (p := ⟨w.heap.size, 1, none⟩) (by show w.heap.size < _; omega)).trans e2, (hB.cell (p := ⟨w.heap.size, 2, none⟩) (by show w.heap.size < _; omega)).trans e3, hb.trans (hB.mono hs)⟩
  clear S1 S2 hO3 hG3 HO1 HO2 HNW HS2 HB2 HB13 hbx3 a0 a1 a2 HB1 HBX HG1 HBS HB hB2s
  go_region_held3 (fun w' => w'.cell? ⟨w.heap.size, 0, none⟩ = some (.int .i64 1) ∧ w'.cell? ⟨w.heap.size, 1, none⟩ = some (.int .i64 2) ∧ w'.cell? ⟨w.heap.size, 2, none⟩ = some (.int .i64 1) ∧ Below w3.heap.size w3 w') (first | exact hH | assumption | exact KEEP.out _ _ ‹_› ‹_›) (first | (go_at_call 11; (with_reducible refine (W1.out _ ?hb).mono ?_); (case hb => simp only [*]); rintro e z1 ⟨rfl, hz1⟩) | (go_at_call 11; (with_reducible refine (W2.out _ ?hb).mono ?_); (case hb => simp only [*]); rintro e z2 ⟨rfl, hz2⟩) | (go_at_call 10; (with_reducible refine (W3.out _ ?hb).mono ?_); (case hb => simp only [*]); rintro e z3 ⟨rfl, hz3⟩) | (go_at_call 10; (with_reducible refine (W4.out _ ?hb).mono ?_); (case hb => simp only [*]); rintro e z4 ⟨rfl, hz4⟩))
  rename_i hS
  go_wp2_with fail
  go_ret
  exact ⟨rfl, HBW.out.trans (hS.2.2.2.mono HBW.out.size)⟩
end Go.Proofs.Ytbnjdldobfckjaa
