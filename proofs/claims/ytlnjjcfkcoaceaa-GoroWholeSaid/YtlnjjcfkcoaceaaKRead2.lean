/- The contract of code.Read. -/
import Derived.Test.YtlnjjcfkcoaceaaKRead
import Derived.Deep.RegionWith
namespace Go.Proofs.Ytlnjjcfkcoaceaa
open Go Go.RowKit
set_option linter.unusedVariables false
set_option maxRecDepth 100000
set_option linter.unusedSimpArgs false

theorem info96 : (Try.prog.info? 96).map (fun i => (i.zero, i.size, i.bytes)) = some (some (.slice none 0 0), 1, 24) := by kernel_rfl
/-- make([][]Instr, n). -/
def zs (n : Nat) : Array Value := madeCells #[Value.slice none 0 0] n
theorem make_run (n : Nat) (hn : n ≤ 1000000) (w : World) : (Instr.makeSlice 94 (.int .i64 n) (.int .i64 n)).run Try.prog w = .ok (.slice (some ⟨w.heap.size, 0, none⟩) n n) (w.alloc (.cells (zs n) 96)) := by
  obtain ⟨i0, hi, hz0, hz1, hz2⟩ := info_parts info96
  have := run_make (P := Try.prog) w 94 96 i0 (.slice none 0 0) Try.underlying94 hi hz0 .i64 .i64 n n (by omega) (Int.le_refl _) (by rw [hz2]; omega) (by omega)
  rw [hz1] at this
  simpa [zs, Value.cells] using this
theorem zs_size (n : Nat) : (zs n).size = n := size_madeCells _ _

/-- Block g: a row of K slices, of which the first k are the programs' instructions. -/
def Half (w : World) (Lo g : Nat) (f : Nat → Int) (L : List (Nat × Nat)) (k : Nat) : Prop :=
  ∃ cur : Array Value, w.heap[g]? = some (.cells cur 96 (0, 0)) ∧ cur.size = L.length ∧ ∀ (p : Nat) (x : Nat × Nat), p < k → L[p]? = some x → ∃ (A1 : Option Addr) (c1 : Nat), cur[p]? = some (Value.slice A1 x.2 c1) ∧ x.2 ≤ c1 ∧ c1 ≤ maxLen ∧ SeesI w Lo w.heap.size A1 x.2 (fun j => f (x.1 + j)) (L.length : Nat)
theorem Half.below {w w' : World} {Lo g k : Nat} {f : Nat → Int} {L : List (Nat × Nat)} (h : Half w Lo g f L k) (hb : Below w.heap.size w w') : Half w' Lo g f L k := by
  obtain ⟨cur, h2, h3, h4⟩ := h
  refine ⟨cur, (hb.block g (block_lt h2)).trans h2, h3, fun p x hp hx => ?_⟩
  obtain ⟨A1, c1, q1, q2, q3, q4⟩ := h4 p x hp hx
  exact ⟨A1, c1, q1, q2, q3, (q4.below hb (Nat.le_refl _)).more (Nat.le_refl _) hb.size⟩
theorem Half.set {w : World} {Lo g k l c1 : Nat} {s : Nat} {A1 : Option Addr} {f : Nat → Int} {L : List (Nat × Nat)} (h : Half w Lo g f L k) (hg : g < Lo) (hx : L[k]? = some (s, l)) (h1 : l ≤ c1) (h2 : c1 ≤ maxLen) (hS : SeesI w Lo w.heap.size A1 l (fun j => f (s + j)) (L.length : Nat)) :
    Half (w.setCell ⟨g, k, none⟩ (.slice A1 l c1)) Lo g f L (k + 1) := by
  obtain ⟨cur, q2, q3, q4⟩ := h
  have hk : k < L.length := (List.getElem?_eq_some_iff.1 hx).1
  refine ⟨_, heap_set q2 k _, by simpa using q3, fun p x hp hx' => ?_⟩
  by_cases e : p = k
  · subst e
    rw [hx] at hx'
    obtain rfl : (s, l) = x := Option.some.inj hx'
    refine ⟨A1, c1, by simp [q3, hk], h1, h2, ?_⟩
    have := hS.set hg p (.slice A1 l c1)
    rwa [← size_set w ⟨g, p, none⟩ (.slice A1 l c1)] at this
  · obtain ⟨A2, c2, r1, r2, r3, r4⟩ := q4 p x (by omega) hx'
    refine ⟨A2, c2, by rw [Array.getElem?_setIfInBounds_ne (by omega)]; exact r1, r2, r3, ?_⟩
    have := r4.set hg k (.slice A1 l c1)
    rwa [← size_set w ⟨g, k, none⟩ (.slice A1 l c1)] at this
theorem Half.there {w : World} {Lo g k : Nat} {f : Nat → Int} {L : List (Nat × Nat)} (h : Half w Lo g f L k) (i : Nat) (hi : i < L.length) : ∃ v, w.cell? ⟨g, i, none⟩ = some v := by
  obtain ⟨cur, hh, hs, _⟩ := h
  exact ⟨cur[i]'(by omega), by simp [World.cell?, hh, hs, hi]⟩
theorem Half.frozen {w : World} {Lo g k : Nat} {f : Nat → Int} {L : List (Nat × Nat)} (h : Half w Lo g f L k) (i : Nat) : w.frozen? ⟨g, i, none⟩ = false := by
  obtain ⟨cur, hh, _⟩ := h
  simp [World.frozen?, hh]

theorem pieces_row {w w1 : World} {v : Value} {f : Nat → Int} {L : List (Nat × Nat)} {xs : List Value} (hO : Own w w1 22 1 v L.length xs) (hP : Pieces w w.heap.size f L xs) (hK : 1 ≤ L.length) :
    ∃ g3 c3, v = .slice (some ⟨g3, 0, none⟩) L.length c3 ∧ g3 < w1.heap.size ∧ ∀ (p : Nat) (x : Nat × Nat), L[p]? = some x → ∃ (A1 : Option Addr) (c1 : Nat), w1.cell? ⟨g3, p, none⟩ = some (Value.slice A1 x.2 c1) ∧ SeesU w w.heap.size A1 x.2 (fun j => f (x.1 + j)) ∧ x.2 ≤ c1 := by
  obtain ⟨h1, h2⟩ := hO.own
  rcases h2 with ⟨rfl, h0⟩ | ⟨g, cap, cur, rfl, hg, hh, hnc, hcm, hcs, htk⟩
  · omega
  · refine ⟨g, cap, rfl, block_lt hh, fun p x hx => ?_⟩
    obtain ⟨A1, c1, q1, q2, q3, _⟩ := hP.at' p x hx
    have hp : p < L.length := (List.getElem?_eq_some_iff.1 hx).1
    refine ⟨A1, c1, ?_, q2, q3⟩
    rw [← htk, List.getElem?_take_of_lt (by omega)] at q1
    simp only [World.cell?, hh]
    simpa using q1

set_option maxHeartbeats 2000000 in
theorem read_few (A : Option Addr) (n cap : Nat) (f : Nat → Int) (w : World) (hn : n ≤ 4096) (hc : n ≤ cap) (hm : cap ≤ 9223372036854775807) (hs : SeesU w w.heap.size A n f) (hf : ∀ i, i < n → 0 ≤ f i ∧ f i ≤ 18446744073709551615) :
    Calls Try.prog 39 #[.slice A n cap] w fun e w' => ∃ c g, e = .returned (.pointer (some ⟨c, 0, none⟩)) ∧ IsCode w' c g f (segs f n) ∧ Below w.heap.size w w' := by
  obtain ⟨A2, c2, hsl, hS2, hi2, hm2⟩ := slice_high w w.heap.size A n cap n f hs (Nat.le_refl _) hc hm
  have HC := cut_any A2 n c2 f w (by omega) hi2 hm2 hS2 hf
  have HF : Hid (∀ i, i < n → 0 ≤ f i ∧ f i ≤ 18446744073709551615) := hf
  have HSG : Hid (∀ x, x ∈ segs f n → x.1 + x.2 ≤ n ∧ ∀ j, j < x.2 → pt (f (x.1 + j)) = false) := segs_mem f n
  obtain ⟨hK1, hK2⟩ := segs_len f n
  clear hs hf hS2
  generalize segs f n = L at *
  go_enter Try.func39, Try.ntmps39
  go_wp2_with fail
  go_at_call 97; refine HC.mono ?_; clear HC hsl; rintro e w1 ⟨v, xs, rfl, hO, hP⟩
  obtain ⟨g3, c3, rfl, hg3, hPi⟩ := pieces_row hO hP hK1
  have HPi : Hid _ := hPi
  have hbw1 := hO.below
  have hmk := make_run L.length (by omega) w1
  have hC0 : ((w1.alloc (.cells (zs L.length) 96)).alloc (.cells #[.slice (some ⟨w1.heap.size, 0, none⟩) L.length L.length] 156)).heap[w1.heap.size + 1]? = some (.cells #[.slice (some ⟨w1.heap.size, 0, none⟩) L.length L.length] 156 (0, 0)) := by
    have := heap_alloc_new (w1.alloc (.cells (zs L.length) 96)) (.cells #[.slice (some ⟨w1.heap.size, 0, none⟩) L.length L.length] 156)
    simpa using this
  have hH0 : Half ((w1.alloc (.cells (zs L.length) 96)).alloc (.cells #[.slice (some ⟨w1.heap.size, 0, none⟩) L.length L.length] 156)) (w1.heap.size + 2) w1.heap.size f L 0 :=
    ⟨zs L.length, (heap_al _ (by simp) _).trans (heap_alloc_new _ _), zs_size _, fun p x hp => absurd hp (Nat.not_lt_zero p)⟩
  have hb0 : Below w1.heap.size w1 ((w1.alloc (.cells (zs L.length) 96)).alloc (.cells #[.slice (some ⟨w1.heap.size, 0, none⟩) L.length L.length] 156)) := ((Below.refl _ _).alloc (Nat.le_refl _) _).alloc (by simp) _
  have hsz : ((w1.alloc (.cells (zs L.length) 96)).alloc (.cells #[.slice (some ⟨w1.heap.size, 0, none⟩) L.length L.length] 156)).heap.size = w1.heap.size + 2 := by simp
  clear hO hP hPi
  go_wp2_with fail
  clear hmk
  have hgw := hbw1.size
  generalize hW0 : ((w1.alloc (.cells (zs L.length) 96)).alloc (.cells #[.slice (some ⟨w1.heap.size, 0, none⟩) L.length L.length] 156)) = W0 at hC0 hH0 hb0 hsz ⊢
  clear hW0
  have HPi0 : Hid (∀ (p : Nat) (x : Nat × Nat), L[p]? = some x → ∃ (A1 : Option Addr) (c1 : Nat), W0.cell? ⟨g3, p, none⟩ = some (Value.slice A1 x.2 c1) ∧ SeesU w w.heap.size A1 x.2 (fun j => f (x.1 + j)) ∧ x.2 ≤ c1) := fun p x hx => by
    obtain ⟨A1, c1, q1, q2, q3⟩ := HPi.out p x hx
    exact ⟨A1, c1, (hb0.cell (p := ⟨g3, p, none⟩) hg3).trans q1, q2, q3⟩
  clear HPi
  have hbw0 : Below w.heap.size w W0 := hbw1.trans (hb0.mono hbw1.size)
  generalize w1.heap.size = g at *
  clear hb0 hbw1
  have HC0 : Hid _ := hC0
  clear hC0
  have HH0 : Hid (Half W0 (g + 2) g f L 0) := hH0
  clear hH0
  go_loopw [19] (fun x wr => ∃ k : Nat, k ≤ L.length ∧ x = .int .i64 k ∧ Hid (Half wr (g + 2) g f L k) ∧ Hid (But [g] W0 wr)) (fun x _ => L.length - (intOf x).toNat)
  case atStart => exact ⟨0, Nat.zero_le _, rfl, HH0.out, But.refl _ _⟩
  case round =>
    obtain ⟨k, hk, rfl, hH, hB⟩ := hrel
    have hCr : wr.heap[g + 1]? = some (.cells #[.slice (some ⟨g, 0, none⟩) L.length L.length] 156 (0, 0)) := (hB.out.block (g + 1) (by omega) (by simp)).trans HC0.out
    have hbr : Below w.heap.size w wr := hbw0.trans (hB.out.below (by intro q hq; simp at hq; omega) hbw0.size)
    have hszr := hB.out.size
    by_cases hlt : k < L.length
    · have hx : L[k]? = some L[k] := List.getElem?_eq_getElem hlt
      have hmem : L[k] ∈ L := List.getElem_mem _
      obtain ⟨hle, hno⟩ := HSG.out _ hmem
      obtain ⟨A1, c1, q1, q2, q3⟩ := HPi0.out k _ hx
      obtain ⟨s, l⟩ : Nat × Nat := L[k]
      generalize hsl : L[k] = sl at *
      obtain ⟨s, l⟩ := sl
      simp only at q1 q2 q3 hle hno
      have q1r : wr.cell? ⟨g3, k, none⟩ = some (.slice A1 l c1) := (cell_block (hB.out.block g3 (by omega) (by simp; omega))).trans q1
      obtain ⟨v0, hv0⟩ := hH.out.there k hlt
      have hfz := hH.out.frozen k
      have hc0 : wr.cell? ⟨g + 1, 0, none⟩ = some (.slice (some ⟨g, 0, none⟩) L.length L.length) := by simp [World.cell?, hCr]
      have hgr := block_lt hCr
      have HI : Calls Try.prog 99 #[.slice A1 l c1, .int .i64 (L.length : Nat)] wr.drew fun e w' => ∃ (A' : Option Addr) (c' : Nat), e = .returned (.slice A' l c') ∧ (l ≤ c' ∧ c' ≤ maxLen ∧ SeesI w' wr.heap.size w'.heap.size A' l (fun j => f (s + j)) (L.length : Nat)) ∧ w'.cell? ⟨g + 1, 0, none⟩ = some (.slice (some ⟨g, 0, none⟩) L.length L.length) ∧ w'.cell? ⟨g3, k, none⟩ = some (.slice A1 l c1) ∧ w'.cell? ⟨g, k, none⟩ = some v0 ∧ w'.frozen? ⟨g, k, none⟩ = false ∧ Below wr.heap.size wr w' := by
        have hX : Below wr.heap.size wr wr.drew := (Below.refl _ _).drew
        have hbX : Below w.heap.size w wr.drew := hbr.trans (hX.mono hbr.size)
        refine (instrs_any A1 l c1 (fun j => f (s + j)) (L.length : Nat) wr.drew (by omega) (by omega) ((q2.below hbX (Nat.le_refl _)).more hbX.size) (fun i hi => HF.out _ (by omega)) hno).mono ?_
        rintro e w' ⟨v, rfl, hO⟩
        obtain ⟨A', c', rfl, z1, z2, z3⟩ := hO.seesI
        have hB : Below wr.heap.size wr w' := hX.trans (hO.below.mono (Nat.le_refl _))
        refine ⟨A', c', rfl, ⟨z1, z2, z3⟩, (hB.cell (p := ⟨g + 1, 0, none⟩) (by show g + 1 < _; omega)).trans hc0, (hB.cell (p := ⟨g3, k, none⟩) (by show g3 < _; omega)).trans q1r, (hB.cell (p := ⟨g, k, none⟩) (by show g < _; omega)).trans hv0, ?_, hB⟩
        have hh := hB.block g (by omega)
        simpa [World.frozen?, hh] using hfz
      clear q1 hno hle
      go_wp2_with fail
      go_region_with (go_at_call 99; refine HI.mono ?_; rintro e z1 ⟨A', c', rfl, hz, y1, y2, y3, y4, y5⟩)
      all_goals
        have hH2 := (hH.out.below y5).set (by omega) hx hz.1 hz.2.1 (hz.2.2.more (by omega) (Nat.le_refl _))
        have hB2 := (hB.out.trans (But.of_below y5)).set (g := g) (Or.inl (by simp)) k (.slice A' l c')
        have HH2 : Hid _ := hH2
        have HB2 : Hid _ := hB2
        clear hH2 hB2 HI hz y1 y2 y3 y4 y5
        go_wp2_with fail
        go_roundw
        case rel => exact ⟨k + 1, by omega, by go_num, HH2.out, HB2.out⟩
        case measure => simp [intOf]; omega
    · obtain rfl : k = L.length := by omega
      go_wp2_with fail
      go_ret
      refine ⟨g + 1, g, rfl, ⟨hCr, ?_⟩, hbr⟩
      obtain ⟨cur, r1, r2, r3⟩ := hH.out
      refine ⟨cur, r1, r2, fun p x hx => ?_⟩
      obtain ⟨A1, c1, t1, t2, t3, t4⟩ := r3 p x (List.getElem?_eq_some_iff.1 hx).1 hx
      exact ⟨A1, c1, t1, t2, t3, t4.more (Nat.zero_le _) (Nat.le_refl _)⟩

set_option maxHeartbeats 2000000 in
theorem read_cap (A : Option Addr) (n cap N : Nat) (f : Nat → Int) (w : World) (hN : N = 4096) (hn : 4096 < n ∧ n ≤ 1000000) (hc : n ≤ cap) (hm : cap ≤ 9223372036854775807) (hs : SeesU w w.heap.size A n f) (hf : ∀ i, i < n → 0 ≤ f i ∧ f i ≤ 18446744073709551615) :
    Calls Try.prog 39 #[.slice A n cap] w fun e w' => ∃ c g, e = .returned (.pointer (some ⟨c, 0, none⟩)) ∧ IsCode w' c g f (segs f N) ∧ Below w.heap.size w w' := by
  obtain ⟨A2, c2, hsl0, hS2, hi2, hm2⟩ := slice_high w w.heap.size A n cap N f hs (by omega) hc hm
  have hsl : ∀ w, (Instr.slice 22 (.slice A n cap) none (some (.int .i64 4096)) none).run Try.prog w = .ok (.slice A2 N c2) w := fun w => by
    have h := hsl0 w
    rw [hN] at h ⊢
    exact h
  clear hsl0
  have HC := cut_any A2 N c2 f w (by omega) hi2 hm2 hS2 (fun i hi => hf i (by omega))
  have HF : Hid (∀ i, i < N → 0 ≤ f i ∧ f i ≤ 18446744073709551615) := fun i hi => hf i (by omega)
  have HSG : Hid (∀ x, x ∈ segs f N → x.1 + x.2 ≤ N ∧ ∀ j, j < x.2 → pt (f (x.1 + j)) = false) := segs_mem f N
  obtain ⟨hK1, hK2⟩ := segs_len f N
  obtain ⟨hn1, hn2⟩ := hn
  have hN2 : N ≤ 4096 := by omega
  clear hs hf hS2 hN
  generalize segs f N = L at *
  go_enter Try.func39, Try.ntmps39
  go_wp2_with fail
  go_at_call 97; refine HC.mono ?_; clear HC hsl; rintro e w1 ⟨v, xs, rfl, hO, hP⟩
  obtain ⟨g3, c3, rfl, hg3, hPi⟩ := pieces_row hO hP hK1
  have HPi : Hid _ := hPi
  have hbw1 := hO.below
  have hmk := make_run L.length (by omega) w1
  have hC0 : ((w1.alloc (.cells (zs L.length) 96)).alloc (.cells #[.slice (some ⟨w1.heap.size, 0, none⟩) L.length L.length] 156)).heap[w1.heap.size + 1]? = some (.cells #[.slice (some ⟨w1.heap.size, 0, none⟩) L.length L.length] 156 (0, 0)) := by
    have := heap_alloc_new (w1.alloc (.cells (zs L.length) 96)) (.cells #[.slice (some ⟨w1.heap.size, 0, none⟩) L.length L.length] 156)
    simpa using this
  have hH0 : Half ((w1.alloc (.cells (zs L.length) 96)).alloc (.cells #[.slice (some ⟨w1.heap.size, 0, none⟩) L.length L.length] 156)) (w1.heap.size + 2) w1.heap.size f L 0 :=
    ⟨zs L.length, (heap_al _ (by simp) _).trans (heap_alloc_new _ _), zs_size _, fun p x hp => absurd hp (Nat.not_lt_zero p)⟩
  have hb0 : Below w1.heap.size w1 ((w1.alloc (.cells (zs L.length) 96)).alloc (.cells #[.slice (some ⟨w1.heap.size, 0, none⟩) L.length L.length] 156)) := ((Below.refl _ _).alloc (Nat.le_refl _) _).alloc (by simp) _
  have hsz : ((w1.alloc (.cells (zs L.length) 96)).alloc (.cells #[.slice (some ⟨w1.heap.size, 0, none⟩) L.length L.length] 156)).heap.size = w1.heap.size + 2 := by simp
  clear hO hP hPi
  go_wp2_with fail
  clear hmk
  have hgw := hbw1.size
  generalize hW0 : ((w1.alloc (.cells (zs L.length) 96)).alloc (.cells #[.slice (some ⟨w1.heap.size, 0, none⟩) L.length L.length] 156)) = W0 at hC0 hH0 hb0 hsz ⊢
  clear hW0
  have HPi0 : Hid (∀ (p : Nat) (x : Nat × Nat), L[p]? = some x → ∃ (A1 : Option Addr) (c1 : Nat), W0.cell? ⟨g3, p, none⟩ = some (Value.slice A1 x.2 c1) ∧ SeesU w w.heap.size A1 x.2 (fun j => f (x.1 + j)) ∧ x.2 ≤ c1) := fun p x hx => by
    obtain ⟨A1, c1, q1, q2, q3⟩ := HPi.out p x hx
    exact ⟨A1, c1, (hb0.cell (p := ⟨g3, p, none⟩) hg3).trans q1, q2, q3⟩
  clear HPi
  have hbw0 : Below w.heap.size w W0 := hbw1.trans (hb0.mono hbw1.size)
  generalize w1.heap.size = g at *
  clear hb0 hbw1
  have HC0 : Hid _ := hC0
  clear hC0
  have HH0 : Hid (Half W0 (g + 2) g f L 0) := hH0
  clear hH0
  go_loopw [19] (fun x wr => ∃ k : Nat, k ≤ L.length ∧ x = .int .i64 k ∧ Hid (Half wr (g + 2) g f L k) ∧ Hid (But [g] W0 wr)) (fun x _ => L.length - (intOf x).toNat)
  case atStart => exact ⟨0, Nat.zero_le _, rfl, HH0.out, But.refl _ _⟩
  case round =>
    obtain ⟨k, hk, rfl, hH, hB⟩ := hrel
    have hCr : wr.heap[g + 1]? = some (.cells #[.slice (some ⟨g, 0, none⟩) L.length L.length] 156 (0, 0)) := (hB.out.block (g + 1) (by omega) (by simp)).trans HC0.out
    have hbr : Below w.heap.size w wr := hbw0.trans (hB.out.below (by intro q hq; simp at hq; omega) hbw0.size)
    have hszr := hB.out.size
    by_cases hlt : k < L.length
    · have hx : L[k]? = some L[k] := List.getElem?_eq_getElem hlt
      have hmem : L[k] ∈ L := List.getElem_mem _
      obtain ⟨hle, hno⟩ := HSG.out _ hmem
      obtain ⟨A1, c1, q1, q2, q3⟩ := HPi0.out k _ hx
      obtain ⟨s, l⟩ : Nat × Nat := L[k]
      generalize hsl : L[k] = sl at *
      obtain ⟨s, l⟩ := sl
      simp only at q1 q2 q3 hle hno
      have q1r : wr.cell? ⟨g3, k, none⟩ = some (.slice A1 l c1) := (cell_block (hB.out.block g3 (by omega) (by simp; omega))).trans q1
      obtain ⟨v0, hv0⟩ := hH.out.there k hlt
      have hfz := hH.out.frozen k
      have hc0 : wr.cell? ⟨g + 1, 0, none⟩ = some (.slice (some ⟨g, 0, none⟩) L.length L.length) := by simp [World.cell?, hCr]
      have hgr := block_lt hCr
      have HI : Calls Try.prog 99 #[.slice A1 l c1, .int .i64 (L.length : Nat)] wr.drew fun e w' => ∃ (A' : Option Addr) (c' : Nat), e = .returned (.slice A' l c') ∧ (l ≤ c' ∧ c' ≤ maxLen ∧ SeesI w' wr.heap.size w'.heap.size A' l (fun j => f (s + j)) (L.length : Nat)) ∧ w'.cell? ⟨g + 1, 0, none⟩ = some (.slice (some ⟨g, 0, none⟩) L.length L.length) ∧ w'.cell? ⟨g3, k, none⟩ = some (.slice A1 l c1) ∧ w'.cell? ⟨g, k, none⟩ = some v0 ∧ w'.frozen? ⟨g, k, none⟩ = false ∧ Below wr.heap.size wr w' := by
        have hX : Below wr.heap.size wr wr.drew := (Below.refl _ _).drew
        have hbX : Below w.heap.size w wr.drew := hbr.trans (hX.mono hbr.size)
        refine (instrs_any A1 l c1 (fun j => f (s + j)) (L.length : Nat) wr.drew (by omega) (by omega) ((q2.below hbX (Nat.le_refl _)).more hbX.size) (fun i hi => HF.out _ (by omega)) hno).mono ?_
        rintro e w' ⟨v, rfl, hO⟩
        obtain ⟨A', c', rfl, z1, z2, z3⟩ := hO.seesI
        have hB : Below wr.heap.size wr w' := hX.trans (hO.below.mono (Nat.le_refl _))
        refine ⟨A', c', rfl, ⟨z1, z2, z3⟩, (hB.cell (p := ⟨g + 1, 0, none⟩) (by show g + 1 < _; omega)).trans hc0, (hB.cell (p := ⟨g3, k, none⟩) (by show g3 < _; omega)).trans q1r, (hB.cell (p := ⟨g, k, none⟩) (by show g < _; omega)).trans hv0, ?_, hB⟩
        have hh := hB.block g (by omega)
        simpa [World.frozen?, hh] using hfz
      clear q1 hno hle
      go_wp2_with fail
      go_region_with (go_at_call 99; refine HI.mono ?_; rintro e z1 ⟨A', c', rfl, hz, y1, y2, y3, y4, y5⟩)
      all_goals
        have hH2 := (hH.out.below y5).set (by omega) hx hz.1 hz.2.1 (hz.2.2.more (by omega) (Nat.le_refl _))
        have hB2 := (hB.out.trans (But.of_below y5)).set (g := g) (Or.inl (by simp)) k (.slice A' l c')
        have HH2 : Hid _ := hH2
        have HB2 : Hid _ := hB2
        clear hH2 hB2 HI hz y1 y2 y3 y4 y5
        go_wp2_with fail
        go_roundw
        case rel => exact ⟨k + 1, by omega, by go_num, HH2.out, HB2.out⟩
        case measure => simp [intOf]; omega
    · obtain rfl : k = L.length := by omega
      go_wp2_with fail
      go_ret
      refine ⟨g + 1, g, rfl, ⟨hCr, ?_⟩, hbr⟩
      obtain ⟨cur, r1, r2, r3⟩ := hH.out
      refine ⟨cur, r1, r2, fun p x hx => ?_⟩
      obtain ⟨A1, c1, t1, t2, t3, t4⟩ := r3 p x (List.getElem?_eq_some_iff.1 hx).1 hx
      exact ⟨A1, c1, t1, t2, t3, t4.more (Nat.zero_le _) (Nat.le_refl _)⟩

end Go.Proofs.Ytlnjjcfkcoaceaa
