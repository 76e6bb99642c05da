/- The contract of word.Count: how many entries are of each kind. -/
import Derived.Test.YtlpfleefbngdaaaDoorAll
namespace Go.Proofs.YtlpfleefbngdaaaDoor
open Go Go.RowKit
set_option linter.unusedSimpArgs false
set_option linter.unusedVariables false

/-- A slice of n entries, seen in memory below block B: the i-th is (f i, g i). -/
def SeesE (w : World) (B : Nat) (A : Option Addr) (n : Nat) (f g : Nat → Int) : Prop :=
  0 < n → ∃ b off : Nat, A = some ⟨b, off, none⟩ ∧ b < B ∧ ∀ i, i < n → w.cell? ⟨b, off + i * 2, none⟩ = some (.int .i64 (f i)) ∧ w.cell? ⟨b, off + i * 2 + 1, none⟩ = some (.int .i64 (g i))
theorem SeesE.below {w w' : World} {B B' n : Nat} {A : Option Addr} {f g : Nat → Int} (h : SeesE w B A n f g) (hb : Below B' w w') (hB : B ≤ B') : SeesE w' B A n f g := fun hn => by
  obtain ⟨b, off, e, h1, h2⟩ := h hn
  exact ⟨b, off, e, h1, fun i hi => ⟨(hb.cell (p := ⟨b, off + i * 2, none⟩) (Nat.lt_of_lt_of_le h1 hB)).trans (h2 i hi).1, (hb.cell (p := ⟨b, off + i * 2 + 1, none⟩) (Nat.lt_of_lt_of_le h1 hB)).trans (h2 i hi).2⟩⟩

/-- Is a number of the kind j (0: of none)? -/
def ofKind (j x : Int) : Bool := decide ((x = j ∧ 1 ≤ j) ∨ (j = 0 ∧ (x < 1 ∨ 4 < x)))
/-- How many of the first n are of the kind j. -/
def cntOf (f : Nat → Int) (j : Int) : Nat → Nat
  | 0 => 0
  | n + 1 => cntOf f j n + if ofKind j (f n) then 1 else 0
theorem cntOf_le (f : Nat → Int) (j : Int) (n : Nat) : cntOf f j n ≤ n := by
  induction n with
  | zero => exact Nat.le_refl _
  | succ n ih => unfold cntOf; split <;> omega

/-- A block of five numbers. -/
def Five (w : World) (g : Nat) (a b c d e : Nat) : Prop := w.heap[g]? = some (.cells #[.int .i64 a, .int .i64 b, .int .i64 c, .int .i64 d, .int .i64 e] 38 (0, 0))
theorem Five.lt {w : World} {g a b c d e : Nat} (h : Five w g a b c d e) : g < w.heap.size := by
  rcases Nat.lt_or_ge g w.heap.size with l | l
  · exact l
  · unfold Five at h; rw [Array.getElem?_eq_none l] at h; cases h
theorem Five.cell {w : World} {g a b c d e : Nat} (h : Five w g a b c d e) (i : Nat) : w.cell? ⟨g, i, none⟩ = (#[Value.int .i64 a, .int .i64 b, .int .i64 c, .int .i64 d, .int .i64 e])[i]? := by
  unfold Five at h; simp [World.cell?, h]
theorem Five.frozen {w : World} {g a b c d e : Nat} (h : Five w g a b c d e) (i : Nat) : w.frozen? ⟨g, i, none⟩ = false := by
  unfold Five at h; simp [World.frozen?, h]
theorem Five.new (w : World) : Five (w.alloc (.cells #[.int .i64 0, .int .i64 0, .int .i64 0, .int .i64 0, .int .i64 0] 38)) w.heap.size 0 0 0 0 0 := by
  show (w.heap.push _)[w.heap.size]? = _
  simp
theorem Five.alloc {w : World} {g a b c d e : Nat} (h : Five w g a b c d e) (o : Obj) : Five (w.alloc o) g a b c d e := (Below.heap_alloc w o g h.lt).trans h

theorem Five.far {w : World} {g a b c d e : Nat} (h : Five w g a b c d e) {p : Addr} (hp : g ≠ p.block) (u : Value) : Five (w.setCell p u) g a b c d e := (Below.heap_setCell w p u g hp).trans h
theorem heap_set {w : World} {g : Nat} {cs : Array Value} {t : TypeId} {fr : Nat × Nat} (h : w.heap[g]? = some (.cells cs t fr)) (i : Nat) (u : Value) : (w.setCell ⟨g, i, none⟩ u).heap[g]? = some (.cells (cs.setIfInBounds i u) t fr) := by
  simp [World.setCell, Array.getElem?_modify, h]
theorem Five.set0 {w : World} {g a b c d e : Nat} (h : Five w g a b c d e) : Five (w.setCell ⟨g, 0, none⟩ (.int .i64 ((a : Int) + 1))) g (a + 1) b c d e := heap_set h 0 _
theorem Five.set1 {w : World} {g a b c d e : Nat} (h : Five w g a b c d e) : Five (w.setCell ⟨g, 1, none⟩ (.int .i64 ((b : Int) + 1))) g a (b + 1) c d e := heap_set h 1 _
theorem Five.set2 {w : World} {g a b c d e : Nat} (h : Five w g a b c d e) : Five (w.setCell ⟨g, 2, none⟩ (.int .i64 ((c : Int) + 1))) g a b (c + 1) d e := heap_set h 2 _
theorem Five.set3 {w : World} {g a b c d e : Nat} (h : Five w g a b c d e) : Five (w.setCell ⟨g, 3, none⟩ (.int .i64 ((d : Int) + 1))) g a b c (d + 1) e := heap_set h 3 _
theorem Five.set4 {w : World} {g a b c d e : Nat} (h : Five w g a b c d e) : Five (w.setCell ⟨g, 4, none⟩ (.int .i64 ((e : Int) + 1))) g a b c d (e + 1) := heap_set h 4 _

theorem cell_set {w : World} {g : Nat} {cs : Array Value} {t : TypeId} {fr : Nat × Nat} (h : w.heap[g]? = some (.cells cs t fr)) (i : Nat) (hi : i < cs.size) (u : Value) : (w.setCell ⟨g, i, none⟩ u).cell? ⟨g, i, none⟩ = some u := by
  have := heap_set h i u
  simp [World.cell?, this, hi]

theorem cnt_step (f : Nat → Int) (j : Int) (n : Nat) (b : Bool) (h : ofKind j (f n) = b) : cntOf f j (n + 1) = cntOf f j n + if b then 1 else 0 := by rw [← h]; rfl

set_option maxHeartbeats 1600000 in
theorem count_any (A : Option Addr) (n cap : Nat) (f g : Nat → Int) (w : World) (hT : Tab w) (hn : n ≤ 100) (hs : SeesE w w.heap.size A n f g) :
    Calls Tryd.prog 16 #[.slice A n cap] w fun e w' => e = .returned (.agg #[.int .i64 (cntOf f 0 n), .int .i64 (cntOf f 1 n), .int .i64 (cntOf f 2 n), .int .i64 (cntOf f 3 n), .int .i64 (cntOf f 4 n)]) ∧ Below w.heap.size w w' := by
  have hsz := hT.size
  have HS : Hid (SeesE w w.heap.size A n f g) := hs
  clear hs
  go_enter Tryd.func16, Tryd.ntmps16
  go_wp2_with fail
  go_loopw [10] (fun i wr => ∃ k : Nat, k ≤ n ∧ i = .int .i64 k ∧ Five wr w.heap.size 0 0 0 0 0 ∧ Five wr (w.heap.size + 1) (cntOf f 0 k) (cntOf f 1 k) (cntOf f 2 k) (cntOf f 3 k) (cntOf f 4 k) ∧ Below w.heap.size w wr)
    (fun i _ => n - (intOf i).toNat)
  case atStart => exact ⟨0, Nat.zero_le _, rfl, (Five.new w).alloc _, by show Five _ _ 0 0 0 0 0; simpa using Five.new (w.alloc _), ((Below.refl _ _).alloc (Nat.le_refl _) _).alloc (by simp) _⟩
  case round =>
    obtain ⟨k, hk, rfl, hF0, hF1, hB⟩ := hrel
    have hTr := hT.below hB hsz
    have hl1 := hF1.lt
    have l0 := cntOf_le f 0 k
    have l1 := cntOf_le f 1 k
    have l2 := cntOf_le f 2 k
    have l3 := cntOf_le f 3 k
    have l4 := cntOf_le f 4 k
    have c0 := hF1.cell 0
    have c1 := hF1.cell 1
    have c2 := hF1.cell 2
    have c3 := hF1.cell 3
    have c4 := hF1.cell 4
    have z0 := hF1.frozen 0
    have z1 := hF1.frozen 1
    have z2 := hF1.frozen 2
    have z3 := hF1.frozen 3
    have z4 := hF1.frozen 4
    by_cases hlt : k < n
    · obtain ⟨b, off, rfl, hbB, hcell⟩ := HS.out (by omega)
      have hc0 : wr.cell? ⟨b, off + k * 2, none⟩ = some (.int .i64 (f k)) := (hB.cell (p := ⟨b, off + k * 2, none⟩) hbB).trans (hcell k hlt).1
      have hc1 : wr.cell? ⟨b, off + k * 2 + 1, none⟩ = some (.int .i64 (g k)) := (hB.cell (p := ⟨b, off + k * 2 + 1, none⟩) hbB).trans (hcell k hlt).2
      clear hcell
      simp at c0 c1 c2 c3 c4
      have HX : ∃ x, Hid (f k = x) := ⟨_, rfl⟩
      obtain ⟨x, HX⟩ := HX
      rw [HX.out] at hc0
      by_cases h1 : x = 1
      · subst h1
        have hT1 := hTr.below (box2 wr (.int .i64 1) (.int .i64 (g k)) 27) hTr.size
        go_wp2_with fail
        go_at_call 20; refine (least_step1 _ hT1).mono ?_; rintro e w1 ⟨rfl, rfl⟩
        go_wp2_with fail
        go_roundw
        case rel =>
          have hN : Five ((wr.setCell ⟨w.heap.size + 1, 1, none⟩ (.int .i64 ((cntOf f 1 k : Int) + 1))).alloc (.cells #[.int .i64 1, .int .i64 (g k)] 27)) (w.heap.size + 1) (cntOf f 0 (k + 1)) (cntOf f 1 (k + 1)) (cntOf f 2 (k + 1)) (cntOf f 3 (k + 1)) (cntOf f 4 (k + 1)) := by
            rw [cnt_step f 0 k false (by rw [HX.out]; decide), cnt_step f 1 k true (by rw [HX.out]; decide), cnt_step f 2 k false (by rw [HX.out]; decide), cnt_step f 3 k false (by rw [HX.out]; decide), cnt_step f 4 k false (by rw [HX.out]; decide)]
            exact (hF1.set1).alloc _
          exact ⟨k + 1, by omega, by go_num, (hF0.far (by simp) _).alloc _, hN, (hB.setCell (by simp) _).alloc (by simpa [World.setCell] using hB.size) _⟩
        case measure => simp [intOf]; omega
      by_cases h2 : x = 2
      · subst h2
        have hT1 := hTr.below (box2 wr (.int .i64 2) (.int .i64 (g k)) 27) hTr.size
        go_wp2_with fail
        go_at_call 20; refine (least_step2 _ hT1).mono ?_; rintro e w1 ⟨rfl, rfl⟩
        go_wp2_with fail
        go_roundw
        case rel =>
          have hN : Five ((wr.setCell ⟨w.heap.size + 1, 2, none⟩ (.int .i64 ((cntOf f 2 k : Int) + 1))).alloc (.cells #[.int .i64 2, .int .i64 (g k)] 27)) (w.heap.size + 1) (cntOf f 0 (k + 1)) (cntOf f 1 (k + 1)) (cntOf f 2 (k + 1)) (cntOf f 3 (k + 1)) (cntOf f 4 (k + 1)) := by
            rw [cnt_step f 0 k false (by rw [HX.out]; decide), cnt_step f 1 k false (by rw [HX.out]; decide), cnt_step f 2 k true (by rw [HX.out]; decide), cnt_step f 3 k false (by rw [HX.out]; decide), cnt_step f 4 k false (by rw [HX.out]; decide)]
            exact (hF1.set2).alloc _
          exact ⟨k + 1, by omega, by go_num, (hF0.far (by simp) _).alloc _, hN, (hB.setCell (by simp) _).alloc (by simpa [World.setCell] using hB.size) _⟩
        case measure => simp [intOf]; omega
      by_cases h3 : x = 3
      · subst h3
        have hT1 := hTr.below (box2 wr (.int .i64 3) (.int .i64 (g k)) 27) hTr.size
        go_wp2_with fail
        go_at_call 20; refine (least_step3 _ hT1).mono ?_; rintro e w1 ⟨rfl, rfl⟩
        go_wp2_with fail
        go_roundw
        case rel =>
          have hN : Five ((wr.setCell ⟨w.heap.size + 1, 3, none⟩ (.int .i64 ((cntOf f 3 k : Int) + 1))).alloc (.cells #[.int .i64 3, .int .i64 (g k)] 27)) (w.heap.size + 1) (cntOf f 0 (k + 1)) (cntOf f 1 (k + 1)) (cntOf f 2 (k + 1)) (cntOf f 3 (k + 1)) (cntOf f 4 (k + 1)) := by
            rw [cnt_step f 0 k false (by rw [HX.out]; decide), cnt_step f 1 k false (by rw [HX.out]; decide), cnt_step f 2 k false (by rw [HX.out]; decide), cnt_step f 3 k true (by rw [HX.out]; decide), cnt_step f 4 k false (by rw [HX.out]; decide)]
            exact (hF1.set3).alloc _
          exact ⟨k + 1, by omega, by go_num, (hF0.far (by simp) _).alloc _, hN, (hB.setCell (by simp) _).alloc (by simpa [World.setCell] using hB.size) _⟩
        case measure => simp [intOf]; omega
      by_cases h4 : x = 4
      · subst h4
        have hT1 := hTr.below (box2 wr (.int .i64 4) (.int .i64 (g k)) 27) hTr.size
        go_wp2_with fail
        go_at_call 20; refine (least_step4 _ hT1).mono ?_; rintro e w1 ⟨rfl, rfl⟩
        go_wp2_with fail
        go_roundw
        case rel =>
          have hN : Five ((wr.setCell ⟨w.heap.size + 1, 4, none⟩ (.int .i64 ((cntOf f 4 k : Int) + 1))).alloc (.cells #[.int .i64 4, .int .i64 (g k)] 27)) (w.heap.size + 1) (cntOf f 0 (k + 1)) (cntOf f 1 (k + 1)) (cntOf f 2 (k + 1)) (cntOf f 3 (k + 1)) (cntOf f 4 (k + 1)) := by
            rw [cnt_step f 0 k false (by rw [HX.out]; decide), cnt_step f 1 k false (by rw [HX.out]; decide), cnt_step f 2 k false (by rw [HX.out]; decide), cnt_step f 3 k false (by rw [HX.out]; decide), cnt_step f 4 k true (by rw [HX.out]; decide)]
            exact (hF1.set4).alloc _
          exact ⟨k + 1, by omega, by go_num, (hF0.far (by simp) _).alloc _, hN, (hB.setCell (by simp) _).alloc (by simpa [World.setCell] using hB.size) _⟩
        case measure => simp [intOf]; omega
      have hT1 := hTr.below (box2 wr (.int .i64 x) (.int .i64 (g k)) 27) hTr.size
      have k0 : ofKind 0 x = true := by unfold ofKind; rw [decide_eq_true_iff]; omega
      have k1 : ofKind 1 x = false := by unfold ofKind; rw [decide_eq_false_iff_not]; omega
      have k2 : ofKind 2 x = false := by unfold ofKind; rw [decide_eq_false_iff_not]; omega
      have k3 : ofKind 3 x = false := by unfold ofKind; rw [decide_eq_false_iff_not]; omega
      have k4 : ofKind 4 x = false := by unfold ofKind; rw [decide_eq_false_iff_not]; omega
      have K : Hid (ofKind 0 x = true ∧ ofKind 1 x = false ∧ ofKind 2 x = false ∧ ofKind 3 x = false ∧ ofKind 4 x = false) := ⟨k0, k1, k2, k3, k4⟩
      clear k0 k1 k2 k3 k4
      go_wp2_with fail
      go_at_call 20; refine (least_none x _ hT1 (by simpa using Ne.symm h1) (by simpa using Ne.symm h2) (by simpa using Ne.symm h3) (by simpa using Ne.symm h4)).mono ?_; rintro e w1 ⟨rfl, rfl⟩
      go_wp2_with fail
      go_roundw
      case rel =>
        have hN : Five ((wr.setCell ⟨w.heap.size + 1, 0, none⟩ (.int .i64 ((cntOf f 0 k : Int) + 1))).alloc (.cells #[.int .i64 x, .int .i64 (g k)] 27)) (w.heap.size + 1) (cntOf f 0 (k + 1)) (cntOf f 1 (k + 1)) (cntOf f 2 (k + 1)) (cntOf f 3 (k + 1)) (cntOf f 4 (k + 1)) := by
          rw [cnt_step f 0 k true (by rw [HX.out]; exact K.out.1), cnt_step f 1 k false (by rw [HX.out]; exact K.out.2.1), cnt_step f 2 k false (by rw [HX.out]; exact K.out.2.2.1), cnt_step f 3 k false (by rw [HX.out]; exact K.out.2.2.2.1), cnt_step f 4 k false (by rw [HX.out]; exact K.out.2.2.2.2)]
          exact (hF1.set0).alloc _
        exact ⟨k + 1, by omega, by go_num, (hF0.far (by simp) _).alloc _, hN, (hB.setCell (by simp) _).alloc (by simpa [World.setCell] using hB.size) _⟩
      case measure => simp [intOf]; omega
    · obtain rfl : k = n := by omega
      have d0 := hF0.cell 0
      have d1 := hF0.cell 1
      have d2 := hF0.cell 2
      have d3 := hF0.cell 3
      have d4 := hF0.cell 4
      have y0 := hF0.frozen 0
      have y1 := hF0.frozen 1
      have y2 := hF0.frozen 2
      have y3 := hF0.frozen 3
      have y4 := hF0.frozen 4
      have s0 := cell_set hF0 0 (by decide) (.int .i64 (cntOf f 0 k))
      have s1 := cell_set hF0 1 (by decide) (.int .i64 (cntOf f 1 k))
      have s2 := cell_set hF0 2 (by decide) (.int .i64 (cntOf f 2 k))
      have s3 := cell_set hF0 3 (by decide) (.int .i64 (cntOf f 3 k))
      have s4 := cell_set hF0 4 (by decide) (.int .i64 (cntOf f 4 k))
      simp at c0 c1 c2 c3 c4 d0 d1 d2 d3 d4
      go_wp2_with fail
      refine bodyPost_ret (v := .agg #[.int .i64 (cntOf f 0 k), .int .i64 (cntOf f 1 k), .int .i64 (cntOf f 2 k), .int .i64 (cntOf f 3 k), .int .i64 (cntOf f 4 k)]) ?_ rfl ⟨rfl, ((((hB.setCell (Nat.le_refl _) _).setCell (Nat.le_refl _) _).setCell (Nat.le_refl _) _).setCell (Nat.le_refl _) _).setCell (Nat.le_refl _) _⟩
      have hW := heap_set (heap_set (heap_set (heap_set (heap_set hF0 0 (.int .i64 (cntOf f 0 k))) 1 (.int .i64 (cntOf f 1 k))) 2 (.int .i64 (cntOf f 2 k))) 3 (.int .i64 (cntOf f 3 k))) 4 (.int .i64 (cntOf f 4 k))
      have hF : Five (((((wr.setCell ⟨w.heap.size, 0, none⟩ (.int .i64 (cntOf f 0 k))).setCell ⟨w.heap.size, 1, none⟩ (.int .i64 (cntOf f 1 k))).setCell ⟨w.heap.size, 2, none⟩ (.int .i64 (cntOf f 2 k))).setCell ⟨w.heap.size, 3, none⟩ (.int .i64 (cntOf f 3 k))).setCell ⟨w.heap.size, 4, none⟩ (.int .i64 (cntOf f 4 k))) w.heap.size (cntOf f 0 k) (cntOf f 1 k) (cntOf f 2 k) (cntOf f 3 k) (cntOf f 4 k) := hW
      clear hW
      generalize (((((wr.setCell ⟨w.heap.size, 0, none⟩ (.int .i64 (cntOf f 0 k))).setCell ⟨w.heap.size, 1, none⟩ (.int .i64 (cntOf f 1 k))).setCell ⟨w.heap.size, 2, none⟩ (.int .i64 (cntOf f 2 k))).setCell ⟨w.heap.size, 3, none⟩ (.int .i64 (cntOf f 3 k))).setCell ⟨w.heap.size, 4, none⟩ (.int .i64 (cntOf f 4 k))) = w5 at hF ⊢
      have e0 := hF.cell 0
      have e1 := hF.cell 1
      have e2 := hF.cell 2
      have e3 := hF.cell 3
      have e4 := hF.cell 4
      simp at e0 e1 e2 e3 e4
      simp [results, Tryd.results16, go_sem, e0, e1, e2, e3, e4]
end Go.Proofs.YtlpfleefbngdaaaDoor
