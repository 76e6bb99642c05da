/- Arenas: what a goroutine does. -/
import Derived.Test.YtlnjjcfkcoaceaaGoro1
namespace Go.Proofs.Ytlnjjcfkcoaceaa
open Go Go.RowKit
set_option linter.unusedVariables false
set_option maxRecDepth 100000
set_option linter.unusedSimpArgs false


theorem upP_upP (P : Nat → Pl) (j : Nat) (q q' : Pl) : upP (upP P j q) j q' = upP P j q' := by
  funext k
  unfold upP
  split <;> simp_all
theorem upP_at (P : Nat → Pl) (j : Nat) (q : Pl) : upP P j q j = q := by unfold upP; simp
theorem upP_same (P : Nat → Pl) (j : Nat) : upP P j (P j) = P := by
  funext k
  unfold upP
  split
  · simp_all
  · rfl
def plPass (q : Pl) : Pl := ⟨q.p, q.a + 1, q.l, q.b⟩
def plLeft (q : Pl) (a : Int) : Int := (if q.l = 0 then a else q.l) - 1
def plComp (q : Pl) (a : Int) : Pl := if plLeft q a = 0 then ⟨q.p, q.a + 1, 0, q.b⟩ else ⟨q.p, q.a, plLeft q a, q.b⟩
def plNext (q : Pl) (k a : Int) : Pl := if k = 0 then q else if k = 1 then plComp q a else plPass q

section
variable (w : World) (x g c n : Nat) (P : Nat → Pl) (h : Ar w x g c n P) (j : Nat) (hj : j < n) (hn : n ≤ 65536)
include h hj

omit h hj in
theorem gstay_any (k a : Int) : Calls Try.prog 141 #[.pointer (some ⟨g, j * 4, none⟩), .agg #[.int .i64 k, .int .i64 a]] w fun e w' => (∃ v, e = .returned v) ∧ Below w.heap.size w w' := by
  have hb : Below w.heap.size w (w.alloc (.cells #[.int .i64 k, .int .i64 a] 90)) := (Below.refl _ _).alloc (Nat.le_refl _) _
  go_enter Try.func141, Try.ntmps141
  go_wp2_with fail
  go_end0
  exact ⟨⟨_, rfl⟩, hb⟩
theorem gpass_any (k a : Int) (hq : 0 ≤ (P j).a ∧ (P j).a ≤ 1000000) : Calls Try.prog 143 #[.pointer (some ⟨g, j * 4, none⟩), .agg #[.int .i64 k, .int .i64 a]] w fun e w' => (∃ v, e = .returned v) ∧ Ar w' x g c n (upP P j (plPass (P j))) ∧ But [g] w w' := by
  have hb : Below w.heap.size w (w.alloc (.cells #[.int .i64 k, .int .i64 a] 90)) := (Below.refl _ _).alloc (Nat.le_refl _) _
  have h1 := h.below hb
  obtain ⟨p0, p1, p2, p3⟩ := h1.place hj
  have f1 := h1.fro (j * 4 + 1)
  have hW : wrap64 ((P j).a + 1) = (P j).a + 1 := by unfold wrap64; omega
  have HA : Hid (Ar ((w.alloc (.cells #[.int .i64 k, .int .i64 a] 90)).setCell ⟨g, j * 4 + 1, none⟩ (.int .i64 ((P j).a + 1))) x g c n (upP P j (plPass (P j))) ∧ But [g] w ((w.alloc (.cells #[.int .i64 k, .int .i64 a] 90)).setCell ⟨g, j * 4 + 1, none⟩ (.int .i64 ((P j).a + 1)))) :=
    ⟨h1.put hj 1 (by omega) _ _ rfl, (But.of_below (l := [g]) hb).set (g := g) (.inl (by simp)) _ _⟩
  clear h h1 hb
  go_enter Try.func143, Try.ntmps143
  go_wp2_with fail
  go_end0
  first
    | exact ⟨⟨_, rfl⟩, HA.out⟩
    | (rw [hW]; exact ⟨⟨_, rfl⟩, HA.out⟩)
theorem gcomp_any (k a : Int) (ha : 1 ≤ a ∧ a ≤ 65536) (hq : (0 ≤ (P j).a ∧ (P j).a ≤ 1000000) ∧ 0 ≤ (P j).l ∧ (P j).l ≤ 65536) : Calls Try.prog 142 #[.pointer (some ⟨g, j * 4, none⟩), .agg #[.int .i64 k, .int .i64 a]] w fun e w' => (∃ v, e = .returned v) ∧ Ar w' x g c n (upP P j (plComp (P j) a)) ∧ But [g] w w' := by
  have hb : Below w.heap.size w (w.alloc (.cells #[.int .i64 k, .int .i64 a] 90)) := (Below.refl _ _).alloc (Nat.le_refl _) _
  have hX : Blk (w.alloc (.cells #[.int .i64 k, .int .i64 a] 90)) w.heap.size #[.int .i64 k, .int .i64 a] 90 := Blk.new _ _ _
  have hglt := h.glt
  have h1 := h.below hb
  obtain ⟨p0, p1, p2, p3⟩ := h1.place hj
  have f2 := h1.fro (j * 4 + 2)
  have b1 := hX.cell 1 (v := .int .i64 a) rfl
  have b0 := hX.cell 0 (v := .int .i64 k) rfl
  have hBW : But [g] w (w.alloc (.cells #[.int .i64 k, .int .i64 a] 90)) := But.of_below hb
  clear hb h
  -- the stores
  have mk : ∀ v, Ar ((w.alloc (.cells #[.int .i64 k, .int .i64 a] 90)).setCell ⟨g, j * 4 + 2, none⟩ (.int .i64 v)) x g c n (upP P j ⟨(P j).p, (P j).a, v, (P j).b⟩) := fun v => h1.put hj 2 (by omega) _ _ rfl
  have mk2 : ∀ u v, Ar (((w.alloc (.cells #[.int .i64 k, .int .i64 a] 90)).setCell ⟨g, j * 4 + 2, none⟩ (.int .i64 u)).setCell ⟨g, j * 4 + 2, none⟩ (.int .i64 v)) x g c n (upP P j ⟨(P j).p, (P j).a, v, (P j).b⟩) := fun u v => by
    have := (mk u).put hj 2 (by omega) (.int .i64 v) ⟨(P j).p, (P j).a, v, (P j).b⟩ (by rw [upP_at]; rfl)
    rwa [upP_upP] at this
  have HM1 : Hid (∀ v, Ar ((w.alloc (.cells #[.int .i64 k, .int .i64 a] 90)).setCell ⟨g, j * 4 + 2, none⟩ (.int .i64 v)) x g c n (upP P j ⟨(P j).p, (P j).a, v, (P j).b⟩) ∧ But [g] w ((w.alloc (.cells #[.int .i64 k, .int .i64 a] 90)).setCell ⟨g, j * 4 + 2, none⟩ (.int .i64 v))) := fun v => ⟨mk v, hBW.set (g := g) (.inl (by simp)) _ _⟩
  have HM2 : Hid (∀ u v, Ar (((w.alloc (.cells #[.int .i64 k, .int .i64 a] 90)).setCell ⟨g, j * 4 + 2, none⟩ (.int .i64 u)).setCell ⟨g, j * 4 + 2, none⟩ (.int .i64 v)) x g c n (upP P j ⟨(P j).p, (P j).a, v, (P j).b⟩) ∧ But [g] w (((w.alloc (.cells #[.int .i64 k, .int .i64 a] 90)).setCell ⟨g, j * 4 + 2, none⟩ (.int .i64 u)).setCell ⟨g, j * 4 + 2, none⟩ (.int .i64 v))) := fun u v => ⟨mk2 u v, (hBW.set (g := g) (.inl (by simp)) _ _).set (g := g) (.inl (by simp)) _ _⟩
  clear mk mk2 hBW h1
  have hgne : w.heap.size ≠ g := by omega
  have hgne2 : g ≠ w.heap.size := by omega
  clear hglt hX
  by_cases hl : (P j).l = 0
  · rw [hl] at p2
    have eL : plLeft (P j) a = a - 1 := by simp [plLeft, hl]
    have w1 : wrap64 (a - 1) = a - 1 := by unfold wrap64; omega
    by_cases hz : a = 1
    · subst hz
      have eC : plComp (P j) 1 = plPass ⟨(P j).p, (P j).a, 0, (P j).b⟩ := by simp [plComp, eL, plPass]
      rw [eC]
      have hP := fun k' => gpass_any _ x g c n _ (HM2.out 1 0).1 j hj k' 1 (by rw [upP_at]; exact hq.1)
      rw [upP_at, upP_upP] at hP
      go_enter Try.func142, Try.ntmps142
      go_wp2_with fail
      go_at_call 143; refine (hP _).mono ?_; rintro e w1 ⟨⟨v, rfl⟩, h2, h3⟩
      have h4 := (HM2.out 1 0).2.trans h3
      go_wp2_with fail
      go_end0
      exact ⟨⟨_, rfl⟩, h2, h4⟩
    · have d : decide (a - 1 = 0) = false := decide_eq_false (by omega)
      have eC : plComp (P j) a = ⟨(P j).p, (P j).a, a - 1, (P j).b⟩ := by unfold plComp; rw [eL, if_neg (by omega)]
      rw [eC]
      go_enter Try.func142, Try.ntmps142
      go_wp2_with fail
      go_end0
      exact ⟨⟨_, rfl⟩, HM2.out _ _⟩
  · have dl : decide ((P j).l = 0) = false := decide_eq_false hl
    have eL : plLeft (P j) a = (P j).l - 1 := by simp [plLeft, hl]
    have w1 : wrap64 ((P j).l - 1) = (P j).l - 1 := by unfold wrap64; omega
    by_cases hz : (P j).l = 1
    · have eC : plComp (P j) a = plPass ⟨(P j).p, (P j).a, 0, (P j).b⟩ := by simp [plComp, eL, plPass, hz]
      rw [eC]
      rw [hz] at p2
      have hP := fun k' a' => gpass_any _ x g c n _ (HM1.out 0).1 j hj k' a' (by rw [upP_at]; exact hq.1)
      rw [upP_at, upP_upP] at hP
      clear eC eL w1 dl hz
      go_enter Try.func142, Try.ntmps142
      go_wp2_with fail
      go_at_call 143; refine (hP _ _).mono ?_; rintro e w1 ⟨⟨v, rfl⟩, h2, h3⟩
      have h4 := (HM1.out 0).2.trans h3
      go_wp2_with fail
      go_end0
      exact ⟨⟨_, rfl⟩, h2, h4⟩
    · have d : decide ((P j).l - 1 = 0) = false := decide_eq_false (by omega)
      have eC : plComp (P j) a = ⟨(P j).p, (P j).a, (P j).l - 1, (P j).b⟩ := by unfold plComp; rw [eL, if_neg (by omega)]
      rw [eC]
      go_enter Try.func142, Try.ntmps142
      go_wp2_with fail
      go_end0
      exact ⟨⟨_, rfl⟩, HM1.out _⟩
end

end Go.Proofs.Ytlnjjcfkcoaceaa
