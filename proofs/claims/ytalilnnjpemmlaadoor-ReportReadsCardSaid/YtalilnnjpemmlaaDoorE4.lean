/- report.Read of any text; the page's example. -/
import Derived.Test.YtalilnnjpemmlaaDoorE3
namespace Go.Proofs.YtalilnnjpemmlaaDoor
open Go Go.RowKit
set_option linter.unusedVariables false
set_option linter.unusedSimpArgs false

theorem own_base {X : World} {B B' : Nat} {v : Value} {k : Nat} {xs : List Value} (h : X.ownsRow B 25 5 v k xs) (hB : B' ≤ B) : X.ownsRow B' 25 5 v k xs := by
  refine ⟨h.1, ?_⟩
  rcases h.2 with hn | ⟨g, cap, cur, e, hg, hr⟩
  · exact Or.inl hn
  · exact Or.inr ⟨g, cap, cur, e, Nat.le_trans hB hg, hr⟩
/-- what Read answers -/
def RdP (s : List UInt8) (w : World) (e : Ending) (w' : World) : Prop :=
  Below w.heap.size w w' ∧ ((∃ m A cp, rdt s = some m ∧ e = .returned (.tuple #[.slice A m.length cp, .int .i64 0]) ∧ w'.ownsRow w.heap.size 25 5 (.slice A m.length cp) m.length (flat m)) ∨ (rdt s = none ∧ e = .returned (.tuple #[.slice none 0 0, .int .i64 3])))

set_option maxRecDepth 100000 in
theorem read_any (s : List UInt8) (hs : s.length ≤ 4194304) (w : World) (hT : Tab w) : Calls Tryd.prog 15 #[.string (bA s)] w (RdP s w) := by
  have h4 := hT.size
  have B0 := (Below.refl w.heap.size w).alloc (Nat.le_refl _) (.cells #[.slice none 0 0] 22)
  have s0 := size_al w (.cells #[.slice none 0 0] 22)
  have HE := Lib.hid (callsIn_wide.1 (each_in s hs (w.alloc (.cells #[.slice none 0 0] 22)) (hT.below B0 h4) w.heap.size (heap_alloc_new _ _) h4))
  have hz := bA_size s
  have hle : ¬ (4194304 : Int) < ((bA s).size : Int) := by rw [hz]; omega
  clear hT
  generalize bA s = S at *
  go_enter Tryd.func15, Tryd.ntmps15
  go_wp2_with fail
  go_at_call 23
  generalize (w.alloc (.cells #[.slice none 0 0] 22)) = W at *
  refine HE.out.mono ?_
  rintro e w1 ⟨hk, (⟨m, hm, rfl, hA⟩ | ⟨hm, rfl⟩)⟩
  · obtain ⟨A, cp, hb, how, hlt⟩ := hA
    have hc := cell_blk hb 0
    have HP : Hid (Below w.heap.size w w1 ∧ w1.ownsRow w.heap.size 25 5 (.slice A m.length cp) m.length (flat m)) := ⟨B0.trans (hk.below (by intro k hk; omega) (by omega)), own_base how (by omega)⟩
    clear hb how hlt hk B0 HE
    go_wp2
    go_ret2
    exact ⟨HP.out.1, .inl ⟨m, A, cp, hm, rfl, HP.out.2⟩⟩
  · have HP : Hid (Below w.heap.size w w1) := B0.trans (hk.below (by intro k hk; omega) (by omega))
    clear hk B0 HE
    go_wp2
    go_ret2
    exact ⟨HP.out, .inr ⟨hm, rfl⟩⟩

theorem text0 : wr [⟨2, 0, 3, 1, 0⟩] = [115, 112, 97, 119, 110, 32, 103, 48, 32, 103, 51, 32, 116, 49, 32, 112, 48, 10] := by
  simp [wr, ln, pt, kw, Lib.decDigits_one]
theorem rdt0 : rdt [115, 112, 97, 119, 110, 32, 103, 48, 32, 103, 51, 32, 116, 49, 32, 112, 48, 10] = some [⟨2, 0, 3, 1, 0⟩] := by
  rw [← text0]
  exact rdt_wr (by intro e he; rw [List.mem_singleton] at he; subst he; decide) (by decide)

set_option maxRecDepth 100000 in
theorem awake_any (w : World) (hT : Tab w) : Calls Tryd.prog 7 #[] w fun e w' => e = .returned (.bool true) ∧ Below w.heap.size w w' := by
  have HR : Hid (Calls Tryd.prog 15 #[.string ⟨#[115, 112, 97, 119, 110, 32, 103, 48, 32, 103, 51, 32, 116, 49, 32, 112, 48, 10]⟩] w (RdP [115, 112, 97, 119, 110, 32, 103, 48, 32, 103, 51, 32, 116, 49, 32, 112, 48, 10] w)) := read_any _ (by decide) w hT
  have hr := rdt0
  clear hT
  go_enter Tryd.func7, Tryd.ntmps7
  go_wp2_with fail
  go_at_call 15
  refine HR.out.mono ?_
  rintro e w1 ⟨hb, (⟨m, A, cp, hm, rfl, how⟩ | ⟨hm, rfl⟩)⟩
  · rw [hr] at hm
    cases hm
    obtain ⟨g, hg, hs⟩ := row_sees how
    obtain ⟨off, rfl, hc⟩ := hs (by simp)
    have c0 := hc 0 0 (by simp) (by omega)
    have c1 := hc 0 1 (by simp) (by omega)
    have c2 := hc 0 2 (by simp) (by omega)
    have c3 := hc 0 3 (by simp) (by omega)
    have c4 := hc 0 4 (by simp) (by omega)
    simp only [at_, Ev.f, List.getD_cons_zero, Nat.zero_mul, Nat.add_zero] at c0 c1 c2 c3 c4
    have HB := Lib.hid hb
    clear hb how hs hc hr HR
    go_wp2
    go_ret
    exact ⟨rfl, HB.out⟩
  · rw [hr] at hm; cases hm
end Go.Proofs.YtalilnnjpemmlaaDoor
