/- The contract of word.Write; the walks of the laws on one word. -/
import Derived.Test.YtlpfleefbngdaaaDoorWalks4
import Derived.Deep.RegionHeld3
namespace Go.Proofs.YtlpfleefbngdaaaDoor
open Go Go.RowKit
set_option linter.unusedSimpArgs false
set_option linter.unusedVariables false

theorem write_none (k o : Int) (w : World) (hT : Tab w) (h1 : ((1 : Int) == k) = false) (h2 : ((2 : Int) == k) = false) (h3 : ((3 : Int) == k) = false) (h4 : ((4 : Int) == k) = false) :
    Calls Tryd.prog 13 #[.agg #[.int .i64 k, .int .i64 o]] w fun e w' => e = .returned (.tuple #[.int .u64 0, .int .i64 1]) ∧ Below w.heap.size w w' := by
  have hT1 := hT.below (box2 w (.int .i64 k) (.int .i64 o) 27) hT.size
  go_enter Tryd.func13, Tryd.ntmps13
  go_wp2_with fail
  go_at_call 20; refine (least_none k _ hT1 h1 h2 h3 h4).mono ?_; rintro e w1 ⟨rfl, rfl⟩
  go_wp2_with fail
  go_ret2
  exact ⟨rfl, box2 _ _ _ _⟩

theorem write_1n (o : Int) (w : World) (hT : Tab w) (h : fitsB 1 o 256 = false) :
    Calls Tryd.prog 13 #[.agg #[.int .i64 1, .int .i64 o]] w fun e w' => e = .returned (.tuple #[.int .u64 0, .int .i64 5]) ∧ Below w.heap.size w w' := by
  have hT1 := hT.below (box2 w (.int .i64 1) (.int .i64 o) 27) hT.size
  have hB := box2 w (.int .i64 1) (.int .i64 o) 27
  go_enter Tryd.func13, Tryd.ntmps13
  go_wp2_with fail
  go_at_call 20; refine (least_step1 _ hT1).mono ?_; rintro e w1 ⟨rfl, rfl⟩
  go_wp2_with fail
  go_at_call 21; refine (fits_any _ _ _ _).mono ?_; rintro e w2 ⟨rfl, hb2⟩
  rw [h]
  have hE := hB.trans (hb2.mono hB.size)
  go_wp2_with fail
  go_ret2
  exact ⟨rfl, hE⟩
theorem write_1 (o : Int) (w : World) (hT : Tab w) (h : fitsB 1 o 256 = true) (h0 : 0 ≤ o) (h1 : o ≤ 255) :
    Calls Tryd.prog 13 #[.agg #[.int .i64 1, .int .i64 o]] w fun e w' => e = .returned (.tuple #[.int .u64 (o * 8 + 0), .int .i64 0]) ∧ Below w.heap.size w w' := by
  have hT1 := hT.below (box2 w (.int .i64 1) (.int .i64 o) 27) hT.size
  have hB := box2 w (.int .i64 1) (.int .i64 o) 27
  go_enter Tryd.func13, Tryd.ntmps13
  go_wp2_with fail
  go_at_call 20; refine (least_step1 _ hT1).mono ?_; rintro e w1 ⟨rfl, rfl⟩
  go_wp2_with fail
  go_at_call 21; refine (fits_any _ _ _ _).mono ?_; rintro e w2 ⟨rfl, hb2⟩
  rw [h]
  have hE := hB.trans (hb2.mono hB.size)
  have hc : w2.cell? ⟨w.heap.size, 1, none⟩ = some (.int .i64 o) := by
    rw [hb2.cell (p := ⟨w.heap.size, 1, none⟩) (by simp [go_sem])]; simp [go_sem]
  go_wp2_with fail
  go_ret2
  exact ⟨by first | rfl | (simp; done), hE⟩
theorem write_2n (o : Int) (w : World) (hT : Tab w) (h : fitsB 2 o 256 = false) :
    Calls Tryd.prog 13 #[.agg #[.int .i64 2, .int .i64 o]] w fun e w' => e = .returned (.tuple #[.int .u64 0, .int .i64 5]) ∧ Below w.heap.size w w' := by
  have hT1 := hT.below (box2 w (.int .i64 2) (.int .i64 o) 27) hT.size
  have hB := box2 w (.int .i64 2) (.int .i64 o) 27
  go_enter Tryd.func13, Tryd.ntmps13
  go_wp2_with fail
  go_at_call 20; refine (least_step2 _ hT1).mono ?_; rintro e w1 ⟨rfl, rfl⟩
  go_wp2_with fail
  go_at_call 21; refine (fits_any _ _ _ _).mono ?_; rintro e w2 ⟨rfl, hb2⟩
  rw [h]
  have hE := hB.trans (hb2.mono hB.size)
  go_wp2_with fail
  go_ret2
  exact ⟨rfl, hE⟩
theorem write_2 (o : Int) (w : World) (hT : Tab w) (h : fitsB 2 o 256 = true) (h0 : 0 ≤ o) (h1 : o ≤ 255) :
    Calls Tryd.prog 13 #[.agg #[.int .i64 2, .int .i64 o]] w fun e w' => e = .returned (.tuple #[.int .u64 (o * 8 + 4), .int .i64 0]) ∧ Below w.heap.size w w' := by
  have hT1 := hT.below (box2 w (.int .i64 2) (.int .i64 o) 27) hT.size
  have hB := box2 w (.int .i64 2) (.int .i64 o) 27
  go_enter Tryd.func13, Tryd.ntmps13
  go_wp2_with fail
  go_at_call 20; refine (least_step2 _ hT1).mono ?_; rintro e w1 ⟨rfl, rfl⟩
  go_wp2_with fail
  go_at_call 21; refine (fits_any _ _ _ _).mono ?_; rintro e w2 ⟨rfl, hb2⟩
  rw [h]
  have hE := hB.trans (hb2.mono hB.size)
  have hc : w2.cell? ⟨w.heap.size, 1, none⟩ = some (.int .i64 o) := by
    rw [hb2.cell (p := ⟨w.heap.size, 1, none⟩) (by simp [go_sem])]; simp [go_sem]
  go_wp2_with fail
  go_ret2
  exact ⟨by first | rfl | (simp; done), hE⟩
theorem write_3n (o : Int) (w : World) (hT : Tab w) (h : fitsB 3 o 256 = false) :
    Calls Tryd.prog 13 #[.agg #[.int .i64 3, .int .i64 o]] w fun e w' => e = .returned (.tuple #[.int .u64 0, .int .i64 5]) ∧ Below w.heap.size w w' := by
  have hT1 := hT.below (box2 w (.int .i64 3) (.int .i64 o) 27) hT.size
  have hB := box2 w (.int .i64 3) (.int .i64 o) 27
  go_enter Tryd.func13, Tryd.ntmps13
  go_wp2_with fail
  go_at_call 20; refine (least_step3 _ hT1).mono ?_; rintro e w1 ⟨rfl, rfl⟩
  go_wp2_with fail
  go_at_call 21; refine (fits_any _ _ _ _).mono ?_; rintro e w2 ⟨rfl, hb2⟩
  rw [h]
  have hE := hB.trans (hb2.mono hB.size)
  go_wp2_with fail
  go_ret2
  exact ⟨rfl, hE⟩
theorem write_3 (o : Int) (w : World) (hT : Tab w) (h : fitsB 3 o 256 = true) (h0 : 0 ≤ o) (h1 : o ≤ 255) :
    Calls Tryd.prog 13 #[.agg #[.int .i64 3, .int .i64 o]] w fun e w' => e = .returned (.tuple #[.int .u64 (o * 8 + 5), .int .i64 0]) ∧ Below w.heap.size w w' := by
  have hT1 := hT.below (box2 w (.int .i64 3) (.int .i64 o) 27) hT.size
  have hB := box2 w (.int .i64 3) (.int .i64 o) 27
  go_enter Tryd.func13, Tryd.ntmps13
  go_wp2_with fail
  go_at_call 20; refine (least_step3 _ hT1).mono ?_; rintro e w1 ⟨rfl, rfl⟩
  go_wp2_with fail
  go_at_call 21; refine (fits_any _ _ _ _).mono ?_; rintro e w2 ⟨rfl, hb2⟩
  rw [h]
  have hE := hB.trans (hb2.mono hB.size)
  have hc : w2.cell? ⟨w.heap.size, 1, none⟩ = some (.int .i64 o) := by
    rw [hb2.cell (p := ⟨w.heap.size, 1, none⟩) (by simp [go_sem])]; simp [go_sem]
  go_wp2_with fail
  go_ret2
  exact ⟨by first | rfl | (simp; done), hE⟩
theorem write_4n (o : Int) (w : World) (hT : Tab w) (h : fitsB 4 o 256 = false) :
    Calls Tryd.prog 13 #[.agg #[.int .i64 4, .int .i64 o]] w fun e w' => e = .returned (.tuple #[.int .u64 0, .int .i64 5]) ∧ Below w.heap.size w w' := by
  have hT1 := hT.below (box2 w (.int .i64 4) (.int .i64 o) 27) hT.size
  have hB := box2 w (.int .i64 4) (.int .i64 o) 27
  go_enter Tryd.func13, Tryd.ntmps13
  go_wp2_with fail
  go_at_call 20; refine (least_step4 _ hT1).mono ?_; rintro e w1 ⟨rfl, rfl⟩
  go_wp2_with fail
  go_at_call 21; refine (fits_any _ _ _ _).mono ?_; rintro e w2 ⟨rfl, hb2⟩
  rw [h]
  have hE := hB.trans (hb2.mono hB.size)
  go_wp2_with fail
  go_ret2
  exact ⟨rfl, hE⟩
theorem write_4 (o : Int) (w : World) (hT : Tab w) (h : fitsB 4 o 256 = true) (h0 : 0 ≤ o) (h1 : o ≤ 255) :
    Calls Tryd.prog 13 #[.agg #[.int .i64 4, .int .i64 o]] w fun e w' => e = .returned (.tuple #[.int .u64 (o * 8 + 6), .int .i64 0]) ∧ Below w.heap.size w w' := by
  have hT1 := hT.below (box2 w (.int .i64 4) (.int .i64 o) 27) hT.size
  have hB := box2 w (.int .i64 4) (.int .i64 o) 27
  go_enter Tryd.func13, Tryd.ntmps13
  go_wp2_with fail
  go_at_call 20; refine (least_step4 _ hT1).mono ?_; rintro e w1 ⟨rfl, rfl⟩
  go_wp2_with fail
  go_at_call 21; refine (fits_any _ _ _ _).mono ?_; rintro e w2 ⟨rfl, hb2⟩
  rw [h]
  have hE := hB.trans (hb2.mono hB.size)
  have hc : w2.cell? ⟨w.heap.size, 1, none⟩ = some (.int .i64 o) := by
    rw [hb2.cell (p := ⟨w.heap.size, 1, none⟩) (by simp [go_sem])]; simp [go_sem]
  go_wp2_with fail
  go_ret2
  exact ⟨by first | rfl | (simp; done), hE⟩

end Go.Proofs.YtlpfleefbngdaaaDoor
