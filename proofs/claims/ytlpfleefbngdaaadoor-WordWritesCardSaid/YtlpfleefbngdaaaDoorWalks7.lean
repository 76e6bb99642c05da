/- The law WordWrites, its ways put together. -/
import Derived.Test.YtlpfleefbngdaaaDoorWalks6
namespace Go.Proofs.YtlpfleefbngdaaaDoor
open Go Go.RowKit

theorem thr256 : thr 256 = 256 := by decide
theorem back (k o c : Int) (h0 : 0 ≤ o) (h1 : o ≤ 255) (hc : (k = 1 ∧ c = 0) ∨ (k = 4 ∧ c = 6) ∨ (k = 2 ∧ c = 4 ∧ o = 0) ∨ (k = 3 ∧ c = 5 ∧ o = 0)) : kindV (o * 8 + c) = k ∧ whoV (o * 8 + c) 256 = o := by
  unfold kindV whoV
  rw [thr256]
  rcases hc with ⟨rfl, rfl⟩ | ⟨rfl, rfl⟩ | ⟨rfl, rfl, rfl⟩ | ⟨rfl, rfl, rfl⟩
  · have h : (o * 8 + 0) % 8 = 0 := by omega
    have h2 : (o * 8 + 0) / 8 = o := by omega
    rw [h, h2]; exact ⟨by decide, by simp; omega⟩
  · have h : (o * 8 + 6) % 8 = 6 := by omega
    have h2 : (o * 8 + 6) / 8 = o := by omega
    rw [h, h2]; exact ⟨by decide, by simp; omega⟩
  · exact ⟨by decide, by decide⟩
  · exact ⟨by decide, by decide⟩

theorem no_less (k o c y : Int) (y0 : 0 ≤ y) (h0 : 0 ≤ o) (h1 : o ≤ 255) (hc : (k = 1 ∧ c = 0) ∨ (k = 4 ∧ c = 6) ∨ (k = 2 ∧ c = 4 ∧ o = 0) ∨ (k = 3 ∧ c = 5 ∧ o = 0)) (hy : y < o * 8 + c) :
    (kindV y == k) = false ∨ (whoV y 256 == o) = false := by
  by_cases hk : kindV y = k
  · right
    have hw : ¬ whoV y 256 = o := by
      revert hk
      unfold kindV whoV
      rw [thr256]
      by_cases a : y % 8 < 4
      · rw [if_pos a, if_pos (Or.inl a)]; omega
      · by_cases b : y % 8 = 5
        · rw [if_neg a, if_pos b]; omega
        · by_cases d : y % 8 = 6
          · rw [if_neg a, if_neg b, if_pos d, if_pos (Or.inr d)]; omega
          · rw [if_neg a, if_neg b, if_neg d]; omega
    simpa using hw
  · left; simpa using hk

theorem wordWrites_at (k o c y : Int) (w : World) (hT : Tab w) (y0 : 0 ≤ y) (y1 : y ≤ 18446744073709551615) (h0 : 0 ≤ o) (h1 : o ≤ 255) (hc : (k = 1 ∧ c = 0) ∨ (k = 4 ∧ c = 6) ∨ (k = 2 ∧ c = 4 ∧ o = 0) ∨ (k = 3 ∧ c = 5 ∧ o = 0))
    (HW : Hid (∀ w, Tab w → Calls Tryd.prog 13 #[.agg #[.int .i64 k, .int .i64 o]] w fun e w' => e = .returned (.tuple #[.int .u64 (o * 8 + c), .int .i64 0]) ∧ Below w.heap.size w w')) (HR : Hid (rightB k o 256 = true)) :
    Calls Tryd.prog 5 #[.agg #[.int .i64 k, .int .i64 o], .int .u64 y] w fun e w' => e = .returned (.bool true) ∧ Below w.heap.size w w' := by
  have hb := back k o c h0 h1 hc
  refine wordWrites_ok k o y (o * 8 + c) w hT (by omega) (by omega) y0 y1 (by omega) (by omega) (kindV y) (whoV y 256) HW HR ?_ ?_ ?_
  · intro w hT
    have := read_any (o * 8 + c) 256 w hT (by omega) (by omega)
    unfold entV at this
    rw [hb.1, hb.2] at this
    exact this
  · intro w
    exact refRead_any y 256 w y0 y1
  · intro hy
    exact no_less k o c y y0 h0 h1 hc hy

theorem wordWrites_walk (k o y : Int) (w : World) (hT : Tab w) (y0 : 0 ≤ y) (y1 : y ≤ 18446744073709551615) :
    Calls Tryd.prog 5 #[.agg #[.int .i64 k, .int .i64 o], .int .u64 y] w fun e w' => e = .returned (.bool true) ∧ Below w.heap.size w w' := by
  by_cases hk : k < 1 ∨ 4 < k
  · exact wordWrites_none k o y w hT hk
  have h4 : k = 1 ∨ k = 2 ∨ k = 3 ∨ k = 4 := by omega
  have hf : fitsB k o 256 = rightB k o 256 := by unfold fitsB rightB; rw [thr256, decide_eq_decide]; omega
  by_cases hr : fitsB k o 256 = true
  · have hb : 0 ≤ o ∧ o ≤ 255 ∧ ((k = 2 ∨ k = 3) → o = 0) := by
      unfold fitsB at hr; rw [decide_eq_true_iff] at hr; omega
    rcases h4 with rfl | rfl | rfl | rfl
    · exact wordWrites_at 1 o 0 y w hT y0 y1 hb.1 hb.2.1 (by omega) (fun w hT => write_1 o w hT hr hb.1 hb.2.1) (hf.symm.trans hr)
    · exact wordWrites_at 2 o 4 y w hT y0 y1 hb.1 hb.2.1 (by omega) (fun w hT => write_2 o w hT hr hb.1 hb.2.1) (hf.symm.trans hr)
    · exact wordWrites_at 3 o 5 y w hT y0 y1 hb.1 hb.2.1 (by omega) (fun w hT => write_3 o w hT hr hb.1 hb.2.1) (hf.symm.trans hr)
    · exact wordWrites_at 4 o 6 y w hT y0 y1 hb.1 hb.2.1 (by omega) (fun w hT => write_4 o w hT hr hb.1 hb.2.1) (hf.symm.trans hr)
  · have hr : fitsB k o 256 = false := by simpa using hr
    rcases h4 with rfl | rfl | rfl | rfl
    · exact wordWrites_far 1 o y w hT (by omega) (by omega) (fun w hT => write_1n o w hT hr) (hf.symm.trans hr)
    · exact wordWrites_far 2 o y w hT (by omega) (by omega) (fun w hT => write_2n o w hT hr) (hf.symm.trans hr)
    · exact wordWrites_far 3 o y w hT (by omega) (by omega) (fun w hT => write_3n o w hT hr) (hf.symm.trans hr)
    · exact wordWrites_far 4 o y w hT (by omega) (by omega) (fun w hT => write_4n o w hT hr) (hf.symm.trans hr)

end Go.Proofs.YtlpfleefbngdaaaDoor
