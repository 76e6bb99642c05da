/- Parts, where each part is done ahead. -/
import Derived.Test.YtjbkhnolnlcjnaaChn5
namespace Go.Proofs.Ytjbkhnolnlcjnaa
open Go Go.RowKit
set_option linter.unusedVariables false
set_option maxRecDepth 100000
set_option linter.unusedSimpArgs false

/-- A part of which nothing is to be done. -/
def Idle (w : World) (B : Nat) (v : Value) : Prop := ∃ (E : Option Addr) (n cp : Nat) (L : Nat → Acc), v = .slice E n cp ∧ SeesC w B E n 6 (fun j => accC (L j)) ∧ n ≤ 1000 ∧ okL L n = []

set_option maxHeartbeats 2000000 in
theorem parts_idle (w : World) (b n cp : Nat) (who : Int) (P : Nat → Value) (hb : b < w.heap.size) (hn : n ≤ 1000) (hs : ∀ j, j < n → w.cell? ⟨b, j, none⟩ = some (P j)) (hP : ∀ j, j < n → Idle w w.heap.size (P j)) :
    Calls Try.prog 28 #[.int .i64 who, .slice (some ⟨b, 0, none⟩) n cp] w fun e w' => e = .returned (.pointer (some ⟨w.heap.size, 0, none⟩)) ∧ w'.cell? ⟨w.heap.size, 1, none⟩ = some (.pointer none) ∧ Below w.heap.size w w' := by
  have HS : Hid (∀ j, j < n → w.cell? ⟨b, j, none⟩ = some (P j)) := hs
  have HP : Hid (∀ j, j < n → Idle w w.heap.size (P j)) := hP
  have hB := Blk.new w (chCells 0 none (.slice none 0 0) (.slice none 0 0) (.slice none 0 0)) 107
  have hF := fof_any _ w.heap.size _ 107 who hB (by simp [chCells])
  have hb0 : Below w.heap.size w (w.alloc (.cells (chCells 0 none (.slice none 0 0) (.slice none 0 0) (.slice none 0 0)) 107)) := (Below.refl _ _).alloc (Nat.le_refl _) _
  clear hs hP
  go_enter Try.func28, Try.ntmps28
  go_wp2_with fail
  go_at_call 57; refine hF.mono ?_; rintro e w2 ⟨⟨v0, rfl⟩, hw2⟩
  have hM0 : Hid (Blk w2 w.heap.size (chCells who none (.slice none 0 0) (.slice none 0 0) (.slice none 0 0)) 107 ∧ Below w.heap.size w w2) := ⟨by rw [hw2]; exact hB.set 0 _, by rw [hw2]; exact hb0.setCell (p := ⟨w.heap.size, 0, none⟩) (Nat.le_refl _) _⟩
  clear hF hw2 hB hb0
  go_wp2_with fail
  go_loopw [18] (fun i wr => ∃ (k : Nat), k ≤ n ∧ i = .int .i64 k ∧ Hid (Blk wr w.heap.size (chCells who none (.slice none 0 0) (.slice none 0 0) (.slice none 0 0)) 107 ∧ Below w.heap.size w wr)) (fun i _ => n - (intOf i).toNat)
  case atStart => exact ⟨0, Nat.zero_le _, rfl, hM0⟩
  case round =>
    clear hM0
    obtain ⟨k, hk, rfl, HM⟩ := hrel
    by_cases hlt : k < n
    · obtain ⟨E, m, cm, L, hv, hSee, hm, hok⟩ := HP.out k hlt
      have hc : wr.cell? ⟨b, k, none⟩ = some (.slice E m cm) := by rw [← hv]; exact (HM.out.2.cell (p := ⟨b, k, none⟩) hb).trans (HS.out k hlt)
      have hk0 : (0 : Int) ≤ (k : Int) := Int.natCast_nonneg _
      have hk1 : (k : Int) < (n : Int) := by omega
      have hNw := chnew_any wr E m cm L who ((hSee.below HM.out.2 (Nat.le_refl _)).more HM.out.2.size) hm
      have Hok : Hid (okL L m = []) := hok
      clear hv hSee hok
      go_wp2_with fail
      go_at_call 16; refine hNw.mono ?_; rintro e w3 ⟨rfl, hNd, hBd⟩
      have hD := chain_done w3 wr.heap.size none (newed_nil hNd Hok.out)
      have HM3 : Hid (Blk w3 w.heap.size (chCells who none (.slice none 0 0) (.slice none 0 0) (.slice none 0 0)) 107 ∧ Below w.heap.size w w3) := ⟨HM.out.1.but (But.of_below (l := []) hBd) (by simp), seq HM.out.2 hBd⟩
      clear hNw hNd
      go_wp2_with fail
      go_at_call 20; refine hD.mono ?_; rintro e w4 ⟨rfl, rfl⟩
      clear hD
      go_wp2_with fail
      go_roundw
      case rel => exact ⟨k + 1, by omega, by go_num, HM3⟩
      case measure => simp [intOf]; omega
    · obtain rfl : k = n := by omega
      have hk1 : ¬ (k : Int) < (k : Int) := by omega
      have hGo := goOn_none wr w.heap.size who none none 0 none 0 _ HM.out.1
      go_wp2_with fail
      go_at_call 58; refine hGo.mono ?_; rintro e w5 ⟨⟨v, rfl⟩, rfl⟩
      clear hGo
      go_wp2_with fail
      go_ret
      exact ⟨rfl, HM.out.1.cell 1 rfl, HM.out.2⟩
end Go.Proofs.Ytjbkhnolnlcjnaa
