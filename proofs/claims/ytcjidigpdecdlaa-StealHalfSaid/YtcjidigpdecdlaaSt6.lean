/- The machine that steals: how it begins; which goroutine it is. -/
import Derived.Test.YtcjidigpdecdlaaSt5
namespace Go.Proofs.Ytcjidigpdecdlaa
open Go Go.RowKit
set_option linter.unusedVariables false
set_option maxRecDepth 100000
set_option linter.unusedSimpArgs false

def stD0 : StD := ⟨0, 0, 0, List.replicate 128 0, 0, 0, false, 0⟩
theorem stD0_ok : stD0.Ok := ⟨by simp [stD0], by constructor <;> simp [stD0], by constructor <;> simp [stD0], by constructor <;> simp [stD0]⟩
def stZ (nx : Option Addr) (who p fr : Int) (la : Bool) (cl : Nat) : Array Value := stC who nx cl p fr la stD0
theorem st_zero (p fr : Int) (la : Bool) (cl : Nat) : (((Try.zeroCells66.setIfInBounds 2 (.pointer (some ⟨cl, 0, none⟩))).setIfInBounds 3 (.int .i64 p)).setIfInBounds 4 (.int .i64 fr)).setIfInBounds 5 (.bool la) = stZ none 0 p fr la cl := by kernel_rfl
theorem st_zset (who p fr : Int) (la : Bool) (cl : Nat) (nx : Option Addr) : (stZ nx 0 p fr la cl).setIfInBounds 0 (.int .i64 who) = stZ nx who p fr la cl := by simp [stZ, stC]
theorem st_new (w : World) (cl : Nat) (who p fr P T G : Int) (la : Bool) (hl : Lay w cl P T G) (hP : 0 ≤ P ∧ P ≤ 64) :
    Calls Try.prog 6 #[.pointer (some ⟨cl, 0, none⟩), .int .i64 who, .int .i64 p, .int .i64 fr, .bool la] w fun e w' => ∃ x L, e = .returned (.pointer (some ⟨x, 0, none⟩)) ∧ (stFl who cl p fr la).I (stPM P p fr la) w' x (.t0 stD0) L ∧ Below w.heap.size w w' ∧ (∀ k ∈ L, w.heap.size ≤ k) := by
  have hB : Blk (w.alloc (.cells (stZ none 0 p fr la cl) 66)) w.heap.size (stZ none 0 p fr la cl) 66 := Blk.new _ _ _
  have hb : Below w.heap.size w (w.alloc (.cells (stZ none 0 p fr la cl) 66)) := (Below.refl _ _).alloc (Nat.le_refl _) _
  have hF := fof_any _ w.heap.size _ 66 who hB (by simp [stZ, stC])
  have HH : Hid (Blk _ w.heap.size _ 66 ∧ Below w.heap.size w _) := ⟨hB, hb⟩
  have hsz := World.size_alloc w (.cells (stZ none 0 p fr la cl) 66)
  have HLY : Hid (Lay w cl P T G) := hl
  clear hB hb hl
  go_enter Try.func6, Try.ntmps6
  go_wp2_with fail
  rw [st_zero p fr la cl]
  generalize w.alloc (.cells (stZ none 0 p fr la cl) 66) = W at *
  go_at_call 20; refine hF.mono ?_; rintro e w3 ⟨⟨v, rfl⟩, hw3⟩
  have h3 : Blk w3 w.heap.size (stZ none who p fr la cl) 66 := by
    rw [hw3]
    have := HH.out.1.set 0 (.int .i64 who)
    rw [st_zset who p fr la cl none] at this
    exact this
  have hb3 : Hid (Below w.heap.size w w3) := by rw [hw3]; exact HH.out.2.trans (((But.refl [w.heap.size] W).set (g := w.heap.size) (.inl (by simp)) 0 _).below (by simp) (by rw [hsz]; omega))
  have hlt := h3.lt
  have h3d := h3.drew
  have hl3 : Lay w3.drew cl P T G := HLY.out.below (hb3.out.drew) HLY.out.lt
  have hPr := lprc_any (some ⟨cl, 0, none⟩) P T G p 2 w3.drew (.some cl hl3) hP (by omega)
  have HS : Hid (∀ w4, Below w3.drew.heap.size w3.drew w4 → Calls Try.prog 21 #[.pointer (some ⟨w.heap.size, 0, none⟩), .int .i64 (wd 20 P 264 p 2), .func (.func 23) #[.pointer (some ⟨w.heap.size, 0, none⟩)] #[]] w4 fun e w' => (∃ v, e = .returned v) ∧ Came w3 w' w.heap.size (stZ none who p fr la cl) 66 (axLd (wd 20 P 264 p 2)) (.told 23)) := by
    intro w4 k
    have h4 := h3d.but (But.of_below (l := []) k) (by simp)
    refine (came_load w4 w.heap.size _ 66 h4 (by simp [stZ, stC]) _ _).mono ?_
    rintro e w5 ⟨hv, hC⟩
    exact ⟨hv, hC.before ((But.refl [w.heap.size] w3).drew.trans (But.of_below k))⟩
  obtain ⟨at', hat⟩ : ∃ a, wd 20 P 264 p 2 = a := ⟨_, rfl⟩
  have HAT : Hid (wd 20 P 264 p 2 = at') := hat
  rw [hat] at hPr HS
  clear hF hw3 HH h3 HLY h3d hl3 hat hP
  go_wp2_with fail
  go_region_with (first | (go_at_call 22; refine hPr.mono ?_; rintro e w4 ⟨rfl, k⟩) | (go_at_call 21; refine (HS.out _ k).mono ?_; rintro e w5 ⟨⟨v, rfl⟩, hC⟩))
  all_goals
    obtain ⟨q, Lc, c1, c2, c3, c4⟩ := hC
    have hF : Hid ((stFl who cl p fr la).I (stPM P p fr la) w5 w.heap.size (.t0 stD0) (w.heap.size :: Lc) ∧ Below w.heap.size w w5 ∧ ∀ k ∈ w.heap.size :: Lc, w.heap.size ≤ k) := by
      refine ⟨⟨⟨stD0_ok, by decide⟩, q, Lc, ?_, ?_, fun hm => by have := c4 _ hm; omega, rfl⟩, hb3.out.trans (c3.below (by simp) hb3.out.size), fun z hz => ?_⟩
      · have h := c1
        rw [show (stZ none who p fr la cl).setIfInBounds 1 (.pointer (some ⟨q, 0, none⟩)) = stC who (some ⟨q, 0, none⟩) cl p fr la stD0 from st_s1 _] at h
        exact h
      · rw [← HAT.out] at c2; exact c2
      · simp at hz
        rcases hz with rfl | hz
        · exact Nat.le_refl _
        · have := c4 z hz; omega
    clear hPr k HS c1 c2 c3 c4
    go_wp2_with fail
    go_ret
    exact ⟨w.heap.size, w.heap.size :: Lc, rfl, hF.out.1, hF.out.2.1, hF.out.2.2⟩
/-- Which goroutine it is. -/
def StD.g (d : StD) : Int := if d.st = true then d.lo.getD (d.n.toNat - 1) 0 else -1
theorem st_g (w : World) (x cl : Nat) (who p fr : Int) (la : Bool) (d : StD) (nx : Option Addr) (hB : Blk w x (stC who nx cl p fr la d) 66) (hg : d.lo.length = 128) (hn : d.st = true → 1 ≤ d.n ∧ d.n ≤ 128) :
    Calls Try.prog 10 #[.pointer (some ⟨x, 0, none⟩)] w fun e w' => e = .returned (.int .i64 d.g) ∧ ∃ k, w' = w.drewN k := by
  by_cases hs : d.st = true
  · have h := hn hs
    have := st_g_some w x cl who p fr la d nx d.n.toNat hB hg hs (by omega) (by omega)
    rw [show d.g = d.lo.getD (d.n.toNat - 1) 0 from if_pos hs]
    exact this
  · rw [show d.g = -1 from if_neg hs]
    refine (st_g_none w x cl who p fr la d nx hB hg (by simpa using hs)).mono ?_
    rintro e w' ⟨rfl, rfl⟩
    exact ⟨rfl, 0, rfl⟩
end Go.Proofs.Ytcjidigpdecdlaa
