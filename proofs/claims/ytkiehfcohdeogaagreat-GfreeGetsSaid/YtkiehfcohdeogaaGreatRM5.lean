/- The machine that gives a goroutine back. -/
import Derived.Test.YtkiehfcohdeogaaGreatRM4
namespace Go.Proofs.YtkiehfcohdeogaaGreat
open Go Go.RowKit
set_option linter.unusedVariables false
set_option maxRecDepth 100000
set_option linter.unusedSimpArgs false


def putCells (who : Int) (nx : Option Addr) (c : Nat) (g : Int) : Array Value := #[.int .i64 who, .pointer nx, .pointer (some ⟨c, 0, none⟩), .int .i64 g]

theorem put_look (w : World) (x c : Nat) (who g : Int) (nx : Option Addr) (h : Blk w x (putCells who nx c g) 131) :
    Calls Tryz.prog 85 #[.pointer (some ⟨x, 0, none⟩)] w fun e w' => (∃ v, e = .returned v) ∧ ∃ q, CameAt w w' x (putCells who nx c g) 131 (comCells 1 0 16 0 0 false .nilIface (.func (.func 123) #[.pointer (some ⟨x, 0, none⟩)] #[]) false false) q := by
  have H := load_free w x c 123 _ #[.pointer (some ⟨x, 0, none⟩)] #[] 131 h (by simp [putCells]) rfl
  clear h
  go_enter Tryz.func85, Tryz.ntmps85
  go_wp2_with fail
  go_at_call 111; refine H.mono ?_; rintro e w1 ⟨⟨v, rfl⟩, q, hC⟩
  clear H
  go_wp2_with fail
  go_end0
  exact ⟨⟨_, rfl⟩, q, hC⟩

set_option maxHeartbeats 4000000 in
theorem put_link (w : World) (x c : Nat) (who g P T G f : Int) (nx : Option Addr) (h : Blk w x (putCells who nx c g) 131) (hl : Lay w c P T G) (hp : 0 ≤ P ∧ P ≤ 64) (hT : 0 ≤ T ∧ T ≤ 65536) (hG : G ≤ 65536) :
    Calls Tryz.prog 123 #[.pointer (some ⟨x, 0, none⟩), .int .u64 f] w fun e w' => (∃ v, e = .returned v) ∧ ∃ q b, CameBox w w' x (putCells who nx c g) 131 (fun v => comCells 2 0 (wd (20 + P * 264 + T * 3) G 2 g 1) 0 f false .nilIface v false false) (.func (.func 154) #[.pointer (some ⟨x, 0, none⟩)] #[]) q b := by
  have hW := g_word c P T G g 1 w.drew (hl.below ((Below.refl _ _).drew) hl.lt) hp hT hG
  have c2 := h.cell 2 (v := .pointer (some ⟨c, 0, none⟩)) rfl
  have c3 := h.cell 3 (v := .int .i64 g) rfl
  have HS : Hid (∀ w4, Below w.drew.heap.size w.drew w4 → But [x] w w4 ∧ Calls Tryz.prog 127 #[.pointer (some ⟨x, 0, none⟩), .int .i64 (wd (20 + P * 264 + T * 3) G 2 g 1), .int .u64 f, .func (.func 154) #[.pointer (some ⟨x, 0, none⟩)] #[]] w4 fun e w' => (∃ v, e = .returned v) ∧ ∃ q b, CameBox w w' x (putCells who nx c g) 131 (fun v => comCells 2 0 (wd (20 + P * 264 + T * 3) G 2 g 1) 0 f false .nilIface v false false) (.func (.func 154) #[.pointer (some ⟨x, 0, none⟩)] #[]) q b) := by
    intro w4 k
    have hB4 : But [x] w w4 := ((But.refl [x] w).drew).trans (But.of_below k)
    have h4 : Blk w4 x (putCells who nx c g) 131 := h.drew.but (But.of_below (l := []) k) (by simp)
    refine ⟨hB4, (store_come w4 x _ 131 _ f h4 (by simp [putCells]) _ (.some _ _ _)).mono ?_⟩
    rintro e w5 ⟨hv, q, b, hC⟩
    exact ⟨hv, q, b, hC.before hB4⟩
  generalize wd (20 + P * 264 + T * 3) G 2 g 1 = at' at *
  clear h hl hp hT hG
  go_enter Tryz.func123, Tryz.ntmps123
  go_wp2_with fail
  go_region_with (first | (go_at_call 83; refine hW.mono ?_; rintro e w4 ⟨rfl, k⟩) | (go_at_call 127; refine (HS.out _ k).2.mono ?_; rintro e w5 ⟨⟨v, rfl⟩, q, b, hC⟩))
  all_goals
    clear hW k HS c2 c3
    go_wp2_with fail
    go_end0
    exact ⟨⟨_, rfl⟩, q, b, hC⟩

theorem put_lead (w : World) (x c : Nat) (who g : Int) (nx : Option Addr) (h : Blk w x (putCells who nx c g) 131) (hg : 0 ≤ g ∧ g ≤ 1000000) :
    Calls Tryz.prog 154 #[.pointer (some ⟨x, 0, none⟩)] w fun e w' => (∃ v, e = .returned v) ∧ ∃ q b, CameBox w w' x (putCells who nx c g) 131 (fun v => comCells 2 0 16 0 (g + 1) false .nilIface v false false) (.func (.func 169) #[.pointer (some ⟨x, 0, none⟩)] #[]) q b := by
  have c3 := h.cell 3 (v := .int .i64 g) rfl
  have H := store_free w.drew x c _ 131 (g + 1) (.func (.func 169) #[.pointer (some ⟨x, 0, none⟩)] #[]) (.some _ _ _) h.drew (by simp [putCells]) rfl
  have w1 : IntKind.u64.wrap g = g := wrap_u64 (by omega)
  have w2 : IntKind.u64.wrap (g + 1) = g + 1 := wrap_u64 (by omega)
  clear h
  go_enter Tryz.func154, Tryz.ntmps154
  go_wp2_with fail
  go_region_with (go_at_call 171; refine H.mono ?_; rintro e w5 ⟨⟨v, rfl⟩, q, b, hC⟩)
  all_goals
    have hC5 := hC.undrew
    clear H hC w1 w2 c3
    go_wp2_with fail
    go_end0
    exact ⟨⟨_, rfl⟩, q, b, hC5⟩

theorem put_new (w : World) (c : Nat) (who g : Int) :
    Calls Tryz.prog 23 #[.pointer (some ⟨c, 0, none⟩), .int .i64 who, .int .i64 g] w fun e w' => ∃ x x2 q2 q b, e = .returned (.pointer (some ⟨x, 0, none⟩)) ∧ Below w.heap.size w w' ∧ w.heap.size ≤ x ∧ x < x2 ∧ q2 < q ∧ q2 < b ∧ b ≠ q ∧ Blk w' x (putCells who (some ⟨q, 0, none⟩) c g) 131 ∧ Blk w' q (comCells 0 0 0 0 0 false (.iface 164 (.pointer (some ⟨x2, 0, none⟩))) (.func (.func 166) #[] #[.pointer (some ⟨b, 0, none⟩)]) false false) 177 ∧ Blk w' b #[.func (.func 85) #[.pointer (some ⟨x, 0, none⟩)] #[]] 1 ∧ AcqM w' x2 q2 who (wd 0 2 3 1 0) (wd 0 2 3 1 1) (wd 0 2 3 1 2) := by
  have hB := Blk.new w #[.int .i64 0, .pointer none, .pointer none, .int .i64 g] 131
  have hA := acquire_any _ w.heap.size c 85 who (putCells who none c g) _ #[.pointer (some ⟨w.heap.size, 0, none⟩)] #[] 131 hB (by simp) rfl
  clear hB
  generalize wd 0 2 3 1 0 = tk at *
  generalize wd 0 2 3 1 1 = sv at *
  generalize wd 0 2 3 1 2 = ow at *
  have hs := World.size_alloc w (.cells #[.int .i64 0, .pointer none, .pointer none, .int .i64 g] 131)
  have hb : Below w.heap.size w (w.alloc (.cells #[.int .i64 0, .pointer none, .pointer none, .int .i64 g] 131)) := (Below.refl _ _).alloc (Nat.le_refl _) _
  have HH : Hid (Below w.heap.size w (w.alloc (.cells #[.int .i64 0, .pointer none, .pointer none, .int .i64 g] 131)) ∧ (w.alloc (.cells #[.int .i64 0, .pointer none, .pointer none, .int .i64 g] 131)).heap.size = w.heap.size + 1) := ⟨hb, hs⟩
  clear hb hs
  go_enter Tryz.func23, Tryz.ntmps23
  go_wp2_with fail
  go_at_call 61; refine hA.mono ?_; rintro e w1 ⟨⟨v, rfl⟩, x2, q2, q, b, hC, hM, h1, h2, h3⟩
  have hC1 := hC.at'.own
  have hC2 := hC.at'.com
  have hC3 := hC.box
  have hC4 := hC.ne
  have hb := HH.out.1.trans (hC.at'.but.below (by simp) (by rw [HH.out.2]; omega))
  have hx : w.heap.size < x2 := by rw [HH.out.2] at h1; omega
  clear hA hC HH h1
  go_wp2_with fail
  go_ret
  exact ⟨w.heap.size, x2, q2, q, b, rfl, hb, Nat.le_refl _, hx, h2, h3, hC4, hC1, hC2, hC3, hM⟩

end Go.Proofs.YtkiehfcohdeogaaGreat
