/- The global queue's machines: what they have in common. -/
import Derived.Test.YtcjidigpdecdlaaGreatRM3
import Derived.Test.YtcjidigpdecdlaaGreatCp
namespace Go.Proofs.YtcjidigpdecdlaaGreat
open Go Go.RowKit
set_option linter.unusedVariables false
set_option maxRecDepth 100000
set_option linter.unusedSimpArgs false

theorem glob_word_6 (w : World) (c : Nat) : Calls Tryz.prog 120 #[.pointer (some ⟨c, 0, none⟩), .int .i64 6] w fun e w' => e = .returned (.int .i64 6) ∧ w = w' := by
  go_enter Tryz.func120, Tryz.ntmps120
  go_wp2_with fail
  go_ret
  exact ⟨rfl, rfl⟩
theorem glob_word_7 (w : World) (c : Nat) : Calls Tryz.prog 120 #[.pointer (some ⟨c, 0, none⟩), .int .i64 7] w fun e w' => e = .returned (.int .i64 7) ∧ w = w' := by
  go_enter Tryz.func120, Tryz.ntmps120
  go_wp2_with fail
  go_ret
  exact ⟨rfl, rfl⟩
theorem glob_word_8 (w : World) (c : Nat) : Calls Tryz.prog 120 #[.pointer (some ⟨c, 0, none⟩), .int .i64 8] w fun e w' => e = .returned (.int .i64 8) ∧ w = w' := by
  go_enter Tryz.func120, Tryz.ntmps120
  go_wp2_with fail
  go_ret
  exact ⟨rfl, rfl⟩
theorem q_load6 (w : World) (x c K : Nat) (cs : Array Value) (T : TypeId) (h : Blk w x cs T) (hs : 2 ≤ cs.size) (h2 : cs[2]? = some (.pointer (some ⟨c, 0, none⟩))) :
    Calls Tryz.prog 238 #[.pointer (some ⟨x, 0, none⟩), .int .i64 6, .func (.func K) #[.pointer (some ⟨x, 0, none⟩)] #[]] w fun e w' => (∃ v, e = .returned v) ∧ Came w w' x cs T (axLd 6) (.told K) := by
  have H := came_load w.drew x cs T h.drew hs 6 K
  have c2 := h.cell 2 h2
  have hW := glob_word_6 w.drew c
  clear h hs h2
  go_enter Tryz.func238, Tryz.ntmps238
  go_wp2_with fail
  go_region_with (first | (go_at_call 120; refine hW.mono ?_; rintro e w3 ⟨rfl, rfl⟩) | (go_at_call 119; refine H.mono ?_; rintro e w1 ⟨⟨v, rfl⟩, hC⟩))
  all_goals
    have hC2 := hC.undrew
    clear hW H c2 hC
    go_wp2_with fail
    go_end0
    exact ⟨⟨_, rfl⟩, hC2⟩
theorem q_load8 (w : World) (x c K : Nat) (cs : Array Value) (T : TypeId) (h : Blk w x cs T) (hs : 2 ≤ cs.size) (h2 : cs[2]? = some (.pointer (some ⟨c, 0, none⟩))) :
    Calls Tryz.prog 238 #[.pointer (some ⟨x, 0, none⟩), .int .i64 8, .func (.func K) #[.pointer (some ⟨x, 0, none⟩)] #[]] w fun e w' => (∃ v, e = .returned v) ∧ Came w w' x cs T (axLd 8) (.told K) := by
  have H := came_load w.drew x cs T h.drew hs 8 K
  have c2 := h.cell 2 h2
  have hW := glob_word_8 w.drew c
  clear h hs h2
  go_enter Tryz.func238, Tryz.ntmps238
  go_wp2_with fail
  go_region_with (first | (go_at_call 120; refine hW.mono ?_; rintro e w3 ⟨rfl, rfl⟩) | (go_at_call 119; refine H.mono ?_; rintro e w1 ⟨⟨v, rfl⟩, hC⟩))
  all_goals
    have hC2 := hC.undrew
    clear hW H c2 hC
    go_wp2_with fail
    go_end0
    exact ⟨⟨_, rfl⟩, hC2⟩
theorem q_load7 (w : World) (x c K : Nat) (cs : Array Value) (T : TypeId) (h : Blk w x cs T) (hs : 2 ≤ cs.size) (h2 : cs[2]? = some (.pointer (some ⟨c, 0, none⟩))) :
    Calls Tryz.prog 238 #[.pointer (some ⟨x, 0, none⟩), .int .i64 7, .func (.func K) #[.pointer (some ⟨x, 0, none⟩)] #[]] w fun e w' => (∃ v, e = .returned v) ∧ Came w w' x cs T (axLd 7) (.told K) := by
  have H := came_load w.drew x cs T h.drew hs 7 K
  have c2 := h.cell 2 h2
  have hW := glob_word_7 w.drew c
  clear h hs h2
  go_enter Tryz.func238, Tryz.ntmps238
  go_wp2_with fail
  go_region_with (first | (go_at_call 120; refine hW.mono ?_; rintro e w3 ⟨rfl, rfl⟩) | (go_at_call 119; refine H.mono ?_; rintro e w1 ⟨⟨v, rfl⟩, hC⟩))
  all_goals
    have hC2 := hC.undrew
    clear hW H c2 hC
    go_wp2_with fail
    go_end0
    exact ⟨⟨_, rfl⟩, hC2⟩
theorem q_store6 (w : World) (x c K : Nat) (cs : Array Value) (T : TypeId) (u : Int) (h : Blk w x cs T) (hs : 2 ≤ cs.size) (h2 : cs[2]? = some (.pointer (some ⟨c, 0, none⟩))) :
    Calls Tryz.prog 271 #[.pointer (some ⟨x, 0, none⟩), .int .i64 6, .int .u64 u, .func (.func K) #[.pointer (some ⟨x, 0, none⟩)] #[]] w fun e w' => (∃ v, e = .returned v) ∧ Came w w' x cs T (axSt 6 u) (.untold K) := by
  have H := came_store w.drew x cs T h.drew hs 6 u K
  have c2 := h.cell 2 h2
  have hW := glob_word_6 w.drew c
  clear h hs h2
  go_enter Tryz.func271, Tryz.ntmps271
  go_wp2_with fail
  go_region_with (first | (go_at_call 120; refine hW.mono ?_; rintro e w3 ⟨rfl, rfl⟩) | (go_at_call 125; refine H.mono ?_; rintro e w1 ⟨⟨v, rfl⟩, hC⟩))
  all_goals
    have hC2 := hC.undrew
    clear hW H c2 hC
    go_wp2_with fail
    go_end0
    exact ⟨⟨_, rfl⟩, hC2⟩
theorem q_store7 (w : World) (x c K : Nat) (cs : Array Value) (T : TypeId) (u : Int) (h : Blk w x cs T) (hs : 2 ≤ cs.size) (h2 : cs[2]? = some (.pointer (some ⟨c, 0, none⟩))) :
    Calls Tryz.prog 271 #[.pointer (some ⟨x, 0, none⟩), .int .i64 7, .int .u64 u, .func (.func K) #[.pointer (some ⟨x, 0, none⟩)] #[]] w fun e w' => (∃ v, e = .returned v) ∧ Came w w' x cs T (axSt 7 u) (.untold K) := by
  have H := came_store w.drew x cs T h.drew hs 7 u K
  have c2 := h.cell 2 h2
  have hW := glob_word_7 w.drew c
  clear h hs h2
  go_enter Tryz.func271, Tryz.ntmps271
  go_wp2_with fail
  go_region_with (first | (go_at_call 120; refine hW.mono ?_; rintro e w3 ⟨rfl, rfl⟩) | (go_at_call 125; refine H.mono ?_; rintro e w1 ⟨⟨v, rfl⟩, hC⟩))
  all_goals
    have hC2 := hC.undrew
    clear hW H c2 hC
    go_wp2_with fail
    go_end0
    exact ⟨⟨_, rfl⟩, hC2⟩
theorem q_count (w : World) (x c : Nat) (cs : Array Value) (T : TypeId) (u : Int) (h : Blk w x cs T) (hs : 2 ≤ cs.size) (h2 : cs[2]? = some (.pointer (some ⟨c, 0, none⟩))) :
    Calls Tryz.prog 281 #[.pointer (some ⟨x, 0, none⟩), .int .u64 u] w fun e w' => (∃ v, e = .returned v) ∧ Came w w' x cs T (axAd 8 u) .nil := by
  have H := came_add_nil w.drew x cs T h.drew hs 8 u
  have c2 := h.cell 2 h2
  have hW := glob_word_8 w.drew c
  clear h hs h2
  go_enter Tryz.func281, Tryz.ntmps281
  go_wp2_with fail
  go_region_with (first | (go_at_call 120; refine hW.mono ?_; rintro e w3 ⟨rfl, rfl⟩) | (go_at_call 220; refine H.mono ?_; rintro e w1 ⟨⟨v, rfl⟩, hC⟩))
  all_goals
    have hC2 := hC.undrew
    clear hW H c2 hC
    go_wp2_with fail
    go_end0
    exact ⟨⟨_, rfl⟩, hC2⟩
theorem q_link (w : World) (x c : Nat) (cs : Array Value) (T : TypeId) (P T' G g : Int) (h : Blk w x cs T) (h2 : cs[2]? = some (.pointer (some ⟨c, 0, none⟩))) (hl : Lay w c P T' G) (hp : 0 ≤ P ∧ P ≤ 64) (hT : 0 ≤ T' ∧ T' ≤ 65536) (hG : G ≤ 65536) :
    Calls Tryz.prog 241 #[.pointer (some ⟨x, 0, none⟩), .int .i64 g] w fun e w' => e = .returned (.int .i64 (wd (20 + P * 264 + T' * 3) G 2 g 1)) ∧ Below w.heap.size w w' := by
  have c2 := h.cell 2 h2
  have hW := g_word c P T' G g 1 w hl hp hT hG
  clear h h2 hl hp hT hG
  go_enter Tryz.func241, Tryz.ntmps241
  go_wp2_with fail
  go_at_call 145; refine hW.mono ?_; rintro e w1 ⟨rfl, h1⟩
  go_wp2_with fail
  go_ret
  exact ⟨rfl, h1⟩
theorem q_of (w : World) (x c : Nat) (who : Int) (cs cs' : Array Value) (T : TypeId) (h : Blk w x cs T) (hs : 3 ≤ cs.size) (hcs : (cs.setIfInBounds 2 (.pointer (some ⟨c, 0, none⟩))).setIfInBounds 0 (.int .i64 who) = cs') :
    Calls Tryz.prog 216 #[.pointer (some ⟨x, 0, none⟩), .pointer (some ⟨c, 0, none⟩), .int .i64 who] w fun e w' => (∃ v, e = .returned v) ∧ Blk w' x cs' T ∧ But [x] w w' ∧ w'.heap.size = w.heap.size := by
  have f2 := h.fro 2
  have hh2 := h.set 2 (.pointer (some ⟨c, 0, none⟩))
  have hF := fof_any _ x _ T who hh2 (by simp; omega)
  have hB0 : But [x] w (w.setCell ⟨x, 2, none⟩ (.pointer (some ⟨c, 0, none⟩))) := (But.refl _ w).set (g := x) (.inl (by simp)) 2 _
  obtain ⟨u, hu⟩ : ∃ u, w.cell? ⟨x, 2, none⟩ = some u := ⟨_, h.cell 2 (Array.getElem?_eq_getElem hs)⟩
  have HH : Hid (Blk _ x _ T ∧ But [x] w _ ∧ (w.setCell ⟨x, 2, none⟩ (.pointer (some ⟨c, 0, none⟩))).heap.size = w.heap.size) := ⟨hh2, hB0, size_set _ _ _⟩
  clear h hh2 hB0 hs
  go_enter Tryz.func216, Tryz.ntmps216
  go_wp2_with fail
  generalize w.setCell ⟨x, 2, none⟩ (.pointer (some ⟨c, 0, none⟩)) = W at *
  go_at_call 153; refine hF.mono ?_; rintro e w3 ⟨⟨v, rfl⟩, hw3⟩
  have h3 : Blk w3 x cs' T := by rw [hw3, ← hcs]; exact HH.out.1.set 0 _
  have hB3 : But [x] w w3 := by rw [hw3]; exact HH.out.2.1.set (g := x) (.inl (by simp)) 0 _
  have hs3 : w3.heap.size = w.heap.size := by rw [hw3, size_set]; exact HH.out.2.2
  clear hF hw3 HH hcs hu f2
  go_wp2_with fail
  go_end0
  exact ⟨⟨_, rfl⟩, h3, hB3, hs3⟩
theorem q_word (w : World) (g : Int) (hg : 0 ≤ g ∧ g ≤ 1000000) : Calls Tryz.prog 240 #[.int .i64 g] w fun e w' => e = .returned (.int .u64 (g + 1)) ∧ w = w' := by
  have w1 : IntKind.u64.wrap g = g := wrap_u64 (by omega)
  have w2 : IntKind.u64.wrap (g + 1) = g + 1 := wrap_u64 (by omega)
  go_enter Tryz.func240, Tryz.ntmps240
  go_wp2_with fail
  go_ret
  exact ⟨rfl, rfl⟩
end Go.Proofs.YtcjidigpdecdlaaGreat
