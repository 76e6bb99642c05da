/- The machines that get a goroutine and give one back: the words they name, and what their steps let follow. -/
import Derived.Test.YtcjidigpdecdlaaGreatLkFl
import Derived.Test.YtcjidigpdecdlaaGreatLock2
namespace Go.Proofs.YtcjidigpdecdlaaGreat
open Go Go.RowKit
set_option linter.unusedVariables false
set_option maxRecDepth 100000
set_option linter.unusedSimpArgs false


theorem glob_word (w : World) (c : Nat) : Calls Tryz.prog 120 #[.pointer (some ⟨c, 0, none⟩), .int .i64 16] w fun e w' => e = .returned (.int .i64 16) ∧ w = w' := by
  go_enter Tryz.func120, Tryz.ntmps120
  go_wp2_with fail
  go_ret
  exact ⟨rfl, rfl⟩

theorem gs_any (o : Option Addr) (P T G : Int) (w : World) (h : LayO w P T G o) (hp : 0 ≤ P ∧ P ≤ 64) (hT : 0 ≤ T ∧ T ≤ 65536) : Calls Tryz.prog 192 #[.pointer o] w fun e w' => e = .returned (.agg #[.int .i64 (20 + P * 264 + T * 3), .int .i64 G, .int .i64 2]) ∧ Below w.heap.size w w' := by
  have hfc := field_c2
  have hb : Below w.heap.size w (w.alloc (.cells #[.int .i64 0, .int .i64 0, .int .i64 0] 275)) := (Below.refl _ _).alloc (Nat.le_refl _) _
  have HL : Hid _ := h.below hb
  clear h
  go_enter Tryz.func192, Tryz.ntmps192
  go_wp2_with fail
  go_at_call 228; refine (threads_any o P T G _ HL.out hp).mono ?_; rintro e w1 ⟨rfl, h1⟩
  go_wp2_with fail
  go_at_call 229; refine (end_any (20 + P * 264) T 3 _ (by omega) (by omega) (by omega) (by omega)).mono ?_; rintro e w2 ⟨rfl, h2⟩
  have hb2 : Below (w.heap.size + 1) (w.alloc (.cells #[.int .i64 0, .int .i64 0, .int .i64 0] 275)) w2 := by
    have h1' : Below (w.heap.size + 1) (w.alloc (.cells #[.int .i64 0, .int .i64 0, .int .i64 0] 275)) w1 := by simpa using h1
    exact h1'.trans (h2.mono (by have := h1.size; simpa using this))
  have HL2 : Hid _ := HL.out.below (by simpa using hb2)
  go_wp2_with fail
  go_at_call 117; refine (config_any o P T G _ HL2.out).mono ?_; rintro e w3 ⟨rfl, h3⟩
  have hb3 := hb2.trans (h3.mono (by have := hb2.size; simpa using this))
  have hR : Res w3 w.heap.size := Res.of hb3
  obtain ⟨⟨r0, r1, r2⟩, f0, f1, f2⟩ := hR.cells
  have hbb : Below w.heap.size w w3 := hb.trans (hb3.mono (by simp))
  have hlt := block_lt hR.heap
  obtain ⟨W, hW, HR, hB⟩ := hR.stored hbb (Nat.le_refl _) (.int .i64 (20 + P * 264 + T * 3)) (.int .i64 G) (.int .i64 2)
  clear HL HL2 hb h1 hR hb2 h2 hb3 h3 hbb
  go_wp2_with fail
  clear hW r0 r1 r2 f0 f1 f2
  exact bodyPost_ret (v := .agg #[.int .i64 (20 + P * 264 + T * 3), .int .i64 G, .int .i64 2]) (results_cell_row rfl _ _ w.heap.size 275 #[.int .i64 (20 + P * 264 + T * 3), .int .i64 G, .int .i64 2] (0, 0) _ rfl HR.out Tryz.underlying275 rfl (by kernel_rfl)) rfl ⟨rfl, hB⟩

theorem g_word (c : Nat) (P T G g f : Int) (w : World) (h : Lay w c P T G) (hp : 0 ≤ P ∧ P ≤ 64) (hT : 0 ≤ T ∧ T ≤ 65536) (hG : G ≤ 65536) : Calls Tryz.prog 145 #[.pointer (some ⟨c, 0, none⟩), .int .i64 g, .int .i64 f] w fun e w' => e = .returned (.int .i64 (wd (20 + P * 264 + T * 3) G 2 g f)) ∧ Below w.heap.size w w' := by
  have hs := gs_any _ P T G w (.some c h) hp hT
  clear h
  go_enter Tryz.func145, Tryz.ntmps145
  go_wp2_with fail
  go_at_call 192; refine hs.mono ?_; rintro e w1 ⟨rfl, h1⟩
  clear hs
  go_wp2_with fail
  go_at_call 193; refine (word_any _ G 2 g f _ (by omega) (by omega) (by omega)).mono ?_; rintro e w2 ⟨rfl, h2⟩
  have hb := seq h1 h2
  go_wp2_with fail
  go_ret
  exact ⟨rfl, hb⟩

theorem load_free (w : World) (x c K : Nat) (cs first cap : Array Value) (T : TypeId) (h : Blk w x cs T) (hs : 2 ≤ cs.size) (h2 : cs[2]? = some (.pointer (some ⟨c, 0, none⟩))) :
    Calls Tryz.prog 195 #[.pointer (some ⟨x, 0, none⟩), .func (.func K) first cap] w fun e w' => (∃ v, e = .returned v) ∧ ∃ q, CameAt w w' x cs T (comCells 1 0 16 0 0 false .nilIface (.func (.func K) first cap) false false) q := by
  have H := load_come w.drew x _ T 16 h.drew hs K first cap
  have c2 := h.cell 2 h2
  have hW := glob_word w.drew c
  clear h hs h2
  go_enter Tryz.func195, Tryz.ntmps195
  go_wp2_with fail
  go_region_with (first | (go_at_call 120; refine hW.mono ?_; rintro e w3 ⟨rfl, rfl⟩) | (go_at_call 119; refine H.mono ?_; rintro e w1 ⟨⟨v, rfl⟩, q, hC⟩))
  all_goals
    clear hW H c2
    go_wp2_with fail
    go_end0
    exact ⟨⟨_, rfl⟩, q, hC.undrew⟩

theorem store_free (w : World) (x c : Nat) (cs : Array Value) (T : TypeId) (u : Int) (fv : Value) (hf : Fv fv) (h : Blk w x cs T) (hs : 2 ≤ cs.size) (h2 : cs[2]? = some (.pointer (some ⟨c, 0, none⟩))) :
    Calls Tryz.prog 251 #[.pointer (some ⟨x, 0, none⟩), .int .u64 u, fv] w fun e w' => (∃ v, e = .returned v) ∧ ∃ q g, CameBox w w' x cs T (fun v => comCells 2 0 16 0 u false .nilIface v false false) fv q g := by
  have H := store_come w.drew x _ T 16 u h.drew hs fv hf
  have c2 := h.cell 2 h2
  have hW := glob_word w.drew c
  clear h hs h2 hf
  go_enter Tryz.func251, Tryz.ntmps251
  go_wp2_with fail
  go_region_with (first | (go_at_call 120; refine hW.mono ?_; rintro e w3 ⟨rfl, rfl⟩) | (go_at_call 125; refine H.mono ?_; rintro e w1 ⟨⟨v, rfl⟩, q, g, hC⟩))
  all_goals
    clear hW H c2
    go_wp2_with fail
    go_end0
    exact ⟨⟨_, rfl⟩, q, g, hC.undrew⟩

end Go.Proofs.YtcjidigpdecdlaaGreat
