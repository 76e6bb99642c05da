/- Looking at a ring: the contracts of the functions. -/
import Derived.Test.YtlnjjcfkcoaceaaLock1
import Derived.Test.YtlnjjcfkcoaceaaFlow7
namespace Go.Proofs.Ytlnjjcfkcoaceaa
open Go Go.RowKit
set_option linter.unusedVariables false
set_option maxRecDepth 100000
set_option linter.unusedSimpArgs false


/-- The cells of a machine that looks at a ring. -/
def lookCells (who : Int) (nx : Option Addr) (cl : Nat) (p hd tl nt : Int) (em : Bool) : Array Value := #[.int .i64 who, .pointer nx, .pointer (some ⟨cl, 0, none⟩), .int .i64 p, .int .u64 hd, .int .u64 tl, .int .u64 nt, .bool em]

theorem layproc_any (o : Option Addr) (P T G n f : Int) (w : World) (h : LayO w P T G o) (hp : 0 ≤ P ∧ P ≤ 64) (hf : 0 ≤ f ∧ f < 8) : Calls Try.prog 150 #[.pointer o, .int .i64 n, .int .i64 f] w fun e w' => e = .returned (.int .i64 (wd 20 P 264 n f)) ∧ Below w.heap.size w w' := by
  have HL : Hid _ := h
  have d1 : decide (8 ≤ f) = false := decide_eq_false (by omega)
  clear h
  go_enter Try.func150, Try.ntmps150
  go_wp2_with fail
  go_at_call 167; refine (procs_any o P T G _ HL.out).mono ?_; rintro e w1 ⟨rfl, h1⟩
  go_wp2_with fail
  go_at_call 133; refine (word_any 20 P 264 n f _ (by omega) (by omega) (by omega)).mono ?_; rintro e w2 ⟨rfl, h2⟩
  have hb := seq h1 h2
  go_wp2_with fail
  go_ret
  exact ⟨rfl, hb⟩

theorem look_load (w : World) (x cl K : Nat) (P T G who p hd tl nt f : Int) (nx : Option Addr) (em : Bool) (first cap : Array Value) (h : Blk w x (lookCells who nx cl p hd tl nt em) 184) (hL : Lay w cl P T G) (hp : 0 ≤ P ∧ P ≤ 64) (hf : 0 ≤ f ∧ f < 8) :
    Calls Try.prog 115 #[.pointer (some ⟨x, 0, none⟩), .int .i64 f, .func (.func K) first cap] w fun e w' => (∃ v, e = .returned v) ∧ ∃ q, CameAt w w' x (lookCells who nx cl p hd tl nt em) 184 (comCells 1 0 (wd 20 P 264 p f) 0 0 false .nilIface (.func (.func K) first cap) false false) q := by
  have c2 := h.cell 2 (v := .pointer (some ⟨cl, 0, none⟩)) rfl
  have c3 := h.cell 3 (v := .int .i64 p) rfl
  have hLd : Lay w.drew cl P T G := hL
  have hP := layproc_any (some ⟨cl, 0, none⟩) P T G p f w.drew (.some cl hLd) hp hf
  have HX : Hid (Blk w x (lookCells who nx cl p hd tl nt em) 184) := h
  generalize wd 20 P 264 p f = i at *
  clear h hL
  go_enter Try.func115, Try.ntmps115
  go_wp2_with fail
  go_region_with (first | (go_at_call 150; refine hP.mono ?_; rintro e w4 ⟨rfl, h4⟩; have h5 : Blk w4 x (lookCells who nx cl p hd tl nt em) 184 := HX.out.drew.but (But.of_below (l := []) h4) (by simp)) | (go_at_call 149; refine (load_come w4 x _ 184 i h5 (by simp [lookCells]) K first cap).mono ?_; rintro e w5 ⟨⟨v2, rfl⟩, q, hC⟩))
  all_goals
    have hq := hC.fresh
    have hsz := h4.size
    have hB : But [x] w w5 := ((But.refl [x] w).drew.trans (But.of_below (l := [x]) h4)).trans hC.but
    have h1 := hC.own
    have h2 := hC.com
    clear hP h5 hC c2 c3 h4
    go_wp2_with fail
    go_end0
    exact ⟨⟨_, rfl⟩, q, Nat.le_trans hsz hq, h1, h2, hB⟩

end Go.Proofs.Ytlnjjcfkcoaceaa
