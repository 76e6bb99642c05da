/- Both together: where there is no census; what stays while both are added. -/
import Derived.Test.YtammoflhfcpomaaA1
namespace Go.Proofs.Ytammoflhfcpomaa
open Go Go.RowKit
set_option linter.unusedVariables false
set_option linter.unusedSimpArgs false
set_option maxRecDepth 100000

theorem below3 (w : World) (o1 o2 o3 : Obj) : Below w.heap.size w (((w.alloc o1).alloc o2).alloc o3) := (((Below.refl w.heap.size w).alloc (Nat.le_refl _) o1).alloc (by rw [size_al]; omega) o2).alloc (by rw [size_al, size_al]; omega) o3
theorem third (w : World) (o1 o2 o3 : Obj) : (((w.alloc o1).alloc o2).alloc o3).heap[w.heap.size + 1 + 1]? = some o3 := by
  have e := heap_alloc_new ((w.alloc o1).alloc o2) o3
  rw [size_al, size_al] at e
  exact e
set_option maxHeartbeats 2000000 in
theorem add_bad (w : World) (K1 K2 : Nat → Int) (g1 s1 h1 p1 g2 s2 h2 p2 : Nat) (M1 N1 M2 N2 : Int) (hne : s1 ≠ s2 ∨ (s1 = s2 ∧ p1 ≠ p2)) :
    Calls Try.prog 9 #[.agg (cenCells K1 g1 s1 h1 p1 M1 N1), .agg (cenCells K2 g2 s2 h2 p2 M2 N2)] w fun e w' => e = .returned (.tuple #[.agg zero16, .int .i64 1]) ∧ Below w.heap.size w w' := by
  have HB := Lib.hid (fun o1 o2 o3 => below3 w o1 o2 o3)
  unfold cenCells
  rcases hne with h | ⟨rfl, h⟩
  all_goals
    go_enter Try.func9, Try.ntmps9
    go_wp2_with fail
    exact bodyPost_ret (v := .tuple #[.agg zero16, .int .i64 1]) (res_pair rfl _ _ (w.heap.size + 1 + 1) _ _ rfl rfl (run_loadVar_row _ (w.heap.size + 1 + 1) 30 30 zero16 (0, 0) _ (third w _ _ _) Try.underlying30 rfl info30)) rfl ⟨rfl, HB.out _ _ _⟩
/-- What stays while two censuses are added. -/
structure AddI (w wr : World) (K1 K2 : Nat → Int) (g1 h1 g2 h2 x g h gs p : Nat) (M1 N1 M2 N2 : Int) (K : Nat → Int) (R : Nat → Nat → Int) (P : Nat → Int) (most now : Int) : Prop where
  cen : Cen wr x g h gs p K R P most now
  bel : Below w.heap.size w wr
  b1 : CenAt wr w.heap.size K1 g1 gs h1 p M1 N1
  b2 : CenAt wr (w.heap.size + 1) K2 g2 gs h2 p M2 N2
  res : wr.heap[w.heap.size + 1 + 1]? = some (.cells zero16 30 (0, 0))
  lo : w.heap.size + 2 < x ∧ w.heap.size + 2 < g ∧ w.heap.size + 2 < h
theorem six {Q : World → Prop} (w : World) (A1 A2 B o1 o2 o3 : Obj) (h : ∀ V : World, Below w.heap.size w V → V.heap[w.heap.size]? = some A1 → V.heap[w.heap.size + 1]? = some A2 → V.heap[w.heap.size + 1 + 1]? = some B → V.heap[w.heap.size + 1 + 1 + 1]? = some o1 → V.heap[w.heap.size + 1 + 1 + 1 + 1]? = some o2 → V.heap[w.heap.size + 1 + 1 + 1 + 1 + 1]? = some o3 → Q V) :
    Q ((((((w.alloc A1).alloc A2).alloc B).alloc o1).alloc o2).alloc o3).drew := by
  have s0 := size_al w A1
  have n0 := heap_alloc_new w A1
  have s1 := size_al (w.alloc A1) A2
  have n1 := heap_alloc_new (w.alloc A1) A2
  have s2 := size_al ((w.alloc A1).alloc A2) B
  have n2 := heap_alloc_new ((w.alloc A1).alloc A2) B
  have s3 := size_al (((w.alloc A1).alloc A2).alloc B) o1
  have n3 := heap_alloc_new (((w.alloc A1).alloc A2).alloc B) o1
  have s4 := size_al ((((w.alloc A1).alloc A2).alloc B).alloc o1) o2
  have n4 := heap_alloc_new ((((w.alloc A1).alloc A2).alloc B).alloc o1) o2
  have s5 := size_al (((((w.alloc A1).alloc A2).alloc B).alloc o1).alloc o2) o3
  have n5 := heap_alloc_new (((((w.alloc A1).alloc A2).alloc B).alloc o1).alloc o2) o3
  rw [s0] at s1 n1
  rw [s1] at s2 n2
  rw [s2] at s3 n3
  rw [s3] at s4 n4
  rw [s4] at s5 n5
  have b1 := ((((((Below.refl w.heap.size w).alloc (Nat.le_refl _) A1).alloc (by omega) A2).alloc (by omega) B).alloc (by omega) o1).alloc (by omega) o2).alloc (by omega) o3
  refine h _ b1.drew ?_ ?_ ?_ ?_ ?_ n5
  · exact (heap_al _ (by omega) o3).trans ((heap_al _ (by omega) o2).trans ((heap_al _ (by omega) o1).trans ((heap_al _ (by omega) B).trans ((heap_al _ (by omega) A2).trans (n0)))))
  · exact (heap_al _ (by omega) o3).trans ((heap_al _ (by omega) o2).trans ((heap_al _ (by omega) o1).trans ((heap_al _ (by omega) B).trans (n1))))
  · exact (heap_al _ (by omega) o3).trans ((heap_al _ (by omega) o2).trans ((heap_al _ (by omega) o1).trans (n2)))
  · exact (heap_al _ (by omega) o3).trans ((heap_al _ (by omega) o2).trans (n3))
  · exact (heap_al _ (by omega) o3).trans (n4)
theorem AddI.start {w V : World} {K1 K2 : Nat → Int} {g1 h1 g2 h2 x g h gs p : Nat} {M1 N1 M2 N2 : Int} {cg cs : Array Value} (HG : Hid (∀ i, i < gs → cg[i * 3]? = some (.int .i64 0) ∧ cg[i * 3 + 1]? = some (.int .i64 0) ∧ cg[i * 3 + 2]? = some (.int .i64 0))) (HH : Hid (∀ i, i < p → cs[i]? = some (.int .i64 0)))
    (hb : Below w.heap.size w V) (ha : V.heap[w.heap.size]? = some (.cells (cenCells K1 g1 gs h1 p M1 N1) 30 (0, 0))) (hc : V.heap[w.heap.size + 1]? = some (.cells (cenCells K2 g2 gs h2 p M2 N2) 30 (0, 0))) (hr : V.heap[w.heap.size + 1 + 1]? = some (.cells zero16 30 (0, 0))) (hx : V.heap[x]? = some (.cells (cenCells (fun _ => 0) g gs h p 0 0) 30 (0, 0))) (hg : V.heap[g]? = some (.cells cg 46 (0, 0))) (hh : V.heap[h]? = some (.cells cs 3 (0, 0))) (hn : x ≠ g ∧ x ≠ h ∧ g ≠ h) (lo : w.heap.size + 2 < x ∧ w.heap.size + 2 < g ∧ w.heap.size + 2 < h) : AddI w V K1 K2 g1 h1 g2 h2 x g h gs p M1 N1 M2 N2 (fun _ => 0) (fun _ _ => 0) (fun _ => 0) 0 0 :=
  ⟨⟨hx, ⟨cg, hg, fun i hi => HG.out i hi⟩, ⟨cs, hh, fun i hi => HH.out i hi⟩, hn⟩, hb, ha, hc, hr, lo⟩
end Go.Proofs.Ytammoflhfcpomaa
