/- What the law DiceMakes keeps: boxes, dice, the document's dice. -/
import Derived.Test.YteibdjbipfimeaaM8
namespace Go.Proofs.Yteibdjbipfimeaa
open Go Go.RowKit
set_option linter.unusedVariables false
set_option linter.unusedSimpArgs false
set_option maxRecDepth 100000

theorem equal34 (w : World) (a b c x y z : Int) : (Op.equalIn 10000 34 (.agg #[.int .i64 a, .int .i64 b, .int .i64 c]) (.agg #[.int .i64 x, .int .i64 y, .int .i64 z])).run Try.prog w = .ok (a == x && (b == y && c == z)) w := by
  have e : ∃ p0 p1 p2 p3 p4 p5 p6 p7 p8 p9 p10 p11, Try.prog.fieldsOf 34 = #[⟨"Procs", 3, 0, p0, p1, p2, p3⟩, ⟨"Threads", 3, 1, p4, p5, p6, p7⟩, ⟨"Gs", 3, 2, p8, p9, p10, p11⟩] := by unfold Program.fieldsOf; rw [Try.underlying34]; exact ⟨_, _, _, _, _, _, _, _, _, _, _, _, rfl⟩
  obtain ⟨p0, p1, p2, p3, p4, p5, p6, p7, p8, p9, p10, p11, e⟩ := e
  rw [show (10000 : Nat) = 9999 + 1 from rfl, run_equalIn_agg w 9999 34 _ _ (by unfold Program.fieldsOf; rw [Try.underlying34]) (by kernel_rfl), e]
  have h3 : ∀ (x y : Int) (w : World), (Op.equalIn 9999 3 (.int .i64 x) (.int .i64 y)).run Try.prog w = .ok (x == y) w := fun x y w => run_equalIn_int w 9998 3 .i64 .i64 x y Try.underlying3
  by_cases h1 : a = x
  · by_cases h2 : b = y
    · by_cases h4 : c = z <;> simp [Op.eqFields, go_sem, part, isAgg, sizeOf, typeInfo, Result.andThen, h3, h1, h2, h4]
    · simp [Op.eqFields, go_sem, part, isAgg, sizeOf, typeInfo, Result.andThen, h3, h1, h2]
  · simp [Op.eqFields, go_sem, part, isAgg, sizeOf, typeInfo, Result.andThen, h3, h1]
theorem eq34 (w : World) (a b c : Int) : (binOp .eql 34 (.agg #[.int .i64 a, .int .i64 b, .int .i64 c]) (.agg #[.int .i64 a, .int .i64 b, .int .i64 c])).run Try.prog w = .ok (.bool true) w := by
  rw [run_eql_struct, equal34]; simp
theorem neq34 (w : World) (a b c : Int) : (binOp .neq 34 (.agg #[.int .i64 a, .int .i64 b, .int .i64 c]) (.agg #[.int .i64 a, .int .i64 b, .int .i64 c])).run Try.prog w = .ok (.bool false) w := by
  rw [run_neq_struct, equal34]; simp

/-- A box of three ints. -/
def B3 (w : World) (z : Nat) (T : TypeId) (x y v : Int) : Prop := w.heap[z]? = some (.cells #[.int .i64 x, .int .i64 y, .int .i64 v] T (0, 0))
theorem B3.c {w : World} {z : Nat} {T : TypeId} {x y v : Int} (h : B3 w z T x y v) : w.cell? ⟨z, 0, none⟩ = some (.int .i64 x) ∧ w.cell? ⟨z, 1, none⟩ = some (.int .i64 y) ∧ w.cell? ⟨z, 2, none⟩ = some (.int .i64 v) := by
  unfold B3 at h; exact ⟨by simp [World.cell?, h], by simp [World.cell?, h], by simp [World.cell?, h]⟩
theorem B3.but {w w1 : World} {z : Nat} {T : TypeId} {x y v : Int} {l : List Nat} (h : B3 w z T x y v) (hb : But l w w1) (hz : z ∉ l) : B3 w1 z T x y v := (hb.block z (block_lt h) hz).trans h

/-- What the law keeps. -/
structure Mk (w wr : World) (z a d : Nat) (P T G x0 x1 x2 : Int) (Sa s Nd : Nat) : Prop where
  mo : B3 wr z 34 P T G
  xo : B3 wr (z + 1) 35 x0 x1 x2
  da : Dc wr a Sa
  rd : Rd wr d s Nd
  bel : Below w.heap.size w wr
  ord : z = w.heap.size ∧ z + 1 < a ∧ a < d
theorem Mk.callA {w wr w1 : World} {z a d : Nat} {P T G x0 x1 x2 : Int} {Sa s Nd S' : Nat} (h : Mk w wr z a d P T G x0 x1 x2 Sa s Nd) (hb : But [a] wr w1) (hD : Dc w1 a S') : Mk w w1 z a d P T G x0 x1 x2 S' s Nd := by
  have ho := h.ord
  exact ⟨h.mo.but hb (by simp; omega), h.xo.but hb (by simp; omega), hD, h.rd.but hb (by simp; omega), h.bel.trans (hb.below (by simp; omega) h.bel.size), ho⟩
theorem Mk.callD {w wr w1 : World} {z a d : Nat} {P T G x0 x1 x2 : Int} {Sa s Nd N' : Nat} (h : Mk w wr z a d P T G x0 x1 x2 Sa s Nd) (hb : But [d] wr w1) (hR : Rd w1 d s N') : Mk w w1 z a d P T G x0 x1 x2 Sa s N' := by
  have ho := h.ord
  exact ⟨h.mo.but hb (by simp; omega), h.xo.but hb (by simp; omega), h.da.but hb (by simp; omega), hR, h.bel.trans (hb.below (by simp; omega) h.bel.size), ho⟩
theorem Mk.none {w wr w1 : World} {z a d : Nat} {P T G x0 x1 x2 : Int} {Sa s Nd : Nat} (h : Mk w wr z a d P T G x0 x1 x2 Sa s Nd) (hb : Below wr.heap.size wr w1) : Mk w w1 z a d P T G x0 x1 x2 Sa s Nd := by
  have ho := h.ord
  exact ⟨h.mo.but (But.of_below hb) (l := []) (by simp), h.xo.but (But.of_below hb) (l := []) (by simp), h.da.below hb h.da.lt, h.rd.below hb h.rd.lt, h.bel.trans (hb.mono h.bel.size), ho⟩
theorem Mk.drewN {w wr : World} {z a d : Nat} {P T G x0 x1 x2 : Int} {Sa s Nd : Nat} (h : Mk w wr z a d P T G x0 x1 x2 Sa s Nd) (n : Nat) : Mk w (wr.drewN n) z a d P T G x0 x1 x2 Sa s Nd :=
  ⟨h.mo, h.xo, h.da, h.rd, ⟨h.bel.os, h.bel.tape, h.bel.output, h.bel.size, h.bel.block⟩, h.ord⟩
theorem mk_start {w w1 : World} {P T G x0 x1 x2 : Int} {s a : Nat} (hs : s < 18446744073709551616) (ha : a = ((w.alloc (.cells #[.int .i64 P, .int .i64 T, .int .i64 G] 34)).alloc (.cells #[.int .i64 x0, .int .i64 x1, .int .i64 x2] 35)).heap.size)
    (hD : Dc w1 a s) (hb : Below ((w.alloc (.cells #[.int .i64 P, .int .i64 T, .int .i64 G] 34)).alloc (.cells #[.int .i64 x0, .int .i64 x1, .int .i64 x2] 35)).heap.size ((w.alloc (.cells #[.int .i64 P, .int .i64 T, .int .i64 G] 34)).alloc (.cells #[.int .i64 x0, .int .i64 x1, .int .i64 x2] 35)) w1) :
    Mk w (w1.alloc (.cells #[.int .u64 (s : Int), .int .i64 0] 28)) w.heap.size a w1.heap.size P T G x0 x1 x2 s s 0 := by
  obtain ⟨k1, k2, k3⟩ := box_after hb
  have e : ((w.alloc (.cells #[.int .i64 P, .int .i64 T, .int .i64 G] 34)).alloc (.cells #[.int .i64 x0, .int .i64 x1, .int .i64 x2] 35)).heap.size = w.heap.size + 2 := by simp
  have hlt := hD.lt
  have hB := (Below.refl w1.heap.size w1).alloc (Nat.le_refl _) (.cells #[.int .u64 (s : Int), .int .i64 0] 28)
  exact ⟨(heap_al _ (block_lt k1) _).trans k1, (heap_al _ (block_lt k2) _).trans k2, hD.below hB hlt, heap_alloc_new _ _, k3.alloc k3.size _, ⟨rfl, by omega, hlt⟩⟩

/-- The document's script, whatever is asked for. -/
def RefA (w : World) (r s N : Nat) (R : List (Int × Int) × Nat) (e : Ending) (w' : World) : Prop :=
  ∃ (A : Option Addr) (cp M : Nat), e = .returned (.slice A R.1.length cp) ∧ w'.ownsRow w.heap.size 48 2 (.slice A R.1.length cp) R.1.length (flat R.1) ∧ Rd w' r s M ∧ st s M = R.2 ∧ M ≤ N + 900 ∧ But [r] w w'
theorem refScript_neg (w : World) (r : Nat) (T n : Int) (hn : n < 0) :
    Calls Try.prog 19 #[.pointer (some ⟨r, 0, none⟩), .int .i64 T, .int .i64 n] w fun e w' => e = .returned (.slice none 0 0) ∧ w = w' := by
  go_enter Try.func19, Try.ntmps19
  go_wp2_with fail
  go_loopw [7] (fun v wr => v = .slice none 0 0 ∧ w = wr) (fun v _ => 0)
  case atStart => exact ⟨rfl, rfl⟩
  case round =>
    obtain ⟨rfl, rfl⟩ := hrel
    go_wp2_with fail
    go_ret
    exact ⟨rfl, rfl⟩
theorem refScript_all (w : World) (r s N T : Nat) (n : Int) (hs : s < 18446744073709551616) (hN : N ≤ 10000) (hT : 1 ≤ T ∧ T ≤ 256) (hn : n ≤ 300) (h : Rd w r s N) :
    Calls Try.prog 19 #[.pointer (some ⟨r, 0, none⟩), .int .i64 (T : Int), .int .i64 n] w (RefA w r s N (scrAll (st s N) T n)) := by
  by_cases h0 : 0 ≤ n
  · obtain ⟨m, rfl⟩ : ∃ t : Nat, n = (t : Int) := ⟨n.toNat, by omega⟩
    refine (refScript_any w r s N T m hs hN hT.1 hT.2 (by omega) h).mono ?_
    rintro e w' ⟨A, cp, M, rfl, hO, hR, hS, hM, hB⟩
    unfold RefA scrAll
    rw [if_pos ⟨by omega, by omega, h0⟩]
    have hl := scr_len T m (st s N)
    simp only [Int.toNat_natCast, hl]
    exact ⟨A, cp, M, rfl, hO, hR, hS, by omega, hB⟩
  · refine (refScript_neg w r T n (by omega)).mono ?_
    rintro e w' ⟨rfl, rfl⟩
    unfold RefA scrAll
    rw [if_neg (by omega)]
    exact ⟨none, 0, N, rfl, World.ownsRow_nil _ _ _ _, h, rfl, by omega, But.refl _ _⟩

end Go.Proofs.Yteibdjbipfimeaa
