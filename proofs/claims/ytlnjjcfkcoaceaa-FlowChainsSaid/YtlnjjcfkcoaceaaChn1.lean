/- Chains: machines of accesses; goOn, where an access is to come, where none is, and keep. -/
import Derived.Test.YtlnjjcfkcoaceaaFlow7
import Derived.Test.YtlnjjcfkcoaceaaFlow2
import Derived.Test.YtlnjjcfkcoaceaaOpen2
import Derived.Deep.RegionWith
import Derived.Deep.AppendLies
namespace Go.Proofs.Ytlnjjcfkcoaceaa
open Go Go.RowKit
set_option linter.unusedVariables false
set_option maxRecDepth 100000
set_option linter.unusedSimpArgs false

/-- The cells of a chain. -/
def chCells (who : Int) (nx : Option Addr) (acc parts got : Value) : Array Value := #[.int .i64 who, .pointer nx, acc, parts, got]
/-- An access that is to be done. -/
structure Acc where
  k : Int
  p : Int
  i : Int
  o : Int
  v : Int
  z : Bool
def accC (a : Acc) : List Value := accL a.k a.p a.i a.o a.v a.z

/-- What is made to come: an access of the chain at block p, which keeps the answer. -/
def comAcc (a : Acc) (x : Nat) : Array Value := comCells a.k a.p a.i a.o a.v a.z .nilIface (.func (.func 119) #[.pointer (some ⟨x, 0, none⟩)] #[]) false false

/-- Accesses that are left: a slice of n of them at block b, from the r-th on. -/
def SeesB (w : World) (b : Nat) (r n : Nat) (L : Nat → Acc) : Prop := ∀ j, j < n → ∀ i u, (accC (L (r + j)))[i]? = some u → w.cell? ⟨b, (r + j) * 6 + i, none⟩ = some u

theorem goOn_none (w : World) (x : Nat) (who : Int) (nx : Option Addr) (A : Option Addr) (ca : Nat) (B : Option Addr) (cb : Nat) (got : Value) (h : Blk w x (chCells who nx (.slice A 0 ca) (.slice B 0 cb) got) 128) :
    Calls Try.prog 71 #[.pointer (some ⟨x, 0, none⟩)] w fun e w' => (∃ v, e = .returned v) ∧ w = w' := by
  have c2 := h.cell 2 (v := .slice A 0 ca) rfl
  have c3 := h.cell 3 (v := .slice B 0 cb) rfl
  clear h
  go_enter Try.func71, Try.ntmps71
  go_wp2_with fail
  go_end0
  exact ⟨⟨_, rfl⟩, rfl⟩
/-- The accesses that are left, as a value. -/
structure AccS (v : Value) (ba r n : Nat) : Prop where
  h : ∃ A c, v = .slice A n c ∧ (0 < n → A = some ⟨ba, r * 6, none⟩) ∧ n ≤ c ∧ c ≤ maxLen

set_option maxHeartbeats 1000000 in
theorem goOn_acc (w : World) (x : Nat) (who : Int) (nx : Option Addr) (ba r n : Nat) (L : Nat → Acc) (av parts got : Value) (h : Blk w x (chCells who nx av parts got) 128) (ha : AccS av ba r (n + 1)) (hs : SeesB w ba r (n + 1) L) (hb : ba < w.heap.size) (hne : ba ≠ x) (hn : n ≤ 1000000) :
    Calls Try.prog 71 #[.pointer (some ⟨x, 0, none⟩)] w fun e w' => (∃ v, e = .returned v) ∧ ∃ q av', w.heap.size ≤ q ∧ AccS av' ba (r + 1) n ∧ Blk w' x (chCells who (some ⟨q, 0, none⟩) av' parts got) 128 ∧ Blk w' q (comAcc (L r) x) 199 ∧ But [x] w w' := by
  obtain ⟨A, ca, rfl, hA, hca1, hca2⟩ := ha.h
  unfold maxLen at hca2
  obtain rfl := hA (by omega)
  have c2 := h.cell 2 (v := .slice (some ⟨ba, r * 6, none⟩) (n + 1) ca) rfl
  have f2 := h.fro 2
  have hlt := h.lt
  have H : Hid (Blk w x (chCells who nx (.slice (some ⟨ba, r * 6, none⟩) (n + 1) ca) parts got) 128) := h
  have hr := hs 0 (by omega)
  rw [Nat.add_zero] at hr
  unfold comAcc
  generalize hLr : L r = a at *
  obtain ⟨k, p, i, o, v, z⟩ := a
  have HR : Hid (w.rangeAt ba (r * 6) [.int .i64 k, .int .i64 p, .int .i64 i, .int .u64 o, .int .u64 v, .bool z]) := fun j u hu => hr j u hu
  have HC : Hid (∀ W, Blk W x (chCells who nx (.slice (some ⟨ba, r * 6, none⟩) (n + 1) ca) parts got) 128 → ∀ av', Blk (W.setCell ⟨x, 2, none⟩ av') x (chCells who nx av' parts got) 128) := fun W h av' => h.set 2 av'
  clear h hs hr hLr ha hA
  by_cases h1 : ca = 1
  · obtain rfl : n = 0 := by omega
    go_enter Try.func71, Try.ntmps71
    go_wp2_with (refine wpList_load_mid rfl 41 _ rfl ba (r * 6) rfl [.int .i64 k, .int .i64 p, .int .i64 i, .int .u64 o, .int .u64 v, .bool z] _ HR.out Try.underlying41 rfl (by kernel_rfl) ?_)
    have hW1 : Hid (Blk ((w.setCell ⟨x, 2, none⟩ (.slice (some ⟨ba, r * 6, none⟩) 0 0)).alloc (.cells #[.int .i64 k, .int .i64 p, .int .i64 i, .int .u64 o, .int .u64 v, .bool z] 41)) x (chCells who nx (.slice (some ⟨ba, r * 6, none⟩) 0 0) parts got) 128) := (HC.out w H.out _).al _
    have hB1 : Hid (But [x] w ((w.setCell ⟨x, 2, none⟩ (.slice (some ⟨ba, r * 6, none⟩) 0 0)).alloc (.cells #[.int .i64 k, .int .i64 p, .int .i64 i, .int .u64 o, .int .u64 v, .bool z] 41))) := ((But.refl [x] w).set (g := x) (.inl (by simp)) 2 _).alloc _
    have hY : Hid (Blk ((w.setCell ⟨x, 2, none⟩ (.slice (some ⟨ba, r * 6, none⟩) 0 0)).alloc (.cells #[.int .i64 k, .int .i64 p, .int .i64 i, .int .u64 o, .int .u64 v, .bool z] 41)) w.heap.size #[.int .i64 k, .int .i64 p, .int .i64 i, .int .u64 o, .int .u64 v, .bool z] 41) := by
      have := Blk.new (w.setCell ⟨x, 2, none⟩ (.slice (some ⟨ba, r * 6, none⟩) 0 0)) #[.int .i64 k, .int .i64 p, .int .i64 i, .int .u64 o, .int .u64 v, .bool z] 41
      rwa [size_set] at this
    generalize (w.setCell ⟨x, 2, none⟩ (.slice (some ⟨ba, r * 6, none⟩) 0 0)).alloc (.cells #[.int .i64 k, .int .i64 p, .int .i64 i, .int .u64 o, .int .u64 v, .bool z] 41) = W1 at *
    have y0 := hY.out.cell 0 (v := .int .i64 k) rfl
    have y1 := hY.out.cell 1 (v := .int .i64 p) rfl
    have y2 := hY.out.cell 2 (v := .int .i64 i) rfl
    have y3 := hY.out.cell 3 (v := .int .u64 o) rfl
    have y4 := hY.out.cell 4 (v := .int .u64 v) rfl
    have y5 := hY.out.cell 5 (v := .bool z) rfl
    have hCm := come_any W1.drew x _ 128 k p i o v z 119 #[.pointer (some ⟨x, 0, none⟩)] #[] hW1.out.drew (by simp [chCells])
    clear HC H HR c2 f2
    go_region_with (go_at_call 118; refine hCm.mono ?_; rintro e w2 ⟨⟨vv, rfl⟩, q, g1, g2, g3, g4⟩)
    all_goals
      clear y0 y1 y2 y3 y4 y5 hCm
      have hB2 := hB1.out.trans (((But.refl [x] W1).drew).trans g4)
      have hq : w.heap.size ≤ q := Nat.le_trans hB1.out.size g1
      go_wp2_with fail
      go_end0
      exact ⟨⟨_, rfl⟩, q, _, hq, ⟨_, _, rfl, fun h => absurd h (by omega), by omega, by unfold maxLen; omega⟩, g2, g3, hB2⟩
  · go_enter Try.func71, Try.ntmps71
    go_wp2_with (refine wpList_load_mid rfl 41 _ rfl ba (r * 6) rfl [.int .i64 k, .int .i64 p, .int .i64 i, .int .u64 o, .int .u64 v, .bool z] _ HR.out Try.underlying41 rfl (by kernel_rfl) ?_)
    have hW1 : Hid (Blk ((w.setCell ⟨x, 2, none⟩ (.slice (some ⟨ba, r * 6 + 6, none⟩) n (ca - 1))).alloc (.cells #[.int .i64 k, .int .i64 p, .int .i64 i, .int .u64 o, .int .u64 v, .bool z] 41)) x (chCells who nx (.slice (some ⟨ba, r * 6 + 6, none⟩) n (ca - 1)) parts got) 128) := (HC.out w H.out _).al _
    have hB1 : Hid (But [x] w ((w.setCell ⟨x, 2, none⟩ (.slice (some ⟨ba, r * 6 + 6, none⟩) n (ca - 1))).alloc (.cells #[.int .i64 k, .int .i64 p, .int .i64 i, .int .u64 o, .int .u64 v, .bool z] 41))) := ((But.refl [x] w).set (g := x) (.inl (by simp)) 2 _).alloc _
    have hY : Hid (Blk ((w.setCell ⟨x, 2, none⟩ (.slice (some ⟨ba, r * 6 + 6, none⟩) n (ca - 1))).alloc (.cells #[.int .i64 k, .int .i64 p, .int .i64 i, .int .u64 o, .int .u64 v, .bool z] 41)) w.heap.size #[.int .i64 k, .int .i64 p, .int .i64 i, .int .u64 o, .int .u64 v, .bool z] 41) := by
      have := Blk.new (w.setCell ⟨x, 2, none⟩ (.slice (some ⟨ba, r * 6 + 6, none⟩) n (ca - 1))) #[.int .i64 k, .int .i64 p, .int .i64 i, .int .u64 o, .int .u64 v, .bool z] 41
      rwa [size_set] at this
    generalize (w.setCell ⟨x, 2, none⟩ (.slice (some ⟨ba, r * 6 + 6, none⟩) n (ca - 1))).alloc (.cells #[.int .i64 k, .int .i64 p, .int .i64 i, .int .u64 o, .int .u64 v, .bool z] 41) = W1 at *
    have y0 := hY.out.cell 0 (v := .int .i64 k) rfl
    have y1 := hY.out.cell 1 (v := .int .i64 p) rfl
    have y2 := hY.out.cell 2 (v := .int .i64 i) rfl
    have y3 := hY.out.cell 3 (v := .int .u64 o) rfl
    have y4 := hY.out.cell 4 (v := .int .u64 v) rfl
    have y5 := hY.out.cell 5 (v := .bool z) rfl
    have hCm := come_any W1.drew x _ 128 k p i o v z 119 #[.pointer (some ⟨x, 0, none⟩)] #[] hW1.out.drew (by simp [chCells])
    clear HC H HR c2 f2
    go_region_with (go_at_call 118; refine hCm.mono ?_; rintro e w2 ⟨⟨vv, rfl⟩, q, g1, g2, g3, g4⟩)
    all_goals
      clear y0 y1 y2 y3 y4 y5 hCm
      have hB2 := hB1.out.trans (((But.refl [x] W1).drew).trans g4)
      have hq : w.heap.size ≤ q := Nat.le_trans hB1.out.size g1
      go_wp2_with fail
      go_end0
      exact ⟨⟨_, rfl⟩, q, _, hq, ⟨_, _, rfl, fun _ => by rw [show (r + 1) * 6 = r * 6 + 6 by omega], by omega, by unfold maxLen; omega⟩, g2, g3, hB2⟩
end Go.Proofs.Ytlnjjcfkcoaceaa
