/- The contracts of the laws' helpers Same and Do: both memories, side by side. -/
import Derived.Test.YthjfbknmdligeaaGreatRNew
namespace Go.Proofs.YthjfbknmdligeaaGreat
open Go Go.RowKit
set_option linter.unusedVariables false
set_option maxRecDepth 100000
set_option linter.unusedSimpArgs false

theorem drewN_size (w : World) (n : Nat) : (w.drewN n).heap.size = w.heap.size := rfl
theorem Below.drewN' {B : Nat} {a w : World} (h : Below B a w) (n : Nat) : Below B a (w.drewN n) := ⟨h.os, h.tape, h.output, h.size, h.block⟩

theorem same_any (w : World) (A B : Option Addr) (n cap cap' : Nat) (f : Nat → Int) (hn : n ≤ 1000000) (hA : SeesU w w.heap.size A n f) (hB : SeesU w w.heap.size B n f) :
    Calls Tryz.prog 22 #[.slice A n cap, .slice B n cap'] w fun e w' => e = .returned (.bool true) ∧ ∃ m, w' = w.drewN m := by
  have HA : Hid (SeesU w w.heap.size A n f) := hA
  have HB : Hid (SeesU w w.heap.size B n f) := hB
  clear hA hB
  go_enter Tryz.func22, Tryz.ntmps22
  go_wp2_with fail
  go_loopw [5] (fun i wr => ∃ k m : Nat, k ≤ n ∧ i = .int .i64 k ∧ wr = w.drewN m) (fun i _ => n - (intOf i).toNat)
  case atStart => exact ⟨0, 0, Nat.zero_le _, rfl, rfl⟩
  case round =>
    obtain ⟨k, m, hk, rfl, rfl⟩ := hrel
    by_cases hlt : k < n
    · obtain ⟨b, off, rfl, hbB, hcell⟩ := HA.out (by omega)
      obtain ⟨b', off', rfl, hbB', hcell'⟩ := HB.out (by omega)
      have e0 : w.cell? ⟨b, off + k, none⟩ = some (.int .u64 (f k)) := hcell k hlt
      have e1 : w.cell? ⟨b', off' + k, none⟩ = some (.int .u64 (f k)) := hcell' k hlt
      clear hcell hcell'
      generalize f k = x at e0 e1
      go_wp2_with fail
      go_quiet (fail)
      go_wp2_with fail
      go_roundw
      case rel => exact ⟨k + 1, _, by omega, by go_num, rfl⟩
      case measure => simp [intOf]; omega
    · obtain rfl : k = n := by omega
      go_wp2_with fail
      go_ret
      exact ⟨rfl, m, rfl⟩

/-- Both memories in one state, apart. -/
structure Two (w : World) (A A' : Option Addr) (cap cap' c b c' b' n : Nat) (s : St) : Prop where
  m : Is w 114 A cap c b n s
  r : Is w 64 A' cap' c' b' n s
  ne : c ≠ c' ∧ c ≠ b' ∧ b ≠ c' ∧ b ≠ b'
theorem Two.below {w w' : World} {A A' : Option Addr} {cap cap' c b c' b' n : Nat} {s : St} (h : Two w A A' cap cap' c b c' b' n s) (hb : Below w.heap.size w w') : Two w' A A' cap cap' c b c' b' n s :=
  ⟨h.m.below hb, h.r.below hb, h.ne⟩

/-- An act in a box of its own. -/
structure ActAt (w : World) (q : Nat) (k who i old new : Int) : Prop where
  blk : w.heap[q]? = some (.cells #[.int .i64 k, .int .i64 who, .int .i64 i, .int .u64 old, .int .u64 new] 43 (0, 0))
theorem ActAt.cells {w : World} {q : Nat} {k who i old new : Int} (h : ActAt w q k who i old new) :
    w.cell? ⟨q, 0, none⟩ = some (.int .i64 k) ∧ w.cell? ⟨q, 1, none⟩ = some (.int .i64 who) ∧ w.cell? ⟨q, 2, none⟩ = some (.int .i64 i) ∧ w.cell? ⟨q, 3, none⟩ = some (.int .u64 old) ∧ w.cell? ⟨q, 4, none⟩ = some (.int .u64 new) := by
  refine ⟨?_, ?_, ?_, ?_, ?_⟩ <;> simp [World.cell?, h.blk]

/-- What an act asks, by its kind. -/
def actS (k who i old new : Int) (n : Nat) (s : St) : St := if k = 2 then stp 2 who i 0 new n s else if k = 3 then stp 3 who i old new n s else if k = 4 then stp 4 who i 0 new n s else stp 1 who i 0 0 n s
theorem actS_low {s : St} {m : Int} (h : Low s m) (k who i old new : Int) (n : Nat) : Low (actS k who i old new n s) (m + 1) := by
  unfold actS
  split
  · exact stp_low h _ _ _ _ _ _
  split
  · exact stp_low h _ _ _ _ _ _
  split
  · exact stp_low h _ _ _ _ _ _
  · exact stp_low h _ _ _ _ _ _

/-- Behind an act: both memories in the next state. -/
def Did (w : World) (A A' : Option Addr) (cap cap' c b c' b' n : Nat) (s' : St) (e : Ending) (w' : World) : Prop :=
  e = .returned (.bool true) ∧ Two w' A A' cap cap' c b c' b' n s' ∧ But [c, b, c', b'] w w'

section
variable {w W : World} {A A' : Option Addr} {cap cap' c b c' b' n : Nat} {s s' : St}
/-- What stands when the first memory has done its part. -/
structure Half (W w1 : World) (A A' : Option Addr) (cap cap' c b c' b' n : Nat) (s s' : St) (q : Nat) (k who i old new : Int) : Prop where
  m : Is w1 114 A cap c b n s'
  r : Is w1 64 A' cap' c' b' n s
  ne : c ≠ c' ∧ c ≠ b' ∧ b ≠ c' ∧ b ≠ b'
  act : ActAt w1 q k who i old new
  but : But [c, b, c', b'] W w1
theorem half_of {k who i old new : Int} (h : Two w A A' cap cap' c b c' b' n s) {w1 : World} (hm : Is w1 114 A cap c b n s') (hB : But [c, b] (w.alloc (.cells #[.int .i64 k, .int .i64 who, .int .i64 i, .int .u64 old, .int .u64 new] 43)) w1) :
    Half w w1 A A' cap cap' c b c' b' n s s' w.heap.size k who i old new := by
  obtain ⟨n1, n2, n3, n4⟩ := h.ne
  have h1 := h.m.lt
  have h2 := h.m.bl
  have ha : Below w.heap.size w (w.alloc (.cells #[.int .i64 k, .int .i64 who, .int .i64 i, .int .u64 old, .int .u64 new] 43)) := (Below.refl _ _).alloc (Nat.le_refl _) _
  refine ⟨hm, (h.r.below ha).but hB (by simp; omega) (by simp; omega), h.ne, ⟨?_⟩, ((But.of_below ha).trans (hB.more (fun k _ hk => by simp at hk ⊢; omega)))⟩
  rw [hB.block _ (by simp) (by simp; omega)]
  exact heap_alloc_new _ _
theorem Half.done {q : Nat} {k who i old new : Int} {w1 w2 : World} (h : Half W w1 A A' cap cap' c b c' b' n s s' q k who i old new) (hr : Is w2 64 A' cap' c' b' n s') (hB : But [c', b'] w1 w2) :
    Two w2 A A' cap cap' c b c' b' n s' ∧ But [c, b, c', b'] W w2 := by
  obtain ⟨n1, n2, n3, n4⟩ := h.ne
  exact ⟨⟨h.m.but hB (by simp; omega) (by simp; omega), hr, h.ne⟩, h.but.trans (hB.more (fun k _ hk => by simp at hk ⊢; omega))⟩
end
end Go.Proofs.YthjfbknmdligeaaGreat
