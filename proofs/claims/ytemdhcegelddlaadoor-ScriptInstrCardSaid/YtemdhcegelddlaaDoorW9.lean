/- script.Write of the page's three entries; the page's example. -/
import Derived.Test.YtemdhcegelddlaaDoorW8
import Derived.Test.YtemdhcegelddlaaDoorBw
namespace Go.Proofs.YtemdhcegelddlaaDoor
open Go Go.RowKit
set_option linter.unusedVariables false
set_option linter.unusedSimpArgs false

theorem builder_below {B b : Nat} {p : Value} {bs : List Value} {w w' : World} (h : Lib.BuilderAt 72 5 B b p bs w) (hb : Below w.heap.size w w') : Lib.BuilderAt 72 5 B b p bs w' := by
  have hlt := h.lt
  obtain ⟨hB, v, hbk, hown, hne⟩ := h
  refine ⟨hB, v, (hb.block b hlt).trans hbk, ?_, hne⟩
  obtain ⟨h1, h2⟩ := hown
  refine ⟨h1, ?_⟩
  rcases h2 with h2 | ⟨g, cap, cur, e1, h3, h4, h5⟩
  · exact .inl h2
  · exact .inr ⟨g, cap, cur, e1, h3, (hb.block g (block_lt h4)).trans h4, h5⟩
theorem isBuilder_below {B b : Nat} {bs : List Value} {w w' : World} (h : Lib.IsBuilder 72 5 B b bs w) (hb : Below w.heap.size w w') : Lib.IsBuilder 72 5 B b bs w' := by
  rcases h with h | h
  · exact .inl (builder_below h hb)
  · exact .inr (builder_below h hb)

def nl : ByteArray := ⟨#[10]⟩
def bytes1 : List UInt8 := [115, 116, 101, 112, 32, 49, 32, 120, 32, 50, 10]
def bytes2 : List UInt8 := [115, 116, 101, 112, 32, 49, 32, 120, 32, 50, 10, 116, 105, 99, 107, 10]

def bs : Nat → List Value
  | 0 => []
  | 1 => Lib.byteCells bytes1
  | _ => Lib.byteCells bytes2
/-- what stands while the lines are written: the builder, the row of the runs, what lies below -/
structure St (c g : Nat) (cur : Array Value) (w1 wr : World) (j : Nat) : Prop where
  bd : Lib.IsBuilder 72 5 c c (bs j) wr
  row : wr.heap[g]? = some (.cells cur 76 (0, 0))
  below : Below c w1 wr
theorem St.under {c g : Nat} {cur : Array Value} {w1 wr x : World} {j : Nat} (h : St c g cur w1 wr j) (hb : Below wr.heap.size wr x) : St c g cur w1 x j :=
  ⟨isBuilder_below h.bd hb, (hb.block g (block_lt h.row)).trans h.row, h.below.trans (hb.mono (by
    obtain ⟨p, q⟩ : ∃ p, Lib.BuilderAt 72 5 c c p (bs j) wr := by rcases h.bd with h | h <;> exact ⟨_, h⟩
    have := q.lt
    omega))⟩
theorem row_cell {wr : World} {g : Nat} {cur : Array Value} (h : wr.heap[g]? = some (.cells cur 76 (0, 0))) (hc : cur.toList.take 6 = [.int .i64 1, .int .i64 1, .int .i64 2, .int .i64 3, .int .i64 0, .int .i64 1]) (i : Nat) (u : Value) (hi : i < 6)
    (hu : [Value.int .i64 1, .int .i64 1, .int .i64 2, .int .i64 3, .int .i64 0, .int .i64 1][i]? = some u) : wr.cell? ⟨g, i, none⟩ = some u := by
  have e : wr.cell? ⟨g, i, none⟩ = cur[i]? := by simp [World.cell?, h]
  rw [e]
  rw [← hc, List.getElem?_take, if_pos hi] at hu
  simpa using hu

theorem write_three (b : Nat) (w : World) (hT : Tab w) (h3 : Three w b) : Calls Tryd.prog 14 #[.slice (some ⟨b, 0, none⟩) 3 3] w fun e w' => e = .returned (.tuple #[.string ⟨bytes2.toArray⟩, .int .i64 0]) ∧ Below w.heap.size w w' := by
  have hsz := hT.size
  have hbl := h3.lt
  have HT : Hid (Tab w) := hT
  have H3 : Hid (Three w b) := h3
  clear hT h3
  have hL1 : ∀ x : World, (Op.stringOp .add stepLine ⟨#[10]⟩).run Tryd.prog x = .ok (.string ⟨#[115, 116, 101, 112, 32, 49, 32, 120, 32, 50, 10]⟩) x := fun x => by
    rw [run_string_add_sum x stepLine _ (by decide +kernel)]
    congr 2
  have hL2 : ∀ x : World, (Op.stringOp .add tickLine ⟨#[10]⟩).run Tryd.prog x = .ok (.string ⟨#[116, 105, 99, 107, 10]⟩) x := fun x => by
    rw [run_string_add_sum x tickLine _ (by decide +kernel)]
    congr 2
  go_enter Tryd.func14, Tryd.ntmps14
  go_wp2_with fail
  go_at_call 30
  refine (contains_three b w HT.out H3.out).mono ?_
  rintro e w1 ⟨rfl, hb1⟩
  have T1 : Hid (Tab w1) := HT.out.below hb1 hsz
  have F1 : Hid (Three w1 b) := H3.out.below hb1 hbl
  have B1 : Hid (Below w.heap.size w w1) := hb1
  clear hb1
  go_wp2_with fail
  go_at_call 32
  have hs1 : (w1.alloc (.cells #[.pointer none, .slice none 0 0] 72)).heap.size = w1.heap.size + 1 := by simp
  have hbd : (w1.alloc (.cells #[.pointer none, .slice none 0 0] 72)).heap[w1.heap.size]? = some (.cells #[.pointer none, .slice none 0 0] 72 (0, 0)) := heap_alloc_new _ _
  have BA : Below w1.heap.size w1 (w1.alloc (.cells #[.pointer none, .slice none 0 0] 72)) := (Below.refl _ _).alloc (Nat.le_refl _) _
  generalize w1.alloc (.cells #[.pointer none, .slice none 0 0] 72) = W at *
  have F2 : Three W b := F1.out.below BA F1.out.lt
  refine (runs_three b W F2).mono ?_
  rintro e w2 ⟨v, rfl, ho, hb2⟩
  obtain ⟨_, ho2⟩ := ho
  rcases ho2 with ⟨_, h0⟩ | ⟨g, cap, cur, rfl, hg, hgb, hcap, hmx, hcs, hcur⟩
  · exact absurd h0 (by decide)
  have hS : Hid (St w1.heap.size g cur w1 w2 0) := by
    show St _ _ _ _ _ _
    refine ⟨Or.inl ⟨Nat.le_refl _, .slice none 0 0, (hb2.block _ (by omega)).trans hbd, World.ownsRow_nil _ _ _ _, by simp [Value.ownBlock]⟩, hgb, BA.trans (hb2.mono (by omega))⟩
  have H13 : Hid (3 < w1.heap.size) := by show _ < _; have := B1.out.size; omega
  have hgc : Hid (g ≠ w1.heap.size ∧ w1.heap.size < g) := by show _ ∧ _; omega
  have hcap1 : (2 : Int) ≤ (cap : Int) := by omega
  clear BA F2 hb2 hgb hbd hs1 hg
  clear W
  have HC : Hid (cur.toList.take 6 = [.int .i64 1, .int .i64 1, .int .i64 2, .int .i64 3, .int .i64 0, .int .i64 1]) := hcur
  clear hcur
  go_wp2_with fail
  go_loopw [15] (fun i wr => ∃ j : Nat, j ≤ 2 ∧ i = .int .i64 j ∧ Hid (St w1.heap.size g cur w1 wr j)) (fun i _ => 2 - (intOf i).toNat)
  case atStart => exact ⟨0, by omega, rfl, hS⟩
  case round =>
    obtain ⟨j, hj, rfl, HS⟩ := hrel
    have r0 := row_cell HS.out.row HC.out 0 _ (by decide) rfl
    have r1 := row_cell HS.out.row HC.out 1 _ (by decide) rfl
    have r2 := row_cell HS.out.row HC.out 2 _ (by decide) rfl
    have r3 := row_cell HS.out.row HC.out 3 _ (by decide) rfl
    have r4 := row_cell HS.out.row HC.out 4 _ (by decide) rfl
    have r5 := row_cell HS.out.row HC.out 5 _ (by decide) rfl
    have hgl := block_lt HS.out.row
    have hcj : j = 0 ∨ j = 1 ∨ j = 2 := by omega
    rcases hcj with rfl | rfl | rfl
    · go_wp2_with fail
      go_at_call 34
      have BA : Below wr.heap.size wr (wr.alloc (.cells #[.int .i64 1, .int .i64 1, .int .i64 2] 76)) := (Below.refl _ _).alloc (Nat.le_refl _) _
      generalize wr.alloc (.cells #[.int .i64 1, .int .i64 1, .int .i64 2] 76) = X at *
      have S1 : Hid (St w1.heap.size g cur w1 X 0) := HS.out.under BA
      have TX : Tab X := T1.out.below S1.out.below H13.out
      clear BA HS r0 r1 r2 r3 r4 r5 hgl
      refine (line_step X TX).mono ?_
      clear TX
      rintro e w3 ⟨rfl, hb3⟩
      have S2 : Hid (St w1.heap.size g cur w1 w3 0) := S1.out.under hb3
      clear S1 hb3
      clear X
      go_wp2_with fail
      go_at_call 33
      refine (write_any w1.heap.size w1.heap.size (bs 0) _ w3 S2.out.bd (by decide +kernel) S2.out.below.size).mono ?_
      rintro e w4 ⟨rfl, hw1, hw2, hw3⟩
      have S3 : Hid (St w1.heap.size g cur w1 w4 1) := ⟨Or.inr hw1, hw3 g cur 76 (0, 0) hgc.out.1 S2.out.row (by decide), S2.out.below.trans hw2⟩
      clear hw1 hw2 hw3 S2
      go_wp2_with fail
      go_roundw
      case rel => exact ⟨1, by omega, rfl, S3⟩
      case measure => simp [intOf]
    · go_wp2_with fail
      go_at_call 34
      have BA : Below wr.heap.size wr (wr.alloc (.cells #[.int .i64 3, .int .i64 0, .int .i64 1] 76)) := (Below.refl _ _).alloc (Nat.le_refl _) _
      generalize wr.alloc (.cells #[.int .i64 3, .int .i64 0, .int .i64 1] 76) = X at *
      have S1 : Hid (St w1.heap.size g cur w1 X 1) := HS.out.under BA
      have TX : Tab X := T1.out.below S1.out.below H13.out
      clear BA HS r0 r1 r2 r3 r4 r5 hgl
      refine (line_tick X TX).mono ?_
      clear TX
      rintro e w3 ⟨rfl, hb3⟩
      have S2 : Hid (St w1.heap.size g cur w1 w3 1) := S1.out.under hb3
      clear S1 hb3
      clear X
      go_wp2_with fail
      go_at_call 33
      refine (write_any w1.heap.size w1.heap.size (bs 1) _ w3 S2.out.bd (by decide +kernel) S2.out.below.size).mono ?_
      rintro e w4 ⟨rfl, hw1, hw2, hw3⟩
      have S3 : Hid (St w1.heap.size g cur w1 w4 2) := ⟨Or.inr hw1, hw3 g cur 76 (0, 0) hgc.out.1 S2.out.row (by decide), S2.out.below.trans hw2⟩
      clear hw1 hw2 hw3 S2
      go_wp2_with fail
      go_roundw
      case rel => exact ⟨2, by omega, rfl, S3⟩
      case measure => simp [intOf]
    · have HB : Hid (Lib.IsBuilder 72 5 w1.heap.size w1.heap.size (Lib.byteCells bytes2) wr) := HS.out.bd
      have HBl : Hid (Below w1.heap.size w1 wr) := HS.out.below
      clear r0 r1 r2 r3 r4 r5 HS hgl
      go_wp2_with fail
      go_at_call 35
      refine (Builder_String w1.heap.size w1.heap.size bytes2 wr HB.out (by decide)).mono ?_
      rintro e w3 ⟨rfl, hb3⟩
      go_wp2_with fail
      go_ret2
      exact ⟨rfl, B1.out.trans ((HBl.out.trans hb3).mono B1.out.size)⟩

theorem awake_any (w : World) (hT : Tab w) : Calls Tryd.prog 11 #[] w fun e w' => e = .returned (.bool true) ∧ Below w.heap.size w w' := by
  have hsz := hT.size
  have HT : Hid (Tab w) := hT
  clear hT
  go_enter Tryd.func11, Tryd.ntmps11
  go_wp2_with fail
  go_at_call 14
  have F : Three (w.alloc (.cells #[.int .i64 1, .int .i64 1, .int .i64 1, .int .i64 1, .int .i64 3, .int .i64 0] 36)) w.heap.size := ⟨by simp, by simp, by simp, by simp, by simp, by simp⟩
  have BA : Below w.heap.size w (w.alloc (.cells #[.int .i64 1, .int .i64 1, .int .i64 1, .int .i64 1, .int .i64 3, .int .i64 0] 36)) := (Below.refl _ _).alloc (Nat.le_refl _) _
  generalize w.alloc (.cells #[.int .i64 1, .int .i64 1, .int .i64 1, .int .i64 1, .int .i64 3, .int .i64 0] 36) = X at *
  have H := write_three w.heap.size X (HT.out.below BA hsz) F
  rw [show (⟨bytes2.toArray⟩ : ByteArray) = ⟨#[115, 116, 101, 112, 32, 49, 32, 120, 32, 50, 10, 116, 105, 99, 107, 10]⟩ from rfl] at H
  clear F
  refine H.mono ?_
  clear H
  rintro e w1 ⟨rfl, hb1⟩
  go_wp2
  go_ret
  exact ⟨rfl, BA.trans (hb1.mono BA.size)⟩
end Go.Proofs.YtemdhcegelddlaaDoor
