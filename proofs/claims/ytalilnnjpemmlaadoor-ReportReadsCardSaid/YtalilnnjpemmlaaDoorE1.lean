/- Rows of events. -/
import Derived.Test.YtalilnnjpemmlaaDoorU1
import Derived.Deep.AppendLies
import Derived.OwnWalk
import Derived.Laws.Rows
import Derived.Laws.Cover1
import Derived.Lib.Hide
namespace Go.Proofs.YtalilnnjpemmlaaDoor
open Go Go.RowKit
set_option linter.unusedVariables false
set_option linter.unusedSimpArgs false
set_option maxRecDepth 100000

theorem info25 : (Tryd.prog.info? 25).map (fun i => (i.zero, i.size, i.bytes)) = some (some (.agg #[.int .i64 0, .int .i64 0, .int .i64 0, .int .i64 0, .int .i64 0]), 5, 40) := by kernel_rfl
/-- the cells of events -/
def flat : List Ev → List Value
  | [] => []
  | e :: l => .int .i64 e.k :: .int .i64 e.g :: .int .i64 e.o :: .int .i64 e.t :: .int .i64 e.p :: flat l
theorem flat_len : ∀ l, (flat l).length = l.length * 5
  | [] => rfl
  | e :: l => by simp [flat, flat_len l]; omega
theorem flat_app : ∀ l m, flat (l ++ m) = flat l ++ flat m
  | [], m => rfl
  | e :: l, m => by simp [flat, flat_app l m]
theorem flat_one : ∀ l, ∀ v ∈ flat l, v.oneCell' = true
  | [], v, h => by cases h
  | e :: l, v, h => by
    simp only [flat, List.mem_cons] at h
    rcases h with rfl | rfl | rfl | rfl | rfl | h
    · rfl
    · rfl
    · rfl
    · rfl
    · rfl
    · exact flat_one l v h
/-- an event's field -/
def Ev.f (e : Ev) : Nat → Int
  | 0 => e.k
  | 1 => e.g
  | 2 => e.o
  | 3 => e.t
  | _ => e.p
def at_ (l : List Ev) (j : Nat) : Ev := l.getD j ⟨0, 0, 0, 0, 0⟩
theorem flat_get : ∀ (l : List Ev) (j c : Nat), j < l.length → c < 5 → (flat l)[j * 5 + c]? = some (.int .i64 ((at_ l j).f c))
  | [], j, c, h, _ => by simp at h
  | e :: l, 0, c, _, hc => by
    obtain rfl | rfl | rfl | rfl | rfl : c = 0 ∨ c = 1 ∨ c = 2 ∨ c = 3 ∨ c = 4 := by omega
    all_goals rfl
  | e :: l, j + 1, c, h, hc => by
    have e1 : (j + 1) * 5 + c = (j * 5 + c) + 5 := by omega
    rw [e1]
    show (flat l)[j * 5 + c]? = _
    rw [flat_get l j c (by simpa using h) hc]
    rfl
/-- a slice of events -/
def Sees (w : World) (b : Nat) (A : Option Addr) (S : List Ev) : Prop :=
  0 < S.length → ∃ off, A = some ⟨b, off, none⟩ ∧ ∀ j c, j < S.length → c < 5 → w.cell? ⟨b, off + j * 5 + c, none⟩ = some (.int .i64 ((at_ S j).f c))
theorem Sees.lt {w : World} {b : Nat} {A : Option Addr} {S : List Ev} (h : Sees w b A S) (hS : 0 < S.length) : b < w.heap.size := by
  obtain ⟨off, _, hc⟩ := h hS
  exact cell_lt (hc 0 0 hS (by omega))
theorem Sees.kept {w w' : World} {b : Nat} {A : Option Addr} {S : List Ev} (h : Sees w b A S) (hk : 0 < S.length → w'.heap[b]? = w.heap[b]?) : Sees w' b A S := fun hS => by
  obtain ⟨off, e, hc⟩ := h hS
  refine ⟨off, e, fun j c hj hc5 => ?_⟩
  have k : ∀ o, w'.cell? ⟨b, o, none⟩ = w.cell? ⟨b, o, none⟩ := fun o => by simp only [World.cell?, hk hS]
  rw [k]
  exact hc j c hj hc5
theorem Sees.below {w w' : World} {b : Nat} {A : Option Addr} {S : List Ev} (h : Sees w b A S) (hb : Below w.heap.size w w') : Sees w' b A S := h.kept fun hS => hb.block b (h.lt hS)
theorem Sees.nil (w : World) (b : Nat) (A : Option Addr) : Sees w b A [] := fun h => by simp at h
/-- a row that owns its events, read -/
theorem row_sees {w : World} {B cp : Nat} {A : Option Addr} {O : List Ev} (h : w.ownsRow B 25 5 (.slice A O.length cp) O.length (flat O)) : ∃ g, (0 < O.length → B ≤ g ∧ g < w.heap.size) ∧ Sees w g A O := by
  obtain ⟨h1, h2⟩ := h
  rcases h2 with ⟨e, h2⟩ | ⟨g, cap, cur, e, hB, hg, l1, l2, l3, l4⟩
  · exact ⟨0, by omega, fun hS => by omega⟩
  · cases e
    refine ⟨g, fun _ => ⟨hB, block_lt hg⟩, fun hS => ⟨0, rfl, fun j c hj hc => ?_⟩⟩
    rw [cell_blk hg, Nat.zero_add]
    have e0 := flat_get O j c hj hc
    rw [← l4, List.getElem?_take, if_pos (by omega), Array.getElem?_toList] at e0
    exact e0
/-- the box at bl holds a row of events of its own, from B on -/
def Acc (bl B : Nat) (l : List Ev) (x : World) : Prop := ∃ A cp, x.heap[bl]? = some (.cells #[.slice A l.length cp] 22 (0, 0)) ∧ x.ownsRow B 25 5 (.slice A l.length cp) l.length (flat l) ∧ bl < B
theorem Acc.kept {bl B : Nat} {l : List Ev} {x y : World} (h : Acc bl B l x) (hk : Kt (fun k => k < B ∧ k ≠ bl) x y) : Acc bl B l y := by
  obtain ⟨A, cp, h1, h2, h4⟩ := h
  have hl := h2.lt
  refine ⟨A, cp, (hk.block bl (block_lt h1) (by simp)).trans h1, ?_, h4⟩
  refine ⟨h2.1, ?_⟩
  rcases h2.2 with e | ⟨g, cap, cur, e, hB, hg, r⟩
  · exact .inl e
  · exact .inr ⟨g, cap, cur, e, hB, (hk.block g (block_lt hg) (by omega)).trans hg, r⟩
theorem news5 (X : World) (a b c d f : Value) (T : TypeId) : ∀ j u, ([a, b, c, d, f] : List Value)[j]? = some u → (X.alloc (.cells #[a, b, c, d, f] T)).cell? ((⟨X.heap.size, 0, none⟩ : Addr).add j) = some u := fun j u hu => World.news_of_block (cs := #[a, b, c, d, f]) (heap_alloc_new X (.cells #[a, b, c, d, f] T)) j u hu
theorem news5' (X : World) (a b c d f : Value) (T : TypeId) (H : Nat) (hH : X.heap.size = H) : ∀ j u, ([a, b, c, d, f] : List Value)[j]? = some u → (X.alloc (.cells #[a, b, c, d, f] T)).cell? ((⟨H, 0, none⟩ : Addr).add j) = some u := by
  subst hH; exact news5 X a b c d f T
end Go.Proofs.YtalilnnjpemmlaaDoor
