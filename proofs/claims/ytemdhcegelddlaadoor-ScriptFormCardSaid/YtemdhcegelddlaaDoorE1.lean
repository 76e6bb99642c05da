/- Rows of entries. -/
import Derived.Test.YtemdhcegelddlaaDoorU1
import Derived.Deep.AppendLies
import Derived.OwnWalk
import Derived.Laws.Rows
import Derived.Laws.Cover1
import Derived.Laws.CopyRow
import Derived.Lib.Hide
namespace Go.Proofs.YtemdhcegelddlaaDoor
open Go Go.RowKit
set_option linter.unusedVariables false
set_option linter.unusedSimpArgs false
set_option maxRecDepth 100000

theorem info36 : (Tryd.prog.info? 36).map (fun i => (i.zero, i.size, i.bytes)) = some (some (.agg #[.int .i64 0, .int .i64 0]), 2, 16) := by kernel_rfl
theorem info76 : (Tryd.prog.info? 76).map (fun i => (i.zero, i.size, i.bytes)) = some (some (.agg #[.int .i64 0, .int .i64 0, .int .i64 0]), 3, 24) := by kernel_rfl
def En.cells (e : En) : Array Value := #[.int .i64 e.k, .int .i64 e.w]
def En.v (e : En) : Value := .agg e.cells
/-- the cells of entries -/
def flat : List En → List Value
  | [] => []
  | e :: l => .int .i64 e.k :: .int .i64 e.w :: flat l
theorem flat_len : ∀ l, (flat l).length = l.length * 2
  | [] => rfl
  | e :: l => by simp [flat, flat_len l]; omega
theorem flat_app : ∀ l m, flat (l ++ m) = flat l ++ flat m
  | [], m => rfl
  | e :: l, m => by simp [flat, flat_app l m]
theorem flat_one : ∀ l, ∀ v ∈ flat l, v.oneCell' = true
  | [], v, h => by cases h
  | e :: l, v, h => by
    simp only [flat, List.mem_cons] at h
    rcases h with rfl | rfl | h
    · rfl
    · rfl
    · exact flat_one l v h
def at_ (l : List En) (j : Nat) : En := l.getD j ⟨0, 0⟩
theorem flat_get0 : ∀ (l : List En) (j : Nat), j < l.length → (flat l)[j * 2]? = some (.int .i64 (at_ l j).k)
  | [], j, h => by simp at h
  | e :: l, 0, _ => rfl
  | e :: l, j + 1, h => by
    have e1 : (j + 1) * 2 = j * 2 + 2 := by omega
    rw [e1]
    show (flat l)[j * 2]? = _
    rw [flat_get0 l j (by simpa using h)]
    rfl
theorem flat_get1 : ∀ (l : List En) (j : Nat), j < l.length → (flat l)[j * 2 + 1]? = some (.int .i64 (at_ l j).w)
  | [], j, h => by simp at h
  | e :: l, 0, _ => rfl
  | e :: l, j + 1, h => by
    have e1 : (j + 1) * 2 + 1 = (j * 2 + 1) + 2 := by omega
    rw [e1]
    show (flat l)[j * 2 + 1]? = _
    rw [flat_get1 l j (by simpa using h)]
    rfl
/-- a slice of entries, in block b -/
def Sees (w : World) (b : Nat) (A : Option Addr) (S : List En) : Prop :=
  0 < S.length → ∃ off, A = some ⟨b, off, none⟩ ∧ ∀ j, j < S.length → w.cell? ⟨b, off + j * 2, none⟩ = some (.int .i64 (at_ S j).k) ∧ w.cell? ⟨b, off + j * 2 + 1, none⟩ = some (.int .i64 (at_ S j).w)
theorem Sees.lt {w : World} {b : Nat} {A : Option Addr} {S : List En} (h : Sees w b A S) (hS : 0 < S.length) : b < w.heap.size := by
  obtain ⟨off, _, hc⟩ := h hS
  exact cell_lt (hc 0 hS).1
theorem Sees.kept {w w' : World} {b : Nat} {A : Option Addr} {S : List En} (h : Sees w b A S) (hk : 0 < S.length → w'.heap[b]? = w.heap[b]?) : Sees w' b A S := fun hS => by
  obtain ⟨off, e, hc⟩ := h hS
  refine ⟨off, e, fun j hj => ?_⟩
  have k : ∀ o, w'.cell? ⟨b, o, none⟩ = w.cell? ⟨b, o, none⟩ := fun o => by simp only [World.cell?, hk hS]
  rw [k, k]
  exact hc j hj
theorem Sees.below {w w' : World} {b : Nat} {A : Option Addr} {S : List En} (h : Sees w b A S) (hb : Below w.heap.size w w') : Sees w' b A S := h.kept fun hS => hb.block b (h.lt hS)
/-- a row that owns its entries, read -/
theorem row_sees {w : World} {B cp : Nat} {A : Option Addr} {O : List En} (h : w.ownsRow B 36 2 (.slice A O.length cp) O.length (flat O)) : ∃ g, (0 < O.length → B ≤ g ∧ g < w.heap.size) ∧ Sees w g A O := by
  obtain ⟨h1, h2⟩ := h
  rcases h2 with ⟨e, h2⟩ | ⟨g, cap, cur, e, hB, hg, l1, l2, l3, l4⟩
  · exact ⟨0, by omega, fun hS => by omega⟩
  · cases e
    refine ⟨g, fun _ => ⟨hB, block_lt hg⟩, fun hS => ⟨0, rfl, fun j hj => ?_⟩⟩
    rw [cell_blk hg, cell_blk hg, Nat.zero_add]
    have e0 := flat_get0 O j hj
    have e1 := flat_get1 O j hj
    rw [← l4, List.getElem?_take, if_pos (by omega), Array.getElem?_toList] at e0 e1
    exact ⟨e0, e1⟩
theorem own_below {B T sz : Nat} {v : Value} {n : Nat} {xs : List Value} {x y : World} (h : x.ownsRow B T sz v n xs) (hb : Below x.heap.size x y) : y.ownsRow B T sz v n xs := by
  refine ⟨h.1, ?_⟩
  rcases h.2 with e | ⟨g, cap, cur, e, hB, hg, r⟩
  · exact .inl e
  · exact .inr ⟨g, cap, cur, e, hB, (hb.block g (block_lt hg)).trans hg, r⟩
theorem own_base {X : World} {B B' T sz : Nat} {v : Value} {k : Nat} {xs : List Value} (h : X.ownsRow B T sz v k xs) (hB : B' ≤ B) : X.ownsRow B' T sz v k xs := by
  refine ⟨h.1, ?_⟩
  rcases h.2 with hn | ⟨g, cap, cur, e, hg, hr⟩
  · exact Or.inl hn
  · exact Or.inr ⟨g, cap, cur, e, Nat.le_trans hB hg, hr⟩
/-- the box at bl holds a row of entries of its own, from B on -/
def Acc (bl B TS : Nat) (l : List En) (x : World) : Prop := ∃ A cp, x.heap[bl]? = some (.cells #[.slice A l.length cp] TS (0, 0)) ∧ x.ownsRow B 36 2 (.slice A l.length cp) l.length (flat l) ∧ bl < B
theorem Acc.kept {bl B TS : Nat} {l : List En} {x y : World} (h : Acc bl B TS l x) (hk : Kt (fun k => k < B ∧ k ≠ bl) x y) : Acc bl B TS l y := by
  obtain ⟨A, cp, h1, h2, h4⟩ := h
  have hl := h2.lt
  refine ⟨A, cp, (hk.block bl (block_lt h1) (by simp)).trans h1, ?_, h4⟩
  refine ⟨h2.1, ?_⟩
  rcases h2.2 with e | ⟨g, cap, cur, e, hB, hg, r⟩
  · exact .inl e
  · exact .inr ⟨g, cap, cur, e, hB, (hk.block g (block_lt hg) (by omega)).trans hg, r⟩
theorem news2 (X : World) (a b : Value) (T : TypeId) (H : Nat) (hH : X.heap.size = H) : ∀ j u, ([a, b] : List Value)[j]? = some u → (X.alloc (.cells #[a, b] T)).cell? ((⟨H, 0, none⟩ : Addr).add j) = some u := by
  subst hH; exact fun j u hu => World.news_of_block (cs := #[a, b]) (heap_alloc_new X (.cells #[a, b] T)) j u hu
theorem news3 (X : World) (a b c : Value) (T : TypeId) (H : Nat) (hH : X.heap.size = H) : ∀ j u, ([a, b, c] : List Value)[j]? = some u → (X.alloc (.cells #[a, b, c] T)).cell? ((⟨H, 0, none⟩ : Addr).add j) = some u := by
  subst hH; exact fun j u hu => World.news_of_block (cs := #[a, b, c]) (heap_alloc_new X (.cells #[a, b, c] T)) j u hu
theorem ext_at {a b : List En} (h : a.length = b.length) (hx : ∀ j, j < a.length → at_ a j = at_ b j) : a = b := by
  apply List.ext_getElem h
  intro i h1 h2
  have := hx i h1
  unfold at_ at this
  rw [List.getD_eq_getElem?_getD, List.getD_eq_getElem?_getD, List.getElem?_eq_getElem h1, List.getElem?_eq_getElem h2] at this
  simpa using this
theorem at_mem {l : List En} {k : Nat} (hk : k < l.length) : at_ l k ∈ l := by
  unfold at_
  rw [List.getD_eq_getElem?_getD, List.getElem?_eq_getElem hk]
  exact List.getElem_mem hk
theorem take_at {l : List En} {k : Nat} (hk : k < l.length) : l.take (k + 1) = l.take k ++ [at_ l k] := by
  rw [List.take_succ_eq_append_getElem hk]
  unfold at_
  rw [List.getD_eq_getElem?_getD, List.getElem?_eq_getElem hk]; rfl
/-! ### rows of runs -/
def flatR : List (En × Nat) → List Value
  | [] => []
  | p :: l => .int .i64 p.1.k :: .int .i64 p.1.w :: .int .i64 (p.2 : Int) :: flatR l
theorem flatR_len : ∀ l, (flatR l).length = l.length * 3
  | [] => rfl
  | e :: l => by simp [flatR, flatR_len l]; omega
theorem flatR_app : ∀ l m, flatR (l ++ m) = flatR l ++ flatR m
  | [], m => rfl
  | e :: l, m => by simp [flatR, flatR_app l m]
theorem flatR_one : ∀ l, ∀ v ∈ flatR l, v.oneCell' = true
  | [], v, h => by cases h
  | e :: l, v, h => by
    simp only [flatR, List.mem_cons] at h
    rcases h with rfl | rfl | rfl | h
    · rfl
    · rfl
    · rfl
    · exact flatR_one l v h
def atR (l : List (En × Nat)) (j : Nat) : En × Nat := l.getD j (⟨0, 0⟩, 0)
theorem flatR_get : ∀ (l : List (En × Nat)) (j : Nat), j < l.length → (flatR l)[j * 3]? = some (.int .i64 (atR l j).1.k) ∧ (flatR l)[j * 3 + 1]? = some (.int .i64 (atR l j).1.w) ∧ (flatR l)[j * 3 + 2]? = some (.int .i64 ((atR l j).2 : Int))
  | [], j, h => by simp at h
  | e :: l, 0, _ => ⟨rfl, rfl, rfl⟩
  | e :: l, j + 1, h => by
    have e1 : (j + 1) * 3 = j * 3 + 3 := by omega
    have e2 : (j + 1) * 3 + 1 = (j * 3 + 1) + 3 := by omega
    have e3 : (j + 1) * 3 + 2 = (j * 3 + 2) + 3 := by omega
    rw [e3, e2, e1]
    exact flatR_get l j (by simpa using h)
theorem row_runs {w : World} {B cp : Nat} {A : Option Addr} {O : List (En × Nat)} (h : w.ownsRow B 76 3 (.slice A O.length cp) O.length (flatR O)) (hO : 0 < O.length) : ∃ g, B ≤ g ∧ g < w.heap.size ∧ A = some ⟨g, 0, none⟩ ∧ ∀ j, j < O.length → w.cell? ⟨g, j * 3, none⟩ = some (.int .i64 (atR O j).1.k) ∧ w.cell? ⟨g, j * 3 + 1, none⟩ = some (.int .i64 (atR O j).1.w) ∧ w.cell? ⟨g, j * 3 + 2, none⟩ = some (.int .i64 ((atR O j).2 : Int)) := by
  obtain ⟨h1, h2⟩ := h
  rcases h2 with ⟨e, h2⟩ | ⟨g, cap, cur, e, hB, hg, l1, l2, l3, l4⟩
  · omega
  · cases e
    refine ⟨g, hB, block_lt hg, rfl, fun j hj => ?_⟩
    rw [cell_blk hg, cell_blk hg, cell_blk hg]
    obtain ⟨e0, e1, e2⟩ := flatR_get O j hj
    rw [← l4, List.getElem?_take, if_pos (by omega), Array.getElem?_toList] at e0 e1 e2
    exact ⟨e0, e1, e2⟩
theorem run_copy_rowN {P : Program} (w : World) (dT sT ty elem : TypeId) (g o dLen dCap : Nat) (a : Addr) (sLen sCap : Nat) (cur : Array Value) (t : TypeId) (cs : List Value) (size : Nat)
    (hu : P.underlying dT = some (.slice elem)) (hs : (P.info? elem).map (·.size) = some size)
    (hg : w.heap[g]? = some (.cells cur t (0, 0))) (hn : cs.length = Nat.min sLen dLen * size)
    (hsrc : ∀ j v, cs[j]? = some v → w.cell? (a.add j) = some v) (hfit : o + cs.length ≤ cur.size) (h1 : ∀ v ∈ cs, v.oneCell' = true) :
    (Builtin.copy_ #[dT, sT] ty #[.slice (some ⟨g, o, none⟩) dLen dCap, .slice (some a) sLen sCap]).run P w =
      .ok (goInt (Nat.min sLen dLen)) (w.setRow g (cur.toList.take o ++ cs ++ cur.toList.drop (o + cs.length)).toArray) := by
  have hl := run_loadCells_list (P := P) w a cs hsrc
  have hst := run_storeCells_at P g o t cs 0 cur w hg (by simpa using hfit) h1
  cases hq : P.info? elem with
  | none => simp [hq] at hs
  | some i =>
    have hi : i.size = size := by simpa [hq] using hs
    simp [Builtin.copy_, run_underlying hu, Builtin.lenOf, Builtin.firstCells, sizeOf, typeInfo, hq, hi, ← hn, hl, hst]
/-! ### runs, as the walk meets them -/
theorem same1_at (e : En) : ∀ (t : List En) (j : Nat), (∀ i, i < j → at_ (e :: t) i = e) → 1 ≤ j → j ≤ t.length + 1 → (j < t.length + 1 → at_ (e :: t) j ≠ e) → same1 e t + 1 = j
  | [], j, _, h1, h2, _ => by simp at h2; simp [same1]; omega
  | x :: t, j, h, h1, h2, h3 => by
    simp only [same1]
    by_cases hj : j = 1
    · subst hj
      have := h3 (by simp)
      have hx : at_ (e :: x :: t) 1 = x := rfl
      rw [hx] at this
      rw [if_neg this]
    · have hx : x = e := h 1 (by omega)
      subst hx
      rw [if_pos rfl]
      have ih := same1_at x t (j - 1) (fun i hi => by
        have := h (i + 1) (by omega)
        exact this) (by omega) (by simp at h2; omega) (fun hl => by
        have := h3 (by simp; omega)
        obtain ⟨m, rfl⟩ : ∃ m, j = m + 1 := ⟨j - 1, by omega⟩
        exact this)
      omega
theorem grp_cons (f : Nat) (r : List En) (j : Nat) (hr : 0 < r.length) (h : ∀ i, i < j → at_ r i = at_ r 0) (h1 : 1 ≤ j) (h2 : j ≤ r.length) (h3 : j < r.length → at_ r j ≠ at_ r 0) : grp (f + 1) r = (at_ r 0, j) :: grp f (r.drop j) := by
  cases r with
  | nil => simp at hr
  | cons e t =>
    have e0 : at_ (e :: t) 0 = e := rfl
    rw [e0] at h h3 ⊢
    have hs := same1_at e t j h h1 (by simpa using h2) (by simpa using h3)
    show (e, same1 e t + 1) :: grp f (t.drop (same1 e t)) = _
    rw [hs]
    obtain ⟨m, rfl⟩ : ∃ m, j = m + 1 := ⟨j - 1, by omega⟩
    have : same1 e t = m := by omega
    rw [this]
    rfl
theorem grp_len : ∀ (f : Nat) (l : List En), (grp f l).length ≤ l.length
  | 0, _ => by simp [grp]
  | f + 1, [] => by simp [grp]
  | f + 1, e :: l => by
    show ((e, same1 e l + 1) :: grp f (l.drop (same1 e l))).length ≤ _
    have := grp_len f (l.drop (same1 e l))
    simp at this ⊢
    omega
theorem at_drop (r : List En) (j i : Nat) : at_ (r.drop j) i = at_ r (j + i) := by
  unfold at_
  rw [List.getD_eq_getElem?_getD, List.getD_eq_getElem?_getD, List.getElem?_drop]
theorem grp_nil (f : Nat) : grp f [] = [] := by cases f <;> rfl
end Go.Proofs.YtemdhcegelddlaaDoor
