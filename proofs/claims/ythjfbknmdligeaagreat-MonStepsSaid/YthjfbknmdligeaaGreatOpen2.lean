/- Words, grounds, pokes and accesses that came in, as the walks see them. -/
import Derived.Test.YthjfbknmdligeaaGreatOpen
import Derived.Test.YthjfbknmdligeaaGreatPub3
import Derived.Test.YthjfbknmdligeaaGreatGnd2
import Derived.Deep.SlicePairs
namespace Go.Proofs.YthjfbknmdligeaaGreat
open Go Go.ChangeShapes Go.WideShapes Go.ChangeAt Go.RowKit Go.Deep
set_option linter.unusedVariables false
set_option maxRecDepth 100000
set_option linter.unusedSimpArgs false

theorem sees_words {H : Type} {enc : TypeId × Value → H} {P : Program} {W : World} {base b0 : Nat} {t e : TypeId} {v : Value} {d : DataW H} {p : List MemPlace} (ht : P.underlying t = some (.slice e)) (he : P.underlying e = some (.int .u64)) (hc : P.cellsOf e = 1)
    (hv : Value.okWide P W .any b0 t v) (h : DataW.Trod enc P W base (fun _ => true) true t v d p) :
    ∃ (A : Option Addr) (n cap : Nat) (f : Nat → Int), v = .slice A n cap ∧ n ≤ maxLen ∧ (A = none → n = 0 ∧ cap = 0) ∧ SeesU W W.heap.size A n f ∧ ∀ i, i < n → 0 ≤ f i ∧ f i ≤ 18446744073709551615 := by
  obtain ⟨A, n, cap, rfl⟩ := okWide_slice ht hv
  obtain ⟨fuel, hf⟩ := h
  rcases open_ints ht he hc hf with ⟨hcs, _⟩ | ⟨x, l, c, zs, hcs, _, hl, hm, hz, _, hcell, hwz⟩
  · simp [Value.cells] at hcs
    obtain ⟨rfl, rfl, rfl⟩ := hcs
    exact ⟨none, 0, 0, fun _ => 0, rfl, Nat.zero_le _, fun _ => ⟨rfl, rfl⟩, fun h => absurd h (Nat.lt_irrefl 0), fun i hi => absurd hi (Nat.not_lt_zero i)⟩
  · simp [Value.cells] at hcs
    obtain ⟨rfl, rfl, rfl⟩ := hcs
    have hz' : zs.length = cap := by simpa using hz
    refine ⟨some x, n, cap, fun i => zs.getD i 0, rfl, Nat.le_trans hl hm, (fun h => by cases h), ?_, ?_⟩
    · intro hn
      obtain ⟨b, off, spot⟩ := x
      have hs : spot = none := by
        have := hcell 0 (by omega)
        simpa [Addr.add] using World.cell?_spot this
      subst hs
      have hc0 := hcell 0 (by omega)
      simp [Addr.add] at hc0
      refine ⟨b, off, rfl, cell_lt hc0, fun i hi => ?_⟩
      have := hcell i (by omega)
      by_cases h0 : i = 0
      · subst h0; simpa [Addr.add] using this
      · simpa [Addr.add, h0] using this
    · intro i hi
      have : zs.getD i 0 ∈ zs := by
        rw [List.getD_eq_getElem?_getD, List.getElem?_eq_getElem (by omega)]
        exact List.getElem_mem _
      exact bounds_u64 (hwz _ this)


section
variable {H : Type} {enc : TypeId × Value → H} {P : Program} {W : World} {base : Nat} {sp : Nat → Bool} {held : Bool}
theorem one_int {T : TypeId} {q : IntKind} {cs : List Value} {xs : List (DataW H × List MemPlace)} {n j : Nat} {fl : Field} (o : fl.offset = j) (c : P.cellsOf fl.type = 1) (u : P.underlying fl.type = some (.int q)) (hlt : j < cs.length) (hx : j < xs.length)
    (g : DataW.trod enc P W base sp held n fl.type ((cs.drop fl.offset).take (P.cellsOf fl.type)) = xs[j]?) : ∃ a : Int, cs[j]? = some (.int q a) ∧ (Lit.int q a).wf = true := by
  rw [o, c, take1_drop cs j undef hlt, List.getElem?_eq_getElem hx] at g
  obtain ⟨a, e, _, wa⟩ := DataW.trod_int u g
  refine ⟨a, ?_, wa⟩
  simp only [List.cons.injEq, and_true] at e
  rw [List.getD_eq_getElem?_getD, List.getElem?_eq_getElem hlt] at e
  rw [List.getElem?_eq_getElem hlt]
  exact congrArg some e

variable {f0 f1 f2 f3 f4 : Field}
/-- A struct of three ints and two words: its cells. -/
theorem act_cells {e : TypeId} {fuel : Nat} {cs : List Value} {x : DataW H × List MemPlace} (hs : P.underlying e = some (.struct #[f0, f1, f2, f3, f4])) (ho : f0.offset = 0 ∧ f1.offset = 1 ∧ f2.offset = 2 ∧ f3.offset = 3 ∧ f4.offset = 4)
    (hc : P.cellsOf f0.type = 1 ∧ P.cellsOf f1.type = 1 ∧ P.cellsOf f2.type = 1 ∧ P.cellsOf f3.type = 1 ∧ P.cellsOf f4.type = 1)
    (hu : P.underlying f0.type = some (.int .i64) ∧ P.underlying f1.type = some (.int .i64) ∧ P.underlying f2.type = some (.int .i64) ∧ P.underlying f3.type = some (.int .u64) ∧ P.underlying f4.type = some (.int .u64)) (hl : cs.length = 5)
    (h : DataW.trod enc P W base sp held fuel e cs = some x) :
    ∃ k p i o v : Int, cs = [.int .i64 k, .int .i64 p, .int .i64 i, .int .u64 o, .int .u64 v] ∧ 0 ≤ v ∧ v ≤ 18446744073709551615 := by
  obtain ⟨xs, n, _, _, _, hxl, hg⟩ := DataW.trod_struct hs h
  have hxl' : xs.length = 5 := hxl
  obtain ⟨k, ek, _⟩ := one_int (T := e) ho.1 hc.1 hu.1 (by omega) (by omega) (hg 0 f0 rfl)
  obtain ⟨p, ep, _⟩ := one_int (T := e) ho.2.1 hc.2.1 hu.2.1 (by omega) (by omega) (hg 1 f1 rfl)
  obtain ⟨i, ei, _⟩ := one_int (T := e) ho.2.2.1 hc.2.2.1 hu.2.2.1 (by omega) (by omega) (hg 2 f2 rfl)
  obtain ⟨o, eo, _⟩ := one_int (T := e) ho.2.2.2.1 hc.2.2.2.1 hu.2.2.2.1 (by omega) (by omega) (hg 3 f3 rfl)
  obtain ⟨v, ev, wv⟩ := one_int (T := e) ho.2.2.2.2 hc.2.2.2.2 hu.2.2.2.2 (by omega) (by omega) (hg 4 f4 rfl)
  refine ⟨k, p, i, o, v, ?_, bounds_u64 wv⟩
  match cs, hl with
  | [c0, c1, c2, c3, c4], _ =>
    simp at ek ep ei eo ev
    rw [ek, ep, ei, eo, ev]


theorem one_bool {T : TypeId} {cs : List Value} {xs : List (DataW H × List MemPlace)} {n j : Nat} {fl : Field} (o : fl.offset = j) (c : P.cellsOf fl.type = 1) (u : P.underlying fl.type = some .bool) (hlt : j < cs.length) (hx : j < xs.length)
    (g : DataW.trod enc P W base sp held n fl.type ((cs.drop fl.offset).take (P.cellsOf fl.type)) = xs[j]?) : ∃ a : Bool, cs[j]? = some (.bool a) := by
  rw [o, c, take1_drop cs j undef hlt, List.getElem?_eq_getElem hx] at g
  obtain ⟨a, e, _⟩ := DataW.trod_bool u g
  refine ⟨a, ?_⟩
  simp only [List.cons.injEq, and_true] at e
  rw [List.getD_eq_getElem?_getD, List.getElem?_eq_getElem hlt] at e
  rw [List.getElem?_eq_getElem hlt]
  exact congrArg some e

/-- A struct of three ints: its cells. -/
theorem three_cells {e : TypeId} {fuel : Nat} {cs : List Value} {x : DataW H × List MemPlace} (hs : P.underlying e = some (.struct #[f0, f1, f2])) (ho : f0.offset = 0 ∧ f1.offset = 1 ∧ f2.offset = 2)
    (hc : P.cellsOf f0.type = 1 ∧ P.cellsOf f1.type = 1 ∧ P.cellsOf f2.type = 1) (hu : P.underlying f0.type = some (.int .i64) ∧ P.underlying f1.type = some (.int .i64) ∧ P.underlying f2.type = some (.int .i64)) (hl : cs.length = 3)
    (h : DataW.trod enc P W base sp held fuel e cs = some x) : ∃ a b c : Int, cs = [.int .i64 a, .int .i64 b, .int .i64 c] := by
  obtain ⟨xs, n, _, _, _, hxl, hg⟩ := DataW.trod_struct hs h
  have hxl' : xs.length = 3 := hxl
  obtain ⟨k, ek, _⟩ := one_int (T := e) ho.1 hc.1 hu.1 (by omega) (by omega) (hg 0 f0 rfl)
  obtain ⟨p, ep, _⟩ := one_int (T := e) ho.2.1 hc.2.1 hu.2.1 (by omega) (by omega) (hg 1 f1 rfl)
  obtain ⟨i, ei, _⟩ := one_int (T := e) ho.2.2 hc.2.2 hu.2.2 (by omega) (by omega) (hg 2 f2 rfl)
  refine ⟨k, p, i, ?_⟩
  match cs, hl with
  | [c0, c1, c2], _ =>
    simp at ek ep ei
    rw [ek, ep, ei]
/-- A struct of an int and a word: its cells. -/
theorem put_cells {e : TypeId} {fuel : Nat} {cs : List Value} {x : DataW H × List MemPlace} (hs : P.underlying e = some (.struct #[f0, f1])) (ho : f0.offset = 0 ∧ f1.offset = 1)
    (hc : P.cellsOf f0.type = 1 ∧ P.cellsOf f1.type = 1) (hu : P.underlying f0.type = some (.int .i64) ∧ P.underlying f1.type = some (.int .u64)) (hl : cs.length = 2)
    (h : DataW.trod enc P W base sp held fuel e cs = some x) : ∃ a b : Int, cs = [.int .i64 a, .int .u64 b] ∧ 0 ≤ b ∧ b ≤ 18446744073709551615 := by
  obtain ⟨xs, n, _, _, _, hxl, hg⟩ := DataW.trod_struct hs h
  have hxl' : xs.length = 2 := hxl
  obtain ⟨k, ek, _⟩ := one_int (T := e) ho.1 hc.1 hu.1 (by omega) (by omega) (hg 0 f0 rfl)
  obtain ⟨p, ep, wp⟩ := one_int (T := e) ho.2 hc.2 hu.2 (by omega) (by omega) (hg 1 f1 rfl)
  refine ⟨k, p, ?_, bounds_u64 wp⟩
  match cs, hl with
  | [c0, c1], _ =>
    simp at ek ep
    rw [ek, ep]
/-- A poke: a bool and an act. -/
theorem poke_cells {e : TypeId} {g0 g1 : Field} {fuel : Nat} {cs : List Value} {x : DataW H × List MemPlace} (hE : P.underlying e = some (.struct #[g0, g1])) (hgo : g0.offset = 0 ∧ g1.offset = 1) (hgc : P.cellsOf g0.type = 1 ∧ P.cellsOf g1.type = 5) (hgb : P.underlying g0.type = some .bool)
    (hs : P.underlying g1.type = some (.struct #[f0, f1, f2, f3, f4])) (ho : f0.offset = 0 ∧ f1.offset = 1 ∧ f2.offset = 2 ∧ f3.offset = 3 ∧ f4.offset = 4)
    (hc : P.cellsOf f0.type = 1 ∧ P.cellsOf f1.type = 1 ∧ P.cellsOf f2.type = 1 ∧ P.cellsOf f3.type = 1 ∧ P.cellsOf f4.type = 1)
    (hu : P.underlying f0.type = some (.int .i64) ∧ P.underlying f1.type = some (.int .i64) ∧ P.underlying f2.type = some (.int .i64) ∧ P.underlying f3.type = some (.int .u64) ∧ P.underlying f4.type = some (.int .u64)) (hl : cs.length = 6)
    (h : DataW.trod enc P W base sp held fuel e cs = some x) :
    ∃ (z : Bool) (k p i o v : Int), cs = [.bool z, .int .i64 k, .int .i64 p, .int .i64 i, .int .u64 o, .int .u64 v] ∧ 0 ≤ v ∧ v ≤ 18446744073709551615 := by
  obtain ⟨xs, n, _, _, _, hxl, hg⟩ := DataW.trod_struct hE h
  have hxl' : xs.length = 2 := hxl
  obtain ⟨z, ez⟩ := one_bool (T := e) hgo.1 hgc.1 hgb (by omega) (by omega) (hg 0 g0 rfl)
  have g := hg 1 g1 rfl
  rw [hgo.2, hgc.2, List.getElem?_eq_getElem (by omega)] at g
  obtain ⟨k, p, i, o, v, e1, hv⟩ := act_cells hs ho hc hu (by simp; omega) g
  refine ⟨z, k, p, i, o, v, ?_, hv⟩
  match cs, hl with
  | [c0, c1, c2, c3, c4, c5], _ =>
    simp at ez e1
    obtain ⟨r1, r2, r3, r4, r5⟩ := e1
    rw [ez, r1, r2, r3, r4, r5]
/-- An access: three ints, two words and a bool. -/
theorem acc_cells {e : TypeId} {f5 : Field} {fuel : Nat} {cs : List Value} {x : DataW H × List MemPlace} (hs : P.underlying e = some (.struct #[f0, f1, f2, f3, f4, f5])) (ho : f0.offset = 0 ∧ f1.offset = 1 ∧ f2.offset = 2 ∧ f3.offset = 3 ∧ f4.offset = 4 ∧ f5.offset = 5)
    (hc : P.cellsOf f0.type = 1 ∧ P.cellsOf f1.type = 1 ∧ P.cellsOf f2.type = 1 ∧ P.cellsOf f3.type = 1 ∧ P.cellsOf f4.type = 1 ∧ P.cellsOf f5.type = 1)
    (hu : P.underlying f0.type = some (.int .i64) ∧ P.underlying f1.type = some (.int .i64) ∧ P.underlying f2.type = some (.int .i64) ∧ P.underlying f3.type = some (.int .u64) ∧ P.underlying f4.type = some (.int .u64) ∧ P.underlying f5.type = some .bool) (hl : cs.length = 6)
    (h : DataW.trod enc P W base sp held fuel e cs = some x) :
    ∃ (k p i o v : Int) (z : Bool), cs = [.int .i64 k, .int .i64 p, .int .i64 i, .int .u64 o, .int .u64 v, .bool z] ∧ (0 ≤ o ∧ o ≤ 18446744073709551615) ∧ (0 ≤ v ∧ v ≤ 18446744073709551615) := by
  obtain ⟨xs, n, _, _, _, hxl, hg⟩ := DataW.trod_struct hs h
  have hxl' : xs.length = 6 := hxl
  obtain ⟨k, ek, _⟩ := one_int (T := e) ho.1 hc.1 hu.1 (by omega) (by omega) (hg 0 f0 rfl)
  obtain ⟨p, ep, _⟩ := one_int (T := e) ho.2.1 hc.2.1 hu.2.1 (by omega) (by omega) (hg 1 f1 rfl)
  obtain ⟨i, ei, _⟩ := one_int (T := e) ho.2.2.1 hc.2.2.1 hu.2.2.1 (by omega) (by omega) (hg 2 f2 rfl)
  obtain ⟨o, eo, wo⟩ := one_int (T := e) ho.2.2.2.1 hc.2.2.2.1 hu.2.2.2.1 (by omega) (by omega) (hg 3 f3 rfl)
  obtain ⟨v, ev, wv⟩ := one_int (T := e) ho.2.2.2.2.1 hc.2.2.2.2.1 hu.2.2.2.2.1 (by omega) (by omega) (hg 4 f4 rfl)
  obtain ⟨z, ez⟩ := one_bool (T := e) ho.2.2.2.2.2 hc.2.2.2.2.2 hu.2.2.2.2.2 (by omega) (by omega) (hg 5 f5 rfl)
  refine ⟨k, p, i, o, v, z, ?_, bounds_u64 wo, bounds_u64 wv⟩
  match cs, hl with
  | [c0, c1, c2, c3, c4, c5], _ =>
    simp at ek ep ei eo ev ez
    rw [ek, ep, ei, eo, ev, ez]
end

/-- A slice of n elements of k cells each, seen in memory below block B. -/
def SeesC (w : World) (B : Nat) (E : Option Addr) (n k : Nat) (C : Nat → List Value) : Prop :=
  0 < n → ∃ b off : Nat, E = some ⟨b, off, none⟩ ∧ b < B ∧ ∀ j, j < n → ∀ i u, (C j)[i]? = some u → w.cell? ⟨b, off + j * k + i, none⟩ = some u
theorem SeesC.below {w w' : World} {B B' n k : Nat} {E : Option Addr} {C : Nat → List Value} (h : SeesC w B E n k C) (hb : Below B' w w') (hB : B ≤ B') : SeesC w' B E n k C := fun hn => by
  obtain ⟨b, off, e, hlt, hc⟩ := h hn
  exact ⟨b, off, e, hlt, fun j hj i u hu => (hb.cell (p := ⟨b, off + j * k + i, none⟩) (Nat.lt_of_lt_of_le hlt hB)).trans (hc j hj i u hu)⟩
theorem SeesC.more {w : World} {B B' n k : Nat} {E : Option Addr} {C : Nat → List Value} (h : SeesC w B E n k C) (hB : B ≤ B') : SeesC w B' E n k C := fun hn => by
  obtain ⟨b, off, e, hlt, hc⟩ := h hn
  exact ⟨b, off, e, Nat.lt_of_lt_of_le hlt hB, hc⟩

theorem add_plain' (b off k : Nat) : (⟨b, off, none⟩ : Addr).add k = ⟨b, off + k, none⟩ := by
  unfold Addr.add; split <;> simp_all
theorem open_structs {H : Type} {enc : TypeId × Value → H} {P : Program} {W : World} {base : Nat} {t e : TypeId} {fuel k : Nat} {cs : List Value} {x : DataW H × List MemPlace} (Q : List Value → Prop) (ht : P.underlying t = some (.slice e)) (hC : P.cellsOf e = k) (hk : 0 < k)
    (hq : ∀ (f : Nat) (l : List Value) (y : DataW H × List MemPlace), l.length = k → DataW.trod enc P W base (fun _ => true) true f e l = some y → Q l)
    (h : DataW.trod enc P W base (fun _ => true) true fuel t cs = some x) :
    ∃ (A : Option Addr) (n cap : Nat) (C : Nat → List Value), cs = [.slice A n cap] ∧ n ≤ maxLen ∧ (A = none → n = 0 ∧ cap = 0) ∧ SeesC W W.heap.size A n k C ∧ ∀ j, j < n → (C j).length = k ∧ Q (C j) := by
  rcases open_slice ht h with ⟨hcs, _⟩ | ⟨a, l, c, m, q, D, Pl, hcs, _, hl, hm, hmm, _, hx⟩
  · exact ⟨none, 0, 0, fun _ => [], hcs, Nat.zero_le _, fun _ => ⟨rfl, rfl⟩, fun h => absurd h (Nat.lt_irrefl 0), fun i hi => absurd hi (Nat.not_lt_zero i)⟩
  · have hmm' : m = c := by simpa using hmm
    subst hmm'
    have each : ∀ j, j < l → ∃ C : List Value, (∀ i u, C[i]? = some u → W.cell? (a.add (j * k + i)) = some u) ∧ C.length = k ∧ Q C := by
      intro j hj
      obtain ⟨cs', h1, h2⟩ := hx j (by omega)
      rw [hC] at h1
      obtain ⟨_, hlen, hcell⟩ := World.cells?_some h1
      refine ⟨cs', fun i u hu => ?_, hlen, hq _ _ _ hlen h2⟩
      have hi : i < k := by rw [← hlen]; exact (List.getElem?_eq_some_iff.1 hu).1
      have := hcell i hi
      rw [add_add, hu] at this
      exact this
    obtain ⟨C, hy⟩ := choose_lt each
    refine ⟨some a, l, m, C, hcs, Nat.le_trans hl hm, (fun h => by cases h), fun hn => ?_, fun j hj => (hy j hj).2⟩
    obtain ⟨b, off, spot⟩ := a
    have hlen := (hy 0 hn).2.1
    have h0 := (hy 0 hn).1 0 ((C 0)[0]'(by omega)) (List.getElem?_eq_getElem (by omega))
    have hsp : spot = none := by
      simpa [Addr.add] using World.cell?_spot h0
    subst hsp
    rw [add_plain'] at h0
    refine ⟨b, off, rfl, cell_lt h0, fun j hj i u hu => ?_⟩
    have := (hy j hj).1 i u hu
    rw [add_plain'] at this
    rw [Nat.add_assoc]
    exact this

/-- A ground that came in. -/
theorem open_ground {H : Type} {enc : TypeId × Value → H} {W : World} {base b0 : Nat} {v : Value} {d : DataW H} {p : List MemPlace}
    (hv : Value.okWide Tryz.prog W .any b0 26 v) (h : DataW.Trod enc Tryz.prog W base (fun _ => true) true 26 v d p) :
    ∃ (P T G : Int) (E : Option Addr) (m cp : Nat) (a x : Nat → Int), v = .agg #[.int .i64 P, .int .i64 T, .int .i64 G, .slice E m cp] ∧ m ≤ maxLen ∧ SeesP W W.heap.size E m a x ∧ ∀ j, j < m → 0 ≤ x j ∧ x j ≤ 18446744073709551615 := by
  obtain ⟨cs, rfl, hsz⟩ := okWide_struct Tryz.underlying26 hv
  have hl : cs.toList.length = 4 := by
    have : Tryz.prog.cellsOf 26 = 4 := by kernel_rfl
    simpa using hsz.trans this
  obtain ⟨fuel, hf⟩ := h
  obtain ⟨xs, n, _, _, _, hxl, hg⟩ := DataW.trod_struct Tryz.underlying26 hf
  have hxl' : xs.length = 2 := hxl
  have g0 : DataW.trod enc Tryz.prog W base (fun _ => true) true n 23 ((cs.toList.drop 0).take (Tryz.prog.cellsOf 23)) = xs[0]? := hg 0 _ rfl
  have g1 : DataW.trod enc Tryz.prog W base (fun _ => true) true n 24 ((cs.toList.drop 3).take (Tryz.prog.cellsOf 24)) = xs[1]? := hg 1 _ rfl
  rw [List.getElem?_eq_getElem (by omega)] at g0 g1
  rw [show Tryz.prog.cellsOf 23 = 3 by kernel_rfl] at g0
  rw [show Tryz.prog.cellsOf 24 = 1 by kernel_rfl] at g1
  obtain ⟨P, T, G, e1⟩ := three_cells Tryz.underlying23 ⟨rfl, rfl, rfl⟩ ⟨by kernel_rfl, by kernel_rfl, by kernel_rfl⟩ ⟨Tryz.underlying3, Tryz.underlying3, Tryz.underlying3⟩ (by rw [List.length_take, List.length_drop, hl]; rfl) g0
  obtain ⟨E, m, cp, C, e2, hm, hnil, hC, hQ⟩ := open_structs (k := 2) (fun l => ∃ a b : Int, l = [.int .i64 a, .int .u64 b] ∧ 0 ≤ b ∧ b ≤ 18446744073709551615) Tryz.underlying24 (by kernel_rfl) (by omega)
    (fun f l y hl hy => put_cells Tryz.underlying73 ⟨rfl, rfl⟩ ⟨by kernel_rfl, by kernel_rfl⟩ ⟨Tryz.underlying3, Tryz.underlying41⟩ hl hy) g1
  obtain ⟨ab, hab⟩ := choose_lt (p := fun j (q : Int × Int) => C j = [.int .i64 q.1, .int .u64 q.2] ∧ 0 ≤ q.2 ∧ q.2 ≤ 18446744073709551615) (fun j hj => by obtain ⟨_, a, b, e, hb⟩ := hQ j hj; exact ⟨(a, b), e, hb⟩)
  refine ⟨P, T, G, E, m, cp, fun j => (ab j).1, fun j => (ab j).2, ?_, hm, ?_, fun j hj => (hab j hj).2⟩
  · have : cs.toList = [.int .i64 P, .int .i64 T, .int .i64 G, .slice E m cp] := by
      match hcs : cs.toList, hl with
      | [c0, c1, c2, c3], _ =>
        rw [hcs] at e1 e2
        simp at e1 e2
        obtain ⟨r1, r2, r3⟩ := e1
        rw [r1, r2, r3, e2]
    rw [← Array.toArray_toList (xs := cs), this]
  · intro hp
    obtain ⟨b, off, e, hlt, hc⟩ := hC hp
    refine ⟨b, off, e, hlt, fun j hj => ?_⟩
    have e3 := (hab j hj).1
    exact ⟨hc j hj 0 _ (by rw [e3]; rfl), hc j hj 1 _ (by rw [e3]; rfl)⟩
end Go.Proofs.YthjfbknmdligeaaGreat
