/- Many that acquire and release a lock: who has which turn. -/
import Derived.Test.YtlnjjcfkcoaceaaLock4
import Derived.Test.YtlnjjcfkcoaceaaPoke
namespace Go.Proofs.Ytlnjjcfkcoaceaa
open Go Go.RowKit
set_option linter.unusedVariables false
set_option maxRecDepth 100000
set_option linter.unusedSimpArgs false


/-- A thread: it has nothing to do with the lock; it acquires it, by its turn n; it releases it. o: a machine that is done. -/
inductive TS
  | idle (o : Option Nat)
  | acq (o : Option Nat) (x q g ph n : Nat) (t : Int)
  | rel (x q g ph n : Nat)
def oL (o : Option Nat) : List Nat := match o with | none => [] | some x => [x]
def ptr (o : Option Nat) : Value := match o with | none => .pointer none | some x => .pointer (some ⟨x, 0, none⟩)
def TS.inP : TS → Option Nat | .idle _ => none | .acq _ x _ _ _ _ _ => some x | .rel _ _ _ _ _ => none
def TS.outP : TS → Option Nat | .idle o => o | .acq o _ _ _ _ _ _ => o | .rel x _ _ _ _ => some x
def TS.fp : TS → List Nat | .idle o => oL o | .acq o x q g _ _ _ => x :: q :: g :: oL o | .rel x q g _ _ => [x, q, g]
def TS.num : TS → Option Nat | .idle _ => none | .acq _ _ _ _ ph n _ => if ph = 0 then none else some n | .rel _ _ _ _ n => some n
def TS.hold : TS → Bool | .idle _ => false | .acq _ _ _ _ ph _ _ => decide (2 ≤ ph) | .rel _ _ _ _ _ => true
def TS.isRel : TS → Bool | .idle _ => false | .acq _ _ _ _ _ _ _ => false | .rel _ _ _ _ _ => true
def OutOk (w : World) (o : Option Nat) : Prop := ∀ x, o = some x → w.cell? ⟨x, 1, none⟩ = some (.pointer none)
inductive TOn (w : World) (t : Nat) (first : Int) : TS → Prop
  | idle (o : Option Nat) : OutOk w o → TOn w t first (.idle o)
  | acq (o : Option Nat) (x q g ph n : Nat) (u : Int) : OutOk w o → Acq w x t 0 1 2 q g ph u → (1 ≤ ph → u = (first + n) % 4294967296) → TOn w t first (.acq o x q g ph n u)
  | rel (x q g ph n : Nat) : Rel w x t 1 2 q g ph → ph ≤ 1 → TOn w t first (.rel x q g ph n)

theorem OutOk.but {w w' : World} {o : Option Nat} {l : List Nat} (h : OutOk w o) (hB : But l w w') (hl : ∀ k ∈ oL o, k ∉ l) : OutOk w' o := fun x e => by
  subst e
  have h1 := h x rfl
  have hlt : x < w.heap.size := by
    rcases Nat.lt_or_ge x w.heap.size with h2 | h2
    · exact h2
    · simp [World.cell?, Array.getElem?_eq_none h2] at h1
  have hb := hB.block x hlt (hl x (by simp [oL]))
  rw [show w'.cell? ⟨x, 1, none⟩ = w.cell? ⟨x, 1, none⟩ by simp [World.cell?, hb]]
  exact h1
theorem TOn.but {w w' : World} {t : Nat} {first : Int} {X : TS} {l : List Nat} (h : TOn w t first X) (hB : But l w w') (hl : ∀ k ∈ X.fp, k ∉ l) : TOn w' t first X := by
  cases h with
  | idle o h1 => exact .idle o (h1.but hB hl)
  | acq o x q g ph n u h1 h2 h3 =>
    exact .acq o x q g ph n u (h1.but hB (fun k hk => hl k (by simp [TS.fp, hk]))) (h2.but hB (hl x (by simp [TS.fp])) (hl q (by simp [TS.fp])) (hl g (by simp [TS.fp]))) h3
  | rel x q g ph n h1 h2 => exact .rel x q g ph n (h1.but hB (hl x (by simp [TS.fp])) (hl q (by simp [TS.fp])) (hl g (by simp [TS.fp]))) h2
theorem TOn.lt {w : World} {t : Nat} {first : Int} {X : TS} (h : TOn w t first X) : ∀ k ∈ X.fp, k < w.heap.size := by
  have ho : ∀ o, OutOk w o → ∀ k ∈ oL o, k < w.heap.size := fun o h k hk => by
    cases o with
    | none => simp [oL] at hk
    | some x =>
      simp [oL] at hk
      subst hk
      have h1 := h _ rfl
      rcases Nat.lt_or_ge k w.heap.size with h2 | h2
      · exact h2
      · simp [World.cell?, Array.getElem?_eq_none h2] at h1
  cases h with
  | idle o h1 => exact ho o h1
  | acq o x q g ph n u h1 h2 h3 =>
    intro k hk
    simp only [TS.fp, List.mem_cons] at hk
    rcases hk with rfl | rfl | rfl | hk
    · exact h2.lt.1
    · exact h2.lt.2.1
    · exact h2.lt.2.2
    · exact ho o h1 k hk
  | rel x q g ph n h1 h2 =>
    intro k hk
    simp only [TS.fp, List.mem_cons, List.not_mem_nil, or_false] at hk
    rcases hk with rfl | rfl | rfl
    · exact h1.lt.1
    · exact h1.lt.2.1
    · exact h1.lt.2.2

def upS (S : Nat → TS) (t : Nat) (X : TS) : Nat → TS := fun k => if k = t then X else S k
theorem upS_at (S : Nat → TS) (t : Nat) (X : TS) : upS S t X t = X := by unfold upS; simp
theorem upS_ne (S : Nat → TS) {t k : Nat} (X : TS) (h : k ≠ t) : upS S t X k = S k := by unfold upS; simp [h]

structure Sys (w0 w : World) (T : Nat) (first : Int) (A : Option Addr) (cap c b n : Nat) (s : St) (bi bo : Nat) (S : Nat → TS) : Prop where
  mem : Is w 122 A cap c b n s
  ins : ∃ ci, Blk w bi ci 75 ∧ ci.size = T ∧ ∀ t, t < T → ci[t]? = some (ptr (S t).inP)
  outs : ∃ co, Blk w bo co 76 ∧ co.size = T ∧ ∀ t, t < T → co[t]? = some (ptr (S t).outP)
  on : ∀ t, t < T → TOn w t first (S t)
  far : ∀ t, t < T → ∀ k ∈ (S t).fp, (k ≠ c ∧ k ≠ b ∧ k ≠ bi ∧ k ≠ bo) ∧ w0.heap.size ≤ k
  dis : ∀ t u, t < T → u < T → t ≠ u → ∀ k ∈ (S t).fp, k ∉ (S u).fp
  apart : bi ≠ bo ∧ bi ≠ c ∧ bi ≠ b ∧ bo ≠ c ∧ bo ≠ b
  up : w0.heap.size ≤ c ∧ w0.heap.size ≤ b ∧ w0.heap.size ≤ bi ∧ w0.heap.size ≤ bo
  below : Below w0.heap.size w0 w

section
variable {w0 w w' : World} {T : Nat} {first : Int} {A : Option Addr} {cap c b n : Nat} {s s' : St} {bi bo : Nat} {S : Nat → TS}
theorem Sys.lts (h : Sys w0 w T first A cap c b n s bi bo S) : bi < w.heap.size ∧ bo < w.heap.size := by
  obtain ⟨ci, h1, -⟩ := h.ins
  obtain ⟨co, h2, -⟩ := h.outs
  exact ⟨h1.lt, h2.lt⟩
theorem Sys.any (h : Sys w0 w T first A cap c b n s bi bo S) {t : Nat} (ht : t < T) {l : List Nat} (hB : But l w w') (hl : ∀ k ∈ l, k = c ∨ k = b ∨ k = bi ∨ k = bo ∨ k ∈ (S t).fp) (hI : Is w' 122 A cap c b n s') (X : TS)
    (hins : ∃ ci, Blk w' bi ci 75 ∧ ci.size = T ∧ ∀ u, u < T → ci[u]? = some (ptr (upS S t X u).inP)) (houts : ∃ co, Blk w' bo co 76 ∧ co.size = T ∧ ∀ u, u < T → co[u]? = some (ptr (upS S t X u).outP))
    (hX : TOn w' t first X) (hf : ∀ k ∈ X.fp, k ∈ (S t).fp ∨ w.heap.size ≤ k) : Sys w0 w' T first A cap c b n s' bi bo (upS S t X) := by
  have hlt := h.lts
  have hm := h.mem.lt
  have hmb := h.mem.bl
  refine ⟨hI, hins, houts, fun u hu => ?_, fun u hu k hk => ?_, fun u v hu hv huv k hk hk2 => ?_, h.apart, h.up, h.below.trans (hB.below (fun k hk => ?_) h.below.size)⟩
  · by_cases hut : u = t
    · subst hut; rw [upS_at]; exact hX
    · rw [upS_ne _ _ hut]
      refine (h.on u hu).but hB (fun k hk hkl => ?_)
      obtain ⟨⟨e1, e2, e3, e4⟩, -⟩ := h.far u hu k hk
      rcases hl k hkl with e | e | e | e | e
      · exact e1 e
      · exact e2 e
      · exact e3 e
      · exact e4 e
      · exact h.dis u t hu ht hut k hk e
  · by_cases hut : u = t
    · subst hut
      rw [upS_at] at hk
      rcases hf k hk with e | e
      · exact h.far u hu k e
      · exact ⟨⟨by omega, by omega, by omega, by omega⟩, Nat.le_trans h.below.size e⟩
    · rw [upS_ne _ _ hut] at hk
      exact h.far u hu k hk
  · by_cases hut : u = t
    · subst hut
      rw [upS_at] at hk
      rw [upS_ne _ _ (Ne.symm huv)] at hk2
      rcases hf k hk with e | e
      · exact h.dis u v hu hv huv k e hk2
      · have := (h.on v hv).lt k hk2; omega
    · by_cases hvt : v = t
      · subst hvt
        rw [upS_at] at hk2
        rw [upS_ne _ _ hut] at hk
        rcases hf k hk2 with e | e
        · exact h.dis u v hu hv huv k hk e
        · have := (h.on u hu).lt k hk; omega
      · rw [upS_ne _ _ hut] at hk
        rw [upS_ne _ _ hvt] at hk2
        exact h.dis u v hu hv huv k hk hk2
  · rcases hl k hk with rfl | rfl | rfl | rfl | e
    · exact h.up.1
    · exact h.up.2.1
    · exact h.up.2.2.1
    · exact h.up.2.2.2
    · exact (h.far t ht k e).2
/-- A machine's step: the pointers stay. -/
theorem Sys.go (h : Sys w0 w T first A cap c b n s bi bo S) {t : Nat} (ht : t < T) {l : List Nat} (hB : But l w w') (hl : ∀ k ∈ l, k = c ∨ k = b ∨ k ∈ (S t).fp) (hI : Is w' 122 A cap c b n s') (X : TS) (hin : X.inP = (S t).inP) (hout : X.outP = (S t).outP)
    (hX : TOn w' t first X) (hf : ∀ k ∈ X.fp, k ∈ (S t).fp ∨ w.heap.size ≤ k) : Sys w0 w' T first A cap c b n s' bi bo (upS S t X) := by
  obtain ⟨n1, n2, n3, n4, n5⟩ := h.apart
  have hbi : bi ∉ l := fun hk => by
    rcases hl _ hk with e | e | e
    · exact n2 e
    · exact n3 e
    · exact (h.far t ht _ e).1.2.2.1 rfl
  have hbo : bo ∉ l := fun hk => by
    rcases hl _ hk with e | e | e
    · exact n4 e
    · exact n5 e
    · exact (h.far t ht _ e).1.2.2.2 rfl
  obtain ⟨ci, i1, i2, i3⟩ := h.ins
  obtain ⟨co, o1, o2, o3⟩ := h.outs
  refine h.any ht hB (fun k hk => by rcases hl k hk with e | e | e <;> simp [e]) hI X ⟨ci, i1.but hB hbi, i2, fun u hu => ?_⟩ ⟨co, o1.but hB hbo, o2, fun u hu => ?_⟩ hX hf
  · by_cases hut : u = t
    · subst hut; rw [upS_at, hin]; exact i3 u hu
    · rw [upS_ne _ _ hut]; exact i3 u hu
  · by_cases hut : u = t
    · subst hut; rw [upS_at, hout]; exact o3 u hu
    · rw [upS_ne _ _ hut]; exact o3 u hu
theorem Sys.still (h : Sys w0 w T first A cap c b n s bi bo S) (hB : Below w.heap.size w w') : Sys w0 w' T first A cap c b n s bi bo S := by
  obtain ⟨ci, i1, i2, i3⟩ := h.ins
  obtain ⟨co, o1, o2, o3⟩ := h.outs
  have hb : But [] w w' := But.of_below hB
  exact ⟨h.mem.below hB, ⟨ci, i1.but hb (by simp), i2, i3⟩, ⟨co, o1.but hb (by simp), o2, o3⟩, fun t ht => (h.on t ht).but hb (fun k hk => by simp), h.far, h.dis, h.apart, h.up, h.below.trans (hB.mono h.below.size)⟩
theorem set_at {ci : Array Value} {T t : Nat} (hs : ci.size = T) (ht : t < T) (v : Value) (u : Nat) : (ci.setIfInBounds t v)[u]? = if u = t then some v else ci[u]? := by
  rw [Array.getElem?_setIfInBounds]
  by_cases h : t = u
  · subst h; rw [if_pos rfl, if_pos rfl, if_pos (by omega)]
  · rw [if_neg h, if_neg (Ne.symm h)]
/-- A machine that acquires begins. -/
theorem Sys.begin (h : Sys w0 w T first A cap c b n s bi bo S) {t : Nat} (ht : t < T) {o : Option Nat} (hS : S t = .idle o) (hB : Below w.heap.size w w') {x q : Nat} (hx : w.heap.size ≤ x) (hq : w.heap.size ≤ q) (hA : Acq w' x t 0 1 2 q x 0 0) :
    Sys w0 (w'.setCell ⟨bi, t, none⟩ (.pointer (some ⟨x, 0, none⟩))) T first A cap c b n s bi bo (upS S t (.acq o x q x 0 0 0)) := by
  have h1 := h.still hB
  obtain ⟨n1, n2, n3, n4, n5⟩ := h.apart
  obtain ⟨hlt1, hlt2⟩ := h.lts
  obtain ⟨ci, i1, i2, i3⟩ := h1.ins
  obtain ⟨co, o1, o2, o3⟩ := h1.outs
  have hBs : But [bi] w' (w'.setCell ⟨bi, t, none⟩ (.pointer (some ⟨x, 0, none⟩))) := (But.refl _ w').set (g := bi) (.inl (by simp)) t _
  have hBB : But [bi] w (w'.setCell ⟨bi, t, none⟩ (.pointer (some ⟨x, 0, none⟩))) := (But.of_below (l := [bi]) hB).trans hBs
  have hon := h.on t ht
  rw [hS] at hon
  cases hon with
  | idle o hO =>
    have hol : ∀ k ∈ oL o, k ∉ [bi] := fun k hk hk2 => by
      have := (h.far t ht k (by rw [hS]; exact hk)).1.2.2.1
      simp at hk2
      exact this hk2
    refine h.any ht hBB (by simp) (h1.mem.but hBs (by simp; exact Ne.symm n2) (by simp; exact Ne.symm n3)) _ ⟨_, i1.set t _, by simp [i2], fun u hu => ?_⟩ ⟨co, o1.but hBs (by simp; exact Ne.symm n1), o2, fun u hu => ?_⟩ (.acq o x q x 0 0 0 (hO.but hBB hol) (hA.but hBs (by simp; omega) (by simp; omega) (by simp; omega)) (fun h => absurd h (by omega))) (fun k hk => ?_)
    · rw [set_at i2 ht]
      by_cases hut : u = t
      · subst hut; rw [if_pos rfl, upS_at]; rfl
      · rw [if_neg hut, upS_ne _ _ hut]; exact i3 u hu
    · by_cases hut : u = t
      · subst hut; rw [upS_at, o3 u hu, hS]; rfl
      · rw [upS_ne _ _ hut]; exact o3 u hu
    · simp only [TS.fp, List.mem_cons] at hk
      rcases hk with rfl | rfl | rfl | hk
      · exact .inr hx
      · exact .inr hq
      · exact .inr hx
      · exact .inl (by rw [hS]; exact hk)
/-- It has the lock; a machine that releases it begins. -/
theorem Sys.enter (h : Sys w0 w T first A cap c b n s bi bo S) {t : Nat} (ht : t < T) {o : Option Nat} {x q g ph k : Nat} {u : Int} (hS : S t = .acq o x q g ph k u) {w2 : World} (hB : Below (w.setCell ⟨bi, t, none⟩ (.pointer none)).heap.size (w.setCell ⟨bi, t, none⟩ (.pointer none)) w2) {x' q' g' : Nat} (hx : w.heap.size ≤ x') (hq : w.heap.size ≤ q') (hg : w.heap.size ≤ g') (hR : Rel w2 x' t 1 2 q' g' 0) :
    Sys w0 (w2.setCell ⟨bo, t, none⟩ (.pointer (some ⟨x', 0, none⟩))) T first A cap c b n s bi bo (upS S t (.rel x' q' g' 0 k)) := by
  obtain ⟨n1, n2, n3, n4, n5⟩ := h.apart
  obtain ⟨hlt1, hlt2⟩ := h.lts
  obtain ⟨ci, i1, i2, i3⟩ := h.ins
  obtain ⟨co, o1, o2, o3⟩ := h.outs
  have hB1 : But [bi, bo] w (w.setCell ⟨bi, t, none⟩ (.pointer none)) := (But.refl _ w).set (g := bi) (.inl (by simp)) t _
  have hB2 : But [bi, bo] w w2 := hB1.trans (But.of_below hB)
  have hBs : But [bo] w2 (w2.setCell ⟨bo, t, none⟩ (.pointer (some ⟨x', 0, none⟩))) := (But.refl _ w2).set (g := bo) (.inl (by simp)) t _
  have hBB : But [bi, bo] w (w2.setCell ⟨bo, t, none⟩ (.pointer (some ⟨x', 0, none⟩))) := hB2.set (g := bo) (.inl (by simp)) t _
  have i4 := ((i1.set t (.pointer none)).but (But.of_below (l := []) hB) (by simp)).but hBs (by simp; exact n1)
  have o4 := ((o1.setne (Ne.symm n1) t (.pointer none)).but (But.of_below (l := []) hB) (by simp)).set t (.pointer (some ⟨x', 0, none⟩))
  refine h.any ht hBB (by intro k hk; simp at hk; omega) (h.mem.but hBB (by simp; omega) (by simp; omega)) _ ⟨_, i4, by simp [i2], fun v hv => ?_⟩ ⟨_, o4, by simp [o2], fun v hv => ?_⟩ (.rel x' q' g' 0 k (hR.but hBs (by simp; omega) (by simp; omega) (by simp; omega)) (by omega)) (fun z hz => ?_)
  · rw [set_at i2 ht]
    by_cases hut : v = t
    · subst hut; rw [if_pos rfl, upS_at]; rfl
    · rw [if_neg hut, upS_ne _ _ hut]; exact i3 v hv
  · rw [set_at o2 ht]
    by_cases hut : v = t
    · subst hut; rw [if_pos rfl, upS_at]; rfl
    · rw [if_neg hut, upS_ne _ _ hut]; exact o3 v hv
  · simp only [TS.fp, List.mem_cons, List.not_mem_nil, or_false] at hz
    rcases hz with rfl | rfl | rfl
    · exact .inr hx
    · exact .inr hq
    · exact .inr hg
end

end Go.Proofs.Ytlnjjcfkcoaceaa
