/- FlowChains: a machine of accesses, step by step, whatever others do between: each access, what it answers, when it is done, for every list of words, of accesses and of pokes; no condition. -/
import Derived.Test.YtlnjjcfkcoaceaaRChn
import Derived.Test.YtlnjjcfkcoaceaaChn7
import Derived.Test.YtlnjjcfkcoaceaaPk
import Derived.Test.YtlnjjcfkcoaceaaOpen2
import Derived.Test.YtlnjjcfkcoaceaaFrame
import Derived.ProofKit
import Derived.OpenShut
import Derived.Lib.SmallJoins
namespace Go.Proofs.Ytlnjjcfkcoaceaa
open Go Go.RowKit
set_option linter.unusedVariables false
set_option maxRecDepth 100000
set_option linter.unusedSimpArgs false

/-- u answers are those of the first r accesses; out: what each came to. -/
inductive Fits (g : Nat → Int) (F : Nat → Acc) (out : Nat → Int) : Nat → Nat → Prop
  | zero : Fits g F out 0 0
  | acc (r u : Nat) : Fits g F out r u → 1 ≤ (F r).k ∧ (F r).k ≤ 4 → out r = g u → ((F r).k = 2 → g u = 0) → ((F r).k = 3 → g u = 0 ∨ g u = 1) → Fits g F out (r + 1) (u + 1)
  | now (r u : Nat) : Fits g F out r u → (F r).k = 0 → g u ≠ 0 → out r = g u → Fits g F out (r + 1) (u + 1)
  | late (r u : Nat) : Fits g F out r u → (F r).k = 0 → g u = 0 → g (u + 1) ≠ 0 → out r = g (u + 1) → Fits g F out (r + 1) (u + 2)

theorem Fits.same {g g' : Nat → Int} {F : Nat → Acc} {out out' : Nat → Int} {r u : Nat} (h : Fits g F out r u) (hg : ∀ j, j < u → g' j = g j) (ho : ∀ j, j < r → out' j = out j) : Fits g' F out' r u := by
  induction h with
  | zero => exact .zero
  | acc r u h hk h1 h2 h3 ih =>
    have e := hg u (by omega)
    exact .acc r u (ih (fun j hj => hg j (by omega)) (fun j hj => ho j (by omega))) hk (by rw [ho r (by omega), e]; exact h1) (fun h => by rw [e]; exact h2 h) (fun h => by rw [e]; exact h3 h)
  | now r u h hk h1 h2 ih =>
    have e := hg u (by omega)
    exact .now r u (ih (fun j hj => hg j (by omega)) (fun j hj => ho j (by omega))) hk (by rw [e]; exact h1) (by rw [ho r (by omega), e]; exact h2)
  | late r u h hk h1 h2 h3 ih =>
    have e := hg u (by omega)
    have e1 := hg (u + 1) (by omega)
    exact .late r u (ih (fun j hj => hg j (by omega)) (fun j hj => ho j (by omega))) hk (by rw [e]; exact h1) (by rw [e1]; exact h2) (by rw [ho r (by omega), e1]; exact h3)

/-- A routine that used u answers. -/
def rnU (u : Nat) : Rn := ⟨u, false, 0, 0, 0, 0, false⟩
theorem doV_in {m u : Nat} {g : Nat → Int} (h : u < m) : doV m g (rnU u) = g u := by simp [doV, rnU, h]
theorem doS_in {m u : Nat} (h : u < m) (k i o v : Int) : doS m (rnU u) k i o v = rnU (u + 1) := by simp [doS, rnU, h]
theorem doS_at {m : Nat} (k i o v : Int) : doS m (rnU m) k i o v = ⟨m, true, k, i, o, v, false⟩ := by simp [doS, rnU]
theorem doV_at {m : Nat} (g : Nat → Int) : doV m g (rnU m) = 0 := by simp [doV, rnU]
theorem sleepS_in (u : Nat) (b : Bool) : sleepS (rnU u) b = rnU u := by simp [sleepS, rnU]
theorem wait_one {m u f : Nat} {g : Nat → Int} {i : Int} {b : Bool} (h : u < m) : waitGo m g i (f + 1) 0 b (rnU u) = waitGo m g i f (g u) false (rnU (u + 1)) := by
  rw [waitGo, if_pos ⟨rfl, rfl⟩, doV_in h, doS_in h, sleepS_in]
theorem wait_got {m f : Nat} {g : Nat → Int} {i v : Int} {b : Bool} {r : Rn} (h : v ≠ 0) : waitGo m g i f v b r = (v, r) := by
  cases f with
  | zero => rfl
  | succ f => rw [waitGo, if_neg (fun hh => h hh.1)]
theorem wait_stop {m f : Nat} {g : Nat → Int} {i v : Int} {b : Bool} {r : Rn} (h : r.stop = true) : waitGo m g i f v b r = (v, r) := by
  cases f with
  | zero => rfl
  | succ f => rw [waitGo, if_neg (fun hh => by rw [h] at hh; cases hh.2)]
theorem wait_end {m f : Nat} {g : Nat → Int} {i : Int} {b : Bool} : waitGo m g i (f + 1) 0 b (rnU m) = (0, ⟨m, true, 1, i, 0, 0, !b⟩) := by
  rw [waitGo, if_pos ⟨rfl, rfl⟩, doV_at, doS_at]
  exact wait_stop rfl

theorem stA_acc {m u : Nat} {g : Nat → Int} {a : Acc} (hu : u < m) (hk : 1 ≤ a.k ∧ a.k ≤ 4) (h2 : a.k = 2 → g u = 0) (h3 : a.k = 3 → g u = 0 ∨ g u = 1) : stA m g a (rnU u) = (g u, rnU (u + 1)) := by
  unfold stA
  rw [doV_in hu, doS_in hu, doS_in hu, doS_in hu, doS_in hu, if_neg (by omega)]
  by_cases k1 : a.k = 1
  · rw [if_pos k1]
  · rw [if_neg k1]
    by_cases k2 : a.k = 2
    · rw [if_pos k2, h2 k2]
    · rw [if_neg k2]
      by_cases k3 : a.k = 3
      · rw [if_pos k3]
        rcases h3 k3 with e | e
        · rw [if_neg (by omega), e]
        · rw [if_pos e, e]
      · rw [if_neg k3, if_pos (by omega)]

theorem fits_snoc {f out : Nat → Int} {r : Nat} {a : Int} (hf : ∀ j, j < r → f j = out j) (ha : out r = a) : ∀ j, j < r + 1 → gsnoc f r a j = out j := by
  intro j hj
  unfold gsnoc
  by_cases h : j = r
  · rw [if_pos h, h, ha]
  · rw [if_neg h]; exact hf j (by omega)

theorem fits_go {g : Nat → Int} {F : Nat → Acc} {out : Nat → Int} {r u : Nat} (h : Fits g F out r u) (m : Nat) : u ≤ m → ∃ f, chGo m g F rn0 r = ⟨rnU u, r, f⟩ ∧ ∀ j, j < r → f j = out j := by
  induction h with
  | zero => exact fun _ => ⟨_, rfl, fun j hj => absurd hj (by omega)⟩
  | acc r u h hk h1 h2 h3 ih =>
    intro hu
    obtain ⟨f, e, hf⟩ := ih (by omega)
    refine ⟨gsnoc f r (g u), ?_, fits_snoc hf h1⟩
    rw [chGo, e, chNext_go rfl (stA_acc (by omega) hk h2 h3), if_pos ⟨by omega, rfl⟩]
  | now r u h hk h1 h2 ih =>
    intro hu
    obtain ⟨f, e, hf⟩ := ih (by omega)
    refine ⟨gsnoc f r (g u), ?_, fits_snoc hf h2⟩
    have hs : stA m g (F r) (rnU u) = (g u, rnU (u + 1)) := by
      unfold stA
      rw [if_pos hk, wait_one (by omega), wait_got h1]
    rw [chGo, e, chNext_go rfl hs, if_pos ⟨by omega, rfl⟩]
  | late r u h hk h1 h2 h3 ih =>
    intro hu
    obtain ⟨f, e, hf⟩ := ih (by omega)
    refine ⟨gsnoc f r (g (u + 1)), ?_, fits_snoc hf h3⟩
    have hs : stA m g (F r) (rnU u) = (g (u + 1), rnU (u + 2)) := by
      unfold stA
      rw [if_pos hk, wait_one (by omega), h1, wait_one (by omega), wait_got h2]
    rw [chGo, e, chNext_go rfl hs, if_pos ⟨by omega, rfl⟩]

/-- The access at which the document's routine stops. -/
def wantK (a : Acc) : Int := if a.k = 0 then 1 else a.k
def wantO (a : Acc) : Int := if a.k = 3 then a.o else 0
def wantN (a : Acc) : Int := if 2 ≤ a.k then a.v else 0

theorem fits_stop {g : Nat → Int} {F : Nat → Acc} {out : Nat → Int} {r u m : Nat} {asl : Bool} (h : Fits g F out r u) (hk : 0 ≤ (F r).k ∧ (F r).k ≤ 4) (hc : (asl = false ∧ u = m) ∨ (asl = true ∧ u + 1 = m ∧ g u = 0 ∧ (F r).k = 0)) :
    ∃ f, chGo m g F rn0 (r + 1) = ⟨⟨m, true, wantK (F r), (F r).i, wantO (F r), wantN (F r), asl⟩, r, f⟩ ∧ ∀ j, j < r → f j = out j := by
  obtain ⟨f, e, hf⟩ := fits_go h m (by omega)
  refine ⟨f, ?_, hf⟩
  have hs : (stA m g (F r) (rnU u)).2 = ⟨m, true, wantK (F r), (F r).i, wantO (F r), wantN (F r), asl⟩ := by
    unfold stA wantK wantO wantN
    rcases hc with ⟨rfl, rfl⟩ | ⟨rfl, rfl, h0, hk0⟩
    · by_cases k0 : (F r).k = 0
      · rw [if_pos k0, wait_end, if_pos k0, if_neg (by omega), if_neg (by omega)]; rfl
      · rw [if_neg k0, doS_at, doS_at, doS_at, doS_at, if_neg k0]
        by_cases k1 : (F r).k = 1
        · rw [if_pos k1, if_neg (by omega), if_neg (by omega), k1]
        · rw [if_neg k1]
          by_cases k2 : (F r).k = 2
          · rw [if_pos k2, if_neg (by omega), if_pos (by omega), k2]
          · rw [if_neg k2]
            by_cases k3 : (F r).k = 3
            · simp [k3]
            · rw [if_neg k3, if_pos (by omega), if_neg k3, if_pos (by omega), show (F r).k = 4 by omega]
    · rw [if_pos hk0, wait_one (by omega), h0, wait_end, if_pos hk0, if_neg (by omega), if_neg (by omega)]; rfl
  have hv : stA m g (F r) (rnU u) = ((stA m g (F r) (rnU u)).1, ⟨m, true, wantK (F r), (F r).i, wantO (F r), wantN (F r), asl⟩) := by rw [← hs]
  rw [chGo, e, chNext_go rfl hv, if_neg (by simp)]

/-- Accesses that are passed change nothing. -/
theorem chNext_skip {m : Nat} {g : Nat → Int} {a : Acc} {s : ChR} (h : ¬ (0 ≤ a.k ∧ a.k ≤ 4)) : chNext m g a s = s := by
  unfold chNext
  split
  · rfl
  · have hs : stA m g a s.r = (0, s.r) := by
      unfold stA
      rw [if_neg (by omega), if_neg (by omega), if_neg (by omega), if_neg (by omega), if_neg (by omega)]
    rw [hs, if_neg (fun hh => h hh.1)]
theorem chGo_fold (m : Nat) (g : Nat → Int) (L : Nat → Acc) (r0 : Rn) : ∀ n, chGo m g L r0 n = (okL L n).foldl (fun s a => chNext m g a s) ⟨r0, 0, fun _ => 0⟩
  | 0 => rfl
  | n + 1 => by
    rw [chGo, chGo_fold m g L r0 n, okL]
    by_cases h : 0 ≤ (L n).k ∧ (L n).k ≤ 4
    · rw [if_pos h, List.foldl_append]; rfl
    · rw [if_neg h, chNext_skip h]
theorem chGo_take (m : Nat) (g : Nat → Int) (F : List Acc) (r0 : Rn) : ∀ n, n ≤ F.length → chGo m g (fun j => F.getD j noAcc) r0 n = (F.take n).foldl (fun s a => chNext m g a s) ⟨r0, 0, fun _ => 0⟩
  | 0, _ => rfl
  | n + 1, h => by
    rw [chGo, chGo_take m g F r0 n (by omega), List.take_add_one, List.foldl_append, List.getElem?_eq_getElem (by omega)]
    simp [List.getD_eq_getElem?_getD, List.getElem?_eq_getElem (show n < F.length by omega)]
/-- The document's routine of a list is that of its accesses that there are. -/
theorem chGo_ok (m : Nat) (g : Nat → Int) (L : Nat → Acc) (r0 : Rn) (n : Nat) : chGo m g L r0 n = chGo m g (fun j => (okL L n).getD j noAcc) r0 (okL L n).length := by
  rw [chGo_fold, chGo_take _ _ _ _ _ (Nat.le_refl _), List.take_length]
theorem okL_all (L : Nat → Acc) : ∀ n, ∀ a ∈ okL L n, 0 ≤ a.k ∧ a.k ≤ 4
  | 0, a, h => by simp [okL] at h
  | n + 1, a, h => by
    unfold okL at h
    split at h
    · rcases List.mem_append.1 h with h | h
      · exact okL_all L n a h
      · simp at h; subst h; assumption
    · exact okL_all L n a h
end Go.Proofs.Ytlnjjcfkcoaceaa

namespace Go.Proofs.Ytlnjjcfkcoaceaa
open Go Go.RowKit
set_option linter.unusedVariables false
set_option maxRecDepth 100000
set_option linter.unusedSimpArgs false

/-- m answers g are those of r accesses of N (and of the one at which the chain sleeps); out: what the accesses came to. -/
structure ChGot (g : Nat → Int) (m : Nat) (F : Nat → Acc) (N : Nat) (out : Nat → Int) (r : Nat) (asl : Bool) : Prop where
  h : r ≤ N ∧ ∃ u, Fits g F out r u ∧ ((asl = false ∧ u = m) ∨ (asl = true ∧ u + 1 = m ∧ g u = 0 ∧ (F r).k = 0 ∧ r < N))

section
variable {g : Nat → Int} {m : Nat} {F : Nat → Acc} {N : Nat} {out : Nat → Int} {r : Nat} {asl : Bool}
theorem ChGot.start : ChGot g 0 F N out 0 false := ⟨Nat.zero_le _, 0, .zero, .inl ⟨rfl, rfl⟩⟩
theorem gs_same (f : Nat → Int) (r : Nat) (a : Int) : ∀ j, j < r → gsnoc f r a j = f j := fun j hj => by unfold gsnoc; rw [if_neg (by omega)]
theorem gs_last (f : Nat → Int) (r : Nat) (a : Int) : gsnoc f r a r = a := by unfold gsnoc; rw [if_pos rfl]
theorem ChGot.acc (h : ChGot g m F N out r false) (hr : r < N) (hk : 1 ≤ (F r).k ∧ (F r).k ≤ 4) {a : Int} (h2 : (F r).k = 2 → a = 0) (h3 : (F r).k = 3 → a = 0 ∨ a = 1) : ChGot (gsnoc g m a) (m + 1) F N (gsnoc out r a) (r + 1) false := by
  obtain ⟨-, u, hF, h0 | ⟨h0, -⟩⟩ := h.h
  · obtain ⟨-, rfl⟩ := h0
    exact ⟨hr, u + 1, .acc r u (hF.same (gs_same _ _ _) (gs_same _ _ _)) hk (by rw [gs_last, gs_last]) (by rw [gs_last]; exact h2) (by rw [gs_last]; exact h3), .inl ⟨rfl, rfl⟩⟩
  · cases h0
theorem ChGot.doze (h : ChGot g m F N out r false) (hr : r < N) (hk : (F r).k = 0) : ChGot (gsnoc g m 0) (m + 1) F N out r true := by
  obtain ⟨-, u, hF, h0 | ⟨h0, -⟩⟩ := h.h
  · obtain ⟨-, rfl⟩ := h0
    exact ⟨Nat.le_of_lt hr, u, hF.same (gs_same _ _ _) (fun _ _ => rfl), .inr ⟨rfl, rfl, gs_last _ _ _, hk, hr⟩⟩
  · cases h0
theorem ChGot.wake (h : ChGot g m F N out r asl) (hr : r < N) (hk : (F r).k = 0) {a : Int} (ha : a ≠ 0) : ChGot (gsnoc g m a) (m + 1) F N (gsnoc out r a) (r + 1) false := by
  obtain ⟨-, u, hF, h0 | ⟨-, h1, h2, -, -⟩⟩ := h.h
  · obtain ⟨-, rfl⟩ := h0
    exact ⟨hr, u + 1, .now r u (hF.same (gs_same _ _ _) (gs_same _ _ _)) hk (by rw [gs_last]; exact ha) (by rw [gs_last, gs_last]), .inl ⟨rfl, rfl⟩⟩
  · subst h1
    refine ⟨hr, u + 2, .late r u (hF.same (fun j hj => gs_same _ _ _ j (by omega)) (gs_same _ _ _)) hk ?_ (by rw [gs_last]; exact ha) (by rw [gs_last, gs_last]), .inl ⟨rfl, rfl⟩⟩
    rw [gs_same _ _ _ u (by omega)]
    exact h2
/-- Where accesses are left, the document's routine stops at the next one. -/
theorem ChGot.stops (h : ChGot g m F N out r asl) (hr : r < N) (hk : 0 ≤ (F r).k ∧ (F r).k ≤ 4) : ∃ f, chGo m g F rn0 N = ⟨⟨m, true, wantK (F r), (F r).i, wantO (F r), wantN (F r), asl⟩, r, f⟩ ∧ ∀ j, j < r → f j = out j := by
  obtain ⟨-, u, hF, hc⟩ := h.h
  obtain ⟨f, e, hf⟩ := fits_stop (m := m) (asl := asl) hF hk (by
    rcases hc with hc | ⟨h1, h2, h3, h4, -⟩
    · exact .inl hc
    · exact .inr ⟨h1, h2, h3, h4⟩)
  refine ⟨f, ?_, hf⟩
  have hs := chGo_stop (m := m) (g := g) (L := F) (r0 := rn0) (k := r + 1) (by rw [e]) (N - (r + 1))
  rw [show r + 1 + (N - (r + 1)) = N by omega, e] at hs
  exact hs
/-- Where none is left, it comes to its end. -/
theorem ChGot.ends (h : ChGot g m F N out r asl) (hr : r = N) : asl = false ∧ ∃ f, chGo m g F rn0 N = ⟨rnU m, N, f⟩ ∧ ∀ j, j < N → f j = out j := by
  obtain ⟨-, u, hF, ⟨rfl, rfl⟩ | ⟨-, -, -, -, h5⟩⟩ := h.h
  · subst hr
    exact ⟨rfl, fits_go hF u (Nat.le_refl _)⟩
  · omega
/-- The rows of what was answered are alike. -/
theorem wordCells_same {f f' : Nat → Int} : ∀ n, (∀ j, j < n → f j = f' j) → wordCells f n = wordCells f' n := fun n h => by
  unfold wordCells
  exact List.map_congr_left (fun j hj => by rw [h j (by simpa using hj)])
end
end Go.Proofs.Ytlnjjcfkcoaceaa

namespace Go.Proofs.Ytlnjjcfkcoaceaa
open Go Go.RowKit
set_option linter.unusedVariables false
set_option maxRecDepth 100000
set_option linter.unusedSimpArgs false


theorem CS.lts {w : World} {x : Nat} {who : Int} {ba N : Nat} {L : Nat → Acc} {r q : Nat} {asl : Bool} {Ag : Option Addr} {capg : Nat} {g : Nat → Int} (h : CS w x who ba N L r q asl Ag capg g) : x < w.heap.size ∧ q < w.heap.size ∧ ∀ k ∈ gotL Ag, k < w.heap.size := by
  have hG := h.gots.2
  refine ⟨?_, ?_, fun k hk => (gotL_mem hG hk).2⟩
  · cases h with
    | next r q n' asl Ag capg g e hC hq h1 h2 h3 => obtain ⟨av, B, cb, hA, hM⟩ := hC.main; exact hM.lt
    | over Ag capg g av parts hM hG hf => exact hM.lt
  · cases h with
    | next r q n' asl Ag capg g e hC hq h1 h2 h3 => exact hq.lt
    | over Ag capg g av parts hM hG hf => exact hM.lt
theorem CS.but {w w' : World} {x : Nat} {who : Int} {ba N : Nat} {L : Nat → Acc} {r q : Nat} {asl : Bool} {Ag : Option Addr} {capg : Nat} {g : Nat → Int} {l : List Nat} (h : CS w x who ba N L r q asl Ag capg g) (hb : But l w w') (hx : x ∉ l) (hq : q ∉ l) (hba : ba ∉ l) (hg : GotFar Ag l) : CS w' x who ba N L r q asl Ag capg g := by
  cases h with
  | next r q n' asl Ag capg g e hC hq2 h1 h2 h3 =>
    obtain ⟨av, B, cb, hA, hM⟩ := hC.main
    exact .next _ _ n' _ _ _ _ e ⟨⟨av, B, cb, hA, hM.but hb hx⟩, hC.sees.but hb hba hC.lt, hC.got.but hb hg, Nat.lt_of_lt_of_le hC.lt hb.size, hC.ne, hC.far⟩ (hq2.but hb hq) h1 h2 h3
  | over Ag capg g av parts hM hG hf => exact .over _ _ _ av parts (hM.but hb hx) (hG.but hb hg) hf
theorem CS.below {w w' : World} {x : Nat} {who : Int} {ba N : Nat} {L : Nat → Acc} {r q : Nat} {asl : Bool} {Ag : Option Addr} {capg : Nat} {g : Nat → Int} (h : CS w x who ba N L r q asl Ag capg g) (hb : Below w.heap.size w w') : CS w' x who ba N L r q asl Ag capg g :=
  h.but (But.of_below (l := []) hb) (by simp) (by simp) (by simp) (fun b e => by simp)
theorem newed_state {w w' : World} {x : Nat} {who : Int} {F : List Acc} (h : Newed w w' x who F) : ∃ q ba, CS w' x who ba F.length (fun j => F.getD j noAcc) 0 q false none 0 (fun _ => 0) ∧ (q = x ∨ w.heap.size < q) ∧ (ba = x ∨ w.heap.size < ba) ∧ ba < w'.heap.size := by
  cases h with
  | none A ca e hb =>
    subst e
    exact ⟨x, x, .over none 0 _ _ _ hb ⟨World.ownsRow_nil _ _ _ _⟩ (fun k e => by cases e), .inl rfl, .inl rfl, hb.lt⟩
  | some q ba m e h1 h2 h3 h4 hC hq => exact ⟨q, ba, .next 0 q m false none 0 _ (by omega) hC hq h3 h4 (fun k e => by cases e), .inr h1, .inr h2, hC.lt⟩

theorem okL_mem {L : Nat → Acc} {n : Nat} {a : Acc} (h : a ∈ okL L n) : ∃ j, j < n ∧ a = L j := by
  induction n with
  | zero => simp [okL] at h
  | succ n ih =>
    unfold okL at h
    split at h
    · rcases List.mem_append.1 h with h | h
      · obtain ⟨j, hj, e⟩ := ih h; exact ⟨j, by omega, e⟩
      · simp at h; exact ⟨n, by omega, h⟩
    · obtain ⟨j, hj, e⟩ := ih h; exact ⟨j, by omega, e⟩
/-- The accesses that there are are those of the list, with their bounds. -/
theorem okL_at (L : Nat → Acc) (n : Nat) (hv : ∀ j, j < n → 0 ≤ (L j).v ∧ (L j).v ≤ 18446744073709551615) (r : Nat) (hr : r < (okL L n).length) :
    (0 ≤ ((okL L n).getD r noAcc).k ∧ ((okL L n).getD r noAcc).k ≤ 4) ∧ 0 ≤ ((okL L n).getD r noAcc).v ∧ ((okL L n).getD r noAcc).v ≤ 18446744073709551615 := by
  have hm : (okL L n).getD r noAcc ∈ okL L n := by
    rw [List.getD_eq_getElem?_getD, List.getElem?_eq_getElem hr]
    exact List.getElem_mem hr
  refine ⟨okL_all L n _ hm, ?_⟩
  obtain ⟨j, hj, e⟩ := okL_mem hm
  rw [e]
  exact hv j hj

/-- What a step does to the memory, and what it is answered. -/
def fcS (F : Nat → Acc) (N n r : Nat) (asl : Bool) (s : St) : St :=
  if r < N then (if (F r).k = 0 then (if asl = true ∧ peekT n s (F r).i = 0 then s else stp 1 3 (F r).i 0 0 n s) else actS (F r).k 3 (F r).i (F r).o (F r).v n s) else s
def fcA (F : Nat → Acc) (N n r : Nat) (asl : Bool) (s : St) : Option Int :=
  if r < N then (if (F r).k = 0 then (if asl = true ∧ peekT n s (F r).i = 0 then none else some (peekT n s (F r).i)) else some (actA (F r).k (F r).i (F r).o (F r).v n s)) else none
/-- Which answers there are then. -/
def fcMg (o : Option Int) (m : Nat) : Nat := match o with | none => m | some _ => m + 1
def fcGf (o : Option Int) (m : Nat) (g : Nat → Int) : Nat → Int := match o with | none => g | some a => gsnoc g m a

theorem fcS_low {F : Nat → Acc} {N n r : Nat} {asl : Bool} {s : St} {m : Int} (h : Low s m) : Low (fcS F N n r asl s) (m + 1) := by
  have h1 : Low s (m + 1) := h.more (by omega)
  unfold fcS
  split
  · split
    · split
      · exact h1
      · have := actS_low h 1 3 (F r).i 0 0 n
        simpa [actS] using this
    · exact actS_low h _ _ _ _ _ _
  · exact h1

theorem want_A (a : Acc) (hk : 1 ≤ a.k ∧ a.k ≤ 4) (n : Nat) (s : St) : actA (wantK a) a.i (wantO a) (wantN a) n s = actA a.k a.i a.o a.v n s ∧ actS (wantK a) 3 a.i (wantO a) (wantN a) n s = actS a.k 3 a.i a.o a.v n s := by
  unfold wantK wantO wantN
  rw [if_neg (by omega)]
  obtain ⟨k, p, i, o, v, z⟩ := a
  dsimp only at hk ⊢
  obtain rfl | rfl | rfl | rfl : k = 1 ∨ k = 2 ∨ k = 3 ∨ k = 4 := by omega
  all_goals simp [actA, actS]

section
variable {W0 w : World} {A A' : Option Addr} {cap cap' c b c' b' n : Nat} {s : St} {Ag : Option Addr} {capg mg : Nat} {gf : Nat → Int} {L : List Nat} {F : Nat → Acc} {N r : Nat} {gc : Nat → Int} {asl : Bool}

theorem fc_turn (hO : PokeOn W0 w A A' cap cap' c b c' b' n s s Ag capg mg gf L) (hn6 : n ≤ 1000000) (hl : Low s 1000000) (hm : mg ≤ 1000) (hG : ChGot gf mg F N gc r asl)
    (hF : ∀ r, r < N → (0 ≤ (F r).k ∧ (F r).k ≤ 4) ∧ 0 ≤ (F r).v ∧ (F r).v ≤ 18446744073709551615) (hr : r ≤ N) :
    Calls Try.prog 20 #[.pointer (some ⟨c', 0, none⟩), .agg (runCells (.slice Ag mg capg) (chGo mg gf F rn0 N).r), .int .i64 3] w fun e w' => ∃ Ag' capg', e = .returned (.slice Ag' (fcMg (fcA F N n r asl s) mg) capg') ∧ PokeOn W0 w' A A' cap cap' c b c' b' n s (fcS F N n r asl s) Ag' capg' (fcMg (fcA F N n r asl s) mg) (fcGf (fcA F N n r asl s) mg gf) L ∧ But (c' :: b' :: gotL Ag) w w' := by
  have hgf : GotFar Ag [c', b'] := hO.gfar.of (by intro k hk; simp at hk ⊢; omega)
  by_cases hrN : r < N
  · obtain ⟨hk, hv⟩ := hF r hrN
    obtain ⟨f, e, -⟩ := hG.stops hrN hk
    rw [e]
    by_cases hk0 : (F r).k = 0
    · by_cases hz : asl = true ∧ peekT n s (F r).i = 0
      · obtain ⟨rfl, hz⟩ := hz
        have eS : fcS F N n r true s = s := by simp [fcS, hrN, hk0, hz]
        have eA : fcA F N n r true s = none := by simp [fcA, hrN, hk0, hz]
        rw [eS, eA]
        refine (turn_sleeps w Ag capg mg _ A' cap' c' b' n s 3 rfl rfl hz hn6 hO.ref).mono ?_
        rintro e w' ⟨rfl, hb⟩
        exact ⟨_, _, rfl, hO.still hb, But.of_below hb⟩
      · have eS : fcS F N n r asl s = actS 1 3 (F r).i 0 0 n s := by unfold fcS; rw [if_pos hrN, if_pos hk0, if_neg hz]; simp [actS]
        have eA : fcA F N n r asl s = some (actA 1 (F r).i 0 0 n s) := by unfold fcA; rw [if_pos hrN, if_pos hk0, if_neg hz]; rw [show actA 1 (F r).i 0 0 n s = ans 1 (F r).i 0 0 n s by simp [actA], ans_peek]
        rw [eS, eA]
        have hw : wantK (F r) = 1 := by simp [wantK, hk0]
        have ho : wantO (F r) = 0 := by simp [wantO, hk0]
        have hn : wantN (F r) = 0 := by simp [wantN, hk0]
        rw [hw, ho, hn]
        refine (turn_does w Ag capg mg gf ⟨mg, true, 1, (F r).i, 0, 0, asl⟩ A' cap' c' b' n s 3 rfl (fun h h0 => hz ⟨h, h0⟩) (show (1 : Int) ≤ 1 ∧ (1 : Int) ≤ 4 from by omega) (fun _ => rfl) (show (0 : Int) ≤ 0 ∧ (0 : Int) ≤ 18446744073709551615 from by omega) hn6 hm hl hO.ref hO.got hgf).mono ?_
        rintro e w' ⟨gb, cap2, rfl, hG6, hI6, hB6, hg6⟩
        exact ⟨_, _, rfl, hO.turned hG6 hI6 hB6 hg6, hB6⟩
    · have eS : fcS F N n r asl s = actS (F r).k 3 (F r).i (F r).o (F r).v n s := by unfold fcS; rw [if_pos hrN, if_neg hk0]
      have eA : fcA F N n r asl s = some (actA (F r).k (F r).i (F r).o (F r).v n s) := by unfold fcA; rw [if_pos hrN, if_neg hk0]
      have hk1 : 1 ≤ (F r).k ∧ (F r).k ≤ 4 := by omega
      have hw := want_A (F r) hk1 n s
      have ha : asl = false := by
        obtain ⟨-, u, -, h0 | ⟨-, -, -, h0, -⟩⟩ := hG.h
        · exact h0.1
        · exact absurd h0 hk0
      rw [eS, eA, ← hw.1, ← hw.2]
      refine (turn_does w Ag capg mg gf ⟨mg, true, wantK (F r), (F r).i, wantO (F r), wantN (F r), asl⟩ A' cap' c' b' n s 3 rfl (fun h => by rw [ha] at h; cases h) (show 1 ≤ wantK (F r) ∧ wantK (F r) ≤ 4 by unfold wantK; rw [if_neg hk0]; exact hk1) (fun h => by unfold wantK at h; rw [if_neg hk0] at h; show wantN (F r) = 0; unfold wantN; rw [if_neg (by dsimp only at h; omega)]) (show 0 ≤ wantN (F r) ∧ wantN (F r) ≤ 18446744073709551615 by unfold wantN; split <;> omega) hn6 hm hl hO.ref hO.got hgf).mono ?_
      rintro e w' ⟨gb, cap2, rfl, hG6, hI6, hB6, hg6⟩
      exact ⟨_, _, rfl, hO.turned hG6 hI6 hB6 hg6, hB6⟩
  · obtain ⟨ha, f, e, -⟩ := hG.ends (by omega)
    have eS : fcS F N n r asl s = s := by simp [fcS, hrN]
    have eA : fcA F N n r asl s = none := by simp [fcA, hrN]
    rw [eS, eA, e]
    refine (turn_go w Ag capg mg (rnU mg) c' 3 rfl).mono ?_
    rintro e w' ⟨rfl, hb⟩
    exact ⟨_, _, rfl, hO.still hb, But.of_below hb⟩
end

end Go.Proofs.Ytlnjjcfkcoaceaa

namespace Go.Proofs.Ytlnjjcfkcoaceaa
open Go Go.RowKit
set_option linter.unusedVariables false
set_option maxRecDepth 100000
set_option linter.unusedSimpArgs false


section
variable {W0 w : World} {A A' : Option Addr} {cap cap' c b c' b' n : Nat} {s : St} {Ag : Option Addr} {capg mg : Nat} {gf : Nat → Int} {F : Nat → Acc} {N r x q ba : Nat} {gc : Nat → Int} {asl : Bool} {Ac : Option Addr} {capc : Nat}

/-- What a step leaves. -/
def FcTo (W0 w' : World) (A A' : Option Addr) (cap cap' c b c' b' n : Nat) (s' : St) (Ag : Option Addr) (capg m' : Nat) (g' : Nat → Int) (F : Nat → Acc) (N x ba : Nat) : Prop :=
  ∃ r' q' asl' Ac' capc' gc', PokeOn W0 w' A A' cap cap' c b c' b' n s' s' Ag capg m' g' (x :: q' :: ba :: gotL Ac') ∧ CS w' x 3 ba N F r' q' asl' Ac' capc' gc' ∧ ChGot g' m' F N gc' r' asl'

theorem fc_next {w' : World} {s' : St} {m' : Nat} {g' : Nat → Int} {r' q' : Nat} {asl' : Bool} {Ac' : Option Addr} {capc' : Nat} {gc' : Nat → Int} {l : List Nat}
    (hO : PokeOn W0 w A A' cap cap' c b c' b' n s s' Ag capg m' g' (x :: q :: ba :: gotL Ac)) (hI : Is w' 122 A cap c b n s') (hB : But l w w') (hl : ∀ k ∈ l, k = c ∨ k = b ∨ k = x ∨ k = q ∨ k ∈ gotL Ac)
    (hC : CS w' x 3 ba N F r' q' asl' Ac' capc' gc') (hq : q' = x ∨ q' = q ∨ w.heap.size ≤ q') (hA : ∀ k ∈ gotL Ac', k ∈ gotL Ac ∨ w.heap.size ≤ k) (hG : ChGot g' m' F N gc' r' asl') :
    FcTo W0 w' A A' cap cap' c b c' b' n s' Ag capg m' g' F N x ba := by
  obtain ⟨l1, l2, l3⟩ := hC.lts
  have hba := (hO.far ba (by simp)).2.1
  have hsz := hB.size
  refine ⟨r', q', asl', Ac', capc', gc', hO.stepped hI hB (fun k hk => ?_) (fun k hk => ?_), hC, hG⟩
  · rcases hl k hk with e | e | e | e | e
    · exact .inl e
    · exact .inr (.inl e)
    · exact .inr (.inr (by simp [e]))
    · exact .inr (.inr (by simp [e]))
    · exact .inr (.inr (by simp [e]))
  · simp only [List.mem_cons] at hk
    rcases hk with rfl | rfl | rfl | hk
    · exact ⟨.inl (by simp), l1⟩
    · refine ⟨?_, l2⟩
      rcases hq with e | e | e
      · exact .inl (by simp [e])
      · exact .inl (by simp [e])
      · exact .inr e
    · exact ⟨.inl (by simp), by omega⟩
    · refine ⟨?_, l3 k hk⟩
      rcases hA k hk with e | e
      · exact .inl (by simp [e])
      · exact .inr e

theorem fc_step (hO : PokeOn W0 w A A' cap cap' c b c' b' n s (fcS F N n r asl s) Ag capg (fcMg (fcA F N n r asl s) mg) (fcGf (fcA F N n r asl s) mg gf) (x :: q :: ba :: gotL Ac)) (hn6 : n ≤ 1000000) (hl : Low s 1000000) (hG : ChGot gf mg F N gc r asl) (hC : CS w x 3 ba N F r q asl Ac capc gc)
    (hF : ∀ r, r < N → (0 ≤ (F r).k ∧ (F r).k ≤ 4) ∧ 0 ≤ (F r).v ∧ (F r).v ≤ 18446744073709551615) (hr : r ≤ N) (hN : N ≤ 1000) :
    Calls Try.prog 21 #[.pointer (some ⟨x, 0, none⟩), .pointer (some ⟨c, 0, none⟩)] w fun e w' => (∃ z, e = .returned (.bool z)) ∧ FcTo W0 w' A A' cap cap' c b c' b' n (fcS F N n r asl s) Ag capg (fcMg (fcA F N n r asl s) mg) (fcGf (fcA F N n r asl s) mg gf) F N x ba := by
  have fx := (hO.far x (by simp)).1
  have fq := (hO.far q (by simp)).1
  have fb := (hO.far ba (by simp)).1
  have fg : GotFar Ac [c, b] := by
    intro k e hk
    subst e
    have := (hO.far k (by simp [gotL])).1
    simp at hk
    omega
  have hI := hO.mem
  have g1 : ∀ {gb : Nat}, (Ac = some ⟨gb, 0, none⟩ ∨ w.heap.size ≤ gb) → ∀ k ∈ gotL (some ⟨gb, 0, none⟩), k ∈ gotL Ac ∨ w.heap.size ≤ k := by
    intro gb h k hk
    simp [gotL] at hk
    subst hk
    rcases h with h | h
    · subst h; exact .inl (by simp [gotL])
    · exact .inr h
  by_cases hrN : r < N
  · obtain ⟨hk, hv⟩ := hF r hrN
    by_cases hk0 : (F r).k = 0
    · by_cases hz : peekT n s (F r).i = 0
      · by_cases ha : asl = true
        · subst ha
          have eS : fcS F N n r true s = s := by simp [fcS, hrN, hk0, hz]
          have eA : fcA F N n r true s = none := by simp [fcA, hrN, hk0, hz]
          rw [eS, eA] at hO ⊢
          refine (chain_still w A cap c b n s hI hn6 x 3 ba N F r q true Ac capc gc hC hrN hk0 hz rfl).mono ?_
          rintro e w' ⟨rfl, hb⟩
          exact ⟨⟨_, rfl⟩, r, q, true, Ac, capc, gc, hO.still hb, hC.below hb, hG⟩
        · have ha : asl = false := by simpa using ha
          subst ha
          have eS : fcS F N n r false s = stp 1 3 (F r).i 0 0 n s := by simp [fcS, hrN, hk0]
          have eA : fcA F N n r false s = some 0 := by simp [fcA, hrN, hk0, hz]
          rw [eS, eA] at hO ⊢
          refine (chain_doze w A cap c b n s hI hn6 x 3 ba N F r q false Ac capc gc hC hl hrN hk0 hz rfl ⟨fx.1, fx.2.1⟩ ⟨fq.1, fq.2.1⟩ ⟨fb.1, fb.2.1⟩ fg).mono ?_
          rintro e w' ⟨rfl, hC', hI', hB⟩
          exact ⟨⟨_, rfl⟩, fc_next hO hI' hB (by intro k hk; simp at hk; omega) hC' (.inr (.inl rfl)) (fun k hk => .inl hk) (hG.doze hrN hk0)⟩
      · have eS : fcS F N n r asl s = stp 1 3 (F r).i 0 0 n s := by simp [fcS, hrN, hk0, hz]
        have eA : fcA F N n r asl s = some (peekT n s (F r).i) := by simp [fcA, hrN, hk0, hz]
        rw [eS, eA] at hO ⊢
        refine (chain_wake w A cap c b n s hI hn6 x 3 ba N F r q asl Ac capc gc hC hl hrN hN hk0 hz ⟨fx.1, fx.2.1⟩ ⟨fq.1, fq.2.1⟩ ⟨fb.1, fb.2.1⟩ fg).mono ?_
        rintro e w' ⟨rfl, q', gb, capg', hC', hI', hB, hq, hg⟩
        exact ⟨⟨_, rfl⟩, fc_next hO hI' hB (by intro k hk; simp only [List.mem_cons] at hk; rcases hk with h | h | h | h | h <;> simp [h]) hC' (by rcases hq with h | h; exact .inl h; exact .inr (.inr h)) (g1 hg) (hG.wake hrN hk0 hz)⟩
    · have eS : fcS F N n r asl s = actS (F r).k 3 (F r).i (F r).o (F r).v n s := by unfold fcS; rw [if_pos hrN, if_neg hk0]
      have eA : fcA F N n r asl s = some (actA (F r).k (F r).i (F r).o (F r).v n s) := by unfold fcA; rw [if_pos hrN, if_neg hk0]
      have hk1 : 1 ≤ (F r).k ∧ (F r).k ≤ 4 := by omega
      have ha : asl = false := by
        obtain ⟨-, u, -, h0 | ⟨-, -, -, h0, -⟩⟩ := hG.h
        · exact h0.1
        · exact absurd h0 hk0
      subst ha
      rw [eS, eA] at hO ⊢
      refine (chain_acc w A cap c b n s hI hn6 hl x 3 ba N F r q Ac capc gc hC hrN hN hk1 hv ⟨fx.1, fx.2.1⟩ ⟨fq.1, fq.2.1⟩ ⟨fb.1, fb.2.1⟩ fg).mono ?_
      rintro e w' ⟨rfl, q', gb, capg', hC', hI', hB, hq, hg⟩
      exact ⟨⟨_, rfl⟩, fc_next hO hI' hB (by intro k hk; simp only [List.mem_cons] at hk; rcases hk with h | h | h | h <;> simp [h]) hC' (by rcases hq with h | h; exact .inl h; exact .inr (.inr h)) (g1 hg) (hG.acc hrN hk1 (fun h => by simp [actA, h]) (fun h => by rw [h]; simp only [actA]; exact ans_swap _ _ _ _ _))⟩
  · have hrn : r = N := by omega
    have eS : fcS F N n r asl s = s := by simp [fcS, hrN]
    have eA : fcA F N n r asl s = none := by simp [fcA, hrN]
    rw [eS, eA] at hO ⊢
    refine (chain_over w c x 3 ba N F r q asl Ac capc gc hC hrn).mono ?_
    rintro e w' ⟨rfl, rfl⟩
    exact ⟨⟨_, rfl⟩, r, q, asl, Ac, capc, gc, hO, hC, hG⟩
end

end Go.Proofs.Ytlnjjcfkcoaceaa

namespace Go.Proofs.Ytlnjjcfkcoaceaa
open Go Go.RowKit
set_option linter.unusedVariables false
set_option maxRecDepth 100000
set_option linter.unusedSimpArgs false


theorem fcMg_le (o : Option Int) (m : Nat) : fcMg o m ≤ m + 1 := by unfold fcMg; split <;> omega

open Go.ChangeShapes Go.WideShapes Go.ChangeAt Go.Deep in
/-- Accesses that came in. -/
theorem open_accs {H : Type} {enc : TypeId × Value → H} {W : World} {base b0 : Nat} {v : Value} {d : DataW H} {p : List MemPlace}
    (hv : Value.okWide Try.prog W .any b0 23 v) (h : DataW.Trod enc Try.prog W base (fun _ => true) true 23 v d p) :
    ∃ (B : Option Addr) (m cb : Nat) (L : Nat → Acc), v = .slice B m cb ∧ m ≤ maxLen ∧ SeesC W W.heap.size B m 6 (fun j => accC (L j)) ∧ ∀ j, j < m → 0 ≤ (L j).v ∧ (L j).v ≤ 18446744073709551615 := by
  obtain ⟨A, n, cap, rfl⟩ := okWide_slice Try.underlying23 hv
  obtain ⟨fuel, hf⟩ := h
  obtain ⟨F, mp, cq, C, e2, hm, hnil, hC, hQ⟩ := open_structs (k := 6) (fun l => ∃ (k p i o v : Int) (z : Bool), l = accL k p i o v z ∧ 0 ≤ v ∧ v ≤ 18446744073709551615) Try.underlying23 (by kernel_rfl) (by omega)
    (fun f l y hl hy => by obtain ⟨k, p, i, o, v, z, e, -, hb⟩ := acc_cells Try.underlying41 ⟨rfl, rfl, rfl, rfl, rfl, rfl⟩ ⟨by kernel_rfl, by kernel_rfl, by kernel_rfl, by kernel_rfl, by kernel_rfl, by kernel_rfl⟩ ⟨Try.underlying3, Try.underlying3, Try.underlying3, Try.underlying34, Try.underlying34, Try.underlying4⟩ hl hy; exact ⟨k, p, i, o, v, z, e, hb⟩) hf
  have hinh : Inhabited Acc := ⟨⟨0, 0, 0, 0, 0, false⟩⟩
  obtain ⟨ab, hab⟩ := choose_lt (p := fun j (q : Acc) => C j = accC q ∧ 0 ≤ q.v ∧ q.v ≤ 18446744073709551615) (fun j hj => by obtain ⟨_, k, p, i, o, v, z, e, hb⟩ := hQ j hj; exact ⟨⟨k, p, i, o, v, z⟩, e, hb⟩)
  have e3 : Value.slice A n cap = .slice F mp cq := by simpa [Value.cells] using e2
  refine ⟨F, mp, cq, ab, e3, hm, ?_, fun j hj => (hab j hj).2⟩
  intro hp
  obtain ⟨b, off, e, hlt, hc⟩ := hC hp
  exact ⟨b, off, e, hlt, fun j hj i u hu => hc j hj i u (by rw [(hab j hj).1]; exact hu)⟩

theorem flowChains_bad (E B Fp : Option Addr) (n ce m cb mp cq : Nat) (w : World) (hn : n ≤ 9223372036854775807) (hm : m ≤ 9223372036854775807) (hmp : mp ≤ 9223372036854775807) (h : 60 < n ∨ 60 < m ∨ 100 < mp) :
    Calls Try.prog 3 #[.slice E n ce, .slice B m cb, .slice Fp mp cq] w fun e w' => e = .returned (.bool true) ∧ Below w.heap.size w w' := by
  by_cases h1 : 60 < n
  · clear h
    go_enter Try.func3, Try.ntmps3
    go_wp2_with fail
    go_at_call 11; refine (chain_awake _).mono ?_; rintro e w2 ⟨rfl, h2⟩
    go_wp2_with fail
    go_ret
    exact ⟨rfl, h2⟩
  have d1 : decide ((60 : Int) < (n : Int)) = false := decide_eq_false (by omega)
  by_cases h3 : 60 < m
  · clear h
    go_enter Try.func3, Try.ntmps3
    go_wp2_with fail
    go_at_call 11; refine (chain_awake _).mono ?_; rintro e w2 ⟨rfl, h2⟩
    go_wp2_with fail
    go_ret
    exact ⟨rfl, h2⟩
  have d2 : decide ((60 : Int) < (m : Int)) = false := decide_eq_false (by omega)
  have h4 : 100 < mp := by omega
  clear h
  go_enter Try.func3, Try.ntmps3
  go_wp2_with fail
  go_at_call 11; refine (chain_awake _).mono ?_; rintro e w2 ⟨rfl, h2⟩
  go_wp2_with fail
  go_ret
  exact ⟨rfl, h2⟩

set_option maxHeartbeats 4000000 in
theorem flowChains_ok (E B Fp : Option Addr) (n ce m cb mp cq : Nat) (f : Nat → Int) (L : Nat → Acc) (Pks : Nat → Pk) (w : World) (hn : n ≤ 60) (hm : m ≤ 60) (hmp : mp ≤ 100) (hnil : E = none → n = 0 ∧ ce = 0) (hs : SeesU w w.heap.size E n f) (hf : ∀ i, i < n → 0 ≤ f i ∧ f i ≤ 18446744073709551615)
    (hL : SeesC w w.heap.size B m 6 (fun j => accC (L j))) (hLv : ∀ j, j < m → 0 ≤ (L j).v ∧ (L j).v ≤ 18446744073709551615) (hP : SeesC w w.heap.size Fp mp 6 (pkC Pks)) (hpv : ∀ j, j < mp → 0 ≤ (Pks j).v ∧ (Pks j).v ≤ 18446744073709551615) :
    Calls Try.prog 3 #[.slice E n ce, .slice B m cb, .slice Fp mp cq] w fun e w' => e = .returned (.bool true) ∧ Below w.heap.size w w' := by
  have d1 : decide ((60 : Int) < (n : Int)) = false := decide_eq_false (by omega)
  have d2 : decide ((60 : Int) < (m : Int)) = false := decide_eq_false (by omega)
  have d3 : decide ((100 : Int) < (mp : Int)) = false := decide_eq_false (by omega)
  have hn6 : n ≤ 1000000 := by omega
  have hn5 : n ≤ 100000 := by omega
  have hO := of_any w E n ce f (by omega) hnil hs hf
  have HS : Hid (SeesU w w.heap.size E n f) := hs
  have HFb : Hid _ := hf
  have HLs : Hid (SeesC w w.heap.size B m 6 (fun j => accC (L j))) := hL
  have HP : Hid (SeesC w w.heap.size Fp mp 6 (pkC Pks)) := hP
  have HPV : Hid (∀ j, j < mp → 0 ≤ (Pks j).v ∧ (Pks j).v ≤ 18446744073709551615) := hpv
  have HFa : Hid (∀ r, r < (okL L m).length → (0 ≤ ((okL L m).getD r noAcc).k ∧ ((okL L m).getD r noAcc).k ≤ 4) ∧ 0 ≤ ((okL L m).getD r noAcc).v ∧ ((okL L m).getD r noAcc).v ≤ 18446744073709551615) := fun r hr => okL_at L m hLv r hr
  have HN : (okL L m).length ≤ 60 := Nat.le_trans (okL_len L m) hm
  have HGo : Hid (∀ k g, chGo k g L rn0 m = chGo k g (fun j => (okL L m).getD j noAcc) rn0 (okL L m).length) := fun k g => chGo_ok k g L rn0 m
  clear hs hf hL hLv hP hpv hnil hn
  go_enter Try.func3, Try.ntmps3
  go_wp2_with fail
  go_at_call 12; refine hO.mono ?_; rintro e w1 ⟨A, cap, c, b, rfl, hI, hb, hb1, hbc, hc1⟩
  have HB1 : Hid (Below w.heap.size w w1) := hb
  have hR := refNew_any w1 E n ce f hn5 ((HS.out.below hb (Nat.le_refl _)).more hb.size) HFb.out
  have HI : Hid (Is w1 122 A cap c b n (fresh f)) := hI
  clear hO hI hb
  go_wp2_with fail
  go_at_call 13; refine hR.mono ?_; rintro e w2 ⟨A', cap', c', b', rfl, hI2, hb2, h21, h22⟩
  have HT2 : Hid (Two w2 A A' cap cap' c b c' b' n (fresh f)) := two_start HI.out hbc hI2 hb2 h21 h22
  have HB2 : Hid (Below w.heap.size w w2) := seq HB1.out hb2
  have hs2 := HB2.out.size
  have hs1 := HB1.out.size
  have hC := chnew_any w2 B m cb L 3 ((HLs.out.below HB2.out (Nat.le_refl _)).more hs2) (by omega)
  have hup : Hid (w.heap.size ≤ c ∧ w.heap.size ≤ b ∧ w.heap.size ≤ c' ∧ w.heap.size ≤ b') := ⟨by omega, by omega, by omega, by omega⟩
  clear hR HI HB1 hb2 hI2 hb1 hbc hc1 h21 h22 HS HFb
  go_wp2_with fail
  go_at_call 14; refine hC.mono ?_; rintro e w3 ⟨rfl, hNd, hBd⟩
  obtain ⟨q0, ba, hCS, hq0, hba, hbl⟩ := newed_state hNd
  have HO0 : Hid (PokeOn w w3 A A' cap cap' c b c' b' n (fresh f) (fresh f) none 0 0 (fun _ => 0) (w2.heap.size :: q0 :: ba :: gotL none)) := poke_begin HT2.out hBd HB2.out hup.out (by
    obtain ⟨l1, l2, l3⟩ := hCS.lts
    intro k hk
    simp only [List.mem_cons, gotL, List.not_mem_nil, or_false] at hk
    rcases hk with rfl | rfl | rfl
    · exact ⟨Nat.le_refl _, l1⟩
    · exact ⟨by omega, l2⟩
    · exact ⟨by omega, hbl⟩)
  have HC0 : Hid (CS w3 w2.heap.size 3 ba (okL L m).length (fun j => (okL L m).getD j noAcc) 0 q0 false none 0 (fun _ => 0)) := hCS
  generalize w2.heap.size = x at *
  generalize hNN : (okL L m).length = N at *
  generalize hFF : (fun j => (okL L m).getD j noAcc) = F at *
  have HFa2 : Hid (∀ r, r < N → (0 ≤ (F r).k ∧ (F r).k ≤ 4) ∧ 0 ≤ (F r).v ∧ (F r).v ≤ 18446744073709551615) := by subst hFF; exact HFa.out
  clear hC hNd hBd hCS hq0 hba hbl HT2 HB2 hup HFa hFF hNN hs1 hs2
  go_wp2_with fail
  go_loopw [11, 12] (fun gv i wr => ∃ (k : Nat) (s : St) (Ag : Option Addr) (capg mg : Nat) (gf : Nat → Int) (r q : Nat) (asl : Bool) (Ac : Option Addr) (capc : Nat) (gc : Nat → Int), k ≤ mp ∧ i = .int .i64 k ∧ gv = .slice Ag mg capg ∧ mg ≤ k ∧ Hid (PokeOn w wr A A' cap cap' c b c' b' n s s Ag capg mg gf (x :: q :: ba :: gotL Ac)) ∧ Hid (CS wr x 3 ba N F r q asl Ac capc gc) ∧ Hid (Low s (k : Int)) ∧ Hid (ChGot gf mg F N gc r asl)) (fun _ i _ => mp - (intOf i).toNat)
  case atStart => exact ⟨0, _, none, 0, 0, _, 0, q0, false, none, 0, _, Nat.zero_le _, rfl, rfl, by omega, HO0, HC0, (low_fresh _), ChGot.start⟩
  case round =>
    clear HO0 HC0
    obtain ⟨k, s, Ag, capg, mg, gf, r, q, asl, Ac, capc, gc, hk, rfl, rfl, hmg, HO, HM, HLW, HG⟩ := hrel
    have hr : r ≤ N := HG.out.h.1
    by_cases hlt : k < mp
    · obtain ⟨fb, foff, rfl, hfb, hcell⟩ := HP.out (by omega)
      have hcw : Hid (∀ i u, (pkC Pks k)[i]? = some u → wr.cell? ⟨fb, foff + k * 6 + i, none⟩ = some u) := fun i u hu => (HO.out.below.cell (p := ⟨fb, foff + k * 6 + i, none⟩) hfb).trans (hcell k hlt i u hu)
      have pz := hcw.out 0 (.bool (Pks k).z) rfl
      have hk0 : (0 : Int) ≤ (k : Int) := Int.natCast_nonneg _
      have hk1 : (k : Int) < (mp : Int) := by omega
      clear hcell
      rw [Nat.add_zero] at pz
      cases hz : (Pks k).z
      · rw [hz] at pz
        have HRA : Hid (wr.rangeAt fb (foff + k * 6 + 1) [.int .i64 (Pks k).k, .int .i64 (Pks k).p, .int .i64 (Pks k).i, .int .u64 (Pks k).o, .int .u64 (Pks k).v]) := fun j u hu => by
          have := hcw.out (1 + j) u (by rw [show pkC Pks k = .bool (Pks k).z :: [.int .i64 (Pks k).k, .int .i64 (Pks k).p, .int .i64 (Pks k).i, .int .u64 (Pks k).o, .int .u64 (Pks k).v] from rfl, Nat.add_comm 1 j, List.getElem?_cons_succ]; exact hu)
          rw [← Nat.add_assoc] at this
          exact this
        clear hz hcw
        go_wp2_with (refine wpList_load_mid rfl 36 _ rfl fb (foff + k * 6 + 1) rfl [.int .i64 (Pks k).k, .int .i64 (Pks k).p, .int .i64 (Pks k).i, .int .u64 (Pks k).o, .int .u64 (Pks k).v] _ HRA.out Try.underlying36 rfl (by kernel_rfl) ?_)
        go_at_call 15; refine (HO.out.poke hn6 (HLW.out.more (by omega)) (Pks k).k (Pks k).p (Pks k).i (Pks k).o (Pks k).v (HPV.out k hlt)).mono ?_; rintro e w9 ⟨rfl, hO, hB⟩
        have HO9 : Hid _ := hO
        have hfar : ∀ z ∈ x :: q :: ba :: gotL Ac, z ∉ [c, b, c', b'] := fun z hz => by
          obtain ⟨h1, h2, h3, h4⟩ := (HO.out.far z hz).1
          simp [h1, h2, h3, h4]
        have HM9 : Hid (CS w9 x 3 ba N F r q asl Ac capc gc) := HM.out.but hB (hfar x (by simp)) (hfar q (by simp)) (hfar ba (by simp)) (fun k e => hfar k (by subst e; simp [gotL]))
        have HLW9 : Hid (Low (actS (Pks k).k (Pks k).p (Pks k).i (Pks k).o (Pks k).v n s) (((k + 1 : Nat)) : Int)) := (actS_low HLW.out _ _ _ _ _ _).more (by omega)
        clear hO hB HO HM HRA pz hfar
        go_wp2_with fail
        go_roundw
        case rel => exact ⟨k + 1, _, Ag, capg, mg, gf, r, q, asl, Ac, capc, gc, by omega, by go_num, rfl, by omega, HO9, HM9, HLW9, HG⟩
        case measure => simp [intOf]; omega
      · rw [hz] at pz
        clear hz hcw
        have hR0 : Hid (RunOn (wr.alloc (.cells (runL (.slice Ag mg capg) rn0).toArray 43)) wr.heap.size Ag capg mg gf rn0) := run_starts HO.out.got (by omega)
        have hb0 : Hid (Below wr.heap.size wr (wr.alloc (.cells (runL (.slice Ag mg capg) rn0).toArray 43))) := (Below.refl _ _).alloc (Nat.le_refl _) _
        have hbw : Below w.heap.size w (wr.alloc (.cells (runL (.slice Ag mg capg) rn0).toArray 43)) := HO.out.below.trans (hb0.out.mono HO.out.below.size)
        have hRR := rchain_on _ _ Ag capg mg gf rn0 B m cb L hR0.out ((HLs.out.below hbw (Nat.le_refl _)).more hbw.size) (by omega) (fun hm0 b off e => by
          obtain ⟨b2, off2, e2, hlt2, -⟩ := HLs.out hm0
          rw [e2] at e; cases e
          have := HO.out.below.size
          omega)
        rw [HGo.out] at hRR
        clear hbw
        go_wp2_with fail
        go_at_call 16; refine hRR.mono ?_; rintro e w4 ⟨v4, rfl, hR4, -, hB4⟩
        have hb4 : Below wr.heap.size wr w4 := hb0.out.trans (hB4.below (by simp) (by simp))
        have HO4 : Hid (PokeOn w w4 A A' cap cap' c b c' b' n s s Ag capg mg gf (x :: q :: ba :: gotL Ac)) := HO.out.still hb4
        have HM4 : Hid (CS w4 x 3 ba N F r q asl Ac capc gc) := HM.out.below hb4
        have HR4 : Hid (RunOn w4 wr.heap.size Ag capg mg gf (chGo mg gf F rn0 N).r) := hR4
        have hs4 : wr.heap.size < w4.heap.size := hR4.blk.lt
        clear hRR hR4 hB4 hR0 hb0 hb4 HO HM pz
        have hTu := fun w5 (h5 : PokeOn w w5 A A' cap cap' c b c' b' n s s Ag capg mg gf (x :: q :: ba :: gotL Ac)) => fc_turn h5 hn6 (HLW.out.more (by omega)) (by omega) HG.out HFa2.out hr
        have HTu : Hid (∀ w5, _ → _) := hTu
        clear hTu
        by_cases hrN : r < N
        · have hNd : decide (r = N) = false := decide_eq_false (by omega)
          obtain ⟨fo, hst, -⟩ := HG.out.stops hrN (HFa2.out r hrN).1
          rw [hst] at HR4 HTu
          dsimp only at HR4 HTu
          have hPk := rpeek_any w4 A' cap' c' b' n s (F r).i hn6 HO4.out.ref
          clear hst
          have s2 := HR4.out.blk.cell 2 (v := .bool true) rfl
          have s5 := HR4.out.blk.cell 5 (v := .int .i64 (F r).i) rfl
          have s9 := HR4.out.blk.cell 9 (v := .bool asl) rfl
          by_cases hv0 : peekT n s (F r).i = 0
          · rw [hv0] at hPk
            have HV0 : Hid (peekT n s (F r).i = 0) := hv0
            clear hv0
            cases asl
            · go_wp2_with fail
              go_at_call 17; refine hPk.mono ?_; rintro e w4b ⟨rfl, rfl⟩
              clear hPk
              have HD : Hid (∀ Y, Below w4.heap.size w4 Y → Calls Try.prog 18 #[.pointer (some ⟨x, 0, none⟩)] Y fun e w' => e = .returned (.bool false) ∧ Y = w') := fun Y hY => by
                obtain ⟨nx, hx1, hx2⟩ := (HM4.out.below hY).nxt
                have := chain_done Y x nx hx1
                rw [hx2, hNd] at this
                exact this
              have HA : Hid (∀ Y, Below w4.heap.size w4 Y → Calls Try.prog 19 #[.pointer (some ⟨x, 0, none⟩), .pointer (some ⟨c, 0, none⟩)] Y fun e w' => e = .returned (.bool false) ∧ Below Y.heap.size Y w') := fun Y hY => by
                have := chain_sleeps Y A cap c b n s (HO4.out.mem.below hY) hn6 x 3 ba N F r q false Ac capc gc (HM4.out.below hY)
                rw [show (false && decide (peekT n s (F r).i = 0)) = false by simp] at this
                exact this
              have hH : Hid (w4.drew.cell? ⟨wr.heap.size, 2, none⟩ = some (.bool true) ∧ Below w4.heap.size w4 w4.drew) := ⟨s2, (Below.refl _ _).drew⟩
              have KEEP : Hid (∀ X w' : World, (X.cell? ⟨wr.heap.size, 2, none⟩ = some (.bool true) ∧ Below w4.heap.size w4 X) → Below X.heap.size X w' → (w'.cell? ⟨wr.heap.size, 2, none⟩ = some (.bool true) ∧ Below w4.heap.size w4 w')) := fun X w' h k => ⟨(HR4.out.below (h.2.trans (k.mono h.2.size))).blk.cell 2 rfl, h.2.trans (k.mono h.2.size)⟩
              go_wp2_with fail
              go_region_held3 (fun w' => w'.cell? ⟨wr.heap.size, 2, none⟩ = some (.bool true) ∧ Below w4.heap.size w4 w') (first | exact hH.out | assumption | exact KEEP.out _ _ ‹_› ‹_›) (first | (go_at_call 18; refine (HD.out _ (by simp only [*])).mono ?_; rintro e x1 ⟨rfl, rfl⟩) | (go_at_call 19; refine (HA.out _ (by simp only [*])).mono ?_; rintro e x2 ⟨rfl, g2⟩))
              all_goals
                rename_i hHeld
                have HO5 : Hid _ := HO4.out.still hHeld.2
                have HM5 : Hid _ := HM4.out.below hHeld.2
                have HRg : Hid _ := (HR4.out.below hHeld.2).range
                have hTu := HTu.out _ HO5.out
                clear HD HA KEEP hH HO4 HM4 HR4 s2 s5 s9 hHeld HTu
                go_wp2_with (refine wpList_load_mid rfl 43 _ rfl wr.heap.size 0 rfl (runL (.slice Ag mg capg) ⟨mg, true, wantK (F r), (F r).i, wantO (F r), wantN (F r), false⟩) _ HRg.out Try.underlying43 rfl (by kernel_rfl) ?_; clear HRg)
                go_at_call 20; refine hTu.mono ?_; rintro e w6 ⟨Ag', capg', rfl, hO6, hB6⟩
                have HO6 : Hid _ := hO6
                have HM6 : Hid (CS w6 x 3 ba N F r q false Ac capc gc) := HM5.out.but hB6 (HO5.out.apart (by simp)) (HO5.out.apart (by simp)) (HO5.out.apart (by simp)) (fun k e => HO5.out.apart (by subst e; simp [gotL]))
                clear hTu hB6 HO5 HM5 hO6
                have hSt := fc_step HO6.out hn6 (HLW.out.more (by omega)) HG.out HM6.out HFa2.out hr (by omega)
                have hml := fcMg_le (fcA F N n r false s) mg
                have HLW7 : Hid (Low (fcS F N n r false s) ((k + 1 : Nat) : Int)) := fcS_low HLW.out
                generalize fcS F N n r false s = s' at *
                generalize fcMg (fcA F N n r false s) mg = m' at *
                generalize fcGf (fcA F N n r false s) mg gf = g' at *
                clear HO6 HM6 HG HLW
                go_wp2_with fail
                go_at_call 21; refine hSt.mono ?_; rintro e w7 ⟨⟨z, rfl⟩, r', q', asl', Ac', capc', gc', hO7, hC7, hG7⟩
                have hAl := alike_any w7 A A' cap cap' c b c' b' n s' hn6 hO7.two
                have HO7 : Hid _ := hO7
                have HC7 : Hid _ := hC7
                have HG7 : Hid _ := hG7
                clear hSt hO7 hC7 hG7
                go_wp2_with fail
                go_at_call 22; refine hAl.mono ?_; rintro e w8 ⟨rfl, hb8⟩
                have HO8 : Hid _ := HO7.out.still hb8
                have HC8 : Hid _ := HC7.out.below hb8
                clear hAl hb8 HO7 HC7
                go_wp2_with fail
                go_roundw
                case rel => exact ⟨k + 1, s', Ag', capg', m', g', r', q', asl', Ac', capc', gc', by omega, by go_num, rfl, by omega, HO8.out, HC8.out, HLW7, HG7.out⟩
                case measure => simp [intOf]; omega
            · go_wp2_with fail
              go_at_call 17; refine hPk.mono ?_; rintro e w4b ⟨rfl, rfl⟩
              clear hPk
              have HD : Hid (∀ Y, Below w4.heap.size w4 Y → Calls Try.prog 18 #[.pointer (some ⟨x, 0, none⟩)] Y fun e w' => e = .returned (.bool false) ∧ Y = w') := fun Y hY => by
                obtain ⟨nx, hx1, hx2⟩ := (HM4.out.below hY).nxt
                have := chain_done Y x nx hx1
                rw [hx2, hNd] at this
                exact this
              have HA : Hid (∀ Y, Below w4.heap.size w4 Y → Calls Try.prog 19 #[.pointer (some ⟨x, 0, none⟩), .pointer (some ⟨c, 0, none⟩)] Y fun e w' => e = .returned (.bool true) ∧ Below Y.heap.size Y w') := fun Y hY => by
                have := chain_sleeps Y A cap c b n s (HO4.out.mem.below hY) hn6 x 3 ba N F r q true Ac capc gc (HM4.out.below hY)
                rw [show (true && decide (peekT n s (F r).i = 0)) = true by simp [HV0.out]] at this
                exact this
              have hH : Hid (w4.drew.cell? ⟨wr.heap.size, 2, none⟩ = some (.bool true) ∧ Below w4.heap.size w4 w4.drew) := ⟨s2, (Below.refl _ _).drew⟩
              have KEEP : Hid (∀ X w' : World, (X.cell? ⟨wr.heap.size, 2, none⟩ = some (.bool true) ∧ Below w4.heap.size w4 X) → Below X.heap.size X w' → (w'.cell? ⟨wr.heap.size, 2, none⟩ = some (.bool true) ∧ Below w4.heap.size w4 w')) := fun X w' h k => ⟨(HR4.out.below (h.2.trans (k.mono h.2.size))).blk.cell 2 rfl, h.2.trans (k.mono h.2.size)⟩
              go_wp2_with fail
              go_region_held3 (fun w' => w'.cell? ⟨wr.heap.size, 2, none⟩ = some (.bool true) ∧ Below w4.heap.size w4 w') (first | exact hH.out | assumption | exact KEEP.out _ _ ‹_› ‹_›) (first | (go_at_call 18; refine (HD.out _ (by simp only [*])).mono ?_; rintro e x1 ⟨rfl, rfl⟩) | (go_at_call 19; refine (HA.out _ (by simp only [*])).mono ?_; rintro e x2 ⟨rfl, g2⟩))
              all_goals
                rename_i hHeld
                have HO5 : Hid _ := HO4.out.still hHeld.2
                have HM5 : Hid _ := HM4.out.below hHeld.2
                have HRg : Hid _ := (HR4.out.below hHeld.2).range
                have hTu := HTu.out _ HO5.out
                clear HD HA KEEP hH HO4 HM4 HR4 s2 s5 s9 hHeld HTu
                go_wp2_with (refine wpList_load_mid rfl 43 _ rfl wr.heap.size 0 rfl (runL (.slice Ag mg capg) ⟨mg, true, wantK (F r), (F r).i, wantO (F r), wantN (F r), true⟩) _ HRg.out Try.underlying43 rfl (by kernel_rfl) ?_; clear HRg)
                go_at_call 20; refine hTu.mono ?_; rintro e w6 ⟨Ag', capg', rfl, hO6, hB6⟩
                have HO6 : Hid _ := hO6
                have HM6 : Hid (CS w6 x 3 ba N F r q true Ac capc gc) := HM5.out.but hB6 (HO5.out.apart (by simp)) (HO5.out.apart (by simp)) (HO5.out.apart (by simp)) (fun k e => HO5.out.apart (by subst e; simp [gotL]))
                clear hTu hB6 HO5 HM5 hO6
                have hSt := fc_step HO6.out hn6 (HLW.out.more (by omega)) HG.out HM6.out HFa2.out hr (by omega)
                have hml := fcMg_le (fcA F N n r true s) mg
                have HLW7 : Hid (Low (fcS F N n r true s) ((k + 1 : Nat) : Int)) := fcS_low HLW.out
                generalize fcS F N n r true s = s' at *
                generalize fcMg (fcA F N n r true s) mg = m' at *
                generalize fcGf (fcA F N n r true s) mg gf = g' at *
                clear HO6 HM6 HG HLW
                go_wp2_with fail
                go_at_call 21; refine hSt.mono ?_; rintro e w7 ⟨⟨z, rfl⟩, r', q', asl', Ac', capc', gc', hO7, hC7, hG7⟩
                have hAl := alike_any w7 A A' cap cap' c b c' b' n s' hn6 hO7.two
                have HO7 : Hid _ := hO7
                have HC7 : Hid _ := hC7
                have HG7 : Hid _ := hG7
                clear hSt hO7 hC7 hG7
                go_wp2_with fail
                go_at_call 22; refine hAl.mono ?_; rintro e w8 ⟨rfl, hb8⟩
                have HO8 : Hid _ := HO7.out.still hb8
                have HC8 : Hid _ := HC7.out.below hb8
                clear hAl hb8 HO7 HC7
                go_wp2_with fail
                go_roundw
                case rel => exact ⟨k + 1, s', Ag', capg', m', g', r', q', asl', Ac', capc', gc', by omega, by go_num, rfl, by omega, HO8.out, HC8.out, HLW7, HG7.out⟩
                case measure => simp [intOf]; omega
          · have HV0 : Hid (peekT n s (F r).i ≠ 0) := hv0
            have hpd : decide (peekT n s (F r).i = 0) = false := decide_eq_false hv0
            generalize hpv : peekT n s (F r).i = pv at *
            have HPV2 : Hid (peekT n s (F r).i = pv) := hpv
            have HV1 : Hid (pv ≠ 0) := hv0
            have hpe : (pv == 0) = false := by simp [hv0]
            clear hv0 hpv
            cases asl
            · go_wp2_with fail
              go_at_call 17; refine hPk.mono ?_; rintro e w4b ⟨rfl, rfl⟩
              clear hPk
              have HD : Hid (∀ Y, Below w4.heap.size w4 Y → Calls Try.prog 18 #[.pointer (some ⟨x, 0, none⟩)] Y fun e w' => e = .returned (.bool false) ∧ Y = w') := fun Y hY => by
                obtain ⟨nx, hx1, hx2⟩ := (HM4.out.below hY).nxt
                have := chain_done Y x nx hx1
                rw [hx2, hNd] at this
                exact this
              have HA : Hid (∀ Y, Below w4.heap.size w4 Y → Calls Try.prog 19 #[.pointer (some ⟨x, 0, none⟩), .pointer (some ⟨c, 0, none⟩)] Y fun e w' => e = .returned (.bool false) ∧ Below Y.heap.size Y w') := fun Y hY => by
                have := chain_sleeps Y A cap c b n s (HO4.out.mem.below hY) hn6 x 3 ba N F r q false Ac capc gc (HM4.out.below hY)
                rw [show (false && decide (peekT n s (F r).i = 0)) = false by simp] at this
                exact this
              have hH : Hid (w4.drew.cell? ⟨wr.heap.size, 2, none⟩ = some (.bool true) ∧ Below w4.heap.size w4 w4.drew) := ⟨s2, (Below.refl _ _).drew⟩
              have KEEP : Hid (∀ X w' : World, (X.cell? ⟨wr.heap.size, 2, none⟩ = some (.bool true) ∧ Below w4.heap.size w4 X) → Below X.heap.size X w' → (w'.cell? ⟨wr.heap.size, 2, none⟩ = some (.bool true) ∧ Below w4.heap.size w4 w')) := fun X w' h k => ⟨(HR4.out.below (h.2.trans (k.mono h.2.size))).blk.cell 2 rfl, h.2.trans (k.mono h.2.size)⟩
              go_wp2_with fail
              go_region_held3 (fun w' => w'.cell? ⟨wr.heap.size, 2, none⟩ = some (.bool true) ∧ Below w4.heap.size w4 w') (first | exact hH.out | assumption | exact KEEP.out _ _ ‹_› ‹_›) (first | (go_at_call 18; refine (HD.out _ (by simp only [*])).mono ?_; rintro e x1 ⟨rfl, rfl⟩) | (go_at_call 19; refine (HA.out _ (by simp only [*])).mono ?_; rintro e x2 ⟨rfl, g2⟩))
              all_goals
                rename_i hHeld
                have HO5 : Hid _ := HO4.out.still hHeld.2
                have HM5 : Hid _ := HM4.out.below hHeld.2
                have HRg : Hid _ := (HR4.out.below hHeld.2).range
                have hTu := HTu.out _ HO5.out
                clear HD HA KEEP hH HO4 HM4 HR4 s2 s5 s9 hHeld HTu
                go_wp2_with (refine wpList_load_mid rfl 43 _ rfl wr.heap.size 0 rfl (runL (.slice Ag mg capg) ⟨mg, true, wantK (F r), (F r).i, wantO (F r), wantN (F r), false⟩) _ HRg.out Try.underlying43 rfl (by kernel_rfl) ?_; clear HRg)
                go_at_call 20; refine hTu.mono ?_; rintro e w6 ⟨Ag', capg', rfl, hO6, hB6⟩
                have HO6 : Hid _ := hO6
                have HM6 : Hid (CS w6 x 3 ba N F r q false Ac capc gc) := HM5.out.but hB6 (HO5.out.apart (by simp)) (HO5.out.apart (by simp)) (HO5.out.apart (by simp)) (fun k e => HO5.out.apart (by subst e; simp [gotL]))
                clear hTu hB6 HO5 HM5 hO6
                have hSt := fc_step HO6.out hn6 (HLW.out.more (by omega)) HG.out HM6.out HFa2.out hr (by omega)
                have hml := fcMg_le (fcA F N n r false s) mg
                have HLW7 : Hid (Low (fcS F N n r false s) ((k + 1 : Nat) : Int)) := fcS_low HLW.out
                generalize fcS F N n r false s = s' at *
                generalize fcMg (fcA F N n r false s) mg = m' at *
                generalize fcGf (fcA F N n r false s) mg gf = g' at *
                clear HO6 HM6 HG HLW
                go_wp2_with fail
                go_at_call 21; refine hSt.mono ?_; rintro e w7 ⟨⟨z, rfl⟩, r', q', asl', Ac', capc', gc', hO7, hC7, hG7⟩
                have hAl := alike_any w7 A A' cap cap' c b c' b' n s' hn6 hO7.two
                have HO7 : Hid _ := hO7
                have HC7 : Hid _ := hC7
                have HG7 : Hid _ := hG7
                clear hSt hO7 hC7 hG7
                go_wp2_with fail
                go_at_call 22; refine hAl.mono ?_; rintro e w8 ⟨rfl, hb8⟩
                have HO8 : Hid _ := HO7.out.still hb8
                have HC8 : Hid _ := HC7.out.below hb8
                clear hAl hb8 HO7 HC7
                go_wp2_with fail
                go_roundw
                case rel => exact ⟨k + 1, s', Ag', capg', m', g', r', q', asl', Ac', capc', gc', by omega, by go_num, rfl, by omega, HO8.out, HC8.out, HLW7, HG7.out⟩
                case measure => simp [intOf]; omega
            · go_wp2_with fail
              go_at_call 17; refine hPk.mono ?_; rintro e w4b ⟨rfl, rfl⟩
              clear hPk
              have HD : Hid (∀ Y, Below w4.heap.size w4 Y → Calls Try.prog 18 #[.pointer (some ⟨x, 0, none⟩)] Y fun e w' => e = .returned (.bool false) ∧ Y = w') := fun Y hY => by
                obtain ⟨nx, hx1, hx2⟩ := (HM4.out.below hY).nxt
                have := chain_done Y x nx hx1
                rw [hx2, hNd] at this
                exact this
              have HA : Hid (∀ Y, Below w4.heap.size w4 Y → Calls Try.prog 19 #[.pointer (some ⟨x, 0, none⟩), .pointer (some ⟨c, 0, none⟩)] Y fun e w' => e = .returned (.bool false) ∧ Below Y.heap.size Y w') := fun Y hY => by
                have := chain_sleeps Y A cap c b n s (HO4.out.mem.below hY) hn6 x 3 ba N F r q true Ac capc gc (HM4.out.below hY)
                rw [show (true && decide (peekT n s (F r).i = 0)) = false by simp [HPV2.out, HV1.out]] at this
                exact this
              have hH : Hid (w4.drew.cell? ⟨wr.heap.size, 2, none⟩ = some (.bool true) ∧ Below w4.heap.size w4 w4.drew) := ⟨s2, (Below.refl _ _).drew⟩
              have KEEP : Hid (∀ X w' : World, (X.cell? ⟨wr.heap.size, 2, none⟩ = some (.bool true) ∧ Below w4.heap.size w4 X) → Below X.heap.size X w' → (w'.cell? ⟨wr.heap.size, 2, none⟩ = some (.bool true) ∧ Below w4.heap.size w4 w')) := fun X w' h k => ⟨(HR4.out.below (h.2.trans (k.mono h.2.size))).blk.cell 2 rfl, h.2.trans (k.mono h.2.size)⟩
              go_wp2_with fail
              go_region_held3 (fun w' => w'.cell? ⟨wr.heap.size, 2, none⟩ = some (.bool true) ∧ Below w4.heap.size w4 w') (first | exact hH.out | assumption | exact KEEP.out _ _ ‹_› ‹_›) (first | (go_at_call 18; refine (HD.out _ (by simp only [*])).mono ?_; rintro e x1 ⟨rfl, rfl⟩) | (go_at_call 19; refine (HA.out _ (by simp only [*])).mono ?_; rintro e x2 ⟨rfl, g2⟩))
              all_goals
                rename_i hHeld
                have HO5 : Hid _ := HO4.out.still hHeld.2
                have HM5 : Hid _ := HM4.out.below hHeld.2
                have HRg : Hid _ := (HR4.out.below hHeld.2).range
                have hTu := HTu.out _ HO5.out
                clear HD HA KEEP hH HO4 HM4 HR4 s2 s5 s9 hHeld HTu
                go_wp2_with (refine wpList_load_mid rfl 43 _ rfl wr.heap.size 0 rfl (runL (.slice Ag mg capg) ⟨mg, true, wantK (F r), (F r).i, wantO (F r), wantN (F r), true⟩) _ HRg.out Try.underlying43 rfl (by kernel_rfl) ?_; clear HRg)
                go_at_call 20; refine hTu.mono ?_; rintro e w6 ⟨Ag', capg', rfl, hO6, hB6⟩
                have HO6 : Hid _ := hO6
                have HM6 : Hid (CS w6 x 3 ba N F r q true Ac capc gc) := HM5.out.but hB6 (HO5.out.apart (by simp)) (HO5.out.apart (by simp)) (HO5.out.apart (by simp)) (fun k e => HO5.out.apart (by subst e; simp [gotL]))
                clear hTu hB6 HO5 HM5 hO6
                have hSt := fc_step HO6.out hn6 (HLW.out.more (by omega)) HG.out HM6.out HFa2.out hr (by omega)
                have hml := fcMg_le (fcA F N n r true s) mg
                have HLW7 : Hid (Low (fcS F N n r true s) ((k + 1 : Nat) : Int)) := fcS_low HLW.out
                generalize fcS F N n r true s = s' at *
                generalize fcMg (fcA F N n r true s) mg = m' at *
                generalize fcGf (fcA F N n r true s) mg gf = g' at *
                clear HO6 HM6 HG HLW
                go_wp2_with fail
                go_at_call 21; refine hSt.mono ?_; rintro e w7 ⟨⟨z, rfl⟩, r', q', asl', Ac', capc', gc', hO7, hC7, hG7⟩
                have hAl := alike_any w7 A A' cap cap' c b c' b' n s' hn6 hO7.two
                have HO7 : Hid _ := hO7
                have HC7 : Hid _ := hC7
                have HG7 : Hid _ := hG7
                clear hSt hO7 hC7 hG7
                go_wp2_with fail
                go_at_call 22; refine hAl.mono ?_; rintro e w8 ⟨rfl, hb8⟩
                have HO8 : Hid _ := HO7.out.still hb8
                have HC8 : Hid _ := HC7.out.below hb8
                clear hAl hb8 HO7 HC7
                go_wp2_with fail
                go_roundw
                case rel => exact ⟨k + 1, s', Ag', capg', m', g', r', q', asl', Ac', capc', gc', by omega, by go_num, rfl, by omega, HO8.out, HC8.out, HLW7, HG7.out⟩
                case measure => simp [intOf]; omega
        · have hNd : decide (r = N) = true := decide_eq_true (by omega)
          obtain ⟨ha, fo, hst, -⟩ := HG.out.ends (by omega)
          rw [hst] at HR4 HTu
          dsimp only [rnU] at HR4 HTu
          have hPk := rpeek_any w4 A' cap' c' b' n s 0 hn6 HO4.out.ref
          clear hst
          subst ha
          have s2 := HR4.out.blk.cell 2 (v := .bool false) rfl
          have s5 := HR4.out.blk.cell 5 (v := .int .i64 0) rfl
          have s9 := HR4.out.blk.cell 9 (v := .bool false) rfl
          generalize hpv : peekT n s 0 = pv at *
          have HPV2 : Hid (peekT n s 0 = pv) := hpv
          clear hpv
          go_wp2_with fail
          go_at_call 17; refine hPk.mono ?_; rintro e w4b ⟨rfl, rfl⟩
          clear hPk
          have HD : Hid (∀ Y, Below w4.heap.size w4 Y → Calls Try.prog 18 #[.pointer (some ⟨x, 0, none⟩)] Y fun e w' => e = .returned (.bool true) ∧ Y = w') := fun Y hY => by
            obtain ⟨nx, hx1, hx2⟩ := (HM4.out.below hY).nxt
            have := chain_done Y x nx hx1
            rw [hx2, hNd] at this
            exact this
          have HA : Hid (∀ Y, Below w4.heap.size w4 Y → Calls Try.prog 19 #[.pointer (some ⟨x, 0, none⟩), .pointer (some ⟨c, 0, none⟩)] Y fun e w' => e = .returned (.bool false) ∧ Below Y.heap.size Y w') := fun Y hY => by
            have := chain_sleeps Y A cap c b n s (HO4.out.mem.below hY) hn6 x 3 ba N F r q false Ac capc gc (HM4.out.below hY)
            rw [show (false && decide (peekT n s (F r).i = 0)) = false by simp] at this
            exact this
          have hH : Hid (w4.drew.cell? ⟨wr.heap.size, 2, none⟩ = some (.bool false) ∧ Below w4.heap.size w4 w4.drew) := ⟨s2, (Below.refl _ _).drew⟩
          have KEEP : Hid (∀ X w' : World, (X.cell? ⟨wr.heap.size, 2, none⟩ = some (.bool false) ∧ Below w4.heap.size w4 X) → Below X.heap.size X w' → (w'.cell? ⟨wr.heap.size, 2, none⟩ = some (.bool false) ∧ Below w4.heap.size w4 w')) := fun X w' h k => ⟨(HR4.out.below (h.2.trans (k.mono h.2.size))).blk.cell 2 rfl, h.2.trans (k.mono h.2.size)⟩
          go_wp2_with fail
          go_region_held3 (fun w' => w'.cell? ⟨wr.heap.size, 2, none⟩ = some (.bool false) ∧ Below w4.heap.size w4 w') (first | exact hH.out | assumption | exact KEEP.out _ _ ‹_› ‹_›) (first | (go_at_call 18; refine (HD.out _ (by simp only [*])).mono ?_; rintro e x1 ⟨rfl, rfl⟩) | (go_at_call 19; refine (HA.out _ (by simp only [*])).mono ?_; rintro e x2 ⟨rfl, g2⟩))
          all_goals
            rename_i hHeld
            have HO5 : Hid _ := HO4.out.still hHeld.2
            have HM5 : Hid _ := HM4.out.below hHeld.2
            have HRg : Hid _ := (HR4.out.below hHeld.2).range
            have hTu := HTu.out _ HO5.out
            clear HD HA KEEP hH HO4 HM4 HR4 s2 s5 s9 hHeld HTu
            go_wp2_with (refine wpList_load_mid rfl 43 _ rfl wr.heap.size 0 rfl (runL (.slice Ag mg capg) ⟨mg, false, 0, 0, 0, 0, false⟩) _ HRg.out Try.underlying43 rfl (by kernel_rfl) ?_; clear HRg)
            go_at_call 20; refine hTu.mono ?_; rintro e w6 ⟨Ag', capg', rfl, hO6, hB6⟩
            have HO6 : Hid _ := hO6
            have HM6 : Hid (CS w6 x 3 ba N F r q false Ac capc gc) := HM5.out.but hB6 (HO5.out.apart (by simp)) (HO5.out.apart (by simp)) (HO5.out.apart (by simp)) (fun k e => HO5.out.apart (by subst e; simp [gotL]))
            clear hTu hB6 HO5 HM5 hO6
            have hSt := fc_step HO6.out hn6 (HLW.out.more (by omega)) HG.out HM6.out HFa2.out hr (by omega)
            have hml := fcMg_le (fcA F N n r false s) mg
            have HLW7 : Hid (Low (fcS F N n r false s) ((k + 1 : Nat) : Int)) := fcS_low HLW.out
            generalize fcS F N n r false s = s' at *
            generalize fcMg (fcA F N n r false s) mg = m' at *
            generalize fcGf (fcA F N n r false s) mg gf = g' at *
            clear HO6 HM6 HG HLW
            go_wp2_with fail
            go_at_call 21; refine hSt.mono ?_; rintro e w7 ⟨⟨z, rfl⟩, r', q', asl', Ac', capc', gc', hO7, hC7, hG7⟩
            have hAl := alike_any w7 A A' cap cap' c b c' b' n s' hn6 hO7.two
            have HO7 : Hid _ := hO7
            have HC7 : Hid _ := hC7
            have HG7 : Hid _ := hG7
            clear hSt hO7 hC7 hG7
            go_wp2_with fail
            go_at_call 22; refine hAl.mono ?_; rintro e w8 ⟨rfl, hb8⟩
            have HO8 : Hid _ := HO7.out.still hb8
            have HC8 : Hid _ := HC7.out.below hb8
            clear hAl hb8 HO7 HC7
            go_wp2_with fail
            go_roundw
            case rel => exact ⟨k + 1, s', Ag', capg', m', g', r', q', asl', Ac', capc', gc', by omega, by go_num, rfl, by omega, HO8.out, HC8.out, HLW7, HG7.out⟩
            case measure => simp [intOf]; omega
    · obtain rfl : k = mp := by omega
      have hgd : decide ((k : Int) < (k : Int)) = false := by simp
      have hR0 : Hid (RunOn (wr.alloc (.cells (runL (.slice Ag mg capg) rn0).toArray 43)) wr.heap.size Ag capg mg gf rn0) := run_starts HO.out.got (by omega)
      have hb0 : Hid (Below wr.heap.size wr (wr.alloc (.cells (runL (.slice Ag mg capg) rn0).toArray 43))) := (Below.refl _ _).alloc (Nat.le_refl _) _
      have hbw : Below w.heap.size w (wr.alloc (.cells (runL (.slice Ag mg capg) rn0).toArray 43)) := HO.out.below.trans (hb0.out.mono HO.out.below.size)
      have hRR := rchain_on _ _ Ag capg mg gf rn0 B m cb L hR0.out ((HLs.out.below hbw (Nat.le_refl _)).more hbw.size) (by omega) (fun hm0 b off e => by
        obtain ⟨b2, off2, e2, hlt2, -⟩ := HLs.out hm0
        rw [e2] at e; cases e
        have := HO.out.below.size
        omega)
      rw [HGo.out] at hRR
      clear hbw
      go_wp2_with fail
      go_at_call 16; refine hRR.mono ?_; rintro e w4 ⟨v4, rfl, hR4, hOw, hB4⟩
      have hb4 : Below wr.heap.size wr w4 := hb0.out.trans (hB4.below (by simp) (by simp))
      have HO4 : Hid (PokeOn w w4 A A' cap cap' c b c' b' n s s Ag capg mg gf (x :: q :: ba :: gotL Ac)) := HO.out.still hb4
      have HM4 : Hid (CS w4 x 3 ba N F r q asl Ac capc gc) := HM.out.below hb4
      have HR4 : Hid (RunOn w4 wr.heap.size Ag capg mg gf (chGo mg gf F rn0 N).r) := hR4
      have hs4 : wr.heap.size < w4.heap.size := hR4.blk.lt
      have hcnt : ∃ fo, (chGo mg gf F rn0 N).c = r ∧ (chGo mg gf F rn0 N).f = fo ∧ (∀ j, j < r → fo j = gc j) ∧ (chGo mg gf F rn0 N).r.stop = decide (r < N) := by
        by_cases hrN : r < N
        · obtain ⟨fo, hst, hfo⟩ := HG.out.stops hrN (HFa2.out r hrN).1
          rw [hst]
          exact ⟨fo, rfl, rfl, hfo, (decide_eq_true hrN).symm⟩
        · obtain ⟨ha, fo, hst, hfo⟩ := HG.out.ends (by omega)
          rw [hst]
          exact ⟨fo, by dsimp only; omega, rfl, fun j hj => hfo j (by omega), (decide_eq_false hrN).symm⟩
      obtain ⟨fo, e1, e2, e3, e4⟩ := hcnt
      rw [e1, e2, wordCells_same r e3] at hOw
      obtain ⟨Aw, capw, rfl, hWs⟩ := sees_row hOw
      have HWs : Hid (SeesU w4 w4.heap.size Aw r gc) := hWs
      have s2 := HR4.out.blk.cell 2 (v := .bool (decide (r < N))) (by rw [← e4]; rfl)
      have HCS : Hid (∀ Y, Below w4.heap.size w4 Y → CS Y x 3 ba N F r q asl Ac capc gc) := fun Y hY => HM4.out.below hY
      have HTS : Hid (∀ Y, Below w4.heap.size w4 Y → Two Y A A' cap cap' c b c' b' n s) := fun Y hY => HO4.out.two.below hY
      have HWS : Hid (∀ Y, Below w4.heap.size w4 Y → SeesU Y Y.heap.size Aw r gc) := fun Y hY => (HWs.out.below hY (Nat.le_refl _)).more hY.size
      have HB9 : Hid (Below w.heap.size w w4) := HO4.out.below
      have hrL : r ≤ 1000000 := by omega
      have k0 := HO4.out.ref.cells.1
      clear hRR hR4 hB4 hR0 hb0 hb4 HO HM e1 e2 e3 e4 hOw hWs
      by_cases hrN : r < N
      · rw [decide_eq_true hrN] at s2
        have hNd : decide (r = N) = false := decide_eq_false (by omega)
        have HD : Hid (∀ Y, Below w4.heap.size w4 Y → Calls Try.prog 18 #[.pointer (some ⟨x, 0, none⟩)] Y fun e w' => e = .returned (.bool false) ∧ Y = w') := fun Y hY => by
          obtain ⟨nx, hx1, hx2⟩ := (HCS.out Y hY).nxt
          have := chain_done Y x nx hx1
          rw [hx2, hNd] at this
          exact this
        have HGt : Hid (∀ Y, Below w4.heap.size w4 Y → Calls Try.prog 24 #[.pointer (some ⟨x, 0, none⟩)] Y fun e w' => ∃ A5 cap5, e = .returned (.slice A5 r cap5) ∧ SeesU w' w'.heap.size A5 r gc ∧ Below Y.heap.size Y w') := fun Y hY => by
          refine (chain_got Y x 3 ba N F r q asl Ac capc gc (HCS.out Y hY) hrL).mono ?_
          rintro e w' ⟨v, rfl, h1, h2⟩
          obtain ⟨A5, cap5, rfl, hs5⟩ := sees_row h1
          exact ⟨A5, cap5, rfl, hs5, h2⟩
        have hH : Hid ((w4.drew.cell? ⟨wr.heap.size, 2, none⟩ = some (.bool true) ∧ w4.drew.cell? ⟨c', 0, none⟩ = some (.slice A' n cap')) ∧ Below w4.heap.size w4 w4.drew) := ⟨⟨s2, k0⟩, (Below.refl _ _).drew⟩
        have KEEP : Hid (∀ X w' : World, ((X.cell? ⟨wr.heap.size, 2, none⟩ = some (.bool true) ∧ X.cell? ⟨c', 0, none⟩ = some (.slice A' n cap')) ∧ Below w4.heap.size w4 X) → Below X.heap.size X w' → ((w'.cell? ⟨wr.heap.size, 2, none⟩ = some (.bool true) ∧ w'.cell? ⟨c', 0, none⟩ = some (.slice A' n cap')) ∧ Below w4.heap.size w4 w')) := fun X w' h k => ⟨⟨(k.cell (p := ⟨wr.heap.size, 2, none⟩) (Nat.lt_of_lt_of_le hs4 h.2.size)).trans h.1.1, (HTS.out _ (h.2.trans (k.mono h.2.size))).r.cells.1⟩, h.2.trans (k.mono h.2.size)⟩
        clear hNd
        go_wp2_with fail
        go_region_held3 (fun w' => (w'.cell? ⟨wr.heap.size, 2, none⟩ = some (.bool true) ∧ w'.cell? ⟨c', 0, none⟩ = some (.slice A' n cap')) ∧ Below w4.heap.size w4 w') (first | exact hH.out | assumption | exact KEEP.out _ _ ‹_› ‹_›) (first | (go_at_call 11; refine (chain_awake _).mono ?_; rintro e x1 ⟨rfl, g1⟩) | (go_at_call 18; refine (HD.out _ (by simp only [*])).mono ?_; rintro e x2 ⟨rfl, rfl⟩) | (go_at_call 24; refine (HGt.out _ (by simp only [*])).mono ?_; rintro e x3 ⟨A5, cap5, rfl, hs5, g3⟩) | (go_at_call_of 23 (Value.slice A5 r cap5); refine (sameB_any _ A5 Aw r cap5 capw gc hrL hs5 (HWS.out _ (by simp only [*]))).mono ?_; rintro e x4 ⟨rfl, g4⟩) | (go_at_call 25; refine (words_any _ A cap c b n s (HTS.out _ (by simp only [*])).m hn6).mono ?_; rintro e x5 ⟨A4, cap4, rfl, hs4b, g5⟩) | (go_at_call_of 23 (Value.slice A4 n cap4); refine (sameB_any _ A4 A' n cap4 cap' s.f hn6 hs4b (HTS.out _ (by simp only [*])).r.sees).mono ?_; rintro e x6 ⟨rfl, g6⟩))
        all_goals
          rename_i hHeld
          have hbF := HB9.out.trans (hHeld.2.mono HB9.out.size)
          go_wp2_with fail
          go_ret
          exact ⟨rfl, hbF⟩
      · rw [decide_eq_false hrN] at s2
        have hNd : decide (r = N) = true := decide_eq_true (by omega)
        have HD : Hid (∀ Y, Below w4.heap.size w4 Y → Calls Try.prog 18 #[.pointer (some ⟨x, 0, none⟩)] Y fun e w' => e = .returned (.bool true) ∧ Y = w') := fun Y hY => by
          obtain ⟨nx, hx1, hx2⟩ := (HCS.out Y hY).nxt
          have := chain_done Y x nx hx1
          rw [hx2, hNd] at this
          exact this
        have HGt : Hid (∀ Y, Below w4.heap.size w4 Y → Calls Try.prog 24 #[.pointer (some ⟨x, 0, none⟩)] Y fun e w' => ∃ A5 cap5, e = .returned (.slice A5 r cap5) ∧ SeesU w' w'.heap.size A5 r gc ∧ Below Y.heap.size Y w') := fun Y hY => by
          refine (chain_got Y x 3 ba N F r q asl Ac capc gc (HCS.out Y hY) hrL).mono ?_
          rintro e w' ⟨v, rfl, h1, h2⟩
          obtain ⟨A5, cap5, rfl, hs5⟩ := sees_row h1
          exact ⟨A5, cap5, rfl, hs5, h2⟩
        have hH : Hid ((w4.drew.cell? ⟨wr.heap.size, 2, none⟩ = some (.bool false) ∧ w4.drew.cell? ⟨c', 0, none⟩ = some (.slice A' n cap')) ∧ Below w4.heap.size w4 w4.drew) := ⟨⟨s2, k0⟩, (Below.refl _ _).drew⟩
        have KEEP : Hid (∀ X w' : World, ((X.cell? ⟨wr.heap.size, 2, none⟩ = some (.bool false) ∧ X.cell? ⟨c', 0, none⟩ = some (.slice A' n cap')) ∧ Below w4.heap.size w4 X) → Below X.heap.size X w' → ((w'.cell? ⟨wr.heap.size, 2, none⟩ = some (.bool false) ∧ w'.cell? ⟨c', 0, none⟩ = some (.slice A' n cap')) ∧ Below w4.heap.size w4 w')) := fun X w' h k => ⟨⟨(k.cell (p := ⟨wr.heap.size, 2, none⟩) (Nat.lt_of_lt_of_le hs4 h.2.size)).trans h.1.1, (HTS.out _ (h.2.trans (k.mono h.2.size))).r.cells.1⟩, h.2.trans (k.mono h.2.size)⟩
        clear hNd
        go_wp2_with fail
        go_region_held3 (fun w' => (w'.cell? ⟨wr.heap.size, 2, none⟩ = some (.bool false) ∧ w'.cell? ⟨c', 0, none⟩ = some (.slice A' n cap')) ∧ Below w4.heap.size w4 w') (first | exact hH.out | assumption | exact KEEP.out _ _ ‹_› ‹_›) (first | (go_at_call 11; refine (chain_awake _).mono ?_; rintro e x1 ⟨rfl, g1⟩) | (go_at_call 18; refine (HD.out _ (by simp only [*])).mono ?_; rintro e x2 ⟨rfl, rfl⟩) | (go_at_call 24; refine (HGt.out _ (by simp only [*])).mono ?_; rintro e x3 ⟨A5, cap5, rfl, hs5, g3⟩) | (go_at_call_of 23 (Value.slice A5 r cap5); refine (sameB_any _ A5 Aw r cap5 capw gc hrL hs5 (HWS.out _ (by simp only [*]))).mono ?_; rintro e x4 ⟨rfl, g4⟩) | (go_at_call 25; refine (words_any _ A cap c b n s (HTS.out _ (by simp only [*])).m hn6).mono ?_; rintro e x5 ⟨A4, cap4, rfl, hs4b, g5⟩) | (go_at_call_of 23 (Value.slice A4 n cap4); refine (sameB_any _ A4 A' n cap4 cap' s.f hn6 hs4b (HTS.out _ (by simp only [*])).r.sees).mono ?_; rintro e x6 ⟨rfl, g6⟩))
        all_goals
          rename_i hHeld
          have hbF := HB9.out.trans (hHeld.2.mono HB9.out.size)
          go_wp2_with fail
          go_ret
          exact ⟨rfl, hbF⟩

theorem flowChains_walk (E B Fp : Option Addr) (n ce m cb mp cq : Nat) (f : Nat → Int) (L : Nat → Acc) (Pks : Nat → Pk) (w : World) (hn : n ≤ 9223372036854775807) (hm : m ≤ 9223372036854775807) (hmp : mp ≤ 9223372036854775807) (hnil : E = none → n = 0 ∧ ce = 0) (hs : SeesU w w.heap.size E n f) (hf : ∀ i, i < n → 0 ≤ f i ∧ f i ≤ 18446744073709551615)
    (hL : SeesC w w.heap.size B m 6 (fun j => accC (L j))) (hLv : ∀ j, j < m → 0 ≤ (L j).v ∧ (L j).v ≤ 18446744073709551615) (hP : SeesC w w.heap.size Fp mp 6 (pkC Pks)) (hpv : ∀ j, j < mp → 0 ≤ (Pks j).v ∧ (Pks j).v ≤ 18446744073709551615) :
    Calls Try.prog 3 #[.slice E n ce, .slice B m cb, .slice Fp mp cq] w fun e w' => e = .returned (.bool true) ∧ Below w.heap.size w w' := by
  by_cases h : 60 < n ∨ 60 < m ∨ 100 < mp
  · exact flowChains_bad E B Fp n ce m cb mp cq w hn hm hmp h
  · exact flowChains_ok E B Fp n ce m cb mp cq f L Pks w (by omega) (by omega) (by omega) hnil hs hf hL hLv hP hpv

end Go.Proofs.Ytlnjjcfkcoaceaa

namespace Go.Proofs.Ytlnjjcfkcoaceaa
open Go Go.ChangeShapes Go.WideShapes Go.ChangeAt Go.RowKit Go.Joins
set_option linter.unusedVariables false
set_option linter.unusedSimpArgs false

theorem own_flowChains : ownKnob Try.prog.godebug = none := by kernel_rfl
theorem laidOut_flowChains : laidOutB Try.prog = true := by kernel_rfl

set_option maxRecDepth 100000 in
theorem lifted_flowChains (os : Os) (started : os.Started) (H : Type) (enc : TypeId × Value → H) :
    ReturnsInHanded {} Try.checked os 3 .any (Rows.flowChainsSpec.pre6 enc Try.prog Try.f3 Rows.flowChainsRow.domain false) (Rows.flowChainsSpec.post enc Try.prog Try.f3 false true false false) := by
  refine returnsInHanded_of_change (C := Try.checked) own_flowChains started (by kernel_rfl) Try.func3
    (ChangeSpec.witness6 (enc := enc) (C := Try.checked) false ⟨#[], #[.slice none 0 0, .slice none 0 0, .slice none 0 0], []⟩ 8 (by kernel_rfl) (by kernel_rfl) (by kernel_rfl) (by kernel_rfl)) ?_
  intro W base args ds gs before hval0 hW hcnd _
  have hval : ∀ (j : Nat) t v, Try.f3.params[j]? = some t → args[j]? = some v → Value.okWide Try.prog W .any base t v := hval0
  have hW' := hW
  obtain ⟨p, q, hA0, hV, rfl, hfz, hnd⟩ := hW
  have hA : DataW.TrodAll enc Try.prog W 0 (fun _ => true) true Try.f3.params.toList args.toList ds p := hA0
  rw [Try.params3] at hA hval
  obtain ⟨v0, vs0, d0, ds0, p0, q0, hargs, rfl, rfl, h0, r0⟩ := trodAll_cons hA
  obtain ⟨v1, vs1, d1, ds1, p1, q1, rfl, rfl, rfl, h1, r1⟩ := trodAll_cons r0
  obtain ⟨v2, vs2, d2, ds2, p2, q2, rfl, rfl, rfl, h2, r2⟩ := trodAll_cons r1
  obtain ⟨rfl, rfl, rfl⟩ := trodAll_nil r2
  obtain rfl : args = #[v0, v1, v2] := by cases args; simp_all
  obtain ⟨E, n, ce, f, rfl, hn, hnil, hs, hf⟩ := sees_words Try.underlying22 Try.underlying34 (by kernel_rfl) (hval 0 22 v0 rfl rfl) h0
  obtain ⟨B, m, cb, L, rfl, hm, hL, hLv⟩ := open_accs (hval 1 23 v1 rfl rfl) h1
  obtain ⟨Fp, mp, cq, Pks, rfl, hmp, hP, hpv⟩ := open_pokes (hval 2 24 v2 rfl rfl) h2
  unfold maxLen at hn hm hmp
  clear hA0 hval0
  refine (flowChains_walk E B Fp n ce m cb mp cq f L Pks W (by omega) (by omega) (by omega) hnil hs hf hL hLv hP hpv).mono fun e W' ⟨he, hb⟩ => ?_
  subst he
  exact ⟨_, rfl, law_post laidOut_flowChains rfl Try.underlying4 (by kernel_rfl) rfl rfl rfl rfl hW' hb⟩

theorem flowChains_holds : Rows.FlowChainsSaid :=
  OpenClaim.holds_of_wide 3 Try.f3 rfl rfl rfl rfl rfl rfl rfl ⟨rfl, rfl, rfl, rfl, rfl⟩ rfl rfl rfl rfl rfl (by kernel_rfl) Try.func3 (by kernel_rfl)
    (of_decide_eq_true (by kernel_rfl)) (by unfold Func.isWrapper; first | (rw [if_pos (by decide +kernel)]; kernel_rfl) | (rw [if_neg (by decide +kernel)]; exact ⟨rfl, rfl⟩))
    (fun os started H enc _ => lifted_flowChains os started H enc)
#print axioms flowChains_holds
end Go.Proofs.Ytlnjjcfkcoaceaa
