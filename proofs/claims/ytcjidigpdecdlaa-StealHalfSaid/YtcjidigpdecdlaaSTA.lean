/- StealHalf: half of a ring is taken, the oldest ones, one of them to be run and the others into the ring of who steals; from every word on, for every number of goroutines; no condition. -/
import Derived.Test.YtcjidigpdecdlaaGnd2
import Derived.Test.YtcjidigpdecdlaaIntsR
import Derived.Deep.RegionLaw
import Derived.Deep.AppendLies
import Derived.Test.YtcjidigpdecdlaaSt7
import Derived.Test.YtcjidigpdecdlaaRW2
import Derived.Test.YtcjidigpdecdlaaStAw
import Derived.Test.YtcjidigpdecdlaaTwo
import Derived.ProofKit
import Derived.Carry
import Derived.WalkKit
import Derived.OpenShut
import Derived.Test.YtcjidigpdecdlaaOpen
import Derived.Lib.SmallJoins
namespace Go.Proofs.Ytcjidigpdecdlaa
open Go Go.RowKit
set_option linter.unusedVariables false
set_option maxRecDepth 100000
set_option linter.unusedSimpArgs false

/-- What a ground is made of that has them. -/
def shA (h : Int) (i : Nat) : Int := if i = 0 then 21 else if i = 1 then 22 else if i = 2 then 285 else if i = 3 then 286 else 28 + (h + (i - 4 : Nat)) % 256
def shV (h h2 : Int) (m : Nat) (i : Nat) : Int := if i = 0 then h else if i = 1 then (h + m) % 4294967296 else if i = 2 then h2 else if i = 3 then h2 else (((i - 4) % 60 : Nat) : Int) + 1
def shC (h h2 : Int) (m k : Nat) : List Value := (List.range k).flatMap fun i => [.int .i64 (shA h i), .int .u64 (shV h h2 m i)]
theorem shC_succ (h h2 : Int) (m k : Nat) : shC h h2 m (k + 1) = shC h h2 m k ++ [.int .i64 (shA h k), .int .u64 (shV h h2 m k)] := by
  unfold shC; rw [List.range_succ, List.flatMap_append]; simp
theorem shC_len (h h2 : Int) (m : Nat) : ∀ k, (shC h h2 m k).length = k * 2
  | 0 => rfl
  | k + 1 => by rw [shC_succ, List.length_append, shC_len h h2 m k]; simp; omega
theorem shC_at (h h2 : Int) (m : Nat) : ∀ k i, i < k → (shC h h2 m k)[i * 2]? = some (.int .i64 (shA h i)) ∧ (shC h h2 m k)[i * 2 + 1]? = some (.int .u64 (shV h h2 m i))
  | 0, i, hi => absurd hi (by omega)
  | k + 1, i, hi => by
    have hl := shC_len h h2 m k
    rw [shC_succ]
    by_cases e : i = k
    · subst e
      rw [List.getElem?_append_right (by omega), List.getElem?_append_right (by omega), hl, show i * 2 - i * 2 = 0 by omega, show i * 2 + 1 - i * 2 = 1 by omega]
      exact ⟨rfl, rfl⟩
    · rw [List.getElem?_append_left (by omega), List.getElem?_append_left (by omega)]
      exact shC_at h h2 m k i (by omega)
/-- A row of words that are laid, as it grows. -/
structure FuS (w W : World) (h h2 : Int) (m k g bc : Nat) (v : Value) : Prop where
  blk : Blk W g #[.int .i64 2, .int .i64 2, .int .i64 60, v] 32
  box : Blk W bc #[.int .u32 h, .int .u32 h2] 23
  own : W.ownsRow w.heap.size 29 2 v (k + 4) (shC h h2 m (k + 4))
  far : v.ownBlock ≠ some g ∧ v.ownBlock ≠ some bc
  below : Below w.heap.size w W
  lo : w.heap.size ≤ bc ∧ bc < g
theorem FuS.drew {w W : World} {h h2 : Int} {m k g bc : Nat} {v : Value} (H : FuS w W h h2 m k g bc v) : FuS w W.drew h h2 m k g bc v := ⟨H.blk.drew, H.box.drew, H.own.drew, H.far, H.below.drew, H.lo⟩
theorem FuS.al {w W : World} {h h2 : Int} {m k g bc : Nat} {v : Value} (H : FuS w W h h2 m k g bc v) (o : Obj) : FuS w (W.alloc o) h h2 m k g bc v := ⟨H.blk.al o, H.box.al o, H.own.alloc o, H.far, H.below.alloc H.below.size o, H.lo⟩
theorem FuS.next {w W W' : World} {h h2 : Int} {m k g bc g' cap : Nat} {v : Value} (H : FuS w W h h2 m k g bc v) (ho : W'.ownsRow w.heap.size 29 2 (.slice (some ⟨g', 0, none⟩) (k + 4 + 1) cap) (k + 4 + 1) (shC h h2 m (k + 4) ++ [.int .i64 (shA h (k + 4)), .int .u64 (shV h h2 m (k + 4))])) (hg : W.grownBy W' v.ownBlock) (hat : v.ownBlock = some g' ∨ g' = W.heap.size) (hlt : g' < W'.heap.size) :
    FuS w (W'.setCell ⟨g, 3, none⟩ (.slice (some ⟨g', 0, none⟩) (k + 4 + 1) cap)) h h2 m (k + 1) g bc (.slice (some ⟨g', 0, none⟩) (k + 1 + 4) cap) := by
  have kg : ∀ c, c < W.heap.size → v.ownBlock ≠ some c → W'.heap[c]? = W.heap[c]? := fun c hc hne => hg.block c hc (Ne.symm hne)
  have b1 := H.blk.keep (kg g H.blk.lt H.far.1)
  have b2 := H.box.keep (kg bc H.box.lt H.far.2)
  have hfar : ∀ c, c < W.heap.size → v.ownBlock ≠ some c → g' ≠ c := fun c hc hne e => by
    rcases hat with h1 | h1
    · exact hne (by rw [h1, e])
    · omega
  have f1 := hfar g H.blk.lt H.far.1
  have f2 := hfar bc H.box.lt H.far.2
  have hlo := H.lo
  have hB : But [g] W' (W'.setCell ⟨g, 3, none⟩ (.slice (some ⟨g', 0, none⟩) (k + 4 + 1) cap)) := (But.refl _ _).set (g := g) (.inl (by simp)) 3 _
  refine ⟨b1.set 3 _, b2.but hB (by simp; omega), ?_, ⟨?_, ?_⟩, ?_, hlo⟩
  · have hr : shC h h2 m (k + 1 + 4) = shC h h2 m (k + 4) ++ [.int .i64 (shA h (k + 4)), .int .u64 (shV h h2 m (k + 4))] := shC_succ h h2 m (k + 4)
    rw [hr]
    refine ⟨ho.1, ?_⟩
    rcases ho.2 with ⟨e0, -⟩ | ⟨gb, cp, cur, e0, hb, hh, rest⟩
    · cases e0
    · injection e0 with e1 e2 e3
      injection e1 with e1
      injection e1 with e1
      refine .inr ⟨gb, cp, cur, by rw [e1, e3], hb, (hB.block gb (block_lt hh) (by simp; omega)).trans hh, rest⟩
  · show (some g' : Option Nat) ≠ some g
    simpa using f1
  · show (some g' : Option Nat) ≠ some bc
    simpa using f2
  · have hx : But (rowB v) W W' := (But.refl _ _).grown hg (fun q hq => .inl (rowB_mem hq))
    have hrow : ∀ q ∈ rowB v, w.heap.size ≤ q := fun q hq => by
      have hq := mem_rowB hq
      rcases H.own.2 with ⟨e0, -⟩ | ⟨gb, cp, cur, e0, hb, -⟩
      · rw [e0] at hq; cases hq
      · rw [e0] at hq; injection hq with hq; rw [← hq]; exact hb
    have h1 := H.below.trans (hx.below hrow H.below.size)
    exact h1.trans (hB.below (by simp; omega) h1.size)
theorem info29 : (Try.prog.info? 29).map (fun i => (i.zero, i.size, i.bytes)) = some (some (.agg #[.int .i64 0, .int .u64 0]), 2, 16) := by kernel_rfl
end Go.Proofs.Ytcjidigpdecdlaa

namespace Go.Proofs.Ytcjidigpdecdlaa
open Go Go.RowKit
set_option linter.unusedVariables false
set_option maxRecDepth 100000
set_option linter.unusedSimpArgs false

theorem WordsOn.keep {w w' : World} {base : Nat} {v : Value} {l : List Int} {ll : List Nat} (h : WordsOn w base v l) (hB : But ll w w') (hk : ∀ k ∈ rowB v, k ∉ ll) : WordsOn w' base v l := by
  refine ⟨h.own.1, ?_⟩
  rcases h.own.2 with h0 | ⟨gb, cp, cur, e0, hb, hh, rest⟩
  · exact .inl h0
  · exact .inr ⟨gb, cp, cur, e0, hb, (hB.block gb (block_lt hh) (hk gb (rowB_mem (by rw [e0]; rfl)))).trans hh, rest⟩
theorem WordsOn.up {w : World} {base : Nat} {v : Value} {l : List Int} (h : WordsOn w base v l) : ∀ k ∈ rowB v, base ≤ k ∧ k < w.heap.size := fun k hk => h.own.lt k (mem_rowB hk)
/-- A list of words that is only read. -/
def Rd.wrd (base : Nat) (v : Value) (l : List Int) : Rd := ⟨rowB v, fun w => WordsOn w base v l, fun w w' ll h hb hk => h.keep hb hk⟩
theorem WordsOn.at' {w : World} {base m cap : Nat} {A : Option Addr} {l : List Int} (h : WordsOn w base (.slice A m cap) l) (h0 : 0 < l.length) : ∃ gb : Nat, A = some ⟨gb, 0, none⟩ ∧ gb < w.heap.size ∧ l.length ≤ cap ∧ ∀ j, j < l.length → w.cell? ⟨gb, j, none⟩ = some (.int .u64 (l.getD j 0)) := by
  rcases h.own.2 with ⟨e, h1⟩ | ⟨gb, cp, cur, e, hb, hh, hnc, hcm, hcs, htk⟩
  · omega
  · injection e with e1 e2 e3
    refine ⟨gb, e1, block_lt hh, by omega, fun j hj => ?_⟩
    obtain ⟨gb', cp', e', -, hc⟩ := h.cell hj
    injection e' with e4 e5 e6
    rw [e1] at e4
    injection e4 with e4
    injection e4 with e4
    rw [e4]; exact hc
theorem putF_off {a v : Nat → Int} {n : Nat} {j : Nat} : ∀ k, (∀ i, i < k → a i ≠ j) → putF a v n k j = 0
  | 0, _ => rfl
  | k + 1, h => by
    have ih := putF_off (a := a) (v := v) (n := n) (j := j) k (fun i hi => h i (by omega))
    have hk := h k (by omega)
    unfold putF
    by_cases hc : 0 ≤ a k ∧ a k < n
    · rw [if_pos hc, upd_ne (by omega)]; exact ih
    · rw [if_neg hc]; exact ih
theorem putF_on {a v : Nat → Int} {n : Nat} {i : Nat} (hj : 0 ≤ a i ∧ a i < n) : ∀ k, i < k → (∀ j, i < j → j < k → a j ≠ a i) → putF a v n k (a i).toNat = v i
  | 0, h, _ => absurd h (by omega)
  | k + 1, h, hne => by
    unfold putF
    by_cases e : i = k
    · subst e
      rw [if_pos hj]; exact upd_at
    · have ih := putF_on (v := v) hj k (by omega) (fun j h1 h2 => hne j h1 (by omega))
      have hk := hne k (by omega) (by omega)
      by_cases hc : 0 ≤ a k ∧ a k < n
      · rw [if_pos hc, upd_ne (by omega)]; exact ih
      · rw [if_neg hc]; exact ih
/-- A ring's words, from h on; b: where its first slot lies. -/
def shW (f : Nat → Int) (b h : Int) (m : Nat) : List Int := (List.range m).map fun (i : Nat) => f (b + (h + (i : Int)) % 256).toNat
theorem shW_len (f : Nat → Int) (b h : Int) (m : Nat) : (shW f b h m).length = m := by unfold shW; simp
theorem shW_at (f : Nat → Int) (b h : Int) (m j : Nat) (hj : j < m) : (shW f b h m).getD j 0 = f (b + (h + (j : Int)) % 256).toNat := by
  unfold shW
  rw [List.getD_eq_getElem?_getD, List.getElem?_map, List.getElem?_range hj]
  rfl
theorem sh_peek {s : St} {i : Int} (h : 0 ≤ i ∧ i < 674) : peekT 674 s i = s.f i.toNat := if_pos h
theorem sh_words0 {s : St} {h : Int} {m : Nat} (hb : 0 ≤ h ∧ h < 4294967296) (h1 : s.f 21 = h) (h2 : s.f 22 = (h + m) % 4294967296) (hm : m ≤ 256) : rwL 2 0 674 s (peekT 674 s (wd 20 2 264 0 1)) (rK 2 0 674 s) = shW s.f 28 h m := by
  have p1 : peekT 674 s (wd 20 2 264 0 1) = h := by rw [(sh_w (by omega)).1, sh_peek (by omega)]; exact h1
  have p2 : peekT 674 s (wd 20 2 264 0 2) = (h + m) % 4294967296 := by rw [(sh_w (by omega)).1, sh_peek (by omega)]; exact h2
  have hM : rMany 2 0 674 s = m := by unfold rMany; rw [p1, p2]; omega
  have hK : rK 2 0 674 s = m := by unfold rK; rw [hM, if_pos (by omega)]; omega
  rw [p1, hK]
  unfold rwL shW
  refine List.map_congr_left (fun i hi => ?_)
  have := List.mem_range.1 hi
  unfold rwAt
  rw [show IntKind.u64.wrap (h + (i : Int)) = h + (i : Int) from wrap_u64 (by omega), (sh_w (by omega)).1, sh_peek (by omega)]
  congr 1
  omega
theorem sh_words1 {s : St} {h : Int} {m : Nat} (hb : 0 ≤ h ∧ h < 4294967296) (h1 : s.f 285 = h) (h2 : s.f 286 = (h + m) % 4294967296) (hm : m ≤ 256) : rwL 2 1 674 s (peekT 674 s (wd 20 2 264 1 1)) (rK 2 1 674 s) = shW s.f 292 h m := by
  have p1 : peekT 674 s (wd 20 2 264 1 1) = h := by rw [(sh_w (by omega)).2, sh_peek (by omega)]; exact h1
  have p2 : peekT 674 s (wd 20 2 264 1 2) = (h + m) % 4294967296 := by rw [(sh_w (by omega)).2, sh_peek (by omega)]; exact h2
  have hM : rMany 2 1 674 s = m := by unfold rMany; rw [p1, p2]; omega
  have hK : rK 2 1 674 s = m := by unfold rK; rw [hM, if_pos (by omega)]; omega
  rw [p1, hK]
  unfold rwL shW
  refine List.map_congr_left (fun i hi => ?_)
  have := List.mem_range.1 hi
  unfold rwAt
  rw [show IntKind.u64.wrap (h + (i : Int)) = h + (i : Int) from wrap_u64 (by omega), (sh_w (by omega)).2, sh_peek (by omega)]
  congr 1
  omega
/-- What begins, and what lies in the ring. -/
structure ShB (s : St) (h h2 : Int) (m : Nat) : Prop where
  b : ShS s h h2 m
  oh : s.f 285 = h2
  rg : ∀ i : Nat, i < m → s.f (28 + (h + (i : Int)) % 256).toNat = ((i % 60 : Nat) : Int) + 1
theorem sh_start {h h2 : Int} {m : Nat} (hh : 0 ≤ h ∧ h < 4294967296) (hh2 : 0 ≤ h2 ∧ h2 < 4294967296) (hm : m ≤ 256) : ShB (fresh (putF (shA h) (shV h h2 m) 674 (m + 4))) h h2 m := by
  refine ⟨⟨hh, hh2, ?_, ?_, ?_, hm, rfl⟩, ?_, fun i hi => ?_⟩
  · have := putF_on (a := shA h) (v := shV h h2 m) (n := 674) (i := 0) (by unfold shA; simp) (m + 4) (by omega) (fun j h1 h2 => by unfold shA; (repeat' split) <;> omega)
    exact this
  · have := putF_on (a := shA h) (v := shV h h2 m) (n := 674) (i := 1) (by unfold shA; simp) (m + 4) (by omega) (fun j h1 h2 => by unfold shA; (repeat' split) <;> omega)
    exact this
  · have := putF_on (a := shA h) (v := shV h h2 m) (n := 674) (i := 3) (by unfold shA; simp) (m + 4) (by omega) (fun j h1 h2 => by unfold shA; (repeat' split) <;> omega)
    exact this
  · have := putF_on (a := shA h) (v := shV h h2 m) (n := 674) (i := 2) (by unfold shA; simp) (m + 4) (by omega) (fun j h1 h2 => by unfold shA; (repeat' split) <;> omega)
    exact this
  · have e : shA h (i + 4) = 28 + (h + i) % 256 := by unfold shA; rw [if_neg (by omega), if_neg (by omega), if_neg (by omega), if_neg (by omega)]; rfl
    have := putF_on (a := shA h) (v := shV h h2 m) (n := 674) (i := i + 4) (by rw [e]; omega) (m + 4) (by omega) (fun j h1 h2 => by
      rw [e]; unfold shA; rw [if_neg (by omega), if_neg (by omega), if_neg (by omega), if_neg (by omega)]; omega)
    rw [e] at this
    refine this.trans ?_
    unfold shV; rw [if_neg (by omega), if_neg (by omega), if_neg (by omega), if_neg (by omega)]; rfl
/-- What lies behind it: n were stolen, of m. -/
theorem sh_behind {s s' : St} {h h2 : Int} {m n : Nat} (H : ShB s h h2 m) (hm : 0 < m) (hn : m - m / 2 = n) (g21 : s'.f 21 = (h + (n : Int)) % 4294967296) (g22 : s'.f 22 = s.f 22) (gr : ∀ i : Nat, 28 ≤ i → i < 284 → s'.f i = s.f i) (g285 : s'.f 285 = s.f 285) (g286 : s'.f 286 = (h2 + ((n - 1 : Nat) : Int)) % 4294967296) (go : ∀ j : Nat, j < n → s'.f (292 + (h2 + (j : Int)) % 256).toNat = s.f (28 + (h + (j : Int)) % 256).toNat) :
    ∃ h3 : Int, (0 ≤ h3 ∧ h3 < 4294967296) ∧ s'.f 21 = h3 ∧ s'.f 22 = (h3 + ((m - n : Nat) : Int)) % 4294967296 ∧ (∀ j, j < m - n → (shW s'.f 28 h3 (m - n)).getD j 0 = (shW s.f 28 h m).getD (n + j) 0) ∧ (∀ j, j < n - 1 → (shW s'.f 292 h2 (n - 1)).getD j 0 = (shW s.f 28 h m).getD j 0) := by
  have hb := H.b.hb
  have htl := H.b.tl
  refine ⟨(h + (n : Int)) % 4294967296, by omega, g21, by rw [g22, htl]; omega, fun j hj => ?_, fun j hj => ?_⟩
  · rw [shW_at _ _ _ _ _ hj, shW_at _ _ _ _ _ (by omega), gr _ (by omega) (by omega)]
    congr 1
    omega
  · rw [shW_at _ _ _ _ _ hj, shW_at _ _ _ _ _ (by omega), go j (by omega)]
end Go.Proofs.Ytcjidigpdecdlaa

namespace Go.Proofs.Ytcjidigpdecdlaa
open Go Go.RowKit
set_option linter.unusedVariables false
set_option maxRecDepth 100000
set_option linter.unusedSimpArgs false

theorem sh_m257 (b : Nat) : Int.tmod (b : Int) 257 = ((b % 257 : Nat) : Int) := by rw [Int.tmod_eq_emod_of_nonneg (by omega)]; omega
theorem sh_tl {a tl : Int} (h : 0 ≤ a) (ht : a % 4294967296 = tl) : Int.tmod a 4294967296 = tl := by rw [Int.tmod_eq_emod_of_nonneg h]; exact ht
theorem sh_t1 {mn m : Nat} (h : mn % 257 = m) : Int.tmod (mn : Int) 257 = (m : Int) := by rw [← h]; exact sh_m257 mn
theorem sh_w64 (b : Nat) (h : b ≤ 65535) : IntKind.i64.wrap (b : Int) = (b : Int) := by simp [IntKind.wrap, IntKind.bits, IntKind.signed]; omega
theorem sh_wr64 (b : Nat) (h : b ≤ 65535) : wrap64 (b : Int) = (b : Int) := by unfold wrap64; omega
theorem sh_wr641 (m : Nat) (h : m < 1000) : wrap64 ((m : Int) + 1) = (m : Int) + 1 := by unfold wrap64; omega
theorem sh_d2 (b : Nat) : Int.tdiv (b : Int) 2 = ((b / 2 : Nat) : Int) := by rw [Int.tdiv_eq_ediv_of_nonneg (by omega)]; omega
theorem sh_x2 (a b c : Nat) (h : a - b = c) (hb : b ≤ a) (ha : a ≤ 256) : wrap64 ((a : Int) - (b : Int)) = (c : Int) ∧ IntKind.i64.wrap ((a : Int) - (b : Int)) = (c : Int) := by
  have e : (a : Int) - (b : Int) = (c : Int) := by omega
  rw [e]
  exact ⟨sh_wr64 c (by omega), sh_w64 c (by omega)⟩
theorem sh_x3 (a b : Nat) (h : a = b + 1) (ha : b ≤ 256) : wrap64 ((a : Int) - 1) = (b : Int) ∧ IntKind.i64.wrap ((a : Int) - 1) = (b : Int) := by
  have e : (a : Int) - 1 = (b : Int) := by omega
  rw [e]
  exact ⟨sh_wr64 b (by omega), sh_w64 b (by omega)⟩
theorem sh_x4 (y : Nat) (g : Int) (h : (y : Int) + 1 = g) (hy : y < 60) : IntKind.i64.wrap g = g ∧ wrap64 (g - 1) = (y : Int) ∧ IntKind.i64.wrap (g - 1) = (y : Int) := by
  have e : g - 1 = (y : Int) := by omega
  have e2 : g = ((y + 1 : Nat) : Int) := by omega
  rw [e]
  refine ⟨?_, sh_wr64 y (by omega), sh_w64 y (by omega)⟩
  rw [e2]
  exact sh_w64 (y + 1) (by omega)
theorem sh_sees {w W : World} {h h2 : Int} {m k g bc cp : Nat} {E : Option Addr} (H : FuS w W h h2 m k g bc (.slice E (k + 4) cp)) : SeesP W W.heap.size E (k + 4) (shA h) (shV h h2 m) := fun _ => by
  rcases H.own.2 with ⟨e0, h0⟩ | ⟨gb, cp', cur, e0, q1, q2, q3, q4, q5, q6⟩
  · omega
  · injection e0 with e1 e2 e3
    refine ⟨gb, 0, e1, block_lt q2, fun j hj => ?_⟩
    have hat := shC_at h h2 m (k + 4) j hj
    rw [← q6, List.getElem?_take, List.getElem?_take, if_pos (by omega), if_pos (by omega)] at hat
    simp only [World.cell?, q2]
    refine ⟨?_, ?_⟩
    · rw [Nat.zero_add]; simpa using hat.1
    · rw [Nat.zero_add]; simpa using hat.2
theorem sh_vals {h h2 : Int} {m : Nat} (hh : 0 ≤ h ∧ h < 4294967296) (hh2 : 0 ≤ h2 ∧ h2 < 4294967296) (i : Nat) : 0 ≤ shV h h2 m i ∧ shV h h2 m i ≤ 18446744073709551615 := by
  unfold shV; (repeat' split) <;> omega
set_option maxHeartbeats 16000000 in
theorem stealHalf_walk (h h2 : Int) (mn : Nat) (w : World) (hh : 0 ≤ h ∧ h < 4294967296) (hh2 : 0 ≤ h2 ∧ h2 < 4294967296) (hmn : mn ≤ 65535) :
    Calls Try.prog 3 #[.agg #[.int .u32 h, .int .u32 h2], .int .u16 mn] w fun e w' => e = .returned (.bool true) ∧ Below w.heap.size w w' := by
  obtain ⟨i0, hi, hz0, hz1, hz2⟩ := info_parts info29
  obtain ⟨m, hm⟩ : ∃ m, mn % 257 = m := ⟨_, rfl⟩
  have HM : Hid (m ≤ 256 ∧ 0 ≤ h ∧ h < 4294967296 ∧ 0 ≤ h2 ∧ h2 < 4294967296) := ⟨by omega, hh.1, hh.2, hh2.1, hh2.2⟩
  obtain ⟨tl, htl⟩ : ∃ tl, (h + (m : Int)) % 4294967296 = tl := ⟨_, rfl⟩
  have HC : Hid (shC h h2 m 4 = [.int .i64 21, .int .u64 h, .int .i64 22, .int .u64 tl, .int .i64 285, .int .u64 h2, .int .i64 286, .int .u64 h2]) := (by rw [← htl]; rfl : shC h h2 m 4 = [.int .i64 21, .int .u64 h, .int .i64 22, .int .u64 tl, .int .i64 285, .int .u64 h2, .int .i64 286, .int .u64 h2])
  have HLA : Hid (∀ (W : World) (E : Option Addr) (cp : Nat), SeesP W W.heap.size E (m + 4) (shA h) (shV h h2 m) → Calls Try.prog 4 #[.agg #[.int .i64 2, .int .i64 2, .int .i64 60, .slice E (m + 4) cp]] W fun e w' => ∃ (cl : Nat) (A A' : Option Addr) (cap cap' c b c' b' : Nat), e = .returned (.tuple #[.pointer (some ⟨cl, 0, none⟩), .pointer (some ⟨c, 0, none⟩), .pointer (some ⟨c', 0, none⟩), .bool true]) ∧ Laid W w' 2 2 60 674 (putF (shA h) (shV h h2 m) 674 (m + 4)) cl A A' cap cap' c b c' b') := fun W E cp hs => lay_some 2 2 60 E (m + 4) cp 674 (shA h) (shV h h2 m) W (by omega) ⟨⟨by omega⟩, by omega, by omega, by omega⟩ (by omega) hs (fun i hi => sh_vals hh hh2 i)
  have e64 : IntKind.u64.wrap h = h := wrap_u64 (by omega)
  have e65 : IntKind.u64.wrap h2 = h2 := wrap_u64 (by omega)
  have m64 : IntKind.u64.wrap (m : Int) = (m : Int) := wrap_u64 (by omega)
  have hm64 : IntKind.u64.wrap (h + (m : Int)) = h + (m : Int) := wrap_u64 (by omega)
  have htl64 : IntKind.u64.wrap tl = tl := wrap_u64 (by omega)
  have t3 : IntKind.i64.wrap (mn : Int) = (mn : Int) := sh_w64 mn hmn
  have t5 : wrap64 (m : Int) = (m : Int) := sh_wr64 m (by omega)
  have hmd : Int.tmod (h + (m : Int)) 4294967296 = tl := sh_tl (Int.add_nonneg hh.1 (Int.natCast_nonneg m)) htl
  have t1 : Int.tmod (mn : Int) 257 = (m : Int) := sh_t1 hm
  clear hm hh hh2 hmn htl
  go_enter Try.func3, Try.ntmps3
  go_wp2_with fail
  have HG0 : Hid (FuS w (((w.alloc (.cells #[.int .u32 h, .int .u32 h2] 23)).alloc (.cells #[.int .i64 21, .int .u64 h, .int .i64 22, .int .u64 tl, .int .i64 285, .int .u64 h2, .int .i64 286, .int .u64 h2] 29)).alloc (.cells #[.int .i64 2, .int .i64 2, .int .i64 60, .slice (some ⟨w.heap.size + 1, 0, none⟩) 4 4] 32)) h h2 m 0 (w.heap.size + 1 + 1) w.heap.size (.slice (some ⟨w.heap.size + 1, 0, none⟩) 4 4)) := by
    have b0 := Blk.new w #[.int .u32 h, .int .u32 h2] 23
    have b1 := Blk.new (w.alloc (.cells #[.int .u32 h, .int .u32 h2] 23)) #[.int .i64 21, .int .u64 h, .int .i64 22, .int .u64 tl, .int .i64 285, .int .u64 h2, .int .i64 286, .int .u64 h2] 29
    have b2 := Blk.new ((w.alloc (.cells #[.int .u32 h, .int .u32 h2] 23)).alloc (.cells #[.int .i64 21, .int .u64 h, .int .i64 22, .int .u64 tl, .int .i64 285, .int .u64 h2, .int .i64 286, .int .u64 h2] 29)) #[.int .i64 2, .int .i64 2, .int .i64 60, .slice (some ⟨w.heap.size + 1, 0, none⟩) 4 4] 32
    have e := HC.out
    simp only [World.size_alloc] at b1 b2
    refine ⟨b2, (b0.al _).al _, ⟨by rw [e]; rfl, .inr ⟨w.heap.size + 1, 4, _, rfl, by omega, (b1.al _).heap, by omega, by unfold maxLen; omega, by simp, by rw [e]; rfl⟩⟩, ⟨by simp [Value.ownBlock], by simp [Value.ownBlock]⟩, (((Below.refl _ _).alloc (Nat.le_refl _) _).alloc (by simp) _).alloc (by simp; omega) _, by omega, by omega⟩
  generalize (((w.alloc (.cells #[.int .u32 h, .int .u32 h2] 23)).alloc (.cells #[.int .i64 21, .int .u64 h, .int .i64 22, .int .u64 tl, .int .i64 285, .int .u64 h2, .int .i64 286, .int .u64 h2] 29)).alloc (.cells #[.int .i64 2, .int .i64 2, .int .i64 60, .slice (some ⟨w.heap.size + 1, 0, none⟩) 4 4] 32)) = W0 at *
  generalize (Value.slice (some ⟨w.heap.size + 1, 0, none⟩) 4 4) = v0 at *
  generalize w.heap.size + 1 + 1 = g at *
  clear hmd htl64 hm64 HC t1 t3
  go_loopw [7] (fun i wr => ∃ (k : Nat) (v : Value), k ≤ m ∧ i = .int .i64 k ∧ Hid (FuS w wr h h2 m k g w.heap.size v)) (fun i _ => m - (intOf i).toNat)
  case atStart => exact ⟨0, v0, Nat.zero_le _, rfl, HG0⟩
  case round =>
    obtain ⟨k, v, hk, rfl, HG⟩ := hrel
    clear HG0
    by_cases hlt : k < m
    · have hX := HM.out
      obtain ⟨z, hz⟩ : ∃ z, (h + (k : Int)) % 256 = z := ⟨_, rfl⟩
      obtain ⟨y, hy⟩ : ∃ y : Nat, k % 60 = y := ⟨_, rfl⟩
      have hb := HG.out.blk
      have hx := HG.out.box
      obtain ⟨E, cp, rfl⟩ : ∃ E cp, v = .slice E (k + 4) cp := by
        rcases HG.out.own.2 with ⟨e0, h0⟩ | ⟨gb, cp, cur, e0, -⟩
        · omega
        · exact ⟨_, _, e0⟩
      have hA : (wr.alloc (.cells #[.int .i64 (28 + z), .int .u64 ((y : Int) + 1)] 29)).cell? ⟨g, 3, none⟩ = some (.slice E (k + 4) cp) ∧ (wr.alloc (.cells #[.int .i64 (28 + z), .int .u64 ((y : Int) + 1)] 29)).frozen? ⟨g, 3, none⟩ = false := ⟨(hb.al _).cell 3 rfl, (hb.al _).fro 3⟩
      have g3 := hb.cell 3 (v := .slice E (k + 4) cp) rfl
      have g4 := hx.cell 0 (v := .int .u32 h) rfl
      have HA : Hid _ := hA
      have HFR : Hid ((Value.slice E (k + 4) cp).ownBlock ≠ some g ∧ g < wr.heap.size ∧ w.heap.size ≤ wr.heap.size ∧ k + 4 ≤ 1000) := ⟨HG.out.far.1, hb.lt, HG.out.below.size, by omega⟩
      have HQ : Hid (k + 4 + 1 ≤ maxLen ∧ (k + 4 + 1) * 16 ≤ 140737488355328 ∧ w.heap.size ≤ (wr.alloc (.cells #[.int .i64 (28 + z), .int .u64 ((y : Int) + 1)] 29)).heap.size ∧ g < (wr.alloc (.cells #[.int .i64 (28 + z), .int .u64 ((y : Int) + 1)] 29)).heap.size) := ⟨by unfold maxLen; omega, by omega, by have := HFR.out.2.2.1; simp; omega, by have := HFR.out.2.1; simp; omega⟩
      have a1 : IntKind.u64.wrap (k : Int) = (k : Int) := wrap_u64 (by omega)
      have a2 : IntKind.u64.wrap (h + (k : Int)) = h + (k : Int) := wrap_u64 (by omega)
      have a4 : IntKind.i64.wrap z = z := by simp [IntKind.wrap, IntKind.bits, IntKind.signed]; omega
      have a5 : IntKind.i64.wrap (28 + z) = 28 + z := by simp [IntKind.wrap, IntKind.bits, IntKind.signed]; omega
      have a9 : IntKind.i64.wrap (y : Int) = (y : Int) := by simp [IntKind.wrap, IntKind.bits, IntKind.signed]; omega
      have a7 : IntKind.u64.wrap (y : Int) = (y : Int) := wrap_u64 (by omega)
      have a8 : IntKind.u64.wrap ((y : Int) + 1) = (y : Int) + 1 := wrap_u64 (by omega)
      have HE : Hid (shA h (k + 4) = 28 + z ∧ shV h h2 m (k + 4) = (y : Int) + 1) := by
        refine ⟨?_, ?_⟩
        · unfold shA; rw [if_neg (by omega), if_neg (by omega), if_neg (by omega), if_neg (by omega), ← hz]; rfl
        · unfold shV; rw [if_neg (by omega), if_neg (by omega), if_neg (by omega), if_neg (by omega), ← hy]; rfl
      have hk0 : (0 : Int) ≤ (k : Int) := Int.natCast_nonneg _
      have hk1 : (k : Int) < (m : Int) := by omega
      have HKM : Hid (k < m) := hlt
      have a3 : Int.tmod (h + (k : Int)) 256 = z := by rw [Int.tmod_eq_emod_of_nonneg (by omega)]; exact hz
      have a6 : Int.tmod (k : Int) 60 = (y : Int) := by rw [← hy, Int.tmod_eq_emod_of_nonneg (by omega)]; rfl
      clear hX hb hx hz hy m64 hA hlt
      go_wp2_with (at_builtin; refine wpList_append_lies _ rfl _ _ 30 rfl w.heap.size 29 i0 _ 2 16 Try.underlying30 hi hz0 hz1 hz2 rfl (by decide) (.slice E (k + 4) cp) (k + 4) (shC h h2 m (k + 4)) rfl (HG.out.own.alloc _) ⟨wr.heap.size, 0, none⟩ 1 1 [.int .i64 (28 + z), .int .u64 ((y : Int) + 1)] rfl rfl (World.news_of_block (cs := #[.int .i64 (28 + z), .int .u64 ((y : Int) + 1)]) (t := 29) (fr := (0, 0)) (heap_alloc_new wr _)) (by simp [Value.oneCell']) (by decide) HQ.out.1 HQ.out.2.1 HQ.out.2.2.1 (wr.heap.size + 1) (by simp) ?_; intro gg cap1 w1 hown1 hgrow hat hlt1; have q0 : w1.cell? ⟨g, 3, none⟩ = some (.slice E (k + 4) cp) := (hgrow.cell_far ⟨g, 3, none⟩ HQ.out.2.2.2 (Ne.symm HFR.out.1)).trans HA.out.1; have q1 : w1.frozen? ⟨g, 3, none⟩ = false := (hgrow.frozen_far ⟨g, 3, none⟩ HQ.out.2.2.2 (Ne.symm HFR.out.1)).trans HA.out.2; clear a1 a2 a3 a4 a5 a6 a7 a8 a9; have hk9 : k + 4 ≤ 1000 := HFR.out.2.2.2)
      have hN : Hid _ := FuS.next (HG.out.al (.cells #[.int .i64 (28 + z), .int .u64 ((y : Int) + 1)] 29)) (by rw [HE.out.1, HE.out.2]; exact hown1) hgrow (by rcases hat with h9 | h9; exact .inl h9; exact .inr (by simpa using h9)) hlt1
      clear q0 q1 hown1 hgrow hat hlt1 HA g3 g4 HG HE
      go_roundw
      case rel => exact ⟨k + 1, _, HKM.out, by go_num, hN⟩
      case measure => have := HKM.out; simp [intOf]; omega
    · obtain rfl : k = m := by omega
      obtain ⟨E, cp, rfl⟩ : ∃ E cp, v = .slice E (k + 4) cp := by
        rcases HG.out.own.2 with ⟨e0, h0⟩ | ⟨gb, cp, cur, e0, -⟩
        · omega
        · exact ⟨_, _, e0⟩
      have hse := sh_sees HG.out
      have hb := HG.out.blk
      have g0 := hb.cell 0 (v := .int .i64 2) rfl
      have g1 := hb.cell 1 (v := .int .i64 2) rfl
      have g2 := hb.cell 2 (v := .int .i64 60) rfl
      have g3 := hb.cell 3 (v := .slice E (k + 4) cp) rfl
      have HB1 : Hid (Below w.heap.size w wr) := HG.out.below
      have hL := HLA.out wr E cp hse
      clear hb HG hk hlt hi hz0 hz1 hz2 e64 e65 m64 HLA hse
      go_wp2_with fail
      go_at_call 4; refine hL.mono ?_; rintro e w2 ⟨cl, A, A', cap, cap', c, b, c', b', rfl, hLd⟩
      have HB2 : Hid (Below w.heap.size w w2) := seq HB1.out hLd.below
      have HI2 : Hid (Is w2 81 A cap c b 674 (fresh (putF (shA h) (shV h h2 k) 674 (k + 4)))) := hLd.two.m
      have HY2 : Hid (Lay w2 cl 2 2 60) := hLd.lay
      have hne : Hid (cl ≠ c ∧ cl ≠ b) := lay_ne hLd.lay (by decide) hLd.two.m (by omega)
      have hup : Hid (w.heap.size ≤ c ∧ w.heap.size ≤ b) := ⟨by have := hLd.up.2.1; have := HB1.out.size; omega, by have := hLd.up.2.2.1; have := HB1.out.size; omega⟩
      have HLW0 : Hid (Low (fresh (putF (shA h) (shV h h2 k) 674 (k + 4))) 0) := low_fresh _
      have HR0 : Hid (ShB (fresh (putF (shA h) (shV h h2 k) 674 (k + 4))) h h2 k) := sh_start ⟨HM.out.2.1, HM.out.2.2.1⟩ HM.out.2.2.2 HM.out.1
      generalize fresh (putF (shA h) (shV h h2 k) 674 (k + 4)) = s0 at *
      have hW := rwords_any w2 cl 2 2 60 0 A cap c b 674 s0 HY2.out (by omega) HI2.out (by omega)
      rw [sh_words0 HR0.out.b.hb HR0.out.b.hd HR0.out.b.tl HM.out.1] at hW
      generalize peekT 674 s0 (wd 20 2 264 0 3) = nx0 at hW
      clear hL hLd
      go_wp2_with fail
      go_at_call 5; refine hW.mono ?_; rintro e w3 ⟨vb, rfl, hvb, hb3⟩
      obtain ⟨Ab, cpb, rfl⟩ := hvb.slice
      rw [shW_len] at hvb
      rw [shW_len]
      have HB3 : Hid (Below w.heap.size w w3) := seq HB2.out hb3
      have HI3 : Hid (Is w3 81 A cap c b 674 s0) := HI2.out.below hb3
      have HY3 : Hid (Lay w3 cl 2 2 60) := HY2.out.below hb3 HY2.out.lt
      have hlo : Hid (c < w2.heap.size ∧ b < w2.heap.size ∧ cl < w2.heap.size) := ⟨HI2.out.lt, HI2.out.bl, HY2.out.lt⟩
      generalize w2.heap.size = B0 at hlo hvb
      have HV3 : Hid (WordsOn w3 B0 (.slice Ab k cpb) (shW s0.f 28 h k)) := hvb
      have hN := st_new w3 cl 1 1 0 2 2 60 false HY3.out (by omega)
      clear hW hvb hb3 HI2 HY2
      go_wp2_with fail
      go_at_call 6; refine hN.mono ?_; rintro e w4 ⟨x, L0, rfl, hi0, hb4, hu4⟩
      have HZ0 : Hid (Solo ((stFl 1 cl 1 0 false).I shM) ((Rd.lay cl 2 2 60).and (Rd.wrd B0 (.slice Ab k cpb) (shW s0.f 28 h k))) w w4 A cap c b 674 (shM.steps 1 674 0 (.t0 stD0, s0)).2 x (shM.steps 1 674 0 (.t0 stD0, s0)).1 L0) := Solo.begin HI3.out hb4 HB3.out hup.out hi0 hu4 ⟨HY3.out, HV3.out⟩ (fun k hk => by
        rcases List.mem_append.1 hk with h | h
        · have : k = cl := List.mem_singleton.1 h
          rw [this]; exact HY3.out.lt
        · exact (HV3.out.up k h).2) ⟨fun hm => by
        rcases List.mem_append.1 hm with h | h
        · exact hne.out.1 (List.mem_singleton.1 h).symm
        · have := (HV3.out.up c h).1; have := hlo.out; omega, fun hm => by
        rcases List.mem_append.1 hm with h | h
        · exact hne.out.2 (List.mem_singleton.1 h).symm
        · have := (HV3.out.up b h).1; have := hlo.out; omega⟩
      have HLO : Hid (∀ q : Nat, q ≤ 300 → Low (shM.steps 1 674 q (.t0 stD0, s0)).2 1000000) := fun q hq => (PM.steps_low shM 1 674 q (.t0 stD0, s0) HLW0.out).more (by omega)
      have HGG : Hid (((stFl 1 cl 1 0 false).I shM).Good shM ∧ Steps shM ((stFl 1 cl 1 0 false).I shM) (Rd.lay cl 2 2 60) 7 1) := ⟨Fl.good (st_laws (T := 2) (G := 60) (by omega)), Fl.steps (st_laws (by omega)) stepby_steal⟩
      clear hN hi0 hb4 hu4 HI3 HY3 HB3 HV3 HB1 HB2 HLW0
      go_wp2_with fail
      go_loopw [15] (fun kk wi => ∃ (q : Nat) (L : List Nat), q ≤ 300 ∧ kk = .int .i64 q ∧ Hid (Solo ((stFl 1 cl 1 0 false).I shM) ((Rd.lay cl 2 2 60).and (Rd.wrd B0 (.slice Ab k cpb) (shW s0.f 28 h k))) w wi A cap c b 674 (shM.steps 1 674 q (.t0 stD0, s0)).2 x (shM.steps 1 674 q (.t0 stD0, s0)).1 L)) (fun kk _ => 300 - (intOf kk).toNat)
      case atStart => exact ⟨0, L0, by omega, rfl, HZ0⟩
      case round =>
        clear HZ0
        obtain ⟨q, L, hq, rfl, HS⟩ := hrel
        by_cases hq9 : q < 300
        · have hSt := HS.out.stepUp HGG.out.1 HGG.out.2 (fun Y (h : (((Rd.lay cl 2 2 60).and (Rd.wrd B0 (.slice Ab k cpb) (shW s0.f 28 h k)))).P Y) => h.1) (fun k hk => List.mem_append_left _ hk) (by omega) (HLO.out q hq)
          rw [show shM.goS 1 674 (shM.steps 1 674 q (.t0 stD0, s0)).1 (shM.steps 1 674 q (.t0 stD0, s0)).2 = (shM.steps 1 674 (q + 1) (.t0 stD0, s0)).2 by rw [PM.steps_succ], show shM.goT 674 (shM.steps 1 674 q (.t0 stD0, s0)).1 (shM.steps 1 674 q (.t0 stD0, s0)).2 = (shM.steps 1 674 (q + 1) (.t0 stD0, s0)).1 by rw [PM.steps_succ]] at hSt
          have hq1 : (q : Int) < 300 := by omega
          have hq0 : (0 : Int) ≤ (q : Int) := by omega
          clear HS
          go_wp2_with fail
          go_at_call 7; refine hSt.mono ?_; rintro e w5 ⟨rfl, hsz', L', hS'⟩
          have HS' : Hid _ := hS'
          clear hSt hS'
          go_wp2_with fail
          go_roundw
          case rel => exact ⟨q + 1, L', by omega, by go_num, HS'⟩
          case measure => simp [intOf]; omega
        · obtain rfl : q = 300 := by omega
          clear HLO
          rw [show ((300 : Nat) : Int) = 300 from rfl]
          by_cases hm0 : k = 0
          · subst hm0
            obtain ⟨s', d, e1, hf, hbad, hdok, hdst⟩ := sh_none HR0.out.b
            have HS : Hid (Solo ((stFl 1 cl 1 0 false).I shM) ((Rd.lay cl 2 2 60).and (Rd.wrd B0 (.slice Ab 0 cpb) (shW s0.f 28 h 0))) w wr A cap c b 674 s' x (.over d) L) := (by have h := HS.out; rw [e1] at h; exact h : Solo ((stFl 1 cl 1 0 false).I shM) ((Rd.lay cl 2 2 60).and (Rd.wrd B0 (.slice Ab 0 cpb) (shW s0.f 28 h 0))) w wr A cap c b 674 s' x (.over d) L)
            have HI5 : Hid (Is wr 81 A cap c b 674 s') := HS.out.mem
            have HY5 : Hid (Lay wr cl 2 2 60) := HS.out.rd.1
            have HBW : Hid (Below w.heap.size w wr) := HS.out.below
            have HMA : Hid (∀ Y, Below wr.heap.size wr Y → ((stFl 1 cl 1 0 false).I shM) Y x (StT.over d) L) := fun Y hY => HGG.out.1.below HS.out.mach hY
            have HDO : Hid (d.Ok ∧ d.st = false) := ⟨hdok, hdst⟩
            have hW0 := rwords_any wr cl 2 2 60 0 A cap c b 674 s' HY5.out (by omega) HI5.out (by omega)
            rw [sh_words0 (m := 0) HR0.out.b.hb (by rw [hf]; exact HR0.out.b.hd) (by rw [hf]; exact HR0.out.b.tl) (by omega)] at hW0
            generalize peekT 674 s' (wd 20 2 264 0 3) = nx1 at hW0
            have HW1 : Hid (∀ Y, Below wr.heap.size wr Y → Calls Try.prog 5 #[.pointer (some ⟨cl, 0, none⟩), .pointer (some ⟨c, 0, none⟩), .int .i64 1] Y fun e w' => ∃ v, e = .returned (.tuple #[v, .int .u64 (peekT 674 s' (wd 20 2 264 1 3))]) ∧ WordsOn w' Y.heap.size v (shW s'.f 292 h2 0) ∧ Below Y.heap.size Y w') := fun Y hY => by
              have h9 := rwords_any Y cl 2 2 60 1 A cap c b 674 s' (HY5.out.below hY HY5.out.lt) (by omega) (HI5.out.below hY) (by omega)
              rw [sh_words1 (m := 0) HR0.out.b.hb2 (by rw [hf]; exact HR0.out.oh) (by rw [hf, HR0.out.b.ot]; have := HR0.out.b.hb2; omega) (by omega)] at h9
              exact h9
            generalize peekT 674 s' (wd 20 2 264 1 3) = nx2 at HW1
            clear HS e1 hf hbad hdok hdst
            go_wp2_with fail
            go_at_call 5; refine hW0.mono ?_; rintro e w5 ⟨va, rfl, hva, hb5⟩
            have hW1 := HW1.out w5 hb5
            have HB5 : Hid (Below wr.heap.size wr w5) := hb5
            clear hW0 hva hb5 HW1
            go_wp2_with fail
            go_at_call 5; refine hW1.mono ?_; rintro e w6 ⟨vo, rfl, hvo, hb6⟩
            obtain ⟨Ao, cpo, rfl⟩ := hvo.slice
            rw [shW_len]
            have HB6 : Hid (Below wr.heap.size wr w6) := seq HB5.out hb6
            have hD : Calls Try.prog 8 #[.pointer (some ⟨x, 0, none⟩)] w6 fun e w' => e = .returned (.bool true) ∧ w6 = w' := by
              obtain ⟨nx, u1, u2⟩ := HGG.out.1.next (HMA.out w6 HB6.out)
              rw [show (shM.ax (StT.over d)) = none from rfl] at u2
              rw [show true = nx.isNone by rw [u2]; rfl]
              exact done_steal w6 x nx u1
            have HGv : Hid (∀ Y, Below w6.heap.size w6 Y → Calls Try.prog 10 #[.pointer (some ⟨x, 0, none⟩)] Y fun e w' => e = .returned (.int .i64 (-1)) ∧ ∃ k, w' = Y.drewN k) := fun Y hY => by
              obtain ⟨nx, h1, -⟩ := Fl.blk (HMA.out Y (seq HB6.out hY))
              have h := st_g Y x cl 1 1 0 false d nx h1 HDO.out.1.len (fun h => absurd h (by rw [HDO.out.2]; decide))
              rw [show d.g = -1 from if_neg (by rw [HDO.out.2]; decide)] at h
              exact h
            have HW6 : Hid (Below w.heap.size w w6) := seq HBW.out HB6.out
            clear hW1 hvo hb6 HMA HDO
            go_wp2_with fail
            go_at_call 8; refine hD.mono ?_; rintro e w7 ⟨rfl, rfl⟩
            clear hD
            go_wp2_with fail
            go_at_call 9; refine (steal_awake _).mono ?_; rintro e w7 ⟨rfl, hb7⟩
            have hGv := HGv.out w7 hb7
            have HW7 : Hid (Below w.heap.size w w7) := seq HW6.out hb7
            clear HGv hb7
            go_wp2_with fail
            go_at_call 10; refine hGv.mono ?_; rintro e w8 ⟨rfl, kk, rfl⟩
            clear hGv
            go_wp2_with fail
            go_ret
            exact ⟨rfl, Below.drewN' HW7.out kk⟩
          · have hmk : 0 < k := Nat.pos_of_ne_zero hm0
            obtain ⟨n, hn⟩ : ∃ n, k - k / 2 = n := ⟨_, rfl⟩
            obtain ⟨s', d, e1, hbad, hdst, hdn, hdl, hdg, g21, g22, g23, gr, g285, g286, g287, go⟩ := sh_some HR0.out.b hmk hn
            obtain ⟨n1, hn1⟩ : ∃ n1, n = n1 + 1 := ⟨n - 1, by omega⟩
            obtain ⟨h3, hb3', z21, z22, zA, zO⟩ := sh_behind HR0.out hmk hn g21 g22 gr g285 g286 go
            obtain ⟨y, hy⟩ : ∃ y : Nat, n1 % 60 = y := ⟨_, rfl⟩
            have hbm := HM.out.1
            have hV : (shW s0.f 28 h k).getD n1 0 = (y : Int) + 1 := by
              rw [shW_at _ _ _ _ _ (by omega), HR0.out.rg n1 (by omega), hy]
            have hG : d.g = (y : Int) := by
              unfold StD.g
              rw [if_pos hdst, hdn, show ((n : Int).toNat - 1) = n - 1 from by omega, hdg, show n - 1 = n1 from by omega, HR0.out.rg n1 (by omega), hy]
              unfold gw
              simp only [IntKind.wrap, IntKind.bits, IntKind.signed, wrap64]
              simp
              omega
            have HS : Hid (Solo ((stFl 1 cl 1 0 false).I shM) ((Rd.lay cl 2 2 60).and (Rd.wrd B0 (.slice Ab k cpb) (shW s0.f 28 h k))) w wr A cap c b 674 s' x (.over d) L) := (by have h := HS.out; rw [e1] at h; exact h : Solo ((stFl 1 cl 1 0 false).I shM) ((Rd.lay cl 2 2 60).and (Rd.wrd B0 (.slice Ab k cpb) (shW s0.f 28 h k))) w wr A cap c b 674 s' x (.over d) L)
            have HI5 : Hid (Is wr 81 A cap c b 674 s') := HS.out.mem
            have HY5 : Hid (Lay wr cl 2 2 60) := HS.out.rd.1
            have HVB : Hid (WordsOn wr B0 (.slice Ab k cpb) (shW s0.f 28 h k)) := HS.out.rd.2
            have HBW : Hid (Below w.heap.size w wr) := HS.out.below
            have HMA : Hid (∀ Y, Below wr.heap.size wr Y → ((stFl 1 cl 1 0 false).I shM) Y x (StT.over d) L) := fun Y hY => HGG.out.1.below HS.out.mach hY
            have HDO : Hid (d.lo.length = 128 ∧ d.st = true ∧ 1 ≤ d.n ∧ d.n ≤ 128 ∧ d.g = (y : Int)) := ⟨hdl, hdst, by omega, by omega, hG⟩
            have hW0 := rwords_any wr cl 2 2 60 0 A cap c b 674 s' HY5.out (by omega) HI5.out (by omega)
            rw [sh_words0 (m := k - n) hb3' z21 z22 (by omega)] at hW0
            generalize peekT 674 s' (wd 20 2 264 0 3) = nx1 at hW0
            obtain ⟨r, hr⟩ : ∃ r, k - n = r := ⟨_, rfl⟩
            rw [hr] at hW0 zA
            have HW1 : Hid (∀ Y, Below wr.heap.size wr Y → Calls Try.prog 5 #[.pointer (some ⟨cl, 0, none⟩), .pointer (some ⟨c, 0, none⟩), .int .i64 1] Y fun e w' => ∃ v, e = .returned (.tuple #[v, .int .u64 (peekT 674 s' (wd 20 2 264 1 3))]) ∧ WordsOn w' Y.heap.size v (shW s'.f 292 h2 n1) ∧ Below Y.heap.size Y w') := fun Y hY => by
              have h9 := rwords_any Y cl 2 2 60 1 A cap c b 674 s' (HY5.out.below hY HY5.out.lt) (by omega) (HI5.out.below hY) (by omega)
              rw [sh_words1 (m := n1) HR0.out.b.hb2 (by rw [g285]; exact HR0.out.oh) (by rw [g286, hn1]; rfl) (by omega)] at h9
              exact h9
            generalize peekT 674 s' (wd 20 2 264 1 3) = nx2 at HW1
            have HAT : Hid (∀ j, j < r → (shW s'.f 28 h3 r).getD j 0 = (shW s0.f 28 h k).getD (n + j) 0) := zA
            have HOT : Hid (∀ j, j < n1 → (shW s'.f 292 h2 n1).getD j 0 = (shW s0.f 28 h k).getD j 0) := (by rw [show n - 1 = n1 from by omega] at zO; exact zO : ∀ j, j < n1 → (shW s'.f 292 h2 n1).getD j 0 = (shW s0.f 28 h k).getD j 0)
            obtain ⟨kd, hkd⟩ : ∃ kd, k / 2 = kd := ⟨_, rfl⟩
            have HNN : Hid (k - n = r ∧ n = n1 + 1 ∧ n ≤ k ∧ k ≤ 256 ∧ k - kd = n ∧ kd ≤ k ∧ n + r = k ∧ y < 60) := ⟨hr, hn1, by omega, by omega, by omega, by omega, by omega, by omega⟩
            obtain ⟨g1, hg1⟩ : ∃ g1 : Int, (y : Int) + 1 = g1 := ⟨_, rfl⟩
            have d1 : IntKind.i64.wrap ((k : Int) - (kd : Int)) = (n : Int) := (sh_x2 k kd n HNN.out.2.2.2.2.1 HNN.out.2.2.2.2.2.1 HNN.out.2.2.2.1).2
            have d2 : wrap64 ((k : Int) - (kd : Int)) = (n : Int) := (sh_x2 k kd n HNN.out.2.2.2.2.1 HNN.out.2.2.2.2.2.1 HNN.out.2.2.2.1).1
            have d9 : wrap64 (kd : Int) = (kd : Int) := sh_wr64 kd (by have := HNN.out; omega)
            have d3 : wrap64 ((n : Int) - 1) = (n1 : Int) := (sh_x3 n n1 HNN.out.2.1 (by have := HNN.out; omega)).1
            have d7 : IntKind.i64.wrap ((n : Int) - 1) = (n1 : Int) := (sh_x3 n n1 HNN.out.2.1 (by have := HNN.out; omega)).2
            have d4 : IntKind.i64.wrap g1 = g1 := (sh_x4 y g1 hg1 HNN.out.2.2.2.2.2.2.2).1
            have d5 : wrap64 (g1 - 1) = (y : Int) := (sh_x4 y g1 hg1 HNN.out.2.2.2.2.2.2.2).2.1
            have d8 : IntKind.i64.wrap (g1 - 1) = (y : Int) := (sh_x4 y g1 hg1 HNN.out.2.2.2.2.2.2.2).2.2
            have d10 : ((y : Int) == (y : Int)) = true := by simp
            have d6 : ((k : Int) == 0) = false := by simp; omega
            have d0 : Int.tdiv (k : Int) 2 = (kd : Int) := by rw [← hkd]; exact sh_d2 k
            obtain ⟨gb, eB, hgb, hcb2, hcb⟩ := HVB.out.at' (by rw [shW_len]; omega)
            rw [shW_len] at hcb2 hcb
            have HCB : Hid (∀ Y, Below wr.heap.size wr Y → ∀ j, j < k → Y.cell? ⟨gb, j, none⟩ = some (.int .u64 ((shW s0.f 28 h k).getD j 0))) := fun Y hY j hj => (hY.cell (p := ⟨gb, j, none⟩) hgb).trans (hcb j hj)
            have HGB : Hid (gb < wr.heap.size ∧ k ≤ cpb ∧ (shW s0.f 28 h k).getD n1 0 = g1) := ⟨hgb, hcb2, hV.trans hg1⟩
            subst eB
            clear HS e1 hbad hdst hdn hdl hdg g21 g22 g23 gr g285 g286 g287 go z21 z22 zA zO hb3' hV hG hn hy hr hkd hgb hcb2 hcb hmk hm0 hbm hn1 hg1
            go_wp2_with fail
            go_at_call 5; refine hW0.mono ?_; rintro e w5 ⟨va, rfl, hva, hb5⟩
            obtain ⟨Aa, cpa, rfl⟩ := hva.slice
            rw [shW_len] at hva
            rw [shW_len]
            have hW1 := HW1.out w5 hb5
            have HB5 : Hid (Below wr.heap.size wr w5) := hb5
            have HVA : Hid (WordsOn w5 wr.heap.size (.slice Aa r cpa) (shW s'.f 28 h3 r)) := hva
            clear hW0 hva hb5 HW1
            go_wp2_with fail
            go_at_call 5; refine hW1.mono ?_; rintro e w6 ⟨vo, rfl, hvo, hb6⟩
            obtain ⟨Ao, cpo, rfl⟩ := hvo.slice
            rw [shW_len] at hvo
            rw [shW_len]
            have HVO : Hid (WordsOn w6 w5.heap.size (.slice Ao n1 cpo) (shW s'.f 292 h2 n1)) := hvo
            have HVA6 : Hid (WordsOn w6 wr.heap.size (.slice Aa r cpa) (shW s'.f 28 h3 r)) := HVA.out.keep (But.of_below (l := []) hb6) (fun _ _ => by simp)
            have HB6 : Hid (Below wr.heap.size wr w6) := seq HB5.out hb6
            have hD : Calls Try.prog 8 #[.pointer (some ⟨x, 0, none⟩)] w6 fun e w' => e = .returned (.bool true) ∧ w6 = w' := by
              obtain ⟨nx, u1, u2⟩ := HGG.out.1.next (HMA.out w6 HB6.out)
              rw [show (shM.ax (StT.over d)) = none from rfl] at u2
              rw [show true = nx.isNone by rw [u2]; rfl]
              exact done_steal w6 x nx u1
            have HGv : Hid (∀ Y, Below w6.heap.size w6 Y → Calls Try.prog 10 #[.pointer (some ⟨x, 0, none⟩)] Y fun e w' => e = .returned (.int .i64 (y : Int)) ∧ ∃ k, w' = Y.drewN k) := fun Y hY => by
              obtain ⟨nx, h1, -⟩ := Fl.blk (HMA.out Y (seq HB6.out hY))
              have h := st_g Y x cl 1 1 0 false d nx h1 HDO.out.1 (fun _ => ⟨HDO.out.2.2.1, HDO.out.2.2.2.1⟩)
              rw [HDO.out.2.2.2.2] at h
              exact h
            have HW6 : Hid (Below w.heap.size w w6) := seq HBW.out HB6.out
            clear hW1 hvo hb6 HMA HDO HVA
            go_wp2_with fail
            go_at_call 8; refine hD.mono ?_; rintro e w7 ⟨rfl, rfl⟩
            clear hD d0 d1
            have HSS : Hid (∀ Y, Below w6.heap.size w6 Y → Y.cell? ⟨gb, n1, none⟩ = some (.int .u64 g1)) := fun Y hY => by
              have h9 := HCB.out Y (seq HB6.out hY) n1 (by have := HNN.out; omega)
              rw [HGB.out.2.2] at h9
              exact h9
            have HG2 : Hid (∀ Y, Below w6.heap.size w6 Y → Calls Try.prog 10 #[.pointer (some ⟨x, 0, none⟩)] Y fun e w' => e = .returned (.int .i64 (y : Int)) ∧ Below Y.heap.size Y w') := fun Y hY => by
              refine (HGv.out Y hY).mono ?_
              rintro e w' ⟨he, kk, rfl⟩
              exact ⟨he, Below.drewN' (Below.refl _ _) kk⟩
            have i0 : (0 : Int) ≤ (n1 : Int) := by omega
            have i1 : (n1 : Int) < (k : Int) := by have := HNN.out; omega
            have i2 : (0 : Int) ≤ (n : Int) := by omega
            have i3 : (n : Int) ≤ (k : Int) := by have := HNN.out; omega
            have i4 : (k : Int) ≤ (cpb : Int) := by have := HGB.out; omega
            have i5 : (n1 : Int) ≤ (cpb : Int) := by omega
            have hH : Hid (w6.drew.cell? ⟨gb, n1, none⟩ = some (.int .u64 g1) ∧ Below w6.heap.size w6 w6.drew) := ⟨HSS.out _ (Below.refl _ _).drew, (Below.refl _ _).drew⟩
            have KEEP : Hid (∀ X w' : World, (X.cell? ⟨gb, n1, none⟩ = some (.int .u64 g1) ∧ Below w6.heap.size w6 X) → Below X.heap.size X w' → (w'.cell? ⟨gb, n1, none⟩ = some (.int .u64 g1) ∧ Below w6.heap.size w6 w')) := fun X w' h k => ⟨HSS.out _ (h.2.trans (k.mono h.2.size)), h.2.trans (k.mono h.2.size)⟩
            have j1 : n1 < k := by omega
            have j2 : n ≤ k := by omega
            have j3 : k ≤ cpb := by omega
            have j4 : n1 ≤ cpb := by omega
            have j5 : n1 ≤ k := by omega
            clear HGv
            have HSA : Hid (∀ Y, Below w6.heap.size w6 Y → ∀ (o : Option Addr) (len cq : Nat), (0 < r → o = some ⟨gb, n, none⟩) → len = r → Calls Try.prog 11 #[.slice Aa r cpa, .slice o len cq] Y fun e w' => e = .returned (.bool true) ∧ Below Y.heap.size Y w') := fun Y hY o len cq e1 e2 => by
              subst e2
              refine (same_any Y Aa o len cpa cq (fun j => (shW s'.f 28 h3 len).getD j 0) (by have := HNN.out; omega) (fun h0 => ?_) (fun h0 => ?_)).mono ?_
              · obtain ⟨ga, eA, hga, hca, hcell⟩ := HVA6.out.at' (by rw [shW_len]; exact h0)
                rw [shW_len] at hcell
                exact ⟨ga, 0, eA, Nat.lt_of_lt_of_le hga hY.size, fun j hj => by rw [Nat.zero_add]; exact (hY.cell (p := ⟨ga, j, none⟩) hga).trans (hcell j hj)⟩
              · have hgs : gb < Y.heap.size := Nat.lt_of_lt_of_le HGB.out.1 (Nat.le_trans HB6.out.size hY.size)
                refine ⟨gb, n, e1 h0, hgs, fun j hj => ?_⟩
                have h9 := HCB.out Y (seq HB6.out hY) (n + j) (by have := HNN.out; omega)
                rw [h9]
                show some (Value.int .u64 _) = some (Value.int .u64 ((shW s'.f 28 h3 len).getD j 0))
                rw [HAT.out j hj]
              · rintro e w' ⟨he, kk, rfl⟩
                exact ⟨he, Below.drewN' (Below.refl _ _) kk⟩
            have HSO : Hid (∀ Y, Below w6.heap.size w6 Y → ∀ (o : Option Addr) (len cq : Nat), (0 < n1 → o = some ⟨gb, 0, none⟩) → len = n1 → Calls Try.prog 11 #[.slice Ao n1 cpo, .slice o len cq] Y fun e w' => e = .returned (.bool true) ∧ Below Y.heap.size Y w') := fun Y hY o len cq e1 e2 => by
              subst e2
              refine (same_any Y Ao o len cpo cq (fun j => (shW s'.f 292 h2 len).getD j 0) (by have := HNN.out; omega) (fun h0 => ?_) (fun h0 => ?_)).mono ?_
              · obtain ⟨ga, eA, hga, hca, hcell⟩ := HVO.out.at' (by rw [shW_len]; exact h0)
                rw [shW_len] at hcell
                exact ⟨ga, 0, eA, Nat.lt_of_lt_of_le hga hY.size, fun j hj => by rw [Nat.zero_add]; exact (hY.cell (p := ⟨ga, j, none⟩) hga).trans (hcell j hj)⟩
              · have hgs : gb < Y.heap.size := Nat.lt_of_lt_of_le HGB.out.1 (Nat.le_trans HB6.out.size hY.size)
                refine ⟨gb, 0, e1 h0, hgs, fun j hj => ?_⟩
                rw [Nat.zero_add]
                have h9 := HCB.out Y (seq HB6.out hY) j (by have := HNN.out; omega)
                rw [h9]
                show some (Value.int .u64 _) = some (Value.int .u64 ((shW s'.f 292 h2 len).getD j 0))
                rw [HOT.out j hj]
              · rintro e w' ⟨he, kk, rfl⟩
                exact ⟨he, Below.drewN' (Below.refl _ _) kk⟩
            clear d2 d9 t5 HAT HOT HVA6 HVO HI5 HY5 HBW HB5 HVB HGG HR0 HM hne hup hlo
            obtain ⟨sB, hsB⟩ : ∃ sB, (if cpb = n then some (⟨gb, 0, none⟩ : Addr) else some ⟨gb, n, none⟩) = sB := ⟨_, rfl⟩
            have HSB : Hid (0 < r → sB = some ⟨gb, n, none⟩) := fun h0 => by rw [← hsB, if_neg (by have h9 := HNN.out; have h8 := HGB.out; omega)]
            have HS2 : Hid (∀ Y, Below w6.heap.size w6 Y → ∀ (a : Option Addr) (la ca : Nat) (o : Option Addr) (len cq : Nat), ((a = Aa ∧ la = r ∧ ca = cpa ∧ (0 < r → o = some ⟨gb, n, none⟩) ∧ len = r) ∨ (a = Ao ∧ la = n1 ∧ ca = cpo ∧ (0 < n1 → o = some ⟨gb, 0, none⟩) ∧ len = n1)) → Calls Try.prog 11 #[.slice a la ca, .slice o len cq] Y fun e w' => e = .returned (.bool true) ∧ Below Y.heap.size Y w') := fun Y hY a la ca o len cq h => by
              rcases h with ⟨rfl, rfl, rfl, h1, h2⟩ | ⟨rfl, rfl, rfl, h1, h2⟩
              · exact HSA.out Y hY o len cq h1 h2
              · exact HSO.out Y hY o len cq h1 h2
            clear HSA HSO
            go_wp2_with fail
            go_region_held3 (fun w' => w'.cell? ⟨gb, n1, none⟩ = some (.int .u64 g1) ∧ Below w6.heap.size w6 w') (first | exact hH.out | assumption | exact KEEP.out _ _ ‹_› ‹_›) (first | (go_at_call 9; refine (steal_awake _).mono ?_; rintro e x1 ⟨rfl, g1⟩) | (go_at_call 10; refine (HG2.out _ (by simp only [*])).mono ?_; rintro e x2 ⟨rfl, g2⟩) | (go_at_call 11; refine (HS2.out _ (by simp only [*]) _ _ _ _ _ _ (by have h9 := HNN.out; first | (exact .inl ⟨rfl, rfl, rfl, HSB.out, by omega⟩) | (exact .inr ⟨rfl, rfl, rfl, (fun h0 => by first | rfl | (rw [if_neg (by omega)])), by omega⟩))).mono ?_; rintro e x3 ⟨rfl, g3⟩))
            all_goals
              rename_i hHeld
              have hbF := HW6.out.trans (hHeld.2.mono HW6.out.size)
              go_wp2_with fail
              go_ret
              exact ⟨rfl, hbF⟩

end Go.Proofs.Ytcjidigpdecdlaa

namespace Go.Proofs.Ytcjidigpdecdlaa
open Go Go.ChangeShapes Go.WideShapes Go.ChangeAt Go.RowKit

theorem below_trodAll {H : Type} {enc : TypeId × Value → H} {P : Program} (hl : laidOutB P = true) {W W' : World} (hb : Below W.heap.size W W') :
    ∀ (ts : List TypeId) (vs : List Value) (ds : List (DataW H)) (ps : List MemPlace), (ts.all fun t => P.readableRec t && decide (t < P.types.size)) = true →
      DataW.TrodAll enc P W 0 (fun _ => true) true ts vs ds ps → DataW.TrodAll enc P W' 0 (fun b => decide (b < W.heap.size)) true ts vs ds ps := by
  intro ts
  induction ts with
  | nil =>
    intro vs ds ps _ h
    cases vs <;> cases ds <;> first | exact h | exact (h : False).elim
  | cons t ts ih =>
    intro vs ds ps hall h
    cases vs with
    | nil => exact (h : False).elim
    | cons v vs =>
      cases ds with
      | nil => exact (h : False).elim
      | cons d ds =>
        obtain ⟨p, q, h1, h2, rfl⟩ := h
        simp only [List.all_cons, Bool.and_eq_true, decide_eq_true_eq] at hall
        have lt : ∀ x ∈ p, x.block < W.heap.size := by obtain ⟨m, hm⟩ := h1; exact DataW.trod_lt m _ _ _ hm
        exact ⟨p, q, Below.trod hl hall.1.1 hall.1.2 h1 hb lt, ih vs ds q hall.2 h2, rfl⟩

theorem law_post {H : Type} {enc : TypeId × Value → H} {P : Program} {f : Func} {s : ChangeSpec} {apart : Bool} {W W' : World} {args : Array Value} {ds gs : List (DataW H)} {before : List MemPlace} {bt : TypeId}
    (hl : laidOutB P = true) (hr : f.resultTypes.toList = [bt]) (hbt : P.underlying bt = some .bool) (hts : (f.params.toList.all fun t => P.readableRec t && decide (t < P.types.size)) = true)
    (hvars : s.vars = []) (hres : (s.fn H ds).results = [.lit (.bool true)]) (harg : (s.fn H ds).args = ds) (hvs : (s.fn H ds).vars = [])
    (hW : DataW.Whole enc P f.params.toList s.vars apart W args.toList ds gs before) (hb : Below W.heap.size W W') :
    s.post enc P f apart true false false W args (.bool true) W' := by
  have hW' := hW
  obtain ⟨p, q, hA, hV, rfl, hfz, hnd⟩ := hW
  have hg : gs = [] ∧ q = [] := by rw [hvars] at hV; exact trodVars_none hV
  obtain ⟨rfl, rfl⟩ := hg
  refine ⟨ds, [], _, [], p, [], hW', ?_, ?_, ?_, hb.frame _, fun h => by cases h⟩
  · have e : (Value.bool true).resultList f.resultTypes.size = [.bool true] := by
      have hs : f.resultTypes.size = 1 := by rw [← Array.length_toList, hr]; rfl
      rw [hs]; rfl
    rw [List.append_nil, hres, hr, e]
    exact trodAll_mk1 (shut_bool hbt _)
  · rw [List.append_nil, harg]
    exact below_trodAll hl hb _ _ _ _ hts hA
  · rw [List.append_nil, hvs, hvars]
    rfl
end Go.Proofs.Ytcjidigpdecdlaa

namespace Go.Proofs.Ytcjidigpdecdlaa
open Go Go.ChangeShapes Go.WideShapes Go.ChangeAt Go.RowKit Go.Joins
set_option linter.unusedVariables false
set_option linter.unusedSimpArgs false

theorem sh_u16 {n : Int} (h : (Lit.int .u16 n).wf = true) : 0 ≤ n ∧ n ≤ 65535 := by
  simp [Lit.wf, IntKind.min, IntKind.max, IntKind.signed, IntKind.bits] at h
  omega
theorem sh_u32 {n : Int} (h : (Lit.int .u32 n).wf = true) : 0 ≤ n ∧ n < 4294967296 := by
  simp [Lit.wf, IntKind.min, IntKind.max, IntKind.signed, IntKind.bits] at h
  omega
section
variable {H : Type} {enc : TypeId × Value → H} {P : Program} {W : World} {base b0 : Nat} {t : TypeId} {v : Value} {d : DataW H} {p : List MemPlace}
theorem open_two32 {e : TypeId} (ht : P.underlying t = some (.array 2 e)) (he : P.underlying e = some (.int .u32)) (hc : P.cellsOf e = 1) (hC : P.cellsOf t = 2)
    (hv : Value.okWide P W .any b0 t v) (h : DataW.Trod enc P W base (fun _ => true) true t v d p) :
    ∃ a b : Int, v = .agg #[.int .u32 a, .int .u32 b] ∧ (0 ≤ a ∧ a < 4294967296) ∧ (0 ≤ b ∧ b < 4294967296) := by
  obtain ⟨cs, rfl, hsz⟩ : ∃ cs, v = .agg cs ∧ cs.size = P.cellsOf t := by
    simp only [Value.okWide, ht] at hv
    obtain ⟨cs, h1, h2, _⟩ := hv
    exact ⟨cs, h1, h2⟩
  obtain ⟨c0, c1, rfl⟩ := array2 (hsz.trans hC)
  obtain ⟨fuel, hf⟩ := h
  obtain ⟨xs, m, _, _, _, hxl, hg⟩ := DataW.trod_array ht hf
  have g0 := hg 0 (by omega)
  have g1 := hg 1 (by omega)
  rw [hc, List.getElem?_eq_getElem (by omega)] at g0 g1
  simp [Value.cells] at g0 g1
  obtain ⟨a, e0, _, wa⟩ := DataW.trod_int he g0
  obtain ⟨b, e1, _, wb⟩ := DataW.trod_int he g1
  simp at e0 e1
  exact ⟨a, b, by rw [e0, e1], sh_u32 wa, sh_u32 wb⟩
end
theorem own_stealHalf : ownKnob Try.prog.godebug = none := by kernel_rfl
theorem laidOut_stealHalf : laidOutB Try.prog = true := by kernel_rfl

set_option maxRecDepth 100000 in
theorem lifted_stealHalf (os : Os) (started : os.Started) (H : Type) (enc : TypeId × Value → H) :
    ReturnsInHanded {} Try.checked os 3 .any (Rows.stealHalfSpec.pre6 enc Try.prog Try.f3 Rows.stealHalfRow.domain false) (Rows.stealHalfSpec.post enc Try.prog Try.f3 false true false false) := by
  refine returnsInHanded_of_change (C := Try.checked) own_stealHalf started (by kernel_rfl) Try.func3
    (ChangeSpec.witness6 (enc := enc) (C := Try.checked) false ⟨#[], #[.agg #[.int .u32 0, .int .u32 0], .int .u16 0], []⟩ 8 (by kernel_rfl) (by kernel_rfl) (by kernel_rfl) (by kernel_rfl)) ?_
  intro W base args ds gs before hval0 hW hcnd _
  have hval : ∀ (j : Nat) t v, Try.f3.params[j]? = some t → args[j]? = some v → Value.okWide Try.prog W .any base t v := hval0
  have hW' := hW
  obtain ⟨p, q, hA0, hV, rfl, hfz, hnd⟩ := hW
  have hA : DataW.TrodAll enc Try.prog W 0 (fun _ => true) true Try.f3.params.toList args.toList ds p := hA0
  rw [Try.params3] at hA hval
  obtain ⟨v0, vs0, d0, ds0, p0, q0, hargs, rfl, rfl, h0, r0⟩ := trodAll_cons hA
  obtain ⟨v1, vs1, d1, ds1, p1, q1, rfl, rfl, rfl, h1, r1⟩ := trodAll_cons r0
  obtain ⟨rfl, rfl, rfl⟩ := trodAll_nil r1
  obtain rfl : args = #[v0, v1] := by cases args; simp_all
  obtain ⟨x0, y0, rfl, bx0, by0⟩ := open_two32 Try.underlying23 Try.underlying22 (by kernel_rfl) (by kernel_rfl) (hval 0 23 v0 rfl rfl) h0
  obtain ⟨x1, rfl, rfl, rfl, wx1⟩ := open_int Try.underlying24 (hval 1 24 v1 rfl rfl) h1
  have hbx1 := sh_u16 wx1
  obtain ⟨k1, rfl⟩ : ∃ k : Nat, x1 = (k : Int) := ⟨x1.toNat, by omega⟩
  clear hA0 hval0
  refine (stealHalf_walk x0 y0 k1 W (by omega) (by omega) (by omega)).mono fun e W' ⟨he, hb⟩ => ?_
  subst he
  exact ⟨_, rfl, law_post laidOut_stealHalf rfl Try.underlying4 (by kernel_rfl) rfl rfl rfl rfl hW' hb⟩

theorem stealHalf_holds : Rows.StealHalfSaid :=
  OpenClaim.holds_of_wide 3 Try.f3 rfl rfl rfl rfl rfl rfl rfl ⟨rfl, rfl, rfl, rfl, rfl⟩ rfl rfl rfl rfl rfl (by kernel_rfl) Try.func3 (by kernel_rfl)
    (of_decide_eq_true (by kernel_rfl)) (by unfold Func.isWrapper; first | (rw [if_pos (by decide +kernel)]; kernel_rfl) | (rw [if_neg (by decide +kernel)]; exact ⟨rfl, rfl⟩))
    (fun os started H enc _ => lifted_stealHalf os started H enc)
#print axioms stealHalf_holds
end Go.Proofs.Ytcjidigpdecdlaa
