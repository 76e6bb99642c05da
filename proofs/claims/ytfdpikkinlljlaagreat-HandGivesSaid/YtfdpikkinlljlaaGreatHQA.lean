/- Five bools that come in. -/
import Derived.Test.YtfdpikkinlljlaaGreatHMAC
import Derived.Test.YtfdpikkinlljlaaGreatHMAS
import Derived.Test.YtfdpikkinlljlaaGreatGnd2
import Derived.Deep.RegionLaw
import Derived.Deep.AppendLies
import Derived.Test.YtfdpikkinlljlaaGreatHMAA
import Derived.Deep.RegionHeld3
namespace Go.Proofs.YtfdpikkinlljlaaGreat
open Go Go.RowKit
set_option linter.unusedVariables false
set_option maxRecDepth 100000

def hgQ (P p : Int) : Int := (p + 1) % P
def hg0 (p : Int) (x : Bool) : List (Int × Int) := if x then [(20 + 264 * p + 2, 1), (28 + 264 * p, 1)] else []
def hg1 (x : Bool) : List (Int × Int) := if x then [(6, 2), (7, 2), (8, 1)] else []
def hg2 (x : Bool) : List (Int × Int) := if x then [(13, 1)] else []
def hg3 (q : Int) (x : Bool) : List (Int × Int) := if x then [(9, q + 1), (10, 1), (19, (2 : Int) ^ q.toNat)] else []
def hg4 (T : Int) (x : Bool) : List (Int × Int) := [(15, if x then T - 1 else T)]
def hgL (P T p : Int) (x0 x1 x2 x3 x4 : Bool) : List (Int × Int) := hg0 p x0 ++ hg1 x1 ++ hg2 x2 ++ hg3 (hgQ P p) x3 ++ hg4 T x4
def hgA (l : List (Int × Int)) (i : Nat) : Int := (l.getD i (0, 0)).1
def hgV (l : List (Int × Int)) (i : Nat) : Int := (l.getD i (0, 0)).2
def hgN (P T : Int) : Nat := (20 + 264 * P + 3 * T + 2 * 3).toNat
def hgF (P T p : Int) (x0 x1 x2 x3 x4 : Bool) : HvT × St := (hvPM P T T p).steps T (hgN P T) 40 (.lk .hd, fresh (putF (hgA (hgL P T p x0 x1 x2 x3 x4)) (hgV (hgL P T p x0 x1 x2 x3 x4)) (hgN P T) (hgL P T p x0 x1 x2 x3 x4).length))
def hgWant (P p : Int) (x0 x1 x2 x3 : Bool) : List Int := (if !(x0 || x1 || (!x2 && !x3)) then [p] else []) ++ (if x3 then [hgQ P p] else [])
def hgOk (P T p : Int) (x0 x1 x2 x3 x4 : Bool) (r : HvT × St) : Bool :=
  let n := hgN P T
  let ls := lsOf (fun g => peekT n r.2 (wd 20 P 264 g 7)) P (peekT n r.2 9)
  let gv := peekT n r.2 (wd (20 + P * 264) T 3 (T - 1) 1)
  let starts := x0 || x1 || (!x2 && !x3)
  let gives := x4 && starts
  ls.2 && decide (ls.1 = hgWant P p x0 x1 x2 x3) && ((hvPM P T T p).ax r.1).isNone && decide (r.1.holds p = -1) && decide (r.2.bad = 0) &&
  decide (decide (gv % 4294967296 - 1 = p) = gives) && (!gives || decide (decide (4294967296 ≤ gv) = !(x0 || x1))) && decide (decide (peekT n r.2 (wd 20 P 264 p 0) = 2) = (starts && !gives)) && decide (0 ≤ gv ∧ gv ≤ 18446744073709551615)
def hgAll (P T p : Int) : Bool := [true, false].all fun x0 => [true, false].all fun x1 => [true, false].all fun x2 => [true, false].all fun x3 => [true, false].all fun x4 => hgOk P T p x0 x1 x2 x3 x4 (hgF P T p x0 x1 x2 x3 x4)
def hgTab (P : Int) : Bool := [2, 3, 4, 5, 6, 7, 8].all fun T => decide (T < P) || [0, 1, 2, 3].all fun p => decide (P ≤ p) || hgAll P T p
theorem hg_tab2 : hgTab 2 = true := by decide +kernel
theorem hg_tab3 : hgTab 3 = true := by decide +kernel
theorem hg_tab4 : hgTab 4 = true := by decide +kernel
theorem hg_bool {f : Bool → Bool} (h : [true, false].all f = true) (x : Bool) : f x = true := by
  rw [List.all_eq_true] at h
  exact h x (by cases x <;> simp)
theorem hg_ok (P T p : Int) (x0 x1 x2 x3 x4 : Bool) (hP : 2 ≤ P ∧ P ≤ 4) (hT : P ≤ T ∧ T ≤ 8) (hp : 0 ≤ p ∧ p < P) : hgOk P T p x0 x1 x2 x3 x4 (hgF P T p x0 x1 x2 x3 x4) = true := by
  have h : hgTab P = true := by
    rcases (by omega : P = 2 ∨ P = 3 ∨ P = 4) with rfl | rfl | rfl
    · exact hg_tab2
    · exact hg_tab3
    · exact hg_tab4
  unfold hgTab at h
  rw [List.all_eq_true] at h
  have h1 := h T (by rcases (by omega : T = 2 ∨ T = 3 ∨ T = 4 ∨ T = 5 ∨ T = 6 ∨ T = 7 ∨ T = 8) with rfl | rfl | rfl | rfl | rfl | rfl | rfl <;> simp)
  rw [decide_eq_false (by omega), Bool.false_or, List.all_eq_true] at h1
  have h2 := h1 p (by rcases (by omega : p = 0 ∨ p = 1 ∨ p = 2 ∨ p = 3) with rfl | rfl | rfl | rfl <;> simp)
  rw [decide_eq_false (by omega), Bool.false_or] at h2
  unfold hgAll at h2
  exact hg_bool (hg_bool (hg_bool (hg_bool (hg_bool h2 x0) x1) x2) x3) x4
theorem hg_parts {P T p : Int} {x0 x1 x2 x3 x4 : Bool} {r : HvT × St} (h : hgOk P T p x0 x1 x2 x3 x4 r = true) {N : Nat} (hN : hgN P T = N) :
    lsOf (fun g => peekT N r.2 (wd 20 P 264 g 7)) P (peekT N r.2 9) = (hgWant P p x0 x1 x2 x3, true) ∧ ((hvPM P T T p).ax r.1).isNone = true ∧ r.1.holds p = -1 ∧ r.2.bad = 0 ∧ ∃ gv st, peekT N r.2 (wd (20 + P * 264) T 3 (T - 1) 1) = gv ∧ peekT N r.2 (wd 20 P 264 p 0) = st ∧ (0 ≤ gv ∧ gv ≤ 18446744073709551615) ∧
      decide (gv % 4294967296 - 1 = p) = (x4 && (x0 || x1 || (!x2 && !x3))) ∧ ((x4 && (x0 || x1 || (!x2 && !x3))) = true → decide (4294967296 ≤ gv) = !(x0 || x1)) ∧ decide (st = 2) = ((x0 || x1 || (!x2 && !x3)) && !(x4 && (x0 || x1 || (!x2 && !x3)))) := by
  subst hN
  unfold hgOk at h
  simp only [Bool.and_eq_true, decide_eq_true_eq] at h
  obtain ⟨⟨⟨⟨⟨⟨⟨⟨k1, k2⟩, k3⟩, k4⟩, k5⟩, k6⟩, k7⟩, k8⟩, k9⟩ := h
  refine ⟨Prod.ext k2 k1, k3, k4, k5, _, _, rfl, rfl, k9, k6, fun hg => ?_, k8⟩
  rw [hg] at k7
  simpa using k7
end Go.Proofs.YtfdpikkinlljlaaGreat

namespace Go.Proofs.YtfdpikkinlljlaaGreat
open Go Go.RowKit
set_option linter.unusedVariables false
set_option maxRecDepth 100000
set_option linter.unusedSimpArgs false

/-- The cells of the words that are laid. -/
def hgC : List (Int × Int) → List Value
  | [] => []
  | a :: l => .int .i64 a.1 :: .int .u64 a.2 :: hgC l
theorem hgC_app (l m : List (Int × Int)) : hgC (l ++ m) = hgC l ++ hgC m := by
  induction l with
  | nil => rfl
  | cons a l ih => simp [hgC, ih]
theorem hgC_len (l : List (Int × Int)) : (hgC l).length = l.length * 2 := by
  induction l with
  | nil => rfl
  | cons a l ih => simp [hgC, ih]; omega
theorem hgC_at (l : List (Int × Int)) : ∀ i, i < l.length → (hgC l)[i * 2]? = some (.int .i64 (hgA l i)) ∧ (hgC l)[i * 2 + 1]? = some (.int .u64 (hgV l i)) := by
  induction l with
  | nil => intro i hi; exact absurd hi (by simp)
  | cons a l ih =>
    intro i hi
    cases i with
    | zero => exact ⟨rfl, rfl⟩
    | succ i =>
      have h := ih i (by simpa using hi)
      rw [show (i + 1) * 2 = i * 2 + 1 + 1 by omega]
      exact h
/-- A row of words that are laid, as it grows. -/
structure PuG (w W : World) (P T : Int) (xs : Array Value) (l : List (Int × Int)) (v : Value) : Prop where
  box : Blk W w.heap.size #[.int .i64 P, .int .i64 T, .int .i64 3] 23
  arg : Blk W (w.heap.size + 1) xs 77
  blk : Blk W (w.heap.size + 1 + 1) #[.int .i64 P, .int .i64 T, .int .i64 3, v] 26
  own : W.ownsRow w.heap.size 80 2 v l.length (hgC l)
  far : v.ownBlock ≠ some w.heap.size ∧ v.ownBlock ≠ some (w.heap.size + 1) ∧ v.ownBlock ≠ some (w.heap.size + 1 + 1)
  below : Below w.heap.size w W
theorem PuG.drew {w W : World} {P T : Int} {xs : Array Value} {l : List (Int × Int)} {v : Value} (H : PuG w W P T xs l v) : PuG w W.drew P T xs l v := ⟨H.box.drew, H.arg.drew, H.blk.drew, H.own.drew, H.far, H.below.drew⟩
theorem PuG.al {w W : World} {P T : Int} {xs : Array Value} {l : List (Int × Int)} {v : Value} (H : PuG w W P T xs l v) (o : Obj) : PuG w (W.alloc o) P T xs l v := ⟨H.box.al o, H.arg.al o, H.blk.al o, H.own.alloc o, H.far, H.below.alloc H.below.size o⟩
theorem PuG.next {w W W' : World} {P T : Int} {xs : Array Value} {l m : List (Int × Int)} {v : Value} {g' cap n : Nat} (H : PuG w W P T xs l v) (hn : n = (l ++ m).length) (ho : W'.ownsRow w.heap.size 80 2 (.slice (some ⟨g', 0, none⟩) n cap) n (hgC (l ++ m))) (hg : W.grownBy W' v.ownBlock) (hat : v.ownBlock = some g' ∨ g' = W.heap.size) (hlt : g' < W'.heap.size) :
    PuG w (W'.setCell ⟨w.heap.size + 1 + 1, 3, none⟩ (.slice (some ⟨g', 0, none⟩) n cap)) P T xs (l ++ m) (.slice (some ⟨g', 0, none⟩) n cap) := by
  subst hn
  have kg : ∀ c, c < W.heap.size → v.ownBlock ≠ some c → W'.heap[c]? = W.heap[c]? := fun c hc hne => hg.block c hc (Ne.symm hne)
  have b1 := H.blk.keep (kg _ H.blk.lt H.far.2.2)
  have b2 := H.box.keep (kg _ H.box.lt H.far.1)
  have b3 := H.arg.keep (kg _ H.arg.lt H.far.2.1)
  have hfar : ∀ c, c < W.heap.size → v.ownBlock ≠ some c → g' ≠ c := fun c hc hne e => by
    rcases hat with h1 | h1
    · exact hne (by rw [h1, e])
    · omega
  have f1 := hfar _ H.blk.lt H.far.2.2
  have f2 := hfar _ H.box.lt H.far.1
  have f3 := hfar _ H.arg.lt H.far.2.1
  have hB : But [w.heap.size + 1 + 1] W' (W'.setCell ⟨w.heap.size + 1 + 1, 3, none⟩ (.slice (some ⟨g', 0, none⟩) (l ++ m).length cap)) := (But.refl _ _).set (g := w.heap.size + 1 + 1) (.inl (by simp)) 3 _
  refine ⟨b2.but hB (by simp; omega), b3.but hB (by simp), b1.set 3 _, ?_, ⟨?_, ?_, ?_⟩, ?_⟩
  · refine ⟨ho.1, ?_⟩
    rcases ho.2 with ⟨e0, -⟩ | ⟨gb, cp, cur, e0, hb, hh, rest⟩
    · cases e0
    · injection e0 with e1 e2 e3
      injection e1 with e1
      injection e1 with e1
      refine .inr ⟨gb, cp, cur, by rw [e1, e3], hb, (hB.block gb (block_lt hh) (by simp; omega)).trans hh, rest⟩
  · show (some g' : Option Nat) ≠ some w.heap.size
    simpa using f2
  · show (some g' : Option Nat) ≠ some (w.heap.size + 1)
    simpa using f3
  · show (some g' : Option Nat) ≠ some (w.heap.size + 1 + 1)
    simpa using f1
  · have hx : But (rowB v) W W' := (But.refl _ _).grown hg (fun q hq => .inl (rowB_mem hq))
    have hrow : ∀ q ∈ rowB v, w.heap.size ≤ q := fun q hq => by
      have hq := mem_rowB hq
      rcases H.own.2 with ⟨e0, -⟩ | ⟨gb, cp, cur, e0, hb, -⟩
      · rw [e0] at hq; cases hq
      · rw [e0] at hq; injection hq with hq; rw [← hq]; exact hb
    have h1 := H.below.trans (hx.below hrow H.below.size)
    exact h1.trans (hB.below (by simp; omega) h1.size)
theorem PuG.grow {w W W' : World} {P T : Int} {xs : Array Value} {l : List (Int × Int)} {v : Value} (H : PuG w W P T xs l v) (hg : W.grownBy W' v.ownBlock) : Blk W' (w.heap.size + 1 + 1) #[.int .i64 P, .int .i64 T, .int .i64 3, v] 26 := H.blk.keep (hg.block _ H.blk.lt (Ne.symm H.far.2.2))
theorem PuG.val {w W : World} {P T : Int} {xs : Array Value} {l : List (Int × Int)} {v : Value} (H : PuG w W P T xs l v) : ∃ E cp, v = .slice E l.length cp := by
  rcases H.own.2 with ⟨e0, h0⟩ | ⟨gb, cp, cur, e0, -⟩
  · exact ⟨none, 0, by rw [e0, h0]⟩
  · exact ⟨_, _, e0⟩
theorem PuG.sees {w W : World} {P T : Int} {xs : Array Value} {l : List (Int × Int)} {E : Option Addr} {cp : Nat} (H : PuG w W P T xs l (.slice E l.length cp)) (B : Nat) (hB : W.heap.size ≤ B) : SeesP W B E l.length (hgA l) (hgV l) := by
  intro hm
  rcases H.own.2 with ⟨e0, h0⟩ | ⟨gb, cp', cur, e0, q1, q2, q3, q4, q5, q6⟩
  · omega
  · injection e0 with e1 e2 e3
    refine ⟨gb, 0, e1, Nat.lt_of_lt_of_le (block_lt q2) hB, fun j hj => ?_⟩
    have hat := hgC_at l j hj
    rw [← q6, List.getElem?_take, List.getElem?_take, if_pos (by omega), if_pos (by omega)] at hat
    simp only [World.cell?, q2]
    refine ⟨?_, ?_⟩
    · rw [Nat.zero_add]; simpa using hat.1
    · rw [Nat.zero_add]; simpa using hat.2
end Go.Proofs.YtfdpikkinlljlaaGreat

namespace Go.Proofs.YtfdpikkinlljlaaGreat
open Go Go.RowKit
set_option linter.unusedVariables false
set_option maxRecDepth 100000
set_option linter.unusedSimpArgs false

theorem iplistrow_mono {w : World} {base base' : Nat} {e : TypeId} {size : Nat} {v : Value} {n : Nat} {xs : List Value} (h : w.ownsRow base e size v n xs) (hb : base' ≤ base) : w.ownsRow base' e size v n xs := by
  refine ⟨h.1, ?_⟩
  rcases h.2 with h0 | ⟨gb, cp, cur, e0, hb0, rest⟩
  · exact .inl h0
  · exact .inr ⟨gb, cp, cur, e0, Nat.le_trans hb hb0, rest⟩
theorem iplist_link (w : World) (bx cl : Nat) (P T G : Int) (hp : 0 ≤ P ∧ P ≤ 64) (hT : 0 ≤ T ∧ T ≤ 65536) (hb : Blk w bx #[.pointer (some ⟨cl, 0, none⟩)] 30) (hl : Lay w cl P T G) (g : Int) :
    Calls Tryz.prog 107 #[.int .i64 g, .pointer (some ⟨bx, 0, none⟩)] w fun e w' => e = .returned (.int .i64 (wd 20 P 264 g 7)) ∧ Below w.heap.size w w' := by
  have c0 := hb.cell 0 (v := .pointer (some ⟨cl, 0, none⟩)) rfl
  have hW := lprc_any _ P T G g 7 w (.some cl hl) hp (by omega)
  clear hb hl hp hT
  go_enter Tryz.func107, Tryz.ntmps107
  go_wp2_with fail
  go_at_call 108; refine hW.mono ?_; rintro e w1 ⟨rfl, h1⟩
  go_wp2_with fail
  go_ret
  exact ⟨rfl, h1⟩

set_option maxHeartbeats 4000000 in
theorem iplist_any (w : World) (A : Option Addr) (cap c b n cl : Nat) (s : St) (P T G : Int) (hI : Is w 141 A cap c b n s) (hn : n ≤ 1000000) (hl : Lay w cl P T G) (hp : 0 ≤ P ∧ P ≤ 64) (hT : 0 ≤ T ∧ T ≤ 65536) :
    Calls Tryz.prog 42 #[.pointer (some ⟨cl, 0, none⟩), .pointer (some ⟨c, 0, none⟩)] w fun e w' => ∃ v, e = .returned (.tuple #[v, .bool (lsOf (fun g => peekT n s (wd 20 P 264 g 7)) P (peekT n s 9)).2]) ∧ IntsOn w' w.heap.size v (lsOf (fun g => peekT n s (wd 20 P 264 g 7)) P (peekT n s 9)).1 ∧ Below w.heap.size w w' := by
  have hbx : Hid (Blk (w.alloc (.cells #[.pointer (some ⟨cl, 0, none⟩)] 30)) w.heap.size #[.pointer (some ⟨cl, 0, none⟩)] 30) := Blk.new _ _ _
  have HB : Hid (Below w.heap.size w (w.alloc (.cells #[.pointer (some ⟨cl, 0, none⟩)] 30))) := (Below.refl _ _).alloc (Nat.le_refl _) _
  have hfc := field_c0
  have hW : ∀ Y, Calls Tryz.prog 68 #[.pointer (some ⟨cl, 0, none⟩), .int .i64 9] Y fun e w' => e = .returned (.int .i64 9) ∧ Y = w' := fun Y => il_word Y cl 9 (by omega)
  have hent : Ent 107 := fun args w => by kernel_rfl
  obtain ⟨r, hr⟩ : ∃ r, lsOf (fun g => peekT n s (wd 20 P 264 g 7)) P (peekT n s 9) = r := ⟨_, rfl⟩
  rw [hr]
  have hsz : (w.alloc (.cells #[.pointer (some ⟨cl, 0, none⟩)] 30)).heap.size = w.heap.size + 1 := World.size_alloc _ _
  have HC : Hid (∀ Y, Below w.heap.size w Y → Calls Tryz.prog 106 #[.pointer (some ⟨cl, 0, none⟩)] Y fun e w' => e = .returned (.agg #[.int .i64 P, .int .i64 T, .int .i64 G]) ∧ Below Y.heap.size Y w') := fun Y hY => config_any _ P T G Y (.some cl (hl.below hY hl.lt))
  have HL : Hid (∀ Y, Below w.heap.size w Y → Blk Y w.heap.size #[.pointer (some ⟨cl, 0, none⟩)] 30 → Calls Tryz.prog 105 #[.pointer (some ⟨c, 0, none⟩), .int .i64 9, .int .i64 P, .func (.func 107) #[] #[.pointer (some ⟨w.heap.size, 0, none⟩)]] Y fun e w' => ∃ v, e = .returned (.tuple #[v, .bool r.2]) ∧ IntsOn w' w.heap.size v r.1 ∧ Below Y.heap.size Y w') := fun Y hY hB => by
    refine (links_any Y A cap c b n s 9 P 107 w.heap.size (fun g => wd 20 P 264 g 7) (hI.below hY) hn (by omega) hent (fun W hW g => iplist_link W w.heap.size cl P T G hp hT (hB.but (But.of_below (l := []) hW) (by simp)) (hl.below (seq hY hW) hl.lt) g)).mono ?_
    rintro e w' ⟨v, rfl, h1, h2⟩
    rw [hr] at h1 ⊢
    exact ⟨v, rfl, ⟨iplistrow_mono h1.own (by have := hY.size; omega)⟩, h2⟩
  clear hI hl hn hp hT hent hr
  go_enter Tryz.func42, Tryz.ntmps42
  go_wp2_with fail
  generalize hY0 : w.alloc (.cells #[.pointer (some ⟨cl, 0, none⟩)] 30) = Y at *
  have k0 := hbx.out.cell 0 (v := .pointer (some ⟨cl, 0, none⟩)) rfl
  have HBX : Hid (∀ X, Below Y.heap.size Y X → Blk X w.heap.size #[.pointer (some ⟨cl, 0, none⟩)] 30) := fun X hX => hbx.out.but (But.of_below (l := []) hX) (by simp)
  have HBW : Hid (∀ X, Below Y.heap.size Y X → Below w.heap.size w X) := fun X hX => HB.out.trans (hX.mono (by omega))
  have HC2 : Hid (∀ X, Below Y.heap.size Y X → Calls Tryz.prog 106 #[.pointer (some ⟨cl, 0, none⟩)] X fun e w' => e = .returned (.agg #[.int .i64 P, .int .i64 T, .int .i64 G]) ∧ Below X.heap.size X w') := fun X hX => HC.out X (HBW.out X hX)
  have HL2 : Hid (∀ X, Below Y.heap.size Y X → Calls Tryz.prog 105 #[.pointer (some ⟨c, 0, none⟩), .int .i64 9, .int .i64 P, .func (.func 107) #[] #[.pointer (some ⟨w.heap.size, 0, none⟩)]] X fun e w' => ∃ v, e = .returned (.tuple #[v, .bool r.2]) ∧ IntsOn w' w.heap.size v r.1 ∧ Below X.heap.size X w') := fun X hX => HL.out X (HBW.out X hX) (HBX.out X hX)
  have hH : Hid (Y.drew.cell? ⟨w.heap.size, 0, none⟩ = some (.pointer (some ⟨cl, 0, none⟩)) ∧ Below Y.heap.size Y Y.drew) := ⟨hbx.out.drew.cell 0 rfl, (Below.refl _ _).drew⟩
  have KEEP : Hid (∀ X w' : World, (X.cell? ⟨w.heap.size, 0, none⟩ = some (.pointer (some ⟨cl, 0, none⟩)) ∧ Below Y.heap.size Y X) → Below X.heap.size X w' → (w'.cell? ⟨w.heap.size, 0, none⟩ = some (.pointer (some ⟨cl, 0, none⟩)) ∧ Below Y.heap.size Y w')) := fun X w' h k => ⟨(HBX.out w' (h.2.trans (k.mono h.2.size))).cell 0 rfl, h.2.trans (k.mono h.2.size)⟩
  have HFIN : Hid (∀ X, Below Y.heap.size Y X → Below w.heap.size w X) := HBW
  clear HC HL hbx HB hY0 k0 HBX HBW hsz
  go_region_held3 (fun w' => w'.cell? ⟨w.heap.size, 0, none⟩ = some (.pointer (some ⟨cl, 0, none⟩)) ∧ Below Y.heap.size Y w') (first | exact hH.out | assumption | exact KEEP.out _ _ ‹_› ‹_›) (first | (go_at_call 68; refine (hW _).mono ?_; rintro e x1 ⟨rfl, rfl⟩) | (go_at_call 106; refine (HC2.out _ (by simp only [*])).mono ?_; rintro e x2 ⟨rfl, g2⟩) | (go_at_call 105; refine (HL2.out _ (by simp only [*])).mono ?_; rintro e x3 ⟨v, rfl, hv3, g3⟩))
  all_goals
    rename_i hHeld
    have hF := HFIN.out _ hHeld.2
    clear hW HC2 HL2 hH KEEP HFIN hHeld
    go_wp2_with fail
    go_returns
    exact ⟨v, rfl, hv3, hF⟩
end Go.Proofs.YtfdpikkinlljlaaGreat

namespace Go.Proofs.YtfdpikkinlljlaaGreat
open Go Go.ChangeShapes Go.WideShapes Go.ChangeAt Go.RowKit Go.Joins Go.Deep
set_option linter.unusedVariables false
set_option maxRecDepth 100000
set_option linter.unusedSimpArgs false

variable {H : Type} {enc : TypeId × Value → H} {P : Program} {W : World} {base b0 : Nat} {t : TypeId} {v : Value} {d : DataW H} {p : List MemPlace}
theorem array5 {α : Type} {cs : Array α} (h : cs.size = 5) : ∃ a b c d e, cs = #[a, b, c, d, e] := by
  obtain ⟨l⟩ := cs
  match l, h with
  | [a, b, c, d, e], _ => exact ⟨a, b, c, d, e, rfl⟩
theorem open_bools5 {e : TypeId} (ht : P.underlying t = some (.array 5 e)) (he : P.underlying e = some .bool) (hc : P.cellsOf e = 1) (hC : P.cellsOf t = 5)
    (hv : Value.okWide P W .any b0 t v) (h : DataW.Trod enc P W base (fun _ => true) true t v d p) :
    ∃ x0 x1 x2 x3 x4 : Bool, v = .agg #[.bool x0, .bool x1, .bool x2, .bool x3, .bool x4] := by
  obtain ⟨cs, rfl, hsz⟩ : ∃ cs, v = .agg cs ∧ cs.size = P.cellsOf t := by
    simp only [Value.okWide, ht] at hv
    obtain ⟨cs, h1, h2, _⟩ := hv
    exact ⟨cs, h1, h2⟩
  obtain ⟨c0, c1, c2, c3, c4, rfl⟩ := array5 (hsz.trans hC)
  obtain ⟨fuel, hf⟩ := h
  obtain ⟨xs, m, _, _, _, hxl, hg⟩ := DataW.trod_array ht hf
  have g0 := hg 0 (by omega)
  have g1 := hg 1 (by omega)
  have g2 := hg 2 (by omega)
  have g3 := hg 3 (by omega)
  have g4 := hg 4 (by omega)
  rw [hc, List.getElem?_eq_getElem (by omega)] at g0 g1 g2 g3 g4
  simp [Value.cells] at g0 g1 g2 g3 g4
  obtain ⟨a0, e0, _⟩ := DataW.trod_bool he g0
  obtain ⟨a1, e1, _⟩ := DataW.trod_bool he g1
  obtain ⟨a2, e2, _⟩ := DataW.trod_bool he g2
  obtain ⟨a3, e3, _⟩ := DataW.trod_bool he g3
  obtain ⟨a4, e4, _⟩ := DataW.trod_bool he g4
  simp at e0 e1 e2 e3 e4
  exact ⟨a0, a1, a2, a3, a4, by rw [e0, e1, e2, e3, e4]⟩
end Go.Proofs.YtfdpikkinlljlaaGreat
