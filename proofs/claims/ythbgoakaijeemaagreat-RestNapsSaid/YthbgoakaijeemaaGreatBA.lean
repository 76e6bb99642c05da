/- Places of a processor and of a ring: contracts. -/
import Derived.Test.YthbgoakaijeemaaGreatLkFl
import Derived.Test.YthbgoakaijeemaaGreatLock2
import Derived.Test.YthbgoakaijeemaaGreatCp
import Derived.Test.YthbgoakaijeemaaGreatPoke
import Derived.Test.YthbgoakaijeemaaGreatBB
import Derived.Test.YthbgoakaijeemaaGreatLock1
import Derived.Maps.OwnSet
import Derived.Maps.AppendAt
import Derived.OwnWalk
import Derived.ChangeShapes
import Derived.Deep.RegionHeld3
namespace Go.Proofs.YthbgoakaijeemaaGreat
open Go Go.RowKit
set_option linter.unusedVariables false
set_option maxRecDepth 100000
set_option linter.unusedSimpArgs false


theorem glob_word (w : World) (c : Nat) : Calls Tryz.prog 92 #[.pointer (some ⟨c, 0, none⟩), .int .i64 16] w fun e w' => e = .returned (.int .i64 16) ∧ w = w' := by
  go_enter Tryz.func92, Tryz.ntmps92
  go_wp2_with fail
  go_ret
  exact ⟨rfl, rfl⟩

end Go.Proofs.YthbgoakaijeemaaGreat

namespace Go.Proofs.YthbgoakaijeemaaGreat
open Go Go.RowKit
set_option linter.unusedVariables false
set_option maxRecDepth 100000
set_option linter.unusedSimpArgs false


/-- A release that is to be run. -/
structure RelM (w : World) (x q g : Nat) (who sv ow : Int) : Prop where
  m : Blk w x (relCells who (some ⟨q, 0, none⟩) sv) 218
  com : Blk w q (comCells 2 0 ow 0 0 false .nilIface (.func (.func 163) #[] #[.pointer (some ⟨g, 0, none⟩)]) false false) 178
  box : Blk w g #[.func (.func 190) #[.pointer (some ⟨x, 0, none⟩)] #[]] 1
  o1 : x < q
  o2 : x < g
  ne : g ≠ q
/-- An acquire that is to be run. -/
structure AcqM (w : World) (x q : Nat) (who tk sv ow : Int) : Prop where
  m : Blk w x (acqCells who (some ⟨q, 0, none⟩) sv ow 0 false) 200
  com : Blk w q (comCells 4 0 tk 0 1 false .nilIface (.func (.func 157) #[.pointer (some ⟨x, 0, none⟩)] #[]) false false) 178
  o1 : x < q
theorem RelM.but {w w' : World} {x q g c : Nat} {who sv ow : Int} (h : RelM w x q g who sv ow) (hb : But [c] w w') (h1 : c < x) : RelM w' x q g who sv ow :=
  ⟨h.m.but hb (by simp; omega), h.com.but hb (by have := h.o1; simp; omega), h.box.but hb (by have := h.o2; simp; omega), h.o1, h.o2, h.ne⟩
theorem AcqM.but {w w' : World} {x q c : Nat} {who tk sv ow : Int} (h : AcqM w x q who tk sv ow) (hb : But [c] w w') (h1 : c < x) : AcqM w' x q who tk sv ow :=
  ⟨h.m.but hb (by simp; omega), h.com.but hb (by have := h.o1; simp; omega), h.o1⟩
theorem CameBox.before {a w w' : World} {c q g : Nat} {cs : Array Value} {com : Value → Array Value} {fv : Value} {T : TypeId} (h : CameBox w w' c cs T com fv q g) (hb : But [c] a w) : CameBox a w' c cs T com fv q g :=
  ⟨⟨Nat.le_trans hb.size h.at'.fresh, h.at'.own, h.at'.com, hb.trans h.at'.but⟩, Nat.le_trans hb.size h.fresh, h.box, h.ne⟩

end Go.Proofs.YthbgoakaijeemaaGreat

namespace Go.Proofs.YthbgoakaijeemaaGreat
open Go Go.RowKit
set_option linter.unusedVariables false
set_option maxRecDepth 100000
set_option linter.unusedSimpArgs false


def putCells (who : Int) (nx : Option Addr) (c : Nat) (g : Int) : Array Value := #[.int .i64 who, .pointer nx, .pointer (some ⟨c, 0, none⟩), .int .i64 g]

end Go.Proofs.YthbgoakaijeemaaGreat

namespace Go.Proofs.YthbgoakaijeemaaGreat
open Go Go.RowKit
set_option linter.unusedVariables false
set_option maxRecDepth 100000
set_option linter.unusedSimpArgs false


def getCells (who : Int) (nx : Option Addr) (c : Nat) (g : Int) (got : Bool) : Array Value := #[.int .i64 who, .pointer nx, .pointer (some ⟨c, 0, none⟩), .int .i64 g, .bool got]

theorem glob_word17 (w : World) (c : Nat) : Calls Tryz.prog 92 #[.pointer (some ⟨c, 0, none⟩), .int .i64 17] w fun e w' => e = .returned (.int .i64 17) ∧ w = w' := by
  go_enter Tryz.func92, Tryz.ntmps92
  go_wp2_with fail
  go_ret
  exact ⟨rfl, rfl⟩

end Go.Proofs.YthbgoakaijeemaaGreat

namespace Go.Proofs.YthbgoakaijeemaaGreat
open Go Go.RowKit
set_option linter.unusedVariables false
set_option maxRecDepth 100000
set_option linter.unusedSimpArgs false


end Go.Proofs.YthbgoakaijeemaaGreat

namespace Go.Proofs.YthbgoakaijeemaaGreat
open Go Go.RowKit
set_option linter.unusedVariables false
set_option maxRecDepth 100000
set_option linter.unusedSimpArgs false


end Go.Proofs.YthbgoakaijeemaaGreat

namespace Go.Proofs.YthbgoakaijeemaaGreat
open Go Go.RowKit
set_option linter.unusedVariables false
set_option maxRecDepth 100000
set_option linter.unusedSimpArgs false


end Go.Proofs.YthbgoakaijeemaaGreat

namespace Go.Proofs.YthbgoakaijeemaaGreat
open Go Go.RowKit
set_option linter.unusedVariables false
set_option maxRecDepth 100000
set_option linter.unusedSimpArgs false

def acqSub (tk sv ow who : Int) : Sub := ⟨AcqT, acqPM tk sv ow who, (acqFl who sv ow).I (acqPM tk sv ow who), Rd.nil, 161, 250⟩
def relSub (sv ow who : Int) : Sub := ⟨RelT, relPM sv ow, (relFl who sv).I (relPM sv ow), Rd.nil, 207, 252⟩
theorem acqSub_ok (tk sv ow who : Int) (hw : 0 ≤ who ∧ who ≤ 1000000) (R : Rd) : Steps (acqPM tk sv ow who) ((acqFl who sv ow).I (acqPM tk sv ow who)) Rd.nil 250 who ∧ MI.Good ((acqFl who sv ow).I (acqPM tk sv ow who)) (acqPM tk sv ow who) ∧ ActRun 161 250 ∧ (∀ w, R.P w → Rd.nil.P w) ∧ (∀ k ∈ Rd.nil.B, k ∈ R.B) :=
  ⟨Fl.steps (acq_laws _ _ _ who hw) stepby_acq, Fl.good (acq_laws _ _ _ who hw), act_acq, fun _ _ => trivial, fun k hk => by cases hk⟩
theorem relSub_ok (sv ow who : Int) (R : Rd) : Steps (relPM sv ow) ((relFl who sv).I (relPM sv ow)) Rd.nil 252 who ∧ MI.Good ((relFl who sv).I (relPM sv ow)) (relPM sv ow) ∧ ActRun 207 252 ∧ (∀ w, R.P w → Rd.nil.P w) ∧ (∀ k ∈ Rd.nil.B, k ∈ R.B) :=
  ⟨Fl.steps (rel_laws _ _ who) stepby_rel, Fl.good (rel_laws _ _ who), act_rel, fun _ _ => trivial, fun k hk => by cases hk⟩
theorem acqSub_at {w : World} {y q : Nat} {tk sv ow who : Int} (h : AcqM w y q who tk sv ow) : ((acqFl who sv ow).I (acqPM tk sv ow who)) w y AcqT.fresh [y, q] :=
  ⟨trivial, q, [q], h.m, .told _ h.com, by have := h.o1; simp; omega, rfl⟩
theorem relSub_at {w : World} {y q g : Nat} {sv ow who : Int} (h : RelM w y q g who sv ow) : ((relFl who sv).I (relPM sv ow)) w y RelT.fresh [y, q, g] :=
  ⟨trivial, q, [q, g], h.m, .box _ g (fun _ h => by cases h) h.com h.box h.ne, by have := h.o1; have := h.o2; simp; omega, rfl⟩

/-- Getting a lock, and what is so behind it. -/
def AcqT.goes {σ : Type} (f : AcqT → σ) (e : σ) : AcqT → σ
  | .over _ => e
  | p => f p

/-- The machine that gives a goroutine back; gl is the place of its GLink. -/
inductive GpT where
  | acq (p : AcqT)
  | ld
  | ln (f : Int)
  | st
  | rel (p : RelT)
def gpPM (who g gl : Int) : PM GpT where
  ax := fun
    | .acq p => (acqPM 3 4 5 who).ax p
    | .ld => some (axLd 16)
    | .ln f => some (axSt gl f)
    | .st => some (axSt 16 (g + 1))
    | .rel p => (relPM 4 5).ax p
  nx := fun
    | .acq p, v => ((acqPM 3 4 5 who).nx p v).goes .acq .ld
    | .ld, v => .ln v
    | .ln _, _ => .st
    | .st, _ => .rel .fresh
    | .rel p, v => .rel ((relPM 4 5).nx p v)
def AcqT.Live : AcqT → Prop
  | .over _ => False
  | _ => True
theorem acq_nx_live {who v : Int} (p : AcqT) (h : ((acqPM 3 4 5 who).ax ((acqPM 3 4 5 who).nx p v)).isSome = true) : ((acqPM 3 4 5 who).nx p v).Live := by
  cases hp : (acqPM 3 4 5 who).nx p v with
  | over t => rw [hp] at h; cases h
  | fresh => trivial
  | wait t => trivial
  | has t => trivial
theorem acq_then_live {σ : Type} {f : AcqT → σ} {e : σ} : ∀ (p : AcqT), p.Live → p.goes f e = f p
  | .fresh, _ => rfl
  | .wait _, _ => rfl
  | .has _, _ => rfl
theorem acq_then_over {σ : Type} {f : AcqT → σ} {e : σ} {who : Int} : ∀ (p : AcqT), (acqPM 3 4 5 who).ax p = none → p.goes f e = e
  | .fresh, h => by cases h
  | .wait _, h => by cases h
  | .has _, h => by cases h
  | .over _, _ => rfl
theorem acq_live_some {who : Int} : ∀ (p : AcqT), p.Live → ((acqPM 3 4 5 who).ax p).isSome = true
  | .fresh, _ => rfl
  | .wait _, _ => rfl
  | .has _, _ => rfl
end Go.Proofs.YthbgoakaijeemaaGreat

namespace Go.Proofs.YthbgoakaijeemaaGreat
open Go Go.RowKit

/-- The goroutine that a word names. -/
def gw (v : Int) : Int := IntKind.i64.wrap (IntKind.u64.wrap (v - 1))
end Go.Proofs.YthbgoakaijeemaaGreat

namespace Go.Proofs.YthbgoakaijeemaaGreat
open Go Go.RowKit Go.Maps
set_option linter.unusedVariables false
set_option maxRecDepth 100000
set_option linter.unusedSimpArgs false

/-- How a list goes on from a word: acc are the numbers so far, nx tells the word behind a number. -/
def lsGo (nx : Int → Int) (many : Int) : Nat → List Int → Int → List Int × Bool
  | 0, acc, _ => (acc, false)
  | f + 1, acc, w => if w = 0 then (acc, true) else if (w - 1) ∈ acc ∨ many < w then (acc, false) else lsGo nx many f (acc ++ [w - 1]) (nx (w - 1))
def lsOf (nx : Int → Int) (many w : Int) : List Int × Bool := lsGo nx many (many.toNat + 1) [] w

theorem nodup_room : ∀ (m : Nat) (l : List Int), l.Nodup → (∀ x ∈ l, 0 ≤ x ∧ x < m) → l.length ≤ m
  | 0, l, _, h => by
    cases l with
    | nil => simp
    | cons a r => have := h a (by simp); omega
  | m + 1, l, hn, h => by
    by_cases hm : (m : Int) ∈ l
    · have h1 := nodup_room m (l.erase m) (hn.erase _) (fun x hx => by
        have h2 := h x (List.mem_of_mem_erase hx)
        have h3 : x ≠ m := fun e => by
          rw [e] at hx
          exact (List.Nodup.mem_erase_iff hn).1 hx |>.1 rfl
        omega)
      have h4 := List.length_erase_of_mem hm
      omega
    · have := nodup_room m l hn (fun x hx => by
        have h2 := h x hx
        have h3 : x ≠ m := fun e => hm (e ▸ hx)
        omega)
      omega

theorem any_word (x : Int) : ∀ l : List Int, (l.map (fun n => Lit.int .u64 (n + 1))).any (fun y => y.sameKey (.int .u64 x)) = decide ((x - 1) ∈ l)
  | [] => rfl
  | a :: r => by
    rw [List.map_cons, List.any_cons, any_word x r]
    show (decide (IntKind.u64 = IntKind.u64 ∧ a + 1 = x) || _) = _
    by_cases e : a + 1 = x
    · have : x - 1 = a := by omega
      simp [e, this]
    · have : x - 1 ≠ a := by omega
      simp [e, this]
theorem has_words {H : Type} (l : List Int) (x : Int) : Maps.has (setOf (H := H) (.agg []) (l.map (fun n => Lit.int .u64 (n + 1)))) (.int .u64 x) = decide ((x - 1) ∈ l) := by
  rw [has_setOf _ _ _ (fun y hy => by obtain ⟨_, _, rfl⟩ := List.mem_map.1 hy; trivial)]
  exact any_word x l

/-- A list of ints that the call made. -/
structure IntsOn (w : World) (base : Nat) (v : Value) (l : List Int) : Prop where
  own : w.ownsRow base 3 1 v l.length (l.map (Value.int .i64))
theorem lists_keyed : Keyed Tryz.prog 39 := int_keyed Tryz.underlying39
theorem lists_zero (w : World) : (zeroValue 211).run Tryz.prog w = .ok (.agg #[]) w := by kernel_rfl
theorem lists_info3 : (Tryz.prog.info? 3).map (fun i => (i.zero, i.size, i.bytes)) = some (some (.int .i64 0), 1, 8) := by kernel_rfl
theorem lists_row_ne {w : World} {base : Nat} {e : TypeId} {size : Nat} {v : Value} {n : Nat} {xs : List Value} (h : w.ownsRow base e size v n xs) {b : Nat} (hb : b < base) : some b ≠ v.ownBlock := fun e1 => by
  have := (h.lt b e1.symm).1
  omega
theorem row_but {w w' : World} {base : Nat} {e : TypeId} {size : Nat} {v : Value} {n : Nat} {xs : List Value} {l : List Nat} (h : w.ownsRow base e size v n xs) (hB : But l w w') (hl : ∀ b ∈ l, b < base) : w'.ownsRow base e size v n xs := by
  refine ⟨h.1, ?_⟩
  rcases h.2 with h0 | ⟨gb, cp, cur, e0, hb, hh, rest⟩
  · exact .inl h0
  · exact .inr ⟨gb, cp, cur, e0, hb, (hB.block gb (block_lt hh) (fun hm => absurd (hl gb hm) (by omega))).trans hh, rest⟩
theorem row_below {w w' : World} {base : Nat} {e : TypeId} {size : Nat} {v : Value} {n : Nat} {xs : List Value} (h : w.ownsRow base e size v n xs) (hB : Below w.heap.size w w') : w'.ownsRow base e size v n xs := row_but h (But.of_below (l := []) hB) (fun b hb => by cases hb)
theorem map_below {H : Type} {P : Program} {w w' : World} {k : TypeId} {R : Value → Option (DataW H × List MemPlace)} {b n : Nat} {D : DataW H} (h : w.ownsMap P k R b n D) (hB : Below w.heap.size w w') : w'.ownsMap P k R b n D := by
  obtain ⟨es, clock, h1, rest⟩ := h
  exact ⟨es, clock, (hB.block b (block_lt h1)).trans h1, rest⟩
theorem lists_slice {w : World} {base : Nat} {e : TypeId} {size : Nat} {v : Value} {n : Nat} {xs : List Value} (h : w.ownsRow base e size v n xs) : ∃ A cap, v = .slice A n cap := by
  rcases h.2 with ⟨e0, h0⟩ | ⟨gb, cp, cur, e0, hb, hh, rest⟩
  · subst h0; exact ⟨none, 0, e0⟩
  · exact ⟨_, _, e0⟩
theorem lists_wf {x : Int} (h : 0 ≤ x ∧ x ≤ 18446744073709551615) : (Lit.int .u64 x).wf = true := by
  unfold Lit.wf
  simp [IntKind.min, IntKind.max, IntKind.bits, IntKind.signed]
  omega

set_option maxHeartbeats 4000000 in
theorem links_any (w : World) (A : Option Addr) (cap c b n : Nat) (s : St) (first many : Int) (K bx : Nat) (pl : Int → Int) (hI : Is w 128 A cap c b n s) (hn : n ≤ 1000000) (hm : 0 ≤ many ∧ many ≤ 65536)
    (hent : Ent K) (hlink : ∀ W, Below w.heap.size w W → ∀ g, Calls Tryz.prog K #[.int .i64 g, .pointer (some ⟨bx, 0, none⟩)] W fun e w' => e = .returned (.int .i64 (pl g)) ∧ Below W.heap.size W w') :
    Calls Tryz.prog 144 #[.pointer (some ⟨c, 0, none⟩), .int .i64 first, .int .i64 many, .func (.func K) #[] #[.pointer (some ⟨bx, 0, none⟩)]] w fun e w' => ∃ v, e = .returned (.tuple #[v, .bool (lsOf (fun g => peekT n s (pl g)) many (peekT n s first)).2]) ∧ IntsOn w' (w.heap.size + 1) v (lsOf (fun g => peekT n s (pl g)) many (peekT n s first)).1 ∧ Below w.heap.size w w' := by
  have hmm := @run_makeMap Tryz.prog
  obtain ⟨i0, hi, hz0, hz1, hz2⟩ := info_parts lists_info3
  have HI : Hid (∀ W, Below w.heap.size w W → Is W 128 A cap c b n s) := fun W h => hI.below h
  have HL : Hid (∀ W, Below w.heap.size w W → ∀ g, Calls Tryz.prog K #[.int .i64 g, .pointer (some ⟨bx, 0, none⟩)] W fun e w' => e = .returned (.int .i64 (pl g)) ∧ Below W.heap.size W w') := hlink
  have HPB : Hid (∀ i, 0 ≤ peekT n s i ∧ peekT n s i ≤ 18446744073709551615) := fun i => by
    unfold peekT
    split
    · exact hI.bd _ (by omega)
    · omega
  have hent' : ∀ (g : Int) (w : World), (callFunc K #[.int .i64 g, .pointer (some ⟨bx, 0, none⟩)]).run Tryz.prog w = .ok (.enter K #[.int .i64 g, .pointer (some ⟨bx, 0, none⟩)]) w := fun g w => hent _ w
  have HP1 : Hid (Calls Tryz.prog 34 #[.pointer (some ⟨c, 0, none⟩), .int .i64 first] (w.alloc (.map #[] 0)) fun e w' => e = .returned (.tuple #[.int .u64 (peekT n s first), .bool (decide (0 ≤ first ∧ first < n))]) ∧ w.alloc (.map #[] 0) = w') := peek_any _ A cap c b n s first (hI.below ((Below.refl _ _).alloc (Nat.le_refl _) _)) hn
  have HR : Hid (∃ r, lsOf (fun g => peekT n s (pl g)) many (peekT n s first) = r) := ⟨_, rfl⟩
  have w1 : IntKind.u64.wrap many = many := wrap_u64 (by omega)
  obtain ⟨r, hr⟩ := HR.out
  rw [hr]
  clear hI hlink hent HR
  go_enter Tryz.func144, Tryz.ntmps144
  go_wp2_with fail
  go_at_call 34; refine HP1.out.mono ?_; rintro e w2 ⟨rfl, rfl⟩
  have HW0 : Hid (0 ≤ peekT n s first ∧ peekT n s first ≤ 18446744073709551615) := HPB.out first
  have HR0 : Hid (lsGo (fun g => peekT n s (pl g)) many (many.toNat + 1) [] (peekT n s first) = r) := hr
  generalize peekT n s first = fw at *
  clear HP1 hr
  go_wp2_with fail
  go_loopw [10, 12] (fun v x wr => ∃ (acc : List Int) (wv : Int), x = .int .u64 wv ∧ Hid (0 ≤ wv ∧ wv ≤ 18446744073709551615) ∧ Hid (wr.ownsMap Tryz.prog 39 unitElem w.heap.size acc.length (setOf (H := Unit) (.agg []) (acc.map (fun n => Lit.int .u64 (n + 1))))) ∧ Hid (wr.ownsRow (w.heap.size + 1) 3 1 v acc.length (acc.map (Value.int .i64))) ∧
      Hid (Below w.heap.size w wr) ∧ w.heap.size + 1 ≤ wr.heap.size ∧ Hid (acc.Nodup ∧ ∀ y ∈ acc, 0 ≤ y ∧ y < many) ∧ acc.length ≤ many.toNat ∧ Hid (lsGo (fun g => peekT n s (pl g)) many (many.toNat + 1 - acc.length) acc wv = r))
    (fun v _ _ => match v with | .slice _ k _ => many.toNat + 1 - k | _ => 0)
  case atStart => exact ⟨[], fw, rfl, HW0, World.ownsMap_made _ _ _ _, World.ownsRow_nil _ _ _ _, (Below.refl _ _).alloc (Nat.le_refl _) _, by simp, ⟨List.nodup_nil, by simp⟩, by simp, HR0⟩
  case round =>
    clear HW0 HR0
    obtain ⟨acc, wv, rfl, HWB, HM, HO, HB, hsz, HN, hlen, HRR⟩ := hrel
    by_cases h0 : wv = 0
    · subst h0
      have HE : Hid (r = (acc, true)) := by
        have := HRR.out
        obtain ⟨f, hf⟩ : ∃ f, many.toNat + 1 - acc.length = f + 1 := ⟨many.toNat - acc.length, by omega⟩
        rw [hf] at this
        exact this.symm.trans (if_pos rfl)
      clear HRR
      go_wp2_with fail
      go_returns
      rw [HE.out]
      exact ⟨_, rfl, ⟨HO.out⟩, HB.out⟩
    · have hd0 : (wv == 0) = false := by simpa using h0
      have hkey : keyOf Tryz.prog 39 (.int .u64 wv) = some (.int .u64 wv) := keyOf_int_mk Tryz.underlying39 (lists_wf HWB.out)
      have hhas := has_words (H := Unit) acc wv
      by_cases hin : (wv - 1) ∈ acc
      · rw [decide_eq_true hin] at hhas
        have HE : Hid (r = (acc, false)) := by
          have := HRR.out
          obtain ⟨f, hf⟩ : ∃ f, many.toNat + 1 - acc.length = f + 1 := ⟨many.toNat - acc.length, by omega⟩
          rw [hf, lsGo, if_neg h0, if_pos (.inl hin)] at this
          exact this.symm
        have hMM := HM.out
        generalize setOf (H := Unit) (.agg []) (acc.map (fun n => Lit.int .u64 (n + 1))) = D at *
        clear HRR hin
        go_wp2_with (at_lookup; refine wpList_lookup_own_unit _ rfl _ _ 210 rfl 39 211 lists_keyed Tryz.underlying210 (lists_zero _) w.heap.size acc.length _ rfl hMM _ _ rfl hkey ?_; rw [hhas])
        go_returns
        rw [HE.out]
        exact ⟨_, rfl, ⟨HO.out.alloc _⟩, HB.out.alloc (by omega) _⟩
      · rw [decide_eq_false hin] at hhas
        by_cases hgt : many < wv
        · have HE : Hid (r = (acc, false)) := by
            have := HRR.out
            obtain ⟨f, hf⟩ : ∃ f, many.toNat + 1 - acc.length = f + 1 := ⟨many.toNat - acc.length, by omega⟩
            rw [hf, lsGo, if_neg h0, if_pos (.inr hgt)] at this
            exact this.symm
          have hMM := HM.out
          generalize setOf (H := Unit) (.agg []) (acc.map (fun n => Lit.int .u64 (n + 1))) = D at *
          clear HRR hin
          go_wp2_with (at_lookup; refine wpList_lookup_own_unit _ rfl _ _ 210 rfl 39 211 lists_keyed Tryz.underlying210 (lists_zero _) w.heap.size acc.length _ rfl hMM _ _ rfl hkey ?_; rw [hhas])
          go_returns
          rw [HE.out]
          exact ⟨_, rfl, ⟨HO.out.alloc _⟩, HB.out.alloc (by omega) _⟩
        · have hwb := HWB.out
          have hd1 : decide (many < wv) = false := decide_eq_false hgt
          have hN2 : (acc ++ [wv - 1]).Nodup ∧ ∀ y ∈ acc ++ [wv - 1], 0 ≤ y ∧ y < many := by
            refine ⟨List.nodup_append.2 ⟨HN.out.1, by simp, ?_⟩, fun y hy => ?_⟩
            · intro a ha b hb
              simp at hb
              rintro rfl
              exact hin (hb ▸ ha)
            · rcases List.mem_append.1 hy with hy | hy
              · exact HN.out.2 y hy
              · simp at hy; omega
          have hlen2 : acc.length + 1 ≤ many.toNat := by
            have := nodup_room many.toNat _ hN2.1 (fun x hx => by have := hN2.2 x hx; omega)
            simpa using this
          have HN2 : Hid _ := hN2
          have HE : Hid (lsGo (fun g => peekT n s (pl g)) many (many.toNat + 1 - (acc.length + 1)) (acc ++ [wv - 1]) (peekT n s (pl (wv - 1))) = r) := by
            have := HRR.out
            rw [show many.toNat + 1 - acc.length = (many.toNat + 1 - (acc.length + 1)) + 1 by omega, lsGo, if_neg h0, if_neg (fun h => by rcases h with h | h; exact hin h; exact hgt h)] at this
            exact this
          have e1 : IntKind.u64.wrap (wv - 1) = wv - 1 := wrap_u64 (by omega)
          have e2 : IntKind.i64.wrap (wv - 1) = wv - 1 := by simp [IntKind.wrap, IntKind.bits, IntKind.signed]; omega
          have hMM := HM.out
          have hOO := HO.out
          have hml : acc.length < maxLen := by unfold maxLen; omega
          have HSN : Hid (∀ D, setOf (H := Unit) (.agg []) (acc.map (fun n => Lit.int .u64 (n + 1))) = D → setOf (H := Unit) (.agg []) ((acc ++ [wv - 1]).map (fun n => Lit.int .u64 (n + 1))) = D.put (.int .u64 wv) (.agg [])) := by
            rintro D rfl
            rw [List.map_append, List.map_singleton, setOf_snoc, show wv - 1 + 1 = wv by omega]
          generalize hDD : setOf (H := Unit) (.agg []) (acc.map (fun n => Lit.int .u64 (n + 1))) = D at *
          have HDD : Hid _ := hDD
          have HGT : Hid (¬ many < wv) := hgt
          have HH0 : Hid (wv ≠ 0) := h0
          have HWB2 : Hid (0 ≤ wv ∧ wv ≤ 18446744073709551615) := hwb
          clear HRR hin hN2 hDD hgt hwb
          go_wp2_with (first | (at_lookup; refine wpList_lookup_own_unit _ rfl _ _ 210 rfl 39 211 lists_keyed Tryz.underlying210 (lists_zero _) w.heap.size acc.length _ rfl hMM _ _ rfl hkey ?_; rw [hhas]) | (at_mapUpdate; refine wpList_mapUpdate_own _ rfl _ _ _ 210 rfl 39 211 lists_keyed Tryz.underlying210 (unitElem (H := Unit)) w.heap.size acc.length _ rfl (hMM.alloc _) hml _ _ _ rfl rfl hkey _ [] unitElem_mk ?_; intro w3 hown1 hgrow1) | (at_builtin; refine wpList_append_own _ rfl _ _ 147 rfl (w.heap.size + 1) 3 i0 (.int .i64 0) 1 8 Tryz.underlying147 hi hz0 hz1 hz2 rfl (by decide) _ _ _ rfl (((hOO.alloc _).kept hgrow1 (Or.inr (lists_row_ne hOO (Nat.lt_succ_self _)).symm)).alloc _) ⟨w3.heap.size, 0, none⟩ 1 1 [.int .i64 (wv - 1)] rfl rfl (cell_one_new _ _ _) (ints_oneCell .i64 [wv - 1]) (by unfold maxLen; omega) (by omega) (by have := hgrow1.size; simp at this ⊢; omega) ?_; intro v' w4 hown' hgrow2 hnil2))
          have hr1 := (hOO.alloc (.cells #[] 211)).kept hgrow1 (Or.inr (lists_row_ne hOO (Nat.lt_succ_self _)).symm)
          have s1 := hgrow1.size
          have s2 := hgrow2.size
          simp at s1 s2
          have HM4 : Hid (w4.ownsMap Tryz.prog 39 unitElem w.heap.size (acc.length + 1) (D.put (.int .u64 wv) (.agg []))) := (hown1.alloc _).kept hgrow2 (lists_row_ne hr1 (Nat.lt_succ_self _))
          have HB4 : Hid (Below w.heap.size w w4) := (((HB.out.alloc HB.out.size _).grown hgrow1 (by simp; omega) (fun j hj => by cases hj; exact Nat.le_refl _)).alloc (by omega) _).grown hgrow2 (by simp; omega) (fun j hj => Nat.le_trans (Nat.le_succ _) (hr1.lt j hj).1)
          have HO4 : Hid (w4.ownsRow (w.heap.size + 1) 3 1 v' (acc.length + 1) (List.map (Value.int .i64) acc ++ [Value.int .i64 (wv - 1)])) := hown'
          have hs4 : w.heap.size + 1 ≤ w4.heap.size := by omega
          obtain ⟨Ao, co, hvo⟩ := lists_slice HO.out
          have HVO : Hid (_ = Value.slice Ao acc.length co) := hvo
          have hLk := HL.out w4 HB4.out (wv - 1)
          clear hown' hgrow1 hgrow2 hnil2 hr1 hown1 hMM hOO HM HO s1 s2 hvo hhas hkey
          refine hLk.mono ?_
          rintro e w5 ⟨rfl, h5⟩
          have HM5 : Hid (w5.ownsMap Tryz.prog 39 unitElem w.heap.size (acc.length + 1) (D.put (.int .u64 wv) (.agg []))) := map_below HM4.out h5
          have HO5 : Hid (w5.ownsRow (w.heap.size + 1) 3 1 v' (acc.length + 1) (List.map (Value.int .i64) acc ++ [Value.int .i64 (wv - 1)])) := row_below HO4.out h5
          have HB5 : Hid (Below w.heap.size w w5) := seq HB4.out h5
          have hP5 := peek_any w5 A cap c b n s (pl (wv - 1)) (HI.out _ HB5.out) hn
          have hs5 := h5.size
          clear hLk h5 HM4 HO4 HB4
          go_wp2_with fail
          go_at_call 34; refine hP5.mono ?_; rintro e w6 ⟨rfl, rfl⟩
          clear hP5
          go_wp2_with fail
          go_roundw
          case rel =>
            refine ⟨acc ++ [wv - 1], peekT n s (pl (wv - 1)), rfl, HPB.out _, ?_, ?_, HB5, by omega, HN2, by simpa using hlen2, ?_⟩
            · have := HM5.out
              rw [← HSN.out D rfl] at this
              rw [List.length_append]
              exact this
            · have := HO5.out
              rw [List.length_append, List.map_append]
              exact this
            · rw [List.length_append]
              exact HE.out
          case measure =>
            obtain ⟨A5, c5, e5⟩ := lists_slice HO5.out
            rw [e5, HVO.out]
            show many.toNat + 1 - (acc.length + 1) < many.toNat + 1 - acc.length
            omega
end Go.Proofs.YthbgoakaijeemaaGreat

namespace Go.Proofs.YthbgoakaijeemaaGreat
open Go Go.RowKit
set_option linter.unusedVariables false
set_option maxRecDepth 100000
set_option linter.unusedSimpArgs false

theorem gw_eq (v : Int) (h : 0 ≤ v ∧ v ≤ 18446744073709551615) : wrap64 (IntKind.i64.wrap v - 1) = gw v := by
  simp [gw, wrap64, IntKind.wrap, IntKind.bits, IntKind.signed]
  split <;> split <;> omega
theorem gw_one (v : Int) (h : 0 ≤ v ∧ v ≤ 1000000) : gw (v + 1) = v := by
  simp [gw, IntKind.wrap, IntKind.bits, IntKind.signed]
  omega
theorem is_word (P T G : Int) (n : Nat) (v : Int) (hn : (n : Int) = 20 + 264 * P + 3 * T + 2 * G) (hp : 0 ≤ P ∧ P ≤ 64) (hT : 0 ≤ T ∧ T ≤ 65536) (hG : 0 ≤ G ∧ G ≤ 65536) (hv : 0 ≤ v ∧ v ≤ 18446744073709551615) (h0 : v ≠ 0) :
    (v ≤ G → gw v = v - 1) ∧ decide (0 ≤ wd (20 + P * 264 + T * 3) G 2 (gw v) 1 ∧ wd (20 + P * 264 + T * 3) G 2 (gw v) 1 < n) = decide (v ≤ G) := by
  have h1 : v ≤ G → gw v = v - 1 := fun h => by
    have := gw_one (v - 1) (by omega)
    rw [show v - 1 + 1 = v by omega] at this
    exact this
  refine ⟨h1, ?_⟩
  by_cases h : v ≤ G
  · rw [decide_eq_true h, h1 h, decide_eq_true]
    unfold wd
    rw [if_pos ⟨by omega, by omega, by omega, by omega⟩]
    omega
  · rw [decide_eq_false h, decide_eq_false]
    have hg : ¬ (0 ≤ gw v ∧ gw v < G) := by
      simp [gw, IntKind.wrap, IntKind.bits, IntKind.signed]
      split <;> omega
    unfold wd
    rw [if_neg (fun hh => hg ⟨hh.1, hh.2.1⟩)]
    omega
theorem lists_len {w : World} {base : Nat} {e : TypeId} {size : Nat} {v : Value} {n : Nat} {xs : List Value} (h : w.ownsRow base e size v n xs) : n ≤ maxLen := by
  rcases h.2 with ⟨e0, h0⟩ | ⟨gb, cp, cur, e0, hb, hh, hnc, hcm, rest⟩
  · omega
  · omega
theorem IntsOn.cell {w : World} {base : Nat} {v : Value} {l : List Int} (h : IntsOn w base v l) {j : Nat} (hj : j < l.length) : ∃ gb cap, v = .slice (some ⟨gb, 0, none⟩) l.length cap ∧ w.cell? ⟨gb, j, none⟩ = some (.int .i64 (l.getD j 0)) := by
  rcases h.own.2 with ⟨e, h0⟩ | ⟨gb, cp, cur, e, hb, hh, hnc, hcm, hcs, htk⟩
  · omega
  · subst e
    refine ⟨gb, cp, rfl, ?_⟩
    have hc := h.own.cellAt j (by omega)
    rw [List.getElem?_map, List.getElem?_eq_getElem hj] at hc
    rw [List.getD_eq_getElem?_getD, List.getElem?_eq_getElem hj]
    exact hc
end Go.Proofs.YthbgoakaijeemaaGreat

namespace Go.Proofs.YthbgoakaijeemaaGreat
open Go Go.RowKit
set_option linter.unusedVariables false
set_option maxRecDepth 100000
set_option linter.unusedSimpArgs false

theorem lprc_any (o : Option Addr) (P T G n f : Int) (w : World) (h : LayO w P T G o) (hp : 0 ≤ P ∧ P ≤ 64) (hf : 0 ≤ f ∧ f < 8) : Calls Tryz.prog 62 #[.pointer o, .int .i64 n, .int .i64 f] w fun e w' => e = .returned (.int .i64 (wd 20 P 264 n f)) ∧ Below w.heap.size w w' := by
  have HL : Hid _ := h
  have d1 : decide (8 ≤ f) = false := decide_eq_false (by omega)
  clear h
  go_enter Tryz.func62, Tryz.ntmps62
  go_wp2_with fail
  go_at_call 118; refine (procs_any o P T G _ HL.out).mono ?_; rintro e w1 ⟨rfl, h1⟩
  go_wp2_with fail
  go_at_call 101; refine (word_any 20 P 264 n f _ (by omega) (by omega) (by omega)).mono ?_; rintro e w2 ⟨rfl, h2⟩
  have hb := seq h1 h2
  go_wp2_with fail
  go_ret
  exact ⟨rfl, hb⟩

theorem rprc_any (p f : Int) (w : World) (hp : 0 ≤ p ∧ p ≤ 64) (hf : 0 ≤ f ∧ f < 8) : Calls Tryz.prog 135 #[.int .i64 p, .int .i64 f] w fun e w' => e = .returned (.int .i64 (20 + 264 * p + f)) ∧ w = w' := by
  go_enter Tryz.func135, Tryz.ntmps135
  go_wp2_with fail
  go_ret
  exact ⟨ret_int (by first | rfl | omega | (unfold wrap64; omega)), rfl⟩
theorem rprcAt_any (P T G p f : Int) (w : World) (hp : 0 ≤ p ∧ p < P) (hP : P ≤ 64) (hf : 0 ≤ f ∧ f < 8) :
    Calls Tryz.prog 79 #[.agg #[.int .i64 P, .int .i64 T, .int .i64 G], .int .i64 p, .int .i64 f] w fun e w' => e = .returned (.int .i64 (wd 20 P 264 p f)) ∧ Below w.heap.size w w' := by
  have hb : Below w.heap.size w (w.alloc (.cells #[.int .i64 P, .int .i64 T, .int .i64 G] 23)) := (Below.refl _ _).alloc (Nat.le_refl _) _
  have hT := rprc_any p f (w.alloc (.cells #[.int .i64 P, .int .i64 T, .int .i64 G] 23)) (by omega) hf
  have e : 20 + 264 * p + f = wd 20 P 264 p f := by unfold wd; rw [if_pos ⟨hp.1, hp.2, by omega, by omega⟩]; omega
  rw [e] at hT
  generalize wd 20 P 264 p f = nt at *
  clear e
  have d1 : decide (p < 0) = false := decide_eq_false (by omega)
  have d2 : decide (P ≤ p) = false := decide_eq_false (by omega)
  go_enter Tryz.func79, Tryz.ntmps79
  go_wp2_with fail
  go_at_call 135; refine hT.mono ?_; rintro e w1 ⟨rfl, rfl⟩
  go_wp2_with fail
  go_ret
  exact ⟨rfl, hb⟩

end Go.Proofs.YthbgoakaijeemaaGreat
