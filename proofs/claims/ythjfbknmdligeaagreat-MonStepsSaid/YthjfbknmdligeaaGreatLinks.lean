/- Lists that go from word to word of a memory: links.List. -/
import Derived.Test.YthjfbknmdligeaaGreatLaw
import Derived.Test.YthjfbknmdligeaaGreatLock1
import Derived.Maps.OwnSet
import Derived.Maps.AppendAt
import Derived.OwnWalk
import Derived.ChangeShapes
namespace Go.Proofs.YthjfbknmdligeaaGreat
open Go Go.RowKit Go.Maps
set_option linter.unusedVariables false
set_option maxRecDepth 100000
set_option linter.unusedSimpArgs false

/-- How a list goes on from a word: acc are the numbers so far, nx tells the word behind a number. -/
def lsGo (nx : Int → Int) (many : Int) : Nat → List Int → Int → List Int × Bool
  | 0, acc, _ => (acc, false)
  | f + 1, acc, w => if w = 0 then (acc, true) else if (w - 1) ∈ acc ∨ many < w then (acc, false) else lsGo nx many f (acc ++ [w - 1]) (nx (w - 1))
def lsOf (nx : Int → Int) (many w : Int) : List Int × Bool := lsGo nx many (many.toNat + 1) [] w

theorem nodup_room : ∀ (m : Nat) (l : List Int), l.Nodup → (∀ x ∈ l, 0 ≤ x ∧ x < m) → l.length ≤ m
  | 0, l, _, h => by
    cases l with
    | nil => simp
    | cons a r => have := h a (by simp); omega
  | m + 1, l, hn, h => by
    by_cases hm : (m : Int) ∈ l
    · have h1 := nodup_room m (l.erase m) (hn.erase _) (fun x hx => by
        have h2 := h x (List.mem_of_mem_erase hx)
        have h3 : x ≠ m := fun e => by
          rw [e] at hx
          exact (List.Nodup.mem_erase_iff hn).1 hx |>.1 rfl
        omega)
      have h4 := List.length_erase_of_mem hm
      omega
    · have := nodup_room m l hn (fun x hx => by
        have h2 := h x hx
        have h3 : x ≠ m := fun e => hm (e ▸ hx)
        omega)
      omega

theorem any_word (x : Int) : ∀ l : List Int, (l.map (fun n => Lit.int .u64 (n + 1))).any (fun y => y.sameKey (.int .u64 x)) = decide ((x - 1) ∈ l)
  | [] => rfl
  | a :: r => by
    rw [List.map_cons, List.any_cons, any_word x r]
    show (decide (IntKind.u64 = IntKind.u64 ∧ a + 1 = x) || _) = _
    by_cases e : a + 1 = x
    · have : x - 1 = a := by omega
      simp [e, this]
    · have : x - 1 ≠ a := by omega
      simp [e, this]
theorem has_words {H : Type} (l : List Int) (x : Int) : Maps.has (setOf (H := H) (.agg []) (l.map (fun n => Lit.int .u64 (n + 1)))) (.int .u64 x) = decide ((x - 1) ∈ l) := by
  rw [has_setOf _ _ _ (fun y hy => by obtain ⟨_, _, rfl⟩ := List.mem_map.1 hy; trivial)]
  exact any_word x l

/-- A list of ints that the call made. -/
structure IntsOn (w : World) (base : Nat) (v : Value) (l : List Int) : Prop where
  own : w.ownsRow base 3 1 v l.length (l.map (Value.int .i64))
theorem lists_keyed : Keyed Tryz.prog 41 := int_keyed Tryz.underlying41
theorem lists_info3 : (Tryz.prog.info? 3).map (fun i => (i.zero, i.size, i.bytes)) = some (some (.int .i64 0), 1, 8) := by kernel_rfl
theorem lists_row_ne {w : World} {base : Nat} {e : TypeId} {size : Nat} {v : Value} {n : Nat} {xs : List Value} (h : w.ownsRow base e size v n xs) {b : Nat} (hb : b < base) : some b ≠ v.ownBlock := fun e1 => by
  have := (h.lt b e1.symm).1
  omega
theorem row_but {w w' : World} {base : Nat} {e : TypeId} {size : Nat} {v : Value} {n : Nat} {xs : List Value} {l : List Nat} (h : w.ownsRow base e size v n xs) (hB : But l w w') (hl : ∀ b ∈ l, b < base) : w'.ownsRow base e size v n xs := by
  refine ⟨h.1, ?_⟩
  rcases h.2 with h0 | ⟨gb, cp, cur, e0, hb, hh, rest⟩
  · exact .inl h0
  · exact .inr ⟨gb, cp, cur, e0, hb, (hB.block gb (block_lt hh) (fun hm => absurd (hl gb hm) (by omega))).trans hh, rest⟩
theorem row_below {w w' : World} {base : Nat} {e : TypeId} {size : Nat} {v : Value} {n : Nat} {xs : List Value} (h : w.ownsRow base e size v n xs) (hB : Below w.heap.size w w') : w'.ownsRow base e size v n xs := row_but h (But.of_below (l := []) hB) (fun b hb => by cases hb)
theorem map_below {H : Type} {P : Program} {w w' : World} {k : TypeId} {R : Value → Option (DataW H × List MemPlace)} {b n : Nat} {D : DataW H} (h : w.ownsMap P k R b n D) (hB : Below w.heap.size w w') : w'.ownsMap P k R b n D := by
  obtain ⟨es, clock, h1, rest⟩ := h
  exact ⟨es, clock, (hB.block b (block_lt h1)).trans h1, rest⟩
theorem lists_slice {w : World} {base : Nat} {e : TypeId} {size : Nat} {v : Value} {n : Nat} {xs : List Value} (h : w.ownsRow base e size v n xs) : ∃ A cap, v = .slice A n cap := by
  rcases h.2 with ⟨e0, h0⟩ | ⟨gb, cp, cur, e0, hb, hh, rest⟩
  · subst h0; exact ⟨none, 0, e0⟩
  · exact ⟨_, _, e0⟩
theorem lists_wf {x : Int} (h : 0 ≤ x ∧ x ≤ 18446744073709551615) : (Lit.int .u64 x).wf = true := by
  unfold Lit.wf
  simp [IntKind.min, IntKind.max, IntKind.bits, IntKind.signed]
  omega

end Go.Proofs.YthjfbknmdligeaaGreat
