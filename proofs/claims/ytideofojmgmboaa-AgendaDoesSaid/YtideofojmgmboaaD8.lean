/- Any act; the law of all acts, walked. -/
import Derived.Test.YtideofojmgmboaaD7
import Derived.Test.YtideofojmgmboaaS3
import Derived.Test.YtideofojmgmboaaOpen3
namespace Go.Proofs.Ytideofojmgmboaa
open Go Go.RowKit
set_option linter.unusedVariables false
set_option linter.unusedSimpArgs false
set_option maxRecDepth 100000

theorem does_any {X : World} {a : Nat} {G : Nat → Prop} {L S : List It} {b n cp : Nat} {A : Option Addr} (h : Ag X a G L) (hI : Is L S) (hb : 0 < n → ¬ G b) (hS : Sees X b A S) (hn : S.length = n) (hl : n ≤ 1000) (hcp : n ≤ cp) (kd due key : Int) :
    Calls Try.prog 19 #[.pointer (some ⟨a, 0, none⟩), .slice A n cp, .agg #[.int .i64 kd, .int .i64 due, .int .i64 key]] X (DoGot G X a b n) := by
  by_cases k0 : kd = 0
  · cases hp : pos S key with
    | none => exact does_put h hI hb hS hn hl hcp kd due key k0 hp
    | some j => exact does_twice h hI hb hS hn hl hcp kd due key k0 j hp
  · by_cases k1 : kd = 1
    · cases hs : S with
      | nil => subst hs; exact does_pop0 h hI hb hS hn hl hcp kd due key k1 rfl
      | cons s R => subst hs; exact does_pop1 h hI hb hS hn hl hcp kd due key k1 s R rfl
    · by_cases k2 : kd = 2
      · cases hp : pos S key with
        | none => exact does_drop0 h hI hb hS hn hl hcp kd due key k2 hp
        | some j => exact does_drop1 h hI hb hS hn hl hcp kd due key k2 j hp
      · by_cases k3 : kd = 3
        · cases hp : pos S key with
          | none => exact does_move0 h hI hb hS hn hl hcp kd due key k3 hp
          | some j => exact does_move1 h hI hb hS hn hl hcp kd due key k3 j hp
        · by_cases k4 : kd = 4
          · exact does_due h hI hb hS hn hl hcp kd due key k4
          · exact does_first h hI hb hS hn hl hcp kd due key ⟨k0, k1, k2, k3, k4⟩
theorem does_many (A : Option Addr) (n cp : Nat) (hn : 200 < n) (w : World) : Calls Try.prog 5 #[.slice A n cp] w fun e w' => e = .returned (.bool true) ∧ Below w.heap.size w w' := by
  have HA := Lib.hid (awake_any w)
  have h : (200 : Int) < (n : Int) := by omega
  go_enter Try.func5, Try.ntmps5
  go_wp2_with fail
  go_at_call 9; refine HA.out.mono ?_; rintro e w1 ⟨rfl, hb⟩
  have HB := Lib.hid hb
  clear hb
  go_wp2_with fail
  go_ret
  exact ⟨rfl, HB.out⟩
/-- the law goes on: its agenda is its list -/
structure Lw (w X : World) (a m cw : Nat) (Aw : Option Addr) (E : List Nat) (L S : List It) : Prop where
  own : Own E w X a L
  is : Is L S
  len : S.length = m
  cap : m ≤ cw
  sees : ∃ b, Sees X b Aw S ∧ (0 < m → b ∈ E)
theorem Lw.below {w X Y : World} {a m cw : Nat} {Aw : Option Addr} {E : List Nat} {L S : List It} (h : Lw w X a m cw Aw E L S) (hb : Below X.heap.size X Y) : Lw w Y a m cw Aw E L S :=
  let ⟨b, h1, h2⟩ := h.sees
  ⟨h.own.below hb, h.is, h.len, h.cap, b, h1.below hb, h2⟩
theorem Lw.does {w X Y : World} {a m cw : Nat} {Aw : Option Addr} {E : List Nat} {L S : List It} (h : Lw w X a m cw Aw E L S) {b : Nat} (hb2 : 0 < m → b ∈ E) {e : Ending} (hD : DoGot (fun k => w.heap.size ≤ k ∧ k ∉ E) X a b m e Y) :
    ∃ (m' cw' : Nat) (Aw' : Option Addr) (E' : List Nat) (L' S' : List It), e = .returned (.tuple #[.slice Aw' m' cw', .bool true]) ∧ m' ≤ m + 1 ∧ Lw w Y a m' cw' Aw' E' L' S' := by
  obtain ⟨E', A', cp', m', b', L', S', rfl, h1, h2, h3, h4, h5, h6, h7⟩ := hD
  obtain ⟨g1, g2⟩ := h4.done
  have hsz := h4.kp.size
  refine ⟨m', cp', A', E' ++ E, L', S', rfl, h2, ⟨below_kp h.own.bel (fun _ h => h.1) g1, fun x hx => ?_, h4.ag.wide fun k hk => ?_⟩, h7, h1, h3, b', h6, fun h0 => ?_⟩
  · rcases List.mem_append.1 hx with hx | hx
    · exact (h4.lt x hx).2
    · exact Nat.lt_of_lt_of_le (h.own.lt x hx) hsz
  · obtain ⟨k1, k2⟩ := hk
    have hE : k ∉ E := by
      rcases k1 with k1 | k1
      · exact k1.2
      · intro hm; have := h.own.lt k hm; omega
    refine ⟨?_, fun hm => ?_⟩
    · rcases k1 with k1 | k1
      · exact k1.1
      · exact Nat.le_trans h.own.bel.size k1
    · rcases List.mem_append.1 hm with hm | hm
      · exact k2 hm
      · exact hE hm
  · rcases h5 h0 with h5 | h5
    · exact List.mem_append_left _ h5
    · obtain ⟨rfl, h9⟩ := h5
      exact List.mem_append_right _ (hb2 h9)
end Go.Proofs.Ytideofojmgmboaa
