/- Pokes that came in; how the laws of pokes begin. -/
import Derived.Test.YtlnjjcfkcoaceaaPoke
import Derived.Test.YtlnjjcfkcoaceaaNWakes
import Derived.Test.YtlnjjcfkcoaceaaOpen2
namespace Go.Proofs.Ytlnjjcfkcoaceaa
open Go Go.RowKit
set_option linter.unusedVariables false
set_option maxRecDepth 100000
set_option linter.unusedSimpArgs false

theorem wd_lock (lk f : Int) (h : 0 ≤ lk ∧ lk ≤ 1) (hf : 0 ≤ f ∧ f ≤ 2) : wd 0 2 3 lk f = 3 * lk + f := by
  unfold wd
  rw [if_pos ⟨h.1, by omega, hf.1, by omega⟩]
  omega

/-- The cells of a poke. -/
def pokeL (z : Bool) (k p i o v : Int) : List Value := [.bool z, .int .i64 k, .int .i64 p, .int .i64 i, .int .u64 o, .int .u64 v]
structure Pk where
  z : Bool
  k : Int
  p : Int
  i : Int
  o : Int
  v : Int
def pkC (P : Nat → Pk) (j : Nat) : List Value := pokeL (P j).z (P j).k (P j).p (P j).i (P j).o (P j).v

theorem run_starts {w : World} {A : Option Addr} {cap m : Nat} {g : Nat → Int} (hG : GotOn w A cap m g) (hm : m ≤ 1000) : RunOn (w.alloc (.cells (runL (.slice A m cap) rn0).toArray 43)) w.heap.size A cap m g rn0 := by
  refine ⟨Blk.new _ _ _, hG.but (But.of_below (l := []) ((Below.refl _ _).alloc (Nat.le_refl _) _)) (fun b e => by simp), fun b e => ?_, by omega, Nat.zero_le _⟩
  rcases hG.form with ⟨e0, -, -⟩ | ⟨gb, e0, hl⟩
  · rw [e0] at e; cases e
  · rw [e0] at e; cases e; simp; omega
theorem poke_begin {w w2 w3 : World} {A A' : Option Addr} {cap cap' c b c' b' n : Nat} {s : St} {L : List Nat} (hT : Two w2 A A' cap cap' c b c' b' n s) (hb : Below w2.heap.size w2 w3) (hB2 : Below w.heap.size w w2) (hup : w.heap.size ≤ c ∧ w.heap.size ≤ b ∧ w.heap.size ≤ c' ∧ w.heap.size ≤ b') (hL : ∀ k ∈ L, w2.heap.size ≤ k ∧ k < w3.heap.size) :
    PokeOn w w3 A A' cap cap' c b c' b' n s s none 0 0 (fun _ => 0) L := by
  have k1 := hT.m.lt
  have k2 := hT.m.bl
  have k3 := hT.r.lt
  have k4 := hT.r.bl
  have hsz := hB2.size
  exact ⟨hT.m.below hb, hT.r.below hb, hT.ne, ⟨World.ownsRow_nil _ _ _ _⟩, (fun k e => by cases e), (fun k e => by cases e), fun k hk => ⟨⟨by have := (hL k hk).1; omega, by have := (hL k hk).1; omega, by have := (hL k hk).1; omega, by have := (hL k hk).1; omega⟩, (hL k hk).2, Nat.le_trans hsz (hL k hk).1⟩, hup, hB2.trans (hb.mono hsz)⟩

open Go.ChangeShapes Go.WideShapes Go.ChangeAt Go.Deep in
/-- Pokes that came in. -/
theorem open_pokes {H : Type} {enc : TypeId × Value → H} {W : World} {base b0 : Nat} {v : Value} {d : DataW H} {p : List MemPlace}
    (hv : Value.okWide Try.prog W .any b0 24 v) (h : DataW.Trod enc Try.prog W base (fun _ => true) true 24 v d p) :
    ∃ (F : Option Addr) (mp cq : Nat) (Pks : Nat → Pk), v = .slice F mp cq ∧ mp ≤ maxLen ∧ SeesC W W.heap.size F mp 6 (pkC Pks) ∧ ∀ j, j < mp → 0 ≤ (Pks j).v ∧ (Pks j).v ≤ 18446744073709551615 := by
  obtain ⟨A, n, cap, rfl⟩ := okWide_slice Try.underlying24 hv
  obtain ⟨fuel, hf⟩ := h
  obtain ⟨F, mp, cq, C, e2, hm, hnil, hC, hQ⟩ := open_structs (k := 6) (fun l => ∃ (z : Bool) (k p i o v : Int), l = [.bool z, .int .i64 k, .int .i64 p, .int .i64 i, .int .u64 o, .int .u64 v] ∧ 0 ≤ v ∧ v ≤ 18446744073709551615) Try.underlying24 (by kernel_rfl) (by omega)
    (fun f l y hl hy => poke_cells Try.underlying38 ⟨rfl, rfl⟩ ⟨by kernel_rfl, by kernel_rfl⟩ Try.underlying4 Try.underlying36 ⟨rfl, rfl, rfl, rfl, rfl⟩ ⟨by kernel_rfl, by kernel_rfl, by kernel_rfl, by kernel_rfl, by kernel_rfl⟩ ⟨Try.underlying3, Try.underlying3, Try.underlying3, Try.underlying34, Try.underlying34⟩ hl hy) hf
  have hinh : Inhabited Pk := ⟨⟨false, 0, 0, 0, 0, 0⟩⟩
  obtain ⟨ab, hab⟩ := choose_lt (p := fun j (q : Pk) => C j = pokeL q.z q.k q.p q.i q.o q.v ∧ 0 ≤ q.v ∧ q.v ≤ 18446744073709551615) (fun j hj => by obtain ⟨_, z, k, p, i, o, v, e, hb⟩ := hQ j hj; exact ⟨⟨z, k, p, i, o, v⟩, e, hb⟩)
  have e3 : Value.slice A n cap = .slice F mp cq := by simpa [Value.cells] using e2
  refine ⟨F, mp, cq, ab, e3, hm, ?_, fun j hj => (hab j hj).2⟩
  intro hp
  obtain ⟨b, off, e, hlt, hc⟩ := hC hp
  exact ⟨b, off, e, hlt, fun j hj i u hu => hc j hj i u (by rw [(hab j hj).1]; exact hu)⟩
end Go.Proofs.Ytlnjjcfkcoaceaa
