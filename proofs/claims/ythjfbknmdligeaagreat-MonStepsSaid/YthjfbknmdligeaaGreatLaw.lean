/- A machine, two memories, and what was answered: what pokes, turns and steps leave of them. -/
import Derived.Test.YthjfbknmdligeaaGreatFl
import Derived.Test.YthjfbknmdligeaaGreatGnd2
import Derived.Test.YthjfbknmdligeaaGreatOpen2
import Derived.Test.YthjfbknmdligeaaGreatDo
import Derived.Test.YthjfbknmdligeaaGreatMake
namespace Go.Proofs.YthjfbknmdligeaaGreat
open Go Go.RowKit
set_option linter.unusedVariables false
set_option maxRecDepth 100000
set_option linter.unusedSimpArgs false

theorem lay_ne {w : World} {A : Option Addr} {cap c b n cl : Nat} {s : St} {P T G : Int} {T' : TypeId} (hL : Lay w cl P T G) (hT : T' ≠ 124) (hI : Is w T' A cap c b n s) (hn : 0 < n) : cl ≠ c ∧ cl ≠ b := by
  have h1 : w.heap[cl]? = some (.cells #[.int .i64 P, .int .i64 T, .int .i64 G] 124 (0, 0)) := hL
  constructor
  · rintro rfl
    have h2 := hI.main
    rw [h1] at h2
    simp at h2
    exact hT h2.2.symm
  · rintro rfl
    obtain ⟨_, _, cs, h2, h3⟩ := hI.wds hn
    rw [h1] at h2
    simp at h2

def Rd.blk (c : Nat) (cs : Array Value) (T : TypeId) : Rd := ⟨[c], fun w => Blk w c cs T, fun w w' l h hb hk => h.but hb (hk c (by simp))⟩

structure LawOn {σ : Type} (I : MI σ) (R : Rd) (W0 w : World) (A A' : Option Addr) (cap cap' c b c' b' n : Nat) (s s2 : St) (Ag : Option Addr) (capg m : Nat) (g : Nat → Int) (x : Nat) (t : σ) (L E : List Nat) : Prop where
  poke : PokeOn W0 w A A' cap cap' c b c' b' n s s2 Ag capg m g (L ++ E)
  mach : I w x t L
  rd : R.P w
  rb : ∀ k ∈ R.B, k ∈ E
  apart : ∀ k ∈ L, k ∉ E

section
variable {σ : Type} {I : MI σ} {M : PM σ} {R Rm : Rd} {W0 w w' : World} {A A' : Option Addr} {cap cap' c b c' b' n : Nat} {s s2 : St} {Ag : Option Addr} {capg m : Nat} {g : Nat → Int} {x : Nat} {t : σ} {L E : List Nat}
theorem LawOn.still (hG : I.Good M) (h : LawOn I R W0 w A A' cap cap' c b c' b' n s s2 Ag capg m g x t L E) (hb : Below w.heap.size w w') : LawOn I R W0 w' A A' cap cap' c b c' b' n s s2 Ag capg m g x t L E :=
  ⟨h.poke.still hb, hG.below h.mach hb, R.below h.rd hb, h.rb, h.apart⟩
theorem LawOn.pokes (hG : I.Good M) (h : LawOn I R W0 w A A' cap cap' c b c' b' n s s Ag capg m g x t L E) (hn : n ≤ 1000000) (hl : Low s 1000000) (k who i old new : Int) (hnb : 0 ≤ new ∧ new ≤ 18446744073709551615) :
    Calls Tryz.prog 11 #[.pointer (some ⟨c, 0, none⟩), .pointer (some ⟨c', 0, none⟩), .agg #[.int .i64 k, .int .i64 who, .int .i64 i, .int .u64 old, .int .u64 new]] w fun e w' => e = .returned (.bool true) ∧ LawOn I R W0 w' A A' cap cap' c b c' b' n (actS k who i old new n s) (actS k who i old new n s) Ag capg m g x t L E := by
  refine (h.poke.poke hn hl k who i old new hnb).mono ?_
  rintro e w' ⟨rfl, hO, hB⟩
  have hfar : ∀ z ∈ L ++ E, z ∉ [c, b, c', b'] := fun z hz => by
    obtain ⟨h1, h2, h3, h4⟩ := (h.poke.far z hz).1
    simp [h1, h2, h3, h4]
  exact ⟨rfl, hO, hG.keep h.mach hB (fun k hk => hfar k (List.mem_append_left _ hk)), R.keep _ _ _ h.rd hB (fun k hk => hfar k (List.mem_append_right _ (h.rb k hk))), h.rb, h.apart⟩
theorem LawOn.turn (hG : I.Good M) (h : LawOn I R W0 w A A' cap cap' c b c' b' n s s Ag capg m g x t L E) (hok : ∀ a, M.ax t = some a → a.Ok) (hn : n ≤ 1000000) (hl : Low s 1000000) (hm : m ≤ 1000) (who : Int) :
    Calls Tryz.prog 18 #[.pointer (some ⟨c', 0, none⟩), .agg (runCells (.slice Ag m capg) (M.rn t m)), .int .i64 who] w fun e w' => ∃ Ag' capg', e = .returned (.slice Ag' (M.goM n t s m) capg') ∧ LawOn I R W0 w' A A' cap cap' c b c' b' n s (M.goS who n t s) Ag' capg' (M.goM n t s m) (M.goG n t s g m) x t L E := by
  refine (pm_turn h.poke hok hn hl hm who).mono ?_
  rintro e w' ⟨Ag', capg', rfl, hO, hB⟩
  exact ⟨Ag', capg', rfl, hO, hG.keep h.mach hB (fun k hk => h.poke.apart (List.mem_append_left _ hk)), R.keep _ _ _ h.rd hB (fun k hk => h.poke.apart (List.mem_append_right _ (h.rb k hk))), h.rb, h.apart⟩
theorem LawOn.step (hG : I.Good M) {F : Nat} {who : Int} (hS : Steps M I Rm F who) (hRm : ∀ w, R.P w → Rm.P w) (hRb : ∀ k ∈ Rm.B, k ∈ R.B) (h : LawOn I R W0 w A A' cap cap' c b c' b' n s s2 Ag capg m g x t L E) (hn : n ≤ 1000000) (hl : Low s 1000000) :
    Calls Tryz.prog F #[.pointer (some ⟨x, 0, none⟩), .pointer (some ⟨c, 0, none⟩)] w fun e w' => (∃ z, e = .returned (.bool z)) ∧ ∃ L', LawOn I R W0 w' A A' cap cap' c b c' b' n (M.goS who n t s) s2 Ag capg m g x (M.goT n t s) L' E := by
  have hE : ∀ k ∈ E, k ∉ L := fun k hk hl => h.apart k hl hk
  have hfar := h.poke.far
  refine (hS w A cap c b n s x t L h.mach (hRm w h.rd) h.poke.mem hn hl (fun k hk => ⟨(hfar k (List.mem_append_left _ hk)).1.1, (hfar k (List.mem_append_left _ hk)).1.2.1, fun hr => h.apart k hk (h.rb k (hRb k hr))⟩)
    ⟨fun hr => (hfar c (List.mem_append_right _ (h.rb c (hRb c hr)))).1.1 rfl, fun hr => (hfar b (List.mem_append_right _ (h.rb b (hRb b hr)))).1.2.1 rfl⟩).mono ?_
  rintro e w' ⟨rfl, L', a1, a2, a3, a4⟩
  have hlt := hG.lt a1
  refine ⟨⟨_, rfl⟩, L', h.poke.stepped a2 a3 (fun k hk => ?_) (fun k hk => ?_), a1, R.keep _ _ _ h.rd a3 (fun k hk => ?_), h.rb, fun k hk hke => ?_⟩
  · simp only [List.mem_cons] at hk
    rcases hk with rfl | rfl | hk
    · exact .inl rfl
    · exact .inr (.inl rfl)
    · exact .inr (.inr (List.mem_append_left _ hk))
  · rcases List.mem_append.1 hk with hk | hk
    · refine ⟨?_, hlt k hk⟩
      rcases a4 k hk with h1 | h1
      · exact .inl (List.mem_append_left _ h1)
      · exact .inr h1
    · exact ⟨.inl (List.mem_append_right _ hk), Nat.lt_of_lt_of_le (hfar k (List.mem_append_right _ hk)).2.1 a3.size⟩
  · have hke := h.rb k hk
    have := hfar k (List.mem_append_right _ hke)
    simp only [List.mem_cons, not_or]
    exact ⟨this.1.1, this.1.2.1, hE k hke⟩
  · rcases a4 k hk with h1 | h1
    · exact h.apart k h1 hke
    · have := (hfar k (List.mem_append_right _ hke)).2.1
      omega
/-- How it begins. -/
theorem LawOn.begin {w2 w3 : World} (hT : Two w2 A A' cap cap' c b c' b' n s) (hb : Below w2.heap.size w2 w3) (hB2 : Below W0.heap.size W0 w2) (hup : W0.heap.size ≤ c ∧ W0.heap.size ≤ b ∧ W0.heap.size ≤ c' ∧ W0.heap.size ≤ b')
    (hm : I w3 x t L) (hG : I.Good M) (hL : ∀ k ∈ L, w2.heap.size ≤ k) (hr : R.P w3) (hrb : ∀ k ∈ R.B, k ∈ E) (hE : ∀ k ∈ E, (k ≠ c ∧ k ≠ b ∧ k ≠ c' ∧ k ≠ b') ∧ k < w2.heap.size ∧ W0.heap.size ≤ k) :
    LawOn I R W0 w3 A A' cap cap' c b c' b' n s s none 0 0 (fun _ => 0) x t L E := by
  have k1 := hT.m.lt
  have k2 := hT.m.bl
  have k3 := hT.r.lt
  have k4 := hT.r.bl
  have hsz := hB2.size
  have hlt := hG.lt hm
  refine ⟨⟨hT.m.below hb, hT.r.below hb, hT.ne, ⟨World.ownsRow_nil _ _ _ _⟩, (fun k e => by cases e), (fun k e => by cases e), fun k hk => ?_, hup, hB2.trans (hb.mono hsz)⟩, hm, hr, hrb, fun k hk hke => ?_⟩
  · rcases List.mem_append.1 hk with hk | hk
    · have h1 := hL k hk
      exact ⟨⟨by omega, by omega, by omega, by omega⟩, hlt k hk, Nat.le_trans hsz h1⟩
    · obtain ⟨h1, h2, h3⟩ := hE k hk
      exact ⟨h1, Nat.lt_of_lt_of_le h2 hb.size, h3⟩
  · have h1 := hL k hk
    have h2 := (hE k hke).2.1
    omega
end

theorem sameB_any (w : World) (A B : Option Addr) (n cap cap' : Nat) (f : Nat → Int) (hn : n ≤ 1000000) (hA : SeesU w w.heap.size A n f) (hB : SeesU w w.heap.size B n f) :
    Calls Tryz.prog 22 #[.slice A n cap, .slice B n cap'] w fun e w' => e = .returned (.bool true) ∧ Below w.heap.size w w' :=
  (same_any w A B n cap cap' f hn hA hB).mono fun e w' ⟨he, m, hm⟩ => ⟨he, by rw [hm]; exact Below.drewN' (Below.refl _ _) m⟩
theorem SeesP.up {w : World} {E : Option Addr} {m : Nat} {a v : Nat → Int} (hs : SeesP w w.heap.size E m a v) (o : Obj) : SeesP (w.alloc o) (w.alloc o).heap.size E m a v := fun hp => by
  obtain ⟨b0, off, e, hlt, hc⟩ := hs hp
  have hB : Below w.heap.size w (w.alloc o) := (Below.refl _ _).alloc (Nat.le_refl _) _
  exact ⟨b0, off, e, by simp; omega, fun j hj => ⟨(hB.cell (p := ⟨b0, off + j * 2, none⟩) hlt).trans (hc j hj).1, (hB.cell (p := ⟨b0, off + j * 2 + 1, none⟩) hlt).trans (hc j hj).2⟩⟩

def runL (v : Value) (r : Rn) : List Value := [v, .int .i64 r.used, .bool r.stop, .int .i64 r.k, .int .i64 0, .int .i64 r.i, .int .u64 r.old, .int .u64 r.new, .bool false, .bool r.sleep]
theorem RunOn.range {w : World} {x : Nat} {A : Option Addr} {cap m : Nat} {g : Nat → Int} {r : Rn} (h : RunOn w x A cap m g r) : w.rangeAt x 0 (runL (.slice A m cap) r) := by
  intro j v e
  rw [Nat.zero_add]
  exact h.blk.cell j (by rw [show runCells (.slice A m cap) r = (runL (.slice A m cap) r).toArray from rfl]; simpa using e)

theorem run_starts {w : World} {A : Option Addr} {cap m : Nat} {g : Nat → Int} (hG : GotOn w A cap m g) (hm : m ≤ 1000) : RunOn (w.alloc (.cells (runL (.slice A m cap) rn0).toArray 50)) w.heap.size A cap m g rn0 := by
  refine ⟨Blk.new _ _ _, hG.but (But.of_below (l := []) ((Below.refl _ _).alloc (Nat.le_refl _) _)) (fun b e => by simp), fun b e => ?_, by omega, Nat.zero_le _⟩
  rcases hG.form with ⟨e0, -, -⟩ | ⟨gb, e0, hl⟩
  · rw [e0] at e; cases e
  · rw [e0] at e; cases e; simp; omega
theorem wd_lock (lk f : Int) (h : 0 ≤ lk ∧ lk ≤ 1) (hf : 0 ≤ f ∧ f ≤ 2) : wd 0 2 3 lk f = 3 * lk + f := by
  unfold wd
  rw [if_pos ⟨h.1, by omega, hf.1, by omega⟩]
  omega

/-- The cells of a poke. -/
def pokeL (z : Bool) (k p i o v : Int) : List Value := [.bool z, .int .i64 k, .int .i64 p, .int .i64 i, .int .u64 o, .int .u64 v]
structure Pk where
  z : Bool
  k : Int
  p : Int
  i : Int
  o : Int
  v : Int
def pkC (P : Nat → Pk) (j : Nat) : List Value := pokeL (P j).z (P j).k (P j).p (P j).i (P j).o (P j).v


open Go.ChangeShapes Go.WideShapes Go.ChangeAt Go.Deep in
/-- Pokes that came in. -/
theorem open_pokes {H : Type} {enc : TypeId × Value → H} {W : World} {base b0 : Nat} {v : Value} {d : DataW H} {p : List MemPlace}
    (hv : Value.okWide Tryz.prog W .any b0 27 v) (h : DataW.Trod enc Tryz.prog W base (fun _ => true) true 27 v d p) :
    ∃ (F : Option Addr) (mp cq : Nat) (Pks : Nat → Pk), v = .slice F mp cq ∧ mp ≤ maxLen ∧ SeesC W W.heap.size F mp 6 (pkC Pks) ∧ ∀ j, j < mp → 0 ≤ (Pks j).v ∧ (Pks j).v ≤ 18446744073709551615 := by
  obtain ⟨A, n, cap, rfl⟩ := okWide_slice Tryz.underlying27 hv
  obtain ⟨fuel, hf⟩ := h
  obtain ⟨F, mp, cq, C, e2, hm, hnil, hC, hQ⟩ := open_structs (k := 6) (fun l => ∃ (z : Bool) (k p i o v : Int), l = [.bool z, .int .i64 k, .int .i64 p, .int .i64 i, .int .u64 o, .int .u64 v] ∧ 0 ≤ v ∧ v ≤ 18446744073709551615) Tryz.underlying27 (by kernel_rfl) (by omega)
    (fun f l y hl hy => poke_cells Tryz.underlying45 ⟨rfl, rfl⟩ ⟨by kernel_rfl, by kernel_rfl⟩ Tryz.underlying4 Tryz.underlying43 ⟨rfl, rfl, rfl, rfl, rfl⟩ ⟨by kernel_rfl, by kernel_rfl, by kernel_rfl, by kernel_rfl, by kernel_rfl⟩ ⟨Tryz.underlying3, Tryz.underlying3, Tryz.underlying3, Tryz.underlying41, Tryz.underlying41⟩ hl hy) hf
  have hinh : Inhabited Pk := ⟨⟨false, 0, 0, 0, 0, 0⟩⟩
  obtain ⟨ab, hab⟩ := choose_lt (p := fun j (q : Pk) => C j = pokeL q.z q.k q.p q.i q.o q.v ∧ 0 ≤ q.v ∧ q.v ≤ 18446744073709551615) (fun j hj => by obtain ⟨_, z, k, p, i, o, v, e, hb⟩ := hQ j hj; exact ⟨⟨z, k, p, i, o, v⟩, e, hb⟩)
  have e3 : Value.slice A n cap = .slice F mp cq := by simpa [Value.cells] using e2
  refine ⟨F, mp, cq, ab, e3, hm, ?_, fun j hj => (hab j hj).2⟩
  intro hp
  obtain ⟨b, off, e, hlt, hc⟩ := hC hp
  exact ⟨b, off, e, hlt, fun j hj i u hu => hc j hj i u (by rw [(hab j hj).1]; exact hu)⟩

end Go.Proofs.YthjfbknmdligeaaGreat
