/- The monitor over processors that are idle: its steps; words that were told are kept. -/
import Derived.Test.YthjfbknmdligeaaGreatMo3
import Derived.Test.YthjfbknmdligeaaGreatGnd2
namespace Go.Proofs.YthjfbknmdligeaaGreat
open Go Go.RowKit
set_option linter.unusedVariables false
set_option maxRecDepth 100000
set_option linter.unusedSimpArgs false

/-- Words that were told once, in a block of their own. -/
def Rd.wd1 (g n : Nat) (f : Nat → Int) : Rd := ⟨[g], fun w => g < w.heap.size ∧ ∀ i, i < n → w.cell? ⟨g, i, none⟩ = some (.int .u64 (f i)), fun w w' l h hb hk => ⟨Nat.lt_of_lt_of_le h.1 hb.size, fun i hi => by
  have e := hb.block g h.1 (hk g (by simp))
  have h2 := h.2 i hi
  simp only [World.cell?] at h2 ⊢
  rw [e]
  exact h2⟩⟩
theorem Rd.wd1_sees {g n : Nat} {f : Nat → Int} {w : World} (h : (Rd.wd1 g n f).P w) : SeesU w w.heap.size (some ⟨g, 0, none⟩) n f := fun _ => ⟨g, 0, rfl, h.1, fun i hi => by rw [Nat.zero_add]; exact h.2 i hi⟩
theorem words_own (w : World) (A : Option Addr) (cap c b n : Nat) (s : St) (h : Is w 114 A cap c b n s) (hn : n ≤ 1000000) (hn0 : 0 < n) :
    Calls Tryz.prog 23 #[.pointer (some ⟨c, 0, none⟩)] w fun e w' => ∃ g cap', e = .returned (.slice (some ⟨g, 0, none⟩) n cap') ∧ w.heap.size ≤ g ∧ (Rd.wd1 g n s.f).P w' ∧ Below w.heap.size w w' := by
  have HC := clone_any A n cap s.f w hn (fun e => by have := h.bcap; have := this.2.2 e; omega) h.sees
  have c0 := h.cells.1
  clear h
  go_enter Tryz.func23, Tryz.ntmps23
  go_wp2_with fail
  go_at_call 54; refine HC.mono ?_; rintro e w1 ⟨v, rfl, hown, hb⟩
  have hown2 := hown
  rcases hown.2 with ⟨rfl, e0⟩ | ⟨g, cap, cur, rfl, hg, hh, hnc, hcm, hcs, htk⟩
  · exact absurd e0 (by omega)
  · have HP : Hid ((Rd.wd1 g n s.f).P w1) := ⟨block_lt hh, fun i hi => by
      have hc := hown2.cellAt i (by omega)
      rw [wordCells_at s.f n i hi] at hc
      exact hc⟩
    have HB : Hid (Below w.heap.size w w1) := hb
    have HGG : Hid (w.heap.size ≤ g) := hg
    clear HC hown hown2 hb hh hnc hcm hcs htk hg
    go_wp2_with fail
    go_ret
    exact ⟨g, cap, rfl, HGG.out, HP.out, HB.out⟩
/-- Where it is in the pass i, behind k steps. -/
structure IdOk (P : Nat) (t : MoP × MoD) (i k : Nat) : Prop where
  ps : t.2.ps = i
  f : t.2.f = fun _ => 0
  ov : t.2.ov = none
  nw : 0 ≤ t.2.nw ∧ t.2.nw ≤ 18446744073709551615
  at' : (k = 0 ∧ t.1 = .nw ∧ t.2.un = false) ∨ (0 < k ∧ k ≤ P ∧ t.1 = .st ∧ t.2.un = true ∧ t.2.p = k - 1)
theorem id_start (P : Nat) : IdOk P (.nw, moD0) 0 0 := ⟨rfl, rfl, rfl, by show (0 : Int) ≤ 0 ∧ (0 : Int) ≤ _; omega, .inl ⟨rfl, rfl, rfl⟩⟩
theorem IdOk.ok {P : Nat} {t : MoP × MoD} {i k : Nat} (h : IdOk P t i k) : MoOk P t := by
  refine ⟨?_, fun j => ?_, h.nw⟩
  · rcases h.at' with ⟨_, h1, _⟩ | ⟨h0, h1, h2, _, h3⟩
    · exact .inl h1
    · exact .inr ⟨.inl h2, by omega⟩
  · rw [h.f]
    show (0 : Int) ≤ 0 ∧ (0 : Int) ≤ _
    omega
theorem IdOk.un {P : Nat} {t : MoP × MoD} {i k : Nat} (h : IdOk P t i k) : (!t.2.un) = decide ((k : Int) = 0) := by
  rcases h.at' with ⟨h0, _, h1⟩ | ⟨h0, _, _, h1, _⟩
  · rw [h1, h0]; rfl
  · rw [h1, decide_eq_false (by omega)]; rfl
theorem id_next {P : Nat} {t : MoP × MoD} {i k : Nat} (h : IdOk P t i k) (hP : 1 ≤ P) (hk : k ≤ P) (hi : i ≤ 1000) {v : Int} (hv : 0 ≤ v ∧ v ≤ 18446744073709551615) (h0 : 0 < k → v = 0) : IdOk P (moNx P t v) (if k = P then i + 1 else i) (if k = P then 0 else k + 1) := by
  obtain ⟨ph, d⟩ := t
  obtain ⟨h1, h2, h3, h4, h5⟩ := h
  dsimp only at h1 h2 h3 h4 h5
  rcases h5 with ⟨rfl, rfl, h6⟩ | ⟨h7, h8, rfl, h6, h9⟩
  · rw [if_neg (by omega), if_neg (by omega)]
    have e : moNx P (.nw, d) v = (.st, { d with nw := v, un := true, p := 0 }) := if_neg (by omega)
    rw [e]
    exact ⟨h1, h2, h3, hv, .inr ⟨by omega, by omega, rfl, rfl, rfl⟩⟩
  · have hz := h0 h7
    subst hz
    have e1 : moNx P (.st, d) 0 = moVisit P d k := by
      show moJudge P d 0 = _
      unfold moJudge
      rw [if_neg (by omega), show d.p + 1 = k by omega]
    rw [e1]
    by_cases hkP : k = P
    · rw [if_pos hkP, if_pos hkP]
      have e : moVisit P d k = (.nw, { d with ps := wrap64 (d.ps + 1), un := false }) := if_pos (by omega)
      rw [e]
      refine ⟨?_, h2, h3, h4, .inl ⟨rfl, rfl, rfl⟩⟩
      show wrap64 (d.ps + 1) = _
      rw [h1]
      unfold wrap64
      omega
    · rw [if_neg hkP, if_neg hkP]
      have e : moVisit P d k = (.st, { d with p := k }) := if_neg (by omega)
      rw [e]
      exact ⟨h1, h2, h3, h4, .inr ⟨by omega, by omega, rfl, h6, by show k = k + 1 - 1; omega⟩⟩
theorem id_load {P : Nat} {t : MoP × MoD} {i k : Nat} (h : IdOk P t i k) : ∃ j, moAx P t.2.p t.1 = axLd j ∧ (0 < k → j = wd 20 P 264 ((k - 1 : Nat) : Int) 0) := by
  obtain ⟨ph, d⟩ := t
  rcases h.at' with ⟨h0, h1, _⟩ | ⟨h0, h2, h1, _, h3⟩
  · obtain rfl : ph = .nw := h1
    exact ⟨18, rfl, fun h => absurd h (by omega)⟩
  · obtain rfl : ph = .st := h1
    have h3' : d.p = k - 1 := h3
    exact ⟨wd 20 P 264 d.p 0, rfl, fun _ => by rw [h3']⟩
theorem id_act (who i : Int) (n : Nat) (s : St) : (actS 1 who i 0 0 n s).f = s.f ∧ (actS 1 who i 0 0 n s).clock = s.clock + 1 ∧ (0 ≤ i ∧ i < n → actA 1 i 0 0 n s = s.f i.toNat ∧ (actS 1 who i 0 0 n s).bad = s.bad) := by
  unfold actS actA
  rw [if_neg (by decide), if_neg (by decide), if_neg (by decide), if_neg (by decide), if_neg (by decide), if_neg (by decide)]
  unfold stp ans
  refine ⟨?_, ?_, fun h => ?_⟩
  · split
    · rw [if_neg (by rintro (h | ⟨h, -⟩) <;> cases h), if_neg (by decide)]
    · rfl
  · split <;> rfl
  · rw [if_pos h, if_pos h, if_pos rfl]
    exact ⟨rfl, rfl⟩
theorem id_solo {who T G : Int} {cl r P : Nat} {R : Rd} {W0 w : World} {A : Option Addr} {cap c b n : Nat} {s : St} {x : Nat} {t : MoP × MoD} {L : List Nat} {i k m : Nat} (h : Solo (moI who cl r P) R W0 w A cap c b n s x t L) (hRl : ∀ w, R.P w → Lay w cl P T G) (hRb : cl ∈ R.B) (ho : IdOk P t i k) (hP : 1 ≤ P ∧ P ≤ 4) (hk : k ≤ P) (hi : i ≤ 1000) (hn : 20 + 264 * P ≤ n ∧ n ≤ 1000000) (hz : ∀ p, p < P → s.f (20 + 264 * p) = 0) (hl : Low s m) (hm : m ≤ 1000) :
    Calls Tryz.prog 20 #[.pointer (some ⟨x, 0, none⟩), .pointer (some ⟨c, 0, none⟩)] w fun e w' => e = .returned (.bool false) ∧ ∃ L' t' s', Solo (moI who cl r P) R W0 w' A cap c b n s' x t' L' ∧ IdOk P t' (if k = P then i + 1 else i) (if k = P then 0 else k + 1) ∧ s'.f = s.f ∧ s'.clock = s.clock + 1 ∧ Low s' (m + 1 : Nat) := by
  refine (mo_solo h hRl hRb ho.ok (by omega) hn.2 (hl.more (by omega))).mono ?_
  rintro e w' ⟨rfl, L', h1⟩
  obtain ⟨j, e1, e2⟩ := id_load ho
  rw [e1] at h1
  obtain ⟨a1, a2, a3⟩ := id_act who j n s
  refine ⟨rfl, L', _, _, h1, id_next ho hP.1 hk hi (actA_bd h.mem _ _ _ _) (fun h0 => ?_), a1, a2, (actS_low hl _ _ _ _ _ _).more (by show (m : Int) + 1 ≤ ((m + 1 : Nat) : Int); omega)⟩
  have e3 := e2 h0
  have e4 : wd 20 P 264 ((k - 1 : Nat) : Int) 0 = ((20 + 264 * (k - 1) : Nat) : Int) := by
    unfold wd
    rw [if_pos ⟨by omega, by omega, by omega, by omega⟩]
    omega
  rw [e4] at e3
  subst e3
  refine ((a3 ⟨by omega, by omega⟩).1).trans ?_
  exact hz (k - 1) (by omega)
end Go.Proofs.YthjfbknmdligeaaGreat
