/- The monitor: its steps where it looks at processors. -/
import Derived.Test.YthjfbknmdligeaaGreatMo1b
import Derived.Test.YthjfbknmdligeaaGreatIter
namespace Go.Proofs.YthjfbknmdligeaaGreat
open Go Go.RowKit
set_option linter.unusedVariables false
set_option maxRecDepth 100000
set_option linter.unusedSimpArgs false

def moI (who : Int) (cl r P : Nat) : MI (MoP × MoD) := fun w x t L => ∃ q Lc, Blk w x (moCells who (some ⟨q, 0, none⟩) cl r P t.2) 98 ∧ Com w x q (moAx P t.2.p t.1) (moFol t.1) Lc ∧ RwAt w r (4 * P) t.2.f ∧ x ∉ Lc ∧ r ∉ Lc ∧ x ≠ r ∧ L = x :: r :: Lc
theorem moI_good (who : Int) (cl r P : Nat) : ∀ {w w' : World} {x : Nat} {t : MoP × MoD} {L l : List Nat}, moI who cl r P w x t L → But l w w' → (∀ k ∈ L, k ∉ l) → moI who cl r P w' x t L := by
  rintro w w' x t L l ⟨q, Lc, h1, h2, h3, h4, h5, h6, rfl⟩ hb hk
  exact ⟨q, Lc, h1.but hb (hk x (by simp)), h2.but hb (fun k hm => hk k (by simp [hm])), h3.but hb (hk r (by simp)), h4, h5, h6, rfl⟩
theorem moI_lt {who : Int} {cl r P : Nat} {w : World} {x : Nat} {t : MoP × MoD} {L : List Nat} (h : moI who cl r P w x t L) : ∀ k ∈ L, k < w.heap.size := by
  obtain ⟨q, Lc, h1, h2, h3, h4, h5, h6, rfl⟩ := h
  intro k hk
  simp only [List.mem_cons] at hk
  rcases hk with rfl | rfl | hk
  · exact h1.lt
  · exact h3.lt
  · exact h2.lt k hk
theorem MoLand.mach {who : Int} {cl r P : Nat} {W w' : World} {x : Nat} {s : MoP × MoD} (h : MoLand who cl r P W w' x s) (hx : x < W.heap.size) (hr : r < W.heap.size) (hxr : x ≠ r) : (∃ L', moI who cl r P w' x s L' ∧ ∀ k ∈ L', k = x ∨ k = r ∨ W.heap.size ≤ k) ∧ But [x, r] W w' ∧ ∃ q, w'.cell? ⟨x, 1, none⟩ = some (.pointer (some ⟨q, 0, none⟩)) := by
  obtain ⟨V, hb, hv, q, Lc, h1, h2, h3, h4⟩ := h
  have hsz := hb.size
  have hlt := hv.lt
  refine ⟨⟨x :: r :: Lc, ⟨q, Lc, h1, h2, hv.but h3 (by simpa using hxr.symm), fun hm => ?_, fun hm => ?_, hxr, rfl⟩, fun k hk => ?_⟩, hb.trans (h3.more (by intro k _ hk; simp at hk ⊢; exact .inl hk)), q, h1.cell 1 rfl⟩
  · have := h4 x hm; omega
  · have := h4 r hm; omega
  · simp only [List.mem_cons] at hk
    rcases hk with rfl | rfl | hk
    · exact .inl rfl
    · exact .inr (.inl rfl)
    · exact .inr (.inr (Nat.le_trans hsz (h4 k hk)))
theorem stepby_mon : StepBy 20 := by
  intro w x mv M h
  go_enter Tryz.func20, Tryz.ntmps20
  go_wp2_with fail
  go_at_call 52; refine h.mono ?_; rintro e w1 ⟨z, rfl, h1⟩
  go_wp2_with fail
  go_ret
  exact ⟨z, rfl, h1⟩
theorem mo_axok (P p : Nat) : ∀ ph, (moAx P p ph).Ok ∧ (moAx P p ph).sl = false ∧ (moFol ph).Ents
  | .nw => ⟨axLd_ok _, rfl, (fun args w => by kernel_rfl : Ent _)⟩
  | .st => ⟨axLd_ok _, rfl, (fun args w => by kernel_rfl : Ent _)⟩
  | .tu => ⟨axLd_ok _, rfl, (fun args w => by kernel_rfl : Ent _)⟩
  | .pr => ⟨axSt_ok _ _ (by omega), rfl, (fun args w => by kernel_rfl : Ent _)⟩
  | .ca => ⟨axLd_ok _, rfl, (fun args w => by kernel_rfl : Ent _)⟩
  | .sp => ⟨axLd_ok _, rfl, (fun args w => by kernel_rfl : Ent _)⟩
  | .ip => ⟨axLd_ok _, rfl, (fun args w => by kernel_rfl : Ent _)⟩
  | .im => ⟨axLd_ok _, rfl, (fun args w => by kernel_rfl : Ent _)⟩
  | .th => ⟨axLd_ok _, rfl, (fun args w => by kernel_rfl : Ent _)⟩
  | .ip2 => ⟨axLd_ok _, rfl, (fun args w => by kernel_rfl : Ent _)⟩
  | .sw => ⟨axSw_ok _ _ _ (by omega), rfl, (fun args w => by kernel_rfl : Ent _)⟩
  | .ad => ⟨axAd_ok _ _ (by omega), rfl, (fun args w => by kernel_rfl : Ent _)⟩
/-- A step of its own, whatever follows. -/
theorem mo_step_any {who T G : Int} {cl r P : Nat} {w : World} {A : Option Addr} {cp cm b n : Nat} {s : St} {x : Nat} {t t' : MoP × MoD} {L : List Nat} (hi : moI who cl r P w x t L) (hR : Lay w cl P T G) (hI : Is w 114 A cp cm b n s) (hn : n ≤ 1000000) (hl : Low s 1000000) (hf : ∀ k ∈ L, k ≠ cm ∧ k ≠ b ∧ k ≠ cl) (hcb : cm ≠ cl ∧ b ≠ cl)
    (hfol : ∀ W, Blk W x (moCells who none cl r P t.2) 98 → RwAt W r (4 * P) t.2.f → Lay W cl P T G → FolC W x (moFol t.1) (actA (moAx P t.2.p t.1).k (moAx P t.2.p t.1).i (moAx P t.2.p t.1).old (moAx P t.2.p t.1).new n s) (fun w' => MoLand who cl r P W w' x t')) :
    Calls Tryz.prog 20 #[.pointer (some ⟨x, 0, none⟩), .pointer (some ⟨cm, 0, none⟩)] w fun e w' => e = .returned (.bool false) ∧ ∃ L', moI who cl r P w' x t' L' ∧ Is w' 114 A cp cm b n (actS (moAx P t.2.p t.1).k who (moAx P t.2.p t.1).i (moAx P t.2.p t.1).old (moAx P t.2.p t.1).new n s) ∧ But (cm :: b :: L) w w' ∧ ∀ k ∈ L', k ∈ L ∨ w.heap.size ≤ k := by
  obtain ⟨q, Lc, h1, h2, h3, h4, h5, h6, rfl⟩ := hi
  obtain ⟨ok1, ok2, ok3⟩ := mo_axok P t.2.p t.1
  generalize moAx P t.2.p t.1 = a at *
  have hx := hf x (by simp)
  have hr := hf r (by simp)
  refine stepby_mon.to (R := fun nx w' => nx.isNone = false ∧ ∃ L', moI who cl r P w' x t' L' ∧ Is w' 114 A cp cm b n (actS a.k who a.i a.old a.new n s) ∧ But (cm :: b :: x :: r :: Lc) w w' ∧ ∀ k ∈ L', k ∈ x :: r :: Lc ∨ w.heap.size ≤ k) ?_ (fun nx w' h => h)
  refine acc_step w A cp cm b n s hI hn hl x q _ 98 who a (moFol t.1) Lc h1 rfl rfl h2 ok1 ok3 ⟨hx.1, hx.2.1⟩ h4 (fun k hk => ⟨(hf k (by simp [hk])).1, (hf k (by simp [hk])).2.1⟩) _ ?_
  intro W hW hIW hB
  have hW' : Blk W x (moCells who none cl r P t.2) 98 := hW
  have hrW : RwAt W r (4 * P) t.2.f := h3.but hB (by simp; exact ⟨hr.1, hr.2.1, h6.symm⟩)
  have hlW : Lay W cl P T G := (hB.block cl hR.lt (by simp; exact ⟨hcb.1.symm, hcb.2.symm, hx.2.2.symm⟩)).trans hR
  refine (hfol W hW' hrW hlW).mono ?_
  intro w' hl'
  obtain ⟨⟨L', g1, g2⟩, g3, q', g4⟩ := hl'.mach hW'.lt hrW.lt h6
  refine ⟨_, g4, rfl, L', g1, hIW.but g3 (by simp; exact ⟨hx.1.symm, hr.1.symm⟩) (by simp; exact ⟨hx.2.1.symm, hr.2.1.symm⟩), ?_, fun k hk => ?_⟩
  · exact (hB.more (by intro k _ hk; simp at hk ⊢; omega)).trans (g3.more (by intro k _ hk; simp at hk ⊢; omega))
  · rcases g2 k hk with rfl | rfl | g2
    · exact .inl (by simp)
    · exact .inl (by simp)
    · exact .inr (Nat.le_trans hB.size g2)
/-- A step of a machine over a memory that is known, apart. -/
theorem Solo.step_of {σ : Type} {I : MI σ} {R : Rd} {W0 w : World} {A : Option Addr} {cap c b n : Nat} {s s' : St} {x : Nat} {t t' : σ} {L : List Nat} {F : Nat} {z : Bool} (h : Solo I R W0 w A cap c b n s x t L)
    (hS : Calls Tryz.prog F #[.pointer (some ⟨x, 0, none⟩), .pointer (some ⟨c, 0, none⟩)] w fun e w' => e = .returned (.bool z) ∧ ∃ L', I w' x t' L' ∧ Is w' 114 A cap c b n s' ∧ But (c :: b :: L) w w' ∧ ∀ k ∈ L', k ∈ L ∨ w.heap.size ≤ k) :
    Calls Tryz.prog F #[.pointer (some ⟨x, 0, none⟩), .pointer (some ⟨c, 0, none⟩)] w fun e w' => e = .returned (.bool z) ∧ ∃ L', Solo I R W0 w' A cap c b n s' x t' L' := by
  refine hS.mono ?_
  rintro e w' ⟨rfl, L', a1, a2, a3, a4⟩
  have hsz := h.below.size
  have k1 := h.mem.lt
  have k2 := h.mem.bl
  refine ⟨rfl, L', a2, a1, R.keep _ _ _ h.rd a3 (fun k hk => ?_), fun k hk => ?_, h.rfar, ⟨h.up.1, h.up.2.1, fun k hk => ?_⟩, fun k hk => Nat.lt_of_lt_of_le (h.rlt k hk) a3.size, h.below.trans (a3.below ?_ hsz)⟩
  · simp only [List.mem_cons, not_or]
    exact ⟨fun e => h.rfar.1 (e ▸ hk), fun e => h.rfar.2 (e ▸ hk), fun hm => (h.far k hm).2.2 hk⟩
  · rcases a4 k hk with h1 | h1
    · exact h.far k h1
    · exact ⟨by omega, by omega, fun hr => by have := h.rlt k hr; omega⟩
  · rcases a4 k hk with h1 | h1
    · exact h.up.2.2 k h1
    · omega
  · intro k hk
    simp only [List.mem_cons] at hk
    rcases hk with rfl | rfl | hk
    · exact h.up.1
    · exact h.up.2.1
    · exact h.up.2.2 k hk
/-- Where it may be, as long as nobody is in a system call. -/
structure MoOk (P : Nat) (t : MoP × MoD) : Prop where
  ph : t.1 = .nw ∨ ((t.1 = .st ∨ t.1 = .tu ∨ t.1 = .pr) ∧ t.2.p < P)
  f : ∀ i, 0 ≤ t.2.f i ∧ t.2.f i ≤ 18446744073709551615
  nw : 0 ≤ t.2.nw ∧ t.2.nw ≤ 18446744073709551615
def moNx (P : Nat) : MoP × MoD → Int → MoP × MoD
  | (.nw, d), v => moFirst P d v
  | (.st, d), v => moJudge P d v
  | (.tu, d), v => moTurns P d v
  | (.pr, d), _ => moLate P d
  | t, _ => t
theorem mo_fol {who T G : Int} {cl r P : Nat} {W : World} {x : Nat} {t : MoP × MoD} {v : Int} (ht : MoOk P t) (hv : 0 ≤ v ∧ v ≤ 18446744073709551615) (hp : (P : Int) ≤ 64) (hcx : cl ≠ x) (hcr : cl ≠ r) (hxr : x ≠ r) (h : Blk W x (moCells who none cl r P t.2) 98) (hr : RwAt W r (4 * P) t.2.f) (hl : Lay W cl P T G) : FolC W x (moFol t.1) v (fun w' => MoLand who cl r P W w' x (moNx P t v)) := by
  obtain ⟨ph, d⟩ := t
  rcases ht.ph with h1 | ⟨h1 | h1 | h1, h2⟩
  · obtain rfl : ph = .nw := h1
    exact mo_first W x cl r P T G who d h hr hl hcx hcr hxr hp v
  · obtain rfl : ph = .st := h1
    exact mo_judge W x cl r P T G who d h hr hl hcx hcr hxr hp v (by have h2' : d.p < P := h2; omega)
  · obtain rfl : ph = .tu := h1
    exact mo_seeTurns W x cl r P T G who d h hr hl hcx hcr hxr hp v hv h2 ht.f ht.nw
  · obtain rfl : ph = .pr := h1
    exact mo_beLate W x cl r P T G who d h hr hl hcx hcr hxr hp (by have h2' : d.p < P := h2; omega)
/-- A step over a memory, apart. -/
theorem mo_solo {who T G : Int} {cl r P : Nat} {R : Rd} {W0 w : World} {A : Option Addr} {cap c b n : Nat} {s : St} {x : Nat} {t : MoP × MoD} {L : List Nat} (h : Solo (moI who cl r P) R W0 w A cap c b n s x t L) (hRl : ∀ w, R.P w → Lay w cl P T G) (hRb : cl ∈ R.B) (ht : MoOk P t) (hp : (P : Int) ≤ 64) (hn : n ≤ 1000000) (hl : Low s 1000000) :
    Calls Tryz.prog 20 #[.pointer (some ⟨x, 0, none⟩), .pointer (some ⟨c, 0, none⟩)] w fun e w' => e = .returned (.bool false) ∧ ∃ L', Solo (moI who cl r P) R W0 w' A cap c b n (actS (moAx P t.2.p t.1).k who (moAx P t.2.p t.1).i (moAx P t.2.p t.1).old (moAx P t.2.p t.1).new n s) x (moNx P t (actA (moAx P t.2.p t.1).k (moAx P t.2.p t.1).i (moAx P t.2.p t.1).old (moAx P t.2.p t.1).new n s)) L' := by
  have hk : ∀ k ∈ L, k ≠ c ∧ k ≠ b ∧ k ≠ cl := fun k hk => ⟨(h.far k hk).1, (h.far k hk).2.1, fun e => (h.far k hk).2.2 (e ▸ hRb)⟩
  have hc : c ≠ cl ∧ b ≠ cl := ⟨fun e => h.rfar.1 (e ▸ hRb), fun e => h.rfar.2 (e ▸ hRb)⟩
  have hm := h.mach
  obtain ⟨q, Lc, h1, h2, h3, h4, h5, h6, e0⟩ := hm
  have hx := hk x (by rw [e0]; simp)
  have hr := hk r (by rw [e0]; simp)
  exact h.step_of (mo_step_any h.mach (hRl _ h.rd) h.mem hn hl hk hc (fun W a1 a2 a3 => mo_fol ht (actA_bd h.mem _ _ _ _) hp hx.2.2.symm hr.2.2.symm h6 a1 a2 a3))
end Go.Proofs.YthjfbknmdligeaaGreat
