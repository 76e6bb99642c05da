/- MonTakes: a processor whose thread stays in a system call is handed over, if there is work, and a thread to be had; without a thread to be had it is left; for all inputs; no condition. -/
import Derived.Test.YthjfbknmdligeaaGreatTQA
import Derived.Test.YthjfbknmdligeaaGreatTQC
import Derived.Test.YthjfbknmdligeaaGreatGnd2
import Derived.Test.YthjfbknmdligeaaGreatLaw
import Derived.ProofKit
import Derived.Carry
import Derived.WalkKit
import Derived.OpenShut
import Derived.Test.YthjfbknmdligeaaGreatOpen
import Derived.Lib.SmallJoins
namespace Go.Proofs.YthjfbknmdligeaaGreat
open Go Go.RowKit
set_option linter.unusedVariables false
set_option maxRecDepth 100000
set_option linter.unusedSimpArgs false

def moI (who : Int) (cl r P : Nat) : MI (MoP × MoD) := fun w x t L => ∃ q Lc, Blk w x (moCells who (some ⟨q, 0, none⟩) cl r P t.2) 98 ∧ Com w x q (moAx P t.2.p t.1) (moFol t.1) Lc ∧ RwAt w r (4 * P) t.2.f ∧ x ∉ Lc ∧ r ∉ Lc ∧ x ≠ r ∧ L = x :: r :: Lc
theorem moI_good (who : Int) (cl r P : Nat) : ∀ {w w' : World} {x : Nat} {t : MoP × MoD} {L l : List Nat}, moI who cl r P w x t L → But l w w' → (∀ k ∈ L, k ∉ l) → moI who cl r P w' x t L := by
  rintro w w' x t L l ⟨q, Lc, h1, h2, h3, h4, h5, h6, rfl⟩ hb hk
  exact ⟨q, Lc, h1.but hb (hk x (by simp)), h2.but hb (fun k hm => hk k (by simp [hm])), h3.but hb (hk r (by simp)), h4, h5, h6, rfl⟩
theorem moI_lt {who : Int} {cl r P : Nat} {w : World} {x : Nat} {t : MoP × MoD} {L : List Nat} (h : moI who cl r P w x t L) : ∀ k ∈ L, k < w.heap.size := by
  obtain ⟨q, Lc, h1, h2, h3, h4, h5, h6, rfl⟩ := h
  intro k hk
  simp only [List.mem_cons] at hk
  rcases hk with rfl | rfl | hk
  · exact h1.lt
  · exact h3.lt
  · exact h2.lt k hk
theorem MoLand.mach {who : Int} {cl r P : Nat} {W w' : World} {x : Nat} {s : MoP × MoD} (h : MoLand who cl r P W w' x s) (hx : x < W.heap.size) (hr : r < W.heap.size) (hxr : x ≠ r) : (∃ L', moI who cl r P w' x s L' ∧ ∀ k ∈ L', k = x ∨ k = r ∨ W.heap.size ≤ k) ∧ But [x, r] W w' ∧ ∃ q, w'.cell? ⟨x, 1, none⟩ = some (.pointer (some ⟨q, 0, none⟩)) := by
  obtain ⟨V, hb, hv, q, Lc, h1, h2, h3, h4⟩ := h
  have hsz := hb.size
  have hlt := hv.lt
  refine ⟨⟨x :: r :: Lc, ⟨q, Lc, h1, h2, hv.but h3 (by simpa using hxr.symm), fun hm => ?_, fun hm => ?_, hxr, rfl⟩, fun k hk => ?_⟩, hb.trans (h3.more (by intro k _ hk; simp at hk ⊢; exact .inl hk)), q, h1.cell 1 rfl⟩
  · have := h4 x hm; omega
  · have := h4 r hm; omega
  · simp only [List.mem_cons] at hk
    rcases hk with rfl | rfl | hk
    · exact .inl rfl
    · exact .inr (.inl rfl)
    · exact .inr (.inr (Nat.le_trans hsz (h4 k hk)))
theorem mo_axok (P p : Nat) : ∀ ph, (moAx P p ph).Ok ∧ (moAx P p ph).sl = false ∧ (moFol ph).Ents
  | .nw => ⟨axLd_ok _, rfl, (fun args w => by kernel_rfl : Ent _)⟩
  | .st => ⟨axLd_ok _, rfl, (fun args w => by kernel_rfl : Ent _)⟩
  | .tu => ⟨axLd_ok _, rfl, (fun args w => by kernel_rfl : Ent _)⟩
  | .pr => ⟨axSt_ok _ _ (by omega), rfl, (fun args w => by kernel_rfl : Ent _)⟩
  | .ca => ⟨axLd_ok _, rfl, (fun args w => by kernel_rfl : Ent _)⟩
  | .sp => ⟨axLd_ok _, rfl, (fun args w => by kernel_rfl : Ent _)⟩
  | .ip => ⟨axLd_ok _, rfl, (fun args w => by kernel_rfl : Ent _)⟩
  | .im => ⟨axLd_ok _, rfl, (fun args w => by kernel_rfl : Ent _)⟩
  | .th => ⟨axLd_ok _, rfl, (fun args w => by kernel_rfl : Ent _)⟩
  | .ip2 => ⟨axLd_ok _, rfl, (fun args w => by kernel_rfl : Ent _)⟩
  | .sw => ⟨axSw_ok _ _ _ (by omega), rfl, (fun args w => by kernel_rfl : Ent _)⟩
  | .ad => ⟨axAd_ok _ _ (by omega), rfl, (fun args w => by kernel_rfl : Ent _)⟩
/-- A step of its own, whatever follows. -/
theorem mo_step_any {who T G : Int} {cl r P : Nat} {w : World} {A : Option Addr} {cp cm b n : Nat} {s : St} {x : Nat} {t t' : MoP × MoD} {L : List Nat} (hi : moI who cl r P w x t L) (hR : Lay w cl P T G) (hI : Is w 114 A cp cm b n s) (hn : n ≤ 1000000) (hl : Low s 1000000) (hf : ∀ k ∈ L, k ≠ cm ∧ k ≠ b ∧ k ≠ cl) (hcb : cm ≠ cl ∧ b ≠ cl)
    (hfol : ∀ W, Blk W x (moCells who none cl r P t.2) 98 → RwAt W r (4 * P) t.2.f → Lay W cl P T G → FolC W x (moFol t.1) (actA (moAx P t.2.p t.1).k (moAx P t.2.p t.1).i (moAx P t.2.p t.1).old (moAx P t.2.p t.1).new n s) (fun w' => MoLand who cl r P W w' x t')) :
    Calls Tryz.prog 20 #[.pointer (some ⟨x, 0, none⟩), .pointer (some ⟨cm, 0, none⟩)] w fun e w' => e = .returned (.bool false) ∧ ∃ L', moI who cl r P w' x t' L' ∧ Is w' 114 A cp cm b n (actS (moAx P t.2.p t.1).k who (moAx P t.2.p t.1).i (moAx P t.2.p t.1).old (moAx P t.2.p t.1).new n s) ∧ But (cm :: b :: L) w w' ∧ ∀ k ∈ L', k ∈ L ∨ w.heap.size ≤ k := by
  obtain ⟨q, Lc, h1, h2, h3, h4, h5, h6, rfl⟩ := hi
  obtain ⟨ok1, ok2, ok3⟩ := mo_axok P t.2.p t.1
  generalize moAx P t.2.p t.1 = a at *
  have hx := hf x (by simp)
  have hr := hf r (by simp)
  refine stepby_mon.to (R := fun nx w' => nx.isNone = false ∧ ∃ L', moI who cl r P w' x t' L' ∧ Is w' 114 A cp cm b n (actS a.k who a.i a.old a.new n s) ∧ But (cm :: b :: x :: r :: Lc) w w' ∧ ∀ k ∈ L', k ∈ x :: r :: Lc ∨ w.heap.size ≤ k) ?_ (fun nx w' h => h)
  refine acc_step w A cp cm b n s hI hn hl x q _ 98 who a (moFol t.1) Lc h1 rfl rfl h2 ok1 ok3 ⟨hx.1, hx.2.1⟩ h4 (fun k hk => ⟨(hf k (by simp [hk])).1, (hf k (by simp [hk])).2.1⟩) _ ?_
  intro W hW hIW hB
  have hW' : Blk W x (moCells who none cl r P t.2) 98 := hW
  have hrW : RwAt W r (4 * P) t.2.f := h3.but hB (by simp; exact ⟨hr.1, hr.2.1, h6.symm⟩)
  have hlW : Lay W cl P T G := (hB.block cl hR.lt (by simp; exact ⟨hcb.1.symm, hcb.2.symm, hx.2.2.symm⟩)).trans hR
  refine (hfol W hW' hrW hlW).mono ?_
  intro w' hl'
  obtain ⟨⟨L', g1, g2⟩, g3, q', g4⟩ := hl'.mach hW'.lt hrW.lt h6
  refine ⟨_, g4, rfl, L', g1, hIW.but g3 (by simp; exact ⟨hx.1.symm, hr.1.symm⟩) (by simp; exact ⟨hx.2.1.symm, hr.2.1.symm⟩), ?_, fun k hk => ?_⟩
  · exact (hB.more (by intro k _ hk; simp at hk ⊢; omega)).trans (g3.more (by intro k _ hk; simp at hk ⊢; omega))
  · rcases g2 k hk with rfl | rfl | g2
    · exact .inl (by simp)
    · exact .inl (by simp)
    · exact .inr (Nat.le_trans hB.size g2)
/-- A step of a machine over a memory that is known, apart. -/
theorem Solo.step_of {σ : Type} {I : MI σ} {R : Rd} {W0 w : World} {A : Option Addr} {cap c b n : Nat} {s s' : St} {x : Nat} {t t' : σ} {L : List Nat} {F : Nat} {z : Bool} (h : Solo I R W0 w A cap c b n s x t L)
    (hS : Calls Tryz.prog F #[.pointer (some ⟨x, 0, none⟩), .pointer (some ⟨c, 0, none⟩)] w fun e w' => e = .returned (.bool z) ∧ ∃ L', I w' x t' L' ∧ Is w' 114 A cap c b n s' ∧ But (c :: b :: L) w w' ∧ ∀ k ∈ L', k ∈ L ∨ w.heap.size ≤ k) :
    Calls Tryz.prog F #[.pointer (some ⟨x, 0, none⟩), .pointer (some ⟨c, 0, none⟩)] w fun e w' => e = .returned (.bool z) ∧ ∃ L', Solo I R W0 w' A cap c b n s' x t' L' := by
  refine hS.mono ?_
  rintro e w' ⟨rfl, L', a1, a2, a3, a4⟩
  have hsz := h.below.size
  have k1 := h.mem.lt
  have k2 := h.mem.bl
  refine ⟨rfl, L', a2, a1, R.keep _ _ _ h.rd a3 (fun k hk => ?_), fun k hk => ?_, h.rfar, ⟨h.up.1, h.up.2.1, fun k hk => ?_⟩, fun k hk => Nat.lt_of_lt_of_le (h.rlt k hk) a3.size, h.below.trans (a3.below ?_ hsz)⟩
  · simp only [List.mem_cons, not_or]
    exact ⟨fun e => h.rfar.1 (e ▸ hk), fun e => h.rfar.2 (e ▸ hk), fun hm => (h.far k hm).2.2 hk⟩
  · rcases a4 k hk with h1 | h1
    · exact h.far k h1
    · exact ⟨by omega, by omega, fun hr => by have := h.rlt k hr; omega⟩
  · rcases a4 k hk with h1 | h1
    · exact h.up.2.2 k h1
    · omega
  · intro k hk
    simp only [List.mem_cons] at hk
    rcases hk with rfl | rfl | hk
    · exact h.up.1
    · exact h.up.2.1
    · exact h.up.2.2 k hk
/-- Where it may be, as long as nobody is in a system call. -/
structure MoOk (P : Nat) (t : MoP × MoD) : Prop where
  ph : t.1 = .nw ∨ ((t.1 = .st ∨ t.1 = .tu ∨ t.1 = .pr) ∧ t.2.p < P)
  f : ∀ i, 0 ≤ t.2.f i ∧ t.2.f i ≤ 18446744073709551615
  nw : 0 ≤ t.2.nw ∧ t.2.nw ≤ 18446744073709551615
def moNx (P : Nat) : MoP × MoD → Int → MoP × MoD
  | (.nw, d), v => moFirst P d v
  | (.st, d), v => moJudge P d v
  | (.tu, d), v => moTurns P d v
  | (.pr, d), _ => moLate P d
  | t, _ => t
theorem mo_fol {who T G : Int} {cl r P : Nat} {W : World} {x : Nat} {t : MoP × MoD} {v : Int} (ht : MoOk P t) (hv : 0 ≤ v ∧ v ≤ 18446744073709551615) (hp : (P : Int) ≤ 64) (hcx : cl ≠ x) (hcr : cl ≠ r) (hxr : x ≠ r) (h : Blk W x (moCells who none cl r P t.2) 98) (hr : RwAt W r (4 * P) t.2.f) (hl : Lay W cl P T G) : FolC W x (moFol t.1) v (fun w' => MoLand who cl r P W w' x (moNx P t v)) := by
  obtain ⟨ph, d⟩ := t
  rcases ht.ph with h1 | ⟨h1 | h1 | h1, h2⟩
  · obtain rfl : ph = .nw := h1
    exact mo_first W x cl r P T G who d h hr hl hcx hcr hxr hp v
  · obtain rfl : ph = .st := h1
    exact mo_judge W x cl r P T G who d h hr hl hcx hcr hxr hp v (by have h2' : d.p < P := h2; omega)
  · obtain rfl : ph = .tu := h1
    exact mo_seeTurns W x cl r P T G who d h hr hl hcx hcr hxr hp v hv h2 ht.f ht.nw
  · obtain rfl : ph = .pr := h1
    exact mo_beLate W x cl r P T G who d h hr hl hcx hcr hxr hp (by have h2' : d.p < P := h2; omega)
/-- A step over a memory, apart. -/
theorem mo_solo {who T G : Int} {cl r P : Nat} {R : Rd} {W0 w : World} {A : Option Addr} {cap c b n : Nat} {s : St} {x : Nat} {t : MoP × MoD} {L : List Nat} (h : Solo (moI who cl r P) R W0 w A cap c b n s x t L) (hRl : ∀ w, R.P w → Lay w cl P T G) (hRb : cl ∈ R.B) (ht : MoOk P t) (hp : (P : Int) ≤ 64) (hn : n ≤ 1000000) (hl : Low s 1000000) :
    Calls Tryz.prog 20 #[.pointer (some ⟨x, 0, none⟩), .pointer (some ⟨c, 0, none⟩)] w fun e w' => e = .returned (.bool false) ∧ ∃ L', Solo (moI who cl r P) R W0 w' A cap c b n (actS (moAx P t.2.p t.1).k who (moAx P t.2.p t.1).i (moAx P t.2.p t.1).old (moAx P t.2.p t.1).new n s) x (moNx P t (actA (moAx P t.2.p t.1).k (moAx P t.2.p t.1).i (moAx P t.2.p t.1).old (moAx P t.2.p t.1).new n s)) L' := by
  have hk : ∀ k ∈ L, k ≠ c ∧ k ≠ b ∧ k ≠ cl := fun k hk => ⟨(h.far k hk).1, (h.far k hk).2.1, fun e => (h.far k hk).2.2 (e ▸ hRb)⟩
  have hc : c ≠ cl ∧ b ≠ cl := ⟨fun e => h.rfar.1 (e ▸ hRb), fun e => h.rfar.2 (e ▸ hRb)⟩
  have hm := h.mach
  obtain ⟨q, Lc, h1, h2, h3, h4, h5, h6, e0⟩ := hm
  have hx := hk x (by rw [e0]; simp)
  have hr := hk r (by rw [e0]; simp)
  exact h.step_of (mo_step_any h.mach (hRl _ h.rd) h.mem hn hl hk hc (fun W a1 a2 a3 => mo_fol ht (actA_bd h.mem _ _ _ _) hp hx.2.2.symm hr.2.2.symm h6 a1 a2 a3))
end Go.Proofs.YthjfbknmdligeaaGreat

namespace Go.Proofs.YthjfbknmdligeaaGreat
open Go Go.RowKit
set_option linter.unusedVariables false
set_option maxRecDepth 100000
set_option linter.unusedSimpArgs false
set_option linter.unusedSectionVars false

theorem CpR.Land.more {σ : Type} {C : CpR σ} {W w' : World} {x : Nat} {t : σ} {Le Le2 : List Nat} (h : C.Land W w' x t Le) (hs : ∀ k ∈ Le, k ∈ Le2) : C.Land W w' x t Le2 := by
  obtain ⟨h1, L', h2, h3⟩ := h
  refine ⟨h1.more (fun k _ hk => ?_), L', h2, fun k hk => ?_⟩
  · simp only [List.mem_cons] at hk ⊢
    rcases hk with h | h
    · exact .inl h
    · exact .inr (hs k h)
  · rcases h3 k hk with h | h | h
    · exact .inl h
    · exact .inr (.inl (hs k h))
    · exact .inr (.inr h)
section
variable {T G : Int} {P cl : Nat} {e : MoE} {es : List Nat} {w w' : World} {l Lh Le : List Nat} {x : Nat}
theorem kept_keep (hp : (P : Int) ≤ 64) (hT : 0 ≤ T ∧ T ≤ 65536) (h : moKept T G P cl e es w Lh) (hb : But l w w') (hk : ∀ k ∈ Lh, k ∉ l) : moKept T G P cl e es w' Lh := by
  unfold moKept at h ⊢
  cases hv : e.hv with
  | none => rw [hv] at h; exact h
  | some q =>
    obtain ⟨p, s⟩ := q
    rw [hv] at h
    exact (Cp.good (hv_laws (by omega) ⟨by omega, hp⟩ hT)).keep h hb hk
theorem kept_lt (hp : (P : Int) ≤ 64) (hT : 0 ≤ T ∧ T ≤ 65536) (h : moKept T G P cl e es w Lh) : ∀ k ∈ Lh, k < w.heap.size := by
  unfold moKept at h
  cases hv : e.hv with
  | none => rw [hv] at h; rw [show Lh = [] from h]; intro k hk; cases hk
  | some q =>
    obtain ⟨p, s⟩ := q
    rw [hv] at h
    exact (Cp.good (hv_laws (by omega) ⟨by omega, hp⟩ hT)).lt h
theorem MoExt.keep (hp : (P : Int) ≤ 64) (hT : 0 ≤ T ∧ T ≤ 65536) (h : MoExt T G P cl e es w Le) (hb : But l w w') (hk : ∀ k ∈ Le, k ∉ l) : MoExt T G P cl e es w' Le := by
  obtain ⟨⟨Lh, rfl, h1, h2⟩, h3, h4⟩ := h
  exact ⟨⟨Lh, rfl, h1, kept_keep hp hT h2 hb (fun k hm => hk k (by simp [hm]))⟩, h3.but hb (hk _ (by simp)), h4⟩
theorem MoExt.lt (hp : (P : Int) ≤ 64) (hT : 0 ≤ T ∧ T ≤ 65536) (h : MoExt T G P cl e es w Le) : ∀ k ∈ Le, k < w.heap.size := by
  obtain ⟨⟨Lh, rfl, h1, h2⟩, h3, h4⟩ := h
  intro k hk
  rcases List.mem_cons.1 hk with rfl | hk
  · exact h3.lt
  · exact kept_lt hp hT h2 k hk
theorem MoExt.mem (h : MoExt T G P cl e es w Le) : es.getD 0 0 ∈ Le := by
  obtain ⟨⟨Lh, rfl, h1, h2⟩, h3, h4⟩ := h
  simp
/-- An access of its own comes: it has landed. -/
theorem mo_go {S : MoP × MoD} (hp : (P : Int) ≤ 64) (hT : 0 ≤ T ∧ T ≤ 65536) (hL : MoLand T cl (es.getD 0 0) P w w' x (setS S (moLK e es) (moOV e.hv.isSome es))) (he : MoExt T G P cl e es w Le) (hxe : x ∉ Le) (hS : MoFine P S) (hlt : x < w.heap.size) : (moCp T G P cl).Land w w' x (moFold true S e) Le := by
  rw [moFold_true]
  obtain ⟨V, hb, hv, hC⟩ := hL
  have hlts := he.lt hp hT
  obtain ⟨⟨Lh, rfl, hrL, hK⟩, hrow, hne⟩ := he
  have hxr : x ≠ es.getD 0 0 := fun h => hxe (by simp [h])
  have hxL : x ∉ Lh := fun h => hxe (by simp [h])
  have hCb : But [x] V w' := hC.but
  have hB : But [x, es.getD 0 0] w w' := hb.trans (hCb.more (by intro k _ hk; simp at hk ⊢; exact .inl hk))
  refine CpR.lnd_acc (C := moCp T G P cl) (s := .own S.1 { e with D := S.2 }) (es := es) (Le' := es.getD 0 0 :: Lh) (hb.more (by intro k _ hk; simp only [List.mem_cons, List.not_mem_nil, or_false] at hk ⊢; rcases hk with h | h; exact .inl h; exact .inr (.inl h))) hC (fun _ => rfl) (MoFine.ok (T := T) (G := G) (cl := cl) hS e) rfl hlt ⟨⟨Lh, rfl, hrL, ?_⟩, hv.but hCb (by simpa using hxr.symm), hne⟩ hxe (fun k hk => ⟨hk, hlts k hk⟩)
  exact kept_keep (e := e) hp hT hK hB (fun k hk => by simp only [List.mem_cons, List.not_mem_nil, or_false, not_or]; exact ⟨fun h => hxL (h ▸ hk), fun h => hrL (h ▸ hk)⟩)
theorem mo_run {S : Sub} {af : After} {pt : S.τ} {s : MoT} (hp : (P : Int) ≤ 64) (hT : 0 ≤ T ∧ T ≤ 65536) (hR : RunNew S pt w w' x ((moCp T G P cl).cells s es none) 98 (af.fol.box x)) (hk : (moCp T G P cl).kind s = .run S pt af) (hok : moOk T G P cl s) (htie : ∀ y, (moCp T G P cl).tie s es y) (he : MoExt T G P cl s.e es w Le) (hxe : x ∉ Le) (hlt : x < w.heap.size) : (moCp T G P cl).Land w w' x s Le :=
  CpR.lnd_run (C := moCp T G P cl) (s := s) (es := es) (Le' := Le) (But.refl _ _) hR (fun _ => rfl) hok hk htie hlt (he.keep hp hT hR.but (fun k hk => by simp; rintro rfl; exact hxe hk)) hxe (fun k hk => ⟨hk, he.lt hp hT k hk⟩)
end
section
variable {T G : Int} {P cl : Nat}
theorem mo_on {s : MoT} {v : Int} {S : Sub} {q : S.τ} {af : After} (hp : (P : Int) ≤ 64) (hT : 0 ≤ T ∧ T ≤ 65536) (hv : 0 ≤ v ∧ v ≤ 18446744073709551615) (hok : moOk T G P cl s) (hk : (moCp T G P cl).kind s = .run S q af) (hs : (S.M.ax (S.M.nx q v)).isSome = true) :
    (moCp T G P cl).ok ((moPM true P T).nx s v) ∧ (moCp T G P cl).kind ((moPM true P T).nx s v) = .run S (S.M.nx q v) af ∧ (∀ es, (moCp T G P cl).cells ((moPM true P T).nx s v) es = (moCp T G P cl).cells s es) ∧ (∀ es w Le, (moCp T G P cl).ext s es w Le → (moCp T G P cl).ext ((moPM true P T).nx s v) es w Le) ∧ (∀ es y, (moCp T G P cl).tie s es y → (moCp T G P cl).tie ((moPM true P T).nx s v) es y) := by
  cases s with
  | own ph e => cases hk
  | en e => cases hk
  | lk l e =>
    cases hk
    have e0 : (moPM true P T).nx (.lk l e) v = .lk ((loPM P e.D.p).nx l v) e := if_pos hs
    rw [e0]
    exact ⟨⟨hok.1, hok.2.1, hs, hok.2.2.2⟩, rfl, fun _ => rfl, fun _ _ _ h => h, fun _ _ h => h⟩
  | acq a e =>
    cases hk
    have e0 : (moPM true P T).nx (.acq a e) v = .acq ((acqPM (wd 0 2 3 0 0) (wd 0 2 3 0 1) (wd 0 2 3 0 2) T).nx a v) e := if_pos hs
    rw [e0]
    exact ⟨⟨hok.1, hok.2.1, hs⟩, rfl, fun _ => rfl, fun _ _ _ h => h, fun _ _ h => h⟩
  | relN r e =>
    cases hk
    have e0 : (moPM true P T).nx (.relN r e) v = .relN ((relPM (wd 0 2 3 0 1) (wd 0 2 3 0 2)).nx r v) e := if_pos hs
    rw [e0]
    exact ⟨⟨hok.1, hok.2.1, hs⟩, rfl, fun _ => rfl, fun _ _ _ h => h, fun _ _ h => h⟩
  | relT r e =>
    cases hk
    have e0 : (moPM true P T).nx (.relT r e) v = .relT ((relPM (wd 0 2 3 0 1) (wd 0 2 3 0 2)).nx r v) e := if_pos hs
    rw [e0]
    exact ⟨⟨hok.1, hok.2.1, hs⟩, rfl, fun _ => rfl, fun _ _ _ h => h, fun _ _ h => h⟩
  | ov h e =>
    cases hk
    have e0 : (moPM true P T).nx (.ov h e) v = .ov ((hvPM P T T e.D.p).nx h v) e := if_pos hs
    rw [e0]
    obtain ⟨a, ha⟩ := Option.isSome_iff_exists.1 hok.2.2.2.1
    exact ⟨⟨hok.1, hok.2.1, hok.2.2.1, hs, hv_ok_next ⟨by omega, hp⟩ hT hv hok.2.2.2.2 ha⟩, rfl, fun _ => rfl, fun _ _ _ h => h, fun _ _ h => h⟩
theorem MoOkE.fine {P : Nat} {e : MoE} (h : MoOkE P e) {ph : MoP} (h1 : ph = .nw ∨ e.D.p < P) (h2 : ph ≠ .ad) : MoFine P (ph, e.D) := ⟨h1, h2, h.f, h.nw, h.im, h.th⟩
set_option maxHeartbeats 16000000 in
theorem mo_fol_own (hp : (P : Int) ≤ 64) (hT : 0 ≤ T ∧ T ≤ 65536) (W : World) (x : Nat) (ph : MoP) (e : MoE) (v : Int) (es Le : List Nat) (hok : moOk T G P cl (.own ph e)) (hv : 0 ≤ v ∧ v ≤ 18446744073709551615) (hB : Blk W x ((moCp T G P cl).cells (.own ph e) es none) 98) (he : MoExt T G P cl e es W Le) (hxe : x ∉ Le) (hR : Lay W cl P T G) (hxR : x ≠ cl) :
    FolC W x (moFol ph) v (fun w' => (moCp T G P cl).Land W w' x ((moPM true P T).nx (.own ph e) v) Le) := by
  have hlt := hB.lt
  have hcx : cl ≠ x := fun h => hxR h.symm
  have hcr := he.ne
  have hxr : x ≠ es.getD 0 0 := fun h => hxe (by rw [h]; exact he.mem)
  have hr := he.row
  have hw : 0 ≤ T ∧ T ≤ 1000000 := by omega
  obtain ⟨hE, hph, had⟩ := hok
  have h : Blk W x (moCells T none cl (es.getD 0 0) P (setLO e.D (moLK e es) (moOV e.hv.isSome es))) 98 := hB
  cases ph with
  | nw =>
    refine (mo_first W x cl _ P T G T _ h hr hR hcx hcr hxr hp v).mono ?_
    rintro e1 w' ⟨hu, hL⟩
    rw [lo_first] at hL
    exact ⟨hu, mo_go hp hT hL he hxe (fine_visit (d := { e.D with nw := v, un := true }) ⟨hE.f, hv, hE.im, hE.th⟩ 0) hlt⟩
  | st =>
    have hpp : e.D.p < P := hph.resolve_left (by intro h; cases h)
    refine (mo_judge W x cl _ P T G T _ h hr hR hcx hcr hxr hp v (by show e.D.p < 64; omega)).mono ?_
    rintro e1 w' ⟨hu, hL⟩
    rw [lo_judge] at hL
    exact ⟨hu, mo_go hp hT hL he hxe (fine_judge hE.d hpp) hlt⟩
  | tu =>
    have hpp : e.D.p < P := hph.resolve_left (by intro h; cases h)
    refine (mo_seeTurns W x cl _ P T G T _ h hr hR hcx hcr hxr hp v hv hpp hE.f hE.nw).mono ?_
    rintro e1 w' ⟨hu, hL⟩
    rw [lo_turns] at hL
    exact ⟨hu, mo_go hp hT hL he hxe (fine_turns hE.d hpp hv) hlt⟩
  | pr =>
    have hpp : e.D.p < P := hph.resolve_left (by intro h; cases h)
    refine (mo_beLate W x cl _ P T G T _ h hr hR hcx hcr hxr hp (by show e.D.p < 64; omega)).mono ?_
    rintro e1 w' ⟨hu, hL⟩
    rw [lo_late] at hL
    exact ⟨hu, mo_go hp hT hL he hxe (fine_seeStatus (d := { e.D with lt := true }) ⟨hE.f, hE.nw, hE.im, hE.th⟩ hpp) hlt⟩
  | ca =>
    have hpp : e.D.p < P := hph.resolve_left (by intro h; cases h)
    by_cases hc : e.D.lt = false ∧ v ≠ e.D.f (e.D.p * 4 + 2)
    · have e0 : (moPM true P T).nx (.own .ca e) v = moFold true (moVisit P (moCallsRow e.D v) (e.D.p + 1)) e := if_pos hc
      rw [e0]
      refine (mo_seeCalls_next W x cl _ P T G T _ h hr hR hcx hcr hxr hp v hpp hc.1 hc.2).mono ?_
      rintro e1 w' ⟨hu, hL⟩
      have hL' : MoLand T cl (es.getD 0 0) P W w' x (setS (moVisit P (moCallsRow e.D v) (e.D.p + 1)) (moLK e es) (moOV e.hv.isSome es)) := by rw [← lo_visit]; exact hL
      exact ⟨hu, mo_go hp hT hL' he hxe (fine_visit (fine_row hE.d hv) _) hlt⟩
    · have e0 : (moPM true P T).nx (.own .ca e) v = .lk .hd { e with hl := true } := if_neg hc
      rw [e0]
      refine (mo_seeCalls_look W x cl _ P T G T _ h hr hR hcx hcr hxr hp v hpp (by
        show e.D.lt = true ∨ (e.D.lt = false ∧ v = e.D.f (e.D.p * 4 + 2))
        cases hz : e.D.lt
        · refine .inr ⟨rfl, Decidable.byContradiction fun hn => hc ⟨hz, hn⟩⟩
        · exact .inl rfl)).mono ?_
      rintro e1 w' ⟨hu, y1, q1, b, L, hC, hI, hL, hq, hg⟩
      have he' := he.keep hp hT hC.at'.but (fun k hk => by simp; rintro rfl; exact hxe hk)
      exact ⟨hu, CpR.lnd_run0 (C := moCp T G P cl) (S := hvLk T P T G e.D.p cl) (af := .fn 121) (pt := LoT.hd) (s := .lk .hd { e with hl := true }) (es := [es.getD 0 0, y1, es.getD 2 0]) (Le' := Le) (But.refl _ _) hC (fun _ => rfl) hI hL hq hg ⟨⟨hE.f, hE.nw, hE.im, hE.th⟩, hpp, rfl, rfl⟩ rfl rfl hlt ⟨he'.ex, he'.row, he'.ne⟩ hxe (fun k hk => ⟨hk, he.lt hp hT k hk⟩)⟩
  | sp =>
    have hpp : e.D.p < P := hph.resolve_left (by intro h; cases h)
    refine (mo_seeSpinning W x cl _ P T _ h v).mono ?_
    rintro e1 w' ⟨hu, V, hb, hC⟩
    exact ⟨hu, mo_go (S := (.ip, { e.D with sp := v })) hp hT ⟨V, hb.more (by intro k _ hk; simp at hk ⊢; exact .inl hk), hr.but hb (by simpa using hxr.symm), hC⟩ he hxe ⟨.inr hpp, (by intro h; cases h), hE.f, hE.nw, hE.im, hE.th⟩ hlt⟩
  | ip =>
    have hpp : e.D.p < P := hph.resolve_left (by intro h; cases h)
    by_cases hc : (e.D.sp ≠ 0 ∨ v ≠ 0) ∧ (e.D.nw - e.D.f (e.D.p * 4 + 3)) % 4294967296 < 10
    · have e0 : (moPM true P T).nx (.own .ip e) v = moFold true (moVisit P e.D (e.D.p + 1)) e := if_pos (decide_eq_true hc)
      rw [e0]
      have key : ∀ w', MoLand T cl (es.getD 0 0) P W w' x (moVisit P (setLO e.D (moLK e es) (moOV e.hv.isSome es)) (e.D.p + 1)) → (moCp T G P cl).Land W w' x (moFold true (moVisit P e.D (e.D.p + 1)) e) Le := fun w' hL => by
        rw [lo_visit] at hL
        exact mo_go hp hT hL he hxe (fine_visit hE.d _) hlt
      by_cases hs : e.D.sp = 0
      · refine (mo_weigh_nextV W x cl _ P T G T _ h hr hR hcx hcr hxr hp v hpp hE.f hE.nw hw hs (hc.1.resolve_left (fun h => h hs)) hc.2).mono ?_
        rintro e1 w' ⟨hu, hL⟩
        exact ⟨hu, key w' hL⟩
      · refine (mo_weigh_nextS W x cl _ P T G T _ h hr hR hcx hcr hxr hp v hpp hE.f hE.nw hw hs hc.2).mono ?_
        rintro e1 w' ⟨hu, hL⟩
        exact ⟨hu, key w' hL⟩
    · have e0 : (moPM true P T).nx (.own .ip e) v = .acq .fresh e := if_neg (by unfold moWaits; rw [decide_eq_false hc]; decide)
      rw [e0]
      have key : ∀ w', RunNew (acqSub (wd 0 2 3 0 0) (wd 0 2 3 0 1) (wd 0 2 3 0 2) T) AcqT.fresh W w' x (moCells T none cl (es.getD 0 0) P (setLO e.D (moLK e es) (moOV e.hv.isSome es))) 98 (.func (.func 130) #[.pointer (some ⟨x, 0, none⟩)] #[]) → (moCp T G P cl).Land W w' x (.acq .fresh e) Le := fun w' hC => mo_run (S := (acqSub (wd 0 2 3 0 0) (wd 0 2 3 0 1) (wd 0 2 3 0 2) T)) (af := .fn 130) (pt := AcqT.fresh) (s := .acq .fresh e) hp hT hC rfl ⟨hE, hpp, rfl⟩ (fun _ => trivial) he hxe hlt
      by_cases hs : e.D.sp = 0
      · by_cases hv0 : v = 0
        · refine (mo_weigh_acqZ W x cl _ P T G T _ h hr hR hcx hcr hxr hp v hpp hE.f hE.nw hw hs hv0).mono ?_
          rintro e1 w' ⟨hu, hC⟩
          exact ⟨hu, key w' hC⟩
        · refine (mo_weigh_acqV W x cl _ P T G T _ h hr hR hcx hcr hxr hp v hpp hE.f hE.nw hw hs hv0 (fun hm => hc ⟨.inr hv0, hm⟩)).mono ?_
          rintro e1 w' ⟨hu, hC⟩
          exact ⟨hu, key w' hC⟩
      · refine (mo_weigh_acqS W x cl _ P T G T _ h hr hR hcx hcr hxr hp v hpp hE.f hE.nw hw hs (fun hm => hc ⟨.inl hs, hm⟩)).mono ?_
        rintro e1 w' ⟨hu, hC⟩
        exact ⟨hu, key w' hC⟩
  | im =>
    have hpp : e.D.p < P := hph.resolve_left (by intro h; cases h)
    refine (mo_seeIdleMs W x cl _ P T _ h v).mono ?_
    rintro e1 w' ⟨hu, V, hb, hC⟩
    exact ⟨hu, mo_go (S := (.th, { e.D with im := v })) hp hT ⟨V, hb.more (by intro k _ hk; simp at hk ⊢; exact .inl hk), hr.but hb (by simpa using hxr.symm), hC⟩ he hxe ⟨.inr hpp, (by intro h; cases h), hE.f, hE.nw, hv, hE.th⟩ hlt⟩
  | th =>
    have hpp : e.D.p < P := hph.resolve_left (by intro h; cases h)
    refine (mo_seeThreads W x cl _ P T _ h v).mono ?_
    rintro e1 w' ⟨hu, V, hb, hC⟩
    exact ⟨hu, mo_go (S := (.ip2, { e.D with th := v })) hp hT ⟨V, hb.more (by intro k _ hk; simp at hk ⊢; exact .inl hk), hr.but hb (by simpa using hxr.symm), hC⟩ he hxe ⟨.inr hpp, (by intro h; cases h), hE.f, hE.nw, hE.im, hv⟩ hlt⟩
  | ip2 =>
    have hpp : e.D.p < P := hph.resolve_left (by intro h; cases h)
    by_cases hz : moSpares T e.D.im e.D.th v = true
    · have e0 : (moPM true P T).nx (.own .ip2 e) v = .relT .fresh e := if_pos hz
      rw [e0]
      refine (mo_seeIdlePs_true W x cl _ P T G T _ h hr hR hcx hcr hxr hp v hT hE.im hE.th hv hz).mono ?_
      rintro e1 w' ⟨hu, hC⟩
      exact ⟨hu, mo_run (S := (relSub (wd 0 2 3 0 1) (wd 0 2 3 0 2) T)) (af := .fn 146) (pt := RelT.fresh) (s := .relT .fresh e) hp hT hC rfl ⟨hE, hpp, rfl⟩ (fun _ => trivial) he hxe hlt⟩
    · have e0 : (moPM true P T).nx (.own .ip2 e) v = .relN .fresh e := if_neg hz
      rw [e0]
      refine (mo_seeIdlePs_false W x cl _ P T G T _ h hr hR hcx hcr hxr hp v hT hE.im hE.th hv (Bool.not_eq_true _ |>.mp hz)).mono ?_
      rintro e1 w' ⟨hu, hC⟩
      exact ⟨hu, mo_run (S := (relSub (wd 0 2 3 0 1) (wd 0 2 3 0 2) T)) (af := .fn 100) (pt := RelT.fresh) (s := .relN .fresh e) hp hT hC rfl ⟨hE, hpp, rfl⟩ (fun _ => trivial) he hxe hlt⟩
  | sw =>
    have hpp : e.D.p < P := hph.resolve_left (by intro h; cases h)
    by_cases h0 : v = 0
    · have e0 : (moPM true P T).nx (.own .sw e) v = moFold true (moVisit P e.D (e.D.p + 1)) e := if_pos h0
      rw [e0]
      refine folC_sw false (decide_eq_false (fun h => h h0)) ((mo_have_no W x cl _ P T G T _ h hr hR hcx hcr hxr hp (by show e.D.p < 64; omega)).mono ?_)
      rintro e1 w' ⟨hu, hL⟩
      rw [lo_visit] at hL
      exact ⟨hu, mo_go hp hT hL he hxe (fine_visit hE.d _) hlt⟩
    · have e0 : (moPM true P T).nx (.own .sw e) v = .own .ad { e with hv := some ((e.D.p : Int), .lk .hd) } := if_neg h0
      rw [e0]
      refine folC_sw true (decide_eq_true h0) ((mo_have_yes W x cl _ P T G T _ h hr hR hcx hcr hxr hp hw hT).mono ?_)
      rintro e1 w' ⟨hu, y, L, V, hb, hI, hLf, hC⟩
      refine ⟨hu, ?_⟩
      have hCb : But [x] V w' := hC.but
      have hG := Cp.good (hv_laws (who := T) (P := P) (T := T) (G := G) (p := e.D.p) (cl := cl) hw ⟨by omega, hp⟩ hT)
      have hIlt := hG.lt hI
      have hszV := hb.size
      have hrlt := hr.lt
      have hrV : RwAt V (es.getD 0 0) (4 * P) e.D.f := hr.but hb (by simpa using hxr.symm)
      obtain ⟨q, Lc, c1, c2, c3, c4⟩ := hC
      have hrL : es.getD 0 0 ∉ L := fun hm => by have := hLf _ hm; omega
      have hxL : x ∉ L := fun hm => by have := hLf _ hm; omega
      refine ⟨(hb.trans hCb).more (by intro k _ hk; simp only [List.mem_cons, List.not_mem_nil, or_false] at hk ⊢; exact .inl hk), x :: (Lc ++ (es.getD 0 0 :: L)), ⟨⟨⟨hE.f, hE.nw, hE.im, hE.th⟩, .inr hpp, fun _ => rfl⟩, [es.getD 0 0, es.getD 1 0, y], es.getD 0 0 :: L, ⟨⟨L, rfl, hrL, hG.keep hI hCb (fun k hk => by simp; rintro rfl; exact hxL hk)⟩, hrV.but hCb (by simpa using hxr.symm), hcr⟩, ?_, ?_⟩, fun k hm => ?_⟩
      · simp only [List.mem_cons, not_or]
        exact ⟨hxr, hxL⟩
      · refine ⟨q, Lc, c1, c2, fun hm => absurd (c4 x hm) (by omega), fun k hm hk => ?_, rfl⟩
        have h4 := c4 k hm
        rcases List.mem_cons.1 hk with rfl | hk
        · omega
        · have := hIlt k hk; omega
      · simp only [List.mem_cons, List.mem_append] at hm
        rcases hm with rfl | hm | rfl | hm
        · exact .inl rfl
        · exact .inr (.inr (Nat.le_trans hszV (c4 k hm)))
        · exact .inr (.inl he.mem)
        · exact .inr (.inr (hLf k hm))
  | ad =>
    have hpp : e.D.p < P := hph.resolve_left (by intro h; cases h)
    have hhv := had rfl
    have e0 : (moPM true P T).nx (.own .ad e) v = .ov (.lk .hd) { e with hv := none } := rfl
    rw [e0]
    have hlts := he.lt hp hT
    obtain ⟨⟨Lh, rfl, hrL, hK⟩, hrow, hne⟩ := he
    unfold moKept at hK
    rw [hhv] at hK
    have hK' : (hvCp T P T G e.D.p cl).I W (es.getD 2 0) (.lk .hd) Lh := hK
    have hG := Cp.good (hv_laws (who := T) (P := P) (T := T) (G := G) (p := e.D.p) (cl := cl) hw ⟨by omega, hp⟩ hT)
    have hxL : x ∉ Lh := fun hm => hxe (by simp [hm])
    have hyL := hG.mem hK'
    have hyx : es.getD 2 0 ≠ x := fun h => hxL (h ▸ hyL)
    obtain ⟨a, ha⟩ : ∃ a, W.cell? ⟨es.getD 2 0, 1, none⟩ = some (.pointer (some a)) := by
      obtain ⟨nx, q1, q2⟩ := hG.next hK'
      cases nx with
      | none => cases q2
      | some a => exact ⟨a, q1⟩
    refine (mo_handOver W x cl _ P T _ h v (es.getD 2 0) a (by show moOV e.hv.isSome es = _; rw [hhv]; rfl) hyx ha).mono ?_
    rintro e1 w' ⟨hu, q, b, hC⟩
    refine ⟨hu, ?_⟩
    have hCb := hC.at'.but
    have f1 : W.heap.size ≤ q := hC.at'.fresh
    have f2 : W.heap.size ≤ b := hC.fresh
    have hLlt : ∀ k ∈ Lh, k < W.heap.size := fun k hk => hlts k (by simp [hk])
    have hrlt := hrow.lt
    refine ⟨hCb.more (by intro k _ hk; simp only [List.mem_cons, List.not_mem_nil, or_false] at hk ⊢; exact .inl hk), x :: q :: b :: (Lh ++ [es.getD 0 0]), ⟨⟨⟨hE.f, hE.nw, hE.im, hE.th⟩, hpp, rfl, rfl, rfl⟩, es, [es.getD 0 0], ⟨⟨[], rfl, (by simp), rfl⟩, hrow.but hCb (by simpa using hxr.symm), hne⟩, (by simpa using hxr), ?_⟩, fun k hm => ?_⟩
    · have hcs : (moCells T none cl (es.getD 0 0) P (setLO e.D (moLK e es) (moOV e.hv.isSome es))) = (moCells T none cl (es.getD 0 0) P (setLO e.D (moLK e es) (moOV true es))) := by rw [hhv]; rfl
      rw [hcs] at hC
      refine ⟨q, es.getD 2 0, b, Lh, RunAt.of hC (fun _ => rfl), hG.keep hK' hCb (fun k hk => by simp; rintro rfl; exact hxL hk), rfl, ?_, fun hm => ?_, fun hm => ?_, fun k hm hk => ?_, rfl⟩
      · simp only [List.mem_cons, not_or]
        exact ⟨by omega, by omega, hxL⟩
      · have := hLlt q hm; omega
      · have := hLlt b hm; omega
      · have hk' := List.mem_singleton.1 hk
        subst hk'
        simp only [List.mem_cons] at hm
        rcases hm with hm | hm | hm
        · omega
        · omega
        · exact hrL hm
    · simp only [List.mem_cons, List.mem_append, List.not_mem_nil, or_false] at hm
      rcases hm with rfl | rfl | rfl | hm | rfl
      · exact .inl rfl
      · exact .inr (.inr f1)
      · exact .inr (.inr f2)
      · exact .inr (.inl (by simp [hm]))
      · exact .inr (.inl (by simp))
set_option maxHeartbeats 16000000 in
theorem mo_aft (hp : (P : Int) ≤ 64) (hT : 0 ≤ T ∧ T ≤ 65536) (W : World) (x y : Nat) (s : MoT) (S : Sub) (q : S.τ) (af : After) (v : Int) (es Le Li : List Nat) (hok : moOk T G P cl s) (hk : (moCp T G P cl).kind s = .run S q af) (hv : 0 ≤ v ∧ v ≤ 18446744073709551615) (hn' : S.M.ax (S.M.nx q v) = none) (hB : Blk W x ((moCp T G P cl).cells s es none) 98) (hin : S.I W y (S.M.nx q v) Li) (hty : (moCp T G P cl).tie s es y) (he : MoExt T G P cl s.e es W Le) (hxe : x ∉ Le) (hxi : x ∉ Li) (hdl : ∀ k ∈ Li, k ∉ Le) (hR : Lay W cl P T G) (hxR : x ≠ cl) :
    FolC W x af.fol 0 (fun w' => (moCp T G P cl).Land W w' x ((moPM true P T).nx s v) (Li ++ Le)) := by
  have hlt := hB.lt
  have hcx : cl ≠ x := fun h => hxR h.symm
  have hcr := he.ne
  have hxr : x ≠ es.getD 0 0 := fun h => hxe (by rw [h]; exact he.mem)
  have hr := he.row
  have hw : 0 ≤ T ∧ T ≤ 1000000 := by omega
  have hin2 : ∀ k ∈ Le, k ∈ Li ++ Le := fun k hk => List.mem_append_right _ hk
  cases s with
  | own ph e => cases hk
  | en e => cases hk
  | lk l e =>
    cases hk
    obtain ⟨hE, hpp, hls, hhl⟩ := hok
    obtain rfl : es.getD 1 0 = y := hty
    have h : Blk W x (moCells T none cl (es.getD 0 0) P (setLO e.D (moLK e es) (moOV e.hv.isSome es))) 98 := hB
    have hin' : (loFl T e.D.p cl).I (loPM P e.D.p) W (es.getD 1 0) ((loPM P e.D.p).nx l v) Li := hin
    have hEm := lo_tells hin'
    have hlk : (setLO e.D (moLK e es) (moOV e.hv.isSome es)).lk = some ⟨es.getD 1 0, 0, none⟩ := by
      show moLK e es = _
      unfold moLK
      rw [if_pos hhl]
    by_cases h0 : ((loPM P e.D.p).nx l v).e = true
    · have e0 : (moPM true P T).nx (.lk l e) v = .own .sp e := (nx_off hn').trans (if_pos h0)
      rw [h0] at hEm
      rw [e0]
      refine (mo_seeRing_yes W x cl _ P T _ h _ hlk hEm).mono ?_
      rintro e1 w' ⟨hu, hC⟩
      exact ⟨hu, (mo_go (S := (.sp, e.D)) hp hT (MoLand.of (s := (.sp, setLO e.D (moLK e es) (moOV e.hv.isSome es))) hr hC) he hxe (hE.fine (.inr hpp) (by intro h; cases h)) hlt).more hin2⟩
    · have e0 : (moPM true P T).nx (.lk l e) v = .acq .fresh e := (nx_off hn').trans (if_neg h0)
      rw [Bool.not_eq_true _ |>.mp h0] at hEm
      rw [e0]
      refine (mo_seeRing_no W x cl _ P T _ h hw _ hlk hEm).mono ?_
      rintro e1 w' ⟨hu, hC⟩
      exact ⟨hu, (mo_run (S := (acqSub (wd 0 2 3 0 0) (wd 0 2 3 0 1) (wd 0 2 3 0 2) T)) (af := .fn 130) (pt := AcqT.fresh) (s := .acq .fresh e) hp hT hC rfl ⟨hE, hpp, rfl⟩ (fun _ => trivial) he hxe hlt).more hin2⟩
  | acq a e =>
    cases hk
    obtain ⟨hE, hpp, hls⟩ := hok
    have h : Blk W x (moCells T none cl (es.getD 0 0) P (setLO e.D (moLK e es) (moOV e.hv.isSome es))) 98 := hB
    have e0 : (moPM true P T).nx (.acq a e) v = .own .im e := nx_off hn'
    rw [e0]
    refine (mo_loadIdleMs W x cl _ P T _ h).mono ?_
    rintro e1 w' ⟨hu, hC⟩
    exact ⟨hu, (mo_go (S := (.im, e.D)) hp hT (MoLand.of (s := (.im, setLO e.D (moLK e es) (moOV e.hv.isSome es))) hr hC) he hxe (hE.fine (.inr hpp) (by intro h; cases h)) hlt).more hin2⟩
  | relN r e =>
    cases hk
    obtain ⟨hE, hpp, hls⟩ := hok
    have h : Blk W x (moCells T none cl (es.getD 0 0) P (setLO e.D (moLK e es) (moOV e.hv.isSome es))) 98 := hB
    have e0 : (moPM true P T).nx (.relN r e) v = moFold true (moVisit P e.D (e.D.p + 1)) e := nx_off hn'
    rw [e0]
    refine (mo_next W x cl _ P T G T _ h hr hR hcx hcr hxr hp (by show e.D.p < 64; omega)).mono ?_
    rintro e1 w' ⟨hu, hL⟩
    rw [lo_visit] at hL
    exact ⟨hu, (mo_go hp hT hL he hxe (fine_visit hE.d _) hlt).more hin2⟩
  | relT r e =>
    cases hk
    obtain ⟨hE, hpp, hls⟩ := hok
    have h : Blk W x (moCells T none cl (es.getD 0 0) P (setLO e.D (moLK e es) (moOV e.hv.isSome es))) 98 := hB
    have e0 : (moPM true P T).nx (.relT r e) v = .own .sw e := nx_off hn'
    rw [e0]
    refine (mo_take W x cl _ P T G T _ h hR hp).mono ?_
    rintro e1 w' ⟨hu, hC⟩
    exact ⟨hu, (mo_go (S := (.sw, e.D)) hp hT (MoLand.of (s := (.sw, setLO e.D (moLK e es) (moOV e.hv.isSome es))) hr hC) he hxe (hE.fine (.inr hpp) (by intro h; cases h)) hlt).more hin2⟩
  | ov hh e =>
    cases hk
    obtain ⟨hE, hpp, hnone, hls, hokh⟩ := hok
    obtain rfl : es.getD 2 0 = y := hty
    have h : Blk W x (moCells T none cl (es.getD 0 0) P (setLO e.D (moLK e es) (moOV true es))) 98 := hB
    have hin' : (hvCp T P T G e.D.p cl).I W (es.getD 2 0) ((hvPM P T T e.D.p).nx hh v) Li := hin
    have e0 : (moPM true P T).nx (.ov hh e) v = moFold true (moVisit P e.D (e.D.p + 1)) { e with hv := some ((e.D.p : Int), (hvPM P T T e.D.p).nx hh v) } := nx_off hn'
    rw [e0]
    have he2 : MoExt T G P cl { e with hv := some ((e.D.p : Int), (hvPM P T T e.D.p).nx hh v) } es W (es.getD 0 0 :: Li) := ⟨⟨Li, rfl, fun hm => hdl _ hm he.mem, hin'⟩, hr, hcr⟩
    refine (mo_next W x cl _ P T G T _ h hr hR hcx hcr hxr hp (by show e.D.p < 64; omega)).mono ?_
    rintro e1 w' ⟨hu, hL⟩
    rw [lo_visit] at hL
    refine ⟨hu, (mo_go (e := { e with hv := some ((e.D.p : Int), (hvPM P T T e.D.p).nx hh v) }) hp hT hL he2 ?_ (fine_visit hE.d _) hlt).more ?_⟩
    · simp only [List.mem_cons, not_or]
      exact ⟨hxr, hxi⟩
    · intro k hk
      rcases List.mem_cons.1 hk with rfl | hk
      · exact List.mem_append_right _ he.mem
      · exact List.mem_append_left _ hk
theorem ent_mo_fn : ∀ K, K = 121 ∨ K = 130 ∨ K = 100 ∨ K = 146 → Ent K := by
  rintro K (rfl | rfl | rfl | rfl) <;> exact fun args w => by kernel_rfl
set_option maxHeartbeats 8000000 in
theorem mo_laws (hp : (P : Int) ≤ 64) (hT : 0 ≤ T ∧ T ≤ 65536) :
    (moCp T G P cl).Laws (moPM true P T) (Rd.lay cl P T G) T where
  c0 := fun s es nx => rfl
  c1 := fun s es nx => rfl
  set := fun s es nx nx' => rfl
  k0 := fun s hok hk => by
    cases s with
    | en e => exact absurd hok id
    | _ => cases hk
  k1 := fun s a f hok hk => by
    cases s with
    | own ph e => cases hk; exact ⟨rfl, (mo_axok P e.D.p ph).1, (mo_axok P e.D.p ph).2.2⟩
    | _ => cases hk
  k2 := fun s S q af hok hk => by
    have hw : 0 ≤ T ∧ T ≤ 1000000 := by omega
    cases s with
    | lk l e => cases hk; exact ⟨rfl, hok.2.2.1, ent_mo_fn _ (.inl rfl), fun b => (lo_laws T P T G e.D.p cl ⟨by omega, hp⟩).axok _ b trivial⟩
    | acq a e => cases hk; exact ⟨rfl, hok.2.2, ent_mo_fn _ (.inr (.inl rfl)), fun b => (acq_laws _ _ _ T hw).axok _ b trivial⟩
    | relN r e => cases hk; exact ⟨rfl, hok.2.2, ent_mo_fn _ (.inr (.inr (.inl rfl))), fun a => (rel_laws _ _ T).axok _ a trivial⟩
    | relT r e => cases hk; exact ⟨rfl, hok.2.2, ent_mo_fn _ (.inr (.inr (.inr rfl))), fun a => (rel_laws _ _ T).axok _ a trivial⟩
    | ov hh e => cases hk; exact ⟨rfl, hok.2.2.2.1, ent_mo_fn _ (.inr (.inr (.inl rfl))), fun a ha => Cp.okax (hv_laws (who := T) (P := P) (T := T) (G := G) (p := e.D.p) (cl := cl) hw ⟨by omega, hp⟩ hT) hok.2.2.2.2 a ha⟩
    | _ => cases hk
  sub := fun s S q af hok hk => by
    have hw : 0 ≤ T ∧ T ≤ 1000000 := by omega
    cases s with
    | lk l e => cases hk; exact ⟨Fl.steps (lo_laws T P T G e.D.p cl ⟨by omega, hp⟩) stepby_look, Fl.good (lo_laws T P T G e.D.p cl ⟨by omega, hp⟩), act_look, fun w h => h, fun k h => h⟩
    | acq a e => cases hk; exact acqSub_ok _ _ _ T hw _
    | relN r e => cases hk; exact relSub_ok _ _ T _
    | relT r e => cases hk; exact relSub_ok _ _ T _
    | ov hh e => cases hk; exact ⟨Cp.steps (hv_laws hw ⟨by omega, hp⟩ hT) stepby_over, Cp.good (hv_laws hw ⟨by omega, hp⟩ hT), act_over, fun w h => h, fun k h => h⟩
    | _ => cases hk
  on := fun s S q af v hok hk hv hs => mo_on hp hT hv hok hk hs
  ns := fun s a f hk => by
    cases s with
    | own ph e => cases hk; exact (mo_axok P e.D.p ph).2.1
    | _ => cases hk
  ekeep := fun s es w w' ll Le he hb hk => MoExt.keep hp hT he hb hk
  elt := fun s es w Le he k hk => MoExt.lt hp hT he k hk
  fol := fun W x s a f v es Le hok hk hv hB he hxe hR hxR => by
    cases s with
    | own ph e =>
      cases hk
      exact mo_fol_own hp hT W x ph e v es Le hok hv hB he hxe hR (fun h => hxR (List.mem_singleton.2 h))
    | _ => cases hk
  aft := fun W x y s S q af v es Le Li hok hk hv hn' hB hin hty he hxe hxi hdl hR hxR => mo_aft hp hT W x y s S q af v es Le Li hok hk hv hn' hB hin hty he hxe hxi hdl hR (fun h => hxR (List.mem_singleton.2 h))
end
end Go.Proofs.YthjfbknmdligeaaGreat

namespace Go.Proofs.YthjfbknmdligeaaGreat
open Go Go.RowKit
set_option linter.unusedVariables false
set_option maxRecDepth 100000
set_option linter.unusedSimpArgs false
set_option linter.unusedSectionVars false

theorem info66 : (Tryz.prog.info? 66).map (fun i => (i.zero, i.size, i.bytes)) = some (some (.agg #[.int .u64 0, .int .u64 0, .int .u64 0, .int .u64 0]), 4, 32) := by kernel_rfl
def zr (n : Nat) : Array Value := madeCells #[.int .u64 0, .int .u64 0, .int .u64 0, .int .u64 0] (n * 4)
theorem make_rows (n : Nat) (hn : n ≤ 1000000) (w : World) : (Instr.makeSlice 90 (.int .i64 n) (.int .i64 n)).run Tryz.prog w = .ok (.slice (some ⟨w.heap.size, 0, none⟩) n n) (w.alloc (.cells (zr n) 66)) := by
  obtain ⟨i0, hi, hz0, hz1, hz2⟩ := info_parts info66
  have := run_make (P := Tryz.prog) w 90 66 i0 _ Tryz.underlying90 hi hz0 .i64 .i64 n n (by omega) (Int.le_refl _) (by rw [hz2]; omega) (by omega)
  rw [hz1] at this
  simpa [zr, Value.cells] using this
theorem zr_row (n : Nat) (w : World) : RwAt (w.alloc (.cells (zr n) 66)) w.heap.size (4 * n) (fun _ => 0) := by
  refine ⟨zr n, heap_alloc_new _ _, (size_madeCells _ _).trans (by omega), fun k hk => ?_⟩
  unfold zr madeCells
  rw [Array.getElem?_map, Array.getElem?_range]
  rw [if_pos (by omega)]
  have h4 : k % 4 < 4 := Nat.mod_lt _ (by omega)
  simp only [Option.map_some, Option.some.injEq]
  show (#[Value.int .u64 0, Value.int .u64 0, Value.int .u64 0, Value.int .u64 0])[k % 4]! = _
  rcases (by omega : k % 4 = 0 ∨ k % 4 = 1 ∨ k % 4 = 2 ∨ k % 4 = 3) with h | h | h | h <;> rw [h] <;> rfl
def moD0 : MoD := ⟨fun _ => 0, 0, false, 0, 0, 0, false, none, 0, 0, 0, none⟩
set_option maxHeartbeats 4000000 in
theorem mo_new (w : World) (cl P : Nat) (T G : Int) (hl : Lay w cl P T G) (hp : P ≤ 64) :
    Calls Tryz.prog 9 #[.pointer (some ⟨cl, 0, none⟩)] w fun e w' => ∃ x r L, e = .returned (.pointer (some ⟨x, 0, none⟩)) ∧ moI T cl r P w' x (.nw, moD0) L ∧ Below w.heap.size w w' ∧ (∀ k ∈ L, w.heap.size ≤ k) ∧ w.heap.size ≤ x := by
  have hC := config_any (some ⟨cl, 0, none⟩) P T G w (.some cl hl)
  have hmk := make_rows P (by omega)
  have HL : Hid (Lay w cl P T G) := hl
  clear hl hp
  go_enter Tryz.func9, Tryz.ntmps9
  go_wp2_with fail
  go_at_call 37; refine hC.mono ?_; rintro e w1 ⟨rfl, h1⟩
  obtain ⟨V, hV⟩ : ∃ V, ((w1.alloc (.cells (zr P) 66)).alloc (.cells (moCells 0 none cl w1.heap.size P moD0) 98)) = V := ⟨_, rfl⟩
  have hr : RwAt V w1.heap.size (4 * P) (fun _ => 0) := by rw [← hV]; exact (zr_row P w1).keep (heap_al _ (by simp) _)
  have hB : Blk V (w1.heap.size + 1) (moCells 0 none cl w1.heap.size P moD0) 98 := by
    rw [← hV]
    have := Blk.new (w1.alloc (.cells (zr P) 66)) (moCells 0 none cl w1.heap.size P moD0) 98
    rw [World.size_alloc] at this
    exact this
  have hb1 : Below w1.heap.size w1 V := by rw [← hV]; exact ((Below.refl _ _).alloc (Nat.le_refl _) _).alloc (by simp) _
  have hbw : Below w.heap.size w V := h1.trans (hb1.mono h1.size)
  have HV : Hid _ := hV
  have hsz1 := h1.size
  have HF : Hid (RwAt V w1.heap.size (4 * P) (fun _ => 0) ∧ Blk V (w1.heap.size + 1) (moCells 0 none cl w1.heap.size P moD0) 98 ∧ Below w.heap.size w V ∧ Lay V cl P T G ∧ w.heap.size ≤ w1.heap.size) := ⟨hr, hB, hbw, HL.out.below hbw HL.out.lt, hsz1⟩
  clear hV hr hB hb1 hbw hC h1 hsz1 HL
  unfold moCells moD0 at HV
  dsimp only at HV
  rw [show ((0 : Nat) : Int) = 0 from rfl] at HV
  have fc0 := field_c0
  have fc1 := field_c1
  go_wp2_with fail
  rw [HV.out]
  clear HV
  generalize w1.heap.size = r at *
  have hC2 := config_any (some ⟨cl, 0, none⟩) P T G V.drew (.some cl HF.out.2.2.2.1)
  go_region_with (first | (go_at_call 37; refine hC2.mono ?_; rintro e w3 ⟨rfl, h3⟩; have hO := fof_any w3 (r + 1) _ 98 T (HF.out.2.1.drew.but (But.of_below (l := []) h3) (by simp)) (by simp [moCells])) | (go_at_call 38; refine hO.mono ?_; rintro e w4 ⟨⟨v, rfl⟩, hw4⟩; have HW4 : Hid (w4 = w3.setCell ⟨r + 1, 0, none⟩ (.int .i64 T)) := hw4; clear hw4))
  all_goals
    have hw4 := HW4.out
    have hB3 : But [r + 1] V w4 := by rw [hw4]; exact (((But.refl _ _).drew).trans (But.of_below h3)).set (g := r + 1) (.inl (by simp)) 0 _
    have h4 : Blk w4 (r + 1) (moCells T none cl r P moD0) 98 := by rw [hw4]; exact (HF.out.2.1.drew.but (But.of_below (l := []) h3) (by simp)).set 0 _
    have h5 : RwAt w4 r (4 * P) moD0.f := HF.out.1.but hB3 (by simp)
    have H := mo_begin w4 (r + 1) cl r P T moD0 h4
    have HG : Hid (RwAt w4 r (4 * P) moD0.f ∧ But [r + 1] V w4 ∧ w.heap.size ≤ r ∧ Below w.heap.size w V ∧ r + 1 < w4.heap.size) := ⟨h5, hB3, HF.out.2.2.2.2, HF.out.2.2.1, h4.lt⟩
    clear hC2 hO hw4 HW4 h3 hB3 h4 h5 HF hmk
    go_wp2_with fail
    go_at_call 39; refine H.mono ?_; rintro e w5 ⟨⟨u, rfl⟩, hC⟩
    have hD : MoLand T cl r P w4 w5 (r + 1) (.nw, moD0) := MoLand.of (s := (.nw, moD0)) HG.out.1 hC
    obtain ⟨⟨L, g1, g2⟩, g3, -⟩ := hD.mach HG.out.2.2.2.2 HG.out.1.lt (by omega)
    have hsz : Hid (∀ k ∈ L, w.heap.size ≤ k) := fun k hk => by
      have h1 := HG.out.2.2.1
      have h2 := HG.out.2.1.size
      have h3 := HG.out.2.2.2.1.size
      rcases g2 k hk with rfl | rfl | h
      · omega
      · omega
      · omega
    have HZ : Hid (moI T cl r P w5 (r + 1) (.nw, moD0) L ∧ Below w.heap.size w w5) := ⟨g1, HG.out.2.2.2.1.trans (((HG.out.2.1.more (l' := [r + 1, r]) (by intro k _ hk; simp at hk ⊢; exact .inl hk)).trans g3).below (by intro k hk; simp at hk; have := HG.out.2.2.1; omega) HG.out.2.2.2.1.size)⟩
    have hwr := HG.out.2.2.1
    clear H hC hD g1 g2 g3 HG
    go_wp2_with fail
    go_ret
    exact ⟨r + 1, r, L, rfl, HZ.out.1, HZ.out.2, hsz.out, by omega⟩
theorem hover_nil_h (w : World) : Calls Tryz.prog 49 #[.pointer none] w fun e w' => e = .returned (.int .i64 (-1)) ∧ w = w' := by
  go_enter Tryz.func49, Tryz.ntmps49
  go_wp2_with fail
  go_ret
  exact ⟨rfl, rfl⟩
theorem hover_nil_c (w : World) : Calls Tryz.prog 50 #[.pointer none] w fun e w' => e = .returned (.bool false) ∧ w = w' := by
  go_enter Tryz.func50, Tryz.ntmps50
  go_wp2_with fail
  go_ret
  exact ⟨rfl, rfl⟩
section
variable (w : World) (x cl r P : Nat) (who : Int) (t : MoP × MoD) (L : List Nat) (h : moI who cl r P w x t L)
include h
theorem mo_between : Calls Tryz.prog 13 #[.pointer (some ⟨x, 0, none⟩)] w fun e w' => e = .returned (.bool (!t.2.un)) ∧ w = w' := by
  obtain ⟨q, Lc, h1, -⟩ := h
  have c5 := h1.cell 5 (v := .bool t.2.un) rfl
  clear h1
  go_enter Tryz.func13, Tryz.ntmps13
  go_wp2_with fail
  go_ret
  exact ⟨rfl, rfl⟩
theorem mo_passes : Calls Tryz.prog 14 #[.pointer (some ⟨x, 0, none⟩)] w fun e w' => e = .returned (.int .i64 t.2.ps) ∧ w = w' := by
  obtain ⟨q, Lc, h1, -⟩ := h
  have c4 := h1.cell 4 (v := .int .i64 t.2.ps) rfl
  clear h1
  go_enter Tryz.func14, Tryz.ntmps14
  go_wp2_with fail
  go_ret
  exact ⟨rfl, rfl⟩
theorem mo_hand_none (ho : t.2.ov = none) : Calls Tryz.prog 16 #[.pointer (some ⟨x, 0, none⟩)] w fun e w' => e = .returned (.int .i64 (-1)) ∧ w = w' := by
  obtain ⟨q, Lc, h1, -⟩ := h
  have c14 := h1.cell 14 (v := .pointer t.2.ov) rfl
  rw [ho] at c14
  have H := hover_nil_h
  clear h1 ho
  go_enter Tryz.func16, Tryz.ntmps16
  go_wp2_with fail
  go_at_call 49; refine (H _).mono ?_; rintro e w1 ⟨rfl, rfl⟩
  go_wp2_with fail
  go_ret
  exact ⟨rfl, rfl⟩
theorem mo_counts_none (ho : t.2.ov = none) : Calls Tryz.prog 17 #[.pointer (some ⟨x, 0, none⟩)] w fun e w' => e = .returned (.bool false) ∧ w = w' := by
  obtain ⟨q, Lc, h1, -⟩ := h
  have c14 := h1.cell 14 (v := .pointer t.2.ov) rfl
  rw [ho] at c14
  have H := hover_nil_c
  clear h1 ho
  go_enter Tryz.func17, Tryz.ntmps17
  go_wp2_with fail
  go_at_call 50; refine (H _).mono ?_; rintro e w1 ⟨rfl, rfl⟩
  go_wp2_with fail
  go_ret
  exact ⟨rfl, rfl⟩
end
end Go.Proofs.YthjfbknmdligeaaGreat

namespace Go.Proofs.YthjfbknmdligeaaGreat
open Go Go.RowKit
set_option linter.unusedVariables false
set_option maxRecDepth 100000
set_option linter.unusedSimpArgs false
set_option linter.unusedSectionVars false

def moE0 : MoE := ⟨moD0, false, none⟩
theorem mo_newF (w : World) (cl P : Nat) (T G : Int) (hl : Lay w cl P T G) (hp : P ≤ 64) :
    Calls Tryz.prog 9 #[.pointer (some ⟨cl, 0, none⟩)] w fun e w' => ∃ x L, e = .returned (.pointer (some ⟨x, 0, none⟩)) ∧ (moCp T G P cl).I w' x (.own .nw moE0) L ∧ Below w.heap.size w w' ∧ (∀ k ∈ L, w.heap.size ≤ k) ∧ w.heap.size ≤ x := by
  have hlt := hl.lt
  refine (mo_new w cl P T G hl hp).mono ?_
  rintro e w' ⟨x, r, L, rfl, ⟨q, Lc, h1, h2, h3, h4, h5, h6, rfl⟩, hb, hL, hx⟩
  have hr : w.heap.size ≤ r := hL r (by simp)
  have hz : (0 : Int) ≤ 0 ∧ (0 : Int) ≤ 18446744073709551615 := by omega
  refine ⟨x, x :: (Lc ++ [r]), rfl, ⟨⟨⟨fun i => hz, hz, hz, hz⟩, .inl rfl, (by intro h; cases h)⟩, [r, 0, 0], [r], ⟨⟨[], rfl, (by simp), rfl⟩, h3, (by show cl ≠ r; omega)⟩, (by simpa using h6), q, Lc, h1, h2, h4, (fun k hk => by simp; rintro rfl; exact h5 hk), rfl⟩, hb, fun k hk => ?_, hx⟩
  simp only [List.mem_cons, List.mem_append, List.not_mem_nil, or_false] at hk
  rcases hk with rfl | hk | rfl
  · exact hx
  · exact hL k (by simp [hk])
  · exact hr
/-- The processor in its hand. -/
def MoT.holds : MoT → Int
  | .ov h e => h.holds e.D.p
  | t => match t.e.hv with
    | none => -1
    | some (p, h) => h.holds p
def MoT.counts : MoT → Bool
  | .ov h _ => h.counts
  | t => match t.e.hv with
    | none => false
    | some (_, h) => h.counts
section
variable {T G : Int} {P cl : Nat} {w : World} {x : Nat} {t : MoT} {L : List Nat}
theorem mo_blkF (h : (moCp T G P cl).I w x t L) : ∃ es nx, Blk w x (moCells T nx cl (es.getD 0 0) P (t.d es)) 98 ∧ RwAt w (es.getD 0 0) (4 * P) t.e.D.f := by
  obtain ⟨hok, es, Le, he, hxe, hH⟩ := h
  obtain ⟨nx, hB⟩ := CpR.blk' hH
  exact ⟨es, nx, hB, he.row⟩
theorem mo_betweenF (h : (moCp T G P cl).I w x t L) : Calls Tryz.prog 13 #[.pointer (some ⟨x, 0, none⟩)] w fun e w' => e = .returned (.bool (!t.e.D.un)) ∧ w = w' := by
  obtain ⟨es, nx, hB, -⟩ := mo_blkF h
  have c5 := hB.cell 5 (v := .bool t.e.D.un) rfl
  clear h hB
  go_enter Tryz.func13, Tryz.ntmps13
  go_wp2_with fail
  go_ret
  exact ⟨rfl, rfl⟩
theorem mo_passesF (h : (moCp T G P cl).I w x t L) : Calls Tryz.prog 14 #[.pointer (some ⟨x, 0, none⟩)] w fun e w' => e = .returned (.int .i64 t.e.D.ps) ∧ w = w' := by
  obtain ⟨es, nx, hB, -⟩ := mo_blkF h
  have c4 := hB.cell 4 (v := .int .i64 t.e.D.ps) rfl
  clear h hB
  go_enter Tryz.func14, Tryz.ntmps14
  go_wp2_with fail
  go_ret
  exact ⟨rfl, rfl⟩
/-- What is so of the machine that handed over last. -/
theorem mo_overF (h : (moCp T G P cl).I w x t L) : ∃ es nx, Blk w x (moCells T nx cl (es.getD 0 0) P (t.d es)) 98 ∧ ((t.hasO = false ∧ t.holds = -1 ∧ t.counts = false) ∨ (t.hasO = true ∧ ∃ (p : Int) (s : HvT) (Lh : List Nat), (hvCp T P T G p cl).I w (es.getD 2 0) s Lh ∧ t.holds = s.holds p ∧ t.counts = s.counts)) := by
  obtain ⟨hok, es, Le, he, hxe, hH⟩ := h
  obtain ⟨nx, hB⟩ := CpR.blk' hH
  refine ⟨es, nx, hB, ?_⟩
  obtain ⟨⟨Lh, rfl, -, hK⟩, -, -⟩ := he
  unfold moKept at hK
  have key : ∀ e : MoE, t.e = e → t.hasO = e.hv.isSome → t.holds = (match e.hv with | none => -1 | some (p, h) => h.holds p) → t.counts = (match e.hv with | none => false | some (_, h) => h.counts) → ((t.hasO = false ∧ t.holds = -1 ∧ t.counts = false) ∨ (t.hasO = true ∧ ∃ (p : Int) (s : HvT) (Lh : List Nat), (hvCp T P T G p cl).I w (es.getD 2 0) s Lh ∧ t.holds = s.holds p ∧ t.counts = s.counts)) := fun e he h1 h2 h3 => by
    rw [he] at hK
    cases hv : e.hv with
    | none => rw [hv] at h1 h2 h3; exact .inl ⟨h1, h2, h3⟩
    | some q =>
      obtain ⟨p, s⟩ := q
      rw [hv] at hK h1 h2 h3
      exact .inr ⟨h1, p, s, Lh, hK, h2, h3⟩
  cases t with
  | own ph e => exact key e rfl rfl rfl rfl
  | lk l e => exact key e rfl rfl rfl rfl
  | acq a e => exact key e rfl rfl rfl rfl
  | relN r e => exact key e rfl rfl rfl rfl
  | relT r e => exact key e rfl rfl rfl rfl
  | en e => exact key e rfl rfl rfl rfl
  | ov hh e =>
    obtain ⟨q, y, g, Li, h1, h2, h3, -⟩ := hH
    obtain rfl : es.getD 2 0 = y := h3
    exact .inr ⟨rfl, e.D.p, hh, Li, h2, rfl, rfl⟩
theorem mo_handF (h : (moCp T G P cl).I w x t L) : Calls Tryz.prog 16 #[.pointer (some ⟨x, 0, none⟩)] w fun e w' => e = .returned (.int .i64 t.holds) ∧ w = w' := by
  obtain ⟨es, nx, hB, hz⟩ := mo_overF h
  have c14 := hB.cell 14 (v := .pointer (moOV t.hasO es)) rfl
  clear h hB
  rcases hz with ⟨h1, h2, h3⟩ | ⟨h1, p, s, Lh, h2, h3, h4⟩
  · rw [h1] at c14
    rw [h2]
    have c14' : w.cell? ⟨x, 14, none⟩ = some (.pointer none) := c14
    have H := hover_nil_h
    clear h1 h2 h3 c14
    go_enter Tryz.func16, Tryz.ntmps16
    go_wp2_with fail
    go_at_call 49; refine (H _).mono ?_; rintro e w1 ⟨rfl, rfl⟩
    go_wp2_with fail
    go_ret
    exact ⟨rfl, rfl⟩
  · rw [h1] at c14
    rw [h3]
    have c14' : w.cell? ⟨x, 14, none⟩ = some (.pointer (some ⟨es.getD 2 0, 0, none⟩)) := c14
    have H := hv_tells_P h2
    clear h1 h2 h3 h4 c14
    generalize es.getD 2 0 = y at *
    go_enter Tryz.func16, Tryz.ntmps16
    go_wp2_with fail
    go_at_call 49; refine H.mono ?_; rintro e w1 ⟨rfl, rfl⟩
    go_wp2_with fail
    go_ret
    exact ⟨rfl, rfl⟩
theorem mo_countsF (h : (moCp T G P cl).I w x t L) : Calls Tryz.prog 17 #[.pointer (some ⟨x, 0, none⟩)] w fun e w' => e = .returned (.bool t.counts) ∧ w = w' := by
  obtain ⟨es, nx, hB, hz⟩ := mo_overF h
  have c14 := hB.cell 14 (v := .pointer (moOV t.hasO es)) rfl
  clear h hB
  rcases hz with ⟨h1, h2, h3⟩ | ⟨h1, p, s, Lh, h2, h3, h4⟩
  · rw [h1] at c14
    rw [h3]
    have c14' : w.cell? ⟨x, 14, none⟩ = some (.pointer none) := c14
    have H := hover_nil_c
    clear h1 h2 h3 c14
    go_enter Tryz.func17, Tryz.ntmps17
    go_wp2_with fail
    go_at_call 50; refine (H _).mono ?_; rintro e w1 ⟨rfl, rfl⟩
    go_wp2_with fail
    go_ret
    exact ⟨rfl, rfl⟩
  · rw [h1] at c14
    rw [h4]
    have c14' : w.cell? ⟨x, 14, none⟩ = some (.pointer (some ⟨es.getD 2 0, 0, none⟩)) := c14
    have H := hv_tells_C h2
    clear h1 h2 h3 h4 c14
    generalize es.getD 2 0 = y at *
    go_enter Tryz.func17, Tryz.ntmps17
    go_wp2_with fail
    go_at_call 50; refine H.mono ?_; rintro e w1 ⟨rfl, rfl⟩
    go_wp2_with fail
    go_ret
    exact ⟨rfl, rfl⟩
end
end Go.Proofs.YthjfbknmdligeaaGreat

namespace Go.Proofs.YthjfbknmdligeaaGreat
open Go Go.RowKit
set_option linter.unusedVariables false
set_option maxRecDepth 100000
set_option linter.unusedSimpArgs false

def mtA (p : Nat) (i : Nat) : Int := if i = 0 then 15 else if i = 1 then ((20 + 264 * p : Nat) : Int) else if i = 2 then ((20 + 264 * p + 2 : Nat) : Int) else ((28 + 264 * p : Nat) : Int)
def mtV (th : Int) (i : Nat) : Int := if i = 0 then th else if i = 1 then 2 else 1
def mtN (P T : Nat) : Nat := 22 + 264 * P + 3 * T
def mtTh (T : Nat) (had : Bool) : Int := if had then (T : Int) - 1 else T
def mtS0 (P T p : Nat) (had : Bool) : St := fresh (putF (mtA p) (mtV (mtTh T had)) (mtN P T) 4)
/-- A pass is over, and all is as the law asks. -/
def mtFin (P T p : Nat) (had : Bool) (t : MoT) (s : St) : Bool := decide (t.e.D.ps = 1) && decide (t.holds = -1) && decide (s.bad = 0) && decide (peekT (mtN P T) s ((20 + 264 * p : Nat) : Int) = if had then 0 else 2) && decide (peekT (mtN P T) s (wd (20 + P * 264) T 3 ((T : Int) - 1) 1) = if had then (p : Int) + 1 else 0)
def mtGo (P T p : Nat) (had : Bool) : Nat → MoT → St → Bool
  | 0, _, _ => false
  | k + 1, t, s => if t.e.D.ps = 0 then mtGo P T p had k ((moPM true P T).goT (mtN P T) t s) ((moPM true P T).goS T (mtN P T) t s) else mtFin P T p had t s
def mtAll : Bool := (List.range 5).all fun P => (List.range 9).all fun T => (List.range 5).all fun p => if 1 ≤ P ∧ P < T ∧ p < P then mtGo P T p true 99 (.own .nw moE0) (mtS0 P T p true) && mtGo P T p false 99 (.own .nw moE0) (mtS0 P T p false) else true
set_option maxHeartbeats 4000000 in
theorem mt_all : mtAll = true := by decide +kernel
theorem mt_go {P T p : Nat} (had : Bool) (hP : P ≤ 4) (hT : T ≤ 8) (h1 : 1 ≤ P) (h2 : P < T) (h3 : p < P) : mtGo P T p had 99 (.own .nw moE0) (mtS0 P T p had) = true := by
  have h := mt_all
  unfold mtAll at h
  have a := List.all_eq_true.1 h P (List.mem_range.2 (by omega))
  have b := List.all_eq_true.1 a T (List.mem_range.2 (by omega))
  have c := List.all_eq_true.1 b p (List.mem_range.2 (by omega))
  rw [if_pos ⟨h1, h2, h3⟩, Bool.and_eq_true] at c
  cases had
  · exact c.2
  · exact c.1
end Go.Proofs.YthjfbknmdligeaaGreat

namespace Go.Proofs.YthjfbknmdligeaaGreat
open Go Go.RowKit
set_option linter.unusedVariables false
set_option maxRecDepth 100000
set_option linter.unusedSimpArgs false

/-- Words that were told once, in a block of their own. -/
def Rd.wd1 (g n : Nat) (f : Nat → Int) : Rd := ⟨[g], fun w => g < w.heap.size ∧ ∀ i, i < n → w.cell? ⟨g, i, none⟩ = some (.int .u64 (f i)), fun w w' l h hb hk => ⟨Nat.lt_of_lt_of_le h.1 hb.size, fun i hi => by
  have e := hb.block g h.1 (hk g (by simp))
  have h2 := h.2 i hi
  simp only [World.cell?] at h2 ⊢
  rw [e]
  exact h2⟩⟩
theorem Rd.wd1_sees {g n : Nat} {f : Nat → Int} {w : World} (h : (Rd.wd1 g n f).P w) : SeesU w w.heap.size (some ⟨g, 0, none⟩) n f := fun _ => ⟨g, 0, rfl, h.1, fun i hi => by rw [Nat.zero_add]; exact h.2 i hi⟩
theorem words_own (w : World) (A : Option Addr) (cap c b n : Nat) (s : St) (h : Is w 114 A cap c b n s) (hn : n ≤ 1000000) (hn0 : 0 < n) :
    Calls Tryz.prog 23 #[.pointer (some ⟨c, 0, none⟩)] w fun e w' => ∃ g cap', e = .returned (.slice (some ⟨g, 0, none⟩) n cap') ∧ w.heap.size ≤ g ∧ (Rd.wd1 g n s.f).P w' ∧ Below w.heap.size w w' := by
  have HC := clone_any A n cap s.f w hn (fun e => by have := h.bcap; have := this.2.2 e; omega) h.sees
  have c0 := h.cells.1
  clear h
  go_enter Tryz.func23, Tryz.ntmps23
  go_wp2_with fail
  go_at_call 54; refine HC.mono ?_; rintro e w1 ⟨v, rfl, hown, hb⟩
  have hown2 := hown
  rcases hown.2 with ⟨rfl, e0⟩ | ⟨g, cap, cur, rfl, hg, hh, hnc, hcm, hcs, htk⟩
  · exact absurd e0 (by omega)
  · have HP : Hid ((Rd.wd1 g n s.f).P w1) := ⟨block_lt hh, fun i hi => by
      have hc := hown2.cellAt i (by omega)
      rw [wordCells_at s.f n i hi] at hc
      exact hc⟩
    have HB : Hid (Below w.heap.size w w1) := hb
    have HGG : Hid (w.heap.size ≤ g) := hg
    clear HC hown hown2 hb hh hnc hcm hcs htk hg
    go_wp2_with fail
    go_ret
    exact ⟨g, cap, rfl, HGG.out, HP.out, HB.out⟩
/-- Where it is in the pass i, behind k steps. -/
structure IdOk (P : Nat) (t : MoP × MoD) (i k : Nat) : Prop where
  ps : t.2.ps = i
  f : t.2.f = fun _ => 0
  ov : t.2.ov = none
  nw : 0 ≤ t.2.nw ∧ t.2.nw ≤ 18446744073709551615
  at' : (k = 0 ∧ t.1 = .nw ∧ t.2.un = false) ∨ (0 < k ∧ k ≤ P ∧ t.1 = .st ∧ t.2.un = true ∧ t.2.p = k - 1)
theorem id_start (P : Nat) : IdOk P (.nw, moD0) 0 0 := ⟨rfl, rfl, rfl, by show (0 : Int) ≤ 0 ∧ (0 : Int) ≤ _; omega, .inl ⟨rfl, rfl, rfl⟩⟩
theorem IdOk.ok {P : Nat} {t : MoP × MoD} {i k : Nat} (h : IdOk P t i k) : MoOk P t := by
  refine ⟨?_, fun j => ?_, h.nw⟩
  · rcases h.at' with ⟨_, h1, _⟩ | ⟨h0, h1, h2, _, h3⟩
    · exact .inl h1
    · exact .inr ⟨.inl h2, by omega⟩
  · rw [h.f]
    show (0 : Int) ≤ 0 ∧ (0 : Int) ≤ _
    omega
theorem IdOk.un {P : Nat} {t : MoP × MoD} {i k : Nat} (h : IdOk P t i k) : (!t.2.un) = decide ((k : Int) = 0) := by
  rcases h.at' with ⟨h0, _, h1⟩ | ⟨h0, _, _, h1, _⟩
  · rw [h1, h0]; rfl
  · rw [h1, decide_eq_false (by omega)]; rfl
theorem id_next {P : Nat} {t : MoP × MoD} {i k : Nat} (h : IdOk P t i k) (hP : 1 ≤ P) (hk : k ≤ P) (hi : i ≤ 1000) {v : Int} (hv : 0 ≤ v ∧ v ≤ 18446744073709551615) (h0 : 0 < k → v = 0) : IdOk P (moNx P t v) (if k = P then i + 1 else i) (if k = P then 0 else k + 1) := by
  obtain ⟨ph, d⟩ := t
  obtain ⟨h1, h2, h3, h4, h5⟩ := h
  dsimp only at h1 h2 h3 h4 h5
  rcases h5 with ⟨rfl, rfl, h6⟩ | ⟨h7, h8, rfl, h6, h9⟩
  · rw [if_neg (by omega), if_neg (by omega)]
    have e : moNx P (.nw, d) v = (.st, { d with nw := v, un := true, p := 0 }) := if_neg (by omega)
    rw [e]
    exact ⟨h1, h2, h3, hv, .inr ⟨by omega, by omega, rfl, rfl, rfl⟩⟩
  · have hz := h0 h7
    subst hz
    have e1 : moNx P (.st, d) 0 = moVisit P d k := by
      show moJudge P d 0 = _
      unfold moJudge
      rw [if_neg (by omega), show d.p + 1 = k by omega]
    rw [e1]
    by_cases hkP : k = P
    · rw [if_pos hkP, if_pos hkP]
      have e : moVisit P d k = (.nw, { d with ps := wrap64 (d.ps + 1), un := false }) := if_pos (by omega)
      rw [e]
      refine ⟨?_, h2, h3, h4, .inl ⟨rfl, rfl, rfl⟩⟩
      show wrap64 (d.ps + 1) = _
      rw [h1]
      unfold wrap64
      omega
    · rw [if_neg hkP, if_neg hkP]
      have e : moVisit P d k = (.st, { d with p := k }) := if_neg (by omega)
      rw [e]
      exact ⟨h1, h2, h3, h4, .inr ⟨by omega, by omega, rfl, h6, by show k = k + 1 - 1; omega⟩⟩
theorem id_load {P : Nat} {t : MoP × MoD} {i k : Nat} (h : IdOk P t i k) : ∃ j, moAx P t.2.p t.1 = axLd j ∧ (0 < k → j = wd 20 P 264 ((k - 1 : Nat) : Int) 0) := by
  obtain ⟨ph, d⟩ := t
  rcases h.at' with ⟨h0, h1, _⟩ | ⟨h0, h2, h1, _, h3⟩
  · obtain rfl : ph = .nw := h1
    exact ⟨18, rfl, fun h => absurd h (by omega)⟩
  · obtain rfl : ph = .st := h1
    have h3' : d.p = k - 1 := h3
    exact ⟨wd 20 P 264 d.p 0, rfl, fun _ => by rw [h3']⟩
theorem id_act (who i : Int) (n : Nat) (s : St) : (actS 1 who i 0 0 n s).f = s.f ∧ (actS 1 who i 0 0 n s).clock = s.clock + 1 ∧ (0 ≤ i ∧ i < n → actA 1 i 0 0 n s = s.f i.toNat ∧ (actS 1 who i 0 0 n s).bad = s.bad) := by
  unfold actS actA
  rw [if_neg (by decide), if_neg (by decide), if_neg (by decide), if_neg (by decide), if_neg (by decide), if_neg (by decide)]
  unfold stp ans
  refine ⟨?_, ?_, fun h => ?_⟩
  · split
    · rw [if_neg (by rintro (h | ⟨h, -⟩) <;> cases h), if_neg (by decide)]
    · rfl
  · split <;> rfl
  · rw [if_pos h, if_pos h, if_pos rfl]
    exact ⟨rfl, rfl⟩
theorem id_solo {who T G : Int} {cl r P : Nat} {R : Rd} {W0 w : World} {A : Option Addr} {cap c b n : Nat} {s : St} {x : Nat} {t : MoP × MoD} {L : List Nat} {i k m : Nat} (h : Solo (moI who cl r P) R W0 w A cap c b n s x t L) (hRl : ∀ w, R.P w → Lay w cl P T G) (hRb : cl ∈ R.B) (ho : IdOk P t i k) (hP : 1 ≤ P ∧ P ≤ 4) (hk : k ≤ P) (hi : i ≤ 1000) (hn : 20 + 264 * P ≤ n ∧ n ≤ 1000000) (hz : ∀ p, p < P → s.f (20 + 264 * p) = 0) (hl : Low s m) (hm : m ≤ 1000) :
    Calls Tryz.prog 20 #[.pointer (some ⟨x, 0, none⟩), .pointer (some ⟨c, 0, none⟩)] w fun e w' => e = .returned (.bool false) ∧ ∃ L' t' s', Solo (moI who cl r P) R W0 w' A cap c b n s' x t' L' ∧ IdOk P t' (if k = P then i + 1 else i) (if k = P then 0 else k + 1) ∧ s'.f = s.f ∧ s'.clock = s.clock + 1 ∧ Low s' (m + 1 : Nat) := by
  refine (mo_solo h hRl hRb ho.ok (by omega) hn.2 (hl.more (by omega))).mono ?_
  rintro e w' ⟨rfl, L', h1⟩
  obtain ⟨j, e1, e2⟩ := id_load ho
  rw [e1] at h1
  obtain ⟨a1, a2, a3⟩ := id_act who j n s
  refine ⟨rfl, L', _, _, h1, id_next ho hP.1 hk hi (actA_bd h.mem _ _ _ _) (fun h0 => ?_), a1, a2, (actS_low hl _ _ _ _ _ _).more (by show (m : Int) + 1 ≤ ((m + 1 : Nat) : Int); omega)⟩
  have e3 := e2 h0
  have e4 : wd 20 P 264 ((k - 1 : Nat) : Int) 0 = ((20 + 264 * (k - 1) : Nat) : Int) := by
    unfold wd
    rw [if_pos ⟨by omega, by omega, by omega, by omega⟩]
    omega
  rw [e4] at e3
  subst e3
  refine ((a3 ⟨by omega, by omega⟩).1).trans ?_
  exact hz (k - 1) (by omega)
end Go.Proofs.YthjfbknmdligeaaGreat

namespace Go.Proofs.YthjfbknmdligeaaGreat
open Go Go.RowKit
set_option linter.unusedVariables false
set_option maxRecDepth 100000
set_option linter.unusedSimpArgs false

set_option maxHeartbeats 8000000 in
theorem mon_awake (w : World) : Calls Tryz.prog 8 #[] w fun e w' => e = .returned (.bool true) ∧ Below w.heap.size w w' := by
  have hL := lay_some 1 1 1 none 0 0 289 (fun _ => 0) (fun _ => 0) w (by omega) ⟨⟨by omega⟩, by omega, by omega, by omega⟩ (by omega) (fun h => absurd h (by omega)) (fun i h => absurd h (by omega))
  go_enter Tryz.func8, Tryz.ntmps8
  go_wp2_with fail
  go_at_call 7; refine hL.mono ?_; rintro e w1 ⟨cl, A, A', cap, cap', c, b, c', b', rfl, hLd⟩
  have HB1 : Hid (Below w.heap.size w w1) := hLd.below
  have HI1 : Hid (Is w1 114 A cap c b 289 (fresh (fun _ => 0))) := hLd.two.m
  have HY1 : Hid (Lay w1 cl 1 1 1) := hLd.lay
  have hne : Hid (cl ≠ c ∧ cl ≠ b) := lay_ne hLd.lay (by decide) hLd.two.m (by omega)
  have hup : Hid (w.heap.size ≤ c ∧ w.heap.size ≤ b) := ⟨hLd.up.2.1, hLd.up.2.2.1⟩
  have HRF : Hid (c ∉ (Rd.lay cl 1 1 1).B ∧ b ∉ (Rd.lay cl 1 1 1).B) := ⟨fun h => hne.out.1 (List.mem_singleton.1 h).symm, fun h => hne.out.2 (List.mem_singleton.1 h).symm⟩
  have hN := mo_new w1 cl 1 1 1 hLd.lay (by omega)
  clear hL hLd hne
  go_wp2_with fail
  go_at_call 9; refine hN.mono ?_; rintro e w2 ⟨x, r, L, rfl, ha1, ha2, ha3, -⟩
  have HS0 : Hid (Solo (moI 1 cl r 1) (Rd.lay cl 1 1 1) w w2 A cap c b 289 (fresh (fun _ => 0)) x (.nw, moD0) L) := Solo.begin HI1.out ha2 HB1.out hup.out ha1 ha3 HY1.out (fun k hk => by obtain rfl : k = cl := List.mem_singleton.1 hk; exact HY1.out.lt) HRF.out
  clear hN ha1 ha2 ha3 HI1 HY1 HB1 HRF hup
  have hb := mo_between w2 x cl r 1 1 _ L HS0.out.mach
  rw [(id_start 1).un, show decide (((0 : Nat) : Int) = 0) = true from rfl] at hb
  have hs := id_solo (G := 1) (T := 1) (i := 0) (k := 0) (m := 0) HS0.out (fun _ h => h) (List.mem_singleton.2 rfl) (id_start 1) (by omega) (by omega) (by omega) (by omega) (fun _ _ => rfl) (low_fresh _) (by omega)
  rw [if_neg (by decide), if_neg (by decide)] at hs
  clear HS0
  go_wp2_with fail
  go_at_call 13; refine hb.mono ?_; rintro e w3 ⟨rfl, rfl⟩
  clear hb
  go_wp2_with fail
  go_at_call 20; refine hs.mono ?_; rintro e w3 ⟨rfl, L1, t1, s1, k1, k2, k3, k4, k5⟩
  have HS1 : Hid (Solo (moI 1 cl r 1) (Rd.lay cl 1 1 1) w w3 A cap c b 289 s1 x t1 L1 ∧ s1.clock = 1) := ⟨k1, k4⟩
  have hb := mo_between w3 x cl r 1 1 _ L1 k1.mach
  rw [k2.un, show decide (((0 + 1 : Nat) : Int) = 0) = false from rfl] at hb
  have hs2 := id_solo (G := 1) (T := 1) (i := 0) (k := 1) (m := 1) k1 (fun _ h => h) (List.mem_singleton.2 rfl) k2 (by omega) (by omega) (by omega) (by omega) (fun _ _ => by rw [k3]; rfl) k5 (by omega)
  rw [if_pos rfl, if_pos rfl] at hs2
  clear hs k1 k2 k3 k4 k5
  go_wp2_with fail
  go_at_call 13; refine hb.mono ?_; rintro e w4 ⟨rfl, rfl⟩
  clear hb
  go_wp2_with fail
  go_at_call 20; refine hs2.mono ?_; rintro e w4 ⟨rfl, L2, t2, s2, k1, k2, k3, k4, k5⟩
  have hb := mo_between w4 x cl r 1 1 _ L2 k1.mach
  rw [k2.un, show decide (((0 : Nat) : Int) = 0) = true from rfl] at hb
  have hps := mo_passes w4 x cl r 1 1 _ L2 k1.mach
  rw [k2.ps, show (((0 + 1 : Nat)) : Int) = 1 from rfl] at hps
  have hck := clock_any _ _ _ _ _ _ _ k1.mem
  rw [k4, HS1.out.2, show (1 : Int) + 1 = 2 from rfl] at hck
  have HF : Hid (Below w.heap.size w w4) := k1.below
  clear hs2 HS1 k1 k2 k3 k4 k5
  go_wp2_with fail
  go_at_call 13; refine hb.mono ?_; rintro e w5 ⟨rfl, rfl⟩
  clear hb
  go_wp2_with fail
  go_at_call 14; refine hps.mono ?_; rintro e w5 ⟨rfl, rfl⟩
  clear hps
  go_wp2_with fail
  go_at_call 31; refine hck.mono ?_; rintro e w5 ⟨rfl, rfl⟩
  clear hck
  go_wp2_with fail
  go_ret
  exact ⟨rfl, HF.out⟩
end Go.Proofs.YthjfbknmdligeaaGreat

namespace Go.Proofs.YthjfbknmdligeaaGreat
open Go Go.RowKit
set_option linter.unusedVariables false
set_option maxRecDepth 100000
set_option linter.unusedSimpArgs false

theorem monTakes_bad (P T G p : Int) (had : Bool) (w : World) (h : ¬ (1 ≤ P ∧ P ≤ 4 ∧ P < T ∧ T ≤ 8 ∧ 0 ≤ p ∧ p < P)) :
    Calls Tryz.prog 5 #[.agg #[.int .i64 P, .int .i64 T, .int .i64 G], .int .i64 p, .bool had] w fun e w' => e = .returned (.bool true) ∧ Below w.heap.size w w' := by
  have hb : Below w.heap.size w (w.alloc (.cells #[.int .i64 P, .int .i64 T, .int .i64 G] 23)) := (Below.refl _ _).alloc (Nat.le_refl _) _
  have HB : Hid (Below w.heap.size w (w.alloc (.cells #[.int .i64 P, .int .i64 T, .int .i64 G] 23))) := hb
  have bx := Blk.new w #[.int .i64 P, .int .i64 T, .int .i64 G] 23
  have c0 := bx.cell 0 (v := .int .i64 P) rfl
  have c1 := bx.cell 1 (v := .int .i64 T) rfl
  clear hb bx
  by_cases q0 : P < 1
  · have d0 : decide (P < 1) = true := decide_eq_true q0
    clear h
    go_enter Tryz.func5, Tryz.ntmps5
    go_wp2_with fail
    go_at_call 8; refine (mon_awake _).mono ?_; rintro e w2 ⟨rfl, h2⟩
    have h3 := seq HB.out h2
    clear h2
    go_wp2_with fail
    go_ret
    exact ⟨rfl, h3⟩
  have d0 : decide (P < 1) = false := decide_eq_false q0
  by_cases q1 : 4 < P
  · have d1 : decide (4 < P) = true := decide_eq_true q1
    clear h
    go_enter Tryz.func5, Tryz.ntmps5
    go_wp2_with fail
    go_at_call 8; refine (mon_awake _).mono ?_; rintro e w2 ⟨rfl, h2⟩
    have h3 := seq HB.out h2
    clear h2
    go_wp2_with fail
    go_ret
    exact ⟨rfl, h3⟩
  have d1 : decide (4 < P) = false := decide_eq_false q1
  by_cases q2 : T ≤ P
  · have d2 : decide (T ≤ P) = true := decide_eq_true q2
    clear h
    go_enter Tryz.func5, Tryz.ntmps5
    go_wp2_with fail
    go_at_call 8; refine (mon_awake _).mono ?_; rintro e w2 ⟨rfl, h2⟩
    have h3 := seq HB.out h2
    clear h2
    go_wp2_with fail
    go_ret
    exact ⟨rfl, h3⟩
  have d2 : decide (T ≤ P) = false := decide_eq_false q2
  by_cases q3 : 8 < T
  · have d3 : decide (8 < T) = true := decide_eq_true q3
    clear h
    go_enter Tryz.func5, Tryz.ntmps5
    go_wp2_with fail
    go_at_call 8; refine (mon_awake _).mono ?_; rintro e w2 ⟨rfl, h2⟩
    have h3 := seq HB.out h2
    clear h2
    go_wp2_with fail
    go_ret
    exact ⟨rfl, h3⟩
  have d3 : decide (8 < T) = false := decide_eq_false q3
  by_cases q4 : p < 0
  · have d4 : decide (p < 0) = true := decide_eq_true q4
    clear h
    go_enter Tryz.func5, Tryz.ntmps5
    go_wp2_with fail
    go_at_call 8; refine (mon_awake _).mono ?_; rintro e w2 ⟨rfl, h2⟩
    have h3 := seq HB.out h2
    clear h2
    go_wp2_with fail
    go_ret
    exact ⟨rfl, h3⟩
  have d4 : decide (p < 0) = false := decide_eq_false q4
  have q5 : P ≤ p := by omega
  have d5 : decide (P ≤ p) = true := decide_eq_true q5
  clear h
  go_enter Tryz.func5, Tryz.ntmps5
  go_wp2_with fail
  go_at_call 8; refine (mon_awake _).mono ?_; rintro e w2 ⟨rfl, h2⟩
  have h3 := seq HB.out h2
  clear h2
  go_wp2_with fail
  go_ret
  exact ⟨rfl, h3⟩
set_option maxHeartbeats 16000000 in
theorem monTakes_ok (P T p : Nat) (G : Int) (had : Bool) (w : World) (hP : 1 ≤ P ∧ P ≤ 4) (hT : P < T ∧ T ≤ 8) (hpp : p < P) :
    Calls Tryz.prog 5 #[.agg #[.int .i64 P, .int .i64 T, .int .i64 G], .int .i64 p, .bool had] w fun e w' => e = .returned (.bool true) ∧ Below w.heap.size w w' := by
  obtain ⟨n, hn⟩ : ∃ n : Nat, n = mtN P T := ⟨_, rfl⟩
  obtain ⟨lp, hlp⟩ : ∃ lp : Int → Int, ∀ f, 0 ≤ f ∧ f < 8 → lp f = 20 + 264 * p + f := ⟨fun f => 20 + 264 * p + f, fun f _ => rfl⟩
  obtain ⟨rg, hrg⟩ : ∃ rg : Int, rg = 28 + 264 * p := ⟨_, rfl⟩
  obtain ⟨tm, htm⟩ : ∃ tm : Int, tm = (T : Int) - 1 := ⟨_, rfl⟩
  obtain ⟨th, hth⟩ : ∃ th : Int, th = mtTh T had := ⟨_, rfl⟩
  have HLP : Hid (∀ f, 0 ≤ f ∧ f < 8 → lp f = 20 + 264 * p + f) := hlp
  have HPr : Hid (∀ f : Int, 0 ≤ f ∧ f < 8 → ∀ Y : World, Calls Tryz.prog 25 #[.int .i64 p, .int .i64 f] Y fun e w' => e = .returned (.int .i64 (lp f)) ∧ Y = w') := fun f hf Y => by rw [hlp f hf]; exact rprc_any p f Y (by omega) hf
  have HRi : Hid (∀ Y : World, Calls Tryz.prog 29 #[.int .i64 p, .int .u64 0] Y fun e w' => e = .returned (.int .i64 rg) ∧ Y = w') := fun Y => by
    have h := rrng_any p 0 Y (by omega) (by omega)
    rw [show (28 : Int) + 264 * p + 0 % 256 = rg by rw [hrg]; omega] at h
    exact h
  have HN : Hid (n = mtN P T ∧ n = 22 + 264 * P + 3 * T ∧ n ≤ 1000000 ∧ 0 < n) := ⟨hn, by rw [hn]; rfl, by rw [hn]; unfold mtN; omega, by rw [hn]; unfold mtN; omega⟩
  have HP : Hid (1 ≤ P ∧ P ≤ 4 ∧ P < T ∧ T ≤ 8 ∧ p < P ∧ rg = 28 + 264 * p ∧ tm = (T : Int) - 1 ∧ th = mtTh T had ∧ 0 ≤ th ∧ th ≤ 8) := ⟨hP.1, hP.2, hT.1, hT.2, hpp, hrg, htm, hth, by rw [hth]; unfold mtTh; split <;> omega, by rw [hth]; unfold mtTh; split <;> omega⟩
  have hP1 := hP.1
  have hP4 := hP.2
  have hPT := hT.1
  have hT8 := hT.2
  have d1 : decide ((P : Int) < 1) = false := decide_eq_false (by omega)
  have d2 : decide (4 < (P : Int)) = false := decide_eq_false (by omega)
  have d3 : decide ((T : Int) ≤ (P : Int)) = false := decide_eq_false (by omega)
  have d4 : decide (8 < (T : Int)) = false := decide_eq_false (by omega)
  have d5 : decide ((p : Int) < 0) = false := decide_eq_false (by omega)
  have d6 : decide ((P : Int) ≤ (p : Int)) = false := decide_eq_false (by omega)
  have t1 : wrap64 ((T : Int) - 1) = tm := by rw [htm]; unfold wrap64; omega
  have t2 : IntKind.i64.wrap ((T : Int) - 1) = tm := by rw [htm]; simp [IntKind.wrap, IntKind.bits, IntKind.signed]; omega
  have t3 : IntKind.u64.wrap th = th := wrap_u64 (by have := HP.out; omega)
  have HTH : Hid ((had = true → tm = th) ∧ (had = false → (T : Int) = th)) := ⟨fun h => by rw [htm, hth, h]; rfl, fun h => by rw [hth, h]; rfl⟩
  have hbx : Below w.heap.size w (w.alloc (.cells #[.int .i64 P, .int .i64 T, .int .i64 G] 23)) := (Below.refl _ _).alloc (Nat.le_refl _) _
  have bx := Blk.new w #[.int .i64 P, .int .i64 T, .int .i64 G] 23
  have bc0 := bx.cell 0 (v := .int .i64 P) rfl
  have bc1 := bx.cell 1 (v := .int .i64 T) rfl
  have HBX : Hid (Below w.heap.size w (w.alloc (.cells #[.int .i64 P, .int .i64 T, .int .i64 G] 23)) ∧ Blk (w.alloc (.cells #[.int .i64 P, .int .i64 T, .int .i64 G] 23)) w.heap.size #[.int .i64 P, .int .i64 T, .int .i64 G] 23) := ⟨hbx, bx⟩
  clear hn hlp hrg htm hth hbx bx hP hT
  have HL : Hid (∀ Y : World, Calls Tryz.prog 7 #[.agg #[.int .i64 P, .int .i64 T, .int .i64 1, .slice (some ⟨Y.heap.size, 0, none⟩) 4 4]] (Y.alloc (.cells #[.int .i64 15, .int .u64 th, .int .i64 (lp 0), .int .u64 2, .int .i64 (lp 2), .int .u64 1, .int .i64 rg, .int .u64 1] 73)).drew fun e w' => ∃ (cl : Nat) (A A' : Option Addr) (cap cap' c b c' b' : Nat), e = .returned (.tuple #[.pointer (some ⟨cl, 0, none⟩), .pointer (some ⟨c, 0, none⟩), .pointer (some ⟨c', 0, none⟩), .bool true]) ∧ Laid (Y.alloc (.cells #[.int .i64 15, .int .u64 th, .int .i64 (lp 0), .int .u64 2, .int .i64 (lp 2), .int .u64 1, .int .i64 rg, .int .u64 1] 73)).drew w' P T 1 n (putF (mtA p) (mtV th) n 4) cl A A' cap cap' c b c' b') := fun Y => by
    have hX := (Blk.new Y #[.int .i64 15, .int .u64 th, .int .i64 (lp 0), .int .u64 2, .int .i64 (lp 2), .int .u64 1, .int .i64 rg, .int .u64 1] 73).drew
    have hq := HP.out
    have hn := HN.out
    have e0 : lp 0 = mtA p 1 := (HLP.out 0 (by omega)).trans (by show _ = ((20 + 264 * p : Nat) : Int); omega)
    have e2 : lp 2 = mtA p 2 := (HLP.out 2 (by omega)).trans (by show _ = ((20 + 264 * p + 2 : Nat) : Int); omega)
    have e3 : rg = mtA p 3 := hq.2.2.2.2.2.1.trans (by show _ = ((28 + 264 * p : Nat) : Int); omega)
    exact lay_some P T 1 (some ⟨Y.heap.size, 0, none⟩) 4 4 n (mtA p) (mtV th) _ (by omega) ⟨⟨by omega⟩, by omega, by omega, by omega⟩ (by omega) (fun _ => ⟨Y.heap.size, 0, rfl, hX.lt, fun j hj => by
      rcases (by omega : j = 0 ∨ j = 1 ∨ j = 2 ∨ j = 3) with rfl | rfl | rfl | rfl
      · exact ⟨hX.cell 0 rfl, hX.cell 1 rfl⟩
      · exact ⟨by rw [← e0]; exact hX.cell 2 rfl, hX.cell 3 rfl⟩
      · exact ⟨by rw [← e2]; exact hX.cell 4 rfl, hX.cell 5 rfl⟩
      · exact ⟨by rw [← e3]; exact hX.cell 6 rfl, hX.cell 7 rfl⟩⟩) (fun i hi => by unfold mtV; split <;> (try split) <;> omega)
  have KEY : Hid (∀ (B0 Z w1 : World) (cl : Nat) (A A' : Option Addr) (cap cap' c b c' b' : Nat), Below B0.heap.size B0 Z → Laid Z w1 P T 1 n (putF (mtA p) (mtV th) n 4) cl A A' cap cap' c b c' b' → Below B0.heap.size B0 w1 ∧ Is w1 114 A cap c b n (mtS0 P T p had) ∧ Lay w1 cl P T 1 ∧ (B0.heap.size ≤ c ∧ B0.heap.size ≤ b) ∧ c ∉ (Rd.lay cl P T 1).B ∧ b ∉ (Rd.lay cl P T 1).B) := fun B0 Z w1 cl A A' cap cap' c b c' b' hZ hLd => by
    have hsz := hZ.size
    have hne := lay_ne hLd.lay (by decide) hLd.two.m HN.out.2.2.2
    refine ⟨hZ.trans (hLd.below.mono hsz), ?_, hLd.lay, ⟨by have := hLd.up.2.1; omega, by have := hLd.up.2.2.1; omega⟩, fun h => hne.1 (List.mem_singleton.1 h).symm, fun h => hne.2 (List.mem_singleton.1 h).symm⟩
    unfold mtS0
    rw [← HP.out.2.2.2.2.2.2.2.1, ← HN.out.1]
    exact hLd.two.m
  cases had with
  | false =>
    obtain rfl : th = (T : Int) := (HTH.out.2 rfl).symm
    clear HTH
    go_enter Tryz.func5, Tryz.ntmps5
    go_wp2_with fail
    clear d1 d2 d3 d4 d5 d6
    generalize (w.alloc (.cells #[.int .i64 P, .int .i64 T, .int .i64 G] 23)) = W at *
    have hH : Hid (W.drew.cell? ⟨w.heap.size, 0, none⟩ = some (.int .i64 P) ∧ W.drew.cell? ⟨w.heap.size, 1, none⟩ = some (.int .i64 T)) := ⟨bc0, bc1⟩
    have KA : Hid (∀ (Y : World) (o : Obj), (Y.cell? ⟨w.heap.size, 0, none⟩ = some (.int .i64 P) ∧ Y.cell? ⟨w.heap.size, 1, none⟩ = some (.int .i64 T)) → ((Y.alloc o).cell? ⟨w.heap.size, 0, none⟩ = some (.int .i64 P) ∧ (Y.alloc o).cell? ⟨w.heap.size, 1, none⟩ = some (.int .i64 T))) := fun Y o hs => by
      have hb : Below Y.heap.size Y (Y.alloc o) := (Below.refl _ _).alloc (Nat.le_refl _) _
      have hlt := cell_lt hs.1
      exact ⟨(hb.cell (p := ⟨w.heap.size, 0, none⟩) hlt).trans hs.1, (hb.cell (p := ⟨w.heap.size, 1, none⟩) hlt).trans hs.2⟩
    have KD : Hid (∀ (Y Y' : World), (Y.cell? ⟨w.heap.size, 0, none⟩ = some (.int .i64 P) ∧ Y.cell? ⟨w.heap.size, 1, none⟩ = some (.int .i64 T)) → Below Y.heap.size Y Y' → (Y'.cell? ⟨w.heap.size, 0, none⟩ = some (.int .i64 P) ∧ Y'.cell? ⟨w.heap.size, 1, none⟩ = some (.int .i64 T))) := fun Y Y' hs hb => ⟨(hb.cell (p := ⟨w.heap.size, 0, none⟩) (cell_lt hs.1)).trans hs.1, (hb.cell (p := ⟨w.heap.size, 1, none⟩) (cell_lt hs.1)).trans hs.2⟩
    go_region_held3 (fun w' => w'.cell? ⟨w.heap.size, 0, none⟩ = some (.int .i64 P) ∧ w'.cell? ⟨w.heap.size, 1, none⟩ = some (.int .i64 T)) (first | exact hH.out | assumption | exact KA.out _ _ ‹_› | exact KD.out _ _ ‹_› hbL) (first | (go_at_call 25; refine (HPr.out _ (by omega) _).mono ?_; rintro e w3 ⟨rfl, rfl⟩) | (go_at_call 29; refine (HRi.out _).mono ?_; rintro e w3 ⟨rfl, rfl⟩) | (go_at_call 7; refine (HL.out _).mono ?_; rintro e w1 ⟨cl, A, A', cap, cap', c, b, c', b', rfl, hLd⟩; have hbL := hLd.below))
    all_goals
      have hZ0 : Below W.heap.size W (W.alloc (.cells #[.int .i64 15, .int .u64 T, .int .i64 (lp 0), .int .u64 2, .int .i64 (lp 2), .int .u64 1, .int .i64 rg, .int .u64 1] 73)).drew := ((Below.refl _ _).alloc (Nat.le_refl _) _).drew
      have HK : Hid _ := KEY.out W _ w1 cl A A' cap cap' c b c' b' hZ0 hLd
      have hLM : (moCp T 1 P cl).Laws (moPM true P T) (Rd.lay cl P T 1) T := mo_laws (by omega) (by omega)
      have HGM : Hid ((moCp T 1 P cl).I.Good (moPM true P T)) := CpR.good hLM
      have HST : Hid (Steps (moPM true P T) (moCp T 1 P cl).I (Rd.lay cl P T 1) 20 T) := CpR.steps hLM stepby_mon
      have hN := mo_newF w1 cl P T 1 HK.out.2.2.1 (by omega)
      clear hLd hZ0 hbL HL KEY hH KA KD t3 hLM
      have HBX2 : Hid (Below w.heap.size w W ∧ Blk W w.heap.size #[.int .i64 P, .int .i64 T, .int .i64 G] 23) := HBX.out
      clear HBX bc0 bc1
      go_wp2_with fail
      go_at_call 9; refine hN.mono ?_; rintro e w3 ⟨x, L, rfl, ha1, ha2, ha3, -⟩
      have HS0 : Hid (Solo (moCp T 1 P cl).I (Rd.lay cl P T 1) W w3 A cap c b n (mtS0 P T p false) x (.own .nw moE0) L) := Solo.begin HK.out.2.1 ha2 HK.out.1 HK.out.2.2.2.1 ha1 ha3 HK.out.2.2.1 (fun k hk => by obtain rfl : k = cl := List.mem_singleton.1 hk; exact HK.out.2.2.1.lt) HK.out.2.2.2.2
      have HQ0 : Hid (mtGo P T p false 99 (.own .nw moE0) (mtS0 P T p false) = true ∧ Low (mtS0 P T p false) ((0 : Nat) : Int)) := ⟨mt_go false (by omega) (by omega) (by omega) (by omega) hpp, low_fresh _⟩
      clear hN ha1 ha2 ha3 HK
      go_wp2_with fail
      go_loopw [13] (fun kv wr => ∃ (k : Nat) (t : MoT) (s : St) (L : List Nat), k ≤ 99 ∧ kv = .int .i64 k ∧ Hid (Solo (moCp T 1 P cl).I (Rd.lay cl P T 1) W wr A cap c b n s x t L) ∧ Hid (mtGo P T p false (99 - k) t s = true ∧ Low s (k : Int))) (fun kv _ => 100 - (intOf kv).toNat)
      case atStart => exact ⟨0, _, _, L, by omega, rfl, HS0, HQ0⟩
      case round =>
        clear HS0 HQ0
        obtain ⟨k, t, s, L, hk, rfl, HS, HQ⟩ := hrel
        obtain ⟨j, hj⟩ : ∃ j, 99 - k = j + 1 := by
          cases hz : 99 - k with
          | zero => have h := HQ.out.1; rw [hz] at h; cases h
          | succ j => exact ⟨j, rfl⟩
        have hk1 : (k : Int) < 100 := by omega
        have hk2 : k < 100 := by omega
        have hk3 : decide ((k : Int) < 100) = true := decide_eq_true hk1
        have hps := mo_passesF HS.out.mach
        have HG2 : Hid ((if t.e.D.ps = 0 then mtGo P T p false j ((moPM true P T).goT (mtN P T) t s) ((moPM true P T).goS T (mtN P T) t s) else mtFin P T p false t s) = true) := by
          have h := HQ.out.1
          rw [hj] at h
          exact h
        have HLW : Hid (Low s (k : Int)) := HQ.out.2
        clear HQ
        by_cases h0 : t.e.D.ps = 0
        · have hSt := HS.out.step HGM.out HST.out (fun Y h => h) (fun k hk => hk) HN.out.2.2.1 (HLW.out.more (by omega))
          rw [h0] at hps
          have HQ2 : Hid (mtGo P T p false (99 - (k + 1)) ((moPM true P T).goT n t s) ((moPM true P T).goS T n t s) = true ∧ Low ((moPM true P T).goS T n t s) ((k + 1 : Nat) : Int)) := by
            have h := HG2.out
            rw [if_pos h0] at h
            rw [show 99 - (k + 1) = j by omega, HN.out.1]
            refine ⟨h, ?_⟩
            rw [← HN.out.1]
            exact (PM.goS_low HLW.out).more (by omega)
          have hk9 : k + 1 ≤ 99 := by omega
          clear HS h0 HG2 HLW hj
          go_wp2_with fail
          go_at_call 14; refine hps.mono ?_; rintro e w4 ⟨rfl, rfl⟩
          clear hps
          go_wp2_with fail
          go_at_call 20; refine hSt.mono ?_; rintro e w6 ⟨rfl, L', hS'⟩
          have HS' : Hid _ := hS'
          clear hSt hS'
          go_wp2_with fail
          go_roundw
          case rel => exact ⟨k + 1, _, _, L', hk9, by go_num, HS', HQ2⟩
          case measure => simp [intOf]; omega
        · have HF : Hid (t.e.D.ps = 1 ∧ t.holds = -1 ∧ s.bad = 0 ∧ peekT (mtN P T) s ((20 + 264 * p : Nat) : Int) = (if false then 0 else 2) ∧ peekT (mtN P T) s (wd (20 + P * 264) T 3 ((T : Int) - 1) 1) = if false then (p : Int) + 1 else 0) := by
            have h := HG2.out
            rw [if_neg h0] at h
            unfold mtFin at h
            simp only [Bool.and_eq_true, decide_eq_true_eq] at h
            exact ⟨h.1.1.1.1, h.1.1.1.2, h.1.1.2, h.1.2, h.2⟩
          have hps2 := hps
          rw [HF.out.1] at hps2
          have hpse : Calls Tryz.prog 14 #[.pointer (some ⟨x, 0, none⟩)] wr fun e w' => e = .returned (.int .i64 1) ∧ wr = w' := hps2
          have hpk := peek_any wr A cap c b n s (lp 0) HS.out.mem HN.out.2.2.1
          rw [show peekT n s (lp 0) = (if false then 0 else 2) by rw [HLP.out 0 (by omega), HN.out.1, show (20 : Int) + 264 * (p : Int) + 0 = ((20 + 264 * p : Nat) : Int) by omega]; exact HF.out.2.2.2.1] at hpk
          generalize decide (0 ≤ lp 0 ∧ lp 0 < (n : Int)) = zq at hpk
          have hprc := HPr.out 0 (by omega) wr
          have hth := lthr_any (some ⟨cl, 0, none⟩) P T 1 tm 1 wr (.some cl HS.out.rd) (by omega) (by omega)
          have HXS : Hid (∀ Y, Below wr.heap.size wr Y → Is Y 114 A cap c b n s ∧ (moCp T 1 P cl).I Y x t L) := fun Y hY => ⟨HS.out.mem.below hY, HGM.out.below HS.out.mach hY⟩
          have HBF : Hid (Below w.heap.size w wr ∧ Below W.heap.size W wr) := ⟨HBX2.out.1.trans (HS.out.below.mono HBX2.out.1.size), HS.out.below⟩
          have HTM : Hid (tm = (T : Int) - 1) := HP.out.2.2.2.2.2.2.1
          have bc1 := (HBX2.out.2.but (But.of_below (l := []) HS.out.below) (by simp)).cell 1 (v := .int .i64 T) rfl
          have u1 : ((1 : Int) == 0) = false := rfl
          have p1 : IntKind.u64.wrap (p : Int) = (p : Int) := wrap_u64 (by omega)
          have p2 : IntKind.u64.wrap ((p : Int) + 1) = (p : Int) + 1 := wrap_u64 (by omega)
          have p3 : (((p : Int) + 1) == ((p : Int) + 1)) = true := by simp
          clear HS HLW HG2 hps hps2 h0 hj
          go_wp2_with fail
          go_at_call 14; refine hpse.mono ?_; rintro e w4 ⟨rfl, rfl⟩
          clear hpse
          go_wp2_with fail
          go_at_call 25; refine hprc.mono ?_; rintro e w4 ⟨rfl, rfl⟩
          clear hprc
          go_wp2_with fail
          go_at_call 26; refine hpk.mono ?_; rintro e w4 ⟨rfl, rfl⟩
          clear hpk
          go_wp2_with fail
          go_at_call 30; refine hth.mono ?_; rintro e w4 ⟨rfl, hb4⟩
          obtain ⟨x1, x2⟩ := HXS.out w4 hb4
          have hpk2 := peek_any w4 A cap c b n s (wd (20 + (P : Int) * 264) T 3 tm 1) x1 HN.out.2.2.1
          rw [show peekT n s (wd (20 + (P : Int) * 264) T 3 tm 1) = 0 by rw [HN.out.1, HTM.out]; exact HF.out.2.2.2.2] at hpk2
          generalize decide (0 ≤ wd (20 + (P : Int) * 264) T 3 tm 1 ∧ wd (20 + (P : Int) * 264) T 3 tm 1 < (n : Int)) = zq2 at hpk2
          have hps4 := mo_passesF x2
          rw [HF.out.1] at hps4
          have hhd := mo_handF x2
          rw [HF.out.2.1] at hhd
          have hbd := bad_any w4 _ _ _ _ _ _ x1
          rw [HF.out.2.2.1] at hbd
          have HF4 : Hid (Below w.heap.size w w4) := seq HBF.out.1 hb4
          generalize wd (20 + (P : Int) * 264) T 3 tm 1 = wdt at *
          clear hth hb4 x1 x2 bc1 HXS
          go_wp2_with fail
          go_at_call 26; refine hpk2.mono ?_; rintro e w5 ⟨rfl, rfl⟩
          clear hpk2
          go_wp2_with fail
          go_at_call 14; refine hps4.mono ?_; rintro e w5 ⟨rfl, rfl⟩
          clear hps4
          go_wp2_with fail
          go_at_call 16; refine hhd.mono ?_; rintro e w5 ⟨rfl, rfl⟩
          clear hhd
          go_wp2_with fail
          go_at_call 28; refine hbd.mono ?_; rintro e w5 ⟨rfl, rfl⟩
          clear hbd
          go_wp2_with fail
          go_at_call 8; refine (mon_awake _).mono ?_; rintro e w6 ⟨rfl, h6⟩
          have HF6 : Hid (Below w.heap.size w w6) := seq HF4.out h6
          clear h6
          go_wp2_with fail
          go_ret
          exact ⟨rfl, HF6.out⟩
  | true =>
    obtain rfl : th = tm := (HTH.out.1 rfl).symm
    clear HTH
    go_enter Tryz.func5, Tryz.ntmps5
    go_wp2_with fail
    clear d1 d2 d3 d4 d5 d6
    generalize (w.alloc (.cells #[.int .i64 P, .int .i64 T, .int .i64 G] 23)) = W at *
    have hH : Hid (W.drew.cell? ⟨w.heap.size, 0, none⟩ = some (.int .i64 P) ∧ W.drew.cell? ⟨w.heap.size, 1, none⟩ = some (.int .i64 T)) := ⟨bc0, bc1⟩
    have KA : Hid (∀ (Y : World) (o : Obj), (Y.cell? ⟨w.heap.size, 0, none⟩ = some (.int .i64 P) ∧ Y.cell? ⟨w.heap.size, 1, none⟩ = some (.int .i64 T)) → ((Y.alloc o).cell? ⟨w.heap.size, 0, none⟩ = some (.int .i64 P) ∧ (Y.alloc o).cell? ⟨w.heap.size, 1, none⟩ = some (.int .i64 T))) := fun Y o hs => by
      have hb : Below Y.heap.size Y (Y.alloc o) := (Below.refl _ _).alloc (Nat.le_refl _) _
      have hlt := cell_lt hs.1
      exact ⟨(hb.cell (p := ⟨w.heap.size, 0, none⟩) hlt).trans hs.1, (hb.cell (p := ⟨w.heap.size, 1, none⟩) hlt).trans hs.2⟩
    have KD : Hid (∀ (Y Y' : World), (Y.cell? ⟨w.heap.size, 0, none⟩ = some (.int .i64 P) ∧ Y.cell? ⟨w.heap.size, 1, none⟩ = some (.int .i64 T)) → Below Y.heap.size Y Y' → (Y'.cell? ⟨w.heap.size, 0, none⟩ = some (.int .i64 P) ∧ Y'.cell? ⟨w.heap.size, 1, none⟩ = some (.int .i64 T))) := fun Y Y' hs hb => ⟨(hb.cell (p := ⟨w.heap.size, 0, none⟩) (cell_lt hs.1)).trans hs.1, (hb.cell (p := ⟨w.heap.size, 1, none⟩) (cell_lt hs.1)).trans hs.2⟩
    go_region_held3 (fun w' => w'.cell? ⟨w.heap.size, 0, none⟩ = some (.int .i64 P) ∧ w'.cell? ⟨w.heap.size, 1, none⟩ = some (.int .i64 T)) (first | exact hH.out | assumption | exact KA.out _ _ ‹_› | exact KD.out _ _ ‹_› hbL) (first | (go_at_call 25; refine (HPr.out _ (by omega) _).mono ?_; rintro e w3 ⟨rfl, rfl⟩) | (go_at_call 29; refine (HRi.out _).mono ?_; rintro e w3 ⟨rfl, rfl⟩) | (go_at_call 7; refine (HL.out _).mono ?_; rintro e w1 ⟨cl, A, A', cap, cap', c, b, c', b', rfl, hLd⟩; have hbL := hLd.below))
    all_goals
      have hZ0 : Below W.heap.size W (W.alloc (.cells #[.int .i64 15, .int .u64 th, .int .i64 (lp 0), .int .u64 2, .int .i64 (lp 2), .int .u64 1, .int .i64 rg, .int .u64 1] 73)).drew := ((Below.refl _ _).alloc (Nat.le_refl _) _).drew
      have HK : Hid _ := KEY.out W _ w1 cl A A' cap cap' c b c' b' hZ0 hLd
      have hLM : (moCp T 1 P cl).Laws (moPM true P T) (Rd.lay cl P T 1) T := mo_laws (by omega) (by omega)
      have HGM : Hid ((moCp T 1 P cl).I.Good (moPM true P T)) := CpR.good hLM
      have HST : Hid (Steps (moPM true P T) (moCp T 1 P cl).I (Rd.lay cl P T 1) 20 T) := CpR.steps hLM stepby_mon
      have hN := mo_newF w1 cl P T 1 HK.out.2.2.1 (by omega)
      clear hLd hZ0 hbL HL KEY hH KA KD t3 hLM
      have HBX2 : Hid (Below w.heap.size w W ∧ Blk W w.heap.size #[.int .i64 P, .int .i64 T, .int .i64 G] 23) := HBX.out
      clear HBX bc0 bc1
      go_wp2_with fail
      go_at_call 9; refine hN.mono ?_; rintro e w3 ⟨x, L, rfl, ha1, ha2, ha3, -⟩
      have HS0 : Hid (Solo (moCp T 1 P cl).I (Rd.lay cl P T 1) W w3 A cap c b n (mtS0 P T p true) x (.own .nw moE0) L) := Solo.begin HK.out.2.1 ha2 HK.out.1 HK.out.2.2.2.1 ha1 ha3 HK.out.2.2.1 (fun k hk => by obtain rfl : k = cl := List.mem_singleton.1 hk; exact HK.out.2.2.1.lt) HK.out.2.2.2.2
      have HQ0 : Hid (mtGo P T p true 99 (.own .nw moE0) (mtS0 P T p true) = true ∧ Low (mtS0 P T p true) ((0 : Nat) : Int)) := ⟨mt_go true (by omega) (by omega) (by omega) (by omega) hpp, low_fresh _⟩
      clear hN ha1 ha2 ha3 HK
      go_wp2_with fail
      go_loopw [13] (fun kv wr => ∃ (k : Nat) (t : MoT) (s : St) (L : List Nat), k ≤ 99 ∧ kv = .int .i64 k ∧ Hid (Solo (moCp T 1 P cl).I (Rd.lay cl P T 1) W wr A cap c b n s x t L) ∧ Hid (mtGo P T p true (99 - k) t s = true ∧ Low s (k : Int))) (fun kv _ => 100 - (intOf kv).toNat)
      case atStart => exact ⟨0, _, _, L, by omega, rfl, HS0, HQ0⟩
      case round =>
        clear HS0 HQ0
        obtain ⟨k, t, s, L, hk, rfl, HS, HQ⟩ := hrel
        obtain ⟨j, hj⟩ : ∃ j, 99 - k = j + 1 := by
          cases hz : 99 - k with
          | zero => have h := HQ.out.1; rw [hz] at h; cases h
          | succ j => exact ⟨j, rfl⟩
        have hk1 : (k : Int) < 100 := by omega
        have hk2 : k < 100 := by omega
        have hk3 : decide ((k : Int) < 100) = true := decide_eq_true hk1
        have hps := mo_passesF HS.out.mach
        have HG2 : Hid ((if t.e.D.ps = 0 then mtGo P T p true j ((moPM true P T).goT (mtN P T) t s) ((moPM true P T).goS T (mtN P T) t s) else mtFin P T p true t s) = true) := by
          have h := HQ.out.1
          rw [hj] at h
          exact h
        have HLW : Hid (Low s (k : Int)) := HQ.out.2
        clear HQ
        by_cases h0 : t.e.D.ps = 0
        · have hSt := HS.out.step HGM.out HST.out (fun Y h => h) (fun k hk => hk) HN.out.2.2.1 (HLW.out.more (by omega))
          rw [h0] at hps
          have HQ2 : Hid (mtGo P T p true (99 - (k + 1)) ((moPM true P T).goT n t s) ((moPM true P T).goS T n t s) = true ∧ Low ((moPM true P T).goS T n t s) ((k + 1 : Nat) : Int)) := by
            have h := HG2.out
            rw [if_pos h0] at h
            rw [show 99 - (k + 1) = j by omega, HN.out.1]
            refine ⟨h, ?_⟩
            rw [← HN.out.1]
            exact (PM.goS_low HLW.out).more (by omega)
          have hk9 : k + 1 ≤ 99 := by omega
          clear HS h0 HG2 HLW hj
          go_wp2_with fail
          go_at_call 14; refine hps.mono ?_; rintro e w4 ⟨rfl, rfl⟩
          clear hps
          go_wp2_with fail
          go_at_call 20; refine hSt.mono ?_; rintro e w6 ⟨rfl, L', hS'⟩
          have HS' : Hid _ := hS'
          clear hSt hS'
          go_wp2_with fail
          go_roundw
          case rel => exact ⟨k + 1, _, _, L', hk9, by go_num, HS', HQ2⟩
          case measure => simp [intOf]; omega
        · have HF : Hid (t.e.D.ps = 1 ∧ t.holds = -1 ∧ s.bad = 0 ∧ peekT (mtN P T) s ((20 + 264 * p : Nat) : Int) = (if true then 0 else 2) ∧ peekT (mtN P T) s (wd (20 + P * 264) T 3 ((T : Int) - 1) 1) = if true then (p : Int) + 1 else 0) := by
            have h := HG2.out
            rw [if_neg h0] at h
            unfold mtFin at h
            simp only [Bool.and_eq_true, decide_eq_true_eq] at h
            exact ⟨h.1.1.1.1, h.1.1.1.2, h.1.1.2, h.1.2, h.2⟩
          have hps2 := hps
          rw [HF.out.1] at hps2
          have hpse : Calls Tryz.prog 14 #[.pointer (some ⟨x, 0, none⟩)] wr fun e w' => e = .returned (.int .i64 1) ∧ wr = w' := hps2
          have hpk := peek_any wr A cap c b n s (lp 0) HS.out.mem HN.out.2.2.1
          rw [show peekT n s (lp 0) = (if true then 0 else 2) by rw [HLP.out 0 (by omega), HN.out.1, show (20 : Int) + 264 * (p : Int) + 0 = ((20 + 264 * p : Nat) : Int) by omega]; exact HF.out.2.2.2.1] at hpk
          generalize decide (0 ≤ lp 0 ∧ lp 0 < (n : Int)) = zq at hpk
          have hprc := HPr.out 0 (by omega) wr
          have hth := lthr_any (some ⟨cl, 0, none⟩) P T 1 th 1 wr (.some cl HS.out.rd) (by omega) (by omega)
          have HXS : Hid (∀ Y, Below wr.heap.size wr Y → Is Y 114 A cap c b n s ∧ (moCp T 1 P cl).I Y x t L) := fun Y hY => ⟨HS.out.mem.below hY, HGM.out.below HS.out.mach hY⟩
          have HBF : Hid (Below w.heap.size w wr ∧ Below W.heap.size W wr) := ⟨HBX2.out.1.trans (HS.out.below.mono HBX2.out.1.size), HS.out.below⟩
          have HTM : Hid (th = (T : Int) - 1) := HP.out.2.2.2.2.2.2.1
          have bc1 := (HBX2.out.2.but (But.of_below (l := []) HS.out.below) (by simp)).cell 1 (v := .int .i64 T) rfl
          have u1 : ((1 : Int) == 0) = false := rfl
          have p1 : IntKind.u64.wrap (p : Int) = (p : Int) := wrap_u64 (by omega)
          have p2 : IntKind.u64.wrap ((p : Int) + 1) = (p : Int) + 1 := wrap_u64 (by omega)
          have p3 : (((p : Int) + 1) == ((p : Int) + 1)) = true := by simp
          clear HS HLW HG2 hps hps2 h0 hj
          go_wp2_with fail
          go_at_call 14; refine hpse.mono ?_; rintro e w4 ⟨rfl, rfl⟩
          clear hpse
          go_wp2_with fail
          go_at_call 25; refine hprc.mono ?_; rintro e w4 ⟨rfl, rfl⟩
          clear hprc
          go_wp2_with fail
          go_at_call 26; refine hpk.mono ?_; rintro e w4 ⟨rfl, rfl⟩
          clear hpk
          go_wp2_with fail
          go_at_call 30; refine hth.mono ?_; rintro e w4 ⟨rfl, hb4⟩
          obtain ⟨x1, x2⟩ := HXS.out w4 hb4
          have hpk2 := peek_any w4 A cap c b n s (wd (20 + (P : Int) * 264) T 3 th 1) x1 HN.out.2.2.1
          rw [show peekT n s (wd (20 + (P : Int) * 264) T 3 th 1) = (p : Int) + 1 by rw [HN.out.1, HTM.out]; exact HF.out.2.2.2.2] at hpk2
          generalize decide (0 ≤ wd (20 + (P : Int) * 264) T 3 th 1 ∧ wd (20 + (P : Int) * 264) T 3 th 1 < (n : Int)) = zq2 at hpk2
          have hps4 := mo_passesF x2
          rw [HF.out.1] at hps4
          have hhd := mo_handF x2
          rw [HF.out.2.1] at hhd
          have hbd := bad_any w4 _ _ _ _ _ _ x1
          rw [HF.out.2.2.1] at hbd
          have HF4 : Hid (Below w.heap.size w w4) := seq HBF.out.1 hb4
          generalize wd (20 + (P : Int) * 264) T 3 th 1 = wdt at *
          clear hth hb4 x1 x2 bc1 HXS
          go_wp2_with fail
          go_at_call 26; refine hpk2.mono ?_; rintro e w5 ⟨rfl, rfl⟩
          clear hpk2
          go_wp2_with fail
          go_at_call 14; refine hps4.mono ?_; rintro e w5 ⟨rfl, rfl⟩
          clear hps4
          go_wp2_with fail
          go_at_call 16; refine hhd.mono ?_; rintro e w5 ⟨rfl, rfl⟩
          clear hhd
          go_wp2_with fail
          go_at_call 28; refine hbd.mono ?_; rintro e w5 ⟨rfl, rfl⟩
          clear hbd
          go_wp2_with fail
          go_at_call 8; refine (mon_awake _).mono ?_; rintro e w6 ⟨rfl, h6⟩
          have HF6 : Hid (Below w.heap.size w w6) := seq HF4.out h6
          clear h6
          go_wp2_with fail
          go_ret
          exact ⟨rfl, HF6.out⟩
theorem monTakes_walk (P T G p : Int) (had : Bool) (w : World) :
    Calls Tryz.prog 5 #[.agg #[.int .i64 P, .int .i64 T, .int .i64 G], .int .i64 p, .bool had] w fun e w' => e = .returned (.bool true) ∧ Below w.heap.size w w' := by
  by_cases h : 1 ≤ P ∧ P ≤ 4 ∧ P < T ∧ T ≤ 8 ∧ 0 ≤ p ∧ p < P
  · obtain ⟨Pn, rfl⟩ := Int.eq_ofNat_of_zero_le (show 0 ≤ P by omega)
    obtain ⟨Tn, rfl⟩ := Int.eq_ofNat_of_zero_le (show 0 ≤ T by omega)
    obtain ⟨pn, rfl⟩ := Int.eq_ofNat_of_zero_le (show 0 ≤ p by omega)
    exact monTakes_ok Pn Tn pn G had w (by omega) (by omega) (by omega)
  · exact monTakes_bad P T G p had w h
end Go.Proofs.YthjfbknmdligeaaGreat

namespace Go.Proofs.YthjfbknmdligeaaGreat
open Go Go.ChangeShapes Go.WideShapes Go.ChangeAt Go.RowKit

theorem below_trodAll {H : Type} {enc : TypeId × Value → H} {P : Program} (hl : laidOutB P = true) {W W' : World} (hb : Below W.heap.size W W') :
    ∀ (ts : List TypeId) (vs : List Value) (ds : List (DataW H)) (ps : List MemPlace), (ts.all fun t => P.readableRec t && decide (t < P.types.size)) = true →
      DataW.TrodAll enc P W 0 (fun _ => true) true ts vs ds ps → DataW.TrodAll enc P W' 0 (fun b => decide (b < W.heap.size)) true ts vs ds ps := by
  intro ts
  induction ts with
  | nil =>
    intro vs ds ps _ h
    cases vs <;> cases ds <;> first | exact h | exact (h : False).elim
  | cons t ts ih =>
    intro vs ds ps hall h
    cases vs with
    | nil => exact (h : False).elim
    | cons v vs =>
      cases ds with
      | nil => exact (h : False).elim
      | cons d ds =>
        obtain ⟨p, q, h1, h2, rfl⟩ := h
        simp only [List.all_cons, Bool.and_eq_true, decide_eq_true_eq] at hall
        have lt : ∀ x ∈ p, x.block < W.heap.size := by obtain ⟨m, hm⟩ := h1; exact DataW.trod_lt m _ _ _ hm
        exact ⟨p, q, Below.trod hl hall.1.1 hall.1.2 h1 hb lt, ih vs ds q hall.2 h2, rfl⟩

theorem law_post {H : Type} {enc : TypeId × Value → H} {P : Program} {f : Func} {s : ChangeSpec} {apart : Bool} {W W' : World} {args : Array Value} {ds gs : List (DataW H)} {before : List MemPlace} {bt : TypeId}
    (hl : laidOutB P = true) (hr : f.resultTypes.toList = [bt]) (hbt : P.underlying bt = some .bool) (hts : (f.params.toList.all fun t => P.readableRec t && decide (t < P.types.size)) = true)
    (hvars : s.vars = []) (hres : (s.fn H ds).results = [.lit (.bool true)]) (harg : (s.fn H ds).args = ds) (hvs : (s.fn H ds).vars = [])
    (hW : DataW.Whole enc P f.params.toList s.vars apart W args.toList ds gs before) (hb : Below W.heap.size W W') :
    s.post enc P f apart true false false W args (.bool true) W' := by
  have hW' := hW
  obtain ⟨p, q, hA, hV, rfl, hfz, hnd⟩ := hW
  have hg : gs = [] ∧ q = [] := by rw [hvars] at hV; exact trodVars_none hV
  obtain ⟨rfl, rfl⟩ := hg
  refine ⟨ds, [], _, [], p, [], hW', ?_, ?_, ?_, hb.frame _, fun h => by cases h⟩
  · have e : (Value.bool true).resultList f.resultTypes.size = [.bool true] := by
      have hs : f.resultTypes.size = 1 := by rw [← Array.length_toList, hr]; rfl
      rw [hs]; rfl
    rw [List.append_nil, hres, hr, e]
    exact trodAll_mk1 (shut_bool hbt _)
  · rw [List.append_nil, harg]
    exact below_trodAll hl hb _ _ _ _ hts hA
  · rw [List.append_nil, hvs, hvars]
    rfl
end Go.Proofs.YthjfbknmdligeaaGreat

namespace Go.Proofs.YthjfbknmdligeaaGreat
open Go Go.ChangeShapes Go.WideShapes Go.ChangeAt Go.RowKit Go.Joins
set_option linter.unusedVariables false
set_option linter.unusedSimpArgs false

theorem own_monTakes : ownKnob Tryz.prog.godebug = none := by kernel_rfl
theorem laidOut_monTakes : laidOutB Tryz.prog = true := by kernel_rfl

set_option maxRecDepth 100000 in
theorem lifted_monTakes (os : Os) (started : os.Started) (H : Type) (enc : TypeId × Value → H) :
    ReturnsInHanded {} Tryz.checked os 5 .any (Rows.monTakesSpec.pre6 enc Tryz.prog Tryz.f5 Rows.monTakesRow.domain false) (Rows.monTakesSpec.post enc Tryz.prog Tryz.f5 false true false false) := by
  refine returnsInHanded_of_change (C := Tryz.checked) own_monTakes started (by kernel_rfl) Tryz.func5
    (ChangeSpec.witness6 (enc := enc) (C := Tryz.checked) false ⟨#[], #[.agg #[.int .i64 0, .int .i64 0, .int .i64 0], .int .i64 0, .bool false], []⟩ 8 (by kernel_rfl) (by kernel_rfl) (by kernel_rfl) (by kernel_rfl)) ?_
  intro W base args ds gs before hval0 hW hcnd _
  have hval : ∀ (j : Nat) t v, Tryz.f5.params[j]? = some t → args[j]? = some v → Value.okWide Tryz.prog W .any base t v := hval0
  have hW' := hW
  obtain ⟨p, q, hA0, hV, rfl, hfz, hnd⟩ := hW
  have hA : DataW.TrodAll enc Tryz.prog W 0 (fun _ => true) true Tryz.f5.params.toList args.toList ds p := hA0
  rw [Tryz.params5] at hA hval
  obtain ⟨v0, vs0, d0, ds0, p0, q0, hargs, rfl, rfl, h0, r0⟩ := trodAll_cons hA
  obtain ⟨v1, vs1, d1, ds1, p1, q1, rfl, rfl, rfl, h1, r1⟩ := trodAll_cons r0
  obtain ⟨v2, vs2, d2, ds2, p2, q2, rfl, rfl, rfl, h2, r2⟩ := trodAll_cons r1
  obtain ⟨rfl, rfl, rfl⟩ := trodAll_nil r2
  obtain rfl : args = #[v0, v1, v2] := by cases args; simp_all
  obtain ⟨P, T, G, rfl, cx0, cx1, cx2⟩ := open_cfg Tryz.underlying23 (by kernel_rfl) (by kernel_rfl) Tryz.underlying3 Tryz.underlying3 Tryz.underlying3 (hval 0 23 v0 rfl rfl) h0
  obtain ⟨p, rfl, rfl, rfl, wxp⟩ := open_int Tryz.underlying3 (hval 1 3 v1 rfl rfl) h1
  obtain ⟨b, rfl, rfl, rfl⟩ := open_bool Tryz.underlying4 (hval 2 4 v2 rfl rfl) h2
  clear hA0 hval0
  refine (monTakes_walk P T G p b W).mono fun e W' ⟨he, hb⟩ => ?_
  subst he
  exact ⟨_, rfl, law_post laidOut_monTakes rfl Tryz.underlying4 (by kernel_rfl) rfl rfl rfl rfl hW' hb⟩

theorem monTakes_holds : Rows.MonTakesSaid :=
  OpenClaim.holds_of_wide 5 Tryz.f5 rfl rfl rfl rfl rfl rfl rfl ⟨rfl, rfl, rfl, rfl, rfl⟩ rfl rfl rfl rfl rfl (by kernel_rfl) Tryz.func5 (by kernel_rfl)
    (of_decide_eq_true (by kernel_rfl)) (by unfold Func.isWrapper; first | (rw [if_pos (by decide +kernel)]; kernel_rfl) | (rw [if_neg (by decide +kernel)]; exact ⟨rfl, rfl⟩))
    (fun os started H enc _ => lifted_monTakes os started H enc)
#print axioms monTakes_holds
end Go.Proofs.YthjfbknmdligeaaGreat
