/- The monitor's Row, and the law's rows. -/
import Derived.Test.YthjfbknmdligeaaGreatTQA
import Derived.Test.YthjfbknmdligeaaGreatTQC
import Derived.Test.YthjfbknmdligeaaGreatTQB
import Derived.Test.YthjfbknmdligeaaGreatIl0
import Derived.Test.YthjfbknmdligeaaGreatIp1
import Derived.Test.YthjfbknmdligeaaGreatIm2
import Derived.Test.YthjfbknmdligeaaGreatPm
namespace Go.Proofs.YthjfbknmdligeaaGreat
open Go Go.RowKit
set_option linter.unusedVariables false
set_option maxRecDepth 100000
set_option linter.unusedSimpArgs false

def moI (who : Int) (cl r P : Nat) : MI (MoP × MoD) := fun w x t L => ∃ q Lc, Blk w x (moCells who (some ⟨q, 0, none⟩) cl r P t.2) 98 ∧ Com w x q (moAx P t.2.p t.1) (moFol t.1) Lc ∧ RwAt w r (4 * P) t.2.f ∧ x ∉ Lc ∧ r ∉ Lc ∧ x ≠ r ∧ L = x :: r :: Lc
theorem moI_good (who : Int) (cl r P : Nat) : ∀ {w w' : World} {x : Nat} {t : MoP × MoD} {L l : List Nat}, moI who cl r P w x t L → But l w w' → (∀ k ∈ L, k ∉ l) → moI who cl r P w' x t L := by
  rintro w w' x t L l ⟨q, Lc, h1, h2, h3, h4, h5, h6, rfl⟩ hb hk
  exact ⟨q, Lc, h1.but hb (hk x (by simp)), h2.but hb (fun k hm => hk k (by simp [hm])), h3.but hb (hk r (by simp)), h4, h5, h6, rfl⟩
theorem moI_lt {who : Int} {cl r P : Nat} {w : World} {x : Nat} {t : MoP × MoD} {L : List Nat} (h : moI who cl r P w x t L) : ∀ k ∈ L, k < w.heap.size := by
  obtain ⟨q, Lc, h1, h2, h3, h4, h5, h6, rfl⟩ := h
  intro k hk
  simp only [List.mem_cons] at hk
  rcases hk with rfl | rfl | hk
  · exact h1.lt
  · exact h3.lt
  · exact h2.lt k hk
theorem MoLand.mach {who : Int} {cl r P : Nat} {W w' : World} {x : Nat} {s : MoP × MoD} (h : MoLand who cl r P W w' x s) (hx : x < W.heap.size) (hr : r < W.heap.size) (hxr : x ≠ r) : (∃ L', moI who cl r P w' x s L' ∧ ∀ k ∈ L', k = x ∨ k = r ∨ W.heap.size ≤ k) ∧ But [x, r] W w' ∧ ∃ q, w'.cell? ⟨x, 1, none⟩ = some (.pointer (some ⟨q, 0, none⟩)) := by
  obtain ⟨V, hb, hv, q, Lc, h1, h2, h3, h4⟩ := h
  have hsz := hb.size
  have hlt := hv.lt
  refine ⟨⟨x :: r :: Lc, ⟨q, Lc, h1, h2, hv.but h3 (by simpa using hxr.symm), fun hm => ?_, fun hm => ?_, hxr, rfl⟩, fun k hk => ?_⟩, hb.trans (h3.more (by intro k _ hk; simp at hk ⊢; exact .inl hk)), q, h1.cell 1 rfl⟩
  · have := h4 x hm; omega
  · have := h4 r hm; omega
  · simp only [List.mem_cons] at hk
    rcases hk with rfl | rfl | hk
    · exact .inl rfl
    · exact .inr (.inl rfl)
    · exact .inr (.inr (Nat.le_trans hsz (h4 k hk)))
theorem stepby_mon2 : StepBy 20 := by
  intro w x mv M h
  go_enter Tryz.func20, Tryz.ntmps20
  go_wp2_with fail
  go_at_call 52; refine h.mono ?_; rintro e w1 ⟨z, rfl, h1⟩
  go_wp2_with fail
  go_ret
  exact ⟨z, rfl, h1⟩
theorem mo_axok (P p : Nat) : ∀ ph, (moAx P p ph).Ok ∧ (moAx P p ph).sl = false ∧ (moFol ph).Ents
  | .nw => ⟨axLd_ok _, rfl, (fun args w => by kernel_rfl : Ent _)⟩
  | .st => ⟨axLd_ok _, rfl, (fun args w => by kernel_rfl : Ent _)⟩
  | .tu => ⟨axLd_ok _, rfl, (fun args w => by kernel_rfl : Ent _)⟩
  | .pr => ⟨axSt_ok _ _ (by omega), rfl, (fun args w => by kernel_rfl : Ent _)⟩
  | .ca => ⟨axLd_ok _, rfl, (fun args w => by kernel_rfl : Ent _)⟩
  | .sp => ⟨axLd_ok _, rfl, (fun args w => by kernel_rfl : Ent _)⟩
  | .ip => ⟨axLd_ok _, rfl, (fun args w => by kernel_rfl : Ent _)⟩
  | .im => ⟨axLd_ok _, rfl, (fun args w => by kernel_rfl : Ent _)⟩
  | .th => ⟨axLd_ok _, rfl, (fun args w => by kernel_rfl : Ent _)⟩
  | .ip2 => ⟨axLd_ok _, rfl, (fun args w => by kernel_rfl : Ent _)⟩
  | .sw => ⟨axSw_ok _ _ _ (by omega), rfl, (fun args w => by kernel_rfl : Ent _)⟩
  | .ad => ⟨axAd_ok _ _ (by omega), rfl, (fun args w => by kernel_rfl : Ent _)⟩
/-- A step of its own, whatever follows. -/
theorem mo_step_any {who T G : Int} {cl r P : Nat} {w : World} {A : Option Addr} {cp cm b n : Nat} {s : St} {x : Nat} {t t' : MoP × MoD} {L : List Nat} (hi : moI who cl r P w x t L) (hR : Lay w cl P T G) (hI : Is w 114 A cp cm b n s) (hn : n ≤ 1000000) (hl : Low s 1000000) (hf : ∀ k ∈ L, k ≠ cm ∧ k ≠ b ∧ k ≠ cl) (hcb : cm ≠ cl ∧ b ≠ cl)
    (hfol : ∀ W, Blk W x (moCells who none cl r P t.2) 98 → RwAt W r (4 * P) t.2.f → Lay W cl P T G → FolC W x (moFol t.1) (actA (moAx P t.2.p t.1).k (moAx P t.2.p t.1).i (moAx P t.2.p t.1).old (moAx P t.2.p t.1).new n s) (fun w' => MoLand who cl r P W w' x t')) :
    Calls Tryz.prog 20 #[.pointer (some ⟨x, 0, none⟩), .pointer (some ⟨cm, 0, none⟩)] w fun e w' => e = .returned (.bool false) ∧ ∃ L', moI who cl r P w' x t' L' ∧ Is w' 114 A cp cm b n (actS (moAx P t.2.p t.1).k who (moAx P t.2.p t.1).i (moAx P t.2.p t.1).old (moAx P t.2.p t.1).new n s) ∧ But (cm :: b :: L) w w' ∧ ∀ k ∈ L', k ∈ L ∨ w.heap.size ≤ k := by
  obtain ⟨q, Lc, h1, h2, h3, h4, h5, h6, rfl⟩ := hi
  obtain ⟨ok1, ok2, ok3⟩ := mo_axok P t.2.p t.1
  generalize moAx P t.2.p t.1 = a at *
  have hx := hf x (by simp)
  have hr := hf r (by simp)
  refine stepby_mon2.to (R := fun nx w' => nx.isNone = false ∧ ∃ L', moI who cl r P w' x t' L' ∧ Is w' 114 A cp cm b n (actS a.k who a.i a.old a.new n s) ∧ But (cm :: b :: x :: r :: Lc) w w' ∧ ∀ k ∈ L', k ∈ x :: r :: Lc ∨ w.heap.size ≤ k) ?_ (fun nx w' h => h)
  refine acc_step w A cp cm b n s hI hn hl x q _ 98 who a (moFol t.1) Lc h1 rfl rfl h2 ok1 ok3 ⟨hx.1, hx.2.1⟩ h4 (fun k hk => ⟨(hf k (by simp [hk])).1, (hf k (by simp [hk])).2.1⟩) _ ?_
  intro W hW hIW hB
  have hW' : Blk W x (moCells who none cl r P t.2) 98 := hW
  have hrW : RwAt W r (4 * P) t.2.f := h3.but hB (by simp; exact ⟨hr.1, hr.2.1, h6.symm⟩)
  have hlW : Lay W cl P T G := (hB.block cl hR.lt (by simp; exact ⟨hcb.1.symm, hcb.2.symm, hx.2.2.symm⟩)).trans hR
  refine (hfol W hW' hrW hlW).mono ?_
  intro w' hl'
  obtain ⟨⟨L', g1, g2⟩, g3, q', g4⟩ := hl'.mach hW'.lt hrW.lt h6
  refine ⟨_, g4, rfl, L', g1, hIW.but g3 (by simp; exact ⟨hx.1.symm, hr.1.symm⟩) (by simp; exact ⟨hx.2.1.symm, hr.2.1.symm⟩), ?_, fun k hk => ?_⟩
  · exact (hB.more (by intro k _ hk; simp at hk ⊢; omega)).trans (g3.more (by intro k _ hk; simp at hk ⊢; omega))
  · rcases g2 k hk with rfl | rfl | g2
    · exact .inl (by simp)
    · exact .inl (by simp)
    · exact .inr (Nat.le_trans hB.size g2)
/-- A step of a machine over a memory that is known, apart. -/
theorem Solo.step_of {σ : Type} {I : MI σ} {R : Rd} {W0 w : World} {A : Option Addr} {cap c b n : Nat} {s s' : St} {x : Nat} {t t' : σ} {L : List Nat} {F : Nat} {z : Bool} (h : Solo I R W0 w A cap c b n s x t L)
    (hS : Calls Tryz.prog F #[.pointer (some ⟨x, 0, none⟩), .pointer (some ⟨c, 0, none⟩)] w fun e w' => e = .returned (.bool z) ∧ ∃ L', I w' x t' L' ∧ Is w' 114 A cap c b n s' ∧ But (c :: b :: L) w w' ∧ ∀ k ∈ L', k ∈ L ∨ w.heap.size ≤ k) :
    Calls Tryz.prog F #[.pointer (some ⟨x, 0, none⟩), .pointer (some ⟨c, 0, none⟩)] w fun e w' => e = .returned (.bool z) ∧ ∃ L', Solo I R W0 w' A cap c b n s' x t' L' := by
  refine hS.mono ?_
  rintro e w' ⟨rfl, L', a1, a2, a3, a4⟩
  have hsz := h.below.size
  have k1 := h.mem.lt
  have k2 := h.mem.bl
  refine ⟨rfl, L', a2, a1, R.keep _ _ _ h.rd a3 (fun k hk => ?_), fun k hk => ?_, h.rfar, ⟨h.up.1, h.up.2.1, fun k hk => ?_⟩, fun k hk => Nat.lt_of_lt_of_le (h.rlt k hk) a3.size, h.below.trans (a3.below ?_ hsz)⟩
  · simp only [List.mem_cons, not_or]
    exact ⟨fun e => h.rfar.1 (e ▸ hk), fun e => h.rfar.2 (e ▸ hk), fun hm => (h.far k hm).2.2 hk⟩
  · rcases a4 k hk with h1 | h1
    · exact h.far k h1
    · exact ⟨by omega, by omega, fun hr => by have := h.rlt k hr; omega⟩
  · rcases a4 k hk with h1 | h1
    · exact h.up.2.2 k h1
    · omega
  · intro k hk
    simp only [List.mem_cons] at hk
    rcases hk with rfl | rfl | hk
    · exact h.up.1
    · exact h.up.2.1
    · exact h.up.2.2 k hk
/-- Where it may be, as long as nobody is in a system call. -/
structure MoOk (P : Nat) (t : MoP × MoD) : Prop where
  ph : t.1 = .nw ∨ ((t.1 = .st ∨ t.1 = .tu ∨ t.1 = .pr) ∧ t.2.p < P)
  f : ∀ i, 0 ≤ t.2.f i ∧ t.2.f i ≤ 18446744073709551615
  nw : 0 ≤ t.2.nw ∧ t.2.nw ≤ 18446744073709551615
def moNx (P : Nat) : MoP × MoD → Int → MoP × MoD
  | (.nw, d), v => moFirst P d v
  | (.st, d), v => moJudge P d v
  | (.tu, d), v => moTurns P d v
  | (.pr, d), _ => moLate P d
  | t, _ => t
theorem mo_fol {who T G : Int} {cl r P : Nat} {W : World} {x : Nat} {t : MoP × MoD} {v : Int} (ht : MoOk P t) (hv : 0 ≤ v ∧ v ≤ 18446744073709551615) (hp : (P : Int) ≤ 64) (hcx : cl ≠ x) (hcr : cl ≠ r) (hxr : x ≠ r) (h : Blk W x (moCells who none cl r P t.2) 98) (hr : RwAt W r (4 * P) t.2.f) (hl : Lay W cl P T G) : FolC W x (moFol t.1) v (fun w' => MoLand who cl r P W w' x (moNx P t v)) := by
  obtain ⟨ph, d⟩ := t
  rcases ht.ph with h1 | ⟨h1 | h1 | h1, h2⟩
  · obtain rfl : ph = .nw := h1
    exact mo_first W x cl r P T G who d h hr hl hcx hcr hxr hp v
  · obtain rfl : ph = .st := h1
    exact mo_judge W x cl r P T G who d h hr hl hcx hcr hxr hp v (by have h2' : d.p < P := h2; omega)
  · obtain rfl : ph = .tu := h1
    exact mo_seeTurns W x cl r P T G who d h hr hl hcx hcr hxr hp v hv h2 ht.f ht.nw
  · obtain rfl : ph = .pr := h1
    exact mo_beLate W x cl r P T G who d h hr hl hcx hcr hxr hp (by have h2' : d.p < P := h2; omega)
/-- A step over a memory, apart. -/
theorem mo_solo {who T G : Int} {cl r P : Nat} {R : Rd} {W0 w : World} {A : Option Addr} {cap c b n : Nat} {s : St} {x : Nat} {t : MoP × MoD} {L : List Nat} (h : Solo (moI who cl r P) R W0 w A cap c b n s x t L) (hRl : ∀ w, R.P w → Lay w cl P T G) (hRb : cl ∈ R.B) (ht : MoOk P t) (hp : (P : Int) ≤ 64) (hn : n ≤ 1000000) (hl : Low s 1000000) :
    Calls Tryz.prog 20 #[.pointer (some ⟨x, 0, none⟩), .pointer (some ⟨c, 0, none⟩)] w fun e w' => e = .returned (.bool false) ∧ ∃ L', Solo (moI who cl r P) R W0 w' A cap c b n (actS (moAx P t.2.p t.1).k who (moAx P t.2.p t.1).i (moAx P t.2.p t.1).old (moAx P t.2.p t.1).new n s) x (moNx P t (actA (moAx P t.2.p t.1).k (moAx P t.2.p t.1).i (moAx P t.2.p t.1).old (moAx P t.2.p t.1).new n s)) L' := by
  have hk : ∀ k ∈ L, k ≠ c ∧ k ≠ b ∧ k ≠ cl := fun k hk => ⟨(h.far k hk).1, (h.far k hk).2.1, fun e => (h.far k hk).2.2 (e ▸ hRb)⟩
  have hc : c ≠ cl ∧ b ≠ cl := ⟨fun e => h.rfar.1 (e ▸ hRb), fun e => h.rfar.2 (e ▸ hRb)⟩
  have hm := h.mach
  obtain ⟨q, Lc, h1, h2, h3, h4, h5, h6, e0⟩ := hm
  have hx := hk x (by rw [e0]; simp)
  have hr := hk r (by rw [e0]; simp)
  exact h.step_of (mo_step_any h.mach (hRl _ h.rd) h.mem hn hl hk hc (fun W a1 a2 a3 => mo_fol ht (actA_bd h.mem _ _ _ _) hp hx.2.2.symm hr.2.2.symm h6 a1 a2 a3))
end Go.Proofs.YthjfbknmdligeaaGreat

namespace Go.Proofs.YthjfbknmdligeaaGreat
open Go Go.RowKit
set_option linter.unusedVariables false
set_option maxRecDepth 100000
set_option linter.unusedSimpArgs false
set_option linter.unusedSectionVars false

theorem CpR.Land.more {σ : Type} {C : CpR σ} {W w' : World} {x : Nat} {t : σ} {Le Le2 : List Nat} (h : C.Land W w' x t Le) (hs : ∀ k ∈ Le, k ∈ Le2) : C.Land W w' x t Le2 := by
  obtain ⟨h1, L', h2, h3⟩ := h
  refine ⟨h1.more (fun k _ hk => ?_), L', h2, fun k hk => ?_⟩
  · simp only [List.mem_cons] at hk ⊢
    rcases hk with h | h
    · exact .inl h
    · exact .inr (hs k h)
  · rcases h3 k hk with h | h | h
    · exact .inl h
    · exact .inr (.inl (hs k h))
    · exact .inr (.inr h)
section
variable {T G : Int} {P cl : Nat} {e : MoE} {es : List Nat} {w w' : World} {l Lh Le : List Nat} {x : Nat}
theorem kept_keep (hp : (P : Int) ≤ 64) (hT : 0 ≤ T ∧ T ≤ 65536) (h : moKept T G P cl e es w Lh) (hb : But l w w') (hk : ∀ k ∈ Lh, k ∉ l) : moKept T G P cl e es w' Lh := by
  unfold moKept at h ⊢
  cases hv : e.hv with
  | none => rw [hv] at h; exact h
  | some q =>
    obtain ⟨p, s⟩ := q
    rw [hv] at h
    exact (Cp.good (hv_laws (by omega) ⟨by omega, hp⟩ hT)).keep h hb hk
theorem kept_lt (hp : (P : Int) ≤ 64) (hT : 0 ≤ T ∧ T ≤ 65536) (h : moKept T G P cl e es w Lh) : ∀ k ∈ Lh, k < w.heap.size := by
  unfold moKept at h
  cases hv : e.hv with
  | none => rw [hv] at h; rw [show Lh = [] from h]; intro k hk; cases hk
  | some q =>
    obtain ⟨p, s⟩ := q
    rw [hv] at h
    exact (Cp.good (hv_laws (by omega) ⟨by omega, hp⟩ hT)).lt h
theorem MoExt.keep (hp : (P : Int) ≤ 64) (hT : 0 ≤ T ∧ T ≤ 65536) (h : MoExt T G P cl e es w Le) (hb : But l w w') (hk : ∀ k ∈ Le, k ∉ l) : MoExt T G P cl e es w' Le := by
  obtain ⟨⟨Lh, rfl, h1, h2⟩, h3, h4⟩ := h
  exact ⟨⟨Lh, rfl, h1, kept_keep hp hT h2 hb (fun k hm => hk k (by simp [hm]))⟩, h3.but hb (hk _ (by simp)), h4⟩
theorem MoExt.lt (hp : (P : Int) ≤ 64) (hT : 0 ≤ T ∧ T ≤ 65536) (h : MoExt T G P cl e es w Le) : ∀ k ∈ Le, k < w.heap.size := by
  obtain ⟨⟨Lh, rfl, h1, h2⟩, h3, h4⟩ := h
  intro k hk
  rcases List.mem_cons.1 hk with rfl | hk
  · exact h3.lt
  · exact kept_lt hp hT h2 k hk
theorem MoExt.mem (h : MoExt T G P cl e es w Le) : es.getD 0 0 ∈ Le := by
  obtain ⟨⟨Lh, rfl, h1, h2⟩, h3, h4⟩ := h
  simp
/-- An access of its own comes: it has landed. -/
theorem mo_go {S : MoP × MoD} (hp : (P : Int) ≤ 64) (hT : 0 ≤ T ∧ T ≤ 65536) (hL : MoLand T cl (es.getD 0 0) P w w' x (setS S (moLK e es) (moOV e.hv.isSome es))) (he : MoExt T G P cl e es w Le) (hxe : x ∉ Le) (hS : MoFine P S) (hlt : x < w.heap.size) : (moCp T G P cl).Land w w' x (moFold true S e) Le := by
  rw [moFold_true]
  obtain ⟨V, hb, hv, hC⟩ := hL
  have hlts := he.lt hp hT
  obtain ⟨⟨Lh, rfl, hrL, hK⟩, hrow, hne⟩ := he
  have hxr : x ≠ es.getD 0 0 := fun h => hxe (by simp [h])
  have hxL : x ∉ Lh := fun h => hxe (by simp [h])
  have hCb : But [x] V w' := hC.but
  have hB : But [x, es.getD 0 0] w w' := hb.trans (hCb.more (by intro k _ hk; simp at hk ⊢; exact .inl hk))
  refine CpR.lnd_acc (C := moCp T G P cl) (s := .own S.1 { e with D := S.2 }) (es := es) (Le' := es.getD 0 0 :: Lh) (hb.more (by intro k _ hk; simp only [List.mem_cons, List.not_mem_nil, or_false] at hk ⊢; rcases hk with h | h; exact .inl h; exact .inr (.inl h))) hC (fun _ => rfl) (MoFine.ok (T := T) (G := G) (cl := cl) hS e) rfl hlt ⟨⟨Lh, rfl, hrL, ?_⟩, hv.but hCb (by simpa using hxr.symm), hne⟩ hxe (fun k hk => ⟨hk, hlts k hk⟩)
  exact kept_keep (e := e) hp hT hK hB (fun k hk => by simp only [List.mem_cons, List.not_mem_nil, or_false, not_or]; exact ⟨fun h => hxL (h ▸ hk), fun h => hrL (h ▸ hk)⟩)
theorem mo_run {S : Sub} {af : After} {pt : S.τ} {s : MoT} (hp : (P : Int) ≤ 64) (hT : 0 ≤ T ∧ T ≤ 65536) (hR : RunNew S pt w w' x ((moCp T G P cl).cells s es none) 98 (af.fol.box x)) (hk : (moCp T G P cl).kind s = .run S pt af) (hok : moOk T G P cl s) (htie : ∀ y, (moCp T G P cl).tie s es y) (he : MoExt T G P cl s.e es w Le) (hxe : x ∉ Le) (hlt : x < w.heap.size) : (moCp T G P cl).Land w w' x s Le :=
  CpR.lnd_run (C := moCp T G P cl) (s := s) (es := es) (Le' := Le) (But.refl _ _) hR (fun _ => rfl) hok hk htie hlt (he.keep hp hT hR.but (fun k hk => by simp; rintro rfl; exact hxe hk)) hxe (fun k hk => ⟨hk, he.lt hp hT k hk⟩)
end
section
variable {T G : Int} {P cl : Nat}
theorem mo_on {s : MoT} {v : Int} {S : Sub} {q : S.τ} {af : After} (hp : (P : Int) ≤ 64) (hT : 0 ≤ T ∧ T ≤ 65536) (hv : 0 ≤ v ∧ v ≤ 18446744073709551615) (hok : moOk T G P cl s) (hk : (moCp T G P cl).kind s = .run S q af) (hs : (S.M.ax (S.M.nx q v)).isSome = true) :
    (moCp T G P cl).ok ((moPM true P T).nx s v) ∧ (moCp T G P cl).kind ((moPM true P T).nx s v) = .run S (S.M.nx q v) af ∧ (∀ es, (moCp T G P cl).cells ((moPM true P T).nx s v) es = (moCp T G P cl).cells s es) ∧ (∀ es w Le, (moCp T G P cl).ext s es w Le → (moCp T G P cl).ext ((moPM true P T).nx s v) es w Le) ∧ (∀ es y, (moCp T G P cl).tie s es y → (moCp T G P cl).tie ((moPM true P T).nx s v) es y) := by
  cases s with
  | own ph e => cases hk
  | en e => cases hk
  | lk l e =>
    cases hk
    have e0 : (moPM true P T).nx (.lk l e) v = .lk ((loPM P e.D.p).nx l v) e := if_pos hs
    rw [e0]
    exact ⟨⟨hok.1, hok.2.1, hs, hok.2.2.2⟩, rfl, fun _ => rfl, fun _ _ _ h => h, fun _ _ h => h⟩
  | acq a e =>
    cases hk
    have e0 : (moPM true P T).nx (.acq a e) v = .acq ((acqPM (wd 0 2 3 0 0) (wd 0 2 3 0 1) (wd 0 2 3 0 2) T).nx a v) e := if_pos hs
    rw [e0]
    exact ⟨⟨hok.1, hok.2.1, hs⟩, rfl, fun _ => rfl, fun _ _ _ h => h, fun _ _ h => h⟩
  | relN r e =>
    cases hk
    have e0 : (moPM true P T).nx (.relN r e) v = .relN ((relPM (wd 0 2 3 0 1) (wd 0 2 3 0 2)).nx r v) e := if_pos hs
    rw [e0]
    exact ⟨⟨hok.1, hok.2.1, hs⟩, rfl, fun _ => rfl, fun _ _ _ h => h, fun _ _ h => h⟩
  | relT r e =>
    cases hk
    have e0 : (moPM true P T).nx (.relT r e) v = .relT ((relPM (wd 0 2 3 0 1) (wd 0 2 3 0 2)).nx r v) e := if_pos hs
    rw [e0]
    exact ⟨⟨hok.1, hok.2.1, hs⟩, rfl, fun _ => rfl, fun _ _ _ h => h, fun _ _ h => h⟩
  | ov h e =>
    cases hk
    have e0 : (moPM true P T).nx (.ov h e) v = .ov ((hvPM P T T e.D.p).nx h v) e := if_pos hs
    rw [e0]
    obtain ⟨a, ha⟩ := Option.isSome_iff_exists.1 hok.2.2.2.1
    exact ⟨⟨hok.1, hok.2.1, hok.2.2.1, hs, hv_ok_next ⟨by omega, hp⟩ hT hv hok.2.2.2.2 ha⟩, rfl, fun _ => rfl, fun _ _ _ h => h, fun _ _ h => h⟩
theorem MoOkE.fine {P : Nat} {e : MoE} (h : MoOkE P e) {ph : MoP} (h1 : ph = .nw ∨ e.D.p < P) (h2 : ph ≠ .ad) : MoFine P (ph, e.D) := ⟨h1, h2, h.f, h.nw, h.im, h.th⟩
set_option maxHeartbeats 16000000 in
theorem mo_fol_own (hp : (P : Int) ≤ 64) (hT : 0 ≤ T ∧ T ≤ 65536) (W : World) (x : Nat) (ph : MoP) (e : MoE) (v : Int) (es Le : List Nat) (hok : moOk T G P cl (.own ph e)) (hv : 0 ≤ v ∧ v ≤ 18446744073709551615) (hB : Blk W x ((moCp T G P cl).cells (.own ph e) es none) 98) (he : MoExt T G P cl e es W Le) (hxe : x ∉ Le) (hR : Lay W cl P T G) (hxR : x ≠ cl) :
    FolC W x (moFol ph) v (fun w' => (moCp T G P cl).Land W w' x ((moPM true P T).nx (.own ph e) v) Le) := by
  have hlt := hB.lt
  have hcx : cl ≠ x := fun h => hxR h.symm
  have hcr := he.ne
  have hxr : x ≠ es.getD 0 0 := fun h => hxe (by rw [h]; exact he.mem)
  have hr := he.row
  have hw : 0 ≤ T ∧ T ≤ 1000000 := by omega
  obtain ⟨hE, hph, had⟩ := hok
  have h : Blk W x (moCells T none cl (es.getD 0 0) P (setLO e.D (moLK e es) (moOV e.hv.isSome es))) 98 := hB
  cases ph with
  | nw =>
    refine (mo_first W x cl _ P T G T _ h hr hR hcx hcr hxr hp v).mono ?_
    rintro e1 w' ⟨hu, hL⟩
    rw [lo_first] at hL
    exact ⟨hu, mo_go hp hT hL he hxe (fine_visit (d := { e.D with nw := v, un := true }) ⟨hE.f, hv, hE.im, hE.th⟩ 0) hlt⟩
  | st =>
    have hpp : e.D.p < P := hph.resolve_left (by intro h; cases h)
    refine (mo_judge W x cl _ P T G T _ h hr hR hcx hcr hxr hp v (by show e.D.p < 64; omega)).mono ?_
    rintro e1 w' ⟨hu, hL⟩
    rw [lo_judge] at hL
    exact ⟨hu, mo_go hp hT hL he hxe (fine_judge hE.d hpp) hlt⟩
  | tu =>
    have hpp : e.D.p < P := hph.resolve_left (by intro h; cases h)
    refine (mo_seeTurns W x cl _ P T G T _ h hr hR hcx hcr hxr hp v hv hpp hE.f hE.nw).mono ?_
    rintro e1 w' ⟨hu, hL⟩
    rw [lo_turns] at hL
    exact ⟨hu, mo_go hp hT hL he hxe (fine_turns hE.d hpp hv) hlt⟩
  | pr =>
    have hpp : e.D.p < P := hph.resolve_left (by intro h; cases h)
    refine (mo_beLate W x cl _ P T G T _ h hr hR hcx hcr hxr hp (by show e.D.p < 64; omega)).mono ?_
    rintro e1 w' ⟨hu, hL⟩
    rw [lo_late] at hL
    exact ⟨hu, mo_go hp hT hL he hxe (fine_seeStatus (d := { e.D with lt := true }) ⟨hE.f, hE.nw, hE.im, hE.th⟩ hpp) hlt⟩
  | ca =>
    have hpp : e.D.p < P := hph.resolve_left (by intro h; cases h)
    by_cases hc : e.D.lt = false ∧ v ≠ e.D.f (e.D.p * 4 + 2)
    · have e0 : (moPM true P T).nx (.own .ca e) v = moFold true (moVisit P (moCallsRow e.D v) (e.D.p + 1)) e := if_pos hc
      rw [e0]
      refine (mo_seeCalls_next W x cl _ P T G T _ h hr hR hcx hcr hxr hp v hpp hc.1 hc.2).mono ?_
      rintro e1 w' ⟨hu, hL⟩
      have hL' : MoLand T cl (es.getD 0 0) P W w' x (setS (moVisit P (moCallsRow e.D v) (e.D.p + 1)) (moLK e es) (moOV e.hv.isSome es)) := by rw [← lo_visit]; exact hL
      exact ⟨hu, mo_go hp hT hL' he hxe (fine_visit (fine_row hE.d hv) _) hlt⟩
    · have e0 : (moPM true P T).nx (.own .ca e) v = .lk .hd { e with hl := true } := if_neg hc
      rw [e0]
      refine (mo_seeCalls_look W x cl _ P T G T _ h hr hR hcx hcr hxr hp v hpp (by
        show e.D.lt = true ∨ (e.D.lt = false ∧ v = e.D.f (e.D.p * 4 + 2))
        cases hz : e.D.lt
        · refine .inr ⟨rfl, Decidable.byContradiction fun hn => hc ⟨hz, hn⟩⟩
        · exact .inl rfl)).mono ?_
      rintro e1 w' ⟨hu, y1, q1, b, L, hC, hI, hL, hq, hg⟩
      have he' := he.keep hp hT hC.at'.but (fun k hk => by simp; rintro rfl; exact hxe hk)
      exact ⟨hu, CpR.lnd_run0 (C := moCp T G P cl) (S := hvLk T P T G e.D.p cl) (af := .fn 121) (pt := LoT.hd) (s := .lk .hd { e with hl := true }) (es := [es.getD 0 0, y1, es.getD 2 0]) (Le' := Le) (But.refl _ _) hC (fun _ => rfl) hI hL hq hg ⟨⟨hE.f, hE.nw, hE.im, hE.th⟩, hpp, rfl, rfl⟩ rfl rfl hlt ⟨he'.ex, he'.row, he'.ne⟩ hxe (fun k hk => ⟨hk, he.lt hp hT k hk⟩)⟩
  | sp =>
    have hpp : e.D.p < P := hph.resolve_left (by intro h; cases h)
    refine (mo_seeSpinning W x cl _ P T _ h v).mono ?_
    rintro e1 w' ⟨hu, V, hb, hC⟩
    exact ⟨hu, mo_go (S := (.ip, { e.D with sp := v })) hp hT ⟨V, hb.more (by intro k _ hk; simp at hk ⊢; exact .inl hk), hr.but hb (by simpa using hxr.symm), hC⟩ he hxe ⟨.inr hpp, (by intro h; cases h), hE.f, hE.nw, hE.im, hE.th⟩ hlt⟩
  | ip =>
    have hpp : e.D.p < P := hph.resolve_left (by intro h; cases h)
    by_cases hc : (e.D.sp ≠ 0 ∨ v ≠ 0) ∧ (e.D.nw - e.D.f (e.D.p * 4 + 3)) % 4294967296 < 10
    · have e0 : (moPM true P T).nx (.own .ip e) v = moFold true (moVisit P e.D (e.D.p + 1)) e := if_pos (decide_eq_true hc)
      rw [e0]
      have key : ∀ w', MoLand T cl (es.getD 0 0) P W w' x (moVisit P (setLO e.D (moLK e es) (moOV e.hv.isSome es)) (e.D.p + 1)) → (moCp T G P cl).Land W w' x (moFold true (moVisit P e.D (e.D.p + 1)) e) Le := fun w' hL => by
        rw [lo_visit] at hL
        exact mo_go hp hT hL he hxe (fine_visit hE.d _) hlt
      by_cases hs : e.D.sp = 0
      · refine (mo_weigh_nextV W x cl _ P T G T _ h hr hR hcx hcr hxr hp v hpp hE.f hE.nw hw hs (hc.1.resolve_left (fun h => h hs)) hc.2).mono ?_
        rintro e1 w' ⟨hu, hL⟩
        exact ⟨hu, key w' hL⟩
      · refine (mo_weigh_nextS W x cl _ P T G T _ h hr hR hcx hcr hxr hp v hpp hE.f hE.nw hw hs hc.2).mono ?_
        rintro e1 w' ⟨hu, hL⟩
        exact ⟨hu, key w' hL⟩
    · have e0 : (moPM true P T).nx (.own .ip e) v = .acq .fresh e := if_neg (by unfold moWaits; rw [decide_eq_false hc]; decide)
      rw [e0]
      have key : ∀ w', RunNew (acqSub (wd 0 2 3 0 0) (wd 0 2 3 0 1) (wd 0 2 3 0 2) T) AcqT.fresh W w' x (moCells T none cl (es.getD 0 0) P (setLO e.D (moLK e es) (moOV e.hv.isSome es))) 98 (.func (.func 130) #[.pointer (some ⟨x, 0, none⟩)] #[]) → (moCp T G P cl).Land W w' x (.acq .fresh e) Le := fun w' hC => mo_run (S := (acqSub (wd 0 2 3 0 0) (wd 0 2 3 0 1) (wd 0 2 3 0 2) T)) (af := .fn 130) (pt := AcqT.fresh) (s := .acq .fresh e) hp hT hC rfl ⟨hE, hpp, rfl⟩ (fun _ => trivial) he hxe hlt
      by_cases hs : e.D.sp = 0
      · by_cases hv0 : v = 0
        · refine (mo_weigh_acqZ W x cl _ P T G T _ h hr hR hcx hcr hxr hp v hpp hE.f hE.nw hw hs hv0).mono ?_
          rintro e1 w' ⟨hu, hC⟩
          exact ⟨hu, key w' hC⟩
        · refine (mo_weigh_acqV W x cl _ P T G T _ h hr hR hcx hcr hxr hp v hpp hE.f hE.nw hw hs hv0 (fun hm => hc ⟨.inr hv0, hm⟩)).mono ?_
          rintro e1 w' ⟨hu, hC⟩
          exact ⟨hu, key w' hC⟩
      · refine (mo_weigh_acqS W x cl _ P T G T _ h hr hR hcx hcr hxr hp v hpp hE.f hE.nw hw hs (fun hm => hc ⟨.inl hs, hm⟩)).mono ?_
        rintro e1 w' ⟨hu, hC⟩
        exact ⟨hu, key w' hC⟩
  | im =>
    have hpp : e.D.p < P := hph.resolve_left (by intro h; cases h)
    refine (mo_seeIdleMs W x cl _ P T _ h v).mono ?_
    rintro e1 w' ⟨hu, V, hb, hC⟩
    exact ⟨hu, mo_go (S := (.th, { e.D with im := v })) hp hT ⟨V, hb.more (by intro k _ hk; simp at hk ⊢; exact .inl hk), hr.but hb (by simpa using hxr.symm), hC⟩ he hxe ⟨.inr hpp, (by intro h; cases h), hE.f, hE.nw, hv, hE.th⟩ hlt⟩
  | th =>
    have hpp : e.D.p < P := hph.resolve_left (by intro h; cases h)
    refine (mo_seeThreads W x cl _ P T _ h v).mono ?_
    rintro e1 w' ⟨hu, V, hb, hC⟩
    exact ⟨hu, mo_go (S := (.ip2, { e.D with th := v })) hp hT ⟨V, hb.more (by intro k _ hk; simp at hk ⊢; exact .inl hk), hr.but hb (by simpa using hxr.symm), hC⟩ he hxe ⟨.inr hpp, (by intro h; cases h), hE.f, hE.nw, hE.im, hv⟩ hlt⟩
  | ip2 =>
    have hpp : e.D.p < P := hph.resolve_left (by intro h; cases h)
    by_cases hz : moSpares T e.D.im e.D.th v = true
    · have e0 : (moPM true P T).nx (.own .ip2 e) v = .relT .fresh e := if_pos hz
      rw [e0]
      refine (mo_seeIdlePs_true W x cl _ P T G T _ h hr hR hcx hcr hxr hp v hT hE.im hE.th hv hz).mono ?_
      rintro e1 w' ⟨hu, hC⟩
      exact ⟨hu, mo_run (S := (relSub (wd 0 2 3 0 1) (wd 0 2 3 0 2) T)) (af := .fn 146) (pt := RelT.fresh) (s := .relT .fresh e) hp hT hC rfl ⟨hE, hpp, rfl⟩ (fun _ => trivial) he hxe hlt⟩
    · have e0 : (moPM true P T).nx (.own .ip2 e) v = .relN .fresh e := if_neg hz
      rw [e0]
      refine (mo_seeIdlePs_false W x cl _ P T G T _ h hr hR hcx hcr hxr hp v hT hE.im hE.th hv (Bool.not_eq_true _ |>.mp hz)).mono ?_
      rintro e1 w' ⟨hu, hC⟩
      exact ⟨hu, mo_run (S := (relSub (wd 0 2 3 0 1) (wd 0 2 3 0 2) T)) (af := .fn 100) (pt := RelT.fresh) (s := .relN .fresh e) hp hT hC rfl ⟨hE, hpp, rfl⟩ (fun _ => trivial) he hxe hlt⟩
  | sw =>
    have hpp : e.D.p < P := hph.resolve_left (by intro h; cases h)
    by_cases h0 : v = 0
    · have e0 : (moPM true P T).nx (.own .sw e) v = moFold true (moVisit P e.D (e.D.p + 1)) e := if_pos h0
      rw [e0]
      refine folC_sw false (decide_eq_false (fun h => h h0)) ((mo_have_no W x cl _ P T G T _ h hr hR hcx hcr hxr hp (by show e.D.p < 64; omega)).mono ?_)
      rintro e1 w' ⟨hu, hL⟩
      rw [lo_visit] at hL
      exact ⟨hu, mo_go hp hT hL he hxe (fine_visit hE.d _) hlt⟩
    · have e0 : (moPM true P T).nx (.own .sw e) v = .own .ad { e with hv := some ((e.D.p : Int), .lk .hd) } := if_neg h0
      rw [e0]
      refine folC_sw true (decide_eq_true h0) ((mo_have_yes W x cl _ P T G T _ h hr hR hcx hcr hxr hp hw hT).mono ?_)
      rintro e1 w' ⟨hu, y, L, V, hb, hI, hLf, hC⟩
      refine ⟨hu, ?_⟩
      have hCb : But [x] V w' := hC.but
      have hG := Cp.good (hv_laws (who := T) (P := P) (T := T) (G := G) (p := e.D.p) (cl := cl) hw ⟨by omega, hp⟩ hT)
      have hIlt := hG.lt hI
      have hszV := hb.size
      have hrlt := hr.lt
      have hrV : RwAt V (es.getD 0 0) (4 * P) e.D.f := hr.but hb (by simpa using hxr.symm)
      obtain ⟨q, Lc, c1, c2, c3, c4⟩ := hC
      have hrL : es.getD 0 0 ∉ L := fun hm => by have := hLf _ hm; omega
      have hxL : x ∉ L := fun hm => by have := hLf _ hm; omega
      refine ⟨(hb.trans hCb).more (by intro k _ hk; simp only [List.mem_cons, List.not_mem_nil, or_false] at hk ⊢; exact .inl hk), x :: (Lc ++ (es.getD 0 0 :: L)), ⟨⟨⟨hE.f, hE.nw, hE.im, hE.th⟩, .inr hpp, fun _ => rfl⟩, [es.getD 0 0, es.getD 1 0, y], es.getD 0 0 :: L, ⟨⟨L, rfl, hrL, hG.keep hI hCb (fun k hk => by simp; rintro rfl; exact hxL hk)⟩, hrV.but hCb (by simpa using hxr.symm), hcr⟩, ?_, ?_⟩, fun k hm => ?_⟩
      · simp only [List.mem_cons, not_or]
        exact ⟨hxr, hxL⟩
      · refine ⟨q, Lc, c1, c2, fun hm => absurd (c4 x hm) (by omega), fun k hm hk => ?_, rfl⟩
        have h4 := c4 k hm
        rcases List.mem_cons.1 hk with rfl | hk
        · omega
        · have := hIlt k hk; omega
      · simp only [List.mem_cons, List.mem_append] at hm
        rcases hm with rfl | hm | rfl | hm
        · exact .inl rfl
        · exact .inr (.inr (Nat.le_trans hszV (c4 k hm)))
        · exact .inr (.inl he.mem)
        · exact .inr (.inr (hLf k hm))
  | ad =>
    have hpp : e.D.p < P := hph.resolve_left (by intro h; cases h)
    have hhv := had rfl
    have e0 : (moPM true P T).nx (.own .ad e) v = .ov (.lk .hd) { e with hv := none } := rfl
    rw [e0]
    have hlts := he.lt hp hT
    obtain ⟨⟨Lh, rfl, hrL, hK⟩, hrow, hne⟩ := he
    unfold moKept at hK
    rw [hhv] at hK
    have hK' : (hvCp T P T G e.D.p cl).I W (es.getD 2 0) (.lk .hd) Lh := hK
    have hG := Cp.good (hv_laws (who := T) (P := P) (T := T) (G := G) (p := e.D.p) (cl := cl) hw ⟨by omega, hp⟩ hT)
    have hxL : x ∉ Lh := fun hm => hxe (by simp [hm])
    have hyL := hG.mem hK'
    have hyx : es.getD 2 0 ≠ x := fun h => hxL (h ▸ hyL)
    obtain ⟨a, ha⟩ : ∃ a, W.cell? ⟨es.getD 2 0, 1, none⟩ = some (.pointer (some a)) := by
      obtain ⟨nx, q1, q2⟩ := hG.next hK'
      cases nx with
      | none => cases q2
      | some a => exact ⟨a, q1⟩
    refine (mo_handOver W x cl _ P T _ h v (es.getD 2 0) a (by show moOV e.hv.isSome es = _; rw [hhv]; rfl) hyx ha).mono ?_
    rintro e1 w' ⟨hu, q, b, hC⟩
    refine ⟨hu, ?_⟩
    have hCb := hC.at'.but
    have f1 : W.heap.size ≤ q := hC.at'.fresh
    have f2 : W.heap.size ≤ b := hC.fresh
    have hLlt : ∀ k ∈ Lh, k < W.heap.size := fun k hk => hlts k (by simp [hk])
    have hrlt := hrow.lt
    refine ⟨hCb.more (by intro k _ hk; simp only [List.mem_cons, List.not_mem_nil, or_false] at hk ⊢; exact .inl hk), x :: q :: b :: (Lh ++ [es.getD 0 0]), ⟨⟨⟨hE.f, hE.nw, hE.im, hE.th⟩, hpp, rfl, rfl, rfl⟩, es, [es.getD 0 0], ⟨⟨[], rfl, (by simp), rfl⟩, hrow.but hCb (by simpa using hxr.symm), hne⟩, (by simpa using hxr), ?_⟩, fun k hm => ?_⟩
    · have hcs : (moCells T none cl (es.getD 0 0) P (setLO e.D (moLK e es) (moOV e.hv.isSome es))) = (moCells T none cl (es.getD 0 0) P (setLO e.D (moLK e es) (moOV true es))) := by rw [hhv]; rfl
      rw [hcs] at hC
      refine ⟨q, es.getD 2 0, b, Lh, RunAt.of hC (fun _ => rfl), hG.keep hK' hCb (fun k hk => by simp; rintro rfl; exact hxL hk), rfl, ?_, fun hm => ?_, fun hm => ?_, fun k hm hk => ?_, rfl⟩
      · simp only [List.mem_cons, not_or]
        exact ⟨by omega, by omega, hxL⟩
      · have := hLlt q hm; omega
      · have := hLlt b hm; omega
      · have hk' := List.mem_singleton.1 hk
        subst hk'
        simp only [List.mem_cons] at hm
        rcases hm with hm | hm | hm
        · omega
        · omega
        · exact hrL hm
    · simp only [List.mem_cons, List.mem_append, List.not_mem_nil, or_false] at hm
      rcases hm with rfl | rfl | rfl | hm | rfl
      · exact .inl rfl
      · exact .inr (.inr f1)
      · exact .inr (.inr f2)
      · exact .inr (.inl (by simp [hm]))
      · exact .inr (.inl (by simp))
set_option maxHeartbeats 16000000 in
theorem mo_aft (hp : (P : Int) ≤ 64) (hT : 0 ≤ T ∧ T ≤ 65536) (W : World) (x y : Nat) (s : MoT) (S : Sub) (q : S.τ) (af : After) (v : Int) (es Le Li : List Nat) (hok : moOk T G P cl s) (hk : (moCp T G P cl).kind s = .run S q af) (hv : 0 ≤ v ∧ v ≤ 18446744073709551615) (hn' : S.M.ax (S.M.nx q v) = none) (hB : Blk W x ((moCp T G P cl).cells s es none) 98) (hin : S.I W y (S.M.nx q v) Li) (hty : (moCp T G P cl).tie s es y) (he : MoExt T G P cl s.e es W Le) (hxe : x ∉ Le) (hxi : x ∉ Li) (hdl : ∀ k ∈ Li, k ∉ Le) (hR : Lay W cl P T G) (hxR : x ≠ cl) :
    FolC W x af.fol 0 (fun w' => (moCp T G P cl).Land W w' x ((moPM true P T).nx s v) (Li ++ Le)) := by
  have hlt := hB.lt
  have hcx : cl ≠ x := fun h => hxR h.symm
  have hcr := he.ne
  have hxr : x ≠ es.getD 0 0 := fun h => hxe (by rw [h]; exact he.mem)
  have hr := he.row
  have hw : 0 ≤ T ∧ T ≤ 1000000 := by omega
  have hin2 : ∀ k ∈ Le, k ∈ Li ++ Le := fun k hk => List.mem_append_right _ hk
  cases s with
  | own ph e => cases hk
  | en e => cases hk
  | lk l e =>
    cases hk
    obtain ⟨hE, hpp, hls, hhl⟩ := hok
    obtain rfl : es.getD 1 0 = y := hty
    have h : Blk W x (moCells T none cl (es.getD 0 0) P (setLO e.D (moLK e es) (moOV e.hv.isSome es))) 98 := hB
    have hin' : (loFl T e.D.p cl).I (loPM P e.D.p) W (es.getD 1 0) ((loPM P e.D.p).nx l v) Li := hin
    have hEm := lo_tells hin'
    have hlk : (setLO e.D (moLK e es) (moOV e.hv.isSome es)).lk = some ⟨es.getD 1 0, 0, none⟩ := by
      show moLK e es = _
      unfold moLK
      rw [if_pos hhl]
    by_cases h0 : ((loPM P e.D.p).nx l v).e = true
    · have e0 : (moPM true P T).nx (.lk l e) v = .own .sp e := (nx_off hn').trans (if_pos h0)
      rw [h0] at hEm
      rw [e0]
      refine (mo_seeRing_yes W x cl _ P T _ h _ hlk hEm).mono ?_
      rintro e1 w' ⟨hu, hC⟩
      exact ⟨hu, (mo_go (S := (.sp, e.D)) hp hT (MoLand.of (s := (.sp, setLO e.D (moLK e es) (moOV e.hv.isSome es))) hr hC) he hxe (hE.fine (.inr hpp) (by intro h; cases h)) hlt).more hin2⟩
    · have e0 : (moPM true P T).nx (.lk l e) v = .acq .fresh e := (nx_off hn').trans (if_neg h0)
      rw [Bool.not_eq_true _ |>.mp h0] at hEm
      rw [e0]
      refine (mo_seeRing_no W x cl _ P T _ h hw _ hlk hEm).mono ?_
      rintro e1 w' ⟨hu, hC⟩
      exact ⟨hu, (mo_run (S := (acqSub (wd 0 2 3 0 0) (wd 0 2 3 0 1) (wd 0 2 3 0 2) T)) (af := .fn 130) (pt := AcqT.fresh) (s := .acq .fresh e) hp hT hC rfl ⟨hE, hpp, rfl⟩ (fun _ => trivial) he hxe hlt).more hin2⟩
  | acq a e =>
    cases hk
    obtain ⟨hE, hpp, hls⟩ := hok
    have h : Blk W x (moCells T none cl (es.getD 0 0) P (setLO e.D (moLK e es) (moOV e.hv.isSome es))) 98 := hB
    have e0 : (moPM true P T).nx (.acq a e) v = .own .im e := nx_off hn'
    rw [e0]
    refine (mo_loadIdleMs W x cl _ P T _ h).mono ?_
    rintro e1 w' ⟨hu, hC⟩
    exact ⟨hu, (mo_go (S := (.im, e.D)) hp hT (MoLand.of (s := (.im, setLO e.D (moLK e es) (moOV e.hv.isSome es))) hr hC) he hxe (hE.fine (.inr hpp) (by intro h; cases h)) hlt).more hin2⟩
  | relN r e =>
    cases hk
    obtain ⟨hE, hpp, hls⟩ := hok
    have h : Blk W x (moCells T none cl (es.getD 0 0) P (setLO e.D (moLK e es) (moOV e.hv.isSome es))) 98 := hB
    have e0 : (moPM true P T).nx (.relN r e) v = moFold true (moVisit P e.D (e.D.p + 1)) e := nx_off hn'
    rw [e0]
    refine (mo_next W x cl _ P T G T _ h hr hR hcx hcr hxr hp (by show e.D.p < 64; omega)).mono ?_
    rintro e1 w' ⟨hu, hL⟩
    rw [lo_visit] at hL
    exact ⟨hu, (mo_go hp hT hL he hxe (fine_visit hE.d _) hlt).more hin2⟩
  | relT r e =>
    cases hk
    obtain ⟨hE, hpp, hls⟩ := hok
    have h : Blk W x (moCells T none cl (es.getD 0 0) P (setLO e.D (moLK e es) (moOV e.hv.isSome es))) 98 := hB
    have e0 : (moPM true P T).nx (.relT r e) v = .own .sw e := nx_off hn'
    rw [e0]
    refine (mo_take W x cl _ P T G T _ h hR hp).mono ?_
    rintro e1 w' ⟨hu, hC⟩
    exact ⟨hu, (mo_go (S := (.sw, e.D)) hp hT (MoLand.of (s := (.sw, setLO e.D (moLK e es) (moOV e.hv.isSome es))) hr hC) he hxe (hE.fine (.inr hpp) (by intro h; cases h)) hlt).more hin2⟩
  | ov hh e =>
    cases hk
    obtain ⟨hE, hpp, hnone, hls, hokh⟩ := hok
    obtain rfl : es.getD 2 0 = y := hty
    have h : Blk W x (moCells T none cl (es.getD 0 0) P (setLO e.D (moLK e es) (moOV true es))) 98 := hB
    have hin' : (hvCp T P T G e.D.p cl).I W (es.getD 2 0) ((hvPM P T T e.D.p).nx hh v) Li := hin
    have e0 : (moPM true P T).nx (.ov hh e) v = moFold true (moVisit P e.D (e.D.p + 1)) { e with hv := some ((e.D.p : Int), (hvPM P T T e.D.p).nx hh v) } := nx_off hn'
    rw [e0]
    have he2 : MoExt T G P cl { e with hv := some ((e.D.p : Int), (hvPM P T T e.D.p).nx hh v) } es W (es.getD 0 0 :: Li) := ⟨⟨Li, rfl, fun hm => hdl _ hm he.mem, hin'⟩, hr, hcr⟩
    refine (mo_next W x cl _ P T G T _ h hr hR hcx hcr hxr hp (by show e.D.p < 64; omega)).mono ?_
    rintro e1 w' ⟨hu, hL⟩
    rw [lo_visit] at hL
    refine ⟨hu, (mo_go (e := { e with hv := some ((e.D.p : Int), (hvPM P T T e.D.p).nx hh v) }) hp hT hL he2 ?_ (fine_visit hE.d _) hlt).more ?_⟩
    · simp only [List.mem_cons, not_or]
      exact ⟨hxr, hxi⟩
    · intro k hk
      rcases List.mem_cons.1 hk with rfl | hk
      · exact List.mem_append_right _ he.mem
      · exact List.mem_append_left _ hk
theorem ent_mo_fn : ∀ K, K = 121 ∨ K = 130 ∨ K = 100 ∨ K = 146 → Ent K := by
  rintro K (rfl | rfl | rfl | rfl) <;> exact fun args w => by kernel_rfl
set_option maxHeartbeats 8000000 in
theorem mo_laws (hp : (P : Int) ≤ 64) (hT : 0 ≤ T ∧ T ≤ 65536) :
    (moCp T G P cl).Laws (moPM true P T) (Rd.lay cl P T G) T where
  c0 := fun s es nx => rfl
  c1 := fun s es nx => rfl
  set := fun s es nx nx' => rfl
  k0 := fun s hok hk => by
    cases s with
    | en e => exact absurd hok id
    | _ => cases hk
  k1 := fun s a f hok hk => by
    cases s with
    | own ph e => cases hk; exact ⟨rfl, (mo_axok P e.D.p ph).1, (mo_axok P e.D.p ph).2.2⟩
    | _ => cases hk
  k2 := fun s S q af hok hk => by
    have hw : 0 ≤ T ∧ T ≤ 1000000 := by omega
    cases s with
    | lk l e => cases hk; exact ⟨rfl, hok.2.2.1, ent_mo_fn _ (.inl rfl), fun b => (lo_laws T P T G e.D.p cl ⟨by omega, hp⟩).axok _ b trivial⟩
    | acq a e => cases hk; exact ⟨rfl, hok.2.2, ent_mo_fn _ (.inr (.inl rfl)), fun b => (acq_laws _ _ _ T hw).axok _ b trivial⟩
    | relN r e => cases hk; exact ⟨rfl, hok.2.2, ent_mo_fn _ (.inr (.inr (.inl rfl))), fun a => (rel_laws _ _ T).axok _ a trivial⟩
    | relT r e => cases hk; exact ⟨rfl, hok.2.2, ent_mo_fn _ (.inr (.inr (.inr rfl))), fun a => (rel_laws _ _ T).axok _ a trivial⟩
    | ov hh e => cases hk; exact ⟨rfl, hok.2.2.2.1, ent_mo_fn _ (.inr (.inr (.inl rfl))), fun a ha => Cp.okax (hv_laws (who := T) (P := P) (T := T) (G := G) (p := e.D.p) (cl := cl) hw ⟨by omega, hp⟩ hT) hok.2.2.2.2 a ha⟩
    | _ => cases hk
  sub := fun s S q af hok hk => by
    have hw : 0 ≤ T ∧ T ≤ 1000000 := by omega
    cases s with
    | lk l e => cases hk; exact ⟨Fl.steps (lo_laws T P T G e.D.p cl ⟨by omega, hp⟩) stepby_look, Fl.good (lo_laws T P T G e.D.p cl ⟨by omega, hp⟩), act_look, fun w h => h, fun k h => h⟩
    | acq a e => cases hk; exact acqSub_ok _ _ _ T hw _
    | relN r e => cases hk; exact relSub_ok _ _ T _
    | relT r e => cases hk; exact relSub_ok _ _ T _
    | ov hh e => cases hk; exact ⟨Cp.steps (hv_laws hw ⟨by omega, hp⟩ hT) stepby_over, Cp.good (hv_laws hw ⟨by omega, hp⟩ hT), act_over, fun w h => h, fun k h => h⟩
    | _ => cases hk
  on := fun s S q af v hok hk hv hs => mo_on hp hT hv hok hk hs
  ns := fun s a f hk => by
    cases s with
    | own ph e => cases hk; exact (mo_axok P e.D.p ph).2.1
    | _ => cases hk
  ekeep := fun s es w w' ll Le he hb hk => MoExt.keep hp hT he hb hk
  elt := fun s es w Le he k hk => MoExt.lt hp hT he k hk
  fol := fun W x s a f v es Le hok hk hv hB he hxe hR hxR => by
    cases s with
    | own ph e =>
      cases hk
      exact mo_fol_own hp hT W x ph e v es Le hok hv hB he hxe hR (fun h => hxR (List.mem_singleton.2 h))
    | _ => cases hk
  aft := fun W x y s S q af v es Le Li hok hk hv hn' hB hin hty he hxe hxi hdl hR hxR => mo_aft hp hT W x y s S q af v es Le Li hok hk hv hn' hB hin hty he hxe hxi hdl hR (fun h => hxR (List.mem_singleton.2 h))
end
end Go.Proofs.YthjfbknmdligeaaGreat

namespace Go.Proofs.YthjfbknmdligeaaGreat
open Go Go.RowKit
set_option linter.unusedVariables false
set_option maxRecDepth 100000
set_option linter.unusedSimpArgs false
set_option linter.unusedSectionVars false

theorem info66 : (Tryz.prog.info? 66).map (fun i => (i.zero, i.size, i.bytes)) = some (some (.agg #[.int .u64 0, .int .u64 0, .int .u64 0, .int .u64 0]), 4, 32) := by kernel_rfl
def zr (n : Nat) : Array Value := madeCells #[.int .u64 0, .int .u64 0, .int .u64 0, .int .u64 0] (n * 4)
theorem make_rows (n : Nat) (hn : n ≤ 1000000) (w : World) : (Instr.makeSlice 90 (.int .i64 n) (.int .i64 n)).run Tryz.prog w = .ok (.slice (some ⟨w.heap.size, 0, none⟩) n n) (w.alloc (.cells (zr n) 66)) := by
  obtain ⟨i0, hi, hz0, hz1, hz2⟩ := info_parts info66
  have := run_make (P := Tryz.prog) w 90 66 i0 _ Tryz.underlying90 hi hz0 .i64 .i64 n n (by omega) (Int.le_refl _) (by rw [hz2]; omega) (by omega)
  rw [hz1] at this
  simpa [zr, Value.cells] using this
theorem zr_row (n : Nat) (w : World) : RwAt (w.alloc (.cells (zr n) 66)) w.heap.size (4 * n) (fun _ => 0) := by
  refine ⟨zr n, heap_alloc_new _ _, (size_madeCells _ _).trans (by omega), fun k hk => ?_⟩
  unfold zr madeCells
  rw [Array.getElem?_map, Array.getElem?_range]
  rw [if_pos (by omega)]
  have h4 : k % 4 < 4 := Nat.mod_lt _ (by omega)
  simp only [Option.map_some, Option.some.injEq]
  show (#[Value.int .u64 0, Value.int .u64 0, Value.int .u64 0, Value.int .u64 0])[k % 4]! = _
  rcases (by omega : k % 4 = 0 ∨ k % 4 = 1 ∨ k % 4 = 2 ∨ k % 4 = 3) with h | h | h | h <;> rw [h] <;> rfl
def moD0 : MoD := ⟨fun _ => 0, 0, false, 0, 0, 0, false, none, 0, 0, 0, none⟩
set_option maxHeartbeats 4000000 in
theorem mo_new (w : World) (cl P : Nat) (T G : Int) (hl : Lay w cl P T G) (hp : P ≤ 64) :
    Calls Tryz.prog 9 #[.pointer (some ⟨cl, 0, none⟩)] w fun e w' => ∃ x r L, e = .returned (.pointer (some ⟨x, 0, none⟩)) ∧ moI T cl r P w' x (.nw, moD0) L ∧ Below w.heap.size w w' ∧ (∀ k ∈ L, w.heap.size ≤ k) ∧ w.heap.size ≤ x := by
  have hC := config_any (some ⟨cl, 0, none⟩) P T G w (.some cl hl)
  have hmk := make_rows P (by omega)
  have HL : Hid (Lay w cl P T G) := hl
  clear hl hp
  go_enter Tryz.func9, Tryz.ntmps9
  go_wp2_with fail
  go_at_call 37; refine hC.mono ?_; rintro e w1 ⟨rfl, h1⟩
  obtain ⟨V, hV⟩ : ∃ V, ((w1.alloc (.cells (zr P) 66)).alloc (.cells (moCells 0 none cl w1.heap.size P moD0) 98)) = V := ⟨_, rfl⟩
  have hr : RwAt V w1.heap.size (4 * P) (fun _ => 0) := by rw [← hV]; exact (zr_row P w1).keep (heap_al _ (by simp) _)
  have hB : Blk V (w1.heap.size + 1) (moCells 0 none cl w1.heap.size P moD0) 98 := by
    rw [← hV]
    have := Blk.new (w1.alloc (.cells (zr P) 66)) (moCells 0 none cl w1.heap.size P moD0) 98
    rw [World.size_alloc] at this
    exact this
  have hb1 : Below w1.heap.size w1 V := by rw [← hV]; exact ((Below.refl _ _).alloc (Nat.le_refl _) _).alloc (by simp) _
  have hbw : Below w.heap.size w V := h1.trans (hb1.mono h1.size)
  have HV : Hid _ := hV
  have hsz1 := h1.size
  have HF : Hid (RwAt V w1.heap.size (4 * P) (fun _ => 0) ∧ Blk V (w1.heap.size + 1) (moCells 0 none cl w1.heap.size P moD0) 98 ∧ Below w.heap.size w V ∧ Lay V cl P T G ∧ w.heap.size ≤ w1.heap.size) := ⟨hr, hB, hbw, HL.out.below hbw HL.out.lt, hsz1⟩
  clear hV hr hB hb1 hbw hC h1 hsz1 HL
  unfold moCells moD0 at HV
  dsimp only at HV
  rw [show ((0 : Nat) : Int) = 0 from rfl] at HV
  have fc0 := field_c0
  have fc1 := field_c1
  go_wp2_with fail
  rw [HV.out]
  clear HV
  generalize w1.heap.size = r at *
  have hC2 := config_any (some ⟨cl, 0, none⟩) P T G V.drew (.some cl HF.out.2.2.2.1)
  go_region_with (first | (go_at_call 37; refine hC2.mono ?_; rintro e w3 ⟨rfl, h3⟩; have hO := fof_any w3 (r + 1) _ 98 T (HF.out.2.1.drew.but (But.of_below (l := []) h3) (by simp)) (by simp [moCells])) | (go_at_call 38; refine hO.mono ?_; rintro e w4 ⟨⟨v, rfl⟩, hw4⟩; have HW4 : Hid (w4 = w3.setCell ⟨r + 1, 0, none⟩ (.int .i64 T)) := hw4; clear hw4))
  all_goals
    have hw4 := HW4.out
    have hB3 : But [r + 1] V w4 := by rw [hw4]; exact (((But.refl _ _).drew).trans (But.of_below h3)).set (g := r + 1) (.inl (by simp)) 0 _
    have h4 : Blk w4 (r + 1) (moCells T none cl r P moD0) 98 := by rw [hw4]; exact (HF.out.2.1.drew.but (But.of_below (l := []) h3) (by simp)).set 0 _
    have h5 : RwAt w4 r (4 * P) moD0.f := HF.out.1.but hB3 (by simp)
    have H := mo_begin w4 (r + 1) cl r P T moD0 h4
    have HG : Hid (RwAt w4 r (4 * P) moD0.f ∧ But [r + 1] V w4 ∧ w.heap.size ≤ r ∧ Below w.heap.size w V ∧ r + 1 < w4.heap.size) := ⟨h5, hB3, HF.out.2.2.2.2, HF.out.2.2.1, h4.lt⟩
    clear hC2 hO hw4 HW4 h3 hB3 h4 h5 HF hmk
    go_wp2_with fail
    go_at_call 39; refine H.mono ?_; rintro e w5 ⟨⟨u, rfl⟩, hC⟩
    have hD : MoLand T cl r P w4 w5 (r + 1) (.nw, moD0) := MoLand.of (s := (.nw, moD0)) HG.out.1 hC
    obtain ⟨⟨L, g1, g2⟩, g3, -⟩ := hD.mach HG.out.2.2.2.2 HG.out.1.lt (by omega)
    have hsz : Hid (∀ k ∈ L, w.heap.size ≤ k) := fun k hk => by
      have h1 := HG.out.2.2.1
      have h2 := HG.out.2.1.size
      have h3 := HG.out.2.2.2.1.size
      rcases g2 k hk with rfl | rfl | h
      · omega
      · omega
      · omega
    have HZ : Hid (moI T cl r P w5 (r + 1) (.nw, moD0) L ∧ Below w.heap.size w w5) := ⟨g1, HG.out.2.2.2.1.trans (((HG.out.2.1.more (l' := [r + 1, r]) (by intro k _ hk; simp at hk ⊢; exact .inl hk)).trans g3).below (by intro k hk; simp at hk; have := HG.out.2.2.1; omega) HG.out.2.2.2.1.size)⟩
    have hwr := HG.out.2.2.1
    clear H hC hD g1 g2 g3 HG
    go_wp2_with fail
    go_ret
    exact ⟨r + 1, r, L, rfl, HZ.out.1, HZ.out.2, hsz.out, by omega⟩
theorem hover_nil_h (w : World) : Calls Tryz.prog 49 #[.pointer none] w fun e w' => e = .returned (.int .i64 (-1)) ∧ w = w' := by
  go_enter Tryz.func49, Tryz.ntmps49
  go_wp2_with fail
  go_ret
  exact ⟨rfl, rfl⟩
theorem hover_nil_c (w : World) : Calls Tryz.prog 50 #[.pointer none] w fun e w' => e = .returned (.bool false) ∧ w = w' := by
  go_enter Tryz.func50, Tryz.ntmps50
  go_wp2_with fail
  go_ret
  exact ⟨rfl, rfl⟩
section
variable (w : World) (x cl r P : Nat) (who : Int) (t : MoP × MoD) (L : List Nat) (h : moI who cl r P w x t L)
include h
theorem mo_between : Calls Tryz.prog 13 #[.pointer (some ⟨x, 0, none⟩)] w fun e w' => e = .returned (.bool (!t.2.un)) ∧ w = w' := by
  obtain ⟨q, Lc, h1, -⟩ := h
  have c5 := h1.cell 5 (v := .bool t.2.un) rfl
  clear h1
  go_enter Tryz.func13, Tryz.ntmps13
  go_wp2_with fail
  go_ret
  exact ⟨rfl, rfl⟩
theorem mo_passes : Calls Tryz.prog 14 #[.pointer (some ⟨x, 0, none⟩)] w fun e w' => e = .returned (.int .i64 t.2.ps) ∧ w = w' := by
  obtain ⟨q, Lc, h1, -⟩ := h
  have c4 := h1.cell 4 (v := .int .i64 t.2.ps) rfl
  clear h1
  go_enter Tryz.func14, Tryz.ntmps14
  go_wp2_with fail
  go_ret
  exact ⟨rfl, rfl⟩
theorem mo_hand_none (ho : t.2.ov = none) : Calls Tryz.prog 16 #[.pointer (some ⟨x, 0, none⟩)] w fun e w' => e = .returned (.int .i64 (-1)) ∧ w = w' := by
  obtain ⟨q, Lc, h1, -⟩ := h
  have c14 := h1.cell 14 (v := .pointer t.2.ov) rfl
  rw [ho] at c14
  have H := hover_nil_h
  clear h1 ho
  go_enter Tryz.func16, Tryz.ntmps16
  go_wp2_with fail
  go_at_call 49; refine (H _).mono ?_; rintro e w1 ⟨rfl, rfl⟩
  go_wp2_with fail
  go_ret
  exact ⟨rfl, rfl⟩
theorem mo_counts_none (ho : t.2.ov = none) : Calls Tryz.prog 17 #[.pointer (some ⟨x, 0, none⟩)] w fun e w' => e = .returned (.bool false) ∧ w = w' := by
  obtain ⟨q, Lc, h1, -⟩ := h
  have c14 := h1.cell 14 (v := .pointer t.2.ov) rfl
  rw [ho] at c14
  have H := hover_nil_c
  clear h1 ho
  go_enter Tryz.func17, Tryz.ntmps17
  go_wp2_with fail
  go_at_call 50; refine (H _).mono ?_; rintro e w1 ⟨rfl, rfl⟩
  go_wp2_with fail
  go_ret
  exact ⟨rfl, rfl⟩
end
end Go.Proofs.YthjfbknmdligeaaGreat

namespace Go.Proofs.YthjfbknmdligeaaGreat
open Go Go.RowKit
set_option linter.unusedVariables false
set_option maxRecDepth 100000
set_option linter.unusedSimpArgs false
set_option linter.unusedSectionVars false

def moE0 : MoE := ⟨moD0, false, none⟩
theorem mo_newF (w : World) (cl P : Nat) (T G : Int) (hl : Lay w cl P T G) (hp : P ≤ 64) :
    Calls Tryz.prog 9 #[.pointer (some ⟨cl, 0, none⟩)] w fun e w' => ∃ x L, e = .returned (.pointer (some ⟨x, 0, none⟩)) ∧ (moCp T G P cl).I w' x (.own .nw moE0) L ∧ Below w.heap.size w w' ∧ (∀ k ∈ L, w.heap.size ≤ k) ∧ w.heap.size ≤ x := by
  have hlt := hl.lt
  refine (mo_new w cl P T G hl hp).mono ?_
  rintro e w' ⟨x, r, L, rfl, ⟨q, Lc, h1, h2, h3, h4, h5, h6, rfl⟩, hb, hL, hx⟩
  have hr : w.heap.size ≤ r := hL r (by simp)
  have hz : (0 : Int) ≤ 0 ∧ (0 : Int) ≤ 18446744073709551615 := by omega
  refine ⟨x, x :: (Lc ++ [r]), rfl, ⟨⟨⟨fun i => hz, hz, hz, hz⟩, .inl rfl, (by intro h; cases h)⟩, [r, 0, 0], [r], ⟨⟨[], rfl, (by simp), rfl⟩, h3, (by show cl ≠ r; omega)⟩, (by simpa using h6), q, Lc, h1, h2, h4, (fun k hk => by simp; rintro rfl; exact h5 hk), rfl⟩, hb, fun k hk => ?_, hx⟩
  simp only [List.mem_cons, List.mem_append, List.not_mem_nil, or_false] at hk
  rcases hk with rfl | hk | rfl
  · exact hx
  · exact hL k (by simp [hk])
  · exact hr
/-- The processor in its hand. -/
def MoT.holds : MoT → Int
  | .ov h e => h.holds e.D.p
  | t => match t.e.hv with
    | none => -1
    | some (p, h) => h.holds p
def MoT.counts : MoT → Bool
  | .ov h _ => h.counts
  | t => match t.e.hv with
    | none => false
    | some (_, h) => h.counts
section
variable {T G : Int} {P cl : Nat} {w : World} {x : Nat} {t : MoT} {L : List Nat}
theorem mo_blkF (h : (moCp T G P cl).I w x t L) : ∃ es nx, Blk w x (moCells T nx cl (es.getD 0 0) P (t.d es)) 98 ∧ RwAt w (es.getD 0 0) (4 * P) t.e.D.f := by
  obtain ⟨hok, es, Le, he, hxe, hH⟩ := h
  obtain ⟨nx, hB⟩ := CpR.blk' hH
  exact ⟨es, nx, hB, he.row⟩
theorem mo_betweenF (h : (moCp T G P cl).I w x t L) : Calls Tryz.prog 13 #[.pointer (some ⟨x, 0, none⟩)] w fun e w' => e = .returned (.bool (!t.e.D.un)) ∧ w = w' := by
  obtain ⟨es, nx, hB, -⟩ := mo_blkF h
  have c5 := hB.cell 5 (v := .bool t.e.D.un) rfl
  clear h hB
  go_enter Tryz.func13, Tryz.ntmps13
  go_wp2_with fail
  go_ret
  exact ⟨rfl, rfl⟩
theorem mo_passesF (h : (moCp T G P cl).I w x t L) : Calls Tryz.prog 14 #[.pointer (some ⟨x, 0, none⟩)] w fun e w' => e = .returned (.int .i64 t.e.D.ps) ∧ w = w' := by
  obtain ⟨es, nx, hB, -⟩ := mo_blkF h
  have c4 := hB.cell 4 (v := .int .i64 t.e.D.ps) rfl
  clear h hB
  go_enter Tryz.func14, Tryz.ntmps14
  go_wp2_with fail
  go_ret
  exact ⟨rfl, rfl⟩
/-- What is so of the machine that handed over last. -/
theorem mo_overF (h : (moCp T G P cl).I w x t L) : ∃ es nx, Blk w x (moCells T nx cl (es.getD 0 0) P (t.d es)) 98 ∧ ((t.hasO = false ∧ t.holds = -1 ∧ t.counts = false) ∨ (t.hasO = true ∧ ∃ (p : Int) (s : HvT) (Lh : List Nat), (hvCp T P T G p cl).I w (es.getD 2 0) s Lh ∧ t.holds = s.holds p ∧ t.counts = s.counts)) := by
  obtain ⟨hok, es, Le, he, hxe, hH⟩ := h
  obtain ⟨nx, hB⟩ := CpR.blk' hH
  refine ⟨es, nx, hB, ?_⟩
  obtain ⟨⟨Lh, rfl, -, hK⟩, -, -⟩ := he
  unfold moKept at hK
  have key : ∀ e : MoE, t.e = e → t.hasO = e.hv.isSome → t.holds = (match e.hv with | none => -1 | some (p, h) => h.holds p) → t.counts = (match e.hv with | none => false | some (_, h) => h.counts) → ((t.hasO = false ∧ t.holds = -1 ∧ t.counts = false) ∨ (t.hasO = true ∧ ∃ (p : Int) (s : HvT) (Lh : List Nat), (hvCp T P T G p cl).I w (es.getD 2 0) s Lh ∧ t.holds = s.holds p ∧ t.counts = s.counts)) := fun e he h1 h2 h3 => by
    rw [he] at hK
    cases hv : e.hv with
    | none => rw [hv] at h1 h2 h3; exact .inl ⟨h1, h2, h3⟩
    | some q =>
      obtain ⟨p, s⟩ := q
      rw [hv] at hK h1 h2 h3
      exact .inr ⟨h1, p, s, Lh, hK, h2, h3⟩
  cases t with
  | own ph e => exact key e rfl rfl rfl rfl
  | lk l e => exact key e rfl rfl rfl rfl
  | acq a e => exact key e rfl rfl rfl rfl
  | relN r e => exact key e rfl rfl rfl rfl
  | relT r e => exact key e rfl rfl rfl rfl
  | en e => exact key e rfl rfl rfl rfl
  | ov hh e =>
    obtain ⟨q, y, g, Li, h1, h2, h3, -⟩ := hH
    obtain rfl : es.getD 2 0 = y := h3
    exact .inr ⟨rfl, e.D.p, hh, Li, h2, rfl, rfl⟩
theorem mo_handF (h : (moCp T G P cl).I w x t L) : Calls Tryz.prog 16 #[.pointer (some ⟨x, 0, none⟩)] w fun e w' => e = .returned (.int .i64 t.holds) ∧ w = w' := by
  obtain ⟨es, nx, hB, hz⟩ := mo_overF h
  have c14 := hB.cell 14 (v := .pointer (moOV t.hasO es)) rfl
  clear h hB
  rcases hz with ⟨h1, h2, h3⟩ | ⟨h1, p, s, Lh, h2, h3, h4⟩
  · rw [h1] at c14
    rw [h2]
    have c14' : w.cell? ⟨x, 14, none⟩ = some (.pointer none) := c14
    have H := hover_nil_h
    clear h1 h2 h3 c14
    go_enter Tryz.func16, Tryz.ntmps16
    go_wp2_with fail
    go_at_call 49; refine (H _).mono ?_; rintro e w1 ⟨rfl, rfl⟩
    go_wp2_with fail
    go_ret
    exact ⟨rfl, rfl⟩
  · rw [h1] at c14
    rw [h3]
    have c14' : w.cell? ⟨x, 14, none⟩ = some (.pointer (some ⟨es.getD 2 0, 0, none⟩)) := c14
    have H := hv_tells_P h2
    clear h1 h2 h3 h4 c14
    generalize es.getD 2 0 = y at *
    go_enter Tryz.func16, Tryz.ntmps16
    go_wp2_with fail
    go_at_call 49; refine H.mono ?_; rintro e w1 ⟨rfl, rfl⟩
    go_wp2_with fail
    go_ret
    exact ⟨rfl, rfl⟩
theorem mo_countsF (h : (moCp T G P cl).I w x t L) : Calls Tryz.prog 17 #[.pointer (some ⟨x, 0, none⟩)] w fun e w' => e = .returned (.bool t.counts) ∧ w = w' := by
  obtain ⟨es, nx, hB, hz⟩ := mo_overF h
  have c14 := hB.cell 14 (v := .pointer (moOV t.hasO es)) rfl
  clear h hB
  rcases hz with ⟨h1, h2, h3⟩ | ⟨h1, p, s, Lh, h2, h3, h4⟩
  · rw [h1] at c14
    rw [h3]
    have c14' : w.cell? ⟨x, 14, none⟩ = some (.pointer none) := c14
    have H := hover_nil_c
    clear h1 h2 h3 c14
    go_enter Tryz.func17, Tryz.ntmps17
    go_wp2_with fail
    go_at_call 50; refine (H _).mono ?_; rintro e w1 ⟨rfl, rfl⟩
    go_wp2_with fail
    go_ret
    exact ⟨rfl, rfl⟩
  · rw [h1] at c14
    rw [h4]
    have c14' : w.cell? ⟨x, 14, none⟩ = some (.pointer (some ⟨es.getD 2 0, 0, none⟩)) := c14
    have H := hv_tells_C h2
    clear h1 h2 h3 h4 c14
    generalize es.getD 2 0 = y at *
    go_enter Tryz.func17, Tryz.ntmps17
    go_wp2_with fail
    go_at_call 50; refine H.mono ?_; rintro e w1 ⟨rfl, rfl⟩
    go_wp2_with fail
    go_ret
    exact ⟨rfl, rfl⟩
end
end Go.Proofs.YthjfbknmdligeaaGreat

namespace Go.Proofs.YthjfbknmdligeaaGreat
open Go Go.RowKit
set_option linter.unusedVariables false
set_option maxRecDepth 100000
set_option linter.unusedSimpArgs false

def wsGood (P T p : Int) : WsT → Prop
  | .get q => ((jgPM P T).ax q).isSome = true
  | .rel1 _ r => ((relPM (wd 0 2 3 0 1) (wd 0 2 3 0 2)).ax r).isSome = true
  | .back _ b => ((ipPM P p).ax b).isSome = true
  | .rel2 _ b _ => ∀ bb, b = some bb → bb.has = false
  | _ => True
theorem ip_end {P p : Int} {b : IpT} (h : (ipPM P p).ax b = none) : b.has = false := by
  cases b <;> first | rfl | cases h
theorem ws_good_next {P T p : Int} {sp lf : Bool} {s : WsT} {v : Int} (h : wsGood P T p s) : wsGood P T p ((wsPM P T p sp lf).nx s v) := by
  have hput : ∀ q, wsGood P T p (wsPut lf q) := fun q => by cases lf; exact rfl; exact trivial
  cases s with
  | get q =>
    by_cases hs : ((jgPM P T).ax ((jgPM P T).nx q v)).isSome = true
    · rw [show (wsPM P T p sp lf).nx (.get q) v = _ from if_pos hs]; exact hs
    · rw [show (wsPM P T p sp lf).nx (.get q) v = _ from if_neg hs]
      split
      · exact trivial
      · exact rfl
  | rel1 q r =>
    by_cases hs : ((relPM (wd 0 2 3 0 1) (wd 0 2 3 0 2)).ax ((relPM (wd 0 2 3 0 1) (wd 0 2 3 0 2)).nx r v)).isSome = true
    · rw [show (wsPM P T p sp lf).nx (.rel1 q r) v = _ from if_pos hs]; exact hs
    · rw [show (wsPM P T p sp lf).nx (.rel1 q r) v = _ from if_neg hs]; exact trivial
  | give q => exact trivial
  | note q n => exact trivial
  | need q =>
    cases sp
    · exact hput q
    · exact trivial
  | cnt q => exact hput q
  | lft q => intro bb hb; cases hb
  | back q b =>
    by_cases hs : ((ipPM P p).ax ((ipPM P p).nx b v)).isSome = true
    · rw [show (wsPM P T p sp lf).nx (.back q b) v = _ from if_pos hs]; exact hs
    · rw [show (wsPM P T p sp lf).nx (.back q b) v = _ from if_neg hs]
      intro bb hb
      cases hb
      exact ip_end (by simpa using hs)
  | rel2 q b r => exact h
theorem ws_end {P T p : Int} {sp lf : Bool} {s : WsT} (h : wsGood P T p s) (ha : (wsPM P T p sp lf).ax s = none) : s.holds p = -1 := by
  cases s with
  | get q => rw [show (wsPM P T p sp lf).ax (.get q) = (jgPM P T).ax q from rfl] at ha; rw [show wsGood P T p (.get q) = (((jgPM P T).ax q).isSome = true) from rfl, ha] at h; cases h
  | rel1 q r => rw [show (wsPM P T p sp lf).ax (.rel1 q r) = (relPM (wd 0 2 3 0 1) (wd 0 2 3 0 2)).ax r from rfl] at ha; rw [show wsGood P T p (.rel1 q r) = (((relPM (wd 0 2 3 0 1) (wd 0 2 3 0 2)).ax r).isSome = true) from rfl, ha] at h; cases h
  | give q => cases ha
  | note q n => rfl
  | need q => cases ha
  | cnt q => cases ha
  | lft q => cases ha
  | back q b => rw [show (wsPM P T p sp lf).ax (.back q b) = (ipPM P p).ax b from rfl] at ha; rw [show wsGood P T p (.back q b) = (((ipPM P p).ax b).isSome = true) from rfl, ha] at h; cases h
  | rel2 q b r =>
    cases b with
    | none => rfl
    | some bb =>
      have hb := h bb rfl
      show bb.obs p = -1
      unfold IpT.obs
      rw [hb]
      rfl
def hvGood (P T p : Int) : HvT → Prop
  | .runP s => wsGood P T p s
  | .runS s => wsGood P T p s
  | .ovP s => s.holds p = -1
  | .ovS s => s.holds p = -1
  | .rel q _ => q.has = false
  | .ovR q => q.has = false
  | _ => True
theorem hv_good_next {P T who p : Int} {s : HvT} {v : Int} (h : hvGood P T p s) : hvGood P T p ((hvPM P T who p).nx s v) := by
  cases s with
  | gs => show hvGood P T p (if v = 0 then .sp else .acqP .fresh); split <;> exact trivial
  | sp => show hvGood P T p (if v = 0 then .ip else .acqL .fresh); split <;> exact trivial
  | ip => show hvGood P T p (if v = 0 then .sw else .acqL .fresh); split <;> exact trivial
  | sw => show hvGood P T p (if v = 0 then .acqL .fresh else .nd); split <;> exact trivial
  | nd => exact trivial
  | gs2 => show hvGood P T p (if v = 0 then .ne else .runP (.get .ld)); split; exact trivial; exact rfl
  | ne => show hvGood P T p (if v = 0 then .put .m0 else .ad); split <;> exact trivial
  | ad => exact trivial
  | nd2 => exact rfl
  | ovP s => exact h
  | ovS s => exact h
  | ovR q => exact h
  | lk l =>
    by_cases hs : ((loPM P p).ax ((loPM P p).nx l v)).isSome = true
    · rw [show (hvPM P T who p).nx (.lk l) v = _ from if_pos hs]; exact trivial
    · rw [show (hvPM P T who p).nx (.lk l) v = _ from if_neg hs]; split <;> exact trivial
  | acqP a =>
    by_cases hs : ((acqPM (wd 0 2 3 0 0) (wd 0 2 3 0 1) (wd 0 2 3 0 2) who).ax ((acqPM (wd 0 2 3 0 0) (wd 0 2 3 0 1) (wd 0 2 3 0 2) who).nx a v)).isSome = true
    · rw [show (hvPM P T who p).nx (.acqP a) v = _ from if_pos hs]; exact trivial
    · rw [show (hvPM P T who p).nx (.acqP a) v = _ from if_neg hs]; exact rfl
  | acqS a =>
    by_cases hs : ((acqPM (wd 0 2 3 0 0) (wd 0 2 3 0 1) (wd 0 2 3 0 2) who).ax ((acqPM (wd 0 2 3 0 0) (wd 0 2 3 0 1) (wd 0 2 3 0 2) who).nx a v)).isSome = true
    · rw [show (hvPM P T who p).nx (.acqS a) v = _ from if_pos hs]; exact trivial
    · rw [show (hvPM P T who p).nx (.acqS a) v = _ from if_neg hs]; exact rfl
  | acqL a =>
    by_cases hs : ((acqPM (wd 0 2 3 0 0) (wd 0 2 3 0 1) (wd 0 2 3 0 2) who).ax ((acqPM (wd 0 2 3 0 0) (wd 0 2 3 0 1) (wd 0 2 3 0 2) who).nx a v)).isSome = true
    · rw [show (hvPM P T who p).nx (.acqL a) v = _ from if_pos hs]; exact trivial
    · rw [show (hvPM P T who p).nx (.acqL a) v = _ from if_neg hs]; exact trivial
  | runP s =>
    by_cases hs : ((wsPM P T p false true).ax ((wsPM P T p false true).nx s v)).isSome = true
    · rw [show (hvPM P T who p).nx (.runP s) v = _ from if_pos hs]; exact ws_good_next h
    · rw [show (hvPM P T who p).nx (.runP s) v = _ from if_neg hs]; exact ws_end (ws_good_next h) (by simpa using hs)
  | runS s =>
    by_cases hs : ((wsPM P T p true true).ax ((wsPM P T p true true).nx s v)).isSome = true
    · rw [show (hvPM P T who p).nx (.runS s) v = _ from if_pos hs]; exact ws_good_next h
    · rw [show (hvPM P T who p).nx (.runS s) v = _ from if_neg hs]; exact ws_end (ws_good_next h) (by simpa using hs)
  | put q =>
    by_cases hs : ((ipPM P p).ax ((ipPM P p).nx q v)).isSome = true
    · rw [show (hvPM P T who p).nx (.put q) v = _ from if_pos hs]; exact trivial
    · rw [show (hvPM P T who p).nx (.put q) v = _ from if_neg hs]; exact ip_end (by simpa using hs)
  | rel q r =>
    by_cases hs : ((relPM (wd 0 2 3 0 1) (wd 0 2 3 0 2)).ax ((relPM (wd 0 2 3 0 1) (wd 0 2 3 0 2)).nx r v)).isSome = true
    · rw [show (hvPM P T who p).nx (.rel q r) v = _ from if_pos hs]; exact h
    · rw [show (hvPM P T who p).nx (.rel q r) v = _ from if_neg hs]; exact h
theorem hv_end {P T G who p : Int} {cl : Nat} {s : HvT} (h : hvGood P T p s) (hok : (hvCp who P T G p cl).ok s) (ha : (hvPM P T who p).ax s = none) : s.holds p = -1 ∧ s.counts = false := by
  have hn : ∀ {o : Option Ax}, o.isSome = true → o = none → False := fun h1 h2 => by rw [h2] at h1; cases h1
  cases s with
  | ovP s => exact ⟨h, rfl⟩
  | ovS s => exact ⟨h, rfl⟩
  | ovR q => exact ⟨by show q.obs p = -1; unfold IpT.obs; rw [show q.has = false from h]; rfl, rfl⟩
  | lk l => exact (hn hok ha).elim
  | acqP a => exact (hn hok ha).elim
  | acqS a => exact (hn hok ha).elim
  | acqL a => exact (hn hok ha).elim
  | runP s => exact (hn hok.1 ha).elim
  | runS s => exact (hn hok.1 ha).elim
  | put q => exact (hn hok.1 ha).elim
  | rel q r => exact (hn hok ha).elim
  | _ => cases ha
/-- What handed over last has nothing in its hand. -/
def KeptOk (e : MoE) : Prop := ∀ p h, e.hv = some (p, h) → h.holds p = -1 ∧ h.counts = false
def MoGood (T : Int) (P : Nat) : MoT → Prop
  | .own .ad e => e.hv = some ((e.D.p : Int), .lk .hd)
  | .ov h e => hvGood P T e.D.p h ∧ (hvCp T P T 0 e.D.p 0).ok h
  | t => KeptOk t.e
theorem good_fold {b : Bool} {T : Int} {P : Nat} {S : MoP × MoD} {e : MoE} (h : KeptOk e) (hS : S.1 ≠ .ad) : MoGood T P (moFold b S e) := by
  obtain ⟨ph, d⟩ := S
  have hk : KeptOk { e with D := d } := h
  cases b <;> cases ph <;> first | exact hk | exact absurd rfl hS
theorem nad_visit (P : Nat) (d : MoD) (q : Nat) : (moVisit P d q).1 ≠ .ad := by unfold moVisit; split <;> (intro h; cases h)
theorem nad_seeStatus (P : Nat) (d : MoD) : (moSeeStatus P d).1 ≠ .ad := by
  unfold moSeeStatus; split
  · intro h; cases h
  · exact nad_visit _ _ _
theorem nad_judge (P : Nat) (d : MoD) (v : Int) : (moJudge P d v).1 ≠ .ad := by
  unfold moJudge; split
  · intro h; cases h
  · exact nad_visit _ _ _
theorem nad_turns (P : Nat) (d : MoD) (v : Int) : (moTurns P d v).1 ≠ .ad := by
  unfold moTurns; split
  · exact nad_seeStatus _ _
  · split
    · intro h; cases h
    · exact nad_seeStatus _ _
theorem mo_good_next {b : Bool} {T : Int} {P : Nat} {t : MoT} {v : Int} (hp : (P : Int) ≤ 64) (hT : 0 ≤ T ∧ T ≤ 65536) (hv : 0 ≤ v ∧ v ≤ 18446744073709551615) (h : MoGood T P t) (ha : ((moPM b P T).ax t).isSome = true) : MoGood T P ((moPM b P T).nx t v) := by
  cases t with
  | en e => exact h
  | own ph e =>
    cases ph with
    | nw => exact good_fold h (nad_visit _ _ _)
    | st => exact good_fold h (nad_judge _ _ _)
    | tu => exact good_fold h (nad_turns _ _ _)
    | pr => exact good_fold h (nad_seeStatus _ _)
    | ca =>
      by_cases hc : e.D.lt = false ∧ v ≠ e.D.f (e.D.p * 4 + 2)
      · rw [show (moPM b P T).nx (.own .ca e) v = _ from if_pos hc]; exact good_fold h (nad_visit _ _ _)
      · rw [show (moPM b P T).nx (.own .ca e) v = _ from if_neg hc]; exact h
    | sp => exact h
    | ip =>
      by_cases hc : moWaits e.D v = true
      · rw [show (moPM b P T).nx (.own .ip e) v = _ from if_pos hc]; exact good_fold h (nad_visit _ _ _)
      · rw [show (moPM b P T).nx (.own .ip e) v = _ from if_neg hc]; exact h
    | im => exact h
    | th => exact h
    | ip2 =>
      by_cases hc : moSpares T e.D.im e.D.th v = true
      · rw [show (moPM b P T).nx (.own .ip2 e) v = _ from if_pos hc]; exact h
      · rw [show (moPM b P T).nx (.own .ip2 e) v = _ from if_neg hc]; exact h
    | sw =>
      by_cases hc : v = 0
      · rw [show (moPM b P T).nx (.own .sw e) v = _ from if_pos hc]; exact good_fold h (nad_visit _ _ _)
      · rw [show (moPM b P T).nx (.own .sw e) v = _ from if_neg hc]; exact rfl
    | ad => exact ⟨trivial, rfl⟩
  | lk l e =>
    by_cases hs : ((loPM P e.D.p).ax ((loPM P e.D.p).nx l v)).isSome = true
    · rw [show (moPM b P T).nx (.lk l e) v = _ from if_pos hs]; exact h
    · rw [show (moPM b P T).nx (.lk l e) v = _ from if_neg hs]; split <;> exact h
  | acq a e =>
    by_cases hs : ((acqPM (wd 0 2 3 0 0) (wd 0 2 3 0 1) (wd 0 2 3 0 2) T).ax ((acqPM (wd 0 2 3 0 0) (wd 0 2 3 0 1) (wd 0 2 3 0 2) T).nx a v)).isSome = true
    · rw [show (moPM b P T).nx (.acq a e) v = _ from if_pos hs]; exact h
    · rw [show (moPM b P T).nx (.acq a e) v = _ from if_neg hs]; exact h
  | relN r e =>
    by_cases hs : ((relPM (wd 0 2 3 0 1) (wd 0 2 3 0 2)).ax ((relPM (wd 0 2 3 0 1) (wd 0 2 3 0 2)).nx r v)).isSome = true
    · rw [show (moPM b P T).nx (.relN r e) v = _ from if_pos hs]; exact h
    · rw [show (moPM b P T).nx (.relN r e) v = _ from if_neg hs]; exact good_fold h (nad_visit _ _ _)
  | relT r e =>
    by_cases hs : ((relPM (wd 0 2 3 0 1) (wd 0 2 3 0 2)).ax ((relPM (wd 0 2 3 0 1) (wd 0 2 3 0 2)).nx r v)).isSome = true
    · rw [show (moPM b P T).nx (.relT r e) v = _ from if_pos hs]; exact h
    · rw [show (moPM b P T).nx (.relT r e) v = _ from if_neg hs]; exact h
  | ov hh e =>
    obtain ⟨g1, g2⟩ := h
    obtain ⟨a, ha'⟩ := Option.isSome_iff_exists.1 ha
    have n1 := hv_good_next (who := T) (v := v) g1
    have n2 := hv_ok_next (v := v) ⟨by omega, hp⟩ hT hv g2 ha'
    by_cases hs : ((hvPM P T T e.D.p).ax ((hvPM P T T e.D.p).nx hh v)).isSome = true
    · rw [show (moPM b P T).nx (.ov hh e) v = _ from if_pos hs]; exact ⟨n1, n2⟩
    · rw [show (moPM b P T).nx (.ov hh e) v = _ from if_neg hs]
      refine good_fold ?_ (nad_visit _ _ _)
      intro p h hph
      injection hph with hph
      injection hph with e1 e2
      subst e1 e2
      exact hv_end n1 n2 (by simpa using hs)
theorem mo_good_run {T : Int} {P : Nat} {s0 : MoT} {g : Nat → Int} {m : Nat} {b : Bool} (hp : (P : Int) ≤ 64) (hT : 0 ≤ T ∧ T ≤ 65536) (h0 : MoGood T P s0) (hb : ∀ j, j < m → 0 ≤ g j ∧ g j ≤ 18446744073709551615) (hl : ∀ j, j < m → ((moPM b P T).ax ((moPM b P T).run s0 g j)).isSome = true) : ∀ j, j ≤ m → MoGood T P ((moPM b P T).run s0 g j)
  | 0, _ => h0
  | j + 1, h => mo_good_next hp hT (hb j (by omega)) (mo_good_run hp hT h0 hb hl j (by omega)) (hl j (by omega))
end Go.Proofs.YthjfbknmdligeaaGreat

namespace Go.Proofs.YthjfbknmdligeaaGreat
open Go Go.RowKit
set_option linter.unusedVariables false
set_option maxRecDepth 100000
set_option linter.unusedSimpArgs false

theorem But.lowk {w w1 w2 : World} {x k : Nat} (h : But [x] w w1) (h2 : But [k] w1 w2) (hk : w.heap.size ≤ k) : But [x] w w2 :=
  ⟨h2.os.trans h.os, h2.tape.trans h.tape, h2.output.trans h.output, Nat.le_trans h.size h2.size, fun i hi hc => (h2.block i (Nat.lt_of_lt_of_le hi h.size) (by simp; omega)).trans (h.block i hi hc)⟩
/-- Behind j accesses: the run, the config, the result's block, and the hand's. -/
structure HdAt {σ : Type} (w y : World) (x : Nat) (A : Option Addr) (cap m : Nat) (g : Nat → Int) (M : PM σ) (s0 : σ) (j0 j : Nat) (t : σ) (Q : σ → Prop) (cf : Array Value) (HT : TypeId) (z : Array Value) (o : Nat) (oc : Array Value) : Prop where
  run : RunOn y x A cap m g (M.rj s0 g m j)
  syn : Syn M s0 g m j t Q
  but : But [x] w y
  cfg : Blk y w.heap.size cf 23
  res : Blk y (w.heap.size + 1) z HT
  out : Blk y o oc HT
  lo : w.heap.size + 1 < o
  x : x < w.heap.size
  far : GotFar A [w.heap.size + 1, o]
  le : j0 ≤ j
section
variable {σ : Type} {w y : World} {x : Nat} {A : Option Addr} {cap m : Nat} {g : Nat → Int} {M : PM σ} {s0 : σ} {j0 j : Nat} {t : σ} {Q : σ → Prop} {cf : Array Value} {HT : TypeId} {z : Array Value} {o : Nat} {oc : Array Value} (h : HdAt w y x A cap m g M s0 j0 j t Q cf HT z o oc)
include h
theorem HdAt.go {y2 : World} {j2 : Nat} {t2 : σ} {Q2 : σ → Prop} (hR : RunOn y2 x A cap m g (M.rj s0 g m j2)) (hS : Syn M s0 g m j2 t2 Q2) (hB : But [x] y y2) (hj : j ≤ j2) : HdAt w y2 x A cap m g M s0 j0 j2 t2 Q2 cf HT z o oc := by
  have hx := h.x
  have hl := h.lo
  exact ⟨hR, hS, h.but.trans hB, h.cfg.but hB (by simp; omega), h.res.but hB (by simp; omega), h.out.but hB (by simp; omega), hl, hx, h.far, Nat.le_trans h.le hj⟩
theorem HdAt.low {Y : World} (hY : Below y.heap.size y Y) : HdAt w Y x A cap m g M s0 j0 j t Q cf HT z o oc :=
  ⟨h.run.below hY, h.syn, h.but.trans (But.of_below hY), h.cfg.but (But.of_below (l := []) hY) (by simp), h.res.but (But.of_below (l := []) hY) (by simp), h.out.but (But.of_below (l := []) hY) (by simp), h.lo, h.x, h.far, h.le⟩
theorem HdAt.as {t2 : σ} {Q2 : σ → Prop} (hS : Syn M s0 g m j t2 Q2) : HdAt w y x A cap m g M s0 j0 j t2 Q2 cf HT z o oc :=
  ⟨h.run, hS, h.but, h.cfg, h.res, h.out, h.lo, h.x, h.far, h.le⟩
theorem HdAt.set (i : Nat) (v : Value) : HdAt w (y.setCell ⟨o, i, none⟩ v) x A cap m g M s0 j0 j t Q cf HT z o (oc.setIfInBounds i v) := by
  have hx := h.x
  have hl := h.lo
  have hU : But [o] y (y.setCell ⟨o, i, none⟩ v) := (But.refl _ y).set (g := o) (.inl (by simp)) i _
  exact ⟨h.run.but hU (by simp; omega) (h.far.of (by intro k hk; simp at hk ⊢; omega)), h.syn, But.lowk h.but hU (by omega), h.cfg.but hU (by simp; omega), h.res.but hU (by simp; omega), h.out.set i v, hl, hx, h.far, h.le⟩
/-- An access: what is so behind it. -/
theorem HdAt.step {y2 : World} {v : Int} (hK : Kept' y y2 x A cap m g M s0 j t Q v) : HdAt w y2 x A cap m g M s0 j0 (j + 1) (M.nx t v) (fun r => r = t ∨ Q r) cf HT z o oc :=
  h.go hK.run hK.syn hK.but (Nat.le_succ _)
theorem HdAt.stop : y.cell? ⟨x, 2, none⟩ = some (.bool (decide (m < j))) := by
  have := h.run.blk.cell 2 (v := .bool (M.rj s0 g m j).stop) rfl
  rw [rj_stop h.syn] at this
  exact this
/-- The result is laid. -/
theorem HdAt.ret {a b c : Value} {z0 z1 z2 : Value} (hz : z = #[z0, z1, z2]) : RunOn (((y.setCell ⟨w.heap.size + 1, 0, none⟩ a).setCell ⟨w.heap.size + 1, 1, none⟩ b).setCell ⟨w.heap.size + 1, 2, none⟩ c) x A cap m g (M.rj s0 g m j) ∧ But [x] w (((y.setCell ⟨w.heap.size + 1, 0, none⟩ a).setCell ⟨w.heap.size + 1, 1, none⟩ b).setCell ⟨w.heap.size + 1, 2, none⟩ c) ∧ (((y.setCell ⟨w.heap.size + 1, 0, none⟩ a).setCell ⟨w.heap.size + 1, 1, none⟩ b).setCell ⟨w.heap.size + 1, 2, none⟩ c).heap[w.heap.size + 1]? = some (.cells #[a, b, c] HT (0, 0)) := by
  subst hz
  have hx := h.x
  have hU : But [w.heap.size + 1] y (((y.setCell ⟨w.heap.size + 1, 0, none⟩ a).setCell ⟨w.heap.size + 1, 1, none⟩ b).setCell ⟨w.heap.size + 1, 2, none⟩ c) := (((But.refl _ y).set (g := w.heap.size + 1) (.inl (by simp)) 0 _).set (g := w.heap.size + 1) (.inl (by simp)) 1 _).set (g := w.heap.size + 1) (.inl (by simp)) 2 _
  have hZ := ((h.res.set 0 a).set 1 b).set 2 c
  exact ⟨h.run.but hU (by simp; omega) (h.far.of (by intro k hk; simp at hk ⊢; omega)), But.lowk h.but hU (by omega), hZ.heap⟩
end
end Go.Proofs.YthjfbknmdligeaaGreat

namespace Go.Proofs.YthjfbknmdligeaaGreat
open Go Go.RowKit
set_option linter.unusedVariables false
set_option maxRecDepth 100000
set_option linter.unusedSimpArgs false

/-- A machine N within another. -/
structure PmIn {σ τ : Type} (M : PM σ) (N : PM τ) (emb : τ → σ) : Prop where
  ax : ∀ t a, N.ax t = some a → M.ax (emb t) = some a
  nx : ∀ t a v, N.ax t = some a → M.nx (emb t) v = emb (N.nx t v)
theorem pm_in {σ : Type} (M : PM σ) : PmIn M M (fun t => t) := ⟨fun _ _ h => h, fun _ _ _ _ => rfl⟩
/-- Where it stopped within N. -/
def PmQ {σ τ : Type} (Q : σ → Prop) (N : PM τ) (emb : τ → σ) (q : σ) : Prop := Q q ∨ ∃ t a, N.ax t = some a ∧ q = emb t
theorem PmQ.next {σ τ : Type} {Q : σ → Prop} {N : PM τ} {emb : τ → σ} {t : τ} {a : Ax} {q : σ} (ha : N.ax t = some a) (h : q = emb t ∨ PmQ Q N emb q) : PmQ Q N emb q := h.elim (fun h => .inr ⟨t, a, ha, h⟩) id
end Go.Proofs.YthjfbknmdligeaaGreat

namespace Go.Proofs.YthjfbknmdligeaaGreat
open Go Go.RowKit
set_option linter.unusedVariables false
set_option maxRecDepth 100000
set_option linter.unusedSimpArgs false

def LoGot {σ : Type} (M : PM σ) (emb : LoT → σ) (P p : Int) (w : World) (x : Nat) (A : Option Addr) (cap m : Nat) (gf : Nat → Int) (s0 : σ) (Q : σ → Prop) (j : Nat) (e : Ending) (w' : World) : Prop :=
  ∃ z j' s, e = .returned (.bool z) ∧ RunOn w' x A cap m gf (M.rj s0 gf m j') ∧ Syn M s0 gf m j' (emb s) (PmQ Q (loPM P p) emb) ∧ (loPM P p).ax s = none ∧ (j' ≤ m → z = s.e) ∧ (m < j' → z = false) ∧ But [x] w w' ∧ j ≤ j'
set_option maxHeartbeats 4000000 in
theorem syn_look {σ : Type} {M : PM σ} {P T G p : Int} {emb : LoT → σ} (hE : PmIn M (loPM P p) emb) (hp : 0 ≤ P ∧ P ≤ 64)
    {w : World} {x : Nat} {A : Option Addr} {cap m : Nat} {gf : Nat → Int} {s0 : σ} {j : Nat} {Q : σ → Prop} (hR : RunOn w x A cap m gf (M.rj s0 gf m j)) (hS : Syn M s0 gf m j (emb .hd) Q) (hb : ∀ j, j < m → 0 ≤ gf j ∧ gf j ≤ 18446744073709551615) :
    Calls Tryz.prog 70 #[.pointer (some ⟨x, 0, none⟩), .agg #[.int .i64 P, .int .i64 T, .int .i64 G], .int .i64 p] w fun e w' => LoGot M emb P p w x A cap m gf s0 Q j e w' := by
  have hb0 : Below w.heap.size w (w.alloc (.cells #[.int .i64 P, .int .i64 T, .int .i64 G] 23)) := (Below.refl _ _).alloc (Nat.le_refl _) _
  have HX0 : Hid (Blk (w.alloc (.cells #[.int .i64 P, .int .i64 T, .int .i64 G] 23)) w.heap.size #[.int .i64 P, .int .i64 T, .int .i64 G] 23) := Blk.new _ _ _
  have hxw := hR.blk.lt
  have HB0 : Hid (But [x] w (w.alloc (.cells #[.int .i64 P, .int .i64 T, .int .i64 G] 23))) := But.of_below hb0
  have HBD : Hid (∀ j, j < m → 0 ≤ gf j ∧ gf j ≤ 18446744073709551615) := hb
  have HE : Hid (PmIn M (loPM P p) emb) := hE
  have HPA : Hid (∀ f W, 0 ≤ f ∧ f < 8 → Calls Tryz.prog 86 #[.agg #[.int .i64 P, .int .i64 T, .int .i64 G], .int .i64 p, .int .i64 f] W fun e w' => e = .returned (.int .i64 (wd 20 P 264 p f)) ∧ Below W.heap.size W w') := fun f W hf => rprcAt_all P T G p f W hp.2 hf
  have HR0 : Hid (RunOn (w.alloc (.cells #[.int .i64 P, .int .i64 T, .int .i64 G] 23)) x A cap m gf (M.rj s0 gf m j)) := hR.below hb0
  have HS0 : Hid (Syn M s0 gf m j (emb .hd) (PmQ Q (loPM P p) emb)) := hS.weak (fun q h => .inl h)
  clear hR hS hb hb0 hp hE
  go_enter Tryz.func70, Tryz.ntmps70
  go_wp2_with fail
  generalize (w.alloc (.cells #[.int .i64 P, .int .i64 T, .int .i64 G] 23)) = Y0 at *
  have hPA := HPA.out 1 Y0 (by omega)
  have k0 := HX0.out.cell 0 (v := .int .i64 P) rfl
  have k1 := HX0.out.cell 1 (v := .int .i64 T) rfl
  have k2 := HX0.out.cell 2 (v := .int .i64 G) rfl
  try go_wp2_with fail
  go_at_call 86; refine hPA.mono ?_; rintro e Y1 ⟨rfl, h1⟩
  have hA := syn_load (HR0.out.below h1) HS0.out HBD.out (wd 20 P 264 p 1) (fun _ => HE.out.ax .hd _ rfl)
  have HBx : Hid (But [x] w Y1) := HB0.out.trans (But.of_below h1)
  have HXx : Hid (Blk Y1 w.heap.size #[.int .i64 P, .int .i64 T, .int .i64 G] 23) := HX0.out.but (But.of_below (l := []) h1) (by simp)
  have HSx : Hid (Syn M s0 gf m j (emb .hd) (PmQ Q (loPM P p) emb)) := HS0.out
  clear hPA h1 k0 k1 k2 HX0 HB0 HR0 HS0
  generalize wd 20 P 264 p 1 = at0 at *
  go_wp2_with fail
  go_at_call 44; refine hA.mono ?_; rintro e Y2 ⟨v1, rfl, hK⟩
  have HR1 : Hid (RunOn Y2 x A cap m gf (M.rj s0 gf m (j + 1))) := hK.run
  have HS1 : Hid (Syn M s0 gf m (j + 1) (emb (.tl v1)) (PmQ Q (loPM P p) emb)) := by
    have h := hK.syn
    rw [HE.out.nx .hd _ _ rfl] at h
    exact h.weak (fun q h => PmQ.next (t := .hd) rfl h)
  have HB1 : Hid (But [x] w Y2) := HBx.out.trans hK.but
  have HX1 : Hid (Blk Y2 w.heap.size #[.int .i64 P, .int .i64 T, .int .i64 G] 23) := HXx.out.but hK.but (by simp; omega)
  clear hA hK HBx HXx HSx
  have hPA := HPA.out 2 Y2 (by omega)
  have k0 := HX1.out.cell 0 (v := .int .i64 P) rfl
  have k1 := HX1.out.cell 1 (v := .int .i64 T) rfl
  have k2 := HX1.out.cell 2 (v := .int .i64 G) rfl
  try go_wp2_with fail
  go_at_call 86; refine hPA.mono ?_; rintro e Y3 ⟨rfl, h1⟩
  have hA := syn_load (HR1.out.below h1) HS1.out HBD.out (wd 20 P 264 p 2) (fun _ => HE.out.ax (.tl v1) _ rfl)
  have HBx : Hid (But [x] w Y3) := HB1.out.trans (But.of_below h1)
  have HXx : Hid (Blk Y3 w.heap.size #[.int .i64 P, .int .i64 T, .int .i64 G] 23) := HX1.out.but (But.of_below (l := []) h1) (by simp)
  have HSx : Hid (Syn M s0 gf m (j + 1) (emb (.tl v1)) (PmQ Q (loPM P p) emb)) := HS1.out
  clear hPA h1 k0 k1 k2 HX1 HB1 HR1 HS1
  generalize wd 20 P 264 p 2 = at1 at *
  go_wp2_with fail
  go_at_call 44; refine hA.mono ?_; rintro e Y4 ⟨v2, rfl, hK⟩
  have HR2 : Hid (RunOn Y4 x A cap m gf (M.rj s0 gf m (j + 1 + 1))) := hK.run
  have HS2 : Hid (Syn M s0 gf m (j + 1 + 1) (emb (.nx v1 v2)) (PmQ Q (loPM P p) emb)) := by
    have h := hK.syn
    rw [HE.out.nx (.tl v1) _ _ rfl] at h
    exact h.weak (fun q h => PmQ.next (t := (.tl v1)) rfl h)
  have HB2 : Hid (But [x] w Y4) := HBx.out.trans hK.but
  have HX2 : Hid (Blk Y4 w.heap.size #[.int .i64 P, .int .i64 T, .int .i64 G] 23) := HXx.out.but hK.but (by simp; omega)
  clear hA hK HBx HXx HSx
  have hPA := HPA.out 3 Y4 (by omega)
  have k0 := HX2.out.cell 0 (v := .int .i64 P) rfl
  have k1 := HX2.out.cell 1 (v := .int .i64 T) rfl
  have k2 := HX2.out.cell 2 (v := .int .i64 G) rfl
  try go_wp2_with fail
  go_at_call 86; refine hPA.mono ?_; rintro e Y5 ⟨rfl, h1⟩
  have hA := syn_load (HR2.out.below h1) HS2.out HBD.out (wd 20 P 264 p 3) (fun _ => HE.out.ax (.nx v1 v2) _ rfl)
  have HBx : Hid (But [x] w Y5) := HB2.out.trans (But.of_below h1)
  have HXx : Hid (Blk Y5 w.heap.size #[.int .i64 P, .int .i64 T, .int .i64 G] 23) := HX2.out.but (But.of_below (l := []) h1) (by simp)
  have HSx : Hid (Syn M s0 gf m (j + 1 + 1) (emb (.nx v1 v2)) (PmQ Q (loPM P p) emb)) := HS2.out
  clear hPA h1 k0 k1 k2 HX2 HB2 HR2 HS2
  generalize wd 20 P 264 p 3 = at2 at *
  go_wp2_with fail
  go_at_call 44; refine hA.mono ?_; rintro e Y6 ⟨v3, rfl, hK⟩
  have HR3 : Hid (RunOn Y6 x A cap m gf (M.rj s0 gf m (j + 1 + 1 + 1))) := hK.run
  have HS3 : Hid (Syn M s0 gf m (j + 1 + 1 + 1) (emb (.ag v1 v2 v3)) (PmQ Q (loPM P p) emb)) := by
    have h := hK.syn
    rw [HE.out.nx (.nx v1 v2) _ _ rfl] at h
    exact h.weak (fun q h => PmQ.next (t := (.nx v1 v2)) rfl h)
  have HB3 : Hid (But [x] w Y6) := HBx.out.trans hK.but
  have HX3 : Hid (Blk Y6 w.heap.size #[.int .i64 P, .int .i64 T, .int .i64 G] 23) := HXx.out.but hK.but (by simp; omega)
  clear hA hK HBx HXx HSx
  have hPA := HPA.out 2 Y6 (by omega)
  have k0 := HX3.out.cell 0 (v := .int .i64 P) rfl
  have k1 := HX3.out.cell 1 (v := .int .i64 T) rfl
  have k2 := HX3.out.cell 2 (v := .int .i64 G) rfl
  try go_wp2_with fail
  go_at_call 86; refine hPA.mono ?_; rintro e Y7 ⟨rfl, h1⟩
  have hA := syn_load (HR3.out.below h1) HS3.out HBD.out (wd 20 P 264 p 2) (fun _ => HE.out.ax (.ag v1 v2 v3) _ rfl)
  have HBx : Hid (But [x] w Y7) := HB3.out.trans (But.of_below h1)
  have HXx : Hid (Blk Y7 w.heap.size #[.int .i64 P, .int .i64 T, .int .i64 G] 23) := HX3.out.but (But.of_below (l := []) h1) (by simp)
  have HSx : Hid (Syn M s0 gf m (j + 1 + 1 + 1) (emb (.ag v1 v2 v3)) (PmQ Q (loPM P p) emb)) := HS3.out
  clear hPA h1 k0 k1 k2 HX3 HB3 HR3 HS3
  generalize wd 20 P 264 p 2 = at3 at *
  go_wp2_with fail
  go_at_call 44; refine hA.mono ?_; rintro e Y8 ⟨v4, rfl, hK⟩
  have HR4 : Hid (RunOn Y8 x A cap m gf (M.rj s0 gf m (j + 1 + 1 + 1 + 1))) := hK.run
  have HS4 : Hid (Syn M s0 gf m (j + 1 + 1 + 1 + 1) (emb (.over v1 v2 v3 (decide (v4 = v2 ∧ v4 = v1 ∧ v3 = 0)))) (PmQ Q (loPM P p) emb)) := by
    have h := hK.syn
    rw [HE.out.nx (.ag v1 v2 v3) _ _ rfl] at h
    exact h.weak (fun q h => PmQ.next (t := (.ag v1 v2 v3)) rfl h)
  have HB4 : Hid (But [x] w Y8) := HBx.out.trans hK.but
  have HX4 : Hid (Blk Y8 w.heap.size #[.int .i64 P, .int .i64 T, .int .i64 G] 23) := HXx.out.but hK.but (by simp; omega)
  clear hA hK HBx HXx HSx
  have sc := HR4.out.blk.cell 2 (v := .bool (M.rj s0 gf m (j + 1 + 1 + 1 + 1)).stop) rfl
  rw [rj_stop HS4.out] at sc
  clear HX4 HPA HBD HE
  by_cases hst : m < j + 1 + 1 + 1 + 1
  · rw [decide_eq_true hst] at sc
    have HF : Hid (LoGot M emb P p w x A cap m gf s0 Q j (.returned (.bool false)) Y8) := ⟨false, _, _, rfl, HR4.out, HS4.out, rfl, fun h => absurd h (by omega), fun _ => rfl, HB4.out, by omega⟩
    clear hst HR4 HS4 HB4
    go_wp2_with fail
    go_ret
    exact HF.out
  · rw [decide_eq_false hst] at sc
    have HF : Hid (∀ z, z = (decide (v1 = v2) && decide (v4 = v2) && decide (v3 = 0)) → LoGot M emb P p w x A cap m gf s0 Q j (.returned (.bool z)) Y8) := by
      intro z hz
      refine ⟨z, _, _, rfl, HR4.out, HS4.out, rfl, fun _ => ?_, fun h => absurd h hst, HB4.out, by omega⟩
      rw [hz, Bool.eq_iff_iff]
      simp [LoT.e]
      constructor
      · rintro ⟨⟨a, b⟩, c⟩; exact ⟨b, by omega, c⟩
      · rintro ⟨a, b, c⟩; exact ⟨⟨by omega, a⟩, c⟩
    clear hst HR4 HS4 HB4
    go_wp2_with fail
    all_goals
      go_ret
      refine HF.out _ ?_
      rw [Bool.eq_iff_iff]
      simp [*]
end Go.Proofs.YthjfbknmdligeaaGreat

namespace Go.Proofs.YthjfbknmdligeaaGreat
open Go Go.RowKit
set_option linter.unusedVariables false
set_option maxRecDepth 100000
set_option linter.unusedSimpArgs false

theorem rbit_any (p : Int) (w : World) : Calls Tryz.prog 107 #[.int .i64 p] w fun e w' => e = .returned (.int .u64 (bitOf p)) ∧ w = w' := by
  by_cases h0 : p < 0
  · have e : bitOf p = 0 := by unfold bitOf; rw [if_neg (by omega)]
    rw [e]
    go_enter Tryz.func107, Tryz.ntmps107
    go_wp2_with fail
    go_ret
    exact ⟨rfl, rfl⟩
  · have d0 : decide (p < 0) = false := decide_eq_false h0
    by_cases h1 : 63 < p
    · have e : bitOf p = 0 := by unfold bitOf; rw [if_neg (by omega)]
      rw [e]
      clear h0
      go_enter Tryz.func107, Tryz.ntmps107
      go_wp2_with fail
      go_ret
      exact ⟨rfl, rfl⟩
    · have d1 : decide (63 < p) = false := decide_eq_false h1
      obtain ⟨n, rfl⟩ : ∃ n : Nat, p = n := ⟨p.toNat, by omega⟩
      have e : bitOf (n : Int) = ((2 ^ n : Nat) : Int) := by unfold bitOf; rw [if_pos (by omega)]; rfl
      have HN : Hid (n ≤ 63) := (by omega : n ≤ 63)
      rw [e]
      clear h0 h1 e
      go_enter Tryz.func107, Tryz.ntmps107
      go_wp2_with fail
      go_loopw [3, 4] (fun o i wr => ∃ k z : Nat, k ≤ n ∧ o = .int .u64 (z : Int) ∧ i = .int .i64 k ∧ wr = w ∧ Hid (z = 2 ^ k)) (fun _ i _ => n - (intOf i).toNat)
      case atStart => exact ⟨0, 1, Nat.zero_le _, rfl, rfl, rfl, rfl⟩
      case round =>
        obtain ⟨k, z, hk, rfl, rfl, rfl, HZ⟩ := hrel
        have hn63 := HN.out
        by_cases hlt : k < n
        · have hz : z ≤ 2 ^ 62 := by rw [HZ.out]; exact Nat.pow_le_pow_right (by omega) (by omega)
          have e2 : IntKind.u64.wrap (2 * (z : Int)) = ((2 * z : Nat) : Int) := by rw [wrap_u64 (by omega)]; omega
          have HZ2 : Hid (2 * z = 2 ^ (k + 1)) := (by rw [Nat.pow_succ, HZ.out]; omega : 2 * z = 2 ^ (k + 1))
          generalize 2 * z = z' at *
          have hk1 : (k : Int) < (n : Int) := by omega
          clear hz
          go_wp2_with fail
          go_roundw
          case rel => exact ⟨k + 1, z', by omega, rfl, by go_num, trivial, HZ2⟩
          case measure => simp [intOf]; omega
        · obtain rfl : k = n := by omega
          have hgd : decide ((k : Int) < (k : Int)) = false := by simp
          go_wp2_with fail
          go_ret
          rw [← HZ.out]
          exact ⟨rfl, rfl⟩
theorem rmasked_any (v p : Int) (w : World) (hv : 0 ≤ v ∧ v ≤ 18446744073709551615) : Calls Tryz.prog 106 #[.int .u64 v, .int .i64 p] w fun e w' => e = .returned (.bool (mskB v p)) ∧ w = w' := by
  have hB := fun W => rbit_any p W
  have hbd := bitOf_bd p
  unfold mskB
  by_cases h0 : bitOf p = 0
  · rw [h0] at hB ⊢
    clear h0 hbd
    go_enter Tryz.func106, Tryz.ntmps106
    go_wp2_with fail
    go_at_call 107; refine (hB _).mono ?_; rintro e w1 ⟨rfl, rfl⟩
    go_wp2_with fail
    go_ret
    exact ⟨rfl, rfl⟩
  · rw [decide_eq_true h0, Bool.true_and]
    have t1 : v.tdiv (bitOf p) = v / bitOf p := Int.tdiv_eq_ediv_of_nonneg hv.1
    have hq : 0 ≤ v / bitOf p := Int.ediv_nonneg hv.1 hbd.1
    have hq2 : v / bitOf p ≤ v := Int.ediv_le_self _ hv.1
    have t2 : (v / bitOf p).tmod 2 = v / bitOf p % 2 := Int.tmod_eq_emod_of_nonneg hq
    have t3 : IntKind.u64.wrap (v / bitOf p) = v / bitOf p := wrap_u64 (by omega)
    have t4 : IntKind.u64.wrap (v / bitOf p % 2) = v / bitOf p % 2 := wrap_u64 (by omega)
    have hd0 : (bitOf p == 0) = false := by simpa using h0
    generalize v / bitOf p = q at *
    generalize bitOf p = b at *
    have hr : 0 ≤ q % 2 := by omega
    generalize q % 2 = r at *
    have HH0 : Hid (b ≠ 0) := h0
    clear hbd hq hq2
    go_enter Tryz.func106, Tryz.ntmps106
    go_wp2_with fail
    go_at_call 107; refine (hB _).mono ?_; rintro e w1 ⟨rfl, rfl⟩
    go_wp2_with fail
    go_at_call 107; refine (hB _).mono ?_; rintro e w1 ⟨rfl, rfl⟩
    go_wp2_with fail
    go_ret
    have hb0 : (b != 0) = true := by simpa using HH0.out
    rw [← Bool.true_and (decide (r = 1)), ← hb0]
    exact ⟨rfl, rfl⟩
end Go.Proofs.YthjfbknmdligeaaGreat

namespace Go.Proofs.YthjfbknmdligeaaGreat
open Go Go.RowKit
set_option linter.unusedVariables false
set_option maxRecDepth 100000
set_option linter.unusedSimpArgs false

structure IpIn {σ : Type} (M : PM σ) (P p : Int) (emb : IpT → σ) : Prop where
  m0 : M.ax (emb .m0) = some (axLd 19)
  ms : ∀ w, M.ax (emb (.ms w)) = some (axSt 19 (mskIn w p))
  h0 : M.ax (emb .h0) = some (axLd 9)
  ln : ∀ h, M.ax (emb (.ln h)) = some (axSt (wd 20 P 264 p 7) h)
  st : M.ax (emb .st) = some (axSt 9 (ilw p))
  ct : M.ax (emb .ct) = some (axAd 10 1)
  n1 : ∀ v, M.nx (emb .m0) v = emb (.ms v)
  n2 : ∀ w v, M.nx (emb (.ms w)) v = emb .h0
  n3 : ∀ v, M.nx (emb .h0) v = emb (.ln v)
  n4 : ∀ h v, M.nx (emb (.ln h)) v = emb .st
  n5 : ∀ v, M.nx (emb .st) v = emb .ct
  n6 : ∀ v, M.nx (emb .ct) v = emb .over
/-- Where a put stopped, and what it answered. -/
def IpQ {σ : Type} (Q : σ → Prop) (emb : IpT → σ) (p r : Int) (q : σ) : Prop := (Q q ∧ r = p) ∨ ∃ p', p' ≠ IpT.over ∧ q = emb p' ∧ r = p'.obs p
theorem ip_in (P p : Int) : IpIn (ipPM P p) P p (fun t => t) := ⟨rfl, fun _ => rfl, rfl, fun _ => rfl, rfl, rfl, fun _ => rfl, fun _ _ => rfl, fun _ => rfl, fun _ _ => rfl, fun _ => rfl, fun _ => rfl⟩

set_option maxHeartbeats 4000000 in
theorem syn_iput {σ : Type} {M : PM σ} {P T G p : Int} {emb : IpT → σ} (hE : IpIn M P p emb) (hp : 0 ≤ P ∧ P ≤ 64)
    {w : World} {x : Nat} {A : Option Addr} {cap m : Nat} {g : Nat → Int} {s0 : σ} {j : Nat} {Q : σ → Prop} (hR : RunOn w x A cap m g (M.rj s0 g m j)) (hS : Syn M s0 g m j (emb .m0) Q) (hb : ∀ j, j < m → 0 ≤ g j ∧ g j ≤ 18446744073709551615) :
    Calls Tryz.prog 96 #[.pointer (some ⟨x, 0, none⟩), .agg #[.int .i64 P, .int .i64 T, .int .i64 G], .int .i64 p] w fun e w' => ∃ r j', e = .returned (.int .i64 r) ∧ RunOn w' x A cap m g (M.rj s0 g m j') ∧ Syn M s0 g m j' (emb .over) (IpQ Q emb p r) ∧ (j' ≤ m → r = -1) ∧ But [x] w w' ∧ j ≤ j' := by
  have hb0 : Below w.heap.size w (w.alloc (.cells #[.int .i64 P, .int .i64 T, .int .i64 G] 23)) := (Below.refl _ _).alloc (Nat.le_refl _) _
  have HX : Hid (Blk (w.alloc (.cells #[.int .i64 P, .int .i64 T, .int .i64 G] 23)) w.heap.size #[.int .i64 P, .int .i64 T, .int .i64 G] 23) := Blk.new _ _ _
  have hxw := hR.blk.lt
  have HB0 : Hid (But [x] w (w.alloc (.cells #[.int .i64 P, .int .i64 T, .int .i64 G] 23))) := But.of_below hb0
  have HE : Hid (IpIn M P p emb) := hE
  have HBD : Hid (∀ j, j < m → 0 ≤ g j ∧ g j ≤ 18446744073709551615) := hb
  have hPA := fun W => rprcAt_all P T G p 7 W hp.2 (by omega)
  have hL := syn_load (hR.below hb0) hS hb 19 (fun _ => hE.m0)
  clear hR hS hE hb hb0 hp
  go_enter Tryz.func96, Tryz.ntmps96
  go_wp2_with fail
  generalize w.alloc (.cells #[.int .i64 P, .int .i64 T, .int .i64 G] 23) = W at *
  go_at_call 44; refine hL.mono ?_; rintro e y2 ⟨v, rfl, hK⟩
  have HR2 : Hid (RunOn y2 x A cap m g (M.rj s0 g m (j + 1))) := hK.run
  have hvb := hK.bd
  have HS2 : Hid (Syn M s0 g m (j + 1) (emb (.ms v)) (fun q => Q q ∨ ∃ p', p' ≠ IpT.over ∧ q = emb p' ∧ p'.obs p = p)) := by
    have := hK.syn
    rw [HE.out.n1] at this
    exact this.weak (fun r hr => by rcases hr with rfl | hr; exact .inr ⟨.m0, (fun h => by cases h), rfl, rfl⟩; exact .inl hr)
  have HX2 : Hid (Blk y2 w.heap.size #[.int .i64 P, .int .i64 T, .int .i64 G] 23) := HX.out.but hK.but (by simp; omega)
  have HB2 : Hid (But [x] w y2) := HB0.out.trans hK.but
  have hMk := rmasked_any v p y2 hvb
  have hBt := rbit_any p y2
  have hor := or_bit v p hvb
  have hSt2 := syn_store HR2.out HS2.out HBD.out 19 (mskIn v p) (fun _ => HE.out.ms v)
  clear hL hK HX HB0
  cases hmb : mskB v p
  · rw [hmb] at hMk
    have hmv : mskIn v p = v + bitOf p := by unfold mskIn; rw [hmb]; rfl
    have hwv : IntKind.u64.wrap (v + bitOf p) = mskIn v p := by rw [← hmv]; exact wrap_u64 (by omega)
    have HIN : Hid (True) := trivial
    clear hmb hor hmv
    generalize mskIn v p = mv at *
    generalize bitOf p = bp at *
    go_wp2_with fail
    go_at_call 106; refine hMk.mono ?_; rintro e w1 ⟨rfl, rfl⟩
    go_wp2_with fail
    go_at_call 107; refine hBt.mono ?_; rintro e w1 ⟨rfl, rfl⟩
    clear hMk hBt
    go_wp2_with fail
    go_at_call 69; refine hSt2.mono ?_; rintro e y3 ⟨⟨u3, rfl⟩, v3, hK⟩
    have HS3 : Hid (Syn M s0 g m (j + 1 + 1) (emb .h0) (fun q => Q q ∨ ∃ p', p' ≠ IpT.over ∧ q = emb p' ∧ p'.obs p = p)) := by
      have := hK.syn
      rw [HE.out.n2] at this
      exact this.weak (fun r hr => by rcases hr with rfl | hr; exact .inr ⟨.ms v, (fun h => by cases h), rfl, rfl⟩; exact hr)
    have HX3 : Hid (Blk y3 w.heap.size #[.int .i64 P, .int .i64 T, .int .i64 G] 23) := HX2.out.but hK.but (by simp; omega)
    have HB3 : Hid (But [x] w y3) := HB2.out.trans hK.but
    have hL3 := syn_load hK.run HS3.out HBD.out 9 (fun _ => HE.out.h0)
    clear hSt2 hK HX2 HB2 HS2 HR2
    go_wp2_with fail
    go_at_call 44; refine hL3.mono ?_; rintro e y4 ⟨h, rfl, hK⟩
    have HR4 : Hid (RunOn y4 x A cap m g (M.rj s0 g m (j + 1 + 1 + 1))) := hK.run
    have HS4 : Hid (Syn M s0 g m (j + 1 + 1 + 1) (emb (.ln h)) (fun q => Q q ∨ ∃ p', p' ≠ IpT.over ∧ q = emb p' ∧ p'.obs p = p)) := by
      have := hK.syn
      rw [HE.out.n3] at this
      exact this.weak (fun r hr => by rcases hr with rfl | hr; exact .inr ⟨.h0, (fun h => by cases h), rfl, rfl⟩; exact hr)
    have HX4 : Hid (Blk y4 w.heap.size #[.int .i64 P, .int .i64 T, .int .i64 G] 23) := HX3.out.but hK.but (by simp; omega)
    have HB4 : Hid (But [x] w y4) := HB3.out.trans hK.but
    have k0 := HX4.out.cell 0 (v := .int .i64 P) rfl
    have k1 := HX4.out.cell 1 (v := .int .i64 T) rfl
    have k2 := HX4.out.cell 2 (v := .int .i64 G) rfl
    have hPA4 := hPA y4
    have HSt4 : Hid (∀ Y, Below y4.heap.size y4 Y → _) := fun Y (hY : Below y4.heap.size y4 Y) => syn_store (HR4.out.below hY) HS4.out HBD.out (wd 20 P 264 p 7) h (fun _ => HE.out.ln h)
    clear hL3 hK HX3 HB3 HS3 hPA
    go_wp2_with fail
    go_at_call 86; refine hPA4.mono ?_; rintro e y5 ⟨rfl, h5⟩
    have hSt4 := HSt4.out y5 h5
    have HB5 : Hid (But [x] w y5) := HB4.out.trans (But.of_below h5)
    clear hPA4 h5 k0 k1 k2 HX4 HB4 HSt4 HR4
    go_wp2_with fail
    go_at_call 69; refine hSt4.mono ?_; rintro e y6 ⟨⟨u6, rfl⟩, v6, hK⟩
    have HS6 : Hid (Syn M s0 g m (j + 1 + 1 + 1 + 1) (emb .st) (fun q => Q q ∨ ∃ p', p' ≠ IpT.over ∧ q = emb p' ∧ p'.obs p = p)) := by
      have := hK.syn
      rw [HE.out.n4] at this
      exact this.weak (fun r hr => by rcases hr with rfl | hr; exact .inr ⟨.ln h, (fun h => by cases h), rfl, rfl⟩; exact hr)
    have HB6 : Hid (But [x] w y6) := HB5.out.trans hK.but
    have hSt6 := syn_store hK.run HS6.out HBD.out 9 (ilw p) (fun _ => HE.out.st)
    have hlw : IntKind.u64.wrap (IntKind.u64.wrap p + 1) = ilw p := rfl
    generalize ilw p = lp at *
    clear hSt4 hK HB5 HS4
    go_wp2_with fail
    go_at_call 69; refine hSt6.mono ?_; rintro e y7 ⟨⟨u7, rfl⟩, v7, hK⟩
    have HR7 : Hid (RunOn y7 x A cap m g (M.rj s0 g m (j + 1 + 1 + 1 + 1 + 1))) := hK.run
    have HS7 : Hid (Syn M s0 g m (j + 1 + 1 + 1 + 1 + 1) (emb .ct) (fun q => Q q ∨ ∃ p', p' ≠ IpT.over ∧ q = emb p' ∧ p'.obs p = p)) := by
      have := hK.syn
      rw [HE.out.n5] at this
      exact this.weak (fun r hr => by rcases hr with rfl | hr; exact .inr ⟨.st, (fun h => by cases h), rfl, rfl⟩; exact hr)
    have HB7 : Hid (But [x] w y7) := HB6.out.trans hK.but
    have hA7 := syn_add hK.run HS7.out HBD.out 10 1 (fun _ => HE.out.ct)
    have sc := HR7.out.blk.cell 2 (v := .bool (M.rj s0 g m (j + 1 + 1 + 1 + 1 + 1)).stop) rfl
    rw [rj_stop HS7.out] at sc
    clear hSt6 hK HB6 HS6 hlw
    by_cases hst : m < j + 1 + 1 + 1 + 1 + 1
    · have HST : Hid (m < j + 1 + 1 + 1 + 1 + 1) := hst
      have HPAST : Hid (IpQ Q emb p p (M.run s0 g m)) := by
        rcases (HS7.out.past hst).1 with hq | ⟨p', h1, h2, h3⟩
        · exact .inl ⟨hq, rfl⟩
        · exact .inr ⟨p', h1, h2, h3.symm⟩
      rw [decide_eq_true hst] at sc
      clear hst
      go_wp2_with fail
      go_at_call 74; refine hA7.mono ?_; rintro e y8 ⟨v8, rfl, hK⟩
      have HF : Hid (RunOn y8 x A cap m g (M.rj s0 g m (j + 1 + 1 + 1 + 1 + 1 + 1)) ∧ Syn M s0 g m (j + 1 + 1 + 1 + 1 + 1 + 1) (emb .over) (IpQ Q emb p p) ∧ But [x] w y8) := by
        exact ⟨hK.run, ⟨fun h => absurd h (by have := HST.out; omega), fun h => ⟨HPAST.out, (HS7.out.past HST.out).2⟩⟩, HB7.out.trans hK.but⟩
      clear hA7 hK sc
      go_wp2_with fail
      go_ret
      exact ⟨p, j + 1 + 1 + 1 + 1 + 1 + 1, rfl, HF.out.1, HF.out.2.1, fun h => absurd h (by have := HST.out; omega), HF.out.2.2, by omega⟩
    · have HST : Hid (j + 1 + 1 + 1 + 1 + 1 ≤ m) := (by omega : j + 1 + 1 + 1 + 1 + 1 ≤ m)
      rw [decide_eq_false hst] at sc
      clear hst
      go_wp2_with fail
      go_at_call 74; refine hA7.mono ?_; rintro e y8 ⟨v8, rfl, hK⟩
      have HF : Hid (RunOn y8 x A cap m g (M.rj s0 g m (j + 1 + 1 + 1 + 1 + 1 + 1)) ∧ Syn M s0 g m (j + 1 + 1 + 1 + 1 + 1 + 1) (emb .over) (IpQ Q emb p (-1)) ∧ But [x] w y8) := by
        have := hK.syn
        rw [HE.out.n6] at this
        refine ⟨hK.run, ⟨this.at', fun h => ⟨?_, (this.past h).2⟩⟩, HB7.out.trans hK.but⟩
        have hm : m = j + 1 + 1 + 1 + 1 + 1 := by have := HST.out; omega
        have h2 := HS7.out.at' HST.out
        rw [← hm] at h2
        exact .inr ⟨.ct, (fun h => by cases h), h2, rfl⟩
      clear hA7 hK sc
      go_wp2_with fail
      go_ret
      exact ⟨-1, j + 1 + 1 + 1 + 1 + 1 + 1, rfl, HF.out.1, HF.out.2.1, fun _ => rfl, HF.out.2.2, by omega⟩
  · rw [hmb] at hMk
    have hmv : mskIn v p = v := by unfold mskIn; rw [hmb]; rfl
    rw [hmv] at hSt2
    clear hmb hor hmv hBt
    go_wp2_with fail
    go_at_call 106; refine hMk.mono ?_; rintro e w1 ⟨rfl, rfl⟩
    clear hMk
    go_wp2_with fail
    go_at_call 69; refine hSt2.mono ?_; rintro e y3 ⟨⟨u3, rfl⟩, v3, hK⟩
    have HS3 : Hid (Syn M s0 g m (j + 1 + 1) (emb .h0) (fun q => Q q ∨ ∃ p', p' ≠ IpT.over ∧ q = emb p' ∧ p'.obs p = p)) := by
      have := hK.syn
      rw [HE.out.n2] at this
      exact this.weak (fun r hr => by rcases hr with rfl | hr; exact .inr ⟨.ms v, (fun h => by cases h), rfl, rfl⟩; exact hr)
    have HX3 : Hid (Blk y3 w.heap.size #[.int .i64 P, .int .i64 T, .int .i64 G] 23) := HX2.out.but hK.but (by simp; omega)
    have HB3 : Hid (But [x] w y3) := HB2.out.trans hK.but
    have hL3 := syn_load hK.run HS3.out HBD.out 9 (fun _ => HE.out.h0)
    clear hSt2 hK HX2 HB2 HS2 HR2
    go_wp2_with fail
    go_at_call 44; refine hL3.mono ?_; rintro e y4 ⟨h, rfl, hK⟩
    have HR4 : Hid (RunOn y4 x A cap m g (M.rj s0 g m (j + 1 + 1 + 1))) := hK.run
    have HS4 : Hid (Syn M s0 g m (j + 1 + 1 + 1) (emb (.ln h)) (fun q => Q q ∨ ∃ p', p' ≠ IpT.over ∧ q = emb p' ∧ p'.obs p = p)) := by
      have := hK.syn
      rw [HE.out.n3] at this
      exact this.weak (fun r hr => by rcases hr with rfl | hr; exact .inr ⟨.h0, (fun h => by cases h), rfl, rfl⟩; exact hr)
    have HX4 : Hid (Blk y4 w.heap.size #[.int .i64 P, .int .i64 T, .int .i64 G] 23) := HX3.out.but hK.but (by simp; omega)
    have HB4 : Hid (But [x] w y4) := HB3.out.trans hK.but
    have k0 := HX4.out.cell 0 (v := .int .i64 P) rfl
    have k1 := HX4.out.cell 1 (v := .int .i64 T) rfl
    have k2 := HX4.out.cell 2 (v := .int .i64 G) rfl
    have hPA4 := hPA y4
    have HSt4 : Hid (∀ Y, Below y4.heap.size y4 Y → _) := fun Y (hY : Below y4.heap.size y4 Y) => syn_store (HR4.out.below hY) HS4.out HBD.out (wd 20 P 264 p 7) h (fun _ => HE.out.ln h)
    clear hL3 hK HX3 HB3 HS3 hPA
    go_wp2_with fail
    go_at_call 86; refine hPA4.mono ?_; rintro e y5 ⟨rfl, h5⟩
    have hSt4 := HSt4.out y5 h5
    have HB5 : Hid (But [x] w y5) := HB4.out.trans (But.of_below h5)
    clear hPA4 h5 k0 k1 k2 HX4 HB4 HSt4 HR4
    go_wp2_with fail
    go_at_call 69; refine hSt4.mono ?_; rintro e y6 ⟨⟨u6, rfl⟩, v6, hK⟩
    have HS6 : Hid (Syn M s0 g m (j + 1 + 1 + 1 + 1) (emb .st) (fun q => Q q ∨ ∃ p', p' ≠ IpT.over ∧ q = emb p' ∧ p'.obs p = p)) := by
      have := hK.syn
      rw [HE.out.n4] at this
      exact this.weak (fun r hr => by rcases hr with rfl | hr; exact .inr ⟨.ln h, (fun h => by cases h), rfl, rfl⟩; exact hr)
    have HB6 : Hid (But [x] w y6) := HB5.out.trans hK.but
    have hSt6 := syn_store hK.run HS6.out HBD.out 9 (ilw p) (fun _ => HE.out.st)
    have hlw : IntKind.u64.wrap (IntKind.u64.wrap p + 1) = ilw p := rfl
    generalize ilw p = lp at *
    clear hSt4 hK HB5 HS4
    go_wp2_with fail
    go_at_call 69; refine hSt6.mono ?_; rintro e y7 ⟨⟨u7, rfl⟩, v7, hK⟩
    have HR7 : Hid (RunOn y7 x A cap m g (M.rj s0 g m (j + 1 + 1 + 1 + 1 + 1))) := hK.run
    have HS7 : Hid (Syn M s0 g m (j + 1 + 1 + 1 + 1 + 1) (emb .ct) (fun q => Q q ∨ ∃ p', p' ≠ IpT.over ∧ q = emb p' ∧ p'.obs p = p)) := by
      have := hK.syn
      rw [HE.out.n5] at this
      exact this.weak (fun r hr => by rcases hr with rfl | hr; exact .inr ⟨.st, (fun h => by cases h), rfl, rfl⟩; exact hr)
    have HB7 : Hid (But [x] w y7) := HB6.out.trans hK.but
    have hA7 := syn_add hK.run HS7.out HBD.out 10 1 (fun _ => HE.out.ct)
    have sc := HR7.out.blk.cell 2 (v := .bool (M.rj s0 g m (j + 1 + 1 + 1 + 1 + 1)).stop) rfl
    rw [rj_stop HS7.out] at sc
    clear hSt6 hK HB6 HS6 hlw
    by_cases hst : m < j + 1 + 1 + 1 + 1 + 1
    · have HST : Hid (m < j + 1 + 1 + 1 + 1 + 1) := hst
      have HPAST : Hid (IpQ Q emb p p (M.run s0 g m)) := by
        rcases (HS7.out.past hst).1 with hq | ⟨p', h1, h2, h3⟩
        · exact .inl ⟨hq, rfl⟩
        · exact .inr ⟨p', h1, h2, h3.symm⟩
      rw [decide_eq_true hst] at sc
      clear hst
      go_wp2_with fail
      go_at_call 74; refine hA7.mono ?_; rintro e y8 ⟨v8, rfl, hK⟩
      have HF : Hid (RunOn y8 x A cap m g (M.rj s0 g m (j + 1 + 1 + 1 + 1 + 1 + 1)) ∧ Syn M s0 g m (j + 1 + 1 + 1 + 1 + 1 + 1) (emb .over) (IpQ Q emb p p) ∧ But [x] w y8) := by
        exact ⟨hK.run, ⟨fun h => absurd h (by have := HST.out; omega), fun h => ⟨HPAST.out, (HS7.out.past HST.out).2⟩⟩, HB7.out.trans hK.but⟩
      clear hA7 hK sc
      go_wp2_with fail
      go_ret
      exact ⟨p, j + 1 + 1 + 1 + 1 + 1 + 1, rfl, HF.out.1, HF.out.2.1, fun h => absurd h (by have := HST.out; omega), HF.out.2.2, by omega⟩
    · have HST : Hid (j + 1 + 1 + 1 + 1 + 1 ≤ m) := (by omega : j + 1 + 1 + 1 + 1 + 1 ≤ m)
      rw [decide_eq_false hst] at sc
      clear hst
      go_wp2_with fail
      go_at_call 74; refine hA7.mono ?_; rintro e y8 ⟨v8, rfl, hK⟩
      have HF : Hid (RunOn y8 x A cap m g (M.rj s0 g m (j + 1 + 1 + 1 + 1 + 1 + 1)) ∧ Syn M s0 g m (j + 1 + 1 + 1 + 1 + 1 + 1) (emb .over) (IpQ Q emb p (-1)) ∧ But [x] w y8) := by
        have := hK.syn
        rw [HE.out.n6] at this
        refine ⟨hK.run, ⟨this.at', fun h => ⟨?_, (this.past h).2⟩⟩, HB7.out.trans hK.but⟩
        have hm : m = j + 1 + 1 + 1 + 1 + 1 := by have := HST.out; omega
        have h2 := HS7.out.at' HST.out
        rw [← hm] at h2
        exact .inr ⟨.ct, (fun h => by cases h), h2, rfl⟩
      clear hA7 hK sc
      go_wp2_with fail
      go_ret
      exact ⟨-1, j + 1 + 1 + 1 + 1 + 1 + 1, rfl, HF.out.1, HF.out.2.1, fun _ => rfl, HF.out.2.2, by omega⟩

theorem rgiput_on (w : World) (x : Nat) (A : Option Addr) (cap m : Nat) (gf : Nat → Int) (P T G p : Int) (t : IpT) (h : RunOn w x A cap m gf rn0) (hh : Hist (ipPM P p) .m0 gf m t) (hp : 0 ≤ P ∧ P ≤ 64) :
    Calls Tryz.prog 96 #[.pointer (some ⟨x, 0, none⟩), .agg #[.int .i64 P, .int .i64 T, .int .i64 G], .int .i64 p] w fun e w' => e = .returned (.int .i64 (t.obs p)) ∧ RunOn w' x A cap m gf ((ipPM P p).rn t m) ∧ But [x] w w' := by
  rw [← rj_start (M := ipPM P p) (s0 := IpT.m0) (g := gf) (m := m)] at h
  refine (syn_iput (ip_in P p) hp h (Syn.start _ _ _ _) hh.bd).mono ?_
  rintro e w' ⟨r, j', rfl, h1, h2, h4, h5, -⟩
  have hr : r = t.obs p := by
    rcases h2.fin hh (fun _ => rfl) with ⟨e1, e2⟩ | ⟨-, (⟨hf, -⟩ | ⟨p', -, e1, e2⟩)⟩
    · rw [e1]; exact h4 (by omega)
    · exact hf.elim
    · rw [e1]; exact e2
  rw [hr]
  refine ⟨rfl, ?_, h5⟩
  rw [← rj_end h2 hh (fun _ => rfl)]
  exact h1
end Go.Proofs.YthjfbknmdligeaaGreat

namespace Go.Proofs.YthjfbknmdligeaaGreat
open Go Go.RowKit
set_option linter.unusedVariables false
set_option maxRecDepth 100000
set_option linter.unusedSimpArgs false

structure JgIn {σ : Type} (M : PM σ) (P T : Int) (emb : JgT → σ) : Prop where
  ld : M.ax (emb .ld) = some (axLd 11)
  lk : ∀ y, M.ax (emb (.lk y)) = some (axLd (wd (20 + P * 264) T 3 y 2))
  un : ∀ y l, M.ax (emb (.un y l)) = some (axSt 11 l)
  ct : ∀ y, M.ax (emb (.ct y)) = some (axAd 12 4294967295)
  th : M.ax (emb .th) = some (axLd 15)
  nw : ∀ y, M.ax (emb (.nw y)) = some (axSt 15 (y + 1))
  n1 : ∀ v, M.nx (emb .ld) v = if v = 0 then emb .th else emb (.lk (gw v))
  n2 : ∀ y v, M.nx (emb (.lk y)) v = emb (.un y v)
  n3 : ∀ y l v, M.nx (emb (.un y l)) v = emb (.ct y)
  n4 : ∀ y v, M.nx (emb (.ct y)) v = emb (.over y)
  n5 : ∀ v, M.nx (emb .th) v = if T ≤ v then emb .none' else emb (.nw v)
  n6 : ∀ y v, M.nx (emb (.nw y)) v = emb (.over y)
def JgT.live : JgT → Bool
  | .none' => false
  | .over _ => false
  | _ => true
/-- Where a get stopped, and what it answered. -/
def JgQ {σ : Type} (Q : σ → Prop) (emb : JgT → σ) (r : Int) (q : σ) : Prop := (Q q ∧ r = -1) ∨ ∃ p', JgT.live p' = true ∧ q = emb p' ∧ r = p'.obs
theorem jg_in (P T : Int) : JgIn (jgPM P T) P T (fun t => t) := ⟨rfl, fun _ => rfl, fun _ _ => rfl, fun _ => rfl, rfl, fun _ => rfl, fun _ => rfl, fun _ _ => rfl, fun _ _ _ => rfl, fun _ _ => rfl, fun _ => rfl, fun _ _ => rfl⟩

set_option maxHeartbeats 4000000 in
theorem syn_jget {σ : Type} {M : PM σ} {P T G : Int} {emb : JgT → σ} (hE : JgIn M P T emb) (hp : 0 ≤ P ∧ P ≤ 64) (hT : 0 ≤ T ∧ T ≤ 65536)
    {w : World} {x : Nat} {A : Option Addr} {cap m : Nat} {g : Nat → Int} {s0 : σ} {j : Nat} {Q : σ → Prop} (hR : RunOn w x A cap m g (M.rj s0 g m j)) (hS : Syn M s0 g m j (emb .ld) Q) (hb : ∀ j, j < m → 0 ≤ g j ∧ g j ≤ 18446744073709551615) :
    Calls Tryz.prog 102 #[.pointer (some ⟨x, 0, none⟩), .agg #[.int .i64 P, .int .i64 T, .int .i64 G]] w fun e w' => ∃ r j' p, e = .returned (.int .i64 r) ∧ RunOn w' x A cap m g (M.rj s0 g m j') ∧ Syn M s0 g m j' (emb p) (JgQ Q emb r) ∧ p.live = false ∧ (j' ≤ m → r = p.obs) ∧ But [x] w w' ∧ j ≤ j' := by
  have hb0 : Below w.heap.size w (w.alloc (.cells #[.int .i64 P, .int .i64 T, .int .i64 G] 23)) := (Below.refl _ _).alloc (Nat.le_refl _) _
  have HX : Hid (Blk (w.alloc (.cells #[.int .i64 P, .int .i64 T, .int .i64 G] 23)) w.heap.size #[.int .i64 P, .int .i64 T, .int .i64 G] 23) := Blk.new _ _ _
  have hxw := hR.blk.lt
  have HB0 : Hid (But [x] w (w.alloc (.cells #[.int .i64 P, .int .i64 T, .int .i64 G] 23))) := But.of_below hb0
  have HE : Hid (JgIn M P T emb) := hE
  have HBD : Hid (∀ j, j < m → 0 ≤ g j ∧ g j ≤ 18446744073709551615) := hb
  have hPA := fun (y : Int) W => rthrAt_all P T G y 2 W hp hT.2 (by omega)
  have HT : Hid (0 ≤ T ∧ T ≤ 65536) := hT
  have hL := syn_load (hR.below hb0) hS hb 11 (fun _ => hE.ld)
  clear hR hS hE hb hb0 hp hT
  go_enter Tryz.func102, Tryz.ntmps102
  go_wp2_with fail
  generalize w.alloc (.cells #[.int .i64 P, .int .i64 T, .int .i64 G] 23) = W at *
  go_at_call 44; refine hL.mono ?_; rintro e y2 ⟨v, rfl, hK⟩
  have HR2 : Hid (RunOn y2 x A cap m g (M.rj s0 g m (j + 1))) := hK.run
  have HV2 : Hid (0 ≤ v ∧ v ≤ 18446744073709551615) := hK.bd
  have HS2 : Hid (Syn M s0 g m (j + 1) ((if v = 0 then emb .th else emb (.lk (gw v)))) (fun q => Q q ∨ ∃ p', p'.live = true ∧ q = emb p' ∧ p'.obs = -1)) := by
    have := hK.syn
    rw [HE.out.n1] at this
    exact this.weak (fun r hr => by rcases hr with rfl | hr; exact .inr ⟨.ld, rfl, rfl, rfl⟩; exact .inl hr)
  have HB2 : Hid (But [x] w y2) := HB0.out.trans hK.but
  have HX2 : Hid (Blk y2 w.heap.size #[.int .i64 P, .int .i64 T, .int .i64 G] 23) := HX.out.but hK.but (by simp; omega)
  clear hL hK HB0 HX
  by_cases h0 : v = 0
  · subst h0
    have HS2' : Hid (Syn M s0 g m (j + 1) (emb .th) (fun q => Q q ∨ ∃ p', p'.live = true ∧ q = emb p' ∧ p'.obs = -1)) := HS2.out.as (fun _ => if_pos rfl)
    have hL3 := syn_load HR2.out HS2'.out HBD.out 15 (fun _ => HE.out.th)
    have k1 := HX2.out.cell 1 (v := .int .i64 T) rfl
    clear hPA HS2 HR2 HV2
    go_wp2_with fail
    go_at_call 44; refine hL3.mono ?_; rintro e y3 ⟨v3, rfl, hK⟩
    have HR3 : Hid (RunOn y3 x A cap m g (M.rj s0 g m (j + 1 + 1))) := hK.run
    have HV3 : Hid (0 ≤ v3 ∧ v3 ≤ 18446744073709551615) := hK.bd
    have HS3 : Hid (Syn M s0 g m (j + 1 + 1) ((if T ≤ v3 then emb .none' else emb (.nw v3))) (fun q => Q q ∨ ∃ p', p'.live = true ∧ q = emb p' ∧ p'.obs = -1)) := by
      have := hK.syn
      rw [HE.out.n5] at this
      exact this.weak (fun r hr => by rcases hr with rfl | hr; exact .inr ⟨.th, rfl, rfl, rfl⟩; exact hr)
    have HB3 : Hid (But [x] w y3) := HB2.out.trans hK.but
    have HX3 : Hid (Blk y3 w.heap.size #[.int .i64 P, .int .i64 T, .int .i64 G] 23) := HX2.out.but hK.but (by simp; omega)
    clear hL3 hK HB2 HX2
    have k1 := HX3.out.cell 1 (v := .int .i64 T) rfl
    have hw1 : IntKind.u64.wrap T = T := wrap_u64 (by have := HT.out; omega)
    have hwv := HV3.out
    have hT0 := HT.out
    by_cases h1 : T ≤ v3
    · have d1 : decide (v3 < T) = false := decide_eq_false (by omega)
      clear hT0 hwv
      go_wp2_with fail
      go_ret
      refine ⟨-1, j + 1 + 1, .none', rfl, HR3.out, (HS3.out.as (t' := emb .none') (fun _ => if_pos h1)).weak ?_, rfl, fun _ => rfl, HB3.out, by omega⟩
      rintro q (hq | ⟨p', h1, h2, h3⟩)
      · exact .inl ⟨hq, rfl⟩
      · exact .inr ⟨p', h1, h2, h3.symm⟩
    · have d1 : v3 < T := by omega
      have HS3' : Hid (Syn M s0 g m (j + 1 + 1) (emb (.nw v3)) (fun q => Q q ∨ ∃ p', p'.live = true ∧ q = emb p' ∧ p'.obs = -1)) := HS3.out.as (fun _ => if_neg h1)
      have hw2 : IntKind.u64.wrap (v3 + 1) = v3 + 1 := wrap_u64 (by omega)
      have hw3 : IntKind.i64.wrap v3 = v3 := by simp [IntKind.wrap, IntKind.bits, IntKind.signed]; omega
      have hSt := syn_store HR3.out HS3'.out HBD.out 15 (v3 + 1) (fun _ => HE.out.nw v3)
      clear HS3 HR3 h1 HV3 hwv hT0
      have HS3 := HS3'
      clear HS3'
      go_wp2_with fail
      go_at_call 69; refine hSt.mono ?_; rintro e y4 ⟨⟨u4, rfl⟩, v4, hK⟩
      have HR4 : Hid (RunOn y4 x A cap m g (M.rj s0 g m (j + 1 + 1 + 1))) := hK.run
      have HSr : Hid _ := hK.syn
      have HB4 : Hid (But [x] w y4) := HB3.out.trans hK.but
      clear hSt hK HB3
      have sc := HR4.out.blk.cell 2 (v := .bool (M.rj s0 g m (j + 1 + 1 + 1)).stop) rfl
      rw [rj_stop HSr.out] at sc
      by_cases hst : m < j + 1 + 1 + 1
      · have HST : Hid (m < j + 1 + 1 + 1) := hst
        rw [decide_eq_true hst] at sc
        clear hst
        go_wp2_with fail
        go_ret
        refine ⟨-1, j + 1 + 1 + 1, .over v3, rfl, HR4.out, ⟨fun h => absurd h (by have := HST.out; omega), fun h => ⟨?_, (HSr.out.past HST.out).2⟩⟩, rfl, fun h => absurd h (by have := HST.out; omega), HB4.out, by omega⟩
        rcases (HSr.out.past HST.out).1 with hr | hq | ⟨p', h1, h2, h3⟩
        · exact .inr ⟨.nw v3, rfl, hr, rfl⟩
        · exact .inl ⟨hq, rfl⟩
        · exact .inr ⟨p', h1, h2, h3.symm⟩
      · have HST : Hid (j + 1 + 1 + 1 ≤ m) := (by omega : j + 1 + 1 + 1 ≤ m)
        rw [decide_eq_false hst] at sc
        clear hst
        go_wp2_with fail
        go_ret
        refine ⟨v3, j + 1 + 1 + 1, .over v3, rfl, HR4.out, ⟨fun h => ?_, fun h => absurd h (by have := HST.out; omega)⟩, rfl, fun _ => rfl, HB4.out, by omega⟩
        have := HSr.out.at' h
        rw [HE.out.n6] at this
        exact this
  · have hd0 : (v == 0) = false := by simpa using h0
    have hd1 : (v != 0) = true := by simpa using h0
    have e1 : wrap64 (IntKind.i64.wrap v - 1) = gw v := gw_eq v HV2.out
    have HS2' : Hid (Syn M s0 g m (j + 1) (emb (.lk (gw v))) (fun q => Q q ∨ ∃ p', p'.live = true ∧ q = emb p' ∧ p'.obs = -1)) := HS2.out.as (fun _ => if_neg h0)
    clear HS2
    have HS2 := HS2'
    clear HS2'
    generalize hyy : gw v = y at *
    generalize hvv : IntKind.i64.wrap v = v' at *
    have hPA2 := hPA y
    clear hPA hyy HV2
    have k0 := HX2.out.cell 0 (v := .int .i64 P) rfl
    have k1 := HX2.out.cell 1 (v := .int .i64 T) rfl
    have k2 := HX2.out.cell 2 (v := .int .i64 G) rfl
    have hPl := hPA2 y2
    have HAc : Hid (∀ Y, Below y2.heap.size y2 Y → _) := fun Y (hY : Below y2.heap.size y2 Y) => syn_load (HR2.out.below hY) HS2.out HBD.out (wd (20 + P * 264) T 3 y 2) (fun _ => HE.out.lk y)
    go_wp2_with fail
    go_at_call 103; refine hPl.mono ?_; rintro e y3 ⟨rfl, h5⟩
    have hA := HAc.out y3 h5
    have HB3 : Hid (But [x] w y3) := HB2.out.trans (But.of_below h5)
    have HX3 : Hid (Blk y3 w.heap.size #[.int .i64 P, .int .i64 T, .int .i64 G] 23) := HX2.out.but (But.of_below (l := []) h5) (by simp)
    clear hPl h5 k0 k1 k2 HX2 HB2 HAc HR2
    go_wp2_with fail
    clear hPA2
    go_at_call 44; refine hA.mono ?_; rintro e y4 ⟨l, rfl, hK⟩
    have HR4 : Hid (RunOn y4 x A cap m g (M.rj s0 g m (j + 1 + 1))) := hK.run
    have HV4 : Hid (0 ≤ l ∧ l ≤ 18446744073709551615) := hK.bd
    have HS4 : Hid (Syn M s0 g m (j + 1 + 1) (emb (.un y l)) (fun q => Q q ∨ ∃ p', p'.live = true ∧ q = emb p' ∧ p'.obs = -1)) := by
      have := hK.syn
      rw [HE.out.n2] at this
      exact this.weak (fun r hr => by rcases hr with rfl | hr; exact .inr ⟨.lk y, rfl, rfl, rfl⟩; exact hr)
    have HB4 : Hid (But [x] w y4) := HB3.out.trans hK.but
    have HX4 : Hid (Blk y4 w.heap.size #[.int .i64 P, .int .i64 T, .int .i64 G] 23) := HX3.out.but hK.but (by simp; omega)
    clear hA hK HB3 HX3
    have hSt := syn_store HR4.out HS4.out HBD.out 11 l (fun _ => HE.out.un y l)
    clear HX4 HR4
    go_wp2_with fail
    go_at_call 69; refine hSt.mono ?_; rintro e y5 ⟨⟨u5, rfl⟩, v5, hK⟩
    have HR5 : Hid (RunOn y5 x A cap m g (M.rj s0 g m (j + 1 + 1 + 1))) := hK.run
    have HS5 : Hid (Syn M s0 g m (j + 1 + 1 + 1) (emb (.ct y)) (fun q => Q q ∨ ∃ p', p'.live = true ∧ q = emb p' ∧ p'.obs = -1)) := by
      have := hK.syn
      rw [HE.out.n3] at this
      exact this.weak (fun r hr => by rcases hr with rfl | hr; exact .inr ⟨.un y l, rfl, rfl, rfl⟩; exact hr)
    have HB5 : Hid (But [x] w y5) := HB4.out.trans hK.but
    clear hSt hK HB4
    clear HS4
    have sc := HR5.out.blk.cell 2 (v := .bool (M.rj s0 g m (j + 1 + 1 + 1)).stop) rfl
    rw [rj_stop HS5.out] at sc
    by_cases hst : m < j + 1 + 1 + 1
    · have HST : Hid (m < j + 1 + 1 + 1) := hst
      have HPAST : Hid (JgQ Q emb (-1) (M.run s0 g m)) := by
        rcases (HS5.out.past hst).1 with hq | ⟨p', h1, h2, h3⟩
        · exact .inl ⟨hq, rfl⟩
        · exact .inr ⟨p', h1, h2, h3.symm⟩
      rw [decide_eq_true hst] at sc
      have hA7 := syn_add HR5.out HS5.out HBD.out 12 4294967295 (fun _ => HE.out.ct y)
      clear hst
      go_wp2_with fail
      go_at_call 74; refine hA7.mono ?_; rintro e y9 ⟨v9, rfl, hK⟩
      have HF : Hid (RunOn y9 x A cap m g (M.rj s0 g m (j + 1 + 1 + 1 + 1)) ∧ Syn M s0 g m (j + 1 + 1 + 1 + 1) (emb (.over y)) (JgQ Q emb (-1)) ∧ But [x] w y9) := by
        exact ⟨hK.run, ⟨fun h => absurd h (by have := HST.out; omega), fun h => ⟨HPAST.out, (HS5.out.past HST.out).2⟩⟩, HB5.out.trans hK.but⟩
      clear hA7 hK sc
      go_wp2_with fail
      go_ret
      exact ⟨-1, j + 1 + 1 + 1 + 1, .over y, rfl, HF.out.1, HF.out.2.1, rfl, fun h => absurd h (by have := HST.out; omega), HF.out.2.2, by omega⟩
    · have HST : Hid (j + 1 + 1 + 1 ≤ m) := (by omega : j + 1 + 1 + 1 ≤ m)
      rw [decide_eq_false hst] at sc
      have hA7 := syn_add HR5.out HS5.out HBD.out 12 4294967295 (fun _ => HE.out.ct y)
      clear hst
      go_wp2_with fail
      go_at_call 74; refine hA7.mono ?_; rintro e y9 ⟨v9, rfl, hK⟩
      have HF : Hid (RunOn y9 x A cap m g (M.rj s0 g m (j + 1 + 1 + 1 + 1)) ∧ Syn M s0 g m (j + 1 + 1 + 1 + 1) (emb (.over y)) (JgQ Q emb y) ∧ But [x] w y9) := by
        have := hK.syn
        rw [HE.out.n4] at this
        refine ⟨hK.run, ⟨this.at', fun h => ⟨?_, (this.past h).2⟩⟩, HB5.out.trans hK.but⟩
        have hm : m = j + 1 + 1 + 1 := by have := HST.out; omega
        have h2 := HS5.out.at' HST.out
        rw [← hm] at h2
        exact .inr ⟨.ct y, rfl, h2, rfl⟩
      clear hA7 hK sc
      go_wp2_with fail
      go_ret
      exact ⟨y, j + 1 + 1 + 1 + 1, .over y, rfl, HF.out.1, HF.out.2.1, rfl, fun _ => rfl, HF.out.2.2, by omega⟩

theorem rgjget_on (w : World) (x : Nat) (A : Option Addr) (cap m : Nat) (gf : Nat → Int) (P T G : Int) (t : JgT) (h : RunOn w x A cap m gf rn0) (hh : Hist (jgPM P T) JgT.ld gf m t) (hp : 0 ≤ P ∧ P ≤ 64) (hT : 0 ≤ T ∧ T ≤ 65536) :
    Calls Tryz.prog 102 #[.pointer (some ⟨x, 0, none⟩), .agg #[.int .i64 P, .int .i64 T, .int .i64 G]] w fun e w' => e = .returned (.int .i64 t.obs) ∧ RunOn w' x A cap m gf ((jgPM P T).rn t m) ∧ But [x] w w' := by
  rw [← rj_start (M := jgPM P T) (s0 := JgT.ld) (g := gf) (m := m)] at h
  refine (syn_jget (jg_in P T) hp hT h (Syn.start _ _ _ _) hh.bd).mono ?_
  rintro e w' ⟨r, j', p, rfl, h1, h2, h3, h4, h5, -⟩
  have hn : (jgPM P T).ax p = none := by cases p <;> first | rfl | cases h3
  have hr : r = t.obs := by
    rcases h2.fin hh (fun _ => hn) with ⟨e1, e2⟩ | ⟨-, (⟨hf, -⟩ | ⟨p', -, e1, e2⟩)⟩
    · rw [e1]; exact h4 (by omega)
    · exact hf.elim
    · rw [e1]; exact e2
  rw [hr]
  refine ⟨rfl, ?_, h5⟩
  rw [← rj_end h2 hh (fun _ => hn)]
  exact h1
end Go.Proofs.YthjfbknmdligeaaGreat

namespace Go.Proofs.YthjfbknmdligeaaGreat
open Go Go.RowKit
set_option linter.unusedVariables false
set_option maxRecDepth 100000
set_option linter.unusedSimpArgs false

theorem rws_word (w : World) (p : Int) (sp : Bool) : Calls Tryz.prog 104 #[.int .i64 p, .bool sp] w fun e w' => e = .returned (.int .u64 (wkWord p sp)) ∧ w = w' := by
  cases sp with
  | false =>
    have hlw : IntKind.u64.wrap (IntKind.u64.wrap p + 1) = wkWord p false := rfl
    generalize wkWord p false = v at *
    go_enter Tryz.func104, Tryz.ntmps104
    go_wp2_with fail
    go_ret
    exact ⟨rfl, rfl⟩
  | true =>
    have hlw : IntKind.u64.wrap (IntKind.u64.wrap (4294967296 + IntKind.u64.wrap p) + 1) = wkWord p true := by
      show _ = IntKind.u64.wrap (IntKind.u64.wrap (IntKind.u64.wrap p + 1) + 4294967296)
      simp only [IntKind.wrap, IntKind.bits, IntKind.signed]
      simp
      omega
    generalize wkWord p true = v at *
    go_enter Tryz.func104, Tryz.ntmps104
    go_wp2_with fail
    go_ret
    exact ⟨rfl, rfl⟩
/-- A machine that starts a thread within it. -/
structure WsIn {σ : Type} (M : PM σ) (P T p : Int) (sp lf : Bool) (emb : WsT → σ) : Prop where
  ax : ∀ t a, (wsPM P T p sp lf).ax t = some a → M.ax (emb t) = some a
  nx : ∀ t a v, (wsPM P T p sp lf).ax t = some a → M.nx (emb t) v = emb ((wsPM P T p sp lf).nx t v)
theorem ws_in (P T p : Int) (sp lf : Bool) : WsIn (wsPM P T p sp lf) P T p sp lf (fun t => t) := ⟨fun _ _ h => h, fun _ _ _ _ => rfl⟩
/-- Where it stopped, and what it answered. -/
def WsQ {σ : Type} (Q : σ → Prop) (emb : WsT → σ) (P T p : Int) (sp lf : Bool) (p' t' : Int) (q : σ) : Prop := (Q q ∧ p' = p ∧ t' = -1) ∨ ∃ s a, (wsPM P T p sp lf).ax s = some a ∧ q = emb s ∧ p' = s.holds p ∧ t' = s.q.obs
section
variable {σ : Type} {M : PM σ} {P T p : Int} {sp lf : Bool} {emb : WsT → σ}
theorem jg_live_ax {q : JgT} : ((jgPM P T).ax q).isSome = q.live := by cases q <;> rfl
def wsJ (emb : WsT → σ) (q : JgT) : σ := if q.live = true then emb (.get q) else if q.obs = -1 then emb (.need q) else emb (.rel1 q .fresh)
theorem ws_jgIn (hE : WsIn M P T p sp lf emb) : JgIn M P T (wsJ emb) := by
  have key : ∀ q a v, (jgPM P T).ax q = some a → M.nx (wsJ emb q) v = wsJ emb ((jgPM P T).nx q v) := fun q a v h => by
    have hl : q.live = true := by rw [← jg_live_ax (P := P) (T := T), h]; rfl
    have e1 : wsJ emb q = emb (.get q) := if_pos hl
    rw [e1, hE.nx (.get q) a v h]
    show emb (if ((jgPM P T).ax ((jgPM P T).nx q v)).isSome = true then .get ((jgPM P T).nx q v) else if ((jgPM P T).nx q v).obs = -1 then .need ((jgPM P T).nx q v) else .rel1 ((jgPM P T).nx q v) .fresh) = wsJ emb ((jgPM P T).nx q v)
    unfold wsJ
    rw [jg_live_ax]
    split
    · rfl
    · split <;> rfl
  exact ⟨hE.ax (.get .ld) _ rfl, fun y => hE.ax (.get (.lk y)) _ rfl, fun y l => hE.ax (.get (.un y l)) _ rfl, fun y => hE.ax (.get (.ct y)) _ rfl, hE.ax (.get .th) _ rfl, fun y => hE.ax (.get (.nw y)) _ rfl,
    fun v => (key .ld _ v rfl).trans (by show wsJ emb (if v = 0 then .th else .lk (gw v)) = _; split <;> rfl), fun y v => key (.lk y) _ v rfl, fun y l v => key (.un y l) _ v rfl, fun y v => key (.ct y) _ v rfl,
    fun v => (key .th _ v rfl).trans (by show wsJ emb (if T ≤ v then .none' else .nw v) = _; split <;> rfl), fun y v => key (.nw y) _ v rfl⟩
def wsI (emb : WsT → σ) (q : JgT) : IpT → σ
  | .over => emb (.rel2 q (some .over) .fresh)
  | b => emb (.back q b)
theorem ws_ipIn (hE : WsIn M P T p sp lf emb) (q : JgT) : IpIn M P p (wsI emb q) :=
  ⟨hE.ax (.back q .m0) _ rfl, fun w => hE.ax (.back q (.ms w)) _ rfl, hE.ax (.back q .h0) _ rfl, fun h => hE.ax (.back q (.ln h)) _ rfl, hE.ax (.back q .st) _ rfl, hE.ax (.back q .ct) _ rfl,
   fun v => hE.nx (.back q .m0) _ v rfl, fun w v => hE.nx (.back q (.ms w)) _ v rfl, fun v => hE.nx (.back q .h0) _ v rfl, fun h v => hE.nx (.back q (.ln h)) _ v rfl, fun v => hE.nx (.back q .st) _ v rfl, fun v => hE.nx (.back q .ct) _ v rfl⟩
def wsR1 (emb : WsT → σ) (q : JgT) : RelT → σ
  | .over => emb (.give q)
  | r => emb (.rel1 q r)
theorem ws_relIn1 (hE : WsIn M P T p sp lf emb) (q : JgT) : RelIn M 0 (wsR1 emb q) :=
  ⟨hE.ax (.rel1 q .fresh) _ rfl, hE.ax (.rel1 q .pass) _ rfl, fun v => hE.nx (.rel1 q .fresh) _ v rfl, fun v => hE.nx (.rel1 q .pass) _ v rfl⟩
def wsR2 (emb : WsT → σ) (q : JgT) (b : Option IpT) (r : RelT) : σ := emb (.rel2 q b r)
theorem ws_relIn2 (hE : WsIn M P T p sp lf emb) (q : JgT) (b : Option IpT) : RelIn M 0 (wsR2 emb q b) :=
  ⟨hE.ax (.rel2 q b .fresh) _ rfl, hE.ax (.rel2 q b .pass) _ rfl, fun v => hE.nx (.rel2 q b .fresh) _ v rfl, fun v => hE.nx (.rel2 q b .pass) _ v rfl⟩
end
/-- The document's wake of a note. -/
theorem syn_nwake {σ : Type} {M : PM σ} {P T G t : Int} {a b : σ} (hax : M.ax a = some (axSt (wd (20 + P * 264) T 3 t 0) 1)) (hnx : ∀ v, M.nx a v = b) (hp : 0 ≤ P ∧ P ≤ 64) (hT : 0 ≤ T ∧ T ≤ 65536)
    {w : World} {x : Nat} {A : Option Addr} {cap m : Nat} {g : Nat → Int} {s0 : σ} {j : Nat} {Q : σ → Prop} (hR : RunOn w x A cap m g (M.rj s0 g m j)) (hS : Syn M s0 g m j a Q) (hb : ∀ j, j < m → 0 ≤ g j ∧ g j ≤ 18446744073709551615) :
    Calls Tryz.prog 105 #[.pointer (some ⟨x, 0, none⟩), .agg #[.int .i64 P, .int .i64 T, .int .i64 G], .int .i64 t] w fun e w' => (∃ u, e = .returned u) ∧ RunOn w' x A cap m g (M.rj s0 g m (j + 1)) ∧ Syn M s0 g m (j + 1) b (fun q => Q q ∨ q = a) ∧ But [x] w w' := by
  have hb0 : Below w.heap.size w (w.alloc (.cells #[.int .i64 P, .int .i64 T, .int .i64 G] 23)) := (Below.refl _ _).alloc (Nat.le_refl _) _
  have HX : Blk (w.alloc (.cells #[.int .i64 P, .int .i64 T, .int .i64 G] 23)) w.heap.size #[.int .i64 P, .int .i64 T, .int .i64 G] 23 := Blk.new _ _ _
  have k0 := HX.cell 0 (v := .int .i64 P) rfl
  have k1 := HX.cell 1 (v := .int .i64 T) rfl
  have k2 := HX.cell 2 (v := .int .i64 G) rfl
  have HR : Hid (RunOn w x A cap m g (M.rj s0 g m j)) := hR
  have HB0 : Hid (Below w.heap.size w (w.alloc (.cells #[.int .i64 P, .int .i64 T, .int .i64 G] 23))) := hb0
  have HS : Hid (∀ Y, Below w.heap.size w Y → Calls Tryz.prog 69 #[.pointer (some ⟨x, 0, none⟩), .int .i64 (wd (20 + P * 264) T 3 t 0), .int .u64 1] Y fun e w' => (∃ u, e = .returned u) ∧ ∃ v, Kept' Y w' x A cap m g M s0 j a Q v) := fun Y hY => syn_store (hR.below hY) hS hb _ 1 (fun _ => hax)
  have HN : Hid (∀ v, M.nx a v = b) := hnx
  have hTh := rthrAt_all P T G t 0 (w.alloc (.cells #[.int .i64 P, .int .i64 T, .int .i64 G] 23)) hp hT.2 (by omega)
  generalize wd (20 + P * 264) T 3 t 0 = nt at *
  clear hR hS hb hax hnx hb0 HX hp hT
  go_enter Tryz.func105, Tryz.ntmps105
  go_wp2_with fail
  generalize w.alloc (.cells #[.int .i64 P, .int .i64 T, .int .i64 G] 23) = W at *
  go_at_call 103; refine hTh.mono ?_; rintro e y ⟨rfl, h1⟩
  have hY : Below w.heap.size w y := HB0.out.trans (h1.mono HB0.out.size)
  have hSt := HS.out y hY
  have HY : Hid (But [x] w y) := But.of_below hY
  clear hTh h1 HS hY k0 k1 k2 HB0
  go_wp2_with fail
  go_at_call 69; refine hSt.mono ?_; rintro e y2 ⟨⟨u, rfl⟩, v, hK⟩
  have HF : Hid (RunOn y2 x A cap m g (M.rj s0 g m (j + 1)) ∧ Syn M s0 g m (j + 1) b (fun q => Q q ∨ q = a) ∧ But [x] w y2) := by
    have h2 := hK.syn
    rw [HN.out] at h2
    exact ⟨hK.run, h2.weak (fun r hr => hr.symm), HY.out.trans hK.but⟩
  clear hSt hK
  go_wp2_with fail
  go_end0
  exact ⟨⟨_, rfl⟩, HF.out⟩
end Go.Proofs.YthjfbknmdligeaaGreat

namespace Go.Proofs.YthjfbknmdligeaaGreat
open Go Go.RowKit
set_option linter.unusedVariables false
set_option maxRecDepth 100000
set_option linter.unusedSimpArgs false

/-- What the document's Start answers. -/
def WsGot {σ : Type} (M : PM σ) (emb : WsT → σ) (P T p : Int) (sp lf : Bool) (w : World) (x : Nat) (A : Option Addr) (cap m : Nat) (g : Nat → Int) (s0 : σ) (Q : σ → Prop) (j : Nat) (e : Ending) (w' : World) : Prop :=
  ∃ p' t' j' s, e = .returned (.agg #[.int .i64 p', .int .i64 t', .bool false]) ∧ RunOn w' x A cap m g (M.rj s0 g m j') ∧ Syn M s0 g m j' (emb s) (WsQ Q emb P T p sp lf p' t') ∧ (wsPM P T p sp lf).ax s = none ∧ (j' ≤ m → p' = s.holds p ∧ t' = s.q.obs) ∧ But [x] w w' ∧ j ≤ j'
set_option maxHeartbeats 4000000 in
theorem syn_wstart {σ : Type} {M : PM σ} {P T G p : Int} {sp lf : Bool} {emb : WsT → σ} (hE : WsIn M P T p sp lf emb) (hp : 0 ≤ P ∧ P ≤ 64) (hT : 0 ≤ T ∧ T ≤ 65536)
    {w : World} {x : Nat} {A : Option Addr} {cap m : Nat} {g : Nat → Int} {s0 : σ} {j : Nat} {Q : σ → Prop} (hR : RunOn w x A cap m g (M.rj s0 g m j)) (hS : Syn M s0 g m j (emb (.get .ld)) Q) (hb : ∀ j, j < m → 0 ≤ g j ∧ g j ≤ 18446744073709551615) :
    Calls Tryz.prog 95 #[.pointer (some ⟨x, 0, none⟩), .agg #[.int .i64 P, .int .i64 T, .int .i64 G], .int .i64 p, .bool sp, .bool lf] w fun e w' => WsGot M emb P T p sp lf w x A cap m g s0 Q j e w' := by
  have hb2 : Below w.heap.size w ((w.alloc (.cells #[.int .i64 P, .int .i64 T, .int .i64 G] 23)).alloc (.cells #[.int .i64 0, .int .i64 0, .bool false] 165)) := ((Below.refl _ _).alloc (Nat.le_refl _) _).alloc (by rw [World.size_alloc]; omega) _
  have hB1 := Blk.new w #[.int .i64 P, .int .i64 T, .int .i64 G] 23
  have HX : Hid (Blk ((w.alloc (.cells #[.int .i64 P, .int .i64 T, .int .i64 G] 23)).alloc (.cells #[.int .i64 0, .int .i64 0, .bool false] 165)) w.heap.size #[.int .i64 P, .int .i64 T, .int .i64 G] 23) := hB1.but (l := []) (But.of_below ((Below.refl _ _).alloc (Nat.le_refl _) _)) (by simp)
  have HY : Hid (Blk ((w.alloc (.cells #[.int .i64 P, .int .i64 T, .int .i64 G] 23)).alloc (.cells #[.int .i64 0, .int .i64 0, .bool false] 165)) (w.heap.size + 1) #[.int .i64 0, .int .i64 0, .bool false] 165) := by
    have := Blk.new (w.alloc (.cells #[.int .i64 P, .int .i64 T, .int .i64 G] 23)) #[.int .i64 0, .int .i64 0, .bool false] 165
    rw [World.size_alloc] at this
    exact this
  have hxw := hR.blk.lt
  have HB0 : Hid (But [x] w ((w.alloc (.cells #[.int .i64 P, .int .i64 T, .int .i64 G] 23)).alloc (.cells #[.int .i64 0, .int .i64 0, .bool false] 165))) := But.of_below hb2
  have hG := syn_jget (G := G) (ws_jgIn hE) hp hT (hR.below hb2) hS hb
  have HE : Hid (WsIn M P T p sp lf emb) := hE
  have HBD : Hid (∀ j, j < m → 0 ≤ g j ∧ g j ≤ 18446744073709551615) := hb
  have HP : Hid ((0 ≤ P ∧ P ≤ 64) ∧ (0 ≤ T ∧ T ≤ 65536)) := ⟨hp, hT⟩
  have HGF : Hid (GotFar A [w.heap.size + 1]) := (fun b e hm => by
    simp at hm
    rcases hR.got.form with ⟨e0, _⟩ | ⟨gb, e0, hl⟩
    · rw [e0] at e; cases e
    · rw [e0] at e; cases e; omega)
  clear hR hS hb hp hT hb2 hB1 hE
  go_enter Tryz.func95, Tryz.ntmps95
  go_wp2_with fail
  generalize (w.alloc (.cells #[.int .i64 P, .int .i64 T, .int .i64 G] 23)).alloc (.cells #[.int .i64 0, .int .i64 0, .bool false] 165) = W at *
  go_at_call 102; refine hG.mono ?_; rintro e y1 ⟨r, j1, q, rfl, hR1, hS1, hq, hr, hB1, hj1⟩
  have hy1 : w.heap.size + 1 < y1.heap.size := Nat.lt_of_lt_of_le HY.out.lt hB1.size
  have HH : Hid (HdAt w (y1.alloc (.cells #[.int .i64 p, .int .i64 r, .bool false] 165)) x A cap m g M s0 j j1 (wsJ emb q) (JgQ Q (wsJ emb) r) #[.int .i64 P, .int .i64 T, .int .i64 G] 165 #[.int .i64 0, .int .i64 0, .bool false] y1.heap.size #[.int .i64 p, .int .i64 r, .bool false]) := by
    have hal : Below y1.heap.size y1 (y1.alloc (.cells #[.int .i64 p, .int .i64 r, .bool false] 165)) := (Below.refl _ _).alloc (Nat.le_refl _) _
    refine ⟨hR1.below hal, hS1, (HB0.out.trans hB1).trans (But.of_below hal), (HX.out.but hB1 (by simp; omega)).but (But.of_below (l := []) hal) (by simp), (HY.out.but hB1 (by simp; omega)).but (But.of_below (l := []) hal) (by simp), Blk.new _ _ _, hy1, hxw, fun b e hm => ?_, hj1⟩
    simp at hm
    rcases hR1.got.form with ⟨e0, _⟩ | ⟨gb, e0, hl⟩
    · rw [e0] at e; cases e
    · rw [e0] at e
      cases e
      rcases hm with hm | hm
      · exact HGF.out _ e0 (by simp [hm])
      · omega
  have HY1 : Hid (Blk y1 (w.heap.size + 1) #[.int .i64 0, .int .i64 0, .bool false] 165 ∧ RunOn y1 x A cap m g (M.rj s0 g m j1) ∧ But [x] w y1) := ⟨HY.out.but hB1 (by simp; omega), hR1, HB0.out.trans hB1⟩
  have HQ : Hid (JgT.live q = false ∧ (j1 ≤ m → r = q.obs)) := ⟨hq, hr⟩
  clear hG hR1 hS1 hq hr hB1 hj1 HX HY HB0 HGF
  have k0 := HH.out.cfg.cell 0 (v := .int .i64 P) rfl
  have k1 := HH.out.cfg.cell 1 (v := .int .i64 T) rfl
  have k2 := HH.out.cfg.cell 2 (v := .int .i64 G) rfl
  have sc := HH.out.stop
  by_cases hst : m < j1
  · rw [decide_eq_true hst] at sc
    have HST : Hid (m < j1) := hst
    have r0 := HY1.out.1.cell 0 (v := .int .i64 0) rfl
    have r1 := HY1.out.1.cell 1 (v := .int .i64 0) rfl
    have r2 := HY1.out.1.cell 2 (v := .bool false) rfl
    have f0 := HY1.out.1.fro 0
    have f1 := HY1.out.1.fro 1
    have f2 := HY1.out.1.fro 2
    have hlt1 := HY1.out.1.lt
    have HS1 : Hid _ := HH.out.syn
    have HGFo : Hid (GotFar A [w.heap.size + 1]) := HH.out.far.of (by intro k hk; simp at hk ⊢; omega)
    have HLE : Hid (j ≤ j1) := HH.out.le
    clear hst HH k0 k1 k2
    go_wp2_with fail
    have HN : Hid (RunOn ((((y1.setCell ⟨w.heap.size + 1, 0, none⟩ (.int .i64 p)).setCell ⟨w.heap.size + 1, 1, none⟩ (.int .i64 r)).setCell ⟨w.heap.size + 1, 2, none⟩ (.bool false)).alloc (.cells #[.int .i64 p, .int .i64 r, .bool false] 165)) x A cap m g (M.rj s0 g m j1) ∧ But [x] w ((((y1.setCell ⟨w.heap.size + 1, 0, none⟩ (.int .i64 p)).setCell ⟨w.heap.size + 1, 1, none⟩ (.int .i64 r)).setCell ⟨w.heap.size + 1, 2, none⟩ (.bool false)).alloc (.cells #[.int .i64 p, .int .i64 r, .bool false] 165)) ∧ ((((y1.setCell ⟨w.heap.size + 1, 0, none⟩ (.int .i64 p)).setCell ⟨w.heap.size + 1, 1, none⟩ (.int .i64 r)).setCell ⟨w.heap.size + 1, 2, none⟩ (.bool false)).alloc (.cells #[.int .i64 p, .int .i64 r, .bool false] 165)).heap[w.heap.size + 1]? = some (.cells #[.int .i64 p, .int .i64 r, .bool false] 165 (0, 0))) := by
      have hU : But [w.heap.size + 1] y1 (((y1.setCell ⟨w.heap.size + 1, 0, none⟩ (.int .i64 p)).setCell ⟨w.heap.size + 1, 1, none⟩ (.int .i64 r)).setCell ⟨w.heap.size + 1, 2, none⟩ (.bool false)) := (((But.refl _ y1).set (g := w.heap.size + 1) (.inl (by simp)) 0 _).set (g := w.heap.size + 1) (.inl (by simp)) 1 _).set (g := w.heap.size + 1) (.inl (by simp)) 2 _
      have hal : Below (((y1.setCell ⟨w.heap.size + 1, 0, none⟩ (.int .i64 p)).setCell ⟨w.heap.size + 1, 1, none⟩ (.int .i64 r)).setCell ⟨w.heap.size + 1, 2, none⟩ (.bool false)).heap.size (((y1.setCell ⟨w.heap.size + 1, 0, none⟩ (.int .i64 p)).setCell ⟨w.heap.size + 1, 1, none⟩ (.int .i64 r)).setCell ⟨w.heap.size + 1, 2, none⟩ (.bool false)) ((((y1.setCell ⟨w.heap.size + 1, 0, none⟩ (.int .i64 p)).setCell ⟨w.heap.size + 1, 1, none⟩ (.int .i64 r)).setCell ⟨w.heap.size + 1, 2, none⟩ (.bool false)).alloc (.cells #[.int .i64 p, .int .i64 r, .bool false] 165)) := (Below.refl _ _).alloc (Nat.le_refl _) _
      have hZ := ((HY1.out.1.set 0 (.int .i64 p)).set 1 (.int .i64 r)).set 2 (.bool false)
      exact ⟨(HY1.out.2.1.but hU (by simp; omega) HGFo.out).below hal, But.lowk (HY1.out.2.2) hU (by omega) |>.trans (But.of_below hal), (hZ.but (But.of_below (l := []) hal) (by simp)).heap⟩
    generalize ((((y1.setCell ⟨w.heap.size + 1, 0, none⟩ (.int .i64 p)).setCell ⟨w.heap.size + 1, 1, none⟩ (.int .i64 r)).setCell ⟨w.heap.size + 1, 2, none⟩ (.bool false)).alloc (.cells #[.int .i64 p, .int .i64 r, .bool false] 165)) = yz at *
    have hfr := HN.out.2.2
    refine bodyPost_ret (v := .agg #[.int .i64 p, .int .i64 r, .bool false]) (results_cell_row rfl _ _ (w.heap.size + 1) 165 #[.int .i64 p, .int .i64 r, .bool false] _ _ rfl hfr Tryz.underlying165 rfl (by kernel_rfl)) rfl ?_
    refine ⟨p, r, j1, .note q .over, rfl, HN.out.1, ⟨fun h => absurd h (by have := HST.out; omega), fun h => ⟨?_, (HS1.out.past h).2⟩⟩, rfl, fun h => absurd h (by have := HST.out; omega), HN.out.2.1, HLE.out⟩
    rcases (HS1.out.past HST.out).1 with ⟨hq, e1⟩ | ⟨p', hl, hq, e1⟩
    · exact .inl ⟨hq, rfl, e1⟩
    · obtain ⟨a, ha⟩ := Option.isSome_iff_exists.1 ((jg_live_ax (P := P) (T := T) (q := p')).trans hl)
      exact .inr ⟨.get p', a, ha, hq.trans (if_pos hl), rfl, e1⟩
  · rw [decide_eq_false hst] at sc
    have HST : Hid (j1 ≤ m) := (by omega : j1 ≤ m)
    have HRQ : Hid (r = q.obs) := HQ.out.2 HST.out
    by_cases hr1 : r = -1
    · have HS1 : Hid (Syn M s0 g m j1 (emb (.need q)) (fun _ => False)) := ⟨fun h => (HH.out.syn.at' h).trans ((if_neg (by rw [HQ.out.1]; decide)).trans (if_pos (HRQ.out.symm.trans hr1))), fun h => absurd h (by have := HST.out; omega)⟩
      have HH1 : Hid _ := HH.out.as HS1.out
      have hA := syn_store HH1.out.run HS1.out HBD.out 14 1 (fun _ => HE.out.ax (.need q) _ rfl)
      have hd : (r == -1) = true := by simpa using hr1
      have HR1 : Hid (r = -1) := hr1
      clear hst HH HS1 hr1
      go_wp2_with fail
      go_at_call 69; refine hA.mono ?_; rintro e y2 ⟨⟨u, rfl⟩, v2, hK⟩
      have HH2 : Hid (HdAt w y2 x A cap m g M s0 j (j1 + 1) (emb (if sp = true then .cnt q else wsPut lf q)) (fun q' => q' = emb (.need q) ∨ False) #[.int .i64 P, .int .i64 T, .int .i64 G] 165 #[.int .i64 0, .int .i64 0, .bool false] y1.heap.size #[.int .i64 p, .int .i64 r, .bool false]) := by
        have h := HH1.out.step hK
        rw [HE.out.nx (.need q) _ _ rfl] at h
        exact h
      clear hA hK HH1 sc k0 k1 k2 HST hy1
      generalize y1.heap.size = o at *
      cases hsp : sp with
      | true =>
        subst hsp
        have HH3 : Hid (HdAt w y2 x A cap m g M s0 j (j1 + 1) (emb (.cnt q)) (fun q' => q' = emb (.need q) ∨ False) #[.int .i64 P, .int .i64 T, .int .i64 G] 165 #[.int .i64 0, .int .i64 0, .bool false] o #[.int .i64 p, .int .i64 r, .bool false]) := HH2.out.as (HH2.out.syn.as (fun _ => rfl))
        have hA := syn_add HH3.out.run HH3.out.syn HBD.out 13 4294967295 (fun _ => HE.out.ax (.cnt q) _ rfl)
        clear HH2
        go_wp2_with fail
        go_at_call 74; refine hA.mono ?_; rintro e y3 ⟨v3, rfl, hK⟩
        have HH : Hid (HdAt w y3 x A cap m g M s0 j (j1 + 1 + 1) (emb (wsPut lf q)) (WsQ Q emb P T p true lf p r) #[.int .i64 P, .int .i64 T, .int .i64 G] 165 #[.int .i64 0, .int .i64 0, .bool false] o #[.int .i64 p, .int .i64 r, .bool false]) := by
          have h := HH3.out.step hK
          rw [HE.out.nx (.cnt q) _ _ rfl] at h
          exact h.as (h.syn.weak (fun q' h' => by
            rcases h' with h' | h' | h'
            · exact .inr ⟨.cnt q, _, rfl, h', rfl, HRQ.out⟩
            · exact .inr ⟨.need q, _, rfl, h', rfl, HRQ.out⟩
            · exact h'.elim))
        clear hA hK HH3
        have sc := HH.out.stop
        by_cases hst : m < j1 + 1 + 1
        · rw [decide_eq_true hst] at sc
          have HST : Hid (m < j1 + 1 + 1) := hst
          clear hst
          have o0 := HH.out.out.cell 0 (v := .int .i64 p) rfl
          have o1 := HH.out.out.cell 1 (v := .int .i64 r) rfl
          have o2 := HH.out.out.cell 2 (v := .bool false) rfl
          have r0 := HH.out.res.cell 0 (v := .int .i64 0) rfl
          have r1 := HH.out.res.cell 1 (v := .int .i64 0) rfl
          have r2 := HH.out.res.cell 2 (v := .bool false) rfl
          have f0 := HH.out.res.fro 0
          have f1 := HH.out.res.fro 1
          have f2 := HH.out.res.fro 2
          have HN : Hid _ := HH.out.ret (a := .int .i64 p) (b := .int .i64 r) (c := .bool false) rfl
          go_wp2_with fail
          generalize ((y3.setCell ⟨w.heap.size + 1, 0, none⟩ (.int .i64 p)).setCell ⟨w.heap.size + 1, 1, none⟩ (.int .i64 r)).setCell ⟨w.heap.size + 1, 2, none⟩ (.bool false) = yz at *
          have hfr := HN.out.2.2
          refine bodyPost_ret (v := .agg #[.int .i64 p, .int .i64 r, .bool false]) (results_cell_row rfl _ _ (w.heap.size + 1) 165 #[.int .i64 p, .int .i64 r, .bool false] _ _ rfl hfr Tryz.underlying165 rfl (by kernel_rfl)) rfl ?_
          exact ⟨p, r, _, .note q .over, rfl, HN.out.1, ⟨fun h => absurd h (by have := HST.out; omega), fun h => HH.out.syn.past h⟩, rfl, fun h => absurd h (by have := HST.out; omega), HN.out.2.1, HH.out.le⟩
        · rw [decide_eq_false hst] at sc
          have HST : Hid (j1 + 1 + 1 ≤ m) := (by omega : j1 + 1 + 1 ≤ m)
          have k0 := HH.out.cfg.cell 0 (v := .int .i64 P) rfl
          have k1 := HH.out.cfg.cell 1 (v := .int .i64 T) rfl
          have k2 := HH.out.cfg.cell 2 (v := .int .i64 G) rfl
          clear hst
          cases hlf : lf with
          | true =>
            subst hlf
            have HS1 : Hid (Syn M s0 g m (j1 + 1 + 1) (emb (.lft q)) (fun _ => False)) := ⟨HH.out.syn.at', fun h => absurd h (by have := HST.out; omega)⟩
            have HH1 : Hid _ := HH.out.as HS1.out
            have hPA := rprcAt_all P T G p 0 y3 HP.out.1.2 (by omega)
            have HAc : Hid (∀ Y, Below y3.heap.size y3 Y → _) := fun Y (hY : Below y3.heap.size y3 Y) => syn_store (HH1.out.low hY).run HS1.out HBD.out (wd 20 P 264 p 0) 2 (fun _ => HE.out.ax (.lft q) _ rfl)
            clear HH HS1
            go_wp2_with fail
            go_at_call 86; refine hPA.mono ?_; rintro e y5 ⟨rfl, h5⟩
            have hA := HAc.out y5 h5
            have HH5 : Hid _ := HH1.out.low h5
            clear hPA h5 k0 k1 k2 HAc HH1 sc HST
            go_wp2_with fail
            go_at_call 69; refine hA.mono ?_; rintro e y6 ⟨⟨u, rfl⟩, v6, hK⟩
            have HH6 : Hid (HdAt w y6 x A cap m g M s0 j (j1 + 1 + 1 + 1) (emb (.rel2 q none .fresh)) (fun q' => q' = emb (.lft q) ∨ False) #[.int .i64 P, .int .i64 T, .int .i64 G] 165 #[.int .i64 0, .int .i64 0, .bool false] o #[.int .i64 p, .int .i64 r, .bool false]) := by
              have h := HH5.out.step hK
              rw [HE.out.nx (.lft q) _ _ rfl] at h
              exact h
            clear hA hK HH5
            have sc := HH6.out.stop
            by_cases hst : m < j1 + 1 + 1 + 1
            · rw [decide_eq_true hst] at sc
              have HST : Hid (m < j1 + 1 + 1 + 1) := hst
              have hRl := syn_release (ws_relIn2 HE.out q none) (by omega) HH6.out.run HH6.out.syn HBD.out
              clear hst
              go_wp2_with fail
              go_at_call 72; refine hRl.mono ?_; rintro e y9 ⟨⟨u9, rfl⟩, j9, hR9, hS9, hB9, hj9⟩
              have HH : Hid (HdAt w y9 x A cap m g M s0 j j9 (emb (.rel2 q none .over)) (WsQ Q emb P T p true true p r) #[.int .i64 P, .int .i64 T, .int .i64 G] 165 #[.int .i64 0, .int .i64 0, .bool false] o #[.int .i64 p, .int .i64 r, .bool false]) := HH6.out.go hR9 ⟨hS9.at', fun h => ⟨by
                rcases (HH6.out.syn.past HST.out).1 with h1 | h1
                · exact .inr ⟨.lft q, _, rfl, h1, rfl, HRQ.out⟩
                · exact h1.elim, (HH6.out.syn.past HST.out).2⟩⟩ hB9 hj9
              have HST9 : Hid (m < j9) := Nat.lt_of_lt_of_le HST.out hj9
              clear hRl hR9 hS9 hB9 hj9 sc HST HH6
              have HST := HST9
              have o0 := HH.out.out.cell 0 (v := .int .i64 p) rfl
              have o1 := HH.out.out.cell 1 (v := .int .i64 r) rfl
              have o2 := HH.out.out.cell 2 (v := .bool false) rfl
              have r0 := HH.out.res.cell 0 (v := .int .i64 0) rfl
              have r1 := HH.out.res.cell 1 (v := .int .i64 0) rfl
              have r2 := HH.out.res.cell 2 (v := .bool false) rfl
              have f0 := HH.out.res.fro 0
              have f1 := HH.out.res.fro 1
              have f2 := HH.out.res.fro 2
              have HN : Hid _ := HH.out.ret (a := .int .i64 p) (b := .int .i64 r) (c := .bool false) rfl
              go_wp2_with fail
              generalize ((y9.setCell ⟨w.heap.size + 1, 0, none⟩ (.int .i64 p)).setCell ⟨w.heap.size + 1, 1, none⟩ (.int .i64 r)).setCell ⟨w.heap.size + 1, 2, none⟩ (.bool false) = yz at *
              have hfr := HN.out.2.2
              refine bodyPost_ret (v := .agg #[.int .i64 p, .int .i64 r, .bool false]) (results_cell_row rfl _ _ (w.heap.size + 1) 165 #[.int .i64 p, .int .i64 r, .bool false] _ _ rfl hfr Tryz.underlying165 rfl (by kernel_rfl)) rfl ?_
              exact ⟨p, r, _, .note q .over, rfl, HN.out.1, ⟨fun h => absurd h (by have := HST.out; omega), fun h => HH.out.syn.past h⟩, rfl, fun h => absurd h (by have := HST.out; omega), HN.out.2.1, HH.out.le⟩
            · rw [decide_eq_false hst] at sc
              have HST : Hid (j1 + 1 + 1 + 1 ≤ m) := (by omega : j1 + 1 + 1 + 1 ≤ m)
              have HS6 : Hid (Syn M s0 g m (j1 + 1 + 1 + 1) (emb (.rel2 q none .fresh)) (fun _ => False)) := ⟨HH6.out.syn.at', fun h => absurd h (by have := HST.out; omega)⟩
              have HH7 : Hid (HdAt w (y6.setCell ⟨o, 0, none⟩ (.int .i64 (-1))) x A cap m g M s0 j (j1 + 1 + 1 + 1) (emb (.rel2 q none .fresh)) (fun _ => False) #[.int .i64 P, .int .i64 T, .int .i64 G] 165 #[.int .i64 0, .int .i64 0, .bool false] o #[.int .i64 (-1), .int .i64 r, .bool false]) := (HH6.out.as HS6.out).set 0 (.int .i64 (-1))
              have hRl := syn_release (ws_relIn2 HE.out q none) (by omega) HH7.out.run HH7.out.syn HBD.out
              have o0 := HH6.out.out.cell 0 (v := .int .i64 p) rfl
              have f0 := HH6.out.out.fro 0
              clear hst
              go_wp2_with fail
              clear o0 f0
              generalize y6.setCell ⟨o, 0, none⟩ (.int .i64 (-1)) = V at *
              go_at_call 72; refine hRl.mono ?_; rintro e y9 ⟨⟨u9, rfl⟩, j9, hR9, hS9, hB9, hj9⟩
              have HH : Hid (HdAt w y9 x A cap m g M s0 j j9 (emb (.rel2 q none .over)) (WsQ Q emb P T p true true (-1) r) #[.int .i64 P, .int .i64 T, .int .i64 G] 165 #[.int .i64 0, .int .i64 0, .bool false] o #[.int .i64 (-1), .int .i64 r, .bool false]) := HH7.out.go hR9 (hS9.weak (fun q' h => by
                rcases h with h | h | h
                · exact h.elim
                · exact .inr ⟨.rel2 q none .fresh, _, rfl, h, rfl, HRQ.out⟩
                · exact .inr ⟨.rel2 q none .pass, _, rfl, h, rfl, HRQ.out⟩)) hB9 hj9
              clear hRl hR9 hS9 hB9 hj9 sc HST HH6 HH7 HS6
              have o0 := HH.out.out.cell 0 (v := .int .i64 (-1)) rfl
              have o1 := HH.out.out.cell 1 (v := .int .i64 r) rfl
              have o2 := HH.out.out.cell 2 (v := .bool false) rfl
              have r0 := HH.out.res.cell 0 (v := .int .i64 0) rfl
              have r1 := HH.out.res.cell 1 (v := .int .i64 0) rfl
              have r2 := HH.out.res.cell 2 (v := .bool false) rfl
              have f0 := HH.out.res.fro 0
              have f1 := HH.out.res.fro 1
              have f2 := HH.out.res.fro 2
              have HN : Hid _ := HH.out.ret (a := .int .i64 (-1)) (b := .int .i64 r) (c := .bool false) rfl
              go_wp2_with fail
              generalize ((y9.setCell ⟨w.heap.size + 1, 0, none⟩ (.int .i64 (-1))).setCell ⟨w.heap.size + 1, 1, none⟩ (.int .i64 r)).setCell ⟨w.heap.size + 1, 2, none⟩ (.bool false) = yz at *
              have hfr := HN.out.2.2
              refine bodyPost_ret (v := .agg #[.int .i64 (-1), .int .i64 r, .bool false]) (results_cell_row rfl _ _ (w.heap.size + 1) 165 #[.int .i64 (-1), .int .i64 r, .bool false] _ _ rfl hfr Tryz.underlying165 rfl (by kernel_rfl)) rfl ?_
              exact ⟨-1, r, j9, .rel2 q none .over, rfl, HN.out.1, HH.out.syn, rfl, fun _ => ⟨rfl, HRQ.out⟩, HN.out.2.1, HH.out.le⟩
          | false =>
            subst hlf
            have HS1 : Hid (Syn M s0 g m (j1 + 1 + 1) (wsI emb q .m0) (fun _ => False)) := ⟨HH.out.syn.at', fun h => absurd h (by have := HST.out; omega)⟩
            have HH1 : Hid _ := HH.out.as HS1.out
            have hP := syn_iput (T := T) (G := G) (ws_ipIn HE.out q) HP.out.1 HH1.out.run HS1.out HBD.out
            clear HH HS1
            go_wp2_with fail
            go_at_call 96; refine hP.mono ?_; rintro e y5 ⟨r5, j5, rfl, hR5, hS5, h5, hB5, hj5⟩
            have HH5 : Hid (HdAt w y5 x A cap m g M s0 j j5 (emb (.rel2 q (some .over) .fresh)) (IpQ (fun _ => False) (wsI emb q) p r5) #[.int .i64 P, .int .i64 T, .int .i64 G] 165 #[.int .i64 0, .int .i64 0, .bool false] o #[.int .i64 p, .int .i64 r, .bool false]) := HH1.out.go hR5 hS5 hB5 hj5
            have H5 : Hid (j5 ≤ m → r5 = -1) := h5
            have HH7 : Hid (HdAt w (y5.setCell ⟨o, 0, none⟩ (.int .i64 r5)) x A cap m g M s0 j j5 (emb (.rel2 q (some .over) .fresh)) (IpQ (fun _ => False) (wsI emb q) p r5) #[.int .i64 P, .int .i64 T, .int .i64 G] 165 #[.int .i64 0, .int .i64 0, .bool false] o #[.int .i64 r5, .int .i64 r, .bool false]) := HH5.out.set 0 (.int .i64 r5)
            have hRl := syn_release (ws_relIn2 HE.out q (some .over)) (by omega) HH7.out.run HH7.out.syn HBD.out
            have o0 := HH5.out.out.cell 0 (v := .int .i64 p) rfl
            have f0 := HH5.out.out.fro 0
            clear hP hR5 hS5 h5 hB5 hj5 k0 k1 k2 sc HST HH1
            go_wp2_with fail
            clear o0 f0
            generalize y5.setCell ⟨o, 0, none⟩ (.int .i64 r5) = V at *
            go_at_call 72; refine hRl.mono ?_; rintro e y9 ⟨⟨u9, rfl⟩, j9, hR9, hS9, hB9, hj9⟩
            have HH : Hid (HdAt w y9 x A cap m g M s0 j j9 (emb (.rel2 q (some .over) .over)) (WsQ Q emb P T p true false r5 r) #[.int .i64 P, .int .i64 T, .int .i64 G] 165 #[.int .i64 0, .int .i64 0, .bool false] o #[.int .i64 r5, .int .i64 r, .bool false]) := HH7.out.go hR9 ⟨hS9.at', fun h => ⟨by
              by_cases h5 : m < j5
              · rcases (HH5.out.syn.past h5).1 with ⟨h1, -⟩ | ⟨p', h1, h2, h3⟩
                · exact h1.elim
                · have hb : wsI emb q p' = emb (.back q p') := by cases p' <;> first | rfl | exact absurd rfl h1
                  obtain ⟨a, ha⟩ : ∃ a, (wsPM P T p true false).ax (.back q p') = some a := by cases p' <;> first | exact ⟨_, rfl⟩ | exact absurd rfl h1
                  exact .inr ⟨.back q p', a, ha, h2.trans hb, h3, HRQ.out⟩
              · have e5 : r5 = -1 := H5.out (by omega)
                rcases (hS9.past h).1 with h1 | h1 | h1
                · rcases h1 with ⟨h1, -⟩ | ⟨p', h1, h2, h3⟩
                  · exact h1.elim
                  · have hb : wsI emb q p' = emb (.back q p') := by cases p' <;> first | rfl | exact absurd rfl h1
                    obtain ⟨a, ha⟩ : ∃ a, (wsPM P T p true false).ax (.back q p') = some a := by cases p' <;> first | exact ⟨_, rfl⟩ | exact absurd rfl h1
                    exact .inr ⟨.back q p', a, ha, h2.trans hb, h3, HRQ.out⟩
                · exact .inr ⟨.rel2 q (some .over) .fresh, _, rfl, h1, e5, HRQ.out⟩
                · exact .inr ⟨.rel2 q (some .over) .pass, _, rfl, h1, e5, HRQ.out⟩, (hS9.past h).2⟩⟩ hB9 hj9
            have H9 : Hid (j9 ≤ m → r5 = -1) := fun h => H5.out (Nat.le_trans hj9 h)
            clear hRl hR9 hS9 hB9 hj9 HH5 HH7 H5
            have o0 := HH.out.out.cell 0 (v := .int .i64 r5) rfl
            have o1 := HH.out.out.cell 1 (v := .int .i64 r) rfl
            have o2 := HH.out.out.cell 2 (v := .bool false) rfl
            have r0 := HH.out.res.cell 0 (v := .int .i64 0) rfl
            have r1 := HH.out.res.cell 1 (v := .int .i64 0) rfl
            have r2 := HH.out.res.cell 2 (v := .bool false) rfl
            have f0 := HH.out.res.fro 0
            have f1 := HH.out.res.fro 1
            have f2 := HH.out.res.fro 2
            have HN : Hid _ := HH.out.ret (a := .int .i64 r5) (b := .int .i64 r) (c := .bool false) rfl
            go_wp2_with fail
            generalize ((y9.setCell ⟨w.heap.size + 1, 0, none⟩ (.int .i64 r5)).setCell ⟨w.heap.size + 1, 1, none⟩ (.int .i64 r)).setCell ⟨w.heap.size + 1, 2, none⟩ (.bool false) = yz at *
            have hfr := HN.out.2.2
            refine bodyPost_ret (v := .agg #[.int .i64 r5, .int .i64 r, .bool false]) (results_cell_row rfl _ _ (w.heap.size + 1) 165 #[.int .i64 r5, .int .i64 r, .bool false] _ _ rfl hfr Tryz.underlying165 rfl (by kernel_rfl)) rfl ?_
            exact ⟨r5, r, j9, .rel2 q (some .over) .over, rfl, HN.out.1, HH.out.syn, rfl, fun h => ⟨H9.out h, HRQ.out⟩, HN.out.2.1, HH.out.le⟩
      | false =>
        subst hsp
        have HH : Hid (HdAt w y2 x A cap m g M s0 j (j1 + 1) (emb (wsPut lf q)) (WsQ Q emb P T p false lf p r) #[.int .i64 P, .int .i64 T, .int .i64 G] 165 #[.int .i64 0, .int .i64 0, .bool false] o #[.int .i64 p, .int .i64 r, .bool false]) := HH2.out.as (HH2.out.syn.weak (fun q' h' => by
            rcases h' with h' | h'
            · exact .inr ⟨.need q, _, rfl, h', rfl, HRQ.out⟩
            · exact h'.elim))
        clear HH2
        have sc := HH.out.stop
        by_cases hst : m < j1 + 1
        · rw [decide_eq_true hst] at sc
          have HST : Hid (m < j1 + 1) := hst
          clear hst
          have o0 := HH.out.out.cell 0 (v := .int .i64 p) rfl
          have o1 := HH.out.out.cell 1 (v := .int .i64 r) rfl
          have o2 := HH.out.out.cell 2 (v := .bool false) rfl
          have r0 := HH.out.res.cell 0 (v := .int .i64 0) rfl
          have r1 := HH.out.res.cell 1 (v := .int .i64 0) rfl
          have r2 := HH.out.res.cell 2 (v := .bool false) rfl
          have f0 := HH.out.res.fro 0
          have f1 := HH.out.res.fro 1
          have f2 := HH.out.res.fro 2
          have HN : Hid _ := HH.out.ret (a := .int .i64 p) (b := .int .i64 r) (c := .bool false) rfl
          go_wp2_with fail
          generalize ((y2.setCell ⟨w.heap.size + 1, 0, none⟩ (.int .i64 p)).setCell ⟨w.heap.size + 1, 1, none⟩ (.int .i64 r)).setCell ⟨w.heap.size + 1, 2, none⟩ (.bool false) = yz at *
          have hfr := HN.out.2.2
          refine bodyPost_ret (v := .agg #[.int .i64 p, .int .i64 r, .bool false]) (results_cell_row rfl _ _ (w.heap.size + 1) 165 #[.int .i64 p, .int .i64 r, .bool false] _ _ rfl hfr Tryz.underlying165 rfl (by kernel_rfl)) rfl ?_
          exact ⟨p, r, _, .note q .over, rfl, HN.out.1, ⟨fun h => absurd h (by have := HST.out; omega), fun h => HH.out.syn.past h⟩, rfl, fun h => absurd h (by have := HST.out; omega), HN.out.2.1, HH.out.le⟩
        · rw [decide_eq_false hst] at sc
          have HST : Hid (j1 + 1 ≤ m) := (by omega : j1 + 1 ≤ m)
          have k0 := HH.out.cfg.cell 0 (v := .int .i64 P) rfl
          have k1 := HH.out.cfg.cell 1 (v := .int .i64 T) rfl
          have k2 := HH.out.cfg.cell 2 (v := .int .i64 G) rfl
          clear hst
          cases hlf : lf with
          | true =>
            subst hlf
            have HS1 : Hid (Syn M s0 g m (j1 + 1) (emb (.lft q)) (fun _ => False)) := ⟨HH.out.syn.at', fun h => absurd h (by have := HST.out; omega)⟩
            have HH1 : Hid _ := HH.out.as HS1.out
            have hPA := rprcAt_all P T G p 0 y2 HP.out.1.2 (by omega)
            have HAc : Hid (∀ Y, Below y2.heap.size y2 Y → _) := fun Y (hY : Below y2.heap.size y2 Y) => syn_store (HH1.out.low hY).run HS1.out HBD.out (wd 20 P 264 p 0) 2 (fun _ => HE.out.ax (.lft q) _ rfl)
            clear HH HS1
            go_wp2_with fail
            go_at_call 86; refine hPA.mono ?_; rintro e y5 ⟨rfl, h5⟩
            have hA := HAc.out y5 h5
            have HH5 : Hid _ := HH1.out.low h5
            clear hPA h5 k0 k1 k2 HAc HH1 sc HST
            go_wp2_with fail
            go_at_call 69; refine hA.mono ?_; rintro e y6 ⟨⟨u, rfl⟩, v6, hK⟩
            have HH6 : Hid (HdAt w y6 x A cap m g M s0 j (j1 + 1 + 1) (emb (.rel2 q none .fresh)) (fun q' => q' = emb (.lft q) ∨ False) #[.int .i64 P, .int .i64 T, .int .i64 G] 165 #[.int .i64 0, .int .i64 0, .bool false] o #[.int .i64 p, .int .i64 r, .bool false]) := by
              have h := HH5.out.step hK
              rw [HE.out.nx (.lft q) _ _ rfl] at h
              exact h
            clear hA hK HH5
            have sc := HH6.out.stop
            by_cases hst : m < j1 + 1 + 1
            · rw [decide_eq_true hst] at sc
              have HST : Hid (m < j1 + 1 + 1) := hst
              have hRl := syn_release (ws_relIn2 HE.out q none) (by omega) HH6.out.run HH6.out.syn HBD.out
              clear hst
              go_wp2_with fail
              go_at_call 72; refine hRl.mono ?_; rintro e y9 ⟨⟨u9, rfl⟩, j9, hR9, hS9, hB9, hj9⟩
              have HH : Hid (HdAt w y9 x A cap m g M s0 j j9 (emb (.rel2 q none .over)) (WsQ Q emb P T p false true p r) #[.int .i64 P, .int .i64 T, .int .i64 G] 165 #[.int .i64 0, .int .i64 0, .bool false] o #[.int .i64 p, .int .i64 r, .bool false]) := HH6.out.go hR9 ⟨hS9.at', fun h => ⟨by
                rcases (HH6.out.syn.past HST.out).1 with h1 | h1
                · exact .inr ⟨.lft q, _, rfl, h1, rfl, HRQ.out⟩
                · exact h1.elim, (HH6.out.syn.past HST.out).2⟩⟩ hB9 hj9
              have HST9 : Hid (m < j9) := Nat.lt_of_lt_of_le HST.out hj9
              clear hRl hR9 hS9 hB9 hj9 sc HST HH6
              have HST := HST9
              have o0 := HH.out.out.cell 0 (v := .int .i64 p) rfl
              have o1 := HH.out.out.cell 1 (v := .int .i64 r) rfl
              have o2 := HH.out.out.cell 2 (v := .bool false) rfl
              have r0 := HH.out.res.cell 0 (v := .int .i64 0) rfl
              have r1 := HH.out.res.cell 1 (v := .int .i64 0) rfl
              have r2 := HH.out.res.cell 2 (v := .bool false) rfl
              have f0 := HH.out.res.fro 0
              have f1 := HH.out.res.fro 1
              have f2 := HH.out.res.fro 2
              have HN : Hid _ := HH.out.ret (a := .int .i64 p) (b := .int .i64 r) (c := .bool false) rfl
              go_wp2_with fail
              generalize ((y9.setCell ⟨w.heap.size + 1, 0, none⟩ (.int .i64 p)).setCell ⟨w.heap.size + 1, 1, none⟩ (.int .i64 r)).setCell ⟨w.heap.size + 1, 2, none⟩ (.bool false) = yz at *
              have hfr := HN.out.2.2
              refine bodyPost_ret (v := .agg #[.int .i64 p, .int .i64 r, .bool false]) (results_cell_row rfl _ _ (w.heap.size + 1) 165 #[.int .i64 p, .int .i64 r, .bool false] _ _ rfl hfr Tryz.underlying165 rfl (by kernel_rfl)) rfl ?_
              exact ⟨p, r, _, .note q .over, rfl, HN.out.1, ⟨fun h => absurd h (by have := HST.out; omega), fun h => HH.out.syn.past h⟩, rfl, fun h => absurd h (by have := HST.out; omega), HN.out.2.1, HH.out.le⟩
            · rw [decide_eq_false hst] at sc
              have HST : Hid (j1 + 1 + 1 ≤ m) := (by omega : j1 + 1 + 1 ≤ m)
              have HS6 : Hid (Syn M s0 g m (j1 + 1 + 1) (emb (.rel2 q none .fresh)) (fun _ => False)) := ⟨HH6.out.syn.at', fun h => absurd h (by have := HST.out; omega)⟩
              have HH7 : Hid (HdAt w (y6.setCell ⟨o, 0, none⟩ (.int .i64 (-1))) x A cap m g M s0 j (j1 + 1 + 1) (emb (.rel2 q none .fresh)) (fun _ => False) #[.int .i64 P, .int .i64 T, .int .i64 G] 165 #[.int .i64 0, .int .i64 0, .bool false] o #[.int .i64 (-1), .int .i64 r, .bool false]) := (HH6.out.as HS6.out).set 0 (.int .i64 (-1))
              have hRl := syn_release (ws_relIn2 HE.out q none) (by omega) HH7.out.run HH7.out.syn HBD.out
              have o0 := HH6.out.out.cell 0 (v := .int .i64 p) rfl
              have f0 := HH6.out.out.fro 0
              clear hst
              go_wp2_with fail
              clear o0 f0
              generalize y6.setCell ⟨o, 0, none⟩ (.int .i64 (-1)) = V at *
              go_at_call 72; refine hRl.mono ?_; rintro e y9 ⟨⟨u9, rfl⟩, j9, hR9, hS9, hB9, hj9⟩
              have HH : Hid (HdAt w y9 x A cap m g M s0 j j9 (emb (.rel2 q none .over)) (WsQ Q emb P T p false true (-1) r) #[.int .i64 P, .int .i64 T, .int .i64 G] 165 #[.int .i64 0, .int .i64 0, .bool false] o #[.int .i64 (-1), .int .i64 r, .bool false]) := HH7.out.go hR9 (hS9.weak (fun q' h => by
                rcases h with h | h | h
                · exact h.elim
                · exact .inr ⟨.rel2 q none .fresh, _, rfl, h, rfl, HRQ.out⟩
                · exact .inr ⟨.rel2 q none .pass, _, rfl, h, rfl, HRQ.out⟩)) hB9 hj9
              clear hRl hR9 hS9 hB9 hj9 sc HST HH6 HH7 HS6
              have o0 := HH.out.out.cell 0 (v := .int .i64 (-1)) rfl
              have o1 := HH.out.out.cell 1 (v := .int .i64 r) rfl
              have o2 := HH.out.out.cell 2 (v := .bool false) rfl
              have r0 := HH.out.res.cell 0 (v := .int .i64 0) rfl
              have r1 := HH.out.res.cell 1 (v := .int .i64 0) rfl
              have r2 := HH.out.res.cell 2 (v := .bool false) rfl
              have f0 := HH.out.res.fro 0
              have f1 := HH.out.res.fro 1
              have f2 := HH.out.res.fro 2
              have HN : Hid _ := HH.out.ret (a := .int .i64 (-1)) (b := .int .i64 r) (c := .bool false) rfl
              go_wp2_with fail
              generalize ((y9.setCell ⟨w.heap.size + 1, 0, none⟩ (.int .i64 (-1))).setCell ⟨w.heap.size + 1, 1, none⟩ (.int .i64 r)).setCell ⟨w.heap.size + 1, 2, none⟩ (.bool false) = yz at *
              have hfr := HN.out.2.2
              refine bodyPost_ret (v := .agg #[.int .i64 (-1), .int .i64 r, .bool false]) (results_cell_row rfl _ _ (w.heap.size + 1) 165 #[.int .i64 (-1), .int .i64 r, .bool false] _ _ rfl hfr Tryz.underlying165 rfl (by kernel_rfl)) rfl ?_
              exact ⟨-1, r, j9, .rel2 q none .over, rfl, HN.out.1, HH.out.syn, rfl, fun _ => ⟨rfl, HRQ.out⟩, HN.out.2.1, HH.out.le⟩
          | false =>
            subst hlf
            have HS1 : Hid (Syn M s0 g m (j1 + 1) (wsI emb q .m0) (fun _ => False)) := ⟨HH.out.syn.at', fun h => absurd h (by have := HST.out; omega)⟩
            have HH1 : Hid _ := HH.out.as HS1.out
            have hP := syn_iput (T := T) (G := G) (ws_ipIn HE.out q) HP.out.1 HH1.out.run HS1.out HBD.out
            clear HH HS1
            go_wp2_with fail
            go_at_call 96; refine hP.mono ?_; rintro e y5 ⟨r5, j5, rfl, hR5, hS5, h5, hB5, hj5⟩
            have HH5 : Hid (HdAt w y5 x A cap m g M s0 j j5 (emb (.rel2 q (some .over) .fresh)) (IpQ (fun _ => False) (wsI emb q) p r5) #[.int .i64 P, .int .i64 T, .int .i64 G] 165 #[.int .i64 0, .int .i64 0, .bool false] o #[.int .i64 p, .int .i64 r, .bool false]) := HH1.out.go hR5 hS5 hB5 hj5
            have H5 : Hid (j5 ≤ m → r5 = -1) := h5
            have HH7 : Hid (HdAt w (y5.setCell ⟨o, 0, none⟩ (.int .i64 r5)) x A cap m g M s0 j j5 (emb (.rel2 q (some .over) .fresh)) (IpQ (fun _ => False) (wsI emb q) p r5) #[.int .i64 P, .int .i64 T, .int .i64 G] 165 #[.int .i64 0, .int .i64 0, .bool false] o #[.int .i64 r5, .int .i64 r, .bool false]) := HH5.out.set 0 (.int .i64 r5)
            have hRl := syn_release (ws_relIn2 HE.out q (some .over)) (by omega) HH7.out.run HH7.out.syn HBD.out
            have o0 := HH5.out.out.cell 0 (v := .int .i64 p) rfl
            have f0 := HH5.out.out.fro 0
            clear hP hR5 hS5 h5 hB5 hj5 k0 k1 k2 sc HST HH1
            go_wp2_with fail
            clear o0 f0
            generalize y5.setCell ⟨o, 0, none⟩ (.int .i64 r5) = V at *
            go_at_call 72; refine hRl.mono ?_; rintro e y9 ⟨⟨u9, rfl⟩, j9, hR9, hS9, hB9, hj9⟩
            have HH : Hid (HdAt w y9 x A cap m g M s0 j j9 (emb (.rel2 q (some .over) .over)) (WsQ Q emb P T p false false r5 r) #[.int .i64 P, .int .i64 T, .int .i64 G] 165 #[.int .i64 0, .int .i64 0, .bool false] o #[.int .i64 r5, .int .i64 r, .bool false]) := HH7.out.go hR9 ⟨hS9.at', fun h => ⟨by
              by_cases h5 : m < j5
              · rcases (HH5.out.syn.past h5).1 with ⟨h1, -⟩ | ⟨p', h1, h2, h3⟩
                · exact h1.elim
                · have hb : wsI emb q p' = emb (.back q p') := by cases p' <;> first | rfl | exact absurd rfl h1
                  obtain ⟨a, ha⟩ : ∃ a, (wsPM P T p false false).ax (.back q p') = some a := by cases p' <;> first | exact ⟨_, rfl⟩ | exact absurd rfl h1
                  exact .inr ⟨.back q p', a, ha, h2.trans hb, h3, HRQ.out⟩
              · have e5 : r5 = -1 := H5.out (by omega)
                rcases (hS9.past h).1 with h1 | h1 | h1
                · rcases h1 with ⟨h1, -⟩ | ⟨p', h1, h2, h3⟩
                  · exact h1.elim
                  · have hb : wsI emb q p' = emb (.back q p') := by cases p' <;> first | rfl | exact absurd rfl h1
                    obtain ⟨a, ha⟩ : ∃ a, (wsPM P T p false false).ax (.back q p') = some a := by cases p' <;> first | exact ⟨_, rfl⟩ | exact absurd rfl h1
                    exact .inr ⟨.back q p', a, ha, h2.trans hb, h3, HRQ.out⟩
                · exact .inr ⟨.rel2 q (some .over) .fresh, _, rfl, h1, e5, HRQ.out⟩
                · exact .inr ⟨.rel2 q (some .over) .pass, _, rfl, h1, e5, HRQ.out⟩, (hS9.past h).2⟩⟩ hB9 hj9
            have H9 : Hid (j9 ≤ m → r5 = -1) := fun h => H5.out (Nat.le_trans hj9 h)
            clear hRl hR9 hS9 hB9 hj9 HH5 HH7 H5
            have o0 := HH.out.out.cell 0 (v := .int .i64 r5) rfl
            have o1 := HH.out.out.cell 1 (v := .int .i64 r) rfl
            have o2 := HH.out.out.cell 2 (v := .bool false) rfl
            have r0 := HH.out.res.cell 0 (v := .int .i64 0) rfl
            have r1 := HH.out.res.cell 1 (v := .int .i64 0) rfl
            have r2 := HH.out.res.cell 2 (v := .bool false) rfl
            have f0 := HH.out.res.fro 0
            have f1 := HH.out.res.fro 1
            have f2 := HH.out.res.fro 2
            have HN : Hid _ := HH.out.ret (a := .int .i64 r5) (b := .int .i64 r) (c := .bool false) rfl
            go_wp2_with fail
            generalize ((y9.setCell ⟨w.heap.size + 1, 0, none⟩ (.int .i64 r5)).setCell ⟨w.heap.size + 1, 1, none⟩ (.int .i64 r)).setCell ⟨w.heap.size + 1, 2, none⟩ (.bool false) = yz at *
            have hfr := HN.out.2.2
            refine bodyPost_ret (v := .agg #[.int .i64 r5, .int .i64 r, .bool false]) (results_cell_row rfl _ _ (w.heap.size + 1) 165 #[.int .i64 r5, .int .i64 r, .bool false] _ _ rfl hfr Tryz.underlying165 rfl (by kernel_rfl)) rfl ?_
            exact ⟨r5, r, j9, .rel2 q (some .over) .over, rfl, HN.out.1, HH.out.syn, rfl, fun h => ⟨H9.out h, HRQ.out⟩, HN.out.2.1, HH.out.le⟩
    · have HR1 : Hid (r ≠ -1) := hr1
      have hd : (r == -1) = false := by simpa using hr1
      have HS1 : Hid (Syn M s0 g m j1 (wsR1 emb q .fresh) (fun _ => False)) := ⟨fun h => (HH.out.syn.at' h).trans ((if_neg (by rw [HQ.out.1]; decide)).trans (if_neg (fun e => hr1 (HRQ.out.trans e)))), fun h => absurd h (by have := HST.out; omega)⟩
      have HH1 : Hid _ := HH.out.as HS1.out
      have hRl := syn_release (ws_relIn1 HE.out q) (by omega) HH1.out.run HS1.out HBD.out
      clear hst HH HS1 hr1
      go_wp2_with fail
      go_at_call 72; refine hRl.mono ?_; rintro e y2 ⟨⟨u2, rfl⟩, j2, hR2, hS2, hB2, hj2⟩
      have HH2 : Hid (HdAt w y2 x A cap m g M s0 j j2 (emb (.give q)) (WsQ Q emb P T p sp lf p r) #[.int .i64 P, .int .i64 T, .int .i64 G] 165 #[.int .i64 0, .int .i64 0, .bool false] y1.heap.size #[.int .i64 p, .int .i64 r, .bool false]) := HH1.out.go hR2 (hS2.weak (fun q' h => by
        rcases h with h | h | h
        · exact h.elim
        · exact .inr ⟨.rel1 q .fresh, _, rfl, h, rfl, HRQ.out⟩
        · exact .inr ⟨.rel1 q .pass, _, rfl, h, rfl, HRQ.out⟩)) hB2 hj2
      clear hRl hR2 hS2 hB2 hj2 HH1 sc k0 k1 k2 HST hy1
      generalize y1.heap.size = o at *
      have k0 := HH2.out.cfg.cell 0 (v := .int .i64 P) rfl
      have k1 := HH2.out.cfg.cell 1 (v := .int .i64 T) rfl
      have k2 := HH2.out.cfg.cell 2 (v := .int .i64 G) rfl
      have hTh := rthrAt_all P T G r 1 y2 HP.out.1 HP.out.2.2 (by omega)
      have hWd := fun Y => rws_word Y p sp
      have HAX : Hid (M.ax (emb (.give q)) = some (axSt (wd (20 + P * 264) T 3 r 1) (wkWord p sp))) := by rw [HRQ.out]; exact HE.out.ax (.give q) _ rfl
      have HAX2 : Hid (M.ax (emb (.note q .fresh)) = some (axSt (wd (20 + P * 264) T 3 r 0) 1)) := by rw [HRQ.out]; exact HE.out.ax (.note q .fresh) _ rfl
      have HAc : Hid (∀ Y, Below y2.heap.size y2 Y → _) := fun Y (hY : Below y2.heap.size y2 Y) => syn_store (HH2.out.low hY).run HH2.out.syn HBD.out (wd (20 + P * 264) T 3 r 1) (wkWord p sp) (fun _ => HAX.out)
      have HWk : Hid (∀ {j : Nat} {w : World} {Q : σ → Prop}, RunOn w x A cap m g (M.rj s0 g m j) → Syn M s0 g m j (emb (.note q .fresh)) Q → Calls Tryz.prog 105 #[.pointer (some ⟨x, 0, none⟩), .agg #[.int .i64 P, .int .i64 T, .int .i64 G] , .int .i64 r] w fun e w' => (∃ u, e = .returned u) ∧ RunOn w' x A cap m g (M.rj s0 g m (j + 1)) ∧ Syn M s0 g m (j + 1) (emb (.note q .over)) (fun q' => Q q' ∨ q' = emb (.note q .fresh)) ∧ But [x] w w') := fun hR hS => syn_nwake HAX2.out (fun v => HE.out.nx (.note q .fresh) _ v rfl) HP.out.1 HP.out.2 hR hS HBD.out
      generalize wkWord p sp = ww at *
      generalize wd (20 + P * 264) T 3 r 1 = n1 at *
      go_wp2_with fail
      go_at_call 103; refine hTh.mono ?_; rintro e y5 ⟨rfl, h5⟩
      have hA := HAc.out y5 h5
      have HH5 : Hid _ := HH2.out.low h5
      clear hTh h5 k0 k1 k2 HAc HH2
      go_wp2_with fail
      go_at_call 104; refine (hWd _).mono ?_; rintro e y9 ⟨rfl, rfl⟩
      clear hWd
      go_wp2_with fail
      go_at_call 69; refine hA.mono ?_; rintro e y6 ⟨⟨u, rfl⟩, v6, hK⟩
      have HH6 : Hid (HdAt w y6 x A cap m g M s0 j (j2 + 1) (emb (.note q .fresh)) (WsQ Q emb P T p sp lf p r) #[.int .i64 P, .int .i64 T, .int .i64 G] 165 #[.int .i64 0, .int .i64 0, .bool false] o #[.int .i64 p, .int .i64 r, .bool false]) := by
        have h := HH5.out.step hK
        rw [HE.out.nx (.give q) _ _ rfl] at h
        exact h.as (h.syn.weak (fun q' h' => by
          rcases h' with h' | h'
          · exact .inr ⟨.give q, _, rfl, h', rfl, HRQ.out⟩
          · exact h'))
      clear hA hK HH5
      have sc := HH6.out.stop
      have k0 := HH6.out.cfg.cell 0 (v := .int .i64 P) rfl
      have k1 := HH6.out.cfg.cell 1 (v := .int .i64 T) rfl
      have k2 := HH6.out.cfg.cell 2 (v := .int .i64 G) rfl
      by_cases hst : m < j2 + 1
      · rw [decide_eq_true hst] at sc
        have HST : Hid (m < j2 + 1) := hst
        have hWk := HWk.out HH6.out.run HH6.out.syn
        clear hst
        go_wp2_with fail
        go_at_call 105; refine hWk.mono ?_; rintro e y9 ⟨⟨u9, rfl⟩, hR9, hS9, hB9⟩
        have HH : Hid (HdAt w y9 x A cap m g M s0 j (j2 + 1 + 1) (emb (.note q .over)) (WsQ Q emb P T p sp lf p r) #[.int .i64 P, .int .i64 T, .int .i64 G] 165 #[.int .i64 0, .int .i64 0, .bool false] o #[.int .i64 p, .int .i64 r, .bool false]) := HH6.out.go hR9 ⟨hS9.at', fun h => HH6.out.syn.past HST.out⟩ hB9 (Nat.le_succ _)
        clear hWk hR9 hS9 hB9 sc HH6 k0 k1 k2
        have o0 := HH.out.out.cell 0 (v := .int .i64 p) rfl
        have o1 := HH.out.out.cell 1 (v := .int .i64 r) rfl
        have o2 := HH.out.out.cell 2 (v := .bool false) rfl
        have r0 := HH.out.res.cell 0 (v := .int .i64 0) rfl
        have r1 := HH.out.res.cell 1 (v := .int .i64 0) rfl
        have r2 := HH.out.res.cell 2 (v := .bool false) rfl
        have f0 := HH.out.res.fro 0
        have f1 := HH.out.res.fro 1
        have f2 := HH.out.res.fro 2
        have HN : Hid _ := HH.out.ret (a := .int .i64 p) (b := .int .i64 r) (c := .bool false) rfl
        go_wp2_with fail
        generalize ((y9.setCell ⟨w.heap.size + 1, 0, none⟩ (.int .i64 p)).setCell ⟨w.heap.size + 1, 1, none⟩ (.int .i64 r)).setCell ⟨w.heap.size + 1, 2, none⟩ (.bool false) = yz at *
        have hfr := HN.out.2.2
        refine bodyPost_ret (v := .agg #[.int .i64 p, .int .i64 r, .bool false]) (results_cell_row rfl _ _ (w.heap.size + 1) 165 #[.int .i64 p, .int .i64 r, .bool false] _ _ rfl hfr Tryz.underlying165 rfl (by kernel_rfl)) rfl ?_
        exact ⟨p, r, _, .note q .over, rfl, HN.out.1, HH.out.syn, rfl, fun h => absurd h (by have := HST.out; omega), HN.out.2.1, HH.out.le⟩
      · rw [decide_eq_false hst] at sc
        have HST : Hid (j2 + 1 ≤ m) := (by omega : j2 + 1 ≤ m)
        have HS6 : Hid (Syn M s0 g m (j2 + 1) (emb (.note q .fresh)) (fun _ => False)) := ⟨HH6.out.syn.at', fun h => absurd h (by have := HST.out; omega)⟩
        have HH7 : Hid (HdAt w (y6.setCell ⟨o, 0, none⟩ (.int .i64 (-1))) x A cap m g M s0 j (j2 + 1) (emb (.note q .fresh)) (fun _ => False) #[.int .i64 P, .int .i64 T, .int .i64 G] 165 #[.int .i64 0, .int .i64 0, .bool false] o #[.int .i64 (-1), .int .i64 r, .bool false]) := (HH6.out.as HS6.out).set 0 (.int .i64 (-1))
        have hWk := HWk.out HH7.out.run HH7.out.syn
        have o0 := HH6.out.out.cell 0 (v := .int .i64 p) rfl
        have f0 := HH6.out.out.fro 0
        have hne : o ≠ w.heap.size := by have := HH6.out.lo; omega
        have k0' := HH7.out.cfg.cell 0 (v := .int .i64 P) rfl
        have k1' := HH7.out.cfg.cell 1 (v := .int .i64 T) rfl
        have k2' := HH7.out.cfg.cell 2 (v := .int .i64 G) rfl
        clear hst
        go_wp2_with fail
        clear o0 f0 k0 k1 k2 k0' k1' k2'
        generalize y6.setCell ⟨o, 0, none⟩ (.int .i64 (-1)) = V at *
        go_at_call 105; refine hWk.mono ?_; rintro e y9 ⟨⟨u9, rfl⟩, hR9, hS9, hB9⟩
        have HH : Hid (HdAt w y9 x A cap m g M s0 j (j2 + 1 + 1) (emb (.note q .over)) (WsQ Q emb P T p sp lf (-1) r) #[.int .i64 P, .int .i64 T, .int .i64 G] 165 #[.int .i64 0, .int .i64 0, .bool false] o #[.int .i64 (-1), .int .i64 r, .bool false]) := HH7.out.go hR9 (hS9.weak (fun q' h => by
          rcases h with h | h
          · exact h.elim
          · exact .inr ⟨.note q .fresh, _, rfl, h, rfl, HRQ.out⟩)) hB9 (Nat.le_succ _)
        clear hWk hR9 hS9 hB9 sc HH6 HH7 HS6
        have o0 := HH.out.out.cell 0 (v := .int .i64 (-1)) rfl
        have o1 := HH.out.out.cell 1 (v := .int .i64 r) rfl
        have o2 := HH.out.out.cell 2 (v := .bool false) rfl
        have r0 := HH.out.res.cell 0 (v := .int .i64 0) rfl
        have r1 := HH.out.res.cell 1 (v := .int .i64 0) rfl
        have r2 := HH.out.res.cell 2 (v := .bool false) rfl
        have f0 := HH.out.res.fro 0
        have f1 := HH.out.res.fro 1
        have f2 := HH.out.res.fro 2
        have HN : Hid _ := HH.out.ret (a := .int .i64 (-1)) (b := .int .i64 r) (c := .bool false) rfl
        go_wp2_with fail
        generalize ((y9.setCell ⟨w.heap.size + 1, 0, none⟩ (.int .i64 (-1))).setCell ⟨w.heap.size + 1, 1, none⟩ (.int .i64 r)).setCell ⟨w.heap.size + 1, 2, none⟩ (.bool false) = yz at *
        have hfr := HN.out.2.2
        refine bodyPost_ret (v := .agg #[.int .i64 (-1), .int .i64 r, .bool false]) (results_cell_row rfl _ _ (w.heap.size + 1) 165 #[.int .i64 (-1), .int .i64 r, .bool false] _ _ rfl hfr Tryz.underlying165 rfl (by kernel_rfl)) rfl ?_
        exact ⟨-1, r, _, .note q .over, rfl, HN.out.1, HH.out.syn, rfl, fun _ => ⟨rfl, HRQ.out⟩, HN.out.2.1, HH.out.le⟩
end Go.Proofs.YthjfbknmdligeaaGreat

namespace Go.Proofs.YthjfbknmdligeaaGreat
open Go Go.RowKit
set_option linter.unusedVariables false
set_option maxRecDepth 100000
set_option linter.unusedSimpArgs false

/-- The answers of swaps. -/
def SwOk {σ : Type} (M : PM σ) (s0 : σ) (g : Nat → Int) (m : Nat) : Prop := ∀ j, j < m → ∀ a, M.ax (M.run s0 g j) = some a → a.k = 3 → g j ≤ 1
theorem SwOk.one {σ : Type} {M : PM σ} {s0 t : σ} {g : Nat → Int} {m j : Nat} {Q : σ → Prop} {v : Int} {a : Ax} (h : SwOk M s0 g m) (hS : Syn M s0 g m j t Q) (ha : M.ax t = some a) (hk : a.k = 3) (hv : j < m → v = g j) (hz : m ≤ j → v = 0) (hb : 0 ≤ v) : v = 0 ∨ v = 1 := by
  by_cases hj : j < m
  · have := h j hj a (by rw [hS.at' (by omega)]; exact ha) hk
    rw [hv hj] at hb ⊢
    omega
  · exact .inl (hz (by omega))

end Go.Proofs.YthjfbknmdligeaaGreat

namespace Go.Proofs.YthjfbknmdligeaaGreat
open Go Go.RowKit
set_option linter.unusedVariables false
set_option maxRecDepth 100000
set_option linter.unusedSimpArgs false

theorem HdAt.ret2 {σ : Type} {w y : World} {x : Nat} {A : Option Addr} {cap m : Nat} {g : Nat → Int} {M : PM σ} {s0 : σ} {j0 j : Nat} {t : σ} {Q : σ → Prop} {cf : Array Value} {HTy : TypeId} {z : Array Value} {o : Nat} {oc : Array Value} (h : HdAt w y x A cap m g M s0 j0 j t Q cf HTy z o oc) (a b : Value) {z0 z1 : Value} (hz : z = #[z0, z1]) : RunOn ((y.setCell ⟨w.heap.size + 1, 0, none⟩ a).setCell ⟨w.heap.size + 1, 1, none⟩ b) x A cap m g (M.rj s0 g m j) ∧ But [x] w ((y.setCell ⟨w.heap.size + 1, 0, none⟩ a).setCell ⟨w.heap.size + 1, 1, none⟩ b) ∧ ((y.setCell ⟨w.heap.size + 1, 0, none⟩ a).setCell ⟨w.heap.size + 1, 1, none⟩ b).heap[w.heap.size + 1]? = some (.cells #[a, b] HTy (0, 0)) := by
  subst hz
  have hx := h.x
  have hU : But [w.heap.size + 1] y ((y.setCell ⟨w.heap.size + 1, 0, none⟩ a).setCell ⟨w.heap.size + 1, 1, none⟩ b) := ((But.refl _ y).set (g := w.heap.size + 1) (.inl (by simp)) 0 _).set (g := w.heap.size + 1) (.inl (by simp)) 1 _
  have hZ := (h.res.set 0 a).set 1 b
  exact ⟨h.run.but hU (by simp; omega) (h.far.of (by intro k hk; simp at hk ⊢; omega)), But.lowk h.but hU (by omega), hZ.heap⟩
theorem Syn.resetv {σ : Type} {M : PM σ} {s0 : σ} {g : Nat → Int} {m j : Nat} {t : σ} {Q : σ → Prop} (h : Syn M s0 g m j t Q) (hj : j ≤ m) (Q2 : σ → Prop) : Syn M s0 g m j t Q2 := ⟨h.at', fun hm => absurd hm (by omega)⟩
section
variable {σ : Type} {M : PM σ} {P T G who p : Int} {emb : HvT → σ}
def hvL (P p : Int) (emb : HvT → σ) (l : LoT) : σ := if ((loPM P p).ax l).isSome = true then emb (.lk l) else if l.e = true then emb .gs else emb (.acqP .fresh)
theorem hv_loIn (hE : PmIn M (hvPM P T who p) emb) : PmIn M (loPM P p) (hvL P p emb) where
  ax := fun q a h => by
    have e : hvL P p emb q = emb (.lk q) := if_pos (by rw [h]; rfl)
    rw [e]
    exact hE.ax (.lk q) a h
  nx := fun q a v h => by
    have e : hvL P p emb q = emb (.lk q) := if_pos (by rw [h]; rfl)
    rw [e, hE.nx (.lk q) a v h]
    show emb (if ((loPM P p).ax ((loPM P p).nx q v)).isSome = true then .lk ((loPM P p).nx q v) else if ((loPM P p).nx q v).e = true then .gs else .acqP .fresh) = _
    unfold hvL
    split
    · rfl
    · split <;> rfl
def hvAP (emb : HvT → σ) : AcqT → σ
  | .over _ => emb (.runP (.get .ld))
  | a => emb (.acqP a)
theorem hv_acqPIn (hE : PmIn M (hvPM P T who p) emb) : AcqIn M 0 who (hvAP emb) := by
  refine ⟨hE.ax (.acqP .fresh) _ rfl, fun u => hE.ax (.acqP (.wait u)) _ rfl, fun u => hE.ax (.acqP (.has u)) _ rfl, fun v => hE.nx (.acqP .fresh) _ v rfl, ?_, fun u v => hE.nx (.acqP (.has u)) _ v rfl⟩
  intro u v
  refine (hE.nx (.acqP (.wait u)) _ v rfl).trans ?_
  by_cases h : v = u
  · subst h
    have e : (acqPM (wd 0 2 3 0 0) (wd 0 2 3 0 1) (wd 0 2 3 0 2) who).nx (.wait v) v = .has v := if_pos rfl
    show emb (if ((acqPM (wd 0 2 3 0 0) (wd 0 2 3 0 1) (wd 0 2 3 0 2) who).ax ((acqPM (wd 0 2 3 0 0) (wd 0 2 3 0 1) (wd 0 2 3 0 2) who).nx (.wait v) v)).isSome = true then .acqP ((acqPM (wd 0 2 3 0 0) (wd 0 2 3 0 1) (wd 0 2 3 0 2) who).nx (.wait v) v) else .runP (.get .ld)) = _
    rw [e, if_pos rfl]
    rfl
  · have e : (acqPM (wd 0 2 3 0 0) (wd 0 2 3 0 1) (wd 0 2 3 0 2) who).nx (.wait u) v = .wait u := if_neg h
    show emb (if ((acqPM (wd 0 2 3 0 0) (wd 0 2 3 0 1) (wd 0 2 3 0 2) who).ax ((acqPM (wd 0 2 3 0 0) (wd 0 2 3 0 1) (wd 0 2 3 0 2) who).nx (.wait u) v)).isSome = true then .acqP ((acqPM (wd 0 2 3 0 0) (wd 0 2 3 0 1) (wd 0 2 3 0 2) who).nx (.wait u) v) else .runP (.get .ld)) = _
    rw [e, if_neg h]
    rfl
def hvAS (emb : HvT → σ) : AcqT → σ
  | .over _ => emb (.runS (.get .ld))
  | a => emb (.acqS a)
theorem hv_acqSIn (hE : PmIn M (hvPM P T who p) emb) : AcqIn M 0 who (hvAS emb) := by
  refine ⟨hE.ax (.acqS .fresh) _ rfl, fun u => hE.ax (.acqS (.wait u)) _ rfl, fun u => hE.ax (.acqS (.has u)) _ rfl, fun v => hE.nx (.acqS .fresh) _ v rfl, ?_, fun u v => hE.nx (.acqS (.has u)) _ v rfl⟩
  intro u v
  refine (hE.nx (.acqS (.wait u)) _ v rfl).trans ?_
  by_cases h : v = u
  · subst h
    have e : (acqPM (wd 0 2 3 0 0) (wd 0 2 3 0 1) (wd 0 2 3 0 2) who).nx (.wait v) v = .has v := if_pos rfl
    show emb (if ((acqPM (wd 0 2 3 0 0) (wd 0 2 3 0 1) (wd 0 2 3 0 2) who).ax ((acqPM (wd 0 2 3 0 0) (wd 0 2 3 0 1) (wd 0 2 3 0 2) who).nx (.wait v) v)).isSome = true then .acqS ((acqPM (wd 0 2 3 0 0) (wd 0 2 3 0 1) (wd 0 2 3 0 2) who).nx (.wait v) v) else .runS (.get .ld)) = _
    rw [e, if_pos rfl]
    rfl
  · have e : (acqPM (wd 0 2 3 0 0) (wd 0 2 3 0 1) (wd 0 2 3 0 2) who).nx (.wait u) v = .wait u := if_neg h
    show emb (if ((acqPM (wd 0 2 3 0 0) (wd 0 2 3 0 1) (wd 0 2 3 0 2) who).ax ((acqPM (wd 0 2 3 0 0) (wd 0 2 3 0 1) (wd 0 2 3 0 2) who).nx (.wait u) v)).isSome = true then .acqS ((acqPM (wd 0 2 3 0 0) (wd 0 2 3 0 1) (wd 0 2 3 0 2) who).nx (.wait u) v) else .runS (.get .ld)) = _
    rw [e, if_neg h]
    rfl
def hvAL (emb : HvT → σ) : AcqT → σ
  | .over _ => emb (.gs2)
  | a => emb (.acqL a)
theorem hv_acqLIn (hE : PmIn M (hvPM P T who p) emb) : AcqIn M 0 who (hvAL emb) := by
  refine ⟨hE.ax (.acqL .fresh) _ rfl, fun u => hE.ax (.acqL (.wait u)) _ rfl, fun u => hE.ax (.acqL (.has u)) _ rfl, fun v => hE.nx (.acqL .fresh) _ v rfl, ?_, fun u v => hE.nx (.acqL (.has u)) _ v rfl⟩
  intro u v
  refine (hE.nx (.acqL (.wait u)) _ v rfl).trans ?_
  by_cases h : v = u
  · subst h
    have e : (acqPM (wd 0 2 3 0 0) (wd 0 2 3 0 1) (wd 0 2 3 0 2) who).nx (.wait v) v = .has v := if_pos rfl
    show emb (if ((acqPM (wd 0 2 3 0 0) (wd 0 2 3 0 1) (wd 0 2 3 0 2) who).ax ((acqPM (wd 0 2 3 0 0) (wd 0 2 3 0 1) (wd 0 2 3 0 2) who).nx (.wait v) v)).isSome = true then .acqL ((acqPM (wd 0 2 3 0 0) (wd 0 2 3 0 1) (wd 0 2 3 0 2) who).nx (.wait v) v) else .gs2) = _
    rw [e, if_pos rfl]
    rfl
  · have e : (acqPM (wd 0 2 3 0 0) (wd 0 2 3 0 1) (wd 0 2 3 0 2) who).nx (.wait u) v = .wait u := if_neg h
    show emb (if ((acqPM (wd 0 2 3 0 0) (wd 0 2 3 0 1) (wd 0 2 3 0 2) who).ax ((acqPM (wd 0 2 3 0 0) (wd 0 2 3 0 1) (wd 0 2 3 0 2) who).nx (.wait u) v)).isSome = true then .acqL ((acqPM (wd 0 2 3 0 0) (wd 0 2 3 0 1) (wd 0 2 3 0 2) who).nx (.wait u) v) else .gs2) = _
    rw [e, if_neg h]
    rfl
def hvSP (P T p : Int) (emb : HvT → σ) (s : WsT) : σ := if ((wsPM P T p false true).ax s).isSome = true then emb (.runP s) else emb (.ovP s)
theorem hv_wsPIn (hE : PmIn M (hvPM P T who p) emb) : WsIn M P T p false true (hvSP P T p emb) where
  ax := fun q a h => by
    have e : hvSP P T p emb q = emb (.runP q) := if_pos (by rw [h]; rfl)
    rw [e]
    exact hE.ax (.runP q) a h
  nx := fun q a v h => by
    have e : hvSP P T p emb q = emb (.runP q) := if_pos (by rw [h]; rfl)
    rw [e, hE.nx (.runP q) a v h]
    show emb (if ((wsPM P T p false true).ax ((wsPM P T p false true).nx q v)).isSome = true then .runP ((wsPM P T p false true).nx q v) else .ovP ((wsPM P T p false true).nx q v)) = _
    unfold hvSP
    split <;> rfl
def hvSS (P T p : Int) (emb : HvT → σ) (s : WsT) : σ := if ((wsPM P T p true true).ax s).isSome = true then emb (.runS s) else emb (.ovS s)
theorem hv_wsSIn (hE : PmIn M (hvPM P T who p) emb) : WsIn M P T p true true (hvSS P T p emb) where
  ax := fun q a h => by
    have e : hvSS P T p emb q = emb (.runS q) := if_pos (by rw [h]; rfl)
    rw [e]
    exact hE.ax (.runS q) a h
  nx := fun q a v h => by
    have e : hvSS P T p emb q = emb (.runS q) := if_pos (by rw [h]; rfl)
    rw [e, hE.nx (.runS q) a v h]
    show emb (if ((wsPM P T p true true).ax ((wsPM P T p true true).nx q v)).isSome = true then .runS ((wsPM P T p true true).nx q v) else .ovS ((wsPM P T p true true).nx q v)) = _
    unfold hvSS
    split <;> rfl
def hvI (emb : HvT → σ) : IpT → σ
  | .over => emb (.rel .over .fresh)
  | q => emb (.put q)
theorem hv_ipIn (hE : PmIn M (hvPM P T who p) emb) : IpIn M P p (hvI emb) :=
  ⟨hE.ax (.put .m0) _ rfl, fun w => hE.ax (.put (.ms w)) _ rfl, hE.ax (.put .h0) _ rfl, fun h => hE.ax (.put (.ln h)) _ rfl, hE.ax (.put .st) _ rfl, hE.ax (.put .ct) _ rfl, fun v => hE.nx (.put .m0) _ v rfl, fun w v => hE.nx (.put (.ms w)) _ v rfl, fun v => hE.nx (.put .h0) _ v rfl, fun h v => hE.nx (.put (.ln h)) _ v rfl, fun v => hE.nx (.put .st) _ v rfl, fun v => hE.nx (.put .ct) _ v rfl⟩
def hvR (emb : HvT → σ) : RelT → σ
  | .over => emb (.ovR .over)
  | r => emb (.rel .over r)
theorem hv_relIn (hE : PmIn M (hvPM P T who p) emb) : RelIn M 0 (hvR emb) :=
  ⟨hE.ax (.rel .over .fresh) _ rfl, hE.ax (.rel .over .pass) _ rfl, fun v => (hE.nx (.rel .over .fresh) _ v rfl).trans rfl, fun v => (hE.nx (.rel .over .pass) _ v rfl).trans rfl⟩
end
/-- Where it stopped, and what it answered. -/
def HvQ {σ : Type} (Q : σ → Prop) (emb : HvT → σ) (P T who p : Int) (hd : Int) (c : Bool) (q : σ) : Prop := (Q q ∧ hd = p ∧ c = false) ∨ ∃ s a, (hvPM P T who p).ax s = some a ∧ q = emb s ∧ hd = s.holds p ∧ c = s.counts
def HvGot {σ : Type} (M : PM σ) (emb : HvT → σ) (P T who p : Int) (w : World) (x : Nat) (A : Option Addr) (cap m : Nat) (gf : Nat → Int) (s0 : σ) (Q : σ → Prop) (j : Nat) (e : Ending) (w' : World) : Prop :=
  ∃ hd c j' s, e = .returned (.agg #[.int .i64 hd, .bool c]) ∧ RunOn w' x A cap m gf (M.rj s0 gf m j') ∧ Syn M s0 gf m j' (emb s) (HvQ Q emb P T who p hd c) ∧ (hvPM P T who p).ax s = none ∧ (j' ≤ m → hd = s.holds p ∧ c = s.counts) ∧ But [x] w w' ∧ j ≤ j'
theorem hv_field (w : World) (a b c : Value) : (Instr.field 165 (.agg #[a, b, c]) 0).run Tryz.prog w = .ok a w := by
  simp only [Instr.field]
  rfl
set_option maxHeartbeats 4000000 in
theorem syn_hvsP {σ : Type} {M : PM σ} {P T G who p : Int} {emb : HvT → σ} (hE : PmIn M (hvPM P T who p) emb) (hp : 0 ≤ P ∧ P ≤ 64) (hT : 0 ≤ T ∧ T ≤ 65536)
    {w : World} {x : Nat} {A : Option Addr} {cap m : Nat} {gf : Nat → Int} {s0 : σ} {j : Nat} {Q : σ → Prop} (hR : RunOn w x A cap m gf (M.rj s0 gf m j)) (hS : Syn M s0 gf m j (emb (.runP (.get .ld))) Q) (hj : j ≤ m) (hb : ∀ j, j < m → 0 ≤ gf j ∧ gf j ≤ 18446744073709551615) :
    Calls Tryz.prog 87 #[.pointer (some ⟨x, 0, none⟩), .agg #[.int .i64 P, .int .i64 T, .int .i64 G], .int .i64 p, .bool false] w fun e w' => ∃ hd j' s, e = .returned (.agg #[.int .i64 hd, .bool false]) ∧ RunOn w' x A cap m gf (M.rj s0 gf m j') ∧ Syn M s0 gf m j' (emb (.ovP s)) (fun q => ∃ s' a, (wsPM P T p false true).ax s' = some a ∧ q = emb (.runP s') ∧ hd = s'.holds p) ∧ (j' ≤ m → hd = s.holds p) ∧ But [x] w w' ∧ j ≤ j' := by
  have hb2 : Below w.heap.size w ((w.alloc (.cells #[.int .i64 P, .int .i64 T, .int .i64 G] 23)).alloc (.cells #[.int .i64 0, .bool false] 138)) := ((Below.refl _ _).alloc (Nat.le_refl _) _).alloc (by rw [World.size_alloc]; omega) _
  have HX : Hid (Blk ((w.alloc (.cells #[.int .i64 P, .int .i64 T, .int .i64 G] 23)).alloc (.cells #[.int .i64 0, .bool false] 138)) w.heap.size #[.int .i64 P, .int .i64 T, .int .i64 G] 23) := (Blk.new w #[.int .i64 P, .int .i64 T, .int .i64 G] 23).al _
  have HY : Hid (Blk ((w.alloc (.cells #[.int .i64 P, .int .i64 T, .int .i64 G] 23)).alloc (.cells #[.int .i64 0, .bool false] 138)) (w.heap.size + 1) #[.int .i64 0, .bool false] 138) := by
    have := Blk.new (w.alloc (.cells #[.int .i64 P, .int .i64 T, .int .i64 G] 23)) #[.int .i64 0, .bool false] 138
    rw [World.size_alloc] at this
    exact this
  have hxw := hR.blk.lt
  have HGA : Hid (GotFar A [w.heap.size + 1]) := fun b e hm => by
    simp at hm
    rcases hR.got.form with ⟨e0, _⟩ | ⟨gb, e0, hl⟩
    · rw [e0] at e; cases e
    · rw [e0] at e; cases e; omega
  have HB : Hid (But [x] w ((w.alloc (.cells #[.int .i64 P, .int .i64 T, .int .i64 G] 23)).alloc (.cells #[.int .i64 0, .bool false] 138))) := But.of_below hb2
  have hW := syn_wstart (G := G) (hv_wsPIn hE) hp hT (hR.below hb2) (hS.resetv hj (fun _ => False) : Syn M s0 gf m j (hvSP P T p emb (.get .ld)) (fun _ => False)) hb
  have k0 := HX.out.cell 0 (v := .int .i64 P) rfl
  have k1 := HX.out.cell 1 (v := .int .i64 T) rfl
  have k2 := HX.out.cell 2 (v := .int .i64 G) rfl
  clear hb2 hR hS hb hp hT hE
  have hfd := hv_field
  go_enter Tryz.func87, Tryz.ntmps87
  go_wp2_with fail
  generalize ((w.alloc (.cells #[.int .i64 P, .int .i64 T, .int .i64 G] 23)).alloc (.cells #[.int .i64 0, .bool false] 138)) = W at *
  go_at_call 95; refine hW.mono ?_; rintro e y1 ⟨p', t', j', s, rfl, h1, h2, h3, h4, h5, h6⟩
  have HY1 : Hid (Blk y1 (w.heap.size + 1) #[.int .i64 0, .bool false] 138) := HY.out.but h5 (by simp; omega)
  have hU : But [w.heap.size + 1] y1 ((y1.setCell ⟨w.heap.size + 1, 0, none⟩ (.int .i64 p')).setCell ⟨w.heap.size + 1, 1, none⟩ (.bool false)) := ((But.refl _ y1).set (g := w.heap.size + 1) (.inl (by simp)) 0 _).set (g := w.heap.size + 1) (.inl (by simp)) 1 _
  have hZ := (HY1.out.set 0 (.int .i64 p')).set 1 (.bool false)
  have HF : Hid (RunOn ((y1.setCell ⟨w.heap.size + 1, 0, none⟩ (.int .i64 p')).setCell ⟨w.heap.size + 1, 1, none⟩ (.bool false)) x A cap m gf (M.rj s0 gf m j') ∧ But [x] w ((y1.setCell ⟨w.heap.size + 1, 0, none⟩ (.int .i64 p')).setCell ⟨w.heap.size + 1, 1, none⟩ (.bool false)) ∧ ((y1.setCell ⟨w.heap.size + 1, 0, none⟩ (.int .i64 p')).setCell ⟨w.heap.size + 1, 1, none⟩ (.bool false)).heap[w.heap.size + 1]? = some (.cells #[.int .i64 p', .bool false] 138 (0, 0))) := ⟨h1.but hU (by simp; omega) HGA.out, But.lowk (HB.out.trans h5) hU (by omega), hZ.heap⟩
  have HS : Hid (Syn M s0 gf m j' (emb (.ovP s)) (fun q => ∃ s' a, (wsPM P T p false true).ax s' = some a ∧ q = emb (.runP s') ∧ p' = s'.holds p) ∧ (j' ≤ m → p' = s.holds p) ∧ j ≤ j') := ⟨(h2.as (fun _ => if_neg (by rw [h3]; simp))).weak (fun q h => by
    rcases h with ⟨hf, -⟩ | ⟨s', a, e1, e2, e3, -⟩
    · exact hf.elim
    · exact ⟨s', a, e1, e2.trans (if_pos (by rw [e1]; rfl)), e3⟩), fun h => (h4 h).1, h6⟩
  have c0 := HY1.out.cell 0 (v := .int .i64 0) rfl
  have c1 := HY1.out.cell 1 (v := .bool false) rfl
  have f0 := HY1.out.fro 0
  have f1 := HY1.out.fro 1
  clear hW h1 h2 h3 h4 h5 h6 hU hZ k0 k1 k2 HX HY HB HGA
  go_wp2_with fail
  generalize ((y1.setCell ⟨w.heap.size + 1, 0, none⟩ (.int .i64 p')).setCell ⟨w.heap.size + 1, 1, none⟩ (.bool false)) = y2 at *
  refine bodyPost_ret (v := .agg #[.int .i64 p', .bool false]) (results_cell_row rfl _ _ (w.heap.size + 1) 138 #[.int .i64 p', .bool false] _ _ rfl HF.out.2.2 Tryz.underlying138 rfl (by kernel_rfl)) rfl ?_
  exact ⟨p', j', s, rfl, HF.out.1, HS.out.1, HS.out.2.1, HF.out.2.1, HS.out.2.2⟩
set_option maxHeartbeats 4000000 in
theorem syn_hvsS {σ : Type} {M : PM σ} {P T G who p : Int} {emb : HvT → σ} (hE : PmIn M (hvPM P T who p) emb) (hp : 0 ≤ P ∧ P ≤ 64) (hT : 0 ≤ T ∧ T ≤ 65536)
    {w : World} {x : Nat} {A : Option Addr} {cap m : Nat} {gf : Nat → Int} {s0 : σ} {j : Nat} {Q : σ → Prop} (hR : RunOn w x A cap m gf (M.rj s0 gf m j)) (hS : Syn M s0 gf m j (emb (.runS (.get .ld))) Q) (hj : j ≤ m) (hb : ∀ j, j < m → 0 ≤ gf j ∧ gf j ≤ 18446744073709551615) :
    Calls Tryz.prog 87 #[.pointer (some ⟨x, 0, none⟩), .agg #[.int .i64 P, .int .i64 T, .int .i64 G], .int .i64 p, .bool true] w fun e w' => ∃ hd j' s, e = .returned (.agg #[.int .i64 hd, .bool false]) ∧ RunOn w' x A cap m gf (M.rj s0 gf m j') ∧ Syn M s0 gf m j' (emb (.ovS s)) (fun q => ∃ s' a, (wsPM P T p true true).ax s' = some a ∧ q = emb (.runS s') ∧ hd = s'.holds p) ∧ (j' ≤ m → hd = s.holds p) ∧ But [x] w w' ∧ j ≤ j' := by
  have hb2 : Below w.heap.size w ((w.alloc (.cells #[.int .i64 P, .int .i64 T, .int .i64 G] 23)).alloc (.cells #[.int .i64 0, .bool false] 138)) := ((Below.refl _ _).alloc (Nat.le_refl _) _).alloc (by rw [World.size_alloc]; omega) _
  have HX : Hid (Blk ((w.alloc (.cells #[.int .i64 P, .int .i64 T, .int .i64 G] 23)).alloc (.cells #[.int .i64 0, .bool false] 138)) w.heap.size #[.int .i64 P, .int .i64 T, .int .i64 G] 23) := (Blk.new w #[.int .i64 P, .int .i64 T, .int .i64 G] 23).al _
  have HY : Hid (Blk ((w.alloc (.cells #[.int .i64 P, .int .i64 T, .int .i64 G] 23)).alloc (.cells #[.int .i64 0, .bool false] 138)) (w.heap.size + 1) #[.int .i64 0, .bool false] 138) := by
    have := Blk.new (w.alloc (.cells #[.int .i64 P, .int .i64 T, .int .i64 G] 23)) #[.int .i64 0, .bool false] 138
    rw [World.size_alloc] at this
    exact this
  have hxw := hR.blk.lt
  have HGA : Hid (GotFar A [w.heap.size + 1]) := fun b e hm => by
    simp at hm
    rcases hR.got.form with ⟨e0, _⟩ | ⟨gb, e0, hl⟩
    · rw [e0] at e; cases e
    · rw [e0] at e; cases e; omega
  have HB : Hid (But [x] w ((w.alloc (.cells #[.int .i64 P, .int .i64 T, .int .i64 G] 23)).alloc (.cells #[.int .i64 0, .bool false] 138))) := But.of_below hb2
  have hW := syn_wstart (G := G) (hv_wsSIn hE) hp hT (hR.below hb2) (hS.resetv hj (fun _ => False) : Syn M s0 gf m j (hvSS P T p emb (.get .ld)) (fun _ => False)) hb
  have k0 := HX.out.cell 0 (v := .int .i64 P) rfl
  have k1 := HX.out.cell 1 (v := .int .i64 T) rfl
  have k2 := HX.out.cell 2 (v := .int .i64 G) rfl
  clear hb2 hR hS hb hp hT hE
  have hfd := hv_field
  go_enter Tryz.func87, Tryz.ntmps87
  go_wp2_with fail
  generalize ((w.alloc (.cells #[.int .i64 P, .int .i64 T, .int .i64 G] 23)).alloc (.cells #[.int .i64 0, .bool false] 138)) = W at *
  go_at_call 95; refine hW.mono ?_; rintro e y1 ⟨p', t', j', s, rfl, h1, h2, h3, h4, h5, h6⟩
  have HY1 : Hid (Blk y1 (w.heap.size + 1) #[.int .i64 0, .bool false] 138) := HY.out.but h5 (by simp; omega)
  have hU : But [w.heap.size + 1] y1 ((y1.setCell ⟨w.heap.size + 1, 0, none⟩ (.int .i64 p')).setCell ⟨w.heap.size + 1, 1, none⟩ (.bool false)) := ((But.refl _ y1).set (g := w.heap.size + 1) (.inl (by simp)) 0 _).set (g := w.heap.size + 1) (.inl (by simp)) 1 _
  have hZ := (HY1.out.set 0 (.int .i64 p')).set 1 (.bool false)
  have HF : Hid (RunOn ((y1.setCell ⟨w.heap.size + 1, 0, none⟩ (.int .i64 p')).setCell ⟨w.heap.size + 1, 1, none⟩ (.bool false)) x A cap m gf (M.rj s0 gf m j') ∧ But [x] w ((y1.setCell ⟨w.heap.size + 1, 0, none⟩ (.int .i64 p')).setCell ⟨w.heap.size + 1, 1, none⟩ (.bool false)) ∧ ((y1.setCell ⟨w.heap.size + 1, 0, none⟩ (.int .i64 p')).setCell ⟨w.heap.size + 1, 1, none⟩ (.bool false)).heap[w.heap.size + 1]? = some (.cells #[.int .i64 p', .bool false] 138 (0, 0))) := ⟨h1.but hU (by simp; omega) HGA.out, But.lowk (HB.out.trans h5) hU (by omega), hZ.heap⟩
  have HS : Hid (Syn M s0 gf m j' (emb (.ovS s)) (fun q => ∃ s' a, (wsPM P T p true true).ax s' = some a ∧ q = emb (.runS s') ∧ p' = s'.holds p) ∧ (j' ≤ m → p' = s.holds p) ∧ j ≤ j') := ⟨(h2.as (fun _ => if_neg (by rw [h3]; simp))).weak (fun q h => by
    rcases h with ⟨hf, -⟩ | ⟨s', a, e1, e2, e3, -⟩
    · exact hf.elim
    · exact ⟨s', a, e1, e2.trans (if_pos (by rw [e1]; rfl)), e3⟩), fun h => (h4 h).1, h6⟩
  have c0 := HY1.out.cell 0 (v := .int .i64 0) rfl
  have c1 := HY1.out.cell 1 (v := .bool false) rfl
  have f0 := HY1.out.fro 0
  have f1 := HY1.out.fro 1
  clear hW h1 h2 h3 h4 h5 h6 hU hZ k0 k1 k2 HX HY HB HGA
  go_wp2_with fail
  generalize ((y1.setCell ⟨w.heap.size + 1, 0, none⟩ (.int .i64 p')).setCell ⟨w.heap.size + 1, 1, none⟩ (.bool false)) = y2 at *
  refine bodyPost_ret (v := .agg #[.int .i64 p', .bool false]) (results_cell_row rfl _ _ (w.heap.size + 1) 138 #[.int .i64 p', .bool false] _ _ rfl HF.out.2.2 Tryz.underlying138 rfl (by kernel_rfl)) rfl ?_
  exact ⟨p', j', s, rfl, HF.out.1, HS.out.1, HS.out.2.1, HF.out.2.1, HS.out.2.2⟩
set_option maxHeartbeats 8000000 in
theorem syn_hvlocked {σ : Type} {M : PM σ} {P T G who p : Int} {emb : HvT → σ} (hE : PmIn M (hvPM P T who p) emb) (hp : 0 ≤ P ∧ P ≤ 64) (hT : 0 ≤ T ∧ T ≤ 65536) (hw : 0 ≤ who ∧ who ≤ 300)
    {w : World} {x : Nat} {A : Option Addr} {cap m : Nat} {gf : Nat → Int} {s0 : σ} {j : Nat} {Q : σ → Prop} (hR : RunOn w x A cap m gf (M.rj s0 gf m j)) (hS : Syn M s0 gf m j (hvAL emb .fresh) Q) (hb : ∀ j, j < m → 0 ≤ gf j ∧ gf j ≤ 18446744073709551615) (hsw : SwOk M s0 gf m) :
    Calls Tryz.prog 88 #[.pointer (some ⟨x, 0, none⟩), .agg #[.int .i64 P, .int .i64 T, .int .i64 G], .int .i64 who, .int .i64 p] w fun e w' => HvGot M emb P T who p w x A cap m gf s0 Q j e w' := by
  have hxw := hR.blk.lt
  have HH : Hid (HdAt w (((w.alloc (.cells #[.int .i64 P, .int .i64 T, .int .i64 G] 23)).alloc (.cells #[.int .i64 0, .bool false] 138)).alloc (.cells #[.int .i64 p, .bool false] 138)) x A cap m gf M s0 j j (hvAL emb .fresh) Q #[.int .i64 P, .int .i64 T, .int .i64 G] 138 #[.int .i64 0, .bool false] (w.heap.size + 1 + 1) #[.int .i64 p, .bool false]) := by
    have b1 : Below w.heap.size w (w.alloc (.cells #[.int .i64 P, .int .i64 T, .int .i64 G] 23)) := (Below.refl _ _).alloc (Nat.le_refl _) _
    have b2 : Below w.heap.size w ((w.alloc (.cells #[.int .i64 P, .int .i64 T, .int .i64 G] 23)).alloc (.cells #[.int .i64 0, .bool false] 138)) := b1.alloc (by rw [World.size_alloc]; omega) _
    have b3 : Below w.heap.size w (((w.alloc (.cells #[.int .i64 P, .int .i64 T, .int .i64 G] 23)).alloc (.cells #[.int .i64 0, .bool false] 138)).alloc (.cells #[.int .i64 p, .bool false] 138)) := b2.alloc (by rw [World.size_alloc, World.size_alloc]; omega) _
    have c1 := Blk.new w #[.int .i64 P, .int .i64 T, .int .i64 G] 23
    have c2 := Blk.new (w.alloc (.cells #[.int .i64 P, .int .i64 T, .int .i64 G] 23)) #[.int .i64 0, .bool false] 138
    have c3 := Blk.new ((w.alloc (.cells #[.int .i64 P, .int .i64 T, .int .i64 G] 23)).alloc (.cells #[.int .i64 0, .bool false] 138)) #[.int .i64 p, .bool false] 138
    rw [World.size_alloc] at c2
    rw [World.size_alloc, World.size_alloc] at c3
    refine ⟨hR.below b3, hS, But.of_below b3, (c1.al _).al _, c2.al _, c3, by omega, hxw, fun b e hm => ?_, Nat.le_refl _⟩
    simp at hm
    rcases hR.got.form with ⟨e0, _⟩ | ⟨gb, e0, hl⟩
    · rw [e0] at e; cases e
    · rw [e0] at e; cases e; omega
  have HE : Hid (PmIn M (hvPM P T who p) emb) := hE
  have HBD : Hid (∀ j, j < m → 0 ≤ gf j ∧ gf j ≤ 18446744073709551615) := hb
  have HSW : Hid (SwOk M s0 gf m) := hsw
  have HP : Hid ((0 ≤ P ∧ P ≤ 64) ∧ (0 ≤ T ∧ T ≤ 65536) ∧ (0 ≤ who ∧ who ≤ 300)) := ⟨hp, hT, hw⟩
  have HH0 : Hid (HdAt w (((w.alloc (.cells #[.int .i64 P, .int .i64 T, .int .i64 G] 23)).alloc (.cells #[.int .i64 0, .bool false] 138)).alloc (.cells #[.int .i64 p, .bool false] 138)) x A cap m gf M s0 j j (hvAL emb .fresh) (HvQ Q emb P T who p p false) #[.int .i64 P, .int .i64 T, .int .i64 G] 138 #[.int .i64 0, .bool false] (w.heap.size + 1 + 1) #[.int .i64 p, .bool false]) := HH.out.as (HH.out.syn.weak (fun q h => .inl ⟨h, rfl, rfl⟩))
  clear hR hS hb hp hT hw hE hsw HH
  generalize hWW : (((w.alloc (.cells #[.int .i64 P, .int .i64 T, .int .i64 G] 23)).alloc (.cells #[.int .i64 0, .bool false] 138)).alloc (.cells #[.int .i64 p, .bool false] 138)) = W at *
  have HWW : Hid (_ = W) := hWW; clear hWW
  go_enter Tryz.func88, Tryz.ntmps88
  go_wp2_with fail
  try rw [HWW.out]
  clear HWW
  try go_wp2_with fail
  have hAc := syn_acquire (hv_acqLIn HE.out) (by omega) HP.out.2.2 HH0.out.run HH0.out.syn HBD.out
  try go_wp2_with fail
  go_at_call 71; refine hAc.mono ?_; rintro e y1 ⟨⟨uc, rfl⟩, j1, tc, hR1, hS1, hB1, hj1⟩
  have HL1 : Hid (HdAt w y1 x A cap m gf M s0 j j1 (emb .gs2) (HvQ Q emb P T who p p false) #[.int .i64 P, .int .i64 T, .int .i64 G] 138 #[.int .i64 0, .bool false] (w.heap.size + 1 + 1) #[.int .i64 p, .bool false]) := HH0.out.go hR1 (hS1.weak (fun q' h => by
    rcases h with h | ⟨p', hp', h⟩
    · exact h
    · have hb : hvAL emb p' = emb (.acqL p') := by cases p' <;> first | rfl | exact absurd rfl (hp' _)
      obtain ⟨a, ha⟩ : ∃ a, (hvPM P T who p).ax (.acqL p') = some a := by cases p' <;> first | exact ⟨_, rfl⟩ | exact absurd rfl (hp' _)
      exact .inr ⟨.acqL p', a, ha, h.trans hb, rfl, rfl⟩)) hB1 hj1
  clear hAc hR1 hS1 hB1 hj1 HH0
  have hA := syn_load HL1.out.run HL1.out.syn HBD.out 8 (fun _ => HE.out.ax .gs2 _ rfl)
  try go_wp2_with fail
  go_at_call 44; refine hA.mono ?_; rintro e y2 ⟨v, rfl, hK⟩
  have HZ : Hid (m ≤ j1 → v = 0) := hK.zero
  have HL2 : Hid (HdAt w y2 x A cap m gf M s0 j (j1 + 1) (emb (if v = 0 then .ne else .runP (.get .ld))) (HvQ Q emb P T who p p false) #[.int .i64 P, .int .i64 T, .int .i64 G] 138 #[.int .i64 0, .bool false] (w.heap.size + 1 + 1) #[.int .i64 p, .bool false]) := by
    have h := HL1.out.step hK
    rw [HE.out.nx .gs2 _ _ rfl] at h
    exact h.as (h.syn.weak (fun q h => h.elim (fun h => .inr ⟨.gs2, _, rfl, h, rfl, rfl⟩) (fun h => h)))
  clear hA hK HL1
  have sc := HL2.out.stop
  by_cases hst : m < j1 + 1
  · rw [decide_eq_true hst] at sc
    have HST : Hid (m < j1 + 1) := hst
    clear hst
    have r0 := HL2.out.res.cell 0 (v := .int .i64 0) rfl
    have r1 := HL2.out.res.cell 1 (v := .bool false) rfl
    have f0 := HL2.out.res.fro 0
    have f1 := HL2.out.res.fro 1
    have o0 := HL2.out.out.cell 0 (v := .int .i64 p) rfl
    have o1 := HL2.out.out.cell 1 (v := .bool false) rfl
    have HN : Hid _ := HL2.out.ret2 (.int .i64 p) (.bool false) rfl
    go_wp2_with fail
    generalize ((y2.setCell ⟨w.heap.size + 1, 0, none⟩ (.int .i64 p)).setCell ⟨w.heap.size + 1, 1, none⟩ (.bool false)) = yz at *
    refine bodyPost_ret (v := .agg #[.int .i64 p, .bool false]) (results_cell_row rfl _ _ (w.heap.size + 1) 138 #[.int .i64 p, .bool false] _ _ rfl HN.out.2.2 Tryz.underlying138 rfl (by kernel_rfl)) rfl ?_
    exact ⟨p, false, j1 + 1, .ovR .over, rfl, HN.out.1, ⟨fun h => absurd h (by have := HST.out; omega), HL2.out.syn.past⟩, rfl, (fun h => absurd h (by have := HST.out; omega)), HN.out.2.1, HL2.out.le⟩
  · rw [decide_eq_false hst] at sc
    have HST : Hid (j1 + 1 ≤ m) := (by omega : j1 + 1 ≤ m)
    clear hst
    by_cases hv : v = 0
    · subst hv
      have HL3 : Hid (HdAt w y2 x A cap m gf M s0 j (j1 + 1) (emb .ne) (HvQ Q emb P T who p p false) #[.int .i64 P, .int .i64 T, .int .i64 G] 138 #[.int .i64 0, .bool false] (w.heap.size + 1 + 1) #[.int .i64 p, .bool false]) := HL2.out
      clear HL2 HZ HST
      have hA := syn_load HL3.out.run HL3.out.syn HBD.out 14 (fun _ => HE.out.ax .ne _ rfl)
      try go_wp2_with fail
      go_at_call 44; refine hA.mono ?_; rintro e y3 ⟨v2, rfl, hK⟩
      have HZ2 : Hid (m ≤ j1 + 1 → v2 = 0) := hK.zero
      have HL4 : Hid (HdAt w y3 x A cap m gf M s0 j (j1 + 1 + 1) (emb (if v2 = 0 then .put .m0 else .ad)) (HvQ Q emb P T who p p false) #[.int .i64 P, .int .i64 T, .int .i64 G] 138 #[.int .i64 0, .bool false] (w.heap.size + 1 + 1) #[.int .i64 p, .bool false]) := by
        have h := HL3.out.step hK
        rw [HE.out.nx .ne _ _ rfl] at h
        exact h.as (h.syn.weak (fun q h => h.elim (fun h => .inr ⟨.ne, _, rfl, h, rfl, rfl⟩) (fun h => h)))
      clear hA hK HL3
      have sc := HL4.out.stop
      by_cases hst : m < j1 + 1 + 1
      · rw [decide_eq_true hst] at sc
        have HST : Hid (m < j1 + 1 + 1) := hst
        clear hst
        have r0 := HL4.out.res.cell 0 (v := .int .i64 0) rfl
        have r1 := HL4.out.res.cell 1 (v := .bool false) rfl
        have f0 := HL4.out.res.fro 0
        have f1 := HL4.out.res.fro 1
        have o0 := HL4.out.out.cell 0 (v := .int .i64 p) rfl
        have o1 := HL4.out.out.cell 1 (v := .bool false) rfl
        have HN : Hid _ := HL4.out.ret2 (.int .i64 p) (.bool false) rfl
        go_wp2_with fail
        generalize ((y3.setCell ⟨w.heap.size + 1, 0, none⟩ (.int .i64 p)).setCell ⟨w.heap.size + 1, 1, none⟩ (.bool false)) = yz at *
        refine bodyPost_ret (v := .agg #[.int .i64 p, .bool false]) (results_cell_row rfl _ _ (w.heap.size + 1) 138 #[.int .i64 p, .bool false] _ _ rfl HN.out.2.2 Tryz.underlying138 rfl (by kernel_rfl)) rfl ?_
        exact ⟨p, false, j1 + 1 + 1, .ovR .over, rfl, HN.out.1, ⟨fun h => absurd h (by have := HST.out; omega), HL4.out.syn.past⟩, rfl, (fun h => absurd h (by have := HST.out; omega)), HN.out.2.1, HL4.out.le⟩
      · rw [decide_eq_false hst] at sc
        have HST : Hid (j1 + 1 + 1 ≤ m) := (by omega : j1 + 1 + 1 ≤ m)
        clear hst
        by_cases hv2 : v2 = 0
        · subst hv2
          have HL5 : Hid (HdAt w y3 x A cap m gf M s0 j (j1 + 1 + 1) (hvI emb .m0) (HvQ Q emb P T who p p false) #[.int .i64 P, .int .i64 T, .int .i64 G] 138 #[.int .i64 0, .bool false] (w.heap.size + 1 + 1) #[.int .i64 p, .bool false]) := HL4.out
          have hIp := syn_iput (T := T) (G := G) (hv_ipIn HE.out) HP.out.1 HL5.out.run HL5.out.syn HBD.out
          have k0 := HL5.out.cfg.cell 0 (v := .int .i64 P) rfl
          have k1 := HL5.out.cfg.cell 1 (v := .int .i64 T) rfl
          have k2 := HL5.out.cfg.cell 2 (v := .int .i64 G) rfl
          clear HL4 HZ2 HST
          go_wp2_with fail
          go_at_call 96; refine hIp.mono ?_; rintro e y4 ⟨r, j4, rfl, hR4, hS4, hr4, hB4, hj4⟩
          have HY : Hid (HdAt w y4 x A cap m gf M s0 j j4 (hvR emb .fresh) (HvQ Q emb P T who p r false) #[.int .i64 P, .int .i64 T, .int .i64 G] 138 #[.int .i64 0, .bool false] (w.heap.size + 1 + 1) #[.int .i64 p, .bool false]) := HL5.out.go hR4 (hS4.weak (fun q h => by
            rcases h with ⟨h, e1⟩ | ⟨p', h1, h2, h3⟩
            · rw [e1]; exact h
            · have hb : hvI emb p' = emb (.put p') := by cases p' <;> first | rfl | exact absurd rfl h1
              obtain ⟨a, ha⟩ : ∃ a, (hvPM P T who p).ax (.put p') = some a := by cases p' <;> first | exact ⟨_, rfl⟩ | exact absurd rfl h1
              exact .inr ⟨.put p', a, ha, h2.trans hb, h3, rfl⟩)) hB4 hj4
          have HRV : Hid (j4 ≤ m → r = -1) := hr4
          have HL6 : Hid (HdAt w (y4.setCell ⟨w.heap.size + 1 + 1, 0, none⟩ (.int .i64 r)) x A cap m gf M s0 j j4 (hvR emb .fresh) (HvQ Q emb P T who p r false) #[.int .i64 P, .int .i64 T, .int .i64 G] 138 #[.int .i64 0, .bool false] (w.heap.size + 1 + 1) #[.int .i64 r, .bool false]) := HY.out.set 0 (.int .i64 r)
          have q0 := HY.out.out.cell 0 (v := .int .i64 p) rfl
          have g0 := HY.out.out.fro 0
          clear hIp hR4 hS4 hr4 hB4 hj4 HL5 HY k0 k1 k2
          go_wp2_with fail
          clear q0 g0
          generalize (y4.setCell ⟨w.heap.size + 1 + 1, 0, none⟩ (.int .i64 r)) = y5 at *
          have hRl := syn_release (hv_relIn HE.out) (by omega) HL6.out.run HL6.out.syn HBD.out
          try go_wp2_with fail
          go_at_call 72; refine hRl.mono ?_; rintro e y6 ⟨⟨uk, rfl⟩, j6, hR5, hS5, hB5, hj5⟩
          have HL7 : Hid (HdAt w y6 x A cap m gf M s0 j j6 (emb (.ovR .over)) (HvQ Q emb P T who p r false) #[.int .i64 P, .int .i64 T, .int .i64 G] 138 #[.int .i64 0, .bool false] (w.heap.size + 1 + 1) #[.int .i64 r, .bool false]) := HL6.out.go hR5 ⟨hS5.at', fun h => ⟨by
            by_cases h4 : m < j4
            · exact (HL6.out.syn.past h4).1
            · have hh := HRV.out (by omega)
              rcases (hS5.past h).1 with h1 | h1 | h1
              · exact h1
              · exact .inr ⟨.rel .over .fresh, _, rfl, h1, hh, rfl⟩
              · exact .inr ⟨.rel .over .pass, _, rfl, h1, hh, rfl⟩, (hS5.past h).2⟩⟩ hB5 hj5
          have HJ : Hid (j4 ≤ j6) := hj5
          clear hRl hR5 hS5 hB5 hj5 HL6
          have r0 := HL7.out.res.cell 0 (v := .int .i64 0) rfl
          have r1 := HL7.out.res.cell 1 (v := .bool false) rfl
          have f0 := HL7.out.res.fro 0
          have f1 := HL7.out.res.fro 1
          have o0 := HL7.out.out.cell 0 (v := .int .i64 r) rfl
          have o1 := HL7.out.out.cell 1 (v := .bool false) rfl
          have HN : Hid _ := HL7.out.ret2 (.int .i64 r) (.bool false) rfl
          go_wp2_with fail
          generalize ((y6.setCell ⟨w.heap.size + 1, 0, none⟩ (.int .i64 r)).setCell ⟨w.heap.size + 1, 1, none⟩ (.bool false)) = yz at *
          refine bodyPost_ret (v := .agg #[.int .i64 r, .bool false]) (results_cell_row rfl _ _ (w.heap.size + 1) 138 #[.int .i64 r, .bool false] _ _ rfl HN.out.2.2 Tryz.underlying138 rfl (by kernel_rfl)) rfl ?_
          exact ⟨r, false, j6, .ovR .over, rfl, HN.out.1, HL7.out.syn, rfl, (fun h => ⟨HRV.out (Nat.le_trans HJ.out h), rfl⟩), HN.out.2.1, HL7.out.le⟩
        · have hd : (v2 != 0) = true := by simpa using hv2
          have HL5 : Hid (HdAt w y3 x A cap m gf M s0 j (j1 + 1 + 1) (emb .ad) (HvQ Q emb P T who p p false) #[.int .i64 P, .int .i64 T, .int .i64 G] 138 #[.int .i64 0, .bool false] (w.heap.size + 1 + 1) #[.int .i64 p, .bool false]) := HL4.out.as ⟨fun h => (HL4.out.syn.at' h).trans (by rw [if_neg hv2]), fun h => absurd h (by have := HST.out; omega)⟩
          have hA := syn_add HL5.out.run HL5.out.syn HBD.out 13 1 (fun _ => HE.out.ax .ad _ rfl)
          clear HL4 HZ2 hv2 HST
          go_wp2_with fail
          go_at_call 74; refine hA.mono ?_; rintro e y4 ⟨v3, rfl, hK⟩
          have HL6 : Hid (HdAt w y4 x A cap m gf M s0 j (j1 + 1 + 1 + 1) (emb .nd2) (HvQ Q emb P T who p p false) #[.int .i64 P, .int .i64 T, .int .i64 G] 138 #[.int .i64 0, .bool false] (w.heap.size + 1 + 1) #[.int .i64 p, .bool false]) := by
            have h := HL5.out.step hK
            rw [HE.out.nx .ad _ _ rfl] at h
            exact h.as (h.syn.weak (fun q h => h.elim (fun h => .inr ⟨.ad, _, rfl, h, rfl, rfl⟩) (fun h => h)))
          clear hA hK HL5
          have q1 := HL6.out.out.cell 1 (v := .bool false) rfl
          have g1 := HL6.out.out.fro 1
          have hne : w.heap.size + 1 + 1 ≠ x := by have := HL6.out.x; omega
          have sc := HL6.out.stop
          by_cases hst : m < j1 + 1 + 1 + 1
          · rw [decide_eq_true hst] at sc
            have HST : Hid (m < j1 + 1 + 1 + 1) := hst
            clear hst
            have HL7 : Hid (HdAt w (y4.setCell ⟨w.heap.size + 1 + 1, 1, none⟩ (.bool false)) x A cap m gf M s0 j (j1 + 1 + 1 + 1) (emb .nd2) (HvQ Q emb P T who p p false) #[.int .i64 P, .int .i64 T, .int .i64 G] 138 #[.int .i64 0, .bool false] (w.heap.size + 1 + 1) #[.int .i64 p, .bool false]) := HL6.out.set 1 (.bool false)
            clear HL6 hne
            go_wp2_with fail
            clear q1 g1 sc
            generalize (y4.setCell ⟨w.heap.size + 1 + 1, 1, none⟩ (.bool false)) = y5 at *
            have hA := syn_store HL7.out.run HL7.out.syn HBD.out 14 0 (fun _ => HE.out.ax .nd2 _ rfl)
            try go_wp2_with fail
            go_at_call 69; refine hA.mono ?_; rintro e y6 ⟨⟨u6, rfl⟩, v6, hK⟩
            have HST6 : Hid (m < j1 + 1 + 1 + 1 + 1) := (by have := HST.out; omega : m < j1 + 1 + 1 + 1 + 1)
            have HL8 : Hid (HdAt w y6 x A cap m gf M s0 j (j1 + 1 + 1 + 1 + 1) (emb (.ovR .over)) (HvQ Q emb P T who p p false) #[.int .i64 P, .int .i64 T, .int .i64 G] 138 #[.int .i64 0, .bool false] (w.heap.size + 1 + 1) #[.int .i64 p, .bool false]) := (HL7.out.go hK.run ⟨fun h => absurd h (by have := HST6.out; omega), fun h => ⟨(HL7.out.syn.past HST.out).1, (hK.syn.past h).2⟩⟩ hK.but (Nat.le_succ _))
            clear hA hK HL7
            have sc := HL8.out.stop
            rw [decide_eq_true HST6.out] at sc
            have r0 := HL8.out.res.cell 0 (v := .int .i64 0) rfl
            have r1 := HL8.out.res.cell 1 (v := .bool false) rfl
            have f0 := HL8.out.res.fro 0
            have f1 := HL8.out.res.fro 1
            have o0 := HL8.out.out.cell 0 (v := .int .i64 p) rfl
            have o1 := HL8.out.out.cell 1 (v := .bool false) rfl
            have HN : Hid _ := HL8.out.ret2 (.int .i64 p) (.bool false) rfl
            go_wp2_with fail
            generalize ((y6.setCell ⟨w.heap.size + 1, 0, none⟩ (.int .i64 p)).setCell ⟨w.heap.size + 1, 1, none⟩ (.bool false)) = yz at *
            refine bodyPost_ret (v := .agg #[.int .i64 p, .bool false]) (results_cell_row rfl _ _ (w.heap.size + 1) 138 #[.int .i64 p, .bool false] _ _ rfl HN.out.2.2 Tryz.underlying138 rfl (by kernel_rfl)) rfl ?_
            exact ⟨p, false, j1 + 1 + 1 + 1 + 1, .ovR .over, rfl, HN.out.1, ⟨fun h => absurd h (by have := HST6.out; omega), HL8.out.syn.past⟩, rfl, (fun h => absurd h (by have := HST6.out; omega)), HN.out.2.1, HL8.out.le⟩
          · rw [decide_eq_false hst] at sc
            have HST : Hid (j1 + 1 + 1 + 1 ≤ m) := (by omega : j1 + 1 + 1 + 1 ≤ m)
            clear hst
            have HL7 : Hid (HdAt w (y4.setCell ⟨w.heap.size + 1 + 1, 1, none⟩ (.bool true)) x A cap m gf M s0 j (j1 + 1 + 1 + 1) (emb .nd2) (fun _ => False) #[.int .i64 P, .int .i64 T, .int .i64 G] 138 #[.int .i64 0, .bool false] (w.heap.size + 1 + 1) #[.int .i64 p, .bool true]) := (HL6.out.set 1 (.bool true)).as (HL6.out.syn.resetv HST.out _)
            clear HL6 hne HST
            go_wp2_with fail
            clear q1 g1 sc
            generalize (y4.setCell ⟨w.heap.size + 1 + 1, 1, none⟩ (.bool true)) = y5 at *
            have hA := syn_store HL7.out.run HL7.out.syn HBD.out 14 0 (fun _ => HE.out.ax .nd2 _ rfl)
            try go_wp2_with fail
            go_at_call 69; refine hA.mono ?_; rintro e y6 ⟨⟨u6, rfl⟩, v6, hK⟩
            have HL8 : Hid (HdAt w y6 x A cap m gf M s0 j (j1 + 1 + 1 + 1 + 1) (emb (.runS (.get .ld))) (HvQ Q emb P T who p p true) #[.int .i64 P, .int .i64 T, .int .i64 G] 138 #[.int .i64 0, .bool false] (w.heap.size + 1 + 1) #[.int .i64 p, .bool true]) := by
              have h := HL7.out.step hK
              rw [HE.out.nx .nd2 _ _ rfl] at h
              exact h.as (h.syn.weak (fun q h => h.elim (fun h => .inr ⟨.nd2, _, rfl, h, rfl, rfl⟩) (fun h => h.elim)))
            clear hA hK HL7
            have sc := HL8.out.stop
            by_cases hst : m < j1 + 1 + 1 + 1 + 1
            · rw [decide_eq_true hst] at sc
              have HST : Hid (m < j1 + 1 + 1 + 1 + 1) := hst
              clear hst
              have r0 := HL8.out.res.cell 0 (v := .int .i64 0) rfl
              have r1 := HL8.out.res.cell 1 (v := .bool false) rfl
              have f0 := HL8.out.res.fro 0
              have f1 := HL8.out.res.fro 1
              have o0 := HL8.out.out.cell 0 (v := .int .i64 p) rfl
              have o1 := HL8.out.out.cell 1 (v := .bool true) rfl
              have HN : Hid _ := HL8.out.ret2 (.int .i64 p) (.bool true) rfl
              go_wp2_with fail
              generalize ((y6.setCell ⟨w.heap.size + 1, 0, none⟩ (.int .i64 p)).setCell ⟨w.heap.size + 1, 1, none⟩ (.bool true)) = yz at *
              refine bodyPost_ret (v := .agg #[.int .i64 p, .bool true]) (results_cell_row rfl _ _ (w.heap.size + 1) 138 #[.int .i64 p, .bool true] _ _ rfl HN.out.2.2 Tryz.underlying138 rfl (by kernel_rfl)) rfl ?_
              exact ⟨p, true, j1 + 1 + 1 + 1 + 1, .ovR .over, rfl, HN.out.1, ⟨fun h => absurd h (by have := HST.out; omega), HL8.out.syn.past⟩, rfl, (fun h => absurd h (by have := HST.out; omega)), HN.out.2.1, HL8.out.le⟩
            · rw [decide_eq_false hst] at sc
              have HST : Hid (j1 + 1 + 1 + 1 + 1 ≤ m) := (by omega : j1 + 1 + 1 + 1 + 1 ≤ m)
              clear hst
              have HN8 : Hid (HdAt w y6 x A cap m gf M s0 j (j1 + 1 + 1 + 1 + 1) (emb (.runS (.get .ld))) (fun _ => False) #[.int .i64 P, .int .i64 T, .int .i64 G] 138 #[.int .i64 0, .bool false] (w.heap.size + 1 + 1) #[.int .i64 p, .bool true]) := HL8.out.as (HL8.out.syn.resetv HST.out _)
              clear HL8
              have hSt := syn_hvsS (G := G) HE.out HP.out.1 HP.out.2.1 HN8.out.run HN8.out.syn HST.out HBD.out
              have k0 := HN8.out.cfg.cell 0 (v := .int .i64 P) rfl
              have k1 := HN8.out.cfg.cell 1 (v := .int .i64 T) rfl
              have k2 := HN8.out.cfg.cell 2 (v := .int .i64 G) rfl
              try go_wp2_with fail
              go_at_call 87; refine hSt.mono ?_; rintro e yw ⟨hd, jw, sw, rfl, u1, u2, u3, u4, u5⟩
              have HX : Hid (HdAt w yw x A cap m gf M s0 j jw (emb (.ovS sw)) (HvQ Q emb P T who p hd false) #[.int .i64 P, .int .i64 T, .int .i64 G] 138 #[.int .i64 0, .bool false] (w.heap.size + 1 + 1) #[.int .i64 p, .bool true]) := HN8.out.go u1 (u2.weak (fun q h => by
                  obtain ⟨s', a, e1, e2, e3⟩ := h
                  exact .inr ⟨.runS s', a, e1, e2, e3, rfl⟩)) u4 u5
              have HU : Hid (jw ≤ m → hd = sw.holds p) := u3
              clear hSt u1 u2 u3 u4 u5 k0 k1 k2 HN8
              have r0 := HX.out.res.cell 0 (v := .int .i64 0) rfl
              have r1 := HX.out.res.cell 1 (v := .bool false) rfl
              have f0 := HX.out.res.fro 0
              have f1 := HX.out.res.fro 1
              have HN : Hid _ := HX.out.ret2 (.int .i64 hd) (.bool false) rfl
              go_wp2_with fail
              generalize ((yw.setCell ⟨w.heap.size + 1, 0, none⟩ (.int .i64 hd)).setCell ⟨w.heap.size + 1, 1, none⟩ (.bool false)) = yz at *
              refine bodyPost_ret (v := .agg #[.int .i64 hd, .bool false]) (results_cell_row rfl _ _ (w.heap.size + 1) 138 #[.int .i64 hd, .bool false] _ _ rfl HN.out.2.2 Tryz.underlying138 rfl (by kernel_rfl)) rfl ?_
              exact ⟨hd, false, jw, .ovS sw, rfl, HN.out.1, HX.out.syn, rfl, fun h => ⟨HU.out h, rfl⟩, HN.out.2.1, HX.out.le⟩
    · have hd : (v != 0) = true := by simpa using hv
      have HM5 : Hid (HdAt w y2 x A cap m gf M s0 j (j1 + 1) (emb (.runP (.get .ld))) (fun _ => False) #[.int .i64 P, .int .i64 T, .int .i64 G] 138 #[.int .i64 0, .bool false] (w.heap.size + 1 + 1) #[.int .i64 p, .bool false]) := HL2.out.as ⟨fun h => (HL2.out.syn.at' h).trans (by rw [if_neg hv]), fun h => absurd h (by have := HST.out; omega)⟩
      clear HL2 HZ hv
      have hSt := syn_hvsP (G := G) HE.out HP.out.1 HP.out.2.1 HM5.out.run HM5.out.syn HST.out HBD.out
      have k0 := HM5.out.cfg.cell 0 (v := .int .i64 P) rfl
      have k1 := HM5.out.cfg.cell 1 (v := .int .i64 T) rfl
      have k2 := HM5.out.cfg.cell 2 (v := .int .i64 G) rfl
      try go_wp2_with fail
      go_at_call 87; refine hSt.mono ?_; rintro e yw ⟨hd, jw, sw, rfl, u1, u2, u3, u4, u5⟩
      have HX : Hid (HdAt w yw x A cap m gf M s0 j jw (emb (.ovP sw)) (HvQ Q emb P T who p hd false) #[.int .i64 P, .int .i64 T, .int .i64 G] 138 #[.int .i64 0, .bool false] (w.heap.size + 1 + 1) #[.int .i64 p, .bool false]) := HM5.out.go u1 (u2.weak (fun q h => by
          obtain ⟨s', a, e1, e2, e3⟩ := h
          exact .inr ⟨.runP s', a, e1, e2, e3, rfl⟩)) u4 u5
      have HU : Hid (jw ≤ m → hd = sw.holds p) := u3
      clear hSt u1 u2 u3 u4 u5 k0 k1 k2 HM5
      have r0 := HX.out.res.cell 0 (v := .int .i64 0) rfl
      have r1 := HX.out.res.cell 1 (v := .bool false) rfl
      have f0 := HX.out.res.fro 0
      have f1 := HX.out.res.fro 1
      have HN : Hid _ := HX.out.ret2 (.int .i64 hd) (.bool false) rfl
      go_wp2_with fail
      generalize ((yw.setCell ⟨w.heap.size + 1, 0, none⟩ (.int .i64 hd)).setCell ⟨w.heap.size + 1, 1, none⟩ (.bool false)) = yz at *
      refine bodyPost_ret (v := .agg #[.int .i64 hd, .bool false]) (results_cell_row rfl _ _ (w.heap.size + 1) 138 #[.int .i64 hd, .bool false] _ _ rfl HN.out.2.2 Tryz.underlying138 rfl (by kernel_rfl)) rfl ?_
      exact ⟨hd, false, jw, .ovP sw, rfl, HN.out.1, HX.out.syn, rfl, fun h => ⟨HU.out h, rfl⟩, HN.out.2.1, HX.out.le⟩
set_option maxHeartbeats 8000000 in
theorem syn_over {σ : Type} {M : PM σ} {P T G who p : Int} {emb : HvT → σ} (hE : PmIn M (hvPM P T who p) emb) (hp : 0 ≤ P ∧ P ≤ 64) (hT : 0 ≤ T ∧ T ≤ 65536) (hw : 0 ≤ who ∧ who ≤ 300)
    {w : World} {x : Nat} {A : Option Addr} {cap m : Nat} {gf : Nat → Int} {s0 : σ} {j : Nat} {Q : σ → Prop} (hR : RunOn w x A cap m gf (M.rj s0 gf m j)) (hS : Syn M s0 gf m j (hvL P p emb .hd) Q) (hb : ∀ j, j < m → 0 ≤ gf j ∧ gf j ≤ 18446744073709551615) (hsw : SwOk M s0 gf m) :
    Calls Tryz.prog 75 #[.pointer (some ⟨x, 0, none⟩), .agg #[.int .i64 P, .int .i64 T, .int .i64 G], .int .i64 who, .int .i64 p] w fun e w' => HvGot M emb P T who p w x A cap m gf s0 Q j e w' := by
  have hxw := hR.blk.lt
  have HH : Hid (HdAt w (((w.alloc (.cells #[.int .i64 P, .int .i64 T, .int .i64 G] 23)).alloc (.cells #[.int .i64 0, .bool false] 138)).alloc (.cells #[.int .i64 p, .bool false] 138)) x A cap m gf M s0 j j (hvL P p emb .hd) Q #[.int .i64 P, .int .i64 T, .int .i64 G] 138 #[.int .i64 0, .bool false] (w.heap.size + 1 + 1) #[.int .i64 p, .bool false]) := by
    have b1 : Below w.heap.size w (w.alloc (.cells #[.int .i64 P, .int .i64 T, .int .i64 G] 23)) := (Below.refl _ _).alloc (Nat.le_refl _) _
    have b2 : Below w.heap.size w ((w.alloc (.cells #[.int .i64 P, .int .i64 T, .int .i64 G] 23)).alloc (.cells #[.int .i64 0, .bool false] 138)) := b1.alloc (by rw [World.size_alloc]; omega) _
    have b3 : Below w.heap.size w (((w.alloc (.cells #[.int .i64 P, .int .i64 T, .int .i64 G] 23)).alloc (.cells #[.int .i64 0, .bool false] 138)).alloc (.cells #[.int .i64 p, .bool false] 138)) := b2.alloc (by rw [World.size_alloc, World.size_alloc]; omega) _
    have c1 := Blk.new w #[.int .i64 P, .int .i64 T, .int .i64 G] 23
    have c2 := Blk.new (w.alloc (.cells #[.int .i64 P, .int .i64 T, .int .i64 G] 23)) #[.int .i64 0, .bool false] 138
    have c3 := Blk.new ((w.alloc (.cells #[.int .i64 P, .int .i64 T, .int .i64 G] 23)).alloc (.cells #[.int .i64 0, .bool false] 138)) #[.int .i64 p, .bool false] 138
    rw [World.size_alloc] at c2
    rw [World.size_alloc, World.size_alloc] at c3
    refine ⟨hR.below b3, hS, But.of_below b3, (c1.al _).al _, c2.al _, c3, by omega, hxw, fun b e hm => ?_, Nat.le_refl _⟩
    simp at hm
    rcases hR.got.form with ⟨e0, _⟩ | ⟨gb, e0, hl⟩
    · rw [e0] at e; cases e
    · rw [e0] at e; cases e; omega
  have HE : Hid (PmIn M (hvPM P T who p) emb) := hE
  have HBD : Hid (∀ j, j < m → 0 ≤ gf j ∧ gf j ≤ 18446744073709551615) := hb
  have HSW : Hid (SwOk M s0 gf m) := hsw
  have HP : Hid ((0 ≤ P ∧ P ≤ 64) ∧ (0 ≤ T ∧ T ≤ 65536) ∧ (0 ≤ who ∧ who ≤ 300)) := ⟨hp, hT, hw⟩
  have HH0 : Hid (HdAt w (((w.alloc (.cells #[.int .i64 P, .int .i64 T, .int .i64 G] 23)).alloc (.cells #[.int .i64 0, .bool false] 138)).alloc (.cells #[.int .i64 p, .bool false] 138)) x A cap m gf M s0 j j (hvL P p emb .hd) (HvQ Q emb P T who p p false) #[.int .i64 P, .int .i64 T, .int .i64 G] 138 #[.int .i64 0, .bool false] (w.heap.size + 1 + 1) #[.int .i64 p, .bool false]) := HH.out.as (HH.out.syn.weak (fun q h => .inl ⟨h, rfl, rfl⟩))
  clear hR hS hb hp hT hw hE hsw HH
  generalize hWW : (((w.alloc (.cells #[.int .i64 P, .int .i64 T, .int .i64 G] 23)).alloc (.cells #[.int .i64 0, .bool false] 138)).alloc (.cells #[.int .i64 p, .bool false] 138)) = W at *
  have HWW : Hid (_ = W) := hWW; clear hWW
  go_enter Tryz.func75, Tryz.ntmps75
  go_wp2_with fail
  try rw [HWW.out]
  clear HWW
  try go_wp2_with fail
  have hLk := syn_look (T := T) (G := G) (hv_loIn HE.out) HP.out.1 HH0.out.run HH0.out.syn HBD.out
  have k0 := HH0.out.cfg.cell 0 (v := .int .i64 P) rfl
  have k1 := HH0.out.cfg.cell 1 (v := .int .i64 T) rfl
  have k2 := HH0.out.cfg.cell 2 (v := .int .i64 G) rfl
  try go_wp2_with fail
  go_at_call 70; refine hLk.mono ?_; rintro e y1 ⟨em, j1, l1, rfl, hR1, hS1, hl1, he1, hx1, hB1, hj1⟩
  have HV1 : Hid (HdAt w y1 x A cap m gf M s0 j j1 (hvL P p emb l1) (HvQ Q emb P T who p p false) #[.int .i64 P, .int .i64 T, .int .i64 G] 138 #[.int .i64 0, .bool false] (w.heap.size + 1 + 1) #[.int .i64 p, .bool false]) := HH0.out.go hR1 (hS1.weak (fun q h => by
    rcases h with h | ⟨t, a, h1, h2⟩
    · exact h
    · exact .inr ⟨.lk t, a, h1, h2.trans (if_pos (by rw [h1]; rfl)), rfl, rfl⟩)) hB1 hj1
  have HLE : Hid ((loPM P p).ax l1 = none ∧ (j1 ≤ m → em = l1.e)) := ⟨hl1, he1⟩
  clear hLk hR1 hS1 hl1 he1 hx1 hB1 hj1 HH0 k0 k1 k2
  have sc := HV1.out.stop
  by_cases hst : m < j1
  · rw [decide_eq_true hst] at sc
    have HST : Hid (m < j1) := hst
    clear hst
    have r0 := HV1.out.res.cell 0 (v := .int .i64 0) rfl
    have r1 := HV1.out.res.cell 1 (v := .bool false) rfl
    have f0 := HV1.out.res.fro 0
    have f1 := HV1.out.res.fro 1
    have o0 := HV1.out.out.cell 0 (v := .int .i64 p) rfl
    have o1 := HV1.out.out.cell 1 (v := .bool false) rfl
    have HN : Hid _ := HV1.out.ret2 (.int .i64 p) (.bool false) rfl
    go_wp2_with fail
    generalize ((y1.setCell ⟨w.heap.size + 1, 0, none⟩ (.int .i64 p)).setCell ⟨w.heap.size + 1, 1, none⟩ (.bool false)) = yz at *
    refine bodyPost_ret (v := .agg #[.int .i64 p, .bool false]) (results_cell_row rfl _ _ (w.heap.size + 1) 138 #[.int .i64 p, .bool false] _ _ rfl HN.out.2.2 Tryz.underlying138 rfl (by kernel_rfl)) rfl ?_
    exact ⟨p, false, j1, .ovR .over, rfl, HN.out.1, ⟨fun h => absurd h (by have := HST.out; omega), HV1.out.syn.past⟩, rfl, (fun h => absurd h (by have := HST.out; omega)), HN.out.2.1, HV1.out.le⟩
  · rw [decide_eq_false hst] at sc
    have HST : Hid (j1 ≤ m) := (by omega : j1 ≤ m)
    clear hst
    cases em
    · have HV2 : Hid (HdAt w y1 x A cap m gf M s0 j j1 (hvAP emb .fresh) (HvQ Q emb P T who p p false) #[.int .i64 P, .int .i64 T, .int .i64 G] 138 #[.int .i64 0, .bool false] (w.heap.size + 1 + 1) #[.int .i64 p, .bool false]) := HV1.out.as ⟨fun h => (HV1.out.syn.at' h).trans ((if_neg (by rw [HLE.out.1]; simp)).trans (if_neg (by rw [← HLE.out.2 h]; simp))), HV1.out.syn.past⟩
      have sc := HV2.out.stop
      rw [decide_eq_false (by have := HST.out; omega)] at sc
      clear HV1 HLE HST
      go_wp2_with fail
      clear sc
      have hAc := syn_acquire (hv_acqPIn HE.out) (by omega) HP.out.2.2 HV2.out.run HV2.out.syn HBD.out
      try go_wp2_with fail
      go_at_call 71; refine hAc.mono ?_; rintro e ya ⟨⟨uc, rfl⟩, ja, tc, hR1, hS1, hB1, hj1⟩
      have HV5b : Hid (HdAt w ya x A cap m gf M s0 j ja (emb (.runP (.get .ld))) (HvQ Q emb P T who p p false) #[.int .i64 P, .int .i64 T, .int .i64 G] 138 #[.int .i64 0, .bool false] (w.heap.size + 1 + 1) #[.int .i64 p, .bool false]) := HV2.out.go hR1 (hS1.weak (fun q' h => by
        rcases h with h | ⟨p', hp', h⟩
        · exact h
        · have hb : hvAP emb p' = emb (.acqP p') := by cases p' <;> first | rfl | exact absurd rfl (hp' _)
          obtain ⟨a, ha⟩ : ∃ a, (hvPM P T who p).ax (.acqP p') = some a := by cases p' <;> first | exact ⟨_, rfl⟩ | exact absurd rfl (hp' _)
          exact .inr ⟨.acqP p', a, ha, h.trans hb, rfl, rfl⟩)) hB1 hj1
      clear hAc hR1 hS1 hB1 hj1 HV2
      have sc := HV5b.out.stop
      by_cases hst : m < ja
      · rw [decide_eq_true hst] at sc
        have HST : Hid (m < ja) := hst
        clear hst
        have r0 := HV5b.out.res.cell 0 (v := .int .i64 0) rfl
        have r1 := HV5b.out.res.cell 1 (v := .bool false) rfl
        have f0 := HV5b.out.res.fro 0
        have f1 := HV5b.out.res.fro 1
        have o0 := HV5b.out.out.cell 0 (v := .int .i64 p) rfl
        have o1 := HV5b.out.out.cell 1 (v := .bool false) rfl
        have HN : Hid _ := HV5b.out.ret2 (.int .i64 p) (.bool false) rfl
        go_wp2_with fail
        generalize ((ya.setCell ⟨w.heap.size + 1, 0, none⟩ (.int .i64 p)).setCell ⟨w.heap.size + 1, 1, none⟩ (.bool false)) = yz at *
        refine bodyPost_ret (v := .agg #[.int .i64 p, .bool false]) (results_cell_row rfl _ _ (w.heap.size + 1) 138 #[.int .i64 p, .bool false] _ _ rfl HN.out.2.2 Tryz.underlying138 rfl (by kernel_rfl)) rfl ?_
        exact ⟨p, false, ja, .ovR .over, rfl, HN.out.1, ⟨fun h => absurd h (by have := HST.out; omega), HV5b.out.syn.past⟩, rfl, (fun h => absurd h (by have := HST.out; omega)), HN.out.2.1, HV5b.out.le⟩
      · rw [decide_eq_false hst] at sc
        have HST : Hid (ja ≤ m) := (by omega : ja ≤ m)
        clear hst
        have HV5 : Hid (HdAt w ya x A cap m gf M s0 j ja (emb (.runP (.get .ld))) (fun _ => False) #[.int .i64 P, .int .i64 T, .int .i64 G] 138 #[.int .i64 0, .bool false] (w.heap.size + 1 + 1) #[.int .i64 p, .bool false]) := HV5b.out.as (HV5b.out.syn.resetv HST.out _)
        clear HV5b
        have hSt := syn_hvsP (G := G) HE.out HP.out.1 HP.out.2.1 HV5.out.run HV5.out.syn HST.out HBD.out
        have k0 := HV5.out.cfg.cell 0 (v := .int .i64 P) rfl
        have k1 := HV5.out.cfg.cell 1 (v := .int .i64 T) rfl
        have k2 := HV5.out.cfg.cell 2 (v := .int .i64 G) rfl
        try go_wp2_with fail
        go_at_call 87; refine hSt.mono ?_; rintro e yw ⟨hd, jw, sw, rfl, u1, u2, u3, u4, u5⟩
        have HX : Hid (HdAt w yw x A cap m gf M s0 j jw (emb (.ovP sw)) (HvQ Q emb P T who p hd false) #[.int .i64 P, .int .i64 T, .int .i64 G] 138 #[.int .i64 0, .bool false] (w.heap.size + 1 + 1) #[.int .i64 p, .bool false]) := HV5.out.go u1 (u2.weak (fun q h => by
            obtain ⟨s', a, e1, e2, e3⟩ := h
            exact .inr ⟨.runP s', a, e1, e2, e3, rfl⟩)) u4 u5
        have HU : Hid (jw ≤ m → hd = sw.holds p) := u3
        clear hSt u1 u2 u3 u4 u5 k0 k1 k2 HV5
        have r0 := HX.out.res.cell 0 (v := .int .i64 0) rfl
        have r1 := HX.out.res.cell 1 (v := .bool false) rfl
        have f0 := HX.out.res.fro 0
        have f1 := HX.out.res.fro 1
        have HN : Hid _ := HX.out.ret2 (.int .i64 hd) (.bool false) rfl
        go_wp2_with fail
        generalize ((yw.setCell ⟨w.heap.size + 1, 0, none⟩ (.int .i64 hd)).setCell ⟨w.heap.size + 1, 1, none⟩ (.bool false)) = yz at *
        refine bodyPost_ret (v := .agg #[.int .i64 hd, .bool false]) (results_cell_row rfl _ _ (w.heap.size + 1) 138 #[.int .i64 hd, .bool false] _ _ rfl HN.out.2.2 Tryz.underlying138 rfl (by kernel_rfl)) rfl ?_
        exact ⟨hd, false, jw, .ovP sw, rfl, HN.out.1, HX.out.syn, rfl, fun h => ⟨HU.out h, rfl⟩, HN.out.2.1, HX.out.le⟩
    · have HV2 : Hid (HdAt w y1 x A cap m gf M s0 j j1 (emb .gs) (HvQ Q emb P T who p p false) #[.int .i64 P, .int .i64 T, .int .i64 G] 138 #[.int .i64 0, .bool false] (w.heap.size + 1 + 1) #[.int .i64 p, .bool false]) := HV1.out.as ⟨fun h => (HV1.out.syn.at' h).trans ((if_neg (by rw [HLE.out.1]; simp)).trans (if_pos (HLE.out.2 h).symm)), HV1.out.syn.past⟩
      clear HV1 HLE HST
      have hA := syn_load HV2.out.run HV2.out.syn HBD.out 8 (fun _ => HE.out.ax .gs _ rfl)
      try go_wp2_with fail
      go_at_call 44; refine hA.mono ?_; rintro e y2 ⟨v, rfl, hK⟩
      have HZ : Hid (m ≤ j1 → v = 0) := hK.zero
      have HV3 : Hid (HdAt w y2 x A cap m gf M s0 j (j1 + 1) (emb (if v = 0 then .sp else .acqP .fresh)) (HvQ Q emb P T who p p false) #[.int .i64 P, .int .i64 T, .int .i64 G] 138 #[.int .i64 0, .bool false] (w.heap.size + 1 + 1) #[.int .i64 p, .bool false]) := by
        have h := HV2.out.step hK
        rw [HE.out.nx .gs _ _ rfl] at h
        exact h.as (h.syn.weak (fun q h => h.elim (fun h => .inr ⟨.gs, _, rfl, h, rfl, rfl⟩) (fun h => h)))
      clear hA hK HV2
      have sc := HV3.out.stop
      by_cases hst : m < j1 + 1
      · rw [decide_eq_true hst] at sc
        have HST : Hid (m < j1 + 1) := hst
        clear hst
        by_cases hv : v = 0
        · subst hv
          clear HZ
          have r0 := HV3.out.res.cell 0 (v := .int .i64 0) rfl
          have r1 := HV3.out.res.cell 1 (v := .bool false) rfl
          have f0 := HV3.out.res.fro 0
          have f1 := HV3.out.res.fro 1
          have o0 := HV3.out.out.cell 0 (v := .int .i64 p) rfl
          have o1 := HV3.out.out.cell 1 (v := .bool false) rfl
          have HN : Hid _ := HV3.out.ret2 (.int .i64 p) (.bool false) rfl
          go_wp2_with fail
          generalize ((y2.setCell ⟨w.heap.size + 1, 0, none⟩ (.int .i64 p)).setCell ⟨w.heap.size + 1, 1, none⟩ (.bool false)) = yz at *
          refine bodyPost_ret (v := .agg #[.int .i64 p, .bool false]) (results_cell_row rfl _ _ (w.heap.size + 1) 138 #[.int .i64 p, .bool false] _ _ rfl HN.out.2.2 Tryz.underlying138 rfl (by kernel_rfl)) rfl ?_
          exact ⟨p, false, j1 + 1, .ovR .over, rfl, HN.out.1, ⟨fun h => absurd h (by have := HST.out; omega), HV3.out.syn.past⟩, rfl, (fun h => absurd h (by have := HST.out; omega)), HN.out.2.1, HV3.out.le⟩
        · exact absurd (HZ.out (by have := HST.out; omega)) hv
      · rw [decide_eq_false hst] at sc
        have HST : Hid (j1 + 1 ≤ m) := (by omega : j1 + 1 ≤ m)
        clear hst
        by_cases hv : v = 0
        · subst hv
          have HV4 : Hid (HdAt w y2 x A cap m gf M s0 j (j1 + 1) (emb .sp) (HvQ Q emb P T who p p false) #[.int .i64 P, .int .i64 T, .int .i64 G] 138 #[.int .i64 0, .bool false] (w.heap.size + 1 + 1) #[.int .i64 p, .bool false]) := HV3.out
          clear HV3 HZ HST
          have hA := syn_load HV4.out.run HV4.out.syn HBD.out 13 (fun _ => HE.out.ax .sp _ rfl)
          try go_wp2_with fail
          go_at_call 44; refine hA.mono ?_; rintro e y3 ⟨v2, rfl, hK⟩
          have HZ2 : Hid (m ≤ j1 + 1 → v2 = 0) := hK.zero
          have HV5 : Hid (HdAt w y3 x A cap m gf M s0 j (j1 + 1 + 1) (emb (if v2 = 0 then .ip else .acqL .fresh)) (HvQ Q emb P T who p p false) #[.int .i64 P, .int .i64 T, .int .i64 G] 138 #[.int .i64 0, .bool false] (w.heap.size + 1 + 1) #[.int .i64 p, .bool false]) := by
            have h := HV4.out.step hK
            rw [HE.out.nx .sp _ _ rfl] at h
            exact h.as (h.syn.weak (fun q h => h.elim (fun h => .inr ⟨.sp, _, rfl, h, rfl, rfl⟩) (fun h => h)))
          clear hA hK HV4
          by_cases hv2 : v2 = 0
          · subst hv2
            have HV6 : Hid (HdAt w y3 x A cap m gf M s0 j (j1 + 1 + 1) (emb .ip) (HvQ Q emb P T who p p false) #[.int .i64 P, .int .i64 T, .int .i64 G] 138 #[.int .i64 0, .bool false] (w.heap.size + 1 + 1) #[.int .i64 p, .bool false]) := HV5.out
            clear HV5 HZ2
            have hA := syn_load HV6.out.run HV6.out.syn HBD.out 10 (fun _ => HE.out.ax .ip _ rfl)
            try go_wp2_with fail
            go_at_call 44; refine hA.mono ?_; rintro e y4 ⟨v3, rfl, hK⟩
            have HZ3 : Hid (m ≤ j1 + 1 + 1 → v3 = 0) := hK.zero
            have HV7 : Hid (HdAt w y4 x A cap m gf M s0 j (j1 + 1 + 1 + 1) (emb (if v3 = 0 then .sw else .acqL .fresh)) (HvQ Q emb P T who p p false) #[.int .i64 P, .int .i64 T, .int .i64 G] 138 #[.int .i64 0, .bool false] (w.heap.size + 1 + 1) #[.int .i64 p, .bool false]) := by
              have h := HV6.out.step hK
              rw [HE.out.nx .ip _ _ rfl] at h
              exact h.as (h.syn.weak (fun q h => h.elim (fun h => .inr ⟨.ip, _, rfl, h, rfl, rfl⟩) (fun h => h)))
            clear hA hK HV6
            by_cases hv3 : v3 = 0
            · subst hv3
              have HV8 : Hid (HdAt w y4 x A cap m gf M s0 j (j1 + 1 + 1 + 1) (emb .sw) (HvQ Q emb P T who p p false) #[.int .i64 P, .int .i64 T, .int .i64 G] 138 #[.int .i64 0, .bool false] (w.heap.size + 1 + 1) #[.int .i64 p, .bool false]) := HV7.out
              clear HV7 HZ3
              have hA := syn_swap HV8.out.run HV8.out.syn HBD.out 13 0 1 (fun _ => HE.out.ax .sw _ rfl)
              try go_wp2_with fail
              go_at_call 73; refine hA.mono ?_; rintro e y5 ⟨v4, rfl, hK⟩
              have HZ4 : Hid (m ≤ j1 + 1 + 1 + 1 → v4 = 0) := hK.zero
              have hv4 : v4 = 0 ∨ v4 = 1 := by
                by_cases hjm : j1 + 1 + 1 + 1 ≤ m
                · exact HSW.out.one HV8.out.syn (by exact HE.out.ax .sw _ rfl) rfl hK.val hK.zero hK.bd.1
                · exact .inl (hK.zero (by omega))
              have HV9 : Hid (HdAt w y5 x A cap m gf M s0 j (j1 + 1 + 1 + 1 + 1) (emb (if v4 = 0 then .acqL .fresh else .nd)) (HvQ Q emb P T who p p false) #[.int .i64 P, .int .i64 T, .int .i64 G] 138 #[.int .i64 0, .bool false] (w.heap.size + 1 + 1) #[.int .i64 p, .bool false]) := by
                have h := HV8.out.step hK
                rw [HE.out.nx .sw _ _ rfl] at h
                exact h.as (h.syn.weak (fun q h => h.elim (fun h => .inr ⟨.sw, _, rfl, h, rfl, rfl⟩) (fun h => h)))
              clear hA hK HV8
              rcases hv4 with rfl | rfl
              · have hz : decide ((0 : Int) = 1) = false := by decide
                have HVA : Hid (HdAt w y5 x A cap m gf M s0 j (j1 + 1 + 1 + 1 + 1) (hvAL emb .fresh) (HvQ Q emb P T who p p false) #[.int .i64 P, .int .i64 T, .int .i64 G] 138 #[.int .i64 0, .bool false] (w.heap.size + 1 + 1) #[.int .i64 p, .bool false]) := HV9.out
                clear HV9 HZ4
                have sc := HVA.out.stop
                by_cases hst : m < j1 + 1 + 1 + 1 + 1
                · rw [decide_eq_true hst] at sc
                  have HST : Hid (m < j1 + 1 + 1 + 1 + 1) := hst
                  clear hst
                  have r0 := HVA.out.res.cell 0 (v := .int .i64 0) rfl
                  have r1 := HVA.out.res.cell 1 (v := .bool false) rfl
                  have f0 := HVA.out.res.fro 0
                  have f1 := HVA.out.res.fro 1
                  have o0 := HVA.out.out.cell 0 (v := .int .i64 p) rfl
                  have o1 := HVA.out.out.cell 1 (v := .bool false) rfl
                  have HN : Hid _ := HVA.out.ret2 (.int .i64 p) (.bool false) rfl
                  go_wp2_with fail
                  generalize ((y5.setCell ⟨w.heap.size + 1, 0, none⟩ (.int .i64 p)).setCell ⟨w.heap.size + 1, 1, none⟩ (.bool false)) = yz at *
                  refine bodyPost_ret (v := .agg #[.int .i64 p, .bool false]) (results_cell_row rfl _ _ (w.heap.size + 1) 138 #[.int .i64 p, .bool false] _ _ rfl HN.out.2.2 Tryz.underlying138 rfl (by kernel_rfl)) rfl ?_
                  exact ⟨p, false, j1 + 1 + 1 + 1 + 1, .ovR .over, rfl, HN.out.1, ⟨fun h => absurd h (by have := HST.out; omega), HVA.out.syn.past⟩, rfl, (fun h => absurd h (by have := HST.out; omega)), HN.out.2.1, HVA.out.le⟩
                · rw [decide_eq_false hst] at sc
                  have HST : Hid (j1 + 1 + 1 + 1 + 1 ≤ m) := (by omega : j1 + 1 + 1 + 1 + 1 ≤ m)
                  clear hst
                  have hLo := syn_hvlocked (G := G) HE.out HP.out.1 HP.out.2.1 HP.out.2.2 HVA.out.run HVA.out.syn HBD.out HSW.out
                  have k0 := HVA.out.cfg.cell 0 (v := .int .i64 P) rfl
                  have k1 := HVA.out.cfg.cell 1 (v := .int .i64 T) rfl
                  have k2 := HVA.out.cfg.cell 2 (v := .int .i64 G) rfl
                  try go_wp2_with fail
                  try clear sc
                  go_at_call 88; refine hLo.mono ?_; rintro e yw ⟨hd, hc, jw, sx, rfl, u1, u2, u3, u4, u5, u6⟩
                  have HX : Hid (HdAt w yw x A cap m gf M s0 j jw (emb sx) (HvQ Q emb P T who p hd hc) #[.int .i64 P, .int .i64 T, .int .i64 G] 138 #[.int .i64 0, .bool false] (w.heap.size + 1 + 1) #[.int .i64 p, .bool false]) := HVA.out.go u1 (u2.weak (fun q h => by
                      rcases h with ⟨h, e1, e2⟩ | h
                      · rw [e1, e2]; exact h
                      · exact .inr h)) u5 u6
                  have HU : Hid ((hvPM P T who p).ax sx = none ∧ (jw ≤ m → hd = sx.holds p ∧ hc = sx.counts)) := ⟨u3, u4⟩
                  clear hLo u1 u2 u3 u4 u5 u6 k0 k1 k2 HVA
                  have r0 := HX.out.res.cell 0 (v := .int .i64 0) rfl
                  have r1 := HX.out.res.cell 1 (v := .bool false) rfl
                  have f0 := HX.out.res.fro 0
                  have f1 := HX.out.res.fro 1
                  have HN : Hid _ := HX.out.ret2 (.int .i64 hd) (.bool hc) rfl
                  go_wp2_with fail
                  generalize ((yw.setCell ⟨w.heap.size + 1, 0, none⟩ (.int .i64 hd)).setCell ⟨w.heap.size + 1, 1, none⟩ (.bool hc)) = yz at *
                  refine bodyPost_ret (v := .agg #[.int .i64 hd, .bool hc]) (results_cell_row rfl _ _ (w.heap.size + 1) 138 #[.int .i64 hd, .bool hc] _ _ rfl HN.out.2.2 Tryz.underlying138 rfl (by kernel_rfl)) rfl ?_
                  exact ⟨hd, hc, jw, sx, rfl, HN.out.1, HX.out.syn, HU.out.1, HU.out.2, HN.out.2.1, HX.out.le⟩
              · have hz : decide ((1 : Int) = 1) = true := by decide
                have HST : Hid (j1 + 1 + 1 + 1 + 1 ≤ m) := by
                  rcases Nat.lt_or_ge (j1 + 1 + 1 + 1) m with h | h
                  · exact h
                  · exact absurd (HZ4.out h) (by decide)
                have q1 := HV9.out.out.cell 1 (v := .bool false) rfl
                have g1 := HV9.out.out.fro 1
                have HVA : Hid (HdAt w (y5.setCell ⟨w.heap.size + 1 + 1, 1, none⟩ (.bool true)) x A cap m gf M s0 j (j1 + 1 + 1 + 1 + 1) (emb .nd) (fun _ => False) #[.int .i64 P, .int .i64 T, .int .i64 G] 138 #[.int .i64 0, .bool false] (w.heap.size + 1 + 1) #[.int .i64 p, .bool true]) := (HV9.out.set 1 (.bool true)).as ⟨fun h => HV9.out.syn.at' h, fun h => absurd h (by have := HST.out; omega)⟩
                clear HV9 HZ4 HST
                go_wp2_with fail
                clear q1 g1
                generalize (y5.setCell ⟨w.heap.size + 1 + 1, 1, none⟩ (.bool true)) = y6 at *
                have hA := syn_store HVA.out.run HVA.out.syn HBD.out 14 0 (fun _ => HE.out.ax .nd _ rfl)
                try go_wp2_with fail
                go_at_call 69; refine hA.mono ?_; rintro e y7 ⟨⟨u7, rfl⟩, v7, hK⟩
                have HVB : Hid (HdAt w y7 x A cap m gf M s0 j (j1 + 1 + 1 + 1 + 1 + 1) (hvAS emb .fresh) (HvQ Q emb P T who p p true) #[.int .i64 P, .int .i64 T, .int .i64 G] 138 #[.int .i64 0, .bool false] (w.heap.size + 1 + 1) #[.int .i64 p, .bool true]) := by
                  have h := HVA.out.step hK
                  rw [HE.out.nx .nd _ _ rfl] at h
                  exact h.as (h.syn.weak (fun q h => h.elim (fun h => .inr ⟨.nd, _, rfl, h, rfl, rfl⟩) (fun h => h.elim)))
                clear hA hK HVA
                have hAc := syn_acquire (hv_acqSIn HE.out) (by omega) HP.out.2.2 HVB.out.run HVB.out.syn HBD.out
                try go_wp2_with fail
                go_at_call 71; refine hAc.mono ?_; rintro e y8 ⟨⟨uc, rfl⟩, j8, tc, hR1, hS1, hB1, hj1⟩
                have HVC : Hid (HdAt w y8 x A cap m gf M s0 j j8 (emb (.runS (.get .ld))) (HvQ Q emb P T who p p true) #[.int .i64 P, .int .i64 T, .int .i64 G] 138 #[.int .i64 0, .bool false] (w.heap.size + 1 + 1) #[.int .i64 p, .bool true]) := HVB.out.go hR1 (hS1.weak (fun q' h => by
                  rcases h with h | ⟨p', hp', h⟩
                  · exact h
                  · have hb : hvAS emb p' = emb (.acqS p') := by cases p' <;> first | rfl | exact absurd rfl (hp' _)
                    obtain ⟨a, ha⟩ : ∃ a, (hvPM P T who p).ax (.acqS p') = some a := by cases p' <;> first | exact ⟨_, rfl⟩ | exact absurd rfl (hp' _)
                    exact .inr ⟨.acqS p', a, ha, h.trans hb, rfl, rfl⟩)) hB1 hj1
                clear hAc hR1 hS1 hB1 hj1 HVB
                have sc := HVC.out.stop
                by_cases hst : m < j8
                · rw [decide_eq_true hst] at sc
                  have HST : Hid (m < j8) := hst
                  clear hst
                  have r0 := HVC.out.res.cell 0 (v := .int .i64 0) rfl
                  have r1 := HVC.out.res.cell 1 (v := .bool false) rfl
                  have f0 := HVC.out.res.fro 0
                  have f1 := HVC.out.res.fro 1
                  have o0 := HVC.out.out.cell 0 (v := .int .i64 p) rfl
                  have o1 := HVC.out.out.cell 1 (v := .bool true) rfl
                  have HN : Hid _ := HVC.out.ret2 (.int .i64 p) (.bool true) rfl
                  go_wp2_with fail
                  generalize ((y8.setCell ⟨w.heap.size + 1, 0, none⟩ (.int .i64 p)).setCell ⟨w.heap.size + 1, 1, none⟩ (.bool true)) = yz at *
                  refine bodyPost_ret (v := .agg #[.int .i64 p, .bool true]) (results_cell_row rfl _ _ (w.heap.size + 1) 138 #[.int .i64 p, .bool true] _ _ rfl HN.out.2.2 Tryz.underlying138 rfl (by kernel_rfl)) rfl ?_
                  exact ⟨p, true, j8, .ovR .over, rfl, HN.out.1, ⟨fun h => absurd h (by have := HST.out; omega), HVC.out.syn.past⟩, rfl, (fun h => absurd h (by have := HST.out; omega)), HN.out.2.1, HVC.out.le⟩
                · rw [decide_eq_false hst] at sc
                  have HST : Hid (j8 ≤ m) := (by omega : j8 ≤ m)
                  clear hst
                  have HS9 : Hid (HdAt w y8 x A cap m gf M s0 j j8 (emb (.runS (.get .ld))) (fun _ => False) #[.int .i64 P, .int .i64 T, .int .i64 G] 138 #[.int .i64 0, .bool false] (w.heap.size + 1 + 1) #[.int .i64 p, .bool true]) := HVC.out.as (HVC.out.syn.resetv HST.out _)
                  clear HVC
                  have hSt := syn_hvsS (G := G) HE.out HP.out.1 HP.out.2.1 HS9.out.run HS9.out.syn HST.out HBD.out
                  have k0 := HS9.out.cfg.cell 0 (v := .int .i64 P) rfl
                  have k1 := HS9.out.cfg.cell 1 (v := .int .i64 T) rfl
                  have k2 := HS9.out.cfg.cell 2 (v := .int .i64 G) rfl
                  try go_wp2_with fail
                  go_at_call 87; refine hSt.mono ?_; rintro e yw ⟨hd, jw, sw, rfl, u1, u2, u3, u4, u5⟩
                  have HX : Hid (HdAt w yw x A cap m gf M s0 j jw (emb (.ovS sw)) (HvQ Q emb P T who p hd false) #[.int .i64 P, .int .i64 T, .int .i64 G] 138 #[.int .i64 0, .bool false] (w.heap.size + 1 + 1) #[.int .i64 p, .bool true]) := HS9.out.go u1 (u2.weak (fun q h => by
                      obtain ⟨s', a, e1, e2, e3⟩ := h
                      exact .inr ⟨.runS s', a, e1, e2, e3, rfl⟩)) u4 u5
                  have HU : Hid (jw ≤ m → hd = sw.holds p) := u3
                  clear hSt u1 u2 u3 u4 u5 k0 k1 k2 HS9
                  have r0 := HX.out.res.cell 0 (v := .int .i64 0) rfl
                  have r1 := HX.out.res.cell 1 (v := .bool false) rfl
                  have f0 := HX.out.res.fro 0
                  have f1 := HX.out.res.fro 1
                  have HN : Hid _ := HX.out.ret2 (.int .i64 hd) (.bool false) rfl
                  go_wp2_with fail
                  generalize ((yw.setCell ⟨w.heap.size + 1, 0, none⟩ (.int .i64 hd)).setCell ⟨w.heap.size + 1, 1, none⟩ (.bool false)) = yz at *
                  refine bodyPost_ret (v := .agg #[.int .i64 hd, .bool false]) (results_cell_row rfl _ _ (w.heap.size + 1) 138 #[.int .i64 hd, .bool false] _ _ rfl HN.out.2.2 Tryz.underlying138 rfl (by kernel_rfl)) rfl ?_
                  exact ⟨hd, false, jw, .ovS sw, rfl, HN.out.1, HX.out.syn, rfl, fun h => ⟨HU.out h, rfl⟩, HN.out.2.1, HX.out.le⟩
            · have hd3 : (v3 == 0) = false := by simpa using hv3
              have HV8 : Hid (HdAt w y4 x A cap m gf M s0 j (j1 + 1 + 1 + 1) (hvAL emb .fresh) (HvQ Q emb P T who p p false) #[.int .i64 P, .int .i64 T, .int .i64 G] 138 #[.int .i64 0, .bool false] (w.heap.size + 1 + 1) #[.int .i64 p, .bool false]) := HV7.out.as ⟨fun h => (HV7.out.syn.at' h).trans (by rw [if_neg hv3]; rfl), HV7.out.syn.past⟩
              have HST : Hid (j1 + 1 + 1 + 1 ≤ m) := by
                rcases Nat.lt_or_ge (j1 + 1 + 1) m with h | h
                · exact h
                · exact absurd (HZ3.out h) hv3
              have sc := HV8.out.stop
              rw [decide_eq_false (by have := HST.out; omega)] at sc
              clear HV7 HZ3 hv3
              have hLo := syn_hvlocked (G := G) HE.out HP.out.1 HP.out.2.1 HP.out.2.2 HV8.out.run HV8.out.syn HBD.out HSW.out
              have k0 := HV8.out.cfg.cell 0 (v := .int .i64 P) rfl
              have k1 := HV8.out.cfg.cell 1 (v := .int .i64 T) rfl
              have k2 := HV8.out.cfg.cell 2 (v := .int .i64 G) rfl
              try go_wp2_with fail
              try clear sc
              go_at_call 88; refine hLo.mono ?_; rintro e yw ⟨hd, hc, jw, sx, rfl, u1, u2, u3, u4, u5, u6⟩
              have HX : Hid (HdAt w yw x A cap m gf M s0 j jw (emb sx) (HvQ Q emb P T who p hd hc) #[.int .i64 P, .int .i64 T, .int .i64 G] 138 #[.int .i64 0, .bool false] (w.heap.size + 1 + 1) #[.int .i64 p, .bool false]) := HV8.out.go u1 (u2.weak (fun q h => by
                  rcases h with ⟨h, e1, e2⟩ | h
                  · rw [e1, e2]; exact h
                  · exact .inr h)) u5 u6
              have HU : Hid ((hvPM P T who p).ax sx = none ∧ (jw ≤ m → hd = sx.holds p ∧ hc = sx.counts)) := ⟨u3, u4⟩
              clear hLo u1 u2 u3 u4 u5 u6 k0 k1 k2 HV8
              have r0 := HX.out.res.cell 0 (v := .int .i64 0) rfl
              have r1 := HX.out.res.cell 1 (v := .bool false) rfl
              have f0 := HX.out.res.fro 0
              have f1 := HX.out.res.fro 1
              have HN : Hid _ := HX.out.ret2 (.int .i64 hd) (.bool hc) rfl
              go_wp2_with fail
              generalize ((yw.setCell ⟨w.heap.size + 1, 0, none⟩ (.int .i64 hd)).setCell ⟨w.heap.size + 1, 1, none⟩ (.bool hc)) = yz at *
              refine bodyPost_ret (v := .agg #[.int .i64 hd, .bool hc]) (results_cell_row rfl _ _ (w.heap.size + 1) 138 #[.int .i64 hd, .bool hc] _ _ rfl HN.out.2.2 Tryz.underlying138 rfl (by kernel_rfl)) rfl ?_
              exact ⟨hd, hc, jw, sx, rfl, HN.out.1, HX.out.syn, HU.out.1, HU.out.2, HN.out.2.1, HX.out.le⟩
          · have hd2 : (v2 == 0) = false := by simpa using hv2
            have HV6 : Hid (HdAt w y3 x A cap m gf M s0 j (j1 + 1 + 1) (hvAL emb .fresh) (HvQ Q emb P T who p p false) #[.int .i64 P, .int .i64 T, .int .i64 G] 138 #[.int .i64 0, .bool false] (w.heap.size + 1 + 1) #[.int .i64 p, .bool false]) := HV5.out.as ⟨fun h => (HV5.out.syn.at' h).trans (by rw [if_neg hv2]; rfl), HV5.out.syn.past⟩
            have HST : Hid (j1 + 1 + 1 ≤ m) := by
              rcases Nat.lt_or_ge (j1 + 1) m with h | h
              · exact h
              · exact absurd (HZ2.out h) hv2
            have sc := HV6.out.stop
            rw [decide_eq_false (by have := HST.out; omega)] at sc
            clear HV5 HZ2 hv2
            have hLo := syn_hvlocked (G := G) HE.out HP.out.1 HP.out.2.1 HP.out.2.2 HV6.out.run HV6.out.syn HBD.out HSW.out
            have k0 := HV6.out.cfg.cell 0 (v := .int .i64 P) rfl
            have k1 := HV6.out.cfg.cell 1 (v := .int .i64 T) rfl
            have k2 := HV6.out.cfg.cell 2 (v := .int .i64 G) rfl
            try go_wp2_with fail
            try clear sc
            go_at_call 88; refine hLo.mono ?_; rintro e yw ⟨hd, hc, jw, sx, rfl, u1, u2, u3, u4, u5, u6⟩
            have HX : Hid (HdAt w yw x A cap m gf M s0 j jw (emb sx) (HvQ Q emb P T who p hd hc) #[.int .i64 P, .int .i64 T, .int .i64 G] 138 #[.int .i64 0, .bool false] (w.heap.size + 1 + 1) #[.int .i64 p, .bool false]) := HV6.out.go u1 (u2.weak (fun q h => by
                rcases h with ⟨h, e1, e2⟩ | h
                · rw [e1, e2]; exact h
                · exact .inr h)) u5 u6
            have HU : Hid ((hvPM P T who p).ax sx = none ∧ (jw ≤ m → hd = sx.holds p ∧ hc = sx.counts)) := ⟨u3, u4⟩
            clear hLo u1 u2 u3 u4 u5 u6 k0 k1 k2 HV6
            have r0 := HX.out.res.cell 0 (v := .int .i64 0) rfl
            have r1 := HX.out.res.cell 1 (v := .bool false) rfl
            have f0 := HX.out.res.fro 0
            have f1 := HX.out.res.fro 1
            have HN : Hid _ := HX.out.ret2 (.int .i64 hd) (.bool hc) rfl
            go_wp2_with fail
            generalize ((yw.setCell ⟨w.heap.size + 1, 0, none⟩ (.int .i64 hd)).setCell ⟨w.heap.size + 1, 1, none⟩ (.bool hc)) = yz at *
            refine bodyPost_ret (v := .agg #[.int .i64 hd, .bool hc]) (results_cell_row rfl _ _ (w.heap.size + 1) 138 #[.int .i64 hd, .bool hc] _ _ rfl HN.out.2.2 Tryz.underlying138 rfl (by kernel_rfl)) rfl ?_
            exact ⟨hd, hc, jw, sx, rfl, HN.out.1, HX.out.syn, HU.out.1, HU.out.2, HN.out.2.1, HX.out.le⟩
        · have hd : (v != 0) = true := by simpa using hv
          have HV4 : Hid (HdAt w y2 x A cap m gf M s0 j (j1 + 1) (hvAP emb .fresh) (HvQ Q emb P T who p p false) #[.int .i64 P, .int .i64 T, .int .i64 G] 138 #[.int .i64 0, .bool false] (w.heap.size + 1 + 1) #[.int .i64 p, .bool false]) := HV3.out.as ⟨fun h => (HV3.out.syn.at' h).trans (by rw [if_neg hv]; rfl), HV3.out.syn.past⟩
          clear HV3 HZ hv HST
          go_wp2_with fail
          clear sc
          have hAc := syn_acquire (hv_acqPIn HE.out) (by omega) HP.out.2.2 HV4.out.run HV4.out.syn HBD.out
          try go_wp2_with fail
          go_at_call 71; refine hAc.mono ?_; rintro e ya ⟨⟨uc, rfl⟩, ja, tc, hR1, hS1, hB1, hj1⟩
          have HW5b : Hid (HdAt w ya x A cap m gf M s0 j ja (emb (.runP (.get .ld))) (HvQ Q emb P T who p p false) #[.int .i64 P, .int .i64 T, .int .i64 G] 138 #[.int .i64 0, .bool false] (w.heap.size + 1 + 1) #[.int .i64 p, .bool false]) := HV4.out.go hR1 (hS1.weak (fun q' h => by
            rcases h with h | ⟨p', hp', h⟩
            · exact h
            · have hb : hvAP emb p' = emb (.acqP p') := by cases p' <;> first | rfl | exact absurd rfl (hp' _)
              obtain ⟨a, ha⟩ : ∃ a, (hvPM P T who p).ax (.acqP p') = some a := by cases p' <;> first | exact ⟨_, rfl⟩ | exact absurd rfl (hp' _)
              exact .inr ⟨.acqP p', a, ha, h.trans hb, rfl, rfl⟩)) hB1 hj1
          clear hAc hR1 hS1 hB1 hj1 HV4
          have sc := HW5b.out.stop
          by_cases hst : m < ja
          · rw [decide_eq_true hst] at sc
            have HST : Hid (m < ja) := hst
            clear hst
            have r0 := HW5b.out.res.cell 0 (v := .int .i64 0) rfl
            have r1 := HW5b.out.res.cell 1 (v := .bool false) rfl
            have f0 := HW5b.out.res.fro 0
            have f1 := HW5b.out.res.fro 1
            have o0 := HW5b.out.out.cell 0 (v := .int .i64 p) rfl
            have o1 := HW5b.out.out.cell 1 (v := .bool false) rfl
            have HN : Hid _ := HW5b.out.ret2 (.int .i64 p) (.bool false) rfl
            go_wp2_with fail
            generalize ((ya.setCell ⟨w.heap.size + 1, 0, none⟩ (.int .i64 p)).setCell ⟨w.heap.size + 1, 1, none⟩ (.bool false)) = yz at *
            refine bodyPost_ret (v := .agg #[.int .i64 p, .bool false]) (results_cell_row rfl _ _ (w.heap.size + 1) 138 #[.int .i64 p, .bool false] _ _ rfl HN.out.2.2 Tryz.underlying138 rfl (by kernel_rfl)) rfl ?_
            exact ⟨p, false, ja, .ovR .over, rfl, HN.out.1, ⟨fun h => absurd h (by have := HST.out; omega), HW5b.out.syn.past⟩, rfl, (fun h => absurd h (by have := HST.out; omega)), HN.out.2.1, HW5b.out.le⟩
          · rw [decide_eq_false hst] at sc
            have HST : Hid (ja ≤ m) := (by omega : ja ≤ m)
            clear hst
            have HW5 : Hid (HdAt w ya x A cap m gf M s0 j ja (emb (.runP (.get .ld))) (fun _ => False) #[.int .i64 P, .int .i64 T, .int .i64 G] 138 #[.int .i64 0, .bool false] (w.heap.size + 1 + 1) #[.int .i64 p, .bool false]) := HW5b.out.as (HW5b.out.syn.resetv HST.out _)
            clear HW5b
            have hSt := syn_hvsP (G := G) HE.out HP.out.1 HP.out.2.1 HW5.out.run HW5.out.syn HST.out HBD.out
            have k0 := HW5.out.cfg.cell 0 (v := .int .i64 P) rfl
            have k1 := HW5.out.cfg.cell 1 (v := .int .i64 T) rfl
            have k2 := HW5.out.cfg.cell 2 (v := .int .i64 G) rfl
            try go_wp2_with fail
            go_at_call 87; refine hSt.mono ?_; rintro e yw ⟨hd, jw, sw, rfl, u1, u2, u3, u4, u5⟩
            have HX : Hid (HdAt w yw x A cap m gf M s0 j jw (emb (.ovP sw)) (HvQ Q emb P T who p hd false) #[.int .i64 P, .int .i64 T, .int .i64 G] 138 #[.int .i64 0, .bool false] (w.heap.size + 1 + 1) #[.int .i64 p, .bool false]) := HW5.out.go u1 (u2.weak (fun q h => by
                obtain ⟨s', a, e1, e2, e3⟩ := h
                exact .inr ⟨.runP s', a, e1, e2, e3, rfl⟩)) u4 u5
            have HU : Hid (jw ≤ m → hd = sw.holds p) := u3
            clear hSt u1 u2 u3 u4 u5 k0 k1 k2 HW5
            have r0 := HX.out.res.cell 0 (v := .int .i64 0) rfl
            have r1 := HX.out.res.cell 1 (v := .bool false) rfl
            have f0 := HX.out.res.fro 0
            have f1 := HX.out.res.fro 1
            have HN : Hid _ := HX.out.ret2 (.int .i64 hd) (.bool false) rfl
            go_wp2_with fail
            generalize ((yw.setCell ⟨w.heap.size + 1, 0, none⟩ (.int .i64 hd)).setCell ⟨w.heap.size + 1, 1, none⟩ (.bool false)) = yz at *
            refine bodyPost_ret (v := .agg #[.int .i64 hd, .bool false]) (results_cell_row rfl _ _ (w.heap.size + 1) 138 #[.int .i64 hd, .bool false] _ _ rfl HN.out.2.2 Tryz.underlying138 rfl (by kernel_rfl)) rfl ?_
            exact ⟨hd, false, jw, .ovP sw, rfl, HN.out.1, HX.out.syn, rfl, fun h => ⟨HU.out h, rfl⟩, HN.out.2.1, HX.out.le⟩
theorem rover_on (w : World) (x : Nat) (A : Option Addr) (cap m : Nat) (gf : Nat → Int) (P T G who p : Int) (s : HvT) (h : RunOn w x A cap m gf rn0) (hh : Hist (hvPM P T who p) (.lk .hd) gf m s) (hp : 0 ≤ P ∧ P ≤ 64) (hT : 0 ≤ T ∧ T ≤ 65536) (hw : 0 ≤ who ∧ who ≤ 300) :
    Calls Tryz.prog 75 #[.pointer (some ⟨x, 0, none⟩), .agg #[.int .i64 P, .int .i64 T, .int .i64 G], .int .i64 who, .int .i64 p] w fun e w' => e = .returned (.agg #[.int .i64 (s.holds p), .bool s.counts]) ∧ RunOn w' x A cap m gf ((hvPM P T who p).rn s m) ∧ But [x] w w' := by
  rw [← rj_start (M := (hvPM P T who p)) (s0 := HvT.lk .hd) (g := gf) (m := m)] at h
  refine (syn_over (pm_in _) hp hT hw h (Syn.start _ _ _ _) hh.bd hh.sw).mono ?_
  rintro e w' ⟨hd, c, j', sf, rfl, h1, h2, h3, h4, h5, -⟩
  have hr : hd = s.holds p ∧ c = s.counts := by
    rcases h2.fin hh (fun _ => h3) with ⟨e1, e2⟩ | ⟨-, (⟨hf, -⟩ | ⟨s', a, -, e1, e2⟩)⟩
    · rw [e1]; exact h4 (by omega)
    · exact hf.elim
    · rw [e1]; exact e2
  refine ⟨by rw [hr.1, hr.2], ?_, h5⟩
  rw [← rj_end h2 hh (fun _ => h3)]
  exact h1
end Go.Proofs.YthjfbknmdligeaaGreat

namespace Go.Proofs.YthjfbknmdligeaaGreat
open Go Go.RowKit
set_option linter.unusedVariables false
set_option maxRecDepth 100000
set_option linter.unusedSimpArgs false
set_option linter.unusedSectionVars false

/-- Rows, one behind the other, of which the first k words are f's. -/
def DrAt (w : World) (b k : Nat) (f : Nat → Int) : Prop := ∃ cs : Array Value, w.heap[b]? = some (.cells cs 100 (0, 0)) ∧ k ≤ cs.size ∧ ∀ i, i < k → cs[i]? = some (.int .u64 (f i))
theorem DrAt.lt {w : World} {b k : Nat} {f : Nat → Int} (h : DrAt w b k f) : b < w.heap.size := by obtain ⟨cs, h1, _⟩ := h; exact block_lt h1
theorem DrAt.cell {w : World} {b k : Nat} {f : Nat → Int} (h : DrAt w b k f) {i : Nat} (hi : i < k) : w.cell? ⟨b, i, none⟩ = some (.int .u64 (f i)) := by
  obtain ⟨cs, h1, _, h3⟩ := h
  simp [World.cell?, h1, h3 i hi]
theorem DrAt.fro {w : World} {b k : Nat} {f : Nat → Int} (h : DrAt w b k f) (i : Nat) : w.frozen? ⟨b, i, none⟩ = false := by
  obtain ⟨cs, h1, _⟩ := h
  simp [World.frozen?, h1]
theorem DrAt.but {w w' : World} {b k : Nat} {f : Nat → Int} {l : List Nat} (h : DrAt w b k f) (hb : But l w w') (hr : b ∉ l) : DrAt w' b k f := by
  have hlt := h.lt
  obtain ⟨cs, h1, h2⟩ := h
  exact ⟨cs, (hb.block b hlt hr).trans h1, h2⟩
theorem DrAt.set {w : World} {b k : Nat} {f : Nat → Int} (h : DrAt w b k f) {i : Nat} (hi : i < k) (v : Int) : DrAt (w.setCell ⟨b, i, none⟩ (.int .u64 v)) b k (upd f i v) := by
  obtain ⟨cs, h1, h2, h3⟩ := h
  refine ⟨_, heap_set h1 i _, by simpa using h2, fun j hj => ?_⟩
  by_cases e : j = i
  · subst e
    have : j < cs.size := by omega
    simp [this, upd]
  · rw [Array.getElem?_setIfInBounds_ne (by omega), h3 j hj]; simp [upd, e]
/-- What is told where it stopped: the rows, the processor in the hand, whether it counts. -/
def MoObs (f : Nat → Int) (Pv : Int) (C : Bool) (q : MoT) : Prop := q.e.D.f = f ∧ q.holds = Pv ∧ q.counts = C
structure RmAt (w0 w : World) (x : Nat) (A : Option Addr) (cap m : Nat) (g : Nat → Int) (P : Nat) (T : Int) (s0 : MoT) (j : Nat) (t : MoT) (Q : MoT → Prop) (y b cp : Nat) (f : Nat → Int) (Pv : Int) (C : Bool) : Prop where
  run : RunOn w x A cap m g ((moPM false P T).rj s0 g m j)
  syn : Syn (moPM false P T) s0 g m j t Q
  seen : Blk w y #[.slice (some ⟨b, 0, none⟩) P cp, .int .i64 Pv, .bool C] 52
  row : DrAt w b (4 * P) f
  but : But [x, y, b] w0 w
  far : GotFar A [y, b]
  ne : y ≠ b ∧ x ≠ y ∧ x ≠ b
section
variable {w0 w w2 : World} {x : Nat} {A : Option Addr} {cap m : Nat} {g : Nat → Int} {P : Nat} {T : Int} {s0 : MoT} {j j2 : Nat} {t t2 : MoT} {Q Q2 : MoT → Prop} {y b cp : Nat} {f : Nat → Int} {Pv : Int} {C : Bool} (h : RmAt w0 w x A cap m g P T s0 j t Q y b cp f Pv C)
include h
theorem RmAt.go (hR : RunOn w2 x A cap m g ((moPM false P T).rj s0 g m j2)) (hS : Syn (moPM false P T) s0 g m j2 t2 Q2) (hB : But [x] w w2) : RmAt w0 w2 x A cap m g P T s0 j2 t2 Q2 y b cp f Pv C :=
  ⟨hR, hS, h.seen.but hB (by simpa using h.ne.2.1.symm), h.row.but hB (by simpa using h.ne.2.2.symm), h.but.trans (hB.more (by intro k _ hk; simp at hk ⊢; exact .inl hk)), h.far, h.ne⟩
theorem RmAt.low (hB : Below w.heap.size w w2) : RmAt w0 w2 x A cap m g P T s0 j t Q y b cp f Pv C :=
  ⟨h.run.below hB, h.syn, h.seen.but (But.of_below (l := []) hB) (by simp), h.row.but (But.of_below (l := []) hB) (by simp), h.but.trans (But.of_below hB), h.far, h.ne⟩
theorem RmAt.as (hS : Syn (moPM false P T) s0 g m j t2 Q2) : RmAt w0 w x A cap m g P T s0 j t2 Q2 y b cp f Pv C := ⟨h.run, hS, h.seen, h.row, h.but, h.far, h.ne⟩
theorem RmAt.rset (i : Nat) (hi : i < 4 * P) (v : Int) : RmAt w0 (w.setCell ⟨b, i, none⟩ (.int .u64 v)) x A cap m g P T s0 j t Q y b cp (upd f i v) Pv C := by
  have hU : But [b] w (w.setCell ⟨b, i, none⟩ (.int .u64 v)) := (But.refl _ w).set (g := b) (.inl (by simp)) i _
  exact ⟨h.run.but hU (by simpa using h.ne.2.2) (h.far.of (by intro k hk; simp at hk ⊢; exact .inr hk)), h.syn, h.seen.but hU (by simpa using h.ne.1), h.row.set hi v, h.but.trans (hU.more (by intro k _ hk; simp at hk ⊢; exact .inr (.inr hk))), h.far, h.ne⟩
theorem RmAt.sset1 (v : Int) : RmAt w0 (w.setCell ⟨y, 1, none⟩ (.int .i64 v)) x A cap m g P T s0 j t Q y b cp f v C := by
  have hU : But [y] w (w.setCell ⟨y, 1, none⟩ (.int .i64 v)) := (But.refl _ w).set (g := y) (.inl (by simp)) 1 _
  exact ⟨h.run.but hU (by simpa using h.ne.2.1) (h.far.of (by intro k hk; simp at hk ⊢; exact .inl hk)), h.syn, h.seen.set 1 _, h.row.but hU (by simpa using h.ne.1.symm), h.but.trans (hU.more (by intro k _ hk; simp at hk ⊢; exact .inr (.inl hk))), h.far, h.ne⟩
theorem RmAt.sset2 (v : Bool) : RmAt w0 (w.setCell ⟨y, 2, none⟩ (.bool v)) x A cap m g P T s0 j t Q y b cp f Pv v := by
  have hU : But [y] w (w.setCell ⟨y, 2, none⟩ (.bool v)) := (But.refl _ w).set (g := y) (.inl (by simp)) 2 _
  exact ⟨h.run.but hU (by simpa using h.ne.2.1) (h.far.of (by intro k hk; simp at hk ⊢; exact .inl hk)), h.syn, h.seen.set 2 _, h.row.but hU (by simpa using h.ne.1.symm), h.but.trans (hU.more (by intro k _ hk; simp at hk ⊢; exact .inr (.inl hk))), h.far, h.ne⟩
theorem RmAt.step {v : Int} (hK : Kept' w w2 x A cap m g (moPM false P T) s0 j t Q v) : RmAt w0 w2 x A cap m g P T s0 (j + 1) ((moPM false P T).nx t v) (fun r => r = t ∨ Q r) y b cp f Pv C :=
  h.go hK.run hK.syn hK.but
theorem RmAt.stop : w.cell? ⟨x, 2, none⟩ = some (.bool (decide (m < j))) := by
  have := h.run.blk.cell 2 (v := .bool ((moPM false P T).rj s0 g m j).stop) rfl
  rw [rj_stop h.syn] at this
  exact this
theorem RmAt.from0 : RmAt w w x A cap m g P T s0 j t Q y b cp f Pv C := ⟨h.run, h.syn, h.seen, h.row, But.refl _ _, h.far, h.ne⟩
theorem RmAt.since {w1 : World} (hB : But [x, y, b] w1 w0) : RmAt w1 w x A cap m g P T s0 j t Q y b cp f Pv C := ⟨h.run, h.syn, h.seen, h.row, hB.trans h.but, h.far, h.ne⟩
end
theorem kept_hc {e : MoE} (h : KeptOk e) : (match e.hv with | none => (-1 : Int) | some (p, h) => h.holds p) = -1 ∧ (match e.hv with | none => false | some (_, h) => h.counts) = false := by
  cases hv : e.hv with
  | none => exact ⟨rfl, rfl⟩
  | some q => obtain ⟨p, s⟩ := q; exact h p s hv
theorem obs_own {e : MoE} (h : KeptOk e) (ph : MoP) : MoObs e.D.f (-1) false (.own ph e) := ⟨rfl, (kept_hc h).1, (kept_hc h).2⟩
theorem syn_stopped {P : Nat} {T : Int} {s0 : MoT} {g : Nat → Int} {m j : Nat} {t t2 : MoT} {Q Q2 : MoT → Prop} (h : Syn (moPM false P T) s0 g m j t Q) (hj : m < j) (hQ : ∀ q, Q q → Q2 q) : Syn (moPM false P T) s0 g m j t2 Q2 := ⟨fun h' => absurd h' (by omega), fun hm => ⟨hQ _ (h.past hm).1, (h.past hm).2⟩⟩
theorem syn_going {P : Nat} {T : Int} {s0 : MoT} {g : Nat → Int} {m j : Nat} {t t2 : MoT} {Q : MoT → Prop} (h : Syn (moPM false P T) s0 g m j t Q) (hj : j ≤ m) (e : t = t2) (Q2 : MoT → Prop) : Syn (moPM false P T) s0 g m j t2 Q2 := ⟨fun h' => (h.at' h').trans e, fun hm => absurd hm (by omega)⟩
set_option maxHeartbeats 8000000 in
theorem rm_turns {w : World} {x : Nat} {A : Option Addr} {cap m : Nat} {g : Nat → Int} {P : Nat} {T : Int} {s0 : MoT} {j : Nat} {Q : MoT → Prop} {y b cp p : Nat} {f : Nat → Int} {now : Int} {e : MoE} (h : RmAt w w x A cap m g P T s0 j (.own .tu e) Q y b cp f (-1) false) (hj : j ≤ m) (hb : ∀ j, j < m → 0 ≤ g j ∧ g j ≤ 18446744073709551615) (hk : KeptOk e) (hep : e.D.p = p) (hef : e.D.f = f) (hen : e.D.nw = now) (hp : p < P) (hP : (P : Int) ≤ 64) (hf : ∀ i, 0 ≤ f i ∧ f i ≤ 18446744073709551615) (hn : 0 ≤ now ∧ now ≤ 18446744073709551615) :
    Calls Tryz.prog 45 #[.pointer (some ⟨y, 0, none⟩), .pointer (some ⟨x, 0, none⟩), .int .i64 p, .int .u64 now] w fun e' w' => ∃ lt j' f', e' = .returned (.bool lt) ∧ RmAt w w' x A cap m g P T s0 j' (moFold false (moSeeStatus P { e.D with lt := lt, f := f' }) e) (MoObs f' (-1) false) y b cp f' (-1) false ∧ (∀ i, 0 ≤ f' i ∧ f' i ≤ 18446744073709551615) ∧ (m < j' → lt = false ∨ lt = true) := by
  obtain ⟨lp, hlp⟩ : ∃ lp : Int → Int, ∀ f, lp f = wd 20 P 264 p f := ⟨fun f => wd 20 P 264 p f, fun f => rfl⟩
  have HPr : Hid (∀ f : Int, 0 ≤ f ∧ f < 8 → ∀ Y : World, Calls Tryz.prog 25 #[.int .i64 p, .int .i64 f] Y fun e w' => e = .returned (.int .i64 (lp f)) ∧ Y = w') := fun f hf Y => by
    rw [hlp f]
    have h := rprc_any p f Y (by omega) hf
    rw [show (20 : Int) + 264 * p + f = wd 20 P 264 p f by unfold wd; rw [if_pos ⟨by omega, by omega, by omega, by omega⟩]; omega] at h
    exact h
  have HM : Hid (∀ W, Calls Tryz.prog 68 #[.int .u64 (f (p * 4 + 1)), .int .u64 now] W fun e w' => e = .returned (.int .u64 ((now - f (p * 4 + 1)) % 4294967296)) ∧ W = w') := fun W => rmny_any _ _ W (hf _) hn
  have HBD : Hid (∀ j, j < m → 0 ≤ g j ∧ g j ≤ 18446744073709551615) := hb
  have HC : Hid (e.D.p = p ∧ e.D.f = f ∧ e.D.nw = now ∧ KeptOk e ∧ (∀ i, 0 ≤ f i ∧ f i ≤ 18446744073709551615) ∧ (0 ≤ now ∧ now ≤ 18446744073709551615) ∧ p < P) := ⟨hep, hef, hen, hk, hf, hn, hp⟩
  have hAx : (moPM false P T).ax (.own .tu e) = some (axLd (lp 4)) := by rw [hlp, ← hep]; rfl
  have HL6 : Hid (lp 6 = wd 20 P 264 p 6) := hlp 6
  have hA := syn_load h.run (h.syn) hb (lp 4) (fun _ => hAx)
  have HH : Hid (RmAt w w x A cap m g P T s0 j (.own .tu e) Q y b cp f (-1) false) := h
  have i1 : (p : Int) < (P : Int) := by omega
  have i0 : (0 : Int) ≤ (p : Int) := by omega
  clear h hb hk hep hef hen hf hn hlp hAx
  go_enter Tryz.func45, Tryz.ntmps45
  go_wp2_with fail
  go_at_call 25; refine (HPr.out _ (by omega) _).mono ?_; rintro e1 w1 ⟨rfl, rfl⟩
  go_wp2_with fail
  go_at_call 44; refine hA.mono ?_; rintro e1 w2 ⟨v, rfl, hK⟩
  have H2 : Hid (RmAt w w2 x A cap m g P T s0 (j + 1) (moFold false (moTurns P e.D v) e) (fun r => r = .own .tu e ∨ Q r) y b cp f (-1) false) := HH.out.step hK
  have HV : Hid (0 ≤ v ∧ v ≤ 18446744073709551615) := hK.bd
  clear hA hK
  have sc := H2.out.stop
  by_cases hst : m < j + 1
  · rw [decide_eq_true hst] at sc
    have HST : Hid (m < j + 1 ∧ j ≤ m) := ⟨hst, hj⟩
    clear hst hj
    go_wp2_with fail
    go_ret
    refine ⟨false, j + 1, f, rfl, H2.out.as (⟨fun h' => absurd h' (by have := HST.out; omega), fun hm => ⟨?_, (H2.out.syn.past hm).2⟩⟩), HC.out.2.2.2.2.1, fun _ => .inl rfl⟩
    rcases (H2.out.syn.past hm).1 with h1 | h1
    · rw [h1, ← HC.out.2.1]; exact obs_own HC.out.2.2.2.1 _
    · have hjm : m = j := by have := HST.out; omega
      have h0 := HH.out.syn.at' (by omega)
      rw [hjm, h0, ← HC.out.2.1]; exact obs_own HC.out.2.2.2.1 _
  · rw [decide_eq_false hst] at sc
    have HST : Hid (j + 1 ≤ m) := (by omega : j + 1 ≤ m)
    clear hst hj
    have c0 := H2.out.seen.cell 0 (v := .slice (some ⟨b, 0, none⟩) P cp) rfl
    have r0 := H2.out.row.cell (i := p * 4) (by omega)
    have r1 := H2.out.row.cell (i := p * 4 + 1) (by omega)
    have q0 := H2.out.row.fro (p * 4)
    have q1 := H2.out.row.fro (p * 4 + 1)
    have hyb := H2.out.ne.1
    have hxb := H2.out.ne.2.2
    by_cases hv : v = f (p * 4)
    · have d1 : (v != f (p * 4)) = false := by simpa using hv
      have hmm := HM.out w2
      obtain ⟨mm, hmn⟩ : ∃ mm, (now - f (p * 4 + 1)) % 4294967296 = mm := ⟨_, rfl⟩
      rw [hmn] at hmm
      have HE1 : Hid (moTurns P e.D v = if 10 ≤ mm then (.pr, { e.D with lt := false }) else moSeeStatus P { e.D with lt := false }) := by
        show moTurns P e.D v = _
        unfold moTurns
        have a2 : (e.D.nw - e.D.f (e.D.p * 4 + 1)) % 4294967296 = mm := by rw [HC.out.1, HC.out.2.1, HC.out.2.2.1]; exact hmn
        rw [if_neg (fun h => h (by rw [HC.out.1, HC.out.2.1]; exact hv)), a2]
      by_cases hm : mm < 10
      · have d2 : decide (mm < 10) = true := decide_eq_true hm
        have H3 : Hid (RmAt w w2 x A cap m g P T s0 (j + 1) (moFold false (moSeeStatus P { e.D with lt := false, f := f }) e) (MoObs f (-1) false) y b cp f (-1) false) := H2.out.as (syn_going H2.out.syn HST.out (by rw [HE1.out, if_neg (by omega), ← HC.out.2.1]) _)
        clear hv hmn hm H2 HE1
        go_wp2_with fail
        go_at_call 68; refine hmm.mono ?_; rintro e1 w3 ⟨rfl, rfl⟩
        clear hmm
        go_wp2_with fail
        go_ret
        exact ⟨false, j + 1, f, rfl, H3.out, HC.out.2.2.2.2.1, fun _ => .inl rfl⟩
      · have d2 : decide (mm < 10) = false := decide_eq_false hm
        have H3 : Hid (RmAt w w2 x A cap m g P T s0 (j + 1) (.own .pr { e with D := { e.D with lt := false } }) (fun _ => False) y b cp f (-1) false) := H2.out.as (syn_going H2.out.syn HST.out (by rw [HE1.out, if_pos (by omega)]; rfl) _)
        have hA3 := syn_store H3.out.run H3.out.syn HBD.out (lp 6) 1 (fun _ => by rw [HL6.out, ← HC.out.1]; rfl)
        clear hv hmn hm H2 HE1
        go_wp2_with fail
        go_at_call 68; refine hmm.mono ?_; rintro e1 w3 ⟨rfl, rfl⟩
        clear hmm
        go_wp2_with fail
        go_at_call 25; refine (HPr.out _ (by omega) _).mono ?_; rintro e1 w3 ⟨rfl, rfl⟩
        go_wp2_with fail
        go_at_call 69; refine hA3.mono ?_; rintro e1 w4 ⟨⟨u, rfl⟩, v2, hK⟩
        have H4 : Hid (RmAt w w4 x A cap m g P T s0 (j + 1 + 1) (moFold false (moSeeStatus P { e.D with lt := true, f := f }) e) (MoObs f (-1) false) y b cp f (-1) false) := by
          have h4 := H3.out.step hK
          refine h4.as ⟨fun h' => (h4.syn.at' h').trans ?_, fun hm => ⟨?_, (h4.syn.past hm).2⟩⟩
          · rw [← HC.out.2.1]; rfl
          · rcases (h4.syn.past hm).1 with h1 | h1
            · rw [h1, ← HC.out.2.1]; exact obs_own (e := { e with D := { e.D with lt := false } }) HC.out.2.2.2.1 _
            · exact h1.elim
        clear hA3 hK H3
        go_wp2_with fail
        go_ret
        exact ⟨true, j + 1 + 1, f, rfl, H4.out, HC.out.2.2.2.2.1, fun _ => .inr rfl⟩
    · have d1 : (v != f (p * 4)) = true := by simpa using hv
      have HR : Hid (RmAt w ((w2.setCell ⟨b, p * 4, none⟩ (.int .u64 v)).setCell ⟨b, p * 4 + 1, none⟩ (.int .u64 now)) x A cap m g P T s0 (j + 1) (moFold false (moSeeStatus P { e.D with lt := false, f := upd (upd f (p * 4) v) (p * 4 + 1) now }) e) (MoObs (upd (upd f (p * 4) v) (p * 4 + 1) now) (-1) false) y b cp (upd (upd f (p * 4) v) (p * 4 + 1) now) (-1) false) := by
        have h3 := (H2.out.rset (p * 4) (by omega) v).rset (p * 4 + 1) (by omega) now
        refine h3.as (syn_going h3.syn HST.out ?_ _)
        show moFold false (moTurns P e.D v) e = _
        unfold moTurns
        have a3 : upd (upd e.D.f (e.D.p * 4) v) (e.D.p * 4 + 1) e.D.nw = upd (upd f (p * 4) v) (p * 4 + 1) now := by rw [HC.out.1, HC.out.2.1, HC.out.2.2.1]
        rw [if_pos (by rw [HC.out.1, HC.out.2.1]; exact hv), a3]
      clear hv H2
      go_wp2_with fail
      go_ret
      exact ⟨false, j + 1, _, rfl, HR.out, upd_bd (upd_bd HC.out.2.2.2.2.1 HV.out) HC.out.2.2.2.2.2.1, fun _ => .inl rfl⟩
end Go.Proofs.YthjfbknmdligeaaGreat

namespace Go.Proofs.YthjfbknmdligeaaGreat
open Go Go.RowKit
set_option linter.unusedVariables false
set_option maxRecDepth 100000
set_option linter.unusedSimpArgs false
set_option linter.unusedSectionVars false

section
variable {w : World} {x : Nat} {who : Int} {nx : Option Addr} {cl r P : Nat} {d : MoD} {f : Nat → Int}
theorem mo_rowIn {p : Nat} (h : Blk w x (moCells who nx cl r P d) 98) (hr : RwAt w r (4 * P) f) (hp : p < P) (hP : (P : Int) ≤ 64) : Calls Tryz.prog 24 #[.pointer (some ⟨x, 0, none⟩), .int .i64 p] w fun e w' => e = .returned (.agg #[.int .u64 (f (p * 4)), .int .u64 (f (p * 4 + 1)), .int .u64 (f (p * 4 + 2)), .int .u64 (f (p * 4 + 3))]) ∧ Below w.heap.size w w' := by
  have c3 := h.cell 3 (v := .slice (some ⟨r, 0, none⟩) P P) rfl
  have x0 := hr.cell (i := p * 4) (by omega)
  have x1 := hr.cell (i := p * 4 + 1) (by omega)
  have x2 := hr.cell (i := p * 4 + 2) (by omega)
  have x3 := hr.cell (i := p * 4 + 3) (by omega)
  have i1 : (p : Int) < (P : Int) := by omega
  have i0 : (0 : Int) ≤ (p : Int) := by omega
  have i2 : decide ((p : Int) < 0) = false := decide_eq_false (by omega)
  have i3 : decide ((P : Int) ≤ (p : Int)) = false := decide_eq_false (by omega)
  have lx := h.lt
  have lr := hr.lt
  clear h hr
  go_enter Tryz.func24, Tryz.ntmps24
  go_wp2_with fail
  generalize hz : w.alloc (.cells #[.int .u64 (f (p * 4)), .int .u64 (f (p * 4 + 1)), .int .u64 (f (p * 4 + 2)), .int .u64 (f (p * 4 + 3))] 66) = z at *
  have hfr : z.heap[w.heap.size]? = some (.cells #[.int .u64 (f (p * 4)), .int .u64 (f (p * 4 + 1)), .int .u64 (f (p * 4 + 2)), .int .u64 (f (p * 4 + 3))] 66 (0, 0)) := by rw [← hz]; exact heap_alloc_new _ _
  have hB : Below w.heap.size w z := by rw [← hz]; exact (Below.refl _ _).alloc (Nat.le_refl _) _
  refine bodyPost_ret (v := .agg #[.int .u64 (f (p * 4)), .int .u64 (f (p * 4 + 1)), .int .u64 (f (p * 4 + 2)), .int .u64 (f (p * 4 + 3))]) (results_cell_row rfl _ _ w.heap.size 66 #[.int .u64 (f (p * 4)), .int .u64 (f (p * 4 + 1)), .int .u64 (f (p * 4 + 2)), .int .u64 (f (p * 4 + 3))] _ _ rfl hfr Tryz.underlying66 rfl (by kernel_rfl)) rfl ⟨rfl, hB⟩
theorem mo_rowOut {p : Int} (h : Blk w x (moCells who nx cl r P d) 98) (hp : p < 0 ∨ (P : Int) ≤ p) : Calls Tryz.prog 24 #[.pointer (some ⟨x, 0, none⟩), .int .i64 p] w fun e w' => e = .returned (.agg #[.int .u64 0, .int .u64 0, .int .u64 0, .int .u64 0]) ∧ Below w.heap.size w w' := by
  have c3 := h.cell 3 (v := .slice (some ⟨r, 0, none⟩) P P) rfl
  have lx := h.lt
  clear h
  by_cases h0 : p < 0
  · go_enter Tryz.func24, Tryz.ntmps24
    go_wp2_with fail
    generalize hz : w.alloc (.cells #[.int .u64 0, .int .u64 0, .int .u64 0, .int .u64 0] 66) = z at *
    have hfr : z.heap[w.heap.size]? = some (.cells #[.int .u64 0, .int .u64 0, .int .u64 0, .int .u64 0] 66 (0, 0)) := by rw [← hz]; exact heap_alloc_new _ _
    have hB : Below w.heap.size w z := by rw [← hz]; exact (Below.refl _ _).alloc (Nat.le_refl _) _
    refine bodyPost_ret (v := .agg #[.int .u64 0, .int .u64 0, .int .u64 0, .int .u64 0]) (results_cell_row rfl _ _ w.heap.size 66 #[.int .u64 0, .int .u64 0, .int .u64 0, .int .u64 0] _ _ rfl hfr Tryz.underlying66 rfl (by kernel_rfl)) rfl ⟨rfl, hB⟩
  · have h1 : (P : Int) ≤ p := by omega
    go_enter Tryz.func24, Tryz.ntmps24
    go_wp2_with fail
    generalize hz : w.alloc (.cells #[.int .u64 0, .int .u64 0, .int .u64 0, .int .u64 0] 66) = z at *
    have hfr : z.heap[w.heap.size]? = some (.cells #[.int .u64 0, .int .u64 0, .int .u64 0, .int .u64 0] 66 (0, 0)) := by rw [← hz]; exact heap_alloc_new _ _
    have hB : Below w.heap.size w z := by rw [← hz]; exact (Below.refl _ _).alloc (Nat.le_refl _) _
    refine bodyPost_ret (v := .agg #[.int .u64 0, .int .u64 0, .int .u64 0, .int .u64 0]) (results_cell_row rfl _ _ w.heap.size 66 #[.int .u64 0, .int .u64 0, .int .u64 0, .int .u64 0] _ _ rfl hfr Tryz.underlying66 rfl (by kernel_rfl)) rfl ⟨rfl, hB⟩
theorem mo_row_nil (w : World) (p : Int) : Calls Tryz.prog 24 #[.pointer none, .int .i64 p] w fun e w' => e = .returned (.agg #[.int .u64 0, .int .u64 0, .int .u64 0, .int .u64 0]) ∧ Below w.heap.size w w' := by
  go_enter Tryz.func24, Tryz.ntmps24
  go_wp2_with fail
  generalize hz : w.alloc (.cells #[.int .u64 0, .int .u64 0, .int .u64 0, .int .u64 0] 66) = z at *
  have hfr : z.heap[w.heap.size]? = some (.cells #[.int .u64 0, .int .u64 0, .int .u64 0, .int .u64 0] 66 (0, 0)) := by rw [← hz]; exact heap_alloc_new _ _
  have hB : Below w.heap.size w z := by rw [← hz]; exact (Below.refl _ _).alloc (Nat.le_refl _) _
  refine bodyPost_ret (v := .agg #[.int .u64 0, .int .u64 0, .int .u64 0, .int .u64 0]) (results_cell_row rfl _ _ w.heap.size 66 #[.int .u64 0, .int .u64 0, .int .u64 0, .int .u64 0] _ _ rfl hfr Tryz.underlying66 rfl (by kernel_rfl)) rfl ⟨rfl, hB⟩
end
theorem eq_row0 (w : World) : (binOp .eql 66 (.agg #[.int .u64 0, .int .u64 0, .int .u64 0, .int .u64 0]) (.agg #[.int .u64 0, .int .u64 0, .int .u64 0, .int .u64 0])).run Tryz.prog w = .ok (.bool true) w := by
  have e : ∃ p0 p1 p2 p3 p4 p5 p6 p7 p8 p9 p10 p11 p12 p13 p14 p15, Tryz.prog.fieldsOf 66 = #[⟨"Turns", 41, 0, p0, p1, p2, p3⟩, ⟨"When", 41, 1, p4, p5, p6, p7⟩, ⟨"Calls", 41, 2, p8, p9, p10, p11⟩, ⟨"Since", 41, 3, p12, p13, p14, p15⟩] := by unfold Program.fieldsOf; rw [Tryz.underlying66]; exact ⟨_, _, _, _, _, _, _, _, _, _, _, _, _, _, _, _, rfl⟩
  obtain ⟨p0, p1, p2, p3, p4, p5, p6, p7, p8, p9, p10, p11, p12, p13, p14, p15, e⟩ := e
  rw [run_eql_struct, show (10000 : Nat) = 9999 + 1 from rfl, run_equalIn_agg w 9999 66 _ _ (by unfold Program.fieldsOf; rw [Tryz.underlying66]) (by kernel_rfl), e]
  have h3 : ∀ (x y : Int) (w : World), (Op.equalIn 9999 41 (.int .u64 x) (.int .u64 y)).run Tryz.prog w = .ok (x == y) w := fun x y w => run_equalIn_int w 9998 41 .u64 .u64 x y Tryz.underlying41
  simp [Op.eqFields, go_sem, part, isAgg, sizeOf, typeInfo, Result.andThen, h3]
set_option maxHeartbeats 8000000 in
theorem mo_rows {w : World} {x : Nat} {who : Int} {nx : Option Addr} {cl r P b cp : Nat} {d : MoD} {f : Nat → Int} (h : Blk w x (moCells who nx cl r P d) 98) (hr : RwAt w r (4 * P) f) (hd : DrAt w b (4 * P) f) (hp : (P : Int) ≤ 64) : Calls Tryz.prog 15 #[.pointer (some ⟨x, 0, none⟩), .slice (some ⟨b, 0, none⟩) P cp] w fun e w' => e = .returned (.bool true) ∧ Below w.heap.size w w' := by
  have HH : Hid (Blk w x (moCells who nx cl r P d) 98 ∧ RwAt w r (4 * P) f ∧ DrAt w b (4 * P) f ∧ (P : Int) ≤ 64) := ⟨h, hr, hd, hp⟩
  have H0 : Hid (Below w.heap.size w w) := Below.refl _ _
  clear h hr hd hp
  have heq := eq_row0
  go_enter Tryz.func15, Tryz.ntmps15
  go_wp2_with fail
  go_loopw [5, 6] (fun iv pv wr => ∃ (k : Nat) (u : Value), u = pv ∧ k ≤ P ∧ iv = .int .i64 k ∧ Hid (Below w.heap.size w wr)) (fun iv _ _ => P - (intOf iv).toNat)
  case atStart => exact ⟨0, _, rfl, Nat.zero_le _, rfl, H0⟩
  case round =>
    obtain ⟨k, u, rfl, hk, rfl, HB⟩ := hrel
    clear H0
    by_cases hlt : k < P
    · have HK : Hid (k < P ∧ k < 64) := ⟨hlt, by have := HH.out; omega⟩
      have i1 : (k : Int) < (P : Int) := by omega
      have i0 : (0 : Int) ≤ (k : Int) := by omega
      have hR := mo_rowIn (HH.out.1.but (But.of_below (l := []) HB.out) (by simp)) (HH.out.2.1.but (But.of_below (l := []) HB.out) (by simp)) hlt HH.out.2.2.2
      clear hlt hk
      go_wp2_with fail
      go_at_call 24; refine hR.mono ?_; rintro e w1 ⟨rfl, h1⟩
      have HB1 : Hid (Below w.heap.size w w1) := seq HB.out h1
      have hdd := HH.out.2.2.1.but (But.of_below (l := []) HB1.out) (by simp)
      have lb := hdd.lt
      have x0 := hdd.cell (i := k * 4) (by have := HK.out; omega)
      have x1 := hdd.cell (i := k * 4 + 1) (by have := HK.out; omega)
      have x2 := hdd.cell (i := k * 4 + 2) (by have := HK.out; omega)
      have x3 := hdd.cell (i := k * 4 + 3) (by have := HK.out; omega)
      have hk9 : k < 64 := HK.out.2
      clear hR h1 hdd
      go_wp2_with fail
      go_quiet (fail)
      have HB2 : Hid (Below w.heap.size w ((w1.alloc (.cells #[.int .u64 (f (k * 4)), .int .u64 (f (k * 4 + 1)), .int .u64 (f (k * 4 + 2)), .int .u64 (f (k * 4 + 3))] 66)).drewN nq)) := Below.drewN' (HB1.out.alloc HB1.out.size _) nq
      clear x0 x1 x2 x3
      go_wp2_with fail
      go_roundw
      case rel => exact ⟨k + 1, _, rfl, HK.out.1, by go_num, HB2⟩
      case measure => have := HK.out; simp [intOf]; omega
    · obtain rfl : P = k := by omega
      have hR := mo_rowOut (p := (P : Int)) (HH.out.1.but (But.of_below (l := []) HB.out) (by simp)) (.inr (Int.le_refl _))
      have HB0 : Hid (Below w.heap.size w wr) := HB.out
      clear hlt hk HB
      go_wp2_with fail
      go_at_call 24; refine hR.mono ?_; rintro e w1 ⟨rfl, h1⟩
      have HB1 : Hid (Below w.heap.size w w1) := seq HB0.out h1
      have hR2 := mo_rowOut (p := -1) (HH.out.1.but (But.of_below (l := []) HB1.out) (by simp)) (.inl (by decide))
      clear hR h1
      go_wp2_with fail
      go_at_call 24; refine hR2.mono ?_; rintro e w2 ⟨rfl, h1⟩
      have HB2 : Hid (Below w.heap.size w w2) := seq HB1.out h1
      clear hR2 h1
      go_wp2_with fail
      go_ret
      exact ⟨rfl, HB2.out⟩
end Go.Proofs.YthjfbknmdligeaaGreat
