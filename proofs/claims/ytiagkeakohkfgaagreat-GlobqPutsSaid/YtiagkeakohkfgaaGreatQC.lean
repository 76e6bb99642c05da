/- GlobqPulls: each step of pulling a goroutine from the global queue, over any memory, whatever others do between: its access, which one it is, and when; no machine; for every ground, every thread, and all pokes; no condition. -/
import Derived.Test.YtiagkeakohkfgaaGreatLaw
import Derived.Test.YtiagkeakohkfgaaGreatQB
import Derived.Deep.RegionHeld3
import Derived.Test.YtiagkeakohkfgaaGreatQA
import Derived.Test.YtiagkeakohkfgaaGreatLock1
import Derived.Maps.OwnSet
import Derived.Maps.AppendAt
import Derived.OwnWalk
import Derived.Laws.Cover1
import Derived.ChangeShapes
import Derived.ProofKit
import Derived.Carry
import Derived.WalkKit
import Derived.OpenShut
import Derived.Test.YtiagkeakohkfgaaGreatOpen
import Derived.Lib.SmallJoins
namespace Go.Proofs.YtiagkeakohkfgaaGreat
open Go Go.RowKit
set_option linter.unusedVariables false
set_option maxRecDepth 100000
set_option linter.unusedSimpArgs false

/-- So many steps of a machine. -/
def PM.steps {σ : Type} (M : PM σ) (who : Int) (n : Nat) : Nat → σ × St → σ × St
  | 0, p => p
  | k + 1, p => PM.steps M who n k (M.goT n p.1 p.2, M.goS who n p.1 p.2)
theorem PM.steps_succ {σ : Type} (M : PM σ) (who : Int) (n : Nat) : ∀ (k : Nat) (p : σ × St), M.steps who n (k + 1) p = (M.goT n (M.steps who n k p).1 (M.steps who n k p).2, M.goS who n (M.steps who n k p).1 (M.steps who n k p).2)
  | 0, p => rfl
  | k + 1, p => PM.steps_succ M who n k (M.goT n p.1 p.2, M.goS who n p.1 p.2)
theorem PM.steps_low {σ : Type} (M : PM σ) (who : Int) (n : Nat) {m : Int} : ∀ (k : Nat) (p : σ × St), Low p.2 m → Low (M.steps who n k p).2 (m + k)
  | 0, p, h => h.more (by omega)
  | k + 1, p, h => (PM.steps_low M who n k (M.goT n p.1 p.2, M.goS who n p.1 p.2) (PM.goS_low h)).more (by omega)

/-- A machine over a memory, apart, with what is only read. -/
structure Solo {σ : Type} (I : MI σ) (R : Rd) (W0 w : World) (A : Option Addr) (cap c b n : Nat) (s : St) (x : Nat) (t : σ) (L : List Nat) : Prop where
  mem : Is w 135 A cap c b n s
  mach : I w x t L
  rd : R.P w
  far : ∀ k ∈ L, k ≠ c ∧ k ≠ b ∧ k ∉ R.B
  rfar : c ∉ R.B ∧ b ∉ R.B
  up : W0.heap.size ≤ c ∧ W0.heap.size ≤ b ∧ ∀ k ∈ L, W0.heap.size ≤ k
  rlt : ∀ k ∈ R.B, k < w.heap.size
  below : Below W0.heap.size W0 w
section
variable {σ : Type} {I : MI σ} {M : PM σ} {R Rm : Rd} {W0 w w' : World} {A : Option Addr} {cap c b n : Nat} {s : St} {x : Nat} {t : σ} {L : List Nat}
theorem Solo.still (hG : I.Good M) (h : Solo I R W0 w A cap c b n s x t L) (hb : Below w.heap.size w w') : Solo I R W0 w' A cap c b n s x t L :=
  ⟨h.mem.below hb, hG.below h.mach hb, R.below h.rd hb, h.far, h.rfar, h.up, fun k hk => Nat.lt_of_lt_of_le (h.rlt k hk) hb.size, h.below.trans (hb.mono h.below.size)⟩
theorem Solo.step (hG : I.Good M) {F : Nat} {who : Int} (hS : Steps M I Rm F who) (hRm : ∀ w, R.P w → Rm.P w) (hRb : ∀ k ∈ Rm.B, k ∈ R.B) (h : Solo I R W0 w A cap c b n s x t L) (hn : n ≤ 1000000) (hl : Low s 1000000) :
    Calls Tryz.prog F #[.pointer (some ⟨x, 0, none⟩), .pointer (some ⟨c, 0, none⟩)] w fun e w' => (e = .returned (.bool (M.ax (M.goT n t s)).isNone)) ∧ ∃ L', Solo I R W0 w' A cap c b n (M.goS who n t s) x (M.goT n t s) L' := by
  refine (hS w A cap c b n s x t L h.mach (hRm w h.rd) h.mem hn hl (fun k hk => ⟨(h.far k hk).1, (h.far k hk).2.1, fun hr => (h.far k hk).2.2 (hRb k hr)⟩) ⟨fun hr => h.rfar.1 (hRb c hr), fun hr => h.rfar.2 (hRb b hr)⟩).mono ?_
  rintro e w' ⟨rfl, L', a1, a2, a3, a4⟩
  have hsz := h.below.size
  have k1 := h.mem.lt
  have k2 := h.mem.bl
  refine ⟨rfl, L', a2, a1, R.keep _ _ _ h.rd a3 (fun k hk => ?_), fun k hk => ?_, h.rfar, ⟨h.up.1, h.up.2.1, fun k hk => ?_⟩, fun k hk => Nat.lt_of_lt_of_le (h.rlt k hk) a3.size, h.below.trans (a3.below ?_ hsz)⟩
  · simp only [List.mem_cons, not_or]
    exact ⟨fun e => h.rfar.1 (e ▸ hk), fun e => h.rfar.2 (e ▸ hk), fun hm => (h.far k hm).2.2 hk⟩
  · rcases a4 k hk with h1 | h1
    · exact h.far k h1
    · exact ⟨by omega, by omega, fun hr => by have := h.rlt k hr; omega⟩
  · rcases a4 k hk with h1 | h1
    · exact h.up.2.2 k h1
    · omega
  · intro k hk
    simp only [List.mem_cons] at hk
    rcases hk with rfl | rfl | hk
    · exact h.up.1
    · exact h.up.2.1
    · exact h.up.2.2 k hk
/-- How it begins. -/
theorem Solo.begin {w2 w3 : World} (hm : Is w2 135 A cap c b n s) (hb : Below w2.heap.size w2 w3) (hB2 : Below W0.heap.size W0 w2) (hup : W0.heap.size ≤ c ∧ W0.heap.size ≤ b) (hi : I w3 x t L) (hL : ∀ k ∈ L, w2.heap.size ≤ k) (hr : R.P w2) (hrl : ∀ k ∈ R.B, k < w2.heap.size) (hrf : c ∉ R.B ∧ b ∉ R.B) : Solo I R W0 w3 A cap c b n s x t L := by
  have k1 := hm.lt
  have k2 := hm.bl
  have hsz := hB2.size
  refine ⟨hm.below hb, hi, R.below hr hb, fun k hk => ?_, hrf, ⟨hup.1, hup.2, fun k hk => Nat.le_trans hsz (hL k hk)⟩, fun k hk => Nat.lt_of_lt_of_le (hrl k hk) hb.size, hB2.trans (hb.mono hsz)⟩
  have h1 := hL k hk
  exact ⟨by omega, by omega, fun hr => by have := hrl k hr; omega⟩
end
end Go.Proofs.YtiagkeakohkfgaaGreat

namespace Go.Proofs.YtiagkeakohkfgaaGreat
open Go Go.RowKit
set_option linter.unusedVariables false
set_option maxRecDepth 100000
set_option linter.unusedSimpArgs false

def qwd (g : Int) : Int := IntKind.u64.wrap (IntKind.u64.wrap g + 1)
theorem qwd_bd (g : Int) : 0 ≤ qwd g ∧ qwd g ≤ 18446744073709551615 := by
  unfold qwd
  generalize IntKind.u64.wrap g + 1 = z
  simp [IntKind.wrap, IntKind.bits, IntKind.signed]
  omega
theorem q_word2 (w : World) (g : Int) : Calls Tryz.prog 112 #[.int .i64 g] w fun e w' => e = .returned (.int .u64 (qwd g)) ∧ w = w' := by
  go_enter Tryz.func112, Tryz.ntmps112
  go_wp2_with fail
  go_ret
  exact ⟨rfl, rfl⟩
section
variable (w : World) (x cl : Nat) (who p most left tl P T G : Int) (nx f o : Option Addr) (h : Blk w x (tkCells who nx cl p most left f o tl) 141) (hl : Lay w cl P T G) (hp : 0 ≤ P ∧ P ≤ 64)
include h hl hp
set_option maxHeartbeats 4000000 in
theorem take_lay2 (v0 g : Int) (hv : 0 ≤ v0 ∧ v0 ≤ 18446744073709551615) (hxc : cl ≠ x) (hg : ∀ Y, But [x] w Y → Calls Tryz.prog 28 #[.pointer o] Y fun e w' => e = .returned (.int .i64 g) ∧ Y = w') : Calls Tryz.prog 176 #[.pointer (some ⟨x, 0, none⟩), .int .u64 v0] w fun e w' => (∃ v, e = .returned v) ∧ Came w w' x (tkCells who nx cl p most left f o v0) 141 (axSt (wd 20 P 264 p (8 + v0 % 256)) (qwd g)) (.untold 185) := by
  have c8 := h.cell 8 (v := .int .u64 tl) rfl
  have f8 := h.fro 8
  have hlt := h.lt
  have h' : Blk _ x (tkCells who nx cl p most left f o v0) 141 := h.set 8 (.int .u64 v0)
  have hB : But [x] w (w.setCell ⟨x, 8, none⟩ (.int .u64 v0)) := (But.refl _ w).set (g := x) (.inl (by simp)) 8 _
  have hl' : Lay (w.setCell ⟨x, 8, none⟩ (.int .u64 v0)) cl P T G := (hB.block cl hl.lt (by simpa using hxc)).trans hl
  generalize hV : w.setCell ⟨x, 8, none⟩ (.int .u64 v0) = V at h' hB hl'
  have c2 := h'.cell 2 (v := .pointer (some ⟨cl, 0, none⟩)) rfl
  have c3 := h'.cell 3 (v := .int .i64 p) rfl
  have c7 := h'.cell 7 (v := .pointer o) rfl
  have HR : Hid (∀ Y, Below V.drew.heap.size V.drew Y → Calls Tryz.prog 97 #[.pointer (some ⟨cl, 0, none⟩), .int .i64 p, .int .u64 v0] Y fun e w' => e = .returned (.int .i64 (wd 20 P 264 p (8 + v0 % 256))) ∧ Below V.drew.heap.size V.drew w') := fun Y k => (layring_any (some ⟨cl, 0, none⟩) P T G p v0 Y (.some cl (Lay.below (w := V.drew) hl' k hl'.lt)) hp hv).mono fun e w' hh => ⟨hh.1, k.trans (hh.2.mono k.size)⟩
  have HG : Hid (∀ Y, Below V.drew.heap.size V.drew Y → Calls Tryz.prog 28 #[.pointer o] Y fun e w' => e = .returned (.int .i64 g) ∧ Y = w') := fun Y k => hg Y (hB.drew.trans (But.of_below k))
  have HQ : Hid (∀ Y, Calls Tryz.prog 112 #[.int .i64 g] Y fun e w' => e = .returned (.int .u64 (qwd g)) ∧ Y = w') := fun Y => q_word2 Y g
  have HS : Hid (∀ w4, Below V.drew.heap.size V.drew w4 → Calls Tryz.prog 113 #[.pointer (some ⟨x, 0, none⟩), .int .i64 (wd 20 P 264 p (8 + v0 % 256)), .int .u64 (qwd g), .func (.func 185) #[.pointer (some ⟨x, 0, none⟩)] #[]] w4 fun e w' => (∃ v, e = .returned v) ∧ Came w w' x (tkCells who nx cl p most left f o v0) 141 (axSt (wd 20 P 264 p (8 + v0 % 256)) (qwd g)) (.untold 185)) := by
    intro w4 k
    have h4 : Blk w4 x (tkCells who nx cl p most left f o v0) 141 := h'.drew.but (But.of_below (l := []) k) (by simp)
    refine (came_store w4 x _ 141 h4 (by simp [tkCells]) _ _ _).mono ?_
    rintro e w5 ⟨hv, hC⟩
    exact ⟨hv, hC.before (hB.drew.trans (But.of_below k))⟩
  generalize wd 20 P 264 p (8 + v0 % 256) = at' at *
  have hD : Hid (Below V.drew.heap.size V.drew V.drew) := Below.refl _ _
  have hH : Hid (V.drew.cell? ⟨x, 2, none⟩ = some (.pointer (some ⟨cl, 0, none⟩)) ∧ V.drew.cell? ⟨x, 3, none⟩ = some (.int .i64 p) ∧ V.drew.cell? ⟨x, 7, none⟩ = some (.pointer o)) := ⟨c2, c3, c7⟩
  have KB : Hid (∀ w4, Below V.drew.heap.size V.drew w4 → w4.cell? ⟨x, 2, none⟩ = some (.pointer (some ⟨cl, 0, none⟩)) ∧ w4.cell? ⟨x, 3, none⟩ = some (.int .i64 p) ∧ w4.cell? ⟨x, 7, none⟩ = some (.pointer o)) := fun w4 k => by
    have h4 : Blk w4 x (tkCells who nx cl p most left f o v0) 141 := h'.drew.but (But.of_below (l := []) k) (by simp)
    exact ⟨h4.cell 2 rfl, h4.cell 3 rfl, h4.cell 7 rfl⟩
  have KC : Hid (∀ w5, Came w w5 x (tkCells who nx cl p most left f o v0) 141 (axSt at' (qwd g)) (.untold 185) → w5.cell? ⟨x, 2, none⟩ = some (.pointer (some ⟨cl, 0, none⟩)) ∧ w5.cell? ⟨x, 3, none⟩ = some (.int .i64 p) ∧ w5.cell? ⟨x, 7, none⟩ = some (.pointer o)) := fun w5 hC => by
    obtain ⟨q, Lc, h1, -⟩ := hC
    exact ⟨h1.cell 2 rfl, h1.cell 3 rfl, h1.cell 7 rfl⟩
  clear h h' hB hl hl' hp hv hg hxc
  go_enter Tryz.func176, Tryz.ntmps176
  go_wp2_with fail
  try rw [hV]
  clear hV c8 f8
  go_region_held3 (fun w' => w'.cell? ⟨x, 2, none⟩ = some (.pointer (some ⟨cl, 0, none⟩)) ∧ w'.cell? ⟨x, 3, none⟩ = some (.int .i64 p) ∧ w'.cell? ⟨x, 7, none⟩ = some (.pointer o)) (first | exact hH.out | exact KB.out _ ‹_› | exact KC.out _ ‹_›) (first | (go_at_call 97; refine (HR.out _ hD.out).mono ?_; rintro e w4 ⟨rfl, k⟩) | (go_at_call 28; refine (HG.out _ ‹_›).mono ?_; rintro e w5 ⟨rfl, rfl⟩) | (go_at_call 112; refine (HQ.out _).mono ?_; rintro e w6 ⟨rfl, rfl⟩) | (go_at_call 113; refine (HS.out _ ‹_›).mono ?_; rintro e w7 ⟨⟨v, rfl⟩, hC⟩))
  all_goals
    clear HR HG HQ HS c2 c3 c7 hH KB KC hD
    go_wp2_with fail
    go_end0
    exact ⟨⟨_, rfl⟩, hC⟩
end
end Go.Proofs.YtiagkeakohkfgaaGreat

namespace Go.Proofs.YtiagkeakohkfgaaGreat
open Go Go.RowKit
set_option linter.unusedVariables false
set_option maxRecDepth 100000
set_option linter.unusedSimpArgs false

inductive TkT where
  | ld
  | none'
  | fst (l : Int) (p : PlT)
  | oth (l : Int) (f p : PlT) (tl : Int)
  | tl (l : Int) (f o : PlT) (tl : Int)
  | st (l : Int) (f o : PlT) (tl : Int)
  | ln (l : Int) (f o : PlT) (tl : Int)
  | over (l : Int) (f : PlT) (o : Option PlT) (tl : Int)
def tkMore (l : Int) (f : PlT) (tl : Int) : TkT := if l ≤ 1 then .over l f none tl else .oth (l - 1) f .ld tl
def tkPM (gl : Int → Int) (P p most : Int) : PM TkT where
  ax := fun
    | .ld => some (axLd 8)
    | .none' => none
    | .fst _ q => (plPM gl).ax q
    | .oth _ _ q _ => (plPM gl).ax q
    | .tl _ _ _ _ => some (axLd (wd 20 P 264 p 2))
    | .st _ _ o tl => some (axSt (wd 20 P 264 p (8 + tl % 256)) (qwd o.obs))
    | .ln _ _ _ tl => some (axSt (wd 20 P 264 p 2) (IntKind.u64.wrap (tl + 1) % 4294967296))
    | .over _ _ _ _ => none
  nx := fun
    | .ld, v => if v = 0 then .none' else .fst (shareOf P most v) .ld
    | .fst l q, v => if ((plPM gl).ax ((plPM gl).nx q v)).isSome = true then .fst l ((plPM gl).nx q v) else tkMore l ((plPM gl).nx q v) 0
    | .oth l f q tl, v => if ((plPM gl).ax ((plPM gl).nx q v)).isSome = true then .oth l f ((plPM gl).nx q v) tl else if ((plPM gl).nx q v).obs = -1 then .over l f (some ((plPM gl).nx q v)) tl else .tl l f ((plPM gl).nx q v) tl
    | .tl l f o _, v => .st l f o v
    | .st l f o tl, _ => .ln l f o tl
    | .ln l f _ tl, _ => tkMore l f tl
    | t, _ => t
/-- Which one is taken. -/
def TkT.obs : TkT → Int
  | .fst _ q => q.obs
  | .oth _ f _ _ => f.obs
  | .tl _ f _ _ => f.obs
  | .st _ f _ _ => f.obs
  | .ln _ f _ _ => f.obs
  | .over _ f _ _ => f.obs
  | _ => -1
def plSub (who : Int) (gl : Int → Int) (cl : Nat) (P T G : Int) : Sub := ⟨PlT, plPM gl, (plFl who cl).I (plPM gl), Rd.lay cl P T G, 64, 29⟩
def ad (k : Nat) : Option Addr := some ⟨k, 0, none⟩
def tkFl (who p most : Int) (cl : Nat) (t : TkT) (es : List Nat) (nx : Option Addr) : Array Value := match t with
  | .ld => tkCells who nx cl p most 0 none none 0
  | .none' => tkCells who nx cl p most 0 none none 0
  | .fst l _ => tkCells who nx cl p most l (ad (es.getD 0 0)) none 0
  | .oth l _ _ tl => tkCells who nx cl p most l (ad (es.getD 0 0)) (ad (es.getD 1 0)) tl
  | .tl l _ _ tl => tkCells who nx cl p most l (ad (es.getD 0 0)) (ad (es.getD 1 0)) tl
  | .st l _ _ tl => tkCells who nx cl p most l (ad (es.getD 0 0)) (ad (es.getD 1 0)) tl
  | .ln l _ _ tl => tkCells who nx cl p most l (ad (es.getD 0 0)) (ad (es.getD 1 0)) tl
  | .over l _ none tl => tkCells who nx cl p most l (ad (es.getD 0 0)) none tl
  | .over l _ (some _) tl => tkCells who nx cl p most l (ad (es.getD 0 0)) (ad (es.getD 1 0)) tl
def PlT.up (gl : Int → Int) (q : PlT) : Prop := ((plPM gl).ax q).isSome = true
def U64' (v : Int) : Prop := 0 ≤ v ∧ v ≤ 18446744073709551615
/-- What lies in memory beside the machine: the pulls that are over. -/
def tkExt (who : Int) (gl : Int → Int) (cl : Nat) (t : TkT) (es : List Nat) (w : World) (Le : List Nat) : Prop := match t with
  | .ld => Le = []
  | .none' => Le = []
  | .fst _ _ => Le = []
  | .oth _ f _ _ => (plFl who cl).I (plPM gl) w (es.getD 0 0) f Le
  | .over _ f none _ => (plFl who cl).I (plPM gl) w (es.getD 0 0) f Le
  | .tl _ f o _ => ∃ Lf Lo, (plFl who cl).I (plPM gl) w (es.getD 0 0) f Lf ∧ (plFl who cl).I (plPM gl) w (es.getD 1 0) o Lo ∧ Le = Lf ++ Lo
  | .st _ f o _ => ∃ Lf Lo, (plFl who cl).I (plPM gl) w (es.getD 0 0) f Lf ∧ (plFl who cl).I (plPM gl) w (es.getD 1 0) o Lo ∧ Le = Lf ++ Lo
  | .ln _ f o _ => ∃ Lf Lo, (plFl who cl).I (plPM gl) w (es.getD 0 0) f Lf ∧ (plFl who cl).I (plPM gl) w (es.getD 1 0) o Lo ∧ Le = Lf ++ Lo
  | .over _ f (some o) _ => ∃ Lf Lo, (plFl who cl).I (plPM gl) w (es.getD 0 0) f Lf ∧ (plFl who cl).I (plPM gl) w (es.getD 1 0) o Lo ∧ Le = Lf ++ Lo
def tkCp (who : Int) (gl : Int → Int) (P T G p most : Int) (cl : Nat) : Cp TkT where
  T := 141
  cells := tkFl who p most cl
  kind := fun
    | .ld => .acc (axLd 8) (.told 110)
    | .none' => .over
    | .fst _ q => .run (plSub who gl cl P T G) q (.fn 145)
    | .oth _ _ q _ => .run (plSub who gl cl P T G) q (.fn 165)
    | .tl _ _ _ _ => .acc (axLd (wd 20 P 264 p 2)) (.told 176)
    | .st _ _ o tl => .acc (axSt (wd 20 P 264 p (8 + tl % 256)) (qwd o.obs)) (.untold 185)
    | .ln _ _ _ tl => .acc (axSt (wd 20 P 264 p 2) (IntKind.u64.wrap (tl + 1) % 4294967296)) (.untold 145)
    | .over _ _ _ _ => .over
  ok := fun
    | .ld => True
    | .none' => True
    | .fst l q => U64' l ∧ PlT.up gl q ∧ (plFl who cl).ok q
    | .oth l _ q tl => U64' l ∧ PlT.up gl q ∧ (plFl who cl).ok q ∧ U64' tl
    | .tl l _ _ tl => U64' l ∧ U64' tl
    | .st l _ _ tl => U64' l ∧ U64' tl
    | .ln l _ _ tl => U64' l ∧ U64' tl
    | .over _ _ _ _ => True
  ext := tkExt who gl cl
  tie := fun t es y => match t with
    | .fst _ _ => es.getD 0 0 = y
    | .oth _ _ _ _ => es.getD 1 0 = y
    | _ => True
theorem ent_tk1 : Ent 110 := fun args w => by kernel_rfl
theorem ent_tk2 : Ent 145 := fun args w => by kernel_rfl
theorem ent_tk3 : Ent 165 := fun args w => by kernel_rfl
theorem ent_tk4 : Ent 176 := fun args w => by kernel_rfl
theorem ent_tk5 : Ent 185 := fun args w => by kernel_rfl
theorem share_bd {P most v : Int} (hv : U64' v) (hm : -9223372036854775808 ≤ most ∧ most ≤ 9223372036854775807) : U64' (shareOf P most v) := by
  obtain ⟨z, hz⟩ : ∃ z, IntKind.u64.wrap (v / P + 1) = z := ⟨_, rfl⟩
  have hzb : 0 ≤ z ∧ z ≤ 18446744073709551615 := by rw [← hz]; generalize v / P + 1 = y; simp [IntKind.wrap, IntKind.bits, IntKind.signed]; omega
  unfold shareOf U64' at *
  rw [hz]
  split <;> (repeat' split) <;> omega
theorem pl_live_ax {gl : Int → Int} {q : PlT} (h : ¬ PlT.up gl q) : (plPM gl).ax q = none := by
  unfold PlT.up at h
  cases hq : (plPM gl).ax q
  · rfl
  · rw [hq] at h; exact absurd rfl h

section
variable {who P T G p most : Int} {gl : Int → Int} {cl : Nat} {W w' : World} {x : Nat} {t t' : TkT} {a : Ax} {f : Fol} {es Le Le' : List Nat}
theorem tk_land_acc (h : Came W w' x (tkFl who p most cl t es none) 141 a f) (hok : (tkCp who gl P T G p most cl).ok t) (hk : (tkCp who gl P T G p most cl).kind t = .acc a f) (hx : x < W.heap.size) (he : tkExt who gl cl t es w' Le') (hxe : x ∉ Le') (hle : ∀ k ∈ Le', k ∈ Le ∧ k < W.heap.size) : (tkCp who gl P T G p most cl).Land W w' x t Le := by
  obtain ⟨q, Lc, c1, c2, c3, c4⟩ := h
  refine ⟨c3, x :: (Lc ++ Le'), ⟨hok, es, Le', he, hxe, ?_⟩, fun k hm => by simp at hm; rcases hm with rfl | hm | hm; exact .inl rfl; exact .inr (.inr (c4 k hm)); exact .inr (.inl (hle k hm).1)⟩
  rw [hk]
  refine ⟨q, Lc, ?_, c2, fun hm => absurd (c4 x hm) (by omega), (fun k hm h => by have := c4 k hm; have := (hle k h).2; omega), rfl⟩
  have e : (tkFl who p most cl t es none).setIfInBounds 1 (.pointer (some ⟨q, 0, none⟩)) = tkFl who p most cl t es (some ⟨q, 0, none⟩) := by cases t <;> first | rfl | (rename_i o _; cases o <;> rfl)
  rw [e] at c1
  exact c1
theorem tk_land_run {y q g : Nat} {L : List Nat} {af : After} {pt : PlT} (hC : CameBox W w' x (tkFl who p most cl t es none) 141 (fun v => comCells 0 0 0 0 0 false (.iface 64 (.pointer (some ⟨y, 0, none⟩))) v false false) (af.fol.box x) q g) (hM : (plFl who cl).I (plPM gl) w' y pt L) (hL : ∀ k ∈ L, W.heap.size ≤ k) (hq : q ∉ L) (hg : g ∉ L) (hok : (tkCp who gl P T G p most cl).ok t) (hk : (tkCp who gl P T G p most cl).kind t = .run (plSub who gl cl P T G) pt af) (htie : (tkCp who gl P T G p most cl).tie t es y) (hx : x < W.heap.size) (he : tkExt who gl cl t es w' Le') (hxe : x ∉ Le') (hle : ∀ k ∈ Le', k ∈ Le ∧ k < W.heap.size) : (tkCp who gl P T G p most cl).Land W w' x t Le := by
  refine ⟨hC.at'.but, ?_⟩
  have hfq := hC.at'.fresh
  have hfb := hC.fresh
  refine ⟨x :: q :: g :: (L ++ Le'), ⟨hok, es, Le', he, hxe, ?_⟩, fun k hm => ?_⟩
  · rw [hk]
    refine ⟨q, y, g, L, RunAt.of hC (fun nx => ?_), hM, htie, ?_, hq, hg, fun k hm h => ?_, rfl⟩
    · cases t <;> first | rfl | (rename_i o _; cases o <;> rfl)
    · simp only [List.mem_cons, not_or]
      exact ⟨by omega, by omega, fun hm => by have := hL x hm; omega⟩
    · have h2 := (hle k h).2
      simp only [List.mem_cons] at hm
      rcases hm with rfl | rfl | hm
      · omega
      · omega
      · have := hL k hm; omega
  · simp only [List.mem_cons, List.mem_append] at hm
    rcases hm with rfl | rfl | rfl | hm | hm
    · exact .inl rfl
    · exact .inr (.inr hfq)
    · exact .inr (.inr hfb)
    · exact .inr (.inr (hL k hm))
    · exact .inr (.inl (hle k hm).1)
end
end Go.Proofs.YtiagkeakohkfgaaGreat

namespace Go.Proofs.YtiagkeakohkfgaaGreat
open Go Go.RowKit
set_option linter.unusedVariables false
set_option maxRecDepth 100000
set_option linter.unusedSimpArgs false

section
variable {who P T G p most : Int} {cl : Nat}
theorem pl_ok_nx {gl : Int → Int} {q : PlT} {v : Int} (hok : (plFl who cl).ok q) (hv : U64' v) : (plFl who cl).ok ((plPM gl).nx q v) := by
  cases q with
  | ld => by_cases h0 : v = 0 <;> simp [plPM, plFl, h0]
  | lnk y => exact hv
  | un y l => by_cases h0 : l = 0 <;> simp [plPM, plFl, h0]
  | tl y => exact trivial
  | ct y l => exact trivial
  | none' => exact trivial
  | over y l => exact trivial
theorem tk_more (W : World) (x : Nat) (l tl : Int) (f : PlT) (o : Option Addr) (es Le Lf : List Nat) (hP : 1 ≤ P ∧ P ≤ 64) (hT : 0 ≤ T ∧ T ≤ 65536) (hG : 0 ≤ G ∧ G ≤ 65536) (hB : Blk W x (tkCells who none cl p most l (ad (es.getD 0 0)) o tl) 141) (hf : (plFl who cl).I (plPM (fun y => wd (20 + P * 264 + T * 3) G 2 y 1)) W (es.getD 0 0) f Lf) (hl : U64' l) (htl : U64' tl) (hxf : x ∉ Lf) (hLf : ∀ k ∈ Lf, k ∈ Le) :
    Calls Tryz.prog 145 #[.pointer (some ⟨x, 0, none⟩)] W fun e w' => (∃ u, e = .returned u) ∧ (tkCp who (fun y => wd (20 + P * 264 + T * 3) G 2 y 1) P T G p most cl).Land W w' x (tkMore l f tl) Le := by
  have hgd := Fl.good (pl_laws who P T G cl (by omega) hT hG)
  have hlf := hgd.lt hf
  by_cases h1 : l ≤ 1
  · have e : tkMore l f tl = .over l f none tl := if_pos h1
    rw [e]
    refine (take_more_end W x cl who p most l tl none _ o hB h1).mono ?_
    rintro e w' ⟨hu, hb, hbu⟩
    refine ⟨hu, hbu, x :: Lf, ⟨trivial, es, Lf, hgd.keep hf hbu (fun k hk hm => by simp at hm; exact hxf (hm ▸ hk)), hxf, hb, rfl⟩, fun k hm => ?_⟩
    simp only [List.mem_cons] at hm
    rcases hm with rfl | hm
    · exact .inl rfl
    · exact .inr (.inl (hLf k hm))
  · have e : tkMore l f tl = .oth (l - 1) f .ld tl := if_neg h1
    rw [e]
    refine (take_more_on W x cl who p most l tl P T G none _ o (by omega) hT hG hB ⟨by omega, hl.2⟩).mono ?_
    rintro e w' ⟨hu, y, L, q, g, hC, hM, hL, hq, hg⟩
    have hfk := hgd.keep hf hC.at'.but (fun k hk hm => by simp at hm; exact hxf (hm ▸ hk))
    exact ⟨hu, tk_land_run (t := .oth (l - 1) f .ld tl) (es := [es.getD 0 0, y]) (pt := .ld) (af := .fn 165) hC hM hL hq hg ⟨⟨by have := hl.1; omega, by have := hl.2; omega⟩, rfl, trivial, htl⟩ rfl rfl hB.lt hfk hxf (fun k hk => ⟨hLf k hk, hlf k hk⟩)⟩

set_option maxHeartbeats 4000000 in
theorem tk_laws (hP : 1 ≤ P ∧ P ≤ 64) (hT : 0 ≤ T ∧ T ≤ 65536) (hG : 0 ≤ G ∧ G ≤ 65536) (hm : -9223372036854775808 ≤ most ∧ most ≤ 9223372036854775807) :
    (tkCp who (fun y => wd (20 + P * 264 + T * 3) G 2 y 1) P T G p most cl).Laws (tkPM (fun y => wd (20 + P * 264 + T * 3) G 2 y 1) P p most) (Rd.lay cl P T G) who where
  c0 := fun t es nx => by cases t <;> first | rfl | (rename_i o _; cases o <;> rfl)
  c1 := fun t es nx => by cases t <;> first | rfl | (rename_i o _; cases o <;> rfl)
  set := fun t es nx nx' => by cases t <;> first | rfl | (rename_i o _; cases o <;> rfl)
  k0 := fun t hok hk => by cases t <;> first | rfl | cases hk
  k1 := fun t a f hok hk => by
    cases t with
    | ld => cases hk; exact ⟨rfl, axLd_ok _, ent_tk1⟩
    | tl l f o tl => cases hk; exact ⟨rfl, axLd_ok _, ent_tk4⟩
    | st l f o tl => cases hk; exact ⟨rfl, axSt_ok _ _ (qwd_bd _), ent_tk5⟩
    | ln l f o tl => cases hk; exact ⟨rfl, axSt_ok _ _ (by omega), ent_tk2⟩
    | _ => cases hk
  k2 := fun t S q af hok hk => by
    cases t with
    | fst l q => cases hk; exact ⟨rfl, hok.2.1, ent_tk2, fun a ha => (pl_laws who P T G cl (by omega) hT hG).axok _ a hok.2.2 ha⟩
    | oth l f q tl => cases hk; exact ⟨rfl, hok.2.1, ent_tk3, fun a ha => (pl_laws who P T G cl (by omega) hT hG).axok _ a hok.2.2.1 ha⟩
    | _ => cases hk
  sub := fun t S q af hok hk => by
    have hl := pl_laws who P T G cl (by omega) hT hG
    cases t with
    | fst l q => cases hk; exact ⟨Fl.steps hl stepby_qpull, Fl.good hl, act_qpull, fun w h => h, fun k h => h⟩
    | oth l f q tl => cases hk; exact ⟨Fl.steps hl stepby_qpull, Fl.good hl, act_qpull, fun w h => h, fun k h => h⟩
    | _ => cases hk
  on := fun t S q af v hok hk hv hs => by
    cases t with
    | fst l q =>
      cases hk
      have e : (tkPM (fun y => wd (20 + P * 264 + T * 3) G 2 y 1) P p most).nx (.fst l q) v = .fst l ((plPM (fun y => wd (20 + P * 264 + T * 3) G 2 y 1)).nx q v) := if_pos hs
      rw [e]
      exact ⟨⟨hok.1, hs, pl_ok_nx hok.2.2 hv⟩, rfl, fun _ => rfl, fun _ _ _ h => h, fun _ _ h => h⟩
    | oth l f q tl =>
      cases hk
      have e : (tkPM (fun y => wd (20 + P * 264 + T * 3) G 2 y 1) P p most).nx (.oth l f q tl) v = .oth l f ((plPM (fun y => wd (20 + P * 264 + T * 3) G 2 y 1)).nx q v) tl := if_pos hs
      rw [e]
      exact ⟨⟨hok.1, hs, pl_ok_nx hok.2.2.1 hv, hok.2.2.2⟩, rfl, fun _ => rfl, fun _ _ _ h => h, fun _ _ h => h⟩
    | _ => cases hk
  ekeep := fun t es w w' ll Le he hb hk => by
    have hgd := Fl.good (pl_laws who P T G cl (by omega) hT hG)
    have two : ∀ f o, (∃ Lf Lo, (plFl who cl).I (plPM (fun y => wd (20 + P * 264 + T * 3) G 2 y 1)) w (es.getD 0 0) f Lf ∧ (plFl who cl).I (plPM (fun y => wd (20 + P * 264 + T * 3) G 2 y 1)) w (es.getD 1 0) o Lo ∧ Le = Lf ++ Lo) → (∃ Lf Lo, (plFl who cl).I (plPM (fun y => wd (20 + P * 264 + T * 3) G 2 y 1)) w' (es.getD 0 0) f Lf ∧ (plFl who cl).I (plPM (fun y => wd (20 + P * 264 + T * 3) G 2 y 1)) w' (es.getD 1 0) o Lo ∧ Le = Lf ++ Lo) := by
      rintro f o ⟨Lf, Lo, h1, h2, rfl⟩
      exact ⟨Lf, Lo, hgd.keep h1 hb (fun k hm => hk k (List.mem_append_left _ hm)), hgd.keep h2 hb (fun k hm => hk k (List.mem_append_right _ hm)), rfl⟩
    cases t with
    | ld => exact he
    | none' => exact he
    | fst l q => exact he
    | oth l f q tl => exact hgd.keep he hb hk
    | tl l f o tl => exact two f o he
    | st l f o tl => exact two f o he
    | ln l f o tl => exact two f o he
    | over l f o tl =>
      cases o with
      | none => exact hgd.keep he hb hk
      | some o => exact two f o he
  elt := fun t es w Le he k hk => by
    have hgd := Fl.good (pl_laws who P T G cl (by omega) hT hG)
    have two : ∀ f o, (∃ Lf Lo, (plFl who cl).I (plPM (fun y => wd (20 + P * 264 + T * 3) G 2 y 1)) w (es.getD 0 0) f Lf ∧ (plFl who cl).I (plPM (fun y => wd (20 + P * 264 + T * 3) G 2 y 1)) w (es.getD 1 0) o Lo ∧ Le = Lf ++ Lo) → k < w.heap.size := by
      rintro f o ⟨Lf, Lo, h1, h2, rfl⟩
      rcases List.mem_append.1 hk with hm | hm
      · exact hgd.lt h1 k hm
      · exact hgd.lt h2 k hm
    cases t with
    | ld => rw [show Le = [] from he] at hk; cases hk
    | none' => rw [show Le = [] from he] at hk; cases hk
    | fst l q => rw [show Le = [] from he] at hk; cases hk
    | oth l f q tl => exact hgd.lt he k hk
    | tl l f o tl => exact two f o he
    | st l f o tl => exact two f o he
    | ln l f o tl => exact two f o he
    | over l f o tl =>
      cases o with
      | none => exact hgd.lt he k hk
      | some o => exact two f o he
  fol := fun W x t a f v es Le hok hk hv hB he hxe hR hxR => by
    have hlt := hB.lt
    have hcx : cl ≠ x := fun e => hxR (by rw [e]; exact List.mem_singleton.2 rfl)
    have hgd := Fl.good (pl_laws who P T G cl (by omega) hT hG)
    cases t with
    | fst l q => cases hk
    | oth l f q tl => cases hk
    | none' => cases hk
    | over l f o tl => cases hk
    | ld =>
      cases hk
      obtain rfl : Le = [] := he
      by_cases h0 : v = 0
      · subst h0
        refine (take_begin_none W x).mono ?_
        rintro e w' ⟨hu, rfl⟩
        exact ⟨hu, But.refl _ _, x :: [], ⟨trivial, [], [], rfl, by simp, hB, rfl⟩, fun k hm => by simp at hm; exact .inl hm⟩
      · have e : (tkPM (fun y => wd (20 + P * 264 + T * 3) G 2 y 1) P p most).nx .ld v = .fst (shareOf P most v) .ld := if_neg h0
        rw [e]
        refine (take_begin W x cl who p most 0 0 P T G v none none none hP hR hv hm hT hG hB h0).mono ?_
        rintro e w' ⟨hu, y, L, q, g, hC, hM, hL, hq, hg⟩
        have hC2 : CameBox W w' x (tkFl who p most cl (.fst (shareOf P most v) .ld) [y] none) 141 (fun v => comCells 0 0 0 0 0 false (.iface 64 (.pointer (some ⟨y, 0, none⟩))) v false false) ((After.fn 145).fol.box x) q g := hC
        exact ⟨hu, tk_land_run (t := .fst (shareOf P most v) .ld) (es := [y]) (Le' := []) (pt := .ld) (af := .fn 145) hC2 hM hL hq hg ⟨share_bd hv hm, rfl, trivial⟩ rfl rfl hlt rfl (by simp) (fun k hk => by cases hk)⟩
    | tl l f o tl0 =>
      cases hk
      obtain ⟨Lf, Lo, h1, h2, rfl⟩ := he
      have hxf : x ∉ Lf := fun hm => hxe (List.mem_append_left _ hm)
      have hxo : x ∉ Lo := fun hm => hxe (List.mem_append_right _ hm)
      refine (take_lay2 W x cl who p most l tl0 P T G none _ (ad (es.getD 1 0)) hB hR (by omega) v o.obs hv hcx (fun Y hY => pl_g (hgd.keep h2 hY (fun k hk hm => by simp at hm; exact hxo (hm ▸ hk))))).mono ?_
      rintro e w' ⟨hu, hC⟩
      obtain ⟨q, Lc, c1, c2, c3, c4⟩ := hC
      exact ⟨hu, tk_land_acc (t := .st l f o v) (es := es) (Le' := Lf ++ Lo) ⟨q, Lc, c1, c2, c3, c4⟩ ⟨hok.1, hv⟩ rfl hlt ⟨Lf, Lo, hgd.keep h1 c3 (fun k hk hm => by simp at hm; exact hxf (hm ▸ hk)), hgd.keep h2 c3 (fun k hk hm => by simp at hm; exact hxo (hm ▸ hk)), rfl⟩ hxe (fun k hk => ⟨hk, by rcases List.mem_append.1 hk with h | h; exact hgd.lt h1 k h; exact hgd.lt h2 k h⟩)⟩
    | st l f o tl0 =>
      cases hk
      obtain ⟨Lf, Lo, h1, h2, rfl⟩ := he
      have hxf : x ∉ Lf := fun hm => hxe (List.mem_append_left _ hm)
      have hxo : x ∉ Lo := fun hm => hxe (List.mem_append_right _ hm)
      refine (take_lengthen W x cl who p most l tl0 P T G none _ (ad (es.getD 1 0)) hB hR (by omega) hok.2).mono ?_
      rintro e w' ⟨hu, hC⟩
      obtain ⟨q, Lc, c1, c2, c3, c4⟩ := hC
      exact ⟨hu, tk_land_acc (t := .ln l f o tl0) (es := es) (Le' := Lf ++ Lo) ⟨q, Lc, c1, c2, c3, c4⟩ hok rfl hlt ⟨Lf, Lo, hgd.keep h1 c3 (fun k hk hm => by simp at hm; exact hxf (hm ▸ hk)), hgd.keep h2 c3 (fun k hk hm => by simp at hm; exact hxo (hm ▸ hk)), rfl⟩ hxe (fun k hk => ⟨hk, by rcases List.mem_append.1 hk with h | h; exact hgd.lt h1 k h; exact hgd.lt h2 k h⟩)⟩
    | ln l f o tl0 =>
      cases hk
      obtain ⟨Lf, Lo, h1, h2, rfl⟩ := he
      exact tk_more W x l tl0 f (ad (es.getD 1 0)) es (Lf ++ Lo) Lf hP hT hG hB h1 hok.1 hok.2 (fun hm => hxe (List.mem_append_left _ hm)) (fun k hk => List.mem_append_left _ hk)
  aft := fun W x y t S q af v es Le Li hok hk hv hn hB hin hty he hxe hxi hd hR hxR => by
    have hlt := hB.lt
    have hgd := Fl.good (pl_laws who P T G cl (by omega) hT hG)
    cases t with
    | fst l q =>
      cases hk
      obtain rfl : Le = [] := he
      have hty' : es.getD 0 0 = y := hty
      have e : (tkPM (fun y => wd (20 + P * 264 + T * 3) G 2 y 1) P p most).nx (.fst l q) v = tkMore l ((plPM (fun y => wd (20 + P * 264 + T * 3) G 2 y 1)).nx q v) 0 := if_neg (fun h => by rw [show (plPM (fun y => wd (20 + P * 264 + T * 3) G 2 y 1)).ax ((plPM (fun y => wd (20 + P * 264 + T * 3) G 2 y 1)).nx q v) = none from hn] at h; cases h)
      rw [e]
      exact tk_more W x l 0 _ none es (Li ++ []) Li hP hT hG hB (by rw [hty']; exact hin) hok.1 ⟨by omega, by omega⟩ hxi (fun k hk => List.mem_append_left _ hk)
    | oth l f q tl0 =>
      cases hk
      have hty' : es.getD 1 0 = y := hty
      have hxo : x ∉ Li := hxi
      have hin' : (plFl who cl).I (plPM (fun y => wd (20 + P * 264 + T * 3) G 2 y 1)) W (es.getD 1 0) ((plPM (fun y => wd (20 + P * 264 + T * 3) G 2 y 1)).nx q v) Li := by rw [hty']; exact hin
      have hef : (plFl who cl).I (plPM (fun y => wd (20 + P * 264 + T * 3) G 2 y 1)) W (es.getD 0 0) f Le := he
      have hsn : ¬ ((plPM (fun y => wd (20 + P * 264 + T * 3) G 2 y 1)).ax ((plPM (fun y => wd (20 + P * 264 + T * 3) G 2 y 1)).nx q v)).isSome = true := fun h => by rw [show (plPM (fun y => wd (20 + P * 264 + T * 3) G 2 y 1)).ax ((plPM (fun y => wd (20 + P * 264 + T * 3) G 2 y 1)).nx q v) = none from hn] at h; cases h
      by_cases ho : ((plPM (fun y => wd (20 + P * 264 + T * 3) G 2 y 1)).nx q v).obs = -1
      · have e : (tkPM (fun y => wd (20 + P * 264 + T * 3) G 2 y 1) P p most).nx (.oth l f q tl0) v = .over l f (some ((plPM (fun y => wd (20 + P * 264 + T * 3) G 2 y 1)).nx q v)) tl0 := (if_neg hsn).trans (if_pos ho)
        rw [e]
        refine (take_look_none W x cl who p most l tl0 none _ (ad (es.getD 1 0)) hB (fun Y hY => by have := pl_g (hgd.below hin' hY); rw [ho] at this; exact this)).mono ?_
        rintro e w' ⟨hu, rfl⟩
        refine ⟨hu, But.refl _ _, x :: (Le ++ Li), ⟨trivial, es, Le ++ Li, ⟨Le, Li, hef, hin', rfl⟩, fun hm => by rcases List.mem_append.1 hm with h | h; exact hxe h; exact hxi h, hB, rfl⟩, fun k hm => ?_⟩
        simp only [List.mem_cons, List.mem_append] at hm ⊢
        rcases hm with rfl | hm | hm
        · exact .inl rfl
        · exact .inr (.inl (.inr hm))
        · exact .inr (.inl (.inl hm))
      · have e : (tkPM (fun y => wd (20 + P * 264 + T * 3) G 2 y 1) P p most).nx (.oth l f q tl0) v = .tl l f ((plPM (fun y => wd (20 + P * 264 + T * 3) G 2 y 1)).nx q v) tl0 := (if_neg hsn).trans (if_neg ho)
        rw [e]
        refine (take_look_some W x cl who p most l tl0 P T G none _ (ad (es.getD 1 0)) hB hR (by omega) _ ho (fun Y hY => pl_g (hgd.below hin' hY))).mono ?_
        rintro e w' ⟨hu, hC⟩
        obtain ⟨qq, Lc, c1, c2, c3, c4⟩ := hC
        exact ⟨hu, tk_land_acc (t := .tl l f _ tl0) (es := es) (Le' := Le ++ Li) ⟨qq, Lc, c1, c2, c3, c4⟩ ⟨hok.1, hok.2.2.2⟩ rfl hlt ⟨Le, Li, hgd.keep hef c3 (fun k hk hm => by simp at hm; exact hxe (hm ▸ hk)), hgd.keep hin' c3 (fun k hk hm => by simp at hm; exact hxo (hm ▸ hk)), rfl⟩ (fun hm => by rcases List.mem_append.1 hm with h | h; exact hxe h; exact hxi h) (fun k hk => by
          rcases List.mem_append.1 hk with h | h
          · exact ⟨List.mem_append_right _ h, hgd.lt hef k h⟩
          · exact ⟨List.mem_append_left _ h, hgd.lt hin' k h⟩)⟩
    | _ => cases hk

theorem tk_fresh (w : World) (gl : Int → Int) :
    Calls Tryz.prog 61 #[.pointer (some ⟨cl, 0, none⟩), .int .i64 who, .int .i64 p, .int .i64 most] w fun e w' => ∃ x L, e = .returned (.pointer (some ⟨x, 0, none⟩)) ∧ (tkCp who gl P T G p most cl).I w' x .ld L ∧ Below w.heap.size w w' ∧ (∀ k ∈ L, w.heap.size ≤ k) := by
  refine (take_new w cl who p most).mono ?_
  rintro e w' ⟨x, q, Lc, rfl, h1, h2, h3, h4, h5, h6⟩
  refine ⟨x, x :: (Lc ++ []), rfl, ⟨trivial, [], [], rfl, by simp, q, Lc, h1, h2, h3, (fun k _ h => by cases h), rfl⟩, h4, fun k hk => ?_⟩
  simp at hk
  rcases hk with rfl | hk
  · exact h6
  · exact h5 k hk
/-- Which one is taken, of a machine that is over. -/
theorem tk_g {gl : Int → Int} {w : World} {x : Nat} {L : List Nat} {l tl : Int} {f : PlT} {o : Option PlT} (h : (tkCp who gl P T G p most cl).I w x (.over l f o tl) L) :
    Calls Tryz.prog 32 #[.pointer (some ⟨x, 0, none⟩)] w fun e w' => e = .returned (.int .i64 f.obs) ∧ w = w' := by
  obtain ⟨hok, es, Le, he, hxe, h⟩ := h
  obtain ⟨hb, -⟩ := h
  cases o with
  | none => exact take_g w x cl who p most l tl f.obs none _ none hb (pl_g he)
  | some o =>
    obtain ⟨Lf, Lo, h1, h2, -⟩ := he
    exact take_g w x cl who p most l tl f.obs none _ _ hb (pl_g h1)
end
end Go.Proofs.YtiagkeakohkfgaaGreat

namespace Go.Proofs.YtiagkeakohkfgaaGreat
open Go Go.RowKit
set_option linter.unusedVariables false
set_option maxRecDepth 100000
set_option linter.unusedSimpArgs false

theorem row_mono2 {w : World} {base base' : Nat} {e : TypeId} {size : Nat} {v : Value} {n : Nat} {xs : List Value} (h : w.ownsRow base e size v n xs) (hb : base' ≤ base) : w.ownsRow base' e size v n xs := by
  refine ⟨h.1, ?_⟩
  rcases h.2 with h0 | ⟨gb, cp, cur, e0, hb0, rest⟩
  · exact .inl h0
  · exact .inr ⟨gb, cp, cur, e0, Nat.le_trans hb hb0, rest⟩
theorem qlist_link (w : World) (bx cl : Nat) (P T G : Int) (hp : 0 ≤ P ∧ P ≤ 64) (hT : 0 ≤ T ∧ T ≤ 65536) (hG : G ≤ 65536) (hb : Blk w bx #[.pointer (some ⟨cl, 0, none⟩)] 29) (hl : Lay w cl P T G) (g : Int) :
    Calls Tryz.prog 82 #[.int .i64 g, .pointer (some ⟨bx, 0, none⟩)] w fun e w' => e = .returned (.int .i64 (wd (20 + P * 264 + T * 3) G 2 g 1)) ∧ Below w.heap.size w w' := by
  have c0 := hb.cell 0 (v := .pointer (some ⟨cl, 0, none⟩)) rfl
  have hW := g_word cl P T G g 1 w hl hp hT hG
  clear hb hl hp hT hG
  go_enter Tryz.func82, Tryz.ntmps82
  go_wp2_with fail
  go_at_call 83; refine hW.mono ?_; rintro e w1 ⟨rfl, h1⟩
  go_wp2_with fail
  go_ret
  exact ⟨rfl, h1⟩

set_option maxHeartbeats 4000000 in
theorem qlist_any (w : World) (A : Option Addr) (cap c b n cl : Nat) (s : St) (P T G : Int) (hI : Is w 135 A cap c b n s) (hn : n ≤ 1000000) (hl : Lay w cl P T G) (hp : 0 ≤ P ∧ P ≤ 64) (hT : 0 ≤ T ∧ T ≤ 65536) (hG : 0 ≤ G ∧ G ≤ 65536) :
    Calls Tryz.prog 21 #[.pointer (some ⟨cl, 0, none⟩), .pointer (some ⟨c, 0, none⟩)] w fun e w' => ∃ v, e = .returned (.tuple #[v, .bool (lsOf (fun g => peekT n s (wd (20 + P * 264 + T * 3) G 2 g 1)) G (peekT n s 6)).2]) ∧ IntsOn w' w.heap.size v (lsOf (fun g => peekT n s (wd (20 + P * 264 + T * 3) G 2 g 1)) G (peekT n s 6)).1 ∧ Below w.heap.size w w' := by
  have hbx : Hid (Blk (w.alloc (.cells #[.pointer (some ⟨cl, 0, none⟩)] 29)) w.heap.size #[.pointer (some ⟨cl, 0, none⟩)] 29) := Blk.new _ _ _
  have HB : Hid (Below w.heap.size w (w.alloc (.cells #[.pointer (some ⟨cl, 0, none⟩)] 29))) := (Below.refl _ _).alloc (Nat.le_refl _) _
  have hfc := field_c2
  have hW : ∀ Y, Calls Tryz.prog 80 #[.pointer (some ⟨cl, 0, none⟩), .int .i64 6] Y fun e w' => e = .returned (.int .i64 6) ∧ Y = w' := fun Y => glob_word_6 Y cl
  have HC : Hid (∀ Y, Below w.heap.size w Y → Calls Tryz.prog 81 #[.pointer (some ⟨cl, 0, none⟩)] Y fun e w' => e = .returned (.agg #[.int .i64 P, .int .i64 T, .int .i64 G]) ∧ Below Y.heap.size Y w') := fun Y hY => config_any _ P T G Y (.some cl (hl.below hY hl.lt))
  have hent : Ent 82 := fun args w => by kernel_rfl
  have HL : Hid (∀ Y, Below w.heap.size w Y → Blk Y w.heap.size #[.pointer (some ⟨cl, 0, none⟩)] 29 → Calls Tryz.prog 79 #[.pointer (some ⟨c, 0, none⟩), .int .i64 6, .int .i64 G, .func (.func 82) #[] #[.pointer (some ⟨w.heap.size, 0, none⟩)]] Y fun e w' => ∃ v, e = .returned (.tuple #[v, .bool (lsOf (fun g => peekT n s (wd (20 + P * 264 + T * 3) G 2 g 1)) G (peekT n s 6)).2]) ∧ IntsOn w' w.heap.size v (lsOf (fun g => peekT n s (wd (20 + P * 264 + T * 3) G 2 g 1)) G (peekT n s 6)).1 ∧ Below Y.heap.size Y w') := fun Y hY hB => by
    refine (links_any Y A cap c b n s 6 G 82 w.heap.size (fun g => wd (20 + P * 264 + T * 3) G 2 g 1) (hI.below hY) hn hG hent (fun W hW g => qlist_link W w.heap.size cl P T G hp hT hG.2 (hB.but (But.of_below (l := []) hW) (by simp)) (hl.below (seq hY hW) hl.lt) g)).mono ?_
    rintro e w' ⟨v, rfl, h1, h2⟩
    exact ⟨v, rfl, ⟨row_mono2 h1.own (by have := hY.size; omega)⟩, h2⟩
  generalize lsOf (fun g => peekT n s (wd (20 + P * 264 + T * 3) G 2 g 1)) G (peekT n s 6) = r at *
  clear hI hl hn hp hT hG hent
  go_enter Tryz.func21, Tryz.ntmps21
  go_wp2_with fail
  have hsz : (w.alloc (.cells #[.pointer (some ⟨cl, 0, none⟩)] 29)).heap.size = w.heap.size + 1 := World.size_alloc _ _
  generalize hY0 : w.alloc (.cells #[.pointer (some ⟨cl, 0, none⟩)] 29) = Y at *
  have k0 := hbx.out.cell 0 (v := .pointer (some ⟨cl, 0, none⟩)) rfl
  have hC := HC.out Y.drew HB.out.drew
  have HS : Hid (∀ w4, Below Y.drew.heap.size Y.drew w4 → w4.cell? ⟨w.heap.size, 0, none⟩ = some (.pointer (some ⟨cl, 0, none⟩)) ∧ Calls Tryz.prog 79 #[.pointer (some ⟨c, 0, none⟩), .int .i64 6, .int .i64 G, .func (.func 82) #[] #[.pointer (some ⟨w.heap.size, 0, none⟩)]] w4 fun e w' => ∃ v, e = .returned (.tuple #[v, .bool r.2]) ∧ IntsOn w' w.heap.size v r.1 ∧ Below w.heap.size w w') := fun w4 k => by
    have h1 : Below w.heap.size w w4 := HB.out.trans ((show Below Y.heap.size Y w4 from (Below.refl _ Y).drew.trans k).mono (by omega))
    have h2 : Blk w4 w.heap.size #[.pointer (some ⟨cl, 0, none⟩)] 29 := hbx.out.drew.but (But.of_below (l := []) k) (by simp)
    refine ⟨h2.cell 0 rfl, (HL.out w4 h1 h2).mono ?_⟩
    rintro e w' ⟨v, rfl, h3, h4⟩
    exact ⟨v, rfl, h3, seq h1 h4⟩
  clear HC HL hbx HB hY0
  go_region_with (first | (go_at_call 80; refine (hW _).mono ?_; rintro e w3 ⟨rfl, rfl⟩) | (go_at_call 81; refine hC.mono ?_; rintro e w4 ⟨rfl, k⟩; obtain ⟨k4, hS⟩ := HS.out _ k) | (go_at_call 79; refine hS.mono ?_; rintro e w5 ⟨v, rfl, h3, h4⟩))
  all_goals
    clear hW hC HS hS k0
    go_wp2_with fail
    go_returns
    exact ⟨v, rfl, h3, h4⟩
end Go.Proofs.YtiagkeakohkfgaaGreat

namespace Go.Proofs.YtiagkeakohkfgaaGreat
open Go Go.RowKit
set_option linter.unusedVariables false
set_option maxRecDepth 100000
set_option linter.unusedSimpArgs false

theorem mny_any (h t : Int) (w : World) (hh : 0 ≤ h ∧ h ≤ 18446744073709551615) (ht : 0 ≤ t ∧ t ≤ 18446744073709551615) :
    Calls Tryz.prog 135 #[.int .u64 h, .int .u64 t] w fun e w' => e = .returned (.int .u64 ((t - h) % 4294967296)) ∧ w = w' := by
  have e1 : IntKind.u64.wrap (t - h) = (t - h) % 18446744073709551616 := by simp [IntKind.wrap, IntKind.bits, IntKind.signed]
  have hb : 0 ≤ (t - h) % 18446744073709551616 := Int.emod_nonneg _ (by omega)
  have e2 : Int.tmod ((t - h) % 18446744073709551616) 4294967296 = (t - h) % 4294967296 := by
    rw [Int.tmod_eq_emod_of_nonneg hb]
    omega
  have e3 : IntKind.u64.wrap ((t - h) % 4294967296) = (t - h) % 4294967296 := wrap_u64 (by omega)
  go_enter Tryz.func135, Tryz.ntmps135
  go_wp2_with fail
  go_ret
  first
    | exact ⟨rfl, rfl⟩
    | exact ⟨by rw [e1, e2, e3], rfl⟩
    | exact ⟨by rw [e1, e2], rfl⟩

theorem rmny_any (h t : Int) (w : World) (hh : 0 ≤ h ∧ h ≤ 18446744073709551615) (ht : 0 ≤ t ∧ t ≤ 18446744073709551615) :
    Calls Tryz.prog 93 #[.int .u64 h, .int .u64 t] w fun e w' => e = .returned (.int .u64 ((t - h) % 4294967296)) ∧ w = w' := by
  have e1 : Int.tmod h 4294967296 = h % 4294967296 := Int.tmod_eq_emod_of_nonneg hh.1
  have e2 : Int.tmod t 4294967296 = t % 4294967296 := Int.tmod_eq_emod_of_nonneg ht.1
  have e3 : IntKind.u64.wrap (h % 4294967296) = h % 4294967296 := wrap_u64 (by omega)
  have e4 : IntKind.u64.wrap (t % 4294967296) = t % 4294967296 := wrap_u64 (by omega)
  by_cases hlt : t % 4294967296 < h % 4294967296
  · have e5 : IntKind.u64.wrap (t % 4294967296 + 4294967296) = t % 4294967296 + 4294967296 := wrap_u64 (by omega)
    have e6 : IntKind.u64.wrap (t % 4294967296 + 4294967296 - h % 4294967296) = (t - h) % 4294967296 := by rw [wrap_u64 (by omega)]; omega
    go_enter Tryz.func93, Tryz.ntmps93
    go_wp2_with fail
    go_ret
    first
      | exact ⟨rfl, rfl⟩
      | exact ⟨by rw [← e6], rfl⟩
  · have d : decide (t % 4294967296 < h % 4294967296) = false := decide_eq_false hlt
    have e6 : IntKind.u64.wrap (t % 4294967296 - h % 4294967296) = (t - h) % 4294967296 := by rw [wrap_u64 (by omega)]; omega
    clear hlt
    go_enter Tryz.func93, Tryz.ntmps93
    go_wp2_with fail
    go_ret
    first
      | exact ⟨rfl, rfl⟩
      | exact ⟨by rw [← e6], rfl⟩

theorem lprc_any (o : Option Addr) (P T G n f : Int) (w : World) (h : LayO w P T G o) (hp : 0 ≤ P ∧ P ≤ 64) (hf : 0 ≤ f ∧ f < 8) : Calls Tryz.prog 134 #[.pointer o, .int .i64 n, .int .i64 f] w fun e w' => e = .returned (.int .i64 (wd 20 P 264 n f)) ∧ Below w.heap.size w w' := by
  have HL : Hid _ := h
  have d1 : decide (8 ≤ f) = false := decide_eq_false (by omega)
  clear h
  go_enter Tryz.func134, Tryz.ntmps134
  go_wp2_with fail
  go_at_call 136; refine (procs_any o P T G _ HL.out).mono ?_; rintro e w1 ⟨rfl, h1⟩
  go_wp2_with fail
  go_at_call 124; refine (word_any 20 P 264 n f _ (by omega) (by omega) (by omega)).mono ?_; rintro e w2 ⟨rfl, h2⟩
  have hb := seq h1 h2
  go_wp2_with fail
  go_ret
  exact ⟨rfl, hb⟩

theorem lrng_any (o : Option Addr) (P T G n i : Int) (w : World) (h : LayO w P T G o) (hp : 0 ≤ P ∧ P ≤ 64) (hi : 0 ≤ i ∧ i ≤ 18446744073709551615) : Calls Tryz.prog 97 #[.pointer o, .int .i64 n, .int .u64 i] w fun e w' => e = .returned (.int .i64 (wd 20 P 264 n (8 + i % 256))) ∧ Below w.heap.size w w' := by
  have HL : Hid _ := h
  have e1 : i.tmod 256 = i % 256 := Int.tmod_eq_emod_of_nonneg (by omega)
  generalize hz : i % 256 = z at *
  have e2 : IntKind.i64.wrap z = z := by simp [IntKind.wrap, IntKind.bits, IntKind.signed]; omega
  have e3 : IntKind.i64.wrap (8 + z) = 8 + z := by simp [IntKind.wrap, IntKind.bits, IntKind.signed]; omega
  have hzb : 0 ≤ z ∧ z < 256 := by omega
  clear h hz hi
  go_enter Tryz.func97, Tryz.ntmps97
  go_wp2_with fail
  go_at_call 136; refine (procs_any o P T G _ HL.out).mono ?_; rintro e w1 ⟨rfl, h1⟩
  go_wp2_with fail
  go_at_call 124; refine (word_any 20 P 264 n (8 + z) _ (by omega) (by omega) (by omega)).mono ?_; rintro e w2 ⟨rfl, h2⟩
  have hb := seq h1 h2
  go_wp2_with fail
  go_ret
  exact ⟨rfl, hb⟩


theorem rprc_any (p f : Int) (w : World) (hp : 0 ≤ p ∧ p ≤ 64) (hf : 0 ≤ f ∧ f < 8) : Calls Tryz.prog 130 #[.int .i64 p, .int .i64 f] w fun e w' => e = .returned (.int .i64 (20 + 264 * p + f)) ∧ w = w' := by
  go_enter Tryz.func130, Tryz.ntmps130
  go_wp2_with fail
  go_ret
  exact ⟨ret_int (by first | rfl | omega | (unfold wrap64; omega)), rfl⟩
theorem rprcAt_any (P T G p f : Int) (w : World) (hp : 0 ≤ p ∧ p < P) (hP : P ≤ 64) (hf : 0 ≤ f ∧ f < 8) :
    Calls Tryz.prog 91 #[.agg #[.int .i64 P, .int .i64 T, .int .i64 G], .int .i64 p, .int .i64 f] w fun e w' => e = .returned (.int .i64 (wd 20 P 264 p f)) ∧ Below w.heap.size w w' := by
  have hb : Below w.heap.size w (w.alloc (.cells #[.int .i64 P, .int .i64 T, .int .i64 G] 23)) := (Below.refl _ _).alloc (Nat.le_refl _) _
  have hT := rprc_any p f (w.alloc (.cells #[.int .i64 P, .int .i64 T, .int .i64 G] 23)) (by omega) hf
  have e : 20 + 264 * p + f = wd 20 P 264 p f := by unfold wd; rw [if_pos ⟨hp.1, hp.2, by omega, by omega⟩]; omega
  rw [e] at hT
  generalize wd 20 P 264 p f = nt at *
  clear e
  have d1 : decide (p < 0) = false := decide_eq_false (by omega)
  have d2 : decide (P ≤ p) = false := decide_eq_false (by omega)
  go_enter Tryz.func91, Tryz.ntmps91
  go_wp2_with fail
  go_at_call 130; refine hT.mono ?_; rintro e w1 ⟨rfl, rfl⟩
  go_wp2_with fail
  go_ret
  exact ⟨rfl, hb⟩

theorem rrng_any (p i : Int) (w : World) (hp : 0 ≤ p ∧ p ≤ 64) (hi : 0 ≤ i ∧ i ≤ 18446744073709551615) : Calls Tryz.prog 131 #[.int .i64 p, .int .u64 i] w fun e w' => e = .returned (.int .i64 (28 + 264 * p + i % 256)) ∧ w = w' := by
  have e1 : i.tmod 256 = i % 256 := Int.tmod_eq_emod_of_nonneg (by omega)
  generalize hz : i % 256 = z at *
  have e2 : IntKind.i64.wrap z = z := by simp [IntKind.wrap, IntKind.bits, IntKind.signed] <;> omega
  have hzb : 0 ≤ z ∧ z < 256 := by omega
  clear hz hi
  go_enter Tryz.func131, Tryz.ntmps131
  go_wp2_with fail
  go_ret
  exact ⟨ret_int (by first | rfl | omega | (unfold wrap64; omega)), rfl⟩
theorem rrngAt_any (P T G p i : Int) (w : World) (hp : 0 ≤ p ∧ p < P) (hP : P ≤ 64) (hi : 0 ≤ i ∧ i ≤ 18446744073709551615) :
    Calls Tryz.prog 94 #[.agg #[.int .i64 P, .int .i64 T, .int .i64 G], .int .i64 p, .int .u64 i] w fun e w' => e = .returned (.int .i64 (wd 20 P 264 p (8 + i % 256))) ∧ Below w.heap.size w w' := by
  have hb : Below w.heap.size w (w.alloc (.cells #[.int .i64 P, .int .i64 T, .int .i64 G] 23)) := (Below.refl _ _).alloc (Nat.le_refl _) _
  have hT := rrng_any p i (w.alloc (.cells #[.int .i64 P, .int .i64 T, .int .i64 G] 23)) (by omega) hi
  have e : 28 + 264 * p + i % 256 = wd 20 P 264 p (8 + i % 256) := by unfold wd; rw [if_pos ⟨hp.1, hp.2, by omega, by omega⟩]; omega
  rw [e] at hT
  generalize wd 20 P 264 p (8 + i % 256) = nt at *
  clear e
  have d1 : decide (p < 0) = false := decide_eq_false (by omega)
  have d2 : decide (P ≤ p) = false := decide_eq_false (by omega)
  go_enter Tryz.func94, Tryz.ntmps94
  go_wp2_with fail
  go_at_call 131; refine hT.mono ?_; rintro e w1 ⟨rfl, rfl⟩
  go_wp2_with fail
  go_ret
  exact ⟨rfl, hb⟩
end Go.Proofs.YtiagkeakohkfgaaGreat

namespace Go.Proofs.YtiagkeakohkfgaaGreat
open Go Go.RowKit Go.Maps
set_option linter.unusedVariables false
set_option maxRecDepth 100000
set_option linter.unusedSimpArgs false

theorem rsf_bd {w : World} {T : TypeId} {A : Option Addr} {cap c b n : Nat} {s : St} (h : Is w T A cap c b n s) (i : Int) : 0 ≤ peekT n s i ∧ peekT n s i ≤ 18446744073709551615 := by
  unfold peekT
  split
  · exact h.bd _ (by omega)
  · omega
theorem rsee_any (w : World) (cl : Nat) (P T G p : Int) (A : Option Addr) (cap c b n : Nat) (s : St) (hL : Lay w cl P T G) (hp : 0 ≤ P ∧ P ≤ 64) (hI : Is w 135 A cap c b n s) (hn : n ≤ 1000000) :
    Calls Tryz.prog 96 #[.pointer (some ⟨cl, 0, none⟩), .pointer (some ⟨c, 0, none⟩), .int .i64 p] w fun e w' => e = .returned (.tuple #[.int .u64 (peekT n s (wd 20 P 264 p 1)), .int .u64 ((peekT n s (wd 20 P 264 p 2) - peekT n s (wd 20 P 264 p 1)) % 4294967296), .int .u64 (peekT n s (wd 20 P 264 p 3))]) ∧ Below w.heap.size w w' := by
  have h1 := fun Y (hY : Lay Y cl P T G) => lprc_any (some ⟨cl, 0, none⟩) P T G p 1 Y (.some cl hY) hp (by omega)
  have h2 := fun Y (hY : Lay Y cl P T G) => lprc_any (some ⟨cl, 0, none⟩) P T G p 2 Y (.some cl hY) hp (by omega)
  have h3 := fun Y (hY : Lay Y cl P T G) => lprc_any (some ⟨cl, 0, none⟩) P T G p 3 Y (.some cl hY) hp (by omega)
  have HL : Hid (∀ Y, Below w.heap.size w Y → Lay Y cl P T G) := fun Y hY => hL.below hY hL.lt
  have HI : Hid (∀ Y, Below w.heap.size w Y → Is Y 135 A cap c b n s) := fun Y hY => hI.below hY
  have b1 := rsf_bd hI (wd 20 P 264 p 1)
  have b2 := rsf_bd hI (wd 20 P 264 p 2)
  generalize wd 20 P 264 p 1 = i1 at *
  generalize wd 20 P 264 p 2 = i2 at *
  generalize wd 20 P 264 p 3 = i3 at *
  have hM := fun w => mny_any (peekT n s i1) (peekT n s i2) w b1 b2
  have P1 := fun Y (h : Is Y 135 A cap c b n s) => peek_any Y A cap c b n s i1 h hn
  have P2 := fun Y (h : Is Y 135 A cap c b n s) => peek_any Y A cap c b n s i2 h hn
  have P3 := fun Y (h : Is Y 135 A cap c b n s) => peek_any Y A cap c b n s i3 h hn
  clear hL hI b1 b2
  generalize peekT n s i1 = v1 at *
  generalize peekT n s i2 = v2 at *
  generalize peekT n s i3 = v3 at *
  go_enter Tryz.func96, Tryz.ntmps96
  go_wp2_with fail
  go_at_call 134; refine (h1 w (HL.out w (Below.refl _ _))).mono ?_; rintro e w1 ⟨rfl, k1⟩
  go_wp2_with fail
  go_at_call 43; refine (P1 w1 (HI.out w1 k1)).mono ?_; rintro e w2 ⟨rfl, rfl⟩
  go_wp2_with fail
  go_at_call 134; refine (h2 w1 (HL.out w1 k1)).mono ?_; rintro e w3 ⟨rfl, k3⟩
  have k3' := seq k1 k3
  go_wp2_with fail
  go_at_call 43; refine (P2 w3 (HI.out w3 k3')).mono ?_; rintro e w4 ⟨rfl, rfl⟩
  go_wp2_with fail
  go_at_call 134; refine (h3 w3 (HL.out w3 k3')).mono ?_; rintro e w5 ⟨rfl, k5⟩
  have k5' := seq k3' k5
  go_wp2_with fail
  go_at_call 43; refine (P3 w5 (HI.out w5 k5')).mono ?_; rintro e w6 ⟨rfl, rfl⟩
  go_wp2_with fail
  go_at_call 135; refine (hM w5).mono ?_; rintro e w7 ⟨rfl, rfl⟩
  clear h1 h2 h3 P1 P2 P3 hM
  go_wp2_with fail
  go_returns
  exact ⟨rfl, k5'⟩

/-- A list of words that the call made. -/
structure WordsOn (w : World) (base : Nat) (v : Value) (l : List Int) : Prop where
  own : w.ownsRow base 39 1 v l.length (l.map (Value.int .u64))
theorem WordsOn.below {w w' : World} {base : Nat} {v : Value} {l : List Int} (h : WordsOn w base v l) (hB : Below w.heap.size w w') : WordsOn w' base v l := by
  refine ⟨h.own.1, ?_⟩
  rcases h.own.2 with h0 | ⟨gb, cp, cur, e0, hb, hh, rest⟩
  · exact .inl h0
  · exact .inr ⟨gb, cp, cur, e0, hb, ((But.of_below (l := []) hB).block gb (block_lt hh) (by simp)).trans hh, rest⟩
theorem make_cap (k : Nat) (hk : k ≤ 1000000) (w : World) : (Instr.makeSlice 38 (.int .i64 0) (.int .u64 k)).run Tryz.prog w = .ok (.slice (some ⟨w.heap.size, 0, none⟩) 0 k) (w.alloc (.cells (zs k) 39)) := by
  obtain ⟨i0, hi, hz0, hz1, hz2⟩ := info_parts info39
  have := run_make (P := Tryz.prog) w 38 39 i0 (.int .u64 0) Tryz.underlying38 hi hz0 .i64 .u64 0 k (by omega) (by omega) (by rw [hz2]; omega) (by omega)
  rw [hz1] at this
  simpa [zs, Value.cells] using this
/-- The word at one place of a ring. -/
def rwAt (P p : Int) (n : Nat) (s : St) (h : Int) (i : Nat) : Int := peekT n s (wd 20 P 264 p (8 + IntKind.u64.wrap (h + i) % 256))
def rwL (P p : Int) (n : Nat) (s : St) (h : Int) (k : Nat) : List Int := (List.range k).map (rwAt P p n s h)
theorem rwL_succ (P p : Int) (n : Nat) (s : St) (h : Int) (k : Nat) : rwL P p n s h (k + 1) = rwL P p n s h k ++ [rwAt P p n s h k] := by unfold rwL; rw [List.range_succ, List.map_append]; rfl
theorem rwL_len (P p : Int) (n : Nat) (s : St) (h : Int) (k : Nat) : (rwL P p n s h k).length = k := by unfold rwL; simp
def rMany (P p : Int) (n : Nat) (s : St) : Int := (peekT n s (wd 20 P 264 p 2) - peekT n s (wd 20 P 264 p 1)) % 4294967296
def rK (P p : Int) (n : Nat) (s : St) : Nat := if rMany P p n s ≤ 256 then (rMany P p n s).toNat else 256
set_option maxHeartbeats 4000000 in
theorem rwords_any (w : World) (cl : Nat) (P T G p : Int) (A : Option Addr) (cap c b n : Nat) (s : St) (hL : Lay w cl P T G) (hp : 0 ≤ P ∧ P ≤ 64) (hI : Is w 135 A cap c b n s) (hn : n ≤ 1000000) :
    Calls Tryz.prog 42 #[.pointer (some ⟨cl, 0, none⟩), .pointer (some ⟨c, 0, none⟩), .int .i64 p] w fun e w' => ∃ v, e = .returned (.tuple #[v, .int .u64 (peekT n s (wd 20 P 264 p 3))]) ∧ WordsOn w' w.heap.size v (rwL P p n s (peekT n s (wd 20 P 264 p 1)) (rK P p n s)) ∧ Below w.heap.size w w' := by
  obtain ⟨i0, hi, hz0, hz1, hz2⟩ := info_parts info39
  have hS := rsee_any w cl P T G p A cap c b n s hL hp hI hn
  have HL : Hid (∀ Y, Below w.heap.size w Y → Lay Y cl P T G) := fun Y hY => hL.below hY hL.lt
  have HI : Hid (∀ Y, Below w.heap.size w Y → Is Y 135 A cap c b n s) := fun Y hY => hI.below hY
  have HRG : Hid (∀ Y, Below w.heap.size w Y → ∀ i, 0 ≤ i ∧ i ≤ 18446744073709551615 → Calls Tryz.prog 97 #[.pointer (some ⟨cl, 0, none⟩), .int .i64 p, .int .u64 i] Y fun e w' => e = .returned (.int .i64 (wd 20 P 264 p (8 + i % 256))) ∧ Below Y.heap.size Y w') := fun Y hY i hi => lrng_any (some ⟨cl, 0, none⟩) P T G p i Y (.some cl (HL.out Y hY)) hp hi
  have HPK : Hid (∀ Y, Below w.heap.size w Y → ∀ i, Calls Tryz.prog 43 #[.pointer (some ⟨c, 0, none⟩), .int .i64 i] Y fun e w' => e = .returned (.tuple #[.int .u64 (peekT n s i), .bool (decide (0 ≤ i ∧ i < n))]) ∧ Y = w') := fun Y hY i => peek_any Y A cap c b n s i (HI.out Y hY) hn
  have hmk := fun k (hk : k ≤ 256) w => make_cap k (by omega) w
  have HK : Hid ((rK P p n s : Int) = if rMany P p n s ≤ 256 then rMany P p n s else 256) := by
    have h0 : 0 ≤ rMany P p n s := Int.emod_nonneg _ (by omega)
    show ((rK P p n s : Nat) : Int) = _
    unfold rK
    split <;> omega
  have HKB : Hid (rK P p n s ≤ 256) := by
    have h0 : 0 ≤ rMany P p n s := Int.emod_nonneg _ (by omega)
    show rK P p n s ≤ 256
    unfold rK
    split <;> omega
  rw [show (peekT n s (wd 20 P 264 p 2) - peekT n s (wd 20 P 264 p 1)) % 4294967296 = rMany P p n s from rfl] at hS
  generalize peekT n s (wd 20 P 264 p 1) = hh at *
  generalize peekT n s (wd 20 P 264 p 3) = nn at *
  generalize rMany P p n s = mm at *
  generalize rK P p n s = k at *
  clear hL hI
  go_enter Tryz.func42, Tryz.ntmps42
  go_wp2_with fail
  go_at_call 96; refine hS.mono ?_; rintro e w1 ⟨rfl, h1⟩
  have HB1 : Hid (Below w.heap.size w w1) := h1
  clear hS h1
  by_cases hm : mm ≤ 256
  · obtain rfl : mm = (k : Int) := by have := HK.out; rw [if_pos hm] at this; exact this.symm
    have hd : decide (256 < (k : Int)) = false := decide_eq_false (by omega)
    have hmk2 := hmk k HKB.out w1
    go_wp2_with fail
    have hB2 : Below w.heap.size w (w1.alloc (.cells (zs k) 39)) := HB1.out.trans (((Below.refl _ _).alloc (Nat.le_refl _) _).mono HB1.out.size)
    have HR0 : Hid (WordsOn (w1.alloc (.cells (zs k) 39)) w.heap.size (.slice (some ⟨w1.heap.size, 0, none⟩) 0 k) (rwL P p n s hh 0)) := ⟨World.ownsRow_made w1 (zs k) k HB1.out.size (by unfold maxLen; omega) (by rw [Nat.mul_one]; exact size_madeCells _ _)⟩
    have HB2 : Hid (Below w.heap.size w (w1.alloc (.cells (zs k) 39))) := hB2
    generalize w1.alloc (.cells (zs k) 39) = w2 at *
    clear hmk2 hB2 HB1
    go_loopw [11, 28] (fun vv i wr => ∃ (j : Nat) (v : Value), v = vv ∧ j ≤ k ∧ i = .int .u64 j ∧ Hid (WordsOn wr w.heap.size v (rwL P p n s hh j)) ∧ Hid (Below w.heap.size w wr)) (fun vv i _ => k - (intOf i).toNat)
    case atStart => exact ⟨0, _, rfl, Nat.zero_le _, rfl, HR0, HB2⟩
    case round =>
      clear HR0 HB2
      obtain ⟨j, v, rfl, hj, rfl, HV, HB⟩ := hrel
      by_cases hlt : j < k
      · have hk1 : (j : Int) < (k : Int) := by omega
        have hk2 : decide ((j : Int) < (k : Int)) = true := decide_eq_true (by omega)
        obtain ⟨z, hz⟩ : ∃ z, IntKind.u64.wrap (hh + j) = z := ⟨_, rfl⟩
        have hzb : 0 ≤ z ∧ z ≤ 18446744073709551615 := by rw [← hz]; generalize hh + (j : Int) = y; simp [IntKind.wrap, IntKind.bits, IntKind.signed]; omega
        have hR := HRG.out wr HB.out z hzb
        have HX : Hid (rwAt P p n s hh j = peekT n s (wd 20 P 264 p (8 + z % 256))) := by
          show rwAt P p n s hh j = _
          unfold rwAt
          rw [hz]
        go_wp2_with fail
        go_at_call 97; refine hR.mono ?_; rintro e w3 ⟨rfl, h3⟩
        have HB3 : Hid (Below w.heap.size w w3) := seq HB.out h3
        have hP := HPK.out w3 HB3.out (wd 20 P 264 p (8 + z % 256))
        have HV3 : Hid (WordsOn w3 w.heap.size v (rwL P p n s hh j)) := HV.out.below h3
        generalize decide (0 ≤ wd 20 P 264 p (8 + z % 256) ∧ wd 20 P 264 p (8 + z % 256) < n) = zz at *
        rw [← HX.out] at hP
        generalize wd 20 P 264 p (8 + z % 256) = at' at *
        generalize hgw : rwAt P p n s hh j = gv at *
        have HGW : Hid (rwAt P p n s hh j = gv) := hgw
        clear hR h3 HB HV hgw
        go_wp2_with fail
        go_at_call 43; refine hP.mono ?_; rintro e w4 ⟨rfl, rfl⟩
        have hOO := HV3.out.own
        rw [rwL_len] at hOO
        have hsz := HB3.out.size
        clear hP
        go_wp2_with (at_builtin; refine wpList_append_own _ rfl _ _ 38 rfl w.heap.size 39 i0 (.int .u64 0) 1 8 Tryz.underlying38 hi hz0 hz1 hz2 rfl (by decide) _ _ _ rfl (hOO.alloc _) ⟨w3.heap.size, 0, none⟩ 1 1 [.int .u64 gv] rfl rfl (cell_one_new _ _ _) (ints_oneCell .u64 [gv]) (by unfold maxLen; omega) (by omega) (by simp; omega) ?_; intro v' w5 hown' hgrow2 hnil2)
        have HB5 : Hid (Below w.heap.size w w5) := (HB3.out.alloc HB3.out.size _).grown hgrow2 (by simp; omega) (fun k hk => (hOO.lt k hk).1)
        have HV5 : Hid (WordsOn w5 w.heap.size v' (rwL P p n s hh (j + 1))) := ⟨by
          rw [rwL_len, rwL_succ, List.map_append, HGW.out]
          exact hown'⟩
        have e1 : IntKind.u64.wrap ((j : Int) + 1) = (j : Int) + 1 := wrap_u64 (by omega)
        clear hown' hgrow2 hnil2 hOO
        go_wp2_with fail
        go_roundw
        case rel => exact ⟨j + 1, v', rfl, by omega, by go_num, HV5, HB5⟩
        case measure => simp [intOf]; omega
      · obtain rfl : j = k := by omega
        have hk2 : decide ((j : Int) < (j : Int)) = false := by simp
        have HF : Hid (WordsOn wr w.heap.size v (rwL P p n s hh j)) := HV.out
        have HBF : Hid _ := HB.out
        clear HV HB
        go_wp2_with fail
        go_returns
        exact ⟨v, rfl, HF.out, HBF.out⟩
  · obtain rfl : k = 256 := by have := HK.out; rw [if_neg hm] at this; omega
    have hd : decide (256 < mm) = true := decide_eq_true (by omega)
    have hmk2 : (Instr.makeSlice 38 (.int .i64 0) (.int .u64 256)).run Tryz.prog w1 = .ok (.slice (some ⟨w1.heap.size, 0, none⟩) 0 256) (w1.alloc (.cells (zs 256) 39)) := hmk 256 HKB.out w1
    go_wp2_with fail
    have hB2 : Below w.heap.size w (w1.alloc (.cells (zs 256) 39)) := HB1.out.trans (((Below.refl _ _).alloc (Nat.le_refl _) _).mono HB1.out.size)
    have HR0 : Hid (WordsOn (w1.alloc (.cells (zs 256) 39)) w.heap.size (.slice (some ⟨w1.heap.size, 0, none⟩) 0 256) (rwL P p n s hh 0)) := ⟨World.ownsRow_made w1 (zs 256) 256 HB1.out.size (by unfold maxLen; omega) (by rw [Nat.mul_one]; exact size_madeCells _ _)⟩
    have HB2 : Hid (Below w.heap.size w (w1.alloc (.cells (zs 256) 39))) := hB2
    generalize w1.alloc (.cells (zs 256) 39) = w2 at *
    clear hmk2 hB2 HB1
    go_loopw [11, 28] (fun vv i wr => ∃ (j : Nat) (v : Value), v = vv ∧ j ≤ 256 ∧ i = .int .u64 j ∧ Hid (WordsOn wr w.heap.size v (rwL P p n s hh j)) ∧ Hid (Below w.heap.size w wr)) (fun vv i _ => 256 - (intOf i).toNat)
    case atStart => exact ⟨0, _, rfl, Nat.zero_le _, rfl, HR0, HB2⟩
    case round =>
      clear HR0 HB2
      obtain ⟨j, v, rfl, hj, rfl, HV, HB⟩ := hrel
      by_cases hlt : j < 256
      · have hk1 : (j : Int) < (256 : Int) := by omega
        have hk2 : decide ((j : Int) < 256) = true := decide_eq_true (by omega)
        obtain ⟨z, hz⟩ : ∃ z, IntKind.u64.wrap (hh + j) = z := ⟨_, rfl⟩
        have hzb : 0 ≤ z ∧ z ≤ 18446744073709551615 := by rw [← hz]; generalize hh + (j : Int) = y; simp [IntKind.wrap, IntKind.bits, IntKind.signed]; omega
        have hR := HRG.out wr HB.out z hzb
        have HX : Hid (rwAt P p n s hh j = peekT n s (wd 20 P 264 p (8 + z % 256))) := by
          show rwAt P p n s hh j = _
          unfold rwAt
          rw [hz]
        go_wp2_with fail
        go_at_call 97; refine hR.mono ?_; rintro e w3 ⟨rfl, h3⟩
        have HB3 : Hid (Below w.heap.size w w3) := seq HB.out h3
        have hP := HPK.out w3 HB3.out (wd 20 P 264 p (8 + z % 256))
        have HV3 : Hid (WordsOn w3 w.heap.size v (rwL P p n s hh j)) := HV.out.below h3
        generalize decide (0 ≤ wd 20 P 264 p (8 + z % 256) ∧ wd 20 P 264 p (8 + z % 256) < n) = zz at *
        rw [← HX.out] at hP
        generalize wd 20 P 264 p (8 + z % 256) = at' at *
        generalize hgw : rwAt P p n s hh j = gv at *
        have HGW : Hid (rwAt P p n s hh j = gv) := hgw
        clear hR h3 HB HV hgw
        go_wp2_with fail
        go_at_call 43; refine hP.mono ?_; rintro e w4 ⟨rfl, rfl⟩
        have hOO := HV3.out.own
        rw [rwL_len] at hOO
        have hsz := HB3.out.size
        clear hP
        go_wp2_with (at_builtin; refine wpList_append_own _ rfl _ _ 38 rfl w.heap.size 39 i0 (.int .u64 0) 1 8 Tryz.underlying38 hi hz0 hz1 hz2 rfl (by decide) _ _ _ rfl (hOO.alloc _) ⟨w3.heap.size, 0, none⟩ 1 1 [.int .u64 gv] rfl rfl (cell_one_new _ _ _) (ints_oneCell .u64 [gv]) (by unfold maxLen; omega) (by omega) (by simp; omega) ?_; intro v' w5 hown' hgrow2 hnil2)
        have HB5 : Hid (Below w.heap.size w w5) := (HB3.out.alloc HB3.out.size _).grown hgrow2 (by simp; omega) (fun k hk => (hOO.lt k hk).1)
        have HV5 : Hid (WordsOn w5 w.heap.size v' (rwL P p n s hh (j + 1))) := ⟨by
          rw [rwL_len, rwL_succ, List.map_append, HGW.out]
          exact hown'⟩
        have e1 : IntKind.u64.wrap ((j : Int) + 1) = (j : Int) + 1 := wrap_u64 (by omega)
        clear hown' hgrow2 hnil2 hOO
        go_wp2_with fail
        go_roundw
        case rel => exact ⟨j + 1, v', rfl, by omega, by go_num, HV5, HB5⟩
        case measure => simp [intOf]; omega
      · obtain rfl : j = 256 := by omega
        have hk2 : decide (((256 : Nat) : Int) < 256) = false := by decide
        have HF : Hid (WordsOn wr w.heap.size v (rwL P p n s hh 256)) := HV.out
        have HBF : Hid _ := HB.out
        clear HV HB
        go_wp2_with fail
        go_returns
        exact ⟨v, rfl, HF.out, HBF.out⟩
end Go.Proofs.YtiagkeakohkfgaaGreat

namespace Go.Proofs.YtiagkeakohkfgaaGreat
open Go Go.RowKit Go.Maps
set_option linter.unusedVariables false
set_option maxRecDepth 100000
set_option linter.unusedSimpArgs false

namespace RI
/-- A list of ints that the call made. -/
structure IntsOn (w : World) (base : Nat) (v : Value) (l : List Int) : Prop where
  own : w.ownsRow base 3 1 v l.length (l.map (Value.int .i64))
theorem lists_info3 : (Tryz.prog.info? 3).map (fun i => (i.zero, i.size, i.bytes)) = some (some (.int .i64 0), 1, 8) := by kernel_rfl
theorem row_but {w w' : World} {base : Nat} {e : TypeId} {size : Nat} {v : Value} {n : Nat} {xs : List Value} {l : List Nat} (h : w.ownsRow base e size v n xs) (hB : But l w w') (hl : ∀ b ∈ l, b < base) : w'.ownsRow base e size v n xs := by
  refine ⟨h.1, ?_⟩
  rcases h.2 with h0 | ⟨gb, cp, cur, e0, hb, hh, rest⟩
  · exact .inl h0
  · exact .inr ⟨gb, cp, cur, e0, hb, (hB.block gb (block_lt hh) (fun hm => absurd (hl gb hm) (by omega))).trans hh, rest⟩
theorem row_below {w w' : World} {base : Nat} {e : TypeId} {size : Nat} {v : Value} {n : Nat} {xs : List Value} (h : w.ownsRow base e size v n xs) (hB : Below w.heap.size w w') : w'.ownsRow base e size v n xs := row_but h (But.of_below (l := []) hB) (fun b hb => by cases hb)
theorem lists_slice {w : World} {base : Nat} {e : TypeId} {size : Nat} {v : Value} {n : Nat} {xs : List Value} (h : w.ownsRow base e size v n xs) : ∃ A cap, v = .slice A n cap := by
  rcases h.2 with ⟨e0, h0⟩ | ⟨gb, cp, cur, e0, hb, hh, rest⟩
  · subst h0; exact ⟨none, 0, e0⟩
  · exact ⟨_, _, e0⟩
theorem IntsOn.cell {w : World} {base : Nat} {v : Value} {l : List Int} (h : IntsOn w base v l) {j : Nat} (hj : j < l.length) : ∃ gb cap, v = .slice (some ⟨gb, 0, none⟩) l.length cap ∧ w.cell? ⟨gb, j, none⟩ = some (.int .i64 (l.getD j 0)) := by
  rcases h.own.2 with ⟨e, h0⟩ | ⟨gb, cp, cur, e, hb, hh, hnc, hcm, hcs, htk⟩
  · omega
  · subst e
    refine ⟨gb, cp, rfl, ?_⟩
    have hc := h.own.cellAt j (by omega)
    rw [List.getElem?_map, List.getElem?_eq_getElem hj] at hc
    rw [List.getD_eq_getElem?_getD, List.getElem?_eq_getElem hj]
    exact hc
/-- A slice of ints, seen in memory. -/
def SeesL (w : World) (v : Value) (l : List Int) : Prop := ∃ A cap, v = .slice A l.length cap ∧ (A = none → l.length = 0 ∧ cap = 0) ∧ (0 < l.length → ∃ b off : Nat, A = some ⟨b, off, none⟩ ∧ b < w.heap.size ∧ ∀ j, j < l.length → w.cell? ⟨b, off + j, none⟩ = some (.int .i64 (l.getD j 0)))
theorem SeesL.below {w w' : World} {v : Value} {l : List Int} (h : SeesL w v l) (hb : Below w.heap.size w w') : SeesL w' v l := by
  obtain ⟨A, cap, e, h1, h2⟩ := h
  refine ⟨A, cap, e, h1, fun hn => ?_⟩
  obtain ⟨b, off, e1, h3, h4⟩ := h2 hn
  exact ⟨b, off, e1, Nat.lt_of_lt_of_le h3 hb.size, fun j hj => (hb.cell (p := ⟨b, off + j, none⟩) h3).trans (h4 j hj)⟩
theorem IntsOn.sees {w : World} {base : Nat} {v : Value} {l : List Int} (h : IntsOn w base v l) : SeesL w v l := by
  by_cases h0 : 0 < l.length
  · obtain ⟨gb, cap, e, -⟩ := h.cell h0
    refine ⟨_, cap, e, (fun h => by cases h), fun hn => ⟨gb, 0, rfl, ?_, fun j hj => ?_⟩⟩
    · obtain ⟨gb', cap', e', hc⟩ := h.cell hn
      rw [e] at e'; cases e'
      exact cell_lt hc
    · obtain ⟨gb', cap', e', hc⟩ := h.cell hj
      rw [e] at e'; cases e'
      rw [Nat.zero_add]; exact hc
  · rcases h.own.2 with ⟨e, h1⟩ | ⟨gb, cp, cur, e, -⟩
    · exact ⟨none, 0, by rw [e, h1], fun _ => ⟨h1, rfl⟩, fun h => absurd h h0⟩
    · exact ⟨_, cp, e, (fun h => by cases h), fun h => absurd h h0⟩

theorem lsame_any (w : World) (v v' : Value) (l : List Int) (hn : l.length ≤ 1000000) (h : SeesL w v l) (h' : SeesL w v' l) :
    Calls Tryz.prog 16 #[v, v'] w fun e w' => e = .returned (.bool true) ∧ Below w.heap.size w w' := by
  obtain ⟨A, cap, rfl, -, h2⟩ := h
  obtain ⟨A', cap', rfl, -, h2'⟩ := h'
  have H : Hid (0 < l.length → ∃ b off : Nat, A = some ⟨b, off, none⟩ ∧ b < w.heap.size ∧ ∀ j, j < l.length → w.cell? ⟨b, off + j, none⟩ = some (.int .i64 (l.getD j 0))) := h2
  have H' : Hid (0 < l.length → ∃ b off : Nat, A' = some ⟨b, off, none⟩ ∧ b < w.heap.size ∧ ∀ j, j < l.length → w.cell? ⟨b, off + j, none⟩ = some (.int .i64 (l.getD j 0))) := h2'
  clear h2 h2'
  have HF : Hid (∃ (f : Nat → Int) (n : Nat), (fun j => l.getD j 0) = f ∧ l.length = n) := ⟨_, _, rfl, rfl⟩
  obtain ⟨f, n, hf, hl⟩ := HF.out
  have hfe : ∀ j, l.getD j 0 = f j := fun j => congrFun hf j
  simp only [hfe] at H H'
  rw [hl] at H H' hn ⊢
  clear HF hf hl hfe
  go_enter Tryz.func16, Tryz.ntmps16
  go_wp2_with fail
  go_loopw [5] (fun i wr => ∃ k m : Nat, k ≤ n ∧ i = .int .i64 k ∧ wr = w.drewN m) (fun i _ => n - (intOf i).toNat)
  case atStart => exact ⟨0, 0, Nat.zero_le _, rfl, rfl⟩
  case round =>
    obtain ⟨k, m, hk, rfl, rfl⟩ := hrel
    by_cases hlt : k < n
    · obtain ⟨b, off, rfl, hbB, hcell⟩ := H.out (by omega)
      obtain ⟨b', off', rfl, hbB', hcell'⟩ := H'.out (by omega)
      have e0 : w.cell? ⟨b, off + k, none⟩ = some (.int .i64 (f k)) := hcell k hlt
      have e1 : w.cell? ⟨b', off' + k, none⟩ = some (.int .i64 (f k)) := hcell' k hlt
      clear hcell hcell'
      generalize f k = x at e0 e1
      go_wp2_with fail
      go_quiet (fail)
      go_wp2_with fail
      go_roundw
      case rel => exact ⟨k + 1, _, by omega, by go_num, rfl⟩
      case measure => simp [intOf]; omega
    · obtain rfl : k = n := by omega
      go_wp2_with fail
      go_ret
      exact ⟨rfl, Below.drewN' (Below.refl _ _) m⟩
end RI
theorem But.grown {l : List Nat} {a w w' : World} {r : Option Nat} (h : But l a w) (hg : w.grownBy w' r) (hr : ∀ k, r = some k → k ∈ l ∨ a.heap.size ≤ k) : But l a w' :=
  ⟨hg.os.trans h.os, hg.tape.trans h.tape, hg.output.trans h.output, Nat.le_trans h.size hg.size, fun k hk hc => (hg.block k (Nat.lt_of_lt_of_le hk h.size) (fun e => by rcases hr k e.symm with h1 | h1; exact hc h1; omega)).trans (h.block k hk hc)⟩
def rowB (v : Value) : List Nat := match v.ownBlock with
  | some k => [k]
  | none => []
theorem rowB_mem {v : Value} {k : Nat} (h : v.ownBlock = some k) : k ∈ rowB v := by unfold rowB; rw [h]; simp
theorem mem_rowB {v : Value} {k : Nat} (h : k ∈ rowB v) : v.ownBlock = some k := by
  unfold rowB at h
  split at h
  · rename_i h'; simp at h; rw [h', h]
  · cases h
theorem RI.IntsOn.keep {w w' : World} {base : Nat} {v : Value} {l : List Int} {ll : List Nat} (h : RI.IntsOn w base v l) (hB : But ll w w') (hk : ∀ k ∈ rowB v, k ∉ ll) : RI.IntsOn w' base v l := by
  refine ⟨h.own.1, ?_⟩
  rcases h.own.2 with h0 | ⟨gb, cp, cur, e0, hb, hh, rest⟩
  · exact .inl h0
  · exact .inr ⟨gb, cp, cur, e0, hb, (hB.block gb (block_lt hh) (hk gb (rowB_mem (by rw [e0]; rfl)))).trans hh, rest⟩
theorem RI.IntsOn.up {w : World} {base : Nat} {v : Value} {l : List Int} (h : RI.IntsOn w base v l) : ∀ k ∈ rowB v, base ≤ k ∧ k < w.heap.size := fun k hk => h.own.lt k (mem_rowB hk)
/-- A list of ints that is only read. -/
def Rd.ints (base : Nat) (v : Value) (l : List Int) : Rd := ⟨rowB v, fun w => RI.IntsOn w base v l, fun w w' ll h hb hk => h.keep hb hk⟩
end Go.Proofs.YtiagkeakohkfgaaGreat

namespace Go.Proofs.YtiagkeakohkfgaaGreat
open Go Go.RowKit Go.Maps
set_option linter.unusedVariables false
set_option maxRecDepth 100000
set_option linter.unusedSimpArgs false

def gsOk (G w : Int) : Bool := decide (w ≠ 0 ∧ w ≤ G)
def gsL (G : Int) (l : List Int) : List Int := (l.filter (gsOk G)).map gw
def rwN (nx : Int) (l : List Int) : List Int := if nx = 0 then l else l ++ [nx]
theorem gsL_snoc (G : Int) (l : List Int) (x : Int) : gsL G (l ++ [x]) = if gsOk G x = true then gsL G l ++ [gw x] else gsL G l := by
  unfold gsL
  rw [List.filter_append]
  cases h : gsOk G x
  · simp [List.filter, h]
  · simp [List.filter, h]
theorem WordsOn.cell {w : World} {base : Nat} {v : Value} {l : List Int} (h : WordsOn w base v l) {j : Nat} (hj : j < l.length) : ∃ gb cap, v = .slice (some ⟨gb, 0, none⟩) l.length cap ∧ gb < w.heap.size ∧ w.cell? ⟨gb, j, none⟩ = some (.int .u64 (l.getD j 0)) := by
  rcases h.own.2 with ⟨e, h0⟩ | ⟨gb, cp, cur, e, hb, hh, hnc, hcm, hcs, htk⟩
  · omega
  · subst e
    refine ⟨gb, cp, rfl, block_lt hh, ?_⟩
    have hc := h.own.cellAt j (by omega)
    rw [List.getElem?_map, List.getElem?_eq_getElem hj] at hc
    rw [List.getD_eq_getElem?_getD, List.getElem?_eq_getElem hj]
    exact hc
theorem WordsOn.slice {w : World} {base : Nat} {v : Value} {l : List Int} (h : WordsOn w base v l) : ∃ A cap, v = .slice A l.length cap := by
  rcases h.own.2 with ⟨e0, h0⟩ | ⟨gb, cp, cur, e0, hb, hh, rest⟩
  · exact ⟨none, 0, by rw [e0, h0]⟩
  · exact ⟨_, _, e0⟩
theorem RI.IntsOn.mono {w : World} {base base' : Nat} {v : Value} {l : List Int} (h : RI.IntsOn w base v l) (hb : base' ≤ base) : RI.IntsOn w base' v l := by
  refine ⟨h.own.1, ?_⟩
  rcases h.own.2 with h0 | ⟨gb, cp, cur, e0, hb0, rest⟩
  · exact .inl h0
  · exact .inr ⟨gb, cp, cur, e0, Nat.le_trans hb hb0, rest⟩
/-- All goroutines that are seen, and whether all are some. -/
def rgsL (P G p : Int) (n : Nat) (s : St) : List Int := rwN (peekT n s (wd 20 P 264 p 3)) (rwL P p n s (peekT n s (wd 20 P 264 p 1)) (rK P p n s))
theorem rgsL_bd {w : World} {T : TypeId} {A : Option Addr} {cap c b n : Nat} {s : St} (hI : Is w T A cap c b n s) (P G p : Int) : ∀ x ∈ rgsL P G p n s, 0 ≤ x ∧ x ≤ 18446744073709551615 := by
  intro x hx
  unfold rgsL rwN at hx
  have h1 : ∀ x ∈ rwL P p n s (peekT n s (wd 20 P 264 p 1)) (rK P p n s), 0 ≤ x ∧ x ≤ 18446744073709551615 := by
    intro x hx
    unfold rwL at hx
    obtain ⟨i, -, rfl⟩ := List.mem_map.1 hx
    exact rsf_bd hI _
  split at hx
  · exact h1 x hx
  · rcases List.mem_append.1 hx with h | h
    · exact h1 x h
    · rw [List.mem_singleton.1 h]; exact rsf_bd hI _
theorem rK_le (P p : Int) (n : Nat) (s : St) : rK P p n s ≤ 256 := by
  have h0 : 0 ≤ rMany P p n s := Int.emod_nonneg _ (by omega)
  unfold rK
  split <;> omega

set_option maxHeartbeats 4000000 in
theorem rgs_any (w : World) (cl : Nat) (P T G p : Int) (A : Option Addr) (cap c b n : Nat) (s : St) (hL : Lay w cl P T G) (hp : 0 ≤ P ∧ P ≤ 64) (hG : 0 ≤ G ∧ G ≤ 65536) (hI : Is w 135 A cap c b n s) (hn : n ≤ 1000000) :
    Calls Tryz.prog 53 #[.pointer (some ⟨cl, 0, none⟩), .pointer (some ⟨c, 0, none⟩), .int .i64 p] w fun e w' => ∃ v, e = .returned (.tuple #[v, .bool (decide (rMany P p n s ≤ 256) && (rgsL P G p n s).all (gsOk G))]) ∧ RI.IntsOn w' w.heap.size v (gsL G (rgsL P G p n s)) ∧ Below w.heap.size w w' := by
  obtain ⟨i0, hi, hz0, hz1, hz2⟩ := info_parts info39
  obtain ⟨i3, hi3, hz03, hz13, hz23⟩ := info_parts RI.lists_info3
  have hS := rsee_any w cl P T G p A cap c b n s hL hp hI hn
  have HW : Hid (∀ Y, Below w.heap.size w Y → Calls Tryz.prog 42 #[.pointer (some ⟨cl, 0, none⟩), .pointer (some ⟨c, 0, none⟩), .int .i64 p] Y fun e w' => ∃ v, e = .returned (.tuple #[v, .int .u64 (peekT n s (wd 20 P 264 p 3))]) ∧ WordsOn w' Y.heap.size v (rwL P p n s (peekT n s (wd 20 P 264 p 1)) (rK P p n s)) ∧ Below Y.heap.size Y w') := fun Y hY => rwords_any Y cl P T G p A cap c b n s (hL.below hY hL.lt) hp (hI.below hY) hn
  have HC : Hid (∀ Y, Below w.heap.size w Y → Calls Tryz.prog 81 #[.pointer (some ⟨cl, 0, none⟩)] Y fun e w' => e = .returned (.agg #[.int .i64 P, .int .i64 T, .int .i64 G]) ∧ Below Y.heap.size Y w') := fun Y hY => config_any _ P T G Y (.some cl (hL.below hY hL.lt))
  have hfc := field_c2
  have HBD : Hid (∀ x ∈ rgsL P G p n s, 0 ≤ x ∧ x ≤ 18446744073709551615) := rgsL_bd hI P G p
  have hkl := rK_le P p n s
  have hll : (rwL P p n s (peekT n s (wd 20 P 264 p 1)) (rK P p n s)).length = rK P p n s := rwL_len _ _ _ _ _ _
  have hRL : rgsL P G p n s = rwN (peekT n s (wd 20 P 264 p 3)) (rwL P p n s (peekT n s (wd 20 P 264 p 1)) (rK P p n s)) := rfl
  rw [show (peekT n s (wd 20 P 264 p 2) - peekT n s (wd 20 P 264 p 1)) % 4294967296 = rMany P p n s from rfl] at hS
  generalize rwL P p n s (peekT n s (wd 20 P 264 p 1)) (rK P p n s) = l0 at *
  generalize peekT n s (wd 20 P 264 p 1) = hh at *
  generalize peekT n s (wd 20 P 264 p 3) = nn at *
  generalize rMany P p n s = mm at *
  generalize rgsL P G p n s = ll at *
  have e3 : IntKind.u64.wrap G = G := wrap_u64 (by omega)
  have HLL : Hid (l0.length ≤ 256 ∧ ll = rwN nn l0) := ⟨by omega, hRL⟩
  clear hL hI hkl hll hRL
  go_enter Tryz.func53, Tryz.ntmps53
  go_wp2_with fail
  go_at_call 96; refine hS.mono ?_; rintro e w1 ⟨rfl, h1⟩
  have HB1 : Hid (Below w.heap.size w w1) := h1
  have hW := HW.out w1 h1
  clear hS h1
  generalize hdm : decide (mm ≤ 256) = dm at *
  go_wp2_with fail
  go_at_call 42; refine hW.mono ?_; rintro e w2 ⟨v0, rfl, hv0, h2⟩
  have HV0 : Hid (WordsOn w2 w1.heap.size v0 l0) := hv0
  have HB2 : Hid (Below w.heap.size w w2) := seq HB1.out h2
  have hs12 : Hid (w.heap.size ≤ w1.heap.size ∧ w1.heap.size ≤ w2.heap.size) := ⟨HB1.out.size, h2.size⟩
  clear hW hv0 h2
  by_cases hn0 : nn = 0
  · subst hn0
    have HLE : Hid (ll = l0) := HLL.out.2.trans (if_pos rfl)
    obtain ⟨A0, cp0, rfl⟩ := HV0.out.slice
    have HVX : Hid (WordsOn w2 w1.heap.size (.slice A0 ll.length cp0) ll) := by rw [HLE.out]; exact HV0.out
    have hsX : Hid (w.heap.size ≤ w2.heap.size) := HB2.out.size
    have HBX : Hid (Below w.heap.size w w2) := HB2.out
    have HLN : Hid (ll.length ≤ 257) := (by rw [HLE.out]; have := HLL.out.1; omega : ll.length ≤ 257)
    have hll : (l0.length : Int) = (ll.length : Int) := by rw [HLE.out]
    rw [← HLE.out]
    go_wp2_with fail
    go_loopw [11, 14, 42] (fun rr gg i wr => ∃ (j : Nat) (g : Value), g = gg ∧ j ≤ ll.length ∧ i = .int .i64 j ∧ rr = .bool (dm && (ll.take j).all (gsOk G)) ∧ Hid (RI.IntsOn wr w2.heap.size g (gsL G (ll.take j))) ∧ Hid (Below w2.heap.size w2 wr)) (fun _ _ i _ => ll.length - (intOf i).toNat)
    case atStart => exact ⟨0, _, rfl, Nat.zero_le _, rfl, by simp, ⟨World.ownsRow_nil _ _ _ _⟩, Below.refl _ _⟩
    case round =>
      obtain ⟨j, g, rfl, hj, rfl, rfl, HV, HB⟩ := hrel
      have hln9 : ll.length ≤ 257 := HLN.out
      by_cases hlt : j < ll.length
      · obtain ⟨gb, cp, ea, hgb, hcell⟩ := HVX.out.cell hlt
        injection ea with ea1 ea2 ea3
        subst ea1
        have hk1 : (j : Int) < (ll.length : Int) := by omega
        have hk0 : (0 : Int) ≤ (j : Int) := by omega
        have hc := (HB.out.cell (p := ⟨gb, j, none⟩) hgb).trans hcell
        have HTK : Hid (ll.take (j + 1) = ll.take j ++ [ll.getD j 0]) := by
          show ll.take (j + 1) = _
          rw [List.take_add_one, List.getD_eq_getElem?_getD, List.getElem?_eq_getElem hlt]
          rfl
        have hxb := HBD.out (ll.getD j 0) (by rw [List.getD_eq_getElem?_getD, List.getElem?_eq_getElem hlt]; exact List.getElem_mem hlt)
        generalize ll.getD j 0 = x at *
        generalize hdq : (dm && (ll.take j).all (gsOk G)) = dq
        have HDQ : Hid ((dm && (ll.take j).all (gsOk G)) = dq) := hdq
        clear hcell hdq ea2 ea3
        by_cases h0 : x = 0
        · subst h0
          have HF : Hid ((dm && (ll.take (j + 1)).all (gsOk G)) = false ∧ gsL G (ll.take (j + 1)) = gsL G (ll.take j)) := by
            rw [HTK.out]
            have hk : gsOk G 0 = false := by simp [gsOk]
            exact ⟨by simp [hk], by rw [gsL_snoc, hk]; rfl⟩
          go_wp2_with fail
          go_roundw
          case rel => exact ⟨j + 1, g, rfl, by omega, by go_num, by rw [HF.out.1], (by rw [HF.out.2]; exact HV.out : RI.IntsOn _ _ _ _), HB⟩
          case measure => simp [intOf]; omega
        · have hd0 : (x == 0) = false := by simpa using h0
          have hC := HC.out wr (HBX.out.trans (HB.out.mono hsX.out))
          go_wp2_with fail
          go_at_call 81; refine hC.mono ?_; rintro e w7 ⟨rfl, h7⟩
          have HB7 : Hid (Below w2.heap.size w2 w7) := seq HB.out h7
          have HV7 : Hid (RI.IntsOn w7 w2.heap.size g (gsL G (ll.take j))) := HV.out.keep (But.of_below (l := []) h7) (fun k _ => by simp)
          clear hC h7 hc HV HB
          by_cases hgt : G < x
          · have hdg : decide (G < x) = true := decide_eq_true hgt
            have HF : Hid ((dm && (ll.take (j + 1)).all (gsOk G)) = false ∧ gsL G (ll.take (j + 1)) = gsL G (ll.take j)) := by
              rw [HTK.out]
              have hk : gsOk G x = false := by simp [gsOk]; omega
              exact ⟨by simp [hk], by rw [gsL_snoc, hk]; rfl⟩
            go_wp2_with fail
            go_roundw
            case rel => exact ⟨j + 1, g, rfl, by omega, by go_num, by rw [HF.out.1], (by rw [HF.out.2]; exact HV7.out : RI.IntsOn _ _ _ _), HB7⟩
            case measure => simp [intOf]; omega
          · have hdg : decide (G < x) = false := decide_eq_false hgt
            have HF : Hid ((dm && (ll.take (j + 1)).all (gsOk G)) = dq ∧ gsL G (ll.take (j + 1)) = gsL G (ll.take j) ++ [gw x]) := by
              rw [HTK.out]
              have hk : gsOk G x = true := by simp [gsOk]; omega
              exact ⟨by rw [← HDQ.out]; simp [hk], by rw [gsL_snoc, hk]; rfl⟩
            obtain ⟨y, hy⟩ : ∃ y, IntKind.u64.wrap (x - 1) = y := ⟨_, rfl⟩
            obtain ⟨gx, hgx⟩ : ∃ gx, IntKind.i64.wrap y = gx := ⟨_, rfl⟩
            have HGX : Hid (gw x = gx) := by
              show gw x = gx
              unfold gw; rw [hy, hgx]
            have hOO := HV7.out.own
            have hlj : (gsL G (ll.take j)).length ≤ 257 := by
              unfold gsL
              rw [List.length_map]
              refine Nat.le_trans (List.length_filter_le _ _) ?_
              rw [List.length_take]; have := HLN.out; omega
            have hsz7 := HB7.out.size
            generalize hln : (gsL G (ll.take j)).length = ln at *
            have HLJ : Hid ((gsL G (ll.take j)).length = ln) := hln
            clear hln
            go_wp2_with (at_builtin; refine wpList_append_own _ rfl _ _ 27 rfl w2.heap.size 3 i3 (.int .i64 0) 1 8 Tryz.underlying27 hi3 hz03 hz13 hz23 rfl (by decide) _ _ _ rfl (hOO.alloc _) ⟨w7.heap.size, 0, none⟩ 1 1 [.int .i64 gx] rfl rfl (cell_one_new _ _ _) (ints_oneCell .i64 [gx]) (by unfold maxLen; omega) (by omega) (by simp; omega) ?_; intro v' w9 hown' hgrow2 hnil2)
            have HB9 : Hid (Below w2.heap.size w2 w9) := (HB7.out.alloc HB7.out.size _).grown hgrow2 (by simp; omega) (fun k hk => (hOO.lt k hk).1)
            have HV9 : Hid (RI.IntsOn w9 w2.heap.size v' (gsL G (ll.take (j + 1)))) := ⟨by
              rw [HF.out.2, List.map_append, List.length_append, HLJ.out, HGX.out]
              exact hown'⟩
            clear hown' hgrow2 hnil2 hOO
            go_wp2_with fail
            go_roundw
            case rel => exact ⟨j + 1, v', rfl, by omega, by go_num, by rw [HF.out.1], HV9, HB9⟩
            case measure => simp [intOf]; omega
      · obtain rfl : j = ll.length := by omega
        have HF : Hid (RI.IntsOn wr w.heap.size g (gsL G ll)) := by
          have := HV.out
          rw [List.take_length] at this
          exact this.mono hsX.out
        have HD : Hid ((dm && (ll.take ll.length).all (gsOk G)) = (dm && ll.all (gsOk G))) := by
          show _ = _
          rw [List.take_length]
        have HBF : Hid (Below w.heap.size w wr) := HBX.out.trans (HB.out.mono hsX.out)
        have hgd : decide ((ll.length : Int) < (ll.length : Int)) = false := by simp
        rw [HD.out]
        clear HV HB
        go_wp2_with fail
        go_returns
        exact ⟨g, by rw [hdm]; rfl, HF.out, HBF.out⟩
  · have hd0 : (nn == 0) = false := by simpa using hn0
    have hd1 : (nn != 0) = true := by simpa using hn0
    have HLE : Hid (ll = l0 ++ [nn]) := HLL.out.2.trans (if_neg hn0)
    have hOO := HV0.out.own
    have hlen := HLL.out.1
    have h12 := hs12.out
    go_wp2_with (at_builtin; refine wpList_append_own _ rfl _ _ 38 rfl w1.heap.size 39 i0 (.int .u64 0) 1 8 Tryz.underlying38 hi hz0 hz1 hz2 rfl (by decide) _ _ _ rfl (hOO.alloc _) ⟨w2.heap.size, 0, none⟩ 1 1 [.int .u64 nn] rfl rfl (cell_one_new _ _ _) (ints_oneCell .u64 [nn]) (by unfold maxLen; omega) (by omega) (by simp; omega) ?_; intro v' w5 hown' hgrow2 hnil2; generalize hq : l0.length + 1 = q at hown' ⊢; obtain rfl : q = ll.length := (by rw [← hq, HLE.out, List.length_append]; rfl); clear hq; obtain ⟨A0, cp0, rfl⟩ := RI.lists_slice hown')
    have HVX0 : Hid (WordsOn w5 w1.heap.size (.slice A0 ll.length cp0) ll) := ⟨by
      have := hown'
      rw [show ll.map (Value.int .u64) = l0.map (Value.int .u64) ++ [Value.int .u64 nn] by rw [HLE.out, List.map_append]; rfl]
      exact this⟩
    have hbx : Below w.heap.size w w5 := (HB2.out.alloc HB2.out.size _).grown hgrow2 (by simp; omega) (fun k hk => by have := (hOO.lt k hk).1; omega)
    have hsX : Hid (w.heap.size ≤ w5.heap.size) := hbx.size
    have HBX : Hid (Below w.heap.size w w5) := hbx
    have HLN : Hid (ll.length ≤ 257) := (by rw [HLE.out, List.length_append]; have := HLL.out.1; simp; omega : ll.length ≤ 257)
    have HVX : Hid (WordsOn w5 w1.heap.size (.slice A0 ll.length cp0) ll) := HVX0.out
    clear hown' hgrow2 hnil2 hOO hbx HVX0 h12 hlen
    go_loopw [11, 14, 42] (fun rr gg i wr => ∃ (j : Nat) (g : Value), g = gg ∧ j ≤ ll.length ∧ i = .int .i64 j ∧ rr = .bool (dm && (ll.take j).all (gsOk G)) ∧ Hid (RI.IntsOn wr w5.heap.size g (gsL G (ll.take j))) ∧ Hid (Below w5.heap.size w5 wr)) (fun _ _ i _ => ll.length - (intOf i).toNat)
    case atStart => exact ⟨0, _, rfl, Nat.zero_le _, rfl, by simp, ⟨World.ownsRow_nil _ _ _ _⟩, Below.refl _ _⟩
    case round =>
      obtain ⟨j, g, rfl, hj, rfl, rfl, HV, HB⟩ := hrel
      have hln9 : ll.length ≤ 257 := HLN.out
      by_cases hlt : j < ll.length
      · obtain ⟨gb, cp, ea, hgb, hcell⟩ := HVX.out.cell hlt
        injection ea with ea1 ea2 ea3
        subst ea1
        have hk1 : (j : Int) < (ll.length : Int) := by omega
        have hk0 : (0 : Int) ≤ (j : Int) := by omega
        have hc := (HB.out.cell (p := ⟨gb, j, none⟩) hgb).trans hcell
        have HTK : Hid (ll.take (j + 1) = ll.take j ++ [ll.getD j 0]) := by
          show ll.take (j + 1) = _
          rw [List.take_add_one, List.getD_eq_getElem?_getD, List.getElem?_eq_getElem hlt]
          rfl
        have hxb := HBD.out (ll.getD j 0) (by rw [List.getD_eq_getElem?_getD, List.getElem?_eq_getElem hlt]; exact List.getElem_mem hlt)
        generalize ll.getD j 0 = x at *
        generalize hdq : (dm && (ll.take j).all (gsOk G)) = dq
        have HDQ : Hid ((dm && (ll.take j).all (gsOk G)) = dq) := hdq
        clear hcell hdq ea2 ea3
        by_cases h0 : x = 0
        · subst h0
          have HF : Hid ((dm && (ll.take (j + 1)).all (gsOk G)) = false ∧ gsL G (ll.take (j + 1)) = gsL G (ll.take j)) := by
            rw [HTK.out]
            have hk : gsOk G 0 = false := by simp [gsOk]
            exact ⟨by simp [hk], by rw [gsL_snoc, hk]; rfl⟩
          go_wp2_with fail
          go_roundw
          case rel => exact ⟨j + 1, g, rfl, by omega, by go_num, by rw [HF.out.1], (by rw [HF.out.2]; exact HV.out : RI.IntsOn _ _ _ _), HB⟩
          case measure => simp [intOf]; omega
        · have hd0 : (x == 0) = false := by simpa using h0
          have hC := HC.out wr (HBX.out.trans (HB.out.mono hsX.out))
          go_wp2_with fail
          go_at_call 81; refine hC.mono ?_; rintro e w7 ⟨rfl, h7⟩
          have HB7 : Hid (Below w5.heap.size w5 w7) := seq HB.out h7
          have HV7 : Hid (RI.IntsOn w7 w5.heap.size g (gsL G (ll.take j))) := HV.out.keep (But.of_below (l := []) h7) (fun k _ => by simp)
          clear hC h7 hc HV HB
          by_cases hgt : G < x
          · have hdg : decide (G < x) = true := decide_eq_true hgt
            have HF : Hid ((dm && (ll.take (j + 1)).all (gsOk G)) = false ∧ gsL G (ll.take (j + 1)) = gsL G (ll.take j)) := by
              rw [HTK.out]
              have hk : gsOk G x = false := by simp [gsOk]; omega
              exact ⟨by simp [hk], by rw [gsL_snoc, hk]; rfl⟩
            go_wp2_with fail
            go_roundw
            case rel => exact ⟨j + 1, g, rfl, by omega, by go_num, by rw [HF.out.1], (by rw [HF.out.2]; exact HV7.out : RI.IntsOn _ _ _ _), HB7⟩
            case measure => simp [intOf]; omega
          · have hdg : decide (G < x) = false := decide_eq_false hgt
            have HF : Hid ((dm && (ll.take (j + 1)).all (gsOk G)) = dq ∧ gsL G (ll.take (j + 1)) = gsL G (ll.take j) ++ [gw x]) := by
              rw [HTK.out]
              have hk : gsOk G x = true := by simp [gsOk]; omega
              exact ⟨by rw [← HDQ.out]; simp [hk], by rw [gsL_snoc, hk]; rfl⟩
            obtain ⟨y, hy⟩ : ∃ y, IntKind.u64.wrap (x - 1) = y := ⟨_, rfl⟩
            obtain ⟨gx, hgx⟩ : ∃ gx, IntKind.i64.wrap y = gx := ⟨_, rfl⟩
            have HGX : Hid (gw x = gx) := by
              show gw x = gx
              unfold gw; rw [hy, hgx]
            have hOO := HV7.out.own
            have hlj : (gsL G (ll.take j)).length ≤ 257 := by
              unfold gsL
              rw [List.length_map]
              refine Nat.le_trans (List.length_filter_le _ _) ?_
              rw [List.length_take]; have := HLN.out; omega
            have hsz7 := HB7.out.size
            generalize hln : (gsL G (ll.take j)).length = ln at *
            have HLJ : Hid ((gsL G (ll.take j)).length = ln) := hln
            clear hln
            go_wp2_with (at_builtin; refine wpList_append_own _ rfl _ _ 27 rfl w5.heap.size 3 i3 (.int .i64 0) 1 8 Tryz.underlying27 hi3 hz03 hz13 hz23 rfl (by decide) _ _ _ rfl (hOO.alloc _) ⟨w7.heap.size, 0, none⟩ 1 1 [.int .i64 gx] rfl rfl (cell_one_new _ _ _) (ints_oneCell .i64 [gx]) (by unfold maxLen; omega) (by omega) (by simp; omega) ?_; intro v' w9 hown' hgrow2 hnil2)
            have HB9 : Hid (Below w5.heap.size w5 w9) := (HB7.out.alloc HB7.out.size _).grown hgrow2 (by simp; omega) (fun k hk => (hOO.lt k hk).1)
            have HV9 : Hid (RI.IntsOn w9 w5.heap.size v' (gsL G (ll.take (j + 1)))) := ⟨by
              rw [HF.out.2, List.map_append, List.length_append, HLJ.out, HGX.out]
              exact hown'⟩
            clear hown' hgrow2 hnil2 hOO
            go_wp2_with fail
            go_roundw
            case rel => exact ⟨j + 1, v', rfl, by omega, by go_num, by rw [HF.out.1], HV9, HB9⟩
            case measure => simp [intOf]; omega
      · obtain rfl : j = ll.length := by omega
        have HF : Hid (RI.IntsOn wr w.heap.size g (gsL G ll)) := by
          have := HV.out
          rw [List.take_length] at this
          exact this.mono hsX.out
        have HD : Hid ((dm && (ll.take ll.length).all (gsOk G)) = (dm && ll.all (gsOk G))) := by
          show _ = _
          rw [List.take_length]
        have HBF : Hid (Below w.heap.size w wr) := HBX.out.trans (HB.out.mono hsX.out)
        have hgd : decide ((ll.length : Int) < (ll.length : Int)) = false := by simp
        rw [HD.out]
        clear HV HB
        go_wp2_with fail
        go_returns
        exact ⟨g, by rw [hdm]; rfl, HF.out, HBF.out⟩
end Go.Proofs.YtiagkeakohkfgaaGreat

namespace Go.Proofs.YtiagkeakohkfgaaGreat
open Go Go.RowKit
set_option linter.unusedVariables false
set_option maxRecDepth 100000
set_option linter.unusedSimpArgs false

theorem tk_g2 {who P T G p most : Int} {gl : Int → Int} {cl : Nat} {w : World} {x : Nat} {t : TkT} {L : List Nat} (h : (tkCp who gl P T G p most cl).I w x t L) (hn : (tkPM gl P p most).ax t = none) :
    Calls Tryz.prog 32 #[.pointer (some ⟨x, 0, none⟩)] w fun e w' => e = .returned (.int .i64 t.obs) ∧ w = w' := by
  cases t with
  | over l f o tl => exact tk_g h
  | none' =>
    obtain ⟨hok, es, Le, he, hxe, h⟩ := h
    obtain ⟨hb, -⟩ := h
    exact take_g w x cl who p most 0 0 (-1) none none none hb (pull_g_nil w)
  | fst l q =>
    have h1 : ((plPM gl).ax q).isSome = true := h.1.2.1
    rw [show (plPM gl).ax q = none from hn] at h1
    cases h1
  | oth l f q tl =>
    have h1 : ((plPM gl).ax q).isSome = true := h.1.2.1
    rw [show (plPM gl).ax q = none from hn] at h1
    cases h1
  | _ => cases hn
/-- A machine that is only kept. -/
def Rd.mach {σ : Type} {I : MI σ} {M : PM σ} (hG : I.Good M) (x : Nat) (t : σ) (L : List Nat) : Rd := ⟨L, fun w => I w x t L, fun w w' l h hb hk => hG.keep h hb hk⟩
section
variable {σ : Type} {I : MI σ} {M : PM σ} {R Rm : Rd} {W0 w w' : World} {A : Option Addr} {cap c b n : Nat} {s : St} {x : Nat} {t : σ} {L : List Nat}
theorem Solo.again (h : Solo I R W0 w A cap c b n s x t L) {τ : Type} {J : MI τ} {R2 : Rd} {y : Nat} {u : τ} {K : List Nat} (hm : J w y u K) (hr : R2.P w) (hB : ∀ k ∈ K, k ∈ R.B) (hR : ∀ k ∈ R2.B, k ∈ R.B) (hK : ∀ k ∈ K, k ∉ R2.B) (hup : ∀ k ∈ K, W0.heap.size ≤ k) : Solo J R2 W0 w A cap c b n s y u K :=
  ⟨h.mem, hm, hr, fun k hk => ⟨fun e => h.rfar.1 (e ▸ hB k hk), fun e => h.rfar.2 (e ▸ hB k hk), hK k hk⟩, ⟨fun hm => h.rfar.1 (hR _ hm), fun hm => h.rfar.2 (hR _ hm)⟩, ⟨h.up.1, h.up.2.1, hup⟩, fun k hk => h.rlt k (hR k hk), h.below⟩
end
def gqL (y : Int) : Int := wd (20 + 2 * 264 + 2 * 3) 4 2 y 1
def gqA : PM QpT := qpPM (fun y => wd (20 + 2 * 264 + 2 * 3) 4 2 y 1) [2, 0]
def gqB : PM QpT := qpPM (fun y => wd (20 + 2 * 264 + 2 * 3) 4 2 y 1) [1]
def gqT : PM TkT := tkPM (fun y => wd (20 + 2 * 264 + 2 * 3) 4 2 y 1) 2 1 0
def gqS0 : St := fresh (fun _ => 0)
def gqS1 : St := (gqA.steps 0 562 9 (.ch 0, gqS0)).2
def gqS2 : St := (gqB.steps 0 562 9 (.ch 0, gqS1)).2
def gqS3 : St := (gqT.steps 0 562 30 (.ld, gqS2)).2
def gqT3 : TkT := (gqT.steps 0 562 30 (.ld, gqS2)).1
theorem gq_list : lsOf (fun g => peekT 562 gqS2 (wd (20 + 2 * 264 + 2 * 3) 4 2 g 1)) 4 (peekT 562 gqS2 6) = ([2, 0, 1], true) := by decide +kernel
theorem gq_obs : gqT3.obs = 2 ∧ (gqT.ax gqT3).isNone = true := ⟨by decide +kernel, by decide +kernel⟩
theorem gq_gs : gsL 4 (rgsL 2 4 1 562 gqS3) = [0] := by decide +kernel
theorem gq_low1 : Low gqS1 9 := (PM.steps_low gqA 0 562 9 (.ch 0, gqS0) (low_fresh _)).more (by omega)
theorem gq_low2 : Low gqS2 18 := (PM.steps_low gqB 0 562 9 (.ch 0, gqS1) gq_low1).more (by omega)
theorem lit1_sees (w : World) (a : Int) : RI.SeesL (w.alloc (.cells #[.int .i64 a] 3)) (.slice (some ⟨w.heap.size, 0, none⟩) 1 1) [a] := by
  have hX := Blk.new w #[.int .i64 a] 3
  refine ⟨_, 1, rfl, (fun h => by cases h), fun _ => ⟨w.heap.size, 0, rfl, hX.lt, fun j hj => ?_⟩⟩
  have hj4 : j < 1 := hj
  obtain rfl : j = 0 := by omega
  exact hX.cell 0 rfl
theorem lit2_sees (w : World) (a b : Int) : RI.SeesL (w.alloc (.cells #[.int .i64 a, .int .i64 b] 3)) (.slice (some ⟨w.heap.size, 0, none⟩) 2 2) [a, b] := by
  have hX := Blk.new w #[.int .i64 a, .int .i64 b] 3
  refine ⟨_, 2, rfl, (fun h => by cases h), fun _ => ⟨w.heap.size, 0, rfl, hX.lt, fun j hj => ?_⟩⟩
  have hj4 : j < 2 := hj
  rcases (by omega : j = 0 ∨ j = 1) with rfl | rfl
  · exact hX.cell 0 rfl
  · exact hX.cell 1 rfl
theorem lit3_sees (w : World) (a b c : Int) : RI.SeesL (w.alloc (.cells #[.int .i64 a, .int .i64 b, .int .i64 c] 3)) (.slice (some ⟨w.heap.size, 0, none⟩) 3 3) [a, b, c] := by
  have hX := Blk.new w #[.int .i64 a, .int .i64 b, .int .i64 c] 3
  refine ⟨_, 3, rfl, (fun h => by cases h), fun _ => ⟨w.heap.size, 0, rfl, hX.lt, fun j hj => ?_⟩⟩
  have hj4 : j < 3 := hj
  rcases (by omega : j = 0 ∨ j = 1 ∨ j = 2) with rfl | rfl | rfl
  · exact hX.cell 0 rfl
  · exact hX.cell 1 rfl
  · exact hX.cell 2 rfl

set_option maxHeartbeats 8000000 in
theorem globq_awake (w : World) : Calls Tryz.prog 11 #[] w fun e w' => e = .returned (.bool true) ∧ Below w.heap.size w w' := by
  have hL := lay_some 2 2 4 none 0 0 562 (fun _ => 0) (fun _ => 0) w (by omega) ⟨⟨by omega⟩, by omega, by omega, by omega⟩ (by omega) (fun h => absurd h (by omega)) (fun i h => absurd h (by omega))
  go_enter Tryz.func11, Tryz.ntmps11
  go_wp2_with fail
  go_at_call 9; refine hL.mono ?_; rintro e w1 ⟨cl, A, A', cap, cap', c, b, c', b', rfl, hLd⟩
  have HI1 : Hid (Is w1 135 A cap c b 562 gqS0) := hLd.two.m
  have HY1 : Hid (Lay w1 cl 2 2 4) := hLd.lay
  have HB1 : Hid (Below w.heap.size w w1) := hLd.below
  have hne : Hid (cl ≠ c ∧ cl ≠ b) := lay_ne hLd.lay (by decide) hLd.two.m (by omega)
  have hup : Hid (w.heap.size ≤ c ∧ w.heap.size ≤ b) := ⟨hLd.up.2.1, hLd.up.2.2.1⟩
  have hlo : Hid (c < w1.heap.size ∧ b < w1.heap.size ∧ cl < w1.heap.size) := ⟨hLd.two.m.lt, hLd.two.m.bl, hLd.lay.lt⟩
  have hGA0 := qp_good 0 2 2 4 cl [2, 0] (by omega) (by omega) (by omega) (by decide) (by decide)
  have hGB0 := qp_good 0 2 2 4 cl [1] (by omega) (by omega) (by omega) (by decide) (by decide)
  have hNA := qp_new_some (w1.alloc (.cells #[.int .i64 2, .int .i64 0] 3)) cl 0 2 2 4 _ [2, 0] (by obtain ⟨q1, q2, q3, q4, q5⟩ := lit2_sees w1 2 0; exact ⟨q1, q2, q3, q4, q5⟩) (by decide) (by decide) (by decide) (hLd.lay.below ((Below.refl _ _).alloc (Nat.le_refl _) _) hLd.lay.lt) (by omega) (by omega) (by omega)
  have HA1 : Hid (Below w1.heap.size w1 (w1.alloc (.cells #[.int .i64 2, .int .i64 0] 3))) := (Below.refl _ _).alloc (Nat.le_refl _) _
  clear hL hLd
  go_wp2_with fail
  go_at_call 12; refine hNA.mono ?_; rintro e w2 ⟨xa, La, rfl, ha1, ha2, ha3, ha4⟩
  have HB2 : Hid (Below w1.heap.size w1 w2) := seq HA1.out ha2
  have HLA : Hid (∀ k ∈ La, w1.heap.size ≤ k) := fun k hk => Nat.le_trans HA1.out.size (ha3 k hk)
  have HMA : Hid ((qpI 0 cl (fun y => wd (20 + 2 * 264 + 2 * 3) 4 2 y 1) [2, 0]) w2 xa (.ch 0) La) := ha1
  have hNB := qp_new_some (w2.alloc (.cells #[.int .i64 1] 3)) cl 0 2 2 4 _ [1] (by obtain ⟨q1, q2, q3, q4, q5⟩ := lit1_sees w2 1; exact ⟨q1, q2, q3, q4, q5⟩) (by decide) (by decide) (by decide) (HY1.out.below (seq HB2.out ((Below.refl _ _).alloc (Nat.le_refl _) _)) HY1.out.lt) (by omega) (by omega) (by omega)
  have HA2 : Hid (Below w2.heap.size w2 (w2.alloc (.cells #[.int .i64 1] 3))) := (Below.refl _ _).alloc (Nat.le_refl _) _
  clear hNA HA1 ha1 ha2 ha3 ha4
  go_wp2_with fail
  go_at_call 12; refine hNB.mono ?_; rintro e w3 ⟨xb, Lb, rfl, hb1, hb2, hb3, hb4⟩
  have HB23 : Hid (Below w2.heap.size w2 w3) := seq HA2.out hb2
  have HB3 : Hid (Below w1.heap.size w1 w3) := seq HB2.out HB23.out
  have HLB : Hid (∀ k ∈ Lb, w2.heap.size ≤ k) := fun k hk => Nat.le_trans HA2.out.size (hb3 k hk)
  have hGA : ((qpI 0 cl (fun y => wd (20 + 2 * 264 + 2 * 3) 4 2 y 1) [2, 0])).Good gqA := hGA0
  have hGB : ((qpI 0 cl (fun y => wd (20 + 2 * 264 + 2 * 3) 4 2 y 1) [1])).Good gqB := hGB0
  have HSA : Hid (Solo (qpI 0 cl (fun y => wd (20 + 2 * 264 + 2 * 3) 4 2 y 1) [2, 0]) ((Rd.lay cl 2 2 4).and (Rd.mach hGB xb (.ch 0) Lb)) w w3 A cap c b 562 (gqA.steps 0 562 0 (.ch 0, gqS0)).2 xa (gqA.steps 0 562 0 (.ch 0, gqS0)).1 La) := by
    have l1 := hlo.out
    have s12 := HB2.out.size
    have la := HLA.out
    have lb := HLB.out
    have ltA := hGA.lt HMA.out
    have ltB := hGB.lt hb1
    refine ⟨HI1.out.below HB3.out, hGA.below HMA.out HB23.out, ⟨HY1.out.below HB3.out HY1.out.lt, hb1⟩, fun k hk => ⟨by have := la k hk; omega, by have := la k hk; omega, fun hm => ?_⟩, ⟨fun hm => ?_, fun hm => ?_⟩, ⟨hup.out.1, hup.out.2, fun k hk => by have := la k hk; have := HB1.out.size; omega⟩, fun k hk => ?_, HB1.out.trans (HB3.out.mono HB1.out.size)⟩
    · rcases List.mem_append.1 hm with h | h
      · have := la k hk; have : k = cl := List.mem_singleton.1 h; omega
      · have := lb k h; have := ltA k hk; omega
    · rcases List.mem_append.1 hm with h | h
      · exact hne.out.1 (List.mem_singleton.1 h).symm
      · have := lb c h; omega
    · rcases List.mem_append.1 hm with h | h
      · exact hne.out.2 (List.mem_singleton.1 h).symm
      · have := lb b h; omega
    · rcases List.mem_append.1 hk with h | h
      · have : k = cl := List.mem_singleton.1 h; have := HB3.out.size; omega
      · exact ltB k h
  have HBL : Hid ((∀ k ∈ Lb, w.heap.size ≤ k) ∧ ∀ k ∈ Lb, k ∉ [cl]) := ⟨fun k hk => by have := HLB.out k hk; have := HB2.out.size; have := HB1.out.size; omega, fun k hk hm => by have := HLB.out k hk; have := HB2.out.size; have : k = cl := List.mem_singleton.1 hm; have := hlo.out; omega⟩
  have HST : Hid (Steps gqA (qpI 0 cl (fun y => wd (20 + 2 * 264 + 2 * 3) 4 2 y 1) [2, 0]) (Rd.lay cl 2 2 4) 19 0 ∧ Steps gqB (qpI 0 cl (fun y => wd (20 + 2 * 264 + 2 * 3) 4 2 y 1) [1]) (Rd.lay cl 2 2 4) 19 0) := ⟨qp_steps 0 2 2 4 cl [2, 0] (by omega) (by omega) (by omega) (by decide) (by decide) stepby_qput, qp_steps 0 2 2 4 cl [1] (by omega) (by omega) (by omega) (by decide) (by decide) stepby_qput⟩
  have hTL := tk_laws (who := 0) (P := 2) (T := 2) (G := 4) (p := 1) (most := 0) (cl := cl) (by omega) (by omega) (by omega) (by omega)
  have HTG : Hid (((tkCp 0 (fun y => wd (20 + 2 * 264 + 2 * 3) 4 2 y 1) 2 2 4 1 0 cl).I).Good gqT ∧ Steps gqT (tkCp 0 (fun y => wd (20 + 2 * 264 + 2 * 3) 4 2 y 1) 2 2 4 1 0 cl).I (Rd.lay cl 2 2 4) 31 0) := ⟨Cp.good hTL, Cp.steps hTL stepby_qtake⟩
  clear hNB HA2 hb1 hb2 hb3 hb4 HMA HLA HLB HB23 HB3 HB2 HI1 HY1 HB1 hGA0 hGB0 hTL
  go_wp2_with fail
  have HLO : Hid (∀ q : Nat, q ≤ 9 → Low (gqA.steps 0 562 q (.ch 0, gqS0)).2 1000000) := fun q hq => (PM.steps_low gqA 0 562 q (.ch 0, gqS0) (low_fresh _)).more (by omega)
  go_loopw [7] (fun k wi => ∃ (q : Nat) (L : List Nat), q ≤ 9 ∧ k = .int .i64 q ∧ Hid (Solo (qpI 0 cl (fun y => wd (20 + 2 * 264 + 2 * 3) 4 2 y 1) [2, 0]) ((Rd.lay cl 2 2 4).and (Rd.mach hGB xb (.ch 0) Lb)) w wi A cap c b 562 (gqA.steps 0 562 q (.ch 0, gqS0)).2 xa (gqA.steps 0 562 q (.ch 0, gqS0)).1 L)) (fun k _ => 9 - (intOf k).toNat)
  case atStart => exact ⟨0, _, by omega, rfl, HSA⟩
  case round =>
    clear HSA
    obtain ⟨q, L, hq, rfl, HS⟩ := hrel
    by_cases hq9 : q < 9
    · have hSt := HS.out.step hGA HST.out.1 (fun Y (h : (((Rd.lay cl 2 2 4).and (Rd.mach hGB xb (.ch 0) Lb))).P Y) => h.1) (fun k hk => List.mem_append_left _ hk) (by omega) (HLO.out q hq)
      rw [show gqA.goS 0 562 (gqA.steps 0 562 q (.ch 0, gqS0)).1 (gqA.steps 0 562 q (.ch 0, gqS0)).2 = (gqA.steps 0 562 (q + 1) (.ch 0, gqS0)).2 by rw [PM.steps_succ], show gqA.goT 562 (gqA.steps 0 562 q (.ch 0, gqS0)).1 (gqA.steps 0 562 q (.ch 0, gqS0)).2 = (gqA.steps 0 562 (q + 1) (.ch 0, gqS0)).1 by rw [PM.steps_succ]] at hSt
      have hq1 : (q : Int) < 9 := by omega
      have hq0 : (0 : Int) ≤ (q : Int) := by omega
      clear HS
      go_wp2_with fail
      go_at_call 19; refine hSt.mono ?_; rintro e w4 ⟨rfl, L', hS'⟩
      have HS' : Hid _ := hS'
      clear hSt hS'
      go_wp2_with fail
      go_roundw
      case rel => exact ⟨q + 1, L', by omega, by go_num, HS'⟩
      case measure => simp [intOf]; omega
    · obtain rfl : q = 9 := by omega
      clear HLO
      rw [show ((9 : Nat) : Int) = 9 from rfl]
      have HSB : Hid (Solo (qpI 0 cl (fun y => wd (20 + 2 * 264 + 2 * 3) 4 2 y 1) [1]) (Rd.lay cl 2 2 4) w wr A cap c b 562 (gqB.steps 0 562 0 (.ch 0, gqS1)).2 xb (gqB.steps 0 562 0 (.ch 0, gqS1)).1 Lb) := HS.out.again HS.out.rd.2 HS.out.rd.1 (fun k hk => List.mem_append_right _ hk) (fun k hk => List.mem_append_left _ hk) HBL.out.2 HBL.out.1
      clear HS
      go_wp2_with fail
      have HLO : Hid (∀ q : Nat, q ≤ 9 → Low (gqB.steps 0 562 q (.ch 0, gqS1)).2 1000000) := fun q hq => (PM.steps_low gqB 0 562 q (.ch 0, gqS1) gq_low1).more (by omega)
      go_loopw [8] (fun k wi => ∃ (q : Nat) (L : List Nat), q ≤ 9 ∧ k = .int .i64 q ∧ Hid (Solo (qpI 0 cl (fun y => wd (20 + 2 * 264 + 2 * 3) 4 2 y 1) [1]) (Rd.lay cl 2 2 4) w wi A cap c b 562 (gqB.steps 0 562 q (.ch 0, gqS1)).2 xb (gqB.steps 0 562 q (.ch 0, gqS1)).1 L)) (fun k _ => 9 - (intOf k).toNat)
      case atStart => exact ⟨0, _, by omega, rfl, HSB⟩
      case round =>
        clear HSB
        obtain ⟨q, L, hq, rfl, HS⟩ := hrel
        by_cases hq9 : q < 9
        · have hSt := HS.out.step hGB HST.out.2 (fun Y h => h) (fun k hk => hk) (by omega) (HLO.out q hq)
          rw [show gqB.goS 0 562 (gqB.steps 0 562 q (.ch 0, gqS1)).1 (gqB.steps 0 562 q (.ch 0, gqS1)).2 = (gqB.steps 0 562 (q + 1) (.ch 0, gqS1)).2 by rw [PM.steps_succ], show gqB.goT 562 (gqB.steps 0 562 q (.ch 0, gqS1)).1 (gqB.steps 0 562 q (.ch 0, gqS1)).2 = (gqB.steps 0 562 (q + 1) (.ch 0, gqS1)).1 by rw [PM.steps_succ]] at hSt
          have hq1 : (q : Int) < 9 := by omega
          have hq0 : (0 : Int) ≤ (q : Int) := by omega
          clear HS
          go_wp2_with fail
          go_at_call 19; refine hSt.mono ?_; rintro e w4 ⟨rfl, L', hS'⟩
          have HS' : Hid _ := hS'
          clear hSt hS'
          go_wp2_with fail
          go_roundw
          case rel => exact ⟨q + 1, L', by omega, by go_num, HS'⟩
          case measure => simp [intOf]; omega
        · obtain rfl : q = 9 := by omega
          clear HLO
          rw [show ((9 : Nat) : Int) = 9 from rfl]
          have hLs := qlist_any wr A cap c b 562 cl gqS2 2 2 4 HS.out.mem (by omega) HS.out.rd (by omega) (by omega) (by omega)
          rw [gq_list] at hLs
          have HF : Hid _ := HS.out
          clear HS
          go_wp2_with fail
          go_at_call 21; refine hLs.mono ?_; rintro e w5 ⟨vl, rfl, hv5, hb5⟩
          have HV5 : Hid (RI.IntsOn w5 wr.heap.size vl [2, 0, 1]) := ⟨hv5.own⟩
          have HI5 : Hid (Is w5 135 A cap c b 562 gqS2) := HF.out.mem.below hb5
          have HY5 : Hid (Lay w5 cl 2 2 4) := (HF.out.rd : Lay wr cl 2 2 4).below hb5 (HF.out.rd : Lay wr cl 2 2 4).lt
          have HB5 : Hid (Below w.heap.size w w5) := seq HF.out.below hb5
          have hcb : Hid (c < wr.heap.size ∧ b < wr.heap.size ∧ cl < wr.heap.size) := ⟨HF.out.mem.lt, HF.out.mem.bl, (HF.out.rd : Lay wr cl 2 2 4).lt⟩
          have hNT := tk_fresh (who := 0) (P := 2) (T := 2) (G := 4) (p := 1) (most := 0) (cl := cl) w5 (fun y => wd (20 + 2 * 264 + 2 * 3) 4 2 y 1)
          generalize hwl : wr = wl at *
          clear hLs hv5 hb5 HF
          go_wp2_with fail
          go_at_call 61; refine hNT.mono ?_; rintro e w6 ⟨xt, L6, rfl, ht1, ht2, ht3⟩
          have HSC : Hid (Solo (tkCp 0 (fun y => wd (20 + 2 * 264 + 2 * 3) 4 2 y 1) 2 2 4 1 0 cl).I ((Rd.lay cl 2 2 4).and (Rd.ints wl.heap.size vl [2, 0, 1])) w w6 A cap c b 562 (gqT.steps 0 562 0 (.ld, gqS2)).2 xt (gqT.steps 0 562 0 (.ld, gqS2)).1 L6) := Solo.begin HI5.out ht2 HB5.out hup.out ht1 ht3 ⟨HY5.out, HV5.out⟩ (fun k hk => by
            rcases List.mem_append.1 hk with h | h
            · have : k = cl := List.mem_singleton.1 h
              rw [this]; exact HY5.out.lt
            · exact (HV5.out.up k h).2) ⟨fun hm => by
            rcases List.mem_append.1 hm with h | h
            · exact hne.out.1 (List.mem_singleton.1 h).symm
            · have := (HV5.out.up c h).1; have := hcb.out; omega, fun hm => by
            rcases List.mem_append.1 hm with h | h
            · exact hne.out.2 (List.mem_singleton.1 h).symm
            · have := (HV5.out.up b h).1; have := hcb.out; omega⟩
          clear hNT ht1 ht2 ht3 HI5 HY5 HB5 HV5
          go_wp2_with fail
          have HLO : Hid (∀ q : Nat, q ≤ 30 → Low (gqT.steps 0 562 q (.ld, gqS2)).2 1000000) := fun q hq => (PM.steps_low gqT 0 562 q (.ld, gqS2) gq_low2).more (by omega)
          go_loopw [12] (fun k wi => ∃ (q : Nat) (L : List Nat), q ≤ 30 ∧ k = .int .i64 q ∧ Hid (Solo (tkCp 0 (fun y => wd (20 + 2 * 264 + 2 * 3) 4 2 y 1) 2 2 4 1 0 cl).I ((Rd.lay cl 2 2 4).and (Rd.ints wl.heap.size vl [2, 0, 1])) w wi A cap c b 562 (gqT.steps 0 562 q (.ld, gqS2)).2 xt (gqT.steps 0 562 q (.ld, gqS2)).1 L)) (fun k _ => 30 - (intOf k).toNat)
          case atStart => exact ⟨0, _, by omega, rfl, HSC⟩
          case round =>
            clear HSC
            obtain ⟨q, L, hq, rfl, HS⟩ := hrel
            by_cases hq9 : q < 30
            · have hSt := HS.out.step HTG.out.1 HTG.out.2 (fun Y (h : (((Rd.lay cl 2 2 4).and (Rd.ints wl.heap.size vl [2, 0, 1]))).P Y) => h.1) (fun k hk => List.mem_append_left _ hk) (by omega) (HLO.out q hq)
              rw [show gqT.goS 0 562 (gqT.steps 0 562 q (.ld, gqS2)).1 (gqT.steps 0 562 q (.ld, gqS2)).2 = (gqT.steps 0 562 (q + 1) (.ld, gqS2)).2 by rw [PM.steps_succ], show gqT.goT 562 (gqT.steps 0 562 q (.ld, gqS2)).1 (gqT.steps 0 562 q (.ld, gqS2)).2 = (gqT.steps 0 562 (q + 1) (.ld, gqS2)).1 by rw [PM.steps_succ]] at hSt
              have hq1 : (q : Int) < 30 := by omega
              have hq0 : (0 : Int) ≤ (q : Int) := by omega
              clear HS
              go_wp2_with fail
              go_at_call 31; refine hSt.mono ?_; rintro e w4 ⟨rfl, L', hS'⟩
              have HS' : Hid _ := hS'
              clear hSt hS'
              go_wp2_with fail
              go_roundw
              case rel => exact ⟨q + 1, L', by omega, by go_num, HS'⟩
              case measure => simp [intOf]; omega
            · obtain rfl : q = 30 := by omega
              clear HLO
              rw [show ((30 : Nat) : Int) = 30 from rfl]
              have hGs := rgs_any wr cl 2 2 4 1 A cap c b 562 gqS3 HS.out.rd.1 (by omega) (by omega) HS.out.mem (by omega)
              rw [gq_gs] at hGs
              generalize (decide (rMany 2 1 562 gqS3 ≤ 256) && (rgsL 2 4 1 562 gqS3).all (gsOk 4)) = zz at hGs
              have HVL : Hid (∀ Y, Below wr.heap.size wr Y → RI.SeesL Y vl [2, 0, 1]) := fun Y hY => ((HS.out.rd.2 : RI.IntsOn wr wl.heap.size vl [2, 0, 1]).sees).below hY
              have HM : Hid (∀ Y, Below wr.heap.size wr Y → (tkCp 0 (fun y => wd (20 + 2 * 264 + 2 * 3) 4 2 y 1) 2 2 4 1 0 cl).I Y xt gqT3 L) := fun Y hY => HTG.out.1.below HS.out.mach hY
              have HBF : Hid (Below w.heap.size w wr) := HS.out.below
              clear HS
              go_wp2_with fail
              go_at_call 53; refine hGs.mono ?_; rintro e w7 ⟨vg, rfl, hv7, hb7⟩
              have HB7 : Hid (Below wr.heap.size wr w7) := hb7
              have HG7 : Hid (RI.SeesL w7 vg [0]) := hv7.sees
              have hS1 := RI.lsame_any (w7.alloc (.cells #[.int .i64 2, .int .i64 0, .int .i64 1] 3)) vl _ [2, 0, 1] (by decide) (HVL.out _ (seq hb7 ((Below.refl _ _).alloc (Nat.le_refl _) _))) (lit3_sees w7 2 0 1)
              have HA7 : Hid (Below w7.heap.size w7 (w7.alloc (.cells #[.int .i64 2, .int .i64 0, .int .i64 1] 3))) := (Below.refl _ _).alloc (Nat.le_refl _) _
              clear hGs hv7 hb7
              go_wp2_with fail
              go_at_call 16; refine hS1.mono ?_; rintro e w8 ⟨rfl, hb8⟩
              have HB78 : Hid (Below w7.heap.size w7 w8) := seq HA7.out hb8
              have HB8 : Hid (Below wr.heap.size wr w8) := seq HB7.out HB78.out
              have HM8 : Hid _ := HM.out w8 HB8.out
              have HD : Hid (Calls Tryz.prog 30 #[.pointer (some ⟨xt, 0, none⟩)] w8 fun e w' => e = .returned (.bool true) ∧ w8 = w') := by
                obtain ⟨nx, hx1, hx2⟩ := HTG.out.1.next HM8.out
                rw [gq_obs.2] at hx2
                rw [← hx2]
                exact done_qtake w8 xt nx hx1
              have HGv : Hid (Calls Tryz.prog 32 #[.pointer (some ⟨xt, 0, none⟩)] w8 fun e w' => e = .returned (.int .i64 2) ∧ w8 = w') := by
                have h := tk_g2 HM8.out (by have := gq_obs.2; cases h : gqT.ax gqT3 with
                  | none => exact h
                  | some a => rw [h] at this; cases this)
                rw [gq_obs.1] at h
                exact h
              have hD := HD.out
              have hGv := HGv.out
              clear hS1 hb8 HM HVL HA7 HD HGv HM8
              go_wp2_with fail
              go_at_call 30; refine hD.mono ?_; rintro e w9 ⟨rfl, rfl⟩
              clear hD
              go_wp2_with fail
              go_at_call 32; refine hGv.mono ?_; rintro e w9 ⟨rfl, rfl⟩
              have hS2 := RI.lsame_any (w8.alloc (.cells #[.int .i64 0] 3)) vg _ [0] (by decide) (HG7.out.below (seq HB78.out ((Below.refl _ _).alloc (Nat.le_refl _) _))) (lit1_sees w8 0)
              have HA8 : Hid (Below w8.heap.size w8 (w8.alloc (.cells #[.int .i64 0] 3))) := (Below.refl _ _).alloc (Nat.le_refl _) _
              clear hGv
              go_wp2_with fail
              go_at_call 16; refine hS2.mono ?_; rintro e w10 ⟨rfl, hb10⟩
              have HFF : Hid (Below w.heap.size w w10) := seq (seq (seq HBF.out HB8.out) HA8.out) hb10
              clear hS2 hb10 HA8
              go_wp2_with fail
              go_ret
              exact ⟨rfl, HFF.out⟩
end Go.Proofs.YtiagkeakohkfgaaGreat

namespace Go.Proofs.YtiagkeakohkfgaaGreat
open Go Go.ChangeShapes Go.WideShapes Go.ChangeAt Go.RowKit

theorem below_trodAll {H : Type} {enc : TypeId × Value → H} {P : Program} (hl : laidOutB P = true) {W W' : World} (hb : Below W.heap.size W W') :
    ∀ (ts : List TypeId) (vs : List Value) (ds : List (DataW H)) (ps : List MemPlace), (ts.all fun t => P.readableRec t && decide (t < P.types.size)) = true →
      DataW.TrodAll enc P W 0 (fun _ => true) true ts vs ds ps → DataW.TrodAll enc P W' 0 (fun b => decide (b < W.heap.size)) true ts vs ds ps := by
  intro ts
  induction ts with
  | nil =>
    intro vs ds ps _ h
    cases vs <;> cases ds <;> first | exact h | exact (h : False).elim
  | cons t ts ih =>
    intro vs ds ps hall h
    cases vs with
    | nil => exact (h : False).elim
    | cons v vs =>
      cases ds with
      | nil => exact (h : False).elim
      | cons d ds =>
        obtain ⟨p, q, h1, h2, rfl⟩ := h
        simp only [List.all_cons, Bool.and_eq_true, decide_eq_true_eq] at hall
        have lt : ∀ x ∈ p, x.block < W.heap.size := by obtain ⟨m, hm⟩ := h1; exact DataW.trod_lt m _ _ _ hm
        exact ⟨p, q, Below.trod hl hall.1.1 hall.1.2 h1 hb lt, ih vs ds q hall.2 h2, rfl⟩

theorem law_post {H : Type} {enc : TypeId × Value → H} {P : Program} {f : Func} {s : ChangeSpec} {apart : Bool} {W W' : World} {args : Array Value} {ds gs : List (DataW H)} {before : List MemPlace} {bt : TypeId}
    (hl : laidOutB P = true) (hr : f.resultTypes.toList = [bt]) (hbt : P.underlying bt = some .bool) (hts : (f.params.toList.all fun t => P.readableRec t && decide (t < P.types.size)) = true)
    (hvars : s.vars = []) (hres : (s.fn H ds).results = [.lit (.bool true)]) (harg : (s.fn H ds).args = ds) (hvs : (s.fn H ds).vars = [])
    (hW : DataW.Whole enc P f.params.toList s.vars apart W args.toList ds gs before) (hb : Below W.heap.size W W') :
    s.post enc P f apart true false false W args (.bool true) W' := by
  have hW' := hW
  obtain ⟨p, q, hA, hV, rfl, hfz, hnd⟩ := hW
  have hg : gs = [] ∧ q = [] := by rw [hvars] at hV; exact trodVars_none hV
  obtain ⟨rfl, rfl⟩ := hg
  refine ⟨ds, [], _, [], p, [], hW', ?_, ?_, ?_, hb.frame _, fun h => by cases h⟩
  · have e : (Value.bool true).resultList f.resultTypes.size = [.bool true] := by
      have hs : f.resultTypes.size = 1 := by rw [← Array.length_toList, hr]; rfl
      rw [hs]; rfl
    rw [List.append_nil, hres, hr, e]
    exact trodAll_mk1 (shut_bool hbt _)
  · rw [List.append_nil, harg]
    exact below_trodAll hl hb _ _ _ _ hts hA
  · rw [List.append_nil, hvs, hvars]
    rfl
end Go.Proofs.YtiagkeakohkfgaaGreat

namespace Go.Proofs.YtiagkeakohkfgaaGreat
open Go Go.ChangeShapes Go.WideShapes Go.ChangeAt Go.RowKit Go.Joins
set_option linter.unusedVariables false
set_option linter.unusedSimpArgs false

theorem own_globqPulls : ownKnob Tryz.prog.godebug = none := by kernel_rfl
theorem laidOut_globqPulls : laidOutB Tryz.prog = true := by kernel_rfl

set_option maxRecDepth 100000 in
theorem lifted_globqPulls (os : Os) (started : os.Started) (H : Type) (enc : TypeId × Value → H) :
    ReturnsInHanded {} Tryz.checked os 4 .any (Rows.globqPullsSpec.pre6 enc Tryz.prog Tryz.f4 Rows.globqPullsRow.domain false) (Rows.globqPullsSpec.post enc Tryz.prog Tryz.f4 false true false false) := by
  refine returnsInHanded_of_change (C := Tryz.checked) own_globqPulls started (by kernel_rfl) Tryz.func4
    (ChangeSpec.witness6 (enc := enc) (C := Tryz.checked) false ⟨#[], #[.agg #[.int .i64 0, .int .i64 0, .int .i64 0, .slice none 0 0], .int .i64 0, .slice none 0 0], []⟩ 8 (by kernel_rfl) (by kernel_rfl) (by kernel_rfl) (by kernel_rfl)) ?_
  intro W base args ds gs before hval0 hW hcnd _
  have hval : ∀ (j : Nat) t v, Tryz.f4.params[j]? = some t → args[j]? = some v → Value.okWide Tryz.prog W .any base t v := hval0
  have hW' := hW
  obtain ⟨p, q, hA0, hV, rfl, hfz, hnd⟩ := hW
  have hA : DataW.TrodAll enc Tryz.prog W 0 (fun _ => true) true Tryz.f4.params.toList args.toList ds p := hA0
  rw [Tryz.params4] at hA hval
  obtain ⟨v0, vs0, d0, ds0, p0, q0, hargs, rfl, rfl, h0, r0⟩ := trodAll_cons hA
  obtain ⟨v1, vs1, d1, ds1, p1, q1, rfl, rfl, rfl, h1, r1⟩ := trodAll_cons r0
  obtain ⟨v2, vs2, d2, ds2, p2, q2, rfl, rfl, rfl, h2, r2⟩ := trodAll_cons r1
  obtain ⟨rfl, rfl, rfl⟩ := trodAll_nil r2
  obtain rfl : args = #[v0, v1, v2] := by cases args; simp_all
  obtain ⟨P, T, G, E, m, cp, a, x, rfl, hm, hs, hx⟩ := open_ground (hval 0 26 v0 rfl rfl) h0
  unfold maxLen at hm
  obtain ⟨x0, rfl, rfl, rfl, wx0⟩ := open_int Tryz.underlying3 (hval 1 3 v1 rfl rfl) h1
  obtain ⟨F, mp, cq, Pks, rfl, hmp, hP, hpv⟩ := open_pokes (hval 2 28 v2 rfl rfl) h2
  unfold maxLen at hmp
  clear hA0 hval0
  refine (globqPulls_walk P T G x0 E F m cp mp cq a x Pks W globq_awake (by omega) (by omega) hs hx hP hpv).mono fun e W' ⟨he, hb⟩ => ?_
  subst he
  exact ⟨_, rfl, law_post laidOut_globqPulls rfl Tryz.underlying4 (by kernel_rfl) rfl rfl rfl rfl hW' hb⟩

theorem globqPulls_holds : Rows.GlobqPullsSaid :=
  OpenClaim.holds_of_wide 4 Tryz.f4 rfl rfl rfl rfl rfl rfl rfl ⟨rfl, rfl, rfl, rfl, rfl⟩ rfl rfl rfl rfl rfl (by kernel_rfl) Tryz.func4 (by kernel_rfl)
    (of_decide_eq_true (by kernel_rfl)) (by unfold Func.isWrapper; first | (rw [if_pos (by decide +kernel)]; kernel_rfl) | (rw [if_neg (by decide +kernel)]; exact ⟨rfl, rfl⟩))
    (fun os started H enc _ => lifted_globqPulls os started H enc)
#print axioms globqPulls_holds
end Go.Proofs.YtiagkeakohkfgaaGreat
