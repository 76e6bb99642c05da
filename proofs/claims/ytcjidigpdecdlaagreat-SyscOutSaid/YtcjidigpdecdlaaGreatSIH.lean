/- Machines in one memory that take their turns; lists that are spelled out. -/
import Derived.Test.YtcjidigpdecdlaaGreatSIG
import Derived.Test.YtcjidigpdecdlaaGreatLaw
import Derived.Test.YtcjidigpdecdlaaGreatSIF
import Derived.Test.YtcjidigpdecdlaaGreatLock1
import Derived.Maps.OwnSet
import Derived.Maps.AppendAt
import Derived.OwnWalk
import Derived.ChangeShapes
namespace Go.Proofs.YtcjidigpdecdlaaGreat
open Go Go.RowKit
set_option linter.unusedVariables false
set_option maxRecDepth 100000
set_option linter.unusedSimpArgs false

def soE (P : Int) (who : Int) (cl : Nat) (q : Option IgT) (y : Nat) (w : World) (L : List Nat) : Prop := match q with
  | some q => (igFl who cl).I (igPM P) w y q L
  | none => L = []
def soO (q : Option IgT) : Int := match q with
  | some q => q.obs
  | none => -1
theorem soE_keep {P T who : Int} {cl : Nat} (hp : 0 ≤ P ∧ P ≤ 64) (hT : 0 ≤ T ∧ T ≤ 65536) {q : Option IgT} {y : Nat} {w w' : World} {L l : List Nat} (h : soE P who cl q y w L) (hb : But l w w') (hk : ∀ k ∈ L, k ∉ l) : soE P who cl q y w' L := by
  cases q with
  | none => exact h
  | some q => exact (Fl.good (ig_laws who P T 0 cl hp hT)).keep h hb hk
theorem soE_lt {P T who : Int} {cl : Nat} (hp : 0 ≤ P ∧ P ≤ 64) (hT : 0 ≤ T ∧ T ≤ 65536) {q : Option IgT} {y : Nat} {w : World} {L : List Nat} (h : soE P who cl q y w L) : ∀ k ∈ L, k < w.heap.size := by
  cases q with
  | none => rw [show L = [] from h]; intro k hk; cases hk
  | some q => exact (Fl.good (ig_laws who P T 0 cl hp hT)).lt h
theorem soE_got {P who : Int} {cl : Nat} {q : Option IgT} {y : Nat} {w : World} {L : List Nat} (h : soE P who cl q y w L) : Calls Tryz.prog 137 #[.pointer (if q.isSome = true then some ⟨y, 0, none⟩ else none)] w fun e w' => e = .returned (.int .i64 (soO q)) ∧ w = w' := by
  cases q with
  | none => exact iget_p_nil w
  | some q => exact ig_got h
/-- Coming out, as plain data: o and q are what the other processor's machine is in. -/
inductive SoT where
  | sw
  | ct
  | rn
  | over1
  | ld
  | acq1 (a : AcqT)
  | get1 (q : IgT)
  | rel1 (q : IgT) (r : RelT)
  | ro1 (q : IgT)
  | rn1 (q : IgT)
  | over2 (q : IgT)
  | wt (o : Option IgT)
  | acq2 (o : Option IgT) (a : AcqT)
  | get2 (q : IgT)
  | rel2 (q : IgT) (r : RelT)
  | ro2 (q : IgT)
  | over3 (q : IgT)
  | que (q : IgT) (u : QpT)
  | rel3 (q : IgT) (u : QpT) (r : RelT)
  | over4 (q : IgT) (u : QpT)
def SoT.ot : SoT → Option IgT
  | .get1 q => some q
  | .rel1 q _ => some q
  | .ro1 q => some q
  | .rn1 q => some q
  | .over2 q => some q
  | .wt o => o
  | .acq2 o _ => o
  | .get2 q => some q
  | .rel2 q _ => some q
  | .ro2 q => some q
  | .over3 q => some q
  | .que q _ => some q
  | .rel3 q _ _ => some q
  | .over4 q _ => some q
  | _ => none
def SoT.kept : SoT → Bool
  | .ct => true
  | .rn => true
  | .over1 => true
  | _ => false
def SoT.came : SoT → Bool
  | .over1 => true
  | .over2 _ => true
  | .acq2 _ _ => true
  | .get2 _ => true
  | .rel2 _ _ => true
  | .ro2 _ => true
  | .over3 _ => true
  | .que _ _ => true
  | .rel3 _ _ _ => true
  | .over4 _ _ => true
  | _ => false
def SoT.runs : SoT → Bool
  | .over1 => true
  | .over2 _ => true
  | _ => false
def SoT.qu : SoT → Option QpT
  | .que _ u => some u
  | .rel3 _ u _ => some u
  | .over4 _ u => some u
  | _ => none
/-- The processor that it has, and what is in its hand. -/
def SoT.p (p : Int) (s : SoT) : Int := if s.kept = true then p else soO s.ot
def SoT.holds (g : Int) (s : SoT) : List Int := if s.came = true then (if s.runs = true then [] else match s.qu with
    | some u => if u.lies = true then [] else [g]
    | none => [g]) else []
def soPM (P T G t p g : Int) : PM SoT where
  ax := fun
    | .sw => some (axSw (wd 20 P 264 p 0) 2 1)
    | .ct => some (axAd (wd 20 P 264 p 5) 1)
    | .rn => some (axSt (wd (20 + P * 264 + T * 3) G 2 g 0) 2)
    | .over1 => none
    | .ld => some (axLd 9)
    | .acq1 a => (acqPM (wd 0 2 3 0 0) (wd 0 2 3 0 1) (wd 0 2 3 0 2) t).ax a
    | .get1 q => (igPM P).ax q
    | .rel1 _ r => (relPM (wd 0 2 3 0 1) (wd 0 2 3 0 2)).ax r
    | .ro1 q => some (axSt (wd 20 P 264 q.obs 0) 1)
    | .rn1 _ => some (axSt (wd (20 + P * 264 + T * 3) G 2 g 0) 2)
    | .over2 _ => none
    | .wt _ => some (axSt (wd (20 + P * 264 + T * 3) G 2 g 0) 1)
    | .acq2 _ a => (acqPM (wd 0 2 3 0 0) (wd 0 2 3 0 1) (wd 0 2 3 0 2) t).ax a
    | .get2 q => (igPM P).ax q
    | .rel2 _ r => (relPM (wd 0 2 3 0 1) (wd 0 2 3 0 2)).ax r
    | .ro2 q => some (axSt (wd 20 P 264 q.obs 0) 1)
    | .over3 _ => none
    | .que _ u => (qpPM (fun y => wd (20 + P * 264 + T * 3) G 2 y 1) [g]).ax u
    | .rel3 _ _ r => (relPM (wd 0 2 3 0 1) (wd 0 2 3 0 2)).ax r
    | .over4 _ _ => none
  nx := fun
    | .sw, v => if v = 0 then .ld else .ct
    | .ct, _ => .rn
    | .rn, _ => .over1
    | .ld, v => if v = 0 then .wt none else .acq1 .fresh
    | .acq1 a, v => if ((acqPM (wd 0 2 3 0 0) (wd 0 2 3 0 1) (wd 0 2 3 0 2) t).ax ((acqPM (wd 0 2 3 0 0) (wd 0 2 3 0 1) (wd 0 2 3 0 2) t).nx a v)).isSome = true then .acq1 ((acqPM (wd 0 2 3 0 0) (wd 0 2 3 0 1) (wd 0 2 3 0 2) t).nx a v) else .get1 .ld
    | .get1 q, v => if ((igPM P).ax ((igPM P).nx q v)).isSome = true then .get1 ((igPM P).nx q v) else .rel1 ((igPM P).nx q v) .fresh
    | .rel1 q r, v => if ((relPM (wd 0 2 3 0 1) (wd 0 2 3 0 2)).ax ((relPM (wd 0 2 3 0 1) (wd 0 2 3 0 2)).nx r v)).isSome = true then .rel1 q ((relPM (wd 0 2 3 0 1) (wd 0 2 3 0 2)).nx r v) else if q.obs = -1 then .wt (some q) else .ro1 q
    | .ro1 q, _ => .rn1 q
    | .rn1 q, _ => .over2 q
    | .wt o, _ => .acq2 o .fresh
    | .acq2 o a, v => if ((acqPM (wd 0 2 3 0 0) (wd 0 2 3 0 1) (wd 0 2 3 0 2) t).ax ((acqPM (wd 0 2 3 0 0) (wd 0 2 3 0 1) (wd 0 2 3 0 2) t).nx a v)).isSome = true then .acq2 o ((acqPM (wd 0 2 3 0 0) (wd 0 2 3 0 1) (wd 0 2 3 0 2) t).nx a v) else .get2 .ld
    | .get2 q, v => if ((igPM P).ax ((igPM P).nx q v)).isSome = true then .get2 ((igPM P).nx q v) else if ((igPM P).nx q v).obs = -1 then .que ((igPM P).nx q v) (.ch 0) else .rel2 ((igPM P).nx q v) .fresh
    | .rel2 q r, v => if ((relPM (wd 0 2 3 0 1) (wd 0 2 3 0 2)).ax ((relPM (wd 0 2 3 0 1) (wd 0 2 3 0 2)).nx r v)).isSome = true then .rel2 q ((relPM (wd 0 2 3 0 1) (wd 0 2 3 0 2)).nx r v) else .ro2 q
    | .ro2 q, _ => .over3 q
    | .que q u, v => if ((qpPM (fun y => wd (20 + P * 264 + T * 3) G 2 y 1) [g]).ax ((qpPM (fun y => wd (20 + P * 264 + T * 3) G 2 y 1) [g]).nx u v)).isSome = true then .que q ((qpPM (fun y => wd (20 + P * 264 + T * 3) G 2 y 1) [g]).nx u v) else .rel3 q ((qpPM (fun y => wd (20 + P * 264 + T * 3) G 2 y 1) [g]).nx u v) .fresh
    | .rel3 q u r, v => if ((relPM (wd 0 2 3 0 1) (wd 0 2 3 0 2)).ax ((relPM (wd 0 2 3 0 1) (wd 0 2 3 0 2)).nx r v)).isSome = true then .rel3 q u ((relPM (wd 0 2 3 0 1) (wd 0 2 3 0 2)).nx r v) else .over4 q u
    | s, _ => s
/-- What it has beside its own block, and beside the machine that it runs. -/
def soExt (P T G t p g : Int) (cl : Nat) (s : SoT) (es : List Nat) (w : World) (Le : List Nat) : Prop := match s with
  | .rel1 q _ => soE P t cl (some q) (es.getD 0 0) w Le
  | .ro1 q => soE P t cl (some q) (es.getD 0 0) w Le
  | .rn1 q => soE P t cl (some q) (es.getD 0 0) w Le
  | .over2 q => soE P t cl (some q) (es.getD 0 0) w Le
  | .wt o => soE P t cl o (es.getD 0 0) w Le
  | .acq2 o _ => soE P t cl o (es.getD 0 0) w Le
  | .rel2 q _ => soE P t cl (some q) (es.getD 0 0) w Le
  | .ro2 q => soE P t cl (some q) (es.getD 0 0) w Le
  | .over3 q => soE P t cl (some q) (es.getD 0 0) w Le
  | .que q _ => soE P t cl (some q) (es.getD 0 0) w Le
  | .rel3 q u _ => ∃ L1 L2, Le = L1 ++ L2 ∧ soE P t cl (some q) (es.getD 0 0) w L1 ∧ qpI t cl (fun y => wd (20 + P * 264 + T * 3) G 2 y 1) [g] w (es.getD 1 0) u L2
  | .over4 q u => ∃ L1 L2, Le = L1 ++ L2 ∧ soE P t cl (some q) (es.getD 0 0) w L1 ∧ qpI t cl (fun y => wd (20 + P * 264 + T * 3) G 2 y 1) [g] w (es.getD 1 0) u L2
  | _ => Le = []
def soAt (t p g : Int) (cl : Nat) (s : SoT) (es : List Nat) (nx : Option Addr) : Array Value := soCells t nx cl p g s.kept (if s.ot.isSome = true then some ⟨es.getD 0 0, 0, none⟩ else none) s.came s.runs (if s.qu.isSome = true then some ⟨es.getD 1 0, 0, none⟩ else none)
def soCp (P T G t p g : Int) (cl : Nat) : Cp SoT where
  T := 205
  cells := soAt t p g cl
  kind := fun
    | .sw => .acc (axSw (wd 20 P 264 p 0) 2 1) (.swap 141)
    | .ct => .acc (axAd (wd 20 P 264 p 5) 1) (.told 189)
    | .rn => .acc (axSt (wd (20 + P * 264 + T * 3) G 2 g 0) 2) (.untold 248)
    | .over1 => .over
    | .ld => .acc (axLd 9) (.told 188)
    | .acq1 a => .run (acqSub (wd 0 2 3 0 0) (wd 0 2 3 0 1) (wd 0 2 3 0 2) t) a (.fn 226)
    | .get1 q => .run (soIg t P T G cl) q (.fn 247)
    | .rel1 _ r => .run (relSub (wd 0 2 3 0 1) (wd 0 2 3 0 2) t) r (.fn 266)
    | .ro1 q => .acc (axSt (wd 20 P 264 q.obs 0) 1) (.untold 227)
    | .rn1 _ => .acc (axSt (wd (20 + P * 264 + T * 3) G 2 g 0) 2) (.untold 248)
    | .over2 _ => .over
    | .wt _ => .acc (axSt (wd (20 + P * 264 + T * 3) G 2 g 0) 1) (.untold 245)
    | .acq2 _ a => .run (acqSub (wd 0 2 3 0 0) (wd 0 2 3 0 1) (wd 0 2 3 0 2) t) a (.fn 263)
    | .get2 q => .run (soIg t P T G cl) q (.fn 273)
    | .rel2 _ r => .run (relSub (wd 0 2 3 0 1) (wd 0 2 3 0 2) t) r (.fn 282)
    | .ro2 q => .acc (axSt (wd 20 P 264 q.obs 0) 1) .nil
    | .over3 _ => .over
    | .que _ u => .run (soQp t (fun y => wd (20 + P * 264 + T * 3) G 2 y 1) cl P T G [g]) u (.fn 283)
    | .rel3 _ _ r => .run (relSub (wd 0 2 3 0 1) (wd 0 2 3 0 2) t) r .nil
    | .over4 _ _ => .over
  ok := fun
    | .acq1 a => ((acqPM (wd 0 2 3 0 0) (wd 0 2 3 0 1) (wd 0 2 3 0 2) t).ax a).isSome = true
    | .get1 q => ((igPM P).ax q).isSome = true ∧ (igFl t cl).ok q
    | .rel1 _ r => ((relPM (wd 0 2 3 0 1) (wd 0 2 3 0 2)).ax r).isSome = true
    | .acq2 o a => ((acqPM (wd 0 2 3 0 0) (wd 0 2 3 0 1) (wd 0 2 3 0 2) t).ax a).isSome = true ∧ soO o = -1
    | .wt o => soO o = -1
    | .get2 q => ((igPM P).ax q).isSome = true ∧ (igFl t cl).ok q
    | .rel2 _ r => ((relPM (wd 0 2 3 0 1) (wd 0 2 3 0 2)).ax r).isSome = true
    | .que q u => ((qpPM (fun y => wd (20 + P * 264 + T * 3) G 2 y 1) [g]).ax u).isSome = true ∧ q.obs = -1
    | .rel3 q _ r => ((relPM (wd 0 2 3 0 1) (wd 0 2 3 0 2)).ax r).isSome = true
    | _ => True
  ext := soExt P T G t p g cl
  tie := fun s es y => match s with
    | .get1 _ => es.getD 0 0 = y
    | .get2 _ => es.getD 0 0 = y
    | .que _ _ => es.getD 1 0 = y
    | _ => True
theorem ent_so1 : Ent 141 := fun args w => by kernel_rfl
theorem ent_so2 : Ent 189 := fun args w => by kernel_rfl
theorem ent_so3 : Ent 248 := fun args w => by kernel_rfl
theorem ent_so4 : Ent 188 := fun args w => by kernel_rfl
theorem ent_so5 : Ent 226 := fun args w => by kernel_rfl
theorem ent_so6 : Ent 247 := fun args w => by kernel_rfl
theorem ent_so7 : Ent 266 := fun args w => by kernel_rfl
theorem ent_so8 : Ent 227 := fun args w => by kernel_rfl
theorem ent_so9 : Ent 245 := fun args w => by kernel_rfl
theorem ent_so10 : Ent 263 := fun args w => by kernel_rfl
theorem ent_so11 : Ent 273 := fun args w => by kernel_rfl
theorem ent_so12 : Ent 282 := fun args w => by kernel_rfl
theorem ent_so13 : Ent 283 := fun args w => by kernel_rfl
section
variable {P T G t p g : Int} {cl : Nat}
theorem so_on {s : SoT} {v : Int} {S : Sub} {q : S.τ} {af : After} (hp : 0 ≤ P ∧ P ≤ 64) (hT : 0 ≤ T ∧ T ≤ 65536) (hv : 0 ≤ v ∧ v ≤ 18446744073709551615) (hok : (soCp P T G t p g cl).ok s) (hk : (soCp P T G t p g cl).kind s = .run S q af) (hs : (S.M.ax (S.M.nx q v)).isSome = true) :
    (soCp P T G t p g cl).ok ((soPM P T G t p g).nx s v) ∧ (soCp P T G t p g cl).kind ((soPM P T G t p g).nx s v) = .run S (S.M.nx q v) af ∧ (∀ es, (soCp P T G t p g cl).cells ((soPM P T G t p g).nx s v) es = (soCp P T G t p g cl).cells s es) ∧ (∀ es w Le, (soCp P T G t p g cl).ext s es w Le → (soCp P T G t p g cl).ext ((soPM P T G t p g).nx s v) es w Le) ∧ (∀ es y, (soCp P T G t p g cl).tie s es y → (soCp P T G t p g cl).tie ((soPM P T G t p g).nx s v) es y) := by
  cases s with
  | acq1 a =>
    cases hk
    have e : (soPM P T G t p g).nx (.acq1 a) v = .acq1 ((acqPM (wd 0 2 3 0 0) (wd 0 2 3 0 1) (wd 0 2 3 0 2) t).nx a v) := if_pos hs
    rw [e]
    exact ⟨hs, rfl, fun _ => rfl, fun _ _ _ h => h, fun _ _ h => h⟩
  | get1 q =>
    cases hk
    have e : (soPM P T G t p g).nx (.get1 q) v = .get1 ((igPM P).nx q v) := if_pos hs
    rw [e]
    obtain ⟨h1, h2⟩ := hok
    obtain ⟨a, ha⟩ := Option.isSome_iff_exists.1 h1
    exact ⟨⟨hs, (ig_laws t P T G cl hp hT).ok q a v h2 ha hv⟩, rfl, fun _ => rfl, fun _ _ _ h => h, fun _ _ h => h⟩
  | rel1 q r =>
    cases hk
    have e : (soPM P T G t p g).nx (.rel1 q r) v = .rel1 q ((relPM (wd 0 2 3 0 1) (wd 0 2 3 0 2)).nx r v) := if_pos hs
    rw [e]
    exact ⟨hs, rfl, fun _ => rfl, fun _ _ _ h => h, fun _ _ h => h⟩
  | acq2 o a =>
    cases hk
    have e : (soPM P T G t p g).nx (.acq2 o a) v = .acq2 o ((acqPM (wd 0 2 3 0 0) (wd 0 2 3 0 1) (wd 0 2 3 0 2) t).nx a v) := if_pos hs
    rw [e]
    exact ⟨⟨hs, hok.2⟩, rfl, fun _ => rfl, fun _ _ _ h => h, fun _ _ h => h⟩
  | get2 q =>
    cases hk
    have e : (soPM P T G t p g).nx (.get2 q) v = .get2 ((igPM P).nx q v) := if_pos hs
    rw [e]
    obtain ⟨h1, h2⟩ := hok
    obtain ⟨a, ha⟩ := Option.isSome_iff_exists.1 h1
    exact ⟨⟨hs, (ig_laws t P T G cl hp hT).ok q a v h2 ha hv⟩, rfl, fun _ => rfl, fun _ _ _ h => h, fun _ _ h => h⟩
  | rel2 q r =>
    cases hk
    have e : (soPM P T G t p g).nx (.rel2 q r) v = .rel2 q ((relPM (wd 0 2 3 0 1) (wd 0 2 3 0 2)).nx r v) := if_pos hs
    rw [e]
    exact ⟨hs, rfl, fun _ => rfl, fun _ _ _ h => h, fun _ _ h => h⟩
  | que q u =>
    cases hk
    have e : (soPM P T G t p g).nx (.que q u) v = .que q ((qpPM (fun y => wd (20 + P * 264 + T * 3) G 2 y 1) [g]).nx u v) := if_pos hs
    rw [e]
    exact ⟨⟨hs, hok.2⟩, rfl, fun _ => rfl, fun _ _ _ h => h, fun _ _ h => h⟩
  | rel3 q u r =>
    cases hk
    have e : (soPM P T G t p g).nx (.rel3 q u r) v = .rel3 q u ((relPM (wd 0 2 3 0 1) (wd 0 2 3 0 2)).nx r v) := if_pos hs
    rw [e]
    exact ⟨hs, rfl, fun _ => rfl, fun _ _ _ h => h, fun _ _ h => h⟩
  | sw => cases hk
  | ct => cases hk
  | rn => cases hk
  | over1 => cases hk
  | ld => cases hk
  | ro1 q => cases hk
  | rn1 q => cases hk
  | over2 q => cases hk
  | wt o => cases hk
  | ro2 q => cases hk
  | over3 q => cases hk
  | over4 q u => cases hk
set_option maxHeartbeats 4000000 in
theorem so_laws (hw : 0 ≤ t ∧ t ≤ 1000000) (hp : 0 ≤ P ∧ P ≤ 64) (hT : 0 ≤ T ∧ T ≤ 65536) (hG : 0 ≤ G ∧ G ≤ 65536) :
    (soCp P T G t p g cl).Laws (soPM P T G t p g) (Rd.lay cl P T G) t where
  c0 := fun s es nx => rfl
  c1 := fun s es nx => rfl
  set := fun s es nx nx' => rfl
  k0 := fun s hok hk => by
    cases s <;> first | rfl | cases hk
  k1 := fun s a f hok hk => by
    cases s with
    | sw => cases hk; exact ⟨rfl, axSw_ok _ _ _ (by omega), ent_so1⟩
    | ct => cases hk; exact ⟨rfl, axAd_ok _ _ (by omega), ent_so2⟩
    | rn => cases hk; exact ⟨rfl, axSt_ok _ _ (by omega), ent_so3⟩
    | ld => cases hk; exact ⟨rfl, axLd_ok _, ent_so4⟩
    | ro1 q => cases hk; exact ⟨rfl, axSt_ok _ _ (by omega), ent_so8⟩
    | rn1 q => cases hk; exact ⟨rfl, axSt_ok _ _ (by omega), ent_so3⟩
    | wt o => cases hk; exact ⟨rfl, axSt_ok _ _ (by omega), ent_so9⟩
    | ro2 q => cases hk; exact ⟨rfl, axSt_ok _ _ (by omega), trivial⟩
    | _ => cases hk
  k2 := fun s S q af hok hk => by
    cases s with
    | acq1 a => cases hk; exact ⟨rfl, hok, ent_so5, fun b => (acq_laws _ _ _ t hw).axok _ b trivial⟩
    | get1 q => cases hk; exact ⟨rfl, hok.1, ent_so6, fun a ha => (ig_laws t P T G cl hp hT).axok _ a hok.2 ha⟩
    | rel1 q r => cases hk; exact ⟨rfl, hok, ent_so7, fun a => (rel_laws _ _ t).axok _ a trivial⟩
    | acq2 o a => cases hk; exact ⟨rfl, hok.1, ent_so10, fun b => (acq_laws _ _ _ t hw).axok _ b trivial⟩
    | get2 q => cases hk; exact ⟨rfl, hok.1, ent_so11, fun a ha => (ig_laws t P T G cl hp hT).axok _ a hok.2 ha⟩
    | rel2 q r => cases hk; exact ⟨rfl, hok, ent_so12, fun a => (rel_laws _ _ t).axok _ a trivial⟩
    | que q u => cases hk; exact ⟨rfl, hok.1, ent_so13, fun a ha => qp_axok (fun y => wd (20 + P * 264 + T * 3) G 2 y 1) [g] (by simp) u a ha⟩
    | rel3 q u r => cases hk; exact ⟨rfl, hok, trivial, fun a => (rel_laws _ _ t).axok _ a trivial⟩
    | _ => cases hk
  sub := fun s S q af hok hk => by
    cases s with
    | acq1 a => cases hk; exact acqSub_ok _ _ _ t hw _
    | get1 q => cases hk; exact ⟨Fl.steps (ig_laws t P T G cl hp hT) stepby_ipg, Fl.good (ig_laws t P T G cl hp hT), act_ipg, fun w h => h, fun k h => h⟩
    | rel1 q r => cases hk; exact relSub_ok _ _ t _
    | acq2 o a => cases hk; exact acqSub_ok _ _ _ t hw _
    | get2 q => cases hk; exact ⟨Fl.steps (ig_laws t P T G cl hp hT) stepby_ipg, Fl.good (ig_laws t P T G cl hp hT), act_ipg, fun w h => h, fun k h => h⟩
    | rel2 q r => cases hk; exact relSub_ok _ _ t _
    | que q u => cases hk; exact ⟨qp_steps t P T G cl [g] hp hT hG (by simp) stepby_qput, qp_good t P T G cl [g] hp hT hG (by simp), act_qput, fun w h => h, fun k h => h⟩
    | rel3 q u r => cases hk; exact relSub_ok _ _ t _
    | _ => cases hk
  on := fun s S q af v hok hk hv hs => so_on hp hT hv hok hk hs
  ns := fun s a f hk => by
    cases s <;> cases hk <;> rfl
  ekeep := fun s es w w' ll Le he hb hk => by
    have hgq : (qpI t cl (fun y => wd (20 + P * 264 + T * 3) G 2 y 1) [g]).Good (qpPM (fun y => wd (20 + P * 264 + T * 3) G 2 y 1) [g]) := qp_good t P T G cl [g] hp hT hG (by simp)
    have two : ∀ q u, (∃ L1 L2, Le = L1 ++ L2 ∧ soE P t cl (some q) (es.getD 0 0) w L1 ∧ qpI t cl (fun y => wd (20 + P * 264 + T * 3) G 2 y 1) [g] w (es.getD 1 0) u L2) → ∃ L1 L2, Le = L1 ++ L2 ∧ soE P t cl (some q) (es.getD 0 0) w' L1 ∧ qpI t cl (fun y => wd (20 + P * 264 + T * 3) G 2 y 1) [g] w' (es.getD 1 0) u L2 := fun q u ⟨L1, L2, e, h1, h2⟩ => by
      subst e
      exact ⟨L1, L2, rfl, soE_keep hp hT h1 hb (fun k h => hk k (List.mem_append_left _ h)), hgq.keep h2 hb (fun k h => hk k (List.mem_append_right _ h))⟩
    cases s with
    | rel1 q r => exact soE_keep hp hT (q := some q) he hb hk
    | ro1 q => exact soE_keep hp hT (q := some q) he hb hk
    | rn1 q => exact soE_keep hp hT (q := some q) he hb hk
    | over2 q => exact soE_keep hp hT (q := some q) he hb hk
    | wt o => exact soE_keep hp hT (q := o) he hb hk
    | acq2 o a => exact soE_keep hp hT (q := o) he hb hk
    | rel2 q r => exact soE_keep hp hT (q := some q) he hb hk
    | ro2 q => exact soE_keep hp hT (q := some q) he hb hk
    | over3 q => exact soE_keep hp hT (q := some q) he hb hk
    | que q u => exact soE_keep hp hT (q := some q) he hb hk
    | rel3 q u r => exact two q u he
    | over4 q u => exact two q u he
    | _ => exact he
  elt := fun s es w Le he k hk => by
    have hgq : (qpI t cl (fun y => wd (20 + P * 264 + T * 3) G 2 y 1) [g]).Good (qpPM (fun y => wd (20 + P * 264 + T * 3) G 2 y 1) [g]) := qp_good t P T G cl [g] hp hT hG (by simp)
    have two : ∀ q u, (∃ L1 L2, Le = L1 ++ L2 ∧ soE P t cl (some q) (es.getD 0 0) w L1 ∧ qpI t cl (fun y => wd (20 + P * 264 + T * 3) G 2 y 1) [g] w (es.getD 1 0) u L2) → k < w.heap.size := fun q u ⟨L1, L2, e, h1, h2⟩ => by
      subst e
      rcases List.mem_append.1 hk with h | h
      · exact soE_lt hp hT h1 k h
      · exact hgq.lt h2 k h
    cases s with
    | rel1 q r => exact soE_lt hp hT (q := some q) he k hk
    | ro1 q => exact soE_lt hp hT (q := some q) he k hk
    | rn1 q => exact soE_lt hp hT (q := some q) he k hk
    | over2 q => exact soE_lt hp hT (q := some q) he k hk
    | wt o => exact soE_lt hp hT (q := o) he k hk
    | acq2 o a => exact soE_lt hp hT (q := o) he k hk
    | rel2 q r => exact soE_lt hp hT (q := some q) he k hk
    | ro2 q => exact soE_lt hp hT (q := some q) he k hk
    | over3 q => exact soE_lt hp hT (q := some q) he k hk
    | que q u => exact soE_lt hp hT (q := some q) he k hk
    | rel3 q u r => exact two q u he
    | over4 q u => exact two q u he
    | _ => rw [show Le = [] from he] at hk; cases hk
  fol := fun W x s a f v es Le hok hk hv hB he hxe hR hxR => by
    have hlt := hB.lt
    have hcx : cl ≠ x := fun e => hxR (by rw [e]; exact List.mem_singleton.2 rfl)
    cases s with
    | sw =>
      cases hk
      obtain rfl : Le = [] := he
      by_cases h0 : v = 0
      · have e : (soPM P T G t p g).nx .sw v = .ld := if_pos h0
        rw [e]
        refine folC_sw false (decide_eq_false (fun h => h h0)) ((so_keep_no W x cl t p g false false false none none none hB).mono ?_)
        rintro e w' ⟨hu, hC⟩
        exact ⟨hu, Cp.lnd_acc (C := (soCp P T G t p g cl)) (s := .ld) (es := es) (Le' := []) hC (fun _ => rfl) trivial rfl hlt rfl (by simp) (fun k hk => by cases hk)⟩
      · have e : (soPM P T G t p g).nx .sw v = .ct := if_neg h0
        rw [e]
        refine folC_sw true (decide_eq_true h0) ((so_keep_yes W x cl t p g false false false none none none hB hcx P T G hR hp hT hG.2).mono ?_)
        rintro e w' ⟨hu, hC⟩
        exact ⟨hu, Cp.lnd_acc (C := (soCp P T G t p g cl)) (s := .ct) (es := es) (Le' := []) hC (fun _ => rfl) trivial rfl hlt rfl (by simp) (fun k hk => by cases hk)⟩
    | ct =>
      cases hk
      obtain rfl : Le = [] := he
      refine (so_counted W x cl t p g true false false none none none hB v P T G hR hp hT hG.2).mono ?_
      rintro e w' ⟨hu, hC⟩
      exact ⟨hu, Cp.lnd_acc (C := (soCp P T G t p g cl)) (s := .rn) (es := es) (Le' := []) hC (fun _ => rfl) trivial rfl hlt rfl (by simp) (fun k hk => by cases hk)⟩
    | rn =>
      cases hk
      obtain rfl : Le = [] := he
      refine (so_ran W x cl t p g true false false none none none hB).mono ?_
      rintro e w' ⟨hu, h1, h2⟩
      exact ⟨hu, Cp.lnd_over (C := (soCp P T G t p g cl)) (s := .over1) (es := es) (Le' := []) h1 h2 trivial rfl rfl (by simp) (fun k hk => by cases hk)⟩
    | ld =>
      cases hk
      obtain rfl : Le = [] := he
      by_cases h0 : v = 0
      · subst h0
        refine (so_look_no W x cl t p g false false false none none none hB P T G hR hp hT hG.2).mono ?_
        rintro e w' ⟨hu, hC⟩
        exact ⟨hu, Cp.lnd_acc (C := (soCp P T G t p g cl)) (s := .wt none) (es := es) (Le' := []) hC (fun _ => rfl) rfl rfl hlt rfl (by simp) (fun k hk => by cases hk)⟩
      · have e : (soPM P T G t p g).nx .ld v = .acq1 .fresh := if_neg h0
        rw [e]
        refine (so_look_yes W x cl t p g false false false none none none hB v h0 hw).mono ?_
        rintro e w' ⟨hu, hC⟩
        exact ⟨hu, Cp.lnd_run (C := (soCp P T G t p g cl)) (S := (acqSub (wd 0 2 3 0 0) (wd 0 2 3 0 1) (wd 0 2 3 0 2) t)) (af := .fn 226) (pt := AcqT.fresh) (s := .acq1 .fresh) (es := es) (Le' := []) hC (fun _ => rfl) rfl rfl (fun _ => trivial) hlt rfl (by simp) (fun k hk => by cases hk)⟩
    | ro1 q =>
      cases hk
      have he' : soE P t cl (some q) (es.getD 0 0) W Le := he
      have hne : ∀ k ∈ Le, k ∉ [x] := fun k hk hm => by simp at hm; exact hxe (hm ▸ hk)
      refine (so_run W x cl t p g false false false _ none none hB P T G hR hp hT hG.2).mono ?_
      rintro e w' ⟨hu, hC⟩
      exact ⟨hu, Cp.lnd_acc (C := (soCp P T G t p g cl)) (s := .rn1 q) (es := es) (Le' := Le) hC (fun _ => rfl) trivial rfl hlt (soE_keep hp hT (q := some q) he' hC.but hne) hxe (fun k hk => ⟨hk, soE_lt hp hT he' k hk⟩)⟩
    | rn1 q =>
      cases hk
      have he' : soE P t cl (some q) (es.getD 0 0) W Le := he
      have hne : ∀ k ∈ Le, k ∉ [x] := fun k hk hm => by simp at hm; exact hxe (hm ▸ hk)
      refine (so_ran W x cl t p g false false false _ none none hB).mono ?_
      rintro e w' ⟨hu, h1, h2⟩
      exact ⟨hu, Cp.lnd_over (C := (soCp P T G t p g cl)) (s := .over2 q) (es := es) (Le' := Le) h1 h2 trivial rfl (soE_keep hp hT (q := some q) he' h2 hne) hxe (fun k hk => hk)⟩
    | wt o =>
      cases hk
      have he' : soE P t cl o (es.getD 0 0) W Le := he
      have hne : ∀ k ∈ Le, k ∉ [x] := fun k hk hm => by simp at hm; exact hxe (hm ▸ hk)
      refine (so_waits W x cl t p g false false false _ none none hB hw).mono ?_
      rintro e w' ⟨hu, hC⟩
      exact ⟨hu, Cp.lnd_run (C := (soCp P T G t p g cl)) (S := (acqSub (wd 0 2 3 0 0) (wd 0 2 3 0 1) (wd 0 2 3 0 2) t)) (af := .fn 263) (pt := AcqT.fresh) (s := .acq2 o .fresh) (es := es) (Le' := Le) hC (fun _ => rfl) ⟨rfl, hok⟩ rfl (fun _ => trivial) hlt (soE_keep hp hT he' hC.but hne) hxe (fun k hk => ⟨hk, soE_lt hp hT he' k hk⟩)⟩
    | ro2 q => cases hk; exact Cp.lnd_over (C := (soCp P T G t p g cl)) (s := .over3 q) (es := es) (Le' := Le) hB (But.refl _ _) trivial rfl he hxe (fun k hk => hk)
    | _ => cases hk
  aft := fun W x y s S q af v es Le Li hok hk hv hn hB hin hty he hxe hxi hdl hR hxR => by
    have hlt := hB.lt
    have hgd := Fl.good (ig_laws t P T G cl hp hT)
    have hgq : (qpI t cl (fun y => wd (20 + P * 264 + T * 3) G 2 y 1) [g]).Good (qpPM (fun y => wd (20 + P * 264 + T * 3) G 2 y 1) [g]) := qp_good t P T G cl [g] hp hT hG (by simp)
    have hni : ∀ k ∈ Li, k ∉ [x] := fun k hk hm => by simp at hm; exact hxi (hm ▸ hk)
    have hne : ∀ k ∈ Le, k ∉ [x] := fun k hk hm => by simp at hm; exact hxe (hm ▸ hk)
    cases s with
    | acq1 a =>
      cases hk
      obtain rfl : Le = [] := he
      have e : (soPM P T G t p g).nx (.acq1 a) v = .get1 .ld := nx_off hn
      rw [e]
      refine (so_getOther W x cl t p g false false false _ none none hB P T G hp hT).mono ?_
      rintro e w' ⟨hu, y1, q1, b, L, hC, hI, hL, hq, hg⟩
      exact ⟨hu, Cp.lnd_run0 (C := (soCp P T G t p g cl)) (S := soIg t P T G cl) (af := .fn 247) (pt := IgT.ld) (s := .get1 .ld) (es := [y1]) (Le' := []) hC (fun _ => rfl) hI hL hq hg ⟨rfl, by decide, trivial⟩ rfl rfl hlt rfl (by simp) (fun k hk => by cases hk)⟩
    | get1 q =>
      cases hk
      obtain rfl : Le = [] := he
      obtain rfl : es.getD 0 0 = y := hty
      have hin' : soE P t cl (some ((igPM P).nx q v)) (es.getD 0 0) W Li := hin
      have e : (soPM P T G t p g).nx (.get1 q) v = .rel1 ((igPM P).nx q v) .fresh := nx_off hn
      rw [e]
      refine (so_leave W x cl t p g false false false _ none none hB).mono ?_
      rintro e w' ⟨hu, hC⟩
      exact ⟨hu, Cp.lnd_run (C := (soCp P T G t p g cl)) (S := (relSub (wd 0 2 3 0 1) (wd 0 2 3 0 2) t)) (af := .fn 266) (pt := RelT.fresh) (s := .rel1 ((igPM P).nx q v) .fresh) (es := es) (Le' := Li) hC (fun _ => rfl) rfl rfl (fun _ => trivial) hlt (soE_keep hp hT hin' hC.but hni) hxi (fun k hk => ⟨List.mem_append_left _ hk, soE_lt hp hT hin' k hk⟩)⟩
    | rel1 q r =>
      cases hk
      have he' : soE P t cl (some q) (es.getD 0 0) W Le := he
      have e0 : (soPM P T G t p g).nx (.rel1 q r) v = if q.obs = -1 then .wt (some q) else .ro1 q := nx_off hn
      rw [e0]
      by_cases h0 : q.obs = -1
      · rw [if_pos h0]
        refine (so_choose_none W x cl t p g false false false _ none none hB (so_P_other W x cl t p g false false false _ none none hB rfl (-1) (by have := soE_got he'; rw [show soO (some q) = -1 from h0] at this; exact this)) P T G hR hp hT hG.2).mono ?_
        rintro e w' ⟨hu, hC⟩
        exact ⟨hu, Cp.lnd_acc (C := (soCp P T G t p g cl)) (s := .wt (some q)) (es := es) (Le' := Le) hC (fun _ => rfl) h0 rfl hlt (soE_keep hp hT he' hC.but hne) hxe (fun k hk => ⟨List.mem_append_right _ hk, soE_lt hp hT he' k hk⟩)⟩
      · rw [if_neg h0]
        refine (so_choose_some W x cl t p g false false false _ none none hB q.obs h0 (fun Y hY => so_P_other Y x cl t p g false false false _ none none (hB.but (But.of_below (l := []) hY) (by simp)) rfl q.obs (soE_got (soE_keep hp hT he' (But.of_below (l := []) hY) (by simp)))) P T G hR hp).mono ?_
        rintro e w' ⟨hu, hC⟩
        exact ⟨hu, Cp.lnd_acc (C := (soCp P T G t p g cl)) (s := .ro1 q) (es := es) (Le' := Le) hC (fun _ => rfl) trivial rfl hlt (soE_keep hp hT he' hC.but hne) hxe (fun k hk => ⟨List.mem_append_right _ hk, soE_lt hp hT he' k hk⟩)⟩
    | acq2 o a =>
      cases hk
      have e : (soPM P T G t p g).nx (.acq2 o a) v = .get2 .ld := nx_off hn
      rw [e]
      refine (so_getLast W x cl t p g false true false _ none none hB P T G hp hT).mono ?_
      rintro e w' ⟨hu, y1, q1, b, L, hC, hI, hL, hq, hg⟩
      exact ⟨hu, Cp.lnd_run0 (C := (soCp P T G t p g cl)) (S := soIg t P T G cl) (af := .fn 273) (pt := IgT.ld) (s := .get2 .ld) (es := [y1]) (Le' := []) hC (fun _ => rfl) hI hL hq hg ⟨rfl, by decide, trivial⟩ rfl rfl hlt rfl (by simp) (fun k hk => by cases hk)⟩
    | get2 q =>
      cases hk
      obtain rfl : Le = [] := he
      obtain rfl : es.getD 0 0 = y := hty
      have hin' : soE P t cl (some ((igPM P).nx q v)) (es.getD 0 0) W Li := hin
      have hP : ∀ u, ((igPM P).nx q v).obs = u → Calls Tryz.prog 72 #[.pointer (some ⟨x, 0, none⟩)] W fun e w' => e = .returned (.int .i64 u) ∧ W = w' := fun u hu => so_P_other W x cl t p g false true false _ none none hB rfl u (by have := soE_got hin'; rw [show soO (some ((igPM P).nx q v)) = u from hu] at this; exact this)
      have e0 : (soPM P T G t p g).nx (.get2 q) v = if ((igPM P).nx q v).obs = -1 then .que ((igPM P).nx q v) (.ch 0) else .rel2 ((igPM P).nx q v) .fresh := nx_off hn
      rw [e0]
      by_cases h0 : ((igPM P).nx q v).obs = -1
      · rw [if_pos h0]
        refine (so_settle_none W x cl t p g false true false _ none none hB P T G (hP _ h0) hR hp hT hG).mono ?_
        rintro e w' ⟨hu, y1, q1, b, L, hC, hI, hL, hq, hg⟩
        exact ⟨hu, Cp.lnd_run0 (C := (soCp P T G t p g cl)) (S := soQp t (fun y => wd (20 + P * 264 + T * 3) G 2 y 1) cl P T G [g]) (af := .fn 283) (pt := QpT.ch 0) (s := .que ((igPM P).nx q v) (.ch 0)) (es := [es.getD 0 0, y1]) (Le' := Li) hC (fun _ => rfl) hI hL hq hg ⟨rfl, h0⟩ rfl rfl hlt (soE_keep hp hT hin' hC.at'.but hni) hxi (fun k hk => ⟨List.mem_append_left _ hk, soE_lt hp hT hin' k hk⟩)⟩
      · rw [if_neg h0]
        refine (so_settle_some W x cl t p g false true false _ none none hB _ h0 (hP _ rfl)).mono ?_
        rintro e w' ⟨hu, hC⟩
        exact ⟨hu, Cp.lnd_run (C := (soCp P T G t p g cl)) (S := (relSub (wd 0 2 3 0 1) (wd 0 2 3 0 2) t)) (af := .fn 282) (pt := RelT.fresh) (s := .rel2 ((igPM P).nx q v) .fresh) (es := es) (Le' := Li) hC (fun _ => rfl) rfl rfl (fun _ => trivial) hlt (soE_keep hp hT hin' hC.but hni) hxi (fun k hk => ⟨List.mem_append_left _ hk, soE_lt hp hT hin' k hk⟩)⟩
    | rel2 q r =>
      cases hk
      have he' : soE P t cl (some q) (es.getD 0 0) W Le := he
      have e0 : (soPM P T G t p g).nx (.rel2 q r) v = .ro2 q := nx_off hn
      rw [e0]
      refine (so_start W x cl t p g false true false _ none none hB q.obs P T G (fun Y hY => so_P_other Y x cl t p g false true false _ none none (hB.but (But.of_below (l := []) hY) (by simp)) rfl q.obs (soE_got (soE_keep hp hT he' (But.of_below (l := []) hY) (by simp)))) hR hp).mono ?_
      rintro e w' ⟨hu, hC⟩
      exact ⟨hu, Cp.lnd_acc (C := (soCp P T G t p g cl)) (s := .ro2 q) (es := es) (Le' := Le) hC (fun _ => rfl) trivial rfl hlt (soE_keep hp hT he' hC.but hne) hxe (fun k hk => ⟨List.mem_append_right _ hk, soE_lt hp hT he' k hk⟩)⟩
    | que q u =>
      cases hk
      have he' : soE P t cl (some q) (es.getD 0 0) W Le := he
      obtain rfl : es.getD 1 0 = y := hty
      have hin' : qpI t cl (fun y => wd (20 + P * 264 + T * 3) G 2 y 1) [g] W (es.getD 1 0) ((qpPM (fun y => wd (20 + P * 264 + T * 3) G 2 y 1) [g]).nx u v) Li := hin
      have e0 : (soPM P T G t p g).nx (.que q u) v = .rel3 q ((qpPM (fun y => wd (20 + P * 264 + T * 3) G 2 y 1) [g]).nx u v) .fresh := nx_off hn
      rw [e0]
      refine (so_end W x cl t p g false true false _ _ none hB).mono ?_
      rintro e w' ⟨hu, hC⟩
      exact ⟨hu, Cp.lnd_run (C := (soCp P T G t p g cl)) (S := (relSub (wd 0 2 3 0 1) (wd 0 2 3 0 2) t)) (af := .nil) (pt := RelT.fresh) (s := .rel3 q ((qpPM (fun y => wd (20 + P * 264 + T * 3) G 2 y 1) [g]).nx u v) .fresh) (es := es) (Le' := Le ++ Li) hC (fun _ => rfl) rfl rfl (fun _ => trivial) hlt ⟨Le, Li, rfl, soE_keep hp hT he' hC.but hne, hgq.keep hin' hC.but hni⟩ (fun hm => (List.mem_append.1 hm).elim hxe hxi) (fun k hk => (List.mem_append.1 hk).elim (fun h => ⟨List.mem_append_right _ h, soE_lt hp hT he' k h⟩) (fun h => ⟨List.mem_append_left _ h, hgq.lt hin' k h⟩))⟩
    | rel3 q u r =>
      cases hk
      have e0 : (soPM P T G t p g).nx (.rel3 q u r) v = .over4 q u := nx_off hn
      rw [e0]
      exact Cp.lnd_over (C := (soCp P T G t p g cl)) (s := .over4 q u) (es := es) (Le' := Le) hB (But.refl _ _) trivial rfl he hxe (fun k hk => List.mem_append_right _ hk)
    | _ => cases hk
variable {w : World} {x : Nat} {s : SoT} {L : List Nat}
/-- Its block, and the machines that it has. -/
theorem so_parts (h : (soCp P T G t p g cl).I w x s L) : ∃ es nx, Blk w x (soAt t p g cl s es nx) 205 ∧ (∃ L1, soE P t cl s.ot (es.getD 0 0) w L1) ∧ (∀ u, s.qu = some u → ∃ L2, qpI t cl (fun y => wd (20 + P * 264 + T * 3) G 2 y 1) [g] w (es.getD 1 0) u L2) := by
  obtain ⟨-, es, Le, he, hxe, hH⟩ := h
  obtain ⟨nx, hB⟩ := Cp.blk' hH
  have hB' : Blk w x (soAt t p g cl s es nx) 205 := hB
  cases s with
  | get1 q =>
    obtain ⟨q1, y, g1, Li, h1, h2, h3, -⟩ := hH
    obtain rfl : es.getD 0 0 = y := h3
    exact ⟨es, nx, hB', ⟨Li, h2⟩, (fun c h => by cases h)⟩
  | get2 q =>
    obtain ⟨q1, y, g1, Li, h1, h2, h3, -⟩ := hH
    obtain rfl : es.getD 0 0 = y := h3
    exact ⟨es, nx, hB', ⟨Li, h2⟩, (fun c h => by cases h)⟩
  | que q u =>
    obtain ⟨q1, y, g1, Li, h1, h2, h3, -⟩ := hH
    obtain rfl : es.getD 1 0 = y := h3
    exact ⟨es, nx, hB', ⟨Le, he⟩, (fun c h => by cases h; exact ⟨Li, h2⟩)⟩
  | rel3 q u r =>
    obtain ⟨L1, L2, -, h1, h2⟩ := he
    exact ⟨es, nx, hB', ⟨L1, h1⟩, (fun c h => by cases h; exact ⟨L2, h2⟩)⟩
  | over4 q u =>
    obtain ⟨L1, L2, -, h1, h2⟩ := he
    exact ⟨es, nx, hB', ⟨L1, h1⟩, (fun c h => by cases h; exact ⟨L2, h2⟩)⟩
  | _ => exact ⟨es, nx, hB', ⟨Le, he⟩, (fun c h => by cases h)⟩
theorem so_tells_P (h : (soCp P T G t p g cl).I w x s L) : Calls Tryz.prog 72 #[.pointer (some ⟨x, 0, none⟩)] w fun e w' => e = .returned (.int .i64 (s.p p)) ∧ w = w' := by
  obtain ⟨es, nx, hB, ⟨L1, h1⟩, -⟩ := so_parts h
  unfold SoT.p
  unfold soAt at hB
  cases hk : s.kept with
  | true => rw [hk] at hB; exact so_P_kept w x cl t p g true _ _ _ _ nx hB rfl
  | false => rw [hk] at hB; exact so_P_other w x cl t p g false _ _ _ _ nx hB rfl _ (soE_got h1)
theorem so_tells_C (h : (soCp P T G t p g cl).I w x s L) : Calls Tryz.prog 70 #[.pointer (some ⟨x, 0, none⟩)] w fun e w' => e = .returned (.bool s.came) ∧ w = w' := by
  obtain ⟨es, nx, hB, -⟩ := so_parts h
  exact so_came w x cl t p g _ _ _ _ _ nx hB
theorem so_tells_R (h : (soCp P T G t p g cl).I w x s L) : Calls Tryz.prog 71 #[.pointer (some ⟨x, 0, none⟩)] w fun e w' => e = .returned (.bool s.runs) ∧ w = w' := by
  obtain ⟨es, nx, hB, -⟩ := so_parts h
  exact so_runs w x cl t p g _ _ _ _ _ nx hB
theorem so_tells_H (h : (soCp P T G t p g cl).I w x s L) : Calls Tryz.prog 73 #[.pointer (some ⟨x, 0, none⟩)] w fun e w' => ∃ v, e = .returned v ∧ IntsOn w' w.heap.size v (s.holds g) ∧ Below w.heap.size w w' := by
  obtain ⟨es, nx, hB, -, h2⟩ := so_parts h
  unfold SoT.holds
  unfold soAt at hB
  cases hc : s.came with
  | false => rw [hc] at hB; exact so_holds_no w x cl t p g _ _ _ _ _ nx hB (.inl rfl)
  | true =>
    rw [hc] at hB
    cases hr : s.runs with
    | true => rw [hr] at hB; exact so_holds_no w x cl t p g _ _ _ _ _ nx hB (.inr rfl)
    | false =>
      rw [hr] at hB
      cases hq : s.qu with
      | none => rw [hq] at hB; exact so_holds_one w x cl t p g _ _ _ _ _ nx hB rfl rfl rfl
      | some u =>
        rw [hq] at hB
        obtain ⟨L2, h2⟩ := h2 u hq
        exact so_holds_queue w x cl t p g _ _ _ _ _ nx hB rfl rfl _ rfl _ (qp_holds h2 (by simp))
end
set_option maxHeartbeats 2000000 in
theorem so_new (w : World) (cl : Nat) (t p g P T G : Int) (hl : Lay w cl P T G) (hp : 0 ≤ P ∧ P ≤ 64) :
    Calls Tryz.prog 74 #[.pointer (some ⟨cl, 0, none⟩), .int .i64 t, .int .i64 p, .int .i64 g] w fun e w' => ∃ x L, e = .returned (.pointer (some ⟨x, 0, none⟩)) ∧ (soCp P T G t p g cl).I w' x .sw L ∧ Below w.heap.size w w' ∧ (∀ k ∈ L, w.heap.size ≤ k) ∧ w.heap.size ≤ x := by
  have hB := Blk.new w #[.int .i64 0, .pointer none, .pointer none, .int .i64 0, .int .i64 0, .bool false, .pointer none, .bool false, .bool false, .pointer none] 205
  have hb : Below w.heap.size w (w.alloc (.cells #[.int .i64 0, .pointer none, .pointer none, .int .i64 0, .int .i64 0, .bool false, .pointer none, .bool false, .bool false, .pointer none] 205)) := (Below.refl _ _).alloc (Nat.le_refl _) _
  have hO := sc_of _ w.heap.size cl t p g _ (soCells t none cl p g false none false false none) 205 hB (by simp) rfl
  have HH : Hid (Below w.heap.size w (w.alloc (.cells #[.int .i64 0, .pointer none, .pointer none, .int .i64 0, .int .i64 0, .bool false, .pointer none, .bool false, .bool false, .pointer none] 205)) ∧ Lay w cl P T G) := ⟨hb, hl⟩
  have hsz := World.size_alloc w (.cells #[.int .i64 0, .pointer none, .pointer none, .int .i64 0, .int .i64 0, .bool false, .pointer none, .bool false, .bool false, .pointer none] 205)
  clear hB hb hl
  go_enter Tryz.func74, Tryz.ntmps74
  go_wp2_with fail
  go_at_call 132; refine hO.mono ?_; rintro e w1 ⟨⟨v, rfl⟩, h1, h2, h3⟩
  have hb1 : Hid (Below w.heap.size w w1) := HH.out.1.trans (h2.below (by simp) (by rw [hsz]; omega))
  have hlt := h1.lt
  have hL1 : Lay w1 cl P T G := HH.out.2.below hb1.out HH.out.2.lt
  have HBL : Hid (∀ Y, Below w1.drew.heap.size w1.drew Y → Blk Y w.heap.size (soCells t none cl p g false none false false none) 205) := fun Y hY => h1.drew.but (But.of_below (l := []) hY) (by simp)
  have hGw := sc_status w1.drew w.heap.size cl _ 205 h1.drew rfl p P T G (hL1.below (Below.refl _ _).drew hL1.lt) hp
  have HS : Hid (∀ Y, Below w1.drew.heap.size w1.drew Y → Calls Tryz.prog 139 #[.pointer (some ⟨w.heap.size, 0, none⟩), .int .i64 (wd 20 P 264 p 0), .int .u64 2, .int .u64 1, .func (.func 141) #[.pointer (some ⟨w.heap.size, 0, none⟩)] #[]] Y fun e w' => (∃ v, e = .returned v) ∧ Came w1 w' w.heap.size (soCells t none cl p g false none false false none) 205 (axSw (wd 20 P 264 p 0) 2 1) (.swap 141)) := by
    intro Y hY
    refine (came_swap Y w.heap.size _ 205 (HBL.out Y hY) (by simp [soCells]) _ 2 1 141).mono ?_
    rintro e w5 ⟨hv, hC⟩
    exact ⟨hv, hC.before (((But.refl [w.heap.size] w1).drew).trans (But.of_below hY))⟩
  have HCE : Hid (∀ w2, Came w1 w2 w.heap.size (soCells t none cl p g false none false false none) 205 (axSw (wd 20 P 264 p 0) 2 1) (.swap 141) → ∃ L, (soCp P T G t p g cl).I w2 w.heap.size .sw L ∧ Below w.heap.size w w2 ∧ ∀ k ∈ L, w.heap.size ≤ k) := by
    rintro w2 ⟨q, Lc, c1, c2, c3, c4⟩
    refine ⟨w.heap.size :: (Lc ++ []), ⟨trivial, [], [], rfl, by simp, q, Lc, c1, c2, fun hm => by have := c4 _ hm; omega, (fun k hm h => by cases h), rfl⟩, hb1.out.trans (c3.below (by simp) hb1.out.size), fun k hk => ?_⟩
    have := hb1.out.size
    simp at hk
    rcases hk with rfl | hk
    · exact Nat.le_refl _
    · have := c4 k hk; omega
  generalize wd 20 P 264 p 0 = at' at *
  clear hO h1 h2 h3 HH hsz hL1 hp HBL
  go_wp2_with fail
  go_region_with (first | (go_at_call 140; refine hGw.mono ?_; rintro e x3 ⟨rfl, g3⟩) | (go_at_call 139; refine (HS.out _ g3).mono ?_; rintro e x4 ⟨⟨u, rfl⟩, hC⟩))
  all_goals
    have hF : Hid _ := HCE.out _ hC
    clear hGw HS HCE hC hb1 g3
    go_wp2_with fail
    go_ret
    obtain ⟨L, f1, f2, f3⟩ := hF.out
    exact ⟨w.heap.size, L, rfl, f1, f2, f3, Nat.le_refl _⟩
end Go.Proofs.YtcjidigpdecdlaaGreat

namespace Go.Proofs.YtcjidigpdecdlaaGreat
open Go Go.RowKit
set_option linter.unusedVariables false
set_option maxRecDepth 100000
set_option linter.unusedSimpArgs false

theorem syscIn_bad (P T G x0 x1 x2 : Int) (E F : Option Addr) (m cp mp cq : Nat) (a v : Nat → Int) (w : World) (hAw : ∀ w, Calls Tryz.prog 62 #[] w fun e w' => e = .returned (.bool true) ∧ Below w.heap.size w w') (hm : m ≤ 9223372036854775807) (hmp : mp ≤ 9223372036854775807) (hs : SeesP w w.heap.size E m a v) (hv : ∀ i, i < m → 0 ≤ v i ∧ v i ≤ 18446744073709551615) (h : (¬ FewC P T G ∨ 400 < m) ∨ 100 < mp ∨ ¬ SKn P T G x0 x1 x2) :
    Calls Tryz.prog 10 #[.agg #[.int .i64 P, .int .i64 T, .int .i64 G, .slice E m cp], .agg #[.int .i64 x0, .int .i64 x1, .int .i64 x2], .slice F mp cq] w fun e w' => e = .returned (.bool true) ∧ Below w.heap.size w w' := by
  have hsz : ((w.alloc (.cells #[.int .i64 P, .int .i64 T, .int .i64 G, .slice E m cp] 26)).alloc (.cells #[.int .i64 x0, .int .i64 x1, .int .i64 x2] 103)).heap.size = w.heap.size + 1 + 1 := by simp
  have HB : Hid (Below w.heap.size w ((w.alloc (.cells #[.int .i64 P, .int .i64 T, .int .i64 G, .slice E m cp] 26)).alloc (.cells #[.int .i64 x0, .int .i64 x1, .int .i64 x2] 103))) := ((Below.refl _ _).alloc (Nat.le_refl _) _).alloc (by simp) _
  have hX0 : Hid (Blk ((w.alloc (.cells #[.int .i64 P, .int .i64 T, .int .i64 G, .slice E m cp] 26)).alloc (.cells #[.int .i64 x0, .int .i64 x1, .int .i64 x2] 103)) w.heap.size #[.int .i64 P, .int .i64 T, .int .i64 G, .slice E m cp] 26) := (Blk.new w #[.int .i64 P, .int .i64 T, .int .i64 G, .slice E m cp] 26).al _
  have hX1 : Hid (Blk ((w.alloc (.cells #[.int .i64 P, .int .i64 T, .int .i64 G, .slice E m cp] 26)).alloc (.cells #[.int .i64 x0, .int .i64 x1, .int .i64 x2] 103)) (w.heap.size + 1) #[.int .i64 x0, .int .i64 x1, .int .i64 x2] 103) := by
    have := Blk.new (w.alloc (.cells #[.int .i64 P, .int .i64 T, .int .i64 G, .slice E m cp] 26)) #[.int .i64 x0, .int .i64 x1, .int .i64 x2] 103
    rw [show (w.alloc (.cells #[.int .i64 P, .int .i64 T, .int .i64 G, .slice E m cp] 26)).heap.size = w.heap.size + 1 by simp] at this
    exact this
  have HAW : Hid (∀ w, Calls Tryz.prog 62 #[] w fun e w' => e = .returned (.bool true) ∧ Below w.heap.size w w') := hAw
  clear hAw
  by_cases hf : ¬ FewC P T G ∨ 400 < m
  · have hL := lay_none P T G E m cp ((w.alloc (.cells #[.int .i64 P, .int .i64 T, .int .i64 G, .slice E m cp] 26)).alloc (.cells #[.int .i64 x0, .int .i64 x1, .int .i64 x2] 103)) hm hf
    clear h hf hs hv
    go_enter Tryz.func10, Tryz.ntmps10
    go_wp2_with fail
    generalize ((w.alloc (.cells #[.int .i64 P, .int .i64 T, .int .i64 G, .slice E m cp] 26)).alloc (.cells #[.int .i64 x0, .int .i64 x1, .int .i64 x2] 103)) = W at *
    go_at_call 14; refine hL.mono ?_; rintro e w1 ⟨rfl, hLd⟩
    have hbl : Below W.heap.size W w1 := hLd
    have HB1 : Hid (Below w.heap.size w w1) := HB.out.trans (hbl.mono (by omega))
    have hY0 := hX0.out.but (But.of_below (l := []) hbl) (by simp)
    have hY1 := hX1.out.but (But.of_below (l := []) hbl) (by simp)
    have zP := hY0.cell 0 (v := .int .i64 P) rfl
    have zT := hY0.cell 1 (v := .int .i64 T) rfl
    have zG := hY0.cell 2 (v := .int .i64 G) rfl
    have y0 := hY1.cell 0 (v := .int .i64 x0) rfl
    have y1 := hY1.cell 1 (v := .int .i64 x1) rfl
    have y2 := hY1.cell 2 (v := .int .i64 x2) rfl
    clear hL hbl hLd hY0 hY1
    go_wp2_with fail
    go_at_call 62; refine (HAW.out _).mono ?_; rintro e w2 ⟨rfl, h2⟩
    have h3 := seq HB1.out h2
    go_wp2_with fail
    go_ret
    exact ⟨rfl, h3⟩
  · have hF : FewC P T G := Decidable.byContradiction fun h => hf (.inl h)
    have hm4 : m ≤ 400 := by omega
    have hM := hF.h.1.h
    obtain ⟨n, hn⟩ : ∃ n : Nat, (n : Int) = 20 + 264 * P + 3 * T + 2 * G := ⟨(20 + 264 * P + 3 * T + 2 * G).toNat, by omega⟩
    have hL := lay_some P T G E m cp n a v _ hm4 hF hn ((hs.up (.cells #[.int .i64 P, .int .i64 T, .int .i64 G, .slice E m cp] 26)).up (.cells #[.int .i64 x0, .int .i64 x1, .int .i64 x2] 103)) hv
    have htt : 100 < mp ∨ ¬ SKn P T G x0 x1 x2 := by rcases h with h | h; exact absurd h hf; exact h
    clear h hf hs hv hn hF hM
    by_cases q1 : 100 < mp
    · clear htt
      have e1 : decide ((100 : Int) < (mp : Int)) = true := decide_eq_true (by omega)
      go_enter Tryz.func10, Tryz.ntmps10
      go_wp2_with fail
      generalize ((w.alloc (.cells #[.int .i64 P, .int .i64 T, .int .i64 G, .slice E m cp] 26)).alloc (.cells #[.int .i64 x0, .int .i64 x1, .int .i64 x2] 103)) = W at *
      go_at_call 14; refine hL.mono ?_; rintro e w1 ⟨cl, A, A', cap, cap', c, b, c', b', rfl, hLd⟩
      have hbl : Below W.heap.size W w1 := hLd.below
      have HB1 : Hid (Below w.heap.size w w1) := HB.out.trans (hbl.mono (by omega))
      have hY0 := hX0.out.but (But.of_below (l := []) hbl) (by simp)
      have hY1 := hX1.out.but (But.of_below (l := []) hbl) (by simp)
      have zP := hY0.cell 0 (v := .int .i64 P) rfl
      have zT := hY0.cell 1 (v := .int .i64 T) rfl
      have zG := hY0.cell 2 (v := .int .i64 G) rfl
      have y0 := hY1.cell 0 (v := .int .i64 x0) rfl
      have y1 := hY1.cell 1 (v := .int .i64 x1) rfl
      have y2 := hY1.cell 2 (v := .int .i64 x2) rfl
      clear hL hbl hLd hY0 hY1
      go_wp2_with fail
      go_at_call 62; refine (HAW.out _).mono ?_; rintro e w2 ⟨rfl, h2⟩
      have h3 := seq HB1.out h2
      go_wp2_with fail
      go_ret
      exact ⟨rfl, h3⟩
    have d1 : decide ((100 : Int) < (mp : Int)) = false := decide_eq_false (by omega)
    have q2 : ¬ SKn P T G x0 x1 x2 := htt.resolve_left q1
    clear htt
    go_enter Tryz.func10, Tryz.ntmps10
    go_wp2_with fail
    generalize ((w.alloc (.cells #[.int .i64 P, .int .i64 T, .int .i64 G, .slice E m cp] 26)).alloc (.cells #[.int .i64 x0, .int .i64 x1, .int .i64 x2] 103)) = W at *
    go_at_call 14; refine hL.mono ?_; rintro e w1 ⟨cl, A, A', cap, cap', c, b, c', b', rfl, hLd⟩
    have hbl : Below W.heap.size W w1 := hLd.below
    have HB1 : Hid (Below w.heap.size w w1) := HB.out.trans (hbl.mono (by omega))
    have hY0 := hX0.out.but (But.of_below (l := []) hbl) (by simp)
    have hY1 := hX1.out.but (But.of_below (l := []) hbl) (by simp)
    have zP := hY0.cell 0 (v := .int .i64 P) rfl
    have zT := hY0.cell 1 (v := .int .i64 T) rfl
    have zG := hY0.cell 2 (v := .int .i64 G) rfl
    have y0 := hY1.cell 0 (v := .int .i64 x0) rfl
    have y1 := hY1.cell 1 (v := .int .i64 x1) rfl
    have y2 := hY1.cell 2 (v := .int .i64 x2) rfl
    clear hL hbl hLd hY0 hY1
    go_wp2_with fail
    have hKn := sc_known w1 P T G x0 x1 x2
    rw [decide_eq_false q2] at hKn
    go_at_call 61; refine hKn.mono ?_; rintro e wk ⟨rfl, hbk⟩
    have HB1k : Hid (Below w.heap.size w wk) := seq HB1.out hbk
    clear hKn hbk
    go_wp2_with fail
    go_at_call 62; refine (HAW.out _).mono ?_; rintro e w2 ⟨rfl, h2⟩
    have h3 := seq HB1k.out h2
    go_wp2_with fail
    go_ret
    exact ⟨rfl, h3⟩

set_option maxHeartbeats 4000000 in
theorem syscIn_ok (P T G x0 x1 x2 : Int) (E F : Option Addr) (m cp mp cq : Nat) (a v : Nat → Int) (Pks : Nat → Pk) (w : World) (hAw : ∀ w, Calls Tryz.prog 62 #[] w fun e w' => e = .returned (.bool true) ∧ Below w.heap.size w w') (hm : m ≤ 400) (hF : FewC P T G) (hmp : mp ≤ 100) (hs : SeesP w w.heap.size E m a v) (hv : ∀ i, i < m → 0 ≤ v i ∧ v i ≤ 18446744073709551615) (hP : SeesC w w.heap.size F mp 6 (pkC Pks)) (hpv : ∀ j, j < mp → 0 ≤ (Pks j).v ∧ (Pks j).v ≤ 18446744073709551615) (hkn : SKn P T G x0 x1 x2) :
    Calls Tryz.prog 10 #[.agg #[.int .i64 P, .int .i64 T, .int .i64 G, .slice E m cp], .agg #[.int .i64 x0, .int .i64 x1, .int .i64 x2], .slice F mp cq] w fun e w' => e = .returned (.bool true) ∧ Below w.heap.size w w' := by
  have hsz : ((w.alloc (.cells #[.int .i64 P, .int .i64 T, .int .i64 G, .slice E m cp] 26)).alloc (.cells #[.int .i64 x0, .int .i64 x1, .int .i64 x2] 103)).heap.size = w.heap.size + 1 + 1 := by simp
  have HB : Hid (Below w.heap.size w ((w.alloc (.cells #[.int .i64 P, .int .i64 T, .int .i64 G, .slice E m cp] 26)).alloc (.cells #[.int .i64 x0, .int .i64 x1, .int .i64 x2] 103))) := ((Below.refl _ _).alloc (Nat.le_refl _) _).alloc (by simp) _
  have hX0 : Hid (Blk ((w.alloc (.cells #[.int .i64 P, .int .i64 T, .int .i64 G, .slice E m cp] 26)).alloc (.cells #[.int .i64 x0, .int .i64 x1, .int .i64 x2] 103)) w.heap.size #[.int .i64 P, .int .i64 T, .int .i64 G, .slice E m cp] 26) := (Blk.new w #[.int .i64 P, .int .i64 T, .int .i64 G, .slice E m cp] 26).al _
  have hX1 : Hid (Blk ((w.alloc (.cells #[.int .i64 P, .int .i64 T, .int .i64 G, .slice E m cp] 26)).alloc (.cells #[.int .i64 x0, .int .i64 x1, .int .i64 x2] 103)) (w.heap.size + 1) #[.int .i64 x0, .int .i64 x1, .int .i64 x2] 103) := by
    have := Blk.new (w.alloc (.cells #[.int .i64 P, .int .i64 T, .int .i64 G, .slice E m cp] 26)) #[.int .i64 x0, .int .i64 x1, .int .i64 x2] 103
    rw [show (w.alloc (.cells #[.int .i64 P, .int .i64 T, .int .i64 G, .slice E m cp] 26)).heap.size = w.heap.size + 1 by simp] at this
    exact this
  have HAW : Hid (∀ w, Calls Tryz.prog 62 #[] w fun e w' => e = .returned (.bool true) ∧ Below w.heap.size w w') := hAw
  have hM := hF.h.1.h
  have hFF := hF.h
  have hP64 : 0 ≤ P ∧ P ≤ 64 := by omega
  obtain ⟨n, hn⟩ : ∃ n : Nat, (n : Int) = 20 + 264 * P + 3 * T + 2 * G := ⟨(20 + 264 * P + 3 * T + 2 * G).toNat, by omega⟩
  have hn0 : 0 < n := by omega
  have hn6 : n ≤ 1000000 := by omega
  have hL := lay_some P T G E m cp n a v _ hm hF hn ((hs.up (.cells #[.int .i64 P, .int .i64 T, .int .i64 G, .slice E m cp] 26)).up (.cells #[.int .i64 x0, .int .i64 x1, .int .i64 x2] 103)) hv
  have d1 : decide ((100 : Int) < (mp : Int)) = false := decide_eq_false (by omega)
  have HP : Hid (SeesC w w.heap.size F mp 6 (pkC Pks)) := hP
  have HPV : Hid (∀ j, j < mp → 0 ≤ (Pks j).v ∧ (Pks j).v ≤ 18446744073709551615) := hpv
  have hTT : 0 ≤ T ∧ T ≤ 65536 := by omega
  have hGG : 0 ≤ G ∧ G ≤ 65536 := by omega
  have HKN : Hid (SKn P T G x0 x1 x2) := hkn
  have HLAW : Hid (∀ cl, (siFl x0 x1 x2 cl).Laws (siPM P T G x1 x2) (Rd.lay cl P T G) x0) := fun cl => si_laws x0 P T G x1 x2 cl hP64
  have HREF : Hid (∀ (w : World) (x : Nat) (A : Option Addr) (cap m : Nat) (gf : Nat → Int) (t : SiT), RunOn w x A cap m gf rn0 → Hist (siPM P T G x1 x2) SiT.a gf m t → Calls Tryz.prog 64 #[.pointer (some ⟨x, 0, none⟩), .agg #[.int .i64 P, .int .i64 T, .int .i64 G], .int .i64 x1, .int .i64 x2] w fun e w' => e = .returned (.bool t.went) ∧ RunOn w' x A cap m gf ((siPM P T G x1 x2).rn t m) ∧ But [x] w w') := fun w x A cap m gf t h hh => rsin_on w x A cap m gf P T G x1 x2 t h hh hP64 hTT hGG
  have HGOT : Hid (∀ cl (w : World) (x : Nat) (t : SiT) (L : List Nat), ((siFl x0 x1 x2 cl).I (siPM P T G x1 x2)) w x t L → Calls Tryz.prog 66 #[.pointer (some ⟨x, 0, none⟩)] w fun e w' => e = .returned (.bool t.went) ∧ w = w') := fun cl w x t L h => si_tells h
  have HNEW : Hid (∀ cl (w : World), Lay w cl P T G → Calls Tryz.prog 63 #[.pointer (some ⟨cl, 0, none⟩), .int .i64 x0, .int .i64 x1, .int .i64 x2] w fun e w' => ∃ x L, e = .returned (.pointer (some ⟨x, 0, none⟩)) ∧ ((siFl x0 x1 x2 cl).I (siPM P T G x1 x2)) w' x SiT.a L ∧ Below w.heap.size w w' ∧ (∀ k ∈ L, w.heap.size ≤ k)) := fun cl w h => (si_new w cl x0 P T G x1 x2 h hP64 hTT hGG.2).mono fun e w' ⟨x, L, h1, h2, h3, h4, _⟩ => ⟨x, L, h1, h2, h3, h4⟩
  clear hkn hTT hGG
  clear hAw hs hv hn hF hM hFF hP hpv
  go_enter Tryz.func10, Tryz.ntmps10
  go_wp2_with fail
  generalize ((w.alloc (.cells #[.int .i64 P, .int .i64 T, .int .i64 G, .slice E m cp] 26)).alloc (.cells #[.int .i64 x0, .int .i64 x1, .int .i64 x2] 103)) = W at *
  go_at_call 14; refine hL.mono ?_; rintro e w1 ⟨cl, A, A', cap, cap', c, b, c', b', rfl, hLd⟩
  have HL : Hid (Laid W w1 P T G n (putF a v n m) cl A A' cap cap' c b c' b') := hLd
  have hbl := hLd.below
  have HB1 : Hid (Below w.heap.size w w1) := HB.out.trans (hbl.mono (by omega))
  have hY0 := hX0.out.but (But.of_below (l := []) hbl) (by simp)
  have hY1 := hX1.out.but (But.of_below (l := []) hbl) (by simp)
  have zP := hY0.cell 0 (v := .int .i64 P) rfl
  have zT := hY0.cell 1 (v := .int .i64 T) rfl
  have zG := hY0.cell 2 (v := .int .i64 G) rfl
  have y0 := hY1.cell 0 (v := .int .i64 x0) rfl
  have y1 := hY1.cell 1 (v := .int .i64 x1) rfl
  have y2 := hY1.cell 2 (v := .int .i64 x2) rfl
  have HXb : Hid (∀ k, Blk (w1.drewN k) w.heap.size #[.int .i64 P, .int .i64 T, .int .i64 G, .slice E m cp] 26) := fun k => hY0.drewN k
  have HXw : Hid (Blk w1 w.heap.size #[.int .i64 P, .int .i64 T, .int .i64 G, .slice E m cp] 26) := hY0
  have HXW : Hid (Blk w1 (w.heap.size + 1) #[.int .i64 x0, .int .i64 x1, .int .i64 x2] 103) := hY1
  clear hL hLd hbl hY0 hY1
  go_wp2_with fail
  have hKn := sc_known w1 P T G x0 x1 x2
  rw [decide_eq_true HKN.out] at hKn
  go_at_call 61; refine hKn.mono ?_; rintro e wk ⟨rfl, hbk⟩
  have HBK : Hid (Below w1.heap.size w1 wk) := hbk
  clear hKn hbk
  have hT1 : Hid (Two wk A A' cap cap' c b c' b' n (fresh (putF a v n m))) := HL.out.two.below HBK.out
  have HB2 : Hid (Below w.heap.size w wk) := seq HB1.out HBK.out
  have HLy2 : Hid (Lay wk cl P T G) := HL.out.lay.below HBK.out HL.out.lay.lt
  have HX2 : Hid (Blk wk w.heap.size #[.int .i64 P, .int .i64 T, .int .i64 G, .slice E m cp] 26) := HXw.out.but (But.of_below (l := []) HBK.out) (by simp)
  have HXW : Hid (Blk wk (w.heap.size + 1) #[.int .i64 x0, .int .i64 x1, .int .i64 x2] 103) := HXW.out.but (But.of_below (l := []) HBK.out) (by simp)
  obtain ⟨u1, u2, u3, u4, u5⟩ := HL.out.up
  have hup : Hid (w.heap.size ≤ c ∧ w.heap.size ≤ b ∧ w.heap.size ≤ c' ∧ w.heap.size ≤ b') := ⟨by omega, by omega, by omega, by omega⟩
  have hbx : Hid (w.heap.size ≠ c ∧ w.heap.size ≠ b ∧ w.heap.size ≠ c' ∧ w.heap.size ≠ b' ∧ w.heap.size ≠ cl) := ⟨by omega, by omega, by omega, by omega, by omega⟩
  have hclup : Hid (w.heap.size ≤ cl) := (by omega : w.heap.size ≤ cl)
  have hbx1 : Hid (w.heap.size + 1 ≠ c ∧ w.heap.size + 1 ≠ b ∧ w.heap.size + 1 ≠ c' ∧ w.heap.size + 1 ≠ b') := ⟨by omega, by omega, by omega, by omega⟩
  generalize hw2 : wk = w2 at *
  have z0 := HX2.out.cell 0 (v := .int .i64 P) rfl
  have z1 := HX2.out.cell 1 (v := .int .i64 T) rfl
  have z2 := HX2.out.cell 2 (v := .int .i64 G) rfl
  clear HL HB1 HXb HXw u1 u2 u3 u4 u5 hw2 hX0 hX1 HB hsz zP zT zG y0 y1 y2 HBK HKN
  have y0 := HXW.out.cell 0 (v := .int .i64 x0) rfl
  have y1 := HXW.out.cell 1 (v := .int .i64 x1) rfl
  have y2 := HXW.out.cell 2 (v := .int .i64 x2) rfl
  have hne : Hid (cl ≠ c ∧ cl ≠ b) := lay_ne HLy2.out (by decide) hT1.out.m hn0
  have hne2 : Hid (cl ≠ c' ∧ cl ≠ b') := lay_ne HLy2.out (by decide) hT1.out.r hn0
  have HLW : Hid (((siFl x0 x1 x2 cl).I (siPM P T G x1 x2)).Good (siPM P T G x1 x2) ∧ Steps (siPM P T G x1 x2) ((siFl x0 x1 x2 cl).I (siPM P T G x1 x2)) (Rd.lay cl P T G) 67 x0) := ⟨Fl.good (HLAW.out cl), Fl.steps (HLAW.out cl) stepby_sin⟩
  have HGD : Hid (((siFl x0 x1 x2 cl).I (siPM P T G x1 x2)).Good (siPM P T G x1 x2)) := HLW.out.1
  have hN := HNEW.out cl w2 HLy2.out
  go_wp2_with fail
  go_at_call 63; refine hN.mono ?_; rintro e w3 ⟨x, L0, rfl, hi0, hb3, hu1⟩
  have HO0 : Hid (LawOn ((siFl x0 x1 x2 cl).I (siPM P T G x1 x2)) (((Rd.lay cl P T G).and (Rd.blk (w.heap.size + 1) #[.int .i64 x0, .int .i64 x1, .int .i64 x2] 103)).and (Rd.blk w.heap.size #[.int .i64 P, .int .i64 T, .int .i64 G, .slice E m cp] 26)) w w3 A A' cap cap' c b c' b' n (fresh (putF a v n m)) (fresh (putF a v n m)) none 0 0 (fun _ => 0) x SiT.a L0 [cl, w.heap.size + 1, w.heap.size]) := LawOn.begin hT1.out hb3 HB2.out hup.out hi0 HGD.out hu1 ⟨⟨HLy2.out.below hb3 HLy2.out.lt, HXW.out.but (But.of_below (l := []) hb3) (by simp)⟩, HX2.out.but (But.of_below (l := []) hb3) (by simp)⟩ (fun k hk => hk) (by
    obtain ⟨n1, n2⟩ := hne.out; obtain ⟨n3, n4⟩ := hne2.out; obtain ⟨n5, n6, n7, n8, n9⟩ := hbx.out; obtain ⟨m5, m6, m7, m8⟩ := hbx1.out
    intro k hk
    simp only [List.mem_cons, List.not_mem_nil, or_false] at hk
    rcases hk with rfl | rfl | rfl
    · exact ⟨⟨n1, n2, n3, n4⟩, HLy2.out.lt, hclup.out⟩
    · exact ⟨⟨m5, m6, m7, m8⟩, HXW.out.lt, Nat.le_succ _⟩
    · exact ⟨⟨n5, n6, n7, n8⟩, HX2.out.lt, Nat.le_refl _⟩)
  clear hN hi0 hb3 hu1 hT1 HB2 HX2 HLy2 z0 z1 z2 hup hbx hbx1 hclup hne hne2 HXW y0 y1 y2
  go_wp2_with fail
  go_loopw [12, 13] (fun gv i wr => ∃ (k : Nat) (s : St) (Ag : Option Addr) (capg mg : Nat) (gf : Nat → Int) (t : SiT) (L : List Nat), k ≤ mp ∧ i = .int .i64 k ∧ gv = .slice Ag mg capg ∧ mg ≤ k ∧ Hid (LawOn ((siFl x0 x1 x2 cl).I (siPM P T G x1 x2)) (((Rd.lay cl P T G).and (Rd.blk (w.heap.size + 1) #[.int .i64 x0, .int .i64 x1, .int .i64 x2] 103)).and (Rd.blk w.heap.size #[.int .i64 P, .int .i64 T, .int .i64 G, .slice E m cp] 26)) w wr A A' cap cap' c b c' b' n s s Ag capg mg gf x t L [cl, w.heap.size + 1, w.heap.size]) ∧ Hid (Low s (k : Int)) ∧ Hid (Hist (siPM P T G x1 x2) SiT.a gf mg t)) (fun _ i _ => mp - (intOf i).toNat)
  case atStart => exact ⟨0, _, none, 0, 0, _, SiT.a, L0, Nat.zero_le _, rfl, rfl, Nat.le_refl _, HO0, low_fresh _, Hist.start _ _ _⟩
  case round =>
    clear HO0
    obtain ⟨k, s, Ag, capg, mg, gf, t, L, hk, rfl, rfl, hmg, HO, HLo, HH⟩ := hrel
    by_cases hlt : k < mp
    · obtain ⟨fb, foff, rfl, hfb, hcell⟩ := HP.out (by omega)
      have hcw : Hid (∀ i u, (pkC Pks k)[i]? = some u → wr.cell? ⟨fb, foff + k * 6 + i, none⟩ = some u) := fun i u hu => (HO.out.poke.below.cell (p := ⟨fb, foff + k * 6 + i, none⟩) hfb).trans (hcell k hlt i u hu)
      have pz := hcw.out 0 (.bool (Pks k).z) rfl
      have hk0 : (0 : Int) ≤ (k : Int) := Int.natCast_nonneg _
      have hk1 : (k : Int) < (mp : Int) := by omega
      clear hcell
      rw [Nat.add_zero] at pz
      cases hz : (Pks k).z
      · rw [hz] at pz
        have HRA : Hid (wr.rangeAt fb (foff + k * 6 + 1) [.int .i64 (Pks k).k, .int .i64 (Pks k).p, .int .i64 (Pks k).i, .int .u64 (Pks k).o, .int .u64 (Pks k).v]) := fun j u hu => by
          have := hcw.out (1 + j) u (by rw [show pkC Pks k = .bool (Pks k).z :: [.int .i64 (Pks k).k, .int .i64 (Pks k).p, .int .i64 (Pks k).i, .int .u64 (Pks k).o, .int .u64 (Pks k).v] from rfl, Nat.add_comm 1 j, List.getElem?_cons_succ]; exact hu)
          rw [← Nat.add_assoc] at this
          exact this
        clear hz hcw
        go_wp2_with (refine wpList_load_mid rfl 51 _ rfl fb (foff + k * 6 + 1) rfl [.int .i64 (Pks k).k, .int .i64 (Pks k).p, .int .i64 (Pks k).i, .int .u64 (Pks k).o, .int .u64 (Pks k).v] _ HRA.out Tryz.underlying51 rfl (by kernel_rfl) ?_)
        go_at_call 19; refine (HO.out.pokes HGD.out hn6 (HLo.out.more (by omega)) (Pks k).k (Pks k).p (Pks k).i (Pks k).o (Pks k).v (HPV.out k hlt)).mono ?_; rintro e w9 ⟨rfl, hO⟩
        have HO9 : Hid _ := hO
        have HLo9 : Hid (Low (actS (Pks k).k (Pks k).p (Pks k).i (Pks k).o (Pks k).v n s) (((k + 1 : Nat)) : Int)) := (actS_low HLo.out _ _ _ _ _ _).more (by omega)
        clear hO HO HRA pz
        go_wp2_with fail
        go_roundw
        case rel => exact ⟨k + 1, _, Ag, capg, mg, gf, t, L, by omega, by go_num, rfl, by omega, HO9, HLo9, HH⟩
        case measure => simp [intOf]; omega
      · rw [hz] at pz
        clear hz hcw
        have hR0 : Hid (RunOn (wr.alloc (.cells (runL (.slice Ag mg capg) rn0).toArray 58)) wr.heap.size Ag capg mg gf rn0) := run_starts HO.out.poke.got (by omega)
        have hb0 : Hid (Below wr.heap.size wr (wr.alloc (.cells (runL (.slice Ag mg capg) rn0).toArray 58))) := (Below.refl _ _).alloc (Nat.le_refl _) _
        have hRR := HREF.out _ _ Ag capg mg gf t hR0.out HH.out
        have y0 := HO.out.rd.2.cell 0 (v := .int .i64 P) rfl
        have y1 := HO.out.rd.2.cell 1 (v := .int .i64 T) rfl
        have y2 := HO.out.rd.2.cell 2 (v := .int .i64 G) rfl
        have q1 := HO.out.rd.1.2.cell 1 (v := .int .i64 x1) rfl
        have q2 := HO.out.rd.1.2.cell 2 (v := .int .i64 x2) rfl
        have hbl1 : w.heap.size + 1 < wr.heap.size := HO.out.rd.1.2.lt
        have hbl : w.heap.size < wr.heap.size := HO.out.rd.2.lt
        go_wp2_with fail
        go_at_call 64; refine hRR.mono ?_; rintro e w4 ⟨rfl, hR4, hB4⟩
        have hb4 : Below wr.heap.size wr w4 := hb0.out.trans (hB4.below (by simp) (by simp))
        have HO4 : Hid (LawOn ((siFl x0 x1 x2 cl).I (siPM P T G x1 x2)) (((Rd.lay cl P T G).and (Rd.blk (w.heap.size + 1) #[.int .i64 x0, .int .i64 x1, .int .i64 x2] 103)).and (Rd.blk w.heap.size #[.int .i64 P, .int .i64 T, .int .i64 G, .slice E m cp] 26)) w w4 A A' cap cap' c b c' b' n s s Ag capg mg gf x t L [cl, w.heap.size + 1, w.heap.size]) := HO.out.still HGD.out hb4
        have HR4 : Hid (RunOn w4 wr.heap.size Ag capg mg gf ((siPM P T G x1 x2).rn t mg)) := hR4
        have hs4 : wr.heap.size < w4.heap.size := hR4.blk.lt
        have s2 := HR4.out.blk.cell 2 (v := .bool ((siPM P T G x1 x2).rn t mg).stop) rfl
        rw [PM.rn_stop] at s2
        clear hRR hR4 hB4 hR0 hb0 hb4 HO pz y0 y1 y2 q1 q2 hbl hbl1
        have HOK : Hid (∀ a, (siPM P T G x1 x2).ax t = some a → a.Ok) := fun a ha => (HLAW.out cl).axok t a HO4.out.mach.1 ha
        have HD : Hid (∀ Y, Below w4.heap.size w4 Y → Calls Tryz.prog 65 #[.pointer (some ⟨x, 0, none⟩)] Y fun e w' => e = .returned (.bool ((siPM P T G x1 x2).ax t).isNone) ∧ Y = w') := fun Y hY => by
          obtain ⟨nx, hx1, hx2⟩ := HGD.out.next (HGD.out.below HO4.out.mach hY)
          rw [← hx2]
          exact done_sin Y x nx hx1
        have HGv : Hid (∀ Y, Below w4.heap.size w4 Y → Calls Tryz.prog 66 #[.pointer (some ⟨x, 0, none⟩)] Y fun e w' => e = .returned (.bool t.went) ∧ Y = w') := fun Y hY => HGOT.out cl Y x t L (HGD.out.below HO4.out.mach hY)
        generalize t.went = tc at *
        cases hst : ((siPM P T G x1 x2).ax t).isSome
        · rw [hst] at s2
          have hin : ((siPM P T G x1 x2).ax t).isNone = true := by cases h : (siPM P T G x1 x2).ax t <;> rw [h] at hst <;> first | rfl | cases hst
          rw [hin] at HD
          clear hin
          have hH : Hid (w4.drew.cell? ⟨wr.heap.size, 2, none⟩ = some (.bool false) ∧ Below w4.heap.size w4 w4.drew) := ⟨s2, (Below.refl _ _).drew⟩
          have KEEP : Hid (∀ X w' : World, (X.cell? ⟨wr.heap.size, 2, none⟩ = some (.bool false) ∧ Below w4.heap.size w4 X) → Below X.heap.size X w' → (w'.cell? ⟨wr.heap.size, 2, none⟩ = some (.bool false) ∧ Below w4.heap.size w4 w')) := fun X w' h k => ⟨(k.cell (p := ⟨wr.heap.size, 2, none⟩) (Nat.lt_of_lt_of_le hs4 h.2.size)).trans h.1, h.2.trans (k.mono h.2.size)⟩
          go_wp2_with fail
          go_region_held3 (fun w' => w'.cell? ⟨wr.heap.size, 2, none⟩ = some (.bool false) ∧ Below w4.heap.size w4 w') (first | exact hH.out | assumption | exact KEEP.out _ _ ‹_› ‹_›) (first | (go_at_call 65; refine (HD.out _ (by simp only [*])).mono ?_; rintro e x1 ⟨rfl, rfl⟩) | (go_at_call 66; refine (HGv.out _ (by simp only [*])).mono ?_; rintro e x3 ⟨rfl, rfl⟩))
          all_goals
            rename_i hHeld
            have HO5 : Hid _ := HO4.out.still HGD.out hHeld.2
            have HRg : Hid _ := (HR4.out.below hHeld.2).range
            have hTu := HO5.out.turn HGD.out HOK.out hn6 (HLo.out.more (by omega)) (by omega) x0
            have zw := HO5.out.rd.1.2.cell 0 (v := .int .i64 x0) rfl
            rw [show runCells (.slice Ag mg capg) ((siPM P T G x1 x2).rn t mg) = (runL (.slice Ag mg capg) ((siPM P T G x1 x2).rn t mg)).toArray from rfl] at hTu
            generalize (siPM P T G x1 x2).rn t mg = RN at *
            simp only [runL] at hTu
            clear HD KEEP hH HO4 HR4 s2 hHeld HGv
            go_wp2_with (refine wpList_load_mid rfl 58 _ rfl wr.heap.size 0 rfl (runL (.slice Ag mg capg) RN) _ HRg.out Tryz.underlying58 rfl (by kernel_rfl) ?_; clear HRg)
            go_at_call 28; refine hTu.mono ?_; rintro e w6 ⟨Ag', capg', rfl, hO6⟩
            have HO6 : Hid _ := hO6
            have hSt := HO6.out.step HGD.out HLW.out.2 (fun Y (h : (((Rd.lay cl P T G).and (Rd.blk (w.heap.size + 1) #[.int .i64 x0, .int .i64 x1, .int .i64 x2] 103)).and (Rd.blk w.heap.size #[.int .i64 P, .int .i64 T, .int .i64 G, .slice E m cp] 26)).P Y) => h.1.1) (fun k hk => List.mem_append_left _ (List.mem_append_left _ hk)) hn6 (HLo.out.more (by omega))
            have HHn : Hid _ := HH.out.next n s (fun k i old new => actA_bd HO6.out.poke.mem k i old new)
            have HLo7 : Hid (Low ((siPM P T G x1 x2).goS x0 n t s) ((k + 1 : Nat) : Int)) := PM.goS_low HLo.out
            have hml : (siPM P T G x1 x2).goM n t s mg ≤ k + 1 := by unfold PM.goM; split <;> (try split) <;> omega
            clear hTu hO6 HO5 zw
            go_wp2_with fail
            go_at_call 67; refine hSt.mono ?_; rintro e w7 ⟨⟨zz, rfl⟩, L7, hO7⟩
            have HO7 : Hid _ := hO7
            clear hSt hO7 HO6 HH HLo
            generalize (siPM P T G x1 x2).goS x0 n t s = s' at *
            generalize (siPM P T G x1 x2).goG n t s gf mg = g' at *
            generalize (siPM P T G x1 x2).goM n t s mg = m' at *
            generalize (siPM P T G x1 x2).goT n t s = t' at *
            have hAl := alike_any w7 A A' cap cap' c b c' b' n s' hn6 HO7.out.poke.two
            go_wp2_with fail
            go_at_call 30; refine hAl.mono ?_; rintro e w8 ⟨rfl, hb8⟩
            have HO8 : Hid _ := HO7.out.still HGD.out hb8
            clear hAl hb8 HO7
            go_wp2_with fail
            go_roundw
            case rel => exact ⟨k + 1, s', Ag', capg', m', g', t', L7, by omega, by go_num, rfl, hml, HO8.out, HLo7, HHn.out⟩
            case measure => simp [intOf]; omega
        · rw [hst] at s2
          have hin : ((siPM P T G x1 x2).ax t).isNone = false := by cases h : (siPM P T G x1 x2).ax t <;> rw [h] at hst <;> first | rfl | cases hst
          rw [hin] at HD
          clear hin
          have hH : Hid (w4.drew.cell? ⟨wr.heap.size, 2, none⟩ = some (.bool true) ∧ Below w4.heap.size w4 w4.drew) := ⟨s2, (Below.refl _ _).drew⟩
          have KEEP : Hid (∀ X w' : World, (X.cell? ⟨wr.heap.size, 2, none⟩ = some (.bool true) ∧ Below w4.heap.size w4 X) → Below X.heap.size X w' → (w'.cell? ⟨wr.heap.size, 2, none⟩ = some (.bool true) ∧ Below w4.heap.size w4 w')) := fun X w' h k => ⟨(k.cell (p := ⟨wr.heap.size, 2, none⟩) (Nat.lt_of_lt_of_le hs4 h.2.size)).trans h.1, h.2.trans (k.mono h.2.size)⟩
          go_wp2_with fail
          go_region_held3 (fun w' => w'.cell? ⟨wr.heap.size, 2, none⟩ = some (.bool true) ∧ Below w4.heap.size w4 w') (first | exact hH.out | assumption | exact KEEP.out _ _ ‹_› ‹_›) (first | (go_at_call 65; refine (HD.out _ (by simp only [*])).mono ?_; rintro e x1 ⟨rfl, rfl⟩) | (go_at_call 66; refine (HGv.out _ (by simp only [*])).mono ?_; rintro e x3 ⟨rfl, rfl⟩))
          all_goals
            rename_i hHeld
            have HO5 : Hid _ := HO4.out.still HGD.out hHeld.2
            have HRg : Hid _ := (HR4.out.below hHeld.2).range
            have hTu := HO5.out.turn HGD.out HOK.out hn6 (HLo.out.more (by omega)) (by omega) x0
            have zw := HO5.out.rd.1.2.cell 0 (v := .int .i64 x0) rfl
            rw [show runCells (.slice Ag mg capg) ((siPM P T G x1 x2).rn t mg) = (runL (.slice Ag mg capg) ((siPM P T G x1 x2).rn t mg)).toArray from rfl] at hTu
            generalize (siPM P T G x1 x2).rn t mg = RN at *
            simp only [runL] at hTu
            clear HD KEEP hH HO4 HR4 s2 hHeld HGv
            go_wp2_with (refine wpList_load_mid rfl 58 _ rfl wr.heap.size 0 rfl (runL (.slice Ag mg capg) RN) _ HRg.out Tryz.underlying58 rfl (by kernel_rfl) ?_; clear HRg)
            go_at_call 28; refine hTu.mono ?_; rintro e w6 ⟨Ag', capg', rfl, hO6⟩
            have HO6 : Hid _ := hO6
            have hSt := HO6.out.step HGD.out HLW.out.2 (fun Y (h : (((Rd.lay cl P T G).and (Rd.blk (w.heap.size + 1) #[.int .i64 x0, .int .i64 x1, .int .i64 x2] 103)).and (Rd.blk w.heap.size #[.int .i64 P, .int .i64 T, .int .i64 G, .slice E m cp] 26)).P Y) => h.1.1) (fun k hk => List.mem_append_left _ (List.mem_append_left _ hk)) hn6 (HLo.out.more (by omega))
            have HHn : Hid _ := HH.out.next n s (fun k i old new => actA_bd HO6.out.poke.mem k i old new)
            have HLo7 : Hid (Low ((siPM P T G x1 x2).goS x0 n t s) ((k + 1 : Nat) : Int)) := PM.goS_low HLo.out
            have hml : (siPM P T G x1 x2).goM n t s mg ≤ k + 1 := by unfold PM.goM; split <;> (try split) <;> omega
            clear hTu hO6 HO5 zw
            go_wp2_with fail
            go_at_call 67; refine hSt.mono ?_; rintro e w7 ⟨⟨zz, rfl⟩, L7, hO7⟩
            have HO7 : Hid _ := hO7
            clear hSt hO7 HO6 HH HLo
            generalize (siPM P T G x1 x2).goS x0 n t s = s' at *
            generalize (siPM P T G x1 x2).goG n t s gf mg = g' at *
            generalize (siPM P T G x1 x2).goM n t s mg = m' at *
            generalize (siPM P T G x1 x2).goT n t s = t' at *
            have hAl := alike_any w7 A A' cap cap' c b c' b' n s' hn6 HO7.out.poke.two
            go_wp2_with fail
            go_at_call 30; refine hAl.mono ?_; rintro e w8 ⟨rfl, hb8⟩
            have HO8 : Hid _ := HO7.out.still HGD.out hb8
            clear hAl hb8 HO7
            go_wp2_with fail
            go_roundw
            case rel => exact ⟨k + 1, s', Ag', capg', m', g', t', L7, by omega, by go_num, rfl, hml, HO8.out, HLo7, HHn.out⟩
            case measure => simp [intOf]; omega
    · obtain rfl : k = mp := by omega
      have hgd : decide ((k : Int) < (k : Int)) = false := by simp
      have HT := HO.out.poke.two
      have HTS : Hid (∀ Y, Below wr.heap.size wr Y → Two Y A A' cap cap' c b c' b' n s) := fun Y hY => HT.below hY
      have hH : Hid (wr.drew.cell? ⟨c', 0, none⟩ = some (.slice A' n cap') ∧ Below wr.heap.size wr wr.drew) := ⟨HT.r.cells.1, (Below.refl _ _).drew⟩
      have KEEP : Hid (∀ X w' : World, (X.cell? ⟨c', 0, none⟩ = some (.slice A' n cap') ∧ Below wr.heap.size wr X) → Below X.heap.size X w' → (w'.cell? ⟨c', 0, none⟩ = some (.slice A' n cap') ∧ Below wr.heap.size wr w')) := fun X w' h k => ⟨(HTS.out _ (h.2.trans (k.mono h.2.size))).r.cells.1, h.2.trans (k.mono h.2.size)⟩
      have HB9 : Hid (Below w.heap.size w wr) := HO.out.poke.below
      clear HT HO HLo HH
      go_wp2_with fail
      go_region_held3 (fun w' => w'.cell? ⟨c', 0, none⟩ = some (.slice A' n cap') ∧ Below wr.heap.size wr w') (first | exact hH.out | assumption | exact KEEP.out _ _ ‹_› ‹_›) (first | (go_at_call 62; refine (HAW.out _).mono ?_; rintro e x1 ⟨rfl, g1⟩) | (go_at_call 33; refine (words_any _ A cap c b n s (HTS.out _ (by simp only [*])).m hn6).mono ?_; rintro e x5 ⟨A4, cap4, rfl, hs4, g5⟩) | (go_at_call 32; refine (sameB_any _ A4 A' n cap4 cap' s.f hn6 hs4 (HTS.out _ (by simp only [*])).r.sees).mono ?_; rintro e x6 ⟨rfl, g6⟩) | (go_at_call 65; refine (done_nil_sin _).mono ?_; rintro e x7 ⟨rfl, rfl⟩) | (go_at_call 67; refine (step_nil_sin _ _).mono ?_; rintro e x7 ⟨rfl, rfl⟩) | (go_at_call 66; refine (si_went_nil _).mono ?_; rintro e x7 ⟨rfl, rfl⟩) | (go_at_call 68; refine (done_nil_sout _).mono ?_; rintro e x7 ⟨rfl, rfl⟩) | (go_at_call 69; refine (step_nil_sout _ _).mono ?_; rintro e x7 ⟨rfl, rfl⟩) | (go_at_call 70; refine (so_Came_nil _).mono ?_; rintro e x7 ⟨rfl, rfl⟩) | (go_at_call 71; refine (so_Runs_nil _).mono ?_; rintro e x7 ⟨rfl, rfl⟩) | (go_at_call 72; refine (so_P_nil _).mono ?_; rintro e x7 ⟨rfl, rfl⟩) | (go_at_call 73; refine (so_Holds_nil _).mono ?_; rintro e x7 ⟨rfl, rfl⟩))
      all_goals
        rename_i hHeld
        have hbF := HB9.out.trans (hHeld.2.mono HB9.out.size)
        go_wp2_with fail
        go_ret
        exact ⟨rfl, hbF⟩

theorem syscIn_walk (P T G x0 x1 x2 : Int) (E F : Option Addr) (m cp mp cq : Nat) (a v : Nat → Int) (Pks : Nat → Pk) (w : World) (hAw : ∀ w, Calls Tryz.prog 62 #[] w fun e w' => e = .returned (.bool true) ∧ Below w.heap.size w w') (hm : m ≤ 9223372036854775807) (hmp : mp ≤ 9223372036854775807) (hs : SeesP w w.heap.size E m a v) (hv : ∀ i, i < m → 0 ≤ v i ∧ v i ≤ 18446744073709551615) (hP : SeesC w w.heap.size F mp 6 (pkC Pks)) (hpv : ∀ j, j < mp → 0 ≤ (Pks j).v ∧ (Pks j).v ≤ 18446744073709551615) :
    Calls Tryz.prog 10 #[.agg #[.int .i64 P, .int .i64 T, .int .i64 G, .slice E m cp], .agg #[.int .i64 x0, .int .i64 x1, .int .i64 x2], .slice F mp cq] w fun e w' => e = .returned (.bool true) ∧ Below w.heap.size w w' := by
  by_cases h : (¬ FewC P T G ∨ 400 < m) ∨ 100 < mp ∨ ¬ SKn P T G x0 x1 x2
  · exact syscIn_bad P T G x0 x1 x2 E F m cp mp cq a v w hAw hm hmp hs hv h
  · exact syscIn_ok P T G x0 x1 x2 E F m cp mp cq a v Pks w hAw (by omega) (Decidable.byContradiction fun hf => h (.inl (.inl hf))) (by omega) hs hv hP hpv (Decidable.byContradiction fun hq => h (.inr (.inr hq)))
end Go.Proofs.YtcjidigpdecdlaaGreat

namespace Go.Proofs.YtcjidigpdecdlaaGreat
open Go Go.RowKit
set_option linter.unusedVariables false
set_option maxRecDepth 100000
set_option linter.unusedSimpArgs false

/-- So many steps of a machine. -/
def PM.steps {σ : Type} (M : PM σ) (who : Int) (n : Nat) : Nat → σ × St → σ × St
  | 0, p => p
  | k + 1, p => PM.steps M who n k (M.goT n p.1 p.2, M.goS who n p.1 p.2)
theorem PM.steps_succ {σ : Type} (M : PM σ) (who : Int) (n : Nat) : ∀ (k : Nat) (p : σ × St), M.steps who n (k + 1) p = (M.goT n (M.steps who n k p).1 (M.steps who n k p).2, M.goS who n (M.steps who n k p).1 (M.steps who n k p).2)
  | 0, p => rfl
  | k + 1, p => PM.steps_succ M who n k (M.goT n p.1 p.2, M.goS who n p.1 p.2)
theorem PM.steps_low {σ : Type} (M : PM σ) (who : Int) (n : Nat) {m : Int} : ∀ (k : Nat) (p : σ × St), Low p.2 m → Low (M.steps who n k p).2 (m + k)
  | 0, p, h => h.more (by omega)
  | k + 1, p, h => (PM.steps_low M who n k (M.goT n p.1 p.2, M.goS who n p.1 p.2) (PM.goS_low h)).more (by omega)

/-- A machine over a memory, apart, with what is only read. -/
structure Solo {σ : Type} (I : MI σ) (R : Rd) (W0 w : World) (A : Option Addr) (cap c b n : Nat) (s : St) (x : Nat) (t : σ) (L : List Nat) : Prop where
  mem : Is w 168 A cap c b n s
  mach : I w x t L
  rd : R.P w
  far : ∀ k ∈ L, k ≠ c ∧ k ≠ b ∧ k ∉ R.B
  rfar : c ∉ R.B ∧ b ∉ R.B
  up : W0.heap.size ≤ c ∧ W0.heap.size ≤ b ∧ ∀ k ∈ L, W0.heap.size ≤ k
  rlt : ∀ k ∈ R.B, k < w.heap.size
  below : Below W0.heap.size W0 w
section
variable {σ : Type} {I : MI σ} {M : PM σ} {R Rm : Rd} {W0 w w' : World} {A : Option Addr} {cap c b n : Nat} {s : St} {x : Nat} {t : σ} {L : List Nat}
theorem Solo.still (hG : I.Good M) (h : Solo I R W0 w A cap c b n s x t L) (hb : Below w.heap.size w w') : Solo I R W0 w' A cap c b n s x t L :=
  ⟨h.mem.below hb, hG.below h.mach hb, R.below h.rd hb, h.far, h.rfar, h.up, fun k hk => Nat.lt_of_lt_of_le (h.rlt k hk) hb.size, h.below.trans (hb.mono h.below.size)⟩
theorem Solo.step (hG : I.Good M) {F : Nat} {who : Int} (hS : Steps M I Rm F who) (hRm : ∀ w, R.P w → Rm.P w) (hRb : ∀ k ∈ Rm.B, k ∈ R.B) (h : Solo I R W0 w A cap c b n s x t L) (hn : n ≤ 1000000) (hl : Low s 1000000) :
    Calls Tryz.prog F #[.pointer (some ⟨x, 0, none⟩), .pointer (some ⟨c, 0, none⟩)] w fun e w' => (e = .returned (.bool (M.ax (M.goT n t s)).isNone)) ∧ ∃ L', Solo I R W0 w' A cap c b n (M.goS who n t s) x (M.goT n t s) L' := by
  refine (hS w A cap c b n s x t L h.mach (hRm w h.rd) h.mem hn hl (fun k hk => ⟨(h.far k hk).1, (h.far k hk).2.1, fun hr => (h.far k hk).2.2 (hRb k hr)⟩) ⟨fun hr => h.rfar.1 (hRb c hr), fun hr => h.rfar.2 (hRb b hr)⟩).mono ?_
  rintro e w' ⟨rfl, L', a1, a2, a3, a4⟩
  have hsz := h.below.size
  have k1 := h.mem.lt
  have k2 := h.mem.bl
  refine ⟨rfl, L', a2, a1, R.keep _ _ _ h.rd a3 (fun k hk => ?_), fun k hk => ?_, h.rfar, ⟨h.up.1, h.up.2.1, fun k hk => ?_⟩, fun k hk => Nat.lt_of_lt_of_le (h.rlt k hk) a3.size, h.below.trans (a3.below ?_ hsz)⟩
  · simp only [List.mem_cons, not_or]
    exact ⟨fun e => h.rfar.1 (e ▸ hk), fun e => h.rfar.2 (e ▸ hk), fun hm => (h.far k hm).2.2 hk⟩
  · rcases a4 k hk with h1 | h1
    · exact h.far k h1
    · exact ⟨by omega, by omega, fun hr => by have := h.rlt k hr; omega⟩
  · rcases a4 k hk with h1 | h1
    · exact h.up.2.2 k h1
    · omega
  · intro k hk
    simp only [List.mem_cons] at hk
    rcases hk with rfl | rfl | hk
    · exact h.up.1
    · exact h.up.2.1
    · exact h.up.2.2 k hk
/-- How it begins. -/
theorem Solo.begin {w2 w3 : World} (hm : Is w2 168 A cap c b n s) (hb : Below w2.heap.size w2 w3) (hB2 : Below W0.heap.size W0 w2) (hup : W0.heap.size ≤ c ∧ W0.heap.size ≤ b) (hi : I w3 x t L) (hL : ∀ k ∈ L, w2.heap.size ≤ k) (hr : R.P w2) (hrl : ∀ k ∈ R.B, k < w2.heap.size) (hrf : c ∉ R.B ∧ b ∉ R.B) : Solo I R W0 w3 A cap c b n s x t L := by
  have k1 := hm.lt
  have k2 := hm.bl
  have hsz := hB2.size
  refine ⟨hm.below hb, hi, R.below hr hb, fun k hk => ?_, hrf, ⟨hup.1, hup.2, fun k hk => Nat.le_trans hsz (hL k hk)⟩, fun k hk => Nat.lt_of_lt_of_le (hrl k hk) hb.size, hB2.trans (hb.mono hsz)⟩
  have h1 := hL k hk
  exact ⟨by omega, by omega, fun hr => by have := hrl k hr; omega⟩
end
end Go.Proofs.YtcjidigpdecdlaaGreat

namespace Go.Proofs.YtcjidigpdecdlaaGreat
open Go Go.RowKit Go.Maps
set_option linter.unusedVariables false
set_option maxRecDepth 100000
set_option linter.unusedSimpArgs false

namespace RI
/-- A list of ints that the call made. -/
structure IntsOn (w : World) (base : Nat) (v : Value) (l : List Int) : Prop where
  own : w.ownsRow base 3 1 v l.length (l.map (Value.int .i64))
theorem lists_info3 : (Tryz.prog.info? 3).map (fun i => (i.zero, i.size, i.bytes)) = some (some (.int .i64 0), 1, 8) := by kernel_rfl
theorem row_but {w w' : World} {base : Nat} {e : TypeId} {size : Nat} {v : Value} {n : Nat} {xs : List Value} {l : List Nat} (h : w.ownsRow base e size v n xs) (hB : But l w w') (hl : ∀ b ∈ l, b < base) : w'.ownsRow base e size v n xs := by
  refine ⟨h.1, ?_⟩
  rcases h.2 with h0 | ⟨gb, cp, cur, e0, hb, hh, rest⟩
  · exact .inl h0
  · exact .inr ⟨gb, cp, cur, e0, hb, (hB.block gb (block_lt hh) (fun hm => absurd (hl gb hm) (by omega))).trans hh, rest⟩
theorem row_below {w w' : World} {base : Nat} {e : TypeId} {size : Nat} {v : Value} {n : Nat} {xs : List Value} (h : w.ownsRow base e size v n xs) (hB : Below w.heap.size w w') : w'.ownsRow base e size v n xs := row_but h (But.of_below (l := []) hB) (fun b hb => by cases hb)
theorem lists_slice {w : World} {base : Nat} {e : TypeId} {size : Nat} {v : Value} {n : Nat} {xs : List Value} (h : w.ownsRow base e size v n xs) : ∃ A cap, v = .slice A n cap := by
  rcases h.2 with ⟨e0, h0⟩ | ⟨gb, cp, cur, e0, hb, hh, rest⟩
  · subst h0; exact ⟨none, 0, e0⟩
  · exact ⟨_, _, e0⟩
theorem IntsOn.cell {w : World} {base : Nat} {v : Value} {l : List Int} (h : IntsOn w base v l) {j : Nat} (hj : j < l.length) : ∃ gb cap, v = .slice (some ⟨gb, 0, none⟩) l.length cap ∧ w.cell? ⟨gb, j, none⟩ = some (.int .i64 (l.getD j 0)) := by
  rcases h.own.2 with ⟨e, h0⟩ | ⟨gb, cp, cur, e, hb, hh, hnc, hcm, hcs, htk⟩
  · omega
  · subst e
    refine ⟨gb, cp, rfl, ?_⟩
    have hc := h.own.cellAt j (by omega)
    rw [List.getElem?_map, List.getElem?_eq_getElem hj] at hc
    rw [List.getD_eq_getElem?_getD, List.getElem?_eq_getElem hj]
    exact hc
/-- A slice of ints, seen in memory. -/
def SeesL (w : World) (v : Value) (l : List Int) : Prop := ∃ A cap, v = .slice A l.length cap ∧ (A = none → l.length = 0 ∧ cap = 0) ∧ (0 < l.length → ∃ b off : Nat, A = some ⟨b, off, none⟩ ∧ b < w.heap.size ∧ ∀ j, j < l.length → w.cell? ⟨b, off + j, none⟩ = some (.int .i64 (l.getD j 0)))
theorem SeesL.below {w w' : World} {v : Value} {l : List Int} (h : SeesL w v l) (hb : Below w.heap.size w w') : SeesL w' v l := by
  obtain ⟨A, cap, e, h1, h2⟩ := h
  refine ⟨A, cap, e, h1, fun hn => ?_⟩
  obtain ⟨b, off, e1, h3, h4⟩ := h2 hn
  exact ⟨b, off, e1, Nat.lt_of_lt_of_le h3 hb.size, fun j hj => (hb.cell (p := ⟨b, off + j, none⟩) h3).trans (h4 j hj)⟩
theorem IntsOn.sees {w : World} {base : Nat} {v : Value} {l : List Int} (h : IntsOn w base v l) : SeesL w v l := by
  by_cases h0 : 0 < l.length
  · obtain ⟨gb, cap, e, -⟩ := h.cell h0
    refine ⟨_, cap, e, (fun h => by cases h), fun hn => ⟨gb, 0, rfl, ?_, fun j hj => ?_⟩⟩
    · obtain ⟨gb', cap', e', hc⟩ := h.cell hn
      rw [e] at e'; cases e'
      exact cell_lt hc
    · obtain ⟨gb', cap', e', hc⟩ := h.cell hj
      rw [e] at e'; cases e'
      rw [Nat.zero_add]; exact hc
  · rcases h.own.2 with ⟨e, h1⟩ | ⟨gb, cp, cur, e, -⟩
    · exact ⟨none, 0, by rw [e, h1], fun _ => ⟨h1, rfl⟩, fun h => absurd h h0⟩
    · exact ⟨_, cp, e, (fun h => by cases h), fun h => absurd h h0⟩

theorem lsame_any (w : World) (v v' : Value) (l : List Int) (hn : l.length ≤ 1000000) (h : SeesL w v l) (h' : SeesL w v' l) :
    Calls Tryz.prog 24 #[v, v'] w fun e w' => e = .returned (.bool true) ∧ Below w.heap.size w w' := by
  obtain ⟨A, cap, rfl, -, h2⟩ := h
  obtain ⟨A', cap', rfl, -, h2'⟩ := h'
  have H : Hid (0 < l.length → ∃ b off : Nat, A = some ⟨b, off, none⟩ ∧ b < w.heap.size ∧ ∀ j, j < l.length → w.cell? ⟨b, off + j, none⟩ = some (.int .i64 (l.getD j 0))) := h2
  have H' : Hid (0 < l.length → ∃ b off : Nat, A' = some ⟨b, off, none⟩ ∧ b < w.heap.size ∧ ∀ j, j < l.length → w.cell? ⟨b, off + j, none⟩ = some (.int .i64 (l.getD j 0))) := h2'
  clear h2 h2'
  have HF : Hid (∃ (f : Nat → Int) (n : Nat), (fun j => l.getD j 0) = f ∧ l.length = n) := ⟨_, _, rfl, rfl⟩
  obtain ⟨f, n, hf, hl⟩ := HF.out
  have hfe : ∀ j, l.getD j 0 = f j := fun j => congrFun hf j
  simp only [hfe] at H H'
  rw [hl] at H H' hn ⊢
  clear HF hf hl hfe
  go_enter Tryz.func24, Tryz.ntmps24
  go_wp2_with fail
  go_loopw [5] (fun i wr => ∃ k m : Nat, k ≤ n ∧ i = .int .i64 k ∧ wr = w.drewN m) (fun i _ => n - (intOf i).toNat)
  case atStart => exact ⟨0, 0, Nat.zero_le _, rfl, rfl⟩
  case round =>
    obtain ⟨k, m, hk, rfl, rfl⟩ := hrel
    by_cases hlt : k < n
    · obtain ⟨b, off, rfl, hbB, hcell⟩ := H.out (by omega)
      obtain ⟨b', off', rfl, hbB', hcell'⟩ := H'.out (by omega)
      have e0 : w.cell? ⟨b, off + k, none⟩ = some (.int .i64 (f k)) := hcell k hlt
      have e1 : w.cell? ⟨b', off' + k, none⟩ = some (.int .i64 (f k)) := hcell' k hlt
      clear hcell hcell'
      generalize f k = x at e0 e1
      go_wp2_with fail
      go_quiet (fail)
      go_wp2_with fail
      go_roundw
      case rel => exact ⟨k + 1, _, by omega, by go_num, rfl⟩
      case measure => simp [intOf]; omega
    · obtain rfl : k = n := by omega
      go_wp2_with fail
      go_ret
      exact ⟨rfl, Below.drewN' (Below.refl _ _) m⟩
end RI
theorem But.grown {l : List Nat} {a w w' : World} {r : Option Nat} (h : But l a w) (hg : w.grownBy w' r) (hr : ∀ k, r = some k → k ∈ l ∨ a.heap.size ≤ k) : But l a w' :=
  ⟨hg.os.trans h.os, hg.tape.trans h.tape, hg.output.trans h.output, Nat.le_trans h.size hg.size, fun k hk hc => (hg.block k (Nat.lt_of_lt_of_le hk h.size) (fun e => by rcases hr k e.symm with h1 | h1; exact hc h1; omega)).trans (h.block k hk hc)⟩
def rowB (v : Value) : List Nat := match v.ownBlock with
  | some k => [k]
  | none => []
theorem rowB_mem {v : Value} {k : Nat} (h : v.ownBlock = some k) : k ∈ rowB v := by unfold rowB; rw [h]; simp
theorem mem_rowB {v : Value} {k : Nat} (h : k ∈ rowB v) : v.ownBlock = some k := by
  unfold rowB at h
  split at h
  · rename_i h'; simp at h; rw [h', h]
  · cases h
theorem RI.IntsOn.keep {w w' : World} {base : Nat} {v : Value} {l : List Int} {ll : List Nat} (h : RI.IntsOn w base v l) (hB : But ll w w') (hk : ∀ k ∈ rowB v, k ∉ ll) : RI.IntsOn w' base v l := by
  refine ⟨h.own.1, ?_⟩
  rcases h.own.2 with h0 | ⟨gb, cp, cur, e0, hb, hh, rest⟩
  · exact .inl h0
  · exact .inr ⟨gb, cp, cur, e0, hb, (hB.block gb (block_lt hh) (hk gb (rowB_mem (by rw [e0]; rfl)))).trans hh, rest⟩
theorem RI.IntsOn.up {w : World} {base : Nat} {v : Value} {l : List Int} (h : RI.IntsOn w base v l) : ∀ k ∈ rowB v, base ≤ k ∧ k < w.heap.size := fun k hk => h.own.lt k (mem_rowB hk)
/-- A list of ints that is only read. -/
def Rd.ints (base : Nat) (v : Value) (l : List Int) : Rd := ⟨rowB v, fun w => RI.IntsOn w base v l, fun w w' ll h hb hk => h.keep hb hk⟩
end Go.Proofs.YtcjidigpdecdlaaGreat

namespace Go.Proofs.YtcjidigpdecdlaaGreat
open Go Go.RowKit
set_option linter.unusedVariables false
set_option maxRecDepth 100000
set_option linter.unusedSimpArgs false

/-- A machine that is only kept. -/
def Rd.mach {σ : Type} {I : MI σ} {M : PM σ} (hG : I.Good M) (x : Nat) (t : σ) (L : List Nat) : Rd := ⟨L, fun w => I w x t L, fun w w' l h hb hk => hG.keep h hb hk⟩
section
variable {σ : Type} {I : MI σ} {M : PM σ} {R Rm : Rd} {W0 w w' : World} {A : Option Addr} {cap c b n : Nat} {s : St} {x : Nat} {t : σ} {L : List Nat}
theorem Solo.again (h : Solo I R W0 w A cap c b n s x t L) {τ : Type} {J : MI τ} {R2 : Rd} {y : Nat} {u : τ} {K : List Nat} (hm : J w y u K) (hr : R2.P w) (hB : ∀ k ∈ K, k ∈ R.B) (hR : ∀ k ∈ R2.B, k ∈ R.B) (hK : ∀ k ∈ K, k ∉ R2.B) (hup : ∀ k ∈ K, W0.heap.size ≤ k) : Solo J R2 W0 w A cap c b n s y u K :=
  ⟨h.mem, hm, hr, fun k hk => ⟨fun e => h.rfar.1 (e ▸ hB k hk), fun e => h.rfar.2 (e ▸ hB k hk), hK k hk⟩, ⟨fun hm => h.rfar.1 (hR _ hm), fun hm => h.rfar.2 (hR _ hm)⟩, ⟨h.up.1, h.up.2.1, hup⟩, fun k hk => h.rlt k (hR k hk), h.below⟩
end
theorem lit1_sees (w : World) (a : Int) : RI.SeesL (w.alloc (.cells #[.int .i64 a] 3)) (.slice (some ⟨w.heap.size, 0, none⟩) 1 1) [a] := by
  have hX := Blk.new w #[.int .i64 a] 3
  refine ⟨_, 1, rfl, (fun h => by cases h), fun _ => ⟨w.heap.size, 0, rfl, hX.lt, fun j hj => ?_⟩⟩
  have hj4 : j < 1 := hj
  obtain rfl : j = 0 := by omega
  exact hX.cell 0 rfl
theorem lit2_sees (w : World) (a b : Int) : RI.SeesL (w.alloc (.cells #[.int .i64 a, .int .i64 b] 3)) (.slice (some ⟨w.heap.size, 0, none⟩) 2 2) [a, b] := by
  have hX := Blk.new w #[.int .i64 a, .int .i64 b] 3
  refine ⟨_, 2, rfl, (fun h => by cases h), fun _ => ⟨w.heap.size, 0, rfl, hX.lt, fun j hj => ?_⟩⟩
  have hj4 : j < 2 := hj
  rcases (by omega : j = 0 ∨ j = 1) with rfl | rfl
  · exact hX.cell 0 rfl
  · exact hX.cell 1 rfl
theorem lit3_sees (w : World) (a b c : Int) : RI.SeesL (w.alloc (.cells #[.int .i64 a, .int .i64 b, .int .i64 c] 3)) (.slice (some ⟨w.heap.size, 0, none⟩) 3 3) [a, b, c] := by
  have hX := Blk.new w #[.int .i64 a, .int .i64 b, .int .i64 c] 3
  refine ⟨_, 3, rfl, (fun h => by cases h), fun _ => ⟨w.heap.size, 0, rfl, hX.lt, fun j hj => ?_⟩⟩
  have hj4 : j < 3 := hj
  rcases (by omega : j = 0 ∨ j = 1 ∨ j = 2) with rfl | rfl | rfl
  · exact hX.cell 0 rfl
  · exact hX.cell 1 rfl
  · exact hX.cell 2 rfl

section
variable {σ : Type} {I : MI σ} {M : PM σ} {R Rm : Rd} {W0 w w' : World} {A : Option Addr} {cap c b n : Nat} {s : St} {x : Nat} {t : σ} {L : List Nat}
theorem Solo.stepUp (hG : I.Good M) {F : Nat} {who : Int} (hS : Steps M I Rm F who) (hRm : ∀ w, R.P w → Rm.P w) (hRb : ∀ k ∈ Rm.B, k ∈ R.B) (h : Solo I R W0 w A cap c b n s x t L) (hn : n ≤ 1000000) (hl : Low s 1000000) :
    Calls Tryz.prog F #[.pointer (some ⟨x, 0, none⟩), .pointer (some ⟨c, 0, none⟩)] w fun e w' => (e = .returned (.bool (M.ax (M.goT n t s)).isNone)) ∧ w.heap.size ≤ w'.heap.size ∧ ∃ L', Solo I R W0 w' A cap c b n (M.goS who n t s) x (M.goT n t s) L' := by
  refine (hS w A cap c b n s x t L h.mach (hRm w h.rd) h.mem hn hl (fun k hk => ⟨(h.far k hk).1, (h.far k hk).2.1, fun hr => (h.far k hk).2.2 (hRb k hr)⟩) ⟨fun hr => h.rfar.1 (hRb c hr), fun hr => h.rfar.2 (hRb b hr)⟩).mono ?_
  rintro e w' ⟨rfl, L', a1, a2, a3, a4⟩
  have hsz := h.below.size
  have k1 := h.mem.lt
  have k2 := h.mem.bl
  refine ⟨rfl, a3.size, L', a2, a1, R.keep _ _ _ h.rd a3 (fun k hk => ?_), fun k hk => ?_, h.rfar, ⟨h.up.1, h.up.2.1, fun k hk => ?_⟩, fun k hk => Nat.lt_of_lt_of_le (h.rlt k hk) a3.size, h.below.trans (a3.below ?_ hsz)⟩
  · simp only [List.mem_cons, not_or]
    exact ⟨fun e => h.rfar.1 (e ▸ hk), fun e => h.rfar.2 (e ▸ hk), fun hm => (h.far k hm).2.2 hk⟩
  · rcases a4 k hk with h1 | h1
    · exact h.far k h1
    · exact ⟨by omega, by omega, fun hr => by have := h.rlt k hr; omega⟩
  · rcases a4 k hk with h1 | h1
    · exact h.up.2.2 k h1
    · omega
  · intro k hk
    simp only [List.mem_cons] at hk
    rcases hk with rfl | rfl | hk
    · exact h.up.1
    · exact h.up.2.1
    · exact h.up.2.2 k hk
end
theorem lit4b_sees (w : World) (a b c d : Int) : RI.SeesL (w.alloc (.cells #[.int .i64 a, .int .i64 b, .int .i64 c, .int .i64 d] 3)) (.slice (some ⟨w.heap.size, 0, none⟩) 4 4) [a, b, c, d] := by
  have hX := Blk.new w #[.int .i64 a, .int .i64 b, .int .i64 c, .int .i64 d] 3
  refine ⟨_, 4, rfl, (fun h => by cases h), fun _ => ⟨w.heap.size, 0, rfl, hX.lt, fun j hj => ?_⟩⟩
  have hj4 : j < 4 := hj
  rcases (by omega : j = 0 ∨ j = 1 ∨ j = 2 ∨ j = 3) with rfl | rfl | rfl | rfl
  · exact hX.cell 0 rfl
  · exact hX.cell 1 rfl
  · exact hX.cell 2 rfl
  · exact hX.cell 3 rfl
end Go.Proofs.YtcjidigpdecdlaaGreat
