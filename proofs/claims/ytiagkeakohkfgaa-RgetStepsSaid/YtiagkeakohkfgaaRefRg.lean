/- The reference's routine that gets from a ring keeps step with any machine that has it within it. -/
import Derived.Test.YtiagkeakohkfgaaRg2
namespace Go.Proofs.Ytiagkeakohkfgaa
open Go Go.RowKit
set_option linter.unusedVariables false
set_option maxRecDepth 100000
set_option linter.unusedSimpArgs false

theorem rgw_eq (v : Int) (h : 0 ≤ v ∧ v ≤ 18446744073709551615) : wrap64 (IntKind.i64.wrap v - 1) = gw v := by
  simp [gw, wrap64, IntKind.wrap, IntKind.bits, IntKind.signed]
  split <;> split <;> omega
theorem rgw_ne (v : Int) (h : 0 ≤ v ∧ v ≤ 18446744073709551615) (h0 : v ≠ 0) : gw v ≠ -1 := by
  unfold gw
  have e : IntKind.u64.wrap (v - 1) = v - 1 := wrap_u64 (by omega)
  rw [e]
  simp [IntKind.wrap, IntKind.bits, IntKind.signed]
  split <;> omega
structure RgIn {σ : Type} (M : PM σ) (P p : Int) (fr : Bool) (emb : RgT → σ) : Prop where
  nx : ∀ h w, M.ax (emb (.nx h w)) = some (axLd (wd 20 P 264 p 3))
  sn : ∀ h w, M.ax (emb (.sn h w)) = some (axSw (wd 20 P 264 p 3) w 0)
  hd : ∀ h w, M.ax (emb (.hd h w)) = some (axLd (wd 20 P 264 p 1))
  tl : ∀ h w, M.ax (emb (.tl h w)) = some (axLd (wd 20 P 264 p 2))
  rg : ∀ h w, M.ax (emb (.rg h w)) = some (axLd (wd 20 P 264 p (8 + h % 256)))
  sh : ∀ h w, M.ax (emb (.sh h w)) = some (axSw (wd 20 P 264 p 1) h ((h + 1) % 4294967296))
  n1 : ∀ h w v, M.nx (emb (.nx h w)) v = emb ((rgPM P p fr).nx (.nx h w) v)
  n2 : ∀ h w v, M.nx (emb (.sn h w)) v = emb ((rgPM P p fr).nx (.sn h w) v)
  n3 : ∀ h w v, M.nx (emb (.hd h w)) v = emb ((rgPM P p fr).nx (.hd h w) v)
  n4 : ∀ h w v, M.nx (emb (.tl h w)) v = emb ((rgPM P p fr).nx (.tl h w) v)
  n5 : ∀ h w v, M.nx (emb (.rg h w)) v = emb ((rgPM P p fr).nx (.rg h w) v)
  n6 : ∀ h w v, M.nx (emb (.sh h w)) v = emb ((rgPM P p fr).nx (.sh h w) v)
theorem rg_in (P p : Int) (fr : Bool) : RgIn (rgPM P p fr) P p fr (fun t => t) where
  nx := fun _ _ => rfl
  sn := fun _ _ => rfl
  hd := fun _ _ => rfl
  tl := fun _ _ => rfl
  rg := fun _ _ => rfl
  sh := fun _ _ => rfl
  n1 := fun _ _ _ => rfl
  n2 := fun _ _ _ => rfl
  n3 := fun _ _ _ => rfl
  n4 := fun _ _ _ => rfl
  n5 := fun _ _ _ => rfl
  n6 := fun _ _ _ => rfl
/-- Where a get stopped. -/
def RgQ {σ : Type} (Q : σ → Prop) (emb : RgT → σ) (q : σ) : Prop := Q q ∨ ∃ p', RgT.live p' = true ∧ q = emb p'
/-- The answers of swaps. -/
def SwOk {σ : Type} (M : PM σ) (s0 : σ) (g : Nat → Int) (m : Nat) : Prop := ∀ j, j < m → ∀ a, M.ax (M.run s0 g j) = some a → a.k = 3 → g j ≤ 1
theorem SwOk.one {σ : Type} {M : PM σ} {s0 t : σ} {g : Nat → Int} {m j : Nat} {Q : σ → Prop} {v : Int} {a : Ax} (h : SwOk M s0 g m) (hS : Syn M s0 g m j t Q) (ha : M.ax t = some a) (hk : a.k = 3) (hv : j < m → v = g j) (hz : m ≤ j → v = 0) (hb : 0 ≤ v) : v = 0 ∨ v = 1 := by
  by_cases hj : j < m
  · have := h j hj a (by rw [hS.at' (by omega)]; exact ha) hk
    rw [hv hj] at hb ⊢
    omega
  · exact .inl (hz (by omega))

/-- What the part that goes for the next one leaves. -/
def RgNext {σ : Type} (M : PM σ) (fr : Bool) (emb : RgT → σ) (w : World) (x : Nat) (A : Option Addr) (cap m : Nat) (g : Nat → Int) (s0 : σ) (Q : σ → Prop) (h : Int) (j : Nat) (e : Ending) (w' : World) : Prop := ∃ (j' : Nat) (w1 : Int) (z : Bool), e = .returned (.int .i64 (if z then gw w1 else -1)) ∧ (z = true → gw w1 ≠ -1) ∧ RunOn w' x A cap m g (M.rj s0 g m j') ∧ Syn M s0 g m j' (emb (if z then .over h w1 true (!fr) else if fr then .over h w1 false false else .hd h w1)) (RgQ Q emb) ∧ But [x] w w' ∧ j ≤ j'

section
variable {σ : Type} {M : PM σ} {P T G p : Int} {fr : Bool} {emb : RgT → σ} (hE : RgIn M P p fr emb) (hp : 0 ≤ p ∧ p < P) (hP : P ≤ 64) {w : World} {x : Nat} {A : Option Addr} {cap m : Nat} {g : Nat → Int} {s0 : σ} {Q : σ → Prop}
include hE hp hP
set_option maxHeartbeats 2000000 in
theorem syn_rgnext {j : Nat} {h wv : Int} (hR : RunOn w x A cap m g (M.rj s0 g m j)) (hS : Syn M s0 g m j (emb (.nx h wv)) (RgQ Q emb)) (hb : ∀ j, j < m → 0 ≤ g j ∧ g j ≤ 18446744073709551615) (hsw : SwOk M s0 g m) :
    Calls Try.prog 96 #[.pointer (some ⟨x, 0, none⟩), .agg #[.int .i64 P, .int .i64 T, .int .i64 G], .int .i64 p] w fun e w' => RgNext M fr emb w x A cap m g s0 Q h j e w' := by
  have hb0 : Below w.heap.size w (w.alloc (.cells #[.int .i64 P, .int .i64 T, .int .i64 G] 43)) := (Below.refl _ _).alloc (Nat.le_refl _) _
  have HX : Hid (Blk (w.alloc (.cells #[.int .i64 P, .int .i64 T, .int .i64 G] 43)) w.heap.size #[.int .i64 P, .int .i64 T, .int .i64 G] 43) := Blk.new _ _ _
  have hxw := hR.blk.lt
  have HB0 : Hid (But [x] w (w.alloc (.cells #[.int .i64 P, .int .i64 T, .int .i64 G] 43))) := But.of_below hb0
  have hPA := rprcAt_any P T G p 3 (w.alloc (.cells #[.int .i64 P, .int .i64 T, .int .i64 G] 43)) hp hP (by omega)
  have HE : Hid (RgIn M P p fr emb) := hE
  have HBD : Hid (∀ j, j < m → 0 ≤ g j ∧ g j ≤ 18446744073709551615) := hb
  have HSW : Hid (SwOk M s0 g m) := hsw
  have HL : Hid (∀ Y, Below (w.alloc (.cells #[.int .i64 P, .int .i64 T, .int .i64 G] 43)).heap.size (w.alloc (.cells #[.int .i64 P, .int .i64 T, .int .i64 G] 43)) Y → Calls Try.prog 97 #[.pointer (some ⟨x, 0, none⟩), .int .i64 (wd 20 P 264 p 3)] Y fun e w' => ∃ v, e = .returned (.int .u64 v) ∧ Kept' Y w' x A cap m g M s0 j (emb (.nx h wv)) (RgQ Q emb) v) := fun Y hY => syn_load ((hR.below hb0).below hY) hS hb _ (fun _ => hE.nx h wv)
  have e3 := hE.sn
  clear hR hS hE hb hb0 hp hP hsw
  generalize hat : wd 20 P 264 p 3 = at' at *
  go_enter Try.func96, Try.ntmps96
  go_wp2_with fail
  generalize w.alloc (.cells #[.int .i64 P, .int .i64 T, .int .i64 G] 43) = W at *
  go_at_call 98; refine hPA.mono ?_; rintro e y1 ⟨rfl, h1⟩
  have hL := HL.out y1 h1
  have HB1 : Hid (But [x] w y1) := HB0.out.trans (But.of_below h1)
  clear hPA HL h1 HB0 HX
  go_wp2_with fail
  go_at_call 97; refine hL.mono ?_; rintro e y2 ⟨v, rfl, hK⟩
  have hvb := hK.bd
  have HR2 : Hid (RunOn y2 x A cap m g (M.rj s0 g m (j + 1))) := hK.run
  have HS2 : Hid (Syn M s0 g m (j + 1) (emb ((rgPM P p fr).nx (.nx h wv) v)) (RgQ Q emb)) := by
    have := hK.syn
    rw [HE.out.n1] at this
    exact this.weak (fun r hr => by rcases hr with rfl | hr; exact .inr ⟨.nx h wv, rfl, rfl⟩; exact hr)
  have HB2 : Hid (But [x] w y2) := HB1.out.trans hK.but
  clear hL hK HB1
  by_cases h0 : v = 0
  · subst h0
    go_wp2_with fail
    go_ret
    exact ⟨j + 1, wv, false, rfl, (fun h => by cases h), HR2.out, HS2.out, HB2.out, Nat.le_succ j⟩
  · have hd0 : (v == 0) = false := by simpa using h0
    have hd1 : (v != 0) = true := by simpa using h0
    have HS3 : Hid (Syn M s0 g m (j + 1) (emb (.sn h v)) (RgQ Q emb)) := HS2.out.as (fun _ => by rw [show (rgPM P p fr).nx (.nx h wv) v = .sn h v from if_neg h0])
    have hSw := syn_swap HR2.out HS3.out HBD.out at' v 0 (fun _ => e3 h v)
    have eg := rgw_eq v hvb
    have en := rgw_ne v hvb h0
    go_wp2_with fail
    go_at_call 101; refine hSw.mono ?_; rintro e y3 ⟨u, rfl, hK⟩
    have hu := HSW.out.one HS3.out (e3 h v) rfl hK.val hK.zero hK.bd.1
    have HR3 : Hid (RunOn y3 x A cap m g (M.rj s0 g m (j + 1 + 1))) := hK.run
    have HS4 : Hid (Syn M s0 g m (j + 1 + 1) (emb ((rgPM P p fr).nx (.sn h v) u)) (RgQ Q emb)) := by
      have := hK.syn
      rw [HE.out.n2] at this
      exact this.weak (fun r hr => by rcases hr with rfl | hr; exact .inr ⟨.sn h v, rfl, rfl⟩; exact hr)
    have HB3 : Hid (But [x] w y3) := HB2.out.trans hK.but
    clear hSw hK HS3 HS2 HR2 HB2
    rcases hu with rfl | rfl
    · have hz : decide ((0 : Int) = 1) = false := by decide
      go_wp2_with fail
      go_ret
      exact ⟨j + 1 + 1, v, false, rfl, (fun h => by cases h), HR3.out, HS4.out, HB3.out, by omega⟩
    · have hz : decide ((1 : Int) = 1) = true := by decide
      generalize hvv : IntKind.i64.wrap v = v' at *
      go_wp2_with fail
      go_ret
      exact ⟨j + 1 + 1, v, true, by rw [if_pos rfl, ← eg]; rfl, (fun _ => en), HR3.out, HS4.out, HB3.out, by omega⟩
end

/-- What the routine that gets from a ring leaves. -/
def RgGot {σ : Type} (M : PM σ) (emb : RgT → σ) (w : World) (x : Nat) (A : Option Addr) (cap m : Nat) (g : Nat → Int) (s0 : σ) (Q : σ → Prop) (j : Nat) (e : Ending) (w' : World) : Prop := ∃ (a : Int) (i : Bool) (j' : Nat) (t' : RgT), e = .returned (.agg #[.int .i64 a, .bool i]) ∧ RunOn w' x A cap m g (M.rj s0 g m j') ∧ Syn M s0 g m j' (emb t') (RgQ Q emb) ∧ t'.live = false ∧ (j' ≤ m → a = t'.obs ∧ i = t'.ih) ∧ But [x] w w' ∧ j ≤ j'
def rgLeft (m x : Nat) (w : World) : Nat := match w.cell? ⟨x, 1, none⟩, w.cell? ⟨x, 2, none⟩ with
  | some (.int _ u), some (.bool st) => (m - u.toNat) + (if st = true then 0 else 1)
  | _, _ => 0
theorem RunOn.rgleft {w : World} {x : Nat} {A : Option Addr} {cap m : Nat} {g : Nat → Int} {r : Rn} (h : RunOn w x A cap m g r) : rgLeft m x w = (m - r.used) + (if r.stop = true then 0 else 1) := by
  unfold rgLeft
  rw [h.blk.cell 1 (v := .int .i64 r.used) rfl, h.blk.cell 2 (v := .bool r.stop) rfl]
  simp
/-- A routine that keeps step: how many rounds it may take. -/
theorem rgj_left {w : World} {x : Nat} {A : Option Addr} {cap m : Nat} {g : Nat → Int} {σ : Type} {M : PM σ} {s0 t : σ} {j : Nat} {Q : σ → Prop} (h : RunOn w x A cap m g (M.rj s0 g m j)) (hS : Syn M s0 g m j t Q) : rgLeft m x w = m + 1 - j := by
  rw [h.rgleft]
  rw [rj_stop hS]
  by_cases hj : j ≤ m
  · have : (M.rj s0 g m j).used = j := by unfold PM.rj; rw [if_pos hj]
    rw [this]
    simp [show ¬ m < j by omega]
    omega
  · have : (M.rj s0 g m j).used = m := by unfold PM.rj; rw [if_neg hj]; unfold PM.rn; cases M.ax (M.run s0 g m) <;> rfl
    rw [this]
    simp [show m < j by omega]
    omega

theorem got_put {w v1 : World} {x B : Nat} {A : Option Addr} {cap m : Nat} {g : Nat → Int} {r : Rn} {a0 : Int} {b0 : Bool} (hY : Blk v1 B #[.int .i64 a0, .bool b0] 86) (hR : RunOn v1 x A cap m g r) (hB : But [x] w v1) (hx : x ≠ B) (hw : w.heap.size ≤ B) (hf : GotFar A [B]) (a : Int) (i : Bool) :
    Blk ((v1.setCell ⟨B, 0, none⟩ (.int .i64 a)).setCell ⟨B, 1, none⟩ (.bool i)) B #[.int .i64 a, .bool i] 86 ∧ RunOn ((v1.setCell ⟨B, 0, none⟩ (.int .i64 a)).setCell ⟨B, 1, none⟩ (.bool i)) x A cap m g r ∧ But [x] w ((v1.setCell ⟨B, 0, none⟩ (.int .i64 a)).setCell ⟨B, 1, none⟩ (.bool i)) := by
  refine ⟨(hY.set 0 (.int .i64 a)).set 1 (.bool i), ?_, (hB.set (g := B) (.inr hw) 0 _).set (g := B) (.inr hw) 1 _⟩
  exact hR.but (((But.refl [B] v1).set (g := B) (.inl (by simp)) 0 _).set (g := B) (.inl (by simp)) 1 _) (by simpa using hx) hf
section
variable {σ : Type} {M : PM σ} {P T G p : Int} {fr : Bool} {emb : RgT → σ} (hE : RgIn M P p fr emb) (hp : 0 ≤ p ∧ p < P) (hP : P ≤ 64) {w : World} {x : Nat} {A : Option Addr} {cap m : Nat} {g : Nat → Int} {s0 : σ} {Q : σ → Prop}
include hE hp hP
set_option maxHeartbeats 8000000 in
theorem syn_rget {j : Nat} {h0 w0 : Int} (hR : RunOn w x A cap m g (M.rj s0 g m j)) (hS : Syn M s0 g m j (emb (if fr then .hd h0 w0 else .nx h0 w0)) Q) (hb : ∀ j, j < m → 0 ≤ g j ∧ g j ≤ 18446744073709551615) (hsw : SwOk M s0 g m) :
    Calls Try.prog 43 #[.pointer (some ⟨x, 0, none⟩), .agg #[.int .i64 P, .int .i64 T, .int .i64 G], .int .i64 p, .bool fr] w fun e w' => RgGot M emb w x A cap m g s0 Q j e w' := by
  have hb0 : Below w.heap.size w ((w.alloc (.cells #[.int .i64 P, .int .i64 T, .int .i64 G] 43)).alloc (.cells #[.int .i64 0, .bool false] 86)) := ((Below.refl _ _).alloc (Nat.le_refl _) _).alloc (by simp) _
  have HX : Hid (Blk ((w.alloc (.cells #[.int .i64 P, .int .i64 T, .int .i64 G] 43)).alloc (.cells #[.int .i64 0, .bool false] 86)) w.heap.size #[.int .i64 P, .int .i64 T, .int .i64 G] 43) := (Blk.new _ _ _).al _
  have HY : Hid (Blk ((w.alloc (.cells #[.int .i64 P, .int .i64 T, .int .i64 G] 43)).alloc (.cells #[.int .i64 0, .bool false] 86)) (w.heap.size + 1) #[.int .i64 0, .bool false] 86) := by
    have := Blk.new (w.alloc (.cells #[.int .i64 P, .int .i64 T, .int .i64 G] 43)) #[.int .i64 0, .bool false] 86
    rw [show (w.alloc (.cells #[.int .i64 P, .int .i64 T, .int .i64 G] 43)).heap.size = w.heap.size + 1 by simp] at this
    exact this
  have hxw := hR.blk.lt
  have HB0 : Hid (But [x] w ((w.alloc (.cells #[.int .i64 P, .int .i64 T, .int .i64 G] 43)).alloc (.cells #[.int .i64 0, .bool false] 86))) := But.of_below hb0
  have HR0 : Hid (RunOn ((w.alloc (.cells #[.int .i64 P, .int .i64 T, .int .i64 G] 43)).alloc (.cells #[.int .i64 0, .bool false] 86)) x A cap m g (M.rj s0 g m j)) := hR.below hb0
  have HS0 : Hid (Syn M s0 g m j (emb (if fr then .hd h0 w0 else .nx h0 w0)) (RgQ Q emb)) := hS.weak (fun r hr => .inl hr)
  have HPA : Hid (∀ Y f, 0 ≤ f ∧ f < 8 → Calls Try.prog 98 #[.agg #[.int .i64 P, .int .i64 T, .int .i64 G], .int .i64 p, .int .i64 f] Y fun e w' => e = .returned (.int .i64 (wd 20 P 264 p f)) ∧ Below Y.heap.size Y w') := fun Y f hf => rprcAt_any P T G p f Y hp hP hf
  have HRA : Hid (∀ Y i, 0 ≤ i ∧ i ≤ 18446744073709551615 → Calls Try.prog 100 #[.agg #[.int .i64 P, .int .i64 T, .int .i64 G], .int .i64 p, .int .u64 i] Y fun e w' => e = .returned (.int .i64 (wd 20 P 264 p (8 + i % 256))) ∧ Below Y.heap.size Y w') := fun Y i hi => rrngAt_any P T G p i Y hp hP hi
  have HNX : Hid (∀ (Y : World) (j : Nat) (h wv : Int), RunOn Y x A cap m g (M.rj s0 g m j) → Syn M s0 g m j (emb (.nx h wv)) (RgQ Q emb) → Calls Try.prog 96 #[.pointer (some ⟨x, 0, none⟩), .agg #[.int .i64 P, .int .i64 T, .int .i64 G], .int .i64 p] Y fun e w' => RgNext M fr emb Y x A cap m g s0 Q h j e w') := fun Y j h wv h1 h2 => syn_rgnext hE hp hP h1 h2 hb hsw
  have HE : Hid (RgIn M P p fr emb) := hE
  have HBD : Hid (∀ j, j < m → 0 ≤ g j ∧ g j ≤ 18446744073709551615) := hb
  have HSW : Hid (SwOk M s0 g m) := hsw
  have HGF : Hid (GotFar A [w.heap.size + 1]) := fun b e hb => by
    rcases hR.got.form with ⟨e0, _⟩ | ⟨gb, e0, hl⟩
    · rw [e0] at e; cases e
    · rw [e0] at e; cases e; simp at hb; omega
  clear hR hS hE hb hb0 hp hP hsw
  go_enter Try.func43, Try.ntmps43
  cases fr with
  | true =>
    have HST : Hid (Syn M s0 g m j (emb (.hd h0 w0)) (RgQ Q emb)) := by have := HS0.out; rw [if_pos rfl] at this; exact this
    clear HS0
    go_wp2_with fail
    generalize (w.alloc (.cells #[.int .i64 P, .int .i64 T, .int .i64 G] 43)).alloc (.cells #[.int .i64 0, .bool false] 86) = W at *
    go_loopw [10] (fun _ wr => ∃ (k : Nat) (h wv : Int), Hid (RunOn wr x A cap m g (M.rj s0 g m k)) ∧ Hid (Syn M s0 g m k (emb (.hd h wv)) (RgQ Q emb)) ∧ Hid (But [x] w wr) ∧ Hid (j ≤ k) ∧ Hid (Blk wr w.heap.size #[.int .i64 P, .int .i64 T, .int .i64 G] 43) ∧ Hid (Blk wr (w.heap.size + 1) #[.int .i64 0, .bool false] 86)) (fun _ wr => rgLeft m x wr)
    case atStart => exact ⟨j, _, _, HR0, HST, HB0, (Nat.le_refl j : j ≤ j), HX, HY⟩
    case round =>
      clear HR0 HST HB0 HX HY
      obtain ⟨k, h, wv, HR, HS, HB, HJ, HX, HY⟩ := hrel
      have c2 := HR.out.blk.cell 2 (v := .bool (M.rj s0 g m k).stop) rfl
      rw [rj_stop HS.out] at c2
      by_cases hk : m < k
      · rw [decide_eq_true hk] at c2
        have HX9 : Hid (m < k) := hk
        have HP := got_put HY.out HR.out HB.out (by omega) (by omega) HGF.out (-1) false
        have HRB : Hid (Blk _ _ _ _) := HP.1
        have HF : Hid (RgGot M emb w x A cap m g s0 Q j (.returned (.agg #[.int .i64 (-1), .bool false])) _) := ⟨_, _, k, (.over 0 0 false false), rfl, HP.2.1, HS.out.as (fun h => absurd HX9.out (by omega)), rfl, fun h => absurd HX9.out (by omega), HP.2.2, HJ.out⟩
        have r0 := HY.out.cell 0 (v := .int .i64 0) rfl
        have r1 := HY.out.cell 1 (v := .bool false) rfl
        have f0 := HY.out.fro 0
        have f1 := HY.out.fro 1
        have hrl := HY.out.lt
        clear HP
        clear hk
        go_wp2_with fail
        exact bodyPost_ret (v := .agg #[.int .i64 (-1), .bool false]) (results_cell_row rfl _ _ (w.heap.size + 1) 86 #[.int .i64 (-1), .bool false] (0, 0) _ rfl HRB.out.heap Try.underlying86 rfl (by kernel_rfl)) rfl HF.out
      · rw [decide_eq_false hk] at c2
        have HXX : Hid (k ≤ m) := (by omega : k ≤ m)
        have HLF : Hid (rgLeft m x wr = m + 1 - k) := rgj_left HR.out HS.out
        have y0 := HX.out.cell 0 (v := .int .i64 P) rfl
        have y1 := HX.out.cell 1 (v := .int .i64 T) rfl
        have y2 := HX.out.cell 2 (v := .int .i64 G) rfl
        have hP1 := HPA.out wr 1 (by omega)
        clear hk
        go_wp2_with fail
        go_at_call 98; refine hP1.mono ?_; rintro e a1 ⟨rfl, g1⟩
        have hL1 := syn_load (HR.out.below g1) HS.out HBD.out (wd 20 P 264 p 1) (fun _ => HE.out.hd h wv)
        have HB1 : Hid (But [x] w a1) := HB.out.trans (But.of_below g1)
        have HX1 : Hid (Blk a1 w.heap.size #[.int .i64 P, .int .i64 T, .int .i64 G] 43) := HX.out.but (But.of_below (l := []) g1) (by simp)
        have HY1 : Hid (Blk a1 (w.heap.size + 1) #[.int .i64 0, .bool false] 86) := HY.out.but (But.of_below (l := []) g1) (by simp)
        clear hP1 g1 HB HX HY HR c2 y0 y1 y2
        go_wp2_with fail
        go_at_call 97; refine hL1.mono ?_; rintro e a2 ⟨hv, rfl, hK⟩
        have hvb := hK.bd
        have HR2 : Hid (RunOn a2 x A cap m g (M.rj s0 g m (k + 1))) := hK.run
        have HS2 : Hid (Syn M s0 g m (k + 1) (emb (.tl hv wv)) (RgQ Q emb)) := by
          have := hK.syn
          rw [HE.out.n3] at this
          exact this.weak (fun r hr => by rcases hr with rfl | hr; exact .inr ⟨.hd h wv, rfl, rfl⟩; exact hr)
        have HB2 : Hid (But [x] w a2) := HB1.out.trans hK.but
        have HX2 : Hid (Blk a2 w.heap.size #[.int .i64 P, .int .i64 T, .int .i64 G] 43) := HX1.out.but hK.but (by simp; omega)
        have HY2 : Hid (Blk a2 (w.heap.size + 1) #[.int .i64 0, .bool false] 86) := HY1.out.but hK.but (by simp; omega)
        have y0 := HX2.out.cell 0 (v := .int .i64 P) rfl
        have y1 := HX2.out.cell 1 (v := .int .i64 T) rfl
        have y2 := HX2.out.cell 2 (v := .int .i64 G) rfl
        have hP2 := HPA.out a2 2 (by omega)
        clear hL1 hK HB1 HX1 HY1 HS
        go_wp2_with fail
        go_at_call 98; refine hP2.mono ?_; rintro e a3 ⟨rfl, g3⟩
        have hL3 := syn_load (HR2.out.below g3) HS2.out HBD.out (wd 20 P 264 p 2) (fun _ => HE.out.tl hv wv)
        have HB3 : Hid (But [x] w a3) := HB2.out.trans (But.of_below g3)
        have HX3 : Hid (Blk a3 w.heap.size #[.int .i64 P, .int .i64 T, .int .i64 G] 43) := HX2.out.but (But.of_below (l := []) g3) (by simp)
        have HY3 : Hid (Blk a3 (w.heap.size + 1) #[.int .i64 0, .bool false] 86) := HY2.out.but (But.of_below (l := []) g3) (by simp)
        clear hP2 g3 HB2 HX2 HY2 HR2 y0 y1 y2
        go_wp2_with fail
        go_at_call 97; refine hL3.mono ?_; rintro e a4 ⟨tv, rfl, hK⟩
        have htb := hK.bd
        have HR : Hid (RunOn a4 x A cap m g (M.rj s0 g m (k + 1 + 1))) := hK.run
        have HS4 : Hid (Syn M s0 g m (k + 1 + 1) (emb ((rgPM P p true).nx (.tl hv wv) tv)) (RgQ Q emb)) := by
          have := hK.syn
          rw [HE.out.n4] at this
          exact this.weak (fun r hr => by rcases hr with rfl | hr; exact .inr ⟨.tl hv wv, rfl, rfl⟩; exact hr)
        have HB : Hid (But [x] w a4) := HB3.out.trans hK.but
        have HX : Hid (Blk a4 w.heap.size #[.int .i64 P, .int .i64 T, .int .i64 G] 43) := HX3.out.but hK.but (by simp; omega)
        have HY : Hid (Blk a4 (w.heap.size + 1) #[.int .i64 0, .bool false] 86) := HY3.out.but hK.but (by simp; omega)
        have s4 := HR.out.blk.cell 2 (v := .bool (M.rj s0 g m (k + 1 + 1)).stop) rfl
        rw [rj_stop HS4.out] at s4
        clear hL3 hK HB3 HX3 HY3 HS2
        by_cases hm4 : m < k + 1 + 1
        · rw [decide_eq_true hm4] at s4
          have HX9 : Hid (m < k + 1 + 1) := hm4
          have HP := got_put HY.out HR.out HB.out (by omega) (by omega) HGF.out (-1) false
          have HRB : Hid (Blk _ _ _ _) := HP.1
          have HF : Hid (RgGot M emb w x A cap m g s0 Q j (.returned (.agg #[.int .i64 (-1), .bool false])) _) := ⟨_, _, k + 1 + 1, (.over 0 0 false false), rfl, HP.2.1, HS4.out.as (fun h => absurd HX9.out (by omega)), rfl, fun h => absurd HX9.out (by omega), HP.2.2, (by have := HJ.out; omega)⟩
          have r0 := HY.out.cell 0 (v := .int .i64 0) rfl
          have r1 := HY.out.cell 1 (v := .bool false) rfl
          have f0 := HY.out.fro 0
          have f1 := HY.out.fro 1
          have hrl := HY.out.lt
          clear HP
          clear hm4
          go_wp2_with fail
          exact bodyPost_ret (v := .agg #[.int .i64 (-1), .bool false]) (results_cell_row rfl _ _ (w.heap.size + 1) 86 #[.int .i64 (-1), .bool false] (0, 0) _ rfl HRB.out.heap Try.underlying86 rfl (by kernel_rfl)) rfl HF.out
        · rw [decide_eq_false hm4] at s4
          have hMn := rmny_any hv tv a4 hvb htb
          clear hm4
          go_wp2_with fail
          go_at_call 99; refine hMn.mono ?_; rintro e a5 ⟨rfl, rfl⟩
          clear hMn s4
          by_cases hmz : (tv - hv) % 4294967296 = 0
          · have hq : ((tv - hv) % 4294967296 == 0) = true := by simpa using hmz
            rw [hmz]
            have HS5 : Hid (Syn M s0 g m (k + 1 + 1) (emb (.nx hv wv)) (RgQ Q emb)) := HS4.out.as (fun _ => by rw [show (rgPM P p true).nx (.tl hv wv) tv = .nx hv wv from if_neg (by omega)])
            have hN := HNX.out a4 _ hv wv HR.out HS5.out
            have y0 := HX.out.cell 0 (v := .int .i64 P) rfl
            have y1 := HX.out.cell 1 (v := .int .i64 T) rfl
            have y2 := HX.out.cell 2 (v := .int .i64 G) rfl
            clear HS4 hq hmz
            go_wp2_with fail
            go_at_call 96; refine hN.mono ?_; rintro e a5 ⟨j1, w1, z, rfl, hz1, hR1, hS1, hB1, hj1⟩
            have HR1 : Hid _ := hR1
            have HB1 : Hid (But [x] w a5) := HB.out.trans hB1
            have HY1 : Hid (Blk a5 (w.heap.size + 1) #[.int .i64 0, .bool false] 86) := HY.out.but hB1 (by simp; omega)
            have HJ1 : Hid (j ≤ j1) := (by have := HJ.out; omega : j ≤ j1)
            have HS1 : Hid (Syn M s0 g m j1 (emb (.over hv w1 z false)) (RgQ Q emb)) := by cases z <;> exact hS1
            have HEG : Hid ((if z = true then gw w1 else -1) = (RgT.over hv w1 z false).obs) := (by cases z <;> rfl : (if z = true then gw w1 else -1) = (RgT.over hv w1 z false).obs)
            generalize (if z = true then gw w1 else -1) = ga at *
            clear hN hR1 hB1 HX HY HB HR y0 y1 y2 hj1 hz1 hS1
            have HP := got_put HY1.out HR1.out HB1.out (by omega) (by omega) HGF.out ga false
            have HRB : Hid (Blk _ _ _ _) := HP.1
            have HF : Hid (RgGot M emb w x A cap m g s0 Q j (.returned (.agg #[.int .i64 ga, .bool false])) _) := ⟨_, _, j1, (.over hv w1 z false), rfl, HP.2.1, HS1.out, rfl, fun _ => ⟨HEG.out, rfl⟩, HP.2.2, HJ1.out⟩
            have r0 := HY1.out.cell 0 (v := .int .i64 0) rfl
            have r1 := HY1.out.cell 1 (v := .bool false) rfl
            have f0 := HY1.out.fro 0
            have f1 := HY1.out.fro 1
            have hrl := HY1.out.lt
            clear HP
            go_wp2_with fail
            exact bodyPost_ret (v := .agg #[.int .i64 (ga), .bool false]) (results_cell_row rfl _ _ (w.heap.size + 1) 86 #[.int .i64 (ga), .bool false] (0, 0) _ rfl HRB.out.heap Try.underlying86 rfl (by kernel_rfl)) rfl HF.out
          · have hq : ((tv - hv) % 4294967296 == 0) = false := by simpa using hmz
            have hqd : decide ((tv - hv) % 4294967296 = 0) = false := decide_eq_false hmz
            have HS5 : Hid (Syn M s0 g m (k + 1 + 1) (emb (.rg hv wv)) (RgQ Q emb)) := HS4.out.as (fun _ => by rw [show (rgPM P p true).nx (.tl hv wv) tv = .rg hv wv from if_pos (by omega)])
            have y0 := HX.out.cell 0 (v := .int .i64 P) rfl
            have y1 := HX.out.cell 1 (v := .int .i64 T) rfl
            have y2 := HX.out.cell 2 (v := .int .i64 G) rfl
            have hRg := HRA.out a4 hv hvb
            generalize (tv - hv) % 4294967296 = mm at *
            clear HS4 hmz
            go_wp2_with fail
            go_at_call 100; refine hRg.mono ?_; rintro e a5 ⟨rfl, g5⟩
            have hL5 := syn_load (HR.out.below g5) HS5.out HBD.out (wd 20 P 264 p (8 + hv % 256)) (fun _ => HE.out.rg hv wv)
            have HB5 : Hid (But [x] w a5) := HB.out.trans (But.of_below g5)
            have HX5 : Hid (Blk a5 w.heap.size #[.int .i64 P, .int .i64 T, .int .i64 G] 43) := HX.out.but (But.of_below (l := []) g5) (by simp)
            have HY5 : Hid (Blk a5 (w.heap.size + 1) #[.int .i64 0, .bool false] 86) := HY.out.but (But.of_below (l := []) g5) (by simp)
            clear hRg g5 HB HX HY HR y0 y1 y2 hq hqd
            go_wp2_with fail
            go_at_call 97; refine hL5.mono ?_; rintro e a6 ⟨v, rfl, hK⟩
            have hwb := hK.bd
            have HR6 : Hid (RunOn a6 x A cap m g (M.rj s0 g m (k + 1 + 1 + 1))) := hK.run
            have HS6 : Hid (Syn M s0 g m (k + 1 + 1 + 1) (emb (.sh hv v)) (RgQ Q emb)) := by
              have := hK.syn
              rw [HE.out.n5] at this
              exact this.weak (fun r hr => by rcases hr with rfl | hr; exact .inr ⟨.rg hv wv, rfl, rfl⟩; exact hr)
            have HB6 : Hid (But [x] w a6) := HB5.out.trans hK.but
            have HX6 : Hid (Blk a6 w.heap.size #[.int .i64 P, .int .i64 T, .int .i64 G] 43) := HX5.out.but hK.but (by simp; omega)
            have HY6 : Hid (Blk a6 (w.heap.size + 1) #[.int .i64 0, .bool false] 86) := HY5.out.but hK.but (by simp; omega)
            have y0 := HX6.out.cell 0 (v := .int .i64 P) rfl
            have y1 := HX6.out.cell 1 (v := .int .i64 T) rfl
            have y2 := HX6.out.cell 2 (v := .int .i64 G) rfl
            have hP6 := HPA.out a6 1 (by omega)
            obtain ⟨za, hza⟩ : ∃ za, IntKind.u64.wrap (hv + 1) = za := ⟨_, rfl⟩
            have hza0 : 0 ≤ za ∧ za ≤ 18446744073709551615 := by rw [← hza]; simp [IntKind.wrap, IntKind.bits, IntKind.signed] <;> omega
            have e1 : za.tmod 4294967296 = (hv + 1) % 4294967296 := by
              rw [Int.tmod_eq_emod_of_nonneg hza0.1, ← hza]; simp [IntKind.wrap, IntKind.bits, IntKind.signed] <;> omega
            have e2 : IntKind.u64.wrap ((hv + 1) % 4294967296) = (hv + 1) % 4294967296 := wrap_u64 (by omega)
            have HNE : Hid (za.tmod 4294967296 = (hv + 1) % 4294967296) := e1
            clear hL5 hK HB5 HX5 HY5 HS5
            go_wp2_with fail
            go_at_call 98; refine hP6.mono ?_; rintro e a7 ⟨rfl, g7⟩
            have hL7 := syn_swap (HR6.out.below g7) HS6.out HBD.out (wd 20 P 264 p 1) hv ((hv + 1) % 4294967296) (fun _ => HE.out.sh hv v)
            have HB7 : Hid (But [x] w a7) := HB6.out.trans (But.of_below g7)
            have HX7 : Hid (Blk a7 w.heap.size #[.int .i64 P, .int .i64 T, .int .i64 G] 43) := HX6.out.but (But.of_below (l := []) g7) (by simp)
            have HY7 : Hid (Blk a7 (w.heap.size + 1) #[.int .i64 0, .bool false] 86) := HY6.out.but (But.of_below (l := []) g7) (by simp)
            have eg := rgw_eq v hwb
            clear hP6 g7 HB6 HX6 HY6 HR6 y0 y1 y2
            go_wp2_with fail
            go_at_call 101; refine hL7.mono ?_; rintro e a8 ⟨u, rfl, hK⟩
            have hu := HSW.out.one HS6.out (HE.out.sh hv v) rfl hK.val hK.zero hK.bd.1
            have HR : Hid (RunOn a8 x A cap m g (M.rj s0 g m (k + 1 + 1 + 1 + 1))) := hK.run
            have HS8 : Hid (Syn M s0 g m (k + 1 + 1 + 1 + 1) (emb ((rgPM P p true).nx (.sh hv v) u)) (RgQ Q emb)) := by
              have := hK.syn
              rw [HE.out.n6] at this
              exact this.weak (fun r hr => by rcases hr with rfl | hr; exact .inr ⟨.sh hv v, rfl, rfl⟩; exact hr)
            have HB : Hid (But [x] w a8) := HB7.out.trans hK.but
            have HX : Hid (Blk a8 w.heap.size #[.int .i64 P, .int .i64 T, .int .i64 G] 43) := HX7.out.but hK.but (by simp; omega)
            have HY : Hid (Blk a8 (w.heap.size + 1) #[.int .i64 0, .bool false] 86) := HY7.out.but hK.but (by simp; omega)
            clear hL7 hK HB7 HX7 HY7 HS6 e1 e2 HNE hza hza0
            rcases hu with rfl | rfl
            · have hz : decide ((0 : Int) = 1) = false := by decide
              clear eg
              go_wp2_with fail
              go_roundw
              case rel => exact ⟨k + 1 + 1 + 1 + 1, hv, v, HR, HS8, HB, (by have := HJ.out; omega : j ≤ k + 1 + 1 + 1 + 1), HX, HY⟩
              case measure => have hx := HXX.out; rw [rgj_left HR.out HS8.out, HLF.out]; omega
            · have hz : decide ((1 : Int) = 1) = true := by decide
              have HP := got_put HY.out HR.out HB.out (by omega) (by omega) HGF.out (gw v) false
              have HRB : Hid (Blk _ _ _ _) := HP.1
              have HF : Hid (RgGot M emb w x A cap m g s0 Q j (.returned (.agg #[.int .i64 (gw v), .bool false])) _) := ⟨_, _, k + 1 + 1 + 1 + 1, (.over hv v true false), rfl, HP.2.1, HS8.out, rfl, fun _ => ⟨rfl, rfl⟩, HP.2.2, (by have := HJ.out; omega)⟩
              have r0 := HY.out.cell 0 (v := .int .i64 0) rfl
              have r1 := HY.out.cell 1 (v := .bool false) rfl
              have f0 := HY.out.fro 0
              have f1 := HY.out.fro 1
              have hrl := HY.out.lt
              clear HP
              generalize hvv : IntKind.i64.wrap v = v' at *
              rw [← eg] at HRB HF
              clear eg
              go_wp2_with fail
              exact bodyPost_ret (v := .agg #[.int .i64 (wrap64 (v' - 1)), .bool false]) (results_cell_row rfl _ _ (w.heap.size + 1) 86 #[.int .i64 (wrap64 (v' - 1)), .bool false] (0, 0) _ rfl HRB.out.heap Try.underlying86 rfl (by kernel_rfl)) rfl HF.out
  | false =>
    have HST : Hid (Syn M s0 g m j (emb (.nx h0 w0)) (RgQ Q emb)) := by have := HS0.out; rw [if_neg (by decide)] at this; exact this
    have hN := HNX.out _ j h0 w0 HR0.out HST.out
    clear HS0
    have y0 := HX.out.cell 0 (v := .int .i64 P) rfl
    have y1 := HX.out.cell 1 (v := .int .i64 T) rfl
    have y2 := HX.out.cell 2 (v := .int .i64 G) rfl
    go_wp2_with fail
    generalize (w.alloc (.cells #[.int .i64 P, .int .i64 T, .int .i64 G] 43)).alloc (.cells #[.int .i64 0, .bool false] 86) = W at *
    go_at_call 96; refine hN.mono ?_; rintro e v1 ⟨j1, w1, z, rfl, hz1, hR1, hS1, hB1, hj1⟩
    have HR1 : Hid _ := hR1
    have HB1 : Hid (But [x] w v1) := HB0.out.trans hB1
    have HX1 : Hid (Blk v1 w.heap.size #[.int .i64 P, .int .i64 T, .int .i64 G] 43) := HX.out.but hB1 (by simp; omega)
    have HY1 : Hid (Blk v1 (w.heap.size + 1) #[.int .i64 0, .bool false] 86) := HY.out.but hB1 (by simp; omega)
    have HJ1 : Hid (j ≤ j1) := hj1
    have s2 := HR1.out.blk.cell 2 (v := .bool (M.rj s0 g m j1).stop) rfl
    rw [rj_stop hS1] at s2
    clear hN hR1 hB1 HX HY HB0 HR0 HST y0 y1 y2 hj1
    cases z with
    | true =>
      have hg := hz1 rfl
      have HS1 : Hid (Syn M s0 g m j1 (emb (.over h0 w1 true true)) (RgQ Q emb)) := hS1
      rw [if_pos rfl]
      have hd : decide (gw w1 = -1) = false := decide_eq_false hg
      have hd2 : (gw w1 == -1) = false := by simpa using hg
      have hd3 : (gw w1 != -1) = true := by simpa using hg
      clear hz1 hS1
      by_cases hm : m < j1
      · rw [decide_eq_true hm] at s2
        have HM : Hid (m < j1) := hm
        clear hm
        generalize gw w1 = gg at *
        go_wp2_with fail
        have HS3 : Hid (Syn M s0 g m j1 (emb (.hd h0 w1)) (RgQ Q emb)) := HS1.out.as (fun h => absurd HM.out (by omega))
        go_loopw [10] (fun _ wr => ∃ (k : Nat) (h wv : Int), Hid (RunOn wr x A cap m g (M.rj s0 g m k)) ∧ Hid (Syn M s0 g m k (emb (.hd h wv)) (RgQ Q emb)) ∧ Hid (But [x] w wr) ∧ Hid (j ≤ k) ∧ Hid (Blk wr w.heap.size #[.int .i64 P, .int .i64 T, .int .i64 G] 43) ∧ Hid (Blk wr (w.heap.size + 1) #[.int .i64 0, .bool false] 86)) (fun _ wr => rgLeft m x wr)
        case atStart => exact ⟨j1, _, _, HR1, HS3, HB1, HJ1, HX1, HY1⟩
        case round =>
          clear HR1 HS3 HB1 HX1 HY1
          obtain ⟨k, h, wv, HR, HS, HB, HJ, HX, HY⟩ := hrel
          have c2 := HR.out.blk.cell 2 (v := .bool (M.rj s0 g m k).stop) rfl
          rw [rj_stop HS.out] at c2
          by_cases hk : m < k
          · rw [decide_eq_true hk] at c2
            have HX9 : Hid (m < k) := hk
            have HP := got_put HY.out HR.out HB.out (by omega) (by omega) HGF.out (-1) false
            have HRB : Hid (Blk _ _ _ _) := HP.1
            have HF : Hid (RgGot M emb w x A cap m g s0 Q j (.returned (.agg #[.int .i64 (-1), .bool false])) _) := ⟨_, _, k, (.over 0 0 false false), rfl, HP.2.1, HS.out.as (fun h => absurd HX9.out (by omega)), rfl, fun h => absurd HX9.out (by omega), HP.2.2, HJ.out⟩
            have r0 := HY.out.cell 0 (v := .int .i64 0) rfl
            have r1 := HY.out.cell 1 (v := .bool false) rfl
            have f0 := HY.out.fro 0
            have f1 := HY.out.fro 1
            have hrl := HY.out.lt
            clear HP
            clear hk
            go_wp2_with fail
            exact bodyPost_ret (v := .agg #[.int .i64 (-1), .bool false]) (results_cell_row rfl _ _ (w.heap.size + 1) 86 #[.int .i64 (-1), .bool false] (0, 0) _ rfl HRB.out.heap Try.underlying86 rfl (by kernel_rfl)) rfl HF.out
          · rw [decide_eq_false hk] at c2
            have HXX : Hid (k ≤ m) := (by omega : k ≤ m)
            have HLF : Hid (rgLeft m x wr = m + 1 - k) := rgj_left HR.out HS.out
            have y0 := HX.out.cell 0 (v := .int .i64 P) rfl
            have y1 := HX.out.cell 1 (v := .int .i64 T) rfl
            have y2 := HX.out.cell 2 (v := .int .i64 G) rfl
            have hP1 := HPA.out wr 1 (by omega)
            clear hk
            go_wp2_with fail
            go_at_call 98; refine hP1.mono ?_; rintro e a1 ⟨rfl, g1⟩
            have hL1 := syn_load (HR.out.below g1) HS.out HBD.out (wd 20 P 264 p 1) (fun _ => HE.out.hd h wv)
            have HB1 : Hid (But [x] w a1) := HB.out.trans (But.of_below g1)
            have HX1 : Hid (Blk a1 w.heap.size #[.int .i64 P, .int .i64 T, .int .i64 G] 43) := HX.out.but (But.of_below (l := []) g1) (by simp)
            have HY1 : Hid (Blk a1 (w.heap.size + 1) #[.int .i64 0, .bool false] 86) := HY.out.but (But.of_below (l := []) g1) (by simp)
            clear hP1 g1 HB HX HY HR c2 y0 y1 y2
            go_wp2_with fail
            go_at_call 97; refine hL1.mono ?_; rintro e a2 ⟨hv, rfl, hK⟩
            have hvb := hK.bd
            have HR2 : Hid (RunOn a2 x A cap m g (M.rj s0 g m (k + 1))) := hK.run
            have HS2 : Hid (Syn M s0 g m (k + 1) (emb (.tl hv wv)) (RgQ Q emb)) := by
              have := hK.syn
              rw [HE.out.n3] at this
              exact this.weak (fun r hr => by rcases hr with rfl | hr; exact .inr ⟨.hd h wv, rfl, rfl⟩; exact hr)
            have HB2 : Hid (But [x] w a2) := HB1.out.trans hK.but
            have HX2 : Hid (Blk a2 w.heap.size #[.int .i64 P, .int .i64 T, .int .i64 G] 43) := HX1.out.but hK.but (by simp; omega)
            have HY2 : Hid (Blk a2 (w.heap.size + 1) #[.int .i64 0, .bool false] 86) := HY1.out.but hK.but (by simp; omega)
            have y0 := HX2.out.cell 0 (v := .int .i64 P) rfl
            have y1 := HX2.out.cell 1 (v := .int .i64 T) rfl
            have y2 := HX2.out.cell 2 (v := .int .i64 G) rfl
            have hP2 := HPA.out a2 2 (by omega)
            clear hL1 hK HB1 HX1 HY1 HS
            go_wp2_with fail
            go_at_call 98; refine hP2.mono ?_; rintro e a3 ⟨rfl, g3⟩
            have hL3 := syn_load (HR2.out.below g3) HS2.out HBD.out (wd 20 P 264 p 2) (fun _ => HE.out.tl hv wv)
            have HB3 : Hid (But [x] w a3) := HB2.out.trans (But.of_below g3)
            have HX3 : Hid (Blk a3 w.heap.size #[.int .i64 P, .int .i64 T, .int .i64 G] 43) := HX2.out.but (But.of_below (l := []) g3) (by simp)
            have HY3 : Hid (Blk a3 (w.heap.size + 1) #[.int .i64 0, .bool false] 86) := HY2.out.but (But.of_below (l := []) g3) (by simp)
            clear hP2 g3 HB2 HX2 HY2 HR2 y0 y1 y2
            go_wp2_with fail
            go_at_call 97; refine hL3.mono ?_; rintro e a4 ⟨tv, rfl, hK⟩
            have htb := hK.bd
            have HR : Hid (RunOn a4 x A cap m g (M.rj s0 g m (k + 1 + 1))) := hK.run
            have HS4 : Hid (Syn M s0 g m (k + 1 + 1) (emb ((rgPM P p false).nx (.tl hv wv) tv)) (RgQ Q emb)) := by
              have := hK.syn
              rw [HE.out.n4] at this
              exact this.weak (fun r hr => by rcases hr with rfl | hr; exact .inr ⟨.tl hv wv, rfl, rfl⟩; exact hr)
            have HB : Hid (But [x] w a4) := HB3.out.trans hK.but
            have HX : Hid (Blk a4 w.heap.size #[.int .i64 P, .int .i64 T, .int .i64 G] 43) := HX3.out.but hK.but (by simp; omega)
            have HY : Hid (Blk a4 (w.heap.size + 1) #[.int .i64 0, .bool false] 86) := HY3.out.but hK.but (by simp; omega)
            have s4 := HR.out.blk.cell 2 (v := .bool (M.rj s0 g m (k + 1 + 1)).stop) rfl
            rw [rj_stop HS4.out] at s4
            clear hL3 hK HB3 HX3 HY3 HS2
            by_cases hm4 : m < k + 1 + 1
            · rw [decide_eq_true hm4] at s4
              have HX9 : Hid (m < k + 1 + 1) := hm4
              have HP := got_put HY.out HR.out HB.out (by omega) (by omega) HGF.out (-1) false
              have HRB : Hid (Blk _ _ _ _) := HP.1
              have HF : Hid (RgGot M emb w x A cap m g s0 Q j (.returned (.agg #[.int .i64 (-1), .bool false])) _) := ⟨_, _, k + 1 + 1, (.over 0 0 false false), rfl, HP.2.1, HS4.out.as (fun h => absurd HX9.out (by omega)), rfl, fun h => absurd HX9.out (by omega), HP.2.2, (by have := HJ.out; omega)⟩
              have r0 := HY.out.cell 0 (v := .int .i64 0) rfl
              have r1 := HY.out.cell 1 (v := .bool false) rfl
              have f0 := HY.out.fro 0
              have f1 := HY.out.fro 1
              have hrl := HY.out.lt
              clear HP
              clear hm4
              go_wp2_with fail
              exact bodyPost_ret (v := .agg #[.int .i64 (-1), .bool false]) (results_cell_row rfl _ _ (w.heap.size + 1) 86 #[.int .i64 (-1), .bool false] (0, 0) _ rfl HRB.out.heap Try.underlying86 rfl (by kernel_rfl)) rfl HF.out
            · rw [decide_eq_false hm4] at s4
              have hMn := rmny_any hv tv a4 hvb htb
              clear hm4
              go_wp2_with fail
              go_at_call 99; refine hMn.mono ?_; rintro e a5 ⟨rfl, rfl⟩
              clear hMn s4
              by_cases hmz : (tv - hv) % 4294967296 = 0
              · have hq : ((tv - hv) % 4294967296 == 0) = true := by simpa using hmz
                rw [hmz]
                have HP := got_put HY.out HR.out HB.out (by omega) (by omega) HGF.out (-1) false
                have HRB : Hid (Blk _ _ _ _) := HP.1
                have HF : Hid (RgGot M emb w x A cap m g s0 Q j (.returned (.agg #[.int .i64 (-1), .bool false])) _) := ⟨_, _, k + 1 + 1, (.over hv wv false false), rfl, HP.2.1, HS4.out.as (fun _ => by rw [show (rgPM P p false).nx (.tl hv wv) tv = .over hv wv false false from if_neg (by omega)]), rfl, fun _ => ⟨rfl, rfl⟩, HP.2.2, (by have := HJ.out; omega)⟩
                have r0 := HY.out.cell 0 (v := .int .i64 0) rfl
                have r1 := HY.out.cell 1 (v := .bool false) rfl
                have f0 := HY.out.fro 0
                have f1 := HY.out.fro 1
                have hrl := HY.out.lt
                clear HP
                clear hq hmz
                go_wp2_with fail
                exact bodyPost_ret (v := .agg #[.int .i64 (-1), .bool false]) (results_cell_row rfl _ _ (w.heap.size + 1) 86 #[.int .i64 (-1), .bool false] (0, 0) _ rfl HRB.out.heap Try.underlying86 rfl (by kernel_rfl)) rfl HF.out
              · have hq : ((tv - hv) % 4294967296 == 0) = false := by simpa using hmz
                have hqd : decide ((tv - hv) % 4294967296 = 0) = false := decide_eq_false hmz
                have HS5 : Hid (Syn M s0 g m (k + 1 + 1) (emb (.rg hv wv)) (RgQ Q emb)) := HS4.out.as (fun _ => by rw [show (rgPM P p false).nx (.tl hv wv) tv = .rg hv wv from if_pos (by omega)])
                have y0 := HX.out.cell 0 (v := .int .i64 P) rfl
                have y1 := HX.out.cell 1 (v := .int .i64 T) rfl
                have y2 := HX.out.cell 2 (v := .int .i64 G) rfl
                have hRg := HRA.out a4 hv hvb
                generalize (tv - hv) % 4294967296 = mm at *
                clear HS4 hmz
                go_wp2_with fail
                go_at_call 100; refine hRg.mono ?_; rintro e a5 ⟨rfl, g5⟩
                have hL5 := syn_load (HR.out.below g5) HS5.out HBD.out (wd 20 P 264 p (8 + hv % 256)) (fun _ => HE.out.rg hv wv)
                have HB5 : Hid (But [x] w a5) := HB.out.trans (But.of_below g5)
                have HX5 : Hid (Blk a5 w.heap.size #[.int .i64 P, .int .i64 T, .int .i64 G] 43) := HX.out.but (But.of_below (l := []) g5) (by simp)
                have HY5 : Hid (Blk a5 (w.heap.size + 1) #[.int .i64 0, .bool false] 86) := HY.out.but (But.of_below (l := []) g5) (by simp)
                clear hRg g5 HB HX HY HR y0 y1 y2 hq hqd
                go_wp2_with fail
                go_at_call 97; refine hL5.mono ?_; rintro e a6 ⟨v, rfl, hK⟩
                have hwb := hK.bd
                have HR6 : Hid (RunOn a6 x A cap m g (M.rj s0 g m (k + 1 + 1 + 1))) := hK.run
                have HS6 : Hid (Syn M s0 g m (k + 1 + 1 + 1) (emb (.sh hv v)) (RgQ Q emb)) := by
                  have := hK.syn
                  rw [HE.out.n5] at this
                  exact this.weak (fun r hr => by rcases hr with rfl | hr; exact .inr ⟨.rg hv wv, rfl, rfl⟩; exact hr)
                have HB6 : Hid (But [x] w a6) := HB5.out.trans hK.but
                have HX6 : Hid (Blk a6 w.heap.size #[.int .i64 P, .int .i64 T, .int .i64 G] 43) := HX5.out.but hK.but (by simp; omega)
                have HY6 : Hid (Blk a6 (w.heap.size + 1) #[.int .i64 0, .bool false] 86) := HY5.out.but hK.but (by simp; omega)
                have y0 := HX6.out.cell 0 (v := .int .i64 P) rfl
                have y1 := HX6.out.cell 1 (v := .int .i64 T) rfl
                have y2 := HX6.out.cell 2 (v := .int .i64 G) rfl
                have hP6 := HPA.out a6 1 (by omega)
                obtain ⟨za, hza⟩ : ∃ za, IntKind.u64.wrap (hv + 1) = za := ⟨_, rfl⟩
                have hza0 : 0 ≤ za ∧ za ≤ 18446744073709551615 := by rw [← hza]; simp [IntKind.wrap, IntKind.bits, IntKind.signed] <;> omega
                have e1 : za.tmod 4294967296 = (hv + 1) % 4294967296 := by
                  rw [Int.tmod_eq_emod_of_nonneg hza0.1, ← hza]; simp [IntKind.wrap, IntKind.bits, IntKind.signed] <;> omega
                have e2 : IntKind.u64.wrap ((hv + 1) % 4294967296) = (hv + 1) % 4294967296 := wrap_u64 (by omega)
                have HNE : Hid (za.tmod 4294967296 = (hv + 1) % 4294967296) := e1
                clear hL5 hK HB5 HX5 HY5 HS5
                go_wp2_with fail
                go_at_call 98; refine hP6.mono ?_; rintro e a7 ⟨rfl, g7⟩
                have hL7 := syn_swap (HR6.out.below g7) HS6.out HBD.out (wd 20 P 264 p 1) hv ((hv + 1) % 4294967296) (fun _ => HE.out.sh hv v)
                have HB7 : Hid (But [x] w a7) := HB6.out.trans (But.of_below g7)
                have HX7 : Hid (Blk a7 w.heap.size #[.int .i64 P, .int .i64 T, .int .i64 G] 43) := HX6.out.but (But.of_below (l := []) g7) (by simp)
                have HY7 : Hid (Blk a7 (w.heap.size + 1) #[.int .i64 0, .bool false] 86) := HY6.out.but (But.of_below (l := []) g7) (by simp)
                have eg := rgw_eq v hwb
                clear hP6 g7 HB6 HX6 HY6 HR6 y0 y1 y2
                go_wp2_with fail
                go_at_call 101; refine hL7.mono ?_; rintro e a8 ⟨u, rfl, hK⟩
                have hu := HSW.out.one HS6.out (HE.out.sh hv v) rfl hK.val hK.zero hK.bd.1
                have HR : Hid (RunOn a8 x A cap m g (M.rj s0 g m (k + 1 + 1 + 1 + 1))) := hK.run
                have HS8 : Hid (Syn M s0 g m (k + 1 + 1 + 1 + 1) (emb ((rgPM P p false).nx (.sh hv v) u)) (RgQ Q emb)) := by
                  have := hK.syn
                  rw [HE.out.n6] at this
                  exact this.weak (fun r hr => by rcases hr with rfl | hr; exact .inr ⟨.sh hv v, rfl, rfl⟩; exact hr)
                have HB : Hid (But [x] w a8) := HB7.out.trans hK.but
                have HX : Hid (Blk a8 w.heap.size #[.int .i64 P, .int .i64 T, .int .i64 G] 43) := HX7.out.but hK.but (by simp; omega)
                have HY : Hid (Blk a8 (w.heap.size + 1) #[.int .i64 0, .bool false] 86) := HY7.out.but hK.but (by simp; omega)
                clear hL7 hK HB7 HX7 HY7 HS6 e1 e2 HNE hza hza0
                rcases hu with rfl | rfl
                · have hz : decide ((0 : Int) = 1) = false := by decide
                  clear eg
                  go_wp2_with fail
                  go_roundw
                  case rel => exact ⟨k + 1 + 1 + 1 + 1, hv, v, HR, HS8, HB, (by have := HJ.out; omega : j ≤ k + 1 + 1 + 1 + 1), HX, HY⟩
                  case measure => have hx := HXX.out; rw [rgj_left HR.out HS8.out, HLF.out]; omega
                · have hz : decide ((1 : Int) = 1) = true := by decide
                  have HP := got_put HY.out HR.out HB.out (by omega) (by omega) HGF.out (gw v) false
                  have HRB : Hid (Blk _ _ _ _) := HP.1
                  have HF : Hid (RgGot M emb w x A cap m g s0 Q j (.returned (.agg #[.int .i64 (gw v), .bool false])) _) := ⟨_, _, k + 1 + 1 + 1 + 1, (.over hv v true false), rfl, HP.2.1, HS8.out, rfl, fun _ => ⟨rfl, rfl⟩, HP.2.2, (by have := HJ.out; omega)⟩
                  have r0 := HY.out.cell 0 (v := .int .i64 0) rfl
                  have r1 := HY.out.cell 1 (v := .bool false) rfl
                  have f0 := HY.out.fro 0
                  have f1 := HY.out.fro 1
                  have hrl := HY.out.lt
                  clear HP
                  generalize hvv : IntKind.i64.wrap v = v' at *
                  rw [← eg] at HRB HF
                  clear eg
                  go_wp2_with fail
                  exact bodyPost_ret (v := .agg #[.int .i64 (wrap64 (v' - 1)), .bool false]) (results_cell_row rfl _ _ (w.heap.size + 1) 86 #[.int .i64 (wrap64 (v' - 1)), .bool false] (0, 0) _ rfl HRB.out.heap Try.underlying86 rfl (by kernel_rfl)) rfl HF.out
      · rw [decide_eq_false hm] at s2
        have HP := got_put HY1.out HR1.out HB1.out (by omega) (by omega) HGF.out (gw w1) true
        have HRB : Hid (Blk _ _ _ _) := HP.1
        have HF : Hid (RgGot M emb w x A cap m g s0 Q j (.returned (.agg #[.int .i64 (gw w1), .bool true])) _) := ⟨_, _, j1, _, rfl, HP.2.1, HS1.out, rfl, fun _ => ⟨rfl, rfl⟩, HP.2.2, HJ1.out⟩
        have r0 := HY1.out.cell 0 (v := .int .i64 0) rfl
        have r1 := HY1.out.cell 1 (v := .bool false) rfl
        have f0 := HY1.out.fro 0
        have f1 := HY1.out.fro 1
        have hrl := HY1.out.lt
        clear hm HP
        go_wp2_with fail
        exact bodyPost_ret (v := .agg #[.int .i64 (gw w1), .bool true]) (results_cell_row rfl _ _ (w.heap.size + 1) 86 #[.int .i64 (gw w1), .bool true] (0, 0) _ rfl HRB.out.heap Try.underlying86 rfl (by kernel_rfl)) rfl HF.out
    | false =>
      have HS3 : Hid (Syn M s0 g m j1 (emb (.hd h0 w1)) (RgQ Q emb)) := hS1
      rw [if_neg (by decide)]
      clear hz1 hS1 s2
      go_wp2_with fail
      go_loopw [10] (fun _ wr => ∃ (k : Nat) (h wv : Int), Hid (RunOn wr x A cap m g (M.rj s0 g m k)) ∧ Hid (Syn M s0 g m k (emb (.hd h wv)) (RgQ Q emb)) ∧ Hid (But [x] w wr) ∧ Hid (j ≤ k) ∧ Hid (Blk wr w.heap.size #[.int .i64 P, .int .i64 T, .int .i64 G] 43) ∧ Hid (Blk wr (w.heap.size + 1) #[.int .i64 0, .bool false] 86)) (fun _ wr => rgLeft m x wr)
      case atStart => exact ⟨j1, _, _, HR1, HS3, HB1, HJ1, HX1, HY1⟩
      case round =>
        clear HR1 HS3 HB1 HX1 HY1
        obtain ⟨k, h, wv, HR, HS, HB, HJ, HX, HY⟩ := hrel
        have c2 := HR.out.blk.cell 2 (v := .bool (M.rj s0 g m k).stop) rfl
        rw [rj_stop HS.out] at c2
        by_cases hk : m < k
        · rw [decide_eq_true hk] at c2
          have HX9 : Hid (m < k) := hk
          have HP := got_put HY.out HR.out HB.out (by omega) (by omega) HGF.out (-1) false
          have HRB : Hid (Blk _ _ _ _) := HP.1
          have HF : Hid (RgGot M emb w x A cap m g s0 Q j (.returned (.agg #[.int .i64 (-1), .bool false])) _) := ⟨_, _, k, (.over 0 0 false false), rfl, HP.2.1, HS.out.as (fun h => absurd HX9.out (by omega)), rfl, fun h => absurd HX9.out (by omega), HP.2.2, HJ.out⟩
          have r0 := HY.out.cell 0 (v := .int .i64 0) rfl
          have r1 := HY.out.cell 1 (v := .bool false) rfl
          have f0 := HY.out.fro 0
          have f1 := HY.out.fro 1
          have hrl := HY.out.lt
          clear HP
          clear hk
          go_wp2_with fail
          exact bodyPost_ret (v := .agg #[.int .i64 (-1), .bool false]) (results_cell_row rfl _ _ (w.heap.size + 1) 86 #[.int .i64 (-1), .bool false] (0, 0) _ rfl HRB.out.heap Try.underlying86 rfl (by kernel_rfl)) rfl HF.out
        · rw [decide_eq_false hk] at c2
          have HXX : Hid (k ≤ m) := (by omega : k ≤ m)
          have HLF : Hid (rgLeft m x wr = m + 1 - k) := rgj_left HR.out HS.out
          have y0 := HX.out.cell 0 (v := .int .i64 P) rfl
          have y1 := HX.out.cell 1 (v := .int .i64 T) rfl
          have y2 := HX.out.cell 2 (v := .int .i64 G) rfl
          have hP1 := HPA.out wr 1 (by omega)
          clear hk
          go_wp2_with fail
          go_at_call 98; refine hP1.mono ?_; rintro e a1 ⟨rfl, g1⟩
          have hL1 := syn_load (HR.out.below g1) HS.out HBD.out (wd 20 P 264 p 1) (fun _ => HE.out.hd h wv)
          have HB1 : Hid (But [x] w a1) := HB.out.trans (But.of_below g1)
          have HX1 : Hid (Blk a1 w.heap.size #[.int .i64 P, .int .i64 T, .int .i64 G] 43) := HX.out.but (But.of_below (l := []) g1) (by simp)
          have HY1 : Hid (Blk a1 (w.heap.size + 1) #[.int .i64 0, .bool false] 86) := HY.out.but (But.of_below (l := []) g1) (by simp)
          clear hP1 g1 HB HX HY HR c2 y0 y1 y2
          go_wp2_with fail
          go_at_call 97; refine hL1.mono ?_; rintro e a2 ⟨hv, rfl, hK⟩
          have hvb := hK.bd
          have HR2 : Hid (RunOn a2 x A cap m g (M.rj s0 g m (k + 1))) := hK.run
          have HS2 : Hid (Syn M s0 g m (k + 1) (emb (.tl hv wv)) (RgQ Q emb)) := by
            have := hK.syn
            rw [HE.out.n3] at this
            exact this.weak (fun r hr => by rcases hr with rfl | hr; exact .inr ⟨.hd h wv, rfl, rfl⟩; exact hr)
          have HB2 : Hid (But [x] w a2) := HB1.out.trans hK.but
          have HX2 : Hid (Blk a2 w.heap.size #[.int .i64 P, .int .i64 T, .int .i64 G] 43) := HX1.out.but hK.but (by simp; omega)
          have HY2 : Hid (Blk a2 (w.heap.size + 1) #[.int .i64 0, .bool false] 86) := HY1.out.but hK.but (by simp; omega)
          have y0 := HX2.out.cell 0 (v := .int .i64 P) rfl
          have y1 := HX2.out.cell 1 (v := .int .i64 T) rfl
          have y2 := HX2.out.cell 2 (v := .int .i64 G) rfl
          have hP2 := HPA.out a2 2 (by omega)
          clear hL1 hK HB1 HX1 HY1 HS
          go_wp2_with fail
          go_at_call 98; refine hP2.mono ?_; rintro e a3 ⟨rfl, g3⟩
          have hL3 := syn_load (HR2.out.below g3) HS2.out HBD.out (wd 20 P 264 p 2) (fun _ => HE.out.tl hv wv)
          have HB3 : Hid (But [x] w a3) := HB2.out.trans (But.of_below g3)
          have HX3 : Hid (Blk a3 w.heap.size #[.int .i64 P, .int .i64 T, .int .i64 G] 43) := HX2.out.but (But.of_below (l := []) g3) (by simp)
          have HY3 : Hid (Blk a3 (w.heap.size + 1) #[.int .i64 0, .bool false] 86) := HY2.out.but (But.of_below (l := []) g3) (by simp)
          clear hP2 g3 HB2 HX2 HY2 HR2 y0 y1 y2
          go_wp2_with fail
          go_at_call 97; refine hL3.mono ?_; rintro e a4 ⟨tv, rfl, hK⟩
          have htb := hK.bd
          have HR : Hid (RunOn a4 x A cap m g (M.rj s0 g m (k + 1 + 1))) := hK.run
          have HS4 : Hid (Syn M s0 g m (k + 1 + 1) (emb ((rgPM P p false).nx (.tl hv wv) tv)) (RgQ Q emb)) := by
            have := hK.syn
            rw [HE.out.n4] at this
            exact this.weak (fun r hr => by rcases hr with rfl | hr; exact .inr ⟨.tl hv wv, rfl, rfl⟩; exact hr)
          have HB : Hid (But [x] w a4) := HB3.out.trans hK.but
          have HX : Hid (Blk a4 w.heap.size #[.int .i64 P, .int .i64 T, .int .i64 G] 43) := HX3.out.but hK.but (by simp; omega)
          have HY : Hid (Blk a4 (w.heap.size + 1) #[.int .i64 0, .bool false] 86) := HY3.out.but hK.but (by simp; omega)
          have s4 := HR.out.blk.cell 2 (v := .bool (M.rj s0 g m (k + 1 + 1)).stop) rfl
          rw [rj_stop HS4.out] at s4
          clear hL3 hK HB3 HX3 HY3 HS2
          by_cases hm4 : m < k + 1 + 1
          · rw [decide_eq_true hm4] at s4
            have HX9 : Hid (m < k + 1 + 1) := hm4
            have HP := got_put HY.out HR.out HB.out (by omega) (by omega) HGF.out (-1) false
            have HRB : Hid (Blk _ _ _ _) := HP.1
            have HF : Hid (RgGot M emb w x A cap m g s0 Q j (.returned (.agg #[.int .i64 (-1), .bool false])) _) := ⟨_, _, k + 1 + 1, (.over 0 0 false false), rfl, HP.2.1, HS4.out.as (fun h => absurd HX9.out (by omega)), rfl, fun h => absurd HX9.out (by omega), HP.2.2, (by have := HJ.out; omega)⟩
            have r0 := HY.out.cell 0 (v := .int .i64 0) rfl
            have r1 := HY.out.cell 1 (v := .bool false) rfl
            have f0 := HY.out.fro 0
            have f1 := HY.out.fro 1
            have hrl := HY.out.lt
            clear HP
            clear hm4
            go_wp2_with fail
            exact bodyPost_ret (v := .agg #[.int .i64 (-1), .bool false]) (results_cell_row rfl _ _ (w.heap.size + 1) 86 #[.int .i64 (-1), .bool false] (0, 0) _ rfl HRB.out.heap Try.underlying86 rfl (by kernel_rfl)) rfl HF.out
          · rw [decide_eq_false hm4] at s4
            have hMn := rmny_any hv tv a4 hvb htb
            clear hm4
            go_wp2_with fail
            go_at_call 99; refine hMn.mono ?_; rintro e a5 ⟨rfl, rfl⟩
            clear hMn s4
            by_cases hmz : (tv - hv) % 4294967296 = 0
            · have hq : ((tv - hv) % 4294967296 == 0) = true := by simpa using hmz
              rw [hmz]
              have HP := got_put HY.out HR.out HB.out (by omega) (by omega) HGF.out (-1) false
              have HRB : Hid (Blk _ _ _ _) := HP.1
              have HF : Hid (RgGot M emb w x A cap m g s0 Q j (.returned (.agg #[.int .i64 (-1), .bool false])) _) := ⟨_, _, k + 1 + 1, (.over hv wv false false), rfl, HP.2.1, HS4.out.as (fun _ => by rw [show (rgPM P p false).nx (.tl hv wv) tv = .over hv wv false false from if_neg (by omega)]), rfl, fun _ => ⟨rfl, rfl⟩, HP.2.2, (by have := HJ.out; omega)⟩
              have r0 := HY.out.cell 0 (v := .int .i64 0) rfl
              have r1 := HY.out.cell 1 (v := .bool false) rfl
              have f0 := HY.out.fro 0
              have f1 := HY.out.fro 1
              have hrl := HY.out.lt
              clear HP
              clear hq hmz
              go_wp2_with fail
              exact bodyPost_ret (v := .agg #[.int .i64 (-1), .bool false]) (results_cell_row rfl _ _ (w.heap.size + 1) 86 #[.int .i64 (-1), .bool false] (0, 0) _ rfl HRB.out.heap Try.underlying86 rfl (by kernel_rfl)) rfl HF.out
            · have hq : ((tv - hv) % 4294967296 == 0) = false := by simpa using hmz
              have hqd : decide ((tv - hv) % 4294967296 = 0) = false := decide_eq_false hmz
              have HS5 : Hid (Syn M s0 g m (k + 1 + 1) (emb (.rg hv wv)) (RgQ Q emb)) := HS4.out.as (fun _ => by rw [show (rgPM P p false).nx (.tl hv wv) tv = .rg hv wv from if_pos (by omega)])
              have y0 := HX.out.cell 0 (v := .int .i64 P) rfl
              have y1 := HX.out.cell 1 (v := .int .i64 T) rfl
              have y2 := HX.out.cell 2 (v := .int .i64 G) rfl
              have hRg := HRA.out a4 hv hvb
              generalize (tv - hv) % 4294967296 = mm at *
              clear HS4 hmz
              go_wp2_with fail
              go_at_call 100; refine hRg.mono ?_; rintro e a5 ⟨rfl, g5⟩
              have hL5 := syn_load (HR.out.below g5) HS5.out HBD.out (wd 20 P 264 p (8 + hv % 256)) (fun _ => HE.out.rg hv wv)
              have HB5 : Hid (But [x] w a5) := HB.out.trans (But.of_below g5)
              have HX5 : Hid (Blk a5 w.heap.size #[.int .i64 P, .int .i64 T, .int .i64 G] 43) := HX.out.but (But.of_below (l := []) g5) (by simp)
              have HY5 : Hid (Blk a5 (w.heap.size + 1) #[.int .i64 0, .bool false] 86) := HY.out.but (But.of_below (l := []) g5) (by simp)
              clear hRg g5 HB HX HY HR y0 y1 y2 hq hqd
              go_wp2_with fail
              go_at_call 97; refine hL5.mono ?_; rintro e a6 ⟨v, rfl, hK⟩
              have hwb := hK.bd
              have HR6 : Hid (RunOn a6 x A cap m g (M.rj s0 g m (k + 1 + 1 + 1))) := hK.run
              have HS6 : Hid (Syn M s0 g m (k + 1 + 1 + 1) (emb (.sh hv v)) (RgQ Q emb)) := by
                have := hK.syn
                rw [HE.out.n5] at this
                exact this.weak (fun r hr => by rcases hr with rfl | hr; exact .inr ⟨.rg hv wv, rfl, rfl⟩; exact hr)
              have HB6 : Hid (But [x] w a6) := HB5.out.trans hK.but
              have HX6 : Hid (Blk a6 w.heap.size #[.int .i64 P, .int .i64 T, .int .i64 G] 43) := HX5.out.but hK.but (by simp; omega)
              have HY6 : Hid (Blk a6 (w.heap.size + 1) #[.int .i64 0, .bool false] 86) := HY5.out.but hK.but (by simp; omega)
              have y0 := HX6.out.cell 0 (v := .int .i64 P) rfl
              have y1 := HX6.out.cell 1 (v := .int .i64 T) rfl
              have y2 := HX6.out.cell 2 (v := .int .i64 G) rfl
              have hP6 := HPA.out a6 1 (by omega)
              obtain ⟨za, hza⟩ : ∃ za, IntKind.u64.wrap (hv + 1) = za := ⟨_, rfl⟩
              have hza0 : 0 ≤ za ∧ za ≤ 18446744073709551615 := by rw [← hza]; simp [IntKind.wrap, IntKind.bits, IntKind.signed] <;> omega
              have e1 : za.tmod 4294967296 = (hv + 1) % 4294967296 := by
                rw [Int.tmod_eq_emod_of_nonneg hza0.1, ← hza]; simp [IntKind.wrap, IntKind.bits, IntKind.signed] <;> omega
              have e2 : IntKind.u64.wrap ((hv + 1) % 4294967296) = (hv + 1) % 4294967296 := wrap_u64 (by omega)
              have HNE : Hid (za.tmod 4294967296 = (hv + 1) % 4294967296) := e1
              clear hL5 hK HB5 HX5 HY5 HS5
              go_wp2_with fail
              go_at_call 98; refine hP6.mono ?_; rintro e a7 ⟨rfl, g7⟩
              have hL7 := syn_swap (HR6.out.below g7) HS6.out HBD.out (wd 20 P 264 p 1) hv ((hv + 1) % 4294967296) (fun _ => HE.out.sh hv v)
              have HB7 : Hid (But [x] w a7) := HB6.out.trans (But.of_below g7)
              have HX7 : Hid (Blk a7 w.heap.size #[.int .i64 P, .int .i64 T, .int .i64 G] 43) := HX6.out.but (But.of_below (l := []) g7) (by simp)
              have HY7 : Hid (Blk a7 (w.heap.size + 1) #[.int .i64 0, .bool false] 86) := HY6.out.but (But.of_below (l := []) g7) (by simp)
              have eg := rgw_eq v hwb
              clear hP6 g7 HB6 HX6 HY6 HR6 y0 y1 y2
              go_wp2_with fail
              go_at_call 101; refine hL7.mono ?_; rintro e a8 ⟨u, rfl, hK⟩
              have hu := HSW.out.one HS6.out (HE.out.sh hv v) rfl hK.val hK.zero hK.bd.1
              have HR : Hid (RunOn a8 x A cap m g (M.rj s0 g m (k + 1 + 1 + 1 + 1))) := hK.run
              have HS8 : Hid (Syn M s0 g m (k + 1 + 1 + 1 + 1) (emb ((rgPM P p false).nx (.sh hv v) u)) (RgQ Q emb)) := by
                have := hK.syn
                rw [HE.out.n6] at this
                exact this.weak (fun r hr => by rcases hr with rfl | hr; exact .inr ⟨.sh hv v, rfl, rfl⟩; exact hr)
              have HB : Hid (But [x] w a8) := HB7.out.trans hK.but
              have HX : Hid (Blk a8 w.heap.size #[.int .i64 P, .int .i64 T, .int .i64 G] 43) := HX7.out.but hK.but (by simp; omega)
              have HY : Hid (Blk a8 (w.heap.size + 1) #[.int .i64 0, .bool false] 86) := HY7.out.but hK.but (by simp; omega)
              clear hL7 hK HB7 HX7 HY7 HS6 e1 e2 HNE hza hza0
              rcases hu with rfl | rfl
              · have hz : decide ((0 : Int) = 1) = false := by decide
                clear eg
                go_wp2_with fail
                go_roundw
                case rel => exact ⟨k + 1 + 1 + 1 + 1, hv, v, HR, HS8, HB, (by have := HJ.out; omega : j ≤ k + 1 + 1 + 1 + 1), HX, HY⟩
                case measure => have hx := HXX.out; rw [rgj_left HR.out HS8.out, HLF.out]; omega
              · have hz : decide ((1 : Int) = 1) = true := by decide
                have HP := got_put HY.out HR.out HB.out (by omega) (by omega) HGF.out (gw v) false
                have HRB : Hid (Blk _ _ _ _) := HP.1
                have HF : Hid (RgGot M emb w x A cap m g s0 Q j (.returned (.agg #[.int .i64 (gw v), .bool false])) _) := ⟨_, _, k + 1 + 1 + 1 + 1, (.over hv v true false), rfl, HP.2.1, HS8.out, rfl, fun _ => ⟨rfl, rfl⟩, HP.2.2, (by have := HJ.out; omega)⟩
                have r0 := HY.out.cell 0 (v := .int .i64 0) rfl
                have r1 := HY.out.cell 1 (v := .bool false) rfl
                have f0 := HY.out.fro 0
                have f1 := HY.out.fro 1
                have hrl := HY.out.lt
                clear HP
                generalize hvv : IntKind.i64.wrap v = v' at *
                rw [← eg] at HRB HF
                clear eg
                go_wp2_with fail
                exact bodyPost_ret (v := .agg #[.int .i64 (wrap64 (v' - 1)), .bool false]) (results_cell_row rfl _ _ (w.heap.size + 1) 86 #[.int .i64 (wrap64 (v' - 1)), .bool false] (0, 0) _ rfl HRB.out.heap Try.underlying86 rfl (by kernel_rfl)) rfl HF.out
end
end Go.Proofs.Ytiagkeakohkfgaa
