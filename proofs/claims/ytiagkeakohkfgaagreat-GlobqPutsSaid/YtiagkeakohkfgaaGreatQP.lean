/- GlobqPuts: each step of putting goroutines behind the global queue, over any memory, whatever others do between: its access, and which of them do not lie there yet; the list; for every ground, every list of goroutines, and all pokes; no condition. -/
import Derived.Test.YtiagkeakohkfgaaGreatQB
import Derived.Test.YtiagkeakohkfgaaGreatQA
import Derived.Deep.RegionHeld3
import Derived.Test.YtiagkeakohkfgaaGreatOpen2
import Derived.Test.YtiagkeakohkfgaaGreatLaw
import Derived.Test.YtiagkeakohkfgaaGreatQC
import Derived.Test.YtiagkeakohkfgaaGreatOpen
import Derived.ProofKit
import Derived.OpenShut
import Derived.Lib.SmallJoins
namespace Go.Proofs.YtiagkeakohkfgaaGreat
open Go Go.RowKit
set_option linter.unusedVariables false
set_option maxRecDepth 100000
set_option linter.unusedSimpArgs false

structure QpIn {σ : Type} (M : PM σ) (gl : Int → Int) (l : List Int) (emb : QpT → σ) : Prop where
  ch : ∀ k, M.ax (emb (.ch k)) = some (axSt (gl (l.getD k 0)) (if k + 1 < l.length then l.getD (k + 1) 0 + 1 else 0))
  ld : M.ax (emb .ld) = some (axLd 7)
  pt : ∀ t, M.ax (emb (.pt t)) = some (axSt (if t = 0 then 6 else gl (gw t)) (l.getD 0 0 + 1))
  tr : M.ax (emb .tr) = some (axSt 7 (l.getD (l.length - 1) 0 + 1))
  ct : M.ax (emb .ct) = some (axAd 8 l.length)
  n1 : ∀ k v, M.nx (emb (.ch k)) v = if k + 1 < l.length then emb (.ch (k + 1)) else emb .ld
  n2 : ∀ v, M.nx (emb .ld) v = emb (.pt v)
  n3 : ∀ t v, M.nx (emb (.pt t)) v = emb .tr
  n4 : ∀ v, M.nx (emb .tr) v = emb .ct
  n5 : ∀ v, M.nx (emb .ct) v = emb .over
def QpT.live : QpT → Bool
  | .over => false
  | .done0 => false
  | _ => true
theorem qp_in (gl : Int → Int) (l : List Int) : QpIn (qpPM gl l) gl l (fun p => p) where
  ch := fun _ => rfl
  ld := rfl
  pt := fun _ => rfl
  tr := rfl
  ct := rfl
  n1 := fun _ _ => rfl
  n2 := fun _ => rfl
  n3 := fun _ _ => rfl
  n4 := fun _ => rfl
  n5 := fun _ => rfl
/-- Where a put stopped, and what it holds there. -/
def QpQ {σ : Type} (Q : σ → Prop) (emb : QpT → σ) (l held : List Int) (q : σ) : Prop := (Q q ∧ held = l) ∨ ∃ p', QpT.live p' = true ∧ q = emb p' ∧ held = if p'.lies = true then [] else l
def QpE {σ : Type} (Q : σ → Prop) (emb : QpT → σ) (q : σ) : Prop := Q q ∨ ∃ p', QpT.live p' = true ∧ q = emb p' ∧ p'.lies = false
theorem QpE.q {σ : Type} {Q : σ → Prop} {emb : QpT → σ} {l : List Int} {q : σ} (h : QpE Q emb q) : QpQ Q emb l l q := by
  rcases h with h | ⟨p', h1, h2, h3⟩
  · exact .inl ⟨h, rfl⟩
  · exact .inr ⟨p', h1, h2, by rw [h3]; rfl⟩
def QpGot {σ : Type} (M : PM σ) (emb : QpT → σ) (l : List Int) (w : World) (x : Nat) (A : Option Addr) (cap m : Nat) (g : Nat → Int) (s0 : σ) (Q : σ → Prop) (j : Nat) (e : Ending) (w' : World) : Prop := ∃ (v : Value) (held : List Int) (j' : Nat) (p : QpT), e = .returned v ∧ SeesL w' v held ∧ RunOn w' x A cap m g (M.rj s0 g m j') ∧ Syn M s0 g m j' (emb p) (QpQ Q emb l held) ∧ p.live = false ∧ (j' ≤ m → held = if p.lies = true then [] else l) ∧ But [x] w w' ∧ j ≤ j'
theorem SeesL.but {w w' : World} {A : Option Addr} {n cap x : Nat} {l : List Int} (h : SeesL w (.slice A n cap) l) (hB : But [x] w w') (hx : ∀ b off : Nat, A = some ⟨b, off, none⟩ → b ≠ x) : SeesL w' (.slice A n cap) l := by
  obtain ⟨A', cap', e, h1, h2⟩ := h
  cases e
  refine ⟨_, _, rfl, h1, fun hn => ?_⟩
  obtain ⟨b, off, e1, h3, h4⟩ := h2 hn
  refine ⟨b, off, e1, Nat.lt_of_lt_of_le h3 hB.size, fun j hj => ?_⟩
  rw [← h4 j hj]
  have hk := hB.block b h3 (by simpa using hx b off e1)
  simp only [World.cell?]
  rw [hk]

set_option maxHeartbeats 4000000 in
theorem syn_qput {σ : Type} {M : PM σ} {P T G : Int} {l : List Int} {emb : QpT → σ} (hE : QpIn M (fun y => wd (20 + P * 264 + T * 3) G 2 y 1) l emb) (hp : 0 ≤ P ∧ P ≤ 64) (hT : 0 ≤ T ∧ T ≤ 65536) (hG : 0 ≤ G ∧ G ≤ 65536) (hn : l.length ≤ 1000000) (hbl : ∀ y ∈ l, 0 ≤ y ∧ y ≤ 1000000)
    {w : World} {x : Nat} {A B : Option Addr} {cap cp m : Nat} {g : Nat → Int} {s0 : σ} {j : Nat} {Q : σ → Prop} (hs : SeesL w (.slice B l.length cp) l) (hsx : 0 < l.length → ∀ b off : Nat, B = some ⟨b, off, none⟩ → b ≠ x) (hR : RunOn w x A cap m g (M.rj s0 g m j)) (hS : Syn M s0 g m j (emb (qpStart l)) Q) (hb : ∀ j, j < m → 0 ≤ g j ∧ g j ≤ 18446744073709551615) :
    Calls Tryz.prog 14 #[.pointer (some ⟨x, 0, none⟩), .agg #[.int .i64 P, .int .i64 T, .int .i64 G], .slice B l.length cp] w fun e w' => QpGot M emb l w x A cap m g s0 Q j e w' := by
  have hb0 : Below w.heap.size w (w.alloc (.cells #[.int .i64 P, .int .i64 T, .int .i64 G] 23)) := (Below.refl _ _).alloc (Nat.le_refl _) _
  have HX : Hid (Blk (w.alloc (.cells #[.int .i64 P, .int .i64 T, .int .i64 G] 23)) w.heap.size #[.int .i64 P, .int .i64 T, .int .i64 G] 23) := Blk.new _ _ _
  have hxw := hR.blk.lt
  have HB0 : Hid (But [x] w (w.alloc (.cells #[.int .i64 P, .int .i64 T, .int .i64 G] 23))) := But.of_below hb0
  have HGA : Hid (∀ y w, Calls Tryz.prog 71 #[.agg #[.int .i64 P, .int .i64 T, .int .i64 G], .int .i64 y, .int .i64 1] w fun e w' => e = .returned (.int .i64 (wd (20 + P * 264 + T * 3) G 2 y 1)) ∧ Below w.heap.size w w') := fun y w => refgAt_any P T G y 1 w hp hT hG.2 (by omega)
  have HE : Hid (QpIn M (fun y => wd (20 + P * 264 + T * 3) G 2 y 1) l emb) := hE
  have HBD : Hid (∀ j, j < m → 0 ≤ g j ∧ g j ≤ 18446744073709551615) := hb
  have HSL : Hid (SeesL w (.slice B l.length cp) l) := hs
  have HSX : Hid (0 < l.length → ∀ b off : Nat, B = some ⟨b, off, none⟩ → b ≠ x) := hsx
  have HLB : Hid (∀ k, 0 ≤ l.getD k 0 ∧ l.getD k 0 ≤ 1000000) := fun k => getD_bd hbl k
  have HR0 : Hid (RunOn (w.alloc (.cells #[.int .i64 P, .int .i64 T, .int .i64 G] 23)) x A cap m g (M.rj s0 g m j)) := hR.below hb0
  have HST : Hid (0 < l.length → Syn M s0 g m (j + 0) (emb (.ch 0)) (QpE Q emb)) := fun h0 => by
    have e : qpStart l = .ch 0 := if_neg (fun e => by rw [e] at h0; exact absurd h0 (by simp))
    rw [e] at hS
    exact hS.weak (fun r hr => .inl hr)
  have HS0 : Hid (Syn M s0 g m j (emb (qpStart l)) Q) := hS
  clear hR hS hE hb hb0 hp hT hG hs hsx hbl
  go_enter Tryz.func14, Tryz.ntmps14
  go_wp2_with fail
  generalize w.alloc (.cells #[.int .i64 P, .int .i64 T, .int .i64 G] 23) = W at *
  by_cases hl0 : l.length = 0
  · have hle : l = [] := List.length_eq_zero_iff.1 hl0
    subst hle
    go_loopw [7] (fun i wr => i = .int .i64 0 ∧ wr = W) (fun i _ => 0)
    case atStart => exact ⟨rfl, rfl⟩
    case round =>
      obtain ⟨rfl, rfl⟩ := hrel
      go_wp2_with fail
      go_ret
      exact ⟨.slice none 0 0, [], j, .done0, rfl, ⟨none, 0, rfl, fun _ => ⟨rfl, rfl⟩, fun h => absurd h (by simp)⟩, HR0.out, HS0.out.weak (fun r hr => .inl ⟨hr, rfl⟩), rfl, fun _ => rfl, HB0.out, Nat.le_refl j⟩
  · have h0 : 0 < l.length := by omega
    have HSS : Hid _ := HST.out h0
    clear HS0 HST
    obtain ⟨b, off, rfl, hbl, hcl⟩ : ∃ b off : Nat, B = some ⟨b, off, none⟩ ∧ b < w.heap.size ∧ ∀ j, j < l.length → w.cell? ⟨b, off + j, none⟩ = some (.int .i64 (l.getD j 0)) := by
      obtain ⟨A', cap', e, h1, h2⟩ := HSL.out
      cases e
      exact h2 h0
    have hbx : b ≠ x := HSX.out h0 b off rfl
    have HCL : Hid (∀ Y, But [x] w Y → ∀ j, j < l.length → Y.cell? ⟨b, off + j, none⟩ = some (.int .i64 (l.getD j 0))) := fun Y hY j hj => by
      rw [← hcl j hj]
      have hk := hY.block b hbl (by simpa using hbx)
      simp only [World.cell?]
      rw [hk]
    clear hcl
    go_loopw [7] (fun i wr => ∃ k : Nat, k ≤ l.length ∧ i = .int .i64 k ∧ Hid (RunOn wr x A cap m g (M.rj s0 g m (j + k))) ∧ Hid (Syn M s0 g m (j + k) (emb (if k < l.length then .ch k else .ld)) (QpE Q emb)) ∧ Hid (But [x] w wr) ∧ Hid (Blk wr w.heap.size #[.int .i64 P, .int .i64 T, .int .i64 G] 23)) (fun i _ => l.length - (intOf i).toNat)
    case atStart => exact ⟨0, Nat.zero_le _, rfl, HR0, (by rw [if_pos h0]; exact HSS.out : Syn _ _ _ _ _ _ _), HB0, HX⟩
    case round =>
      clear HR0 HSS HB0 HX
      obtain ⟨k, hk, rfl, HR, HS, HB, HX⟩ := hrel
      by_cases hlt : k < l.length
      · have HS1 : Hid (Syn M s0 g m (j + k) (emb (.ch k)) (QpE Q emb)) := by have := HS.out; rw [if_pos hlt] at this; exact this
        have hk0 : (0 : Int) ≤ (k : Int) := by omega
        have hk1 : (k : Int) < (l.length : Int) := by omega
        have cg := HCL.out wr HB.out k hlt
        have y0 := HX.out.cell 0 (v := .int .i64 P) rfl
        have y1 := HX.out.cell 1 (v := .int .i64 T) rfl
        have y2 := HX.out.cell 2 (v := .int .i64 G) rfl
        obtain ⟨nx, hnx⟩ : ∃ nx, (if k + 1 < l.length then l.getD (k + 1) 0 + 1 else 0) = nx := ⟨_, rfl⟩
        have HAX : Hid (M.ax (emb (.ch k)) = some (axSt (wd (20 + P * 264 + T * 3) G 2 (l.getD k 0) 1) nx)) := by
          have := HE.out.ch k
          rw [hnx] at this
          exact this
        have hxb := HLB.out k
        have HLD : Hid _ := HGA.out (l.getD k 0)
        have HCY : Hid (∀ Y, But [x] w Y → Y.cell? ⟨b, off + k, none⟩ = some (.int .i64 (l.getD k 0))) := fun Y hY => HCL.out Y hY k hlt
        generalize l.getD k 0 = yk at *
        clear HS
        by_cases hk2 : k + 1 < l.length
        · have cg2 := HCL.out wr HB.out (k + 1) hk2
          have hk3 : (k : Int) + 1 < (l.length : Int) := by omega
          have hd3 : decide ((k : Int) + 1 < (l.length : Int)) = true := decide_eq_true hk3
          have ht : ((k : Int) + 1).toNat = k + 1 := by omega
          have hyb := HLB.out (k + 1)
          have hnx2 : l.getD (k + 1) 0 + 1 = nx := by rw [if_pos hk2] at hnx; exact hnx
          generalize l.getD (k + 1) 0 = y2' at *
          have e5 : IntKind.u64.wrap y2' = y2' := wrap_u64 (by omega)
          have e6 : IntKind.u64.wrap (y2' + 1) = nx := by rw [wrap_u64 (by omega)]; exact hnx2
          clear hnx hnx2
          obtain ⟨at', hat⟩ : ∃ at', wd (20 + P * 264 + T * 3) G 2 yk 1 = at' := ⟨_, rfl⟩
          rw [hat] at HAX HLD
          obtain ⟨QC, hQC⟩ : ∃ QC : World → Prop, QC = fun w' => RunOn w' x A cap m g (M.rj s0 g m (j + k + 1)) ∧ Syn M s0 g m (j + k + 1) (emb (.ch (k + 1))) (QpE Q emb) ∧ But [x] w w' ∧ Blk w' w.heap.size #[.int .i64 P, .int .i64 T, .int .i64 G] 23 := ⟨_, rfl⟩
          have HGAd := HLD.out wr.drew
          have HSt : Hid (∀ w4, Below wr.drew.heap.size wr.drew w4 → Calls Tryz.prog 70 #[.pointer (some ⟨x, 0, none⟩), .int .i64 at', .int .u64 nx] w4 fun e w' => (∃ u, e = .returned u) ∧ QC w') := fun w4 k4 => by
            have hb4 : Below wr.heap.size wr w4 := (show Below wr.heap.size wr wr.drew from (Below.refl _ _).drew).trans k4
            refine (syn_store (HR.out.below hb4) HS1.out HBD.out at' nx (fun _ => HAX.out)).mono ?_
            rintro e w' ⟨hu, v5, hK⟩
            refine ⟨hu, ?_⟩
            rw [hQC]
            refine ⟨hK.run, ?_, (HB.out.trans (But.of_below hb4)).trans hK.but, (HX.out.but (But.of_below (l := []) hb4) (by simp)).but hK.but (by simp; omega)⟩
            have h5 := hK.syn
            rw [HE.out.n1, if_pos hk2] at h5
            exact h5.weak (fun r hr => by rcases hr with rfl | hr; exact .inr ⟨.ch k, rfl, rfl, rfl⟩; exact hr)
          have HSC : Hid (∀ Y, But [x] w Y → Blk Y w.heap.size #[.int .i64 P, .int .i64 T, .int .i64 G] 23 → (Y.cell? ⟨w.heap.size, 0, none⟩ = some (.int .i64 P) ∧ Y.cell? ⟨w.heap.size, 1, none⟩ = some (.int .i64 T) ∧ Y.cell? ⟨w.heap.size, 2, none⟩ = some (.int .i64 G) ∧ Y.cell? ⟨b, off + k, none⟩ = some (.int .i64 yk))) := fun Y hY hBY => ⟨hBY.cell 0 rfl, hBY.cell 1 rfl, hBY.cell 2 rfl, HCY.out Y hY⟩
          have hH : Hid (wr.drew.cell? ⟨w.heap.size, 0, none⟩ = some (.int .i64 P) ∧ wr.drew.cell? ⟨w.heap.size, 1, none⟩ = some (.int .i64 T) ∧ wr.drew.cell? ⟨w.heap.size, 2, none⟩ = some (.int .i64 G) ∧ wr.drew.cell? ⟨b, off + k, none⟩ = some (.int .i64 yk)) := HSC.out _ HB.out.drew HX.out.drew
          have KB : Hid (∀ w4, Below wr.drew.heap.size wr.drew w4 → (w4.cell? ⟨w.heap.size, 0, none⟩ = some (.int .i64 P) ∧ w4.cell? ⟨w.heap.size, 1, none⟩ = some (.int .i64 T) ∧ w4.cell? ⟨w.heap.size, 2, none⟩ = some (.int .i64 G) ∧ w4.cell? ⟨b, off + k, none⟩ = some (.int .i64 yk))) := fun w4 k4 => by
            have hb4 : Below wr.heap.size wr w4 := (show Below wr.heap.size wr wr.drew from (Below.refl _ _).drew).trans k4
            exact HSC.out _ (HB.out.trans (But.of_below hb4)) (HX.out.but (But.of_below (l := []) hb4) (by simp))
          have KC : Hid (∀ w5, QC w5 → (w5.cell? ⟨w.heap.size, 0, none⟩ = some (.int .i64 P) ∧ w5.cell? ⟨w.heap.size, 1, none⟩ = some (.int .i64 T) ∧ w5.cell? ⟨w.heap.size, 2, none⟩ = some (.int .i64 G) ∧ w5.cell? ⟨b, off + k, none⟩ = some (.int .i64 yk))) := fun w5 hC => by
            rw [hQC] at hC
            exact HSC.out _ hC.2.2.1 hC.2.2.2
          have HQC : Hid (∀ w5, QC w5 → RunOn w5 x A cap m g (M.rj s0 g m (j + (k + 1))) ∧ Syn M s0 g m (j + (k + 1)) (emb (if k + 1 < l.length then .ch (k + 1) else .ld)) (QpE Q emb) ∧ But [x] w w5 ∧ Blk w5 w.heap.size #[.int .i64 P, .int .i64 T, .int .i64 G] 23) := fun w5 hC => by
            rw [hQC] at hC
            rw [if_pos hk2]
            exact hC
          clear hQC hat HLD HAX HR HS1 HB HX y0 y1 y2 cg
          go_wp2_with fail
          clear cg2
          go_region_held3 (fun w' => w'.cell? ⟨w.heap.size, 0, none⟩ = some (.int .i64 P) ∧ w'.cell? ⟨w.heap.size, 1, none⟩ = some (.int .i64 T) ∧ w'.cell? ⟨w.heap.size, 2, none⟩ = some (.int .i64 G) ∧ w'.cell? ⟨b, off + k, none⟩ = some (.int .i64 yk)) (first | exact hH.out | exact KB.out _ ‹_› | exact KC.out _ ‹_›) (first | (go_at_call 71; refine HGAd.mono ?_; rintro e w4 ⟨rfl, k4⟩) | (go_at_call 70; refine (HSt.out _ ‹_›).mono ?_; rintro e w5 ⟨⟨u, rfl⟩, hC⟩))
          all_goals
            have HF : Hid _ := HQC.out _ hC
            clear HGAd HSt HSC hH KB KC HQC hC
            go_wp2_with fail
            go_roundw
            case rel => exact ⟨k + 1, by omega, by go_num, HF.out.1, HF.out.2.1, HF.out.2.2.1, HF.out.2.2.2⟩
            case measure => simp [intOf]; omega
        · have hk3 : ¬ ((k : Int) + 1 < (l.length : Int)) := by omega
          have hd3 : decide ((k : Int) + 1 < (l.length : Int)) = false := decide_eq_false hk3
          have hnx2 : (0 : Int) = nx := by rw [if_neg hk2] at hnx; exact hnx
          clear hnx
          subst hnx2
          obtain ⟨at', hat⟩ : ∃ at', wd (20 + P * 264 + T * 3) G 2 yk 1 = at' := ⟨_, rfl⟩
          rw [hat] at HAX HLD
          obtain ⟨QC, hQC⟩ : ∃ QC : World → Prop, QC = fun w' => RunOn w' x A cap m g (M.rj s0 g m (j + k + 1)) ∧ Syn M s0 g m (j + k + 1) (emb (.ld)) (QpE Q emb) ∧ But [x] w w' ∧ Blk w' w.heap.size #[.int .i64 P, .int .i64 T, .int .i64 G] 23 := ⟨_, rfl⟩
          have HGAd := HLD.out wr.drew
          have HSt : Hid (∀ w4, Below wr.drew.heap.size wr.drew w4 → Calls Tryz.prog 70 #[.pointer (some ⟨x, 0, none⟩), .int .i64 at', .int .u64 0] w4 fun e w' => (∃ u, e = .returned u) ∧ QC w') := fun w4 k4 => by
            have hb4 : Below wr.heap.size wr w4 := (show Below wr.heap.size wr wr.drew from (Below.refl _ _).drew).trans k4
            refine (syn_store (HR.out.below hb4) HS1.out HBD.out at' 0 (fun _ => HAX.out)).mono ?_
            rintro e w' ⟨hu, v5, hK⟩
            refine ⟨hu, ?_⟩
            rw [hQC]
            refine ⟨hK.run, ?_, (HB.out.trans (But.of_below hb4)).trans hK.but, (HX.out.but (But.of_below (l := []) hb4) (by simp)).but hK.but (by simp; omega)⟩
            have h5 := hK.syn
            rw [HE.out.n1, if_neg hk2] at h5
            exact h5.weak (fun r hr => by rcases hr with rfl | hr; exact .inr ⟨.ch k, rfl, rfl, rfl⟩; exact hr)
          have HSC : Hid (∀ Y, But [x] w Y → Blk Y w.heap.size #[.int .i64 P, .int .i64 T, .int .i64 G] 23 → (Y.cell? ⟨w.heap.size, 0, none⟩ = some (.int .i64 P) ∧ Y.cell? ⟨w.heap.size, 1, none⟩ = some (.int .i64 T) ∧ Y.cell? ⟨w.heap.size, 2, none⟩ = some (.int .i64 G) ∧ Y.cell? ⟨b, off + k, none⟩ = some (.int .i64 yk))) := fun Y hY hBY => ⟨hBY.cell 0 rfl, hBY.cell 1 rfl, hBY.cell 2 rfl, HCY.out Y hY⟩
          have hH : Hid (wr.drew.cell? ⟨w.heap.size, 0, none⟩ = some (.int .i64 P) ∧ wr.drew.cell? ⟨w.heap.size, 1, none⟩ = some (.int .i64 T) ∧ wr.drew.cell? ⟨w.heap.size, 2, none⟩ = some (.int .i64 G) ∧ wr.drew.cell? ⟨b, off + k, none⟩ = some (.int .i64 yk)) := HSC.out _ HB.out.drew HX.out.drew
          have KB : Hid (∀ w4, Below wr.drew.heap.size wr.drew w4 → (w4.cell? ⟨w.heap.size, 0, none⟩ = some (.int .i64 P) ∧ w4.cell? ⟨w.heap.size, 1, none⟩ = some (.int .i64 T) ∧ w4.cell? ⟨w.heap.size, 2, none⟩ = some (.int .i64 G) ∧ w4.cell? ⟨b, off + k, none⟩ = some (.int .i64 yk))) := fun w4 k4 => by
            have hb4 : Below wr.heap.size wr w4 := (show Below wr.heap.size wr wr.drew from (Below.refl _ _).drew).trans k4
            exact HSC.out _ (HB.out.trans (But.of_below hb4)) (HX.out.but (But.of_below (l := []) hb4) (by simp))
          have KC : Hid (∀ w5, QC w5 → (w5.cell? ⟨w.heap.size, 0, none⟩ = some (.int .i64 P) ∧ w5.cell? ⟨w.heap.size, 1, none⟩ = some (.int .i64 T) ∧ w5.cell? ⟨w.heap.size, 2, none⟩ = some (.int .i64 G) ∧ w5.cell? ⟨b, off + k, none⟩ = some (.int .i64 yk))) := fun w5 hC => by
            rw [hQC] at hC
            exact HSC.out _ hC.2.2.1 hC.2.2.2
          have HQC : Hid (∀ w5, QC w5 → RunOn w5 x A cap m g (M.rj s0 g m (j + (k + 1))) ∧ Syn M s0 g m (j + (k + 1)) (emb (if k + 1 < l.length then .ch (k + 1) else .ld)) (QpE Q emb) ∧ But [x] w w5 ∧ Blk w5 w.heap.size #[.int .i64 P, .int .i64 T, .int .i64 G] 23) := fun w5 hC => by
            rw [hQC] at hC
            rw [if_neg hk2]
            exact hC
          clear hQC hat HLD HAX HR HS1 HB HX y0 y1 y2 cg
          go_wp2_with fail
          go_region_held3 (fun w' => w'.cell? ⟨w.heap.size, 0, none⟩ = some (.int .i64 P) ∧ w'.cell? ⟨w.heap.size, 1, none⟩ = some (.int .i64 T) ∧ w'.cell? ⟨w.heap.size, 2, none⟩ = some (.int .i64 G) ∧ w'.cell? ⟨b, off + k, none⟩ = some (.int .i64 yk)) (first | exact hH.out | exact KB.out _ ‹_› | exact KC.out _ ‹_›) (first | (go_at_call 71; refine HGAd.mono ?_; rintro e w4 ⟨rfl, k4⟩) | (go_at_call 70; refine (HSt.out _ ‹_›).mono ?_; rintro e w5 ⟨⟨u, rfl⟩, hC⟩))
          all_goals
            have HF : Hid _ := HQC.out _ hC
            clear HGAd HSt HSC hH KB KC HQC hC
            go_wp2_with fail
            go_roundw
            case rel => exact ⟨k + 1, by omega, by go_num, HF.out.1, HF.out.2.1, HF.out.2.2.1, HF.out.2.2.2⟩
            case measure => simp [intOf]; omega
      · obtain rfl : k = l.length := by omega
        have HS1 : Hid (Syn M s0 g m (j + l.length) (emb .ld) (QpE Q emb)) := by have := HS.out; rw [if_neg hlt] at this; exact this
        have hgd : decide ((l.length : Int) < (l.length : Int)) = false := by simp
        have hz0 : ((l.length : Int) == 0) = false := by rw [beq_eq_false_iff_ne]; omega
        have hz1 : decide ((l.length : Int) = 0) = false := decide_eq_false (by omega)
        have hL := syn_load HR.out HS1.out HBD.out 7 (fun _ => HE.out.ld)
        have HJ : Hid (∀ q : Nat, j ≤ j + l.length + q) := fun q => (by omega : j ≤ j + l.length + q)
        generalize j + l.length = j1 at *
        clear HS hlt hk HR HS1
        go_wp2_with fail
        go_at_call 72; refine hL.mono ?_; rintro e z2 ⟨t, rfl, hK⟩
        have htb := hK.bd
        have HR2 : Hid (RunOn z2 x A cap m g (M.rj s0 g m (j1 + 1))) := hK.run
        have HS2 : Hid (Syn M s0 g m (j1 + 1) (emb (.pt t)) (QpE Q emb)) := by
          have := hK.syn
          rw [HE.out.n2] at this
          exact this.weak (fun r hr => by rcases hr with rfl | hr; exact .inr ⟨.ld, rfl, rfl, rfl⟩; exact hr)
        have HB2 : Hid (But [x] w z2) := HB.out.trans hK.but
        have HX2 : Hid (Blk z2 w.heap.size #[.int .i64 P, .int .i64 T, .int .i64 G] 23) := HX.out.but hK.but (by simp; omega)
        clear hL hK HB HX
        have hy0 := HLB.out 0
        have hyl := HLB.out (l.length - 1)
        have HC0 : Hid (∀ Y, But [x] w Y → Y.cell? ⟨b, off, none⟩ = some (.int .i64 (l.getD 0 0))) := fun Y hY => HCL.out Y hY 0 h0
        have HCN : Hid (∀ Y, But [x] w Y → Y.cell? ⟨b, off + (l.length - 1), none⟩ = some (.int .i64 (l.getD (l.length - 1) 0))) := fun Y hY => HCL.out Y hY (l.length - 1) (by omega)
        have HPT : Hid (∀ t, M.ax (emb (.pt t)) = some (axSt (if t = 0 then 6 else wd (20 + P * 264 + T * 3) G 2 (gw t) 1) (l.getD 0 0 + 1))) := HE.out.pt
        have HTR : Hid (M.ax (emb .tr) = some (axSt 7 (l.getD (l.length - 1) 0 + 1))) := HE.out.tr
        generalize l.getD 0 0 = ya at *
        generalize l.getD (l.length - 1) 0 = yz at *
        have e1 : IntKind.u64.wrap ya = ya := wrap_u64 (by omega)
        have e2 : IntKind.u64.wrap (ya + 1) = ya + 1 := wrap_u64 (by omega)
        have e3 : IntKind.u64.wrap yz = yz := wrap_u64 (by omega)
        have e4 : IntKind.u64.wrap (yz + 1) = yz + 1 := wrap_u64 (by omega)
        have e5 : IntKind.u64.wrap (l.length : Int) = (l.length : Int) := wrap_u64 (by omega)
        have e6 : ((l.length : Int) - 1).toNat = l.length - 1 := by omega
        have e7 : (0 : Int) < (l.length : Int) := by omega
        have e8 : (l.length : Int) - 1 < (l.length : Int) := by omega
        have e9 : (0 : Int) ≤ (l.length : Int) - 1 := by omega
        by_cases t0 : t = 0
        · subst t0
          have cg := HC0.out z2 HB2.out
          have HP0 : Hid (M.ax (emb (.pt 0)) = some (axSt 6 (ya + 1))) := by have := HPT.out 0; rw [if_pos rfl] at this; exact this
          have hSt := syn_store HR2.out HS2.out HBD.out 6 (ya + 1) (fun _ => HP0.out)
          clear HPT HP0 htb
          go_wp2_with fail
          go_at_call 70; refine hSt.mono ?_; rintro e z4 ⟨⟨u4, rfl⟩, v4, hK⟩
          have HR4 : Hid (RunOn z4 x A cap m g (M.rj s0 g m (j1 + 1 + 1))) := hK.run
          have HS4 : Hid (Syn M s0 g m (j1 + 1 + 1) (emb .tr) (QpE Q emb)) := by
            have := hK.syn
            rw [HE.out.n3] at this
            exact this.weak (fun r hr => by rcases hr with rfl | hr; exact .inr ⟨.pt 0, rfl, rfl, rfl⟩; exact hr)
          have HB4 : Hid (But [x] w z4) := HB2.out.trans hK.but
          have s4 := HR4.out.blk.cell 2 (v := .bool (M.rj s0 g m (j1 + 1 + 1)).stop) rfl
          rw [rj_stop HS4.out] at s4
          have cz := HCN.out z4 HB4.out
          have hSt2 := syn_store HR4.out HS4.out HBD.out 7 (yz + 1) (fun _ => HTR.out)
          clear hSt hK cg HB2 HR2 HS2
          by_cases hm4 : m < j1 + 1 + 1
          · rw [decide_eq_true hm4] at s4
            have HM : Hid (m < j1 + 1 + 1) := hm4
            clear hm4
            go_wp2_with fail
            go_at_call 70; refine hSt2.mono ?_; rintro e z5 ⟨⟨u5, rfl⟩, v5, hK⟩
            have HB5 : Hid (But [x] w z5) := HB4.out.trans hK.but
            have HS5 : Hid (Syn M s0 g m (j1 + 1 + 1 + 1) (emb .ct) (QpQ Q emb l l)) := ⟨fun h => absurd h (by have := HM.out; omega), fun h => ⟨(HS4.out.past HM.out).1.q, (HS4.out.past HM.out).2⟩⟩
            have hA := syn_add hK.run HS5.out HBD.out 8 (l.length : Int) (fun _ => HE.out.ct)
            clear hSt2 hK s4 cz
            go_wp2_with fail
            go_at_call 73; refine hA.mono ?_; rintro e z6 ⟨v6, rfl, hK⟩
            have HF : Hid (QpGot M emb l w x A cap m g s0 Q j (.returned (.slice (some ⟨b, off, none⟩) l.length cp)) z6) := ⟨_, l, j1 + 1 + 1 + 1 + 1, .over, rfl, HSL.out.but (HB5.out.trans hK.but) (HSX.out (by omega)), hK.run, ⟨fun h => absurd h (by have := HM.out; omega), fun h => ⟨(HS5.out.past (by have := HM.out; omega)).1, (HS5.out.past (by have := HM.out; omega)).2⟩⟩, rfl, fun h => absurd h (by have := HM.out; omega), HB5.out.trans hK.but, HJ.out 4⟩
            clear hA hK
            go_wp2_with fail
            go_ret
            exact HF.out
          · rw [decide_eq_false hm4] at s4
            have HM : Hid (j1 + 1 + 1 ≤ m) := (by omega : j1 + 1 + 1 ≤ m)
            clear hm4
            go_wp2_with fail
            go_at_call 70; refine hSt2.mono ?_; rintro e z5 ⟨⟨u5, rfl⟩, v5, hK⟩
            have HB5 : Hid (But [x] w z5) := HB4.out.trans hK.but
            have HS5 : Hid (Syn M s0 g m (j1 + 1 + 1 + 1) (emb .ct) (QpQ Q emb l [])) := by
              have h5 := hK.syn
              rw [HE.out.n4] at h5
              refine ⟨h5.at', fun h => ⟨?_, (h5.past h).2⟩⟩
              have hmj : m = j1 + 1 + 1 := by have := HM.out; omega
              have h6 := HS4.out.at' HM.out
              rw [← hmj] at h6
              exact .inr ⟨.tr, rfl, h6, rfl⟩
            have hA := syn_add hK.run HS5.out HBD.out 8 (l.length : Int) (fun _ => HE.out.ct)
            clear hSt2 hK s4 cz
            go_wp2_with fail
            go_at_call 73; refine hA.mono ?_; rintro e z6 ⟨v6, rfl, hK⟩
            have HF : Hid (QpGot M emb l w x A cap m g s0 Q j (.returned (.slice none 0 0)) z6) := by
              have h7 := hK.syn
              rw [HE.out.n5] at h7
              exact ⟨_, [], j1 + 1 + 1 + 1 + 1, .over, rfl, ⟨none, 0, rfl, fun _ => ⟨rfl, rfl⟩, fun h => absurd h (by simp)⟩, hK.run, h7.weak (fun r hr => by rcases hr with rfl | hr; exact .inr ⟨.ct, rfl, rfl, rfl⟩; exact hr), rfl, fun _ => rfl, HB5.out.trans hK.but, HJ.out 4⟩
            clear hA hK
            go_wp2_with fail
            go_ret
            exact HF.out
        · have ht0 : (t == 0) = false := by simpa using t0
          have ht1 : (t != 0) = true := by simpa using t0
          have HP0 : Hid (M.ax (emb (.pt t)) = some (axSt (wd (20 + P * 264 + T * 3) G 2 (gw t) 1) (ya + 1))) := by have := HPT.out t; rw [if_neg t0] at this; exact this
          have hGA2 := HGA.out (gw t) z2
          have y0 := HX2.out.cell 0 (v := .int .i64 P) rfl
          have y1 := HX2.out.cell 1 (v := .int .i64 T) rfl
          have y2 := HX2.out.cell 2 (v := .int .i64 G) rfl
          have eg : wrap64 (IntKind.i64.wrap t - 1) = gw t := gw_eq t htb
          have HSt0 : Hid (∀ Y, Below z2.heap.size z2 Y → Calls Tryz.prog 70 #[.pointer (some ⟨x, 0, none⟩), .int .i64 (wd (20 + P * 264 + T * 3) G 2 (gw t) 1), .int .u64 (ya + 1)] Y fun e w' => (∃ v, e = .returned v) ∧ ∃ v, Kept' Y w' x A cap m g M s0 (j1 + 1) (emb (.pt t)) (QpE Q emb) v) := fun Y hY => syn_store (HR2.out.below hY) HS2.out HBD.out _ (ya + 1) (fun _ => HP0.out)
          generalize wd (20 + P * 264 + T * 3) G 2 (gw t) 1 = at' at *
          generalize gw t = gt at *
          generalize hvv : IntKind.i64.wrap t = t' at *
          clear HPT HP0
          go_wp2_with fail
          go_at_call 71; refine hGA2.mono ?_; rintro e z3 ⟨rfl, k3⟩
          have hSt := HSt0.out z3 k3
          have HB2 : Hid (But [x] w z3) := HB2.out.trans (But.of_below k3)
          have cg := HC0.out z3 HB2.out
          clear hGA2 HSt0 k3 y0 y1 y2 HX2 eg hvv
          go_wp2_with fail
          go_at_call 70; refine hSt.mono ?_; rintro e z4 ⟨⟨u4, rfl⟩, v4, hK⟩
          have HR4 : Hid (RunOn z4 x A cap m g (M.rj s0 g m (j1 + 1 + 1))) := hK.run
          have HS4 : Hid (Syn M s0 g m (j1 + 1 + 1) (emb .tr) (QpE Q emb)) := by
            have := hK.syn
            rw [HE.out.n3] at this
            exact this.weak (fun r hr => by rcases hr with rfl | hr; exact .inr ⟨.pt t, rfl, rfl, rfl⟩; exact hr)
          have HB4 : Hid (But [x] w z4) := HB2.out.trans hK.but
          have s4 := HR4.out.blk.cell 2 (v := .bool (M.rj s0 g m (j1 + 1 + 1)).stop) rfl
          rw [rj_stop HS4.out] at s4
          have cz := HCN.out z4 HB4.out
          have hSt2 := syn_store HR4.out HS4.out HBD.out 7 (yz + 1) (fun _ => HTR.out)
          clear hSt hK cg HB2 HR2 HS2
          by_cases hm4 : m < j1 + 1 + 1
          · rw [decide_eq_true hm4] at s4
            have HM : Hid (m < j1 + 1 + 1) := hm4
            clear hm4
            go_wp2_with fail
            go_at_call 70; refine hSt2.mono ?_; rintro e z5 ⟨⟨u5, rfl⟩, v5, hK⟩
            have HB5 : Hid (But [x] w z5) := HB4.out.trans hK.but
            have HS5 : Hid (Syn M s0 g m (j1 + 1 + 1 + 1) (emb .ct) (QpQ Q emb l l)) := ⟨fun h => absurd h (by have := HM.out; omega), fun h => ⟨(HS4.out.past HM.out).1.q, (HS4.out.past HM.out).2⟩⟩
            have hA := syn_add hK.run HS5.out HBD.out 8 (l.length : Int) (fun _ => HE.out.ct)
            clear hSt2 hK s4 cz
            go_wp2_with fail
            go_at_call 73; refine hA.mono ?_; rintro e z6 ⟨v6, rfl, hK⟩
            have HF : Hid (QpGot M emb l w x A cap m g s0 Q j (.returned (.slice (some ⟨b, off, none⟩) l.length cp)) z6) := ⟨_, l, j1 + 1 + 1 + 1 + 1, .over, rfl, HSL.out.but (HB5.out.trans hK.but) (HSX.out (by omega)), hK.run, ⟨fun h => absurd h (by have := HM.out; omega), fun h => ⟨(HS5.out.past (by have := HM.out; omega)).1, (HS5.out.past (by have := HM.out; omega)).2⟩⟩, rfl, fun h => absurd h (by have := HM.out; omega), HB5.out.trans hK.but, HJ.out 4⟩
            clear hA hK
            go_wp2_with fail
            go_ret
            exact HF.out
          · rw [decide_eq_false hm4] at s4
            have HM : Hid (j1 + 1 + 1 ≤ m) := (by omega : j1 + 1 + 1 ≤ m)
            clear hm4
            go_wp2_with fail
            go_at_call 70; refine hSt2.mono ?_; rintro e z5 ⟨⟨u5, rfl⟩, v5, hK⟩
            have HB5 : Hid (But [x] w z5) := HB4.out.trans hK.but
            have HS5 : Hid (Syn M s0 g m (j1 + 1 + 1 + 1) (emb .ct) (QpQ Q emb l [])) := by
              have h5 := hK.syn
              rw [HE.out.n4] at h5
              refine ⟨h5.at', fun h => ⟨?_, (h5.past h).2⟩⟩
              have hmj : m = j1 + 1 + 1 := by have := HM.out; omega
              have h6 := HS4.out.at' HM.out
              rw [← hmj] at h6
              exact .inr ⟨.tr, rfl, h6, rfl⟩
            have hA := syn_add hK.run HS5.out HBD.out 8 (l.length : Int) (fun _ => HE.out.ct)
            clear hSt2 hK s4 cz
            go_wp2_with fail
            go_at_call 73; refine hA.mono ?_; rintro e z6 ⟨v6, rfl, hK⟩
            have HF : Hid (QpGot M emb l w x A cap m g s0 Q j (.returned (.slice none 0 0)) z6) := by
              have h7 := hK.syn
              rw [HE.out.n5] at h7
              exact ⟨_, [], j1 + 1 + 1 + 1 + 1, .over, rfl, ⟨none, 0, rfl, fun _ => ⟨rfl, rfl⟩, fun h => absurd h (by simp)⟩, hK.run, h7.weak (fun r hr => by rcases hr with rfl | hr; exact .inr ⟨.ct, rfl, rfl, rfl⟩; exact hr), rfl, fun _ => rfl, HB5.out.trans hK.but, HJ.out 4⟩
            clear hA hK
            go_wp2_with fail
            go_ret
            exact HF.out
end Go.Proofs.YtiagkeakohkfgaaGreat

namespace Go.Proofs.YtiagkeakohkfgaaGreat
open Go Go.RowKit
set_option linter.unusedVariables false
set_option maxRecDepth 100000
set_option linter.unusedSimpArgs false

theorem rqput_on (w : World) (x : Nat) (A B : Option Addr) (cap cp m : Nat) (gf : Nat → Int) (P T G : Int) (l : List Int) (t : QpT) (h : RunOn w x A cap m gf rn0) (hh : Hist (qpPM (fun y => wd (20 + P * 264 + T * 3) G 2 y 1) l) (qpStart l) gf m t) (hp : 0 ≤ P ∧ P ≤ 64) (hT : 0 ≤ T ∧ T ≤ 65536) (hG : 0 ≤ G ∧ G ≤ 65536) (hn : l.length ≤ 1000000) (hbl : ∀ y ∈ l, 0 ≤ y ∧ y ≤ 1000000)
    (hs : SeesL w (.slice B l.length cp) l) (hsx : 0 < l.length → ∀ b off : Nat, B = some ⟨b, off, none⟩ → b ≠ x) :
    Calls Tryz.prog 14 #[.pointer (some ⟨x, 0, none⟩), .agg #[.int .i64 P, .int .i64 T, .int .i64 G], .slice B l.length cp] w fun e w' => ∃ v, e = .returned v ∧ SeesL w' v (if t.lies = true then [] else l) ∧ RunOn w' x A cap m gf ((qpPM (fun y => wd (20 + P * 264 + T * 3) G 2 y 1) l).rn t m) ∧ But [x] w w' := by
  rw [← rj_start (M := qpPM (fun y => wd (20 + P * 264 + T * 3) G 2 y 1) l) (s0 := qpStart l) (g := gf) (m := m)] at h
  refine (syn_qput (qp_in _ l) hp hT hG hn hbl hs hsx h (Syn.start _ _ _ _) hh.bd).mono ?_
  rintro e w' ⟨v, held, j', p, rfl, h0, h1, h2, h3, h4, h5, -⟩
  have hn' : (qpPM (fun y => wd (20 + P * 264 + T * 3) G 2 y 1) l).ax p = none := by cases p <;> first | rfl | cases h3
  have hr : held = if t.lies = true then [] else l := by
    rcases h2.fin hh (fun _ => hn') with ⟨e1, e2⟩ | ⟨-, (⟨hf, -⟩ | ⟨p', -, e1, e2⟩)⟩
    · rw [e1]; exact h4 (by omega)
    · exact hf.elim
    · rw [e1]; exact e2
  rw [← hr]
  refine ⟨v, rfl, h0, ?_, h5⟩
  rw [← rj_end h2 hh (fun _ => hn')]
  exact h1
theorem qp_axok (gl : Int → Int) (l : List Int) (hn : l.length ≤ 1000000) (hb : ∀ y ∈ l, 0 ≤ y ∧ y ≤ 1000000) : ∀ t a, (qpPM gl l).ax t = some a → a.Ok := by
  intro t a h
  cases t with
  | ch k =>
    cases h
    have := getD_bd hb (k + 1)
    refine axSt_ok _ _ ?_
    split <;> omega
  | ld => cases h; exact axLd_ok _
  | pt t => cases h; have := getD_bd hb 0; exact axSt_ok _ _ (by omega)
  | tr => cases h; have := getD_bd hb (l.length - 1); exact axSt_ok _ _ (by omega)
  | ct => cases h; exact axAd_ok _ _ (by omega)
  | over => cases h
  | done0 => cases h
theorem qp_new_any (w : World) (cl : Nat) (who P T G : Int) (sl : Value) (l : List Int) (hs : SeesL w sl l) (hn : l.length ≤ 1000000) (hb : ∀ y ∈ l, 0 ≤ y ∧ y ≤ 1000000) (hl : Lay w cl P T G) (hp : 0 ≤ P ∧ P ≤ 64) (hT : 0 ≤ T ∧ T ≤ 65536) (hG : 0 ≤ G ∧ G ≤ 65536) :
    Calls Tryz.prog 12 #[.pointer (some ⟨cl, 0, none⟩), .int .i64 who, sl] w fun e w' => ∃ x L, e = .returned (.pointer (some ⟨x, 0, none⟩)) ∧ qpI who cl (fun y => wd (20 + P * 264 + T * 3) G 2 y 1) l w' x (qpStart l) L ∧ Below w.heap.size w w' ∧ (∀ k ∈ L, w.heap.size ≤ k) := by
  by_cases h0 : l = []
  · subst h0
    refine (qp_new_nil w cl who (fun y => wd (20 + P * 264 + T * 3) G 2 y 1) sl hs).mono ?_
    rintro e w' ⟨x, L, h1, h2, h3, h4, -⟩
    exact ⟨x, L, h1, h2, h3, h4⟩
  · refine (qp_new_some w cl who P T G sl l hs (List.length_pos_iff.2 h0) hn hb hl hp hT hG).mono ?_
    rintro e w' ⟨x, L, h1, h2, h3, h4, -⟩
    refine ⟨x, L, h1, ?_, h3, h4⟩
    rw [show qpStart l = .ch 0 from if_neg h0]
    exact h2
def knownL (G : Int) (l : List Int) : Bool := l.all (fun y => decide (0 ≤ y ∧ y < G))
set_option maxHeartbeats 4000000 in
theorem known_any (w : World) (P T G : Int) (B : Option Addr) (cp : Nat) (l : List Int) (hs : SeesL w (.slice B l.length cp) l) (hn : l.length ≤ 1000000) :
    Calls Tryz.prog 10 #[.agg #[.int .i64 P, .int .i64 T, .int .i64 G], .slice B l.length cp] w fun e w' => e = .returned (.bool (knownL G l)) ∧ Below w.heap.size w w' := by
  have hb0 : Below w.heap.size w (w.alloc (.cells #[.int .i64 P, .int .i64 T, .int .i64 G] 23)) := (Below.refl _ _).alloc (Nat.le_refl _) _
  have HX : Hid (Blk (w.alloc (.cells #[.int .i64 P, .int .i64 T, .int .i64 G] 23)) w.heap.size #[.int .i64 P, .int .i64 T, .int .i64 G] 23) := Blk.new _ _ _
  have HSL : Hid (SeesL (w.alloc (.cells #[.int .i64 P, .int .i64 T, .int .i64 G] 23)) (.slice B l.length cp) l) := hs.below hb0
  have HB0 : Hid (Below w.heap.size w (w.alloc (.cells #[.int .i64 P, .int .i64 T, .int .i64 G] 23))) := hb0
  clear hs hb0
  go_enter Tryz.func10, Tryz.ntmps10
  go_wp2_with fail
  generalize w.alloc (.cells #[.int .i64 P, .int .i64 T, .int .i64 G] 23) = W at *
  go_loopw [5] (fun i wr => ∃ k q : Nat, k ≤ l.length ∧ i = .int .i64 k ∧ wr = W.drewN q ∧ (l.take k).all (fun y => decide (0 ≤ y ∧ y < G)) = true) (fun i _ => l.length - (intOf i).toNat)
  case atStart => exact ⟨0, 0, Nat.zero_le _, rfl, rfl, rfl⟩
  case round =>
    obtain ⟨k, q, hk, rfl, rfl, hall⟩ := hrel
    have HALL : Hid ((l.take k).all (fun y => decide (0 ≤ y ∧ y < G)) = true) := hall
    clear hall
    by_cases hlt : k < l.length
    · obtain ⟨b, off, rfl, hbb, hcl⟩ : ∃ b off : Nat, B = some ⟨b, off, none⟩ ∧ b < W.heap.size ∧ ∀ j, j < l.length → W.cell? ⟨b, off + j, none⟩ = some (.int .i64 (l.getD j 0)) := by
        obtain ⟨A', cap', e, h1, h2⟩ := HSL.out
        cases e
        exact h2 (by omega)
      have cg := hcl k hlt
      have hk0 : (0 : Int) ≤ (k : Int) := by omega
      have hk1 : (k : Int) < (l.length : Int) := by omega
      have z2 := HX.out.cell 2 (v := .int .i64 G) rfl
      have HTK : Hid (l.take (k + 1) = l.take k ++ [l.getD k 0]) := by
        show l.take (k + 1) = _
        rw [List.take_add_one, List.getD_eq_getElem?_getD, List.getElem?_eq_getElem hlt]
        rfl
      have HMEM : Hid (l.getD k 0 ∈ l) := by
        show l.getD k 0 ∈ l
        rw [List.getD_eq_getElem?_getD, List.getElem?_eq_getElem hlt]
        exact List.getElem_mem hlt
      generalize l.getD k 0 = y at *
      clear hcl
      by_cases hneg : y < 0
      · have d1 : decide (y < 0) = true := decide_eq_true hneg
        have HF : Hid (knownL G l = false) := by
          show knownL G l = false
          unfold knownL
          rw [List.all_eq_false]
          exact ⟨y, HMEM.out, by simp; omega⟩
        have HBF : Hid (∀ q, Below w.heap.size w (W.drewN q)) := fun q => Below.drewN' HB0.out q
        go_wp2_with fail
        go_quiet (fail)
        go_wp2_with fail
        go_ret
        rw [HF.out]
        exact ⟨rfl, Below.drewN' (HBF.out _) _⟩
      · have d1 : decide (y < 0) = false := decide_eq_false hneg
        by_cases hbig : G ≤ y
        · have d2 : decide (G ≤ y) = true := decide_eq_true hbig
          have HF : Hid (knownL G l = false) := by
            show knownL G l = false
            unfold knownL
            rw [List.all_eq_false]
            exact ⟨y, HMEM.out, by simp; omega⟩
          have HBF : Hid (∀ q, Below w.heap.size w (W.drewN q)) := fun q => Below.drewN' HB0.out q
          go_wp2_with fail
          go_quiet (fail)
          go_wp2_with fail
          go_ret
          rw [HF.out]
          exact ⟨rfl, Below.drewN' (HBF.out _) _⟩
        · have d2 : decide (G ≤ y) = false := decide_eq_false hbig
          have HF : Hid ((l.take (k + 1)).all (fun y => decide (0 ≤ y ∧ y < G)) = true) := by
            show (l.take (k + 1)).all _ = true
            rw [HTK.out, List.all_append, HALL.out]
            simp; omega
          go_wp2_with fail
          go_quiet (fail)
          go_wp2_with fail
          go_roundw
          case rel => exact ⟨k + 1, _, by omega, by go_num, rfl, HF.out⟩
          case measure => simp [intOf]; omega
    · obtain rfl : k = l.length := by omega
      have HF : Hid (knownL G l = true) := by
        have := HALL.out
        rw [List.take_length] at this
        exact this
      have HBF : Hid (Below w.heap.size w (W.drewN q)) := Below.drewN' HB0.out q
      have hgd : decide ((l.length : Int) < (l.length : Int)) = false := by simp
      go_wp2_with fail
      go_ret
      rw [HF.out]
      exact ⟨rfl, HBF.out⟩
end Go.Proofs.YtiagkeakohkfgaaGreat

namespace Go.Proofs.YtiagkeakohkfgaaGreat
open Go Go.RowKit
set_option linter.unusedVariables false
set_option maxRecDepth 100000
set_option linter.unusedSimpArgs false

set_option maxHeartbeats 4000000 in
theorem rlist13_any (w : World) (A : Option Addr) (cap c b n : Nat) (s : St) (P T G : Int) (hI : Is w 62 A cap c b n s) (hn : (n : Int) = 20 + 264 * P + 3 * T + 2 * G) (hp : 0 ≤ P ∧ P ≤ 64) (hT : 0 ≤ T ∧ T ≤ 65536) (hG : 0 ≤ G ∧ G ≤ 65536) :
    Calls Tryz.prog 22 #[.agg #[.int .i64 P, .int .i64 T, .int .i64 G], .pointer (some ⟨c, 0, none⟩)] w fun e w' => ∃ v, e = .returned (.tuple #[v, .bool (lsOf (fun g => peekT n s (wd (20 + P * 264 + T * 3) G 2 g 1)) G (peekT n s 6)).2]) ∧ IntsOn w' (w.heap.size + 1) v (lsOf (fun g => peekT n s (wd (20 + P * 264 + T * 3) G 2 g 1)) G (peekT n s 6)).1 ∧ Below w.heap.size w w' := by
  obtain ⟨i0, hi, hz0, hz1, hz2⟩ := info_parts lists_info3
  have hn6 : n ≤ 1000000 := by omega
  have hb0 : Below w.heap.size w (w.alloc (.cells #[.int .i64 P, .int .i64 T, .int .i64 G] 23)) := (Below.refl _ _).alloc (Nat.le_refl _) _
  have HX : Hid (Blk (w.alloc (.cells #[.int .i64 P, .int .i64 T, .int .i64 G] 23)) w.heap.size #[.int .i64 P, .int .i64 T, .int .i64 G] 23) := Blk.new _ _ _
  have HI : Hid (∀ W, Below w.heap.size w W → Is W 62 A cap c b n s) := fun W h => hI.below h
  have HPB : Hid (∀ i, 0 ≤ peekT n s i ∧ peekT n s i ≤ 18446744073709551615) := fun i => by
    unfold peekT
    split
    · exact hI.bd _ (by omega)
    · omega
  have HGA : Hid (∀ g W, Calls Tryz.prog 71 #[.agg #[.int .i64 P, .int .i64 T, .int .i64 G], .int .i64 g, .int .i64 1] W fun e w' => e = .returned (.int .i64 (wd (20 + P * 264 + T * 3) G 2 g 1)) ∧ Below W.heap.size W w') := fun g W => refgAt_any P T G g 1 W hp hT hG.2 (by omega)
  have HIS : Hid (∀ v, 0 ≤ v ∧ v ≤ 18446744073709551615 → v ≠ 0 → (v ≤ G → gw v = v - 1) ∧ decide (0 ≤ wd (20 + P * 264 + T * 3) G 2 (gw v) 1 ∧ wd (20 + P * 264 + T * 3) G 2 (gw v) 1 < n) = decide (v ≤ G)) := fun v hv h0 => is_word P T G n v hn hp hT hG hv h0
  have HB0 : Hid _ := hb0
  have hP1 := rpeek_any (w.alloc (.cells #[.int .i64 P, .int .i64 T, .int .i64 G] 23)) A cap c b n s 6 hn6 (hI.below hb0)
  have HR : Hid (∃ r, lsOf (fun g => peekT n s (wd (20 + P * 264 + T * 3) G 2 g 1)) G (peekT n s 6) = r) := ⟨_, rfl⟩
  obtain ⟨r, hr⟩ := HR.out
  rw [hr]
  have HNX : Hid (∃ pl : Int → Int, (fun g => wd (20 + P * 264 + T * 3) G 2 g 1) = pl) := ⟨_, rfl⟩
  obtain ⟨pl, hpl⟩ := HNX.out
  have hplg : ∀ g, wd (20 + P * 264 + T * 3) G 2 g 1 = pl g := fun g => congrFun hpl g
  simp only [hplg] at HGA HIS hr
  clear hI HR HNX hb0 hp hT hpl hplg hn
  go_enter Tryz.func22, Tryz.ntmps22
  go_wp2_with fail
  have hsz : (w.alloc (.cells #[.int .i64 P, .int .i64 T, .int .i64 G] 23)).heap.size = w.heap.size + 1 := World.size_alloc _ _
  generalize w.alloc (.cells #[.int .i64 P, .int .i64 T, .int .i64 G] 23) = W at *
  go_at_call 75; refine hP1.mono ?_; rintro e w2 ⟨rfl, hw2⟩
  subst hw2
  have HW0 : Hid (0 ≤ peekT n s 6 ∧ peekT n s 6 ≤ 18446744073709551615) := HPB.out 6
  have HR0 : Hid (lsGo (fun g => peekT n s (pl g)) G (G.toNat + 1) [] (peekT n s 6) = r) := hr
  generalize peekT n s 6 = fw at *
  clear hP1 hr
  go_wp2_with fail
  go_loopw [6, 7, 9] (fun v x k wr => ∃ (acc : List Int) (wv : Int), x = .int .u64 wv ∧ k = .int .i64 acc.length ∧ Hid (0 ≤ wv ∧ wv ≤ 18446744073709551615) ∧ Hid (wr.ownsRow (w.heap.size + 1) 3 1 v acc.length (acc.map (Value.int .i64))) ∧
      Hid (Below w.heap.size w wr) ∧ w.heap.size + 1 ≤ wr.heap.size ∧ Hid (Blk wr w.heap.size #[.int .i64 P, .int .i64 T, .int .i64 G] 23) ∧ Hid (acc.Nodup ∧ ∀ y ∈ acc, 0 ≤ y ∧ y < G) ∧ acc.length ≤ G.toNat ∧ Hid (lsGo (fun g => peekT n s (pl g)) G (G.toNat + 1 - acc.length) acc wv = r))
    (fun _ _ k _ => G.toNat + 1 - (intOf k).toNat)
  case atStart => exact ⟨[], fw, rfl, rfl, HW0, World.ownsRow_nil _ _ _ _, HB0, by omega, HX, ⟨List.nodup_nil, by simp⟩, by simp, HR0⟩
  case round =>
    clear HW0 HR0 HB0 HX
    obtain ⟨acc, wv, rfl, rfl, HWB, HO, HB, hsz2, HK, HN, hlen, HRR⟩ := hrel
    have k2 := HK.out.cell 2 (v := .int .i64 G) rfl
    have hlG : (acc.length : Int) ≤ G := by omega
    by_cases h0 : wv = 0
    · subst h0
      have HE : Hid (r = (acc, true)) := by
        have := HRR.out
        obtain ⟨f, hf⟩ : ∃ f, G.toNat + 1 - acc.length = f + 1 := ⟨G.toNat - acc.length, by omega⟩
        rw [hf] at this
        exact this.symm.trans (if_pos rfl)
      clear HRR
      go_wp2_with fail
      go_returns
      rw [HE.out]
      exact ⟨_, rfl, ⟨HO.out⟩, HB.out⟩
    · have hd0 : (wv == 0) = false := by simpa using h0
      have hd1 : (wv != 0) = true := by simpa using h0
      obtain ⟨q1, q2⟩ := HIS.out wv HWB.out h0
      have e1 : wrap64 (IntKind.i64.wrap wv - 1) = gw wv := gw_eq wv HWB.out
      have hGA := HGA.out (gw wv)
      have HQ1 : Hid (wv ≤ G → gw wv = wv - 1) := q1
      have HH0 : Hid (wv ≠ 0) := h0
      have k0 := HK.out.cell 0 (v := .int .i64 P) rfl
      have k1 := HK.out.cell 1 (v := .int .i64 T) rfl
      generalize hgg : gw wv = gv at *
      have HGG : Hid (gw wv = gv) := hgg
      clear q1 hgg
      generalize hii : IntKind.i64.wrap wv = iv at *
      go_wp2_with fail
      go_at_call 71; refine (hGA _).mono ?_; rintro e w3 ⟨rfl, h3⟩
      have HB3 : Hid (Below w.heap.size w w3) := seq HB.out h3
      have HO3 : Hid (w3.ownsRow (w.heap.size + 1) 3 1 _ acc.length (acc.map (Value.int .i64))) := row_below HO.out h3
      have HK3 : Hid (Blk w3 w.heap.size #[.int .i64 P, .int .i64 T, .int .i64 G] 23) := HK.out.but (But.of_below (l := []) h3) (by simp)
      have hs3 : w.heap.size + 1 ≤ w3.heap.size := Nat.le_trans hsz2 h3.size
      have hP := rpeek_any w3 A cap c b n s (pl gv) hn6 (HI.out w3 HB3.out)
      rw [q2] at hP
      clear hGA h3 HB HO HK k0 k1 k2 q2
      by_cases hle : wv ≤ G
      · rw [decide_eq_true hle] at hP
        have HLE : Hid (wv ≤ G) := hle
        have hgv : gv = wv - 1 := HQ1.out hle
        have HGV : Hid (gv = wv - 1) := hgv
        have HPV : Hid (0 ≤ peekT n s (pl gv) ∧ peekT n s (pl gv) ≤ 18446744073709551615) := HPB.out _
        have HNXT : Hid (∀ f, (wv - 1) ∉ acc → lsGo (fun g => peekT n s (pl g)) G (f + 1) acc wv = lsGo (fun g => peekT n s (pl g)) G f (acc ++ [gv]) (peekT n s (pl gv))) := fun f hf => by
          rw [lsGo, if_neg HH0.out, if_neg (fun h => by rcases h with h | h; exact hf h; have := HLE.out; omega), ← HGV.out]
        generalize peekT n s (pl gv) = nv at *
        clear hle hgv
        go_wp2_with fail
        go_at_call 75; refine hP.mono ?_; rintro e w4 ⟨rfl, hw4⟩
        subst hw4
        clear hP
        go_wp2_with fail
        go_loopw [13] (fun i wi => ∃ j : Nat, j ≤ acc.length ∧ i = .int .i64 j ∧ wi = w3 ∧ Hid (∀ q, q < j → acc.getD q 0 ≠ gv)) (fun i _ => acc.length - (intOf i).toNat)
        case atStart => exact ⟨0, Nat.zero_le _, rfl, rfl, fun q hq => absurd hq (Nat.not_lt_zero q)⟩
        case round =>
          obtain ⟨j, hj, rfl, rfl, HNE⟩ := hrel
          obtain ⟨Ao, co, hvo⟩ := lists_slice HO3.out
          by_cases hlt : j < acc.length
          · obtain ⟨gb, cp, hv2, hc2⟩ := IntsOn.cell ⟨HO3.out⟩ hlt
            subst hv2
            have hj0 : (0 : Int) ≤ (j : Int) := by omega
            have hj1 : (j : Int) < (acc.length : Int) := by omega
            have HMEM : Hid (acc.getD j 0 ∈ acc) := by
              rw [List.getD_eq_getElem?_getD, List.getElem?_eq_getElem hlt]
              exact List.getElem_mem _
            have HJ : Hid (∃ o, acc.getD j 0 = o) := ⟨_, rfl⟩
            obtain ⟨o, ho⟩ := HJ.out
            rw [ho] at hc2
            have HOO : Hid (acc.getD j 0 = o) := ho
            clear ho HJ hvo
            by_cases heq : o = gv
            · subst heq
              have HE : Hid (r = (acc, false)) := by
                have h1 := HRR.out
                obtain ⟨f, hf⟩ : ∃ f, G.toNat + 1 - acc.length = f + 1 := ⟨G.toNat - acc.length, by omega⟩
                rw [hf, lsGo, if_neg HH0.out, if_pos (.inl (by rw [← HGV.out, ← HOO.out]; exact HMEM.out))] at h1
                exact h1.symm
              clear HRR
              go_wp2_with fail
              go_returns
              rw [HE.out]
              exact ⟨_, rfl, ⟨HO3.out⟩, HB3.out⟩
            · have hdq : decide (o = gv) = false := decide_eq_false heq
              have HNE2 : Hid (∀ q, q < j + 1 → acc.getD q 0 ≠ gv) := fun q hq => by
                by_cases h : q < j
                · exact HNE.out q h
                · obtain rfl : q = j := by omega
                  rw [HOO.out]; exact heq
              clear HNE
              go_wp2_with fail
              go_roundw
              case rel => exact ⟨j + 1, by omega, by go_num, trivial, HNE2⟩
              case measure => simp [intOf]; omega
          · obtain rfl : j = acc.length := by omega
            have hnin : (wv - 1) ∉ acc := fun hm => by
              obtain ⟨q, hq, he⟩ := List.mem_iff_getElem.1 hm
              refine HNE.out q hq ?_
              rw [List.getD_eq_getElem?_getD, List.getElem?_eq_getElem hq]
              simp only [Option.getD_some]
              rw [he, HGV.out]
            have hN2 : (acc ++ [gv]).Nodup ∧ ∀ y ∈ acc ++ [gv], 0 ≤ y ∧ y < G := by
              have h1 := HGV.out
              have h2 := HLE.out
              have h3 := HWB.out
              have h4 := HH0.out
              refine ⟨List.nodup_append.2 ⟨HN.out.1, by simp, ?_⟩, fun y hy => ?_⟩
              · intro a ha b hb
                simp at hb
                rintro rfl
                exact hnin (by rw [← h1, ← hb]; exact ha)
              · rcases List.mem_append.1 hy with hy | hy
                · exact HN.out.2 y hy
                · simp at hy; omega
            have hlen2 : acc.length + 1 ≤ G.toNat := by
              have := nodup_room G.toNat _ hN2.1 (fun x hx => by have := hN2.2 x hx; omega)
              simpa using this
            have HN2 : Hid _ := hN2
            have HE : Hid (lsGo (fun g => peekT n s (pl g)) G (G.toNat + 1 - (acc.length + 1)) (acc ++ [gv]) nv = r) := by
              have h1 := HRR.out
              rw [show G.toNat + 1 - acc.length = (G.toNat + 1 - (acc.length + 1)) + 1 by omega, HNXT.out _ hnin] at h1
              exact h1
            have hml : acc.length + 1 < maxLen := by unfold maxLen; omega
            have hO3 := HO3.out
            have hd9 : decide ((acc.length : Int) < (acc.length : Int)) = false := by simp
            clear HNE hnin hN2 HNXT HRR
            go_wp2_with (at_builtin; refine wpList_append_own _ rfl _ _ 27 rfl (w.heap.size + 1) 3 i0 (.int .i64 0) 1 8 Tryz.underlying27 hi hz0 hz1 hz2 rfl (by decide) _ _ _ rfl (hO3.alloc _) ⟨_, 0, none⟩ 1 1 [.int .i64 gv] rfl rfl (cell_one_new _ _ _) (ints_oneCell .i64 [gv]) (by unfold maxLen; omega) (by omega) (by simp; omega) ?_; intro v' w5 hown' hgrow2 hnil2)
            have s2 := hgrow2.size
            simp at s2
            have HO5 : Hid (w5.ownsRow (w.heap.size + 1) 3 1 v' (acc.length + 1) (List.map (Value.int .i64) acc ++ [Value.int .i64 gv])) := hown'
            have HB5 : Hid (Below w.heap.size w w5) := (HB3.out.alloc HB3.out.size _).grown hgrow2 (by simp; omega) (fun j hj => Nat.le_trans (Nat.le_succ _) (hO3.lt j hj).1)
            have HK5 : Hid (Blk w5 w.heap.size #[.int .i64 P, .int .i64 T, .int .i64 G] 23) := (HK3.out.al _).keep (hgrow2.block _ (by have := HK3.out.lt; simp; omega) (fun e => by have := (hO3.lt _ e.symm).1; omega))
            have hs5 : w.heap.size + 1 ≤ w5.heap.size := by omega
            clear hown' hgrow2 hnil2 s2 hO3 HO3 HB3 HK3 hvo
            go_wp2_with fail
            go_roundw
            case rel =>
              refine ⟨acc ++ [gv], nv, rfl, by rw [List.length_append]; go_num, HPV, ?_, HB5, hs5, HK5, HN2, by simpa using hlen2, by rw [List.length_append]; exact HE.out⟩
              have := HO5.out
              rw [List.length_append, List.map_append]
              exact this
            case measure => simp [intOf]; omega
      · rw [decide_eq_false hle] at hP
        have HE : Hid (r = (acc, false)) := by
          have h1 := HRR.out
          obtain ⟨f, hf⟩ : ∃ f, G.toNat + 1 - acc.length = f + 1 := ⟨G.toNat - acc.length, by omega⟩
          rw [hf, lsGo, if_neg h0, if_pos (.inr (by omega))] at h1
          exact h1.symm
        clear HRR hle
        generalize peekT n s (pl gv) = nv at *
        go_wp2_with fail
        go_at_call 75; refine hP.mono ?_; rintro e w4 ⟨rfl, hw4⟩
        subst hw4
        clear hP
        go_wp2_with fail
        go_returns
        rw [HE.out]
        exact ⟨_, rfl, ⟨HO3.out⟩, HB3.out⟩
end Go.Proofs.YtiagkeakohkfgaaGreat

namespace Go.Proofs.YtiagkeakohkfgaaGreat
open Go Go.ChangeShapes Go.WideShapes Go.ChangeAt Go.RowKit Go.Joins Go.Deep
set_option linter.unusedVariables false
set_option maxRecDepth 100000
set_option linter.unusedSimpArgs false
theorem sees_list {H : Type} {enc : TypeId × Value → H} {P : Program} {W : World} {base b0 : Nat} {t e : TypeId} {v : Value} {d : DataW H} {p : List MemPlace} (ht : P.underlying t = some (.slice e)) (he : P.underlying e = some (.int .i64)) (hc : P.cellsOf e = 1)
    (hv : Value.okWide P W .any b0 t v) (h : DataW.Trod enc P W base (fun _ => true) true t v d p) :
    ∃ (A : Option Addr) (cap : Nat) (l : List Int), v = .slice A l.length cap ∧ l.length ≤ maxLen ∧ SeesL W (.slice A l.length cap) l := by
  obtain ⟨A, n, cap, rfl⟩ := okWide_slice ht hv
  obtain ⟨fuel, hf⟩ := h
  rcases open_ints ht he hc hf with ⟨hcs, _⟩ | ⟨x, l, c, zs, hcs, _, hl, hm, hz, _, hcell, hwz⟩
  · simp [Value.cells] at hcs
    obtain ⟨rfl, rfl, rfl⟩ := hcs
    exact ⟨none, 0, [], rfl, Nat.zero_le _, none, 0, rfl, fun _ => ⟨rfl, rfl⟩, fun h => absurd h (Nat.lt_irrefl 0)⟩
  · simp [Value.cells] at hcs
    obtain ⟨rfl, rfl, rfl⟩ := hcs
    have hz' : zs.length = cap := by simpa using hz
    have hln : (zs.take n).length = n := by rw [List.length_take]; omega
    refine ⟨some x, cap, zs.take n, by rw [hln], by rw [hln]; exact Nat.le_trans hl hm, some x, cap, rfl, (fun h => by cases h), fun hn => ?_⟩
    rw [hln] at hn
    obtain ⟨b, off, spot⟩ := x
    have hs : spot = none := by
      have := hcell 0 (by omega)
      simpa [Addr.add] using World.cell?_spot this
    subst hs
    have hc0 := hcell 0 (by omega)
    simp [Addr.add] at hc0
    refine ⟨b, off, rfl, cell_lt hc0, fun i hi => ?_⟩
    rw [hln] at hi
    have h1 := hcell i (by omega)
    have h2 : (zs.take n).getD i 0 = zs.getD i 0 := by
      rw [List.getD_eq_getElem?_getD, List.getD_eq_getElem?_getD, List.getElem?_take_of_lt hi]
    rw [h2]
    by_cases h0 : i = 0
    · subst h0; simpa [Addr.add] using h1
    · simpa [Addr.add, h0] using h1
theorem lsGo_len (nx : Int → Int) (many : Int) : ∀ (f : Nat) (acc : List Int) (w : Int), (lsGo nx many f acc w).1.length ≤ acc.length + f
  | 0, acc, w => Nat.le_refl _
  | f + 1, acc, w => by
    unfold lsGo
    split
    · show acc.length ≤ _; omega
    · split
      · show acc.length ≤ _; omega
      · have := lsGo_len nx many f (acc ++ [w - 1]) (nx (w - 1))
        rw [List.length_append] at this
        simp at this
        omega
theorem lsOf_len (nx : Int → Int) (many w : Int) (h : 0 ≤ many ∧ many ≤ 65536) : (lsOf nx many w).1.length ≤ 1000000 := by
  have := lsGo_len nx many (many.toNat + 1) [] w
  unfold lsOf
  simp at this
  omega
end Go.Proofs.YtiagkeakohkfgaaGreat

namespace Go.Proofs.YtiagkeakohkfgaaGreat
open Go Go.RowKit
set_option linter.unusedVariables false
set_option maxRecDepth 100000
set_option linter.unusedSimpArgs false

theorem globqPuts_bad (P T G : Int) (B : Option Addr) (cpl : Nat) (l : List Int) (E F : Option Addr) (m cp mp cq : Nat) (a v : Nat → Int) (w : World) (hAw : ∀ w, Calls Tryz.prog 11 #[] w fun e w' => e = .returned (.bool true) ∧ Below w.heap.size w w') (hm : m ≤ 9223372036854775807) (hmp : mp ≤ 9223372036854775807) (hgs : SeesL w (.slice B l.length cpl) l) (hs : SeesP w w.heap.size E m a v) (hv : ∀ i, i < m → 0 ≤ v i ∧ v i ≤ 18446744073709551615) (h : (¬ FewC P T G ∨ 400 < m) ∨ 100 < mp ∨ 60 < l.length ∨ knownL G l = false) :
    Calls Tryz.prog 3 #[.agg #[.int .i64 P, .int .i64 T, .int .i64 G, .slice E m cp], .slice B l.length cpl, .slice F mp cq] w fun e w' => e = .returned (.bool true) ∧ Below w.heap.size w w' := by
  have hsz : (w.alloc (.cells #[.int .i64 P, .int .i64 T, .int .i64 G, .slice E m cp] 26)).heap.size = w.heap.size + 1 := by simp
  have HB : Hid (Below w.heap.size w (w.alloc (.cells #[.int .i64 P, .int .i64 T, .int .i64 G, .slice E m cp] 26))) := (Below.refl _ _).alloc (Nat.le_refl _) _
  have hX0 : Hid (Blk (w.alloc (.cells #[.int .i64 P, .int .i64 T, .int .i64 G, .slice E m cp] 26)) w.heap.size #[.int .i64 P, .int .i64 T, .int .i64 G, .slice E m cp] 26) := (Blk.new w #[.int .i64 P, .int .i64 T, .int .i64 G, .slice E m cp] 26)
  have HAW : Hid (∀ w, Calls Tryz.prog 11 #[] w fun e w' => e = .returned (.bool true) ∧ Below w.heap.size w w') := hAw
  clear hAw
  by_cases hf : ¬ FewC P T G ∨ 400 < m
  · have hL := lay_none P T G E m cp (w.alloc (.cells #[.int .i64 P, .int .i64 T, .int .i64 G, .slice E m cp] 26)) hm hf
    clear h hf hs hv
    go_enter Tryz.func3, Tryz.ntmps3
    go_wp2_with fail
    generalize (w.alloc (.cells #[.int .i64 P, .int .i64 T, .int .i64 G, .slice E m cp] 26)) = W at *
    go_at_call 9; refine hL.mono ?_; rintro e w1 ⟨rfl, hLd⟩
    have hbl : Below W.heap.size W w1 := hLd
    have HB1 : Hid (Below w.heap.size w w1) := HB.out.trans (hbl.mono (by omega))
    have hY0 := hX0.out.but (But.of_below (l := []) hbl) (by simp)
    have zP := hY0.cell 0 (v := .int .i64 P) rfl
    have zT := hY0.cell 1 (v := .int .i64 T) rfl
    have zG := hY0.cell 2 (v := .int .i64 G) rfl
    clear hL hbl hLd hY0
    go_wp2_with fail
    go_at_call 11; refine (HAW.out _).mono ?_; rintro e w2 ⟨rfl, h2⟩
    have h3 := seq HB1.out h2
    go_wp2_with fail
    go_ret
    exact ⟨rfl, h3⟩
  · have hF : FewC P T G := Decidable.byContradiction fun h => hf (.inl h)
    have hm4 : m ≤ 400 := by omega
    have hM := hF.h.1.h
    obtain ⟨n, hn⟩ : ∃ n : Nat, (n : Int) = 20 + 264 * P + 3 * T + 2 * G := ⟨(20 + 264 * P + 3 * T + 2 * G).toNat, by omega⟩
    have hL := lay_some P T G E m cp n a v _ hm4 hF hn (hs.up (.cells #[.int .i64 P, .int .i64 T, .int .i64 G, .slice E m cp] 26)) hv
    have htt : 100 < mp ∨ 60 < l.length ∨ knownL G l = false := by rcases h with h | h; exact absurd h hf; exact h
    clear h hf hs hv hn hF hM
    by_cases q1 : 100 < mp
    · clear htt
      have e1 : decide ((100 : Int) < (mp : Int)) = true := decide_eq_true (by omega)
      go_enter Tryz.func3, Tryz.ntmps3
      go_wp2_with fail
      generalize (w.alloc (.cells #[.int .i64 P, .int .i64 T, .int .i64 G, .slice E m cp] 26)) = W at *
      go_at_call 9; refine hL.mono ?_; rintro e w1 ⟨cl, A, A', cap, cap', c, b, c', b', rfl, hLd⟩
      have hbl : Below W.heap.size W w1 := hLd.below
      have HB1 : Hid (Below w.heap.size w w1) := HB.out.trans (hbl.mono (by omega))
      have hY0 := hX0.out.but (But.of_below (l := []) hbl) (by simp)
      have zP := hY0.cell 0 (v := .int .i64 P) rfl
      have zT := hY0.cell 1 (v := .int .i64 T) rfl
      have zG := hY0.cell 2 (v := .int .i64 G) rfl
      clear hL hbl hLd hY0
      go_wp2_with fail
      go_at_call 11; refine (HAW.out _).mono ?_; rintro e w2 ⟨rfl, h2⟩
      have h3 := seq HB1.out h2
      go_wp2_with fail
      go_ret
      exact ⟨rfl, h3⟩
    have d1 : decide ((100 : Int) < (mp : Int)) = false := decide_eq_false (by omega)
    by_cases q2 : 60 < l.length
    · clear htt
      have e2 : decide ((60 : Int) < (l.length : Int)) = true := decide_eq_true (by omega)
      go_enter Tryz.func3, Tryz.ntmps3
      go_wp2_with fail
      generalize (w.alloc (.cells #[.int .i64 P, .int .i64 T, .int .i64 G, .slice E m cp] 26)) = W at *
      go_at_call 9; refine hL.mono ?_; rintro e w1 ⟨cl, A, A', cap, cap', c, b, c', b', rfl, hLd⟩
      have hbl : Below W.heap.size W w1 := hLd.below
      have HB1 : Hid (Below w.heap.size w w1) := HB.out.trans (hbl.mono (by omega))
      have hY0 := hX0.out.but (But.of_below (l := []) hbl) (by simp)
      have zP := hY0.cell 0 (v := .int .i64 P) rfl
      have zT := hY0.cell 1 (v := .int .i64 T) rfl
      have zG := hY0.cell 2 (v := .int .i64 G) rfl
      clear hL hbl hLd hY0
      go_wp2_with fail
      go_at_call 11; refine (HAW.out _).mono ?_; rintro e w2 ⟨rfl, h2⟩
      have h3 := seq HB1.out h2
      go_wp2_with fail
      go_ret
      exact ⟨rfl, h3⟩
    have d2 : decide ((60 : Int) < (l.length : Int)) = false := decide_eq_false (by omega)
    have q3 : knownL G l = false := by
      rcases htt with h | h | h
      · exact absurd h q1
      · exact absurd h q2
      · exact h
    have HKN : Hid (∀ Y, SeesL Y (.slice B l.length cpl) l → Calls Tryz.prog 10 #[.agg #[.int .i64 P, .int .i64 T, .int .i64 G], .slice B l.length cpl] Y fun e w' => e = .returned (.bool false) ∧ Below Y.heap.size Y w') := fun Y hs => by
      have h1 := known_any Y P T G B cpl l hs (by omega)
      rw [q3] at h1
      exact h1
    have HGSL : Hid (∀ Y, Below w.heap.size w Y → SeesL Y (.slice B l.length cpl) l) := fun Y hY => hgs.below hY
    clear htt hgs
    go_enter Tryz.func3, Tryz.ntmps3
    go_wp2_with fail
    generalize (w.alloc (.cells #[.int .i64 P, .int .i64 T, .int .i64 G, .slice E m cp] 26)) = W at *
    go_at_call 9; refine hL.mono ?_; rintro e w1 ⟨cl, A, A', cap, cap', c, b, c', b', rfl, hLd⟩
    have hbl : Below W.heap.size W w1 := hLd.below
    have HB1 : Hid (Below w.heap.size w w1) := HB.out.trans (hbl.mono (by omega))
    have hY0 := hX0.out.but (But.of_below (l := []) hbl) (by simp)
    have zP := hY0.cell 0 (v := .int .i64 P) rfl
    have zT := hY0.cell 1 (v := .int .i64 T) rfl
    have zG := hY0.cell 2 (v := .int .i64 G) rfl
    clear hL hbl hLd hY0
    go_wp2_with fail
    go_at_call 10; refine (HKN.out w1 (HGSL.out w1 HB1.out)).mono ?_; rintro e wk ⟨rfl, hk⟩
    have HB1 : Hid (Below w.heap.size w wk) := seq HB1.out hk
    clear hk HKN HGSL
    go_wp2_with fail
    go_at_call 11; refine (HAW.out _).mono ?_; rintro e w2 ⟨rfl, h2⟩
    have h3 := seq HB1.out h2
    go_wp2_with fail
    go_ret
    exact ⟨rfl, h3⟩

set_option maxHeartbeats 4000000 in
theorem globqPuts_ok (P T G : Int) (B : Option Addr) (cpl : Nat) (l : List Int) (E F : Option Addr) (m cp mp cq : Nat) (a v : Nat → Int) (Pks : Nat → Pk) (w : World) (hAw : ∀ w, Calls Tryz.prog 11 #[] w fun e w' => e = .returned (.bool true) ∧ Below w.heap.size w w') (hm : m ≤ 400) (hF : FewC P T G) (hmp : mp ≤ 100) (hgs : SeesL w (.slice B l.length cpl) l) (hs : SeesP w w.heap.size E m a v) (hv : ∀ i, i < m → 0 ≤ v i ∧ v i ≤ 18446744073709551615) (hP : SeesC w w.heap.size F mp 6 (pkC Pks)) (hpv : ∀ j, j < mp → 0 ≤ (Pks j).v ∧ (Pks j).v ≤ 18446744073709551615) (hll : l.length ≤ 60) (hkn : knownL G l = true) :
    Calls Tryz.prog 3 #[.agg #[.int .i64 P, .int .i64 T, .int .i64 G, .slice E m cp], .slice B l.length cpl, .slice F mp cq] w fun e w' => e = .returned (.bool true) ∧ Below w.heap.size w w' := by
  have hsz : (w.alloc (.cells #[.int .i64 P, .int .i64 T, .int .i64 G, .slice E m cp] 26)).heap.size = w.heap.size + 1 := by simp
  have HB : Hid (Below w.heap.size w (w.alloc (.cells #[.int .i64 P, .int .i64 T, .int .i64 G, .slice E m cp] 26))) := (Below.refl _ _).alloc (Nat.le_refl _) _
  have hX0 : Hid (Blk (w.alloc (.cells #[.int .i64 P, .int .i64 T, .int .i64 G, .slice E m cp] 26)) w.heap.size #[.int .i64 P, .int .i64 T, .int .i64 G, .slice E m cp] 26) := (Blk.new w #[.int .i64 P, .int .i64 T, .int .i64 G, .slice E m cp] 26)
  have HAW : Hid (∀ w, Calls Tryz.prog 11 #[] w fun e w' => e = .returned (.bool true) ∧ Below w.heap.size w w') := hAw
  have hM := hF.h.1.h
  have hFF := hF.h
  have hP64 : 0 ≤ P ∧ P ≤ 64 := by omega
  obtain ⟨n, hn⟩ : ∃ n : Nat, (n : Int) = 20 + 264 * P + 3 * T + 2 * G := ⟨(20 + 264 * P + 3 * T + 2 * G).toNat, by omega⟩
  have hn0 : 0 < n := by omega
  have hn6 : n ≤ 1000000 := by omega
  have hL := lay_some P T G E m cp n a v _ hm hF hn (hs.up (.cells #[.int .i64 P, .int .i64 T, .int .i64 G, .slice E m cp] 26)) hv
  have d1 : decide ((100 : Int) < (mp : Int)) = false := decide_eq_false (by omega)
  have d2 : decide ((60 : Int) < (l.length : Int)) = false := decide_eq_false (by omega)
  have HP : Hid (SeesC w w.heap.size F mp 6 (pkC Pks)) := hP
  have HPV : Hid (∀ j, j < mp → 0 ≤ (Pks j).v ∧ (Pks j).v ≤ 18446744073709551615) := hpv
  have hbl : ∀ y ∈ l, 0 ≤ y ∧ y ≤ 1000000 := fun y hy => by
    have h1 := List.all_eq_true.1 hkn y hy
    have h2 : 0 ≤ y ∧ y < G := by simpa using h1
    omega
  have hln : l.length ≤ 1000000 := by omega
  have HTG : Hid ((0 ≤ T ∧ T ≤ 65536) ∧ (0 ≤ G ∧ G ≤ 65536)) := ⟨by omega, by omega⟩
  have HNN : Hid ((n : Int) = 20 + 264 * P + 3 * T + 2 * G) := hn
  have HLN : Hid (l.length ≤ 1000000) := hln
  have HLSN : Hid (∀ (pl : Int → Int) (f : Int), (lsOf pl G f).1.length ≤ 1000000) := fun pl f => lsOf_len pl G f (by omega)
  have HGSL : Hid (∀ Y, Below w.heap.size w Y → SeesL Y (.slice B l.length cpl) l) := fun Y hY => hgs.below hY
  have HBW : Hid (0 < l.length → ∀ bb off : Nat, B = some ⟨bb, off, none⟩ → bb < w.heap.size) := fun h0 bb off e => by
    obtain ⟨A0, cap0, e0, -, h2⟩ := hgs
    cases e0
    obtain ⟨b1, off1, e1, h3, -⟩ := h2 h0
    rw [e] at e1
    cases e1
    exact h3
  obtain ⟨gl, hgl⟩ : ∃ gl : Int → Int, (fun y => wd (20 + P * 264 + T * 3) G 2 y 1) = gl := ⟨_, rfl⟩
  have HLAW : Hid (∀ cl, (qpI 2 cl gl l).Good (qpPM gl l) ∧ Steps (qpPM gl l) (qpI 2 cl gl l) (Rd.lay cl P T G) 19 2) := fun cl => by rw [← hgl]; exact ⟨qp_good 2 P T G cl l hP64 (by omega) (by omega) hln hbl, qp_steps 2 P T G cl l hP64 (by omega) (by omega) hln hbl stepby_qput⟩
  have HAXK : Hid (∀ t a, (qpPM gl l).ax t = some a → a.Ok) := qp_axok gl l hln hbl
  have HREF : Hid (∀ (w : World) (x : Nat) (A : Option Addr) (cap m : Nat) (gf : Nat → Int) (t : QpT), SeesL w (.slice B l.length cpl) l → (0 < l.length → ∀ b off : Nat, B = some ⟨b, off, none⟩ → b ≠ x) → RunOn w x A cap m gf rn0 → Hist (qpPM gl l) (qpStart l) gf m t → Calls Tryz.prog 14 #[.pointer (some ⟨x, 0, none⟩), .agg #[.int .i64 P, .int .i64 T, .int .i64 G], .slice B l.length cpl] w fun e w' => ∃ v, e = .returned v ∧ SeesL w' v (if t.lies = true then [] else l) ∧ RunOn w' x A cap m gf ((qpPM gl l).rn t m) ∧ But [x] w w') := fun w x A cap m gf t hs hx h hh => by subst hgl; exact rqput_on w x A B cap cpl m gf P T G l t h hh hP64 (by omega) (by omega) hln hbl hs hx
  have HNEW : Hid (∀ cl (w : World), Lay w cl P T G → SeesL w (.slice B l.length cpl) l → Calls Tryz.prog 12 #[.pointer (some ⟨cl, 0, none⟩), .int .i64 2, .slice B l.length cpl] w fun e w' => ∃ x L, e = .returned (.pointer (some ⟨x, 0, none⟩)) ∧ qpI 2 cl gl l w' x (qpStart l) L ∧ Below w.heap.size w w' ∧ (∀ k ∈ L, w.heap.size ≤ k)) := fun cl w h hs => by subst hgl; exact qp_new_any w cl 2 P T G _ l hs hln hbl h hP64 (by omega) (by omega)
  have HKN : Hid (∀ Y, SeesL Y (.slice B l.length cpl) l → Calls Tryz.prog 10 #[.agg #[.int .i64 P, .int .i64 T, .int .i64 G], .slice B l.length cpl] Y fun e w' => e = .returned (.bool true) ∧ Below Y.heap.size Y w') := fun Y hs => by
    have h1 := known_any Y P T G B cpl l hs hln
    rw [hkn] at h1
    exact h1
  have hl60 : (l.length : Int) ≤ 60 := by omega
  clear hgl hbl hln hll hkn hgs
  clear hAw hs hv hn hF hM hFF hP hpv
  go_enter Tryz.func3, Tryz.ntmps3
  go_wp2_with fail
  generalize (w.alloc (.cells #[.int .i64 P, .int .i64 T, .int .i64 G, .slice E m cp] 26)) = W at *
  go_at_call 9; refine hL.mono ?_; rintro e w1 ⟨cl, A, A', cap, cap', c, b, c', b', rfl, hLd⟩
  have HL : Hid (Laid W w1 P T G n (putF a v n m) cl A A' cap cap' c b c' b') := hLd
  have hbl := hLd.below
  have HB1 : Hid (Below w.heap.size w w1) := HB.out.trans (hbl.mono (by omega))
  have hY0 := hX0.out.but (But.of_below (l := []) hbl) (by simp)
  have zP := hY0.cell 0 (v := .int .i64 P) rfl
  have zT := hY0.cell 1 (v := .int .i64 T) rfl
  have zG := hY0.cell 2 (v := .int .i64 G) rfl
  have HXb : Hid (∀ k, Blk (w1.drewN k) w.heap.size #[.int .i64 P, .int .i64 T, .int .i64 G, .slice E m cp] 26) := fun k => hY0.drewN k
  have HXw : Hid (Blk w1 w.heap.size #[.int .i64 P, .int .i64 T, .int .i64 G, .slice E m cp] 26) := hY0
  clear hL hLd hbl hY0
  go_wp2_with fail
  go_at_call 10; refine (HKN.out w1 (HGSL.out w1 HB1.out)).mono ?_; rintro e wk ⟨rfl, hwk⟩
  have hT1 : Hid (Two wk A A' cap cap' c b c' b' n (fresh (putF a v n m))) := HL.out.two.below hwk
  have HB2 : Hid (Below w.heap.size w wk) := seq HB1.out hwk
  have HLy2 : Hid (Lay wk cl P T G) := HL.out.lay.below hwk HL.out.lay.lt
  have HX2 : Hid (Blk wk w.heap.size #[.int .i64 P, .int .i64 T, .int .i64 G, .slice E m cp] 26) := HXw.out.but (But.of_below (l := []) hwk) (by simp)
  obtain ⟨u1, u2, u3, u4, u5⟩ := HL.out.up
  have hup : Hid (w.heap.size ≤ c ∧ w.heap.size ≤ b ∧ w.heap.size ≤ c' ∧ w.heap.size ≤ b') := ⟨by omega, by omega, by omega, by omega⟩
  have hbx : Hid (w.heap.size ≠ c ∧ w.heap.size ≠ b ∧ w.heap.size ≠ c' ∧ w.heap.size ≠ b' ∧ w.heap.size ≠ cl) := ⟨by omega, by omega, by omega, by omega, by omega⟩
  have hclup : Hid (w.heap.size ≤ cl) := (by omega : w.heap.size ≤ cl)
  generalize hw2 : wk = w2 at *
  have z0 := HX2.out.cell 0 (v := .int .i64 P) rfl
  have z1 := HX2.out.cell 1 (v := .int .i64 T) rfl
  have z2 := HX2.out.cell 2 (v := .int .i64 G) rfl
  clear hwk HKN HL HB1 HXb HXw u1 u2 u3 u4 u5 hw2 hX0 HB hsz zP zT zG
  have hne : Hid (cl ≠ c ∧ cl ≠ b) := lay_ne HLy2.out (by decide) hT1.out.m hn0
  have hne2 : Hid (cl ≠ c' ∧ cl ≠ b') := lay_ne HLy2.out (by decide) hT1.out.r hn0
  have HLW : Hid ((qpI 2 cl gl l).Good (qpPM gl l) ∧ Steps (qpPM gl l) (qpI 2 cl gl l) (Rd.lay cl P T G) 19 2) := HLAW.out cl
  have HGD : Hid ((qpI 2 cl gl l).Good (qpPM gl l)) := HLW.out.1
  have hN := HNEW.out cl w2 HLy2.out (HGSL.out w2 HB2.out)
  go_wp2_with fail
  go_at_call 12; refine hN.mono ?_; rintro e w3 ⟨x, L0, rfl, hi0, hb3, hu1⟩
  have HO0 : Hid (LawOn (qpI 2 cl gl l) ((Rd.lay cl P T G).and (Rd.blk w.heap.size #[.int .i64 P, .int .i64 T, .int .i64 G, .slice E m cp] 26)) w w3 A A' cap cap' c b c' b' n (fresh (putF a v n m)) (fresh (putF a v n m)) none 0 0 (fun _ => 0) x (qpStart l) L0 [cl, w.heap.size]) := LawOn.begin hT1.out hb3 HB2.out hup.out hi0 HGD.out hu1 ⟨HLy2.out.below hb3 HLy2.out.lt, HX2.out.but (But.of_below (l := []) hb3) (by simp)⟩ (fun k hk => hk) (by
    obtain ⟨n1, n2⟩ := hne.out; obtain ⟨n3, n4⟩ := hne2.out; obtain ⟨n5, n6, n7, n8, n9⟩ := hbx.out
    intro k hk
    simp only [List.mem_cons, List.not_mem_nil, or_false] at hk
    rcases hk with rfl | rfl
    · exact ⟨⟨n1, n2, n3, n4⟩, HLy2.out.lt, hclup.out⟩
    · exact ⟨⟨n5, n6, n7, n8⟩, HX2.out.lt, Nat.le_refl _⟩)
  clear hN hi0 hb3 hu1 hT1 HB2 HX2 HLy2 z0 z1 z2 hup hbx hclup hne hne2
  go_wp2_with fail
  go_loopw [12, 13] (fun gv i wr => ∃ (k : Nat) (s : St) (Ag : Option Addr) (capg mg : Nat) (gf : Nat → Int) (t : QpT) (L : List Nat), k ≤ mp ∧ i = .int .i64 k ∧ gv = .slice Ag mg capg ∧ mg ≤ k ∧ Hid (LawOn (qpI 2 cl gl l) ((Rd.lay cl P T G).and (Rd.blk w.heap.size #[.int .i64 P, .int .i64 T, .int .i64 G, .slice E m cp] 26)) w wr A A' cap cap' c b c' b' n s s Ag capg mg gf x t L [cl, w.heap.size]) ∧ Hid (Low s (k : Int)) ∧ Hid (Hist (qpPM gl l) (qpStart l) gf mg t)) (fun _ i _ => mp - (intOf i).toNat)
  case atStart => exact ⟨0, _, none, 0, 0, _, (qpStart l), L0, Nat.zero_le _, rfl, rfl, Nat.le_refl _, HO0, low_fresh _, Hist.start _ _ _⟩
  case round =>
    clear HO0
    obtain ⟨k, s, Ag, capg, mg, gf, t, L, hk, rfl, rfl, hmg, HO, HLo, HH⟩ := hrel
    by_cases hlt : k < mp
    · obtain ⟨fb, foff, rfl, hfb, hcell⟩ := HP.out (by omega)
      have hcw : Hid (∀ i u, (pkC Pks k)[i]? = some u → wr.cell? ⟨fb, foff + k * 6 + i, none⟩ = some u) := fun i u hu => (HO.out.poke.below.cell (p := ⟨fb, foff + k * 6 + i, none⟩) hfb).trans (hcell k hlt i u hu)
      have pz := hcw.out 0 (.bool (Pks k).z) rfl
      have hk0 : (0 : Int) ≤ (k : Int) := Int.natCast_nonneg _
      have hk1 : (k : Int) < (mp : Int) := by omega
      clear hcell
      rw [Nat.add_zero] at pz
      cases hz : (Pks k).z
      · rw [hz] at pz
        have HRA : Hid (wr.rangeAt fb (foff + k * 6 + 1) [.int .i64 (Pks k).k, .int .i64 (Pks k).p, .int .i64 (Pks k).i, .int .u64 (Pks k).o, .int .u64 (Pks k).v]) := fun j u hu => by
          have := hcw.out (1 + j) u (by rw [show pkC Pks k = .bool (Pks k).z :: [.int .i64 (Pks k).k, .int .i64 (Pks k).p, .int .i64 (Pks k).i, .int .u64 (Pks k).o, .int .u64 (Pks k).v] from rfl, Nat.add_comm 1 j, List.getElem?_cons_succ]; exact hu)
          rw [← Nat.add_assoc] at this
          exact this
        clear hz hcw
        go_wp2_with (refine wpList_load_mid rfl 41 _ rfl fb (foff + k * 6 + 1) rfl [.int .i64 (Pks k).k, .int .i64 (Pks k).p, .int .i64 (Pks k).i, .int .u64 (Pks k).o, .int .u64 (Pks k).v] _ HRA.out Tryz.underlying41 rfl (by kernel_rfl) ?_)
        go_at_call 13; refine (HO.out.pokes HGD.out hn6 (HLo.out.more (by omega)) (Pks k).k (Pks k).p (Pks k).i (Pks k).o (Pks k).v (HPV.out k hlt)).mono ?_; rintro e w9 ⟨rfl, hO⟩
        have HO9 : Hid _ := hO
        have HLo9 : Hid (Low (actS (Pks k).k (Pks k).p (Pks k).i (Pks k).o (Pks k).v n s) (((k + 1 : Nat)) : Int)) := (actS_low HLo.out _ _ _ _ _ _).more (by omega)
        clear hO HO HRA pz
        go_wp2_with fail
        go_roundw
        case rel => exact ⟨k + 1, _, Ag, capg, mg, gf, t, L, by omega, by go_num, rfl, by omega, HO9, HLo9, HH⟩
        case measure => simp [intOf]; omega
      · rw [hz] at pz
        clear hz hcw
        have hR0 : Hid (RunOn (wr.alloc (.cells (runL (.slice Ag mg capg) rn0).toArray 48)) wr.heap.size Ag capg mg gf rn0) := run_starts HO.out.poke.got (by omega)
        have hb0 : Hid (Below wr.heap.size wr (wr.alloc (.cells (runL (.slice Ag mg capg) rn0).toArray 48))) := (Below.refl _ _).alloc (Nat.le_refl _) _
        have hRR := HREF.out _ _ Ag capg mg gf t (HGSL.out _ (HO.out.poke.below.trans (hb0.out.mono HO.out.poke.below.size))) (fun h0 bb off e => by have h1 := HBW.out h0 bb off e; have h2 := HO.out.rd.2.lt; omega) hR0.out HH.out
        have y0 := HO.out.rd.2.cell 0 (v := .int .i64 P) rfl
        have y1 := HO.out.rd.2.cell 1 (v := .int .i64 T) rfl
        have y2 := HO.out.rd.2.cell 2 (v := .int .i64 G) rfl
        have hbl : w.heap.size < wr.heap.size := HO.out.rd.2.lt
        go_wp2_with fail
        go_at_call 14; refine hRR.mono ?_; rintro e w4 ⟨vh, rfl, hVH, hR4, hB4⟩
        have hb4 : Below wr.heap.size wr w4 := hb0.out.trans (hB4.below (by simp) (by simp))
        have HO4 : Hid (LawOn (qpI 2 cl gl l) ((Rd.lay cl P T G).and (Rd.blk w.heap.size #[.int .i64 P, .int .i64 T, .int .i64 G, .slice E m cp] 26)) w w4 A A' cap cap' c b c' b' n s s Ag capg mg gf x t L [cl, w.heap.size]) := HO.out.still HGD.out hb4
        have HR4 : Hid (RunOn w4 wr.heap.size Ag capg mg gf ((qpPM gl l).rn t mg)) := hR4
        have hs4 : wr.heap.size < w4.heap.size := hR4.blk.lt
        have s2 := HR4.out.blk.cell 2 (v := .bool ((qpPM gl l).rn t mg).stop) rfl
        rw [PM.rn_stop] at s2
        clear hRR hR4 hB4 hR0 hb0 hb4 HO pz y0 y1 y2 hbl
        have HOK : Hid (∀ a, (qpPM gl l).ax t = some a → a.Ok) := fun a ha => HAXK.out t a ha
        have HD : Hid (∀ Y, Below w4.heap.size w4 Y → Calls Tryz.prog 15 #[.pointer (some ⟨x, 0, none⟩)] Y fun e w' => e = .returned (.bool ((qpPM gl l).ax t).isNone) ∧ Y = w') := fun Y hY => by
          obtain ⟨nx, hx1, hx2⟩ := HGD.out.next (HGD.out.below HO4.out.mach hY)
          rw [← hx2]
          exact done_qput Y x nx hx1
        have HVH : Hid (∀ Y, Below w4.heap.size w4 Y → SeesL Y vh (if t.lies = true then [] else l)) := fun Y hY => hVH.below hY
        have HHv : Hid (∀ Y, Below w4.heap.size w4 Y → Calls Tryz.prog 17 #[.pointer (some ⟨x, 0, none⟩)] Y fun e w' => ∃ v, e = .returned v ∧ IntsOn w' Y.heap.size v (if t.lies = true then [] else l) ∧ Below Y.heap.size Y w') := fun Y hY => qp_holds (HGD.out.below HO4.out.mach hY) HLN.out
        have HHL : Hid ((if t.lies = true then [] else l).length ≤ 1000000) := by
          show (if t.lies = true then [] else l).length ≤ 1000000
          split
          · exact Nat.zero_le _
          · exact HLN.out
        clear hVH
        cases hst : ((qpPM gl l).ax t).isSome
        · rw [hst] at s2
          have hin : ((qpPM gl l).ax t).isNone = true := by cases h : (qpPM gl l).ax t <;> rw [h] at hst <;> first | rfl | cases hst
          rw [hin] at HD
          clear hin
          generalize (if t.lies = true then [] else l) = lh at *
          have hH : Hid (w4.drew.cell? ⟨wr.heap.size, 2, none⟩ = some (.bool false) ∧ Below w4.heap.size w4 w4.drew) := ⟨s2, (Below.refl _ _).drew⟩
          have KEEP : Hid (∀ X w' : World, (X.cell? ⟨wr.heap.size, 2, none⟩ = some (.bool false) ∧ Below w4.heap.size w4 X) → Below X.heap.size X w' → (w'.cell? ⟨wr.heap.size, 2, none⟩ = some (.bool false) ∧ Below w4.heap.size w4 w')) := fun X w' h k => ⟨(k.cell (p := ⟨wr.heap.size, 2, none⟩) (Nat.lt_of_lt_of_le hs4 h.2.size)).trans h.1, h.2.trans (k.mono h.2.size)⟩
          go_wp2_with fail
          go_region_held3 (fun w' => w'.cell? ⟨wr.heap.size, 2, none⟩ = some (.bool false) ∧ Below w4.heap.size w4 w') (first | exact hH.out | assumption | exact KEEP.out _ _ ‹_› ‹_›) (first | (go_at_call 15; refine (HD.out _ (by simp only [*])).mono ?_; rintro e x1 ⟨rfl, rfl⟩) | (go_at_call 17; refine (HHv.out _ (by simp only [*])).mono ?_; rintro e x2 ⟨v2, rfl, hv2, g2⟩; have hv3 := hv2.sees; clear hv2) | (go_at_call 16; refine (lsame_any _ _ _ lh HHL.out hv3 (HVH.out _ (by simp only [*]))).mono ?_; rintro e x3 ⟨rfl, g3⟩))
          all_goals
            rename_i hHeld
            have HO5 : Hid _ := HO4.out.still HGD.out hHeld.2
            have HRg : Hid _ := (HR4.out.below hHeld.2).range
            have hTu := HO5.out.turn HGD.out HOK.out hn6 (HLo.out.more (by omega)) (by omega) 2
            rw [show runCells (.slice Ag mg capg) ((qpPM gl l).rn t mg) = (runL (.slice Ag mg capg) ((qpPM gl l).rn t mg)).toArray from rfl] at hTu
            generalize (qpPM gl l).rn t mg = RN at *
            simp only [runL] at hTu
            clear HD KEEP hH HO4 HR4 s2 hHeld HVH HHv HHL
            go_wp2_with (refine wpList_load_mid rfl 48 _ rfl wr.heap.size 0 rfl (runL (.slice Ag mg capg) RN) _ HRg.out Tryz.underlying48 rfl (by kernel_rfl) ?_; clear HRg)
            go_at_call 18; refine hTu.mono ?_; rintro e w6 ⟨Ag', capg', rfl, hO6⟩
            have HO6 : Hid _ := hO6
            have hSt := HO6.out.step HGD.out HLW.out.2 (fun Y (h : ((Rd.lay cl P T G).and (Rd.blk w.heap.size #[.int .i64 P, .int .i64 T, .int .i64 G, .slice E m cp] 26)).P Y) => h.1) (fun k hk => List.mem_append_left _ hk) hn6 (HLo.out.more (by omega))
            have HHn : Hid _ := HH.out.next n s (fun k i old new => actA_bd HO6.out.poke.mem k i old new)
            have HLo7 : Hid (Low ((qpPM gl l).goS 2 n t s) ((k + 1 : Nat) : Int)) := PM.goS_low HLo.out
            have hml : (qpPM gl l).goM t mg ≤ k + 1 := by unfold PM.goM; split <;> omega
            clear hTu hO6 HO5
            go_wp2_with fail
            go_at_call 19; refine hSt.mono ?_; rintro e w7 ⟨⟨zz, rfl⟩, L7, hO7⟩
            have HO7 : Hid _ := hO7
            clear hSt hO7 HO6 HH HLo
            generalize (qpPM gl l).goS 2 n t s = s' at *
            generalize (qpPM gl l).goG n t s gf mg = g' at *
            generalize (qpPM gl l).goM t mg = m' at *
            generalize (qpPM gl l).goT n t s = t' at *
            have hAl := alike_any w7 A A' cap cap' c b c' b' n s' hn6 HO7.out.poke.two
            go_wp2_with fail
            go_at_call 20; refine hAl.mono ?_; rintro e w8 ⟨rfl, hb8⟩
            have HO8 : Hid _ := HO7.out.still HGD.out hb8
            clear hAl hb8 HO7
            go_wp2_with fail
            go_roundw
            case rel => exact ⟨k + 1, s', Ag', capg', m', g', t', L7, by omega, by go_num, rfl, hml, HO8.out, HLo7, HHn.out⟩
            case measure => simp [intOf]; omega
        · rw [hst] at s2
          have hin : ((qpPM gl l).ax t).isNone = false := by cases h : (qpPM gl l).ax t <;> rw [h] at hst <;> first | rfl | cases hst
          rw [hin] at HD
          clear hin
          generalize (if t.lies = true then [] else l) = lh at *
          have hH : Hid (w4.drew.cell? ⟨wr.heap.size, 2, none⟩ = some (.bool true) ∧ Below w4.heap.size w4 w4.drew) := ⟨s2, (Below.refl _ _).drew⟩
          have KEEP : Hid (∀ X w' : World, (X.cell? ⟨wr.heap.size, 2, none⟩ = some (.bool true) ∧ Below w4.heap.size w4 X) → Below X.heap.size X w' → (w'.cell? ⟨wr.heap.size, 2, none⟩ = some (.bool true) ∧ Below w4.heap.size w4 w')) := fun X w' h k => ⟨(k.cell (p := ⟨wr.heap.size, 2, none⟩) (Nat.lt_of_lt_of_le hs4 h.2.size)).trans h.1, h.2.trans (k.mono h.2.size)⟩
          go_wp2_with fail
          go_region_held3 (fun w' => w'.cell? ⟨wr.heap.size, 2, none⟩ = some (.bool true) ∧ Below w4.heap.size w4 w') (first | exact hH.out | assumption | exact KEEP.out _ _ ‹_› ‹_›) (first | (go_at_call 15; refine (HD.out _ (by simp only [*])).mono ?_; rintro e x1 ⟨rfl, rfl⟩) | (go_at_call 17; refine (HHv.out _ (by simp only [*])).mono ?_; rintro e x2 ⟨v2, rfl, hv2, g2⟩; have hv3 := hv2.sees; clear hv2) | (go_at_call 16; refine (lsame_any _ _ _ lh HHL.out hv3 (HVH.out _ (by simp only [*]))).mono ?_; rintro e x3 ⟨rfl, g3⟩))
          all_goals
            rename_i hHeld
            have HO5 : Hid _ := HO4.out.still HGD.out hHeld.2
            have HRg : Hid _ := (HR4.out.below hHeld.2).range
            have hTu := HO5.out.turn HGD.out HOK.out hn6 (HLo.out.more (by omega)) (by omega) 2
            rw [show runCells (.slice Ag mg capg) ((qpPM gl l).rn t mg) = (runL (.slice Ag mg capg) ((qpPM gl l).rn t mg)).toArray from rfl] at hTu
            generalize (qpPM gl l).rn t mg = RN at *
            simp only [runL] at hTu
            clear HD KEEP hH HO4 HR4 s2 hHeld HVH HHv HHL
            go_wp2_with (refine wpList_load_mid rfl 48 _ rfl wr.heap.size 0 rfl (runL (.slice Ag mg capg) RN) _ HRg.out Tryz.underlying48 rfl (by kernel_rfl) ?_; clear HRg)
            go_at_call 18; refine hTu.mono ?_; rintro e w6 ⟨Ag', capg', rfl, hO6⟩
            have HO6 : Hid _ := hO6
            have hSt := HO6.out.step HGD.out HLW.out.2 (fun Y (h : ((Rd.lay cl P T G).and (Rd.blk w.heap.size #[.int .i64 P, .int .i64 T, .int .i64 G, .slice E m cp] 26)).P Y) => h.1) (fun k hk => List.mem_append_left _ hk) hn6 (HLo.out.more (by omega))
            have HHn : Hid _ := HH.out.next n s (fun k i old new => actA_bd HO6.out.poke.mem k i old new)
            have HLo7 : Hid (Low ((qpPM gl l).goS 2 n t s) ((k + 1 : Nat) : Int)) := PM.goS_low HLo.out
            have hml : (qpPM gl l).goM t mg ≤ k + 1 := by unfold PM.goM; split <;> omega
            clear hTu hO6 HO5
            go_wp2_with fail
            go_at_call 19; refine hSt.mono ?_; rintro e w7 ⟨⟨zz, rfl⟩, L7, hO7⟩
            have HO7 : Hid _ := hO7
            clear hSt hO7 HO6 HH HLo
            generalize (qpPM gl l).goS 2 n t s = s' at *
            generalize (qpPM gl l).goG n t s gf mg = g' at *
            generalize (qpPM gl l).goM t mg = m' at *
            generalize (qpPM gl l).goT n t s = t' at *
            have hAl := alike_any w7 A A' cap cap' c b c' b' n s' hn6 HO7.out.poke.two
            go_wp2_with fail
            go_at_call 20; refine hAl.mono ?_; rintro e w8 ⟨rfl, hb8⟩
            have HO8 : Hid _ := HO7.out.still HGD.out hb8
            clear hAl hb8 HO7
            go_wp2_with fail
            go_roundw
            case rel => exact ⟨k + 1, s', Ag', capg', m', g', t', L7, by omega, by go_num, rfl, hml, HO8.out, HLo7, HHn.out⟩
            case measure => simp [intOf]; omega
    · obtain rfl : k = mp := by omega
      have hgd : decide ((k : Int) < (k : Int)) = false := by simp
      have HT : Hid (∀ Y, Below wr.heap.size wr Y → Two Y A A' cap cap' c b c' b' n s) := fun Y hY => HO.out.poke.two.below hY
      have hLs := qlist_any wr A cap c b n cl s P T G HO.out.poke.mem hn6 HO.out.rd.1 hP64 HTG.out.1 HTG.out.2
      have HRL : Hid (∀ Y, Below wr.heap.size wr Y → _) := fun Y (hY : Below wr.heap.size wr Y) => rlist13_any Y A' cap' c' b' n s P T G (HT.out Y hY).r HNN.out hP64 HTG.out.1 HTG.out.2
      have HGr : Hid (∀ Y, Below wr.heap.size wr Y → Blk Y w.heap.size #[.int .i64 P, .int .i64 T, .int .i64 G, .slice E m cp] 26) := fun Y hY => (HO.out.rd.2 : Blk wr w.heap.size _ _).but (But.of_below (l := []) hY) (by simp)
      have HB9 : Hid (Below w.heap.size w wr) := HO.out.poke.below
      obtain ⟨r, hr⟩ : ∃ r, lsOf (fun g => peekT n s (wd (20 + P * 264 + T * 3) G 2 g 1)) G (peekT n s 6) = r := ⟨_, rfl⟩
      have HRN : Hid (r.1.length ≤ 1000000) := by
        show r.1.length ≤ 1000000
        rw [← hr]
        exact HLSN.out _ _
      rw [hr] at hLs
      simp only [hr] at HRL
      clear HO HLo HH hr
      go_wp2_with fail
      go_at_call 21; refine hLs.mono ?_; rintro e wa ⟨va, rfl, hva, hba⟩
      obtain ⟨Aa, ca, rfl⟩ := lists_slice hva.own
      have hG9 := HGr.out wa hba
      have y0 := hG9.cell 0 (v := .int .i64 P) rfl
      have y1 := hG9.cell 1 (v := .int .i64 T) rfl
      have y2 := hG9.cell 2 (v := .int .i64 G) rfl
      have hRl := HRL.out wa hba
      have HVA : Hid (IntsOn wa _ (.slice Aa r.1.length ca) r.1) := hva
      have HBA : Hid (Below wr.heap.size wr wa) := hba
      clear hLs hva hba HGr HRL hG9
      go_wp2_with fail
      go_at_call 22; refine hRl.mono ?_; rintro e wc ⟨vb, rfl, hvb, hbb⟩
      obtain ⟨Ab, cb, rfl⟩ := lists_slice hvb.own
      have HVA2 : Hid (IntsOn wc _ (.slice Aa r.1.length ca) r.1) := ⟨row_below HVA.out.own hbb⟩
      have HVB : Hid (IntsOn wc _ (.slice Ab r.1.length cb) r.1) := hvb
      have HBC : Hid (Below wr.heap.size wr wc) := seq HBA.out hbb
      clear hRl hvb hbb HVA HBA y0 y1 y2
      have hl63 : r.1.length ≤ 9223372036854775807 := by have := lists_len HVB.out.own; unfold maxLen at this; omega
      have hlr : r.1.length ≤ 1000000 := HRN.out
      generalize r.1 = lr at *
      generalize r.2 = rz at *
      have HT2 : Hid (∀ Y, Below wc.heap.size wc Y → Two Y A A' cap cap' c b c' b' n s) := fun Y hY => HT.out Y (seq HBC.out hY)
      have HB10 : Hid (Below w.heap.size w wc) := seq HB9.out HBC.out
      have HSA : Hid (∀ Y, Below wc.heap.size wc Y → SeesL Y (.slice Aa lr.length ca) lr) := fun Y hY => (IntsOn.sees HVA2.out).below hY
      have HSB : Hid (∀ Y, Below wc.heap.size wc Y → SeesL Y (.slice Ab lr.length cb) lr) := fun Y hY => (IntsOn.sees HVB.out).below hY
      have HLR : Hid (lr.length ≤ 1000000) := hlr
      have hTW := HT2.out wc (Below.refl _ _)
      have hH : Hid (wc.drew.cell? ⟨c', 0, none⟩ = some (.slice A' n cap') ∧ Below wc.heap.size wc wc.drew) := ⟨hTW.r.cells.1, (Below.refl _ _).drew⟩
      have KEEP : Hid (∀ X w' : World, (X.cell? ⟨c', 0, none⟩ = some (.slice A' n cap') ∧ Below wc.heap.size wc X) → Below X.heap.size X w' → (w'.cell? ⟨c', 0, none⟩ = some (.slice A' n cap') ∧ Below wc.heap.size wc w')) := fun X w' h k => ⟨(HT2.out _ (h.2.trans (k.mono h.2.size))).r.cells.1, h.2.trans (k.mono h.2.size)⟩
      clear hTW HT HBC HB9 HVA2 HVB hlr
      go_wp2_with fail
      go_region_held3 (fun w' => w'.cell? ⟨c', 0, none⟩ = some (.slice A' n cap') ∧ Below wc.heap.size wc w') (first | exact hH.out | assumption | exact KEEP.out _ _ ‹_› ‹_›) (first | (go_at_call 11; refine (HAW.out _).mono ?_; rintro e x1 ⟨rfl, g1⟩) | (go_at_call 24; refine (words_any _ A cap c b n s (HT2.out _ (by simp only [*])).m hn6).mono ?_; rintro e x5 ⟨A4, cap4, rfl, hs4, g5⟩) | (go_at_call 23; refine (sameB_any _ A4 A' n cap4 cap' s.f hn6 hs4 (HT2.out _ (by simp only [*])).r.sees).mono ?_; rintro e x6 ⟨rfl, g6⟩) | (go_at_call 16; refine (lsame_any _ _ _ lr HLR.out (HSA.out _ (by simp only [*])) (HSB.out _ (by simp only [*]))).mono ?_; rintro e x8 ⟨rfl, g8⟩))
      all_goals
        rename_i hHeld
        have hbF := HB10.out.trans (hHeld.2.mono HB10.out.size)
        go_wp2_with fail
        go_ret
        exact ⟨rfl, hbF⟩

theorem globqPuts_walk (P T G : Int) (B : Option Addr) (cpl : Nat) (l : List Int) (E F : Option Addr) (m cp mp cq : Nat) (a v : Nat → Int) (Pks : Nat → Pk) (w : World) (hAw : ∀ w, Calls Tryz.prog 11 #[] w fun e w' => e = .returned (.bool true) ∧ Below w.heap.size w w') (hm : m ≤ 9223372036854775807) (hmp : mp ≤ 9223372036854775807) (hgs : SeesL w (.slice B l.length cpl) l) (hs : SeesP w w.heap.size E m a v) (hv : ∀ i, i < m → 0 ≤ v i ∧ v i ≤ 18446744073709551615) (hP : SeesC w w.heap.size F mp 6 (pkC Pks)) (hpv : ∀ j, j < mp → 0 ≤ (Pks j).v ∧ (Pks j).v ≤ 18446744073709551615) :
    Calls Tryz.prog 3 #[.agg #[.int .i64 P, .int .i64 T, .int .i64 G, .slice E m cp], .slice B l.length cpl, .slice F mp cq] w fun e w' => e = .returned (.bool true) ∧ Below w.heap.size w w' := by
  by_cases h : (¬ FewC P T G ∨ 400 < m) ∨ 100 < mp ∨ 60 < l.length ∨ knownL G l = false
  · exact globqPuts_bad P T G B cpl l E F m cp mp cq a v w hAw hm hmp hgs hs hv h
  · exact globqPuts_ok P T G B cpl l E F m cp mp cq a v Pks w hAw (by omega) (Decidable.byContradiction fun hf => h (.inl (.inl hf))) (by omega) hgs hs hv hP hpv (by omega) (by cases hk : knownL G l with
    | false => exact absurd (.inr (.inr (.inr hk))) h
    | true => rfl)
end Go.Proofs.YtiagkeakohkfgaaGreat

namespace Go.Proofs.YtiagkeakohkfgaaGreat
open Go Go.ChangeShapes Go.WideShapes Go.ChangeAt Go.RowKit Go.Joins
set_option linter.unusedVariables false
set_option linter.unusedSimpArgs false

theorem own_globqPuts : ownKnob Tryz.prog.godebug = none := by kernel_rfl
theorem laidOut_globqPuts : laidOutB Tryz.prog = true := by kernel_rfl

set_option maxRecDepth 100000 in
theorem lifted_globqPuts (os : Os) (started : os.Started) (H : Type) (enc : TypeId × Value → H) :
    ReturnsInHanded {} Tryz.checked os 3 .any (Rows.globqPutsSpec.pre6 enc Tryz.prog Tryz.f3 Rows.globqPutsRow.domain false) (Rows.globqPutsSpec.post enc Tryz.prog Tryz.f3 false true false false) := by
  refine returnsInHanded_of_change (C := Tryz.checked) own_globqPuts started (by kernel_rfl) Tryz.func3
    (ChangeSpec.witness6 (enc := enc) (C := Tryz.checked) false ⟨#[], #[.agg #[.int .i64 0, .int .i64 0, .int .i64 0, .slice none 0 0], .slice none 0 0, .slice none 0 0], []⟩ 8 (by kernel_rfl) (by kernel_rfl) (by kernel_rfl) (by kernel_rfl)) ?_
  intro W base args ds gs before hval0 hW hcnd _
  have hval : ∀ (j : Nat) t v, Tryz.f3.params[j]? = some t → args[j]? = some v → Value.okWide Tryz.prog W .any base t v := hval0
  have hW' := hW
  obtain ⟨p, q, hA0, hV, rfl, hfz, hnd⟩ := hW
  have hA : DataW.TrodAll enc Tryz.prog W 0 (fun _ => true) true Tryz.f3.params.toList args.toList ds p := hA0
  rw [Tryz.params3] at hA hval
  obtain ⟨v0, vs0, d0, ds0, p0, q0, hargs, rfl, rfl, h0, r0⟩ := trodAll_cons hA
  obtain ⟨v1, vs1, d1, ds1, p1, q1, rfl, rfl, rfl, h1, r1⟩ := trodAll_cons r0
  obtain ⟨v2, vs2, d2, ds2, p2, q2, rfl, rfl, rfl, h2, r2⟩ := trodAll_cons r1
  obtain ⟨rfl, rfl, rfl⟩ := trodAll_nil r2
  obtain rfl : args = #[v0, v1, v2] := by cases args; simp_all
  obtain ⟨P, T, G, E, m, cp, a, x, rfl, hm, hs, hx⟩ := open_ground (hval 0 26 v0 rfl rfl) h0
  unfold maxLen at hm
  obtain ⟨B, cpl, l, rfl, hbm, hgs⟩ := sees_list Tryz.underlying27 Tryz.underlying3 (by kernel_rfl) (hval 1 27 v1 rfl rfl) h1
  unfold maxLen at hbm
  obtain ⟨F, mp, cq, Pks, rfl, hmp, hP, hpv⟩ := open_pokes (hval 2 28 v2 rfl rfl) h2
  unfold maxLen at hmp
  clear hA0 hval0
  refine (globqPuts_walk P T G B cpl l E F m cp mp cq a x Pks W globq_awake (by omega) (by omega) hgs hs hx hP hpv).mono fun e W' ⟨he, hb⟩ => ?_
  subst he
  exact ⟨_, rfl, law_post laidOut_globqPuts rfl Tryz.underlying4 (by kernel_rfl) rfl rfl rfl rfl hW' hb⟩

theorem globqPuts_holds : Rows.GlobqPutsSaid :=
  OpenClaim.holds_of_wide 3 Tryz.f3 rfl rfl rfl rfl rfl rfl rfl ⟨rfl, rfl, rfl, rfl, rfl⟩ rfl rfl rfl rfl rfl (by kernel_rfl) Tryz.func3 (by kernel_rfl)
    (of_decide_eq_true (by kernel_rfl)) (by unfold Func.isWrapper; first | (rw [if_pos (by decide +kernel)]; kernel_rfl) | (rw [if_neg (by decide +kernel)]; exact ⟨rfl, rfl⟩))
    (fun os started H enc _ => lifted_globqPuts os started H enc)
#print axioms globqPuts_holds
end Go.Proofs.YtiagkeakohkfgaaGreat
