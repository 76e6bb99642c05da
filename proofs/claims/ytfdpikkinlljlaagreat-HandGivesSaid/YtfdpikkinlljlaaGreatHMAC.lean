/- The words of a ring, and its goroutines, as they are seen. -/
import Derived.Test.YtfdpikkinlljlaaGreatHMAA
import Derived.Test.YtfdpikkinlljlaaGreatHMAB
import Derived.Test.YtfdpikkinlljlaaGreatPm
import Derived.ProofKit
import Derived.Carry
import Derived.WalkKit
import Derived.OpenShut
import Derived.Stop.Asserts
import Derived.Maps.OwnSet
import Derived.Maps.AppendAt
import Derived.OwnWalk
import Derived.ChangeShapes
import Derived.Laws.Cover1
namespace Go.Proofs.YtfdpikkinlljlaaGreat
open Go Go.RowKit
set_option linter.unusedVariables false
set_option maxRecDepth 100000
set_option linter.unusedSimpArgs false

/-- A config as a value, and in a box of its own. -/
def cfgV (P T G : Int) : Value := .agg #[.int .i64 P, .int .i64 T, .int .i64 G]
def cfgA (P T G : Int) : Array Value := #[.int .i64 P, .int .i64 T, .int .i64 G]
theorem refg_any (P T G g f : Int) (w : World) (hp : 0 ≤ P ∧ P ≤ 64) (hT : 0 ≤ T ∧ T ≤ 65536) (hg : 0 ≤ g ∧ g ≤ 65536) (hf : 0 ≤ f ∧ f < 2) : Calls Tryz.prog 130 #[.agg #[.int .i64 P, .int .i64 T, .int .i64 G], .int .i64 g, .int .i64 f] w fun e w' => e = .returned (.int .i64 (20 + 264 * P + 3 * T + 2 * g + f)) ∧ Below w.heap.size w w' := by
  have hb : Below w.heap.size w (w.alloc (.cells #[.int .i64 P, .int .i64 T, .int .i64 G] 23)) := (Below.refl _ _).alloc (Nat.le_refl _) _
  go_enter Tryz.func130, Tryz.ntmps130
  go_wp2_with fail
  go_ret
  exact ⟨ret_int (by first | rfl | omega | (unfold wrap64; omega)), hb⟩
theorem refgAt_any (P T G g f : Int) (w : World) (hp : 0 ≤ P ∧ P ≤ 64) (hT : 0 ≤ T ∧ T ≤ 65536) (hG : G ≤ 65536) (hf : 0 ≤ f ∧ f < 2) :
    Calls Tryz.prog 76 #[.agg #[.int .i64 P, .int .i64 T, .int .i64 G], .int .i64 g, .int .i64 f] w fun e w' => e = .returned (.int .i64 (wd (20 + P * 264 + T * 3) G 2 g f)) ∧ Below w.heap.size w w' := by
  have hb : Below w.heap.size w (w.alloc (.cells #[.int .i64 P, .int .i64 T, .int .i64 G] 23)) := (Below.refl _ _).alloc (Nat.le_refl _) _
  by_cases hg : 0 ≤ g ∧ g < G
  · have e : 20 + 264 * P + 3 * T + 2 * g + f = wd (20 + P * 264 + T * 3) G 2 g f := by unfold wd; rw [if_pos ⟨hg.1, hg.2, by omega, by omega⟩]; omega
    have hT := refg_any P T G g f (w.alloc (.cells #[.int .i64 P, .int .i64 T, .int .i64 G] 23)) hp hT (by omega) hf
    rw [e] at hT
    generalize wd (20 + P * 264 + T * 3) G 2 g f = nt at *
    clear e
    have hX : Hid (Blk (w.alloc (.cells #[.int .i64 P, .int .i64 T, .int .i64 G] 23)) w.heap.size #[.int .i64 P, .int .i64 T, .int .i64 G] 23) := Blk.new _ _ _
    have HB : Hid (Below w.heap.size w (w.alloc (.cells #[.int .i64 P, .int .i64 T, .int .i64 G] 23))) := hb
    have hsz := World.size_alloc w (.cells #[.int .i64 P, .int .i64 T, .int .i64 G] 23)
    have d1 : decide (g < 0) = false := decide_eq_false (by omega)
    have d2 : decide (G ≤ g) = false := decide_eq_false (by omega)
    clear hb
    go_enter Tryz.func76, Tryz.ntmps76
    go_wp2_with fail
    go_at_call 130; refine hT.mono ?_; rintro e w1 ⟨rfl, h1⟩
    have h2 := HB.out.trans (h1.mono HB.out.size)
    clear hT h1
    go_wp2_with fail
    go_ret
    exact ⟨rfl, h2⟩
  · have e : wd (20 + P * 264 + T * 3) G 2 g f = -1 := by unfold wd; rw [if_neg (fun h => hg ⟨h.1, h.2.1⟩)]
    rw [e]
    by_cases h0 : g < 0
    · clear hg e
      go_enter Tryz.func76, Tryz.ntmps76
      go_wp2_with fail
      go_ret
      exact ⟨rfl, hb⟩
    · have d1 : decide (g < 0) = false := decide_eq_false h0
      have h1 : G ≤ g := by omega
      clear hg e
      go_enter Tryz.func76, Tryz.ntmps76
      go_wp2_with fail
      go_ret
      exact ⟨rfl, hb⟩
end Go.Proofs.YtfdpikkinlljlaaGreat

namespace Go.Proofs.YtfdpikkinlljlaaGreat
open Go Go.RowKit
set_option linter.unusedVariables false
set_option maxRecDepth 100000
set_option linter.unusedSimpArgs false

def LoGot {σ : Type} (M : PM σ) (emb : LoT → σ) (P p : Int) (w : World) (x : Nat) (A : Option Addr) (cap m : Nat) (gf : Nat → Int) (s0 : σ) (Q : σ → Prop) (j : Nat) (e : Ending) (w' : World) : Prop :=
  ∃ z j' s, e = .returned (.bool z) ∧ RunOn w' x A cap m gf (M.rj s0 gf m j') ∧ Syn M s0 gf m j' (emb s) (PmQ Q (loPM P p) emb) ∧ (loPM P p).ax s = none ∧ (j' ≤ m → z = s.e) ∧ (m < j' → z = false) ∧ But [x] w w' ∧ j ≤ j'
set_option maxHeartbeats 4000000 in
theorem syn_look {σ : Type} {M : PM σ} {P T G p : Int} {emb : LoT → σ} (hE : PmIn M (loPM P p) emb) (hp : 0 ≤ P ∧ P ≤ 64)
    {w : World} {x : Nat} {A : Option Addr} {cap m : Nat} {gf : Nat → Int} {s0 : σ} {j : Nat} {Q : σ → Prop} (hR : RunOn w x A cap m gf (M.rj s0 gf m j)) (hS : Syn M s0 gf m j (emb .hd) Q) (hb : ∀ j, j < m → 0 ≤ gf j ∧ gf j ≤ 18446744073709551615) :
    Calls Tryz.prog 100 #[.pointer (some ⟨x, 0, none⟩), .agg #[.int .i64 P, .int .i64 T, .int .i64 G], .int .i64 p] w fun e w' => LoGot M emb P p w x A cap m gf s0 Q j e w' := by
  have hb0 : Below w.heap.size w (w.alloc (.cells #[.int .i64 P, .int .i64 T, .int .i64 G] 23)) := (Below.refl _ _).alloc (Nat.le_refl _) _
  have HX0 : Hid (Blk (w.alloc (.cells #[.int .i64 P, .int .i64 T, .int .i64 G] 23)) w.heap.size #[.int .i64 P, .int .i64 T, .int .i64 G] 23) := Blk.new _ _ _
  have hxw := hR.blk.lt
  have HB0 : Hid (But [x] w (w.alloc (.cells #[.int .i64 P, .int .i64 T, .int .i64 G] 23))) := But.of_below hb0
  have HBD : Hid (∀ j, j < m → 0 ≤ gf j ∧ gf j ≤ 18446744073709551615) := hb
  have HE : Hid (PmIn M (loPM P p) emb) := hE
  have HPA : Hid (∀ f W, 0 ≤ f ∧ f < 8 → Calls Tryz.prog 131 #[.agg #[.int .i64 P, .int .i64 T, .int .i64 G], .int .i64 p, .int .i64 f] W fun e w' => e = .returned (.int .i64 (wd 20 P 264 p f)) ∧ Below W.heap.size W w') := fun f W hf => rprcAt_all P T G p f W hp.2 hf
  have HR0 : Hid (RunOn (w.alloc (.cells #[.int .i64 P, .int .i64 T, .int .i64 G] 23)) x A cap m gf (M.rj s0 gf m j)) := hR.below hb0
  have HS0 : Hid (Syn M s0 gf m j (emb .hd) (PmQ Q (loPM P p) emb)) := hS.weak (fun q h => .inl h)
  clear hR hS hb hb0 hp hE
  go_enter Tryz.func100, Tryz.ntmps100
  go_wp2_with fail
  generalize (w.alloc (.cells #[.int .i64 P, .int .i64 T, .int .i64 G] 23)) = Y0 at *
  have hPA := HPA.out 1 Y0 (by omega)
  have k0 := HX0.out.cell 0 (v := .int .i64 P) rfl
  have k1 := HX0.out.cell 1 (v := .int .i64 T) rfl
  have k2 := HX0.out.cell 2 (v := .int .i64 G) rfl
  try go_wp2_with fail
  go_at_call 131; refine hPA.mono ?_; rintro e Y1 ⟨rfl, h1⟩
  have hA := syn_load (HR0.out.below h1) HS0.out HBD.out (wd 20 P 264 p 1) (fun _ => HE.out.ax .hd _ rfl)
  have HBx : Hid (But [x] w Y1) := HB0.out.trans (But.of_below h1)
  have HXx : Hid (Blk Y1 w.heap.size #[.int .i64 P, .int .i64 T, .int .i64 G] 23) := HX0.out.but (But.of_below (l := []) h1) (by simp)
  have HSx : Hid (Syn M s0 gf m j (emb .hd) (PmQ Q (loPM P p) emb)) := HS0.out
  clear hPA h1 k0 k1 k2 HX0 HB0 HR0 HS0
  generalize wd 20 P 264 p 1 = at0 at *
  go_wp2_with fail
  go_at_call 75; refine hA.mono ?_; rintro e Y2 ⟨v1, rfl, hK⟩
  have HR1 : Hid (RunOn Y2 x A cap m gf (M.rj s0 gf m (j + 1))) := hK.run
  have HS1 : Hid (Syn M s0 gf m (j + 1) (emb (.tl v1)) (PmQ Q (loPM P p) emb)) := by
    have h := hK.syn
    rw [HE.out.nx .hd _ _ rfl] at h
    exact h.weak (fun q h => PmQ.next (t := .hd) rfl h)
  have HB1 : Hid (But [x] w Y2) := HBx.out.trans hK.but
  have HX1 : Hid (Blk Y2 w.heap.size #[.int .i64 P, .int .i64 T, .int .i64 G] 23) := HXx.out.but hK.but (by simp; omega)
  clear hA hK HBx HXx HSx
  have hPA := HPA.out 2 Y2 (by omega)
  have k0 := HX1.out.cell 0 (v := .int .i64 P) rfl
  have k1 := HX1.out.cell 1 (v := .int .i64 T) rfl
  have k2 := HX1.out.cell 2 (v := .int .i64 G) rfl
  try go_wp2_with fail
  go_at_call 131; refine hPA.mono ?_; rintro e Y3 ⟨rfl, h1⟩
  have hA := syn_load (HR1.out.below h1) HS1.out HBD.out (wd 20 P 264 p 2) (fun _ => HE.out.ax (.tl v1) _ rfl)
  have HBx : Hid (But [x] w Y3) := HB1.out.trans (But.of_below h1)
  have HXx : Hid (Blk Y3 w.heap.size #[.int .i64 P, .int .i64 T, .int .i64 G] 23) := HX1.out.but (But.of_below (l := []) h1) (by simp)
  have HSx : Hid (Syn M s0 gf m (j + 1) (emb (.tl v1)) (PmQ Q (loPM P p) emb)) := HS1.out
  clear hPA h1 k0 k1 k2 HX1 HB1 HR1 HS1
  generalize wd 20 P 264 p 2 = at1 at *
  go_wp2_with fail
  go_at_call 75; refine hA.mono ?_; rintro e Y4 ⟨v2, rfl, hK⟩
  have HR2 : Hid (RunOn Y4 x A cap m gf (M.rj s0 gf m (j + 1 + 1))) := hK.run
  have HS2 : Hid (Syn M s0 gf m (j + 1 + 1) (emb (.nx v1 v2)) (PmQ Q (loPM P p) emb)) := by
    have h := hK.syn
    rw [HE.out.nx (.tl v1) _ _ rfl] at h
    exact h.weak (fun q h => PmQ.next (t := (.tl v1)) rfl h)
  have HB2 : Hid (But [x] w Y4) := HBx.out.trans hK.but
  have HX2 : Hid (Blk Y4 w.heap.size #[.int .i64 P, .int .i64 T, .int .i64 G] 23) := HXx.out.but hK.but (by simp; omega)
  clear hA hK HBx HXx HSx
  have hPA := HPA.out 3 Y4 (by omega)
  have k0 := HX2.out.cell 0 (v := .int .i64 P) rfl
  have k1 := HX2.out.cell 1 (v := .int .i64 T) rfl
  have k2 := HX2.out.cell 2 (v := .int .i64 G) rfl
  try go_wp2_with fail
  go_at_call 131; refine hPA.mono ?_; rintro e Y5 ⟨rfl, h1⟩
  have hA := syn_load (HR2.out.below h1) HS2.out HBD.out (wd 20 P 264 p 3) (fun _ => HE.out.ax (.nx v1 v2) _ rfl)
  have HBx : Hid (But [x] w Y5) := HB2.out.trans (But.of_below h1)
  have HXx : Hid (Blk Y5 w.heap.size #[.int .i64 P, .int .i64 T, .int .i64 G] 23) := HX2.out.but (But.of_below (l := []) h1) (by simp)
  have HSx : Hid (Syn M s0 gf m (j + 1 + 1) (emb (.nx v1 v2)) (PmQ Q (loPM P p) emb)) := HS2.out
  clear hPA h1 k0 k1 k2 HX2 HB2 HR2 HS2
  generalize wd 20 P 264 p 3 = at2 at *
  go_wp2_with fail
  go_at_call 75; refine hA.mono ?_; rintro e Y6 ⟨v3, rfl, hK⟩
  have HR3 : Hid (RunOn Y6 x A cap m gf (M.rj s0 gf m (j + 1 + 1 + 1))) := hK.run
  have HS3 : Hid (Syn M s0 gf m (j + 1 + 1 + 1) (emb (.ag v1 v2 v3)) (PmQ Q (loPM P p) emb)) := by
    have h := hK.syn
    rw [HE.out.nx (.nx v1 v2) _ _ rfl] at h
    exact h.weak (fun q h => PmQ.next (t := (.nx v1 v2)) rfl h)
  have HB3 : Hid (But [x] w Y6) := HBx.out.trans hK.but
  have HX3 : Hid (Blk Y6 w.heap.size #[.int .i64 P, .int .i64 T, .int .i64 G] 23) := HXx.out.but hK.but (by simp; omega)
  clear hA hK HBx HXx HSx
  have hPA := HPA.out 2 Y6 (by omega)
  have k0 := HX3.out.cell 0 (v := .int .i64 P) rfl
  have k1 := HX3.out.cell 1 (v := .int .i64 T) rfl
  have k2 := HX3.out.cell 2 (v := .int .i64 G) rfl
  try go_wp2_with fail
  go_at_call 131; refine hPA.mono ?_; rintro e Y7 ⟨rfl, h1⟩
  have hA := syn_load (HR3.out.below h1) HS3.out HBD.out (wd 20 P 264 p 2) (fun _ => HE.out.ax (.ag v1 v2 v3) _ rfl)
  have HBx : Hid (But [x] w Y7) := HB3.out.trans (But.of_below h1)
  have HXx : Hid (Blk Y7 w.heap.size #[.int .i64 P, .int .i64 T, .int .i64 G] 23) := HX3.out.but (But.of_below (l := []) h1) (by simp)
  have HSx : Hid (Syn M s0 gf m (j + 1 + 1 + 1) (emb (.ag v1 v2 v3)) (PmQ Q (loPM P p) emb)) := HS3.out
  clear hPA h1 k0 k1 k2 HX3 HB3 HR3 HS3
  generalize wd 20 P 264 p 2 = at3 at *
  go_wp2_with fail
  go_at_call 75; refine hA.mono ?_; rintro e Y8 ⟨v4, rfl, hK⟩
  have HR4 : Hid (RunOn Y8 x A cap m gf (M.rj s0 gf m (j + 1 + 1 + 1 + 1))) := hK.run
  have HS4 : Hid (Syn M s0 gf m (j + 1 + 1 + 1 + 1) (emb (.over v1 v2 v3 (decide (v4 = v2 ∧ v4 = v1 ∧ v3 = 0)))) (PmQ Q (loPM P p) emb)) := by
    have h := hK.syn
    rw [HE.out.nx (.ag v1 v2 v3) _ _ rfl] at h
    exact h.weak (fun q h => PmQ.next (t := (.ag v1 v2 v3)) rfl h)
  have HB4 : Hid (But [x] w Y8) := HBx.out.trans hK.but
  have HX4 : Hid (Blk Y8 w.heap.size #[.int .i64 P, .int .i64 T, .int .i64 G] 23) := HXx.out.but hK.but (by simp; omega)
  clear hA hK HBx HXx HSx
  have sc := HR4.out.blk.cell 2 (v := .bool (M.rj s0 gf m (j + 1 + 1 + 1 + 1)).stop) rfl
  rw [rj_stop HS4.out] at sc
  clear HX4 HPA HBD HE
  by_cases hst : m < j + 1 + 1 + 1 + 1
  · rw [decide_eq_true hst] at sc
    have HF : Hid (LoGot M emb P p w x A cap m gf s0 Q j (.returned (.bool false)) Y8) := ⟨false, _, _, rfl, HR4.out, HS4.out, rfl, fun h => absurd h (by omega), fun _ => rfl, HB4.out, by omega⟩
    clear hst HR4 HS4 HB4
    go_wp2_with fail
    go_ret
    exact HF.out
  · rw [decide_eq_false hst] at sc
    have HF : Hid (∀ z, z = (decide (v1 = v2) && decide (v4 = v2) && decide (v3 = 0)) → LoGot M emb P p w x A cap m gf s0 Q j (.returned (.bool z)) Y8) := by
      intro z hz
      refine ⟨z, _, _, rfl, HR4.out, HS4.out, rfl, fun _ => ?_, fun h => absurd h hst, HB4.out, by omega⟩
      rw [hz, Bool.eq_iff_iff]
      simp [LoT.e]
      constructor
      · rintro ⟨⟨a, b⟩, c⟩; exact ⟨b, by omega, c⟩
      · rintro ⟨a, b, c⟩; exact ⟨⟨by omega, a⟩, c⟩
    clear hst HR4 HS4 HB4
    go_wp2_with fail
    all_goals
      go_ret
      refine HF.out _ ?_
      rw [Bool.eq_iff_iff]
      simp [*]
end Go.Proofs.YtfdpikkinlljlaaGreat

namespace Go.Proofs.YtfdpikkinlljlaaGreat
open Go Go.RowKit
set_option linter.unusedVariables false
set_option maxRecDepth 100000
set_option linter.unusedSimpArgs false

theorem rbit_any (p : Int) (w : World) : Calls Tryz.prog 167 #[.int .i64 p] w fun e w' => e = .returned (.int .u64 (bitOf p)) ∧ w = w' := by
  by_cases h0 : p < 0
  · have e : bitOf p = 0 := by unfold bitOf; rw [if_neg (by omega)]
    rw [e]
    go_enter Tryz.func167, Tryz.ntmps167
    go_wp2_with fail
    go_ret
    exact ⟨rfl, rfl⟩
  · have d0 : decide (p < 0) = false := decide_eq_false h0
    by_cases h1 : 63 < p
    · have e : bitOf p = 0 := by unfold bitOf; rw [if_neg (by omega)]
      rw [e]
      clear h0
      go_enter Tryz.func167, Tryz.ntmps167
      go_wp2_with fail
      go_ret
      exact ⟨rfl, rfl⟩
    · have d1 : decide (63 < p) = false := decide_eq_false h1
      obtain ⟨n, rfl⟩ : ∃ n : Nat, p = n := ⟨p.toNat, by omega⟩
      have e : bitOf (n : Int) = ((2 ^ n : Nat) : Int) := by unfold bitOf; rw [if_pos (by omega)]; rfl
      have HN : Hid (n ≤ 63) := (by omega : n ≤ 63)
      rw [e]
      clear h0 h1 e
      go_enter Tryz.func167, Tryz.ntmps167
      go_wp2_with fail
      go_loopw [3, 4] (fun o i wr => ∃ k z : Nat, k ≤ n ∧ o = .int .u64 (z : Int) ∧ i = .int .i64 k ∧ wr = w ∧ Hid (z = 2 ^ k)) (fun _ i _ => n - (intOf i).toNat)
      case atStart => exact ⟨0, 1, Nat.zero_le _, rfl, rfl, rfl, rfl⟩
      case round =>
        obtain ⟨k, z, hk, rfl, rfl, rfl, HZ⟩ := hrel
        have hn63 := HN.out
        by_cases hlt : k < n
        · have hz : z ≤ 2 ^ 62 := by rw [HZ.out]; exact Nat.pow_le_pow_right (by omega) (by omega)
          have e2 : IntKind.u64.wrap (2 * (z : Int)) = ((2 * z : Nat) : Int) := by rw [wrap_u64 (by omega)]; omega
          have HZ2 : Hid (2 * z = 2 ^ (k + 1)) := (by rw [Nat.pow_succ, HZ.out]; omega : 2 * z = 2 ^ (k + 1))
          generalize 2 * z = z' at *
          have hk1 : (k : Int) < (n : Int) := by omega
          clear hz
          go_wp2_with fail
          go_roundw
          case rel => exact ⟨k + 1, z', by omega, rfl, by go_num, trivial, HZ2⟩
          case measure => simp [intOf]; omega
        · obtain rfl : k = n := by omega
          have hgd : decide ((k : Int) < (k : Int)) = false := by simp
          go_wp2_with fail
          go_ret
          rw [← HZ.out]
          exact ⟨rfl, rfl⟩
theorem rmasked_any (v p : Int) (w : World) (hv : 0 ≤ v ∧ v ≤ 18446744073709551615) : Calls Tryz.prog 166 #[.int .u64 v, .int .i64 p] w fun e w' => e = .returned (.bool (mskB v p)) ∧ w = w' := by
  have hB := fun W => rbit_any p W
  have hbd := bitOf_bd p
  unfold mskB
  by_cases h0 : bitOf p = 0
  · rw [h0] at hB ⊢
    clear h0 hbd
    go_enter Tryz.func166, Tryz.ntmps166
    go_wp2_with fail
    go_at_call 167; refine (hB _).mono ?_; rintro e w1 ⟨rfl, rfl⟩
    go_wp2_with fail
    go_ret
    exact ⟨rfl, rfl⟩
  · rw [decide_eq_true h0, Bool.true_and]
    have t1 : v.tdiv (bitOf p) = v / bitOf p := Int.tdiv_eq_ediv_of_nonneg hv.1
    have hq : 0 ≤ v / bitOf p := Int.ediv_nonneg hv.1 hbd.1
    have hq2 : v / bitOf p ≤ v := Int.ediv_le_self _ hv.1
    have t2 : (v / bitOf p).tmod 2 = v / bitOf p % 2 := Int.tmod_eq_emod_of_nonneg hq
    have t3 : IntKind.u64.wrap (v / bitOf p) = v / bitOf p := wrap_u64 (by omega)
    have t4 : IntKind.u64.wrap (v / bitOf p % 2) = v / bitOf p % 2 := wrap_u64 (by omega)
    have hd0 : (bitOf p == 0) = false := by simpa using h0
    generalize v / bitOf p = q at *
    generalize bitOf p = b at *
    have hr : 0 ≤ q % 2 := by omega
    generalize q % 2 = r at *
    have HH0 : Hid (b ≠ 0) := h0
    clear hbd hq hq2
    go_enter Tryz.func166, Tryz.ntmps166
    go_wp2_with fail
    go_at_call 167; refine (hB _).mono ?_; rintro e w1 ⟨rfl, rfl⟩
    go_wp2_with fail
    go_at_call 167; refine (hB _).mono ?_; rintro e w1 ⟨rfl, rfl⟩
    go_wp2_with fail
    go_ret
    have hb0 : (b != 0) = true := by simpa using HH0.out
    rw [← Bool.true_and (decide (r = 1)), ← hb0]
    exact ⟨rfl, rfl⟩
end Go.Proofs.YtfdpikkinlljlaaGreat

namespace Go.Proofs.YtfdpikkinlljlaaGreat
open Go Go.RowKit
set_option linter.unusedVariables false
set_option maxRecDepth 100000
set_option linter.unusedSimpArgs false

structure IpIn {σ : Type} (M : PM σ) (P p : Int) (emb : IpT → σ) : Prop where
  m0 : M.ax (emb .m0) = some (axLd 19)
  ms : ∀ w, M.ax (emb (.ms w)) = some (axSt 19 (mskIn w p))
  h0 : M.ax (emb .h0) = some (axLd 9)
  ln : ∀ h, M.ax (emb (.ln h)) = some (axSt (wd 20 P 264 p 7) h)
  st : M.ax (emb .st) = some (axSt 9 (ilw p))
  ct : M.ax (emb .ct) = some (axAd 10 1)
  n1 : ∀ v, M.nx (emb .m0) v = emb (.ms v)
  n2 : ∀ w v, M.nx (emb (.ms w)) v = emb .h0
  n3 : ∀ v, M.nx (emb .h0) v = emb (.ln v)
  n4 : ∀ h v, M.nx (emb (.ln h)) v = emb .st
  n5 : ∀ v, M.nx (emb .st) v = emb .ct
  n6 : ∀ v, M.nx (emb .ct) v = emb .over
/-- Where a put stopped, and what it answered. -/
def IpQ {σ : Type} (Q : σ → Prop) (emb : IpT → σ) (p r : Int) (q : σ) : Prop := (Q q ∧ r = p) ∨ ∃ p', p' ≠ IpT.over ∧ q = emb p' ∧ r = p'.obs p
theorem ip_in (P p : Int) : IpIn (ipPM P p) P p (fun t => t) := ⟨rfl, fun _ => rfl, rfl, fun _ => rfl, rfl, rfl, fun _ => rfl, fun _ _ => rfl, fun _ => rfl, fun _ _ => rfl, fun _ => rfl, fun _ => rfl⟩

set_option maxHeartbeats 4000000 in
theorem syn_iput {σ : Type} {M : PM σ} {P T G p : Int} {emb : IpT → σ} (hE : IpIn M P p emb) (hp : 0 ≤ P ∧ P ≤ 64)
    {w : World} {x : Nat} {A : Option Addr} {cap m : Nat} {g : Nat → Int} {s0 : σ} {j : Nat} {Q : σ → Prop} (hR : RunOn w x A cap m g (M.rj s0 g m j)) (hS : Syn M s0 g m j (emb .m0) Q) (hb : ∀ j, j < m → 0 ≤ g j ∧ g j ≤ 18446744073709551615) :
    Calls Tryz.prog 156 #[.pointer (some ⟨x, 0, none⟩), .agg #[.int .i64 P, .int .i64 T, .int .i64 G], .int .i64 p] w fun e w' => ∃ r j', e = .returned (.int .i64 r) ∧ RunOn w' x A cap m g (M.rj s0 g m j') ∧ Syn M s0 g m j' (emb .over) (IpQ Q emb p r) ∧ (j' ≤ m → r = -1) ∧ But [x] w w' ∧ j ≤ j' := by
  have hb0 : Below w.heap.size w (w.alloc (.cells #[.int .i64 P, .int .i64 T, .int .i64 G] 23)) := (Below.refl _ _).alloc (Nat.le_refl _) _
  have HX : Hid (Blk (w.alloc (.cells #[.int .i64 P, .int .i64 T, .int .i64 G] 23)) w.heap.size #[.int .i64 P, .int .i64 T, .int .i64 G] 23) := Blk.new _ _ _
  have hxw := hR.blk.lt
  have HB0 : Hid (But [x] w (w.alloc (.cells #[.int .i64 P, .int .i64 T, .int .i64 G] 23))) := But.of_below hb0
  have HE : Hid (IpIn M P p emb) := hE
  have HBD : Hid (∀ j, j < m → 0 ≤ g j ∧ g j ≤ 18446744073709551615) := hb
  have hPA := fun W => rprcAt_all P T G p 7 W hp.2 (by omega)
  have hL := syn_load (hR.below hb0) hS hb 19 (fun _ => hE.m0)
  clear hR hS hE hb hb0 hp
  go_enter Tryz.func156, Tryz.ntmps156
  go_wp2_with fail
  generalize w.alloc (.cells #[.int .i64 P, .int .i64 T, .int .i64 G] 23) = W at *
  go_at_call 75; refine hL.mono ?_; rintro e y2 ⟨v, rfl, hK⟩
  have HR2 : Hid (RunOn y2 x A cap m g (M.rj s0 g m (j + 1))) := hK.run
  have hvb := hK.bd
  have HS2 : Hid (Syn M s0 g m (j + 1) (emb (.ms v)) (fun q => Q q ∨ ∃ p', p' ≠ IpT.over ∧ q = emb p' ∧ p'.obs p = p)) := by
    have := hK.syn
    rw [HE.out.n1] at this
    exact this.weak (fun r hr => by rcases hr with rfl | hr; exact .inr ⟨.m0, (fun h => by cases h), rfl, rfl⟩; exact .inl hr)
  have HX2 : Hid (Blk y2 w.heap.size #[.int .i64 P, .int .i64 T, .int .i64 G] 23) := HX.out.but hK.but (by simp; omega)
  have HB2 : Hid (But [x] w y2) := HB0.out.trans hK.but
  have hMk := rmasked_any v p y2 hvb
  have hBt := rbit_any p y2
  have hor := or_bit v p hvb
  have hSt2 := syn_store HR2.out HS2.out HBD.out 19 (mskIn v p) (fun _ => HE.out.ms v)
  clear hL hK HX HB0
  cases hmb : mskB v p
  · rw [hmb] at hMk
    have hmv : mskIn v p = v + bitOf p := by unfold mskIn; rw [hmb]; rfl
    have hwv : IntKind.u64.wrap (v + bitOf p) = mskIn v p := by rw [← hmv]; exact wrap_u64 (by omega)
    have HIN : Hid (True) := trivial
    clear hmb hor hmv
    generalize mskIn v p = mv at *
    generalize bitOf p = bp at *
    go_wp2_with fail
    go_at_call 166; refine hMk.mono ?_; rintro e w1 ⟨rfl, rfl⟩
    go_wp2_with fail
    go_at_call 167; refine hBt.mono ?_; rintro e w1 ⟨rfl, rfl⟩
    clear hMk hBt
    go_wp2_with fail
    go_at_call 92; refine hSt2.mono ?_; rintro e y3 ⟨⟨u3, rfl⟩, v3, hK⟩
    have HS3 : Hid (Syn M s0 g m (j + 1 + 1) (emb .h0) (fun q => Q q ∨ ∃ p', p' ≠ IpT.over ∧ q = emb p' ∧ p'.obs p = p)) := by
      have := hK.syn
      rw [HE.out.n2] at this
      exact this.weak (fun r hr => by rcases hr with rfl | hr; exact .inr ⟨.ms v, (fun h => by cases h), rfl, rfl⟩; exact hr)
    have HX3 : Hid (Blk y3 w.heap.size #[.int .i64 P, .int .i64 T, .int .i64 G] 23) := HX2.out.but hK.but (by simp; omega)
    have HB3 : Hid (But [x] w y3) := HB2.out.trans hK.but
    have hL3 := syn_load hK.run HS3.out HBD.out 9 (fun _ => HE.out.h0)
    clear hSt2 hK HX2 HB2 HS2 HR2
    go_wp2_with fail
    go_at_call 75; refine hL3.mono ?_; rintro e y4 ⟨h, rfl, hK⟩
    have HR4 : Hid (RunOn y4 x A cap m g (M.rj s0 g m (j + 1 + 1 + 1))) := hK.run
    have HS4 : Hid (Syn M s0 g m (j + 1 + 1 + 1) (emb (.ln h)) (fun q => Q q ∨ ∃ p', p' ≠ IpT.over ∧ q = emb p' ∧ p'.obs p = p)) := by
      have := hK.syn
      rw [HE.out.n3] at this
      exact this.weak (fun r hr => by rcases hr with rfl | hr; exact .inr ⟨.h0, (fun h => by cases h), rfl, rfl⟩; exact hr)
    have HX4 : Hid (Blk y4 w.heap.size #[.int .i64 P, .int .i64 T, .int .i64 G] 23) := HX3.out.but hK.but (by simp; omega)
    have HB4 : Hid (But [x] w y4) := HB3.out.trans hK.but
    have k0 := HX4.out.cell 0 (v := .int .i64 P) rfl
    have k1 := HX4.out.cell 1 (v := .int .i64 T) rfl
    have k2 := HX4.out.cell 2 (v := .int .i64 G) rfl
    have hPA4 := hPA y4
    have HSt4 : Hid (∀ Y, Below y4.heap.size y4 Y → _) := fun Y (hY : Below y4.heap.size y4 Y) => syn_store (HR4.out.below hY) HS4.out HBD.out (wd 20 P 264 p 7) h (fun _ => HE.out.ln h)
    clear hL3 hK HX3 HB3 HS3 hPA
    go_wp2_with fail
    go_at_call 131; refine hPA4.mono ?_; rintro e y5 ⟨rfl, h5⟩
    have hSt4 := HSt4.out y5 h5
    have HB5 : Hid (But [x] w y5) := HB4.out.trans (But.of_below h5)
    clear hPA4 h5 k0 k1 k2 HX4 HB4 HSt4 HR4
    go_wp2_with fail
    go_at_call 92; refine hSt4.mono ?_; rintro e y6 ⟨⟨u6, rfl⟩, v6, hK⟩
    have HS6 : Hid (Syn M s0 g m (j + 1 + 1 + 1 + 1) (emb .st) (fun q => Q q ∨ ∃ p', p' ≠ IpT.over ∧ q = emb p' ∧ p'.obs p = p)) := by
      have := hK.syn
      rw [HE.out.n4] at this
      exact this.weak (fun r hr => by rcases hr with rfl | hr; exact .inr ⟨.ln h, (fun h => by cases h), rfl, rfl⟩; exact hr)
    have HB6 : Hid (But [x] w y6) := HB5.out.trans hK.but
    have hSt6 := syn_store hK.run HS6.out HBD.out 9 (ilw p) (fun _ => HE.out.st)
    have hlw : IntKind.u64.wrap (IntKind.u64.wrap p + 1) = ilw p := rfl
    generalize ilw p = lp at *
    clear hSt4 hK HB5 HS4
    go_wp2_with fail
    go_at_call 92; refine hSt6.mono ?_; rintro e y7 ⟨⟨u7, rfl⟩, v7, hK⟩
    have HR7 : Hid (RunOn y7 x A cap m g (M.rj s0 g m (j + 1 + 1 + 1 + 1 + 1))) := hK.run
    have HS7 : Hid (Syn M s0 g m (j + 1 + 1 + 1 + 1 + 1) (emb .ct) (fun q => Q q ∨ ∃ p', p' ≠ IpT.over ∧ q = emb p' ∧ p'.obs p = p)) := by
      have := hK.syn
      rw [HE.out.n5] at this
      exact this.weak (fun r hr => by rcases hr with rfl | hr; exact .inr ⟨.st, (fun h => by cases h), rfl, rfl⟩; exact hr)
    have HB7 : Hid (But [x] w y7) := HB6.out.trans hK.but
    have hA7 := syn_add hK.run HS7.out HBD.out 10 1 (fun _ => HE.out.ct)
    have sc := HR7.out.blk.cell 2 (v := .bool (M.rj s0 g m (j + 1 + 1 + 1 + 1 + 1)).stop) rfl
    rw [rj_stop HS7.out] at sc
    clear hSt6 hK HB6 HS6 hlw
    by_cases hst : m < j + 1 + 1 + 1 + 1 + 1
    · have HST : Hid (m < j + 1 + 1 + 1 + 1 + 1) := hst
      have HPAST : Hid (IpQ Q emb p p (M.run s0 g m)) := by
        rcases (HS7.out.past hst).1 with hq | ⟨p', h1, h2, h3⟩
        · exact .inl ⟨hq, rfl⟩
        · exact .inr ⟨p', h1, h2, h3.symm⟩
      rw [decide_eq_true hst] at sc
      clear hst
      go_wp2_with fail
      go_at_call 137; refine hA7.mono ?_; rintro e y8 ⟨v8, rfl, hK⟩
      have HF : Hid (RunOn y8 x A cap m g (M.rj s0 g m (j + 1 + 1 + 1 + 1 + 1 + 1)) ∧ Syn M s0 g m (j + 1 + 1 + 1 + 1 + 1 + 1) (emb .over) (IpQ Q emb p p) ∧ But [x] w y8) := by
        exact ⟨hK.run, ⟨fun h => absurd h (by have := HST.out; omega), fun h => ⟨HPAST.out, (HS7.out.past HST.out).2⟩⟩, HB7.out.trans hK.but⟩
      clear hA7 hK sc
      go_wp2_with fail
      go_ret
      exact ⟨p, j + 1 + 1 + 1 + 1 + 1 + 1, rfl, HF.out.1, HF.out.2.1, fun h => absurd h (by have := HST.out; omega), HF.out.2.2, by omega⟩
    · have HST : Hid (j + 1 + 1 + 1 + 1 + 1 ≤ m) := (by omega : j + 1 + 1 + 1 + 1 + 1 ≤ m)
      rw [decide_eq_false hst] at sc
      clear hst
      go_wp2_with fail
      go_at_call 137; refine hA7.mono ?_; rintro e y8 ⟨v8, rfl, hK⟩
      have HF : Hid (RunOn y8 x A cap m g (M.rj s0 g m (j + 1 + 1 + 1 + 1 + 1 + 1)) ∧ Syn M s0 g m (j + 1 + 1 + 1 + 1 + 1 + 1) (emb .over) (IpQ Q emb p (-1)) ∧ But [x] w y8) := by
        have := hK.syn
        rw [HE.out.n6] at this
        refine ⟨hK.run, ⟨this.at', fun h => ⟨?_, (this.past h).2⟩⟩, HB7.out.trans hK.but⟩
        have hm : m = j + 1 + 1 + 1 + 1 + 1 := by have := HST.out; omega
        have h2 := HS7.out.at' HST.out
        rw [← hm] at h2
        exact .inr ⟨.ct, (fun h => by cases h), h2, rfl⟩
      clear hA7 hK sc
      go_wp2_with fail
      go_ret
      exact ⟨-1, j + 1 + 1 + 1 + 1 + 1 + 1, rfl, HF.out.1, HF.out.2.1, fun _ => rfl, HF.out.2.2, by omega⟩
  · rw [hmb] at hMk
    have hmv : mskIn v p = v := by unfold mskIn; rw [hmb]; rfl
    rw [hmv] at hSt2
    clear hmb hor hmv hBt
    go_wp2_with fail
    go_at_call 166; refine hMk.mono ?_; rintro e w1 ⟨rfl, rfl⟩
    clear hMk
    go_wp2_with fail
    go_at_call 92; refine hSt2.mono ?_; rintro e y3 ⟨⟨u3, rfl⟩, v3, hK⟩
    have HS3 : Hid (Syn M s0 g m (j + 1 + 1) (emb .h0) (fun q => Q q ∨ ∃ p', p' ≠ IpT.over ∧ q = emb p' ∧ p'.obs p = p)) := by
      have := hK.syn
      rw [HE.out.n2] at this
      exact this.weak (fun r hr => by rcases hr with rfl | hr; exact .inr ⟨.ms v, (fun h => by cases h), rfl, rfl⟩; exact hr)
    have HX3 : Hid (Blk y3 w.heap.size #[.int .i64 P, .int .i64 T, .int .i64 G] 23) := HX2.out.but hK.but (by simp; omega)
    have HB3 : Hid (But [x] w y3) := HB2.out.trans hK.but
    have hL3 := syn_load hK.run HS3.out HBD.out 9 (fun _ => HE.out.h0)
    clear hSt2 hK HX2 HB2 HS2 HR2
    go_wp2_with fail
    go_at_call 75; refine hL3.mono ?_; rintro e y4 ⟨h, rfl, hK⟩
    have HR4 : Hid (RunOn y4 x A cap m g (M.rj s0 g m (j + 1 + 1 + 1))) := hK.run
    have HS4 : Hid (Syn M s0 g m (j + 1 + 1 + 1) (emb (.ln h)) (fun q => Q q ∨ ∃ p', p' ≠ IpT.over ∧ q = emb p' ∧ p'.obs p = p)) := by
      have := hK.syn
      rw [HE.out.n3] at this
      exact this.weak (fun r hr => by rcases hr with rfl | hr; exact .inr ⟨.h0, (fun h => by cases h), rfl, rfl⟩; exact hr)
    have HX4 : Hid (Blk y4 w.heap.size #[.int .i64 P, .int .i64 T, .int .i64 G] 23) := HX3.out.but hK.but (by simp; omega)
    have HB4 : Hid (But [x] w y4) := HB3.out.trans hK.but
    have k0 := HX4.out.cell 0 (v := .int .i64 P) rfl
    have k1 := HX4.out.cell 1 (v := .int .i64 T) rfl
    have k2 := HX4.out.cell 2 (v := .int .i64 G) rfl
    have hPA4 := hPA y4
    have HSt4 : Hid (∀ Y, Below y4.heap.size y4 Y → _) := fun Y (hY : Below y4.heap.size y4 Y) => syn_store (HR4.out.below hY) HS4.out HBD.out (wd 20 P 264 p 7) h (fun _ => HE.out.ln h)
    clear hL3 hK HX3 HB3 HS3 hPA
    go_wp2_with fail
    go_at_call 131; refine hPA4.mono ?_; rintro e y5 ⟨rfl, h5⟩
    have hSt4 := HSt4.out y5 h5
    have HB5 : Hid (But [x] w y5) := HB4.out.trans (But.of_below h5)
    clear hPA4 h5 k0 k1 k2 HX4 HB4 HSt4 HR4
    go_wp2_with fail
    go_at_call 92; refine hSt4.mono ?_; rintro e y6 ⟨⟨u6, rfl⟩, v6, hK⟩
    have HS6 : Hid (Syn M s0 g m (j + 1 + 1 + 1 + 1) (emb .st) (fun q => Q q ∨ ∃ p', p' ≠ IpT.over ∧ q = emb p' ∧ p'.obs p = p)) := by
      have := hK.syn
      rw [HE.out.n4] at this
      exact this.weak (fun r hr => by rcases hr with rfl | hr; exact .inr ⟨.ln h, (fun h => by cases h), rfl, rfl⟩; exact hr)
    have HB6 : Hid (But [x] w y6) := HB5.out.trans hK.but
    have hSt6 := syn_store hK.run HS6.out HBD.out 9 (ilw p) (fun _ => HE.out.st)
    have hlw : IntKind.u64.wrap (IntKind.u64.wrap p + 1) = ilw p := rfl
    generalize ilw p = lp at *
    clear hSt4 hK HB5 HS4
    go_wp2_with fail
    go_at_call 92; refine hSt6.mono ?_; rintro e y7 ⟨⟨u7, rfl⟩, v7, hK⟩
    have HR7 : Hid (RunOn y7 x A cap m g (M.rj s0 g m (j + 1 + 1 + 1 + 1 + 1))) := hK.run
    have HS7 : Hid (Syn M s0 g m (j + 1 + 1 + 1 + 1 + 1) (emb .ct) (fun q => Q q ∨ ∃ p', p' ≠ IpT.over ∧ q = emb p' ∧ p'.obs p = p)) := by
      have := hK.syn
      rw [HE.out.n5] at this
      exact this.weak (fun r hr => by rcases hr with rfl | hr; exact .inr ⟨.st, (fun h => by cases h), rfl, rfl⟩; exact hr)
    have HB7 : Hid (But [x] w y7) := HB6.out.trans hK.but
    have hA7 := syn_add hK.run HS7.out HBD.out 10 1 (fun _ => HE.out.ct)
    have sc := HR7.out.blk.cell 2 (v := .bool (M.rj s0 g m (j + 1 + 1 + 1 + 1 + 1)).stop) rfl
    rw [rj_stop HS7.out] at sc
    clear hSt6 hK HB6 HS6 hlw
    by_cases hst : m < j + 1 + 1 + 1 + 1 + 1
    · have HST : Hid (m < j + 1 + 1 + 1 + 1 + 1) := hst
      have HPAST : Hid (IpQ Q emb p p (M.run s0 g m)) := by
        rcases (HS7.out.past hst).1 with hq | ⟨p', h1, h2, h3⟩
        · exact .inl ⟨hq, rfl⟩
        · exact .inr ⟨p', h1, h2, h3.symm⟩
      rw [decide_eq_true hst] at sc
      clear hst
      go_wp2_with fail
      go_at_call 137; refine hA7.mono ?_; rintro e y8 ⟨v8, rfl, hK⟩
      have HF : Hid (RunOn y8 x A cap m g (M.rj s0 g m (j + 1 + 1 + 1 + 1 + 1 + 1)) ∧ Syn M s0 g m (j + 1 + 1 + 1 + 1 + 1 + 1) (emb .over) (IpQ Q emb p p) ∧ But [x] w y8) := by
        exact ⟨hK.run, ⟨fun h => absurd h (by have := HST.out; omega), fun h => ⟨HPAST.out, (HS7.out.past HST.out).2⟩⟩, HB7.out.trans hK.but⟩
      clear hA7 hK sc
      go_wp2_with fail
      go_ret
      exact ⟨p, j + 1 + 1 + 1 + 1 + 1 + 1, rfl, HF.out.1, HF.out.2.1, fun h => absurd h (by have := HST.out; omega), HF.out.2.2, by omega⟩
    · have HST : Hid (j + 1 + 1 + 1 + 1 + 1 ≤ m) := (by omega : j + 1 + 1 + 1 + 1 + 1 ≤ m)
      rw [decide_eq_false hst] at sc
      clear hst
      go_wp2_with fail
      go_at_call 137; refine hA7.mono ?_; rintro e y8 ⟨v8, rfl, hK⟩
      have HF : Hid (RunOn y8 x A cap m g (M.rj s0 g m (j + 1 + 1 + 1 + 1 + 1 + 1)) ∧ Syn M s0 g m (j + 1 + 1 + 1 + 1 + 1 + 1) (emb .over) (IpQ Q emb p (-1)) ∧ But [x] w y8) := by
        have := hK.syn
        rw [HE.out.n6] at this
        refine ⟨hK.run, ⟨this.at', fun h => ⟨?_, (this.past h).2⟩⟩, HB7.out.trans hK.but⟩
        have hm : m = j + 1 + 1 + 1 + 1 + 1 := by have := HST.out; omega
        have h2 := HS7.out.at' HST.out
        rw [← hm] at h2
        exact .inr ⟨.ct, (fun h => by cases h), h2, rfl⟩
      clear hA7 hK sc
      go_wp2_with fail
      go_ret
      exact ⟨-1, j + 1 + 1 + 1 + 1 + 1 + 1, rfl, HF.out.1, HF.out.2.1, fun _ => rfl, HF.out.2.2, by omega⟩

theorem rgiput_on (w : World) (x : Nat) (A : Option Addr) (cap m : Nat) (gf : Nat → Int) (P T G p : Int) (t : IpT) (h : RunOn w x A cap m gf rn0) (hh : Hist (ipPM P p) .m0 gf m t) (hp : 0 ≤ P ∧ P ≤ 64) :
    Calls Tryz.prog 156 #[.pointer (some ⟨x, 0, none⟩), .agg #[.int .i64 P, .int .i64 T, .int .i64 G], .int .i64 p] w fun e w' => e = .returned (.int .i64 (t.obs p)) ∧ RunOn w' x A cap m gf ((ipPM P p).rn t m) ∧ But [x] w w' := by
  rw [← rj_start (M := ipPM P p) (s0 := IpT.m0) (g := gf) (m := m)] at h
  refine (syn_iput (ip_in P p) hp h (Syn.start _ _ _ _) hh.bd).mono ?_
  rintro e w' ⟨r, j', rfl, h1, h2, h4, h5, -⟩
  have hr : r = t.obs p := by
    rcases h2.fin hh (fun _ => rfl) with ⟨e1, e2⟩ | ⟨-, (⟨hf, -⟩ | ⟨p', -, e1, e2⟩)⟩
    · rw [e1]; exact h4 (by omega)
    · exact hf.elim
    · rw [e1]; exact e2
  rw [hr]
  refine ⟨rfl, ?_, h5⟩
  rw [← rj_end h2 hh (fun _ => rfl)]
  exact h1
end Go.Proofs.YtfdpikkinlljlaaGreat

namespace Go.Proofs.YtfdpikkinlljlaaGreat
open Go Go.RowKit
set_option linter.unusedVariables false
set_option maxRecDepth 100000
set_option linter.unusedSimpArgs false

structure JgIn {σ : Type} (M : PM σ) (P T : Int) (emb : JgT → σ) : Prop where
  ld : M.ax (emb .ld) = some (axLd 11)
  lk : ∀ y, M.ax (emb (.lk y)) = some (axLd (wd (20 + P * 264) T 3 y 2))
  un : ∀ y l, M.ax (emb (.un y l)) = some (axSt 11 l)
  ct : ∀ y, M.ax (emb (.ct y)) = some (axAd 12 4294967295)
  th : M.ax (emb .th) = some (axLd 15)
  nw : ∀ y, M.ax (emb (.nw y)) = some (axSt 15 (y + 1))
  n1 : ∀ v, M.nx (emb .ld) v = if v = 0 then emb .th else emb (.lk (gw v))
  n2 : ∀ y v, M.nx (emb (.lk y)) v = emb (.un y v)
  n3 : ∀ y l v, M.nx (emb (.un y l)) v = emb (.ct y)
  n4 : ∀ y v, M.nx (emb (.ct y)) v = emb (.over y)
  n5 : ∀ v, M.nx (emb .th) v = if T ≤ v then emb .none' else emb (.nw v)
  n6 : ∀ y v, M.nx (emb (.nw y)) v = emb (.over y)
def JgT.live : JgT → Bool
  | .none' => false
  | .over _ => false
  | _ => true
/-- Where a get stopped, and what it answered. -/
def JgQ {σ : Type} (Q : σ → Prop) (emb : JgT → σ) (r : Int) (q : σ) : Prop := (Q q ∧ r = -1) ∨ ∃ p', JgT.live p' = true ∧ q = emb p' ∧ r = p'.obs
theorem jg_in (P T : Int) : JgIn (jgPM P T) P T (fun t => t) := ⟨rfl, fun _ => rfl, fun _ _ => rfl, fun _ => rfl, rfl, fun _ => rfl, fun _ => rfl, fun _ _ => rfl, fun _ _ _ => rfl, fun _ _ => rfl, fun _ => rfl, fun _ _ => rfl⟩

set_option maxHeartbeats 4000000 in
theorem syn_jget {σ : Type} {M : PM σ} {P T G : Int} {emb : JgT → σ} (hE : JgIn M P T emb) (hp : 0 ≤ P ∧ P ≤ 64) (hT : 0 ≤ T ∧ T ≤ 65536)
    {w : World} {x : Nat} {A : Option Addr} {cap m : Nat} {g : Nat → Int} {s0 : σ} {j : Nat} {Q : σ → Prop} (hR : RunOn w x A cap m g (M.rj s0 g m j)) (hS : Syn M s0 g m j (emb .ld) Q) (hb : ∀ j, j < m → 0 ≤ g j ∧ g j ≤ 18446744073709551615) :
    Calls Tryz.prog 168 #[.pointer (some ⟨x, 0, none⟩), .agg #[.int .i64 P, .int .i64 T, .int .i64 G]] w fun e w' => ∃ r j' p, e = .returned (.int .i64 r) ∧ RunOn w' x A cap m g (M.rj s0 g m j') ∧ Syn M s0 g m j' (emb p) (JgQ Q emb r) ∧ p.live = false ∧ (j' ≤ m → r = p.obs) ∧ But [x] w w' ∧ j ≤ j' := by
  have hb0 : Below w.heap.size w (w.alloc (.cells #[.int .i64 P, .int .i64 T, .int .i64 G] 23)) := (Below.refl _ _).alloc (Nat.le_refl _) _
  have HX : Hid (Blk (w.alloc (.cells #[.int .i64 P, .int .i64 T, .int .i64 G] 23)) w.heap.size #[.int .i64 P, .int .i64 T, .int .i64 G] 23) := Blk.new _ _ _
  have hxw := hR.blk.lt
  have HB0 : Hid (But [x] w (w.alloc (.cells #[.int .i64 P, .int .i64 T, .int .i64 G] 23))) := But.of_below hb0
  have HE : Hid (JgIn M P T emb) := hE
  have HBD : Hid (∀ j, j < m → 0 ≤ g j ∧ g j ≤ 18446744073709551615) := hb
  have hPA := fun (y : Int) W => rthrAt_all P T G y 2 W hp hT.2 (by omega)
  have HT : Hid (0 ≤ T ∧ T ≤ 65536) := hT
  have hL := syn_load (hR.below hb0) hS hb 11 (fun _ => hE.ld)
  clear hR hS hE hb hb0 hp hT
  go_enter Tryz.func168, Tryz.ntmps168
  go_wp2_with fail
  generalize w.alloc (.cells #[.int .i64 P, .int .i64 T, .int .i64 G] 23) = W at *
  go_at_call 75; refine hL.mono ?_; rintro e y2 ⟨v, rfl, hK⟩
  have HR2 : Hid (RunOn y2 x A cap m g (M.rj s0 g m (j + 1))) := hK.run
  have HV2 : Hid (0 ≤ v ∧ v ≤ 18446744073709551615) := hK.bd
  have HS2 : Hid (Syn M s0 g m (j + 1) ((if v = 0 then emb .th else emb (.lk (gw v)))) (fun q => Q q ∨ ∃ p', p'.live = true ∧ q = emb p' ∧ p'.obs = -1)) := by
    have := hK.syn
    rw [HE.out.n1] at this
    exact this.weak (fun r hr => by rcases hr with rfl | hr; exact .inr ⟨.ld, rfl, rfl, rfl⟩; exact .inl hr)
  have HB2 : Hid (But [x] w y2) := HB0.out.trans hK.but
  have HX2 : Hid (Blk y2 w.heap.size #[.int .i64 P, .int .i64 T, .int .i64 G] 23) := HX.out.but hK.but (by simp; omega)
  clear hL hK HB0 HX
  by_cases h0 : v = 0
  · subst h0
    have HS2' : Hid (Syn M s0 g m (j + 1) (emb .th) (fun q => Q q ∨ ∃ p', p'.live = true ∧ q = emb p' ∧ p'.obs = -1)) := HS2.out.as (fun _ => if_pos rfl)
    have hL3 := syn_load HR2.out HS2'.out HBD.out 15 (fun _ => HE.out.th)
    have k1 := HX2.out.cell 1 (v := .int .i64 T) rfl
    clear hPA HS2 HR2 HV2
    go_wp2_with fail
    go_at_call 75; refine hL3.mono ?_; rintro e y3 ⟨v3, rfl, hK⟩
    have HR3 : Hid (RunOn y3 x A cap m g (M.rj s0 g m (j + 1 + 1))) := hK.run
    have HV3 : Hid (0 ≤ v3 ∧ v3 ≤ 18446744073709551615) := hK.bd
    have HS3 : Hid (Syn M s0 g m (j + 1 + 1) ((if T ≤ v3 then emb .none' else emb (.nw v3))) (fun q => Q q ∨ ∃ p', p'.live = true ∧ q = emb p' ∧ p'.obs = -1)) := by
      have := hK.syn
      rw [HE.out.n5] at this
      exact this.weak (fun r hr => by rcases hr with rfl | hr; exact .inr ⟨.th, rfl, rfl, rfl⟩; exact hr)
    have HB3 : Hid (But [x] w y3) := HB2.out.trans hK.but
    have HX3 : Hid (Blk y3 w.heap.size #[.int .i64 P, .int .i64 T, .int .i64 G] 23) := HX2.out.but hK.but (by simp; omega)
    clear hL3 hK HB2 HX2
    have k1 := HX3.out.cell 1 (v := .int .i64 T) rfl
    have hw1 : IntKind.u64.wrap T = T := wrap_u64 (by have := HT.out; omega)
    have hwv := HV3.out
    have hT0 := HT.out
    by_cases h1 : T ≤ v3
    · have d1 : decide (v3 < T) = false := decide_eq_false (by omega)
      clear hT0 hwv
      go_wp2_with fail
      go_ret
      refine ⟨-1, j + 1 + 1, .none', rfl, HR3.out, (HS3.out.as (t' := emb .none') (fun _ => if_pos h1)).weak ?_, rfl, fun _ => rfl, HB3.out, by omega⟩
      rintro q (hq | ⟨p', h1, h2, h3⟩)
      · exact .inl ⟨hq, rfl⟩
      · exact .inr ⟨p', h1, h2, h3.symm⟩
    · have d1 : v3 < T := by omega
      have HS3' : Hid (Syn M s0 g m (j + 1 + 1) (emb (.nw v3)) (fun q => Q q ∨ ∃ p', p'.live = true ∧ q = emb p' ∧ p'.obs = -1)) := HS3.out.as (fun _ => if_neg h1)
      have hw2 : IntKind.u64.wrap (v3 + 1) = v3 + 1 := wrap_u64 (by omega)
      have hw3 : IntKind.i64.wrap v3 = v3 := by simp [IntKind.wrap, IntKind.bits, IntKind.signed]; omega
      have hSt := syn_store HR3.out HS3'.out HBD.out 15 (v3 + 1) (fun _ => HE.out.nw v3)
      clear HS3 HR3 h1 HV3 hwv hT0
      have HS3 := HS3'
      clear HS3'
      go_wp2_with fail
      go_at_call 92; refine hSt.mono ?_; rintro e y4 ⟨⟨u4, rfl⟩, v4, hK⟩
      have HR4 : Hid (RunOn y4 x A cap m g (M.rj s0 g m (j + 1 + 1 + 1))) := hK.run
      have HSr : Hid _ := hK.syn
      have HB4 : Hid (But [x] w y4) := HB3.out.trans hK.but
      clear hSt hK HB3
      have sc := HR4.out.blk.cell 2 (v := .bool (M.rj s0 g m (j + 1 + 1 + 1)).stop) rfl
      rw [rj_stop HSr.out] at sc
      by_cases hst : m < j + 1 + 1 + 1
      · have HST : Hid (m < j + 1 + 1 + 1) := hst
        rw [decide_eq_true hst] at sc
        clear hst
        go_wp2_with fail
        go_ret
        refine ⟨-1, j + 1 + 1 + 1, .over v3, rfl, HR4.out, ⟨fun h => absurd h (by have := HST.out; omega), fun h => ⟨?_, (HSr.out.past HST.out).2⟩⟩, rfl, fun h => absurd h (by have := HST.out; omega), HB4.out, by omega⟩
        rcases (HSr.out.past HST.out).1 with hr | hq | ⟨p', h1, h2, h3⟩
        · exact .inr ⟨.nw v3, rfl, hr, rfl⟩
        · exact .inl ⟨hq, rfl⟩
        · exact .inr ⟨p', h1, h2, h3.symm⟩
      · have HST : Hid (j + 1 + 1 + 1 ≤ m) := (by omega : j + 1 + 1 + 1 ≤ m)
        rw [decide_eq_false hst] at sc
        clear hst
        go_wp2_with fail
        go_ret
        refine ⟨v3, j + 1 + 1 + 1, .over v3, rfl, HR4.out, ⟨fun h => ?_, fun h => absurd h (by have := HST.out; omega)⟩, rfl, fun _ => rfl, HB4.out, by omega⟩
        have := HSr.out.at' h
        rw [HE.out.n6] at this
        exact this
  · have hd0 : (v == 0) = false := by simpa using h0
    have hd1 : (v != 0) = true := by simpa using h0
    have e1 : wrap64 (IntKind.i64.wrap v - 1) = gw v := gw_eq v HV2.out
    have HS2' : Hid (Syn M s0 g m (j + 1) (emb (.lk (gw v))) (fun q => Q q ∨ ∃ p', p'.live = true ∧ q = emb p' ∧ p'.obs = -1)) := HS2.out.as (fun _ => if_neg h0)
    clear HS2
    have HS2 := HS2'
    clear HS2'
    generalize hyy : gw v = y at *
    generalize hvv : IntKind.i64.wrap v = v' at *
    have hPA2 := hPA y
    clear hPA hyy HV2
    have k0 := HX2.out.cell 0 (v := .int .i64 P) rfl
    have k1 := HX2.out.cell 1 (v := .int .i64 T) rfl
    have k2 := HX2.out.cell 2 (v := .int .i64 G) rfl
    have hPl := hPA2 y2
    have HAc : Hid (∀ Y, Below y2.heap.size y2 Y → _) := fun Y (hY : Below y2.heap.size y2 Y) => syn_load (HR2.out.below hY) HS2.out HBD.out (wd (20 + P * 264) T 3 y 2) (fun _ => HE.out.lk y)
    go_wp2_with fail
    go_at_call 169; refine hPl.mono ?_; rintro e y3 ⟨rfl, h5⟩
    have hA := HAc.out y3 h5
    have HB3 : Hid (But [x] w y3) := HB2.out.trans (But.of_below h5)
    have HX3 : Hid (Blk y3 w.heap.size #[.int .i64 P, .int .i64 T, .int .i64 G] 23) := HX2.out.but (But.of_below (l := []) h5) (by simp)
    clear hPl h5 k0 k1 k2 HX2 HB2 HAc HR2
    go_wp2_with fail
    clear hPA2
    go_at_call 75; refine hA.mono ?_; rintro e y4 ⟨l, rfl, hK⟩
    have HR4 : Hid (RunOn y4 x A cap m g (M.rj s0 g m (j + 1 + 1))) := hK.run
    have HV4 : Hid (0 ≤ l ∧ l ≤ 18446744073709551615) := hK.bd
    have HS4 : Hid (Syn M s0 g m (j + 1 + 1) (emb (.un y l)) (fun q => Q q ∨ ∃ p', p'.live = true ∧ q = emb p' ∧ p'.obs = -1)) := by
      have := hK.syn
      rw [HE.out.n2] at this
      exact this.weak (fun r hr => by rcases hr with rfl | hr; exact .inr ⟨.lk y, rfl, rfl, rfl⟩; exact hr)
    have HB4 : Hid (But [x] w y4) := HB3.out.trans hK.but
    have HX4 : Hid (Blk y4 w.heap.size #[.int .i64 P, .int .i64 T, .int .i64 G] 23) := HX3.out.but hK.but (by simp; omega)
    clear hA hK HB3 HX3
    have hSt := syn_store HR4.out HS4.out HBD.out 11 l (fun _ => HE.out.un y l)
    clear HX4 HR4
    go_wp2_with fail
    go_at_call 92; refine hSt.mono ?_; rintro e y5 ⟨⟨u5, rfl⟩, v5, hK⟩
    have HR5 : Hid (RunOn y5 x A cap m g (M.rj s0 g m (j + 1 + 1 + 1))) := hK.run
    have HS5 : Hid (Syn M s0 g m (j + 1 + 1 + 1) (emb (.ct y)) (fun q => Q q ∨ ∃ p', p'.live = true ∧ q = emb p' ∧ p'.obs = -1)) := by
      have := hK.syn
      rw [HE.out.n3] at this
      exact this.weak (fun r hr => by rcases hr with rfl | hr; exact .inr ⟨.un y l, rfl, rfl, rfl⟩; exact hr)
    have HB5 : Hid (But [x] w y5) := HB4.out.trans hK.but
    clear hSt hK HB4
    clear HS4
    have sc := HR5.out.blk.cell 2 (v := .bool (M.rj s0 g m (j + 1 + 1 + 1)).stop) rfl
    rw [rj_stop HS5.out] at sc
    by_cases hst : m < j + 1 + 1 + 1
    · have HST : Hid (m < j + 1 + 1 + 1) := hst
      have HPAST : Hid (JgQ Q emb (-1) (M.run s0 g m)) := by
        rcases (HS5.out.past hst).1 with hq | ⟨p', h1, h2, h3⟩
        · exact .inl ⟨hq, rfl⟩
        · exact .inr ⟨p', h1, h2, h3.symm⟩
      rw [decide_eq_true hst] at sc
      have hA7 := syn_add HR5.out HS5.out HBD.out 12 4294967295 (fun _ => HE.out.ct y)
      clear hst
      go_wp2_with fail
      go_at_call 137; refine hA7.mono ?_; rintro e y9 ⟨v9, rfl, hK⟩
      have HF : Hid (RunOn y9 x A cap m g (M.rj s0 g m (j + 1 + 1 + 1 + 1)) ∧ Syn M s0 g m (j + 1 + 1 + 1 + 1) (emb (.over y)) (JgQ Q emb (-1)) ∧ But [x] w y9) := by
        exact ⟨hK.run, ⟨fun h => absurd h (by have := HST.out; omega), fun h => ⟨HPAST.out, (HS5.out.past HST.out).2⟩⟩, HB5.out.trans hK.but⟩
      clear hA7 hK sc
      go_wp2_with fail
      go_ret
      exact ⟨-1, j + 1 + 1 + 1 + 1, .over y, rfl, HF.out.1, HF.out.2.1, rfl, fun h => absurd h (by have := HST.out; omega), HF.out.2.2, by omega⟩
    · have HST : Hid (j + 1 + 1 + 1 ≤ m) := (by omega : j + 1 + 1 + 1 ≤ m)
      rw [decide_eq_false hst] at sc
      have hA7 := syn_add HR5.out HS5.out HBD.out 12 4294967295 (fun _ => HE.out.ct y)
      clear hst
      go_wp2_with fail
      go_at_call 137; refine hA7.mono ?_; rintro e y9 ⟨v9, rfl, hK⟩
      have HF : Hid (RunOn y9 x A cap m g (M.rj s0 g m (j + 1 + 1 + 1 + 1)) ∧ Syn M s0 g m (j + 1 + 1 + 1 + 1) (emb (.over y)) (JgQ Q emb y) ∧ But [x] w y9) := by
        have := hK.syn
        rw [HE.out.n4] at this
        refine ⟨hK.run, ⟨this.at', fun h => ⟨?_, (this.past h).2⟩⟩, HB5.out.trans hK.but⟩
        have hm : m = j + 1 + 1 + 1 := by have := HST.out; omega
        have h2 := HS5.out.at' HST.out
        rw [← hm] at h2
        exact .inr ⟨.ct y, rfl, h2, rfl⟩
      clear hA7 hK sc
      go_wp2_with fail
      go_ret
      exact ⟨y, j + 1 + 1 + 1 + 1, .over y, rfl, HF.out.1, HF.out.2.1, rfl, fun _ => rfl, HF.out.2.2, by omega⟩

theorem rgjget_on (w : World) (x : Nat) (A : Option Addr) (cap m : Nat) (gf : Nat → Int) (P T G : Int) (t : JgT) (h : RunOn w x A cap m gf rn0) (hh : Hist (jgPM P T) JgT.ld gf m t) (hp : 0 ≤ P ∧ P ≤ 64) (hT : 0 ≤ T ∧ T ≤ 65536) :
    Calls Tryz.prog 168 #[.pointer (some ⟨x, 0, none⟩), .agg #[.int .i64 P, .int .i64 T, .int .i64 G]] w fun e w' => e = .returned (.int .i64 t.obs) ∧ RunOn w' x A cap m gf ((jgPM P T).rn t m) ∧ But [x] w w' := by
  rw [← rj_start (M := jgPM P T) (s0 := JgT.ld) (g := gf) (m := m)] at h
  refine (syn_jget (jg_in P T) hp hT h (Syn.start _ _ _ _) hh.bd).mono ?_
  rintro e w' ⟨r, j', p, rfl, h1, h2, h3, h4, h5, -⟩
  have hn : (jgPM P T).ax p = none := by cases p <;> first | rfl | cases h3
  have hr : r = t.obs := by
    rcases h2.fin hh (fun _ => hn) with ⟨e1, e2⟩ | ⟨-, (⟨hf, -⟩ | ⟨p', -, e1, e2⟩)⟩
    · rw [e1]; exact h4 (by omega)
    · exact hf.elim
    · rw [e1]; exact e2
  rw [hr]
  refine ⟨rfl, ?_, h5⟩
  rw [← rj_end h2 hh (fun _ => hn)]
  exact h1
end Go.Proofs.YtfdpikkinlljlaaGreat

namespace Go.Proofs.YtfdpikkinlljlaaGreat
open Go Go.RowKit
set_option linter.unusedVariables false
set_option maxRecDepth 100000
set_option linter.unusedSimpArgs false

theorem rws_word (w : World) (p : Int) (sp : Bool) : Calls Tryz.prog 170 #[.int .i64 p, .bool sp] w fun e w' => e = .returned (.int .u64 (wkWord p sp)) ∧ w = w' := by
  cases sp with
  | false =>
    have hlw : IntKind.u64.wrap (IntKind.u64.wrap p + 1) = wkWord p false := rfl
    generalize wkWord p false = v at *
    go_enter Tryz.func170, Tryz.ntmps170
    go_wp2_with fail
    go_ret
    exact ⟨rfl, rfl⟩
  | true =>
    have hlw : IntKind.u64.wrap (IntKind.u64.wrap (4294967296 + IntKind.u64.wrap p) + 1) = wkWord p true := by
      show _ = IntKind.u64.wrap (IntKind.u64.wrap (IntKind.u64.wrap p + 1) + 4294967296)
      simp only [IntKind.wrap, IntKind.bits, IntKind.signed]
      simp
      omega
    generalize wkWord p true = v at *
    go_enter Tryz.func170, Tryz.ntmps170
    go_wp2_with fail
    go_ret
    exact ⟨rfl, rfl⟩
/-- A machine that starts a thread within it. -/
structure WsIn {σ : Type} (M : PM σ) (P T p : Int) (sp lf : Bool) (emb : WsT → σ) : Prop where
  ax : ∀ t a, (wsPM P T p sp lf).ax t = some a → M.ax (emb t) = some a
  nx : ∀ t a v, (wsPM P T p sp lf).ax t = some a → M.nx (emb t) v = emb ((wsPM P T p sp lf).nx t v)
theorem ws_in (P T p : Int) (sp lf : Bool) : WsIn (wsPM P T p sp lf) P T p sp lf (fun t => t) := ⟨fun _ _ h => h, fun _ _ _ _ => rfl⟩
/-- Where it stopped, and what it answered. -/
def WsQ {σ : Type} (Q : σ → Prop) (emb : WsT → σ) (P T p : Int) (sp lf : Bool) (p' t' : Int) (q : σ) : Prop := (Q q ∧ p' = p ∧ t' = -1) ∨ ∃ s a, (wsPM P T p sp lf).ax s = some a ∧ q = emb s ∧ p' = s.holds p ∧ t' = s.q.obs
section
variable {σ : Type} {M : PM σ} {P T p : Int} {sp lf : Bool} {emb : WsT → σ}
theorem jg_live_ax {q : JgT} : ((jgPM P T).ax q).isSome = q.live := by cases q <;> rfl
def wsJ (emb : WsT → σ) (q : JgT) : σ := if q.live = true then emb (.get q) else if q.obs = -1 then emb (.need q) else emb (.rel1 q .fresh)
theorem ws_jgIn (hE : WsIn M P T p sp lf emb) : JgIn M P T (wsJ emb) := by
  have key : ∀ q a v, (jgPM P T).ax q = some a → M.nx (wsJ emb q) v = wsJ emb ((jgPM P T).nx q v) := fun q a v h => by
    have hl : q.live = true := by rw [← jg_live_ax (P := P) (T := T), h]; rfl
    have e1 : wsJ emb q = emb (.get q) := if_pos hl
    rw [e1, hE.nx (.get q) a v h]
    show emb (if ((jgPM P T).ax ((jgPM P T).nx q v)).isSome = true then .get ((jgPM P T).nx q v) else if ((jgPM P T).nx q v).obs = -1 then .need ((jgPM P T).nx q v) else .rel1 ((jgPM P T).nx q v) .fresh) = wsJ emb ((jgPM P T).nx q v)
    unfold wsJ
    rw [jg_live_ax]
    split
    · rfl
    · split <;> rfl
  exact ⟨hE.ax (.get .ld) _ rfl, fun y => hE.ax (.get (.lk y)) _ rfl, fun y l => hE.ax (.get (.un y l)) _ rfl, fun y => hE.ax (.get (.ct y)) _ rfl, hE.ax (.get .th) _ rfl, fun y => hE.ax (.get (.nw y)) _ rfl,
    fun v => (key .ld _ v rfl).trans (by show wsJ emb (if v = 0 then .th else .lk (gw v)) = _; split <;> rfl), fun y v => key (.lk y) _ v rfl, fun y l v => key (.un y l) _ v rfl, fun y v => key (.ct y) _ v rfl,
    fun v => (key .th _ v rfl).trans (by show wsJ emb (if T ≤ v then .none' else .nw v) = _; split <;> rfl), fun y v => key (.nw y) _ v rfl⟩
def wsI (emb : WsT → σ) (q : JgT) : IpT → σ
  | .over => emb (.rel2 q (some .over) .fresh)
  | b => emb (.back q b)
theorem ws_ipIn (hE : WsIn M P T p sp lf emb) (q : JgT) : IpIn M P p (wsI emb q) :=
  ⟨hE.ax (.back q .m0) _ rfl, fun w => hE.ax (.back q (.ms w)) _ rfl, hE.ax (.back q .h0) _ rfl, fun h => hE.ax (.back q (.ln h)) _ rfl, hE.ax (.back q .st) _ rfl, hE.ax (.back q .ct) _ rfl,
   fun v => hE.nx (.back q .m0) _ v rfl, fun w v => hE.nx (.back q (.ms w)) _ v rfl, fun v => hE.nx (.back q .h0) _ v rfl, fun h v => hE.nx (.back q (.ln h)) _ v rfl, fun v => hE.nx (.back q .st) _ v rfl, fun v => hE.nx (.back q .ct) _ v rfl⟩
def wsR1 (emb : WsT → σ) (q : JgT) : RelT → σ
  | .over => emb (.give q)
  | r => emb (.rel1 q r)
theorem ws_relIn1 (hE : WsIn M P T p sp lf emb) (q : JgT) : RelIn M 0 (wsR1 emb q) :=
  ⟨hE.ax (.rel1 q .fresh) _ rfl, hE.ax (.rel1 q .pass) _ rfl, fun v => hE.nx (.rel1 q .fresh) _ v rfl, fun v => hE.nx (.rel1 q .pass) _ v rfl⟩
def wsR2 (emb : WsT → σ) (q : JgT) (b : Option IpT) (r : RelT) : σ := emb (.rel2 q b r)
theorem ws_relIn2 (hE : WsIn M P T p sp lf emb) (q : JgT) (b : Option IpT) : RelIn M 0 (wsR2 emb q b) :=
  ⟨hE.ax (.rel2 q b .fresh) _ rfl, hE.ax (.rel2 q b .pass) _ rfl, fun v => hE.nx (.rel2 q b .fresh) _ v rfl, fun v => hE.nx (.rel2 q b .pass) _ v rfl⟩
end
/-- The document's wake of a note. -/
theorem syn_nwake {σ : Type} {M : PM σ} {P T G t : Int} {a b : σ} (hax : M.ax a = some (axSt (wd (20 + P * 264) T 3 t 0) 1)) (hnx : ∀ v, M.nx a v = b) (hp : 0 ≤ P ∧ P ≤ 64) (hT : 0 ≤ T ∧ T ≤ 65536)
    {w : World} {x : Nat} {A : Option Addr} {cap m : Nat} {g : Nat → Int} {s0 : σ} {j : Nat} {Q : σ → Prop} (hR : RunOn w x A cap m g (M.rj s0 g m j)) (hS : Syn M s0 g m j a Q) (hb : ∀ j, j < m → 0 ≤ g j ∧ g j ≤ 18446744073709551615) :
    Calls Tryz.prog 171 #[.pointer (some ⟨x, 0, none⟩), .agg #[.int .i64 P, .int .i64 T, .int .i64 G], .int .i64 t] w fun e w' => (∃ u, e = .returned u) ∧ RunOn w' x A cap m g (M.rj s0 g m (j + 1)) ∧ Syn M s0 g m (j + 1) b (fun q => Q q ∨ q = a) ∧ But [x] w w' := by
  have hb0 : Below w.heap.size w (w.alloc (.cells #[.int .i64 P, .int .i64 T, .int .i64 G] 23)) := (Below.refl _ _).alloc (Nat.le_refl _) _
  have HX : Blk (w.alloc (.cells #[.int .i64 P, .int .i64 T, .int .i64 G] 23)) w.heap.size #[.int .i64 P, .int .i64 T, .int .i64 G] 23 := Blk.new _ _ _
  have k0 := HX.cell 0 (v := .int .i64 P) rfl
  have k1 := HX.cell 1 (v := .int .i64 T) rfl
  have k2 := HX.cell 2 (v := .int .i64 G) rfl
  have HR : Hid (RunOn w x A cap m g (M.rj s0 g m j)) := hR
  have HB0 : Hid (Below w.heap.size w (w.alloc (.cells #[.int .i64 P, .int .i64 T, .int .i64 G] 23))) := hb0
  have HS : Hid (∀ Y, Below w.heap.size w Y → Calls Tryz.prog 92 #[.pointer (some ⟨x, 0, none⟩), .int .i64 (wd (20 + P * 264) T 3 t 0), .int .u64 1] Y fun e w' => (∃ u, e = .returned u) ∧ ∃ v, Kept' Y w' x A cap m g M s0 j a Q v) := fun Y hY => syn_store (hR.below hY) hS hb _ 1 (fun _ => hax)
  have HN : Hid (∀ v, M.nx a v = b) := hnx
  have hTh := rthrAt_all P T G t 0 (w.alloc (.cells #[.int .i64 P, .int .i64 T, .int .i64 G] 23)) hp hT.2 (by omega)
  generalize wd (20 + P * 264) T 3 t 0 = nt at *
  clear hR hS hb hax hnx hb0 HX hp hT
  go_enter Tryz.func171, Tryz.ntmps171
  go_wp2_with fail
  generalize w.alloc (.cells #[.int .i64 P, .int .i64 T, .int .i64 G] 23) = W at *
  go_at_call 169; refine hTh.mono ?_; rintro e y ⟨rfl, h1⟩
  have hY : Below w.heap.size w y := HB0.out.trans (h1.mono HB0.out.size)
  have hSt := HS.out y hY
  have HY : Hid (But [x] w y) := But.of_below hY
  clear hTh h1 HS hY k0 k1 k2 HB0
  go_wp2_with fail
  go_at_call 92; refine hSt.mono ?_; rintro e y2 ⟨⟨u, rfl⟩, v, hK⟩
  have HF : Hid (RunOn y2 x A cap m g (M.rj s0 g m (j + 1)) ∧ Syn M s0 g m (j + 1) b (fun q => Q q ∨ q = a) ∧ But [x] w y2) := by
    have h2 := hK.syn
    rw [HN.out] at h2
    exact ⟨hK.run, h2.weak (fun r hr => hr.symm), HY.out.trans hK.but⟩
  clear hSt hK
  go_wp2_with fail
  go_end0
  exact ⟨⟨_, rfl⟩, HF.out⟩
end Go.Proofs.YtfdpikkinlljlaaGreat

namespace Go.Proofs.YtfdpikkinlljlaaGreat
open Go Go.RowKit
set_option linter.unusedVariables false
set_option maxRecDepth 100000
set_option linter.unusedSimpArgs false

/-- The answers of swaps. -/
def SwOk {σ : Type} (M : PM σ) (s0 : σ) (g : Nat → Int) (m : Nat) : Prop := ∀ j, j < m → ∀ a, M.ax (M.run s0 g j) = some a → a.k = 3 → g j ≤ 1
theorem SwOk.one {σ : Type} {M : PM σ} {s0 t : σ} {g : Nat → Int} {m j : Nat} {Q : σ → Prop} {v : Int} {a : Ax} (h : SwOk M s0 g m) (hS : Syn M s0 g m j t Q) (ha : M.ax t = some a) (hk : a.k = 3) (hv : j < m → v = g j) (hz : m ≤ j → v = 0) (hb : 0 ≤ v) : v = 0 ∨ v = 1 := by
  by_cases hj : j < m
  · have := h j hj a (by rw [hS.at' (by omega)]; exact ha) hk
    rw [hv hj] at hb ⊢
    omega
  · exact .inl (hz (by omega))

end Go.Proofs.YtfdpikkinlljlaaGreat

namespace Go.Proofs.YtfdpikkinlljlaaGreat
open Go Go.RowKit
set_option linter.unusedVariables false
set_option maxRecDepth 100000
set_option linter.unusedSimpArgs false

theorem stepby_rdy : StepBy 21 := by
  intro w x mv M h
  go_enter Tryz.func21, Tryz.ntmps21
  go_wp2_with fail
  go_at_call 85; refine h.mono ?_; rintro e w1 ⟨z, rfl, h1⟩
  go_wp2_with fail
  go_ret
  exact ⟨z, rfl, h1⟩
theorem step_nil_rdy (w : World) (mv : Value) : Calls Tryz.prog 21 #[.pointer none, mv] w fun e w' => e = .returned (.bool true) ∧ w = w' := by
  go_enter Tryz.func21, Tryz.ntmps21
  go_wp2_with fail
  go_ret
  exact ⟨rfl, rfl⟩
theorem done_rdy (w : World) (x : Nat) (nx : Option Addr) (hc : w.cell? ⟨x, 1, none⟩ = some (.pointer nx)) :
    Calls Tryz.prog 14 #[.pointer (some ⟨x, 0, none⟩)] w fun e w' => e = .returned (.bool nx.isNone) ∧ w = w' := by
  have h := fdone_any w x nx hc
  go_enter Tryz.func14, Tryz.ntmps14
  go_wp2_with fail
  go_at_call 80; refine h.mono ?_; rintro e w1 ⟨rfl, rfl⟩
  go_wp2_with fail
  go_ret
  exact ⟨rfl, rfl⟩
theorem done_nil_rdy (w : World) : Calls Tryz.prog 14 #[.pointer none] w fun e w' => e = .returned (.bool true) ∧ w = w' := by
  go_enter Tryz.func14, Tryz.ntmps14
  go_wp2_with fail
  go_ret
  exact ⟨rfl, rfl⟩
theorem stepby_give : StepBy 32 := by
  intro w x mv M h
  go_enter Tryz.func32, Tryz.ntmps32
  go_wp2_with fail
  go_at_call 85; refine h.mono ?_; rintro e w1 ⟨z, rfl, h1⟩
  go_wp2_with fail
  go_ret
  exact ⟨z, rfl, h1⟩
theorem step_nil_give (w : World) (mv : Value) : Calls Tryz.prog 32 #[.pointer none, mv] w fun e w' => e = .returned (.bool true) ∧ w = w' := by
  go_enter Tryz.func32, Tryz.ntmps32
  go_wp2_with fail
  go_ret
  exact ⟨rfl, rfl⟩
theorem done_give (w : World) (x : Nat) (nx : Option Addr) (hc : w.cell? ⟨x, 1, none⟩ = some (.pointer nx)) :
    Calls Tryz.prog 27 #[.pointer (some ⟨x, 0, none⟩)] w fun e w' => e = .returned (.bool nx.isNone) ∧ w = w' := by
  have h := fdone_any w x nx hc
  go_enter Tryz.func27, Tryz.ntmps27
  go_wp2_with fail
  go_at_call 80; refine h.mono ?_; rintro e w1 ⟨rfl, rfl⟩
  go_wp2_with fail
  go_ret
  exact ⟨rfl, rfl⟩
theorem done_nil_give (w : World) : Calls Tryz.prog 27 #[.pointer none] w fun e w' => e = .returned (.bool true) ∧ w = w' := by
  go_enter Tryz.func27, Tryz.ntmps27
  go_wp2_with fail
  go_ret
  exact ⟨rfl, rfl⟩
theorem stepby_over : StepBy 39 := by
  intro w x mv M h
  go_enter Tryz.func39, Tryz.ntmps39
  go_wp2_with fail
  go_at_call 85; refine h.mono ?_; rintro e w1 ⟨z, rfl, h1⟩
  go_wp2_with fail
  go_ret
  exact ⟨z, rfl, h1⟩
theorem step_nil_over (w : World) (mv : Value) : Calls Tryz.prog 39 #[.pointer none, mv] w fun e w' => e = .returned (.bool true) ∧ w = w' := by
  go_enter Tryz.func39, Tryz.ntmps39
  go_wp2_with fail
  go_ret
  exact ⟨rfl, rfl⟩
theorem done_over (w : World) (x : Nat) (nx : Option Addr) (hc : w.cell? ⟨x, 1, none⟩ = some (.pointer nx)) :
    Calls Tryz.prog 36 #[.pointer (some ⟨x, 0, none⟩)] w fun e w' => e = .returned (.bool nx.isNone) ∧ w = w' := by
  have h := fdone_any w x nx hc
  go_enter Tryz.func36, Tryz.ntmps36
  go_wp2_with fail
  go_at_call 80; refine h.mono ?_; rintro e w1 ⟨rfl, rfl⟩
  go_wp2_with fail
  go_ret
  exact ⟨rfl, rfl⟩
theorem done_nil_over (w : World) : Calls Tryz.prog 36 #[.pointer none] w fun e w' => e = .returned (.bool true) ∧ w = w' := by
  go_enter Tryz.func36, Tryz.ntmps36
  go_wp2_with fail
  go_ret
  exact ⟨rfl, rfl⟩
theorem stepby_mon : StepBy 57 := by
  intro w x mv M h
  go_enter Tryz.func57, Tryz.ntmps57
  go_wp2_with fail
  go_at_call 85; refine h.mono ?_; rintro e w1 ⟨z, rfl, h1⟩
  go_wp2_with fail
  go_ret
  exact ⟨z, rfl, h1⟩
theorem step_nil_mon (w : World) (mv : Value) : Calls Tryz.prog 57 #[.pointer none, mv] w fun e w' => e = .returned (.bool true) ∧ w = w' := by
  go_enter Tryz.func57, Tryz.ntmps57
  go_wp2_with fail
  go_ret
  exact ⟨rfl, rfl⟩
end Go.Proofs.YtfdpikkinlljlaaGreat

namespace Go.Proofs.YtfdpikkinlljlaaGreat
open Go Go.RowKit
set_option linter.unusedVariables false
set_option maxRecDepth 100000
set_option linter.unusedSimpArgs false

/-- So many steps of a machine. -/
def PM.steps {σ : Type} (M : PM σ) (who : Int) (n : Nat) : Nat → σ × St → σ × St
  | 0, p => p
  | k + 1, p => PM.steps M who n k (M.goT n p.1 p.2, M.goS who n p.1 p.2)
theorem PM.steps_succ {σ : Type} (M : PM σ) (who : Int) (n : Nat) : ∀ (k : Nat) (p : σ × St), M.steps who n (k + 1) p = (M.goT n (M.steps who n k p).1 (M.steps who n k p).2, M.goS who n (M.steps who n k p).1 (M.steps who n k p).2)
  | 0, p => rfl
  | k + 1, p => PM.steps_succ M who n k (M.goT n p.1 p.2, M.goS who n p.1 p.2)
theorem PM.steps_low {σ : Type} (M : PM σ) (who : Int) (n : Nat) {m : Int} : ∀ (k : Nat) (p : σ × St), Low p.2 m → Low (M.steps who n k p).2 (m + k)
  | 0, p, h => h.more (by omega)
  | k + 1, p, h => (PM.steps_low M who n k (M.goT n p.1 p.2, M.goS who n p.1 p.2) (PM.goS_low h)).more (by omega)

/-- A machine over a memory, apart, with what is only read. -/
structure Solo {σ : Type} (I : MI σ) (R : Rd) (W0 w : World) (A : Option Addr) (cap c b n : Nat) (s : St) (x : Nat) (t : σ) (L : List Nat) : Prop where
  mem : Is w 141 A cap c b n s
  mach : I w x t L
  rd : R.P w
  far : ∀ k ∈ L, k ≠ c ∧ k ≠ b ∧ k ∉ R.B
  rfar : c ∉ R.B ∧ b ∉ R.B
  up : W0.heap.size ≤ c ∧ W0.heap.size ≤ b ∧ ∀ k ∈ L, W0.heap.size ≤ k
  rlt : ∀ k ∈ R.B, k < w.heap.size
  below : Below W0.heap.size W0 w
section
variable {σ : Type} {I : MI σ} {M : PM σ} {R Rm : Rd} {W0 w w' : World} {A : Option Addr} {cap c b n : Nat} {s : St} {x : Nat} {t : σ} {L : List Nat}
theorem Solo.still (hG : I.Good M) (h : Solo I R W0 w A cap c b n s x t L) (hb : Below w.heap.size w w') : Solo I R W0 w' A cap c b n s x t L :=
  ⟨h.mem.below hb, hG.below h.mach hb, R.below h.rd hb, h.far, h.rfar, h.up, fun k hk => Nat.lt_of_lt_of_le (h.rlt k hk) hb.size, h.below.trans (hb.mono h.below.size)⟩
theorem Solo.step (hG : I.Good M) {F : Nat} {who : Int} (hS : Steps M I Rm F who) (hRm : ∀ w, R.P w → Rm.P w) (hRb : ∀ k ∈ Rm.B, k ∈ R.B) (h : Solo I R W0 w A cap c b n s x t L) (hn : n ≤ 1000000) (hl : Low s 1000000) :
    Calls Tryz.prog F #[.pointer (some ⟨x, 0, none⟩), .pointer (some ⟨c, 0, none⟩)] w fun e w' => (e = .returned (.bool (M.ax (M.goT n t s)).isNone)) ∧ ∃ L', Solo I R W0 w' A cap c b n (M.goS who n t s) x (M.goT n t s) L' := by
  refine (hS w A cap c b n s x t L h.mach (hRm w h.rd) h.mem hn hl (fun k hk => ⟨(h.far k hk).1, (h.far k hk).2.1, fun hr => (h.far k hk).2.2 (hRb k hr)⟩) ⟨fun hr => h.rfar.1 (hRb c hr), fun hr => h.rfar.2 (hRb b hr)⟩).mono ?_
  rintro e w' ⟨rfl, L', a1, a2, a3, a4⟩
  have hsz := h.below.size
  have k1 := h.mem.lt
  have k2 := h.mem.bl
  refine ⟨rfl, L', a2, a1, R.keep _ _ _ h.rd a3 (fun k hk => ?_), fun k hk => ?_, h.rfar, ⟨h.up.1, h.up.2.1, fun k hk => ?_⟩, fun k hk => Nat.lt_of_lt_of_le (h.rlt k hk) a3.size, h.below.trans (a3.below ?_ hsz)⟩
  · simp only [List.mem_cons, not_or]
    exact ⟨fun e => h.rfar.1 (e ▸ hk), fun e => h.rfar.2 (e ▸ hk), fun hm => (h.far k hm).2.2 hk⟩
  · rcases a4 k hk with h1 | h1
    · exact h.far k h1
    · exact ⟨by omega, by omega, fun hr => by have := h.rlt k hr; omega⟩
  · rcases a4 k hk with h1 | h1
    · exact h.up.2.2 k h1
    · omega
  · intro k hk
    simp only [List.mem_cons] at hk
    rcases hk with rfl | rfl | hk
    · exact h.up.1
    · exact h.up.2.1
    · exact h.up.2.2 k hk
/-- How it begins. -/
theorem Solo.begin {w2 w3 : World} (hm : Is w2 141 A cap c b n s) (hb : Below w2.heap.size w2 w3) (hB2 : Below W0.heap.size W0 w2) (hup : W0.heap.size ≤ c ∧ W0.heap.size ≤ b) (hi : I w3 x t L) (hL : ∀ k ∈ L, w2.heap.size ≤ k) (hr : R.P w2) (hrl : ∀ k ∈ R.B, k < w2.heap.size) (hrf : c ∉ R.B ∧ b ∉ R.B) : Solo I R W0 w3 A cap c b n s x t L := by
  have k1 := hm.lt
  have k2 := hm.bl
  have hsz := hB2.size
  refine ⟨hm.below hb, hi, R.below hr hb, fun k hk => ?_, hrf, ⟨hup.1, hup.2, fun k hk => Nat.le_trans hsz (hL k hk)⟩, fun k hk => Nat.lt_of_lt_of_le (hrl k hk) hb.size, hB2.trans (hb.mono hsz)⟩
  have h1 := hL k hk
  exact ⟨by omega, by omega, fun hr => by have := hrl k hr; omega⟩
end
end Go.Proofs.YtfdpikkinlljlaaGreat

namespace Go.Proofs.YtfdpikkinlljlaaGreat
open Go Go.RowKit
set_option linter.unusedVariables false
set_option maxRecDepth 100000
set_option linter.unusedSimpArgs false

theorem wk_given (w : World) (v : Int) (hv : 0 ≤ v ∧ v ≤ 18446744073709551615) :
    Calls Tryz.prog 45 #[.int .u64 v] w fun e w' => e = .returned (.tuple #[.int .i64 (v % 4294967296 - 1), .bool (decide (4294967296 ≤ v))]) ∧ w = w' := by
  have e1 : Int.tmod v 4294967296 = v % 4294967296 := Int.tmod_eq_emod_of_nonneg hv.1
  have e2 : IntKind.u64.wrap (v % 4294967296) = v % 4294967296 := wrap_u64 (by omega)
  have e3 : IntKind.i64.wrap (v % 4294967296) = v % 4294967296 := by
    simp only [IntKind.wrap, IntKind.bits, IntKind.signed]
    simp
    omega
  have e4 : wrap64 (v % 4294967296 - 1) = v % 4294967296 - 1 := by unfold wrap64; omega
  clear hv
  go_enter Tryz.func45, Tryz.ntmps45
  go_wp2_with fail
  go_ret2
  exact ⟨rfl, rfl⟩
end Go.Proofs.YtfdpikkinlljlaaGreat

namespace Go.Proofs.YtfdpikkinlljlaaGreat
open Go Go.ChangeShapes Go.WideShapes Go.ChangeAt Go.RowKit

theorem below_trodAll {H : Type} {enc : TypeId × Value → H} {P : Program} (hl : laidOutB P = true) {W W' : World} (hb : Below W.heap.size W W') :
    ∀ (ts : List TypeId) (vs : List Value) (ds : List (DataW H)) (ps : List MemPlace), (ts.all fun t => P.readableRec t && decide (t < P.types.size)) = true →
      DataW.TrodAll enc P W 0 (fun _ => true) true ts vs ds ps → DataW.TrodAll enc P W' 0 (fun b => decide (b < W.heap.size)) true ts vs ds ps := by
  intro ts
  induction ts with
  | nil =>
    intro vs ds ps _ h
    cases vs <;> cases ds <;> first | exact h | exact (h : False).elim
  | cons t ts ih =>
    intro vs ds ps hall h
    cases vs with
    | nil => exact (h : False).elim
    | cons v vs =>
      cases ds with
      | nil => exact (h : False).elim
      | cons d ds =>
        obtain ⟨p, q, h1, h2, rfl⟩ := h
        simp only [List.all_cons, Bool.and_eq_true, decide_eq_true_eq] at hall
        have lt : ∀ x ∈ p, x.block < W.heap.size := by obtain ⟨m, hm⟩ := h1; exact DataW.trod_lt m _ _ _ hm
        exact ⟨p, q, Below.trod hl hall.1.1 hall.1.2 h1 hb lt, ih vs ds q hall.2 h2, rfl⟩

theorem law_post {H : Type} {enc : TypeId × Value → H} {P : Program} {f : Func} {s : ChangeSpec} {apart : Bool} {W W' : World} {args : Array Value} {ds gs : List (DataW H)} {before : List MemPlace} {bt : TypeId}
    (hl : laidOutB P = true) (hr : f.resultTypes.toList = [bt]) (hbt : P.underlying bt = some .bool) (hts : (f.params.toList.all fun t => P.readableRec t && decide (t < P.types.size)) = true)
    (hvars : s.vars = []) (hres : (s.fn H ds).results = [.lit (.bool true)]) (harg : (s.fn H ds).args = ds) (hvs : (s.fn H ds).vars = [])
    (hW : DataW.Whole enc P f.params.toList s.vars apart W args.toList ds gs before) (hb : Below W.heap.size W W') :
    s.post enc P f apart true false false W args (.bool true) W' := by
  have hW' := hW
  obtain ⟨p, q, hA, hV, rfl, hfz, hnd⟩ := hW
  have hg : gs = [] ∧ q = [] := by rw [hvars] at hV; exact trodVars_none hV
  obtain ⟨rfl, rfl⟩ := hg
  refine ⟨ds, [], _, [], p, [], hW', ?_, ?_, ?_, hb.frame _, fun h => by cases h⟩
  · have e : (Value.bool true).resultList f.resultTypes.size = [.bool true] := by
      have hs : f.resultTypes.size = 1 := by rw [← Array.length_toList, hr]; rfl
      rw [hs]; rfl
    rw [List.append_nil, hres, hr, e]
    exact trodAll_mk1 (shut_bool hbt _)
  · rw [List.append_nil, harg]
    exact below_trodAll hl hb _ _ _ _ hts hA
  · rw [List.append_nil, hvs, hvars]
    rfl
end Go.Proofs.YtfdpikkinlljlaaGreat

namespace Go.Proofs.YtfdpikkinlljlaaGreat
open Go Go.RowKit
set_option linter.unusedVariables false
set_option maxRecDepth 100000
set_option linter.unusedSimpArgs false

def sixL (a b c d e f : Value) : List Value := [a, b, c, d, e, f]
def threeL (a b c : Value) : List Value := [a, b, c]
section
variable {σ : Type} {w y : World} {x : Nat} {A : Option Addr} {cap m : Nat} {g : Nat → Int} {M : PM σ} {s0 : σ} {j0 j : Nat} {t : σ} {Q : σ → Prop} {cf : Array Value} {HTy : TypeId} {z : Array Value} {o : Nat} {oc : Array Value}
theorem HdAt.ret6 (h : HdAt w y x A cap m g M s0 j0 j t Q cf HTy z o oc) {a b c d e f z0 z1 z2 z3 z4 z5 : Value} (hz : z = #[z0, z1, z2, z3, z4, z5]) (ho : oc = #[a, b, c, d, e, f]) : y.rangeAt o 0 (sixL a b c d e f) ∧ y.there (w.heap.size + 1) 0 (sixL a b c d e f).toArray.size ∧ RunOn (y.setCells (w.heap.size + 1) 0 (sixL a b c d e f).toArray.toList) x A cap m g (M.rj s0 g m j) ∧ But [x] w (y.setCells (w.heap.size + 1) 0 (sixL a b c d e f).toArray.toList) ∧ (y.setCells (w.heap.size + 1) 0 (sixL a b c d e f).toArray.toList).heap[w.heap.size + 1]? = some (.cells (sixL a b c d e f).toArray HTy (0, 0)) ∧ But [w.heap.size + 1] y (y.setCells (w.heap.size + 1) 0 (sixL a b c d e f).toArray.toList) := by
  subst hz ho
  have hx := h.x
  refine ⟨fun i v e1 => ?_, fun i hi => ?_, ?_⟩
  · rw [Nat.zero_add]
    exact h.out.cell i (by rw [show (#[a, b, c, d, e, f] : Array Value) = (sixL a b c d e f).toArray from rfl]; simpa using e1)
  · have hm := h.res.heap
    have hi' : i < 6 := hi
    refine ⟨?_, by simp [World.frozen?, hm]⟩
    simp only [World.cell?, hm]
    have : 0 + i < (#[z0, z1, z2, z3, z4, z5] : Array Value).size := by simp; omega
    simp
    exact hi'
  · simp only [sixL, World.setCells]
    have hU : But [w.heap.size + 1] y ((((((y.setCell ⟨w.heap.size + 1, 0, none⟩ a).setCell ⟨w.heap.size + 1, 1, none⟩ b).setCell ⟨w.heap.size + 1, 2, none⟩ c).setCell ⟨w.heap.size + 1, 3, none⟩ d).setCell ⟨w.heap.size + 1, 4, none⟩ e).setCell ⟨w.heap.size + 1, 5, none⟩ f) := ((((((But.refl _ y).set (g := w.heap.size + 1) (.inl (by simp)) 0 _).set (g := w.heap.size + 1) (.inl (by simp)) 1 _).set (g := w.heap.size + 1) (.inl (by simp)) 2 _).set (g := w.heap.size + 1) (.inl (by simp)) 3 _).set (g := w.heap.size + 1) (.inl (by simp)) 4 _).set (g := w.heap.size + 1) (.inl (by simp)) 5 _
    have hZ := (((((h.res.set 0 a).set 1 b).set 2 c).set 3 d).set 4 e).set 5 f
    exact ⟨h.run.but hU (by simp; omega) (h.far.of (by intro k hk; simp at hk ⊢; omega)), But.lowk h.but hU (by omega), hZ.heap, hU⟩
theorem HdAt.set3 (h : HdAt w y x A cap m g M s0 j0 j t Q cf HTy z o oc) (a b c : Value) (hs : oc.size = 6) : y.there o 3 (threeL a b c).toArray.size ∧ HdAt w (y.setCells o 3 (threeL a b c).toArray.toList) x A cap m g M s0 j0 j t Q cf HTy z o (((oc.setIfInBounds 3 a).setIfInBounds 4 b).setIfInBounds 5 c) ∧ But [o] y (y.setCells o 3 (threeL a b c).toArray.toList) := by
  refine ⟨fun i hi => ?_, ?_, ?_⟩
  · have hm := h.out.heap
    have hi' : i < 3 := hi
    refine ⟨?_, by simp [World.frozen?, hm]⟩
    simp only [World.cell?, hm]
    have : 3 + i < oc.size := by omega
    simp [this]
  · simp only [threeL, World.setCells]
    exact ((h.set 3 a).set 4 b).set 5 c
  · simp only [threeL, World.setCells]
    exact ((((But.refl _ y).set (g := o) (.inl (by simp)) 3 _).set (g := o) (.inl (by simp)) 4 _).set (g := o) (.inl (by simp)) 5 _)
theorem Syn.reset6 {σ : Type} {M : PM σ} {s0 : σ} {g : Nat → Int} {m j : Nat} {t : σ} {Q : σ → Prop} (h : Syn M s0 g m j t Q) (hj : j ≤ m) (Q2 : σ → Prop) : Syn M s0 g m j t Q2 := ⟨h.at', fun hm => absurd hm (by omega)⟩
end
/-- What a slice tells, where its row does not lie in some blocks. -/
def Hof (y : World) (v : Value) (l : List Int) (ks : List Nat) : Prop := ∃ (A : Option Addr) (cp : Nat), v = .slice A l.length cp ∧ SeesL y (.slice A l.length cp) l ∧ (0 < l.length → ∀ b off : Nat, A = some ⟨b, off, none⟩ → b ∉ ks)
theorem Hof.nil (y : World) (ks : List Nat) : Hof y (.slice none 0 0) [] ks := ⟨none, 0, rfl, ⟨none, 0, rfl, fun _ => ⟨rfl, rfl⟩, fun h => absurd h (by simp)⟩, fun h => absurd h (by simp)⟩
theorem Hof.but {y y' : World} {v : Value} {l : List Int} {ks : List Nat} {k : Nat} (h : Hof y v l ks) (hB : But [k] y y') (hk : k ∈ ks) : Hof y' v l ks := by
  obtain ⟨A, cp, e, h1, h2⟩ := h
  refine ⟨A, cp, e, ?_, h2⟩
  obtain ⟨A', cap', e', h3, h4⟩ := h1
  refine ⟨A', cap', e', h3, fun hn => ?_⟩
  obtain ⟨b, off, e1, h5, h6⟩ := h4 hn
  have eA : A = A' := by injection e'
  have hb : b ∉ ks := h2 hn b off (eA.trans e1)
  refine ⟨b, off, e1, Nat.lt_of_lt_of_le h5 hB.size, fun j hj => ?_⟩
  rw [← h6 j hj]
  have hk' := hB.block b h5 (by simp; rintro rfl; exact hb hk)
  simp only [World.cell?]
  rw [hk']
theorem Hof.below {y y' : World} {v : Value} {l : List Int} {ks : List Nat} (h : Hof y v l ks) (hB : Below y.heap.size y y') : Hof y' v l ks := by
  obtain ⟨A, cp, e, h1, h2⟩ := h
  exact ⟨A, cp, e, h1.below hB, h2⟩
theorem Hof.sees {y : World} {v : Value} {l : List Int} {ks : List Nat} (h : Hof y v l ks) : SeesL y v l := by
  obtain ⟨A, cp, e, h1, -⟩ := h
  rw [e]; exact h1
theorem Hof.one (y : World) (g : Int) (ks : List Nat) (hk : ∀ k ∈ ks, k < y.heap.size) : Hof (y.alloc (.cells #[.int .i64 g] 3)) (.slice (some ⟨y.heap.size, 0, none⟩) 1 1) [g] ks := by
  have hX := Blk.new y #[.int .i64 g] 3
  refine ⟨some ⟨y.heap.size, 0, none⟩, 1, rfl, ⟨_, 1, rfl, (fun h => by cases h), fun _ => ⟨y.heap.size, 0, rfl, hX.lt, fun j hj => ?_⟩⟩, fun _ b off e hm => ?_⟩
  · have hj4 : j < 1 := hj
    obtain rfl : j = 0 := by omega
    exact hX.cell 0 rfl
  · cases e
    have := hk _ hm
    omega
/-- From where such a slice comes: a row that lies nowhere low, or is told by where it is. -/
theorem Hof.of {y : World} {v : Value} {l : List Int} {ks : List Nat} {n : Nat} (hs : SeesL y v l) (hl : ∀ (A1 : Option Addr) (n1 c1 b off : Nat), v = .slice A1 n1 c1 → 0 < n1 → A1 = some ⟨b, off, none⟩ → n ≤ b) (hk : ∀ k ∈ ks, k < n) : Hof y v l ks := by
  obtain ⟨A, cp, e, h1, h2⟩ := hs
  refine ⟨A, cp, e, ⟨A, cp, rfl, h1, h2⟩, fun h b off e1 hm => ?_⟩
  have := hl A l.length cp b off e h e1
  have := hk _ hm
  omega
end Go.Proofs.YtfdpikkinlljlaaGreat

namespace Go.Proofs.YtfdpikkinlljlaaGreat
open Go Go.RowKit
set_option linter.unusedVariables false
set_option maxRecDepth 100000
set_option linter.unusedSimpArgs false

theorem isD_rput (v : Value) (xT : TypeId) (w : World) : (Instr.typeAssert (.iface 233 v) xT 245 true).run Tryz.prog w = .ok (.tuple #[.iface 233 v, .bool true]) w := run_typeAssert_hasB Tryz.underlying245 (by kernel_rfl) v xT w
theorem eqIIn_rput (w : World) (fuel : Nat) (v : Value) : (Op.equalIn (fuel + 1) 203 (.iface 233 v) .nilIface).run Tryz.prog w = .ok false w := by
  simp only [Op.equalIn, Sem.run_bind, run_underlying Tryz.underlying203, Result.andThen_ok]
  rfl
theorem eqI_rput (v : Value) (w : World) : (binOp .eql 203 (.iface 233 v) .nilIface).run Tryz.prog w = .ok (.bool false) w := by
  have h := eqIIn_rput w 9999 v
  simp only [binOp]
  simp [Op.equal, Op.maxDepth, h]
theorem neqI_rput (v : Value) (w : World) : (binOp .neq 203 (.iface 233 v) .nilIface).run Tryz.prog w = .ok (.bool true) w := by
  have h := eqIIn_rput w 9999 v
  simp only [binOp]
  simp [Op.equal, Op.maxDepth, h]
theorem isdone_rput (w : World) (x : Nat) (nx : Option Addr) (hc : w.cell? ⟨x, 1, none⟩ = some (.pointer nx)) :
    Calls Tryz.prog 150 #[.iface 233 (.pointer (some ⟨x, 0, none⟩))] w fun e w' => e = .returned (.bool nx.isNone) ∧ w = w' := by
  have h1 := isD_rput
  have h2 := eqI_rput
  have hD := done_rput w x nx hc
  go_enter Tryz.func150, Tryz.ntmps150
  go_wp2_with fail
  go_at_call 349; refine hD.mono ?_; rintro e w1 ⟨rfl, rfl⟩
  go_wp2_with fail
  go_ret
  exact ⟨rfl, rfl⟩

theorem frun0_rput (w : World) (c x : Nat) (cs : Array Value) (T : TypeId) (fv : Value) (nx : Addr) (h : Blk w c cs T) (hs : 2 ≤ cs.size) (hf : Fv fv) (hxc : x ≠ c) (hx : w.cell? ⟨x, 1, none⟩ = some (.pointer (some nx))) :
    Calls Tryz.prog 98 #[.pointer (some ⟨c, 0, none⟩), .iface 233 (.pointer (some ⟨x, 0, none⟩)), fv] w fun e w' => (∃ v, e = .returned v) ∧ ∃ q g, CameBox w w' c cs T (fun v => comCells 0 0 0 0 0 false (.iface 233 (.pointer (some ⟨x, 0, none⟩))) v false false) fv q g := by
  have c1 := h.cell 1 (Array.getElem?_eq_getElem (by omega))
  have f1 := h.fro 1
  have hlt := h.lt
  have h1 := h.set 1 (.pointer none)
  have c2 := h1.cell 1 (v := .pointer none) (by rw [Array.getElem?_setIfInBounds, if_pos rfl, if_pos (by omega)])
  have f2 := h1.fro 1
  have hB1 : But [c] w (w.setCell ⟨c, 1, none⟩ (.pointer none)) := (But.refl _ w).set (g := c) (.inl (by simp)) 1 _
  have hsz : (w.setCell ⟨c, 1, none⟩ (.pointer none)).heap.size = w.heap.size := size_set _ _ _
  have hD := isdone_rput (w.setCell ⟨c, 1, none⟩ (.pointer none)) x (some nx) (by
    rw [show (w.setCell ⟨c, 1, none⟩ (.pointer none)).cell? ⟨x, 1, none⟩ = w.cell? ⟨x, 1, none⟩ by simp only [World.cell?]; rw [heap_set_ne w hxc 1 _]]
    exact hx)
  have hU := fun w => untold_any w fv hf
  have HH : Hid (Blk (w.setCell ⟨c, 1, none⟩ (.pointer none)) c (cs.setIfInBounds 1 (.pointer none)) T ∧ But [c] w (w.setCell ⟨c, 1, none⟩ (.pointer none))) := ⟨h1, hB1⟩
  clear h h1 hB1 hx
  go_enter Tryz.func98, Tryz.ntmps98
  go_wp2_with fail
  generalize w.setCell ⟨c, 1, none⟩ (.pointer none) = W at *
  go_at_call 150; refine hD.mono ?_; rintro e w1 ⟨rfl, rfl⟩
  go_wp2_with fail
  go_at_call 140; refine (hU _).mono ?_; rintro e w2 ⟨rfl, rfl⟩
  have hg := Blk.new W #[fv] 1
  have hW2 : Blk (W.alloc (.cells #[fv] 1)) c (cs.setIfInBounds 1 (.pointer none)) T := HH.out.1.al _
  have hsz2 : Hid ((W.alloc (.cells #[fv] 1)).heap.size = w.heap.size + 1) := (by rw [World.size_alloc, hsz] : (W.alloc (.cells #[fv] 1)).heap.size = w.heap.size + 1)
  have hB2 : But [c] w (W.alloc (.cells #[fv] 1)) := HH.out.2.alloc _
  rw [hsz] at hg ⊢
  have HG : Hid (Blk (W.alloc (.cells #[fv] 1)) w.heap.size #[fv] 1 ∧ Blk (W.alloc (.cells #[fv] 1)) c (cs.setIfInBounds 1 (.pointer none)) T ∧ But [c] w (W.alloc (.cells #[fv] 1))) := ⟨hg, hW2, hB2⟩
  have c3 := hW2.cell 1 (v := .pointer none) (by rw [Array.getElem?_setIfInBounds, if_pos rfl, if_pos (by omega)])
  have f3 := hW2.fro 1
  clear hD hU c1 f1 c2 f2 hg hW2 hB2
  generalize W.alloc (.cells #[fv] 1) = W2 at *
  have hlt2 : c < W2.heap.size := by have := hsz2.out; omega
  clear hsz HH
  go_wp2_with fail
  go_end0
  obtain ⟨g1, g2, g3⟩ := HG.out
  have hsz2 := hsz2.out
  refine ⟨⟨_, rfl⟩, W2.heap.size, w.heap.size, ⟨⟨by omega, ?_, ?_, ?_⟩, Nat.le_refl _, ?_, by omega⟩⟩
  · have := (g2.set 1 (.pointer (some ⟨W2.heap.size, 0, none⟩))).al (.cells (comCells 0 0 0 0 0 false (.iface 233 (.pointer (some ⟨x, 0, none⟩))) (.func (.func 175) #[] #[.pointer (some ⟨w.heap.size, 0, none⟩)]) false false) 205)
    rw [set_twice] at this
    exact this
  · have := Blk.new (W2.setCell ⟨c, 1, none⟩ (.pointer (some ⟨W2.heap.size, 0, none⟩))) (comCells 0 0 0 0 0 false (.iface 233 (.pointer (some ⟨x, 0, none⟩))) (.func (.func 175) #[] #[.pointer (some ⟨w.heap.size, 0, none⟩)]) false false) 205
    rw [size_set] at this
    exact this
  · exact (g3.set (g := c) (.inl (by simp)) 1 _).alloc _
  · exact (g1.setne (by omega) 1 _).al _

theorem act0_rput (w : World) (q cm x : Nat) (who : Int) (thn : Value) (z : Bool) (Mw : World → Prop) (hq : Blk w q (comCells 0 0 0 0 0 false (.iface 233 (.pointer (some ⟨x, 0, none⟩))) thn false false) 205)
    (hS : ∀ W, But [q] w W → Blk W q (comCells 0 0 0 0 0 false (.iface 233 (.pointer (some ⟨x, 0, none⟩))) thn false true) 205 → Calls Tryz.prog 350 #[.pointer (some ⟨x, 0, none⟩), .pointer (some ⟨cm, 0, none⟩)] W fun e w' => e = .returned (.bool z) ∧ Blk w' q (comCells 0 0 0 0 0 false (.iface 233 (.pointer (some ⟨x, 0, none⟩))) thn false true) 205 ∧ Mw w') :
    Calls Tryz.prog 139 #[.pointer (some ⟨q, 0, none⟩), .int .i64 who, .pointer (some ⟨cm, 0, none⟩)] w fun e w' => e = .returned (.tuple #[.int .u64 0, .bool z]) ∧ ∃ w1, Mw w1 ∧ Blk w1 q (comCells 0 0 0 0 0 false (.iface 233 (.pointer (some ⟨x, 0, none⟩))) thn false true) 205 ∧ w' = w1.setCell ⟨q, 9, none⟩ (.bool false) := by
  have hn := neqI_rput
  have hbm := Blk.new w #[.pointer (some ⟨cm, 0, none⟩)] 31
  have hq1 := hq.al (.cells #[.pointer (some ⟨cm, 0, none⟩)] 31)
  have hqlt := hq.lt
  have k6 := hq1.cell 6 (v := .iface 233 (.pointer (some ⟨x, 0, none⟩))) rfl
  have hask : Calls Tryz.prog 172 #[.pointer (some ⟨q, 0, none⟩), .func (.func 173) #[] #[.pointer (some ⟨w.heap.size, 0, none⟩)]] (w.alloc (.cells #[.pointer (some ⟨cm, 0, none⟩)] 31)) fun e w' => e = .returned (.bool z) ∧ ∃ w1, Mw w1 ∧ Blk w1 q (comCells 0 0 0 0 0 false (.iface 233 (.pointer (some ⟨x, 0, none⟩))) thn false true) 205 ∧ w' = w1.setCell ⟨q, 9, none⟩ (.bool false) := by
    have hne : w.heap.size ≠ q := by omega
    have k9 := hq1.cell 9 (v := .bool false) rfl
    have f9 := hq1.fro 9
    have hq2 := hq1.set 9 (.bool true)
    have l6 := hq2.cell 6 (v := .iface 233 (.pointer (some ⟨x, 0, none⟩))) rfl
    have hb2 := hbm.setne hne 9 (.bool true)
    have b0 := hb2.cell 0 (v := .pointer (some ⟨cm, 0, none⟩)) rfl
    have hst := hS ((w.alloc (.cells #[.pointer (some ⟨cm, 0, none⟩)] 31)).setCell ⟨q, 9, none⟩ (.bool true)) (((But.refl [q] w).alloc _).set (g := q) (.inl (by simp)) 9 _) hq2
    have hrun : Calls Tryz.prog 173 #[.iface 233 (.pointer (some ⟨x, 0, none⟩)), .pointer (some ⟨w.heap.size, 0, none⟩)] ((w.alloc (.cells #[.pointer (some ⟨cm, 0, none⟩)] 31)).setCell ⟨q, 9, none⟩ (.bool true)) fun e w' => e = .returned (.bool z) ∧ Blk w' q (comCells 0 0 0 0 0 false (.iface 233 (.pointer (some ⟨x, 0, none⟩))) thn false true) 205 ∧ Mw w' := by
      clear hS hq hbm hq1 k6 k9 f9 hq2 l6 hb2 hqlt hne
      generalize (w.alloc (.cells #[.pointer (some ⟨cm, 0, none⟩)] 31)).setCell ⟨q, 9, none⟩ (.bool true) = W at *
      go_enter Tryz.func173, Tryz.ntmps173
      go_wp2_with fail
      go_at_call 350; refine hst.mono ?_; rintro e w1 ⟨rfl, h1, h2⟩
      go_wp2_with fail
      go_ret
      exact ⟨rfl, h1, h2⟩
    clear hS hq hbm hq1 hq2 hb2 hst b0 hqlt
    go_enter Tryz.func172, Tryz.ntmps172
    go_wp2_with fail
    generalize (w.alloc (.cells #[.pointer (some ⟨cm, 0, none⟩)] 31)).setCell ⟨q, 9, none⟩ (.bool true) = W at *
    go_at_call 173; refine hrun.mono ?_; rintro e w1 ⟨rfl, h1, h2⟩
    have m9 := h1.cell 9 (v := .bool true) rfl
    have g9 := h1.fro 9
    clear hrun l6 k9 f9 k6
    go_wp2_with fail
    go_ret
    exact ⟨rfl, w1, h2, h1, rfl⟩
  clear hS hq hq1 hbm
  go_enter Tryz.func139, Tryz.ntmps139
  go_wp2_with fail
  generalize w.alloc (.cells #[.pointer (some ⟨cm, 0, none⟩)] 31) = W at *
  go_at_call 172; refine hask.mono ?_; rintro e w1 ⟨rfl, h1⟩
  clear hask k6
  go_wp2_with fail
  go_returns
  exact ⟨rfl, h1⟩

theorem frun_rput : RunCome 233 := fun w c y cs T fv nx h hs hf hyc hx => frun0_rput w c y cs T fv nx h hs hf hyc hx
theorem act_rput : ActRun 233 350 := fun w q cm y g who z Mw hq hS => act0_rput w q cm y who _ z Mw hq hS
end Go.Proofs.YtfdpikkinlljlaaGreat

namespace Go.Proofs.YtfdpikkinlljlaaGreat
open Go Go.RowKit
set_option linter.unusedVariables false
set_option maxRecDepth 100000
set_option linter.unusedSimpArgs false

theorem isD_wwk (v : Value) (xT : TypeId) (w : World) : (Instr.typeAssert (.iface 117 v) xT 245 true).run Tryz.prog w = .ok (.tuple #[.iface 117 v, .bool true]) w := run_typeAssert_hasB Tryz.underlying245 (by kernel_rfl) v xT w
theorem eqIIn_wwk (w : World) (fuel : Nat) (v : Value) : (Op.equalIn (fuel + 1) 203 (.iface 117 v) .nilIface).run Tryz.prog w = .ok false w := by
  simp only [Op.equalIn, Sem.run_bind, run_underlying Tryz.underlying203, Result.andThen_ok]
  rfl
theorem eqI_wwk (v : Value) (w : World) : (binOp .eql 203 (.iface 117 v) .nilIface).run Tryz.prog w = .ok (.bool false) w := by
  have h := eqIIn_wwk w 9999 v
  simp only [binOp]
  simp [Op.equal, Op.maxDepth, h]
theorem neqI_wwk (v : Value) (w : World) : (binOp .neq 203 (.iface 117 v) .nilIface).run Tryz.prog w = .ok (.bool true) w := by
  have h := eqIIn_wwk w 9999 v
  simp only [binOp]
  simp [Op.equal, Op.maxDepth, h]
theorem isdone_wwk (w : World) (x : Nat) (nx : Option Addr) (hc : w.cell? ⟨x, 1, none⟩ = some (.pointer nx)) :
    Calls Tryz.prog 150 #[.iface 117 (.pointer (some ⟨x, 0, none⟩))] w fun e w' => e = .returned (.bool nx.isNone) ∧ w = w' := by
  have h1 := isD_wwk
  have h2 := eqI_wwk
  have hD := done_wwk w x nx hc
  go_enter Tryz.func150, Tryz.ntmps150
  go_wp2_with fail
  go_at_call 332; refine hD.mono ?_; rintro e w1 ⟨rfl, rfl⟩
  go_wp2_with fail
  go_ret
  exact ⟨rfl, rfl⟩

theorem frun0_wwk (w : World) (c x : Nat) (cs : Array Value) (T : TypeId) (fv : Value) (nx : Addr) (h : Blk w c cs T) (hs : 2 ≤ cs.size) (hf : Fv fv) (hxc : x ≠ c) (hx : w.cell? ⟨x, 1, none⟩ = some (.pointer (some nx))) :
    Calls Tryz.prog 98 #[.pointer (some ⟨c, 0, none⟩), .iface 117 (.pointer (some ⟨x, 0, none⟩)), fv] w fun e w' => (∃ v, e = .returned v) ∧ ∃ q g, CameBox w w' c cs T (fun v => comCells 0 0 0 0 0 false (.iface 117 (.pointer (some ⟨x, 0, none⟩))) v false false) fv q g := by
  have c1 := h.cell 1 (Array.getElem?_eq_getElem (by omega))
  have f1 := h.fro 1
  have hlt := h.lt
  have h1 := h.set 1 (.pointer none)
  have c2 := h1.cell 1 (v := .pointer none) (by rw [Array.getElem?_setIfInBounds, if_pos rfl, if_pos (by omega)])
  have f2 := h1.fro 1
  have hB1 : But [c] w (w.setCell ⟨c, 1, none⟩ (.pointer none)) := (But.refl _ w).set (g := c) (.inl (by simp)) 1 _
  have hsz : (w.setCell ⟨c, 1, none⟩ (.pointer none)).heap.size = w.heap.size := size_set _ _ _
  have hD := isdone_wwk (w.setCell ⟨c, 1, none⟩ (.pointer none)) x (some nx) (by
    rw [show (w.setCell ⟨c, 1, none⟩ (.pointer none)).cell? ⟨x, 1, none⟩ = w.cell? ⟨x, 1, none⟩ by simp only [World.cell?]; rw [heap_set_ne w hxc 1 _]]
    exact hx)
  have hU := fun w => untold_any w fv hf
  have HH : Hid (Blk (w.setCell ⟨c, 1, none⟩ (.pointer none)) c (cs.setIfInBounds 1 (.pointer none)) T ∧ But [c] w (w.setCell ⟨c, 1, none⟩ (.pointer none))) := ⟨h1, hB1⟩
  clear h h1 hB1 hx
  go_enter Tryz.func98, Tryz.ntmps98
  go_wp2_with fail
  generalize w.setCell ⟨c, 1, none⟩ (.pointer none) = W at *
  go_at_call 150; refine hD.mono ?_; rintro e w1 ⟨rfl, rfl⟩
  go_wp2_with fail
  go_at_call 140; refine (hU _).mono ?_; rintro e w2 ⟨rfl, rfl⟩
  have hg := Blk.new W #[fv] 1
  have hW2 : Blk (W.alloc (.cells #[fv] 1)) c (cs.setIfInBounds 1 (.pointer none)) T := HH.out.1.al _
  have hsz2 : Hid ((W.alloc (.cells #[fv] 1)).heap.size = w.heap.size + 1) := (by rw [World.size_alloc, hsz] : (W.alloc (.cells #[fv] 1)).heap.size = w.heap.size + 1)
  have hB2 : But [c] w (W.alloc (.cells #[fv] 1)) := HH.out.2.alloc _
  rw [hsz] at hg ⊢
  have HG : Hid (Blk (W.alloc (.cells #[fv] 1)) w.heap.size #[fv] 1 ∧ Blk (W.alloc (.cells #[fv] 1)) c (cs.setIfInBounds 1 (.pointer none)) T ∧ But [c] w (W.alloc (.cells #[fv] 1))) := ⟨hg, hW2, hB2⟩
  have c3 := hW2.cell 1 (v := .pointer none) (by rw [Array.getElem?_setIfInBounds, if_pos rfl, if_pos (by omega)])
  have f3 := hW2.fro 1
  clear hD hU c1 f1 c2 f2 hg hW2 hB2
  generalize W.alloc (.cells #[fv] 1) = W2 at *
  have hlt2 : c < W2.heap.size := by have := hsz2.out; omega
  clear hsz HH
  go_wp2_with fail
  go_end0
  obtain ⟨g1, g2, g3⟩ := HG.out
  have hsz2 := hsz2.out
  refine ⟨⟨_, rfl⟩, W2.heap.size, w.heap.size, ⟨⟨by omega, ?_, ?_, ?_⟩, Nat.le_refl _, ?_, by omega⟩⟩
  · have := (g2.set 1 (.pointer (some ⟨W2.heap.size, 0, none⟩))).al (.cells (comCells 0 0 0 0 0 false (.iface 117 (.pointer (some ⟨x, 0, none⟩))) (.func (.func 175) #[] #[.pointer (some ⟨w.heap.size, 0, none⟩)]) false false) 205)
    rw [set_twice] at this
    exact this
  · have := Blk.new (W2.setCell ⟨c, 1, none⟩ (.pointer (some ⟨W2.heap.size, 0, none⟩))) (comCells 0 0 0 0 0 false (.iface 117 (.pointer (some ⟨x, 0, none⟩))) (.func (.func 175) #[] #[.pointer (some ⟨w.heap.size, 0, none⟩)]) false false) 205
    rw [size_set] at this
    exact this
  · exact (g3.set (g := c) (.inl (by simp)) 1 _).alloc _
  · exact (g1.setne (by omega) 1 _).al _

theorem act0_wwk (w : World) (q cm x : Nat) (who : Int) (thn : Value) (z : Bool) (Mw : World → Prop) (hq : Blk w q (comCells 0 0 0 0 0 false (.iface 117 (.pointer (some ⟨x, 0, none⟩))) thn false false) 205)
    (hS : ∀ W, But [q] w W → Blk W q (comCells 0 0 0 0 0 false (.iface 117 (.pointer (some ⟨x, 0, none⟩))) thn false true) 205 → Calls Tryz.prog 333 #[.pointer (some ⟨x, 0, none⟩), .pointer (some ⟨cm, 0, none⟩)] W fun e w' => e = .returned (.bool z) ∧ Blk w' q (comCells 0 0 0 0 0 false (.iface 117 (.pointer (some ⟨x, 0, none⟩))) thn false true) 205 ∧ Mw w') :
    Calls Tryz.prog 139 #[.pointer (some ⟨q, 0, none⟩), .int .i64 who, .pointer (some ⟨cm, 0, none⟩)] w fun e w' => e = .returned (.tuple #[.int .u64 0, .bool z]) ∧ ∃ w1, Mw w1 ∧ Blk w1 q (comCells 0 0 0 0 0 false (.iface 117 (.pointer (some ⟨x, 0, none⟩))) thn false true) 205 ∧ w' = w1.setCell ⟨q, 9, none⟩ (.bool false) := by
  have hn := neqI_wwk
  have hbm := Blk.new w #[.pointer (some ⟨cm, 0, none⟩)] 31
  have hq1 := hq.al (.cells #[.pointer (some ⟨cm, 0, none⟩)] 31)
  have hqlt := hq.lt
  have k6 := hq1.cell 6 (v := .iface 117 (.pointer (some ⟨x, 0, none⟩))) rfl
  have hask : Calls Tryz.prog 172 #[.pointer (some ⟨q, 0, none⟩), .func (.func 173) #[] #[.pointer (some ⟨w.heap.size, 0, none⟩)]] (w.alloc (.cells #[.pointer (some ⟨cm, 0, none⟩)] 31)) fun e w' => e = .returned (.bool z) ∧ ∃ w1, Mw w1 ∧ Blk w1 q (comCells 0 0 0 0 0 false (.iface 117 (.pointer (some ⟨x, 0, none⟩))) thn false true) 205 ∧ w' = w1.setCell ⟨q, 9, none⟩ (.bool false) := by
    have hne : w.heap.size ≠ q := by omega
    have k9 := hq1.cell 9 (v := .bool false) rfl
    have f9 := hq1.fro 9
    have hq2 := hq1.set 9 (.bool true)
    have l6 := hq2.cell 6 (v := .iface 117 (.pointer (some ⟨x, 0, none⟩))) rfl
    have hb2 := hbm.setne hne 9 (.bool true)
    have b0 := hb2.cell 0 (v := .pointer (some ⟨cm, 0, none⟩)) rfl
    have hst := hS ((w.alloc (.cells #[.pointer (some ⟨cm, 0, none⟩)] 31)).setCell ⟨q, 9, none⟩ (.bool true)) (((But.refl [q] w).alloc _).set (g := q) (.inl (by simp)) 9 _) hq2
    have hrun : Calls Tryz.prog 173 #[.iface 117 (.pointer (some ⟨x, 0, none⟩)), .pointer (some ⟨w.heap.size, 0, none⟩)] ((w.alloc (.cells #[.pointer (some ⟨cm, 0, none⟩)] 31)).setCell ⟨q, 9, none⟩ (.bool true)) fun e w' => e = .returned (.bool z) ∧ Blk w' q (comCells 0 0 0 0 0 false (.iface 117 (.pointer (some ⟨x, 0, none⟩))) thn false true) 205 ∧ Mw w' := by
      clear hS hq hbm hq1 k6 k9 f9 hq2 l6 hb2 hqlt hne
      generalize (w.alloc (.cells #[.pointer (some ⟨cm, 0, none⟩)] 31)).setCell ⟨q, 9, none⟩ (.bool true) = W at *
      go_enter Tryz.func173, Tryz.ntmps173
      go_wp2_with fail
      go_at_call 333; refine hst.mono ?_; rintro e w1 ⟨rfl, h1, h2⟩
      go_wp2_with fail
      go_ret
      exact ⟨rfl, h1, h2⟩
    clear hS hq hbm hq1 hq2 hb2 hst b0 hqlt
    go_enter Tryz.func172, Tryz.ntmps172
    go_wp2_with fail
    generalize (w.alloc (.cells #[.pointer (some ⟨cm, 0, none⟩)] 31)).setCell ⟨q, 9, none⟩ (.bool true) = W at *
    go_at_call 173; refine hrun.mono ?_; rintro e w1 ⟨rfl, h1, h2⟩
    have m9 := h1.cell 9 (v := .bool true) rfl
    have g9 := h1.fro 9
    clear hrun l6 k9 f9 k6
    go_wp2_with fail
    go_ret
    exact ⟨rfl, w1, h2, h1, rfl⟩
  clear hS hq hq1 hbm
  go_enter Tryz.func139, Tryz.ntmps139
  go_wp2_with fail
  generalize w.alloc (.cells #[.pointer (some ⟨cm, 0, none⟩)] 31) = W at *
  go_at_call 172; refine hask.mono ?_; rintro e w1 ⟨rfl, h1⟩
  clear hask k6
  go_wp2_with fail
  go_returns
  exact ⟨rfl, h1⟩

theorem frun_wwk : RunCome 117 := fun w c y cs T fv nx h hs hf hyc hx => frun0_wwk w c y cs T fv nx h hs hf hyc hx
theorem act_wwk : ActRun 117 333 := fun w q cm y g who z Mw hq hS => act0_wwk w q cm y who _ z Mw hq hS
end Go.Proofs.YtfdpikkinlljlaaGreat

namespace Go.Proofs.YtfdpikkinlljlaaGreat
open Go Go.RowKit Go.Maps
set_option linter.unusedVariables false
set_option maxRecDepth 100000
set_option linter.unusedSimpArgs false

namespace RI
/-- A list of ints that the call made. -/
structure IntsOn (w : World) (base : Nat) (v : Value) (l : List Int) : Prop where
  own : w.ownsRow base 3 1 v l.length (l.map (Value.int .i64))
theorem lists_info3 : (Tryz.prog.info? 3).map (fun i => (i.zero, i.size, i.bytes)) = some (some (.int .i64 0), 1, 8) := by kernel_rfl
theorem row_but {w w' : World} {base : Nat} {e : TypeId} {size : Nat} {v : Value} {n : Nat} {xs : List Value} {l : List Nat} (h : w.ownsRow base e size v n xs) (hB : But l w w') (hl : ∀ b ∈ l, b < base) : w'.ownsRow base e size v n xs := by
  refine ⟨h.1, ?_⟩
  rcases h.2 with h0 | ⟨gb, cp, cur, e0, hb, hh, rest⟩
  · exact .inl h0
  · exact .inr ⟨gb, cp, cur, e0, hb, (hB.block gb (block_lt hh) (fun hm => absurd (hl gb hm) (by omega))).trans hh, rest⟩
theorem row_below {w w' : World} {base : Nat} {e : TypeId} {size : Nat} {v : Value} {n : Nat} {xs : List Value} (h : w.ownsRow base e size v n xs) (hB : Below w.heap.size w w') : w'.ownsRow base e size v n xs := row_but h (But.of_below (l := []) hB) (fun b hb => by cases hb)
theorem lists_slice {w : World} {base : Nat} {e : TypeId} {size : Nat} {v : Value} {n : Nat} {xs : List Value} (h : w.ownsRow base e size v n xs) : ∃ A cap, v = .slice A n cap := by
  rcases h.2 with ⟨e0, h0⟩ | ⟨gb, cp, cur, e0, hb, hh, rest⟩
  · subst h0; exact ⟨none, 0, e0⟩
  · exact ⟨_, _, e0⟩
theorem IntsOn.cell {w : World} {base : Nat} {v : Value} {l : List Int} (h : IntsOn w base v l) {j : Nat} (hj : j < l.length) : ∃ gb cap, v = .slice (some ⟨gb, 0, none⟩) l.length cap ∧ w.cell? ⟨gb, j, none⟩ = some (.int .i64 (l.getD j 0)) := by
  rcases h.own.2 with ⟨e, h0⟩ | ⟨gb, cp, cur, e, hb, hh, hnc, hcm, hcs, htk⟩
  · omega
  · subst e
    refine ⟨gb, cp, rfl, ?_⟩
    have hc := h.own.cellAt j (by omega)
    rw [List.getElem?_map, List.getElem?_eq_getElem hj] at hc
    rw [List.getD_eq_getElem?_getD, List.getElem?_eq_getElem hj]
    exact hc
/-- A slice of ints, seen in memory. -/
def SeesL (w : World) (v : Value) (l : List Int) : Prop := ∃ A cap, v = .slice A l.length cap ∧ (A = none → l.length = 0 ∧ cap = 0) ∧ (0 < l.length → ∃ b off : Nat, A = some ⟨b, off, none⟩ ∧ b < w.heap.size ∧ ∀ j, j < l.length → w.cell? ⟨b, off + j, none⟩ = some (.int .i64 (l.getD j 0)))
theorem SeesL.below {w w' : World} {v : Value} {l : List Int} (h : SeesL w v l) (hb : Below w.heap.size w w') : SeesL w' v l := by
  obtain ⟨A, cap, e, h1, h2⟩ := h
  refine ⟨A, cap, e, h1, fun hn => ?_⟩
  obtain ⟨b, off, e1, h3, h4⟩ := h2 hn
  exact ⟨b, off, e1, Nat.lt_of_lt_of_le h3 hb.size, fun j hj => (hb.cell (p := ⟨b, off + j, none⟩) h3).trans (h4 j hj)⟩
theorem IntsOn.sees {w : World} {base : Nat} {v : Value} {l : List Int} (h : IntsOn w base v l) : SeesL w v l := by
  by_cases h0 : 0 < l.length
  · obtain ⟨gb, cap, e, -⟩ := h.cell h0
    refine ⟨_, cap, e, (fun h => by cases h), fun hn => ⟨gb, 0, rfl, ?_, fun j hj => ?_⟩⟩
    · obtain ⟨gb', cap', e', hc⟩ := h.cell hn
      rw [e] at e'; cases e'
      exact cell_lt hc
    · obtain ⟨gb', cap', e', hc⟩ := h.cell hj
      rw [e] at e'; cases e'
      rw [Nat.zero_add]; exact hc
  · rcases h.own.2 with ⟨e, h1⟩ | ⟨gb, cp, cur, e, -⟩
    · exact ⟨none, 0, by rw [e, h1], fun _ => ⟨h1, rfl⟩, fun h => absurd h h0⟩
    · exact ⟨_, cp, e, (fun h => by cases h), fun h => absurd h h0⟩

theorem lsame_any (w : World) (v v' : Value) (l : List Int) (hn : l.length ≤ 1000000) (h : SeesL w v l) (h' : SeesL w v' l) :
    Calls Tryz.prog 16 #[v, v'] w fun e w' => e = .returned (.bool true) ∧ Below w.heap.size w w' := by
  obtain ⟨A, cap, rfl, -, h2⟩ := h
  obtain ⟨A', cap', rfl, -, h2'⟩ := h'
  have H : Hid (0 < l.length → ∃ b off : Nat, A = some ⟨b, off, none⟩ ∧ b < w.heap.size ∧ ∀ j, j < l.length → w.cell? ⟨b, off + j, none⟩ = some (.int .i64 (l.getD j 0))) := h2
  have H' : Hid (0 < l.length → ∃ b off : Nat, A' = some ⟨b, off, none⟩ ∧ b < w.heap.size ∧ ∀ j, j < l.length → w.cell? ⟨b, off + j, none⟩ = some (.int .i64 (l.getD j 0))) := h2'
  clear h2 h2'
  have HF : Hid (∃ (f : Nat → Int) (n : Nat), (fun j => l.getD j 0) = f ∧ l.length = n) := ⟨_, _, rfl, rfl⟩
  obtain ⟨f, n, hf, hl⟩ := HF.out
  have hfe : ∀ j, l.getD j 0 = f j := fun j => congrFun hf j
  simp only [hfe] at H H'
  rw [hl] at H H' hn ⊢
  clear HF hf hl hfe
  go_enter Tryz.func16, Tryz.ntmps16
  go_wp2_with fail
  go_loopw [5] (fun i wr => ∃ k m : Nat, k ≤ n ∧ i = .int .i64 k ∧ wr = w.drewN m) (fun i _ => n - (intOf i).toNat)
  case atStart => exact ⟨0, 0, Nat.zero_le _, rfl, rfl⟩
  case round =>
    obtain ⟨k, m, hk, rfl, rfl⟩ := hrel
    by_cases hlt : k < n
    · obtain ⟨b, off, rfl, hbB, hcell⟩ := H.out (by omega)
      obtain ⟨b', off', rfl, hbB', hcell'⟩ := H'.out (by omega)
      have e0 : w.cell? ⟨b, off + k, none⟩ = some (.int .i64 (f k)) := hcell k hlt
      have e1 : w.cell? ⟨b', off' + k, none⟩ = some (.int .i64 (f k)) := hcell' k hlt
      clear hcell hcell'
      generalize f k = x at e0 e1
      go_wp2_with fail
      go_quiet (fail)
      go_wp2_with fail
      go_roundw
      case rel => exact ⟨k + 1, _, by omega, by go_num, rfl⟩
      case measure => simp [intOf]; omega
    · obtain rfl : k = n := by omega
      go_wp2_with fail
      go_ret
      exact ⟨rfl, Below.drewN' (Below.refl _ _) m⟩
end RI
theorem But.grown {l : List Nat} {a w w' : World} {r : Option Nat} (h : But l a w) (hg : w.grownBy w' r) (hr : ∀ k, r = some k → k ∈ l ∨ a.heap.size ≤ k) : But l a w' :=
  ⟨hg.os.trans h.os, hg.tape.trans h.tape, hg.output.trans h.output, Nat.le_trans h.size hg.size, fun k hk hc => (hg.block k (Nat.lt_of_lt_of_le hk h.size) (fun e => by rcases hr k e.symm with h1 | h1; exact hc h1; omega)).trans (h.block k hk hc)⟩
def rowB (v : Value) : List Nat := match v.ownBlock with
  | some k => [k]
  | none => []
theorem rowB_mem {v : Value} {k : Nat} (h : v.ownBlock = some k) : k ∈ rowB v := by unfold rowB; rw [h]; simp
theorem mem_rowB {v : Value} {k : Nat} (h : k ∈ rowB v) : v.ownBlock = some k := by
  unfold rowB at h
  split at h
  · rename_i h'; simp at h; rw [h', h]
  · cases h
theorem RI.IntsOn.keep {w w' : World} {base : Nat} {v : Value} {l : List Int} {ll : List Nat} (h : RI.IntsOn w base v l) (hB : But ll w w') (hk : ∀ k ∈ rowB v, k ∉ ll) : RI.IntsOn w' base v l := by
  refine ⟨h.own.1, ?_⟩
  rcases h.own.2 with h0 | ⟨gb, cp, cur, e0, hb, hh, rest⟩
  · exact .inl h0
  · exact .inr ⟨gb, cp, cur, e0, hb, (hB.block gb (block_lt hh) (hk gb (rowB_mem (by rw [e0]; rfl)))).trans hh, rest⟩
theorem RI.IntsOn.up {w : World} {base : Nat} {v : Value} {l : List Int} (h : RI.IntsOn w base v l) : ∀ k ∈ rowB v, base ≤ k ∧ k < w.heap.size := fun k hk => h.own.lt k (mem_rowB hk)
/-- A list of ints that is only read. -/
def Rd.ints (base : Nat) (v : Value) (l : List Int) : Rd := ⟨rowB v, fun w => RI.IntsOn w base v l, fun w w' ll h hb hk => h.keep hb hk⟩
end Go.Proofs.YtfdpikkinlljlaaGreat

namespace Go.Proofs.YtfdpikkinlljlaaGreat
open Go Go.RowKit
set_option linter.unusedVariables false
set_option maxRecDepth 100000
set_option linter.unusedSimpArgs false

structure IgIn {σ : Type} (M : PM σ) (P : Int) (emb : IgT → σ) : Prop where
  ld : M.ax (emb .ld) = some (axLd 9)
  lk : ∀ y, M.ax (emb (.lk y)) = some (axLd (wd 20 P 264 y 7))
  ms : ∀ y l, M.ax (emb (.ms y l)) = some (axLd 19)
  um : ∀ y l w, M.ax (emb (.um y l w)) = some (axSt 19 (mskOut w y))
  un : ∀ y l, M.ax (emb (.un y l)) = some (axSt 9 l)
  ct : ∀ y l, M.ax (emb (.ct y l)) = some (axAd 10 4294967295)
  n1 : ∀ v, M.nx (emb .ld) v = if v = 0 then emb .none' else emb (.lk (gw v))
  n2 : ∀ y v, M.nx (emb (.lk y)) v = emb (.ms y v)
  n3 : ∀ y l v, M.nx (emb (.ms y l)) v = emb (.um y l v)
  n4 : ∀ y l w v, M.nx (emb (.um y l w)) v = emb (.un y l)
  n5 : ∀ y l v, M.nx (emb (.un y l)) v = emb (.ct y l)
  n6 : ∀ y l v, M.nx (emb (.ct y l)) v = emb (.over y l)
def IgT.live : IgT → Bool
  | .none' => false
  | .over _ _ => false
  | _ => true
/-- Where a get stopped, and what it answered. -/
def IgQ {σ : Type} (Q : σ → Prop) (emb : IgT → σ) (r : Int) (q : σ) : Prop := (Q q ∧ r = -1) ∨ ∃ p', IgT.live p' = true ∧ q = emb p' ∧ r = p'.obs
theorem ig_in (P : Int) : IgIn (igPM P) P (fun t => t) := ⟨rfl, fun _ => rfl, fun _ _ => rfl, fun _ _ _ => rfl, fun _ _ => rfl, fun _ _ => rfl, fun _ => rfl, fun _ _ => rfl, fun _ _ _ => rfl, fun _ _ _ _ => rfl, fun _ _ _ => rfl, fun _ _ _ => rfl⟩

set_option maxHeartbeats 4000000 in
theorem syn_iget {σ : Type} {M : PM σ} {P T G : Int} {emb : IgT → σ} (hE : IgIn M P emb) (hp : 0 ≤ P ∧ P ≤ 64)
    {w : World} {x : Nat} {A : Option Addr} {cap m : Nat} {g : Nat → Int} {s0 : σ} {j : Nat} {Q : σ → Prop} (hR : RunOn w x A cap m g (M.rj s0 g m j)) (hS : Syn M s0 g m j (emb .ld) Q) (hb : ∀ j, j < m → 0 ≤ g j ∧ g j ≤ 18446744073709551615) :
    Calls Tryz.prog 135 #[.pointer (some ⟨x, 0, none⟩), .agg #[.int .i64 P, .int .i64 T, .int .i64 G]] w fun e w' => ∃ r j' p, e = .returned (.int .i64 r) ∧ RunOn w' x A cap m g (M.rj s0 g m j') ∧ Syn M s0 g m j' (emb p) (IgQ Q emb r) ∧ p.live = false ∧ (j' ≤ m → r = p.obs) ∧ But [x] w w' ∧ j ≤ j' := by
  have hb0 : Below w.heap.size w (w.alloc (.cells #[.int .i64 P, .int .i64 T, .int .i64 G] 23)) := (Below.refl _ _).alloc (Nat.le_refl _) _
  have HX : Hid (Blk (w.alloc (.cells #[.int .i64 P, .int .i64 T, .int .i64 G] 23)) w.heap.size #[.int .i64 P, .int .i64 T, .int .i64 G] 23) := Blk.new _ _ _
  have hxw := hR.blk.lt
  have HB0 : Hid (But [x] w (w.alloc (.cells #[.int .i64 P, .int .i64 T, .int .i64 G] 23))) := But.of_below hb0
  have HE : Hid (IgIn M P emb) := hE
  have HBD : Hid (∀ j, j < m → 0 ≤ g j ∧ g j ≤ 18446744073709551615) := hb
  have hPA := fun (y : Int) W => rprcAt_all P T G y 7 W hp.2 (by omega)
  have hL := syn_load (hR.below hb0) hS hb 9 (fun _ => hE.ld)
  clear hR hS hE hb hb0 hp
  go_enter Tryz.func135, Tryz.ntmps135
  go_wp2_with fail
  generalize w.alloc (.cells #[.int .i64 P, .int .i64 T, .int .i64 G] 23) = W at *
  go_at_call 75; refine hL.mono ?_; rintro e y2 ⟨v, rfl, hK⟩
  have HR2 : Hid (RunOn y2 x A cap m g (M.rj s0 g m (j + 1))) := hK.run
  have HV2 : Hid (0 ≤ v ∧ v ≤ 18446744073709551615) := hK.bd
  have HS2 : Hid (Syn M s0 g m (j + 1) ((if v = 0 then emb .none' else emb (.lk (gw v)))) (fun q => Q q ∨ ∃ p', p'.live = true ∧ q = emb p' ∧ p'.obs = -1)) := by
    have := hK.syn
    rw [HE.out.n1] at this
    exact this.weak (fun r hr => by rcases hr with rfl | hr; exact .inr ⟨.ld, rfl, rfl, rfl⟩; exact .inl hr)
  have HB2 : Hid (But [x] w y2) := HB0.out.trans hK.but
  have HX2 : Hid (Blk y2 w.heap.size #[.int .i64 P, .int .i64 T, .int .i64 G] 23) := HX.out.but hK.but (by simp; omega)
  clear hL hK HB0 HX
  by_cases h0 : v = 0
  · subst h0
    clear hPA
    go_wp2_with fail
    go_ret
    refine ⟨-1, j + 1, .none', rfl, HR2.out, (HS2.out.as (t' := emb .none') (fun _ => by simp)).weak ?_, rfl, fun _ => rfl, HB2.out, Nat.le_succ j⟩
    rintro q (hq | ⟨p', h1, h2, h3⟩)
    · exact .inl ⟨hq, rfl⟩
    · exact .inr ⟨p', h1, h2, h3.symm⟩
  · have hd0 : (v == 0) = false := by simpa using h0
    have e1 : wrap64 (IntKind.i64.wrap v - 1) = gw v := gw_eq v HV2.out
    have HS2' : Hid (Syn M s0 g m (j + 1) (emb (.lk (gw v))) (fun q => Q q ∨ ∃ p', p'.live = true ∧ q = emb p' ∧ p'.obs = -1)) := HS2.out.as (fun _ => if_neg h0)
    clear HS2
    have HS2 := HS2'
    clear HS2'
    generalize hyy : gw v = y at *
    generalize hvv : IntKind.i64.wrap v = v' at *
    have hPA2 := hPA y
    clear hPA hyy HV2
    have k0 := HX2.out.cell 0 (v := .int .i64 P) rfl
    have k1 := HX2.out.cell 1 (v := .int .i64 T) rfl
    have k2 := HX2.out.cell 2 (v := .int .i64 G) rfl
    have hPl := hPA2 y2
    have HAc : Hid (∀ Y, Below y2.heap.size y2 Y → _) := fun Y (hY : Below y2.heap.size y2 Y) => syn_load (HR2.out.below hY) HS2.out HBD.out (wd 20 P 264 y 7) (fun _ => HE.out.lk y)
    go_wp2_with fail
    go_at_call 131; refine hPl.mono ?_; rintro e y3 ⟨rfl, h5⟩
    have hA := HAc.out y3 h5
    have HB3 : Hid (But [x] w y3) := HB2.out.trans (But.of_below h5)
    have HX3 : Hid (Blk y3 w.heap.size #[.int .i64 P, .int .i64 T, .int .i64 G] 23) := HX2.out.but (But.of_below (l := []) h5) (by simp)
    clear hPl h5 k0 k1 k2 HX2 HB2 HAc HR2
    go_wp2_with fail
    clear hPA2
    go_at_call 75; refine hA.mono ?_; rintro e y4 ⟨l, rfl, hK⟩
    have HR4 : Hid (RunOn y4 x A cap m g (M.rj s0 g m (j + 1 + 1))) := hK.run
    have HV4 : Hid (0 ≤ l ∧ l ≤ 18446744073709551615) := hK.bd
    have HS4 : Hid (Syn M s0 g m (j + 1 + 1) (emb (.ms y l)) (fun q => Q q ∨ ∃ p', p'.live = true ∧ q = emb p' ∧ p'.obs = -1)) := by
      have := hK.syn
      rw [HE.out.n2] at this
      exact this.weak (fun r hr => by rcases hr with rfl | hr; exact .inr ⟨.lk y, rfl, rfl, rfl⟩; exact hr)
    have HB4 : Hid (But [x] w y4) := HB3.out.trans hK.but
    have HX4 : Hid (Blk y4 w.heap.size #[.int .i64 P, .int .i64 T, .int .i64 G] 23) := HX3.out.but hK.but (by simp; omega)
    clear hA hK HB3 HX3
    have hL4 := syn_load HR4.out HS4.out HBD.out 19 (fun _ => HE.out.ms y l)
    clear HX4 HR4
    go_wp2_with fail
    go_at_call 75; refine hL4.mono ?_; rintro e y5 ⟨v2, rfl, hK⟩
    have HR5 : Hid (RunOn y5 x A cap m g (M.rj s0 g m (j + 1 + 1 + 1))) := hK.run
    have HV5 : Hid (0 ≤ v2 ∧ v2 ≤ 18446744073709551615) := hK.bd
    have HS5 : Hid (Syn M s0 g m (j + 1 + 1 + 1) (emb (.um y l v2)) (fun q => Q q ∨ ∃ p', p'.live = true ∧ q = emb p' ∧ p'.obs = -1)) := by
      have := hK.syn
      rw [HE.out.n3] at this
      exact this.weak (fun r hr => by rcases hr with rfl | hr; exact .inr ⟨.ms y l, rfl, rfl, rfl⟩; exact hr)
    have HB5 : Hid (But [x] w y5) := HB4.out.trans hK.but
    clear hL4 hK HB4
    clear HS4
    have hMk := rmasked_any v2 y y5 HV5.out
    have hBt := rbit_any y y5
    have han := an_bit v2 y HV5.out
    have HSt := syn_store HR5.out HS5.out HBD.out 19 (mskOut v2 y) (fun _ => HE.out.um y l v2)
    clear HR5 HV5
    cases hmb : mskB v2 y
    · rw [hmb] at hMk
      have hmv : mskOut v2 y = v2 := by unfold mskOut; rw [hmb]; rfl
      rw [hmv] at HSt
      clear hmb han hmv hBt
      go_wp2_with fail
      go_at_call 166; refine hMk.mono ?_; rintro e w1 ⟨rfl, rfl⟩
      clear hMk
      go_wp2_with fail
      go_at_call 92; refine HSt.mono ?_; rintro e y6 ⟨⟨u6, rfl⟩, v6, hK⟩
      have HR6 : Hid (RunOn y6 x A cap m g (M.rj s0 g m (j + 1 + 1 + 1 + 1))) := hK.run
      have HS6 : Hid (Syn M s0 g m (j + 1 + 1 + 1 + 1) (emb (.un y l)) (fun q => Q q ∨ ∃ p', p'.live = true ∧ q = emb p' ∧ p'.obs = -1)) := by
        have := hK.syn
        rw [HE.out.n4] at this
        exact this.weak (fun r hr => by rcases hr with rfl | hr; exact .inr ⟨.um y l v2, rfl, rfl, rfl⟩; exact hr)
      have HB6 : Hid (But [x] w y6) := HB5.out.trans hK.but
      clear HSt hK HB5
      have hSt2 := syn_store HR6.out HS6.out HBD.out 9 l (fun _ => HE.out.un y l)
      clear HR6 HS5
      go_wp2_with fail
      go_at_call 92; refine hSt2.mono ?_; rintro e y7 ⟨⟨u7, rfl⟩, v7, hK⟩
      have HR7 : Hid (RunOn y7 x A cap m g (M.rj s0 g m (j + 1 + 1 + 1 + 1 + 1))) := hK.run
      have HS7 : Hid (Syn M s0 g m (j + 1 + 1 + 1 + 1 + 1) (emb (.ct y l)) (fun q => Q q ∨ ∃ p', p'.live = true ∧ q = emb p' ∧ p'.obs = -1)) := by
        have := hK.syn
        rw [HE.out.n5] at this
        exact this.weak (fun r hr => by rcases hr with rfl | hr; exact .inr ⟨.un y l, rfl, rfl, rfl⟩; exact hr)
      have HB7 : Hid (But [x] w y7) := HB6.out.trans hK.but
      clear hSt2 hK HB6
      clear HS6
      have sc := HR7.out.blk.cell 2 (v := .bool (M.rj s0 g m (j + 1 + 1 + 1 + 1 + 1)).stop) rfl
      rw [rj_stop HS7.out] at sc
      by_cases hst : m < j + 1 + 1 + 1 + 1 + 1
      · have HST : Hid (m < j + 1 + 1 + 1 + 1 + 1) := hst
        have HPAST : Hid (IgQ Q emb (-1) (M.run s0 g m)) := by
          rcases (HS7.out.past hst).1 with hq | ⟨p', h1, h2, h3⟩
          · exact .inl ⟨hq, rfl⟩
          · exact .inr ⟨p', h1, h2, h3.symm⟩
        rw [decide_eq_true hst] at sc
        have hA7 := syn_add HR7.out HS7.out HBD.out 10 4294967295 (fun _ => HE.out.ct y l)
        clear hst
        go_wp2_with fail
        go_at_call 137; refine hA7.mono ?_; rintro e y9 ⟨v9, rfl, hK⟩
        have HF : Hid (RunOn y9 x A cap m g (M.rj s0 g m (j + 1 + 1 + 1 + 1 + 1 + 1)) ∧ Syn M s0 g m (j + 1 + 1 + 1 + 1 + 1 + 1) (emb (.over y l)) (IgQ Q emb (-1)) ∧ But [x] w y9) := by
          exact ⟨hK.run, ⟨fun h => absurd h (by have := HST.out; omega), fun h => ⟨HPAST.out, (HS7.out.past HST.out).2⟩⟩, HB7.out.trans hK.but⟩
        clear hA7 hK sc
        go_wp2_with fail
        go_ret
        exact ⟨-1, j + 1 + 1 + 1 + 1 + 1 + 1, .over y l, rfl, HF.out.1, HF.out.2.1, rfl, fun h => absurd h (by have := HST.out; omega), HF.out.2.2, by omega⟩
      · have HST : Hid (j + 1 + 1 + 1 + 1 + 1 ≤ m) := (by omega : j + 1 + 1 + 1 + 1 + 1 ≤ m)
        rw [decide_eq_false hst] at sc
        have hA7 := syn_add HR7.out HS7.out HBD.out 10 4294967295 (fun _ => HE.out.ct y l)
        clear hst
        go_wp2_with fail
        go_at_call 137; refine hA7.mono ?_; rintro e y9 ⟨v9, rfl, hK⟩
        have HF : Hid (RunOn y9 x A cap m g (M.rj s0 g m (j + 1 + 1 + 1 + 1 + 1 + 1)) ∧ Syn M s0 g m (j + 1 + 1 + 1 + 1 + 1 + 1) (emb (.over y l)) (IgQ Q emb y) ∧ But [x] w y9) := by
          have := hK.syn
          rw [HE.out.n6] at this
          refine ⟨hK.run, ⟨this.at', fun h => ⟨?_, (this.past h).2⟩⟩, HB7.out.trans hK.but⟩
          have hm : m = j + 1 + 1 + 1 + 1 + 1 := by have := HST.out; omega
          have h2 := HS7.out.at' HST.out
          rw [← hm] at h2
          exact .inr ⟨.ct y l, rfl, h2, rfl⟩
        clear hA7 hK sc
        go_wp2_with fail
        go_ret
        exact ⟨y, j + 1 + 1 + 1 + 1 + 1 + 1, .over y l, rfl, HF.out.1, HF.out.2.1, rfl, fun _ => rfl, HF.out.2.2, by omega⟩
    · rw [hmb] at hMk
      have hmv : mskOut v2 y = v2 - bitOf y := by unfold mskOut; rw [hmb]; rfl
      have hwv : IntKind.u64.wrap (v2 - bitOf y) = mskOut v2 y := by rw [← hmv]; exact wrap_u64 (by omega)
      clear hmb han hmv
      generalize mskOut v2 y = mv at *
      generalize bitOf y = bp at *
      go_wp2_with fail
      go_at_call 166; refine hMk.mono ?_; rintro e w1 ⟨rfl, rfl⟩
      go_wp2_with fail
      go_at_call 167; refine hBt.mono ?_; rintro e w1 ⟨rfl, rfl⟩
      clear hMk hBt
      go_wp2_with fail
      go_at_call 92; refine HSt.mono ?_; rintro e y6 ⟨⟨u6, rfl⟩, v6, hK⟩
      have HR6 : Hid (RunOn y6 x A cap m g (M.rj s0 g m (j + 1 + 1 + 1 + 1))) := hK.run
      have HS6 : Hid (Syn M s0 g m (j + 1 + 1 + 1 + 1) (emb (.un y l)) (fun q => Q q ∨ ∃ p', p'.live = true ∧ q = emb p' ∧ p'.obs = -1)) := by
        have := hK.syn
        rw [HE.out.n4] at this
        exact this.weak (fun r hr => by rcases hr with rfl | hr; exact .inr ⟨.um y l v2, rfl, rfl, rfl⟩; exact hr)
      have HB6 : Hid (But [x] w y6) := HB5.out.trans hK.but
      clear HSt hK HB5
      have hSt2 := syn_store HR6.out HS6.out HBD.out 9 l (fun _ => HE.out.un y l)
      clear HR6 HS5
      go_wp2_with fail
      go_at_call 92; refine hSt2.mono ?_; rintro e y7 ⟨⟨u7, rfl⟩, v7, hK⟩
      have HR7 : Hid (RunOn y7 x A cap m g (M.rj s0 g m (j + 1 + 1 + 1 + 1 + 1))) := hK.run
      have HS7 : Hid (Syn M s0 g m (j + 1 + 1 + 1 + 1 + 1) (emb (.ct y l)) (fun q => Q q ∨ ∃ p', p'.live = true ∧ q = emb p' ∧ p'.obs = -1)) := by
        have := hK.syn
        rw [HE.out.n5] at this
        exact this.weak (fun r hr => by rcases hr with rfl | hr; exact .inr ⟨.un y l, rfl, rfl, rfl⟩; exact hr)
      have HB7 : Hid (But [x] w y7) := HB6.out.trans hK.but
      clear hSt2 hK HB6
      clear HS6
      have sc := HR7.out.blk.cell 2 (v := .bool (M.rj s0 g m (j + 1 + 1 + 1 + 1 + 1)).stop) rfl
      rw [rj_stop HS7.out] at sc
      by_cases hst : m < j + 1 + 1 + 1 + 1 + 1
      · have HST : Hid (m < j + 1 + 1 + 1 + 1 + 1) := hst
        have HPAST : Hid (IgQ Q emb (-1) (M.run s0 g m)) := by
          rcases (HS7.out.past hst).1 with hq | ⟨p', h1, h2, h3⟩
          · exact .inl ⟨hq, rfl⟩
          · exact .inr ⟨p', h1, h2, h3.symm⟩
        rw [decide_eq_true hst] at sc
        have hA7 := syn_add HR7.out HS7.out HBD.out 10 4294967295 (fun _ => HE.out.ct y l)
        clear hst
        go_wp2_with fail
        go_at_call 137; refine hA7.mono ?_; rintro e y9 ⟨v9, rfl, hK⟩
        have HF : Hid (RunOn y9 x A cap m g (M.rj s0 g m (j + 1 + 1 + 1 + 1 + 1 + 1)) ∧ Syn M s0 g m (j + 1 + 1 + 1 + 1 + 1 + 1) (emb (.over y l)) (IgQ Q emb (-1)) ∧ But [x] w y9) := by
          exact ⟨hK.run, ⟨fun h => absurd h (by have := HST.out; omega), fun h => ⟨HPAST.out, (HS7.out.past HST.out).2⟩⟩, HB7.out.trans hK.but⟩
        clear hA7 hK sc
        go_wp2_with fail
        go_ret
        exact ⟨-1, j + 1 + 1 + 1 + 1 + 1 + 1, .over y l, rfl, HF.out.1, HF.out.2.1, rfl, fun h => absurd h (by have := HST.out; omega), HF.out.2.2, by omega⟩
      · have HST : Hid (j + 1 + 1 + 1 + 1 + 1 ≤ m) := (by omega : j + 1 + 1 + 1 + 1 + 1 ≤ m)
        rw [decide_eq_false hst] at sc
        have hA7 := syn_add HR7.out HS7.out HBD.out 10 4294967295 (fun _ => HE.out.ct y l)
        clear hst
        go_wp2_with fail
        go_at_call 137; refine hA7.mono ?_; rintro e y9 ⟨v9, rfl, hK⟩
        have HF : Hid (RunOn y9 x A cap m g (M.rj s0 g m (j + 1 + 1 + 1 + 1 + 1 + 1)) ∧ Syn M s0 g m (j + 1 + 1 + 1 + 1 + 1 + 1) (emb (.over y l)) (IgQ Q emb y) ∧ But [x] w y9) := by
          have := hK.syn
          rw [HE.out.n6] at this
          refine ⟨hK.run, ⟨this.at', fun h => ⟨?_, (this.past h).2⟩⟩, HB7.out.trans hK.but⟩
          have hm : m = j + 1 + 1 + 1 + 1 + 1 := by have := HST.out; omega
          have h2 := HS7.out.at' HST.out
          rw [← hm] at h2
          exact .inr ⟨.ct y l, rfl, h2, rfl⟩
        clear hA7 hK sc
        go_wp2_with fail
        go_ret
        exact ⟨y, j + 1 + 1 + 1 + 1 + 1 + 1, .over y l, rfl, HF.out.1, HF.out.2.1, rfl, fun _ => rfl, HF.out.2.2, by omega⟩

theorem rgiget_on (w : World) (x : Nat) (A : Option Addr) (cap m : Nat) (gf : Nat → Int) (P T G : Int) (t : IgT) (h : RunOn w x A cap m gf rn0) (hh : Hist (igPM P) IgT.ld gf m t) (hp : 0 ≤ P ∧ P ≤ 64) :
    Calls Tryz.prog 135 #[.pointer (some ⟨x, 0, none⟩), .agg #[.int .i64 P, .int .i64 T, .int .i64 G]] w fun e w' => e = .returned (.int .i64 t.obs) ∧ RunOn w' x A cap m gf ((igPM P).rn t m) ∧ But [x] w w' := by
  rw [← rj_start (M := igPM P) (s0 := IgT.ld) (g := gf) (m := m)] at h
  refine (syn_iget (ig_in P) hp h (Syn.start _ _ _ _) hh.bd).mono ?_
  rintro e w' ⟨r, j', p, rfl, h1, h2, h3, h4, h5, -⟩
  have hn : (igPM P).ax p = none := by cases p <;> first | rfl | cases h3
  have hr : r = t.obs := by
    rcases h2.fin hh (fun _ => hn) with ⟨e1, e2⟩ | ⟨-, (⟨hf, -⟩ | ⟨p', -, e1, e2⟩)⟩
    · rw [e1]; exact h4 (by omega)
    · exact hf.elim
    · rw [e1]; exact e2
  rw [hr]
  refine ⟨rfl, ?_, h5⟩
  rw [← rj_end h2 hh (fun _ => hn)]
  exact h1
end Go.Proofs.YtfdpikkinlljlaaGreat

namespace Go.Proofs.YtfdpikkinlljlaaGreat
open Go Go.RowKit
set_option linter.unusedVariables false
set_option maxRecDepth 100000
set_option linter.unusedSimpArgs false

/-- A machine that is only kept. -/
def Rd.mach {σ : Type} {I : MI σ} {M : PM σ} (hG : I.Good M) (x : Nat) (t : σ) (L : List Nat) : Rd := ⟨L, fun w => I w x t L, fun w w' l h hb hk => hG.keep h hb hk⟩
section
variable {σ : Type} {I : MI σ} {M : PM σ} {R Rm : Rd} {W0 w w' : World} {A : Option Addr} {cap c b n : Nat} {s : St} {x : Nat} {t : σ} {L : List Nat}
theorem Solo.again (h : Solo I R W0 w A cap c b n s x t L) {τ : Type} {J : MI τ} {R2 : Rd} {y : Nat} {u : τ} {K : List Nat} (hm : J w y u K) (hr : R2.P w) (hB : ∀ k ∈ K, k ∈ R.B) (hR : ∀ k ∈ R2.B, k ∈ R.B) (hK : ∀ k ∈ K, k ∉ R2.B) (hup : ∀ k ∈ K, W0.heap.size ≤ k) : Solo J R2 W0 w A cap c b n s y u K :=
  ⟨h.mem, hm, hr, fun k hk => ⟨fun e => h.rfar.1 (e ▸ hB k hk), fun e => h.rfar.2 (e ▸ hB k hk), hK k hk⟩, ⟨fun hm => h.rfar.1 (hR _ hm), fun hm => h.rfar.2 (hR _ hm)⟩, ⟨h.up.1, h.up.2.1, hup⟩, fun k hk => h.rlt k (hR k hk), h.below⟩
end
theorem lit1_sees (w : World) (a : Int) : RI.SeesL (w.alloc (.cells #[.int .i64 a] 3)) (.slice (some ⟨w.heap.size, 0, none⟩) 1 1) [a] := by
  have hX := Blk.new w #[.int .i64 a] 3
  refine ⟨_, 1, rfl, (fun h => by cases h), fun _ => ⟨w.heap.size, 0, rfl, hX.lt, fun j hj => ?_⟩⟩
  have hj4 : j < 1 := hj
  obtain rfl : j = 0 := by omega
  exact hX.cell 0 rfl
theorem lit2_sees (w : World) (a b : Int) : RI.SeesL (w.alloc (.cells #[.int .i64 a, .int .i64 b] 3)) (.slice (some ⟨w.heap.size, 0, none⟩) 2 2) [a, b] := by
  have hX := Blk.new w #[.int .i64 a, .int .i64 b] 3
  refine ⟨_, 2, rfl, (fun h => by cases h), fun _ => ⟨w.heap.size, 0, rfl, hX.lt, fun j hj => ?_⟩⟩
  have hj4 : j < 2 := hj
  rcases (by omega : j = 0 ∨ j = 1) with rfl | rfl
  · exact hX.cell 0 rfl
  · exact hX.cell 1 rfl
theorem lit3_sees (w : World) (a b c : Int) : RI.SeesL (w.alloc (.cells #[.int .i64 a, .int .i64 b, .int .i64 c] 3)) (.slice (some ⟨w.heap.size, 0, none⟩) 3 3) [a, b, c] := by
  have hX := Blk.new w #[.int .i64 a, .int .i64 b, .int .i64 c] 3
  refine ⟨_, 3, rfl, (fun h => by cases h), fun _ => ⟨w.heap.size, 0, rfl, hX.lt, fun j hj => ?_⟩⟩
  have hj4 : j < 3 := hj
  rcases (by omega : j = 0 ∨ j = 1 ∨ j = 2) with rfl | rfl | rfl
  · exact hX.cell 0 rfl
  · exact hX.cell 1 rfl
  · exact hX.cell 2 rfl

section
variable {σ : Type} {I : MI σ} {M : PM σ} {R Rm : Rd} {W0 w w' : World} {A : Option Addr} {cap c b n : Nat} {s : St} {x : Nat} {t : σ} {L : List Nat}
theorem Solo.stepUp (hG : I.Good M) {F : Nat} {who : Int} (hS : Steps M I Rm F who) (hRm : ∀ w, R.P w → Rm.P w) (hRb : ∀ k ∈ Rm.B, k ∈ R.B) (h : Solo I R W0 w A cap c b n s x t L) (hn : n ≤ 1000000) (hl : Low s 1000000) :
    Calls Tryz.prog F #[.pointer (some ⟨x, 0, none⟩), .pointer (some ⟨c, 0, none⟩)] w fun e w' => (e = .returned (.bool (M.ax (M.goT n t s)).isNone)) ∧ w.heap.size ≤ w'.heap.size ∧ ∃ L', Solo I R W0 w' A cap c b n (M.goS who n t s) x (M.goT n t s) L' := by
  refine (hS w A cap c b n s x t L h.mach (hRm w h.rd) h.mem hn hl (fun k hk => ⟨(h.far k hk).1, (h.far k hk).2.1, fun hr => (h.far k hk).2.2 (hRb k hr)⟩) ⟨fun hr => h.rfar.1 (hRb c hr), fun hr => h.rfar.2 (hRb b hr)⟩).mono ?_
  rintro e w' ⟨rfl, L', a1, a2, a3, a4⟩
  have hsz := h.below.size
  have k1 := h.mem.lt
  have k2 := h.mem.bl
  refine ⟨rfl, a3.size, L', a2, a1, R.keep _ _ _ h.rd a3 (fun k hk => ?_), fun k hk => ?_, h.rfar, ⟨h.up.1, h.up.2.1, fun k hk => ?_⟩, fun k hk => Nat.lt_of_lt_of_le (h.rlt k hk) a3.size, h.below.trans (a3.below ?_ hsz)⟩
  · simp only [List.mem_cons, not_or]
    exact ⟨fun e => h.rfar.1 (e ▸ hk), fun e => h.rfar.2 (e ▸ hk), fun hm => (h.far k hm).2.2 hk⟩
  · rcases a4 k hk with h1 | h1
    · exact h.far k h1
    · exact ⟨by omega, by omega, fun hr => by have := h.rlt k hr; omega⟩
  · rcases a4 k hk with h1 | h1
    · exact h.up.2.2 k h1
    · omega
  · intro k hk
    simp only [List.mem_cons] at hk
    rcases hk with rfl | rfl | hk
    · exact h.up.1
    · exact h.up.2.1
    · exact h.up.2.2 k hk
end
theorem lit4b_sees (w : World) (a b c d : Int) : RI.SeesL (w.alloc (.cells #[.int .i64 a, .int .i64 b, .int .i64 c, .int .i64 d] 3)) (.slice (some ⟨w.heap.size, 0, none⟩) 4 4) [a, b, c, d] := by
  have hX := Blk.new w #[.int .i64 a, .int .i64 b, .int .i64 c, .int .i64 d] 3
  refine ⟨_, 4, rfl, (fun h => by cases h), fun _ => ⟨w.heap.size, 0, rfl, hX.lt, fun j hj => ?_⟩⟩
  have hj4 : j < 4 := hj
  rcases (by omega : j = 0 ∨ j = 1 ∨ j = 2 ∨ j = 3) with rfl | rfl | rfl | rfl
  · exact hX.cell 0 rfl
  · exact hX.cell 1 rfl
  · exact hX.cell 2 rfl
  · exact hX.cell 3 rfl
end Go.Proofs.YtfdpikkinlljlaaGreat

namespace Go.Proofs.YtfdpikkinlljlaaGreat
open Go Go.RowKit Go.Maps
set_option linter.unusedVariables false
set_option maxRecDepth 100000
set_option linter.unusedSimpArgs false

theorem rsf_bd {w : World} {T : TypeId} {A : Option Addr} {cap c b n : Nat} {s : St} (h : Is w T A cap c b n s) (i : Int) : 0 ≤ peekT n s i ∧ peekT n s i ≤ 18446744073709551615 := by
  unfold peekT
  split
  · exact h.bd _ (by omega)
  · omega
theorem rsee_any (w : World) (cl : Nat) (P T G p : Int) (A : Option Addr) (cap c b n : Nat) (s : St) (hL : Lay w cl P T G) (hp : 0 ≤ P ∧ P ≤ 64) (hI : Is w 141 A cap c b n s) (hn : n ≤ 1000000) :
    Calls Tryz.prog 119 #[.pointer (some ⟨cl, 0, none⟩), .pointer (some ⟨c, 0, none⟩), .int .i64 p] w fun e w' => e = .returned (.tuple #[.int .u64 (peekT n s (wd 20 P 264 p 1)), .int .u64 ((peekT n s (wd 20 P 264 p 2) - peekT n s (wd 20 P 264 p 1)) % 4294967296), .int .u64 (peekT n s (wd 20 P 264 p 3))]) ∧ Below w.heap.size w w' := by
  have h1 := fun Y (hY : Lay Y cl P T G) => lprc_any (some ⟨cl, 0, none⟩) P T G p 1 Y (.some cl hY) hp (by omega)
  have h2 := fun Y (hY : Lay Y cl P T G) => lprc_any (some ⟨cl, 0, none⟩) P T G p 2 Y (.some cl hY) hp (by omega)
  have h3 := fun Y (hY : Lay Y cl P T G) => lprc_any (some ⟨cl, 0, none⟩) P T G p 3 Y (.some cl hY) hp (by omega)
  have HL : Hid (∀ Y, Below w.heap.size w Y → Lay Y cl P T G) := fun Y hY => hL.below hY hL.lt
  have HI : Hid (∀ Y, Below w.heap.size w Y → Is Y 141 A cap c b n s) := fun Y hY => hI.below hY
  have b1 := rsf_bd hI (wd 20 P 264 p 1)
  have b2 := rsf_bd hI (wd 20 P 264 p 2)
  generalize wd 20 P 264 p 1 = i1 at *
  generalize wd 20 P 264 p 2 = i2 at *
  generalize wd 20 P 264 p 3 = i3 at *
  have hM := fun w => mny_any (peekT n s i1) (peekT n s i2) w b1 b2
  have P1 := fun Y (h : Is Y 141 A cap c b n s) => peek_any Y A cap c b n s i1 h hn
  have P2 := fun Y (h : Is Y 141 A cap c b n s) => peek_any Y A cap c b n s i2 h hn
  have P3 := fun Y (h : Is Y 141 A cap c b n s) => peek_any Y A cap c b n s i3 h hn
  clear hL hI b1 b2
  generalize peekT n s i1 = v1 at *
  generalize peekT n s i2 = v2 at *
  generalize peekT n s i3 = v3 at *
  go_enter Tryz.func119, Tryz.ntmps119
  go_wp2_with fail
  go_at_call 108; refine (h1 w (HL.out w (Below.refl _ _))).mono ?_; rintro e w1 ⟨rfl, k1⟩
  go_wp2_with fail
  go_at_call 43; refine (P1 w1 (HI.out w1 k1)).mono ?_; rintro e w2 ⟨rfl, rfl⟩
  go_wp2_with fail
  go_at_call 108; refine (h2 w1 (HL.out w1 k1)).mono ?_; rintro e w3 ⟨rfl, k3⟩
  have k3' := seq k1 k3
  go_wp2_with fail
  go_at_call 43; refine (P2 w3 (HI.out w3 k3')).mono ?_; rintro e w4 ⟨rfl, rfl⟩
  go_wp2_with fail
  go_at_call 108; refine (h3 w3 (HL.out w3 k3')).mono ?_; rintro e w5 ⟨rfl, k5⟩
  have k5' := seq k3' k5
  go_wp2_with fail
  go_at_call 43; refine (P3 w5 (HI.out w5 k5')).mono ?_; rintro e w6 ⟨rfl, rfl⟩
  go_wp2_with fail
  go_at_call 162; refine (hM w5).mono ?_; rintro e w7 ⟨rfl, rfl⟩
  clear h1 h2 h3 P1 P2 P3 hM
  go_wp2_with fail
  go_returns
  exact ⟨rfl, k5'⟩

/-- A list of words that the call made. -/
structure WordsOn (w : World) (base : Nat) (v : Value) (l : List Int) : Prop where
  own : w.ownsRow base 39 1 v l.length (l.map (Value.int .u64))
theorem WordsOn.below {w w' : World} {base : Nat} {v : Value} {l : List Int} (h : WordsOn w base v l) (hB : Below w.heap.size w w') : WordsOn w' base v l := by
  refine ⟨h.own.1, ?_⟩
  rcases h.own.2 with h0 | ⟨gb, cp, cur, e0, hb, hh, rest⟩
  · exact .inl h0
  · exact .inr ⟨gb, cp, cur, e0, hb, ((But.of_below (l := []) hB).block gb (block_lt hh) (by simp)).trans hh, rest⟩
theorem make_cap (k : Nat) (hk : k ≤ 1000000) (w : World) : (Instr.makeSlice 38 (.int .i64 0) (.int .u64 k)).run Tryz.prog w = .ok (.slice (some ⟨w.heap.size, 0, none⟩) 0 k) (w.alloc (.cells (zs k) 39)) := by
  obtain ⟨i0, hi, hz0, hz1, hz2⟩ := info_parts info39
  have := run_make (P := Tryz.prog) w 38 39 i0 (.int .u64 0) Tryz.underlying38 hi hz0 .i64 .u64 0 k (by omega) (by omega) (by rw [hz2]; omega) (by omega)
  rw [hz1] at this
  simpa [zs, Value.cells] using this
/-- The word at one place of a ring. -/
def rwAt (P p : Int) (n : Nat) (s : St) (h : Int) (i : Nat) : Int := peekT n s (wd 20 P 264 p (8 + IntKind.u64.wrap (h + i) % 256))
def rwL (P p : Int) (n : Nat) (s : St) (h : Int) (k : Nat) : List Int := (List.range k).map (rwAt P p n s h)
theorem rwL_succ (P p : Int) (n : Nat) (s : St) (h : Int) (k : Nat) : rwL P p n s h (k + 1) = rwL P p n s h k ++ [rwAt P p n s h k] := by unfold rwL; rw [List.range_succ, List.map_append]; rfl
theorem rwL_len (P p : Int) (n : Nat) (s : St) (h : Int) (k : Nat) : (rwL P p n s h k).length = k := by unfold rwL; simp
def rMany (P p : Int) (n : Nat) (s : St) : Int := (peekT n s (wd 20 P 264 p 2) - peekT n s (wd 20 P 264 p 1)) % 4294967296
def rK (P p : Int) (n : Nat) (s : St) : Nat := if rMany P p n s ≤ 256 then (rMany P p n s).toNat else 256
set_option maxHeartbeats 4000000 in
theorem rwords_any (w : World) (cl : Nat) (P T G p : Int) (A : Option Addr) (cap c b n : Nat) (s : St) (hL : Lay w cl P T G) (hp : 0 ≤ P ∧ P ≤ 64) (hI : Is w 141 A cap c b n s) (hn : n ≤ 1000000) :
    Calls Tryz.prog 120 #[.pointer (some ⟨cl, 0, none⟩), .pointer (some ⟨c, 0, none⟩), .int .i64 p] w fun e w' => ∃ v, e = .returned (.tuple #[v, .int .u64 (peekT n s (wd 20 P 264 p 3))]) ∧ WordsOn w' w.heap.size v (rwL P p n s (peekT n s (wd 20 P 264 p 1)) (rK P p n s)) ∧ Below w.heap.size w w' := by
  obtain ⟨i0, hi, hz0, hz1, hz2⟩ := info_parts info39
  have hS := rsee_any w cl P T G p A cap c b n s hL hp hI hn
  have HL : Hid (∀ Y, Below w.heap.size w Y → Lay Y cl P T G) := fun Y hY => hL.below hY hL.lt
  have HI : Hid (∀ Y, Below w.heap.size w Y → Is Y 141 A cap c b n s) := fun Y hY => hI.below hY
  have HRG : Hid (∀ Y, Below w.heap.size w Y → ∀ i, 0 ≤ i ∧ i ≤ 18446744073709551615 → Calls Tryz.prog 163 #[.pointer (some ⟨cl, 0, none⟩), .int .i64 p, .int .u64 i] Y fun e w' => e = .returned (.int .i64 (wd 20 P 264 p (8 + i % 256))) ∧ Below Y.heap.size Y w') := fun Y hY i hi => lrng_any (some ⟨cl, 0, none⟩) P T G p i Y (.some cl (HL.out Y hY)) hp hi
  have HPK : Hid (∀ Y, Below w.heap.size w Y → ∀ i, Calls Tryz.prog 43 #[.pointer (some ⟨c, 0, none⟩), .int .i64 i] Y fun e w' => e = .returned (.tuple #[.int .u64 (peekT n s i), .bool (decide (0 ≤ i ∧ i < n))]) ∧ Y = w') := fun Y hY i => peek_any Y A cap c b n s i (HI.out Y hY) hn
  have hmk := fun k (hk : k ≤ 256) w => make_cap k (by omega) w
  have HK : Hid ((rK P p n s : Int) = if rMany P p n s ≤ 256 then rMany P p n s else 256) := by
    have h0 : 0 ≤ rMany P p n s := Int.emod_nonneg _ (by omega)
    show ((rK P p n s : Nat) : Int) = _
    unfold rK
    split <;> omega
  have HKB : Hid (rK P p n s ≤ 256) := by
    have h0 : 0 ≤ rMany P p n s := Int.emod_nonneg _ (by omega)
    show rK P p n s ≤ 256
    unfold rK
    split <;> omega
  rw [show (peekT n s (wd 20 P 264 p 2) - peekT n s (wd 20 P 264 p 1)) % 4294967296 = rMany P p n s from rfl] at hS
  generalize peekT n s (wd 20 P 264 p 1) = hh at *
  generalize peekT n s (wd 20 P 264 p 3) = nn at *
  generalize rMany P p n s = mm at *
  generalize rK P p n s = k at *
  clear hL hI
  go_enter Tryz.func120, Tryz.ntmps120
  go_wp2_with fail
  go_at_call 119; refine hS.mono ?_; rintro e w1 ⟨rfl, h1⟩
  have HB1 : Hid (Below w.heap.size w w1) := h1
  clear hS h1
  by_cases hm : mm ≤ 256
  · obtain rfl : mm = (k : Int) := by have := HK.out; rw [if_pos hm] at this; exact this.symm
    have hd : decide (256 < (k : Int)) = false := decide_eq_false (by omega)
    have hmk2 := hmk k HKB.out w1
    go_wp2_with fail
    have hB2 : Below w.heap.size w (w1.alloc (.cells (zs k) 39)) := HB1.out.trans (((Below.refl _ _).alloc (Nat.le_refl _) _).mono HB1.out.size)
    have HR0 : Hid (WordsOn (w1.alloc (.cells (zs k) 39)) w.heap.size (.slice (some ⟨w1.heap.size, 0, none⟩) 0 k) (rwL P p n s hh 0)) := ⟨World.ownsRow_made w1 (zs k) k HB1.out.size (by unfold maxLen; omega) (by rw [Nat.mul_one]; exact size_madeCells _ _)⟩
    have HB2 : Hid (Below w.heap.size w (w1.alloc (.cells (zs k) 39))) := hB2
    generalize w1.alloc (.cells (zs k) 39) = w2 at *
    clear hmk2 hB2 HB1
    go_loopw [11, 28] (fun vv i wr => ∃ (j : Nat) (v : Value), v = vv ∧ j ≤ k ∧ i = .int .u64 j ∧ Hid (WordsOn wr w.heap.size v (rwL P p n s hh j)) ∧ Hid (Below w.heap.size w wr)) (fun vv i _ => k - (intOf i).toNat)
    case atStart => exact ⟨0, _, rfl, Nat.zero_le _, rfl, HR0, HB2⟩
    case round =>
      clear HR0 HB2
      obtain ⟨j, v, rfl, hj, rfl, HV, HB⟩ := hrel
      by_cases hlt : j < k
      · have hk1 : (j : Int) < (k : Int) := by omega
        have hk2 : decide ((j : Int) < (k : Int)) = true := decide_eq_true (by omega)
        obtain ⟨z, hz⟩ : ∃ z, IntKind.u64.wrap (hh + j) = z := ⟨_, rfl⟩
        have hzb : 0 ≤ z ∧ z ≤ 18446744073709551615 := by rw [← hz]; generalize hh + (j : Int) = y; simp [IntKind.wrap, IntKind.bits, IntKind.signed]; omega
        have hR := HRG.out wr HB.out z hzb
        have HX : Hid (rwAt P p n s hh j = peekT n s (wd 20 P 264 p (8 + z % 256))) := by
          show rwAt P p n s hh j = _
          unfold rwAt
          rw [hz]
        go_wp2_with fail
        go_at_call 163; refine hR.mono ?_; rintro e w3 ⟨rfl, h3⟩
        have HB3 : Hid (Below w.heap.size w w3) := seq HB.out h3
        have hP := HPK.out w3 HB3.out (wd 20 P 264 p (8 + z % 256))
        have HV3 : Hid (WordsOn w3 w.heap.size v (rwL P p n s hh j)) := HV.out.below h3
        generalize decide (0 ≤ wd 20 P 264 p (8 + z % 256) ∧ wd 20 P 264 p (8 + z % 256) < n) = zz at *
        rw [← HX.out] at hP
        generalize wd 20 P 264 p (8 + z % 256) = at' at *
        generalize hgw : rwAt P p n s hh j = gv at *
        have HGW : Hid (rwAt P p n s hh j = gv) := hgw
        clear hR h3 HB HV hgw
        go_wp2_with fail
        go_at_call 43; refine hP.mono ?_; rintro e w4 ⟨rfl, rfl⟩
        have hOO := HV3.out.own
        rw [rwL_len] at hOO
        have hsz := HB3.out.size
        clear hP
        go_wp2_with (at_builtin; refine wpList_append_own _ rfl _ _ 38 rfl w.heap.size 39 i0 (.int .u64 0) 1 8 Tryz.underlying38 hi hz0 hz1 hz2 rfl (by decide) _ _ _ rfl (hOO.alloc _) ⟨w3.heap.size, 0, none⟩ 1 1 [.int .u64 gv] rfl rfl (cell_one_new _ _ _) (ints_oneCell .u64 [gv]) (by unfold maxLen; omega) (by omega) (by simp; omega) ?_; intro v' w5 hown' hgrow2 hnil2)
        have HB5 : Hid (Below w.heap.size w w5) := (HB3.out.alloc HB3.out.size _).grown hgrow2 (by simp; omega) (fun k hk => (hOO.lt k hk).1)
        have HV5 : Hid (WordsOn w5 w.heap.size v' (rwL P p n s hh (j + 1))) := ⟨by
          rw [rwL_len, rwL_succ, List.map_append, HGW.out]
          exact hown'⟩
        have e1 : IntKind.u64.wrap ((j : Int) + 1) = (j : Int) + 1 := wrap_u64 (by omega)
        clear hown' hgrow2 hnil2 hOO
        go_wp2_with fail
        go_roundw
        case rel => exact ⟨j + 1, v', rfl, by omega, by go_num, HV5, HB5⟩
        case measure => simp [intOf]; omega
      · obtain rfl : j = k := by omega
        have hk2 : decide ((j : Int) < (j : Int)) = false := by simp
        have HF : Hid (WordsOn wr w.heap.size v (rwL P p n s hh j)) := HV.out
        have HBF : Hid _ := HB.out
        clear HV HB
        go_wp2_with fail
        go_returns
        exact ⟨v, rfl, HF.out, HBF.out⟩
  · obtain rfl : k = 256 := by have := HK.out; rw [if_neg hm] at this; omega
    have hd : decide (256 < mm) = true := decide_eq_true (by omega)
    have hmk2 : (Instr.makeSlice 38 (.int .i64 0) (.int .u64 256)).run Tryz.prog w1 = .ok (.slice (some ⟨w1.heap.size, 0, none⟩) 0 256) (w1.alloc (.cells (zs 256) 39)) := hmk 256 HKB.out w1
    go_wp2_with fail
    have hB2 : Below w.heap.size w (w1.alloc (.cells (zs 256) 39)) := HB1.out.trans (((Below.refl _ _).alloc (Nat.le_refl _) _).mono HB1.out.size)
    have HR0 : Hid (WordsOn (w1.alloc (.cells (zs 256) 39)) w.heap.size (.slice (some ⟨w1.heap.size, 0, none⟩) 0 256) (rwL P p n s hh 0)) := ⟨World.ownsRow_made w1 (zs 256) 256 HB1.out.size (by unfold maxLen; omega) (by rw [Nat.mul_one]; exact size_madeCells _ _)⟩
    have HB2 : Hid (Below w.heap.size w (w1.alloc (.cells (zs 256) 39))) := hB2
    generalize w1.alloc (.cells (zs 256) 39) = w2 at *
    clear hmk2 hB2 HB1
    go_loopw [11, 28] (fun vv i wr => ∃ (j : Nat) (v : Value), v = vv ∧ j ≤ 256 ∧ i = .int .u64 j ∧ Hid (WordsOn wr w.heap.size v (rwL P p n s hh j)) ∧ Hid (Below w.heap.size w wr)) (fun vv i _ => 256 - (intOf i).toNat)
    case atStart => exact ⟨0, _, rfl, Nat.zero_le _, rfl, HR0, HB2⟩
    case round =>
      clear HR0 HB2
      obtain ⟨j, v, rfl, hj, rfl, HV, HB⟩ := hrel
      by_cases hlt : j < 256
      · have hk1 : (j : Int) < (256 : Int) := by omega
        have hk2 : decide ((j : Int) < 256) = true := decide_eq_true (by omega)
        obtain ⟨z, hz⟩ : ∃ z, IntKind.u64.wrap (hh + j) = z := ⟨_, rfl⟩
        have hzb : 0 ≤ z ∧ z ≤ 18446744073709551615 := by rw [← hz]; generalize hh + (j : Int) = y; simp [IntKind.wrap, IntKind.bits, IntKind.signed]; omega
        have hR := HRG.out wr HB.out z hzb
        have HX : Hid (rwAt P p n s hh j = peekT n s (wd 20 P 264 p (8 + z % 256))) := by
          show rwAt P p n s hh j = _
          unfold rwAt
          rw [hz]
        go_wp2_with fail
        go_at_call 163; refine hR.mono ?_; rintro e w3 ⟨rfl, h3⟩
        have HB3 : Hid (Below w.heap.size w w3) := seq HB.out h3
        have hP := HPK.out w3 HB3.out (wd 20 P 264 p (8 + z % 256))
        have HV3 : Hid (WordsOn w3 w.heap.size v (rwL P p n s hh j)) := HV.out.below h3
        generalize decide (0 ≤ wd 20 P 264 p (8 + z % 256) ∧ wd 20 P 264 p (8 + z % 256) < n) = zz at *
        rw [← HX.out] at hP
        generalize wd 20 P 264 p (8 + z % 256) = at' at *
        generalize hgw : rwAt P p n s hh j = gv at *
        have HGW : Hid (rwAt P p n s hh j = gv) := hgw
        clear hR h3 HB HV hgw
        go_wp2_with fail
        go_at_call 43; refine hP.mono ?_; rintro e w4 ⟨rfl, rfl⟩
        have hOO := HV3.out.own
        rw [rwL_len] at hOO
        have hsz := HB3.out.size
        clear hP
        go_wp2_with (at_builtin; refine wpList_append_own _ rfl _ _ 38 rfl w.heap.size 39 i0 (.int .u64 0) 1 8 Tryz.underlying38 hi hz0 hz1 hz2 rfl (by decide) _ _ _ rfl (hOO.alloc _) ⟨w3.heap.size, 0, none⟩ 1 1 [.int .u64 gv] rfl rfl (cell_one_new _ _ _) (ints_oneCell .u64 [gv]) (by unfold maxLen; omega) (by omega) (by simp; omega) ?_; intro v' w5 hown' hgrow2 hnil2)
        have HB5 : Hid (Below w.heap.size w w5) := (HB3.out.alloc HB3.out.size _).grown hgrow2 (by simp; omega) (fun k hk => (hOO.lt k hk).1)
        have HV5 : Hid (WordsOn w5 w.heap.size v' (rwL P p n s hh (j + 1))) := ⟨by
          rw [rwL_len, rwL_succ, List.map_append, HGW.out]
          exact hown'⟩
        have e1 : IntKind.u64.wrap ((j : Int) + 1) = (j : Int) + 1 := wrap_u64 (by omega)
        clear hown' hgrow2 hnil2 hOO
        go_wp2_with fail
        go_roundw
        case rel => exact ⟨j + 1, v', rfl, by omega, by go_num, HV5, HB5⟩
        case measure => simp [intOf]; omega
      · obtain rfl : j = 256 := by omega
        have hk2 : decide (((256 : Nat) : Int) < 256) = false := by decide
        have HF : Hid (WordsOn wr w.heap.size v (rwL P p n s hh 256)) := HV.out
        have HBF : Hid _ := HB.out
        clear HV HB
        go_wp2_with fail
        go_returns
        exact ⟨v, rfl, HF.out, HBF.out⟩
end Go.Proofs.YtfdpikkinlljlaaGreat
