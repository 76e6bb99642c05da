/- steal: the page's example. -/
import Derived.Test.YtcjidigpdecdlaaSt6
import Derived.Test.YtcjidigpdecdlaaIter
import Derived.Test.YtcjidigpdecdlaaRW2
import Derived.Test.YtcjidigpdecdlaaAwK
import Derived.Test.YtcjidigpdecdlaaGnd2
namespace Go.Proofs.Ytcjidigpdecdlaa
open Go Go.RowKit
set_option linter.unusedVariables false
set_option maxRecDepth 100000
set_option linter.unusedSimpArgs false

def saA (i : Nat) : Int := if i = 0 then 22 else 27 + i
def saV (i : Nat) : Int := if i = 0 then 5 else i + 1
def saM : PM StT := stPM 2 1 0 false
def saS0 : St := fresh (putF saA saV 566 6)
def saS1 : St := (saM.steps 1 566 12 (.t0 stD0, saS0)).2
def saT : StT := (saM.steps 1 566 12 (.t0 stD0, saS0)).1
theorem sa_done : (saM.ax saT).isNone = true := by decide +kernel
theorem sa_g : saT.d.g = 3 ∧ saT.d.lo.length = 128 ∧ 1 ≤ saT.d.n ∧ saT.d.n ≤ 128 := ⟨by decide +kernel, by decide +kernel, by decide +kernel, by decide +kernel⟩
theorem sa_a : gsL 6 (rgsL 2 6 0 566 saS1) = [4, 5] := by decide +kernel
theorem sa_b : gsL 6 (rgsL 2 6 1 566 saS1) = [1, 2] := by decide +kernel
set_option maxHeartbeats 16000000 in
theorem steal_awake (w : World) : Calls Try.prog 9 #[] w fun e w' => e = .returned (.bool true) ∧ Below w.heap.size w w' := by
  have HL0 : Hid (∀ (E : Option Addr) (W : World), SeesP W W.heap.size E 6 saA saV → Calls Try.prog 4 #[.agg #[.int .i64 2, .int .i64 2, .int .i64 6, .slice E (6 : Nat) 6]] W fun e w' => ∃ (cl : Nat) (A A' : Option Addr) (cap cap' c b c' b' : Nat), e = .returned (.tuple #[.pointer (some ⟨cl, 0, none⟩), .pointer (some ⟨c, 0, none⟩), .pointer (some ⟨c', 0, none⟩), .bool true]) ∧ Laid W w' 2 2 6 566 (putF saA saV 566 6) cl A A' cap cap' c b c' b') := fun E W hs =>
    lay_some 2 2 6 E 6 6 566 saA saV W (by omega) ⟨⟨by omega⟩, by omega, by omega, by omega⟩ (by omega) hs (fun i hi => by unfold saV; split <;> omega)
  have hX : Blk ((w.alloc (.cells #[.int .i64 22, .int .u64 5, .int .i64 28, .int .u64 2, .int .i64 29, .int .u64 3, .int .i64 30, .int .u64 4, .int .i64 31, .int .u64 5, .int .i64 32, .int .u64 6] 29)).alloc (.cells #[.int .i64 2, .int .i64 2, .int .i64 6, .slice (some ⟨w.heap.size, 0, none⟩) 6 6] 32)) w.heap.size #[.int .i64 22, .int .u64 5, .int .i64 28, .int .u64 2, .int .i64 29, .int .u64 3, .int .i64 30, .int .u64 4, .int .i64 31, .int .u64 5, .int .i64 32, .int .u64 6] 29 := (Blk.new w _ _).al _
  have hL := HL0.out (some ⟨w.heap.size, 0, none⟩) _ (fun _ => ⟨w.heap.size, 0, rfl, hX.lt, fun j hj => by
    rcases (by omega : j = 0 ∨ j = 1 ∨ j = 2 ∨ j = 3 ∨ j = 4 ∨ j = 5) with rfl | rfl | rfl | rfl | rfl | rfl
    · exact ⟨hX.cell 0 rfl, hX.cell 1 rfl⟩
    · exact ⟨hX.cell 2 rfl, hX.cell 3 rfl⟩
    · exact ⟨hX.cell 4 rfl, hX.cell 5 rfl⟩
    · exact ⟨hX.cell 6 rfl, hX.cell 7 rfl⟩
    · exact ⟨hX.cell 8 rfl, hX.cell 9 rfl⟩
    · exact ⟨hX.cell 10 rfl, hX.cell 11 rfl⟩⟩)
  have HB0 : Hid (Below w.heap.size w ((w.alloc (.cells #[.int .i64 22, .int .u64 5, .int .i64 28, .int .u64 2, .int .i64 29, .int .u64 3, .int .i64 30, .int .u64 4, .int .i64 31, .int .u64 5, .int .i64 32, .int .u64 6] 29)).alloc (.cells #[.int .i64 2, .int .i64 2, .int .i64 6, .slice (some ⟨w.heap.size, 0, none⟩) 6 6] 32))) := ((Below.refl _ _).alloc (Nat.le_refl _) _).alloc (by simp) _
  clear HL0 hX
  go_enter Try.func9, Try.ntmps9
  go_wp2_with fail
  generalize (w.alloc (.cells #[.int .i64 22, .int .u64 5, .int .i64 28, .int .u64 2, .int .i64 29, .int .u64 3, .int .i64 30, .int .u64 4, .int .i64 31, .int .u64 5, .int .i64 32, .int .u64 6] 29)).alloc (.cells #[.int .i64 2, .int .i64 2, .int .i64 6, .slice (some ⟨w.heap.size, 0, none⟩) 6 6] 32) = W at *
  go_at_call 4; refine hL.mono ?_; rintro e w1 ⟨cl, A, A', cap, cap', c, b, c', b', rfl, hLd⟩
  have hszW := HB0.out.size
  have HB1 : Hid (Below w.heap.size w w1) := HB0.out.trans (hLd.below.mono hszW)
  have HI1 : Hid (Is w1 81 A cap c b 566 saS0) := hLd.two.m
  have HY1 : Hid (Lay w1 cl 2 2 6) := hLd.lay
  have hne : Hid (cl ≠ c ∧ cl ≠ b) := lay_ne hLd.lay (by decide) hLd.two.m (by omega)
  have hup : Hid (w.heap.size ≤ c ∧ w.heap.size ≤ b) := ⟨by have := hLd.up.2.1; omega, by have := hLd.up.2.2.1; omega⟩
  have HRF : Hid (c ∉ ((Rd.lay cl 2 2 6)).B ∧ b ∉ ((Rd.lay cl 2 2 6)).B) := ⟨fun h => hne.out.1 (List.mem_singleton.1 h).symm, fun h => hne.out.2 (List.mem_singleton.1 h).symm⟩
  have HGM : Hid (((stFl 1 cl 1 0 false).I saM).Good saM ∧ Steps saM ((stFl 1 cl 1 0 false).I saM) (Rd.lay cl 2 2 6) 7 1) := ⟨Fl.good (st_laws (T := 2) (G := 6) (by omega)), Fl.steps (st_laws (by omega)) stepby_steal⟩
  have hN := st_new w1 cl 1 1 0 2 2 6 false HY1.out (by omega)
  clear hL hLd hne HB0 hszW
  go_wp2_with fail
  go_at_call 6; refine hN.mono ?_; rintro e w2 ⟨x, L0, rfl, ha1, ha2, ha3⟩
  have HS0 : Hid (Solo ((stFl 1 cl 1 0 false).I saM) (Rd.lay cl 2 2 6) w w2 A cap c b 566 (saM.steps 1 566 0 (.t0 stD0, saS0)).2 x (saM.steps 1 566 0 (.t0 stD0, saS0)).1 L0) := Solo.begin HI1.out ha2 HB1.out hup.out ha1 ha3 HY1.out (fun k hk => by obtain rfl : k = cl := List.mem_singleton.1 hk; exact HY1.out.lt) HRF.out
  have HLO : Hid (∀ q : Nat, q ≤ 12 → Low (saM.steps 1 566 q (.t0 stD0, saS0)).2 1000000) := fun q hq => (PM.steps_low saM 1 566 q (.t0 stD0, saS0) (low_fresh _)).more (by omega)
  clear hN ha1 ha2 ha3 HI1 HY1 HB1
  go_wp2_with fail
  go_loopw [7] (fun k wi => ∃ (q : Nat) (L : List Nat), q ≤ 12 ∧ k = .int .i64 q ∧ Hid (Solo ((stFl 1 cl 1 0 false).I saM) (Rd.lay cl 2 2 6) w wi A cap c b 566 (saM.steps 1 566 q (.t0 stD0, saS0)).2 x (saM.steps 1 566 q (.t0 stD0, saS0)).1 L)) (fun k _ => 12 - (intOf k).toNat)
  case atStart => exact ⟨0, _, by omega, rfl, HS0⟩
  case round =>
    clear HS0
    obtain ⟨q, L, hq, rfl, HS⟩ := hrel
    by_cases hq9 : q < 12
    · have hSt := HS.out.step HGM.out.1 HGM.out.2 (fun Y h => h) (fun k hk => hk) (by omega) (HLO.out q hq)
      rw [show saM.goS 1 566 (saM.steps 1 566 q (.t0 stD0, saS0)).1 (saM.steps 1 566 q (.t0 stD0, saS0)).2 = (saM.steps 1 566 (q + 1) (.t0 stD0, saS0)).2 by rw [PM.steps_succ], show saM.goT 566 (saM.steps 1 566 q (.t0 stD0, saS0)).1 (saM.steps 1 566 q (.t0 stD0, saS0)).2 = (saM.steps 1 566 (q + 1) (.t0 stD0, saS0)).1 by rw [PM.steps_succ]] at hSt
      have hq1 : (q : Int) < 12 := by omega
      have hq0 : (0 : Int) ≤ (q : Int) := by omega
      clear HS
      go_wp2_with fail
      go_at_call 7; refine hSt.mono ?_; rintro e w4 ⟨rfl, L', hS'⟩
      have HS' : Hid _ := hS'
      clear hSt hS'
      go_wp2_with fail
      go_roundw
      case rel => exact ⟨q + 1, L', by omega, by go_num, HS'⟩
      case measure => simp [intOf]; omega
    · obtain rfl : q = 12 := by omega
      clear HLO
      rw [show ((12 : Nat) : Int) = 12 from rfl]
      have HI6 : Hid (Is wr 81 A cap c b 566 saS1) := HS.out.mem
      have HY6 : Hid (Lay wr cl 2 2 6) := HS.out.rd
      have HMX : Hid (∀ Y, Below wr.heap.size wr Y → ((stFl 1 cl 1 0 false).I saM) Y x saT L) := fun Y hY => HGM.out.1.below HS.out.mach hY
      have HBF : Hid (Below w.heap.size w wr) := HS.out.below
      have hGs := rgs_any wr cl 2 2 6 0 A cap c b 566 saS1 HY6.out (by omega) (by omega) HI6.out (by omega)
      rw [sa_a] at hGs
      generalize (decide (rMany 2 0 566 saS1 ≤ 256) && (rgsL 2 6 0 566 saS1).all (gsOk 6)) = z1 at hGs
      clear HS
      go_wp2_with fail
      go_at_call 26; refine hGs.mono ?_; rintro e w5 ⟨va, rfl, hva, hb5⟩
      have HVA : Hid (RI.SeesL w5 va [4, 5]) := RI.IntsOn.sees hva
      have HB5 : Hid (Below wr.heap.size wr w5) := hb5
      have hGs2 := rgs_any w5 cl 2 2 6 1 A cap c b 566 saS1 (HY6.out.below hb5 HY6.out.lt) (by omega) (by omega) (HI6.out.below hb5) (by omega)
      rw [sa_b] at hGs2
      generalize (decide (rMany 2 1 566 saS1 ≤ 256) && (rgsL 2 6 1 566 saS1).all (gsOk 6)) = z2 at hGs2
      clear hGs hva hb5 HI6 HY6
      go_wp2_with fail
      go_at_call 26; refine hGs2.mono ?_; rintro e w6 ⟨vb, rfl, hvb, hb6⟩
      have HVB : Hid (RI.SeesL w6 vb [1, 2]) := RI.IntsOn.sees hvb
      have HVA6 : Hid (RI.SeesL w6 va [4, 5]) := HVA.out.below hb6
      have HB6 : Hid (Below wr.heap.size wr w6) := seq HB5.out hb6
      have hD : Calls Try.prog 8 #[.pointer (some ⟨x, 0, none⟩)] w6 fun e w' => e = .returned (.bool true) ∧ w6 = w' := by
        obtain ⟨nx, q1, q2⟩ := HGM.out.1.next (HMX.out w6 HB6.out)
        rw [sa_done] at q2
        rw [← q2]
        exact done_steal w6 x nx q1
      have hGv : Calls Try.prog 10 #[.pointer (some ⟨x, 0, none⟩)] w6 fun e w' => e = .returned (.int .i64 3) ∧ ∃ k, w' = w6.drewN k := by
        obtain ⟨nx, h1, -⟩ := Fl.blk (HMX.out w6 HB6.out)
        have h := st_g w6 x cl 1 1 0 false saT.d nx h1 sa_g.2.1 (fun _ => sa_g.2.2)
        rw [sa_g.1] at h
        exact h
      clear hGs2 hvb hb6 HVA
      go_wp2_with fail
      go_at_call 8; refine hD.mono ?_; rintro e w7 ⟨rfl, rfl⟩
      clear hD
      go_wp2_with fail
      go_at_call 10; refine hGv.mono ?_; rintro e w7 ⟨rfl, kk, hw7⟩
      have HB7 : Hid (Below w6.heap.size w6 w7) := by rw [hw7]; exact Below.drewN' (Below.refl _ _) kk
      clear hGv hw7
      have hS1 := RI.lsame_any (w7.alloc (.cells #[.int .i64 4, .int .i64 5] 3)) va _ [4, 5] (by decide) (HVA6.out.below (seq HB7.out ((Below.refl _ _).alloc (Nat.le_refl _) _))) (lit2_sees w7 4 5)
      have HA7 : Hid (Below w7.heap.size w7 (w7.alloc (.cells #[.int .i64 4, .int .i64 5] 3))) := (Below.refl _ _).alloc (Nat.le_refl _) _
      go_wp2_with fail
      go_at_call 27; refine hS1.mono ?_; rintro e w8 ⟨rfl, hb8⟩
      have HB8 : Hid (Below w6.heap.size w6 w8) := seq (seq HB7.out HA7.out) hb8
      have hS2 := RI.lsame_any (w8.alloc (.cells #[.int .i64 1, .int .i64 2] 3)) vb _ [1, 2] (by decide) (HVB.out.below (seq HB8.out ((Below.refl _ _).alloc (Nat.le_refl _) _))) (lit2_sees w8 1 2)
      have HA8 : Hid (Below w8.heap.size w8 (w8.alloc (.cells #[.int .i64 1, .int .i64 2] 3))) := (Below.refl _ _).alloc (Nat.le_refl _) _
      clear hS1 hb8 HA7
      go_wp2_with fail
      go_at_call 27; refine hS2.mono ?_; rintro e w9 ⟨rfl, hb9⟩
      have HFF : Hid (Below w.heap.size w w9) := seq (seq (seq (seq HBF.out HB6.out) HB8.out) HA8.out) hb9
      clear hS2 hb9 HA8
      go_wp2_with fail
      go_ret
      exact ⟨rfl, HFF.out⟩
end Go.Proofs.Ytcjidigpdecdlaa
