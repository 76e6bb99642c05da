/- The reference's routine that puts a thread on the list. -/
import Derived.Test.YtggbohakpkplkaaRefIb
import Derived.Test.YtggbohakpkplkaaIm1
namespace Go.Proofs.Ytggbohakpkplkaa
open Go Go.RowKit
set_option linter.unusedVariables false
set_option maxRecDepth 100000
set_option linter.unusedSimpArgs false

set_option maxHeartbeats 4000000 in
theorem rgmput_on (w : World) (x : Nat) (A : Option Addr) (cap m : Nat) (g : Nat → Int) (P T G t : Int) (u : ImT) (hR : RunOn w x A cap m g rn0) (hh : Hist (imPM P T t) .h0 g m u) (hp : 0 ≤ P ∧ P ≤ 64) (hT : 0 ≤ T ∧ T ≤ 65536) :
    Calls Try.prog 38 #[.pointer (some ⟨x, 0, none⟩), .agg #[.int .i64 P, .int .i64 T, .int .i64 G], .int .i64 t] w fun e w' => (∃ v, e = .returned v) ∧ RunOn w' x A cap m g ((imPM P T t).rn u m) ∧ But [x] w w' := by
  obtain ⟨M, hM⟩ : ∃ M, M = imPM P T t := ⟨_, rfl⟩
  obtain ⟨s0, hs0⟩ : ∃ s0, s0 = ImT.h0 := ⟨_, rfl⟩
  rw [← rj_start (M := imPM P T t) (s0 := ImT.h0) (g := g) (m := m)] at hR
  have HH : Hid (Hist (imPM P T t) .h0 g m u) := hh
  have hS : Syn (imPM P T t) .h0 g m 0 .h0 (fun _ => False) := Syn.start _ _ _ _
  have hb := hh.bd
  have hb0 : Below w.heap.size w (w.alloc (.cells #[.int .i64 P, .int .i64 T, .int .i64 G] 23)) := (Below.refl _ _).alloc (Nat.le_refl _) _
  have HX : Hid (Blk (w.alloc (.cells #[.int .i64 P, .int .i64 T, .int .i64 G] 23)) w.heap.size #[.int .i64 P, .int .i64 T, .int .i64 G] 23) := Blk.new _ _ _
  have hxw := hR.blk.lt
  have HB0 : Hid (But [x] w (w.alloc (.cells #[.int .i64 P, .int .i64 T, .int .i64 G] 23))) := But.of_below hb0
  have HBD : Hid (∀ j, j < m → 0 ≤ g j ∧ g j ≤ 18446744073709551615) := hb
  have hPA := fun W => rthrAt_all P T G t 2 W hp hT.2 (by omega)
  have hL := syn_load (hR.below hb0) hS hb 11 (fun _ => rfl)
  clear hR hS hb hb0 hp hT hh hM hs0 M s0
  go_enter Try.func38, Try.ntmps38
  go_wp2_with fail
  generalize w.alloc (.cells #[.int .i64 P, .int .i64 T, .int .i64 G] 23) = W at *
  go_at_call 63; refine hL.mono ?_; rintro e y2 ⟨v, rfl, hK⟩
  have HR2 : Hid (RunOn y2 x A cap m g ((imPM P T t).rj .h0 g m 1)) := hK.run
  have HS2 : Hid (Syn (imPM P T t) .h0 g m 1 (.ln v) (fun _ => True)) := hK.syn.weak (fun _ _ => trivial)
  have HX2 : Hid (Blk y2 w.heap.size #[.int .i64 P, .int .i64 T, .int .i64 G] 23) := HX.out.but hK.but (by simp; omega)
  have HB2 : Hid (But [x] w y2) := HB0.out.trans hK.but
  have k0 := HX2.out.cell 0 (v := .int .i64 P) rfl
  have k1 := HX2.out.cell 1 (v := .int .i64 T) rfl
  have k2 := HX2.out.cell 2 (v := .int .i64 G) rfl
  have hPl := hPA y2
  clear hL hK HX HB0 hPA
  go_wp2_with fail
  go_at_call 82; refine hPl.mono ?_; rintro e y3 ⟨rfl, h5⟩
  have hA := syn_store (HR2.out.below h5) HS2.out HBD.out (wd (20 + P * 264) T 3 t 2) v (fun _ => rfl)
  have HB3 : Hid (But [x] w y3) := HB2.out.trans (But.of_below h5)
  clear hPl h5 k0 k1 k2 HX2 HB2 HR2 HS2
  go_wp2_with fail
  go_at_call 64; refine hA.mono ?_; rintro e y4 ⟨⟨u4, rfl⟩, v4, hK⟩
  have hlw : IntKind.u64.wrap (IntKind.u64.wrap t + 1) = ilw t := rfl
  have hA4 := syn_store hK.run (hK.syn.weak (Q' := fun _ => True) (fun _ _ => trivial)) HBD.out 11 (ilw t) (fun _ => rfl)
  have HB4 : Hid (But [x] w y4) := HB3.out.trans hK.but
  have HLW : Hid (ilw t = ilw t) := rfl
  generalize hlt : ilw t = lp at hlw hA4
  clear hA hK HB3
  go_wp2_with fail
  go_at_call 64; refine hA4.mono ?_; rintro e y5 ⟨⟨u5, rfl⟩, v5, hK⟩
  have hA5 := syn_add hK.run (hK.syn.weak (Q' := fun _ => True) (fun _ _ => trivial)) HBD.out 12 1 (fun _ => rfl)
  have HB5 : Hid (But [x] w y5) := HB4.out.trans hK.but
  clear hA4 hK HB4 hlw
  go_wp2_with fail
  go_at_call 66; refine hA5.mono ?_; rintro e y6 ⟨v6, rfl, hK⟩
  have HF : Hid (RunOn y6 x A cap m g ((imPM P T t).rn u m) ∧ But [x] w y6) := by
    refine ⟨?_, HB5.out.trans hK.but⟩
    rw [← rj_end hK.syn HH.out (fun _ => rfl)]
    exact hK.run
  clear hA5 hK HB5
  go_wp2_with fail
  go_end0
  exact ⟨⟨_, rfl⟩, HF.out⟩
end Go.Proofs.Ytggbohakpkplkaa
