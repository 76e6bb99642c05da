/- The monitor: the page's example. -/
import Derived.Test.YthjfbknmdligeaaGreatMoP
import Derived.Test.YthjfbknmdligeaaGreatLaw
namespace Go.Proofs.YthjfbknmdligeaaGreat
open Go Go.RowKit
set_option linter.unusedVariables false
set_option maxRecDepth 100000
set_option linter.unusedSimpArgs false

set_option maxHeartbeats 8000000 in
theorem mon_awake (w : World) : Calls Tryz.prog 8 #[] w fun e w' => e = .returned (.bool true) ∧ Below w.heap.size w w' := by
  have hL := lay_some 1 1 1 none 0 0 289 (fun _ => 0) (fun _ => 0) w (by omega) ⟨⟨by omega⟩, by omega, by omega, by omega⟩ (by omega) (fun h => absurd h (by omega)) (fun i h => absurd h (by omega))
  go_enter Tryz.func8, Tryz.ntmps8
  go_wp2_with fail
  go_at_call 7; refine hL.mono ?_; rintro e w1 ⟨cl, A, A', cap, cap', c, b, c', b', rfl, hLd⟩
  have HB1 : Hid (Below w.heap.size w w1) := hLd.below
  have HI1 : Hid (Is w1 114 A cap c b 289 (fresh (fun _ => 0))) := hLd.two.m
  have HY1 : Hid (Lay w1 cl 1 1 1) := hLd.lay
  have hne : Hid (cl ≠ c ∧ cl ≠ b) := lay_ne hLd.lay (by decide) hLd.two.m (by omega)
  have hup : Hid (w.heap.size ≤ c ∧ w.heap.size ≤ b) := ⟨hLd.up.2.1, hLd.up.2.2.1⟩
  have HRF : Hid (c ∉ (Rd.lay cl 1 1 1).B ∧ b ∉ (Rd.lay cl 1 1 1).B) := ⟨fun h => hne.out.1 (List.mem_singleton.1 h).symm, fun h => hne.out.2 (List.mem_singleton.1 h).symm⟩
  have hN := mo_new w1 cl 1 1 1 hLd.lay (by omega)
  clear hL hLd hne
  go_wp2_with fail
  go_at_call 9; refine hN.mono ?_; rintro e w2 ⟨x, r, L, rfl, ha1, ha2, ha3, -⟩
  have HS0 : Hid (Solo (moI 1 cl r 1) (Rd.lay cl 1 1 1) w w2 A cap c b 289 (fresh (fun _ => 0)) x (.nw, moD0) L) := Solo.begin HI1.out ha2 HB1.out hup.out ha1 ha3 HY1.out (fun k hk => by obtain rfl : k = cl := List.mem_singleton.1 hk; exact HY1.out.lt) HRF.out
  clear hN ha1 ha2 ha3 HI1 HY1 HB1 HRF hup
  have hb := mo_between w2 x cl r 1 1 _ L HS0.out.mach
  rw [(id_start 1).un, show decide (((0 : Nat) : Int) = 0) = true from rfl] at hb
  have hs := id_solo (G := 1) (T := 1) (i := 0) (k := 0) (m := 0) HS0.out (fun _ h => h) (List.mem_singleton.2 rfl) (id_start 1) (by omega) (by omega) (by omega) (by omega) (fun _ _ => rfl) (low_fresh _) (by omega)
  rw [if_neg (by decide), if_neg (by decide)] at hs
  clear HS0
  go_wp2_with fail
  go_at_call 13; refine hb.mono ?_; rintro e w3 ⟨rfl, rfl⟩
  clear hb
  go_wp2_with fail
  go_at_call 20; refine hs.mono ?_; rintro e w3 ⟨rfl, L1, t1, s1, k1, k2, k3, k4, k5⟩
  have HS1 : Hid (Solo (moI 1 cl r 1) (Rd.lay cl 1 1 1) w w3 A cap c b 289 s1 x t1 L1 ∧ s1.clock = 1) := ⟨k1, k4⟩
  have hb := mo_between w3 x cl r 1 1 _ L1 k1.mach
  rw [k2.un, show decide (((0 + 1 : Nat) : Int) = 0) = false from rfl] at hb
  have hs2 := id_solo (G := 1) (T := 1) (i := 0) (k := 1) (m := 1) k1 (fun _ h => h) (List.mem_singleton.2 rfl) k2 (by omega) (by omega) (by omega) (by omega) (fun _ _ => by rw [k3]; rfl) k5 (by omega)
  rw [if_pos rfl, if_pos rfl] at hs2
  clear hs k1 k2 k3 k4 k5
  go_wp2_with fail
  go_at_call 13; refine hb.mono ?_; rintro e w4 ⟨rfl, rfl⟩
  clear hb
  go_wp2_with fail
  go_at_call 20; refine hs2.mono ?_; rintro e w4 ⟨rfl, L2, t2, s2, k1, k2, k3, k4, k5⟩
  have hb := mo_between w4 x cl r 1 1 _ L2 k1.mach
  rw [k2.un, show decide (((0 : Nat) : Int) = 0) = true from rfl] at hb
  have hps := mo_passes w4 x cl r 1 1 _ L2 k1.mach
  rw [k2.ps, show (((0 + 1 : Nat)) : Int) = 1 from rfl] at hps
  have hck := clock_any _ _ _ _ _ _ _ k1.mem
  rw [k4, HS1.out.2, show (1 : Int) + 1 = 2 from rfl] at hck
  have HF : Hid (Below w.heap.size w w4) := k1.below
  clear hs2 HS1 k1 k2 k3 k4 k5
  go_wp2_with fail
  go_at_call 13; refine hb.mono ?_; rintro e w5 ⟨rfl, rfl⟩
  clear hb
  go_wp2_with fail
  go_at_call 14; refine hps.mono ?_; rintro e w5 ⟨rfl, rfl⟩
  clear hps
  go_wp2_with fail
  go_at_call 31; refine hck.mono ?_; rintro e w5 ⟨rfl, rfl⟩
  clear hck
  go_wp2_with fail
  go_ret
  exact ⟨rfl, HF.out⟩
end Go.Proofs.YthjfbknmdligeaaGreat
