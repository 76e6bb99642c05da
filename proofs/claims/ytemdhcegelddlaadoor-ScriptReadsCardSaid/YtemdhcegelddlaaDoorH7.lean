/- The law ScriptReads. -/
import Derived.Test.YtemdhcegelddlaaDoorE4
import Derived.Test.YtemdhcegelddlaaDoorE5
namespace Go.Proofs.YtemdhcegelddlaaDoor
open Go Go.RowKit
set_option linter.unusedVariables false
set_option linter.unusedSimpArgs false

theorem own_cap {x : World} {B T sz n cp : Nat} {A : Option Addr} {xs : List Value} (h : x.ownsRow B T sz (.slice A n cp) n xs) : n ≤ cp := by
  rcases h.2 with ⟨e, h0⟩ | ⟨g, cap, cur, e, _, _, h1, _⟩
  · omega
  · cases e; exact h1

set_option maxRecDepth 100000 in
theorem lawReads_big (w : World) (hT : Tab w) (s : List UInt8) (h1 : 400 < s.length) : Calls Tryd.prog 6 #[.string (bA s)] w fun e w' => e = .returned (.bool true) ∧ Below w.heap.size w w' := by
  have HA := Lib.hid (awake_any w hT)
  have hz := bA_size s
  clear hT
  have h1i : (400 : Int) < ((bA s).size : Int) := by rw [hz]; omega
  clear hz
  generalize bA s = S at *
  go_enter Tryd.func6, Tryd.ntmps6
  go_wp2_with fail
  go_at_call 11
  refine HA.out.mono ?_
  rintro e w1 ⟨rfl, hb⟩
  go_wp2
  go_ret
  exact ⟨rfl, hb⟩

set_option maxRecDepth 100000 in
set_option maxHeartbeats 8000000 in
theorem lawReads_any (w : World) (hT : Tab w) (s : List UInt8) (hsl : s.length ≤ 400) : Calls Tryd.prog 6 #[.string (bA s)] w fun e w' => e = .returned (.bool true) ∧ Below w.heap.size w w' := by
  have HTT := Lib.hid (fun (X : World) (hb : Below w.heap.size w X) => hT.below hb hT.size)
  have hz := bA_size s
  have h1i : ¬ (400 : Int) < ((bA s).size : Int) := by rw [hz]; omega
  have HRD := Lib.hid (read_any s (by omega) w hT)
  have HA := Lib.hid (fun (x : World) (hx : Below w.heap.size w x) => awake_any x (HTT.out x hx))
  clear hT hz hsl
  obtain ⟨S, hS⟩ : ∃ X, bA s = X := ⟨_, rfl⟩
  rw [hS] at h1i HRD
  rw [hS]
  have HSS := Lib.hid hS
  clear hS
  go_enter Tryd.func6, Tryd.ntmps6
  go_wp2_with fail
  go_at_call 15
  refine HRD.out.mono ?_
  rintro e w2 ⟨hb, (⟨m, A2, c2, hm, rfl, how⟩ | ⟨hm, rfl⟩)⟩
  · obtain ⟨hok, hwr, hml⟩ := rdS_some hm
    have hcp := own_cap how
    obtain ⟨gg, -, hsm⟩ := row_sees how
    have HW := Lib.hid (write_en w2 (HTT.out _ hb) gg A2 c2 m m.length rfl hml hcp hsm)
    rw [hwr, HSS.out] at HW
    have HB2 := Lib.hid hb
    have HOK := Lib.hid hok
    clear hb how hsm HRD hm hok hwr hml hcp
    go_wp2_with fail
    go_at_call 14
    refine HW.out.mono ?_
    rintro e w3 ⟨(⟨-, rfl⟩ | ⟨hn, -⟩), hb⟩
    · have HB3 := Lib.hid (HB2.out.trans (hb.mono HB2.out.size))
      clear hb HW
      go_wp2_with fail
      go_at_call 11
      refine (HA.out _ HB3.out).mono ?_
      rintro e w4 ⟨rfl, hb⟩
      have HB4 := Lib.hid (HB3.out.trans (hb.mono HB3.out.size))
      go_wp2_with fail
      go_ret
      exact ⟨rfl, HB4.out⟩
    · exact absurd HOK.out hn
  · have HB2 := Lib.hid hb
    clear hb HRD hm
    go_wp2_with fail
    go_at_call 11
    refine (HA.out _ HB2.out).mono ?_
    rintro e w3 ⟨rfl, hb⟩
    have HB3 := Lib.hid (HB2.out.trans (hb.mono HB2.out.size))
    go_wp2_with fail
    go_ret
    exact ⟨rfl, HB3.out⟩
end Go.Proofs.YtemdhcegelddlaaDoor
