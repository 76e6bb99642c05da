/- IdlemGets: each step of getting a thread, over any memory, whatever others do between: its access, which one it is; the list, and how many there are to be had; for every ground, every thread, and all pokes; no condition. -/
import Derived.Test.YtggbohakpkplkaaLaw
import Derived.Test.YtggbohakpkplkaaIl0
import Derived.Test.YtggbohakpkplkaaIntsR
import Derived.Test.YtggbohakpkplkaaRefJg
import Derived.Test.YtggbohakpkplkaaImL
import Derived.Test.YtggbohakpkplkaaRefL18
import Derived.Test.YtggbohakpkplkaaOpenI
import Derived.Test.YtggbohakpkplkaaInts
import Derived.Test.YtggbohakpkplkaaAwK
import Derived.Test.YtggbohakpkplkaaIm2
import Derived.Test.YtggbohakpkplkaaOpen
import Derived.Test.YtggbohakpkplkaaFrame
import Derived.ProofKit
import Derived.OpenShut
import Derived.Lib.SmallJoins
namespace Go.Proofs.Ytggbohakpkplkaa
open Go Go.RowKit
set_option linter.unusedVariables false
set_option maxRecDepth 100000
set_option linter.unusedSimpArgs false

def spv (T a b : Int) : Int := if a < 2147483648 ∧ b < 2147483648 then T + a - b else 0
theorem spare_any (w : World) (A : Option Addr) (cap c b n cl : Nat) (s : St) (P T G : Int) (hI : Is w 111 A cap c b n s) (hn : n ≤ 1000000) (hl : Lay w cl P T G) (hT : 0 ≤ T ∧ T ≤ 65536) :
    Calls Try.prog 49 #[.pointer (some ⟨cl, 0, none⟩), .pointer (some ⟨c, 0, none⟩)] w fun e w' => e = .returned (.int .i64 (spv T (peekT n s 12) (peekT n s 15))) ∧ Below w.heap.size w w' := by
  have hfc := field_c1
  have hW1 := il_word w cl 12 (by omega)
  have hW2 := il_word w cl 15 (by omega)
  have hP1 := peek_any w A cap c b n s 12 hI hn
  have hP2 := peek_any w A cap c b n s 15 hI hn
  have hC := config_any _ P T G w (.some cl hl)
  have hpb : ∀ i, 0 ≤ peekT n s i ∧ peekT n s i ≤ 18446744073709551615 := fun i => by
    unfold peekT
    split
    · exact hI.bd _ (by omega)
    · omega
  have hb1 := hpb 12
  have hb2 := hpb 15
  generalize peekT n s 12 = a1 at *
  generalize peekT n s 15 = a2 at *
  clear hI hl hpb
  unfold spv
  by_cases h1 : a1 < 2147483648
  · have d1 : decide (2147483648 ≤ a1) = false := decide_eq_false (by omega)
    by_cases h2 : a2 < 2147483648
    · rw [if_pos ⟨h1, h2⟩]
      have d2 : decide (2147483648 ≤ a2) = false := decide_eq_false (by omega)
      have e1 : IntKind.i64.wrap a1 = a1 := by simp [IntKind.wrap, IntKind.bits, IntKind.signed]; omega
      have e2 : IntKind.i64.wrap a2 = a2 := by simp [IntKind.wrap, IntKind.bits, IntKind.signed]; omega
      have e3 : wrap64 (T + a1) = T + a1 := by unfold wrap64; omega
      have e4 : wrap64 (T + a1 - a2) = T + a1 - a2 := by unfold wrap64; omega
      clear h1 h2 hb1 hb2 hT
      go_enter Try.func49, Try.ntmps49
      go_wp2_with fail
      go_at_call 74; refine hW1.mono ?_; rintro e w1 ⟨rfl, rfl⟩
      go_wp2_with fail
      go_at_call 34; refine hP1.mono ?_; rintro e w1 ⟨rfl, rfl⟩
      go_wp2_with fail
      go_at_call 74; refine hW2.mono ?_; rintro e w1 ⟨rfl, rfl⟩
      go_wp2_with fail
      go_at_call 34; refine hP2.mono ?_; rintro e w1 ⟨rfl, rfl⟩
      go_wp2_with fail
      go_at_call 75; refine hC.mono ?_; rintro e w1 ⟨rfl, hb⟩
      clear hW1 hW2 hP1 hP2 hC
      go_wp2_with fail
      go_ret
      exact ⟨ret_int (by first | exact e4 | (rw [e3]; exact e4)), hb⟩
    · rw [if_neg (fun h => h2 h.2)]
      have d2 : decide (2147483648 ≤ a2) = true := decide_eq_true (by omega)
      clear h1 h2 hb1 hb2 hT hC
      go_enter Try.func49, Try.ntmps49
      go_wp2_with fail
      go_at_call 74; refine hW1.mono ?_; rintro e w1 ⟨rfl, rfl⟩
      go_wp2_with fail
      go_at_call 34; refine hP1.mono ?_; rintro e w1 ⟨rfl, rfl⟩
      go_wp2_with fail
      go_at_call 74; refine hW2.mono ?_; rintro e w1 ⟨rfl, rfl⟩
      go_wp2_with fail
      go_at_call 34; refine hP2.mono ?_; rintro e w1 ⟨rfl, rfl⟩
      clear hW1 hW2 hP1 hP2
      go_wp2_with fail
      go_ret
      exact ⟨rfl, Below.refl _ _⟩
  · rw [if_neg (fun h => h1 h.1)]
    have d1 : decide (2147483648 ≤ a1) = true := decide_eq_true (by omega)
    clear h1 hb1 hb2 hT hC
    go_enter Try.func49, Try.ntmps49
    go_wp2_with fail
    go_at_call 74; refine hW1.mono ?_; rintro e w1 ⟨rfl, rfl⟩
    go_wp2_with fail
    go_at_call 34; refine hP1.mono ?_; rintro e w1 ⟨rfl, rfl⟩
    go_wp2_with fail
    go_at_call 74; refine hW2.mono ?_; rintro e w1 ⟨rfl, rfl⟩
    go_wp2_with fail
    go_at_call 34; refine hP2.mono ?_; rintro e w1 ⟨rfl, rfl⟩
    clear hW1 hW2 hP1 hP2
    go_wp2_with fail
    go_ret
    exact ⟨rfl, Below.refl _ _⟩
end Go.Proofs.Ytggbohakpkplkaa

namespace Go.Proofs.Ytggbohakpkplkaa
open Go Go.RowKit
set_option linter.unusedVariables false
set_option maxRecDepth 100000
set_option linter.unusedSimpArgs false

theorem idlemGets_bad (P T G who : Int) (E F : Option Addr) (m cp mp cq : Nat) (a v : Nat → Int) (w : World) (hAw : ∀ w, Calls Try.prog 36 #[] w fun e w' => e = .returned (.bool true) ∧ Below w.heap.size w w') (hm : m ≤ 9223372036854775807) (hmp : mp ≤ 9223372036854775807) (hs : SeesP w w.heap.size E m a v) (hv : ∀ i, i < m → 0 ≤ v i ∧ v i ≤ 18446744073709551615) (h : (¬ FewC P T G ∨ 400 < m) ∨ 100 < mp) :
    Calls Try.prog 8 #[.agg #[.int .i64 P, .int .i64 T, .int .i64 G, .slice E m cp], .int .i64 who, .slice F mp cq] w fun e w' => e = .returned (.bool true) ∧ Below w.heap.size w w' := by
  have hsz : (w.alloc (.cells #[.int .i64 P, .int .i64 T, .int .i64 G, .slice E m cp] 26)).heap.size = w.heap.size + 1 := by simp
  have HB : Hid (Below w.heap.size w (w.alloc (.cells #[.int .i64 P, .int .i64 T, .int .i64 G, .slice E m cp] 26))) := (Below.refl _ _).alloc (Nat.le_refl _) _
  have hX0 : Hid (Blk (w.alloc (.cells #[.int .i64 P, .int .i64 T, .int .i64 G, .slice E m cp] 26)) w.heap.size #[.int .i64 P, .int .i64 T, .int .i64 G, .slice E m cp] 26) := (Blk.new w #[.int .i64 P, .int .i64 T, .int .i64 G, .slice E m cp] 26)
  have HAW : Hid (∀ w, Calls Try.prog 36 #[] w fun e w' => e = .returned (.bool true) ∧ Below w.heap.size w w') := hAw
  clear hAw
  by_cases hf : ¬ FewC P T G ∨ 400 < m
  · have hL := lay_none P T G E m cp (w.alloc (.cells #[.int .i64 P, .int .i64 T, .int .i64 G, .slice E m cp] 26)) hm hf
    clear h hf hs hv
    go_enter Try.func8, Try.ntmps8
    go_wp2_with fail
    generalize (w.alloc (.cells #[.int .i64 P, .int .i64 T, .int .i64 G, .slice E m cp] 26)) = W at *
    go_at_call 10; refine hL.mono ?_; rintro e w1 ⟨rfl, hLd⟩
    have hbl : Below W.heap.size W w1 := hLd
    have HB1 : Hid (Below w.heap.size w w1) := HB.out.trans (hbl.mono (by omega))
    have hY0 := hX0.out.but (But.of_below (l := []) hbl) (by simp)
    clear hL hbl hLd hY0
    go_wp2_with fail
    go_at_call 36; refine (HAW.out _).mono ?_; rintro e w2 ⟨rfl, h2⟩
    have h3 := seq HB1.out h2
    go_wp2_with fail
    go_ret
    exact ⟨rfl, h3⟩
  · have hF : FewC P T G := Decidable.byContradiction fun h => hf (.inl h)
    have hm4 : m ≤ 400 := by omega
    have hM := hF.h.1.h
    obtain ⟨n, hn⟩ : ∃ n : Nat, (n : Int) = 20 + 264 * P + 3 * T + 2 * G := ⟨(20 + 264 * P + 3 * T + 2 * G).toNat, by omega⟩
    have hL := lay_some P T G E m cp n a v _ hm4 hF hn (hs.up (.cells #[.int .i64 P, .int .i64 T, .int .i64 G, .slice E m cp] 26)) hv
    have htt : 100 < mp := by rcases h with h | h; exact absurd h hf; exact h
    clear h hf hs hv hn hF hM
    have q1 : 100 < mp := by omega
    clear htt
    go_enter Try.func8, Try.ntmps8
    go_wp2_with fail
    generalize (w.alloc (.cells #[.int .i64 P, .int .i64 T, .int .i64 G, .slice E m cp] 26)) = W at *
    go_at_call 10; refine hL.mono ?_; rintro e w1 ⟨cl, A, A', cap, cap', c, b, c', b', rfl, hLd⟩
    have hbl : Below W.heap.size W w1 := hLd.below
    have HB1 : Hid (Below w.heap.size w w1) := HB.out.trans (hbl.mono (by omega))
    have hY0 := hX0.out.but (But.of_below (l := []) hbl) (by simp)
    clear hL hbl hLd hY0
    go_wp2_with fail
    go_at_call 36; refine (HAW.out _).mono ?_; rintro e w2 ⟨rfl, h2⟩
    have h3 := seq HB1.out h2
    go_wp2_with fail
    go_ret
    exact ⟨rfl, h3⟩

set_option maxHeartbeats 4000000 in
theorem idlemGets_ok (P T G who : Int) (E F : Option Addr) (m cp mp cq : Nat) (a v : Nat → Int) (Pks : Nat → Pk) (w : World) (hAw : ∀ w, Calls Try.prog 36 #[] w fun e w' => e = .returned (.bool true) ∧ Below w.heap.size w w') (hm : m ≤ 400) (hF : FewC P T G) (hmp : mp ≤ 100) (hs : SeesP w w.heap.size E m a v) (hv : ∀ i, i < m → 0 ≤ v i ∧ v i ≤ 18446744073709551615) (hP : SeesC w w.heap.size F mp 6 (pkC Pks)) (hpv : ∀ j, j < mp → 0 ≤ (Pks j).v ∧ (Pks j).v ≤ 18446744073709551615)  :
    Calls Try.prog 8 #[.agg #[.int .i64 P, .int .i64 T, .int .i64 G, .slice E m cp], .int .i64 who, .slice F mp cq] w fun e w' => e = .returned (.bool true) ∧ Below w.heap.size w w' := by
  have hsz : (w.alloc (.cells #[.int .i64 P, .int .i64 T, .int .i64 G, .slice E m cp] 26)).heap.size = w.heap.size + 1 := by simp
  have HB : Hid (Below w.heap.size w (w.alloc (.cells #[.int .i64 P, .int .i64 T, .int .i64 G, .slice E m cp] 26))) := (Below.refl _ _).alloc (Nat.le_refl _) _
  have hX0 : Hid (Blk (w.alloc (.cells #[.int .i64 P, .int .i64 T, .int .i64 G, .slice E m cp] 26)) w.heap.size #[.int .i64 P, .int .i64 T, .int .i64 G, .slice E m cp] 26) := (Blk.new w #[.int .i64 P, .int .i64 T, .int .i64 G, .slice E m cp] 26)
  have HAW : Hid (∀ w, Calls Try.prog 36 #[] w fun e w' => e = .returned (.bool true) ∧ Below w.heap.size w w') := hAw
  have hM := hF.h.1.h
  have hFF := hF.h
  have hP64 : 0 ≤ P ∧ P ≤ 64 := by omega
  obtain ⟨n, hn⟩ : ∃ n : Nat, (n : Int) = 20 + 264 * P + 3 * T + 2 * G := ⟨(20 + 264 * P + 3 * T + 2 * G).toNat, by omega⟩
  have hn0 : 0 < n := by omega
  have hn6 : n ≤ 1000000 := by omega
  have hL := lay_some P T G E m cp n a v _ hm hF hn (hs.up (.cells #[.int .i64 P, .int .i64 T, .int .i64 G, .slice E m cp] 26)) hv
  have d1 : decide ((100 : Int) < (mp : Int)) = false := decide_eq_false (by omega)
  have HP : Hid (SeesC w w.heap.size F mp 6 (pkC Pks)) := hP
  have HPV : Hid (∀ j, j < mp → 0 ≤ (Pks j).v ∧ (Pks j).v ≤ 18446744073709551615) := hpv
  have HTG : Hid ((0 ≤ T ∧ T ≤ 65536) ∧ (0 ≤ G ∧ G ≤ 65536)) := ⟨by omega, by omega⟩
  have HNN : Hid ((n : Int) = 20 + 264 * P + 3 * T + 2 * G) := hn
  have HLSN : Hid (∀ (pl : Int → Int) (f : Int), (lsOf pl T f).1.length ≤ 1000000) := fun pl f => lsOf_len pl T f (by omega)
  have HLAW : Hid (∀ cl, (jgFl who T cl).Laws (jgPM P T) (Rd.lay cl P T G) who) := fun cl => jg_laws who P T G cl hP64 (by omega)
  have HREF : Hid (∀ (w : World) (x : Nat) (A : Option Addr) (cap m : Nat) (gf : Nat → Int) (t : JgT), RunOn w x A cap m gf rn0 → Hist (jgPM P T) .ld gf m t → Calls Try.prog 45 #[.pointer (some ⟨x, 0, none⟩), .agg #[.int .i64 P, .int .i64 T, .int .i64 G]] w fun e w' => e = .returned (.int .i64 t.obs) ∧ RunOn w' x A cap m gf ((jgPM P T).rn t m) ∧ But [x] w w') := fun w x A cap m gf t h hh => rgjget_on w x A cap m gf P T G t h hh hP64 (by omega)
  have HNEW : Hid (∀ cl (w : World), Calls Try.prog 44 #[.pointer (some ⟨cl, 0, none⟩), .int .i64 who] w fun e w' => ∃ x L, e = .returned (.pointer (some ⟨x, 0, none⟩)) ∧ (jgFl who T cl).I (jgPM P T) w' x .ld L ∧ Below w.heap.size w w' ∧ (∀ k ∈ L, w.heap.size ≤ k)) := fun cl w => (jg_new w cl who P T).mono fun e w' ⟨x, L, h1, h2, h3, h4, _⟩ => ⟨x, L, h1, h2, h3, h4⟩
  clear hAw hs hv hn hF hM hFF hP hpv
  go_enter Try.func8, Try.ntmps8
  go_wp2_with fail
  generalize (w.alloc (.cells #[.int .i64 P, .int .i64 T, .int .i64 G, .slice E m cp] 26)) = W at *
  go_at_call 10; refine hL.mono ?_; rintro e w1 ⟨cl, A, A', cap, cap', c, b, c', b', rfl, hLd⟩
  have HL : Hid (Laid W w1 P T G n (putF a v n m) cl A A' cap cap' c b c' b') := hLd
  have hbl := hLd.below
  have HB1 : Hid (Below w.heap.size w w1) := HB.out.trans (hbl.mono (by omega))
  have hY0 := hX0.out.but (But.of_below (l := []) hbl) (by simp)
  have HXb : Hid (∀ k, Blk (w1.drewN k) w.heap.size #[.int .i64 P, .int .i64 T, .int .i64 G, .slice E m cp] 26) := fun k => hY0.drewN k
  have HXw : Hid (Blk w1 w.heap.size #[.int .i64 P, .int .i64 T, .int .i64 G, .slice E m cp] 26) := hY0
  clear hL hLd hbl hY0
  go_wp2_with fail
  have hT1 : Hid (Two w1 A A' cap cap' c b c' b' n (fresh (putF a v n m))) := HL.out.two
  have HB2 : Hid (Below w.heap.size w w1) := HB1.out
  have HLy2 : Hid (Lay w1 cl P T G) := HL.out.lay
  have HX2 : Hid (Blk w1 w.heap.size #[.int .i64 P, .int .i64 T, .int .i64 G, .slice E m cp] 26) := HXw.out
  obtain ⟨u1, u2, u3, u4, u5⟩ := HL.out.up
  have hup : Hid (w.heap.size ≤ c ∧ w.heap.size ≤ b ∧ w.heap.size ≤ c' ∧ w.heap.size ≤ b') := ⟨by omega, by omega, by omega, by omega⟩
  have hbx : Hid (w.heap.size ≠ c ∧ w.heap.size ≠ b ∧ w.heap.size ≠ c' ∧ w.heap.size ≠ b' ∧ w.heap.size ≠ cl) := ⟨by omega, by omega, by omega, by omega, by omega⟩
  have hclup : Hid (w.heap.size ≤ cl) := (by omega : w.heap.size ≤ cl)
  generalize hw2 : w1 = w2 at *
  have z0 := HX2.out.cell 0 (v := .int .i64 P) rfl
  have z1 := HX2.out.cell 1 (v := .int .i64 T) rfl
  have z2 := HX2.out.cell 2 (v := .int .i64 G) rfl
  clear HL HB1 HXb HXw u1 u2 u3 u4 u5 hw2 hX0 HB hsz 
  have hne : Hid (cl ≠ c ∧ cl ≠ b) := lay_ne HLy2.out (by decide) hT1.out.m hn0
  have hne2 : Hid (cl ≠ c' ∧ cl ≠ b') := lay_ne HLy2.out (by decide) hT1.out.r hn0
  have HLW : Hid (((jgFl who T cl).I (jgPM P T)).Good (jgPM P T) ∧ Steps (jgPM P T) ((jgFl who T cl).I (jgPM P T)) (Rd.lay cl P T G) 42 who) := ⟨Fl.good (HLAW.out cl), Fl.steps (HLAW.out cl) stepby_img⟩
  have HGD : Hid (((jgFl who T cl).I (jgPM P T)).Good (jgPM P T)) := HLW.out.1
  have hN := HNEW.out cl w2
  go_wp2_with fail
  go_at_call 44; refine hN.mono ?_; rintro e w3 ⟨x, L0, rfl, hi0, hb3, hu1⟩
  have HO0 : Hid (LawOn ((jgFl who T cl).I (jgPM P T)) ((Rd.lay cl P T G).and (Rd.blk w.heap.size #[.int .i64 P, .int .i64 T, .int .i64 G, .slice E m cp] 26)) w w3 A A' cap cap' c b c' b' n (fresh (putF a v n m)) (fresh (putF a v n m)) none 0 0 (fun _ => 0) x JgT.ld L0 [cl, w.heap.size]) := LawOn.begin hT1.out hb3 HB2.out hup.out hi0 HGD.out hu1 ⟨HLy2.out.below hb3 HLy2.out.lt, HX2.out.but (But.of_below (l := []) hb3) (by simp)⟩ (fun k hk => hk) (by
    obtain ⟨n1, n2⟩ := hne.out; obtain ⟨n3, n4⟩ := hne2.out; obtain ⟨n5, n6, n7, n8, n9⟩ := hbx.out
    intro k hk
    simp only [List.mem_cons, List.not_mem_nil, or_false] at hk
    rcases hk with rfl | rfl
    · exact ⟨⟨n1, n2, n3, n4⟩, HLy2.out.lt, hclup.out⟩
    · exact ⟨⟨n5, n6, n7, n8⟩, HX2.out.lt, Nat.le_refl _⟩)
  clear hN hi0 hb3 hu1 hT1 HB2 HX2 HLy2 z0 z1 z2 hup hbx hclup hne hne2
  go_wp2_with fail
  go_loopw [12, 13] (fun gv i wr => ∃ (k : Nat) (s : St) (Ag : Option Addr) (capg mg : Nat) (gf : Nat → Int) (t : JgT) (L : List Nat), k ≤ mp ∧ i = .int .i64 k ∧ gv = .slice Ag mg capg ∧ mg ≤ k ∧ Hid (LawOn ((jgFl who T cl).I (jgPM P T)) ((Rd.lay cl P T G).and (Rd.blk w.heap.size #[.int .i64 P, .int .i64 T, .int .i64 G, .slice E m cp] 26)) w wr A A' cap cap' c b c' b' n s s Ag capg mg gf x t L [cl, w.heap.size]) ∧ Hid (Low s (k : Int)) ∧ Hid (Hist (jgPM P T) JgT.ld gf mg t)) (fun _ i _ => mp - (intOf i).toNat)
  case atStart => exact ⟨0, _, none, 0, 0, _, JgT.ld, L0, Nat.zero_le _, rfl, rfl, Nat.le_refl _, HO0, low_fresh _, Hist.start _ _ _⟩
  case round =>
    clear HO0
    obtain ⟨k, s, Ag, capg, mg, gf, t, L, hk, rfl, rfl, hmg, HO, HLo, HH⟩ := hrel
    by_cases hlt : k < mp
    · obtain ⟨fb, foff, rfl, hfb, hcell⟩ := HP.out (by omega)
      have hcw : Hid (∀ i u, (pkC Pks k)[i]? = some u → wr.cell? ⟨fb, foff + k * 6 + i, none⟩ = some u) := fun i u hu => (HO.out.poke.below.cell (p := ⟨fb, foff + k * 6 + i, none⟩) hfb).trans (hcell k hlt i u hu)
      have pz := hcw.out 0 (.bool (Pks k).z) rfl
      have hk0 : (0 : Int) ≤ (k : Int) := Int.natCast_nonneg _
      have hk1 : (k : Int) < (mp : Int) := by omega
      clear hcell
      rw [Nat.add_zero] at pz
      cases hz : (Pks k).z
      · rw [hz] at pz
        have HRA : Hid (wr.rangeAt fb (foff + k * 6 + 1) [.int .i64 (Pks k).k, .int .i64 (Pks k).p, .int .i64 (Pks k).i, .int .u64 (Pks k).o, .int .u64 (Pks k).v]) := fun j u hu => by
          have := hcw.out (1 + j) u (by rw [show pkC Pks k = .bool (Pks k).z :: [.int .i64 (Pks k).k, .int .i64 (Pks k).p, .int .i64 (Pks k).i, .int .u64 (Pks k).o, .int .u64 (Pks k).v] from rfl, Nat.add_comm 1 j, List.getElem?_cons_succ]; exact hu)
          rw [← Nat.add_assoc] at this
          exact this
        clear hz hcw
        go_wp2_with (refine wpList_load_mid rfl 40 _ rfl fb (foff + k * 6 + 1) rfl [.int .i64 (Pks k).k, .int .i64 (Pks k).p, .int .i64 (Pks k).i, .int .u64 (Pks k).o, .int .u64 (Pks k).v] _ HRA.out Try.underlying40 rfl (by kernel_rfl) ?_)
        go_at_call 13; refine (HO.out.pokes HGD.out hn6 (HLo.out.more (by omega)) (Pks k).k (Pks k).p (Pks k).i (Pks k).o (Pks k).v (HPV.out k hlt)).mono ?_; rintro e w9 ⟨rfl, hO⟩
        have HO9 : Hid _ := hO
        have HLo9 : Hid (Low (actS (Pks k).k (Pks k).p (Pks k).i (Pks k).o (Pks k).v n s) (((k + 1 : Nat)) : Int)) := (actS_low HLo.out _ _ _ _ _ _).more (by omega)
        clear hO HO HRA pz
        go_wp2_with fail
        go_roundw
        case rel => exact ⟨k + 1, _, Ag, capg, mg, gf, t, L, by omega, by go_num, rfl, by omega, HO9, HLo9, HH⟩
        case measure => simp [intOf]; omega
      · rw [hz] at pz
        clear hz hcw
        have hR0 : Hid (RunOn (wr.alloc (.cells (runL (.slice Ag mg capg) rn0).toArray 47)) wr.heap.size Ag capg mg gf rn0) := run_starts HO.out.poke.got (by omega)
        have hb0 : Hid (Below wr.heap.size wr (wr.alloc (.cells (runL (.slice Ag mg capg) rn0).toArray 47))) := (Below.refl _ _).alloc (Nat.le_refl _) _
        have hRR := HREF.out _ _ Ag capg mg gf t hR0.out HH.out
        have y0 := HO.out.rd.2.cell 0 (v := .int .i64 P) rfl
        have y1 := HO.out.rd.2.cell 1 (v := .int .i64 T) rfl
        have y2 := HO.out.rd.2.cell 2 (v := .int .i64 G) rfl
        have hbl : w.heap.size < wr.heap.size := HO.out.rd.2.lt
        go_wp2_with fail
        go_at_call 45; refine hRR.mono ?_; rintro e w4 ⟨rfl, hR4, hB4⟩
        have hb4 : Below wr.heap.size wr w4 := hb0.out.trans (hB4.below (by simp) (by simp))
        have HO4 : Hid (LawOn ((jgFl who T cl).I (jgPM P T)) ((Rd.lay cl P T G).and (Rd.blk w.heap.size #[.int .i64 P, .int .i64 T, .int .i64 G, .slice E m cp] 26)) w w4 A A' cap cap' c b c' b' n s s Ag capg mg gf x t L [cl, w.heap.size]) := HO.out.still HGD.out hb4
        have HR4 : Hid (RunOn w4 wr.heap.size Ag capg mg gf ((jgPM P T).rn t mg)) := hR4
        have hs4 : wr.heap.size < w4.heap.size := hR4.blk.lt
        have s2 := HR4.out.blk.cell 2 (v := .bool ((jgPM P T).rn t mg).stop) rfl
        rw [PM.rn_stop] at s2
        clear hRR hR4 hB4 hR0 hb0 hb4 HO pz y0 y1 y2 hbl
        have HOK : Hid (∀ a, (jgPM P T).ax t = some a → a.Ok) := fun a ha => (HLAW.out cl).axok t a HO4.out.mach.1 ha
        have HD : Hid (∀ Y, Below w4.heap.size w4 Y → Calls Try.prog 41 #[.pointer (some ⟨x, 0, none⟩)] Y fun e w' => e = .returned (.bool ((jgPM P T).ax t).isNone) ∧ Y = w') := fun Y hY => by
          obtain ⟨nx, hx1, hx2⟩ := HGD.out.next (HGD.out.below HO4.out.mach hY)
          rw [← hx2]
          exact done_img Y x nx hx1
        have HGv : Hid (∀ Y, Below w4.heap.size w4 Y → Calls Try.prog 43 #[.pointer (some ⟨x, 0, none⟩)] Y fun e w' => e = .returned (.int .i64 t.obs) ∧ Y = w') := fun Y hY => jg_got (HGD.out.below HO4.out.mach hY)
        cases hst : ((jgPM P T).ax t).isSome
        · rw [hst] at s2
          have hin : ((jgPM P T).ax t).isNone = true := by cases h : (jgPM P T).ax t <;> rw [h] at hst <;> first | rfl | cases hst
          rw [hin] at HD
          clear hin
          generalize t.obs = to at *
          have hH : Hid (w4.drew.cell? ⟨wr.heap.size, 2, none⟩ = some (.bool false) ∧ Below w4.heap.size w4 w4.drew) := ⟨s2, (Below.refl _ _).drew⟩
          have KEEP : Hid (∀ X w' : World, (X.cell? ⟨wr.heap.size, 2, none⟩ = some (.bool false) ∧ Below w4.heap.size w4 X) → Below X.heap.size X w' → (w'.cell? ⟨wr.heap.size, 2, none⟩ = some (.bool false) ∧ Below w4.heap.size w4 w')) := fun X w' h k => ⟨(k.cell (p := ⟨wr.heap.size, 2, none⟩) (Nat.lt_of_lt_of_le hs4 h.2.size)).trans h.1, h.2.trans (k.mono h.2.size)⟩
          go_wp2_with fail
          go_region_held3 (fun w' => w'.cell? ⟨wr.heap.size, 2, none⟩ = some (.bool false) ∧ Below w4.heap.size w4 w') (first | exact hH.out | assumption | exact KEEP.out _ _ ‹_› ‹_›) (first | (go_at_call 41; refine (HD.out _ (by simp only [*])).mono ?_; rintro e x1 ⟨rfl, rfl⟩) | (go_at_call 43; refine (HGv.out _ (by simp only [*])).mono ?_; rintro e x2 ⟨rfl, rfl⟩))
          all_goals
            rename_i hHeld
            have HO5 : Hid _ := HO4.out.still HGD.out hHeld.2
            have HRg : Hid _ := (HR4.out.below hHeld.2).range
            have hTu := HO5.out.turn HGD.out HOK.out hn6 (HLo.out.more (by omega)) (by omega) who
            rw [show runCells (.slice Ag mg capg) ((jgPM P T).rn t mg) = (runL (.slice Ag mg capg) ((jgPM P T).rn t mg)).toArray from rfl] at hTu
            generalize (jgPM P T).rn t mg = RN at *
            simp only [runL] at hTu
            clear HD KEEP hH HO4 HR4 s2 hHeld HGv
            go_wp2_with (refine wpList_load_mid rfl 47 _ rfl wr.heap.size 0 rfl (runL (.slice Ag mg capg) RN) _ HRg.out Try.underlying47 rfl (by kernel_rfl) ?_; clear HRg)
            go_at_call 17; refine hTu.mono ?_; rintro e w6 ⟨Ag', capg', rfl, hO6⟩
            have HO6 : Hid _ := hO6
            have hSt := HO6.out.step HGD.out HLW.out.2 (fun Y (h : ((Rd.lay cl P T G).and (Rd.blk w.heap.size #[.int .i64 P, .int .i64 T, .int .i64 G, .slice E m cp] 26)).P Y) => h.1) (fun k hk => List.mem_append_left _ hk) hn6 (HLo.out.more (by omega))
            have HHn : Hid _ := HH.out.next n s (fun k i old new => actA_bd HO6.out.poke.mem k i old new)
            have HLo7 : Hid (Low ((jgPM P T).goS who n t s) ((k + 1 : Nat) : Int)) := PM.goS_low HLo.out
            have hml : (jgPM P T).goM t mg ≤ k + 1 := by unfold PM.goM; split <;> omega
            clear hTu hO6 HO5
            go_wp2_with fail
            go_at_call 42; refine hSt.mono ?_; rintro e w7 ⟨⟨zz, rfl⟩, L7, hO7⟩
            have HO7 : Hid _ := hO7
            clear hSt hO7 HO6 HH HLo
            generalize (jgPM P T).goS who n t s = s' at *
            generalize (jgPM P T).goG n t s gf mg = g' at *
            generalize (jgPM P T).goM t mg = m' at *
            generalize (jgPM P T).goT n t s = t' at *
            have hAl := alike_any w7 A A' cap cap' c b c' b' n s' hn6 HO7.out.poke.two
            go_wp2_with fail
            go_at_call 19; refine hAl.mono ?_; rintro e w8 ⟨rfl, hb8⟩
            have HO8 : Hid _ := HO7.out.still HGD.out hb8
            clear hAl hb8 HO7
            go_wp2_with fail
            go_roundw
            case rel => exact ⟨k + 1, s', Ag', capg', m', g', t', L7, by omega, by go_num, rfl, hml, HO8.out, HLo7, HHn.out⟩
            case measure => simp [intOf]; omega
        · rw [hst] at s2
          have hin : ((jgPM P T).ax t).isNone = false := by cases h : (jgPM P T).ax t <;> rw [h] at hst <;> first | rfl | cases hst
          rw [hin] at HD
          clear hin
          generalize t.obs = to at *
          have hH : Hid (w4.drew.cell? ⟨wr.heap.size, 2, none⟩ = some (.bool true) ∧ Below w4.heap.size w4 w4.drew) := ⟨s2, (Below.refl _ _).drew⟩
          have KEEP : Hid (∀ X w' : World, (X.cell? ⟨wr.heap.size, 2, none⟩ = some (.bool true) ∧ Below w4.heap.size w4 X) → Below X.heap.size X w' → (w'.cell? ⟨wr.heap.size, 2, none⟩ = some (.bool true) ∧ Below w4.heap.size w4 w')) := fun X w' h k => ⟨(k.cell (p := ⟨wr.heap.size, 2, none⟩) (Nat.lt_of_lt_of_le hs4 h.2.size)).trans h.1, h.2.trans (k.mono h.2.size)⟩
          go_wp2_with fail
          go_region_held3 (fun w' => w'.cell? ⟨wr.heap.size, 2, none⟩ = some (.bool true) ∧ Below w4.heap.size w4 w') (first | exact hH.out | assumption | exact KEEP.out _ _ ‹_› ‹_›) (first | (go_at_call 41; refine (HD.out _ (by simp only [*])).mono ?_; rintro e x1 ⟨rfl, rfl⟩) | (go_at_call 43; refine (HGv.out _ (by simp only [*])).mono ?_; rintro e x2 ⟨rfl, rfl⟩))
          all_goals
            rename_i hHeld
            have HO5 : Hid _ := HO4.out.still HGD.out hHeld.2
            have HRg : Hid _ := (HR4.out.below hHeld.2).range
            have hTu := HO5.out.turn HGD.out HOK.out hn6 (HLo.out.more (by omega)) (by omega) who
            rw [show runCells (.slice Ag mg capg) ((jgPM P T).rn t mg) = (runL (.slice Ag mg capg) ((jgPM P T).rn t mg)).toArray from rfl] at hTu
            generalize (jgPM P T).rn t mg = RN at *
            simp only [runL] at hTu
            clear HD KEEP hH HO4 HR4 s2 hHeld HGv
            go_wp2_with (refine wpList_load_mid rfl 47 _ rfl wr.heap.size 0 rfl (runL (.slice Ag mg capg) RN) _ HRg.out Try.underlying47 rfl (by kernel_rfl) ?_; clear HRg)
            go_at_call 17; refine hTu.mono ?_; rintro e w6 ⟨Ag', capg', rfl, hO6⟩
            have HO6 : Hid _ := hO6
            have hSt := HO6.out.step HGD.out HLW.out.2 (fun Y (h : ((Rd.lay cl P T G).and (Rd.blk w.heap.size #[.int .i64 P, .int .i64 T, .int .i64 G, .slice E m cp] 26)).P Y) => h.1) (fun k hk => List.mem_append_left _ hk) hn6 (HLo.out.more (by omega))
            have HHn : Hid _ := HH.out.next n s (fun k i old new => actA_bd HO6.out.poke.mem k i old new)
            have HLo7 : Hid (Low ((jgPM P T).goS who n t s) ((k + 1 : Nat) : Int)) := PM.goS_low HLo.out
            have hml : (jgPM P T).goM t mg ≤ k + 1 := by unfold PM.goM; split <;> omega
            clear hTu hO6 HO5
            go_wp2_with fail
            go_at_call 42; refine hSt.mono ?_; rintro e w7 ⟨⟨zz, rfl⟩, L7, hO7⟩
            have HO7 : Hid _ := hO7
            clear hSt hO7 HO6 HH HLo
            generalize (jgPM P T).goS who n t s = s' at *
            generalize (jgPM P T).goG n t s gf mg = g' at *
            generalize (jgPM P T).goM t mg = m' at *
            generalize (jgPM P T).goT n t s = t' at *
            have hAl := alike_any w7 A A' cap cap' c b c' b' n s' hn6 HO7.out.poke.two
            go_wp2_with fail
            go_at_call 19; refine hAl.mono ?_; rintro e w8 ⟨rfl, hb8⟩
            have HO8 : Hid _ := HO7.out.still HGD.out hb8
            clear hAl hb8 HO7
            go_wp2_with fail
            go_roundw
            case rel => exact ⟨k + 1, s', Ag', capg', m', g', t', L7, by omega, by go_num, rfl, hml, HO8.out, HLo7, HHn.out⟩
            case measure => simp [intOf]; omega
    · obtain rfl : k = mp := by omega
      have hgd : decide ((k : Int) < (k : Int)) = false := by simp
      have HT : Hid (∀ Y, Below wr.heap.size wr Y → Two Y A A' cap cap' c b c' b' n s) := fun Y hY => HO.out.poke.two.below hY
      have hLs := imlist_any wr A cap c b n cl s P T G HO.out.poke.mem hn6 HO.out.rd.1 hP64 HTG.out.1
      have HIm : Hid (∀ Y, Below wr.heap.size wr Y → Lay Y cl P T G) := fun Y hY => (HO.out.rd.1 : Lay wr cl P T G).below hY (HO.out.rd.1 : Lay wr cl P T G).lt
      have HRL : Hid (∀ Y, Below wr.heap.size wr Y → _) := fun Y (hY : Below wr.heap.size wr Y) => rlist18_any Y A' cap' c' b' n s P G T (HT.out Y hY).r (by have := HNN.out; omega) hP64 HTG.out.2 HTG.out.1
      have HGr : Hid (∀ Y, Below wr.heap.size wr Y → Blk Y w.heap.size #[.int .i64 P, .int .i64 T, .int .i64 G, .slice E m cp] 26) := fun Y hY => (HO.out.rd.2 : Blk wr w.heap.size _ _).but (But.of_below (l := []) hY) (by simp)
      have HB9 : Hid (Below w.heap.size w wr) := HO.out.poke.below
      obtain ⟨r, hr⟩ : ∃ r, lsOf (fun g => peekT n s (wd (20 + P * 264) T 3 g 2)) T (peekT n s 11) = r := ⟨_, rfl⟩
      have HRN : Hid (r.1.length ≤ 1000000) := by
        show r.1.length ≤ 1000000
        rw [← hr]
        exact HLSN.out _ _
      rw [hr] at hLs
      simp only [hr] at HRL
      have hpb : ∀ i, 0 ≤ peekT n s i ∧ peekT n s i ≤ 18446744073709551615 := fun i => by
        unfold peekT
        split
        · exact HO.out.poke.mem.bd _ (by omega)
        · omega
      have HPB : Hid _ := hpb
      clear hpb
      clear HO HLo HH hr
      go_wp2_with fail
      go_at_call 46; refine hLs.mono ?_; rintro e wa ⟨va, rfl, hva, hba⟩
      obtain ⟨Aa, ca, rfl⟩ := lists_slice hva.own
      have hG9 := HGr.out wa hba
      have y0 := hG9.cell 0 (v := .int .i64 P) rfl
      have y1 := hG9.cell 1 (v := .int .i64 T) rfl
      have y2 := hG9.cell 2 (v := .int .i64 G) rfl
      have hRl := HRL.out wa hba
      have HVA : Hid (IntsOn wa _ (.slice Aa r.1.length ca) r.1) := hva
      have HBA : Hid (Below wr.heap.size wr wa) := hba
      clear hLs hva hba HRL hG9
      go_wp2_with fail
      go_at_call 47; refine hRl.mono ?_; rintro e wc ⟨vb, rfl, hvb, hbb⟩
      obtain ⟨Ab, cb, rfl⟩ := lists_slice hvb.own
      have HVA2 : Hid (IntsOn wc _ (.slice Aa r.1.length ca) r.1) := ⟨row_below HVA.out.own hbb⟩
      have HVB : Hid (IntsOn wc _ (.slice Ab r.1.length cb) r.1) := hvb
      have HBC : Hid (Below wr.heap.size wr wc) := seq HBA.out hbb
      clear hRl hvb hbb HVA HBA y0 y1 y2
      have hl63 : r.1.length ≤ 9223372036854775807 := by have := lists_len HVB.out.own; unfold maxLen at this; omega
      have hlr : r.1.length ≤ 1000000 := HRN.out
      generalize r.1 = lr at *
      generalize r.2 = rz at *
      have HT2 : Hid (∀ Y, Below wc.heap.size wc Y → Two Y A A' cap cap' c b c' b' n s) := fun Y hY => HT.out Y (seq HBC.out hY)
      have HB10 : Hid (Below w.heap.size w wc) := seq HB9.out HBC.out
      have HSA : Hid (∀ Y, Below wc.heap.size wc Y → SeesL Y (.slice Aa lr.length ca) lr) := fun Y hY => (IntsOn.sees HVA2.out).below hY
      have HSB : Hid (∀ Y, Below wc.heap.size wc Y → SeesL Y (.slice Ab lr.length cb) lr) := fun Y hY => (IntsOn.sees HVB.out).below hY
      have HLR : Hid (lr.length ≤ 1000000) := hlr
      have hTW := HT2.out wc (Below.refl _ _)
      have hH : Hid (wc.drew.cell? ⟨c', 0, none⟩ = some (.slice A' n cap') ∧ Below wc.heap.size wc wc.drew) := ⟨hTW.r.cells.1, (Below.refl _ _).drew⟩
      have KEEP : Hid (∀ X w' : World, (X.cell? ⟨c', 0, none⟩ = some (.slice A' n cap') ∧ Below wc.heap.size wc X) → Below X.heap.size X w' → (w'.cell? ⟨c', 0, none⟩ = some (.slice A' n cap') ∧ Below wc.heap.size wc w')) := fun X w' h k => ⟨(HT2.out _ (h.2.trans (k.mono h.2.size))).r.cells.1, h.2.trans (k.mono h.2.size)⟩
      have hP1 := rpeek_any wc A' cap' c' b' n s 12 hn6 hTW.r
      have hP2 := rpeek_any wc A' cap' c' b' n s 15 hn6 hTW.r
      have HSP0 : Hid (∀ Y, Below wc.heap.size wc Y → Calls Try.prog 49 #[.pointer (some ⟨cl, 0, none⟩), .pointer (some ⟨c, 0, none⟩)] Y fun e w' => e = .returned (.int .i64 (spv T (peekT n s 12) (peekT n s 15))) ∧ Below Y.heap.size Y w') := fun Y hY => spare_any Y A cap c b n cl s P T G (HT2.out Y hY).m hn6 (HIm.out Y (seq HBC.out hY)) HTG.out.1
      have hG9 := HGr.out wc HBC.out
      have y1 := hG9.cell 1 (v := .int .i64 T) rfl
      have hb1 := HPB.out 12
      have hb2 := HPB.out 15
      have hTT := HTG.out.1
      generalize peekT n s 12 = a1 at *
      generalize peekT n s 15 = a2 at *
      clear hTW HT HBC HB9 HVA2 HVB hlr HGr HIm hG9 HPB
      by_cases h1 : a1 < 2147483648
      · by_cases h2 : a2 < 2147483648
        · have e0 : spv T a1 a2 = T + a1 - a2 := if_pos ⟨h1, h2⟩
          have e1 : IntKind.i64.wrap a1 = a1 := by simp [IntKind.wrap, IntKind.bits, IntKind.signed]; omega
          have e2 : IntKind.i64.wrap a2 = a2 := by simp [IntKind.wrap, IntKind.bits, IntKind.signed]; omega
          have e3 : wrap64 (T + a1) = T + a1 := by unfold wrap64; omega
          have e4 : wrap64 (T + a1 - a2) = T + a1 - a2 := by unfold wrap64; omega
          have HSP : Hid (∀ Y, Below wc.heap.size wc Y → Calls Try.prog 49 #[.pointer (some ⟨cl, 0, none⟩), .pointer (some ⟨c, 0, none⟩)] Y fun e w' => e = .returned (.int .i64 (wrap64 (wrap64 (T + a1) - a2))) ∧ Below Y.heap.size Y w') := fun Y hY => by rw [e3, e4, ← e0]; exact HSP0.out Y hY
          clear e0 HSP0 e3 e4 hb1 hb2 hTT
          go_wp2_with fail
          go_at_call 48; refine hP1.mono ?_; rintro e z1 ⟨rfl, hz⟩
          subst hz
          clear hP1
          go_wp2_with fail
          go_at_call 48; refine hP2.mono ?_; rintro e z1 ⟨rfl, hz⟩
          subst hz
          clear hP2
          go_wp2_with fail
          generalize wrap64 (wrap64 (T + a1) - a2) = sp at *
          go_region_held3 (fun w' => w'.cell? ⟨c', 0, none⟩ = some (.slice A' n cap') ∧ Below wc.heap.size wc w') (first | exact hH.out | assumption | exact KEEP.out _ _ ‹_› ‹_›) (first | (go_at_call 36; refine (HAW.out _).mono ?_; rintro e x1 ⟨rfl, g1⟩) | (go_at_call 21; refine (words_any _ A cap c b n s (HT2.out _ (by simp only [*])).m hn6).mono ?_; rintro e x5 ⟨A4, cap4, rfl, hs4, g5⟩) | (go_at_call 20; refine (sameB_any _ A4 A' n cap4 cap' s.f hn6 hs4 (HT2.out _ (by simp only [*])).r.sees).mono ?_; rintro e x6 ⟨rfl, g6⟩) | (go_at_call 29; refine (lsame_any _ _ _ lr HLR.out (HSA.out _ (by simp only [*])) (HSB.out _ (by simp only [*]))).mono ?_; rintro e x8 ⟨rfl, g8⟩) | (go_at_call 49; refine (HSP.out _ (by simp only [*])).mono ?_; rintro e x9 ⟨rfl, g9⟩))
          all_goals
            rename_i hHeld
            have hbF := HB10.out.trans (hHeld.2.mono HB10.out.size)
            go_wp2_with fail
            go_ret
            exact ⟨rfl, hbF⟩
        · have e0 : spv T a1 a2 = 0 := if_neg (fun h => h2 h.2)
          have HSP : Hid (∀ Y, Below wc.heap.size wc Y → Calls Try.prog 49 #[.pointer (some ⟨cl, 0, none⟩), .pointer (some ⟨c, 0, none⟩)] Y fun e w' => e = .returned (.int .i64 0) ∧ Below Y.heap.size Y w') := fun Y hY => by rw [← e0]; exact HSP0.out Y hY
          have d2 : decide (a2 < 2147483648) = false := decide_eq_false h2
          clear e0 HSP0 hb1 hb2 h2 hTT
          go_wp2_with fail
          go_at_call 48; refine hP1.mono ?_; rintro e z1 ⟨rfl, hz⟩
          subst hz
          clear hP1
          go_wp2_with fail
          go_at_call 48; refine hP2.mono ?_; rintro e z1 ⟨rfl, hz⟩
          subst hz
          clear hP2
          go_wp2_with fail
          go_region_held3 (fun w' => w'.cell? ⟨c', 0, none⟩ = some (.slice A' n cap') ∧ Below wc.heap.size wc w') (first | exact hH.out | assumption | exact KEEP.out _ _ ‹_› ‹_›) (first | (go_at_call 36; refine (HAW.out _).mono ?_; rintro e x1 ⟨rfl, g1⟩) | (go_at_call 21; refine (words_any _ A cap c b n s (HT2.out _ (by simp only [*])).m hn6).mono ?_; rintro e x5 ⟨A4, cap4, rfl, hs4, g5⟩) | (go_at_call 20; refine (sameB_any _ A4 A' n cap4 cap' s.f hn6 hs4 (HT2.out _ (by simp only [*])).r.sees).mono ?_; rintro e x6 ⟨rfl, g6⟩) | (go_at_call 29; refine (lsame_any _ _ _ lr HLR.out (HSA.out _ (by simp only [*])) (HSB.out _ (by simp only [*]))).mono ?_; rintro e x8 ⟨rfl, g8⟩) | (go_at_call 49; refine (HSP.out _ (by simp only [*])).mono ?_; rintro e x9 ⟨rfl, g9⟩))
          all_goals
            rename_i hHeld
            have hbF := HB10.out.trans (hHeld.2.mono HB10.out.size)
            go_wp2_with fail
            go_ret
            exact ⟨rfl, hbF⟩
      · have e0 : spv T a1 a2 = 0 := if_neg (fun h => h1 h.1)
        have HSP : Hid (∀ Y, Below wc.heap.size wc Y → Calls Try.prog 49 #[.pointer (some ⟨cl, 0, none⟩), .pointer (some ⟨c, 0, none⟩)] Y fun e w' => e = .returned (.int .i64 0) ∧ Below Y.heap.size Y w') := fun Y hY => by rw [← e0]; exact HSP0.out Y hY
        have d1 : decide (a1 < 2147483648) = false := decide_eq_false h1
        clear e0 HSP0 hb1 hb2 h1 hTT
        go_wp2_with fail
        go_at_call 48; refine hP1.mono ?_; rintro e z1 ⟨rfl, hz⟩
        subst hz
        clear hP1
        go_wp2_with fail
        go_at_call 48; refine hP2.mono ?_; rintro e z1 ⟨rfl, hz⟩
        subst hz
        clear hP2
        go_wp2_with fail
        go_region_held3 (fun w' => w'.cell? ⟨c', 0, none⟩ = some (.slice A' n cap') ∧ Below wc.heap.size wc w') (first | exact hH.out | assumption | exact KEEP.out _ _ ‹_› ‹_›) (first | (go_at_call 36; refine (HAW.out _).mono ?_; rintro e x1 ⟨rfl, g1⟩) | (go_at_call 21; refine (words_any _ A cap c b n s (HT2.out _ (by simp only [*])).m hn6).mono ?_; rintro e x5 ⟨A4, cap4, rfl, hs4, g5⟩) | (go_at_call 20; refine (sameB_any _ A4 A' n cap4 cap' s.f hn6 hs4 (HT2.out _ (by simp only [*])).r.sees).mono ?_; rintro e x6 ⟨rfl, g6⟩) | (go_at_call 29; refine (lsame_any _ _ _ lr HLR.out (HSA.out _ (by simp only [*])) (HSB.out _ (by simp only [*]))).mono ?_; rintro e x8 ⟨rfl, g8⟩) | (go_at_call 49; refine (HSP.out _ (by simp only [*])).mono ?_; rintro e x9 ⟨rfl, g9⟩))
        all_goals
          rename_i hHeld
          have hbF := HB10.out.trans (hHeld.2.mono HB10.out.size)
          go_wp2_with fail
          go_ret
          exact ⟨rfl, hbF⟩

theorem idlemGets_walk (P T G who : Int) (E F : Option Addr) (m cp mp cq : Nat) (a v : Nat → Int) (Pks : Nat → Pk) (w : World) (hAw : ∀ w, Calls Try.prog 36 #[] w fun e w' => e = .returned (.bool true) ∧ Below w.heap.size w w') (hm : m ≤ 9223372036854775807) (hmp : mp ≤ 9223372036854775807) (hs : SeesP w w.heap.size E m a v) (hv : ∀ i, i < m → 0 ≤ v i ∧ v i ≤ 18446744073709551615) (hP : SeesC w w.heap.size F mp 6 (pkC Pks)) (hpv : ∀ j, j < mp → 0 ≤ (Pks j).v ∧ (Pks j).v ≤ 18446744073709551615) :
    Calls Try.prog 8 #[.agg #[.int .i64 P, .int .i64 T, .int .i64 G, .slice E m cp], .int .i64 who, .slice F mp cq] w fun e w' => e = .returned (.bool true) ∧ Below w.heap.size w w' := by
  by_cases h : (¬ FewC P T G ∨ 400 < m) ∨ 100 < mp
  · exact idlemGets_bad P T G who E F m cp mp cq a v w hAw hm hmp hs hv h
  · exact idlemGets_ok P T G who E F m cp mp cq a v Pks w hAw (by omega) (Decidable.byContradiction fun hf => h (.inl (.inl hf))) (by omega) hs hv hP hpv 
end Go.Proofs.Ytggbohakpkplkaa

namespace Go.Proofs.Ytggbohakpkplkaa
open Go Go.RowKit
set_option linter.unusedVariables false
set_option maxRecDepth 100000
set_option linter.unusedSimpArgs false

def imaM : PM JgT := jgPM 1 2
def imaN : PM ImT := imPM 1 2 0
def imaPre (j : Nat) (s : St) : St := if j = 3 then (imaN.steps 0 292 4 (.h0, s)).2 else s
def imaAt : Nat → St
  | 0 => fresh (fun _ => 0)
  | i + 1 => (imaM.steps 0 292 4 (.ld, imaPre i (imaAt i))).2
def imaT (j : Nat) : JgT := (imaM.steps 0 292 4 (.ld, imaPre j (imaAt j))).1
def imaW : List Int := [0, 1, -1, 0]
theorem imaT_obs : ∀ (j : Nat), j < 4 → imaW.take (j + 1) = imaW.take j ++ [(imaT j).obs] := by
  intro j hj
  rcases (by omega : j = 0 ∨ j = 1 ∨ j = 2 ∨ j = 3) with rfl | rfl | rfl | rfl <;> decide +kernel
theorem ima_spare : spv 2 (peekT 292 (imaAt 4) 12) (peekT 292 (imaAt 4) 15) = 0 := by decide +kernel
theorem imaPre_low (j : Nat) (s : St) (m : Int) (h : Low s m) : Low (imaPre j s) (m + 4) := by
  unfold imaPre
  split
  · exact (PM.steps_low imaN 0 292 4 (.h0, s) h).more (by omega)
  · exact h.more (by omega)
theorem imaAt_low : ∀ j, Low (imaAt j) (9 * j)
  | 0 => low_fresh _
  | j + 1 => (PM.steps_low imaM 0 292 4 (.ld, imaPre j (imaAt j)) (imaPre_low j _ _ (imaAt_low j))).more (by omega)

set_option maxHeartbeats 8000000 in
theorem idlem_awake (w : World) : Calls Try.prog 36 #[] w fun e w' => e = .returned (.bool true) ∧ Below w.heap.size w w' := by
  obtain ⟨i0, hi, hz0, hz1, hz2⟩ := info_parts RI.lists_info3
  have hL := lay_some 1 2 1 none 0 0 292 (fun _ => 0) (fun _ => 0) w (by omega) ⟨⟨by omega⟩, by omega, by omega, by omega⟩ (by omega) (fun h => absurd h (by omega)) (fun i h => absurd h (by omega))
  have HLM : Hid (∀ cl, (jgFl 0 2 cl).Laws imaM (Rd.lay cl 1 2 1) 0) := fun cl => jg_laws 0 1 2 1 cl (by omega) (by omega)
  have HLN : Hid (∀ cl, (imFl 0 0 cl).Laws imaN (Rd.lay cl 1 2 1) 0) := fun cl => im_laws 0 1 2 1 0 cl (by omega) (by omega)
  go_enter Try.func36, Try.ntmps36
  go_wp2_with fail
  go_at_call 10; refine hL.mono ?_; rintro e w1 ⟨cl, A, A', cap, cap', c, b, c', b', rfl, hLd⟩
  have HB1 : Hid (Below w.heap.size w w1) := hLd.below
  have HI0 : Hid (Is w1 111 A cap c b 292 (imaAt 0)) := hLd.two.m
  have HY0 : Hid (Lay w1 cl 1 2 1) := hLd.lay
  have hne : Hid (cl ≠ c ∧ cl ≠ b) := lay_ne hLd.lay (by decide) hLd.two.m (by omega)
  have hup : Hid (w.heap.size ≤ c ∧ w.heap.size ≤ b) := ⟨hLd.up.2.1, hLd.up.2.2.1⟩
  have hlo : Hid (c < w1.heap.size ∧ b < w1.heap.size ∧ cl < w1.heap.size) := ⟨hLd.two.m.lt, hLd.two.m.bl, hLd.lay.lt⟩
  have HR0 : Hid (RI.IntsOn w1 w1.heap.size (.slice none 0 0) (imaW.take 0)) := ⟨World.ownsRow_nil _ _ _ _⟩
  have HBS : Hid (w.heap.size ≤ w1.heap.size) := HB1.out.size
  generalize hbb : w1.heap.size = B0 at HR0 hlo HBS
  have HBB : Hid (B0 ≤ w1.heap.size) := (by omega : B0 ≤ w1.heap.size)
  have HGM : Hid (((jgFl 0 2 cl).I imaM).Good imaM ∧ Steps imaM ((jgFl 0 2 cl).I imaM) (Rd.lay cl 1 2 1) 42 0) := ⟨Fl.good (HLM.out cl), Fl.steps (HLM.out cl) stepby_img⟩
  have HGN : Hid (((imFl 0 0 cl).I imaN).Good imaN ∧ Steps imaN ((imFl 0 0 cl).I imaN) (Rd.lay cl 1 2 1) 40 0) := ⟨Fl.good (HLN.out cl), Fl.steps (HLN.out cl) stepby_imp⟩
  have HRF : Hid (∀ (W Y : World) (v : Value) (l : List Int), Lay W cl 1 2 1 → RI.IntsOn W B0 v l → (∀ k ∈ ((Rd.lay cl 1 2 1).and (Rd.ints B0 v l)).B, k < W.heap.size) ∧ (c ∉ ((Rd.lay cl 1 2 1).and (Rd.ints B0 v l)).B ∧ b ∉ ((Rd.lay cl 1 2 1).and (Rd.ints B0 v l)).B)) := fun W _ v l hy hv => by
    have hU := hv.up
    refine ⟨fun k hk => ?_, fun hm => ?_, fun hm => ?_⟩
    · rcases List.mem_append.1 hk with hk | hk
      · have : k = cl := List.mem_singleton.1 hk
        rw [this]; exact hy.lt
      · exact (hU k hk).2
    · rcases List.mem_append.1 hm with hm | hm
      · exact hne.out.1 (List.mem_singleton.1 hm).symm
      · have h1 := (hU _ hm).1; have h2 := hlo.out; omega
    · rcases List.mem_append.1 hm with hm | hm
      · exact hne.out.2 (List.mem_singleton.1 hm).symm
      · have h1 := (hU _ hm).1; have h2 := hlo.out; omega
  clear hL hLd hbb HLM HLN
  go_wp2_with fail
  go_loopw [5, 6] (fun vv i wr => ∃ (j : Nat) (v : Value), v = vv ∧ j ≤ 4 ∧ i = .int .i64 j ∧ Hid (Is wr 111 A cap c b 292 (imaAt j)) ∧ Hid (Lay wr cl 1 2 1) ∧ Hid (Below w.heap.size w wr) ∧ Hid (RI.IntsOn wr B0 v (imaW.take j)) ∧ Hid (B0 ≤ wr.heap.size)) (fun v i _ => 4 - (intOf i).toNat)
  case atStart => exact ⟨0, _, rfl, by omega, rfl, HI0, HY0, HB1, HR0, HBB⟩
  case round =>
    clear HI0 HY0 HB1 HR0 HBB
    obtain ⟨j, v, rfl, hj, rfl, HI, HY, HB, HV, HBB⟩ := hrel
    by_cases hlt : j < 4
    · have hk1 : (j : Int) < 4 := by omega
      have hk0 : (0 : Int) ≤ (j : Int) := by omega
      by_cases hj3 : j = 3
      · have hd3 : ((j : Int) == 3) = true := by simp; omega
        have HLJ : Hid (Low (imaAt j) (9 * j)) := imaAt_low j
        have hN := fun Y => im_new Y cl 0 0 1 2
        go_wp2_with fail
        go_at_call 37; refine (hN _).mono ?_; rintro e w3 ⟨y, L0, rfl, hi0, hb3, hu1, -⟩
        have HS0 : Hid (Solo ((imFl 0 0 cl).I imaN) ((Rd.lay cl 1 2 1).and (Rd.ints B0 v (imaW.take j))) w w3 A cap c b 292 (imaN.steps 0 292 0 (.h0, imaAt j)).2 y (imaN.steps 0 292 0 (.h0, imaAt j)).1 L0) := Solo.begin HI.out hb3 HB.out hup.out hi0 hu1 ⟨HY.out, HV.out⟩ (HRF.out _ w3 _ _ HY.out HV.out).1 (HRF.out _ w3 _ _ HY.out HV.out).2
        have HLO : Hid (∀ q : Nat, q ≤ 4 → Low (imaN.steps 0 292 q (.h0, imaAt j)).2 1000000) := fun q hq => (PM.steps_low imaN 0 292 q (.h0, imaAt j) HLJ.out).more (by omega)
        have HB3 : Hid (B0 ≤ w3.heap.size) := Nat.le_trans HBB.out hb3.size
        clear hN hi0 hb3 hu1 HI HY HB HV HBB
        go_wp2_with fail
        go_loopw [8] (fun k wi => ∃ (q : Nat) (L : List Nat), q ≤ 4 ∧ k = .int .i64 q ∧ Hid (Solo ((imFl 0 0 cl).I imaN) ((Rd.lay cl 1 2 1).and (Rd.ints B0 v (imaW.take j))) w wi A cap c b 292 (imaN.steps 0 292 q (.h0, imaAt j)).2 y (imaN.steps 0 292 q (.h0, imaAt j)).1 L) ∧ Hid (B0 ≤ wi.heap.size)) (fun k _ => 4 - (intOf k).toNat)
        case atStart => exact ⟨0, L0, by omega, rfl, HS0, HB3⟩
        case round =>
          clear HS0 HB3
          obtain ⟨q, L, hq, rfl, HS, HBB⟩ := hrel
          by_cases hq9 : q < 4
          · have hSt := HS.out.stepUp HGN.out.1 HGN.out.2 (fun Y (h : ((Rd.lay cl 1 2 1).and (Rd.ints B0 v (imaW.take j))).P Y) => h.1) (fun k hk => List.mem_append_left _ hk) (by omega) (HLO.out q hq)
            rw [show imaN.goS 0 292 (imaN.steps 0 292 q (.h0, imaAt j)).1 (imaN.steps 0 292 q (.h0, imaAt j)).2 = (imaN.steps 0 292 (q + 1) (.h0, imaAt j)).2 by rw [PM.steps_succ], show imaN.goT 292 (imaN.steps 0 292 q (.h0, imaAt j)).1 (imaN.steps 0 292 q (.h0, imaAt j)).2 = (imaN.steps 0 292 (q + 1) (.h0, imaAt j)).1 by rw [PM.steps_succ]] at hSt
            have hq1 : (q : Int) < 4 := by omega
            have hq0 : (0 : Int) ≤ (q : Int) := by omega
            clear HS
            go_wp2_with fail
            go_at_call 40; refine hSt.mono ?_; rintro e w4 ⟨rfl, hsz', L', hS'⟩
            have HS' : Hid _ := hS'
            have HBB' : Hid (B0 ≤ w4.heap.size) := Nat.le_trans HBB.out hsz'
            clear hSt hS'
            go_wp2_with fail
            go_roundw
            case rel => exact ⟨q + 1, L', by omega, by go_num, HS', HBB'⟩
            case measure => simp [intOf]; omega
          · obtain rfl : q = 4 := by omega
            clear HLO
            obtain ⟨sj, hsj⟩ : ∃ sj, sj = imaPre j (imaAt j) := ⟨_, rfl⟩
            have HSJ : Hid (sj = imaPre j (imaAt j)) := hsj
            have hps : (imaN.steps 0 292 4 (.h0, imaAt j)).2 = sj := by rw [hsj]; unfold imaPre; rw [if_pos hj3]
            rw [hps] at HS
            have HI : Hid _ := HS.out.mem
            have HY : Hid (Lay _ cl 1 2 1) := HS.out.rd.1
            have HB : Hid _ := HS.out.below
            have HV : Hid (RI.IntsOn _ B0 v (imaW.take j)) := HS.out.rd.2
            clear HLJ HS
            have HLJ : Hid (Low sj (9 * j + 4)) := (by rw [hsj]; exact imaPre_low j _ _ (imaAt_low j) : Low sj (9 * j + 4))
            clear hsj hps hd3
            have hN := fun Y => jg_new Y cl 0 1 2
            go_wp2_with fail
            go_at_call 44; refine (hN _).mono ?_; rintro e w3 ⟨x, L0, rfl, hi0, hb3, hu1, -⟩
            have HS0 : Hid (Solo ((jgFl 0 2 cl).I imaM) ((Rd.lay cl 1 2 1).and (Rd.ints B0 v (imaW.take j))) w w3 A cap c b 292 (imaM.steps 0 292 0 (.ld, sj)).2 x (imaM.steps 0 292 0 (.ld, sj)).1 L0) := Solo.begin HI.out hb3 HB.out hup.out hi0 hu1 ⟨HY.out, HV.out⟩ (HRF.out _ w3 _ _ HY.out HV.out).1 (HRF.out _ w3 _ _ HY.out HV.out).2
            have HLO : Hid (∀ q : Nat, q ≤ 4 → Low (imaM.steps 0 292 q (.ld, sj)).2 1000000) := fun q hq => (PM.steps_low imaM 0 292 q (.ld, sj) HLJ.out).more (by omega)
            have HB3 : Hid (B0 ≤ w3.heap.size) := Nat.le_trans HBB.out hb3.size
            clear hN hi0 hb3 hu1 HI HY HB HV HBB
            go_wp2_with fail
            go_loopw [10] (fun k wi => ∃ (q : Nat) (L : List Nat), q ≤ 4 ∧ k = .int .i64 q ∧ Hid (Solo ((jgFl 0 2 cl).I imaM) ((Rd.lay cl 1 2 1).and (Rd.ints B0 v (imaW.take j))) w wi A cap c b 292 (imaM.steps 0 292 q (.ld, sj)).2 x (imaM.steps 0 292 q (.ld, sj)).1 L) ∧ Hid (B0 ≤ wi.heap.size)) (fun k _ => 4 - (intOf k).toNat)
            case atStart => exact ⟨0, L0, by omega, rfl, HS0, HB3⟩
            case round =>
              clear HS0 HB3
              obtain ⟨q, L, hq, rfl, HS, HBB⟩ := hrel
              by_cases hq9 : q < 4
              · have hSt := HS.out.stepUp HGM.out.1 HGM.out.2 (fun Y (h : ((Rd.lay cl 1 2 1).and (Rd.ints B0 v (imaW.take j))).P Y) => h.1) (fun k hk => List.mem_append_left _ hk) (by omega) (HLO.out q hq)
                rw [show imaM.goS 0 292 (imaM.steps 0 292 q (.ld, sj)).1 (imaM.steps 0 292 q (.ld, sj)).2 = (imaM.steps 0 292 (q + 1) (.ld, sj)).2 by rw [PM.steps_succ], show imaM.goT 292 (imaM.steps 0 292 q (.ld, sj)).1 (imaM.steps 0 292 q (.ld, sj)).2 = (imaM.steps 0 292 (q + 1) (.ld, sj)).1 by rw [PM.steps_succ]] at hSt
                have hq1 : (q : Int) < 4 := by omega
                have hq0 : (0 : Int) ≤ (q : Int) := by omega
                clear HS
                go_wp2_with fail
                go_at_call 42; refine hSt.mono ?_; rintro e w4 ⟨rfl, hsz', L', hS'⟩
                have HS' : Hid _ := hS'
                have HBB' : Hid (B0 ≤ w4.heap.size) := Nat.le_trans HBB.out hsz'
                clear hSt hS'
                go_wp2_with fail
                go_roundw
                case rel => exact ⟨q + 1, L', by omega, by go_num, HS', HBB'⟩
                case measure => simp [intOf]; omega
              · obtain rfl : q = 4 := by omega
                clear HLO
                have hGv := jg_got HS.out.mach
                rw [show (imaM.steps 0 292 4 (.ld, sj)).1.obs = (imaT j).obs by rw [HSJ.out]; rfl] at hGv
                have HT : Hid (imaW.take (j + 1) = imaW.take j ++ [(imaT j).obs]) := imaT_obs j hlt
                have HO : Hid (RI.IntsOn _ B0 v (imaW.take j)) := HS.out.rd.2
                have hOO := HO.out.own
                have hln : (imaW.take j).length = j := by rw [List.length_take]; show min j 4 = j; omega
                have HLN : Hid _ := hln
                rw [hln] at hOO
                have HF : Hid _ := HS.out
                generalize (imaT j).obs = gv at *
                clear HS hln
                go_wp2_with fail
                go_at_call 43; refine hGv.mono ?_; rintro e w4 ⟨rfl, rfl⟩
                go_wp2_with (at_builtin; refine wpList_append_own _ rfl _ _ 62 rfl B0 3 i0 (.int .i64 0) 1 8 Try.underlying62 hi hz0 hz1 hz2 rfl (by decide) _ _ _ rfl (hOO.alloc _) ⟨wr.heap.size, 0, none⟩ 1 1 [.int .i64 gv] rfl rfl (cell_one_new _ _ _) (ints_oneCell .i64 [gv]) (by unfold maxLen; omega) (by omega) (by have := HBB.out; simp; omega) ?_; intro v' w5 hown' hgrow2 hnil2)
                have hBu : But (rowB v) wr w5 := ((But.refl _ _).alloc _).grown hgrow2 (fun k hk => .inl (rowB_mem hk))
                have hUP := HO.out.up
                have HI5 : Hid (Is w5 111 A cap c b 292 (imaAt (j + 1))) := by
                  have := HF.out.mem.but hBu (fun hm => HF.out.rfar.1 (List.mem_append_right _ hm)) (fun hm => HF.out.rfar.2 (List.mem_append_right _ hm))
                  rw [HSJ.out] at this
                  exact this
                have HY5 : Hid (Lay w5 cl 1 2 1) := (hBu.block cl (HF.out.rd.1 : Lay wr cl 1 2 1).lt (fun hm => by have h1 := (hUP _ hm).1; have h2 := hlo.out; omega)).trans (HF.out.rd.1 : Lay wr cl 1 2 1)
                have HB5 : Hid (Below w.heap.size w w5) := HF.out.below.trans (hBu.below (fun k hk => by have h1 := (hUP _ hk).1; have := HBS.out; omega) HF.out.below.size)
                have HBB5 : Hid (B0 ≤ w5.heap.size) := Nat.le_trans HBB.out hBu.size
                have HV5 : Hid (RI.IntsOn w5 B0 v' (imaW.take (j + 1))) := ⟨by
                  rw [HT.out, List.map_append, List.length_append, HLN.out]
                  exact hown'⟩
                clear hown' hgrow2 hnil2 hBu hUP hOO HO HF
                go_wp2_with fail
                go_roundw
                case rel => exact ⟨j + 1, v', rfl, by omega, by go_num, HI5, HY5, HB5, HV5, HBB5⟩
                case measure => simp [intOf]; omega
      · have hd3 : ((j : Int) == 3) = false := by simp; omega
        obtain ⟨sj, hsj⟩ : ∃ sj, sj = imaPre j (imaAt j) := ⟨_, rfl⟩
        have HSJ : Hid (sj = imaPre j (imaAt j)) := hsj
        have hps : imaAt j = sj := by rw [hsj]; unfold imaPre; rw [if_neg hj3]
        rw [hps] at HI
        have HLJ : Hid (Low sj (9 * j + 4)) := (by rw [hsj]; exact imaPre_low j _ _ (imaAt_low j) : Low sj (9 * j + 4))
        clear hsj hps
        have hN := fun Y => jg_new Y cl 0 1 2
        go_wp2_with fail
        go_at_call 44; refine (hN _).mono ?_; rintro e w3 ⟨x, L0, rfl, hi0, hb3, hu1, -⟩
        have HS0 : Hid (Solo ((jgFl 0 2 cl).I imaM) ((Rd.lay cl 1 2 1).and (Rd.ints B0 v (imaW.take j))) w w3 A cap c b 292 (imaM.steps 0 292 0 (.ld, sj)).2 x (imaM.steps 0 292 0 (.ld, sj)).1 L0) := Solo.begin HI.out hb3 HB.out hup.out hi0 hu1 ⟨HY.out, HV.out⟩ (HRF.out _ w3 _ _ HY.out HV.out).1 (HRF.out _ w3 _ _ HY.out HV.out).2
        have HLO : Hid (∀ q : Nat, q ≤ 4 → Low (imaM.steps 0 292 q (.ld, sj)).2 1000000) := fun q hq => (PM.steps_low imaM 0 292 q (.ld, sj) HLJ.out).more (by omega)
        have HB3 : Hid (B0 ≤ w3.heap.size) := Nat.le_trans HBB.out hb3.size
        clear hN hi0 hb3 hu1 HI HY HB HV HBB
        go_wp2_with fail
        go_loopw [10] (fun k wi => ∃ (q : Nat) (L : List Nat), q ≤ 4 ∧ k = .int .i64 q ∧ Hid (Solo ((jgFl 0 2 cl).I imaM) ((Rd.lay cl 1 2 1).and (Rd.ints B0 v (imaW.take j))) w wi A cap c b 292 (imaM.steps 0 292 q (.ld, sj)).2 x (imaM.steps 0 292 q (.ld, sj)).1 L) ∧ Hid (B0 ≤ wi.heap.size)) (fun k _ => 4 - (intOf k).toNat)
        case atStart => exact ⟨0, L0, by omega, rfl, HS0, HB3⟩
        case round =>
          clear HS0 HB3
          obtain ⟨q, L, hq, rfl, HS, HBB⟩ := hrel
          by_cases hq9 : q < 4
          · have hSt := HS.out.stepUp HGM.out.1 HGM.out.2 (fun Y (h : ((Rd.lay cl 1 2 1).and (Rd.ints B0 v (imaW.take j))).P Y) => h.1) (fun k hk => List.mem_append_left _ hk) (by omega) (HLO.out q hq)
            rw [show imaM.goS 0 292 (imaM.steps 0 292 q (.ld, sj)).1 (imaM.steps 0 292 q (.ld, sj)).2 = (imaM.steps 0 292 (q + 1) (.ld, sj)).2 by rw [PM.steps_succ], show imaM.goT 292 (imaM.steps 0 292 q (.ld, sj)).1 (imaM.steps 0 292 q (.ld, sj)).2 = (imaM.steps 0 292 (q + 1) (.ld, sj)).1 by rw [PM.steps_succ]] at hSt
            have hq1 : (q : Int) < 4 := by omega
            have hq0 : (0 : Int) ≤ (q : Int) := by omega
            clear HS
            go_wp2_with fail
            go_at_call 42; refine hSt.mono ?_; rintro e w4 ⟨rfl, hsz', L', hS'⟩
            have HS' : Hid _ := hS'
            have HBB' : Hid (B0 ≤ w4.heap.size) := Nat.le_trans HBB.out hsz'
            clear hSt hS'
            go_wp2_with fail
            go_roundw
            case rel => exact ⟨q + 1, L', by omega, by go_num, HS', HBB'⟩
            case measure => simp [intOf]; omega
          · obtain rfl : q = 4 := by omega
            clear HLO
            have hGv := jg_got HS.out.mach
            rw [show (imaM.steps 0 292 4 (.ld, sj)).1.obs = (imaT j).obs by rw [HSJ.out]; rfl] at hGv
            have HT : Hid (imaW.take (j + 1) = imaW.take j ++ [(imaT j).obs]) := imaT_obs j hlt
            have HO : Hid (RI.IntsOn _ B0 v (imaW.take j)) := HS.out.rd.2
            have hOO := HO.out.own
            have hln : (imaW.take j).length = j := by rw [List.length_take]; show min j 4 = j; omega
            have HLN : Hid _ := hln
            rw [hln] at hOO
            have HF : Hid _ := HS.out
            generalize (imaT j).obs = gv at *
            clear HS hln
            go_wp2_with fail
            go_at_call 43; refine hGv.mono ?_; rintro e w4 ⟨rfl, rfl⟩
            go_wp2_with (at_builtin; refine wpList_append_own _ rfl _ _ 62 rfl B0 3 i0 (.int .i64 0) 1 8 Try.underlying62 hi hz0 hz1 hz2 rfl (by decide) _ _ _ rfl (hOO.alloc _) ⟨wr.heap.size, 0, none⟩ 1 1 [.int .i64 gv] rfl rfl (cell_one_new _ _ _) (ints_oneCell .i64 [gv]) (by unfold maxLen; omega) (by omega) (by have := HBB.out; simp; omega) ?_; intro v' w5 hown' hgrow2 hnil2)
            have hBu : But (rowB v) wr w5 := ((But.refl _ _).alloc _).grown hgrow2 (fun k hk => .inl (rowB_mem hk))
            have hUP := HO.out.up
            have HI5 : Hid (Is w5 111 A cap c b 292 (imaAt (j + 1))) := by
              have := HF.out.mem.but hBu (fun hm => HF.out.rfar.1 (List.mem_append_right _ hm)) (fun hm => HF.out.rfar.2 (List.mem_append_right _ hm))
              rw [HSJ.out] at this
              exact this
            have HY5 : Hid (Lay w5 cl 1 2 1) := (hBu.block cl (HF.out.rd.1 : Lay wr cl 1 2 1).lt (fun hm => by have h1 := (hUP _ hm).1; have h2 := hlo.out; omega)).trans (HF.out.rd.1 : Lay wr cl 1 2 1)
            have HB5 : Hid (Below w.heap.size w w5) := HF.out.below.trans (hBu.below (fun k hk => by have h1 := (hUP _ hk).1; have := HBS.out; omega) HF.out.below.size)
            have HBB5 : Hid (B0 ≤ w5.heap.size) := Nat.le_trans HBB.out hBu.size
            have HV5 : Hid (RI.IntsOn w5 B0 v' (imaW.take (j + 1))) := ⟨by
              rw [HT.out, List.map_append, List.length_append, HLN.out]
              exact hown'⟩
            clear hown' hgrow2 hnil2 hBu hUP hOO HO HF
            go_wp2_with fail
            go_roundw
            case rel => exact ⟨j + 1, v', rfl, by omega, by go_num, HI5, HY5, HB5, HV5, HBB5⟩
            case measure => simp [intOf]; omega
    · obtain rfl : j = 4 := by omega
      have hS1 := RI.lsame_any (wr.alloc (.cells #[.int .i64 0, .int .i64 1, .int .i64 (-1), .int .i64 0] 3)) v _ imaW (by decide) ((HV.out.sees).below ((Below.refl _ _).alloc (Nat.le_refl _) _)) (lit4b_sees wr 0 1 (-1) 0)
      have HA7 : Hid (Below wr.heap.size wr (wr.alloc (.cells #[.int .i64 0, .int .i64 1, .int .i64 (-1), .int .i64 0] 3))) := (Below.refl _ _).alloc (Nat.le_refl _) _
      have HSP : Hid (∀ Y, Below wr.heap.size wr Y → Calls Try.prog 49 #[.pointer (some ⟨cl, 0, none⟩), .pointer (some ⟨c, 0, none⟩)] Y fun e w' => e = .returned (.int .i64 0) ∧ Below Y.heap.size Y w') := fun Y hY => by
        have h := spare_any Y A cap c b 292 cl (imaAt 4) 1 2 1 (HI.out.below hY) (by omega) (HY.out.below hY HY.out.lt) (by omega)
        rw [ima_spare] at h
        exact h
      have HBF : Hid _ := HB.out
      clear HI HY HV HB
      go_wp2_with fail
      go_at_call 29; refine hS1.mono ?_; rintro e w8 ⟨rfl, hb8⟩
      have HB8 : Hid (Below wr.heap.size wr w8) := seq HA7.out hb8
      have hSp := HSP.out w8 HB8.out
      clear hS1 hb8 HA7 HSP
      go_wp2_with fail
      go_at_call 49; refine hSp.mono ?_; rintro e w9 ⟨rfl, hb9⟩
      have HFF : Hid (Below w.heap.size w w9) := seq (seq HBF.out HB8.out) hb9
      clear hSp hb9
      go_wp2_with fail
      go_ret
      exact ⟨rfl, HFF.out⟩
end Go.Proofs.Ytggbohakpkplkaa

namespace Go.Proofs.Ytggbohakpkplkaa
open Go Go.ChangeShapes Go.WideShapes Go.ChangeAt Go.RowKit Go.Joins
set_option linter.unusedVariables false
set_option linter.unusedSimpArgs false

theorem own_idlemGets : ownKnob Try.prog.godebug = none := by kernel_rfl
theorem laidOut_idlemGets : laidOutB Try.prog = true := by kernel_rfl

set_option maxRecDepth 100000 in
theorem lifted_idlemGets (os : Os) (started : os.Started) (H : Type) (enc : TypeId × Value → H) :
    ReturnsInHanded {} Try.checked os 8 .any (Rows.idlemGetsSpec.pre6 enc Try.prog Try.f8 Rows.idlemGetsRow.domain false) (Rows.idlemGetsSpec.post enc Try.prog Try.f8 false true false false) := by
  refine returnsInHanded_of_change (C := Try.checked) own_idlemGets started (by kernel_rfl) Try.func8
    (ChangeSpec.witness6 (enc := enc) (C := Try.checked) false ⟨#[], #[.agg #[.int .i64 0, .int .i64 0, .int .i64 0, .slice none 0 0], .int .i64 0, .slice none 0 0], []⟩ 8 (by kernel_rfl) (by kernel_rfl) (by kernel_rfl) (by kernel_rfl)) ?_
  intro W base args ds gs before hval0 hW hcnd _
  have hval : ∀ (j : Nat) t v, Try.f8.params[j]? = some t → args[j]? = some v → Value.okWide Try.prog W .any base t v := hval0
  have hW' := hW
  obtain ⟨p, q, hA0, hV, rfl, hfz, hnd⟩ := hW
  have hA : DataW.TrodAll enc Try.prog W 0 (fun _ => true) true Try.f8.params.toList args.toList ds p := hA0
  rw [Try.params8] at hA hval
  obtain ⟨v0, vs0, d0, ds0, p0, q0, hargs, rfl, rfl, h0, r0⟩ := trodAll_cons hA
  obtain ⟨v1, vs1, d1, ds1, p1, q1, rfl, rfl, rfl, h1, r1⟩ := trodAll_cons r0
  obtain ⟨v2, vs2, d2, ds2, p2, q2, rfl, rfl, rfl, h2, r2⟩ := trodAll_cons r1
  obtain ⟨rfl, rfl, rfl⟩ := trodAll_nil r2
  obtain rfl : args = #[v0, v1, v2] := by cases args; simp_all
  obtain ⟨P, T, G, E, m, cp, a, x, rfl, hm, hs, hx⟩ := open_ground (hval 0 26 v0 rfl rfl) h0
  unfold maxLen at hm
  obtain ⟨x0, rfl, rfl, rfl, wx0⟩ := open_int Try.underlying3 (hval 1 3 v1 rfl rfl) h1
  obtain ⟨F, mp, cq, Pks, rfl, hmp, hP, hpv⟩ := open_pokes (hval 2 28 v2 rfl rfl) h2
  unfold maxLen at hmp
  clear hA0 hval0
  refine (idlemGets_walk P T G x0 E F m cp mp cq a x Pks W idlem_awake (by omega) (by omega) hs hx hP hpv).mono fun e W' ⟨he, hb⟩ => ?_
  subst he
  exact ⟨_, rfl, law_post laidOut_idlemGets rfl Try.underlying4 (by kernel_rfl) rfl rfl rfl rfl hW' hb⟩

theorem idlemGets_holds : Rows.IdlemGetsSaid :=
  OpenClaim.holds_of_wide 8 Try.f8 rfl rfl rfl rfl rfl rfl rfl ⟨rfl, rfl, rfl, rfl, rfl⟩ rfl rfl rfl rfl rfl (by kernel_rfl) Try.func8 (by kernel_rfl)
    (of_decide_eq_true (by kernel_rfl)) (by unfold Func.isWrapper; first | (rw [if_pos (by decide +kernel)]; kernel_rfl) | (rw [if_neg (by decide +kernel)]; exact ⟨rfl, rfl⟩))
    (fun os started H enc _ => lifted_idlemGets os started H enc)
#print axioms idlemGets_holds
end Go.Proofs.Ytggbohakpkplkaa
