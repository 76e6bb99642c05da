/- The walk of the law NoteSteps. -/
import Derived.Test.YtjbkhnolnlcjnaaPk
import Derived.Test.YtjbkhnolnlcjnaaRun5
import Derived.Test.YtjbkhnolnlcjnaaLock4
import Derived.Test.YtjbkhnolnlcjnaaNWakes
import Derived.Test.YtjbkhnolnlcjnaaOpen2
namespace Go.Proofs.Ytjbkhnolnlcjnaa
open Go Go.RowKit
set_option linter.unusedVariables false
set_option maxRecDepth 100000
set_option linter.unusedSimpArgs false

theorem poke_begin2 {w w2 w3 : World} {A A' : Option Addr} {cap cap' c b c' b' n : Nat} {s : St} {L : List Nat} (hT : Two w2 A A' cap cap' c b c' b' n s) (hb : Below w2.heap.size w2 w3) (hB2 : Below w.heap.size w w2) (hup : w.heap.size ≤ c ∧ w.heap.size ≤ b ∧ w.heap.size ≤ c' ∧ w.heap.size ≤ b') (hL : ∀ k ∈ L, (k ≠ c ∧ k ≠ b ∧ k ≠ c' ∧ k ≠ b') ∧ k < w3.heap.size ∧ w.heap.size ≤ k) :
    PokeOn w w3 A A' cap cap' c b c' b' n s s none 0 0 (fun _ => 0) L :=
  ⟨hT.m.below hb, hT.r.below hb, hT.ne, ⟨World.ownsRow_nil _ _ _ _⟩, (fun k e => by cases e), (fun k e => by cases e), hL, hup, hB2.trans (hb.mono hB2.size)⟩
theorem SlpGot.zero {m : Nat} {g : Nat → Int} (h : SlpGot m g 0 false) : m = 0 := by
  rcases h.h with ⟨_, _, h⟩ | ⟨_, h, _⟩ | ⟨h, _⟩ | ⟨h, _⟩
  · exact h
  · cases h
  · omega
  · omega
theorem SlpGot.one {m : Nat} {g : Nat → Int} (h : SlpGot m g 0 true) : m = 1 := by
  rcases h.h with ⟨_, h, _⟩ | ⟨_, _, h, _⟩ | ⟨h, _⟩ | ⟨h, _⟩
  · cases h
  · exact h
  · omega
  · omega
theorem slpgot_put {m : Nat} {g : Nat → Int} (h : SlpGot m g 1 false) : SlpGot (m + 1) (gsnoc g m 0) 2 false := by
  rcases h.h with ⟨h, _⟩ | ⟨h, _⟩ | ⟨_, _, ⟨rfl, h0⟩ | ⟨rfl, h0, h1⟩⟩ | ⟨h, _⟩
  · omega
  · omega
  · exact ⟨.inr (.inr (.inr ⟨rfl, rfl, .inl ⟨rfl, by simp [gsnoc]; exact h0⟩⟩))⟩
  · exact ⟨.inr (.inr (.inr ⟨rfl, rfl, .inr ⟨rfl, by simp [gsnoc]; exact h0, by simp [gsnoc]; exact h1⟩⟩))⟩
  · omega

theorem noteSteps_bad (P T G t : Int) (E F : Option Addr) (m cp mp cq : Nat) (a v : Nat → Int) (w : World) (hm : m ≤ 9223372036854775807) (hmp : mp ≤ 9223372036854775807) (hs : SeesP w w.heap.size E m a v) (hv : ∀ i, i < m → 0 ≤ v i ∧ v i ≤ 18446744073709551615) (h : (¬ FewC P T G ∨ 400 < m) ∨ 100 < mp ∨ t < 0 ∨ T ≤ t) :
    Calls Try.prog 10 #[.agg #[.int .i64 P, .int .i64 T, .int .i64 G, .slice E m cp], .int .i64 t, .slice F mp cq] w fun e w' => e = .returned (.bool true) ∧ Below w.heap.size w w' := by
  have hsz : (w.alloc (.cells #[.int .i64 P, .int .i64 T, .int .i64 G, .slice E m cp] 67)).heap.size = w.heap.size + 1 := by simp
  have HB : Hid (Below w.heap.size w (w.alloc (.cells #[.int .i64 P, .int .i64 T, .int .i64 G, .slice E m cp] 67))) := (Below.refl _ _).alloc (Nat.le_refl _) _
  have hX : Hid (Blk (w.alloc (.cells #[.int .i64 P, .int .i64 T, .int .i64 G, .slice E m cp] 67)) w.heap.size #[.int .i64 P, .int .i64 T, .int .i64 G, .slice E m cp] 67) := Blk.new _ _ _
  by_cases hf : ¬ FewC P T G ∨ 400 < m
  · have hL := lay_none P T G E m cp (w.alloc (.cells #[.int .i64 P, .int .i64 T, .int .i64 G, .slice E m cp] 67)) hm hf
    clear h hf hs hv
    go_enter Try.func10, Try.ntmps10
    go_wp2_with fail
    generalize w.alloc (.cells #[.int .i64 P, .int .i64 T, .int .i64 G, .slice E m cp] 67) = W at *
    go_at_call 32; refine hL.mono ?_; rintro e w1 ⟨rfl, h1⟩
    have HB1 : Hid (Below w.heap.size w w1) := HB.out.trans (h1.mono (by omega))
    clear hL h1
    go_wp2_with fail
    go_at_call 44; refine (note_awake _).mono ?_; rintro e w2 ⟨rfl, h2⟩
    have h3 := seq HB1.out h2
    go_wp2_with fail
    go_ret
    exact ⟨rfl, h3⟩
  · have hF : FewC P T G := Decidable.byContradiction fun h => hf (.inl h)
    have hm4 : m ≤ 400 := by omega
    have hM := hF.h.1.h
    obtain ⟨n, hn⟩ : ∃ n : Nat, (n : Int) = 20 + 264 * P + 3 * T + 2 * G := ⟨(20 + 264 * P + 3 * T + 2 * G).toNat, by omega⟩
    have hL := lay_some P T G E m cp n a v _ hm4 hF hn (hs.up (.cells #[.int .i64 P, .int .i64 T, .int .i64 G, .slice E m cp] 67)) hv
    have htt : 100 < mp ∨ t < 0 ∨ T ≤ t := by rcases h with h | h; exact absurd h hf; exact h
    clear h hf hs hv hn hF hM
    by_cases q1 : 100 < mp
    · clear htt
      go_enter Try.func10, Try.ntmps10
      go_wp2_with fail
      generalize w.alloc (.cells #[.int .i64 P, .int .i64 T, .int .i64 G, .slice E m cp] 67) = W at *
      go_at_call 32; refine hL.mono ?_; rintro e w1 ⟨cl, A, A', cap, cap', c, b, c', b', rfl, hLd⟩
      have HB1 : Hid (Below w.heap.size w w1) := HB.out.trans (hLd.below.mono (by omega))
      have y1 := (hX.out.but (But.of_below (l := []) hLd.below) (by simp)).cell 1 (v := .int .i64 T) rfl
      clear hL hLd
      go_wp2_with fail
      go_at_call 44; refine (note_awake _).mono ?_; rintro e w2 ⟨rfl, h2⟩
      have h3 := seq HB1.out h2
      go_wp2_with fail
      go_ret
      exact ⟨rfl, h3⟩
    have d1 : decide ((100 : Int) < (mp : Int)) = false := decide_eq_false (by omega)
    by_cases q2 : t < 0
    · clear htt
      go_enter Try.func10, Try.ntmps10
      go_wp2_with fail
      generalize w.alloc (.cells #[.int .i64 P, .int .i64 T, .int .i64 G, .slice E m cp] 67) = W at *
      go_at_call 32; refine hL.mono ?_; rintro e w1 ⟨cl, A, A', cap, cap', c, b, c', b', rfl, hLd⟩
      have HB1 : Hid (Below w.heap.size w w1) := HB.out.trans (hLd.below.mono (by omega))
      have y1 := (hX.out.but (But.of_below (l := []) hLd.below) (by simp)).cell 1 (v := .int .i64 T) rfl
      clear hL hLd
      go_wp2_with fail
      go_at_call 44; refine (note_awake _).mono ?_; rintro e w2 ⟨rfl, h2⟩
      have h3 := seq HB1.out h2
      go_wp2_with fail
      go_ret
      exact ⟨rfl, h3⟩
    have d2 : decide (t < 0) = false := decide_eq_false q2
    have q3 : T ≤ t := by omega
    clear htt
    go_enter Try.func10, Try.ntmps10
    go_wp2_with fail
    generalize w.alloc (.cells #[.int .i64 P, .int .i64 T, .int .i64 G, .slice E m cp] 67) = W at *
    go_at_call 32; refine hL.mono ?_; rintro e w1 ⟨cl, A, A', cap, cap', c, b, c', b', rfl, hLd⟩
    have HB1 : Hid (Below w.heap.size w w1) := HB.out.trans (hLd.below.mono (by omega))
    have y1 := (hX.out.but (But.of_below (l := []) hLd.below) (by simp)).cell 1 (v := .int .i64 T) rfl
    clear hL hLd
    go_wp2_with fail
    go_at_call 44; refine (note_awake _).mono ?_; rintro e w2 ⟨rfl, h2⟩
    have h3 := seq HB1.out h2
    go_wp2_with fail
    go_ret
    exact ⟨rfl, h3⟩

set_option maxHeartbeats 4000000 in
theorem noteSteps_ok (P T G t : Int) (E F : Option Addr) (m cp mp cq : Nat) (a v : Nat → Int) (Pks : Nat → Pk) (w : World) (hm : m ≤ 400) (hF : FewC P T G) (hmp : mp ≤ 100) (hs : SeesP w w.heap.size E m a v) (hv : ∀ i, i < m → 0 ≤ v i ∧ v i ≤ 18446744073709551615) (hP : SeesC w w.heap.size F mp 6 (pkC Pks)) (hpv : ∀ j, j < mp → 0 ≤ (Pks j).v ∧ (Pks j).v ≤ 18446744073709551615) (ht : 0 ≤ t ∧ t < T) :
    Calls Try.prog 10 #[.agg #[.int .i64 P, .int .i64 T, .int .i64 G, .slice E m cp], .int .i64 t, .slice F mp cq] w fun e w' => e = .returned (.bool true) ∧ Below w.heap.size w w' := by
  have hsz : (w.alloc (.cells #[.int .i64 P, .int .i64 T, .int .i64 G, .slice E m cp] 67)).heap.size = w.heap.size + 1 := by simp
  have HB : Hid (Below w.heap.size w (w.alloc (.cells #[.int .i64 P, .int .i64 T, .int .i64 G, .slice E m cp] 67))) := (Below.refl _ _).alloc (Nat.le_refl _) _
  have hX : Hid (Blk (w.alloc (.cells #[.int .i64 P, .int .i64 T, .int .i64 G, .slice E m cp] 67)) w.heap.size #[.int .i64 P, .int .i64 T, .int .i64 G, .slice E m cp] 67) := Blk.new _ _ _
  have hM := hF.h.1.h
  obtain ⟨n, hn⟩ : ∃ n : Nat, (n : Int) = 20 + 264 * P + 3 * T + 2 * G := ⟨(20 + 264 * P + 3 * T + 2 * G).toNat, by omega⟩
  have hn0 : 0 < n := by omega
  have hn6 : n ≤ 1000000 := by have := hF.h; omega
  have hL := lay_some P T G E m cp n a v _ hm hF hn (hs.up (.cells #[.int .i64 P, .int .i64 T, .int .i64 G, .slice E m cp] 67)) hv
  have d1 : decide ((100 : Int) < (mp : Int)) = false := decide_eq_false (by omega)
  have d2 : decide (t < 0) = false := decide_eq_false (by omega)
  have d3 : decide (T ≤ t) = false := decide_eq_false (by omega)
  have HM : Hid (May P T G) := hF.h.1
  have HP : Hid (SeesC w w.heap.size F mp 6 (pkC Pks)) := hP
  have HPV : Hid (∀ j, j < mp → 0 ≤ (Pks j).v ∧ (Pks j).v ≤ 18446744073709551615) := hpv
  have hnt : 20 + 264 * P + 3 * t + 0 = noteAt P T t := by unfold noteAt wd; rw [if_pos ⟨ht.1, ht.2, by omega, by omega⟩]; omega
  have hTh := fun w => rthread_any P T G t 0 w hF.h.1 ht (by omega)
  rw [hnt] at hTh
  clear hs hv hn hF hM hP hpv hnt
  go_enter Try.func10, Try.ntmps10
  go_wp2_with fail
  generalize w.alloc (.cells #[.int .i64 P, .int .i64 T, .int .i64 G, .slice E m cp] 67) = W at *
  go_at_call 32; refine hL.mono ?_; rintro e w1 ⟨cl, A, A', cap, cap', c, b, c', b', rfl, hLd⟩
  have HL : Hid (Laid W w1 P T G n (putF a v n m) cl A A' cap cap' c b c' b') := hLd
  have HB1 : Hid (Below w.heap.size w w1) := HB.out.trans (hLd.below.mono (by omega))
  have hX1 : Hid (Blk w1 w.heap.size #[.int .i64 P, .int .i64 T, .int .i64 G, .slice E m cp] 67) := hX.out.but (But.of_below (l := []) hLd.below) (by simp)
  have y0 := hX1.out.cell 0 (v := .int .i64 P) rfl
  have y1 := hX1.out.cell 1 (v := .int .i64 T) rfl
  have y2 := hX1.out.cell 2 (v := .int .i64 G) rfl
  clear hL hLd
  go_wp2_with fail
  go_at_call 45; refine (hTh _).mono ?_; rintro e w2 ⟨rfl, h2⟩
  have hT2 : Hid (Two w2 A A' cap cap' c b c' b' n (fresh (putF a v n m))) := HL.out.two.below h2
  have HB2 : Hid (Below w.heap.size w w2) := seq HB1.out h2
  have hX2 : Hid (Blk w2 w.heap.size #[.int .i64 P, .int .i64 T, .int .i64 G, .slice E m cp] 67) := hX1.out.but (But.of_below (l := []) h2) (by simp)
  have HLy2 : Hid (Lay w2 cl P T G) := HL.out.lay.below h2 HL.out.lay.lt
  obtain ⟨u1, u2, u3, u4, u5⟩ := HL.out.up
  have hup : Hid (w.heap.size ≤ c ∧ w.heap.size ≤ b ∧ w.heap.size ≤ c' ∧ w.heap.size ≤ b') := ⟨by omega, by omega, by omega, by omega⟩
  have hne := lay_ne HLy2.out (by decide) hT2.out.m hn0
  have hne2 := lay_ne HLy2.out (by decide) hT2.out.r hn0
  have hbx : w.heap.size ≠ c ∧ w.heap.size ≠ b ∧ w.heap.size ≠ c' ∧ w.heap.size ≠ b' ∧ w.heap.size ≠ cl := ⟨by omega, by omega, by omega, by omega, by omega⟩
  have hclup : w.heap.size ≤ cl := by omega
  have hN := note_new w2 cl P T G t HLy2.out HM.out
  have hNA : Hid (∀ Y s, Lay Y cl P T G → Is Y 101 A cap c b n s → Calls Try.prog 50 #[.pointer (some ⟨cl, 0, none⟩), .pointer (some ⟨c, 0, none⟩), .int .i64 t] Y fun e w' => e = .returned (.bool (decide (peekT n s (noteAt P T t) ≠ 0))) ∧ Below Y.heap.size Y w') := fun Y s h1 h2 => awake_note Y cl P T G t A cap c b n s h1 HM.out h2 hn6
  have hRS : Hid (∀ Y x A' cap' m g r, RunOn Y x A' cap' m g r → Calls Try.prog 47 #[.pointer (some ⟨x, 0, none⟩), .agg #[.int .i64 P, .int .i64 T, .int .i64 G], .int .i64 t] Y fun e w' => (∃ v, e = .returned v) ∧ RunOn w' x A' cap' m g (doS m (waitGo m g (noteAt P T t) (m + 2) 0 true r).2 2 (noteAt P T t) 0 0) ∧ But [x] Y w') := fun Y x A' cap' m g r h => rsleep_on Y x A' cap' m g r h P T G t HM.out ht
  generalize noteAt P T t = nt at *
  clear hTh h2 HL HB1 hX1 y0 y1 y2 u1 u2 u3 u4 u5
  go_wp2_with fail
  go_at_call 46; refine hN.mono ?_; rintro e w3 ⟨x, q, rfl, hr1, hr2, hb3, hu1, hu2⟩
  have HO0 : Hid (PokeOn w w3 A A' cap cap' c b c' b' n (fresh (putF a v n m)) (fresh (putF a v n m)) none 0 0 (fun _ => 0) [x, q, x, cl, w.heap.size]) := poke_begin2 hT2.out hb3 HB2.out hup.out (by
    have e1 := hr1.lt; have e2 := hr2.lt
    have e3 := hT2.out.m.lt; have e4 := hT2.out.m.bl; have e5 := hT2.out.r.lt; have e6 := hT2.out.r.bl
    have e7 := HB2.out.size; have e8 := HLy2.out.lt; have e9 := hX2.out.lt; have e10 := hb3.size
    obtain ⟨n1, n2⟩ := hne; obtain ⟨n3, n4⟩ := hne2; obtain ⟨n5, n6, n7, n8, n9⟩ := hbx
    intro k hk
    simp only [List.mem_cons, List.not_mem_nil, or_false] at hk
    rcases hk with rfl | rfl | rfl | rfl | rfl
    · clear n1 n2 n3 n4 n5 n6 n7 n8 n9; exact ⟨⟨by omega, by omega, by omega, by omega⟩, by omega, by omega⟩
    · clear n1 n2 n3 n4 n5 n6 n7 n8 n9; exact ⟨⟨by omega, by omega, by omega, by omega⟩, by omega, by omega⟩
    · clear n1 n2 n3 n4 n5 n6 n7 n8 n9; exact ⟨⟨by omega, by omega, by omega, by omega⟩, by omega, by omega⟩
    · exact ⟨⟨n1, n2, n3, n4⟩, Nat.lt_of_lt_of_le e8 e10, hclup⟩
    · exact ⟨⟨n5, n6, n7, n8⟩, Nat.lt_of_lt_of_le e9 e10, Nat.le_refl _⟩)
  have HM0 : Hid (Slp w3 x t nt q x 0 false) := .fresh q false hr1 hr2 (by omega)
  have HK0 : Hid (Lay w3 cl P T G ∧ Blk w3 w.heap.size #[.int .i64 P, .int .i64 T, .int .i64 G, .slice E m cp] 67) := ⟨HLy2.out.below hb3 HLy2.out.lt, hX2.out.but (But.of_below (l := []) hb3) (by simp)⟩
  have hxne : Hid (cl ≠ x ∧ w.heap.size ≠ x) := ⟨by have := HLy2.out.lt; omega, by have := hX2.out.lt; omega⟩
  have hqne : Hid (cl ≠ q ∧ w.heap.size ≠ q) := ⟨by have := HLy2.out.lt; omega, by have := hX2.out.lt; omega⟩
  clear hN hr1 hr2 hb3 hu1 hu2 hT2 HB2 hX2 HLy2 hX HB hsz
  go_wp2_with fail
  go_loopw [13, 14] (fun gv i wr => ∃ (k : Nat) (s : St) (Ag : Option Addr) (capg mz : Nat) (gf : Nat → Int) (q g ph : Nat) (asl : Bool), k ≤ mp ∧ i = .int .i64 k ∧ gv = .slice Ag mz capg ∧ mz ≤ 3 ∧ Hid (PokeOn w wr A A' cap cap' c b c' b' n s s Ag capg mz gf [x, q, g, cl, w.heap.size]) ∧ Hid (Slp wr x t nt q g ph asl) ∧ Hid (Low s (k : Int)) ∧ Hid (SlpGot mz gf ph asl) ∧ Hid (Lay wr cl P T G ∧ Blk wr w.heap.size #[.int .i64 P, .int .i64 T, .int .i64 G, .slice E m cp] 67) ∧ Hid (cl ≠ q ∧ w.heap.size ≠ q)) (fun _ i _ => mp - (intOf i).toNat)
  case atStart => exact ⟨0, _, none, 0, 0, _, q, x, 0, false, Nat.zero_le _, rfl, rfl, by omega, HO0, HM0, (low_fresh _), ⟨.inl ⟨rfl, rfl, rfl⟩⟩, HK0, hqne⟩
  case round =>
    clear HO0 HM0 HK0 hqne
    obtain ⟨k, s, Ag, capg, mg, gf, q, g, ph, asl, hk, rfl, rfl, hmg, HO, HM', HLW, HG, HK, HQ⟩ := hrel
    by_cases hlt : k < mp
    · obtain ⟨fb, foff, rfl, hfb, hcell⟩ := HP.out (by omega)
      have hcw : Hid (∀ i u, (pkC Pks k)[i]? = some u → wr.cell? ⟨fb, foff + k * 6 + i, none⟩ = some u) := fun i u hu => (HO.out.below.cell (p := ⟨fb, foff + k * 6 + i, none⟩) hfb).trans (hcell k hlt i u hu)
      have pz := hcw.out 0 (.bool (Pks k).z) rfl
      have hk0 : (0 : Int) ≤ (k : Int) := Int.natCast_nonneg _
      have hk1 : (k : Int) < (mp : Int) := by omega
      clear hcell
      rw [Nat.add_zero] at pz
      cases hz : (Pks k).z
      · rw [hz] at pz
        have HRA : Hid (wr.rangeAt fb (foff + k * 6 + 1) [.int .i64 (Pks k).k, .int .i64 (Pks k).p, .int .i64 (Pks k).i, .int .u64 (Pks k).o, .int .u64 (Pks k).v]) := fun j u hu => by
          have := hcw.out (1 + j) u (by rw [show pkC Pks k = .bool (Pks k).z :: [.int .i64 (Pks k).k, .int .i64 (Pks k).p, .int .i64 (Pks k).i, .int .u64 (Pks k).o, .int .u64 (Pks k).v] from rfl, Nat.add_comm 1 j, List.getElem?_cons_succ]; exact hu)
          rw [← Nat.add_assoc] at this
          exact this
        clear hz hcw
        go_wp2_with (refine wpList_load_mid rfl 36 _ rfl fb (foff + k * 6 + 1) rfl [.int .i64 (Pks k).k, .int .i64 (Pks k).p, .int .i64 (Pks k).i, .int .u64 (Pks k).o, .int .u64 (Pks k).v] _ HRA.out Try.underlying36 rfl (by kernel_rfl) ?_)
        go_at_call 17; refine (HO.out.poke hn6 (HLW.out.more (by omega)) (Pks k).k (Pks k).p (Pks k).i (Pks k).o (Pks k).v (HPV.out k hlt)).mono ?_; rintro e w9 ⟨rfl, hO, hB⟩
        have HO9 : Hid _ := hO
        have hfar : ∀ z ∈ [x, q, g, cl, w.heap.size], z ∉ [c, b, c', b'] := fun z hz => by
          obtain ⟨h1, h2, h3, h4⟩ := (HO.out.far z hz).1
          simp [h1, h2, h3, h4]
        have HM9 : Hid (Slp w9 x t nt q g ph asl) := HM'.out.but hB (hfar x (by simp)) (hfar q (by simp)) (hfar g (by simp))
        have HK9 : Hid (Lay w9 cl P T G ∧ Blk w9 w.heap.size #[.int .i64 P, .int .i64 T, .int .i64 G, .slice E m cp] 67) := ⟨(hB.block cl HK.out.1.lt (hfar cl (by simp))).trans HK.out.1, HK.out.2.but hB (hfar _ (by simp))⟩
        have HLW9 : Hid (Low (actS (Pks k).k (Pks k).p (Pks k).i (Pks k).o (Pks k).v n s) (((k + 1 : Nat)) : Int)) := (actS_low HLW.out _ _ _ _ _ _).more (by omega)
        clear hO hB HO HM' HK hfar HRA pz
        go_wp2_with fail
        go_roundw
        case rel => exact ⟨k + 1, _, Ag, capg, mg, gf, q, g, ph, asl, by omega, by go_num, rfl, hmg, HO9, HM9, HLW9, HG, HK9, HQ⟩
        case measure => simp [intOf]; omega
      · rw [hz] at pz
        clear hz hcw
        have hR0 : Hid (RunOn (wr.alloc (.cells (runL (.slice Ag mg capg) rn0).toArray 43)) wr.heap.size Ag capg mg gf rn0) := run_starts HO.out.got (by omega)
        have hb0 : Hid (Below wr.heap.size wr (wr.alloc (.cells (runL (.slice Ag mg capg) rn0).toArray 43))) := (Below.refl _ _).alloc (Nat.le_refl _) _
        have hRR := hRS.out _ _ Ag capg mg gf rn0 hR0.out
        rw [HG.out.run] at hRR
        have y0 := HK.out.2.cell 0 (v := .int .i64 P) rfl
        have y1 := HK.out.2.cell 1 (v := .int .i64 T) rfl
        have y2 := HK.out.2.cell 2 (v := .int .i64 G) rfl
        have hbl := HK.out.2.lt
        go_wp2_with fail
        go_at_call 47; refine hRR.mono ?_; rintro e w4 ⟨⟨v4, rfl⟩, hR4, hB4⟩
        have hb4 : Below wr.heap.size wr w4 := hb0.out.trans (hB4.below (by simp) (by simp))
        have HO4 : Hid (PokeOn w w4 A A' cap cap' c b c' b' n s s Ag capg mg gf [x, q, g, cl, w.heap.size]) := HO.out.still hb4
        have HM4 : Hid (Slp w4 x t nt q g ph asl) := HM'.out.below hb4
        have HK4 : Hid (Lay w4 cl P T G ∧ Blk w4 w.heap.size #[.int .i64 P, .int .i64 T, .int .i64 G, .slice E m cp] 67) := ⟨HK.out.1.below hb4 HK.out.1.lt, HK.out.2.but (But.of_below (l := []) hb4) (by simp)⟩
        have hR4' : Hid (RunOn w4 wr.heap.size Ag capg mg gf (slpRn nt mg ph asl)) := hR4
        have hPk := rpeek_any w4 A' cap' c' b' n s nt hn6 HO4.out.ref
        have hs4 : wr.heap.size < w4.heap.size := hR4.blk.lt
        clear hRR hR4 hB4 hR0 hb0 hb4 HO HM' HK y0 y1 y2 hbl pz
        have HPV2 : Hid (peekT n s nt = peekT n s nt) := rfl
        go_wp2_with fail
        go_at_call 19; refine hPk.mono ?_; rintro e w4b ⟨rfl, rfl⟩
        clear hPk
        by_cases hpv0 : peekT n s nt = 0
        · have hphs : (ph = 0 ∧ asl = false) ∨ (ph = 0 ∧ asl = true) ∨ (ph = 1 ∧ asl = false) ∨ (ph = 2 ∧ asl = false) := by
            rcases HG.out.h with h | h | h | h
            · exact .inl ⟨h.1, h.2.1⟩
            · exact .inr (.inl ⟨h.1, h.2.1⟩)
            · exact .inr (.inr (.inl ⟨h.1, h.2.1⟩))
            · exact .inr (.inr (.inr ⟨h.1, h.2.1⟩))
          rcases hphs with ⟨rfl, rfl⟩ | ⟨rfl, rfl⟩ | ⟨rfl, rfl⟩ | ⟨rfl, rfl⟩
          · obtain rfl : mg = 0 := HG.out.zero
            rw [show slpRn nt 0 0 false = (⟨0, true, 1, nt, 0, 0, false⟩ : Rn) from rfl] at hR4'
            have s2 := hR4'.out.blk.cell 2 (v := .bool true) rfl
            have s9 := hR4'.out.blk.cell 9 (v := .bool false) rfl
            have KR : Hid (∀ Y, Below w4.heap.size w4 Y → Y.cell? ⟨wr.heap.size, 2, none⟩ = some (.bool true) ∧ Y.cell? ⟨wr.heap.size, 9, none⟩ = some (.bool false) ∧ Below w4.heap.size w4 Y) := fun Y hY => ⟨(hR4'.out.below hY).blk.cell 2 rfl, (hR4'.out.below hY).blk.cell 9 rfl, hY⟩
            have HD : Hid (∀ Y, Below w4.heap.size w4 Y → Calls Try.prog 48 #[.pointer (some ⟨x, 0, none⟩)] Y fun e w' => e = .returned (.bool false) ∧ w'.cell? ⟨wr.heap.size, 2, none⟩ = some (.bool true) ∧ w'.cell? ⟨wr.heap.size, 9, none⟩ = some (.bool false) ∧ Below w4.heap.size w4 w') := fun Y hY => by
              obtain ⟨nx, hx1, hx2⟩ := (HM4.out.below hY).next
              have := slp_done Y x nx hx1
              rw [hx2, show decide (0 = 2) = false from rfl] at this
              exact this.mono fun _ _ h => ⟨h.1, by rw [← h.2]; exact KR.out Y hY⟩
            have HA : Hid (∀ Y, Below w4.heap.size w4 Y → Calls Try.prog 49 #[.pointer (some ⟨x, 0, none⟩), .pointer (some ⟨c, 0, none⟩)] Y fun e w' => e = .returned (.bool false) ∧ w'.cell? ⟨wr.heap.size, 2, none⟩ = some (.bool true) ∧ w'.cell? ⟨wr.heap.size, 9, none⟩ = some (.bool false) ∧ Below w4.heap.size w4 w') := fun Y hY => by
              have := slp_asl Y A cap c b n s x q g 0 t nt false (HO4.out.mem.below hY) hn6 (HM4.out.below hY)
              rw [show (false && decide (peekT n s nt = 0)) = false by simp [hpv0]] at this
              exact this.mono fun _ _ h => ⟨h.1, KR.out _ (hY.trans (h.2.mono hY.size))⟩
            have HW : Hid (∀ Y, Below w4.heap.size w4 Y → Calls Try.prog 50 #[.pointer (some ⟨cl, 0, none⟩), .pointer (some ⟨c, 0, none⟩), .int .i64 t] Y fun e w' => e = .returned (.bool false) ∧ Below w4.heap.size w4 w') := fun Y hY => by
              have := hNA.out Y s (HK4.out.1.below hY HK4.out.1.lt) (HO4.out.mem.below hY)
              rw [show decide (peekT n s nt ≠ 0) = false by simp [hpv0]] at this
              exact this.mono fun _ _ h => ⟨h.1, hY.trans (h.2.mono hY.size)⟩
            have hd0 : Below w4.heap.size w4 w4.drew := (Below.refl _ _).drew
            have HPZ : Hid (peekT n s nt = 0) := hpv0
            rw [hpv0]
            clear hpv0
            go_wp2_with fail
            refine wp_region_held_drew (S := (fun w' => w'.cell? ⟨wr.heap.size, 2, none⟩ = some (.bool true) ∧ w'.cell? ⟨wr.heap.size, 9, none⟩ = some (.bool false) ∧ Below w4.heap.size w4 w')) (by kernel_rfl) ⟨s2, s9, hd0⟩ (fun hHeld => ?_)
            refine wpAnyH_take (i := 0) (oi := ({ dst := some 83, op := Op.move (Operand.tmp 12), type := 89, pos := "law.go:42", after := #[], guard := none } : Oper)) (v := ?vv1) rfl (by kernel_rfl) (by kernel_rfl) (by kernel_rfl) (fun _ _ _ h => h) (Or.inl ⟨by rfl, ?hy1⟩) (by assumption) ?rest1
            case hy1 => (intro w hSw; (try dsimp only at hSw); go_simp; try (with_reducible rfl))
            try simp only [Act.put, List.setIfInBounds_toArray, List.set_cons_zero, List.set_cons_succ]
            refine wpAnyH_take (i := 2) (oi := ({ dst := some 85, op := Op.fieldAddr 43 (Operand.tmp 15) 2, type := 0, pos := "law.go:42", after := #[], guard := none } : Oper)) (v := ?vv2) rfl (by kernel_rfl) (by kernel_rfl) (by kernel_rfl) (fun _ _ _ h => h) (Or.inl ⟨by rfl, ?hy2⟩) (by assumption) ?rest2
            case hy2 => (intro w hSw; (try dsimp only at hSw); go_simp; try (with_reducible rfl))
            try simp only [Act.put, List.setIfInBounds_toArray, List.set_cons_zero, List.set_cons_succ]
            refine wpAnyH_take (i := 3) (oi := ({ dst := some 86, op := Op.load 4 (Operand.tmp 85), type := 4, pos := "law.go:42", after := #[{ on := 2, ground := Ground.data }], guard := none } : Oper)) (v := ?vv3) rfl (by kernel_rfl) (by kernel_rfl) (by kernel_rfl) (fun _ _ _ h => h) (Or.inl ⟨by rfl, ?hy3⟩) (by assumption) ?rest3
            case hy3 => (intro w hSw; (try dsimp only at hSw); go_simp; try (with_reducible rfl))
            try simp only [Act.put, List.setIfInBounds_toArray, List.set_cons_zero, List.set_cons_succ]
            refine wpAnyH_ready (rs := [1]) (by kernel_rfl) (by simp) ?_
            refine AllReadyH.cons (o := ({ dst := some 84, op := Op.call { callee := Callee.value (Operand.func 48), args := #[Operand.tmp 83], argTypes := #[89] }, type := 4, pos := "law.go:42", after := #[{ on := 0, ground := Ground.data }], guard := none } : Oper)) rfl (fun K hK => ?_) AllReadyH.nil
            go_simp
            go_at_call 48; refine (HD.out _ hHeld.2.2).mono ?_; rintro e z1 ⟨rfl, hz1⟩
            refine hK.out _ _ hz1 (fun hHeld => ?_)
            clear hK K
            try simp only [Act.put, List.setIfInBounds_toArray, List.set_cons_zero, List.set_cons_succ]
            refine wpAnyH_take (i := 4) (oi := ({ dst := some 87, op := Op.binOp BinOp.eql 4 (Operand.tmp 84) (Operand.tmp 86) 4, type := 4, pos := "law.go:42", after := #[{ on := 1, ground := Ground.data }, { on := 3, ground := Ground.data }], guard := none } : Oper)) (v := ?vv4) rfl (by kernel_rfl) (by kernel_rfl) (by kernel_rfl) (fun _ _ _ h => h) (Or.inl ⟨by rfl, ?hy4⟩) (by assumption) ?rest4
            case hy4 => (intro w hSw; (try dsimp only at hSw); go_simp; try (with_reducible rfl))
            try simp only [Act.put, List.setIfInBounds_toArray, List.set_cons_zero, List.set_cons_succ]
            refine wpAnyH_take (i := 5) (oi := ({ dst := some 88, op := Op.move (Operand.tmp 87), type := 4, pos := "law.go:42", after := #[{ on := 4, ground := Ground.data }, { on := 1, ground := Ground.chain }], guard := none } : Oper)) (v := ?vv5) rfl (by kernel_rfl) (by kernel_rfl) (by kernel_rfl) (fun _ _ _ h => h) (Or.inl ⟨by rfl, ?hy5⟩) (by assumption) ?rest5
            case hy5 => (intro w hSw; (try dsimp only at hSw); go_simp; try (with_reducible rfl))
            try simp only [Act.put, List.setIfInBounds_toArray, List.set_cons_zero, List.set_cons_succ]
            refine wpAnyH_take (i := 6) (oi := ({ dst := some 89, op := Op.move (Operand.tmp 12), type := 89, pos := "law.go:42", after := #[{ on := 5, ground := Ground.guard }], guard := some (5, false) } : Oper)) (v := ?vv6) rfl (by kernel_rfl) (by kernel_rfl) (by kernel_rfl) (fun _ _ _ h => h) (Or.inl ⟨by rfl, ?hy6⟩) (by assumption) ?rest6
            case hy6 => (intro w hSw; (try dsimp only at hSw); go_simp; try (with_reducible rfl))
            try simp only [Act.put, List.setIfInBounds_toArray, List.set_cons_zero, List.set_cons_succ]
            refine wpAnyH_take (i := 7) (oi := ({ dst := some 90, op := Op.move (Operand.tmp 8), type := 26, pos := "law.go:42", after := #[{ on := 5, ground := Ground.guard }], guard := some (5, false) } : Oper)) (v := ?vv7) rfl (by kernel_rfl) (by kernel_rfl) (by kernel_rfl) (fun _ _ _ h => h) (Or.inl ⟨by rfl, ?hy7⟩) (by assumption) ?rest7
            case hy7 => (intro w hSw; (try dsimp only at hSw); go_simp; try (with_reducible rfl))
            try simp only [Act.put, List.setIfInBounds_toArray, List.set_cons_zero, List.set_cons_succ]
            refine wpAnyH_take (i := 9) (oi := ({ dst := some 92, op := Op.fieldAddr 43 (Operand.tmp 15) 2, type := 0, pos := "law.go:42", after := #[{ on := 5, ground := Ground.guard }], guard := some (5, false) } : Oper)) (v := ?vv8) rfl (by kernel_rfl) (by kernel_rfl) (by kernel_rfl) (fun _ _ _ h => h) (Or.inl ⟨by rfl, ?hy8⟩) (by assumption) ?rest8
            case hy8 => (intro w hSw; (try dsimp only at hSw); go_simp; try (with_reducible rfl))
            try simp only [Act.put, List.setIfInBounds_toArray, List.set_cons_zero, List.set_cons_succ]
            refine wpAnyH_take (i := 10) (oi := ({ dst := some 93, op := Op.load 4 (Operand.tmp 92), type := 4, pos := "law.go:42", after := #[{ on := 9, ground := Ground.data }, { on := 5, ground := Ground.guard }], guard := some (5, false) } : Oper)) (v := ?vv9) rfl (by kernel_rfl) (by kernel_rfl) (by kernel_rfl) (fun _ _ _ h => h) (Or.inl ⟨by rfl, ?hy9⟩) (by assumption) ?rest9
            case hy9 => (intro w hSw; (try dsimp only at hSw); go_simp; try (with_reducible rfl))
            try simp only [Act.put, List.setIfInBounds_toArray, List.set_cons_zero, List.set_cons_succ]
            refine wpAnyH_ready (rs := [8]) (by kernel_rfl) (by simp) ?_
            refine AllReadyH.cons (o := ({ dst := some 91, op := Op.call { callee := Callee.value (Operand.func 49), args := #[Operand.tmp 89, Operand.tmp 90], argTypes := #[89, 26] }, type := 4, pos := "law.go:42", after := #[{ on := 6, ground := Ground.data }, { on := 7, ground := Ground.data }, { on := 5, ground := Ground.chain }, { on := 5, ground := Ground.guard }], guard := some (5, false) } : Oper)) rfl (fun K hK => ?_) AllReadyH.nil
            go_simp
            go_at_call 49; refine (HA.out _ hHeld.2.2).mono ?_; rintro e z2 ⟨rfl, hz2⟩
            refine hK.out _ _ hz2 (fun hHeld => ?_)
            clear hK K
            try simp only [Act.put, List.setIfInBounds_toArray, List.set_cons_zero, List.set_cons_succ]
            refine wpAnyH_take (i := 11) (oi := ({ dst := some 94, op := Op.move (Operand.tmp 93), type := 4, pos := "law.go:42", after := #[{ on := 10, ground := Ground.data }, { on := 8, ground := Ground.chain }, { on := 5, ground := Ground.guard }], guard := some (5, false) } : Oper)) (v := ?vv10) rfl (by kernel_rfl) (by kernel_rfl) (by kernel_rfl) (fun _ _ _ h => h) (Or.inl ⟨by rfl, ?hy10⟩) (by assumption) ?rest10
            case hy10 => (intro w hSw; (try dsimp only at hSw); go_simp; try (with_reducible rfl))
            try simp only [Act.put, List.setIfInBounds_toArray, List.set_cons_zero, List.set_cons_succ]
            refine wpAnyH_take (i := 12) (oi := ({ dst := some 95, op := Op.fieldAddr 43 (Operand.tmp 15) 4, type := 0, pos := "law.go:42", after := #[{ on := 11, ground := Ground.guard }], guard := some (11, true) } : Oper)) (v := ?vv11) rfl (by kernel_rfl) (by kernel_rfl) (by kernel_rfl) (fun _ _ _ h => h) (Or.inl ⟨by rfl, ?hy11⟩) (by assumption) ?rest11
            case hy11 => (intro w hSw; (try dsimp only at hSw); go_simp; try (with_reducible rfl))
            try simp only [Act.put, List.setIfInBounds_toArray, List.set_cons_zero, List.set_cons_succ]
            refine wpAnyH_take (i := 13) (oi := ({ dst := some 96, op := Op.load 4 (Operand.tmp 95), type := 4, pos := "law.go:42", after := #[{ on := 12, ground := Ground.data }, { on := 11, ground := Ground.guard }], guard := some (11, true) } : Oper)) (v := ?vv12) rfl (by kernel_rfl) (by kernel_rfl) (by kernel_rfl) (fun _ _ _ h => h) (Or.inl ⟨by rfl, ?hy12⟩) (by assumption) ?rest12
            case hy12 => (intro w hSw; (try dsimp only at hSw); go_simp; try (with_reducible rfl))
            try simp only [Act.put, List.setIfInBounds_toArray, List.set_cons_zero, List.set_cons_succ]
            refine wpAnyH_take (i := 14) (oi := ({ dst := some 97, op := Op.pick (Operand.tmp 94) (Operand.tmp 96) (Operand.const (Value.bool false)), type := 4, pos := "law.go:42", after := #[{ on := 11, ground := Ground.data }, { on := 13, ground := Ground.data }, { on := 5, ground := Ground.guard }], guard := some (5, false) } : Oper)) (v := ?vv13) rfl (by kernel_rfl) (by kernel_rfl) (by kernel_rfl) (fun _ _ _ h => h) (Or.inl ⟨by rfl, ?hy13⟩) (by assumption) ?rest13
            case hy13 => (intro w hSw; (try dsimp only at hSw); go_simp; try (with_reducible rfl))
            try simp only [Act.put, List.setIfInBounds_toArray, List.set_cons_zero, List.set_cons_succ]
            refine wpAnyH_take (i := 15) (oi := ({ dst := some 98, op := Op.move (Operand.tmp 97), type := 4, pos := "law.go:42", after := #[{ on := 14, ground := Ground.data }, { on := 11, ground := Ground.chain }, { on := 5, ground := Ground.guard }], guard := some (5, false) } : Oper)) (v := ?vv14) rfl (by kernel_rfl) (by kernel_rfl) (by kernel_rfl) (fun _ _ _ h => h) (Or.inl ⟨by rfl, ?hy14⟩) (by assumption) ?rest14
            case hy14 => (intro w hSw; (try dsimp only at hSw); go_simp; try (with_reducible rfl))
            try simp only [Act.put, List.setIfInBounds_toArray, List.set_cons_zero, List.set_cons_succ]
            refine wpAnyH_take (i := 16) (oi := ({ dst := some 99, op := Op.move (Operand.tmp 16), type := 34, pos := "law.go:42", after := #[{ on := 15, ground := Ground.guard }], guard := some (15, true) } : Oper)) (v := undef) rfl (by kernel_rfl) (by kernel_rfl) (by kernel_rfl) (fun _ _ _ h => h) (Or.inr ⟨by rfl, rfl⟩) (by assumption) ?_
            try simp only [Act.put, List.setIfInBounds_toArray, List.set_cons_zero, List.set_cons_succ]
            refine wpAnyH_take (i := 17) (oi := ({ dst := some 100, op := Op.binOp BinOp.eql 34 (Operand.tmp 99) (Operand.const (Value.int IntKind.u64 0)) 34, type := 4, pos := "law.go:42", after := #[{ on := 16, ground := Ground.data }, { on := 15, ground := Ground.guard }], guard := some (15, true) } : Oper)) (v := undef) rfl (by kernel_rfl) (by kernel_rfl) (by kernel_rfl) (fun _ _ _ h => h) (Or.inr ⟨by rfl, rfl⟩) (by assumption) ?_
            try simp only [Act.put, List.setIfInBounds_toArray, List.set_cons_zero, List.set_cons_succ]
            refine wpAnyH_take (i := 18) (oi := ({ dst := some 101, op := Op.pick (Operand.tmp 98) (Operand.tmp 100) (Operand.const (Value.bool false)), type := 4, pos := "law.go:42", after := #[{ on := 15, ground := Ground.data }, { on := 17, ground := Ground.data }, { on := 5, ground := Ground.guard }], guard := some (5, false) } : Oper)) (v := ?vv17) rfl (by kernel_rfl) (by kernel_rfl) (by kernel_rfl) (fun _ _ _ h => h) (Or.inl ⟨by rfl, ?hy17⟩) (by assumption) ?rest17
            case hy17 => (intro w hSw; (try dsimp only at hSw); go_simp; try (with_reducible rfl))
            try simp only [Act.put, List.setIfInBounds_toArray, List.set_cons_zero, List.set_cons_succ]
            refine wpAnyH_take (i := 19) (oi := ({ dst := some 102, op := Op.binOp BinOp.neq 4 (Operand.tmp 91) (Operand.tmp 101) 4, type := 4, pos := "law.go:42", after := #[{ on := 8, ground := Ground.data }, { on := 18, ground := Ground.data }, { on := 5, ground := Ground.guard }], guard := some (5, false) } : Oper)) (v := ?vv18) rfl (by kernel_rfl) (by kernel_rfl) (by kernel_rfl) (fun _ _ _ h => h) (Or.inl ⟨by rfl, ?hy18⟩) (by assumption) ?rest18
            case hy18 => (intro w hSw; (try dsimp only at hSw); go_simp; try (with_reducible rfl))
            try simp only [Act.put, List.setIfInBounds_toArray, List.set_cons_zero, List.set_cons_succ]
            refine wpAnyH_take (i := 20) (oi := ({ dst := some 103, op := Op.pick (Operand.tmp 88) (Operand.const (Value.bool true)) (Operand.tmp 102), type := 4, pos := "law.go:42", after := #[{ on := 5, ground := Ground.data }, { on := 19, ground := Ground.data }], guard := none } : Oper)) (v := ?vv19) rfl (by kernel_rfl) (by kernel_rfl) (by kernel_rfl) (fun _ _ _ h => h) (Or.inl ⟨by rfl, ?hy19⟩) (by assumption) ?rest19
            case hy19 => (intro w hSw; (try dsimp only at hSw); go_simp; try (with_reducible rfl))
            try simp only [Act.put, List.setIfInBounds_toArray, List.set_cons_zero, List.set_cons_succ]
            refine wpAnyH_take (i := 21) (oi := ({ dst := some 104, op := Op.move (Operand.tmp 103), type := 4, pos := "law.go:42", after := #[{ on := 20, ground := Ground.data }, { on := 15, ground := Ground.chain }], guard := none } : Oper)) (v := ?vv20) rfl (by kernel_rfl) (by kernel_rfl) (by kernel_rfl) (fun _ _ _ h => h) (Or.inl ⟨by rfl, ?hy20⟩) (by assumption) ?rest20
            case hy20 => (intro w hSw; (try dsimp only at hSw); go_simp; try (with_reducible rfl))
            try simp only [Act.put, List.setIfInBounds_toArray, List.set_cons_zero, List.set_cons_succ]
            refine wpAnyH_take (i := 22) (oi := ({ dst := some 105, op := Op.move (Operand.tmp 7), type := 69, pos := "law.go:42", after := #[{ on := 21, ground := Ground.guard }], guard := some (21, false) } : Oper)) (v := ?vv21) rfl (by kernel_rfl) (by kernel_rfl) (by kernel_rfl) (fun _ _ _ h => h) (Or.inl ⟨by rfl, ?hy21⟩) (by assumption) ?rest21
            case hy21 => (intro w hSw; (try dsimp only at hSw); go_simp; try (with_reducible rfl))
            try simp only [Act.put, List.setIfInBounds_toArray, List.set_cons_zero, List.set_cons_succ]
            refine wpAnyH_take (i := 23) (oi := ({ dst := some 106, op := Op.move (Operand.tmp 8), type := 26, pos := "law.go:42", after := #[{ on := 21, ground := Ground.guard }], guard := some (21, false) } : Oper)) (v := ?vv22) rfl (by kernel_rfl) (by kernel_rfl) (by kernel_rfl) (fun _ _ _ h => h) (Or.inl ⟨by rfl, ?hy22⟩) (by assumption) ?rest22
            case hy22 => (intro w hSw; (try dsimp only at hSw); go_simp; try (with_reducible rfl))
            try simp only [Act.put, List.setIfInBounds_toArray, List.set_cons_zero, List.set_cons_succ]
            refine wpAnyH_take (i := 24) (oi := ({ dst := some 107, op := Op.move (Operand.tmp 1), type := 3, pos := "law.go:42", after := #[{ on := 21, ground := Ground.guard }], guard := some (21, false) } : Oper)) (v := ?vv23) rfl (by kernel_rfl) (by kernel_rfl) (by kernel_rfl) (fun _ _ _ h => h) (Or.inl ⟨by rfl, ?hy23⟩) (by assumption) ?rest23
            case hy23 => (intro w hSw; (try dsimp only at hSw); go_simp; try (with_reducible rfl))
            try simp only [Act.put, List.setIfInBounds_toArray, List.set_cons_zero, List.set_cons_succ]
            refine wpAnyH_take (i := 26) (oi := ({ dst := some 109, op := Op.move (Operand.tmp 16), type := 34, pos := "law.go:42", after := #[{ on := 21, ground := Ground.guard }], guard := some (21, false) } : Oper)) (v := ?vv24) rfl (by kernel_rfl) (by kernel_rfl) (by kernel_rfl) (fun _ _ _ h => h) (Or.inl ⟨by rfl, ?hy24⟩) (by assumption) ?rest24
            case hy24 => (intro w hSw; (try dsimp only at hSw); go_simp; try (with_reducible rfl))
            try simp only [Act.put, List.setIfInBounds_toArray, List.set_cons_zero, List.set_cons_succ]
            refine wpAnyH_take (i := 27) (oi := ({ dst := some 110, op := Op.binOp BinOp.neq 34 (Operand.tmp 109) (Operand.const (Value.int IntKind.u64 0)) 34, type := 4, pos := "law.go:42", after := #[{ on := 26, ground := Ground.data }, { on := 21, ground := Ground.guard }], guard := some (21, false) } : Oper)) (v := ?vv25) rfl (by kernel_rfl) (by kernel_rfl) (by kernel_rfl) (fun _ _ _ h => h) (Or.inl ⟨by rfl, ?hy25⟩) (by assumption) ?rest25
            case hy25 => (intro w hSw; (try dsimp only at hSw); go_simp; try (with_reducible rfl))
            try simp only [Act.put, List.setIfInBounds_toArray, List.set_cons_zero, List.set_cons_succ]
            refine wpAnyH_ready (rs := [25]) (by kernel_rfl) (by simp) ?_
            refine AllReadyH.cons (o := ({ dst := some 108, op := Op.call { callee := Callee.value (Operand.func 50), args := #[Operand.tmp 105, Operand.tmp 106, Operand.tmp 107], argTypes := #[69, 26, 3] }, type := 4, pos := "law.go:42", after := #[{ on := 22, ground := Ground.data }, { on := 23, ground := Ground.data }, { on := 24, ground := Ground.data }, { on := 21, ground := Ground.chain }, { on := 21, ground := Ground.guard }], guard := some (21, false) } : Oper)) rfl (fun K hK => ?_) AllReadyH.nil
            go_simp
            go_at_call 50; refine (HW.out _ hHeld.2.2).mono ?_; rintro e z3 ⟨rfl, hz3⟩
            refine hK.out _ _ (KR.out _ hz3) (fun hHeld => ?_)
            clear hK K
            try simp only [Act.put, List.setIfInBounds_toArray, List.set_cons_zero, List.set_cons_succ]
            refine wpAnyH_take (i := 28) (oi := ({ dst := some 111, op := Op.binOp BinOp.neq 4 (Operand.tmp 108) (Operand.tmp 110) 4, type := 4, pos := "law.go:42", after := #[{ on := 25, ground := Ground.data }, { on := 27, ground := Ground.data }, { on := 21, ground := Ground.guard }], guard := some (21, false) } : Oper)) (v := ?vv26) rfl (by kernel_rfl) (by kernel_rfl) (by kernel_rfl) (fun _ _ _ h => h) (Or.inl ⟨by rfl, ?hy26⟩) (by assumption) ?rest26
            case hy26 => (intro w hSw; (try dsimp only at hSw); go_simp; try (with_reducible rfl))
            try simp only [Act.put, List.setIfInBounds_toArray, List.set_cons_zero, List.set_cons_succ]
            refine wpAnyH_take (i := 29) (oi := ({ dst := some 112, op := Op.pick (Operand.tmp 104) (Operand.const (Value.bool true)) (Operand.tmp 111), type := 4, pos := "law.go:42", after := #[{ on := 21, ground := Ground.data }, { on := 28, ground := Ground.data }], guard := none } : Oper)) (v := ?vv27) rfl (by kernel_rfl) (by kernel_rfl) (by kernel_rfl) (fun _ _ _ h => h) (Or.inl ⟨by rfl, ?hy27⟩) (by assumption) ?rest27
            case hy27 => (intro w hSw; (try dsimp only at hSw); go_simp; try (with_reducible rfl))
            try simp only [Act.put, List.setIfInBounds_toArray, List.set_cons_zero, List.set_cons_succ]
            refine wpAnyH_done (by kernel_rfl) ?_ _
            have HO5 : Hid (PokeOn w z3 A A' cap cap' c b c' b' n s s Ag capg 0 gf [x, q, g, cl, w.heap.size]) := HO4.out.still hz3
            have HM5 : Hid (Slp z3 x t nt q g 0 false) := HM4.out.below hz3
            have HK5 : Hid (Lay z3 cl P T G ∧ Blk z3 w.heap.size #[.int .i64 P, .int .i64 T, .int .i64 G, .slice E m cp] 67) := ⟨HK4.out.1.below hz3 HK4.out.1.lt, HK4.out.2.but (But.of_below (l := []) hz3) (by simp)⟩
            have hRg : Hid (z3.rangeAt wr.heap.size 0 (runL (.slice Ag 0 capg) ⟨0, true, 1, nt, 0, 0, false⟩)) := (hR4'.out.below hz3).range
            clear HD HA HW KR HO4 HM4 HK4 hR4' s2 s9 hz1 hz2 hz3 hd0
            have hTu := turn_does z3 Ag capg 0 gf ⟨0, true, 1, nt, 0, 0, false⟩ A' cap' c' b' n s t rfl (fun h => by cases h) (show (1 : Int) ≤ 1 ∧ (1 : Int) ≤ 4 from by omega) (fun _ => rfl) (show (0 : Int) ≤ 0 ∧ (0 : Int) ≤ 18446744073709551615 from by omega) hn6 (by omega) (HLW.out.more (by omega)) HO5.out.ref HO5.out.got (HO5.out.gfar.of (by intro k hk; simp at hk ⊢; omega))
            rw [show actS 1 t nt 0 0 n s = slpS t nt n 0 false s by simp [actS, slpS], show actA 1 nt 0 0 n s = peekT n s nt by rw [show actA 1 nt 0 0 n s = ans 1 nt 0 0 n s by simp [actA]]; exact ans_peek _ _ _] at hTu
            go_wp2_with (refine wpList_load_mid rfl 43 _ rfl wr.heap.size 0 rfl (runL (.slice Ag 0 capg) ⟨0, true, 1, nt, 0, 0, false⟩) _ hRg.out Try.underlying43 rfl (by kernel_rfl) ?_; clear hRg)
            go_at_call 22; refine hTu.mono ?_; rintro e w6 ⟨gb, cap2, rfl, hG6, hI6, hB6, hg6⟩
            have HO6 : Hid (PokeOn w w6 A A' cap cap' c b c' b' n s (slpS t nt n 0 false s) (some ⟨gb, 0, none⟩) cap2 (0 + 1) _ [x, q, g, cl, w.heap.size]) := HO5.out.turned hG6 hI6 hB6 hg6
            have HM6 : Hid (Slp w6 x t nt q g 0 false) := HM5.out.but hB6 (HO5.out.apart (by simp)) (HO5.out.apart (by simp)) (HO5.out.apart (by simp))
            have HK6 : Hid (Lay w6 cl P T G ∧ Blk w6 w.heap.size #[.int .i64 P, .int .i64 T, .int .i64 G, .slice E m cp] 67) := ⟨(hB6.block cl HK5.out.1.lt (HO5.out.apart (by simp))).trans HK5.out.1, HK5.out.2.but hB6 (HO5.out.apart (by simp))⟩
            have HG6 : Hid (SlpGot (0 + 1) (gsnoc gf 0 (peekT n s nt)) 0 true) := ⟨.inr (.inl ⟨rfl, rfl, rfl, by simp [gsnoc, HPZ.out]⟩)⟩
            clear hTu hG6 hI6 hB6 hg6 HO5 HM5 HG HK5
            have hSt := slp_on w6 A cap c b n s x q g 0 t nt false HO6.out.mem hn6 (HLW.out.more (by omega)) HM6.out ⟨(HO6.out.far x (by simp)).1.1, (HO6.out.far x (by simp)).1.2.1, (HO6.out.far q (by simp)).1.1, (HO6.out.far q (by simp)).1.2.1, (HO6.out.far g (by simp)).1.1, (HO6.out.far g (by simp)).1.2.1⟩
            rw [show slpP nt n 0 s = 0 by simp [slpP, HPZ.out], show slpA nt n 0 s = true by simp [slpA, HPZ.out], show decide (0 = 2) = false from rfl] at hSt
            go_wp2_with fail
            go_at_call 51; refine hSt.mono ?_; rintro e w7 ⟨q7, g7, rfl, hM7, hI7, hB7, hF7, hq7, hg7⟩
            have HM7 : Hid _ := hM7
            have hlt7 := hM7.lt
            have hcl7 := HK6.out.1.lt
            have hbx7 := HK6.out.2.lt
            have HK7 : Hid (Lay w7 cl P T G ∧ Blk w7 w.heap.size #[.int .i64 P, .int .i64 T, .int .i64 G, .slice E m cp] 67) := ⟨(hB7.block cl HK6.out.1.lt (by simp [hne, hxne.out, HQ.out])).trans HK6.out.1, HK6.out.2.but hB7 (by simp [hbx, hxne.out, HQ.out])⟩
            have HQ7 : Hid (cl ≠ q7 ∧ w.heap.size ≠ q7) := ⟨ne3 hxne.out.1 HQ.out.1 hcl7 hq7, ne3 hxne.out.2 HQ.out.2 hbx7 hq7⟩
            have hsz7 := hB7.size
            have HO7 : Hid (PokeOn w w7 A A' cap cap' c b c' b' n _ _ (some ⟨gb, 0, none⟩) cap2 (0 + 1) _ [x, q7, g7, cl, w.heap.size]) := HO6.out.stepped hI7 hB7 (by
              intro k hk
              simp only [List.mem_cons, List.not_mem_nil, or_false] at hk ⊢
              rcases hk with rfl | rfl | rfl | rfl <;> simp) (by
              intro k hk
              simp only [List.mem_cons, List.not_mem_nil, or_false] at hk
              rcases hk with rfl | rfl | rfl | rfl | rfl
              · exact ⟨.inl (by simp), hlt7.1⟩
              · exact ⟨by rcases hq7 with e | e | e; exact .inl (by simp [e]); exact .inl (by simp [e]); exact .inr e, hlt7.2.1⟩
              · exact ⟨by rcases hg7 with e | e; exact .inl (by simp [e]); exact .inr e, hlt7.2.2⟩
              · exact ⟨.inl (by simp), Nat.lt_of_lt_of_le hcl7 hsz7⟩
              · exact ⟨.inl (by simp), Nat.lt_of_lt_of_le hbx7 hsz7⟩)
            have HLW7 : Hid (Low (slpS t nt n 0 false s) ((k + 1 : Nat) : Int)) := (slpS_low HLW.out _ _ _ _ _).more (by omega)
            generalize slpS t nt n 0 false s = s' at *
            clear hSt hM7 hI7 hB7 hF7 hq7 hg7 hlt7 HO6 HM6 hcl7 hbx7 hsz7 HK6
            have hAl := alike_any w7 A A' cap cap' c b c' b' n s' hn6 HO7.out.two
            go_wp2_with fail
            go_at_call 24; refine hAl.mono ?_; rintro e w8 ⟨rfl, hb8⟩
            have HO8 : Hid _ := HO7.out.still hb8
            have HM8 : Hid _ := HM7.out.below hb8
            have HK8 : Hid (Lay w8 cl P T G ∧ Blk w8 w.heap.size #[.int .i64 P, .int .i64 T, .int .i64 G, .slice E m cp] 67) := ⟨HK7.out.1.below hb8 HK7.out.1.lt, HK7.out.2.but (But.of_below (l := []) hb8) (by simp)⟩
            clear hAl hb8 HO7 HM7 HK7
            go_wp2_with fail
            go_roundw
            case rel => exact ⟨k + 1, s', some ⟨gb, 0, none⟩, cap2, 0 + 1, _, q7, g7, 0, true, by omega, by go_num, rfl, by omega, HO8.out, HM8.out, HLW7, HG6, HK8, HQ7⟩
            case measure => simp [intOf]; omega
          · obtain rfl : mg = 1 := HG.out.one
            rw [show slpRn nt 1 0 true = (⟨1, true, 1, nt, 0, 0, true⟩ : Rn) from rfl] at hR4'
            have s2 := hR4'.out.blk.cell 2 (v := .bool true) rfl
            have s9 := hR4'.out.blk.cell 9 (v := .bool true) rfl
            have KR : Hid (∀ Y, Below w4.heap.size w4 Y → Y.cell? ⟨wr.heap.size, 2, none⟩ = some (.bool true) ∧ Y.cell? ⟨wr.heap.size, 9, none⟩ = some (.bool true) ∧ Below w4.heap.size w4 Y) := fun Y hY => ⟨(hR4'.out.below hY).blk.cell 2 rfl, (hR4'.out.below hY).blk.cell 9 rfl, hY⟩
            have HD : Hid (∀ Y, Below w4.heap.size w4 Y → Calls Try.prog 48 #[.pointer (some ⟨x, 0, none⟩)] Y fun e w' => e = .returned (.bool false) ∧ w'.cell? ⟨wr.heap.size, 2, none⟩ = some (.bool true) ∧ w'.cell? ⟨wr.heap.size, 9, none⟩ = some (.bool true) ∧ Below w4.heap.size w4 w') := fun Y hY => by
              obtain ⟨nx, hx1, hx2⟩ := (HM4.out.below hY).next
              have := slp_done Y x nx hx1
              rw [hx2, show decide (0 = 2) = false from rfl] at this
              exact this.mono fun _ _ h => ⟨h.1, by rw [← h.2]; exact KR.out Y hY⟩
            have HA : Hid (∀ Y, Below w4.heap.size w4 Y → Calls Try.prog 49 #[.pointer (some ⟨x, 0, none⟩), .pointer (some ⟨c, 0, none⟩)] Y fun e w' => e = .returned (.bool true) ∧ w'.cell? ⟨wr.heap.size, 2, none⟩ = some (.bool true) ∧ w'.cell? ⟨wr.heap.size, 9, none⟩ = some (.bool true) ∧ Below w4.heap.size w4 w') := fun Y hY => by
              have := slp_asl Y A cap c b n s x q g 0 t nt true (HO4.out.mem.below hY) hn6 (HM4.out.below hY)
              rw [show (true && decide (peekT n s nt = 0)) = true by simp [hpv0]] at this
              exact this.mono fun _ _ h => ⟨h.1, KR.out _ (hY.trans (h.2.mono hY.size))⟩
            have HW : Hid (∀ Y, Below w4.heap.size w4 Y → Calls Try.prog 50 #[.pointer (some ⟨cl, 0, none⟩), .pointer (some ⟨c, 0, none⟩), .int .i64 t] Y fun e w' => e = .returned (.bool false) ∧ Below w4.heap.size w4 w') := fun Y hY => by
              have := hNA.out Y s (HK4.out.1.below hY HK4.out.1.lt) (HO4.out.mem.below hY)
              rw [show decide (peekT n s nt ≠ 0) = false by simp [hpv0]] at this
              exact this.mono fun _ _ h => ⟨h.1, hY.trans (h.2.mono hY.size)⟩
            have hd0 : Below w4.heap.size w4 w4.drew := (Below.refl _ _).drew
            have HPZ : Hid (peekT n s nt = 0) := hpv0
            rw [hpv0]
            clear hpv0
            go_wp2_with fail
            refine wp_region_held_drew (S := (fun w' => w'.cell? ⟨wr.heap.size, 2, none⟩ = some (.bool true) ∧ w'.cell? ⟨wr.heap.size, 9, none⟩ = some (.bool true) ∧ Below w4.heap.size w4 w')) (by kernel_rfl) ⟨s2, s9, hd0⟩ (fun hHeld => ?_)
            refine wpAnyH_take (i := 0) (oi := ({ dst := some 83, op := Op.move (Operand.tmp 12), type := 89, pos := "law.go:42", after := #[], guard := none } : Oper)) (v := ?vv28) rfl (by kernel_rfl) (by kernel_rfl) (by kernel_rfl) (fun _ _ _ h => h) (Or.inl ⟨by rfl, ?hy28⟩) (by assumption) ?rest28
            case hy28 => (intro w hSw; (try dsimp only at hSw); go_simp; try (with_reducible rfl))
            try simp only [Act.put, List.setIfInBounds_toArray, List.set_cons_zero, List.set_cons_succ]
            refine wpAnyH_take (i := 2) (oi := ({ dst := some 85, op := Op.fieldAddr 43 (Operand.tmp 15) 2, type := 0, pos := "law.go:42", after := #[], guard := none } : Oper)) (v := ?vv29) rfl (by kernel_rfl) (by kernel_rfl) (by kernel_rfl) (fun _ _ _ h => h) (Or.inl ⟨by rfl, ?hy29⟩) (by assumption) ?rest29
            case hy29 => (intro w hSw; (try dsimp only at hSw); go_simp; try (with_reducible rfl))
            try simp only [Act.put, List.setIfInBounds_toArray, List.set_cons_zero, List.set_cons_succ]
            refine wpAnyH_take (i := 3) (oi := ({ dst := some 86, op := Op.load 4 (Operand.tmp 85), type := 4, pos := "law.go:42", after := #[{ on := 2, ground := Ground.data }], guard := none } : Oper)) (v := ?vv30) rfl (by kernel_rfl) (by kernel_rfl) (by kernel_rfl) (fun _ _ _ h => h) (Or.inl ⟨by rfl, ?hy30⟩) (by assumption) ?rest30
            case hy30 => (intro w hSw; (try dsimp only at hSw); go_simp; try (with_reducible rfl))
            try simp only [Act.put, List.setIfInBounds_toArray, List.set_cons_zero, List.set_cons_succ]
            refine wpAnyH_ready (rs := [1]) (by kernel_rfl) (by simp) ?_
            refine AllReadyH.cons (o := ({ dst := some 84, op := Op.call { callee := Callee.value (Operand.func 48), args := #[Operand.tmp 83], argTypes := #[89] }, type := 4, pos := "law.go:42", after := #[{ on := 0, ground := Ground.data }], guard := none } : Oper)) rfl (fun K hK => ?_) AllReadyH.nil
            go_simp
            go_at_call 48; refine (HD.out _ hHeld.2.2).mono ?_; rintro e z1 ⟨rfl, hz1⟩
            refine hK.out _ _ hz1 (fun hHeld => ?_)
            clear hK K
            try simp only [Act.put, List.setIfInBounds_toArray, List.set_cons_zero, List.set_cons_succ]
            refine wpAnyH_take (i := 4) (oi := ({ dst := some 87, op := Op.binOp BinOp.eql 4 (Operand.tmp 84) (Operand.tmp 86) 4, type := 4, pos := "law.go:42", after := #[{ on := 1, ground := Ground.data }, { on := 3, ground := Ground.data }], guard := none } : Oper)) (v := ?vv31) rfl (by kernel_rfl) (by kernel_rfl) (by kernel_rfl) (fun _ _ _ h => h) (Or.inl ⟨by rfl, ?hy31⟩) (by assumption) ?rest31
            case hy31 => (intro w hSw; (try dsimp only at hSw); go_simp; try (with_reducible rfl))
            try simp only [Act.put, List.setIfInBounds_toArray, List.set_cons_zero, List.set_cons_succ]
            refine wpAnyH_take (i := 5) (oi := ({ dst := some 88, op := Op.move (Operand.tmp 87), type := 4, pos := "law.go:42", after := #[{ on := 4, ground := Ground.data }, { on := 1, ground := Ground.chain }], guard := none } : Oper)) (v := ?vv32) rfl (by kernel_rfl) (by kernel_rfl) (by kernel_rfl) (fun _ _ _ h => h) (Or.inl ⟨by rfl, ?hy32⟩) (by assumption) ?rest32
            case hy32 => (intro w hSw; (try dsimp only at hSw); go_simp; try (with_reducible rfl))
            try simp only [Act.put, List.setIfInBounds_toArray, List.set_cons_zero, List.set_cons_succ]
            refine wpAnyH_take (i := 6) (oi := ({ dst := some 89, op := Op.move (Operand.tmp 12), type := 89, pos := "law.go:42", after := #[{ on := 5, ground := Ground.guard }], guard := some (5, false) } : Oper)) (v := ?vv33) rfl (by kernel_rfl) (by kernel_rfl) (by kernel_rfl) (fun _ _ _ h => h) (Or.inl ⟨by rfl, ?hy33⟩) (by assumption) ?rest33
            case hy33 => (intro w hSw; (try dsimp only at hSw); go_simp; try (with_reducible rfl))
            try simp only [Act.put, List.setIfInBounds_toArray, List.set_cons_zero, List.set_cons_succ]
            refine wpAnyH_take (i := 7) (oi := ({ dst := some 90, op := Op.move (Operand.tmp 8), type := 26, pos := "law.go:42", after := #[{ on := 5, ground := Ground.guard }], guard := some (5, false) } : Oper)) (v := ?vv34) rfl (by kernel_rfl) (by kernel_rfl) (by kernel_rfl) (fun _ _ _ h => h) (Or.inl ⟨by rfl, ?hy34⟩) (by assumption) ?rest34
            case hy34 => (intro w hSw; (try dsimp only at hSw); go_simp; try (with_reducible rfl))
            try simp only [Act.put, List.setIfInBounds_toArray, List.set_cons_zero, List.set_cons_succ]
            refine wpAnyH_take (i := 9) (oi := ({ dst := some 92, op := Op.fieldAddr 43 (Operand.tmp 15) 2, type := 0, pos := "law.go:42", after := #[{ on := 5, ground := Ground.guard }], guard := some (5, false) } : Oper)) (v := ?vv35) rfl (by kernel_rfl) (by kernel_rfl) (by kernel_rfl) (fun _ _ _ h => h) (Or.inl ⟨by rfl, ?hy35⟩) (by assumption) ?rest35
            case hy35 => (intro w hSw; (try dsimp only at hSw); go_simp; try (with_reducible rfl))
            try simp only [Act.put, List.setIfInBounds_toArray, List.set_cons_zero, List.set_cons_succ]
            refine wpAnyH_take (i := 10) (oi := ({ dst := some 93, op := Op.load 4 (Operand.tmp 92), type := 4, pos := "law.go:42", after := #[{ on := 9, ground := Ground.data }, { on := 5, ground := Ground.guard }], guard := some (5, false) } : Oper)) (v := ?vv36) rfl (by kernel_rfl) (by kernel_rfl) (by kernel_rfl) (fun _ _ _ h => h) (Or.inl ⟨by rfl, ?hy36⟩) (by assumption) ?rest36
            case hy36 => (intro w hSw; (try dsimp only at hSw); go_simp; try (with_reducible rfl))
            try simp only [Act.put, List.setIfInBounds_toArray, List.set_cons_zero, List.set_cons_succ]
            refine wpAnyH_ready (rs := [8]) (by kernel_rfl) (by simp) ?_
            refine AllReadyH.cons (o := ({ dst := some 91, op := Op.call { callee := Callee.value (Operand.func 49), args := #[Operand.tmp 89, Operand.tmp 90], argTypes := #[89, 26] }, type := 4, pos := "law.go:42", after := #[{ on := 6, ground := Ground.data }, { on := 7, ground := Ground.data }, { on := 5, ground := Ground.chain }, { on := 5, ground := Ground.guard }], guard := some (5, false) } : Oper)) rfl (fun K hK => ?_) AllReadyH.nil
            go_simp
            go_at_call 49; refine (HA.out _ hHeld.2.2).mono ?_; rintro e z2 ⟨rfl, hz2⟩
            refine hK.out _ _ hz2 (fun hHeld => ?_)
            clear hK K
            try simp only [Act.put, List.setIfInBounds_toArray, List.set_cons_zero, List.set_cons_succ]
            refine wpAnyH_take (i := 11) (oi := ({ dst := some 94, op := Op.move (Operand.tmp 93), type := 4, pos := "law.go:42", after := #[{ on := 10, ground := Ground.data }, { on := 8, ground := Ground.chain }, { on := 5, ground := Ground.guard }], guard := some (5, false) } : Oper)) (v := ?vv37) rfl (by kernel_rfl) (by kernel_rfl) (by kernel_rfl) (fun _ _ _ h => h) (Or.inl ⟨by rfl, ?hy37⟩) (by assumption) ?rest37
            case hy37 => (intro w hSw; (try dsimp only at hSw); go_simp; try (with_reducible rfl))
            try simp only [Act.put, List.setIfInBounds_toArray, List.set_cons_zero, List.set_cons_succ]
            refine wpAnyH_take (i := 12) (oi := ({ dst := some 95, op := Op.fieldAddr 43 (Operand.tmp 15) 4, type := 0, pos := "law.go:42", after := #[{ on := 11, ground := Ground.guard }], guard := some (11, true) } : Oper)) (v := ?vv38) rfl (by kernel_rfl) (by kernel_rfl) (by kernel_rfl) (fun _ _ _ h => h) (Or.inl ⟨by rfl, ?hy38⟩) (by assumption) ?rest38
            case hy38 => (intro w hSw; (try dsimp only at hSw); go_simp; try (with_reducible rfl))
            try simp only [Act.put, List.setIfInBounds_toArray, List.set_cons_zero, List.set_cons_succ]
            refine wpAnyH_take (i := 13) (oi := ({ dst := some 96, op := Op.load 4 (Operand.tmp 95), type := 4, pos := "law.go:42", after := #[{ on := 12, ground := Ground.data }, { on := 11, ground := Ground.guard }], guard := some (11, true) } : Oper)) (v := ?vv39) rfl (by kernel_rfl) (by kernel_rfl) (by kernel_rfl) (fun _ _ _ h => h) (Or.inl ⟨by rfl, ?hy39⟩) (by assumption) ?rest39
            case hy39 => (intro w hSw; (try dsimp only at hSw); go_simp; try (with_reducible rfl))
            try simp only [Act.put, List.setIfInBounds_toArray, List.set_cons_zero, List.set_cons_succ]
            refine wpAnyH_take (i := 14) (oi := ({ dst := some 97, op := Op.pick (Operand.tmp 94) (Operand.tmp 96) (Operand.const (Value.bool false)), type := 4, pos := "law.go:42", after := #[{ on := 11, ground := Ground.data }, { on := 13, ground := Ground.data }, { on := 5, ground := Ground.guard }], guard := some (5, false) } : Oper)) (v := ?vv40) rfl (by kernel_rfl) (by kernel_rfl) (by kernel_rfl) (fun _ _ _ h => h) (Or.inl ⟨by rfl, ?hy40⟩) (by assumption) ?rest40
            case hy40 => (intro w hSw; (try dsimp only at hSw); go_simp; try (with_reducible rfl))
            try simp only [Act.put, List.setIfInBounds_toArray, List.set_cons_zero, List.set_cons_succ]
            refine wpAnyH_take (i := 15) (oi := ({ dst := some 98, op := Op.move (Operand.tmp 97), type := 4, pos := "law.go:42", after := #[{ on := 14, ground := Ground.data }, { on := 11, ground := Ground.chain }, { on := 5, ground := Ground.guard }], guard := some (5, false) } : Oper)) (v := ?vv41) rfl (by kernel_rfl) (by kernel_rfl) (by kernel_rfl) (fun _ _ _ h => h) (Or.inl ⟨by rfl, ?hy41⟩) (by assumption) ?rest41
            case hy41 => (intro w hSw; (try dsimp only at hSw); go_simp; try (with_reducible rfl))
            try simp only [Act.put, List.setIfInBounds_toArray, List.set_cons_zero, List.set_cons_succ]
            refine wpAnyH_take (i := 16) (oi := ({ dst := some 99, op := Op.move (Operand.tmp 16), type := 34, pos := "law.go:42", after := #[{ on := 15, ground := Ground.guard }], guard := some (15, true) } : Oper)) (v := ?vv42) rfl (by kernel_rfl) (by kernel_rfl) (by kernel_rfl) (fun _ _ _ h => h) (Or.inl ⟨by rfl, ?hy42⟩) (by assumption) ?rest42
            case hy42 => (intro w hSw; (try dsimp only at hSw); go_simp; try (with_reducible rfl))
            try simp only [Act.put, List.setIfInBounds_toArray, List.set_cons_zero, List.set_cons_succ]
            refine wpAnyH_take (i := 17) (oi := ({ dst := some 100, op := Op.binOp BinOp.eql 34 (Operand.tmp 99) (Operand.const (Value.int IntKind.u64 0)) 34, type := 4, pos := "law.go:42", after := #[{ on := 16, ground := Ground.data }, { on := 15, ground := Ground.guard }], guard := some (15, true) } : Oper)) (v := ?vv43) rfl (by kernel_rfl) (by kernel_rfl) (by kernel_rfl) (fun _ _ _ h => h) (Or.inl ⟨by rfl, ?hy43⟩) (by assumption) ?rest43
            case hy43 => (intro w hSw; (try dsimp only at hSw); go_simp; try (with_reducible rfl))
            try simp only [Act.put, List.setIfInBounds_toArray, List.set_cons_zero, List.set_cons_succ]
            refine wpAnyH_take (i := 18) (oi := ({ dst := some 101, op := Op.pick (Operand.tmp 98) (Operand.tmp 100) (Operand.const (Value.bool false)), type := 4, pos := "law.go:42", after := #[{ on := 15, ground := Ground.data }, { on := 17, ground := Ground.data }, { on := 5, ground := Ground.guard }], guard := some (5, false) } : Oper)) (v := ?vv44) rfl (by kernel_rfl) (by kernel_rfl) (by kernel_rfl) (fun _ _ _ h => h) (Or.inl ⟨by rfl, ?hy44⟩) (by assumption) ?rest44
            case hy44 => (intro w hSw; (try dsimp only at hSw); go_simp; try (with_reducible rfl))
            try simp only [Act.put, List.setIfInBounds_toArray, List.set_cons_zero, List.set_cons_succ]
            refine wpAnyH_take (i := 19) (oi := ({ dst := some 102, op := Op.binOp BinOp.neq 4 (Operand.tmp 91) (Operand.tmp 101) 4, type := 4, pos := "law.go:42", after := #[{ on := 8, ground := Ground.data }, { on := 18, ground := Ground.data }, { on := 5, ground := Ground.guard }], guard := some (5, false) } : Oper)) (v := ?vv45) rfl (by kernel_rfl) (by kernel_rfl) (by kernel_rfl) (fun _ _ _ h => h) (Or.inl ⟨by rfl, ?hy45⟩) (by assumption) ?rest45
            case hy45 => (intro w hSw; (try dsimp only at hSw); go_simp; try (with_reducible rfl))
            try simp only [Act.put, List.setIfInBounds_toArray, List.set_cons_zero, List.set_cons_succ]
            refine wpAnyH_take (i := 20) (oi := ({ dst := some 103, op := Op.pick (Operand.tmp 88) (Operand.const (Value.bool true)) (Operand.tmp 102), type := 4, pos := "law.go:42", after := #[{ on := 5, ground := Ground.data }, { on := 19, ground := Ground.data }], guard := none } : Oper)) (v := ?vv46) rfl (by kernel_rfl) (by kernel_rfl) (by kernel_rfl) (fun _ _ _ h => h) (Or.inl ⟨by rfl, ?hy46⟩) (by assumption) ?rest46
            case hy46 => (intro w hSw; (try dsimp only at hSw); go_simp; try (with_reducible rfl))
            try simp only [Act.put, List.setIfInBounds_toArray, List.set_cons_zero, List.set_cons_succ]
            refine wpAnyH_take (i := 21) (oi := ({ dst := some 104, op := Op.move (Operand.tmp 103), type := 4, pos := "law.go:42", after := #[{ on := 20, ground := Ground.data }, { on := 15, ground := Ground.chain }], guard := none } : Oper)) (v := ?vv47) rfl (by kernel_rfl) (by kernel_rfl) (by kernel_rfl) (fun _ _ _ h => h) (Or.inl ⟨by rfl, ?hy47⟩) (by assumption) ?rest47
            case hy47 => (intro w hSw; (try dsimp only at hSw); go_simp; try (with_reducible rfl))
            try simp only [Act.put, List.setIfInBounds_toArray, List.set_cons_zero, List.set_cons_succ]
            refine wpAnyH_take (i := 22) (oi := ({ dst := some 105, op := Op.move (Operand.tmp 7), type := 69, pos := "law.go:42", after := #[{ on := 21, ground := Ground.guard }], guard := some (21, false) } : Oper)) (v := ?vv48) rfl (by kernel_rfl) (by kernel_rfl) (by kernel_rfl) (fun _ _ _ h => h) (Or.inl ⟨by rfl, ?hy48⟩) (by assumption) ?rest48
            case hy48 => (intro w hSw; (try dsimp only at hSw); go_simp; try (with_reducible rfl))
            try simp only [Act.put, List.setIfInBounds_toArray, List.set_cons_zero, List.set_cons_succ]
            refine wpAnyH_take (i := 23) (oi := ({ dst := some 106, op := Op.move (Operand.tmp 8), type := 26, pos := "law.go:42", after := #[{ on := 21, ground := Ground.guard }], guard := some (21, false) } : Oper)) (v := ?vv49) rfl (by kernel_rfl) (by kernel_rfl) (by kernel_rfl) (fun _ _ _ h => h) (Or.inl ⟨by rfl, ?hy49⟩) (by assumption) ?rest49
            case hy49 => (intro w hSw; (try dsimp only at hSw); go_simp; try (with_reducible rfl))
            try simp only [Act.put, List.setIfInBounds_toArray, List.set_cons_zero, List.set_cons_succ]
            refine wpAnyH_take (i := 24) (oi := ({ dst := some 107, op := Op.move (Operand.tmp 1), type := 3, pos := "law.go:42", after := #[{ on := 21, ground := Ground.guard }], guard := some (21, false) } : Oper)) (v := ?vv50) rfl (by kernel_rfl) (by kernel_rfl) (by kernel_rfl) (fun _ _ _ h => h) (Or.inl ⟨by rfl, ?hy50⟩) (by assumption) ?rest50
            case hy50 => (intro w hSw; (try dsimp only at hSw); go_simp; try (with_reducible rfl))
            try simp only [Act.put, List.setIfInBounds_toArray, List.set_cons_zero, List.set_cons_succ]
            refine wpAnyH_take (i := 26) (oi := ({ dst := some 109, op := Op.move (Operand.tmp 16), type := 34, pos := "law.go:42", after := #[{ on := 21, ground := Ground.guard }], guard := some (21, false) } : Oper)) (v := ?vv51) rfl (by kernel_rfl) (by kernel_rfl) (by kernel_rfl) (fun _ _ _ h => h) (Or.inl ⟨by rfl, ?hy51⟩) (by assumption) ?rest51
            case hy51 => (intro w hSw; (try dsimp only at hSw); go_simp; try (with_reducible rfl))
            try simp only [Act.put, List.setIfInBounds_toArray, List.set_cons_zero, List.set_cons_succ]
            refine wpAnyH_take (i := 27) (oi := ({ dst := some 110, op := Op.binOp BinOp.neq 34 (Operand.tmp 109) (Operand.const (Value.int IntKind.u64 0)) 34, type := 4, pos := "law.go:42", after := #[{ on := 26, ground := Ground.data }, { on := 21, ground := Ground.guard }], guard := some (21, false) } : Oper)) (v := ?vv52) rfl (by kernel_rfl) (by kernel_rfl) (by kernel_rfl) (fun _ _ _ h => h) (Or.inl ⟨by rfl, ?hy52⟩) (by assumption) ?rest52
            case hy52 => (intro w hSw; (try dsimp only at hSw); go_simp; try (with_reducible rfl))
            try simp only [Act.put, List.setIfInBounds_toArray, List.set_cons_zero, List.set_cons_succ]
            refine wpAnyH_ready (rs := [25]) (by kernel_rfl) (by simp) ?_
            refine AllReadyH.cons (o := ({ dst := some 108, op := Op.call { callee := Callee.value (Operand.func 50), args := #[Operand.tmp 105, Operand.tmp 106, Operand.tmp 107], argTypes := #[69, 26, 3] }, type := 4, pos := "law.go:42", after := #[{ on := 22, ground := Ground.data }, { on := 23, ground := Ground.data }, { on := 24, ground := Ground.data }, { on := 21, ground := Ground.chain }, { on := 21, ground := Ground.guard }], guard := some (21, false) } : Oper)) rfl (fun K hK => ?_) AllReadyH.nil
            go_simp
            go_at_call 50; refine (HW.out _ hHeld.2.2).mono ?_; rintro e z3 ⟨rfl, hz3⟩
            refine hK.out _ _ (KR.out _ hz3) (fun hHeld => ?_)
            clear hK K
            try simp only [Act.put, List.setIfInBounds_toArray, List.set_cons_zero, List.set_cons_succ]
            refine wpAnyH_take (i := 28) (oi := ({ dst := some 111, op := Op.binOp BinOp.neq 4 (Operand.tmp 108) (Operand.tmp 110) 4, type := 4, pos := "law.go:42", after := #[{ on := 25, ground := Ground.data }, { on := 27, ground := Ground.data }, { on := 21, ground := Ground.guard }], guard := some (21, false) } : Oper)) (v := ?vv53) rfl (by kernel_rfl) (by kernel_rfl) (by kernel_rfl) (fun _ _ _ h => h) (Or.inl ⟨by rfl, ?hy53⟩) (by assumption) ?rest53
            case hy53 => (intro w hSw; (try dsimp only at hSw); go_simp; try (with_reducible rfl))
            try simp only [Act.put, List.setIfInBounds_toArray, List.set_cons_zero, List.set_cons_succ]
            refine wpAnyH_take (i := 29) (oi := ({ dst := some 112, op := Op.pick (Operand.tmp 104) (Operand.const (Value.bool true)) (Operand.tmp 111), type := 4, pos := "law.go:42", after := #[{ on := 21, ground := Ground.data }, { on := 28, ground := Ground.data }], guard := none } : Oper)) (v := ?vv54) rfl (by kernel_rfl) (by kernel_rfl) (by kernel_rfl) (fun _ _ _ h => h) (Or.inl ⟨by rfl, ?hy54⟩) (by assumption) ?rest54
            case hy54 => (intro w hSw; (try dsimp only at hSw); go_simp; try (with_reducible rfl))
            try simp only [Act.put, List.setIfInBounds_toArray, List.set_cons_zero, List.set_cons_succ]
            refine wpAnyH_done (by kernel_rfl) ?_ _
            have HO5 : Hid (PokeOn w z3 A A' cap cap' c b c' b' n s s Ag capg 1 gf [x, q, g, cl, w.heap.size]) := HO4.out.still hz3
            have HM5 : Hid (Slp z3 x t nt q g 0 true) := HM4.out.below hz3
            have HK5 : Hid (Lay z3 cl P T G ∧ Blk z3 w.heap.size #[.int .i64 P, .int .i64 T, .int .i64 G, .slice E m cp] 67) := ⟨HK4.out.1.below hz3 HK4.out.1.lt, HK4.out.2.but (But.of_below (l := []) hz3) (by simp)⟩
            have hRg : Hid (z3.rangeAt wr.heap.size 0 (runL (.slice Ag 1 capg) ⟨1, true, 1, nt, 0, 0, true⟩)) := (hR4'.out.below hz3).range
            clear HD HA HW KR HO4 HM4 HK4 hR4' s2 s9 hz1 hz2 hz3 hd0
            have hTu := turn_sleeps z3 Ag capg 1 ⟨1, true, 1, nt, 0, 0, true⟩ A' cap' c' b' n s t rfl rfl HPZ.out hn6 HO5.out.ref
            go_wp2_with (refine wpList_load_mid rfl 43 _ rfl wr.heap.size 0 rfl (runL (.slice Ag 1 capg) ⟨1, true, 1, nt, 0, 0, true⟩) _ hRg.out Try.underlying43 rfl (by kernel_rfl) ?_; clear hRg)
            go_at_call 22; refine hTu.mono ?_; rintro e w6 ⟨rfl, hb6⟩
            have HSS : slpS t nt n 0 true s = s := by simp [slpS, HPZ.out]
            have HO6 : Hid (PokeOn w w6 A A' cap cap' c b c' b' n s (slpS t nt n 0 true s) Ag capg 1 gf [x, q, g, cl, w.heap.size]) := by rw [HSS]; exact HO5.out.still hb6
            have HM6 : Hid (Slp w6 x t nt q g 0 true) := HM5.out.below hb6
            have HK6 : Hid (Lay w6 cl P T G ∧ Blk w6 w.heap.size #[.int .i64 P, .int .i64 T, .int .i64 G, .slice E m cp] 67) := ⟨HK5.out.1.below hb6 HK5.out.1.lt, HK5.out.2.but (But.of_below (l := []) hb6) (by simp)⟩
            clear hTu hb6 HO5 HM5 HSS HK5
            have hSt := slp_on w6 A cap c b n s x q g 0 t nt true HO6.out.mem hn6 (HLW.out.more (by omega)) HM6.out ⟨(HO6.out.far x (by simp)).1.1, (HO6.out.far x (by simp)).1.2.1, (HO6.out.far q (by simp)).1.1, (HO6.out.far q (by simp)).1.2.1, (HO6.out.far g (by simp)).1.1, (HO6.out.far g (by simp)).1.2.1⟩
            rw [show slpP nt n 0 s = 0 by simp [slpP, HPZ.out], show slpA nt n 0 s = true by simp [slpA, HPZ.out], show decide (0 = 2) = false from rfl] at hSt
            go_wp2_with fail
            go_at_call 51; refine hSt.mono ?_; rintro e w7 ⟨q7, g7, rfl, hM7, hI7, hB7, hF7, hq7, hg7⟩
            have HM7 : Hid _ := hM7
            have hlt7 := hM7.lt
            have hcl7 := HK6.out.1.lt
            have hbx7 := HK6.out.2.lt
            have HK7 : Hid (Lay w7 cl P T G ∧ Blk w7 w.heap.size #[.int .i64 P, .int .i64 T, .int .i64 G, .slice E m cp] 67) := ⟨(hB7.block cl HK6.out.1.lt (by simp [hne, hxne.out, HQ.out])).trans HK6.out.1, HK6.out.2.but hB7 (by simp [hbx, hxne.out, HQ.out])⟩
            have HQ7 : Hid (cl ≠ q7 ∧ w.heap.size ≠ q7) := ⟨ne3 hxne.out.1 HQ.out.1 hcl7 hq7, ne3 hxne.out.2 HQ.out.2 hbx7 hq7⟩
            have hsz7 := hB7.size
            have HO7 : Hid (PokeOn w w7 A A' cap cap' c b c' b' n _ _ Ag capg 1 _ [x, q7, g7, cl, w.heap.size]) := HO6.out.stepped hI7 hB7 (by
              intro k hk
              simp only [List.mem_cons, List.not_mem_nil, or_false] at hk ⊢
              rcases hk with rfl | rfl | rfl | rfl <;> simp) (by
              intro k hk
              simp only [List.mem_cons, List.not_mem_nil, or_false] at hk
              rcases hk with rfl | rfl | rfl | rfl | rfl
              · exact ⟨.inl (by simp), hlt7.1⟩
              · exact ⟨by rcases hq7 with e | e | e; exact .inl (by simp [e]); exact .inl (by simp [e]); exact .inr e, hlt7.2.1⟩
              · exact ⟨by rcases hg7 with e | e; exact .inl (by simp [e]); exact .inr e, hlt7.2.2⟩
              · exact ⟨.inl (by simp), Nat.lt_of_lt_of_le hcl7 hsz7⟩
              · exact ⟨.inl (by simp), Nat.lt_of_lt_of_le hbx7 hsz7⟩)
            have HLW7 : Hid (Low (slpS t nt n 0 true s) ((k + 1 : Nat) : Int)) := (slpS_low HLW.out _ _ _ _ _).more (by omega)
            generalize slpS t nt n 0 true s = s' at *
            clear hSt hM7 hI7 hB7 hF7 hq7 hg7 hlt7 HO6 HM6 hcl7 hbx7 hsz7 HK6
            have hAl := alike_any w7 A A' cap cap' c b c' b' n s' hn6 HO7.out.two
            go_wp2_with fail
            go_at_call 24; refine hAl.mono ?_; rintro e w8 ⟨rfl, hb8⟩
            have HO8 : Hid _ := HO7.out.still hb8
            have HM8 : Hid _ := HM7.out.below hb8
            have HK8 : Hid (Lay w8 cl P T G ∧ Blk w8 w.heap.size #[.int .i64 P, .int .i64 T, .int .i64 G, .slice E m cp] 67) := ⟨HK7.out.1.below hb8 HK7.out.1.lt, HK7.out.2.but (But.of_below (l := []) hb8) (by simp)⟩
            clear hAl hb8 HO7 HM7 HK7
            go_wp2_with fail
            go_roundw
            case rel => exact ⟨k + 1, s', Ag, capg, 1, gf, q7, g7, 0, true, by omega, by go_num, rfl, by omega, HO8.out, HM8.out, HLW7, HG, HK8, HQ7⟩
            case measure => simp [intOf]; omega
          · rw [show slpRn nt mg 1 false = (⟨mg, true, 2, nt, 0, 0, false⟩ : Rn) from rfl] at hR4'
            have s2 := hR4'.out.blk.cell 2 (v := .bool true) rfl
            have s9 := hR4'.out.blk.cell 9 (v := .bool false) rfl
            have KR : Hid (∀ Y, Below w4.heap.size w4 Y → Y.cell? ⟨wr.heap.size, 2, none⟩ = some (.bool true) ∧ Y.cell? ⟨wr.heap.size, 9, none⟩ = some (.bool false) ∧ Below w4.heap.size w4 Y) := fun Y hY => ⟨(hR4'.out.below hY).blk.cell 2 rfl, (hR4'.out.below hY).blk.cell 9 rfl, hY⟩
            have HD : Hid (∀ Y, Below w4.heap.size w4 Y → Calls Try.prog 48 #[.pointer (some ⟨x, 0, none⟩)] Y fun e w' => e = .returned (.bool false) ∧ w'.cell? ⟨wr.heap.size, 2, none⟩ = some (.bool true) ∧ w'.cell? ⟨wr.heap.size, 9, none⟩ = some (.bool false) ∧ Below w4.heap.size w4 w') := fun Y hY => by
              obtain ⟨nx, hx1, hx2⟩ := (HM4.out.below hY).next
              have := slp_done Y x nx hx1
              rw [hx2, show decide (1 = 2) = false from rfl] at this
              exact this.mono fun _ _ h => ⟨h.1, by rw [← h.2]; exact KR.out Y hY⟩
            have HA : Hid (∀ Y, Below w4.heap.size w4 Y → Calls Try.prog 49 #[.pointer (some ⟨x, 0, none⟩), .pointer (some ⟨c, 0, none⟩)] Y fun e w' => e = .returned (.bool false) ∧ w'.cell? ⟨wr.heap.size, 2, none⟩ = some (.bool true) ∧ w'.cell? ⟨wr.heap.size, 9, none⟩ = some (.bool false) ∧ Below w4.heap.size w4 w') := fun Y hY => by
              have := slp_asl Y A cap c b n s x q g 1 t nt false (HO4.out.mem.below hY) hn6 (HM4.out.below hY)
              rw [show (false && decide (peekT n s nt = 0)) = false by simp [hpv0]] at this
              exact this.mono fun _ _ h => ⟨h.1, KR.out _ (hY.trans (h.2.mono hY.size))⟩
            have HW : Hid (∀ Y, Below w4.heap.size w4 Y → Calls Try.prog 50 #[.pointer (some ⟨cl, 0, none⟩), .pointer (some ⟨c, 0, none⟩), .int .i64 t] Y fun e w' => e = .returned (.bool false) ∧ Below w4.heap.size w4 w') := fun Y hY => by
              have := hNA.out Y s (HK4.out.1.below hY HK4.out.1.lt) (HO4.out.mem.below hY)
              rw [show decide (peekT n s nt ≠ 0) = false by simp [hpv0]] at this
              exact this.mono fun _ _ h => ⟨h.1, hY.trans (h.2.mono hY.size)⟩
            have hd0 : Below w4.heap.size w4 w4.drew := (Below.refl _ _).drew
            have HPZ : Hid (peekT n s nt = 0) := hpv0
            rw [hpv0]
            clear hpv0
            go_wp2_with fail
            refine wp_region_held_drew (S := (fun w' => w'.cell? ⟨wr.heap.size, 2, none⟩ = some (.bool true) ∧ w'.cell? ⟨wr.heap.size, 9, none⟩ = some (.bool false) ∧ Below w4.heap.size w4 w')) (by kernel_rfl) ⟨s2, s9, hd0⟩ (fun hHeld => ?_)
            refine wpAnyH_take (i := 0) (oi := ({ dst := some 83, op := Op.move (Operand.tmp 12), type := 89, pos := "law.go:42", after := #[], guard := none } : Oper)) (v := ?vv55) rfl (by kernel_rfl) (by kernel_rfl) (by kernel_rfl) (fun _ _ _ h => h) (Or.inl ⟨by rfl, ?hy55⟩) (by assumption) ?rest55
            case hy55 => (intro w hSw; (try dsimp only at hSw); go_simp; try (with_reducible rfl))
            try simp only [Act.put, List.setIfInBounds_toArray, List.set_cons_zero, List.set_cons_succ]
            refine wpAnyH_take (i := 2) (oi := ({ dst := some 85, op := Op.fieldAddr 43 (Operand.tmp 15) 2, type := 0, pos := "law.go:42", after := #[], guard := none } : Oper)) (v := ?vv56) rfl (by kernel_rfl) (by kernel_rfl) (by kernel_rfl) (fun _ _ _ h => h) (Or.inl ⟨by rfl, ?hy56⟩) (by assumption) ?rest56
            case hy56 => (intro w hSw; (try dsimp only at hSw); go_simp; try (with_reducible rfl))
            try simp only [Act.put, List.setIfInBounds_toArray, List.set_cons_zero, List.set_cons_succ]
            refine wpAnyH_take (i := 3) (oi := ({ dst := some 86, op := Op.load 4 (Operand.tmp 85), type := 4, pos := "law.go:42", after := #[{ on := 2, ground := Ground.data }], guard := none } : Oper)) (v := ?vv57) rfl (by kernel_rfl) (by kernel_rfl) (by kernel_rfl) (fun _ _ _ h => h) (Or.inl ⟨by rfl, ?hy57⟩) (by assumption) ?rest57
            case hy57 => (intro w hSw; (try dsimp only at hSw); go_simp; try (with_reducible rfl))
            try simp only [Act.put, List.setIfInBounds_toArray, List.set_cons_zero, List.set_cons_succ]
            refine wpAnyH_ready (rs := [1]) (by kernel_rfl) (by simp) ?_
            refine AllReadyH.cons (o := ({ dst := some 84, op := Op.call { callee := Callee.value (Operand.func 48), args := #[Operand.tmp 83], argTypes := #[89] }, type := 4, pos := "law.go:42", after := #[{ on := 0, ground := Ground.data }], guard := none } : Oper)) rfl (fun K hK => ?_) AllReadyH.nil
            go_simp
            go_at_call 48; refine (HD.out _ hHeld.2.2).mono ?_; rintro e z1 ⟨rfl, hz1⟩
            refine hK.out _ _ hz1 (fun hHeld => ?_)
            clear hK K
            try simp only [Act.put, List.setIfInBounds_toArray, List.set_cons_zero, List.set_cons_succ]
            refine wpAnyH_take (i := 4) (oi := ({ dst := some 87, op := Op.binOp BinOp.eql 4 (Operand.tmp 84) (Operand.tmp 86) 4, type := 4, pos := "law.go:42", after := #[{ on := 1, ground := Ground.data }, { on := 3, ground := Ground.data }], guard := none } : Oper)) (v := ?vv58) rfl (by kernel_rfl) (by kernel_rfl) (by kernel_rfl) (fun _ _ _ h => h) (Or.inl ⟨by rfl, ?hy58⟩) (by assumption) ?rest58
            case hy58 => (intro w hSw; (try dsimp only at hSw); go_simp; try (with_reducible rfl))
            try simp only [Act.put, List.setIfInBounds_toArray, List.set_cons_zero, List.set_cons_succ]
            refine wpAnyH_take (i := 5) (oi := ({ dst := some 88, op := Op.move (Operand.tmp 87), type := 4, pos := "law.go:42", after := #[{ on := 4, ground := Ground.data }, { on := 1, ground := Ground.chain }], guard := none } : Oper)) (v := ?vv59) rfl (by kernel_rfl) (by kernel_rfl) (by kernel_rfl) (fun _ _ _ h => h) (Or.inl ⟨by rfl, ?hy59⟩) (by assumption) ?rest59
            case hy59 => (intro w hSw; (try dsimp only at hSw); go_simp; try (with_reducible rfl))
            try simp only [Act.put, List.setIfInBounds_toArray, List.set_cons_zero, List.set_cons_succ]
            refine wpAnyH_take (i := 6) (oi := ({ dst := some 89, op := Op.move (Operand.tmp 12), type := 89, pos := "law.go:42", after := #[{ on := 5, ground := Ground.guard }], guard := some (5, false) } : Oper)) (v := ?vv60) rfl (by kernel_rfl) (by kernel_rfl) (by kernel_rfl) (fun _ _ _ h => h) (Or.inl ⟨by rfl, ?hy60⟩) (by assumption) ?rest60
            case hy60 => (intro w hSw; (try dsimp only at hSw); go_simp; try (with_reducible rfl))
            try simp only [Act.put, List.setIfInBounds_toArray, List.set_cons_zero, List.set_cons_succ]
            refine wpAnyH_take (i := 7) (oi := ({ dst := some 90, op := Op.move (Operand.tmp 8), type := 26, pos := "law.go:42", after := #[{ on := 5, ground := Ground.guard }], guard := some (5, false) } : Oper)) (v := ?vv61) rfl (by kernel_rfl) (by kernel_rfl) (by kernel_rfl) (fun _ _ _ h => h) (Or.inl ⟨by rfl, ?hy61⟩) (by assumption) ?rest61
            case hy61 => (intro w hSw; (try dsimp only at hSw); go_simp; try (with_reducible rfl))
            try simp only [Act.put, List.setIfInBounds_toArray, List.set_cons_zero, List.set_cons_succ]
            refine wpAnyH_take (i := 9) (oi := ({ dst := some 92, op := Op.fieldAddr 43 (Operand.tmp 15) 2, type := 0, pos := "law.go:42", after := #[{ on := 5, ground := Ground.guard }], guard := some (5, false) } : Oper)) (v := ?vv62) rfl (by kernel_rfl) (by kernel_rfl) (by kernel_rfl) (fun _ _ _ h => h) (Or.inl ⟨by rfl, ?hy62⟩) (by assumption) ?rest62
            case hy62 => (intro w hSw; (try dsimp only at hSw); go_simp; try (with_reducible rfl))
            try simp only [Act.put, List.setIfInBounds_toArray, List.set_cons_zero, List.set_cons_succ]
            refine wpAnyH_take (i := 10) (oi := ({ dst := some 93, op := Op.load 4 (Operand.tmp 92), type := 4, pos := "law.go:42", after := #[{ on := 9, ground := Ground.data }, { on := 5, ground := Ground.guard }], guard := some (5, false) } : Oper)) (v := ?vv63) rfl (by kernel_rfl) (by kernel_rfl) (by kernel_rfl) (fun _ _ _ h => h) (Or.inl ⟨by rfl, ?hy63⟩) (by assumption) ?rest63
            case hy63 => (intro w hSw; (try dsimp only at hSw); go_simp; try (with_reducible rfl))
            try simp only [Act.put, List.setIfInBounds_toArray, List.set_cons_zero, List.set_cons_succ]
            refine wpAnyH_ready (rs := [8]) (by kernel_rfl) (by simp) ?_
            refine AllReadyH.cons (o := ({ dst := some 91, op := Op.call { callee := Callee.value (Operand.func 49), args := #[Operand.tmp 89, Operand.tmp 90], argTypes := #[89, 26] }, type := 4, pos := "law.go:42", after := #[{ on := 6, ground := Ground.data }, { on := 7, ground := Ground.data }, { on := 5, ground := Ground.chain }, { on := 5, ground := Ground.guard }], guard := some (5, false) } : Oper)) rfl (fun K hK => ?_) AllReadyH.nil
            go_simp
            go_at_call 49; refine (HA.out _ hHeld.2.2).mono ?_; rintro e z2 ⟨rfl, hz2⟩
            refine hK.out _ _ hz2 (fun hHeld => ?_)
            clear hK K
            try simp only [Act.put, List.setIfInBounds_toArray, List.set_cons_zero, List.set_cons_succ]
            refine wpAnyH_take (i := 11) (oi := ({ dst := some 94, op := Op.move (Operand.tmp 93), type := 4, pos := "law.go:42", after := #[{ on := 10, ground := Ground.data }, { on := 8, ground := Ground.chain }, { on := 5, ground := Ground.guard }], guard := some (5, false) } : Oper)) (v := ?vv64) rfl (by kernel_rfl) (by kernel_rfl) (by kernel_rfl) (fun _ _ _ h => h) (Or.inl ⟨by rfl, ?hy64⟩) (by assumption) ?rest64
            case hy64 => (intro w hSw; (try dsimp only at hSw); go_simp; try (with_reducible rfl))
            try simp only [Act.put, List.setIfInBounds_toArray, List.set_cons_zero, List.set_cons_succ]
            refine wpAnyH_take (i := 12) (oi := ({ dst := some 95, op := Op.fieldAddr 43 (Operand.tmp 15) 4, type := 0, pos := "law.go:42", after := #[{ on := 11, ground := Ground.guard }], guard := some (11, true) } : Oper)) (v := ?vv65) rfl (by kernel_rfl) (by kernel_rfl) (by kernel_rfl) (fun _ _ _ h => h) (Or.inl ⟨by rfl, ?hy65⟩) (by assumption) ?rest65
            case hy65 => (intro w hSw; (try dsimp only at hSw); go_simp; try (with_reducible rfl))
            try simp only [Act.put, List.setIfInBounds_toArray, List.set_cons_zero, List.set_cons_succ]
            refine wpAnyH_take (i := 13) (oi := ({ dst := some 96, op := Op.load 4 (Operand.tmp 95), type := 4, pos := "law.go:42", after := #[{ on := 12, ground := Ground.data }, { on := 11, ground := Ground.guard }], guard := some (11, true) } : Oper)) (v := ?vv66) rfl (by kernel_rfl) (by kernel_rfl) (by kernel_rfl) (fun _ _ _ h => h) (Or.inl ⟨by rfl, ?hy66⟩) (by assumption) ?rest66
            case hy66 => (intro w hSw; (try dsimp only at hSw); go_simp; try (with_reducible rfl))
            try simp only [Act.put, List.setIfInBounds_toArray, List.set_cons_zero, List.set_cons_succ]
            refine wpAnyH_take (i := 14) (oi := ({ dst := some 97, op := Op.pick (Operand.tmp 94) (Operand.tmp 96) (Operand.const (Value.bool false)), type := 4, pos := "law.go:42", after := #[{ on := 11, ground := Ground.data }, { on := 13, ground := Ground.data }, { on := 5, ground := Ground.guard }], guard := some (5, false) } : Oper)) (v := ?vv67) rfl (by kernel_rfl) (by kernel_rfl) (by kernel_rfl) (fun _ _ _ h => h) (Or.inl ⟨by rfl, ?hy67⟩) (by assumption) ?rest67
            case hy67 => (intro w hSw; (try dsimp only at hSw); go_simp; try (with_reducible rfl))
            try simp only [Act.put, List.setIfInBounds_toArray, List.set_cons_zero, List.set_cons_succ]
            refine wpAnyH_take (i := 15) (oi := ({ dst := some 98, op := Op.move (Operand.tmp 97), type := 4, pos := "law.go:42", after := #[{ on := 14, ground := Ground.data }, { on := 11, ground := Ground.chain }, { on := 5, ground := Ground.guard }], guard := some (5, false) } : Oper)) (v := ?vv68) rfl (by kernel_rfl) (by kernel_rfl) (by kernel_rfl) (fun _ _ _ h => h) (Or.inl ⟨by rfl, ?hy68⟩) (by assumption) ?rest68
            case hy68 => (intro w hSw; (try dsimp only at hSw); go_simp; try (with_reducible rfl))
            try simp only [Act.put, List.setIfInBounds_toArray, List.set_cons_zero, List.set_cons_succ]
            refine wpAnyH_take (i := 16) (oi := ({ dst := some 99, op := Op.move (Operand.tmp 16), type := 34, pos := "law.go:42", after := #[{ on := 15, ground := Ground.guard }], guard := some (15, true) } : Oper)) (v := undef) rfl (by kernel_rfl) (by kernel_rfl) (by kernel_rfl) (fun _ _ _ h => h) (Or.inr ⟨by rfl, rfl⟩) (by assumption) ?_
            try simp only [Act.put, List.setIfInBounds_toArray, List.set_cons_zero, List.set_cons_succ]
            refine wpAnyH_take (i := 17) (oi := ({ dst := some 100, op := Op.binOp BinOp.eql 34 (Operand.tmp 99) (Operand.const (Value.int IntKind.u64 0)) 34, type := 4, pos := "law.go:42", after := #[{ on := 16, ground := Ground.data }, { on := 15, ground := Ground.guard }], guard := some (15, true) } : Oper)) (v := undef) rfl (by kernel_rfl) (by kernel_rfl) (by kernel_rfl) (fun _ _ _ h => h) (Or.inr ⟨by rfl, rfl⟩) (by assumption) ?_
            try simp only [Act.put, List.setIfInBounds_toArray, List.set_cons_zero, List.set_cons_succ]
            refine wpAnyH_take (i := 18) (oi := ({ dst := some 101, op := Op.pick (Operand.tmp 98) (Operand.tmp 100) (Operand.const (Value.bool false)), type := 4, pos := "law.go:42", after := #[{ on := 15, ground := Ground.data }, { on := 17, ground := Ground.data }, { on := 5, ground := Ground.guard }], guard := some (5, false) } : Oper)) (v := ?vv71) rfl (by kernel_rfl) (by kernel_rfl) (by kernel_rfl) (fun _ _ _ h => h) (Or.inl ⟨by rfl, ?hy71⟩) (by assumption) ?rest71
            case hy71 => (intro w hSw; (try dsimp only at hSw); go_simp; try (with_reducible rfl))
            try simp only [Act.put, List.setIfInBounds_toArray, List.set_cons_zero, List.set_cons_succ]
            refine wpAnyH_take (i := 19) (oi := ({ dst := some 102, op := Op.binOp BinOp.neq 4 (Operand.tmp 91) (Operand.tmp 101) 4, type := 4, pos := "law.go:42", after := #[{ on := 8, ground := Ground.data }, { on := 18, ground := Ground.data }, { on := 5, ground := Ground.guard }], guard := some (5, false) } : Oper)) (v := ?vv72) rfl (by kernel_rfl) (by kernel_rfl) (by kernel_rfl) (fun _ _ _ h => h) (Or.inl ⟨by rfl, ?hy72⟩) (by assumption) ?rest72
            case hy72 => (intro w hSw; (try dsimp only at hSw); go_simp; try (with_reducible rfl))
            try simp only [Act.put, List.setIfInBounds_toArray, List.set_cons_zero, List.set_cons_succ]
            refine wpAnyH_take (i := 20) (oi := ({ dst := some 103, op := Op.pick (Operand.tmp 88) (Operand.const (Value.bool true)) (Operand.tmp 102), type := 4, pos := "law.go:42", after := #[{ on := 5, ground := Ground.data }, { on := 19, ground := Ground.data }], guard := none } : Oper)) (v := ?vv73) rfl (by kernel_rfl) (by kernel_rfl) (by kernel_rfl) (fun _ _ _ h => h) (Or.inl ⟨by rfl, ?hy73⟩) (by assumption) ?rest73
            case hy73 => (intro w hSw; (try dsimp only at hSw); go_simp; try (with_reducible rfl))
            try simp only [Act.put, List.setIfInBounds_toArray, List.set_cons_zero, List.set_cons_succ]
            refine wpAnyH_take (i := 21) (oi := ({ dst := some 104, op := Op.move (Operand.tmp 103), type := 4, pos := "law.go:42", after := #[{ on := 20, ground := Ground.data }, { on := 15, ground := Ground.chain }], guard := none } : Oper)) (v := ?vv74) rfl (by kernel_rfl) (by kernel_rfl) (by kernel_rfl) (fun _ _ _ h => h) (Or.inl ⟨by rfl, ?hy74⟩) (by assumption) ?rest74
            case hy74 => (intro w hSw; (try dsimp only at hSw); go_simp; try (with_reducible rfl))
            try simp only [Act.put, List.setIfInBounds_toArray, List.set_cons_zero, List.set_cons_succ]
            refine wpAnyH_take (i := 22) (oi := ({ dst := some 105, op := Op.move (Operand.tmp 7), type := 69, pos := "law.go:42", after := #[{ on := 21, ground := Ground.guard }], guard := some (21, false) } : Oper)) (v := ?vv75) rfl (by kernel_rfl) (by kernel_rfl) (by kernel_rfl) (fun _ _ _ h => h) (Or.inl ⟨by rfl, ?hy75⟩) (by assumption) ?rest75
            case hy75 => (intro w hSw; (try dsimp only at hSw); go_simp; try (with_reducible rfl))
            try simp only [Act.put, List.setIfInBounds_toArray, List.set_cons_zero, List.set_cons_succ]
            refine wpAnyH_take (i := 23) (oi := ({ dst := some 106, op := Op.move (Operand.tmp 8), type := 26, pos := "law.go:42", after := #[{ on := 21, ground := Ground.guard }], guard := some (21, false) } : Oper)) (v := ?vv76) rfl (by kernel_rfl) (by kernel_rfl) (by kernel_rfl) (fun _ _ _ h => h) (Or.inl ⟨by rfl, ?hy76⟩) (by assumption) ?rest76
            case hy76 => (intro w hSw; (try dsimp only at hSw); go_simp; try (with_reducible rfl))
            try simp only [Act.put, List.setIfInBounds_toArray, List.set_cons_zero, List.set_cons_succ]
            refine wpAnyH_take (i := 24) (oi := ({ dst := some 107, op := Op.move (Operand.tmp 1), type := 3, pos := "law.go:42", after := #[{ on := 21, ground := Ground.guard }], guard := some (21, false) } : Oper)) (v := ?vv77) rfl (by kernel_rfl) (by kernel_rfl) (by kernel_rfl) (fun _ _ _ h => h) (Or.inl ⟨by rfl, ?hy77⟩) (by assumption) ?rest77
            case hy77 => (intro w hSw; (try dsimp only at hSw); go_simp; try (with_reducible rfl))
            try simp only [Act.put, List.setIfInBounds_toArray, List.set_cons_zero, List.set_cons_succ]
            refine wpAnyH_take (i := 26) (oi := ({ dst := some 109, op := Op.move (Operand.tmp 16), type := 34, pos := "law.go:42", after := #[{ on := 21, ground := Ground.guard }], guard := some (21, false) } : Oper)) (v := ?vv78) rfl (by kernel_rfl) (by kernel_rfl) (by kernel_rfl) (fun _ _ _ h => h) (Or.inl ⟨by rfl, ?hy78⟩) (by assumption) ?rest78
            case hy78 => (intro w hSw; (try dsimp only at hSw); go_simp; try (with_reducible rfl))
            try simp only [Act.put, List.setIfInBounds_toArray, List.set_cons_zero, List.set_cons_succ]
            refine wpAnyH_take (i := 27) (oi := ({ dst := some 110, op := Op.binOp BinOp.neq 34 (Operand.tmp 109) (Operand.const (Value.int IntKind.u64 0)) 34, type := 4, pos := "law.go:42", after := #[{ on := 26, ground := Ground.data }, { on := 21, ground := Ground.guard }], guard := some (21, false) } : Oper)) (v := ?vv79) rfl (by kernel_rfl) (by kernel_rfl) (by kernel_rfl) (fun _ _ _ h => h) (Or.inl ⟨by rfl, ?hy79⟩) (by assumption) ?rest79
            case hy79 => (intro w hSw; (try dsimp only at hSw); go_simp; try (with_reducible rfl))
            try simp only [Act.put, List.setIfInBounds_toArray, List.set_cons_zero, List.set_cons_succ]
            refine wpAnyH_ready (rs := [25]) (by kernel_rfl) (by simp) ?_
            refine AllReadyH.cons (o := ({ dst := some 108, op := Op.call { callee := Callee.value (Operand.func 50), args := #[Operand.tmp 105, Operand.tmp 106, Operand.tmp 107], argTypes := #[69, 26, 3] }, type := 4, pos := "law.go:42", after := #[{ on := 22, ground := Ground.data }, { on := 23, ground := Ground.data }, { on := 24, ground := Ground.data }, { on := 21, ground := Ground.chain }, { on := 21, ground := Ground.guard }], guard := some (21, false) } : Oper)) rfl (fun K hK => ?_) AllReadyH.nil
            go_simp
            go_at_call 50; refine (HW.out _ hHeld.2.2).mono ?_; rintro e z3 ⟨rfl, hz3⟩
            refine hK.out _ _ (KR.out _ hz3) (fun hHeld => ?_)
            clear hK K
            try simp only [Act.put, List.setIfInBounds_toArray, List.set_cons_zero, List.set_cons_succ]
            refine wpAnyH_take (i := 28) (oi := ({ dst := some 111, op := Op.binOp BinOp.neq 4 (Operand.tmp 108) (Operand.tmp 110) 4, type := 4, pos := "law.go:42", after := #[{ on := 25, ground := Ground.data }, { on := 27, ground := Ground.data }, { on := 21, ground := Ground.guard }], guard := some (21, false) } : Oper)) (v := ?vv80) rfl (by kernel_rfl) (by kernel_rfl) (by kernel_rfl) (fun _ _ _ h => h) (Or.inl ⟨by rfl, ?hy80⟩) (by assumption) ?rest80
            case hy80 => (intro w hSw; (try dsimp only at hSw); go_simp; try (with_reducible rfl))
            try simp only [Act.put, List.setIfInBounds_toArray, List.set_cons_zero, List.set_cons_succ]
            refine wpAnyH_take (i := 29) (oi := ({ dst := some 112, op := Op.pick (Operand.tmp 104) (Operand.const (Value.bool true)) (Operand.tmp 111), type := 4, pos := "law.go:42", after := #[{ on := 21, ground := Ground.data }, { on := 28, ground := Ground.data }], guard := none } : Oper)) (v := ?vv81) rfl (by kernel_rfl) (by kernel_rfl) (by kernel_rfl) (fun _ _ _ h => h) (Or.inl ⟨by rfl, ?hy81⟩) (by assumption) ?rest81
            case hy81 => (intro w hSw; (try dsimp only at hSw); go_simp; try (with_reducible rfl))
            try simp only [Act.put, List.setIfInBounds_toArray, List.set_cons_zero, List.set_cons_succ]
            refine wpAnyH_done (by kernel_rfl) ?_ _
            have HO5 : Hid (PokeOn w z3 A A' cap cap' c b c' b' n s s Ag capg mg gf [x, q, g, cl, w.heap.size]) := HO4.out.still hz3
            have HM5 : Hid (Slp z3 x t nt q g 1 false) := HM4.out.below hz3
            have HK5 : Hid (Lay z3 cl P T G ∧ Blk z3 w.heap.size #[.int .i64 P, .int .i64 T, .int .i64 G, .slice E m cp] 67) := ⟨HK4.out.1.below hz3 HK4.out.1.lt, HK4.out.2.but (But.of_below (l := []) hz3) (by simp)⟩
            have hRg : Hid (z3.rangeAt wr.heap.size 0 (runL (.slice Ag mg capg) ⟨mg, true, 2, nt, 0, 0, false⟩)) := (hR4'.out.below hz3).range
            clear HD HA HW KR HO4 HM4 HK4 hR4' s2 s9 hz1 hz2 hz3 hd0
            have hTu := turn_does z3 Ag capg mg gf ⟨mg, true, 2, nt, 0, 0, false⟩ A' cap' c' b' n s t rfl (fun h => by cases h) (show (1 : Int) ≤ 2 ∧ (2 : Int) ≤ 4 from by omega) ((fun h => absurd (show (2 : Int) = 1 from h) (by omega))) (show (0 : Int) ≤ 0 ∧ (0 : Int) ≤ 18446744073709551615 from by omega) hn6 (by omega) (HLW.out.more (by omega)) HO5.out.ref HO5.out.got (HO5.out.gfar.of (by intro k hk; simp at hk ⊢; omega))
            rw [show actS 2 t nt 0 0 n s = slpS t nt n 1 false s by simp [actS, slpS], show actA 2 nt 0 0 n s = 0 by simp [actA]] at hTu
            go_wp2_with (refine wpList_load_mid rfl 43 _ rfl wr.heap.size 0 rfl (runL (.slice Ag mg capg) ⟨mg, true, 2, nt, 0, 0, false⟩) _ hRg.out Try.underlying43 rfl (by kernel_rfl) ?_; clear hRg)
            go_at_call 22; refine hTu.mono ?_; rintro e w6 ⟨gb, cap2, rfl, hG6, hI6, hB6, hg6⟩
            have HO6 : Hid (PokeOn w w6 A A' cap cap' c b c' b' n s (slpS t nt n 1 false s) (some ⟨gb, 0, none⟩) cap2 (mg + 1) _ [x, q, g, cl, w.heap.size]) := HO5.out.turned hG6 hI6 hB6 hg6
            have HM6 : Hid (Slp w6 x t nt q g 1 false) := HM5.out.but hB6 (HO5.out.apart (by simp)) (HO5.out.apart (by simp)) (HO5.out.apart (by simp))
            have HK6 : Hid (Lay w6 cl P T G ∧ Blk w6 w.heap.size #[.int .i64 P, .int .i64 T, .int .i64 G, .slice E m cp] 67) := ⟨(hB6.block cl HK5.out.1.lt (HO5.out.apart (by simp))).trans HK5.out.1, HK5.out.2.but hB6 (HO5.out.apart (by simp))⟩
            have HG6 : Hid (SlpGot (mg + 1) (gsnoc gf mg (0)) 2 false) := slpgot_put HG.out
            clear hTu hG6 hI6 hB6 hg6 HO5 HM5 HG HK5
            have hSt := slp_on w6 A cap c b n s x q g 1 t nt false HO6.out.mem hn6 (HLW.out.more (by omega)) HM6.out ⟨(HO6.out.far x (by simp)).1.1, (HO6.out.far x (by simp)).1.2.1, (HO6.out.far q (by simp)).1.1, (HO6.out.far q (by simp)).1.2.1, (HO6.out.far g (by simp)).1.1, (HO6.out.far g (by simp)).1.2.1⟩
            rw [show slpP nt n 1 s = 2 by simp [slpP], show slpA nt n 1 s = false by simp [slpA], show decide (2 = 2) = true from rfl] at hSt
            go_wp2_with fail
            go_at_call 51; refine hSt.mono ?_; rintro e w7 ⟨q7, g7, rfl, hM7, hI7, hB7, hF7, hq7, hg7⟩
            have HM7 : Hid _ := hM7
            have hlt7 := hM7.lt
            have hcl7 := HK6.out.1.lt
            have hbx7 := HK6.out.2.lt
            have HK7 : Hid (Lay w7 cl P T G ∧ Blk w7 w.heap.size #[.int .i64 P, .int .i64 T, .int .i64 G, .slice E m cp] 67) := ⟨(hB7.block cl HK6.out.1.lt (by simp [hne, hxne.out, HQ.out])).trans HK6.out.1, HK6.out.2.but hB7 (by simp [hbx, hxne.out, HQ.out])⟩
            have HQ7 : Hid (cl ≠ q7 ∧ w.heap.size ≠ q7) := ⟨ne3 hxne.out.1 HQ.out.1 hcl7 hq7, ne3 hxne.out.2 HQ.out.2 hbx7 hq7⟩
            have hsz7 := hB7.size
            have HO7 : Hid (PokeOn w w7 A A' cap cap' c b c' b' n _ _ (some ⟨gb, 0, none⟩) cap2 (mg + 1) _ [x, q7, g7, cl, w.heap.size]) := HO6.out.stepped hI7 hB7 (by
              intro k hk
              simp only [List.mem_cons, List.not_mem_nil, or_false] at hk ⊢
              rcases hk with rfl | rfl | rfl | rfl <;> simp) (by
              intro k hk
              simp only [List.mem_cons, List.not_mem_nil, or_false] at hk
              rcases hk with rfl | rfl | rfl | rfl | rfl
              · exact ⟨.inl (by simp), hlt7.1⟩
              · exact ⟨by rcases hq7 with e | e | e; exact .inl (by simp [e]); exact .inl (by simp [e]); exact .inr e, hlt7.2.1⟩
              · exact ⟨by rcases hg7 with e | e; exact .inl (by simp [e]); exact .inr e, hlt7.2.2⟩
              · exact ⟨.inl (by simp), Nat.lt_of_lt_of_le hcl7 hsz7⟩
              · exact ⟨.inl (by simp), Nat.lt_of_lt_of_le hbx7 hsz7⟩)
            have HLW7 : Hid (Low (slpS t nt n 1 false s) ((k + 1 : Nat) : Int)) := (slpS_low HLW.out _ _ _ _ _).more (by omega)
            generalize slpS t nt n 1 false s = s' at *
            clear hSt hM7 hI7 hB7 hF7 hq7 hg7 hlt7 HO6 HM6 hcl7 hbx7 hsz7 HK6
            have hAl := alike_any w7 A A' cap cap' c b c' b' n s' hn6 HO7.out.two
            go_wp2_with fail
            go_at_call 24; refine hAl.mono ?_; rintro e w8 ⟨rfl, hb8⟩
            have HO8 : Hid _ := HO7.out.still hb8
            have HM8 : Hid _ := HM7.out.below hb8
            have HK8 : Hid (Lay w8 cl P T G ∧ Blk w8 w.heap.size #[.int .i64 P, .int .i64 T, .int .i64 G, .slice E m cp] 67) := ⟨HK7.out.1.below hb8 HK7.out.1.lt, HK7.out.2.but (But.of_below (l := []) hb8) (by simp)⟩
            clear hAl hb8 HO7 HM7 HK7
            go_wp2_with fail
            go_roundw
            case rel => exact ⟨k + 1, s', some ⟨gb, 0, none⟩, cap2, mg + 1, _, q7, g7, 2, false, by omega, by go_num, rfl, by rcases HG6.out.h with h | h | h | h <;> omega, HO8.out, HM8.out, HLW7, HG6, HK8, HQ7⟩
            case measure => simp [intOf]; omega
          · rw [show slpRn nt mg 2 false = (⟨mg, false, 0, 0, 0, 0, false⟩ : Rn) from rfl] at hR4'
            have s2 := hR4'.out.blk.cell 2 (v := .bool false) rfl
            have s9 := hR4'.out.blk.cell 9 (v := .bool false) rfl
            have KR : Hid (∀ Y, Below w4.heap.size w4 Y → Y.cell? ⟨wr.heap.size, 2, none⟩ = some (.bool false) ∧ Y.cell? ⟨wr.heap.size, 9, none⟩ = some (.bool false) ∧ Below w4.heap.size w4 Y) := fun Y hY => ⟨(hR4'.out.below hY).blk.cell 2 rfl, (hR4'.out.below hY).blk.cell 9 rfl, hY⟩
            have HD : Hid (∀ Y, Below w4.heap.size w4 Y → Calls Try.prog 48 #[.pointer (some ⟨x, 0, none⟩)] Y fun e w' => e = .returned (.bool true) ∧ w'.cell? ⟨wr.heap.size, 2, none⟩ = some (.bool false) ∧ w'.cell? ⟨wr.heap.size, 9, none⟩ = some (.bool false) ∧ Below w4.heap.size w4 w') := fun Y hY => by
              obtain ⟨nx, hx1, hx2⟩ := (HM4.out.below hY).next
              have := slp_done Y x nx hx1
              rw [hx2, show decide (2 = 2) = true from rfl] at this
              exact this.mono fun _ _ h => ⟨h.1, by rw [← h.2]; exact KR.out Y hY⟩
            have HA : Hid (∀ Y, Below w4.heap.size w4 Y → Calls Try.prog 49 #[.pointer (some ⟨x, 0, none⟩), .pointer (some ⟨c, 0, none⟩)] Y fun e w' => e = .returned (.bool false) ∧ w'.cell? ⟨wr.heap.size, 2, none⟩ = some (.bool false) ∧ w'.cell? ⟨wr.heap.size, 9, none⟩ = some (.bool false) ∧ Below w4.heap.size w4 w') := fun Y hY => by
              have := slp_asl Y A cap c b n s x q g 2 t nt false (HO4.out.mem.below hY) hn6 (HM4.out.below hY)
              rw [show (false && decide (peekT n s nt = 0)) = false by simp [hpv0]] at this
              exact this.mono fun _ _ h => ⟨h.1, KR.out _ (hY.trans (h.2.mono hY.size))⟩
            have HW : Hid (∀ Y, Below w4.heap.size w4 Y → Calls Try.prog 50 #[.pointer (some ⟨cl, 0, none⟩), .pointer (some ⟨c, 0, none⟩), .int .i64 t] Y fun e w' => e = .returned (.bool false) ∧ Below w4.heap.size w4 w') := fun Y hY => by
              have := hNA.out Y s (HK4.out.1.below hY HK4.out.1.lt) (HO4.out.mem.below hY)
              rw [show decide (peekT n s nt ≠ 0) = false by simp [hpv0]] at this
              exact this.mono fun _ _ h => ⟨h.1, hY.trans (h.2.mono hY.size)⟩
            have hd0 : Below w4.heap.size w4 w4.drew := (Below.refl _ _).drew
            have HPZ : Hid (peekT n s nt = 0) := hpv0
            rw [hpv0]
            clear hpv0
            go_wp2_with fail
            refine wp_region_held_drew (S := (fun w' => w'.cell? ⟨wr.heap.size, 2, none⟩ = some (.bool false) ∧ w'.cell? ⟨wr.heap.size, 9, none⟩ = some (.bool false) ∧ Below w4.heap.size w4 w')) (by kernel_rfl) ⟨s2, s9, hd0⟩ (fun hHeld => ?_)
            refine wpAnyH_take (i := 0) (oi := ({ dst := some 83, op := Op.move (Operand.tmp 12), type := 89, pos := "law.go:42", after := #[], guard := none } : Oper)) (v := ?vv82) rfl (by kernel_rfl) (by kernel_rfl) (by kernel_rfl) (fun _ _ _ h => h) (Or.inl ⟨by rfl, ?hy82⟩) (by assumption) ?rest82
            case hy82 => (intro w hSw; (try dsimp only at hSw); go_simp; try (with_reducible rfl))
            try simp only [Act.put, List.setIfInBounds_toArray, List.set_cons_zero, List.set_cons_succ]
            refine wpAnyH_take (i := 2) (oi := ({ dst := some 85, op := Op.fieldAddr 43 (Operand.tmp 15) 2, type := 0, pos := "law.go:42", after := #[], guard := none } : Oper)) (v := ?vv83) rfl (by kernel_rfl) (by kernel_rfl) (by kernel_rfl) (fun _ _ _ h => h) (Or.inl ⟨by rfl, ?hy83⟩) (by assumption) ?rest83
            case hy83 => (intro w hSw; (try dsimp only at hSw); go_simp; try (with_reducible rfl))
            try simp only [Act.put, List.setIfInBounds_toArray, List.set_cons_zero, List.set_cons_succ]
            refine wpAnyH_take (i := 3) (oi := ({ dst := some 86, op := Op.load 4 (Operand.tmp 85), type := 4, pos := "law.go:42", after := #[{ on := 2, ground := Ground.data }], guard := none } : Oper)) (v := ?vv84) rfl (by kernel_rfl) (by kernel_rfl) (by kernel_rfl) (fun _ _ _ h => h) (Or.inl ⟨by rfl, ?hy84⟩) (by assumption) ?rest84
            case hy84 => (intro w hSw; (try dsimp only at hSw); go_simp; try (with_reducible rfl))
            try simp only [Act.put, List.setIfInBounds_toArray, List.set_cons_zero, List.set_cons_succ]
            refine wpAnyH_ready (rs := [1]) (by kernel_rfl) (by simp) ?_
            refine AllReadyH.cons (o := ({ dst := some 84, op := Op.call { callee := Callee.value (Operand.func 48), args := #[Operand.tmp 83], argTypes := #[89] }, type := 4, pos := "law.go:42", after := #[{ on := 0, ground := Ground.data }], guard := none } : Oper)) rfl (fun K hK => ?_) AllReadyH.nil
            go_simp
            go_at_call 48; refine (HD.out _ hHeld.2.2).mono ?_; rintro e z1 ⟨rfl, hz1⟩
            refine hK.out _ _ hz1 (fun hHeld => ?_)
            clear hK K
            try simp only [Act.put, List.setIfInBounds_toArray, List.set_cons_zero, List.set_cons_succ]
            refine wpAnyH_take (i := 4) (oi := ({ dst := some 87, op := Op.binOp BinOp.eql 4 (Operand.tmp 84) (Operand.tmp 86) 4, type := 4, pos := "law.go:42", after := #[{ on := 1, ground := Ground.data }, { on := 3, ground := Ground.data }], guard := none } : Oper)) (v := ?vv85) rfl (by kernel_rfl) (by kernel_rfl) (by kernel_rfl) (fun _ _ _ h => h) (Or.inl ⟨by rfl, ?hy85⟩) (by assumption) ?rest85
            case hy85 => (intro w hSw; (try dsimp only at hSw); go_simp; try (with_reducible rfl))
            try simp only [Act.put, List.setIfInBounds_toArray, List.set_cons_zero, List.set_cons_succ]
            refine wpAnyH_take (i := 5) (oi := ({ dst := some 88, op := Op.move (Operand.tmp 87), type := 4, pos := "law.go:42", after := #[{ on := 4, ground := Ground.data }, { on := 1, ground := Ground.chain }], guard := none } : Oper)) (v := ?vv86) rfl (by kernel_rfl) (by kernel_rfl) (by kernel_rfl) (fun _ _ _ h => h) (Or.inl ⟨by rfl, ?hy86⟩) (by assumption) ?rest86
            case hy86 => (intro w hSw; (try dsimp only at hSw); go_simp; try (with_reducible rfl))
            try simp only [Act.put, List.setIfInBounds_toArray, List.set_cons_zero, List.set_cons_succ]
            refine wpAnyH_take (i := 6) (oi := ({ dst := some 89, op := Op.move (Operand.tmp 12), type := 89, pos := "law.go:42", after := #[{ on := 5, ground := Ground.guard }], guard := some (5, false) } : Oper)) (v := ?vv87) rfl (by kernel_rfl) (by kernel_rfl) (by kernel_rfl) (fun _ _ _ h => h) (Or.inl ⟨by rfl, ?hy87⟩) (by assumption) ?rest87
            case hy87 => (intro w hSw; (try dsimp only at hSw); go_simp; try (with_reducible rfl))
            try simp only [Act.put, List.setIfInBounds_toArray, List.set_cons_zero, List.set_cons_succ]
            refine wpAnyH_take (i := 7) (oi := ({ dst := some 90, op := Op.move (Operand.tmp 8), type := 26, pos := "law.go:42", after := #[{ on := 5, ground := Ground.guard }], guard := some (5, false) } : Oper)) (v := ?vv88) rfl (by kernel_rfl) (by kernel_rfl) (by kernel_rfl) (fun _ _ _ h => h) (Or.inl ⟨by rfl, ?hy88⟩) (by assumption) ?rest88
            case hy88 => (intro w hSw; (try dsimp only at hSw); go_simp; try (with_reducible rfl))
            try simp only [Act.put, List.setIfInBounds_toArray, List.set_cons_zero, List.set_cons_succ]
            refine wpAnyH_take (i := 9) (oi := ({ dst := some 92, op := Op.fieldAddr 43 (Operand.tmp 15) 2, type := 0, pos := "law.go:42", after := #[{ on := 5, ground := Ground.guard }], guard := some (5, false) } : Oper)) (v := ?vv89) rfl (by kernel_rfl) (by kernel_rfl) (by kernel_rfl) (fun _ _ _ h => h) (Or.inl ⟨by rfl, ?hy89⟩) (by assumption) ?rest89
            case hy89 => (intro w hSw; (try dsimp only at hSw); go_simp; try (with_reducible rfl))
            try simp only [Act.put, List.setIfInBounds_toArray, List.set_cons_zero, List.set_cons_succ]
            refine wpAnyH_take (i := 10) (oi := ({ dst := some 93, op := Op.load 4 (Operand.tmp 92), type := 4, pos := "law.go:42", after := #[{ on := 9, ground := Ground.data }, { on := 5, ground := Ground.guard }], guard := some (5, false) } : Oper)) (v := ?vv90) rfl (by kernel_rfl) (by kernel_rfl) (by kernel_rfl) (fun _ _ _ h => h) (Or.inl ⟨by rfl, ?hy90⟩) (by assumption) ?rest90
            case hy90 => (intro w hSw; (try dsimp only at hSw); go_simp; try (with_reducible rfl))
            try simp only [Act.put, List.setIfInBounds_toArray, List.set_cons_zero, List.set_cons_succ]
            refine wpAnyH_ready (rs := [8]) (by kernel_rfl) (by simp) ?_
            refine AllReadyH.cons (o := ({ dst := some 91, op := Op.call { callee := Callee.value (Operand.func 49), args := #[Operand.tmp 89, Operand.tmp 90], argTypes := #[89, 26] }, type := 4, pos := "law.go:42", after := #[{ on := 6, ground := Ground.data }, { on := 7, ground := Ground.data }, { on := 5, ground := Ground.chain }, { on := 5, ground := Ground.guard }], guard := some (5, false) } : Oper)) rfl (fun K hK => ?_) AllReadyH.nil
            go_simp
            go_at_call 49; refine (HA.out _ hHeld.2.2).mono ?_; rintro e z2 ⟨rfl, hz2⟩
            refine hK.out _ _ hz2 (fun hHeld => ?_)
            clear hK K
            try simp only [Act.put, List.setIfInBounds_toArray, List.set_cons_zero, List.set_cons_succ]
            refine wpAnyH_take (i := 11) (oi := ({ dst := some 94, op := Op.move (Operand.tmp 93), type := 4, pos := "law.go:42", after := #[{ on := 10, ground := Ground.data }, { on := 8, ground := Ground.chain }, { on := 5, ground := Ground.guard }], guard := some (5, false) } : Oper)) (v := ?vv91) rfl (by kernel_rfl) (by kernel_rfl) (by kernel_rfl) (fun _ _ _ h => h) (Or.inl ⟨by rfl, ?hy91⟩) (by assumption) ?rest91
            case hy91 => (intro w hSw; (try dsimp only at hSw); go_simp; try (with_reducible rfl))
            try simp only [Act.put, List.setIfInBounds_toArray, List.set_cons_zero, List.set_cons_succ]
            refine wpAnyH_take (i := 12) (oi := ({ dst := some 95, op := Op.fieldAddr 43 (Operand.tmp 15) 4, type := 0, pos := "law.go:42", after := #[{ on := 11, ground := Ground.guard }], guard := some (11, true) } : Oper)) (v := undef) rfl (by kernel_rfl) (by kernel_rfl) (by kernel_rfl) (fun _ _ _ h => h) (Or.inr ⟨by rfl, rfl⟩) (by assumption) ?_
            try simp only [Act.put, List.setIfInBounds_toArray, List.set_cons_zero, List.set_cons_succ]
            refine wpAnyH_take (i := 13) (oi := ({ dst := some 96, op := Op.load 4 (Operand.tmp 95), type := 4, pos := "law.go:42", after := #[{ on := 12, ground := Ground.data }, { on := 11, ground := Ground.guard }], guard := some (11, true) } : Oper)) (v := undef) rfl (by kernel_rfl) (by kernel_rfl) (by kernel_rfl) (fun _ _ _ h => h) (Or.inr ⟨by rfl, rfl⟩) (by assumption) ?_
            try simp only [Act.put, List.setIfInBounds_toArray, List.set_cons_zero, List.set_cons_succ]
            refine wpAnyH_take (i := 14) (oi := ({ dst := some 97, op := Op.pick (Operand.tmp 94) (Operand.tmp 96) (Operand.const (Value.bool false)), type := 4, pos := "law.go:42", after := #[{ on := 11, ground := Ground.data }, { on := 13, ground := Ground.data }, { on := 5, ground := Ground.guard }], guard := some (5, false) } : Oper)) (v := ?vv94) rfl (by kernel_rfl) (by kernel_rfl) (by kernel_rfl) (fun _ _ _ h => h) (Or.inl ⟨by rfl, ?hy94⟩) (by assumption) ?rest94
            case hy94 => (intro w hSw; (try dsimp only at hSw); go_simp; try (with_reducible rfl))
            try simp only [Act.put, List.setIfInBounds_toArray, List.set_cons_zero, List.set_cons_succ]
            refine wpAnyH_take (i := 15) (oi := ({ dst := some 98, op := Op.move (Operand.tmp 97), type := 4, pos := "law.go:42", after := #[{ on := 14, ground := Ground.data }, { on := 11, ground := Ground.chain }, { on := 5, ground := Ground.guard }], guard := some (5, false) } : Oper)) (v := ?vv95) rfl (by kernel_rfl) (by kernel_rfl) (by kernel_rfl) (fun _ _ _ h => h) (Or.inl ⟨by rfl, ?hy95⟩) (by assumption) ?rest95
            case hy95 => (intro w hSw; (try dsimp only at hSw); go_simp; try (with_reducible rfl))
            try simp only [Act.put, List.setIfInBounds_toArray, List.set_cons_zero, List.set_cons_succ]
            refine wpAnyH_take (i := 16) (oi := ({ dst := some 99, op := Op.move (Operand.tmp 16), type := 34, pos := "law.go:42", after := #[{ on := 15, ground := Ground.guard }], guard := some (15, true) } : Oper)) (v := undef) rfl (by kernel_rfl) (by kernel_rfl) (by kernel_rfl) (fun _ _ _ h => h) (Or.inr ⟨by rfl, rfl⟩) (by assumption) ?_
            try simp only [Act.put, List.setIfInBounds_toArray, List.set_cons_zero, List.set_cons_succ]
            refine wpAnyH_take (i := 17) (oi := ({ dst := some 100, op := Op.binOp BinOp.eql 34 (Operand.tmp 99) (Operand.const (Value.int IntKind.u64 0)) 34, type := 4, pos := "law.go:42", after := #[{ on := 16, ground := Ground.data }, { on := 15, ground := Ground.guard }], guard := some (15, true) } : Oper)) (v := undef) rfl (by kernel_rfl) (by kernel_rfl) (by kernel_rfl) (fun _ _ _ h => h) (Or.inr ⟨by rfl, rfl⟩) (by assumption) ?_
            try simp only [Act.put, List.setIfInBounds_toArray, List.set_cons_zero, List.set_cons_succ]
            refine wpAnyH_take (i := 18) (oi := ({ dst := some 101, op := Op.pick (Operand.tmp 98) (Operand.tmp 100) (Operand.const (Value.bool false)), type := 4, pos := "law.go:42", after := #[{ on := 15, ground := Ground.data }, { on := 17, ground := Ground.data }, { on := 5, ground := Ground.guard }], guard := some (5, false) } : Oper)) (v := ?vv98) rfl (by kernel_rfl) (by kernel_rfl) (by kernel_rfl) (fun _ _ _ h => h) (Or.inl ⟨by rfl, ?hy98⟩) (by assumption) ?rest98
            case hy98 => (intro w hSw; (try dsimp only at hSw); go_simp; try (with_reducible rfl))
            try simp only [Act.put, List.setIfInBounds_toArray, List.set_cons_zero, List.set_cons_succ]
            refine wpAnyH_take (i := 19) (oi := ({ dst := some 102, op := Op.binOp BinOp.neq 4 (Operand.tmp 91) (Operand.tmp 101) 4, type := 4, pos := "law.go:42", after := #[{ on := 8, ground := Ground.data }, { on := 18, ground := Ground.data }, { on := 5, ground := Ground.guard }], guard := some (5, false) } : Oper)) (v := ?vv99) rfl (by kernel_rfl) (by kernel_rfl) (by kernel_rfl) (fun _ _ _ h => h) (Or.inl ⟨by rfl, ?hy99⟩) (by assumption) ?rest99
            case hy99 => (intro w hSw; (try dsimp only at hSw); go_simp; try (with_reducible rfl))
            try simp only [Act.put, List.setIfInBounds_toArray, List.set_cons_zero, List.set_cons_succ]
            refine wpAnyH_take (i := 20) (oi := ({ dst := some 103, op := Op.pick (Operand.tmp 88) (Operand.const (Value.bool true)) (Operand.tmp 102), type := 4, pos := "law.go:42", after := #[{ on := 5, ground := Ground.data }, { on := 19, ground := Ground.data }], guard := none } : Oper)) (v := ?vv100) rfl (by kernel_rfl) (by kernel_rfl) (by kernel_rfl) (fun _ _ _ h => h) (Or.inl ⟨by rfl, ?hy100⟩) (by assumption) ?rest100
            case hy100 => (intro w hSw; (try dsimp only at hSw); go_simp; try (with_reducible rfl))
            try simp only [Act.put, List.setIfInBounds_toArray, List.set_cons_zero, List.set_cons_succ]
            refine wpAnyH_take (i := 21) (oi := ({ dst := some 104, op := Op.move (Operand.tmp 103), type := 4, pos := "law.go:42", after := #[{ on := 20, ground := Ground.data }, { on := 15, ground := Ground.chain }], guard := none } : Oper)) (v := ?vv101) rfl (by kernel_rfl) (by kernel_rfl) (by kernel_rfl) (fun _ _ _ h => h) (Or.inl ⟨by rfl, ?hy101⟩) (by assumption) ?rest101
            case hy101 => (intro w hSw; (try dsimp only at hSw); go_simp; try (with_reducible rfl))
            try simp only [Act.put, List.setIfInBounds_toArray, List.set_cons_zero, List.set_cons_succ]
            refine wpAnyH_take (i := 22) (oi := ({ dst := some 105, op := Op.move (Operand.tmp 7), type := 69, pos := "law.go:42", after := #[{ on := 21, ground := Ground.guard }], guard := some (21, false) } : Oper)) (v := ?vv102) rfl (by kernel_rfl) (by kernel_rfl) (by kernel_rfl) (fun _ _ _ h => h) (Or.inl ⟨by rfl, ?hy102⟩) (by assumption) ?rest102
            case hy102 => (intro w hSw; (try dsimp only at hSw); go_simp; try (with_reducible rfl))
            try simp only [Act.put, List.setIfInBounds_toArray, List.set_cons_zero, List.set_cons_succ]
            refine wpAnyH_take (i := 23) (oi := ({ dst := some 106, op := Op.move (Operand.tmp 8), type := 26, pos := "law.go:42", after := #[{ on := 21, ground := Ground.guard }], guard := some (21, false) } : Oper)) (v := ?vv103) rfl (by kernel_rfl) (by kernel_rfl) (by kernel_rfl) (fun _ _ _ h => h) (Or.inl ⟨by rfl, ?hy103⟩) (by assumption) ?rest103
            case hy103 => (intro w hSw; (try dsimp only at hSw); go_simp; try (with_reducible rfl))
            try simp only [Act.put, List.setIfInBounds_toArray, List.set_cons_zero, List.set_cons_succ]
            refine wpAnyH_take (i := 24) (oi := ({ dst := some 107, op := Op.move (Operand.tmp 1), type := 3, pos := "law.go:42", after := #[{ on := 21, ground := Ground.guard }], guard := some (21, false) } : Oper)) (v := ?vv104) rfl (by kernel_rfl) (by kernel_rfl) (by kernel_rfl) (fun _ _ _ h => h) (Or.inl ⟨by rfl, ?hy104⟩) (by assumption) ?rest104
            case hy104 => (intro w hSw; (try dsimp only at hSw); go_simp; try (with_reducible rfl))
            try simp only [Act.put, List.setIfInBounds_toArray, List.set_cons_zero, List.set_cons_succ]
            refine wpAnyH_take (i := 26) (oi := ({ dst := some 109, op := Op.move (Operand.tmp 16), type := 34, pos := "law.go:42", after := #[{ on := 21, ground := Ground.guard }], guard := some (21, false) } : Oper)) (v := ?vv105) rfl (by kernel_rfl) (by kernel_rfl) (by kernel_rfl) (fun _ _ _ h => h) (Or.inl ⟨by rfl, ?hy105⟩) (by assumption) ?rest105
            case hy105 => (intro w hSw; (try dsimp only at hSw); go_simp; try (with_reducible rfl))
            try simp only [Act.put, List.setIfInBounds_toArray, List.set_cons_zero, List.set_cons_succ]
            refine wpAnyH_take (i := 27) (oi := ({ dst := some 110, op := Op.binOp BinOp.neq 34 (Operand.tmp 109) (Operand.const (Value.int IntKind.u64 0)) 34, type := 4, pos := "law.go:42", after := #[{ on := 26, ground := Ground.data }, { on := 21, ground := Ground.guard }], guard := some (21, false) } : Oper)) (v := ?vv106) rfl (by kernel_rfl) (by kernel_rfl) (by kernel_rfl) (fun _ _ _ h => h) (Or.inl ⟨by rfl, ?hy106⟩) (by assumption) ?rest106
            case hy106 => (intro w hSw; (try dsimp only at hSw); go_simp; try (with_reducible rfl))
            try simp only [Act.put, List.setIfInBounds_toArray, List.set_cons_zero, List.set_cons_succ]
            refine wpAnyH_ready (rs := [25]) (by kernel_rfl) (by simp) ?_
            refine AllReadyH.cons (o := ({ dst := some 108, op := Op.call { callee := Callee.value (Operand.func 50), args := #[Operand.tmp 105, Operand.tmp 106, Operand.tmp 107], argTypes := #[69, 26, 3] }, type := 4, pos := "law.go:42", after := #[{ on := 22, ground := Ground.data }, { on := 23, ground := Ground.data }, { on := 24, ground := Ground.data }, { on := 21, ground := Ground.chain }, { on := 21, ground := Ground.guard }], guard := some (21, false) } : Oper)) rfl (fun K hK => ?_) AllReadyH.nil
            go_simp
            go_at_call 50; refine (HW.out _ hHeld.2.2).mono ?_; rintro e z3 ⟨rfl, hz3⟩
            refine hK.out _ _ (KR.out _ hz3) (fun hHeld => ?_)
            clear hK K
            try simp only [Act.put, List.setIfInBounds_toArray, List.set_cons_zero, List.set_cons_succ]
            refine wpAnyH_take (i := 28) (oi := ({ dst := some 111, op := Op.binOp BinOp.neq 4 (Operand.tmp 108) (Operand.tmp 110) 4, type := 4, pos := "law.go:42", after := #[{ on := 25, ground := Ground.data }, { on := 27, ground := Ground.data }, { on := 21, ground := Ground.guard }], guard := some (21, false) } : Oper)) (v := ?vv107) rfl (by kernel_rfl) (by kernel_rfl) (by kernel_rfl) (fun _ _ _ h => h) (Or.inl ⟨by rfl, ?hy107⟩) (by assumption) ?rest107
            case hy107 => (intro w hSw; (try dsimp only at hSw); go_simp; try (with_reducible rfl))
            try simp only [Act.put, List.setIfInBounds_toArray, List.set_cons_zero, List.set_cons_succ]
            refine wpAnyH_take (i := 29) (oi := ({ dst := some 112, op := Op.pick (Operand.tmp 104) (Operand.const (Value.bool true)) (Operand.tmp 111), type := 4, pos := "law.go:42", after := #[{ on := 21, ground := Ground.data }, { on := 28, ground := Ground.data }], guard := none } : Oper)) (v := ?vv108) rfl (by kernel_rfl) (by kernel_rfl) (by kernel_rfl) (fun _ _ _ h => h) (Or.inl ⟨by rfl, ?hy108⟩) (by assumption) ?rest108
            case hy108 => (intro w hSw; (try dsimp only at hSw); go_simp; try (with_reducible rfl))
            try simp only [Act.put, List.setIfInBounds_toArray, List.set_cons_zero, List.set_cons_succ]
            refine wpAnyH_done (by kernel_rfl) ?_ _
            have HO5 : Hid (PokeOn w z3 A A' cap cap' c b c' b' n s s Ag capg mg gf [x, q, g, cl, w.heap.size]) := HO4.out.still hz3
            have HM5 : Hid (Slp z3 x t nt q g 2 false) := HM4.out.below hz3
            have HK5 : Hid (Lay z3 cl P T G ∧ Blk z3 w.heap.size #[.int .i64 P, .int .i64 T, .int .i64 G, .slice E m cp] 67) := ⟨HK4.out.1.below hz3 HK4.out.1.lt, HK4.out.2.but (But.of_below (l := []) hz3) (by simp)⟩
            have hRg : Hid (z3.rangeAt wr.heap.size 0 (runL (.slice Ag mg capg) ⟨mg, false, 0, 0, 0, 0, false⟩)) := (hR4'.out.below hz3).range
            clear HD HA HW KR HO4 HM4 HK4 hR4' s2 s9 hz1 hz2 hz3 hd0
            have hTu := turn_go z3 Ag capg mg ⟨mg, false, 0, 0, 0, 0, false⟩ c' t rfl
            go_wp2_with (refine wpList_load_mid rfl 43 _ rfl wr.heap.size 0 rfl (runL (.slice Ag mg capg) ⟨mg, false, 0, 0, 0, 0, false⟩) _ hRg.out Try.underlying43 rfl (by kernel_rfl) ?_; clear hRg)
            go_at_call 22; refine hTu.mono ?_; rintro e w6 ⟨rfl, hb6⟩
            have HSS : slpS t nt n 2 false s = s := by simp [slpS]
            have HO6 : Hid (PokeOn w w6 A A' cap cap' c b c' b' n s (slpS t nt n 2 false s) Ag capg mg gf [x, q, g, cl, w.heap.size]) := by rw [HSS]; exact HO5.out.still hb6
            have HM6 : Hid (Slp w6 x t nt q g 2 false) := HM5.out.below hb6
            have HK6 : Hid (Lay w6 cl P T G ∧ Blk w6 w.heap.size #[.int .i64 P, .int .i64 T, .int .i64 G, .slice E m cp] 67) := ⟨HK5.out.1.below hb6 HK5.out.1.lt, HK5.out.2.but (But.of_below (l := []) hb6) (by simp)⟩
            clear hTu hb6 HO5 HM5 HSS HK5
            have hSt := slp_on w6 A cap c b n s x q g 2 t nt false HO6.out.mem hn6 (HLW.out.more (by omega)) HM6.out ⟨(HO6.out.far x (by simp)).1.1, (HO6.out.far x (by simp)).1.2.1, (HO6.out.far q (by simp)).1.1, (HO6.out.far q (by simp)).1.2.1, (HO6.out.far g (by simp)).1.1, (HO6.out.far g (by simp)).1.2.1⟩
            rw [show slpP nt n 2 s = 2 by simp [slpP], show slpA nt n 2 s = false by simp [slpA], show decide (2 = 2) = true from rfl] at hSt
            go_wp2_with fail
            go_at_call 51; refine hSt.mono ?_; rintro e w7 ⟨q7, g7, rfl, hM7, hI7, hB7, hF7, hq7, hg7⟩
            have HM7 : Hid _ := hM7
            have hlt7 := hM7.lt
            have hcl7 := HK6.out.1.lt
            have hbx7 := HK6.out.2.lt
            have HK7 : Hid (Lay w7 cl P T G ∧ Blk w7 w.heap.size #[.int .i64 P, .int .i64 T, .int .i64 G, .slice E m cp] 67) := ⟨(hB7.block cl HK6.out.1.lt (by simp [hne, hxne.out, HQ.out])).trans HK6.out.1, HK6.out.2.but hB7 (by simp [hbx, hxne.out, HQ.out])⟩
            have HQ7 : Hid (cl ≠ q7 ∧ w.heap.size ≠ q7) := ⟨ne3 hxne.out.1 HQ.out.1 hcl7 hq7, ne3 hxne.out.2 HQ.out.2 hbx7 hq7⟩
            have hsz7 := hB7.size
            have HO7 : Hid (PokeOn w w7 A A' cap cap' c b c' b' n _ _ Ag capg mg _ [x, q7, g7, cl, w.heap.size]) := HO6.out.stepped hI7 hB7 (by
              intro k hk
              simp only [List.mem_cons, List.not_mem_nil, or_false] at hk ⊢
              rcases hk with rfl | rfl | rfl | rfl <;> simp) (by
              intro k hk
              simp only [List.mem_cons, List.not_mem_nil, or_false] at hk
              rcases hk with rfl | rfl | rfl | rfl | rfl
              · exact ⟨.inl (by simp), hlt7.1⟩
              · exact ⟨by rcases hq7 with e | e | e; exact .inl (by simp [e]); exact .inl (by simp [e]); exact .inr e, hlt7.2.1⟩
              · exact ⟨by rcases hg7 with e | e; exact .inl (by simp [e]); exact .inr e, hlt7.2.2⟩
              · exact ⟨.inl (by simp), Nat.lt_of_lt_of_le hcl7 hsz7⟩
              · exact ⟨.inl (by simp), Nat.lt_of_lt_of_le hbx7 hsz7⟩)
            have HLW7 : Hid (Low (slpS t nt n 2 false s) ((k + 1 : Nat) : Int)) := (slpS_low HLW.out _ _ _ _ _).more (by omega)
            generalize slpS t nt n 2 false s = s' at *
            clear hSt hM7 hI7 hB7 hF7 hq7 hg7 hlt7 HO6 HM6 hcl7 hbx7 hsz7 HK6
            have hAl := alike_any w7 A A' cap cap' c b c' b' n s' hn6 HO7.out.two
            go_wp2_with fail
            go_at_call 24; refine hAl.mono ?_; rintro e w8 ⟨rfl, hb8⟩
            have HO8 : Hid _ := HO7.out.still hb8
            have HM8 : Hid _ := HM7.out.below hb8
            have HK8 : Hid (Lay w8 cl P T G ∧ Blk w8 w.heap.size #[.int .i64 P, .int .i64 T, .int .i64 G, .slice E m cp] 67) := ⟨HK7.out.1.below hb8 HK7.out.1.lt, HK7.out.2.but (But.of_below (l := []) hb8) (by simp)⟩
            clear hAl hb8 HO7 HM7 HK7
            go_wp2_with fail
            go_roundw
            case rel => exact ⟨k + 1, s', Ag, capg, mg, gf, q7, g7, 2, false, by omega, by go_num, rfl, hmg, HO8.out, HM8.out, HLW7, HG, HK8, HQ7⟩
            case measure => simp [intOf]; omega
        · have hphs : (ph = 0 ∧ asl = false) ∨ (ph = 0 ∧ asl = true) ∨ (ph = 1 ∧ asl = false) ∨ (ph = 2 ∧ asl = false) := by
            rcases HG.out.h with h | h | h | h
            · exact .inl ⟨h.1, h.2.1⟩
            · exact .inr (.inl ⟨h.1, h.2.1⟩)
            · exact .inr (.inr (.inl ⟨h.1, h.2.1⟩))
            · exact .inr (.inr (.inr ⟨h.1, h.2.1⟩))
          rcases hphs with ⟨rfl, rfl⟩ | ⟨rfl, rfl⟩ | ⟨rfl, rfl⟩ | ⟨rfl, rfl⟩
          · obtain rfl : mg = 0 := HG.out.zero
            rw [show slpRn nt 0 0 false = (⟨0, true, 1, nt, 0, 0, false⟩ : Rn) from rfl] at hR4'
            have s2 := hR4'.out.blk.cell 2 (v := .bool true) rfl
            have s9 := hR4'.out.blk.cell 9 (v := .bool false) rfl
            have KR : Hid (∀ Y, Below w4.heap.size w4 Y → Y.cell? ⟨wr.heap.size, 2, none⟩ = some (.bool true) ∧ Y.cell? ⟨wr.heap.size, 9, none⟩ = some (.bool false) ∧ Below w4.heap.size w4 Y) := fun Y hY => ⟨(hR4'.out.below hY).blk.cell 2 rfl, (hR4'.out.below hY).blk.cell 9 rfl, hY⟩
            have HD : Hid (∀ Y, Below w4.heap.size w4 Y → Calls Try.prog 48 #[.pointer (some ⟨x, 0, none⟩)] Y fun e w' => e = .returned (.bool false) ∧ w'.cell? ⟨wr.heap.size, 2, none⟩ = some (.bool true) ∧ w'.cell? ⟨wr.heap.size, 9, none⟩ = some (.bool false) ∧ Below w4.heap.size w4 w') := fun Y hY => by
              obtain ⟨nx, hx1, hx2⟩ := (HM4.out.below hY).next
              have := slp_done Y x nx hx1
              rw [hx2, show decide (0 = 2) = false from rfl] at this
              exact this.mono fun _ _ h => ⟨h.1, by rw [← h.2]; exact KR.out Y hY⟩
            have HA : Hid (∀ Y, Below w4.heap.size w4 Y → Calls Try.prog 49 #[.pointer (some ⟨x, 0, none⟩), .pointer (some ⟨c, 0, none⟩)] Y fun e w' => e = .returned (.bool false) ∧ w'.cell? ⟨wr.heap.size, 2, none⟩ = some (.bool true) ∧ w'.cell? ⟨wr.heap.size, 9, none⟩ = some (.bool false) ∧ Below w4.heap.size w4 w') := fun Y hY => by
              have := slp_asl Y A cap c b n s x q g 0 t nt false (HO4.out.mem.below hY) hn6 (HM4.out.below hY)
              rw [show (false && decide (peekT n s nt = 0)) = false by simp [hpv0]] at this
              exact this.mono fun _ _ h => ⟨h.1, KR.out _ (hY.trans (h.2.mono hY.size))⟩
            have HW : Hid (∀ Y, Below w4.heap.size w4 Y → Calls Try.prog 50 #[.pointer (some ⟨cl, 0, none⟩), .pointer (some ⟨c, 0, none⟩), .int .i64 t] Y fun e w' => e = .returned (.bool true) ∧ Below w4.heap.size w4 w') := fun Y hY => by
              have := hNA.out Y s (HK4.out.1.below hY HK4.out.1.lt) (HO4.out.mem.below hY)
              rw [show decide (peekT n s nt ≠ 0) = true by simp [hpv0]] at this
              exact this.mono fun _ _ h => ⟨h.1, hY.trans (h.2.mono hY.size)⟩
            have hd0 : Below w4.heap.size w4 w4.drew := (Below.refl _ _).drew
            have HPZ : Hid (peekT n s nt ≠ 0) := hpv0
            generalize hgp : peekT n s nt = pv at hpv0 ⊢
            have HGP : Hid (peekT n s nt = pv) := hgp
            have hpd : decide (pv = 0) = false := decide_eq_false hpv0
            have hpb : (pv != 0) = true := by simp [hpv0]
            have hpe : (pv == 0) = false := by simp [hpv0]
            clear hgp
            go_wp2_with fail
            refine wp_region_held_drew (S := (fun w' => w'.cell? ⟨wr.heap.size, 2, none⟩ = some (.bool true) ∧ w'.cell? ⟨wr.heap.size, 9, none⟩ = some (.bool false) ∧ Below w4.heap.size w4 w')) (by kernel_rfl) ⟨s2, s9, hd0⟩ (fun hHeld => ?_)
            refine wpAnyH_take (i := 0) (oi := ({ dst := some 83, op := Op.move (Operand.tmp 12), type := 89, pos := "law.go:42", after := #[], guard := none } : Oper)) (v := ?vv109) rfl (by kernel_rfl) (by kernel_rfl) (by kernel_rfl) (fun _ _ _ h => h) (Or.inl ⟨by rfl, ?hy109⟩) (by assumption) ?rest109
            case hy109 => (intro w hSw; (try dsimp only at hSw); go_simp; try (with_reducible rfl))
            try simp only [Act.put, List.setIfInBounds_toArray, List.set_cons_zero, List.set_cons_succ]
            refine wpAnyH_take (i := 2) (oi := ({ dst := some 85, op := Op.fieldAddr 43 (Operand.tmp 15) 2, type := 0, pos := "law.go:42", after := #[], guard := none } : Oper)) (v := ?vv110) rfl (by kernel_rfl) (by kernel_rfl) (by kernel_rfl) (fun _ _ _ h => h) (Or.inl ⟨by rfl, ?hy110⟩) (by assumption) ?rest110
            case hy110 => (intro w hSw; (try dsimp only at hSw); go_simp; try (with_reducible rfl))
            try simp only [Act.put, List.setIfInBounds_toArray, List.set_cons_zero, List.set_cons_succ]
            refine wpAnyH_take (i := 3) (oi := ({ dst := some 86, op := Op.load 4 (Operand.tmp 85), type := 4, pos := "law.go:42", after := #[{ on := 2, ground := Ground.data }], guard := none } : Oper)) (v := ?vv111) rfl (by kernel_rfl) (by kernel_rfl) (by kernel_rfl) (fun _ _ _ h => h) (Or.inl ⟨by rfl, ?hy111⟩) (by assumption) ?rest111
            case hy111 => (intro w hSw; (try dsimp only at hSw); go_simp; try (with_reducible rfl))
            try simp only [Act.put, List.setIfInBounds_toArray, List.set_cons_zero, List.set_cons_succ]
            refine wpAnyH_ready (rs := [1]) (by kernel_rfl) (by simp) ?_
            refine AllReadyH.cons (o := ({ dst := some 84, op := Op.call { callee := Callee.value (Operand.func 48), args := #[Operand.tmp 83], argTypes := #[89] }, type := 4, pos := "law.go:42", after := #[{ on := 0, ground := Ground.data }], guard := none } : Oper)) rfl (fun K hK => ?_) AllReadyH.nil
            go_simp
            go_at_call 48; refine (HD.out _ hHeld.2.2).mono ?_; rintro e z1 ⟨rfl, hz1⟩
            refine hK.out _ _ hz1 (fun hHeld => ?_)
            clear hK K
            try simp only [Act.put, List.setIfInBounds_toArray, List.set_cons_zero, List.set_cons_succ]
            refine wpAnyH_take (i := 4) (oi := ({ dst := some 87, op := Op.binOp BinOp.eql 4 (Operand.tmp 84) (Operand.tmp 86) 4, type := 4, pos := "law.go:42", after := #[{ on := 1, ground := Ground.data }, { on := 3, ground := Ground.data }], guard := none } : Oper)) (v := ?vv112) rfl (by kernel_rfl) (by kernel_rfl) (by kernel_rfl) (fun _ _ _ h => h) (Or.inl ⟨by rfl, ?hy112⟩) (by assumption) ?rest112
            case hy112 => (intro w hSw; (try dsimp only at hSw); go_simp; try (with_reducible rfl))
            try simp only [Act.put, List.setIfInBounds_toArray, List.set_cons_zero, List.set_cons_succ]
            refine wpAnyH_take (i := 5) (oi := ({ dst := some 88, op := Op.move (Operand.tmp 87), type := 4, pos := "law.go:42", after := #[{ on := 4, ground := Ground.data }, { on := 1, ground := Ground.chain }], guard := none } : Oper)) (v := ?vv113) rfl (by kernel_rfl) (by kernel_rfl) (by kernel_rfl) (fun _ _ _ h => h) (Or.inl ⟨by rfl, ?hy113⟩) (by assumption) ?rest113
            case hy113 => (intro w hSw; (try dsimp only at hSw); go_simp; try (with_reducible rfl))
            try simp only [Act.put, List.setIfInBounds_toArray, List.set_cons_zero, List.set_cons_succ]
            refine wpAnyH_take (i := 6) (oi := ({ dst := some 89, op := Op.move (Operand.tmp 12), type := 89, pos := "law.go:42", after := #[{ on := 5, ground := Ground.guard }], guard := some (5, false) } : Oper)) (v := ?vv114) rfl (by kernel_rfl) (by kernel_rfl) (by kernel_rfl) (fun _ _ _ h => h) (Or.inl ⟨by rfl, ?hy114⟩) (by assumption) ?rest114
            case hy114 => (intro w hSw; (try dsimp only at hSw); go_simp; try (with_reducible rfl))
            try simp only [Act.put, List.setIfInBounds_toArray, List.set_cons_zero, List.set_cons_succ]
            refine wpAnyH_take (i := 7) (oi := ({ dst := some 90, op := Op.move (Operand.tmp 8), type := 26, pos := "law.go:42", after := #[{ on := 5, ground := Ground.guard }], guard := some (5, false) } : Oper)) (v := ?vv115) rfl (by kernel_rfl) (by kernel_rfl) (by kernel_rfl) (fun _ _ _ h => h) (Or.inl ⟨by rfl, ?hy115⟩) (by assumption) ?rest115
            case hy115 => (intro w hSw; (try dsimp only at hSw); go_simp; try (with_reducible rfl))
            try simp only [Act.put, List.setIfInBounds_toArray, List.set_cons_zero, List.set_cons_succ]
            refine wpAnyH_take (i := 9) (oi := ({ dst := some 92, op := Op.fieldAddr 43 (Operand.tmp 15) 2, type := 0, pos := "law.go:42", after := #[{ on := 5, ground := Ground.guard }], guard := some (5, false) } : Oper)) (v := ?vv116) rfl (by kernel_rfl) (by kernel_rfl) (by kernel_rfl) (fun _ _ _ h => h) (Or.inl ⟨by rfl, ?hy116⟩) (by assumption) ?rest116
            case hy116 => (intro w hSw; (try dsimp only at hSw); go_simp; try (with_reducible rfl))
            try simp only [Act.put, List.setIfInBounds_toArray, List.set_cons_zero, List.set_cons_succ]
            refine wpAnyH_take (i := 10) (oi := ({ dst := some 93, op := Op.load 4 (Operand.tmp 92), type := 4, pos := "law.go:42", after := #[{ on := 9, ground := Ground.data }, { on := 5, ground := Ground.guard }], guard := some (5, false) } : Oper)) (v := ?vv117) rfl (by kernel_rfl) (by kernel_rfl) (by kernel_rfl) (fun _ _ _ h => h) (Or.inl ⟨by rfl, ?hy117⟩) (by assumption) ?rest117
            case hy117 => (intro w hSw; (try dsimp only at hSw); go_simp; try (with_reducible rfl))
            try simp only [Act.put, List.setIfInBounds_toArray, List.set_cons_zero, List.set_cons_succ]
            refine wpAnyH_ready (rs := [8]) (by kernel_rfl) (by simp) ?_
            refine AllReadyH.cons (o := ({ dst := some 91, op := Op.call { callee := Callee.value (Operand.func 49), args := #[Operand.tmp 89, Operand.tmp 90], argTypes := #[89, 26] }, type := 4, pos := "law.go:42", after := #[{ on := 6, ground := Ground.data }, { on := 7, ground := Ground.data }, { on := 5, ground := Ground.chain }, { on := 5, ground := Ground.guard }], guard := some (5, false) } : Oper)) rfl (fun K hK => ?_) AllReadyH.nil
            go_simp
            go_at_call 49; refine (HA.out _ hHeld.2.2).mono ?_; rintro e z2 ⟨rfl, hz2⟩
            refine hK.out _ _ hz2 (fun hHeld => ?_)
            clear hK K
            try simp only [Act.put, List.setIfInBounds_toArray, List.set_cons_zero, List.set_cons_succ]
            refine wpAnyH_take (i := 11) (oi := ({ dst := some 94, op := Op.move (Operand.tmp 93), type := 4, pos := "law.go:42", after := #[{ on := 10, ground := Ground.data }, { on := 8, ground := Ground.chain }, { on := 5, ground := Ground.guard }], guard := some (5, false) } : Oper)) (v := ?vv118) rfl (by kernel_rfl) (by kernel_rfl) (by kernel_rfl) (fun _ _ _ h => h) (Or.inl ⟨by rfl, ?hy118⟩) (by assumption) ?rest118
            case hy118 => (intro w hSw; (try dsimp only at hSw); go_simp; try (with_reducible rfl))
            try simp only [Act.put, List.setIfInBounds_toArray, List.set_cons_zero, List.set_cons_succ]
            refine wpAnyH_take (i := 12) (oi := ({ dst := some 95, op := Op.fieldAddr 43 (Operand.tmp 15) 4, type := 0, pos := "law.go:42", after := #[{ on := 11, ground := Ground.guard }], guard := some (11, true) } : Oper)) (v := ?vv119) rfl (by kernel_rfl) (by kernel_rfl) (by kernel_rfl) (fun _ _ _ h => h) (Or.inl ⟨by rfl, ?hy119⟩) (by assumption) ?rest119
            case hy119 => (intro w hSw; (try dsimp only at hSw); go_simp; try (with_reducible rfl))
            try simp only [Act.put, List.setIfInBounds_toArray, List.set_cons_zero, List.set_cons_succ]
            refine wpAnyH_take (i := 13) (oi := ({ dst := some 96, op := Op.load 4 (Operand.tmp 95), type := 4, pos := "law.go:42", after := #[{ on := 12, ground := Ground.data }, { on := 11, ground := Ground.guard }], guard := some (11, true) } : Oper)) (v := ?vv120) rfl (by kernel_rfl) (by kernel_rfl) (by kernel_rfl) (fun _ _ _ h => h) (Or.inl ⟨by rfl, ?hy120⟩) (by assumption) ?rest120
            case hy120 => (intro w hSw; (try dsimp only at hSw); go_simp; try (with_reducible rfl))
            try simp only [Act.put, List.setIfInBounds_toArray, List.set_cons_zero, List.set_cons_succ]
            refine wpAnyH_take (i := 14) (oi := ({ dst := some 97, op := Op.pick (Operand.tmp 94) (Operand.tmp 96) (Operand.const (Value.bool false)), type := 4, pos := "law.go:42", after := #[{ on := 11, ground := Ground.data }, { on := 13, ground := Ground.data }, { on := 5, ground := Ground.guard }], guard := some (5, false) } : Oper)) (v := ?vv121) rfl (by kernel_rfl) (by kernel_rfl) (by kernel_rfl) (fun _ _ _ h => h) (Or.inl ⟨by rfl, ?hy121⟩) (by assumption) ?rest121
            case hy121 => (intro w hSw; (try dsimp only at hSw); go_simp; try (with_reducible rfl))
            try simp only [Act.put, List.setIfInBounds_toArray, List.set_cons_zero, List.set_cons_succ]
            refine wpAnyH_take (i := 15) (oi := ({ dst := some 98, op := Op.move (Operand.tmp 97), type := 4, pos := "law.go:42", after := #[{ on := 14, ground := Ground.data }, { on := 11, ground := Ground.chain }, { on := 5, ground := Ground.guard }], guard := some (5, false) } : Oper)) (v := ?vv122) rfl (by kernel_rfl) (by kernel_rfl) (by kernel_rfl) (fun _ _ _ h => h) (Or.inl ⟨by rfl, ?hy122⟩) (by assumption) ?rest122
            case hy122 => (intro w hSw; (try dsimp only at hSw); go_simp; try (with_reducible rfl))
            try simp only [Act.put, List.setIfInBounds_toArray, List.set_cons_zero, List.set_cons_succ]
            refine wpAnyH_take (i := 16) (oi := ({ dst := some 99, op := Op.move (Operand.tmp 16), type := 34, pos := "law.go:42", after := #[{ on := 15, ground := Ground.guard }], guard := some (15, true) } : Oper)) (v := undef) rfl (by kernel_rfl) (by kernel_rfl) (by kernel_rfl) (fun _ _ _ h => h) (Or.inr ⟨by rfl, rfl⟩) (by assumption) ?_
            try simp only [Act.put, List.setIfInBounds_toArray, List.set_cons_zero, List.set_cons_succ]
            refine wpAnyH_take (i := 17) (oi := ({ dst := some 100, op := Op.binOp BinOp.eql 34 (Operand.tmp 99) (Operand.const (Value.int IntKind.u64 0)) 34, type := 4, pos := "law.go:42", after := #[{ on := 16, ground := Ground.data }, { on := 15, ground := Ground.guard }], guard := some (15, true) } : Oper)) (v := undef) rfl (by kernel_rfl) (by kernel_rfl) (by kernel_rfl) (fun _ _ _ h => h) (Or.inr ⟨by rfl, rfl⟩) (by assumption) ?_
            try simp only [Act.put, List.setIfInBounds_toArray, List.set_cons_zero, List.set_cons_succ]
            refine wpAnyH_take (i := 18) (oi := ({ dst := some 101, op := Op.pick (Operand.tmp 98) (Operand.tmp 100) (Operand.const (Value.bool false)), type := 4, pos := "law.go:42", after := #[{ on := 15, ground := Ground.data }, { on := 17, ground := Ground.data }, { on := 5, ground := Ground.guard }], guard := some (5, false) } : Oper)) (v := ?vv125) rfl (by kernel_rfl) (by kernel_rfl) (by kernel_rfl) (fun _ _ _ h => h) (Or.inl ⟨by rfl, ?hy125⟩) (by assumption) ?rest125
            case hy125 => (intro w hSw; (try dsimp only at hSw); go_simp; try (with_reducible rfl))
            try simp only [Act.put, List.setIfInBounds_toArray, List.set_cons_zero, List.set_cons_succ]
            refine wpAnyH_take (i := 19) (oi := ({ dst := some 102, op := Op.binOp BinOp.neq 4 (Operand.tmp 91) (Operand.tmp 101) 4, type := 4, pos := "law.go:42", after := #[{ on := 8, ground := Ground.data }, { on := 18, ground := Ground.data }, { on := 5, ground := Ground.guard }], guard := some (5, false) } : Oper)) (v := ?vv126) rfl (by kernel_rfl) (by kernel_rfl) (by kernel_rfl) (fun _ _ _ h => h) (Or.inl ⟨by rfl, ?hy126⟩) (by assumption) ?rest126
            case hy126 => (intro w hSw; (try dsimp only at hSw); go_simp; try (with_reducible rfl))
            try simp only [Act.put, List.setIfInBounds_toArray, List.set_cons_zero, List.set_cons_succ]
            refine wpAnyH_take (i := 20) (oi := ({ dst := some 103, op := Op.pick (Operand.tmp 88) (Operand.const (Value.bool true)) (Operand.tmp 102), type := 4, pos := "law.go:42", after := #[{ on := 5, ground := Ground.data }, { on := 19, ground := Ground.data }], guard := none } : Oper)) (v := ?vv127) rfl (by kernel_rfl) (by kernel_rfl) (by kernel_rfl) (fun _ _ _ h => h) (Or.inl ⟨by rfl, ?hy127⟩) (by assumption) ?rest127
            case hy127 => (intro w hSw; (try dsimp only at hSw); go_simp; try (with_reducible rfl))
            try simp only [Act.put, List.setIfInBounds_toArray, List.set_cons_zero, List.set_cons_succ]
            refine wpAnyH_take (i := 21) (oi := ({ dst := some 104, op := Op.move (Operand.tmp 103), type := 4, pos := "law.go:42", after := #[{ on := 20, ground := Ground.data }, { on := 15, ground := Ground.chain }], guard := none } : Oper)) (v := ?vv128) rfl (by kernel_rfl) (by kernel_rfl) (by kernel_rfl) (fun _ _ _ h => h) (Or.inl ⟨by rfl, ?hy128⟩) (by assumption) ?rest128
            case hy128 => (intro w hSw; (try dsimp only at hSw); go_simp; try (with_reducible rfl))
            try simp only [Act.put, List.setIfInBounds_toArray, List.set_cons_zero, List.set_cons_succ]
            refine wpAnyH_take (i := 22) (oi := ({ dst := some 105, op := Op.move (Operand.tmp 7), type := 69, pos := "law.go:42", after := #[{ on := 21, ground := Ground.guard }], guard := some (21, false) } : Oper)) (v := ?vv129) rfl (by kernel_rfl) (by kernel_rfl) (by kernel_rfl) (fun _ _ _ h => h) (Or.inl ⟨by rfl, ?hy129⟩) (by assumption) ?rest129
            case hy129 => (intro w hSw; (try dsimp only at hSw); go_simp; try (with_reducible rfl))
            try simp only [Act.put, List.setIfInBounds_toArray, List.set_cons_zero, List.set_cons_succ]
            refine wpAnyH_take (i := 23) (oi := ({ dst := some 106, op := Op.move (Operand.tmp 8), type := 26, pos := "law.go:42", after := #[{ on := 21, ground := Ground.guard }], guard := some (21, false) } : Oper)) (v := ?vv130) rfl (by kernel_rfl) (by kernel_rfl) (by kernel_rfl) (fun _ _ _ h => h) (Or.inl ⟨by rfl, ?hy130⟩) (by assumption) ?rest130
            case hy130 => (intro w hSw; (try dsimp only at hSw); go_simp; try (with_reducible rfl))
            try simp only [Act.put, List.setIfInBounds_toArray, List.set_cons_zero, List.set_cons_succ]
            refine wpAnyH_take (i := 24) (oi := ({ dst := some 107, op := Op.move (Operand.tmp 1), type := 3, pos := "law.go:42", after := #[{ on := 21, ground := Ground.guard }], guard := some (21, false) } : Oper)) (v := ?vv131) rfl (by kernel_rfl) (by kernel_rfl) (by kernel_rfl) (fun _ _ _ h => h) (Or.inl ⟨by rfl, ?hy131⟩) (by assumption) ?rest131
            case hy131 => (intro w hSw; (try dsimp only at hSw); go_simp; try (with_reducible rfl))
            try simp only [Act.put, List.setIfInBounds_toArray, List.set_cons_zero, List.set_cons_succ]
            refine wpAnyH_take (i := 26) (oi := ({ dst := some 109, op := Op.move (Operand.tmp 16), type := 34, pos := "law.go:42", after := #[{ on := 21, ground := Ground.guard }], guard := some (21, false) } : Oper)) (v := ?vv132) rfl (by kernel_rfl) (by kernel_rfl) (by kernel_rfl) (fun _ _ _ h => h) (Or.inl ⟨by rfl, ?hy132⟩) (by assumption) ?rest132
            case hy132 => (intro w hSw; (try dsimp only at hSw); go_simp; try (with_reducible rfl))
            try simp only [Act.put, List.setIfInBounds_toArray, List.set_cons_zero, List.set_cons_succ]
            refine wpAnyH_take (i := 27) (oi := ({ dst := some 110, op := Op.binOp BinOp.neq 34 (Operand.tmp 109) (Operand.const (Value.int IntKind.u64 0)) 34, type := 4, pos := "law.go:42", after := #[{ on := 26, ground := Ground.data }, { on := 21, ground := Ground.guard }], guard := some (21, false) } : Oper)) (v := ?vv133) rfl (by kernel_rfl) (by kernel_rfl) (by kernel_rfl) (fun _ _ _ h => h) (Or.inl ⟨by rfl, ?hy133⟩) (by assumption) ?rest133
            case hy133 => (intro w hSw; (try dsimp only at hSw); go_simp; try (with_reducible rfl))
            try simp only [Act.put, List.setIfInBounds_toArray, List.set_cons_zero, List.set_cons_succ]
            refine wpAnyH_ready (rs := [25]) (by kernel_rfl) (by simp) ?_
            refine AllReadyH.cons (o := ({ dst := some 108, op := Op.call { callee := Callee.value (Operand.func 50), args := #[Operand.tmp 105, Operand.tmp 106, Operand.tmp 107], argTypes := #[69, 26, 3] }, type := 4, pos := "law.go:42", after := #[{ on := 22, ground := Ground.data }, { on := 23, ground := Ground.data }, { on := 24, ground := Ground.data }, { on := 21, ground := Ground.chain }, { on := 21, ground := Ground.guard }], guard := some (21, false) } : Oper)) rfl (fun K hK => ?_) AllReadyH.nil
            go_simp
            go_at_call 50; refine (HW.out _ hHeld.2.2).mono ?_; rintro e z3 ⟨rfl, hz3⟩
            refine hK.out _ _ (KR.out _ hz3) (fun hHeld => ?_)
            clear hK K
            try simp only [Act.put, List.setIfInBounds_toArray, List.set_cons_zero, List.set_cons_succ]
            refine wpAnyH_take (i := 28) (oi := ({ dst := some 111, op := Op.binOp BinOp.neq 4 (Operand.tmp 108) (Operand.tmp 110) 4, type := 4, pos := "law.go:42", after := #[{ on := 25, ground := Ground.data }, { on := 27, ground := Ground.data }, { on := 21, ground := Ground.guard }], guard := some (21, false) } : Oper)) (v := ?vv134) rfl (by kernel_rfl) (by kernel_rfl) (by kernel_rfl) (fun _ _ _ h => h) (Or.inl ⟨by rfl, ?hy134⟩) (by assumption) ?rest134
            case hy134 => (intro w hSw; (try dsimp only at hSw); go_simp; try (with_reducible rfl))
            try simp only [Act.put, List.setIfInBounds_toArray, List.set_cons_zero, List.set_cons_succ]
            refine wpAnyH_take (i := 29) (oi := ({ dst := some 112, op := Op.pick (Operand.tmp 104) (Operand.const (Value.bool true)) (Operand.tmp 111), type := 4, pos := "law.go:42", after := #[{ on := 21, ground := Ground.data }, { on := 28, ground := Ground.data }], guard := none } : Oper)) (v := ?vv135) rfl (by kernel_rfl) (by kernel_rfl) (by kernel_rfl) (fun _ _ _ h => h) (Or.inl ⟨by rfl, ?hy135⟩) (by assumption) ?rest135
            case hy135 => (intro w hSw; (try dsimp only at hSw); go_simp; try (with_reducible rfl))
            try simp only [Act.put, List.setIfInBounds_toArray, List.set_cons_zero, List.set_cons_succ]
            refine wpAnyH_done (by kernel_rfl) ?_ _
            have HO5 : Hid (PokeOn w z3 A A' cap cap' c b c' b' n s s Ag capg 0 gf [x, q, g, cl, w.heap.size]) := HO4.out.still hz3
            have HM5 : Hid (Slp z3 x t nt q g 0 false) := HM4.out.below hz3
            have HK5 : Hid (Lay z3 cl P T G ∧ Blk z3 w.heap.size #[.int .i64 P, .int .i64 T, .int .i64 G, .slice E m cp] 67) := ⟨HK4.out.1.below hz3 HK4.out.1.lt, HK4.out.2.but (But.of_below (l := []) hz3) (by simp)⟩
            have hRg : Hid (z3.rangeAt wr.heap.size 0 (runL (.slice Ag 0 capg) ⟨0, true, 1, nt, 0, 0, false⟩)) := (hR4'.out.below hz3).range
            clear HD HA HW KR HO4 HM4 HK4 hR4' s2 s9 hz1 hz2 hz3 hd0
            have hTu := turn_does z3 Ag capg 0 gf ⟨0, true, 1, nt, 0, 0, false⟩ A' cap' c' b' n s t rfl (fun h => by cases h) (show (1 : Int) ≤ 1 ∧ (1 : Int) ≤ 4 from by omega) (fun _ => rfl) (show (0 : Int) ≤ 0 ∧ (0 : Int) ≤ 18446744073709551615 from by omega) hn6 (by omega) (HLW.out.more (by omega)) HO5.out.ref HO5.out.got (HO5.out.gfar.of (by intro k hk; simp at hk ⊢; omega))
            rw [show actS 1 t nt 0 0 n s = slpS t nt n 0 false s by simp [actS, slpS], show actA 1 nt 0 0 n s = peekT n s nt by rw [show actA 1 nt 0 0 n s = ans 1 nt 0 0 n s by simp [actA]]; exact ans_peek _ _ _] at hTu
            go_wp2_with (refine wpList_load_mid rfl 43 _ rfl wr.heap.size 0 rfl (runL (.slice Ag 0 capg) ⟨0, true, 1, nt, 0, 0, false⟩) _ hRg.out Try.underlying43 rfl (by kernel_rfl) ?_; clear hRg)
            go_at_call 22; refine hTu.mono ?_; rintro e w6 ⟨gb, cap2, rfl, hG6, hI6, hB6, hg6⟩
            have HO6 : Hid (PokeOn w w6 A A' cap cap' c b c' b' n s (slpS t nt n 0 false s) (some ⟨gb, 0, none⟩) cap2 (0 + 1) _ [x, q, g, cl, w.heap.size]) := HO5.out.turned hG6 hI6 hB6 hg6
            have HM6 : Hid (Slp w6 x t nt q g 0 false) := HM5.out.but hB6 (HO5.out.apart (by simp)) (HO5.out.apart (by simp)) (HO5.out.apart (by simp))
            have HK6 : Hid (Lay w6 cl P T G ∧ Blk w6 w.heap.size #[.int .i64 P, .int .i64 T, .int .i64 G, .slice E m cp] 67) := ⟨(hB6.block cl HK5.out.1.lt (HO5.out.apart (by simp))).trans HK5.out.1, HK5.out.2.but hB6 (HO5.out.apart (by simp))⟩
            have HG6 : Hid (SlpGot (0 + 1) (gsnoc gf 0 (peekT n s nt)) 1 false) := ⟨.inr (.inr (.inl ⟨rfl, rfl, .inl ⟨rfl, by simp [gsnoc]; exact HPZ.out⟩⟩))⟩
            clear hTu hG6 hI6 hB6 hg6 HO5 HM5 HG HK5
            have hSt := slp_on w6 A cap c b n s x q g 0 t nt false HO6.out.mem hn6 (HLW.out.more (by omega)) HM6.out ⟨(HO6.out.far x (by simp)).1.1, (HO6.out.far x (by simp)).1.2.1, (HO6.out.far q (by simp)).1.1, (HO6.out.far q (by simp)).1.2.1, (HO6.out.far g (by simp)).1.1, (HO6.out.far g (by simp)).1.2.1⟩
            rw [show slpP nt n 0 s = 1 by simp [slpP, HPZ.out], show slpA nt n 0 s = false by simp [slpA, HPZ.out], show decide (1 = 2) = false from rfl] at hSt
            go_wp2_with fail
            go_at_call 51; refine hSt.mono ?_; rintro e w7 ⟨q7, g7, rfl, hM7, hI7, hB7, hF7, hq7, hg7⟩
            have HM7 : Hid _ := hM7
            have hlt7 := hM7.lt
            have hcl7 := HK6.out.1.lt
            have hbx7 := HK6.out.2.lt
            have HK7 : Hid (Lay w7 cl P T G ∧ Blk w7 w.heap.size #[.int .i64 P, .int .i64 T, .int .i64 G, .slice E m cp] 67) := ⟨(hB7.block cl HK6.out.1.lt (by simp [hne, hxne.out, HQ.out])).trans HK6.out.1, HK6.out.2.but hB7 (by simp [hbx, hxne.out, HQ.out])⟩
            have HQ7 : Hid (cl ≠ q7 ∧ w.heap.size ≠ q7) := ⟨ne3 hxne.out.1 HQ.out.1 hcl7 hq7, ne3 hxne.out.2 HQ.out.2 hbx7 hq7⟩
            have hsz7 := hB7.size
            have HO7 : Hid (PokeOn w w7 A A' cap cap' c b c' b' n _ _ (some ⟨gb, 0, none⟩) cap2 (0 + 1) _ [x, q7, g7, cl, w.heap.size]) := HO6.out.stepped hI7 hB7 (by
              intro k hk
              simp only [List.mem_cons, List.not_mem_nil, or_false] at hk ⊢
              rcases hk with rfl | rfl | rfl | rfl <;> simp) (by
              intro k hk
              simp only [List.mem_cons, List.not_mem_nil, or_false] at hk
              rcases hk with rfl | rfl | rfl | rfl | rfl
              · exact ⟨.inl (by simp), hlt7.1⟩
              · exact ⟨by rcases hq7 with e | e | e; exact .inl (by simp [e]); exact .inl (by simp [e]); exact .inr e, hlt7.2.1⟩
              · exact ⟨by rcases hg7 with e | e; exact .inl (by simp [e]); exact .inr e, hlt7.2.2⟩
              · exact ⟨.inl (by simp), Nat.lt_of_lt_of_le hcl7 hsz7⟩
              · exact ⟨.inl (by simp), Nat.lt_of_lt_of_le hbx7 hsz7⟩)
            have HLW7 : Hid (Low (slpS t nt n 0 false s) ((k + 1 : Nat) : Int)) := (slpS_low HLW.out _ _ _ _ _).more (by omega)
            generalize slpS t nt n 0 false s = s' at *
            clear hSt hM7 hI7 hB7 hF7 hq7 hg7 hlt7 HO6 HM6 hcl7 hbx7 hsz7 HK6
            have hAl := alike_any w7 A A' cap cap' c b c' b' n s' hn6 HO7.out.two
            go_wp2_with fail
            go_at_call 24; refine hAl.mono ?_; rintro e w8 ⟨rfl, hb8⟩
            have HO8 : Hid _ := HO7.out.still hb8
            have HM8 : Hid _ := HM7.out.below hb8
            have HK8 : Hid (Lay w8 cl P T G ∧ Blk w8 w.heap.size #[.int .i64 P, .int .i64 T, .int .i64 G, .slice E m cp] 67) := ⟨HK7.out.1.below hb8 HK7.out.1.lt, HK7.out.2.but (But.of_below (l := []) hb8) (by simp)⟩
            clear hAl hb8 HO7 HM7 HK7
            go_wp2_with fail
            go_roundw
            case rel => exact ⟨k + 1, s', some ⟨gb, 0, none⟩, cap2, 0 + 1, _, q7, g7, 1, false, by omega, by go_num, rfl, by omega, HO8.out, HM8.out, HLW7, HG6, HK8, HQ7⟩
            case measure => simp [intOf]; omega
          · obtain rfl : mg = 1 := HG.out.one
            rw [show slpRn nt 1 0 true = (⟨1, true, 1, nt, 0, 0, true⟩ : Rn) from rfl] at hR4'
            have s2 := hR4'.out.blk.cell 2 (v := .bool true) rfl
            have s9 := hR4'.out.blk.cell 9 (v := .bool true) rfl
            have KR : Hid (∀ Y, Below w4.heap.size w4 Y → Y.cell? ⟨wr.heap.size, 2, none⟩ = some (.bool true) ∧ Y.cell? ⟨wr.heap.size, 9, none⟩ = some (.bool true) ∧ Below w4.heap.size w4 Y) := fun Y hY => ⟨(hR4'.out.below hY).blk.cell 2 rfl, (hR4'.out.below hY).blk.cell 9 rfl, hY⟩
            have HD : Hid (∀ Y, Below w4.heap.size w4 Y → Calls Try.prog 48 #[.pointer (some ⟨x, 0, none⟩)] Y fun e w' => e = .returned (.bool false) ∧ w'.cell? ⟨wr.heap.size, 2, none⟩ = some (.bool true) ∧ w'.cell? ⟨wr.heap.size, 9, none⟩ = some (.bool true) ∧ Below w4.heap.size w4 w') := fun Y hY => by
              obtain ⟨nx, hx1, hx2⟩ := (HM4.out.below hY).next
              have := slp_done Y x nx hx1
              rw [hx2, show decide (0 = 2) = false from rfl] at this
              exact this.mono fun _ _ h => ⟨h.1, by rw [← h.2]; exact KR.out Y hY⟩
            have HA : Hid (∀ Y, Below w4.heap.size w4 Y → Calls Try.prog 49 #[.pointer (some ⟨x, 0, none⟩), .pointer (some ⟨c, 0, none⟩)] Y fun e w' => e = .returned (.bool false) ∧ w'.cell? ⟨wr.heap.size, 2, none⟩ = some (.bool true) ∧ w'.cell? ⟨wr.heap.size, 9, none⟩ = some (.bool true) ∧ Below w4.heap.size w4 w') := fun Y hY => by
              have := slp_asl Y A cap c b n s x q g 0 t nt true (HO4.out.mem.below hY) hn6 (HM4.out.below hY)
              rw [show (true && decide (peekT n s nt = 0)) = false by simp [hpv0]] at this
              exact this.mono fun _ _ h => ⟨h.1, KR.out _ (hY.trans (h.2.mono hY.size))⟩
            have HW : Hid (∀ Y, Below w4.heap.size w4 Y → Calls Try.prog 50 #[.pointer (some ⟨cl, 0, none⟩), .pointer (some ⟨c, 0, none⟩), .int .i64 t] Y fun e w' => e = .returned (.bool true) ∧ Below w4.heap.size w4 w') := fun Y hY => by
              have := hNA.out Y s (HK4.out.1.below hY HK4.out.1.lt) (HO4.out.mem.below hY)
              rw [show decide (peekT n s nt ≠ 0) = true by simp [hpv0]] at this
              exact this.mono fun _ _ h => ⟨h.1, hY.trans (h.2.mono hY.size)⟩
            have hd0 : Below w4.heap.size w4 w4.drew := (Below.refl _ _).drew
            have HPZ : Hid (peekT n s nt ≠ 0) := hpv0
            generalize hgp : peekT n s nt = pv at hpv0 ⊢
            have HGP : Hid (peekT n s nt = pv) := hgp
            have hpd : decide (pv = 0) = false := decide_eq_false hpv0
            have hpb : (pv != 0) = true := by simp [hpv0]
            have hpe : (pv == 0) = false := by simp [hpv0]
            clear hgp
            go_wp2_with fail
            refine wp_region_held_drew (S := (fun w' => w'.cell? ⟨wr.heap.size, 2, none⟩ = some (.bool true) ∧ w'.cell? ⟨wr.heap.size, 9, none⟩ = some (.bool true) ∧ Below w4.heap.size w4 w')) (by kernel_rfl) ⟨s2, s9, hd0⟩ (fun hHeld => ?_)
            refine wpAnyH_take (i := 0) (oi := ({ dst := some 83, op := Op.move (Operand.tmp 12), type := 89, pos := "law.go:42", after := #[], guard := none } : Oper)) (v := ?vv136) rfl (by kernel_rfl) (by kernel_rfl) (by kernel_rfl) (fun _ _ _ h => h) (Or.inl ⟨by rfl, ?hy136⟩) (by assumption) ?rest136
            case hy136 => (intro w hSw; (try dsimp only at hSw); go_simp; try (with_reducible rfl))
            try simp only [Act.put, List.setIfInBounds_toArray, List.set_cons_zero, List.set_cons_succ]
            refine wpAnyH_take (i := 2) (oi := ({ dst := some 85, op := Op.fieldAddr 43 (Operand.tmp 15) 2, type := 0, pos := "law.go:42", after := #[], guard := none } : Oper)) (v := ?vv137) rfl (by kernel_rfl) (by kernel_rfl) (by kernel_rfl) (fun _ _ _ h => h) (Or.inl ⟨by rfl, ?hy137⟩) (by assumption) ?rest137
            case hy137 => (intro w hSw; (try dsimp only at hSw); go_simp; try (with_reducible rfl))
            try simp only [Act.put, List.setIfInBounds_toArray, List.set_cons_zero, List.set_cons_succ]
            refine wpAnyH_take (i := 3) (oi := ({ dst := some 86, op := Op.load 4 (Operand.tmp 85), type := 4, pos := "law.go:42", after := #[{ on := 2, ground := Ground.data }], guard := none } : Oper)) (v := ?vv138) rfl (by kernel_rfl) (by kernel_rfl) (by kernel_rfl) (fun _ _ _ h => h) (Or.inl ⟨by rfl, ?hy138⟩) (by assumption) ?rest138
            case hy138 => (intro w hSw; (try dsimp only at hSw); go_simp; try (with_reducible rfl))
            try simp only [Act.put, List.setIfInBounds_toArray, List.set_cons_zero, List.set_cons_succ]
            refine wpAnyH_ready (rs := [1]) (by kernel_rfl) (by simp) ?_
            refine AllReadyH.cons (o := ({ dst := some 84, op := Op.call { callee := Callee.value (Operand.func 48), args := #[Operand.tmp 83], argTypes := #[89] }, type := 4, pos := "law.go:42", after := #[{ on := 0, ground := Ground.data }], guard := none } : Oper)) rfl (fun K hK => ?_) AllReadyH.nil
            go_simp
            go_at_call 48; refine (HD.out _ hHeld.2.2).mono ?_; rintro e z1 ⟨rfl, hz1⟩
            refine hK.out _ _ hz1 (fun hHeld => ?_)
            clear hK K
            try simp only [Act.put, List.setIfInBounds_toArray, List.set_cons_zero, List.set_cons_succ]
            refine wpAnyH_take (i := 4) (oi := ({ dst := some 87, op := Op.binOp BinOp.eql 4 (Operand.tmp 84) (Operand.tmp 86) 4, type := 4, pos := "law.go:42", after := #[{ on := 1, ground := Ground.data }, { on := 3, ground := Ground.data }], guard := none } : Oper)) (v := ?vv139) rfl (by kernel_rfl) (by kernel_rfl) (by kernel_rfl) (fun _ _ _ h => h) (Or.inl ⟨by rfl, ?hy139⟩) (by assumption) ?rest139
            case hy139 => (intro w hSw; (try dsimp only at hSw); go_simp; try (with_reducible rfl))
            try simp only [Act.put, List.setIfInBounds_toArray, List.set_cons_zero, List.set_cons_succ]
            refine wpAnyH_take (i := 5) (oi := ({ dst := some 88, op := Op.move (Operand.tmp 87), type := 4, pos := "law.go:42", after := #[{ on := 4, ground := Ground.data }, { on := 1, ground := Ground.chain }], guard := none } : Oper)) (v := ?vv140) rfl (by kernel_rfl) (by kernel_rfl) (by kernel_rfl) (fun _ _ _ h => h) (Or.inl ⟨by rfl, ?hy140⟩) (by assumption) ?rest140
            case hy140 => (intro w hSw; (try dsimp only at hSw); go_simp; try (with_reducible rfl))
            try simp only [Act.put, List.setIfInBounds_toArray, List.set_cons_zero, List.set_cons_succ]
            refine wpAnyH_take (i := 6) (oi := ({ dst := some 89, op := Op.move (Operand.tmp 12), type := 89, pos := "law.go:42", after := #[{ on := 5, ground := Ground.guard }], guard := some (5, false) } : Oper)) (v := ?vv141) rfl (by kernel_rfl) (by kernel_rfl) (by kernel_rfl) (fun _ _ _ h => h) (Or.inl ⟨by rfl, ?hy141⟩) (by assumption) ?rest141
            case hy141 => (intro w hSw; (try dsimp only at hSw); go_simp; try (with_reducible rfl))
            try simp only [Act.put, List.setIfInBounds_toArray, List.set_cons_zero, List.set_cons_succ]
            refine wpAnyH_take (i := 7) (oi := ({ dst := some 90, op := Op.move (Operand.tmp 8), type := 26, pos := "law.go:42", after := #[{ on := 5, ground := Ground.guard }], guard := some (5, false) } : Oper)) (v := ?vv142) rfl (by kernel_rfl) (by kernel_rfl) (by kernel_rfl) (fun _ _ _ h => h) (Or.inl ⟨by rfl, ?hy142⟩) (by assumption) ?rest142
            case hy142 => (intro w hSw; (try dsimp only at hSw); go_simp; try (with_reducible rfl))
            try simp only [Act.put, List.setIfInBounds_toArray, List.set_cons_zero, List.set_cons_succ]
            refine wpAnyH_take (i := 9) (oi := ({ dst := some 92, op := Op.fieldAddr 43 (Operand.tmp 15) 2, type := 0, pos := "law.go:42", after := #[{ on := 5, ground := Ground.guard }], guard := some (5, false) } : Oper)) (v := ?vv143) rfl (by kernel_rfl) (by kernel_rfl) (by kernel_rfl) (fun _ _ _ h => h) (Or.inl ⟨by rfl, ?hy143⟩) (by assumption) ?rest143
            case hy143 => (intro w hSw; (try dsimp only at hSw); go_simp; try (with_reducible rfl))
            try simp only [Act.put, List.setIfInBounds_toArray, List.set_cons_zero, List.set_cons_succ]
            refine wpAnyH_take (i := 10) (oi := ({ dst := some 93, op := Op.load 4 (Operand.tmp 92), type := 4, pos := "law.go:42", after := #[{ on := 9, ground := Ground.data }, { on := 5, ground := Ground.guard }], guard := some (5, false) } : Oper)) (v := ?vv144) rfl (by kernel_rfl) (by kernel_rfl) (by kernel_rfl) (fun _ _ _ h => h) (Or.inl ⟨by rfl, ?hy144⟩) (by assumption) ?rest144
            case hy144 => (intro w hSw; (try dsimp only at hSw); go_simp; try (with_reducible rfl))
            try simp only [Act.put, List.setIfInBounds_toArray, List.set_cons_zero, List.set_cons_succ]
            refine wpAnyH_ready (rs := [8]) (by kernel_rfl) (by simp) ?_
            refine AllReadyH.cons (o := ({ dst := some 91, op := Op.call { callee := Callee.value (Operand.func 49), args := #[Operand.tmp 89, Operand.tmp 90], argTypes := #[89, 26] }, type := 4, pos := "law.go:42", after := #[{ on := 6, ground := Ground.data }, { on := 7, ground := Ground.data }, { on := 5, ground := Ground.chain }, { on := 5, ground := Ground.guard }], guard := some (5, false) } : Oper)) rfl (fun K hK => ?_) AllReadyH.nil
            go_simp
            go_at_call 49; refine (HA.out _ hHeld.2.2).mono ?_; rintro e z2 ⟨rfl, hz2⟩
            refine hK.out _ _ hz2 (fun hHeld => ?_)
            clear hK K
            try simp only [Act.put, List.setIfInBounds_toArray, List.set_cons_zero, List.set_cons_succ]
            refine wpAnyH_take (i := 11) (oi := ({ dst := some 94, op := Op.move (Operand.tmp 93), type := 4, pos := "law.go:42", after := #[{ on := 10, ground := Ground.data }, { on := 8, ground := Ground.chain }, { on := 5, ground := Ground.guard }], guard := some (5, false) } : Oper)) (v := ?vv145) rfl (by kernel_rfl) (by kernel_rfl) (by kernel_rfl) (fun _ _ _ h => h) (Or.inl ⟨by rfl, ?hy145⟩) (by assumption) ?rest145
            case hy145 => (intro w hSw; (try dsimp only at hSw); go_simp; try (with_reducible rfl))
            try simp only [Act.put, List.setIfInBounds_toArray, List.set_cons_zero, List.set_cons_succ]
            refine wpAnyH_take (i := 12) (oi := ({ dst := some 95, op := Op.fieldAddr 43 (Operand.tmp 15) 4, type := 0, pos := "law.go:42", after := #[{ on := 11, ground := Ground.guard }], guard := some (11, true) } : Oper)) (v := ?vv146) rfl (by kernel_rfl) (by kernel_rfl) (by kernel_rfl) (fun _ _ _ h => h) (Or.inl ⟨by rfl, ?hy146⟩) (by assumption) ?rest146
            case hy146 => (intro w hSw; (try dsimp only at hSw); go_simp; try (with_reducible rfl))
            try simp only [Act.put, List.setIfInBounds_toArray, List.set_cons_zero, List.set_cons_succ]
            refine wpAnyH_take (i := 13) (oi := ({ dst := some 96, op := Op.load 4 (Operand.tmp 95), type := 4, pos := "law.go:42", after := #[{ on := 12, ground := Ground.data }, { on := 11, ground := Ground.guard }], guard := some (11, true) } : Oper)) (v := ?vv147) rfl (by kernel_rfl) (by kernel_rfl) (by kernel_rfl) (fun _ _ _ h => h) (Or.inl ⟨by rfl, ?hy147⟩) (by assumption) ?rest147
            case hy147 => (intro w hSw; (try dsimp only at hSw); go_simp; try (with_reducible rfl))
            try simp only [Act.put, List.setIfInBounds_toArray, List.set_cons_zero, List.set_cons_succ]
            refine wpAnyH_take (i := 14) (oi := ({ dst := some 97, op := Op.pick (Operand.tmp 94) (Operand.tmp 96) (Operand.const (Value.bool false)), type := 4, pos := "law.go:42", after := #[{ on := 11, ground := Ground.data }, { on := 13, ground := Ground.data }, { on := 5, ground := Ground.guard }], guard := some (5, false) } : Oper)) (v := ?vv148) rfl (by kernel_rfl) (by kernel_rfl) (by kernel_rfl) (fun _ _ _ h => h) (Or.inl ⟨by rfl, ?hy148⟩) (by assumption) ?rest148
            case hy148 => (intro w hSw; (try dsimp only at hSw); go_simp; try (with_reducible rfl))
            try simp only [Act.put, List.setIfInBounds_toArray, List.set_cons_zero, List.set_cons_succ]
            refine wpAnyH_take (i := 15) (oi := ({ dst := some 98, op := Op.move (Operand.tmp 97), type := 4, pos := "law.go:42", after := #[{ on := 14, ground := Ground.data }, { on := 11, ground := Ground.chain }, { on := 5, ground := Ground.guard }], guard := some (5, false) } : Oper)) (v := ?vv149) rfl (by kernel_rfl) (by kernel_rfl) (by kernel_rfl) (fun _ _ _ h => h) (Or.inl ⟨by rfl, ?hy149⟩) (by assumption) ?rest149
            case hy149 => (intro w hSw; (try dsimp only at hSw); go_simp; try (with_reducible rfl))
            try simp only [Act.put, List.setIfInBounds_toArray, List.set_cons_zero, List.set_cons_succ]
            refine wpAnyH_take (i := 16) (oi := ({ dst := some 99, op := Op.move (Operand.tmp 16), type := 34, pos := "law.go:42", after := #[{ on := 15, ground := Ground.guard }], guard := some (15, true) } : Oper)) (v := ?vv150) rfl (by kernel_rfl) (by kernel_rfl) (by kernel_rfl) (fun _ _ _ h => h) (Or.inl ⟨by rfl, ?hy150⟩) (by assumption) ?rest150
            case hy150 => (intro w hSw; (try dsimp only at hSw); go_simp; try (with_reducible rfl))
            try simp only [Act.put, List.setIfInBounds_toArray, List.set_cons_zero, List.set_cons_succ]
            refine wpAnyH_take (i := 17) (oi := ({ dst := some 100, op := Op.binOp BinOp.eql 34 (Operand.tmp 99) (Operand.const (Value.int IntKind.u64 0)) 34, type := 4, pos := "law.go:42", after := #[{ on := 16, ground := Ground.data }, { on := 15, ground := Ground.guard }], guard := some (15, true) } : Oper)) (v := ?vv151) rfl (by kernel_rfl) (by kernel_rfl) (by kernel_rfl) (fun _ _ _ h => h) (Or.inl ⟨by rfl, ?hy151⟩) (by assumption) ?rest151
            case hy151 => (intro w hSw; (try dsimp only at hSw); go_simp; try (with_reducible rfl))
            try simp only [Act.put, List.setIfInBounds_toArray, List.set_cons_zero, List.set_cons_succ]
            refine wpAnyH_take (i := 18) (oi := ({ dst := some 101, op := Op.pick (Operand.tmp 98) (Operand.tmp 100) (Operand.const (Value.bool false)), type := 4, pos := "law.go:42", after := #[{ on := 15, ground := Ground.data }, { on := 17, ground := Ground.data }, { on := 5, ground := Ground.guard }], guard := some (5, false) } : Oper)) (v := ?vv152) rfl (by kernel_rfl) (by kernel_rfl) (by kernel_rfl) (fun _ _ _ h => h) (Or.inl ⟨by rfl, ?hy152⟩) (by assumption) ?rest152
            case hy152 => (intro w hSw; (try dsimp only at hSw); go_simp; try (with_reducible rfl))
            try simp only [Act.put, List.setIfInBounds_toArray, List.set_cons_zero, List.set_cons_succ]
            refine wpAnyH_take (i := 19) (oi := ({ dst := some 102, op := Op.binOp BinOp.neq 4 (Operand.tmp 91) (Operand.tmp 101) 4, type := 4, pos := "law.go:42", after := #[{ on := 8, ground := Ground.data }, { on := 18, ground := Ground.data }, { on := 5, ground := Ground.guard }], guard := some (5, false) } : Oper)) (v := ?vv153) rfl (by kernel_rfl) (by kernel_rfl) (by kernel_rfl) (fun _ _ _ h => h) (Or.inl ⟨by rfl, ?hy153⟩) (by assumption) ?rest153
            case hy153 => (intro w hSw; (try dsimp only at hSw); go_simp; try (with_reducible rfl))
            try simp only [Act.put, List.setIfInBounds_toArray, List.set_cons_zero, List.set_cons_succ]
            refine wpAnyH_take (i := 20) (oi := ({ dst := some 103, op := Op.pick (Operand.tmp 88) (Operand.const (Value.bool true)) (Operand.tmp 102), type := 4, pos := "law.go:42", after := #[{ on := 5, ground := Ground.data }, { on := 19, ground := Ground.data }], guard := none } : Oper)) (v := ?vv154) rfl (by kernel_rfl) (by kernel_rfl) (by kernel_rfl) (fun _ _ _ h => h) (Or.inl ⟨by rfl, ?hy154⟩) (by assumption) ?rest154
            case hy154 => (intro w hSw; (try dsimp only at hSw); go_simp; try (with_reducible rfl))
            try simp only [Act.put, List.setIfInBounds_toArray, List.set_cons_zero, List.set_cons_succ]
            refine wpAnyH_take (i := 21) (oi := ({ dst := some 104, op := Op.move (Operand.tmp 103), type := 4, pos := "law.go:42", after := #[{ on := 20, ground := Ground.data }, { on := 15, ground := Ground.chain }], guard := none } : Oper)) (v := ?vv155) rfl (by kernel_rfl) (by kernel_rfl) (by kernel_rfl) (fun _ _ _ h => h) (Or.inl ⟨by rfl, ?hy155⟩) (by assumption) ?rest155
            case hy155 => (intro w hSw; (try dsimp only at hSw); go_simp; try (with_reducible rfl))
            try simp only [Act.put, List.setIfInBounds_toArray, List.set_cons_zero, List.set_cons_succ]
            refine wpAnyH_take (i := 22) (oi := ({ dst := some 105, op := Op.move (Operand.tmp 7), type := 69, pos := "law.go:42", after := #[{ on := 21, ground := Ground.guard }], guard := some (21, false) } : Oper)) (v := ?vv156) rfl (by kernel_rfl) (by kernel_rfl) (by kernel_rfl) (fun _ _ _ h => h) (Or.inl ⟨by rfl, ?hy156⟩) (by assumption) ?rest156
            case hy156 => (intro w hSw; (try dsimp only at hSw); go_simp; try (with_reducible rfl))
            try simp only [Act.put, List.setIfInBounds_toArray, List.set_cons_zero, List.set_cons_succ]
            refine wpAnyH_take (i := 23) (oi := ({ dst := some 106, op := Op.move (Operand.tmp 8), type := 26, pos := "law.go:42", after := #[{ on := 21, ground := Ground.guard }], guard := some (21, false) } : Oper)) (v := ?vv157) rfl (by kernel_rfl) (by kernel_rfl) (by kernel_rfl) (fun _ _ _ h => h) (Or.inl ⟨by rfl, ?hy157⟩) (by assumption) ?rest157
            case hy157 => (intro w hSw; (try dsimp only at hSw); go_simp; try (with_reducible rfl))
            try simp only [Act.put, List.setIfInBounds_toArray, List.set_cons_zero, List.set_cons_succ]
            refine wpAnyH_take (i := 24) (oi := ({ dst := some 107, op := Op.move (Operand.tmp 1), type := 3, pos := "law.go:42", after := #[{ on := 21, ground := Ground.guard }], guard := some (21, false) } : Oper)) (v := ?vv158) rfl (by kernel_rfl) (by kernel_rfl) (by kernel_rfl) (fun _ _ _ h => h) (Or.inl ⟨by rfl, ?hy158⟩) (by assumption) ?rest158
            case hy158 => (intro w hSw; (try dsimp only at hSw); go_simp; try (with_reducible rfl))
            try simp only [Act.put, List.setIfInBounds_toArray, List.set_cons_zero, List.set_cons_succ]
            refine wpAnyH_take (i := 26) (oi := ({ dst := some 109, op := Op.move (Operand.tmp 16), type := 34, pos := "law.go:42", after := #[{ on := 21, ground := Ground.guard }], guard := some (21, false) } : Oper)) (v := ?vv159) rfl (by kernel_rfl) (by kernel_rfl) (by kernel_rfl) (fun _ _ _ h => h) (Or.inl ⟨by rfl, ?hy159⟩) (by assumption) ?rest159
            case hy159 => (intro w hSw; (try dsimp only at hSw); go_simp; try (with_reducible rfl))
            try simp only [Act.put, List.setIfInBounds_toArray, List.set_cons_zero, List.set_cons_succ]
            refine wpAnyH_take (i := 27) (oi := ({ dst := some 110, op := Op.binOp BinOp.neq 34 (Operand.tmp 109) (Operand.const (Value.int IntKind.u64 0)) 34, type := 4, pos := "law.go:42", after := #[{ on := 26, ground := Ground.data }, { on := 21, ground := Ground.guard }], guard := some (21, false) } : Oper)) (v := ?vv160) rfl (by kernel_rfl) (by kernel_rfl) (by kernel_rfl) (fun _ _ _ h => h) (Or.inl ⟨by rfl, ?hy160⟩) (by assumption) ?rest160
            case hy160 => (intro w hSw; (try dsimp only at hSw); go_simp; try (with_reducible rfl))
            try simp only [Act.put, List.setIfInBounds_toArray, List.set_cons_zero, List.set_cons_succ]
            refine wpAnyH_ready (rs := [25]) (by kernel_rfl) (by simp) ?_
            refine AllReadyH.cons (o := ({ dst := some 108, op := Op.call { callee := Callee.value (Operand.func 50), args := #[Operand.tmp 105, Operand.tmp 106, Operand.tmp 107], argTypes := #[69, 26, 3] }, type := 4, pos := "law.go:42", after := #[{ on := 22, ground := Ground.data }, { on := 23, ground := Ground.data }, { on := 24, ground := Ground.data }, { on := 21, ground := Ground.chain }, { on := 21, ground := Ground.guard }], guard := some (21, false) } : Oper)) rfl (fun K hK => ?_) AllReadyH.nil
            go_simp
            go_at_call 50; refine (HW.out _ hHeld.2.2).mono ?_; rintro e z3 ⟨rfl, hz3⟩
            refine hK.out _ _ (KR.out _ hz3) (fun hHeld => ?_)
            clear hK K
            try simp only [Act.put, List.setIfInBounds_toArray, List.set_cons_zero, List.set_cons_succ]
            refine wpAnyH_take (i := 28) (oi := ({ dst := some 111, op := Op.binOp BinOp.neq 4 (Operand.tmp 108) (Operand.tmp 110) 4, type := 4, pos := "law.go:42", after := #[{ on := 25, ground := Ground.data }, { on := 27, ground := Ground.data }, { on := 21, ground := Ground.guard }], guard := some (21, false) } : Oper)) (v := ?vv161) rfl (by kernel_rfl) (by kernel_rfl) (by kernel_rfl) (fun _ _ _ h => h) (Or.inl ⟨by rfl, ?hy161⟩) (by assumption) ?rest161
            case hy161 => (intro w hSw; (try dsimp only at hSw); go_simp; try (with_reducible rfl))
            try simp only [Act.put, List.setIfInBounds_toArray, List.set_cons_zero, List.set_cons_succ]
            refine wpAnyH_take (i := 29) (oi := ({ dst := some 112, op := Op.pick (Operand.tmp 104) (Operand.const (Value.bool true)) (Operand.tmp 111), type := 4, pos := "law.go:42", after := #[{ on := 21, ground := Ground.data }, { on := 28, ground := Ground.data }], guard := none } : Oper)) (v := ?vv162) rfl (by kernel_rfl) (by kernel_rfl) (by kernel_rfl) (fun _ _ _ h => h) (Or.inl ⟨by rfl, ?hy162⟩) (by assumption) ?rest162
            case hy162 => (intro w hSw; (try dsimp only at hSw); go_simp; try (with_reducible rfl))
            try simp only [Act.put, List.setIfInBounds_toArray, List.set_cons_zero, List.set_cons_succ]
            refine wpAnyH_done (by kernel_rfl) ?_ _
            have HO5 : Hid (PokeOn w z3 A A' cap cap' c b c' b' n s s Ag capg 1 gf [x, q, g, cl, w.heap.size]) := HO4.out.still hz3
            have HM5 : Hid (Slp z3 x t nt q g 0 true) := HM4.out.below hz3
            have HK5 : Hid (Lay z3 cl P T G ∧ Blk z3 w.heap.size #[.int .i64 P, .int .i64 T, .int .i64 G, .slice E m cp] 67) := ⟨HK4.out.1.below hz3 HK4.out.1.lt, HK4.out.2.but (But.of_below (l := []) hz3) (by simp)⟩
            have hRg : Hid (z3.rangeAt wr.heap.size 0 (runL (.slice Ag 1 capg) ⟨1, true, 1, nt, 0, 0, true⟩)) := (hR4'.out.below hz3).range
            clear HD HA HW KR HO4 HM4 HK4 hR4' s2 s9 hz1 hz2 hz3 hd0
            have hTu := turn_does z3 Ag capg 1 gf ⟨1, true, 1, nt, 0, 0, true⟩ A' cap' c' b' n s t rfl (fun _ => HPZ.out) (show (1 : Int) ≤ 1 ∧ (1 : Int) ≤ 4 from by omega) (fun _ => rfl) (show (0 : Int) ≤ 0 ∧ (0 : Int) ≤ 18446744073709551615 from by omega) hn6 (by omega) (HLW.out.more (by omega)) HO5.out.ref HO5.out.got (HO5.out.gfar.of (by intro k hk; simp at hk ⊢; omega))
            rw [show actS 1 t nt 0 0 n s = slpS t nt n 0 true s by simp [actS, slpS, HPZ.out], show actA 1 nt 0 0 n s = peekT n s nt by rw [show actA 1 nt 0 0 n s = ans 1 nt 0 0 n s by simp [actA]]; exact ans_peek _ _ _] at hTu
            go_wp2_with (refine wpList_load_mid rfl 43 _ rfl wr.heap.size 0 rfl (runL (.slice Ag 1 capg) ⟨1, true, 1, nt, 0, 0, true⟩) _ hRg.out Try.underlying43 rfl (by kernel_rfl) ?_; clear hRg)
            go_at_call 22; refine hTu.mono ?_; rintro e w6 ⟨gb, cap2, rfl, hG6, hI6, hB6, hg6⟩
            have HO6 : Hid (PokeOn w w6 A A' cap cap' c b c' b' n s (slpS t nt n 0 true s) (some ⟨gb, 0, none⟩) cap2 (1 + 1) _ [x, q, g, cl, w.heap.size]) := HO5.out.turned hG6 hI6 hB6 hg6
            have HM6 : Hid (Slp w6 x t nt q g 0 true) := HM5.out.but hB6 (HO5.out.apart (by simp)) (HO5.out.apart (by simp)) (HO5.out.apart (by simp))
            have HK6 : Hid (Lay w6 cl P T G ∧ Blk w6 w.heap.size #[.int .i64 P, .int .i64 T, .int .i64 G, .slice E m cp] 67) := ⟨(hB6.block cl HK5.out.1.lt (HO5.out.apart (by simp))).trans HK5.out.1, HK5.out.2.but hB6 (HO5.out.apart (by simp))⟩
            have HG6 : Hid (SlpGot (1 + 1) (gsnoc gf 1 (peekT n s nt)) 1 false) := ⟨.inr (.inr (.inl ⟨rfl, rfl, .inr ⟨rfl, by rcases HG.out.h with h | h | h | h; (exact absurd h.2.1 (by simp)); (simp [gsnoc, h.2.2.2]); (exact absurd h.2.1 (by simp)); (exact absurd h.2.1 (by simp)), by simp [gsnoc]; exact HPZ.out⟩⟩))⟩
            clear hTu hG6 hI6 hB6 hg6 HO5 HM5 HG HK5
            have hSt := slp_on w6 A cap c b n s x q g 0 t nt true HO6.out.mem hn6 (HLW.out.more (by omega)) HM6.out ⟨(HO6.out.far x (by simp)).1.1, (HO6.out.far x (by simp)).1.2.1, (HO6.out.far q (by simp)).1.1, (HO6.out.far q (by simp)).1.2.1, (HO6.out.far g (by simp)).1.1, (HO6.out.far g (by simp)).1.2.1⟩
            rw [show slpP nt n 0 s = 1 by simp [slpP, HPZ.out], show slpA nt n 0 s = false by simp [slpA, HPZ.out], show decide (1 = 2) = false from rfl] at hSt
            go_wp2_with fail
            go_at_call 51; refine hSt.mono ?_; rintro e w7 ⟨q7, g7, rfl, hM7, hI7, hB7, hF7, hq7, hg7⟩
            have HM7 : Hid _ := hM7
            have hlt7 := hM7.lt
            have hcl7 := HK6.out.1.lt
            have hbx7 := HK6.out.2.lt
            have HK7 : Hid (Lay w7 cl P T G ∧ Blk w7 w.heap.size #[.int .i64 P, .int .i64 T, .int .i64 G, .slice E m cp] 67) := ⟨(hB7.block cl HK6.out.1.lt (by simp [hne, hxne.out, HQ.out])).trans HK6.out.1, HK6.out.2.but hB7 (by simp [hbx, hxne.out, HQ.out])⟩
            have HQ7 : Hid (cl ≠ q7 ∧ w.heap.size ≠ q7) := ⟨ne3 hxne.out.1 HQ.out.1 hcl7 hq7, ne3 hxne.out.2 HQ.out.2 hbx7 hq7⟩
            have hsz7 := hB7.size
            have HO7 : Hid (PokeOn w w7 A A' cap cap' c b c' b' n _ _ (some ⟨gb, 0, none⟩) cap2 (1 + 1) _ [x, q7, g7, cl, w.heap.size]) := HO6.out.stepped hI7 hB7 (by
              intro k hk
              simp only [List.mem_cons, List.not_mem_nil, or_false] at hk ⊢
              rcases hk with rfl | rfl | rfl | rfl <;> simp) (by
              intro k hk
              simp only [List.mem_cons, List.not_mem_nil, or_false] at hk
              rcases hk with rfl | rfl | rfl | rfl | rfl
              · exact ⟨.inl (by simp), hlt7.1⟩
              · exact ⟨by rcases hq7 with e | e | e; exact .inl (by simp [e]); exact .inl (by simp [e]); exact .inr e, hlt7.2.1⟩
              · exact ⟨by rcases hg7 with e | e; exact .inl (by simp [e]); exact .inr e, hlt7.2.2⟩
              · exact ⟨.inl (by simp), Nat.lt_of_lt_of_le hcl7 hsz7⟩
              · exact ⟨.inl (by simp), Nat.lt_of_lt_of_le hbx7 hsz7⟩)
            have HLW7 : Hid (Low (slpS t nt n 0 true s) ((k + 1 : Nat) : Int)) := (slpS_low HLW.out _ _ _ _ _).more (by omega)
            generalize slpS t nt n 0 true s = s' at *
            clear hSt hM7 hI7 hB7 hF7 hq7 hg7 hlt7 HO6 HM6 hcl7 hbx7 hsz7 HK6
            have hAl := alike_any w7 A A' cap cap' c b c' b' n s' hn6 HO7.out.two
            go_wp2_with fail
            go_at_call 24; refine hAl.mono ?_; rintro e w8 ⟨rfl, hb8⟩
            have HO8 : Hid _ := HO7.out.still hb8
            have HM8 : Hid _ := HM7.out.below hb8
            have HK8 : Hid (Lay w8 cl P T G ∧ Blk w8 w.heap.size #[.int .i64 P, .int .i64 T, .int .i64 G, .slice E m cp] 67) := ⟨HK7.out.1.below hb8 HK7.out.1.lt, HK7.out.2.but (But.of_below (l := []) hb8) (by simp)⟩
            clear hAl hb8 HO7 HM7 HK7
            go_wp2_with fail
            go_roundw
            case rel => exact ⟨k + 1, s', some ⟨gb, 0, none⟩, cap2, 1 + 1, _, q7, g7, 1, false, by omega, by go_num, rfl, by omega, HO8.out, HM8.out, HLW7, HG6, HK8, HQ7⟩
            case measure => simp [intOf]; omega
          · rw [show slpRn nt mg 1 false = (⟨mg, true, 2, nt, 0, 0, false⟩ : Rn) from rfl] at hR4'
            have s2 := hR4'.out.blk.cell 2 (v := .bool true) rfl
            have s9 := hR4'.out.blk.cell 9 (v := .bool false) rfl
            have KR : Hid (∀ Y, Below w4.heap.size w4 Y → Y.cell? ⟨wr.heap.size, 2, none⟩ = some (.bool true) ∧ Y.cell? ⟨wr.heap.size, 9, none⟩ = some (.bool false) ∧ Below w4.heap.size w4 Y) := fun Y hY => ⟨(hR4'.out.below hY).blk.cell 2 rfl, (hR4'.out.below hY).blk.cell 9 rfl, hY⟩
            have HD : Hid (∀ Y, Below w4.heap.size w4 Y → Calls Try.prog 48 #[.pointer (some ⟨x, 0, none⟩)] Y fun e w' => e = .returned (.bool false) ∧ w'.cell? ⟨wr.heap.size, 2, none⟩ = some (.bool true) ∧ w'.cell? ⟨wr.heap.size, 9, none⟩ = some (.bool false) ∧ Below w4.heap.size w4 w') := fun Y hY => by
              obtain ⟨nx, hx1, hx2⟩ := (HM4.out.below hY).next
              have := slp_done Y x nx hx1
              rw [hx2, show decide (1 = 2) = false from rfl] at this
              exact this.mono fun _ _ h => ⟨h.1, by rw [← h.2]; exact KR.out Y hY⟩
            have HA : Hid (∀ Y, Below w4.heap.size w4 Y → Calls Try.prog 49 #[.pointer (some ⟨x, 0, none⟩), .pointer (some ⟨c, 0, none⟩)] Y fun e w' => e = .returned (.bool false) ∧ w'.cell? ⟨wr.heap.size, 2, none⟩ = some (.bool true) ∧ w'.cell? ⟨wr.heap.size, 9, none⟩ = some (.bool false) ∧ Below w4.heap.size w4 w') := fun Y hY => by
              have := slp_asl Y A cap c b n s x q g 1 t nt false (HO4.out.mem.below hY) hn6 (HM4.out.below hY)
              rw [show (false && decide (peekT n s nt = 0)) = false by simp [hpv0]] at this
              exact this.mono fun _ _ h => ⟨h.1, KR.out _ (hY.trans (h.2.mono hY.size))⟩
            have HW : Hid (∀ Y, Below w4.heap.size w4 Y → Calls Try.prog 50 #[.pointer (some ⟨cl, 0, none⟩), .pointer (some ⟨c, 0, none⟩), .int .i64 t] Y fun e w' => e = .returned (.bool true) ∧ Below w4.heap.size w4 w') := fun Y hY => by
              have := hNA.out Y s (HK4.out.1.below hY HK4.out.1.lt) (HO4.out.mem.below hY)
              rw [show decide (peekT n s nt ≠ 0) = true by simp [hpv0]] at this
              exact this.mono fun _ _ h => ⟨h.1, hY.trans (h.2.mono hY.size)⟩
            have hd0 : Below w4.heap.size w4 w4.drew := (Below.refl _ _).drew
            have HPZ : Hid (peekT n s nt ≠ 0) := hpv0
            generalize hgp : peekT n s nt = pv at hpv0 ⊢
            have HGP : Hid (peekT n s nt = pv) := hgp
            have hpd : decide (pv = 0) = false := decide_eq_false hpv0
            have hpb : (pv != 0) = true := by simp [hpv0]
            have hpe : (pv == 0) = false := by simp [hpv0]
            clear hgp
            go_wp2_with fail
            refine wp_region_held_drew (S := (fun w' => w'.cell? ⟨wr.heap.size, 2, none⟩ = some (.bool true) ∧ w'.cell? ⟨wr.heap.size, 9, none⟩ = some (.bool false) ∧ Below w4.heap.size w4 w')) (by kernel_rfl) ⟨s2, s9, hd0⟩ (fun hHeld => ?_)
            refine wpAnyH_take (i := 0) (oi := ({ dst := some 83, op := Op.move (Operand.tmp 12), type := 89, pos := "law.go:42", after := #[], guard := none } : Oper)) (v := ?vv163) rfl (by kernel_rfl) (by kernel_rfl) (by kernel_rfl) (fun _ _ _ h => h) (Or.inl ⟨by rfl, ?hy163⟩) (by assumption) ?rest163
            case hy163 => (intro w hSw; (try dsimp only at hSw); go_simp; try (with_reducible rfl))
            try simp only [Act.put, List.setIfInBounds_toArray, List.set_cons_zero, List.set_cons_succ]
            refine wpAnyH_take (i := 2) (oi := ({ dst := some 85, op := Op.fieldAddr 43 (Operand.tmp 15) 2, type := 0, pos := "law.go:42", after := #[], guard := none } : Oper)) (v := ?vv164) rfl (by kernel_rfl) (by kernel_rfl) (by kernel_rfl) (fun _ _ _ h => h) (Or.inl ⟨by rfl, ?hy164⟩) (by assumption) ?rest164
            case hy164 => (intro w hSw; (try dsimp only at hSw); go_simp; try (with_reducible rfl))
            try simp only [Act.put, List.setIfInBounds_toArray, List.set_cons_zero, List.set_cons_succ]
            refine wpAnyH_take (i := 3) (oi := ({ dst := some 86, op := Op.load 4 (Operand.tmp 85), type := 4, pos := "law.go:42", after := #[{ on := 2, ground := Ground.data }], guard := none } : Oper)) (v := ?vv165) rfl (by kernel_rfl) (by kernel_rfl) (by kernel_rfl) (fun _ _ _ h => h) (Or.inl ⟨by rfl, ?hy165⟩) (by assumption) ?rest165
            case hy165 => (intro w hSw; (try dsimp only at hSw); go_simp; try (with_reducible rfl))
            try simp only [Act.put, List.setIfInBounds_toArray, List.set_cons_zero, List.set_cons_succ]
            refine wpAnyH_ready (rs := [1]) (by kernel_rfl) (by simp) ?_
            refine AllReadyH.cons (o := ({ dst := some 84, op := Op.call { callee := Callee.value (Operand.func 48), args := #[Operand.tmp 83], argTypes := #[89] }, type := 4, pos := "law.go:42", after := #[{ on := 0, ground := Ground.data }], guard := none } : Oper)) rfl (fun K hK => ?_) AllReadyH.nil
            go_simp
            go_at_call 48; refine (HD.out _ hHeld.2.2).mono ?_; rintro e z1 ⟨rfl, hz1⟩
            refine hK.out _ _ hz1 (fun hHeld => ?_)
            clear hK K
            try simp only [Act.put, List.setIfInBounds_toArray, List.set_cons_zero, List.set_cons_succ]
            refine wpAnyH_take (i := 4) (oi := ({ dst := some 87, op := Op.binOp BinOp.eql 4 (Operand.tmp 84) (Operand.tmp 86) 4, type := 4, pos := "law.go:42", after := #[{ on := 1, ground := Ground.data }, { on := 3, ground := Ground.data }], guard := none } : Oper)) (v := ?vv166) rfl (by kernel_rfl) (by kernel_rfl) (by kernel_rfl) (fun _ _ _ h => h) (Or.inl ⟨by rfl, ?hy166⟩) (by assumption) ?rest166
            case hy166 => (intro w hSw; (try dsimp only at hSw); go_simp; try (with_reducible rfl))
            try simp only [Act.put, List.setIfInBounds_toArray, List.set_cons_zero, List.set_cons_succ]
            refine wpAnyH_take (i := 5) (oi := ({ dst := some 88, op := Op.move (Operand.tmp 87), type := 4, pos := "law.go:42", after := #[{ on := 4, ground := Ground.data }, { on := 1, ground := Ground.chain }], guard := none } : Oper)) (v := ?vv167) rfl (by kernel_rfl) (by kernel_rfl) (by kernel_rfl) (fun _ _ _ h => h) (Or.inl ⟨by rfl, ?hy167⟩) (by assumption) ?rest167
            case hy167 => (intro w hSw; (try dsimp only at hSw); go_simp; try (with_reducible rfl))
            try simp only [Act.put, List.setIfInBounds_toArray, List.set_cons_zero, List.set_cons_succ]
            refine wpAnyH_take (i := 6) (oi := ({ dst := some 89, op := Op.move (Operand.tmp 12), type := 89, pos := "law.go:42", after := #[{ on := 5, ground := Ground.guard }], guard := some (5, false) } : Oper)) (v := ?vv168) rfl (by kernel_rfl) (by kernel_rfl) (by kernel_rfl) (fun _ _ _ h => h) (Or.inl ⟨by rfl, ?hy168⟩) (by assumption) ?rest168
            case hy168 => (intro w hSw; (try dsimp only at hSw); go_simp; try (with_reducible rfl))
            try simp only [Act.put, List.setIfInBounds_toArray, List.set_cons_zero, List.set_cons_succ]
            refine wpAnyH_take (i := 7) (oi := ({ dst := some 90, op := Op.move (Operand.tmp 8), type := 26, pos := "law.go:42", after := #[{ on := 5, ground := Ground.guard }], guard := some (5, false) } : Oper)) (v := ?vv169) rfl (by kernel_rfl) (by kernel_rfl) (by kernel_rfl) (fun _ _ _ h => h) (Or.inl ⟨by rfl, ?hy169⟩) (by assumption) ?rest169
            case hy169 => (intro w hSw; (try dsimp only at hSw); go_simp; try (with_reducible rfl))
            try simp only [Act.put, List.setIfInBounds_toArray, List.set_cons_zero, List.set_cons_succ]
            refine wpAnyH_take (i := 9) (oi := ({ dst := some 92, op := Op.fieldAddr 43 (Operand.tmp 15) 2, type := 0, pos := "law.go:42", after := #[{ on := 5, ground := Ground.guard }], guard := some (5, false) } : Oper)) (v := ?vv170) rfl (by kernel_rfl) (by kernel_rfl) (by kernel_rfl) (fun _ _ _ h => h) (Or.inl ⟨by rfl, ?hy170⟩) (by assumption) ?rest170
            case hy170 => (intro w hSw; (try dsimp only at hSw); go_simp; try (with_reducible rfl))
            try simp only [Act.put, List.setIfInBounds_toArray, List.set_cons_zero, List.set_cons_succ]
            refine wpAnyH_take (i := 10) (oi := ({ dst := some 93, op := Op.load 4 (Operand.tmp 92), type := 4, pos := "law.go:42", after := #[{ on := 9, ground := Ground.data }, { on := 5, ground := Ground.guard }], guard := some (5, false) } : Oper)) (v := ?vv171) rfl (by kernel_rfl) (by kernel_rfl) (by kernel_rfl) (fun _ _ _ h => h) (Or.inl ⟨by rfl, ?hy171⟩) (by assumption) ?rest171
            case hy171 => (intro w hSw; (try dsimp only at hSw); go_simp; try (with_reducible rfl))
            try simp only [Act.put, List.setIfInBounds_toArray, List.set_cons_zero, List.set_cons_succ]
            refine wpAnyH_ready (rs := [8]) (by kernel_rfl) (by simp) ?_
            refine AllReadyH.cons (o := ({ dst := some 91, op := Op.call { callee := Callee.value (Operand.func 49), args := #[Operand.tmp 89, Operand.tmp 90], argTypes := #[89, 26] }, type := 4, pos := "law.go:42", after := #[{ on := 6, ground := Ground.data }, { on := 7, ground := Ground.data }, { on := 5, ground := Ground.chain }, { on := 5, ground := Ground.guard }], guard := some (5, false) } : Oper)) rfl (fun K hK => ?_) AllReadyH.nil
            go_simp
            go_at_call 49; refine (HA.out _ hHeld.2.2).mono ?_; rintro e z2 ⟨rfl, hz2⟩
            refine hK.out _ _ hz2 (fun hHeld => ?_)
            clear hK K
            try simp only [Act.put, List.setIfInBounds_toArray, List.set_cons_zero, List.set_cons_succ]
            refine wpAnyH_take (i := 11) (oi := ({ dst := some 94, op := Op.move (Operand.tmp 93), type := 4, pos := "law.go:42", after := #[{ on := 10, ground := Ground.data }, { on := 8, ground := Ground.chain }, { on := 5, ground := Ground.guard }], guard := some (5, false) } : Oper)) (v := ?vv172) rfl (by kernel_rfl) (by kernel_rfl) (by kernel_rfl) (fun _ _ _ h => h) (Or.inl ⟨by rfl, ?hy172⟩) (by assumption) ?rest172
            case hy172 => (intro w hSw; (try dsimp only at hSw); go_simp; try (with_reducible rfl))
            try simp only [Act.put, List.setIfInBounds_toArray, List.set_cons_zero, List.set_cons_succ]
            refine wpAnyH_take (i := 12) (oi := ({ dst := some 95, op := Op.fieldAddr 43 (Operand.tmp 15) 4, type := 0, pos := "law.go:42", after := #[{ on := 11, ground := Ground.guard }], guard := some (11, true) } : Oper)) (v := ?vv173) rfl (by kernel_rfl) (by kernel_rfl) (by kernel_rfl) (fun _ _ _ h => h) (Or.inl ⟨by rfl, ?hy173⟩) (by assumption) ?rest173
            case hy173 => (intro w hSw; (try dsimp only at hSw); go_simp; try (with_reducible rfl))
            try simp only [Act.put, List.setIfInBounds_toArray, List.set_cons_zero, List.set_cons_succ]
            refine wpAnyH_take (i := 13) (oi := ({ dst := some 96, op := Op.load 4 (Operand.tmp 95), type := 4, pos := "law.go:42", after := #[{ on := 12, ground := Ground.data }, { on := 11, ground := Ground.guard }], guard := some (11, true) } : Oper)) (v := ?vv174) rfl (by kernel_rfl) (by kernel_rfl) (by kernel_rfl) (fun _ _ _ h => h) (Or.inl ⟨by rfl, ?hy174⟩) (by assumption) ?rest174
            case hy174 => (intro w hSw; (try dsimp only at hSw); go_simp; try (with_reducible rfl))
            try simp only [Act.put, List.setIfInBounds_toArray, List.set_cons_zero, List.set_cons_succ]
            refine wpAnyH_take (i := 14) (oi := ({ dst := some 97, op := Op.pick (Operand.tmp 94) (Operand.tmp 96) (Operand.const (Value.bool false)), type := 4, pos := "law.go:42", after := #[{ on := 11, ground := Ground.data }, { on := 13, ground := Ground.data }, { on := 5, ground := Ground.guard }], guard := some (5, false) } : Oper)) (v := ?vv175) rfl (by kernel_rfl) (by kernel_rfl) (by kernel_rfl) (fun _ _ _ h => h) (Or.inl ⟨by rfl, ?hy175⟩) (by assumption) ?rest175
            case hy175 => (intro w hSw; (try dsimp only at hSw); go_simp; try (with_reducible rfl))
            try simp only [Act.put, List.setIfInBounds_toArray, List.set_cons_zero, List.set_cons_succ]
            refine wpAnyH_take (i := 15) (oi := ({ dst := some 98, op := Op.move (Operand.tmp 97), type := 4, pos := "law.go:42", after := #[{ on := 14, ground := Ground.data }, { on := 11, ground := Ground.chain }, { on := 5, ground := Ground.guard }], guard := some (5, false) } : Oper)) (v := ?vv176) rfl (by kernel_rfl) (by kernel_rfl) (by kernel_rfl) (fun _ _ _ h => h) (Or.inl ⟨by rfl, ?hy176⟩) (by assumption) ?rest176
            case hy176 => (intro w hSw; (try dsimp only at hSw); go_simp; try (with_reducible rfl))
            try simp only [Act.put, List.setIfInBounds_toArray, List.set_cons_zero, List.set_cons_succ]
            refine wpAnyH_take (i := 16) (oi := ({ dst := some 99, op := Op.move (Operand.tmp 16), type := 34, pos := "law.go:42", after := #[{ on := 15, ground := Ground.guard }], guard := some (15, true) } : Oper)) (v := undef) rfl (by kernel_rfl) (by kernel_rfl) (by kernel_rfl) (fun _ _ _ h => h) (Or.inr ⟨by rfl, rfl⟩) (by assumption) ?_
            try simp only [Act.put, List.setIfInBounds_toArray, List.set_cons_zero, List.set_cons_succ]
            refine wpAnyH_take (i := 17) (oi := ({ dst := some 100, op := Op.binOp BinOp.eql 34 (Operand.tmp 99) (Operand.const (Value.int IntKind.u64 0)) 34, type := 4, pos := "law.go:42", after := #[{ on := 16, ground := Ground.data }, { on := 15, ground := Ground.guard }], guard := some (15, true) } : Oper)) (v := undef) rfl (by kernel_rfl) (by kernel_rfl) (by kernel_rfl) (fun _ _ _ h => h) (Or.inr ⟨by rfl, rfl⟩) (by assumption) ?_
            try simp only [Act.put, List.setIfInBounds_toArray, List.set_cons_zero, List.set_cons_succ]
            refine wpAnyH_take (i := 18) (oi := ({ dst := some 101, op := Op.pick (Operand.tmp 98) (Operand.tmp 100) (Operand.const (Value.bool false)), type := 4, pos := "law.go:42", after := #[{ on := 15, ground := Ground.data }, { on := 17, ground := Ground.data }, { on := 5, ground := Ground.guard }], guard := some (5, false) } : Oper)) (v := ?vv179) rfl (by kernel_rfl) (by kernel_rfl) (by kernel_rfl) (fun _ _ _ h => h) (Or.inl ⟨by rfl, ?hy179⟩) (by assumption) ?rest179
            case hy179 => (intro w hSw; (try dsimp only at hSw); go_simp; try (with_reducible rfl))
            try simp only [Act.put, List.setIfInBounds_toArray, List.set_cons_zero, List.set_cons_succ]
            refine wpAnyH_take (i := 19) (oi := ({ dst := some 102, op := Op.binOp BinOp.neq 4 (Operand.tmp 91) (Operand.tmp 101) 4, type := 4, pos := "law.go:42", after := #[{ on := 8, ground := Ground.data }, { on := 18, ground := Ground.data }, { on := 5, ground := Ground.guard }], guard := some (5, false) } : Oper)) (v := ?vv180) rfl (by kernel_rfl) (by kernel_rfl) (by kernel_rfl) (fun _ _ _ h => h) (Or.inl ⟨by rfl, ?hy180⟩) (by assumption) ?rest180
            case hy180 => (intro w hSw; (try dsimp only at hSw); go_simp; try (with_reducible rfl))
            try simp only [Act.put, List.setIfInBounds_toArray, List.set_cons_zero, List.set_cons_succ]
            refine wpAnyH_take (i := 20) (oi := ({ dst := some 103, op := Op.pick (Operand.tmp 88) (Operand.const (Value.bool true)) (Operand.tmp 102), type := 4, pos := "law.go:42", after := #[{ on := 5, ground := Ground.data }, { on := 19, ground := Ground.data }], guard := none } : Oper)) (v := ?vv181) rfl (by kernel_rfl) (by kernel_rfl) (by kernel_rfl) (fun _ _ _ h => h) (Or.inl ⟨by rfl, ?hy181⟩) (by assumption) ?rest181
            case hy181 => (intro w hSw; (try dsimp only at hSw); go_simp; try (with_reducible rfl))
            try simp only [Act.put, List.setIfInBounds_toArray, List.set_cons_zero, List.set_cons_succ]
            refine wpAnyH_take (i := 21) (oi := ({ dst := some 104, op := Op.move (Operand.tmp 103), type := 4, pos := "law.go:42", after := #[{ on := 20, ground := Ground.data }, { on := 15, ground := Ground.chain }], guard := none } : Oper)) (v := ?vv182) rfl (by kernel_rfl) (by kernel_rfl) (by kernel_rfl) (fun _ _ _ h => h) (Or.inl ⟨by rfl, ?hy182⟩) (by assumption) ?rest182
            case hy182 => (intro w hSw; (try dsimp only at hSw); go_simp; try (with_reducible rfl))
            try simp only [Act.put, List.setIfInBounds_toArray, List.set_cons_zero, List.set_cons_succ]
            refine wpAnyH_take (i := 22) (oi := ({ dst := some 105, op := Op.move (Operand.tmp 7), type := 69, pos := "law.go:42", after := #[{ on := 21, ground := Ground.guard }], guard := some (21, false) } : Oper)) (v := ?vv183) rfl (by kernel_rfl) (by kernel_rfl) (by kernel_rfl) (fun _ _ _ h => h) (Or.inl ⟨by rfl, ?hy183⟩) (by assumption) ?rest183
            case hy183 => (intro w hSw; (try dsimp only at hSw); go_simp; try (with_reducible rfl))
            try simp only [Act.put, List.setIfInBounds_toArray, List.set_cons_zero, List.set_cons_succ]
            refine wpAnyH_take (i := 23) (oi := ({ dst := some 106, op := Op.move (Operand.tmp 8), type := 26, pos := "law.go:42", after := #[{ on := 21, ground := Ground.guard }], guard := some (21, false) } : Oper)) (v := ?vv184) rfl (by kernel_rfl) (by kernel_rfl) (by kernel_rfl) (fun _ _ _ h => h) (Or.inl ⟨by rfl, ?hy184⟩) (by assumption) ?rest184
            case hy184 => (intro w hSw; (try dsimp only at hSw); go_simp; try (with_reducible rfl))
            try simp only [Act.put, List.setIfInBounds_toArray, List.set_cons_zero, List.set_cons_succ]
            refine wpAnyH_take (i := 24) (oi := ({ dst := some 107, op := Op.move (Operand.tmp 1), type := 3, pos := "law.go:42", after := #[{ on := 21, ground := Ground.guard }], guard := some (21, false) } : Oper)) (v := ?vv185) rfl (by kernel_rfl) (by kernel_rfl) (by kernel_rfl) (fun _ _ _ h => h) (Or.inl ⟨by rfl, ?hy185⟩) (by assumption) ?rest185
            case hy185 => (intro w hSw; (try dsimp only at hSw); go_simp; try (with_reducible rfl))
            try simp only [Act.put, List.setIfInBounds_toArray, List.set_cons_zero, List.set_cons_succ]
            refine wpAnyH_take (i := 26) (oi := ({ dst := some 109, op := Op.move (Operand.tmp 16), type := 34, pos := "law.go:42", after := #[{ on := 21, ground := Ground.guard }], guard := some (21, false) } : Oper)) (v := ?vv186) rfl (by kernel_rfl) (by kernel_rfl) (by kernel_rfl) (fun _ _ _ h => h) (Or.inl ⟨by rfl, ?hy186⟩) (by assumption) ?rest186
            case hy186 => (intro w hSw; (try dsimp only at hSw); go_simp; try (with_reducible rfl))
            try simp only [Act.put, List.setIfInBounds_toArray, List.set_cons_zero, List.set_cons_succ]
            refine wpAnyH_take (i := 27) (oi := ({ dst := some 110, op := Op.binOp BinOp.neq 34 (Operand.tmp 109) (Operand.const (Value.int IntKind.u64 0)) 34, type := 4, pos := "law.go:42", after := #[{ on := 26, ground := Ground.data }, { on := 21, ground := Ground.guard }], guard := some (21, false) } : Oper)) (v := ?vv187) rfl (by kernel_rfl) (by kernel_rfl) (by kernel_rfl) (fun _ _ _ h => h) (Or.inl ⟨by rfl, ?hy187⟩) (by assumption) ?rest187
            case hy187 => (intro w hSw; (try dsimp only at hSw); go_simp; try (with_reducible rfl))
            try simp only [Act.put, List.setIfInBounds_toArray, List.set_cons_zero, List.set_cons_succ]
            refine wpAnyH_ready (rs := [25]) (by kernel_rfl) (by simp) ?_
            refine AllReadyH.cons (o := ({ dst := some 108, op := Op.call { callee := Callee.value (Operand.func 50), args := #[Operand.tmp 105, Operand.tmp 106, Operand.tmp 107], argTypes := #[69, 26, 3] }, type := 4, pos := "law.go:42", after := #[{ on := 22, ground := Ground.data }, { on := 23, ground := Ground.data }, { on := 24, ground := Ground.data }, { on := 21, ground := Ground.chain }, { on := 21, ground := Ground.guard }], guard := some (21, false) } : Oper)) rfl (fun K hK => ?_) AllReadyH.nil
            go_simp
            go_at_call 50; refine (HW.out _ hHeld.2.2).mono ?_; rintro e z3 ⟨rfl, hz3⟩
            refine hK.out _ _ (KR.out _ hz3) (fun hHeld => ?_)
            clear hK K
            try simp only [Act.put, List.setIfInBounds_toArray, List.set_cons_zero, List.set_cons_succ]
            refine wpAnyH_take (i := 28) (oi := ({ dst := some 111, op := Op.binOp BinOp.neq 4 (Operand.tmp 108) (Operand.tmp 110) 4, type := 4, pos := "law.go:42", after := #[{ on := 25, ground := Ground.data }, { on := 27, ground := Ground.data }, { on := 21, ground := Ground.guard }], guard := some (21, false) } : Oper)) (v := ?vv188) rfl (by kernel_rfl) (by kernel_rfl) (by kernel_rfl) (fun _ _ _ h => h) (Or.inl ⟨by rfl, ?hy188⟩) (by assumption) ?rest188
            case hy188 => (intro w hSw; (try dsimp only at hSw); go_simp; try (with_reducible rfl))
            try simp only [Act.put, List.setIfInBounds_toArray, List.set_cons_zero, List.set_cons_succ]
            refine wpAnyH_take (i := 29) (oi := ({ dst := some 112, op := Op.pick (Operand.tmp 104) (Operand.const (Value.bool true)) (Operand.tmp 111), type := 4, pos := "law.go:42", after := #[{ on := 21, ground := Ground.data }, { on := 28, ground := Ground.data }], guard := none } : Oper)) (v := ?vv189) rfl (by kernel_rfl) (by kernel_rfl) (by kernel_rfl) (fun _ _ _ h => h) (Or.inl ⟨by rfl, ?hy189⟩) (by assumption) ?rest189
            case hy189 => (intro w hSw; (try dsimp only at hSw); go_simp; try (with_reducible rfl))
            try simp only [Act.put, List.setIfInBounds_toArray, List.set_cons_zero, List.set_cons_succ]
            refine wpAnyH_done (by kernel_rfl) ?_ _
            have HO5 : Hid (PokeOn w z3 A A' cap cap' c b c' b' n s s Ag capg mg gf [x, q, g, cl, w.heap.size]) := HO4.out.still hz3
            have HM5 : Hid (Slp z3 x t nt q g 1 false) := HM4.out.below hz3
            have HK5 : Hid (Lay z3 cl P T G ∧ Blk z3 w.heap.size #[.int .i64 P, .int .i64 T, .int .i64 G, .slice E m cp] 67) := ⟨HK4.out.1.below hz3 HK4.out.1.lt, HK4.out.2.but (But.of_below (l := []) hz3) (by simp)⟩
            have hRg : Hid (z3.rangeAt wr.heap.size 0 (runL (.slice Ag mg capg) ⟨mg, true, 2, nt, 0, 0, false⟩)) := (hR4'.out.below hz3).range
            clear HD HA HW KR HO4 HM4 HK4 hR4' s2 s9 hz1 hz2 hz3 hd0
            have hTu := turn_does z3 Ag capg mg gf ⟨mg, true, 2, nt, 0, 0, false⟩ A' cap' c' b' n s t rfl (fun h => by cases h) (show (1 : Int) ≤ 2 ∧ (2 : Int) ≤ 4 from by omega) ((fun h => absurd (show (2 : Int) = 1 from h) (by omega))) (show (0 : Int) ≤ 0 ∧ (0 : Int) ≤ 18446744073709551615 from by omega) hn6 (by omega) (HLW.out.more (by omega)) HO5.out.ref HO5.out.got (HO5.out.gfar.of (by intro k hk; simp at hk ⊢; omega))
            rw [show actS 2 t nt 0 0 n s = slpS t nt n 1 false s by simp [actS, slpS], show actA 2 nt 0 0 n s = 0 by simp [actA]] at hTu
            go_wp2_with (refine wpList_load_mid rfl 43 _ rfl wr.heap.size 0 rfl (runL (.slice Ag mg capg) ⟨mg, true, 2, nt, 0, 0, false⟩) _ hRg.out Try.underlying43 rfl (by kernel_rfl) ?_; clear hRg)
            go_at_call 22; refine hTu.mono ?_; rintro e w6 ⟨gb, cap2, rfl, hG6, hI6, hB6, hg6⟩
            have HO6 : Hid (PokeOn w w6 A A' cap cap' c b c' b' n s (slpS t nt n 1 false s) (some ⟨gb, 0, none⟩) cap2 (mg + 1) _ [x, q, g, cl, w.heap.size]) := HO5.out.turned hG6 hI6 hB6 hg6
            have HM6 : Hid (Slp w6 x t nt q g 1 false) := HM5.out.but hB6 (HO5.out.apart (by simp)) (HO5.out.apart (by simp)) (HO5.out.apart (by simp))
            have HK6 : Hid (Lay w6 cl P T G ∧ Blk w6 w.heap.size #[.int .i64 P, .int .i64 T, .int .i64 G, .slice E m cp] 67) := ⟨(hB6.block cl HK5.out.1.lt (HO5.out.apart (by simp))).trans HK5.out.1, HK5.out.2.but hB6 (HO5.out.apart (by simp))⟩
            have HG6 : Hid (SlpGot (mg + 1) (gsnoc gf mg (0)) 2 false) := slpgot_put HG.out
            clear hTu hG6 hI6 hB6 hg6 HO5 HM5 HG HK5
            have hSt := slp_on w6 A cap c b n s x q g 1 t nt false HO6.out.mem hn6 (HLW.out.more (by omega)) HM6.out ⟨(HO6.out.far x (by simp)).1.1, (HO6.out.far x (by simp)).1.2.1, (HO6.out.far q (by simp)).1.1, (HO6.out.far q (by simp)).1.2.1, (HO6.out.far g (by simp)).1.1, (HO6.out.far g (by simp)).1.2.1⟩
            rw [show slpP nt n 1 s = 2 by simp [slpP], show slpA nt n 1 s = false by simp [slpA], show decide (2 = 2) = true from rfl] at hSt
            go_wp2_with fail
            go_at_call 51; refine hSt.mono ?_; rintro e w7 ⟨q7, g7, rfl, hM7, hI7, hB7, hF7, hq7, hg7⟩
            have HM7 : Hid _ := hM7
            have hlt7 := hM7.lt
            have hcl7 := HK6.out.1.lt
            have hbx7 := HK6.out.2.lt
            have HK7 : Hid (Lay w7 cl P T G ∧ Blk w7 w.heap.size #[.int .i64 P, .int .i64 T, .int .i64 G, .slice E m cp] 67) := ⟨(hB7.block cl HK6.out.1.lt (by simp [hne, hxne.out, HQ.out])).trans HK6.out.1, HK6.out.2.but hB7 (by simp [hbx, hxne.out, HQ.out])⟩
            have HQ7 : Hid (cl ≠ q7 ∧ w.heap.size ≠ q7) := ⟨ne3 hxne.out.1 HQ.out.1 hcl7 hq7, ne3 hxne.out.2 HQ.out.2 hbx7 hq7⟩
            have hsz7 := hB7.size
            have HO7 : Hid (PokeOn w w7 A A' cap cap' c b c' b' n _ _ (some ⟨gb, 0, none⟩) cap2 (mg + 1) _ [x, q7, g7, cl, w.heap.size]) := HO6.out.stepped hI7 hB7 (by
              intro k hk
              simp only [List.mem_cons, List.not_mem_nil, or_false] at hk ⊢
              rcases hk with rfl | rfl | rfl | rfl <;> simp) (by
              intro k hk
              simp only [List.mem_cons, List.not_mem_nil, or_false] at hk
              rcases hk with rfl | rfl | rfl | rfl | rfl
              · exact ⟨.inl (by simp), hlt7.1⟩
              · exact ⟨by rcases hq7 with e | e | e; exact .inl (by simp [e]); exact .inl (by simp [e]); exact .inr e, hlt7.2.1⟩
              · exact ⟨by rcases hg7 with e | e; exact .inl (by simp [e]); exact .inr e, hlt7.2.2⟩
              · exact ⟨.inl (by simp), Nat.lt_of_lt_of_le hcl7 hsz7⟩
              · exact ⟨.inl (by simp), Nat.lt_of_lt_of_le hbx7 hsz7⟩)
            have HLW7 : Hid (Low (slpS t nt n 1 false s) ((k + 1 : Nat) : Int)) := (slpS_low HLW.out _ _ _ _ _).more (by omega)
            generalize slpS t nt n 1 false s = s' at *
            clear hSt hM7 hI7 hB7 hF7 hq7 hg7 hlt7 HO6 HM6 hcl7 hbx7 hsz7 HK6
            have hAl := alike_any w7 A A' cap cap' c b c' b' n s' hn6 HO7.out.two
            go_wp2_with fail
            go_at_call 24; refine hAl.mono ?_; rintro e w8 ⟨rfl, hb8⟩
            have HO8 : Hid _ := HO7.out.still hb8
            have HM8 : Hid _ := HM7.out.below hb8
            have HK8 : Hid (Lay w8 cl P T G ∧ Blk w8 w.heap.size #[.int .i64 P, .int .i64 T, .int .i64 G, .slice E m cp] 67) := ⟨HK7.out.1.below hb8 HK7.out.1.lt, HK7.out.2.but (But.of_below (l := []) hb8) (by simp)⟩
            clear hAl hb8 HO7 HM7 HK7
            go_wp2_with fail
            go_roundw
            case rel => exact ⟨k + 1, s', some ⟨gb, 0, none⟩, cap2, mg + 1, _, q7, g7, 2, false, by omega, by go_num, rfl, by rcases HG6.out.h with h | h | h | h <;> omega, HO8.out, HM8.out, HLW7, HG6, HK8, HQ7⟩
            case measure => simp [intOf]; omega
          · rw [show slpRn nt mg 2 false = (⟨mg, false, 0, 0, 0, 0, false⟩ : Rn) from rfl] at hR4'
            have s2 := hR4'.out.blk.cell 2 (v := .bool false) rfl
            have s9 := hR4'.out.blk.cell 9 (v := .bool false) rfl
            have KR : Hid (∀ Y, Below w4.heap.size w4 Y → Y.cell? ⟨wr.heap.size, 2, none⟩ = some (.bool false) ∧ Y.cell? ⟨wr.heap.size, 9, none⟩ = some (.bool false) ∧ Below w4.heap.size w4 Y) := fun Y hY => ⟨(hR4'.out.below hY).blk.cell 2 rfl, (hR4'.out.below hY).blk.cell 9 rfl, hY⟩
            have HD : Hid (∀ Y, Below w4.heap.size w4 Y → Calls Try.prog 48 #[.pointer (some ⟨x, 0, none⟩)] Y fun e w' => e = .returned (.bool true) ∧ w'.cell? ⟨wr.heap.size, 2, none⟩ = some (.bool false) ∧ w'.cell? ⟨wr.heap.size, 9, none⟩ = some (.bool false) ∧ Below w4.heap.size w4 w') := fun Y hY => by
              obtain ⟨nx, hx1, hx2⟩ := (HM4.out.below hY).next
              have := slp_done Y x nx hx1
              rw [hx2, show decide (2 = 2) = true from rfl] at this
              exact this.mono fun _ _ h => ⟨h.1, by rw [← h.2]; exact KR.out Y hY⟩
            have HA : Hid (∀ Y, Below w4.heap.size w4 Y → Calls Try.prog 49 #[.pointer (some ⟨x, 0, none⟩), .pointer (some ⟨c, 0, none⟩)] Y fun e w' => e = .returned (.bool false) ∧ w'.cell? ⟨wr.heap.size, 2, none⟩ = some (.bool false) ∧ w'.cell? ⟨wr.heap.size, 9, none⟩ = some (.bool false) ∧ Below w4.heap.size w4 w') := fun Y hY => by
              have := slp_asl Y A cap c b n s x q g 2 t nt false (HO4.out.mem.below hY) hn6 (HM4.out.below hY)
              rw [show (false && decide (peekT n s nt = 0)) = false by simp [hpv0]] at this
              exact this.mono fun _ _ h => ⟨h.1, KR.out _ (hY.trans (h.2.mono hY.size))⟩
            have HW : Hid (∀ Y, Below w4.heap.size w4 Y → Calls Try.prog 50 #[.pointer (some ⟨cl, 0, none⟩), .pointer (some ⟨c, 0, none⟩), .int .i64 t] Y fun e w' => e = .returned (.bool true) ∧ Below w4.heap.size w4 w') := fun Y hY => by
              have := hNA.out Y s (HK4.out.1.below hY HK4.out.1.lt) (HO4.out.mem.below hY)
              rw [show decide (peekT n s nt ≠ 0) = true by simp [hpv0]] at this
              exact this.mono fun _ _ h => ⟨h.1, hY.trans (h.2.mono hY.size)⟩
            have hd0 : Below w4.heap.size w4 w4.drew := (Below.refl _ _).drew
            have HPZ : Hid (peekT n s nt ≠ 0) := hpv0
            generalize hgp : peekT n s nt = pv at hpv0 ⊢
            have HGP : Hid (peekT n s nt = pv) := hgp
            have hpd : decide (pv = 0) = false := decide_eq_false hpv0
            have hpb : (pv != 0) = true := by simp [hpv0]
            have hpe : (pv == 0) = false := by simp [hpv0]
            clear hgp
            go_wp2_with fail
            refine wp_region_held_drew (S := (fun w' => w'.cell? ⟨wr.heap.size, 2, none⟩ = some (.bool false) ∧ w'.cell? ⟨wr.heap.size, 9, none⟩ = some (.bool false) ∧ Below w4.heap.size w4 w')) (by kernel_rfl) ⟨s2, s9, hd0⟩ (fun hHeld => ?_)
            refine wpAnyH_take (i := 0) (oi := ({ dst := some 83, op := Op.move (Operand.tmp 12), type := 89, pos := "law.go:42", after := #[], guard := none } : Oper)) (v := ?vv190) rfl (by kernel_rfl) (by kernel_rfl) (by kernel_rfl) (fun _ _ _ h => h) (Or.inl ⟨by rfl, ?hy190⟩) (by assumption) ?rest190
            case hy190 => (intro w hSw; (try dsimp only at hSw); go_simp; try (with_reducible rfl))
            try simp only [Act.put, List.setIfInBounds_toArray, List.set_cons_zero, List.set_cons_succ]
            refine wpAnyH_take (i := 2) (oi := ({ dst := some 85, op := Op.fieldAddr 43 (Operand.tmp 15) 2, type := 0, pos := "law.go:42", after := #[], guard := none } : Oper)) (v := ?vv191) rfl (by kernel_rfl) (by kernel_rfl) (by kernel_rfl) (fun _ _ _ h => h) (Or.inl ⟨by rfl, ?hy191⟩) (by assumption) ?rest191
            case hy191 => (intro w hSw; (try dsimp only at hSw); go_simp; try (with_reducible rfl))
            try simp only [Act.put, List.setIfInBounds_toArray, List.set_cons_zero, List.set_cons_succ]
            refine wpAnyH_take (i := 3) (oi := ({ dst := some 86, op := Op.load 4 (Operand.tmp 85), type := 4, pos := "law.go:42", after := #[{ on := 2, ground := Ground.data }], guard := none } : Oper)) (v := ?vv192) rfl (by kernel_rfl) (by kernel_rfl) (by kernel_rfl) (fun _ _ _ h => h) (Or.inl ⟨by rfl, ?hy192⟩) (by assumption) ?rest192
            case hy192 => (intro w hSw; (try dsimp only at hSw); go_simp; try (with_reducible rfl))
            try simp only [Act.put, List.setIfInBounds_toArray, List.set_cons_zero, List.set_cons_succ]
            refine wpAnyH_ready (rs := [1]) (by kernel_rfl) (by simp) ?_
            refine AllReadyH.cons (o := ({ dst := some 84, op := Op.call { callee := Callee.value (Operand.func 48), args := #[Operand.tmp 83], argTypes := #[89] }, type := 4, pos := "law.go:42", after := #[{ on := 0, ground := Ground.data }], guard := none } : Oper)) rfl (fun K hK => ?_) AllReadyH.nil
            go_simp
            go_at_call 48; refine (HD.out _ hHeld.2.2).mono ?_; rintro e z1 ⟨rfl, hz1⟩
            refine hK.out _ _ hz1 (fun hHeld => ?_)
            clear hK K
            try simp only [Act.put, List.setIfInBounds_toArray, List.set_cons_zero, List.set_cons_succ]
            refine wpAnyH_take (i := 4) (oi := ({ dst := some 87, op := Op.binOp BinOp.eql 4 (Operand.tmp 84) (Operand.tmp 86) 4, type := 4, pos := "law.go:42", after := #[{ on := 1, ground := Ground.data }, { on := 3, ground := Ground.data }], guard := none } : Oper)) (v := ?vv193) rfl (by kernel_rfl) (by kernel_rfl) (by kernel_rfl) (fun _ _ _ h => h) (Or.inl ⟨by rfl, ?hy193⟩) (by assumption) ?rest193
            case hy193 => (intro w hSw; (try dsimp only at hSw); go_simp; try (with_reducible rfl))
            try simp only [Act.put, List.setIfInBounds_toArray, List.set_cons_zero, List.set_cons_succ]
            refine wpAnyH_take (i := 5) (oi := ({ dst := some 88, op := Op.move (Operand.tmp 87), type := 4, pos := "law.go:42", after := #[{ on := 4, ground := Ground.data }, { on := 1, ground := Ground.chain }], guard := none } : Oper)) (v := ?vv194) rfl (by kernel_rfl) (by kernel_rfl) (by kernel_rfl) (fun _ _ _ h => h) (Or.inl ⟨by rfl, ?hy194⟩) (by assumption) ?rest194
            case hy194 => (intro w hSw; (try dsimp only at hSw); go_simp; try (with_reducible rfl))
            try simp only [Act.put, List.setIfInBounds_toArray, List.set_cons_zero, List.set_cons_succ]
            refine wpAnyH_take (i := 6) (oi := ({ dst := some 89, op := Op.move (Operand.tmp 12), type := 89, pos := "law.go:42", after := #[{ on := 5, ground := Ground.guard }], guard := some (5, false) } : Oper)) (v := ?vv195) rfl (by kernel_rfl) (by kernel_rfl) (by kernel_rfl) (fun _ _ _ h => h) (Or.inl ⟨by rfl, ?hy195⟩) (by assumption) ?rest195
            case hy195 => (intro w hSw; (try dsimp only at hSw); go_simp; try (with_reducible rfl))
            try simp only [Act.put, List.setIfInBounds_toArray, List.set_cons_zero, List.set_cons_succ]
            refine wpAnyH_take (i := 7) (oi := ({ dst := some 90, op := Op.move (Operand.tmp 8), type := 26, pos := "law.go:42", after := #[{ on := 5, ground := Ground.guard }], guard := some (5, false) } : Oper)) (v := ?vv196) rfl (by kernel_rfl) (by kernel_rfl) (by kernel_rfl) (fun _ _ _ h => h) (Or.inl ⟨by rfl, ?hy196⟩) (by assumption) ?rest196
            case hy196 => (intro w hSw; (try dsimp only at hSw); go_simp; try (with_reducible rfl))
            try simp only [Act.put, List.setIfInBounds_toArray, List.set_cons_zero, List.set_cons_succ]
            refine wpAnyH_take (i := 9) (oi := ({ dst := some 92, op := Op.fieldAddr 43 (Operand.tmp 15) 2, type := 0, pos := "law.go:42", after := #[{ on := 5, ground := Ground.guard }], guard := some (5, false) } : Oper)) (v := ?vv197) rfl (by kernel_rfl) (by kernel_rfl) (by kernel_rfl) (fun _ _ _ h => h) (Or.inl ⟨by rfl, ?hy197⟩) (by assumption) ?rest197
            case hy197 => (intro w hSw; (try dsimp only at hSw); go_simp; try (with_reducible rfl))
            try simp only [Act.put, List.setIfInBounds_toArray, List.set_cons_zero, List.set_cons_succ]
            refine wpAnyH_take (i := 10) (oi := ({ dst := some 93, op := Op.load 4 (Operand.tmp 92), type := 4, pos := "law.go:42", after := #[{ on := 9, ground := Ground.data }, { on := 5, ground := Ground.guard }], guard := some (5, false) } : Oper)) (v := ?vv198) rfl (by kernel_rfl) (by kernel_rfl) (by kernel_rfl) (fun _ _ _ h => h) (Or.inl ⟨by rfl, ?hy198⟩) (by assumption) ?rest198
            case hy198 => (intro w hSw; (try dsimp only at hSw); go_simp; try (with_reducible rfl))
            try simp only [Act.put, List.setIfInBounds_toArray, List.set_cons_zero, List.set_cons_succ]
            refine wpAnyH_ready (rs := [8]) (by kernel_rfl) (by simp) ?_
            refine AllReadyH.cons (o := ({ dst := some 91, op := Op.call { callee := Callee.value (Operand.func 49), args := #[Operand.tmp 89, Operand.tmp 90], argTypes := #[89, 26] }, type := 4, pos := "law.go:42", after := #[{ on := 6, ground := Ground.data }, { on := 7, ground := Ground.data }, { on := 5, ground := Ground.chain }, { on := 5, ground := Ground.guard }], guard := some (5, false) } : Oper)) rfl (fun K hK => ?_) AllReadyH.nil
            go_simp
            go_at_call 49; refine (HA.out _ hHeld.2.2).mono ?_; rintro e z2 ⟨rfl, hz2⟩
            refine hK.out _ _ hz2 (fun hHeld => ?_)
            clear hK K
            try simp only [Act.put, List.setIfInBounds_toArray, List.set_cons_zero, List.set_cons_succ]
            refine wpAnyH_take (i := 11) (oi := ({ dst := some 94, op := Op.move (Operand.tmp 93), type := 4, pos := "law.go:42", after := #[{ on := 10, ground := Ground.data }, { on := 8, ground := Ground.chain }, { on := 5, ground := Ground.guard }], guard := some (5, false) } : Oper)) (v := ?vv199) rfl (by kernel_rfl) (by kernel_rfl) (by kernel_rfl) (fun _ _ _ h => h) (Or.inl ⟨by rfl, ?hy199⟩) (by assumption) ?rest199
            case hy199 => (intro w hSw; (try dsimp only at hSw); go_simp; try (with_reducible rfl))
            try simp only [Act.put, List.setIfInBounds_toArray, List.set_cons_zero, List.set_cons_succ]
            refine wpAnyH_take (i := 12) (oi := ({ dst := some 95, op := Op.fieldAddr 43 (Operand.tmp 15) 4, type := 0, pos := "law.go:42", after := #[{ on := 11, ground := Ground.guard }], guard := some (11, true) } : Oper)) (v := undef) rfl (by kernel_rfl) (by kernel_rfl) (by kernel_rfl) (fun _ _ _ h => h) (Or.inr ⟨by rfl, rfl⟩) (by assumption) ?_
            try simp only [Act.put, List.setIfInBounds_toArray, List.set_cons_zero, List.set_cons_succ]
            refine wpAnyH_take (i := 13) (oi := ({ dst := some 96, op := Op.load 4 (Operand.tmp 95), type := 4, pos := "law.go:42", after := #[{ on := 12, ground := Ground.data }, { on := 11, ground := Ground.guard }], guard := some (11, true) } : Oper)) (v := undef) rfl (by kernel_rfl) (by kernel_rfl) (by kernel_rfl) (fun _ _ _ h => h) (Or.inr ⟨by rfl, rfl⟩) (by assumption) ?_
            try simp only [Act.put, List.setIfInBounds_toArray, List.set_cons_zero, List.set_cons_succ]
            refine wpAnyH_take (i := 14) (oi := ({ dst := some 97, op := Op.pick (Operand.tmp 94) (Operand.tmp 96) (Operand.const (Value.bool false)), type := 4, pos := "law.go:42", after := #[{ on := 11, ground := Ground.data }, { on := 13, ground := Ground.data }, { on := 5, ground := Ground.guard }], guard := some (5, false) } : Oper)) (v := ?vv202) rfl (by kernel_rfl) (by kernel_rfl) (by kernel_rfl) (fun _ _ _ h => h) (Or.inl ⟨by rfl, ?hy202⟩) (by assumption) ?rest202
            case hy202 => (intro w hSw; (try dsimp only at hSw); go_simp; try (with_reducible rfl))
            try simp only [Act.put, List.setIfInBounds_toArray, List.set_cons_zero, List.set_cons_succ]
            refine wpAnyH_take (i := 15) (oi := ({ dst := some 98, op := Op.move (Operand.tmp 97), type := 4, pos := "law.go:42", after := #[{ on := 14, ground := Ground.data }, { on := 11, ground := Ground.chain }, { on := 5, ground := Ground.guard }], guard := some (5, false) } : Oper)) (v := ?vv203) rfl (by kernel_rfl) (by kernel_rfl) (by kernel_rfl) (fun _ _ _ h => h) (Or.inl ⟨by rfl, ?hy203⟩) (by assumption) ?rest203
            case hy203 => (intro w hSw; (try dsimp only at hSw); go_simp; try (with_reducible rfl))
            try simp only [Act.put, List.setIfInBounds_toArray, List.set_cons_zero, List.set_cons_succ]
            refine wpAnyH_take (i := 16) (oi := ({ dst := some 99, op := Op.move (Operand.tmp 16), type := 34, pos := "law.go:42", after := #[{ on := 15, ground := Ground.guard }], guard := some (15, true) } : Oper)) (v := undef) rfl (by kernel_rfl) (by kernel_rfl) (by kernel_rfl) (fun _ _ _ h => h) (Or.inr ⟨by rfl, rfl⟩) (by assumption) ?_
            try simp only [Act.put, List.setIfInBounds_toArray, List.set_cons_zero, List.set_cons_succ]
            refine wpAnyH_take (i := 17) (oi := ({ dst := some 100, op := Op.binOp BinOp.eql 34 (Operand.tmp 99) (Operand.const (Value.int IntKind.u64 0)) 34, type := 4, pos := "law.go:42", after := #[{ on := 16, ground := Ground.data }, { on := 15, ground := Ground.guard }], guard := some (15, true) } : Oper)) (v := undef) rfl (by kernel_rfl) (by kernel_rfl) (by kernel_rfl) (fun _ _ _ h => h) (Or.inr ⟨by rfl, rfl⟩) (by assumption) ?_
            try simp only [Act.put, List.setIfInBounds_toArray, List.set_cons_zero, List.set_cons_succ]
            refine wpAnyH_take (i := 18) (oi := ({ dst := some 101, op := Op.pick (Operand.tmp 98) (Operand.tmp 100) (Operand.const (Value.bool false)), type := 4, pos := "law.go:42", after := #[{ on := 15, ground := Ground.data }, { on := 17, ground := Ground.data }, { on := 5, ground := Ground.guard }], guard := some (5, false) } : Oper)) (v := ?vv206) rfl (by kernel_rfl) (by kernel_rfl) (by kernel_rfl) (fun _ _ _ h => h) (Or.inl ⟨by rfl, ?hy206⟩) (by assumption) ?rest206
            case hy206 => (intro w hSw; (try dsimp only at hSw); go_simp; try (with_reducible rfl))
            try simp only [Act.put, List.setIfInBounds_toArray, List.set_cons_zero, List.set_cons_succ]
            refine wpAnyH_take (i := 19) (oi := ({ dst := some 102, op := Op.binOp BinOp.neq 4 (Operand.tmp 91) (Operand.tmp 101) 4, type := 4, pos := "law.go:42", after := #[{ on := 8, ground := Ground.data }, { on := 18, ground := Ground.data }, { on := 5, ground := Ground.guard }], guard := some (5, false) } : Oper)) (v := ?vv207) rfl (by kernel_rfl) (by kernel_rfl) (by kernel_rfl) (fun _ _ _ h => h) (Or.inl ⟨by rfl, ?hy207⟩) (by assumption) ?rest207
            case hy207 => (intro w hSw; (try dsimp only at hSw); go_simp; try (with_reducible rfl))
            try simp only [Act.put, List.setIfInBounds_toArray, List.set_cons_zero, List.set_cons_succ]
            refine wpAnyH_take (i := 20) (oi := ({ dst := some 103, op := Op.pick (Operand.tmp 88) (Operand.const (Value.bool true)) (Operand.tmp 102), type := 4, pos := "law.go:42", after := #[{ on := 5, ground := Ground.data }, { on := 19, ground := Ground.data }], guard := none } : Oper)) (v := ?vv208) rfl (by kernel_rfl) (by kernel_rfl) (by kernel_rfl) (fun _ _ _ h => h) (Or.inl ⟨by rfl, ?hy208⟩) (by assumption) ?rest208
            case hy208 => (intro w hSw; (try dsimp only at hSw); go_simp; try (with_reducible rfl))
            try simp only [Act.put, List.setIfInBounds_toArray, List.set_cons_zero, List.set_cons_succ]
            refine wpAnyH_take (i := 21) (oi := ({ dst := some 104, op := Op.move (Operand.tmp 103), type := 4, pos := "law.go:42", after := #[{ on := 20, ground := Ground.data }, { on := 15, ground := Ground.chain }], guard := none } : Oper)) (v := ?vv209) rfl (by kernel_rfl) (by kernel_rfl) (by kernel_rfl) (fun _ _ _ h => h) (Or.inl ⟨by rfl, ?hy209⟩) (by assumption) ?rest209
            case hy209 => (intro w hSw; (try dsimp only at hSw); go_simp; try (with_reducible rfl))
            try simp only [Act.put, List.setIfInBounds_toArray, List.set_cons_zero, List.set_cons_succ]
            refine wpAnyH_take (i := 22) (oi := ({ dst := some 105, op := Op.move (Operand.tmp 7), type := 69, pos := "law.go:42", after := #[{ on := 21, ground := Ground.guard }], guard := some (21, false) } : Oper)) (v := ?vv210) rfl (by kernel_rfl) (by kernel_rfl) (by kernel_rfl) (fun _ _ _ h => h) (Or.inl ⟨by rfl, ?hy210⟩) (by assumption) ?rest210
            case hy210 => (intro w hSw; (try dsimp only at hSw); go_simp; try (with_reducible rfl))
            try simp only [Act.put, List.setIfInBounds_toArray, List.set_cons_zero, List.set_cons_succ]
            refine wpAnyH_take (i := 23) (oi := ({ dst := some 106, op := Op.move (Operand.tmp 8), type := 26, pos := "law.go:42", after := #[{ on := 21, ground := Ground.guard }], guard := some (21, false) } : Oper)) (v := ?vv211) rfl (by kernel_rfl) (by kernel_rfl) (by kernel_rfl) (fun _ _ _ h => h) (Or.inl ⟨by rfl, ?hy211⟩) (by assumption) ?rest211
            case hy211 => (intro w hSw; (try dsimp only at hSw); go_simp; try (with_reducible rfl))
            try simp only [Act.put, List.setIfInBounds_toArray, List.set_cons_zero, List.set_cons_succ]
            refine wpAnyH_take (i := 24) (oi := ({ dst := some 107, op := Op.move (Operand.tmp 1), type := 3, pos := "law.go:42", after := #[{ on := 21, ground := Ground.guard }], guard := some (21, false) } : Oper)) (v := ?vv212) rfl (by kernel_rfl) (by kernel_rfl) (by kernel_rfl) (fun _ _ _ h => h) (Or.inl ⟨by rfl, ?hy212⟩) (by assumption) ?rest212
            case hy212 => (intro w hSw; (try dsimp only at hSw); go_simp; try (with_reducible rfl))
            try simp only [Act.put, List.setIfInBounds_toArray, List.set_cons_zero, List.set_cons_succ]
            refine wpAnyH_take (i := 26) (oi := ({ dst := some 109, op := Op.move (Operand.tmp 16), type := 34, pos := "law.go:42", after := #[{ on := 21, ground := Ground.guard }], guard := some (21, false) } : Oper)) (v := ?vv213) rfl (by kernel_rfl) (by kernel_rfl) (by kernel_rfl) (fun _ _ _ h => h) (Or.inl ⟨by rfl, ?hy213⟩) (by assumption) ?rest213
            case hy213 => (intro w hSw; (try dsimp only at hSw); go_simp; try (with_reducible rfl))
            try simp only [Act.put, List.setIfInBounds_toArray, List.set_cons_zero, List.set_cons_succ]
            refine wpAnyH_take (i := 27) (oi := ({ dst := some 110, op := Op.binOp BinOp.neq 34 (Operand.tmp 109) (Operand.const (Value.int IntKind.u64 0)) 34, type := 4, pos := "law.go:42", after := #[{ on := 26, ground := Ground.data }, { on := 21, ground := Ground.guard }], guard := some (21, false) } : Oper)) (v := ?vv214) rfl (by kernel_rfl) (by kernel_rfl) (by kernel_rfl) (fun _ _ _ h => h) (Or.inl ⟨by rfl, ?hy214⟩) (by assumption) ?rest214
            case hy214 => (intro w hSw; (try dsimp only at hSw); go_simp; try (with_reducible rfl))
            try simp only [Act.put, List.setIfInBounds_toArray, List.set_cons_zero, List.set_cons_succ]
            refine wpAnyH_ready (rs := [25]) (by kernel_rfl) (by simp) ?_
            refine AllReadyH.cons (o := ({ dst := some 108, op := Op.call { callee := Callee.value (Operand.func 50), args := #[Operand.tmp 105, Operand.tmp 106, Operand.tmp 107], argTypes := #[69, 26, 3] }, type := 4, pos := "law.go:42", after := #[{ on := 22, ground := Ground.data }, { on := 23, ground := Ground.data }, { on := 24, ground := Ground.data }, { on := 21, ground := Ground.chain }, { on := 21, ground := Ground.guard }], guard := some (21, false) } : Oper)) rfl (fun K hK => ?_) AllReadyH.nil
            go_simp
            go_at_call 50; refine (HW.out _ hHeld.2.2).mono ?_; rintro e z3 ⟨rfl, hz3⟩
            refine hK.out _ _ (KR.out _ hz3) (fun hHeld => ?_)
            clear hK K
            try simp only [Act.put, List.setIfInBounds_toArray, List.set_cons_zero, List.set_cons_succ]
            refine wpAnyH_take (i := 28) (oi := ({ dst := some 111, op := Op.binOp BinOp.neq 4 (Operand.tmp 108) (Operand.tmp 110) 4, type := 4, pos := "law.go:42", after := #[{ on := 25, ground := Ground.data }, { on := 27, ground := Ground.data }, { on := 21, ground := Ground.guard }], guard := some (21, false) } : Oper)) (v := ?vv215) rfl (by kernel_rfl) (by kernel_rfl) (by kernel_rfl) (fun _ _ _ h => h) (Or.inl ⟨by rfl, ?hy215⟩) (by assumption) ?rest215
            case hy215 => (intro w hSw; (try dsimp only at hSw); go_simp; try (with_reducible rfl))
            try simp only [Act.put, List.setIfInBounds_toArray, List.set_cons_zero, List.set_cons_succ]
            refine wpAnyH_take (i := 29) (oi := ({ dst := some 112, op := Op.pick (Operand.tmp 104) (Operand.const (Value.bool true)) (Operand.tmp 111), type := 4, pos := "law.go:42", after := #[{ on := 21, ground := Ground.data }, { on := 28, ground := Ground.data }], guard := none } : Oper)) (v := ?vv216) rfl (by kernel_rfl) (by kernel_rfl) (by kernel_rfl) (fun _ _ _ h => h) (Or.inl ⟨by rfl, ?hy216⟩) (by assumption) ?rest216
            case hy216 => (intro w hSw; (try dsimp only at hSw); go_simp; try (with_reducible rfl))
            try simp only [Act.put, List.setIfInBounds_toArray, List.set_cons_zero, List.set_cons_succ]
            refine wpAnyH_done (by kernel_rfl) ?_ _
            have HO5 : Hid (PokeOn w z3 A A' cap cap' c b c' b' n s s Ag capg mg gf [x, q, g, cl, w.heap.size]) := HO4.out.still hz3
            have HM5 : Hid (Slp z3 x t nt q g 2 false) := HM4.out.below hz3
            have HK5 : Hid (Lay z3 cl P T G ∧ Blk z3 w.heap.size #[.int .i64 P, .int .i64 T, .int .i64 G, .slice E m cp] 67) := ⟨HK4.out.1.below hz3 HK4.out.1.lt, HK4.out.2.but (But.of_below (l := []) hz3) (by simp)⟩
            have hRg : Hid (z3.rangeAt wr.heap.size 0 (runL (.slice Ag mg capg) ⟨mg, false, 0, 0, 0, 0, false⟩)) := (hR4'.out.below hz3).range
            clear HD HA HW KR HO4 HM4 HK4 hR4' s2 s9 hz1 hz2 hz3 hd0
            have hTu := turn_go z3 Ag capg mg ⟨mg, false, 0, 0, 0, 0, false⟩ c' t rfl
            go_wp2_with (refine wpList_load_mid rfl 43 _ rfl wr.heap.size 0 rfl (runL (.slice Ag mg capg) ⟨mg, false, 0, 0, 0, 0, false⟩) _ hRg.out Try.underlying43 rfl (by kernel_rfl) ?_; clear hRg)
            go_at_call 22; refine hTu.mono ?_; rintro e w6 ⟨rfl, hb6⟩
            have HSS : slpS t nt n 2 false s = s := by simp [slpS]
            have HO6 : Hid (PokeOn w w6 A A' cap cap' c b c' b' n s (slpS t nt n 2 false s) Ag capg mg gf [x, q, g, cl, w.heap.size]) := by rw [HSS]; exact HO5.out.still hb6
            have HM6 : Hid (Slp w6 x t nt q g 2 false) := HM5.out.below hb6
            have HK6 : Hid (Lay w6 cl P T G ∧ Blk w6 w.heap.size #[.int .i64 P, .int .i64 T, .int .i64 G, .slice E m cp] 67) := ⟨HK5.out.1.below hb6 HK5.out.1.lt, HK5.out.2.but (But.of_below (l := []) hb6) (by simp)⟩
            clear hTu hb6 HO5 HM5 HSS HK5
            have hSt := slp_on w6 A cap c b n s x q g 2 t nt false HO6.out.mem hn6 (HLW.out.more (by omega)) HM6.out ⟨(HO6.out.far x (by simp)).1.1, (HO6.out.far x (by simp)).1.2.1, (HO6.out.far q (by simp)).1.1, (HO6.out.far q (by simp)).1.2.1, (HO6.out.far g (by simp)).1.1, (HO6.out.far g (by simp)).1.2.1⟩
            rw [show slpP nt n 2 s = 2 by simp [slpP], show slpA nt n 2 s = false by simp [slpA], show decide (2 = 2) = true from rfl] at hSt
            go_wp2_with fail
            go_at_call 51; refine hSt.mono ?_; rintro e w7 ⟨q7, g7, rfl, hM7, hI7, hB7, hF7, hq7, hg7⟩
            have HM7 : Hid _ := hM7
            have hlt7 := hM7.lt
            have hcl7 := HK6.out.1.lt
            have hbx7 := HK6.out.2.lt
            have HK7 : Hid (Lay w7 cl P T G ∧ Blk w7 w.heap.size #[.int .i64 P, .int .i64 T, .int .i64 G, .slice E m cp] 67) := ⟨(hB7.block cl HK6.out.1.lt (by simp [hne, hxne.out, HQ.out])).trans HK6.out.1, HK6.out.2.but hB7 (by simp [hbx, hxne.out, HQ.out])⟩
            have HQ7 : Hid (cl ≠ q7 ∧ w.heap.size ≠ q7) := ⟨ne3 hxne.out.1 HQ.out.1 hcl7 hq7, ne3 hxne.out.2 HQ.out.2 hbx7 hq7⟩
            have hsz7 := hB7.size
            have HO7 : Hid (PokeOn w w7 A A' cap cap' c b c' b' n _ _ Ag capg mg _ [x, q7, g7, cl, w.heap.size]) := HO6.out.stepped hI7 hB7 (by
              intro k hk
              simp only [List.mem_cons, List.not_mem_nil, or_false] at hk ⊢
              rcases hk with rfl | rfl | rfl | rfl <;> simp) (by
              intro k hk
              simp only [List.mem_cons, List.not_mem_nil, or_false] at hk
              rcases hk with rfl | rfl | rfl | rfl | rfl
              · exact ⟨.inl (by simp), hlt7.1⟩
              · exact ⟨by rcases hq7 with e | e | e; exact .inl (by simp [e]); exact .inl (by simp [e]); exact .inr e, hlt7.2.1⟩
              · exact ⟨by rcases hg7 with e | e; exact .inl (by simp [e]); exact .inr e, hlt7.2.2⟩
              · exact ⟨.inl (by simp), Nat.lt_of_lt_of_le hcl7 hsz7⟩
              · exact ⟨.inl (by simp), Nat.lt_of_lt_of_le hbx7 hsz7⟩)
            have HLW7 : Hid (Low (slpS t nt n 2 false s) ((k + 1 : Nat) : Int)) := (slpS_low HLW.out _ _ _ _ _).more (by omega)
            generalize slpS t nt n 2 false s = s' at *
            clear hSt hM7 hI7 hB7 hF7 hq7 hg7 hlt7 HO6 HM6 hcl7 hbx7 hsz7 HK6
            have hAl := alike_any w7 A A' cap cap' c b c' b' n s' hn6 HO7.out.two
            go_wp2_with fail
            go_at_call 24; refine hAl.mono ?_; rintro e w8 ⟨rfl, hb8⟩
            have HO8 : Hid _ := HO7.out.still hb8
            have HM8 : Hid _ := HM7.out.below hb8
            have HK8 : Hid (Lay w8 cl P T G ∧ Blk w8 w.heap.size #[.int .i64 P, .int .i64 T, .int .i64 G, .slice E m cp] 67) := ⟨HK7.out.1.below hb8 HK7.out.1.lt, HK7.out.2.but (But.of_below (l := []) hb8) (by simp)⟩
            clear hAl hb8 HO7 HM7 HK7
            go_wp2_with fail
            go_roundw
            case rel => exact ⟨k + 1, s', Ag, capg, mg, gf, q7, g7, 2, false, by omega, by go_num, rfl, hmg, HO8.out, HM8.out, HLW7, HG, HK8, HQ7⟩
            case measure => simp [intOf]; omega
    · obtain rfl : k = mp := by omega
      have HT := HO.out.two
      have HTS : Hid (∀ Y, Below wr.heap.size wr Y → Two Y A A' cap cap' c b c' b' n s) := fun Y hY => HT.below hY
      have hH : Hid (wr.drew.cell? ⟨c', 0, none⟩ = some (.slice A' n cap') ∧ Below wr.heap.size wr wr.drew) := ⟨HT.r.cells.1, (Below.refl _ _).drew⟩
      have KEEP : Hid (∀ X w' : World, (X.cell? ⟨c', 0, none⟩ = some (.slice A' n cap') ∧ Below wr.heap.size wr X) → Below X.heap.size X w' → (w'.cell? ⟨c', 0, none⟩ = some (.slice A' n cap') ∧ Below wr.heap.size wr w')) := fun X w' h k => ⟨(HTS.out _ (h.2.trans (k.mono h.2.size))).r.cells.1, h.2.trans (k.mono h.2.size)⟩
      have HB9 : Hid (Below w.heap.size w wr) := HO.out.below
      clear HT HO
      go_wp2_with fail
      go_region_held3 (fun w' => w'.cell? ⟨c', 0, none⟩ = some (.slice A' n cap') ∧ Below wr.heap.size wr w') (first | exact hH.out | assumption | exact KEEP.out _ _ ‹_› ‹_›) (first | (go_at_call 44; refine (note_awake _).mono ?_; rintro e x1 ⟨rfl, g1⟩) | (go_at_call 27; refine (words_any _ A cap c b n s (HTS.out _ (by simp only [*])).m hn6).mono ?_; rintro e x5 ⟨A4, cap4, rfl, hs4, g5⟩) | (go_at_call 25; refine (sameB_any _ A4 A' n cap4 cap' s.f hn6 hs4 (HTS.out _ (by simp only [*])).r.sees).mono ?_; rintro e x6 ⟨rfl, g6⟩))
      all_goals
        rename_i hHeld
        have hbF := HB9.out.trans (hHeld.2.mono HB9.out.size)
        go_wp2_with fail
        go_ret
        exact ⟨rfl, hbF⟩

theorem noteSteps_walk (P T G t : Int) (E F : Option Addr) (m cp mp cq : Nat) (a v : Nat → Int) (Pks : Nat → Pk) (w : World) (hm : m ≤ 9223372036854775807) (hmp : mp ≤ 9223372036854775807) (hs : SeesP w w.heap.size E m a v) (hv : ∀ i, i < m → 0 ≤ v i ∧ v i ≤ 18446744073709551615) (hP : SeesC w w.heap.size F mp 6 (pkC Pks)) (hpv : ∀ j, j < mp → 0 ≤ (Pks j).v ∧ (Pks j).v ≤ 18446744073709551615) :
    Calls Try.prog 10 #[.agg #[.int .i64 P, .int .i64 T, .int .i64 G, .slice E m cp], .int .i64 t, .slice F mp cq] w fun e w' => e = .returned (.bool true) ∧ Below w.heap.size w w' := by
  by_cases h : (¬ FewC P T G ∨ 400 < m) ∨ 100 < mp ∨ t < 0 ∨ T ≤ t
  · exact noteSteps_bad P T G t E F m cp mp cq a v w hm hmp hs hv h
  · exact noteSteps_ok P T G t E F m cp mp cq a v Pks w (by omega) (Decidable.byContradiction fun hf => h (.inl (.inl hf))) (by omega) hs hv hP hpv (by omega)
end Go.Proofs.Ytjbkhnolnlcjnaa
