/- The walk of the law RingLooks. -/
import Derived.Test.YtlnjjcfkcoaceaaRing5
namespace Go.Proofs.Ytlnjjcfkcoaceaa
open Go Go.RowKit
set_option linter.unusedVariables false
set_option maxRecDepth 100000
set_option linter.unusedSimpArgs false


/-- m answers g, and what the machine holds of them. -/
structure LkGot (m ph : Nat) (g : Nat → Int) (hd tl nt : Int) (em : Bool) : Prop where
  h : m = ph ∧ ph ≤ 4 ∧ (1 ≤ ph → g 0 = hd) ∧ (2 ≤ ph → g 1 = tl) ∧ (3 ≤ ph → g 2 = nt) ∧ em = lkV ph g
def lkM (m : Nat) : Nat := if m < 4 then m + 1 else m
def lkG (P p : Int) (n m : Nat) (s : St) (g : Nat → Int) : Nat → Int := if m < 4 then gsnoc g m (lkA P p n m s) else g
theorem LkGot.next {m ph : Nat} {g : Nat → Int} {hd tl nt : Int} {em : Bool} (h : LkGot m ph g hd tl nt em) (P p : Int) (n : Nat) (s : St) :
    LkGot (lkM m) (if ph < 4 then ph + 1 else 4) (lkG P p n m s g) (if ph = 0 then lkA P p n ph s else hd) (if ph = 1 then lkA P p n ph s else tl) (if ph = 2 then lkA P p n ph s else nt) (if ph = 3 then decide (lkA P p n ph s = tl ∧ lkA P p n ph s = hd ∧ nt = 0) else em) := by
  obtain ⟨rfl, h4, h0, h1, h2, h3⟩ := h.h
  rcases (by omega : m = 0 ∨ m = 1 ∨ m = 2 ∨ m = 3 ∨ m = 4) with rfl | rfl | rfl | rfl | rfl
  · refine ⟨rfl, by simp, fun _ => by simp [lkG, gsnoc], fun h => by simp at h, fun h => by simp at h, ?_⟩
    simpa [lkV] using h3
  · refine ⟨rfl, by simp, fun _ => by simp [lkG, gsnoc]; exact h0 (by omega), fun h => by simp [lkG, gsnoc], fun h => by simp at h, ?_⟩
    simpa [lkV] using h3
  · refine ⟨rfl, by simp, fun _ => by simp [lkG, gsnoc]; exact h0 (by omega), fun h => by simp [lkG, gsnoc]; exact h1 (by omega), fun h => by simp [lkG, gsnoc], ?_⟩
    simpa [lkV] using h3
  · refine ⟨rfl, by simp, fun _ => by simp [lkG, gsnoc]; exact h0 (by omega), fun h => by simp [lkG, gsnoc]; exact h1 (by omega), fun h => by simp [lkG, gsnoc]; exact h2 (by omega), ?_⟩
    have e0 := h0 (by omega)
    have e1 := h1 (by omega)
    have e2 := h2 (by omega)
    simp [lkV, lkG, gsnoc, e0, e1, e2]
  · refine ⟨rfl, by simp, fun _ => ?_, fun h => ?_, fun h => ?_, ?_⟩
    · simpa [lkG] using h0 (by omega)
    · simpa [lkG] using h1 (by omega)
    · simpa [lkG] using h2 (by omega)
    · simpa [lkG, lkV] using h3

section
variable {W0 w : World} {A A' : Option Addr} {cap cap' c b c' b' n : Nat} {s : St} {Ag : Option Addr} {capg mg : Nat} {gf : Nat → Int} {L : List Nat}
theorem lk_turn (hO : PokeOn W0 w A A' cap cap' c b c' b' n s s Ag capg mg gf L) (hn6 : n ≤ 1000000) (hl : Low s 1000000) (hm : mg ≤ 4) (P who p : Int) :
    Calls Try.prog 20 #[.pointer (some ⟨c', 0, none⟩), .agg (runCells (.slice Ag mg capg) (lkRn P p mg)), .int .i64 who] w fun e w' => ∃ Ag' capg', e = .returned (.slice Ag' (lkM mg) capg') ∧ PokeOn W0 w' A A' cap cap' c b c' b' n s (lkS P who p n mg s) Ag' capg' (lkM mg) (lkG P p n mg s gf) L ∧ But (c' :: b' :: gotL Ag) w w' := by
  have hgf : GotFar Ag [c', b'] := hO.gfar.of (by intro k hk; simp at hk ⊢; omega)
  by_cases h4 : mg < 4
  · have eR : lkRn P p mg = ⟨mg, true, 1, wd 20 P 264 p (lkF mg), 0, 0, false⟩ := by unfold lkRn; rw [if_pos h4]
    have eS : lkS P who p n mg s = actS 1 who (wd 20 P 264 p (lkF mg)) 0 0 n s := by unfold lkS; rw [if_pos h4]; rfl
    have eM : lkM mg = mg + 1 := by unfold lkM; rw [if_pos h4]
    have eG : lkG P p n mg s gf = gsnoc gf mg (actA 1 (wd 20 P 264 p (lkF mg)) 0 0 n s) := by unfold lkG; rw [if_pos h4]; rfl
    rw [eR, eS, eM, eG]
    refine (turn_does w Ag capg mg gf ⟨mg, true, 1, wd 20 P 264 p (lkF mg), 0, 0, false⟩ A' cap' c' b' n s who rfl (fun h => by cases h) (show (1 : Int) ≤ 1 ∧ (1 : Int) ≤ 4 from by omega) (fun _ => rfl) (show (0 : Int) ≤ 0 ∧ (0 : Int) ≤ 18446744073709551615 from by omega) hn6 (by omega) hl hO.ref hO.got hgf).mono ?_
    rintro e w' ⟨gb, cap2, rfl, hG6, hI6, hB6, hg6⟩
    exact ⟨_, _, rfl, hO.turned hG6 hI6 hB6 hg6, hB6⟩
  · obtain rfl : mg = 4 := by omega
    have eR : lkRn P p 4 = ⟨4, false, 0, 0, 0, 0, false⟩ := rfl
    have eS : lkS P who p n 4 s = s := rfl
    rw [eR, eS]
    refine (turn_go w Ag capg 4 ⟨4, false, 0, 0, 0, 0, false⟩ c' who rfl).mono ?_
    rintro e w' ⟨rfl, hb⟩
    exact ⟨_, _, rfl, hO.still hb, But.of_below hb⟩
end

theorem ringLooks_bad (P T G x0 x1 : Int) (E F : Option Addr) (m cp mp cq : Nat) (a v : Nat → Int) (w : World) (hm : m ≤ 9223372036854775807) (hmp : mp ≤ 9223372036854775807) (hs : SeesP w w.heap.size E m a v) (hv : ∀ i, i < m → 0 ≤ v i ∧ v i ≤ 18446744073709551615) (h : (¬ FewC P T G ∨ 400 < m) ∨ 100 < mp ∨ x1 < 0 ∨ P ≤ x1) :
    Calls Try.prog 10 #[.agg #[.int .i64 P, .int .i64 T, .int .i64 G, .slice E m cp], .agg #[.int .i64 x0, .int .i64 x1], .slice F mp cq] w fun e w' => e = .returned (.bool true) ∧ Below w.heap.size w w' := by
  have hsz : ((w.alloc (.cells #[.int .i64 P, .int .i64 T, .int .i64 G, .slice E m cp] 71)).alloc (.cells #[.int .i64 x0, .int .i64 x1] 114)).heap.size = w.heap.size + 1 + 1 := by simp
  have HB : Hid (Below w.heap.size w ((w.alloc (.cells #[.int .i64 P, .int .i64 T, .int .i64 G, .slice E m cp] 71)).alloc (.cells #[.int .i64 x0, .int .i64 x1] 114))) := ((Below.refl _ _).alloc (Nat.le_refl _) _).alloc (by simp) _
  have hX : Hid (Blk ((w.alloc (.cells #[.int .i64 P, .int .i64 T, .int .i64 G, .slice E m cp] 71)).alloc (.cells #[.int .i64 x0, .int .i64 x1] 114)) (w.heap.size + 1) #[.int .i64 x0, .int .i64 x1] 114) := by
    have := Blk.new (w.alloc (.cells #[.int .i64 P, .int .i64 T, .int .i64 G, .slice E m cp] 71)) #[.int .i64 x0, .int .i64 x1] 114
    rwa [World.size_alloc] at this
  have hX0 : Hid (Blk ((w.alloc (.cells #[.int .i64 P, .int .i64 T, .int .i64 G, .slice E m cp] 71)).alloc (.cells #[.int .i64 x0, .int .i64 x1] 114)) w.heap.size #[.int .i64 P, .int .i64 T, .int .i64 G, .slice E m cp] 71) := (Blk.new w #[.int .i64 P, .int .i64 T, .int .i64 G, .slice E m cp] 71).al _
  by_cases hf : ¬ FewC P T G ∨ 400 < m
  · have hL := lay_none P T G E m cp ((w.alloc (.cells #[.int .i64 P, .int .i64 T, .int .i64 G, .slice E m cp] 71)).alloc (.cells #[.int .i64 x0, .int .i64 x1] 114)) hm hf
    clear h hf hs hv
    go_enter Try.func10, Try.ntmps10
    go_wp2_with fail
    generalize (w.alloc (.cells #[.int .i64 P, .int .i64 T, .int .i64 G, .slice E m cp] 71)).alloc (.cells #[.int .i64 x0, .int .i64 x1] 114) = W at *
    go_at_call 30; refine hL.mono ?_; rintro e w1 ⟨rfl, h1⟩
    have HB1 : Hid (Below w.heap.size w w1) := HB.out.trans (h1.mono (by omega))
    have hX1 := hX.out.but (But.of_below (l := []) h1) (by simp)
    have y0 := hX1.cell 0 (v := .int .i64 x0) rfl
    have y1 := hX1.cell 1 (v := .int .i64 x1) rfl
    clear hL h1 hX1
    go_wp2_with fail
    go_quiet (fail)
    go_wp2_with fail
    go_at_call 61; refine (ring_awake _).mono ?_; rintro e w2 ⟨rfl, h2⟩
    have h3 := seq (Below.drewN' HB1.out nq) h2
    go_wp2_with fail
    go_ret
    exact ⟨rfl, h3⟩
  · have hF : FewC P T G := Decidable.byContradiction fun h => hf (.inl h)
    have hm4 : m ≤ 400 := by omega
    have hM := hF.h.1.h
    obtain ⟨n, hn⟩ : ∃ n : Nat, (n : Int) = 20 + 264 * P + 3 * T + 2 * G := ⟨(20 + 264 * P + 3 * T + 2 * G).toNat, by omega⟩
    have hL := lay_some P T G E m cp n a v _ hm4 hF hn ((hs.up (.cells #[.int .i64 P, .int .i64 T, .int .i64 G, .slice E m cp] 71)).up (.cells #[.int .i64 x0, .int .i64 x1] 114)) hv
    have htt : 100 < mp ∨ x1 < 0 ∨ P ≤ x1 := by rcases h with h | h; exact absurd h hf; exact h
    clear h hf hs hv hn hF hM
    by_cases q1 : 100 < mp
    · clear htt
      go_enter Try.func10, Try.ntmps10
      go_wp2_with fail
      generalize (w.alloc (.cells #[.int .i64 P, .int .i64 T, .int .i64 G, .slice E m cp] 71)).alloc (.cells #[.int .i64 x0, .int .i64 x1] 114) = W at *
      go_at_call 30; refine hL.mono ?_; rintro e w1 ⟨cl, A, A', cap, cap', c, b, c', b', rfl, hLd⟩
      have HB1 : Hid (Below w.heap.size w w1) := HB.out.trans (hLd.below.mono (by omega))
      have hX1 := hX.out.but (But.of_below (l := []) hLd.below) (by simp)
      have y0 := hX1.cell 0 (v := .int .i64 x0) rfl
      have y1 := hX1.cell 1 (v := .int .i64 x1) rfl
      have z0 := (hX0.out.but (But.of_below (l := []) hLd.below) (by simp)).cell 0 (v := .int .i64 P) rfl
      clear hL hLd hX1
      go_wp2_with fail
      go_quiet (fail)
      go_wp2_with fail
      go_at_call 61; refine (ring_awake _).mono ?_; rintro e w2 ⟨rfl, h2⟩
      have h3 := seq (Below.drewN' HB1.out nq) h2
      go_wp2_with fail
      go_ret
      exact ⟨rfl, h3⟩
    have d1 : decide ((100 : Int) < (mp : Int)) = false := decide_eq_false (by omega)
    by_cases q2 : x1 < 0
    · clear htt
      go_enter Try.func10, Try.ntmps10
      go_wp2_with fail
      generalize (w.alloc (.cells #[.int .i64 P, .int .i64 T, .int .i64 G, .slice E m cp] 71)).alloc (.cells #[.int .i64 x0, .int .i64 x1] 114) = W at *
      go_at_call 30; refine hL.mono ?_; rintro e w1 ⟨cl, A, A', cap, cap', c, b, c', b', rfl, hLd⟩
      have HB1 : Hid (Below w.heap.size w w1) := HB.out.trans (hLd.below.mono (by omega))
      have hX1 := hX.out.but (But.of_below (l := []) hLd.below) (by simp)
      have y0 := hX1.cell 0 (v := .int .i64 x0) rfl
      have y1 := hX1.cell 1 (v := .int .i64 x1) rfl
      have z0 := (hX0.out.but (But.of_below (l := []) hLd.below) (by simp)).cell 0 (v := .int .i64 P) rfl
      clear hL hLd hX1
      go_wp2_with fail
      go_quiet (fail)
      go_wp2_with fail
      go_at_call 61; refine (ring_awake _).mono ?_; rintro e w2 ⟨rfl, h2⟩
      have h3 := seq (Below.drewN' HB1.out nq) h2
      go_wp2_with fail
      go_ret
      exact ⟨rfl, h3⟩
    have d2 : decide (x1 < 0) = false := decide_eq_false q2
    have q3 : P ≤ x1 := by omega
    clear htt
    go_enter Try.func10, Try.ntmps10
    go_wp2_with fail
    generalize (w.alloc (.cells #[.int .i64 P, .int .i64 T, .int .i64 G, .slice E m cp] 71)).alloc (.cells #[.int .i64 x0, .int .i64 x1] 114) = W at *
    go_at_call 30; refine hL.mono ?_; rintro e w1 ⟨cl, A, A', cap, cap', c, b, c', b', rfl, hLd⟩
    have HB1 : Hid (Below w.heap.size w w1) := HB.out.trans (hLd.below.mono (by omega))
    have hX1 := hX.out.but (But.of_below (l := []) hLd.below) (by simp)
    have y0 := hX1.cell 0 (v := .int .i64 x0) rfl
    have y1 := hX1.cell 1 (v := .int .i64 x1) rfl
    have z0 := (hX0.out.but (But.of_below (l := []) hLd.below) (by simp)).cell 0 (v := .int .i64 P) rfl
    clear hL hLd hX1
    go_wp2_with fail
    go_quiet (fail)
    go_wp2_with fail
    go_at_call 61; refine (ring_awake _).mono ?_; rintro e w2 ⟨rfl, h2⟩
    have h3 := seq (Below.drewN' HB1.out nq) h2
    go_wp2_with fail
    go_ret
    exact ⟨rfl, h3⟩

end Go.Proofs.Ytlnjjcfkcoaceaa
