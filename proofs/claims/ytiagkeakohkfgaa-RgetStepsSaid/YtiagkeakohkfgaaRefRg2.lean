/- The reference's routine that gets from a ring, by itself. -/
import Derived.Test.YtiagkeakohkfgaaRefRg
namespace Go.Proofs.Ytiagkeakohkfgaa
open Go Go.RowKit
set_option linter.unusedVariables false
set_option maxRecDepth 100000
set_option linter.unusedSimpArgs false

theorem rg_ax_live {P p : Int} {fr : Bool} {t : RgT} (h : t.live = true) : (rgPM P p fr).ax t ≠ none := by cases t <;> simp [rgPM, RgT.live] at h ⊢
theorem rget_on (w : World) (x : Nat) (A : Option Addr) (cap m : Nat) (gf : Nat → Int) (P T G p : Int) (fr : Bool) (t : RgT) (h : RunOn w x A cap m gf rn0) (hh : Hist (rgPM P p fr) (rgS fr) gf m t) (hp : 0 ≤ p ∧ p < P) (hP : P ≤ 64) :
    Calls Try.prog 43 #[.pointer (some ⟨x, 0, none⟩), .agg #[.int .i64 P, .int .i64 T, .int .i64 G], .int .i64 p, .bool fr] w fun e w' => ∃ (ga : Int) (gi : Bool), e = .returned (.agg #[.int .i64 ga, .bool gi]) ∧ ((rgPM P p fr).ax t = none → ga = t.obs ∧ gi = t.ih) ∧ RunOn w' x A cap m gf ((rgPM P p fr).rn t m) ∧ But [x] w w' := by
  rw [← rj_start (M := rgPM P p fr) (s0 := rgS fr) (g := gf) (m := m)] at h
  refine (syn_rget (h0 := 0) (w0 := 0) (rg_in P p fr) hp hP h (Syn.start _ _ _ _) hh.bd hh.sw).mono ?_
  rintro e w' ⟨a, i, j', t', rfl, h1, h2, h3, h4, h5, -⟩
  have hn : (rgPM P p fr).ax t' = none := by cases t' <;> first | rfl | cases h3
  refine ⟨a, i, rfl, fun hax => ?_, ?_, h5⟩
  · rcases h2.fin hh (fun _ => hn) with ⟨e1, e2⟩ | ⟨e3, (hf | ⟨p', e1, e2⟩)⟩
    · rw [e1]; exact h4 (by omega)
    · exact hf.elim
    · rw [e2] at hax
      exact absurd hax (rg_ax_live e1)
  · rw [← rj_end h2 hh (fun _ => hn)]
    exact h1
end Go.Proofs.Ytiagkeakohkfgaa
