/- Many that acquire and release a lock: what a step of one leaves. -/
import Derived.Test.YtlnjjcfkcoaceaaLA2
namespace Go.Proofs.Ytlnjjcfkcoaceaa
open Go Go.RowKit
set_option linter.unusedVariables false
set_option maxRecDepth 100000
set_option linter.unusedSimpArgs false


def TS.mid : TS → Prop | .idle _ => True | .acq _ _ _ _ ph _ _ => ph ≤ 2 | .rel _ _ _ _ _ => True
theorem mids {S : Nat → TS} {T t : Nat} {X : TS} (h : ∀ u, u < T → (S u).mid) (hX : X.mid) : ∀ u, u < T → (upS S t X u).mid := fun u hu => by
  by_cases hut : u = t
  · subst hut; rw [upS_at]; exact hX
  · rw [upS_ne _ _ hut]; exact h u hu
theorem stp4_f (who i new : Int) (n : Nat) (s : St) (h : 0 ≤ i ∧ i < n) : (stp 4 who i 0 new n s).f = upd s.f i.toNat ((s.f i.toNat + new) % 4294967296) := by
  unfold stp; rw [if_pos h]; simp
theorem stp2_f (who i new : Int) (n : Nat) (s : St) (h : 0 ≤ i ∧ i < n) : (stp 2 who i 0 new n s).f = upd s.f i.toNat new := by
  unfold stp; rw [if_pos h]; simp
theorem stp1_f (who i : Int) (n : Nat) (s : St) : (stp 1 who i 0 0 n s).f = s.f := by
  unfold stp; split
  · simp
  · rfl
theorem upd_at (f : Nat → Int) (i : Nat) (v : Int) : upd f i v i = v := by unfold upd; simp
theorem upd_ne (f : Nat → Int) {i j : Nat} (v : Int) (h : j ≠ i) : upd f i v j = f j := by unfold upd; simp [h]

section
variable {w0 w : World} {T : Nat} {first : Int} {A : Option Addr} {cap c b n : Nat} {s : St} {bi bo : Nat} {S : Nat → TS} {tk sv served N : Nat} {M : Int}
theorem Sys.farL (h : Sys w0 w T first A cap c b n s bi bo S) {t : Nat} (ht : t < T) {x q g : Nat} (hx : x ∈ (S t).fp) (hq : q ∈ (S t).fp) (hg : g ∈ (S t).fp) : Far x q g c b :=
  ⟨(h.far t ht x hx).1.1, (h.far t ht x hx).1.2.1, (h.far t ht q hq).1.1, (h.far t ht q hq).1.2.1, (h.far t ht g hg).1.1, (h.far t ht g hg).1.2.1⟩

theorem acq_sys (h : Sys w0 w T first A cap c b n s bi bo S) (ab : Abs first T S s tk sv served N) (hl : Low s M) (hM : M ≤ 1000000) (hn : 3 ≤ n ∧ n ≤ 1000000) (hT : T ≤ 8) (hN : N ≤ 1000) (hf : 0 ≤ first ∧ first ≤ 4294967295) {t : Nat} (ht : t < T) {o : Option Nat} {x q g ph k : Nat} {u : Int} (hS : S t = .acq o x q g ph k u) (hph : ph ≤ 2) :
    Calls Try.prog 34 #[.pointer (some ⟨x, 0, none⟩), .pointer (some ⟨c, 0, none⟩)] w fun e w' => ∃ (z : Bool), e = .returned (.bool z) ∧ ∃ s' X tk', Sys w0 w' T first A cap c b n s' bi bo (upS S t X) ∧ Abs first T (upS S t X) s' tk' sv served (N + 1) ∧ Low s' (M + 1) ∧ (z = false → X.mid) ∧ (z = true → ∃ u', X = .acq o x x x 3 sv u' ∧ Acq w' x t 0 1 2 x x 3 u' ∧ u' = (first + sv) % 4294967296 ∧ s'.f 2 = (t : Int) + 1) := by
  have hon := h.on t ht
  rw [hS] at hon
  cases hon with
  | acq o x q g ph k u hO hA hu =>
    have hfp : (S t).fp = x :: q :: g :: oL o := by rw [hS]; rfl
    refine (acq_on w A cap c b n s x q g ph t 0 1 2 u h.mem hn.2 (hl.more hM) (by omega) hA (h.farL ht (by simp [hfp]) (by simp [hfp]) (by simp [hfp]))).mono ?_
    rintro e w' ⟨q', g', rfl, hA', hI', hB, -, hq', hg'⟩
    have hlow : Low (acqS t 0 1 2 n ph s) (M + 1) := acqS_low hl _ _ _ _ _ _
    have hOo : OutOk w' o := hO.but hB (fun k hk hk2 => by
      obtain ⟨⟨e1, e2, -, -⟩, -⟩ := h.far t ht k (by simp [hfp, hk])
      simp only [List.mem_cons, List.not_mem_nil, or_false] at hk2
      rcases hk2 with e | e | e
      · exact e1 e
      · exact e2 e
      · subst e
        obtain ⟨nx, hn1, hn2⟩ := hA.next
        rw [hO k (by cases o with | none => simp [oL] at hk | some z => simp [oL] at hk; rw [hk])] at hn1
        cases hn1
        have : ph = 3 := by simpa using hn2
        omega)
    have hgo : ∀ (ph' k' : Nat) (u' : Int) (st' : St), Is w' 122 A cap c b n st' → Acq w' x t 0 1 2 q' g' ph' u' → (1 ≤ ph' → u' = (first + k') % 4294967296) → Sys w0 w' T first A cap c b n st' bi bo (upS S t (.acq o x q' g' ph' k' u')) := fun ph' k' u' st' hI hA hu' =>
      h.go ht hB (fun z hz => by simp only [List.mem_cons, List.not_mem_nil, or_false] at hz; rcases hz with e | e | e; exact .inl e; exact .inr (.inl e); exact .inr (.inr (by simp [hfp, e]))) hI _ (by rw [hS]; rfl) (by rw [hS]; rfl) (.acq o x q' g' ph' k' u' hOo hA hu') (fun z hz => by
        simp only [TS.fp, List.mem_cons] at hz
        rcases hz with e | e | e | e
        · exact .inl (by simp [hfp, e])
        · rcases hq' with e2 | e2
          · exact .inl (by simp [hfp, e, e2])
          · exact .inr (by omega)
        · rcases hg' with e2 | e2
          · exact .inl (by simp [hfp, e, e2])
          · exact .inr (by omega)
        · exact .inl (by simp [hfp, e]))
    rcases (by omega : ph = 0 ∨ ph = 1 ∨ ph = 2) with rfl | rfl | rfl
    · have eP : acqP 0 1 n 0 u s = 1 := rfl
      have eT : acqT 0 n 0 u s = (first + tk) % 4294967296 := by
        show turnOf (ans 4 0 0 1 n s) = _
        have ha : ans 4 0 0 1 n s = (s.f 0 + 1) % 4294967296 := by
          unfold ans
          rw [if_pos ⟨by omega, by omega⟩]
          rfl
        rw [ha, ab.tick]
        unfold turnOf
        omega
      have hfS : (acqS t 0 1 2 n 0 s).f = upd s.f 0 ((s.f 0 + 1) % 4294967296) := stp4_f t 0 1 n s ⟨by omega, by omega⟩
      rw [eP, eT] at hA'
      refine ⟨_, rfl, _, .acq o x q' g' 1 tk ((first + tk) % 4294967296), tk + 1, hgo 1 tk _ _ hI' hA' (fun _ => rfl), ab.draw ht _ (by rw [hfS, upd_at]) (by rw [hfS, upd_ne _ _ (by omega)]) (by rw [hS]; rfl) (by rw [hS]; rfl) rfl rfl rfl hf.1, hlow, fun _ => by show (1 : Nat) ≤ 2; omega, fun h => by rw [eP] at h; cases h⟩
    · have ha : ans 1 1 0 0 n s = s.f 1 := by
        unfold ans
        rw [if_pos ⟨by omega, by omega⟩]
        rfl
      have hfS : (acqS t 0 1 2 n 1 s).f = s.f := stp1_f t 1 n s
      have eT : acqT 0 n 1 u s = u := rfl
      have hu1 := hu (by omega)
      by_cases hs : s.f 1 = u
      · have eP : acqP 0 1 n 1 u s = 2 := by unfold acqP; rw [if_neg (by omega), if_pos rfl, ha, if_pos hs]
        rw [eP, eT] at hA'
        have hse := ab.sees (s' := acqS t 0 1 2 n 1 s) ht (.acq o x q' g' 2 k u) (by rw [hfS]) (by rw [hfS]) (by rw [hS]; rfl) rfl (by rw [hS]; rfl) rfl hN (by rw [hs]; exact hu1)
        exact ⟨_, rfl, _, .acq o x q' g' 2 k u, tk, hgo 2 k u _ hI' hA' (fun _ => hu1), hse.1.more (by omega), hlow, fun _ => by show (2 : Nat) ≤ 2; omega, fun h => by rw [eP] at h; cases h⟩
      · have eP : acqP 0 1 n 1 u s = 1 := by unfold acqP; rw [if_neg (by omega), if_pos rfl, ha, if_neg hs]
        rw [eP, eT] at hA'
        exact ⟨_, rfl, _, .acq o x q' g' 1 k u, tk, hgo 1 k u _ hI' hA' (fun _ => hu1), (ab.same ht (.acq o x q' g' 1 k u) (by rw [hfS]) (by rw [hfS]) (by rw [hS]; rfl) (by rw [hS]; rfl) (by rw [hS]; rfl)).more (by omega), hlow, fun _ => by show (1 : Nat) ≤ 2; omega, fun h => by rw [eP] at h; cases h⟩
    · have eP : acqP 0 1 n 2 u s = 3 := rfl
      have eT : acqT 0 n 2 u s = u := rfl
      have hfS : (acqS t 0 1 2 n 2 s).f = upd s.f 2 ((t : Int) + 1) := stp2_f t 2 ((t : Int) + 1) n s ⟨by omega, by omega⟩
      have hu1 := hu (by omega)
      rw [eP, eT] at hA'
      have hks : k = sv := by
        have := ab.has t ht (by rw [hS]; rfl)
        rw [hS] at this
        simpa [TS.num] using this
      subst hks
      have hqg : q' = x ∧ g' = x := by cases hA' with | over => exact ⟨rfl, rfl⟩
      rw [hqg.1, hqg.2] at hgo hA'
      exact ⟨_, rfl, _, .acq o x x x 3 k u, tk, hgo 3 k u _ hI' hA' (fun _ => hu1), (ab.same ht (.acq o x x x 3 k u) (by rw [hfS, upd_ne _ _ (by omega)]) (by rw [hfS, upd_ne _ _ (by omega)]) (by rw [hS]; rfl) (by rw [hS]; rfl) (by rw [hS]; rfl)).more (by omega), hlow, (fun h => by rw [eP] at h; cases h), fun _ => ⟨u, rfl, hA', hu1, by rw [hfS, upd_at]⟩⟩

theorem rel_sys (h : Sys w0 w T first A cap c b n s bi bo S) (ab : Abs first T S s tk sv served N) (hl : Low s M) (hM : M ≤ 1000000) (hn : 3 ≤ n ∧ n ≤ 1000000) (hf : 0 ≤ first ∧ first ≤ 4294967295) {t : Nat} (ht : t < T) {x q g ph k : Nat} (hS : S t = .rel x q g ph k) :
    Calls Try.prog 33 #[.pointer (some ⟨x, 0, none⟩), .pointer (some ⟨c, 0, none⟩)] w fun e w' => ∃ (z : Bool), e = .returned (.bool z) ∧ ∃ s' X sv', Sys w0 w' T first A cap c b n s' bi bo (upS S t X) ∧ Abs first T (upS S t X) s' tk sv' served (N + 1) ∧ Low s' (M + 1) ∧ X.mid := by
  have hon := h.on t ht
  rw [hS] at hon
  cases hon with
  | rel x q g ph k hR hph =>
    have hfp : (S t).fp = [x, q, g] := by rw [hS]; rfl
    refine (rel_on w A cap c b n s x q g ph t 1 2 h.mem hn.2 (hl.more hM) hR (h.farL ht (by simp [hfp]) (by simp [hfp]) (by simp [hfp]))).mono ?_
    rintro e w' ⟨q', g', rfl, hR', hI', hB, -, hq', hg'⟩
    have hlow : Low (relS t 1 2 n ph s) (M + 1) := relS_low hl _ _ _ _ _
    have hl3 : ∀ z ∈ [c, b, x], z = c ∨ z = b ∨ z ∈ (S t).fp := fun z hz => by simp only [List.mem_cons, List.not_mem_nil, or_false] at hz; rcases hz with e | e | e; exact .inl e; exact .inr (.inl e); exact .inr (.inr (by simp [hfp, e]))
    rcases (by omega : ph = 0 ∨ ph = 1) with rfl | rfl
    · have hfS : (relS t 1 2 n 0 s).f = upd s.f 2 0 := stp2_f t 2 0 n s ⟨by omega, by omega⟩
      have hR1 : Rel w' x t 1 2 q' g' 1 := hR'
      refine ⟨_, rfl, _, .rel x q' g' 1 k, sv, h.go ht hB hl3 hI' _ (by rw [hS]; rfl) (by rw [hS]; rfl) (.rel x q' g' 1 k hR1 (by omega)) (fun z hz => ?_), (ab.same ht (.rel x q' g' 1 k) (by rw [hfS, upd_ne _ _ (by omega)]) (by rw [hfS, upd_ne _ _ (by omega)]) (by rw [hS]; rfl) (by rw [hS]; rfl) (by rw [hS]; rfl)).more (by omega), hlow, trivial⟩
      simp only [TS.fp, List.mem_cons, List.not_mem_nil, or_false] at hz
      rcases hz with e | e | e
      · exact .inl (by simp [hfp, e])
      · rcases hq' with e2 | e2
        · exact .inl (by simp [hfp, e, e2])
        · exact .inr (by omega)
      · rcases hg' with e2 | e2
        · exact .inl (by simp [hfp, e, e2])
        · exact .inr (by omega)
    · have hfS : (relS t 1 2 n 1 s).f = upd s.f 1 ((s.f 1 + 1) % 4294967296) := stp4_f t 1 1 n s ⟨by omega, by omega⟩
      have hR1 : Rel w' x t 1 2 q' g' 2 := hR'
      have hout : OutOk w' (some x) := fun y e => by
        cases e
        obtain ⟨nx, h1, h2⟩ := hR1.next
        have : nx = none := by cases nx with | none => rfl | some _ => simp at h2
        rw [h1, this]
      refine ⟨_, rfl, _, .idle (some x), sv + 1, h.go ht hB hl3 hI' _ (by rw [hS]; rfl) (by rw [hS]; rfl) (.idle (some x) hout) (fun z hz => .inl ?_), (ab.leave ht (.idle (some x)) (by rw [hfS, upd_ne _ _ (by omega)]) (by rw [hfS, upd_at]) (by rw [hS]; rfl) rfl rfl rfl hf.1).more (by omega), hlow, trivial⟩
      simp [TS.fp, oL] at hz
      simp [hfp, hz]
end

end Go.Proofs.Ytlnjjcfkcoaceaa
