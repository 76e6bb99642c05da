/- The list of idle processors, by itself: what a put and a get make of it. -/
import Derived.Test.YtggbohakpkplkaaIter
import Derived.Test.YtggbohakpkplkaaIp2
namespace Go.Proofs.Ytggbohakpkplkaa
open Go Go.RowKit
set_option linter.unusedVariables false
set_option maxRecDepth 100000
set_option linter.unusedSimpArgs false

section
variable {σ : Type} {M : PM σ} {who : Int} {n k : Nat} {t : σ} {s : St} {i v : Int}
theorem steps_no (ha : M.ax t = none) : ∀ k, M.steps who n k (t, s) = (t, s)
  | 0 => rfl
  | k + 1 => by
    show M.steps who n k (M.goT n t s, M.goS who n t s) = _
    have e1 : M.goT n t s = t := by unfold PM.goT; rw [ha]
    have e2 : M.goS who n t s = s := by unfold PM.goS; rw [ha]
    rw [e1, e2]
    exact steps_no ha k
theorem steps_ld (ha : M.ax t = some (axLd i)) (hi : 0 ≤ i ∧ i < n) : ∃ s', M.steps who n (k + 1) (t, s) = M.steps who n k (M.nx t (s.f i.toNat), s') ∧ s'.f = s.f ∧ s'.bad = s.bad := by
  have e1 : M.goT n t s = M.nx t (s.f i.toNat) := by
    unfold PM.goT; rw [ha]
    simp [PM.ans, axLd, actA, Go.Proofs.Ytggbohakpkplkaa.ans, hi]
  refine ⟨M.goS who n t s, by show M.steps who n k (M.goT n t s, M.goS who n t s) = _; rw [e1], ?_⟩
  unfold PM.goS; rw [ha]
  simp [axLd, actS, stp, hi]
theorem steps_st (ha : M.ax t = some (axSt i v)) (hi : 0 ≤ i ∧ i < n) : ∃ s', M.steps who n (k + 1) (t, s) = M.steps who n k (M.nx t 0, s') ∧ s'.f = upd s.f i.toNat v ∧ s'.bad = s.bad := by
  have e1 : M.goT n t s = M.nx t 0 := by
    unfold PM.goT; rw [ha]
    simp [PM.ans, axSt, actA]
  refine ⟨M.goS who n t s, by show M.steps who n k (M.goT n t s, M.goS who n t s) = _; rw [e1], ?_⟩
  unfold PM.goS; rw [ha]
  simp [axSt, actS, stp, hi]
theorem steps_ad (ha : M.ax t = some (axAd i v)) (hi : 0 ≤ i ∧ i < n) : ∃ s', M.steps who n (k + 1) (t, s) = M.steps who n k (M.nx t ((s.f i.toNat + v) % 4294967296), s') ∧ s'.f = upd s.f i.toNat ((s.f i.toNat + v) % 4294967296) ∧ s'.bad = s.bad := by
  have e1 : M.goT n t s = M.nx t ((s.f i.toNat + v) % 4294967296) := by
    unfold PM.goT; rw [ha]
    simp [PM.ans, axAd, actA, Go.Proofs.Ytggbohakpkplkaa.ans, hi]
  refine ⟨M.goS who n t s, by show M.steps who n k (M.goT n t s, M.goS who n t s) = _; rw [e1], ?_⟩
  unfold PM.goS; rw [ha]
  simp [axAd, actS, stp, hi]
end
theorem upd_at {f : Nat → Int} {i : Nat} {v : Int} : upd f i v i = v := if_pos rfl
theorem upd_ne {f : Nat → Int} {i j : Nat} {v : Int} (h : j ≠ i) : upd f i v j = f j := if_neg h
/-- A list that goes from word to word. -/
def Lnk (lk : Int → Int) : Int → List Int → Prop
  | w, [] => w = 0
  | w, y :: r => w = y + 1 ∧ Lnk lk (lk y) r
theorem Lnk.congr {lk lk' : Int → Int} : ∀ {r : List Int} {w : Int}, (∀ y ∈ r, lk' y = lk y) → Lnk lk w r → Lnk lk' w r
  | [], _, _, h => h
  | y :: r, w, e, h => ⟨h.1, by rw [e y (by simp)]; exact Lnk.congr (fun z hz => e z (by simp [hz])) h.2⟩
theorem lnk_go (nx : Int → Int) (many : Int) : ∀ (r acc : List Int) (w : Int) (f : Nat), Lnk nx w r → (acc ++ r).Nodup → (∀ y ∈ r, 0 ≤ y ∧ y < many) → r.length < f → lsGo nx many f acc w = (acc ++ r, true)
  | [], acc, w, f + 1, h, _, _, _ => by
    have h : w = 0 := h
    rw [lsGo, if_pos h]
    simp
  | y :: r, acc, w, f + 1, h, hnd, hr, hf => by
    obtain ⟨rfl, h2⟩ := h
    have h0 := hr y (by simp)
    have hin : y ∉ acc := fun hm => (List.nodup_append.1 hnd).2.2 y hm y (by simp) rfl
    rw [lsGo, if_neg (by omega), if_neg (by
      rintro (h | h)
      · rw [show y + 1 - 1 = y by omega] at h; exact hin h
      · omega), show y + 1 - 1 = y by omega]
    have := lnk_go nx many r (acc ++ [y]) (nx y) f h2 (by simpa using hnd) (fun z hz => hr z (by simp [hz])) (by simp at hf; omega)
    rw [this]
    simp
theorem lnk_of (nx : Int → Int) (many w : Int) (r : List Int) (h : Lnk nx w r) (hnd : r.Nodup) (hr : ∀ y ∈ r, 0 ≤ y ∧ y < many) : lsOf nx many w = (r, true) := by
  have hlen := nodup_room many.toNat r hnd (fun x hx => by have := hr x hx; omega)
  exact lnk_go nx many r [] w (many.toNat + 1) h (by simpa using hnd) hr (by omega)

def maskOf (r : List Int) : Int := (r.map bitOf).sum
def mk4 (b0 b1 b2 b3 : Bool) : Int := (if b0 then 1 else 0) + (if b1 then 2 else 0) + (if b2 then 4 else 0) + (if b3 then 8 else 0)
theorem maskOf_cons (y : Int) (r : List Int) : maskOf (y :: r) = bitOf y + maskOf r := rfl
theorem maskOf_mk4 : ∀ (r : List Int), r.Nodup → (∀ y ∈ r, 0 ≤ y ∧ y < 4) → maskOf r = mk4 (decide (0 ∈ r)) (decide (1 ∈ r)) (decide (2 ∈ r)) (decide (3 ∈ r))
  | [], _, _ => by simp [maskOf, mk4]
  | y :: r, hnd, hr => by
    have hn := List.nodup_cons.1 hnd
    have hy := hr y (by simp)
    rw [maskOf_cons, maskOf_mk4 r hn.2 (fun z hz => hr z (by simp [hz]))]
    rcases (by omega : y = 0 ∨ y = 1 ∨ y = 2 ∨ y = 3) with rfl | rfl | rfl | rfl
    · have e : bitOf 0 = 1 := by decide
      simp [mk4, hn.1, e]; omega
    · have e : bitOf 1 = 2 := by decide
      simp [mk4, hn.1, e]; omega
    · have e : bitOf 2 = 4 := by decide
      simp [mk4, hn.1, e]; omega
    · have e : bitOf 3 = 8 := by decide
      simp [mk4, hn.1, e]; omega
theorem mskB_mk4 (y : Int) (hy : 0 ≤ y ∧ y < 4) (b0 b1 b2 b3 : Bool) : mskB (mk4 b0 b1 b2 b3) y = if y = 0 then b0 else if y = 1 then b1 else if y = 2 then b2 else b3 := by
  rcases (by omega : y = 0 ∨ y = 1 ∨ y = 2 ∨ y = 3) with rfl | rfl | rfl | rfl <;> cases b0 <;> cases b1 <;> cases b2 <;> cases b3 <;> decide
theorem mskB_of (r : List Int) (hnd : r.Nodup) (hr : ∀ y ∈ r, 0 ≤ y ∧ y < 4) (y : Int) (hy : 0 ≤ y ∧ y < 4) : mskB (maskOf r) y = decide (y ∈ r) := by
  rw [maskOf_mk4 r hnd hr, mskB_mk4 y hy]
  rcases (by omega : y = 0 ∨ y = 1 ∨ y = 2 ∨ y = 3) with rfl | rfl | rfl | rfl <;> simp
theorem mask_in (r : List Int) (hnd : r.Nodup) (hr : ∀ y ∈ r, 0 ≤ y ∧ y < 4) (y : Int) (hy : 0 ≤ y ∧ y < 4) (h : y ∉ r) : mskIn (maskOf r) y = maskOf (y :: r) := by
  unfold mskIn
  rw [mskB_of r hnd hr y hy, decide_eq_false h, maskOf_cons]
  simp; omega
theorem mask_out (y : Int) (r : List Int) (hnd : (y :: r).Nodup) (hr : ∀ z ∈ y :: r, 0 ≤ z ∧ z < 4) : mskOut (maskOf (y :: r)) y = maskOf r := by
  unfold mskOut
  rw [mskB_of (y :: r) hnd hr y (hr y (by simp)), maskOf_cons]
  simp; omega
theorem maskOf_bd : ∀ (r : List Int), r.Nodup → (∀ y ∈ r, 0 ≤ y ∧ y < 4) → 0 ≤ maskOf r ∧ maskOf r ≤ 15 := fun r hnd hr => by
  rw [maskOf_mk4 r hnd hr]
  cases decide (0 ∈ r) <;> cases decide (1 ∈ r) <;> cases decide (2 ∈ r) <;> cases decide (3 ∈ r) <;> decide
theorem maskOf_append (a b : List Int) : maskOf (a ++ b) = maskOf a + maskOf b := by
  unfold maskOf; rw [List.map_append, List.sum_append]
theorem maskOf_reverse (a : List Int) : maskOf a.reverse = maskOf a := by
  induction a with
  | nil => rfl
  | cons y a ih =>
    rw [List.reverse_cons, maskOf_append, ih, maskOf_cons]
    simp [maskOf]; omega

/-- The pile of idle processors in a memory. -/
structure Pil (P : Int) (n : Nat) (s : St) (r : List Int) : Prop where
  nd : r.Nodup
  rg : ∀ y ∈ r, 0 ≤ y ∧ y < P
  hd : Lnk (fun y => s.f (27 + 264 * y.toNat)) (s.f 9) r
  mn : s.f 10 = r.length
  ms : s.f 19 = maskOf r
  bad : s.bad = 0
theorem pil_place {P : Int} {n : Nat} {y : Int} (hn : (n : Int) = 22 + 267 * P) (hy : 0 ≤ y ∧ y < P) : wd 20 P 264 y 7 = ((27 + 264 * y.toNat : Nat) : Int) ∧ 0 ≤ wd 20 P 264 y 7 ∧ wd 20 P 264 y 7 < n := by
  have : wd 20 P 264 y 7 = 20 + y * 264 + 7 := by unfold wd; rw [if_pos ⟨hy.1, hy.2, by omega, by omega⟩]
  omega
theorem Pil.list {P : Int} {n : Nat} {s : St} {r : List Int} (h : Pil P n s r) (hn : (n : Int) = 22 + 267 * P) (hP : 1 ≤ P) : lsOf (fun g => peekT n s (wd 20 P 264 g 7)) P (peekT n s 9) = (r, true) ∧ peekT n s 10 = r.length ∧ peekT n s 19 = maskOf r := by
  have e : ∀ i : Int, 0 ≤ i ∧ i < n → peekT n s i = s.f i.toNat := fun i hi => if_pos hi
  rw [e 9 (by omega), e 10 (by omega), e 19 (by omega)]
  refine ⟨lnk_of _ _ _ _ (Lnk.congr (fun y hy => ?_) h.hd) h.nd h.rg, h.mn, h.ms⟩
  obtain ⟨h1, h2⟩ := pil_place hn (h.rg y hy)
  rw [e _ h2, h1, Int.toNat_natCast]
theorem pil_put {P : Int} {n : Nat} {s : St} {r : List Int} {y : Int} (h : Pil P n s r) (hn : (n : Int) = 22 + 267 * P) (hP : 1 ≤ P ∧ P ≤ 4) (hy : 0 ≤ y ∧ y < P) (hin : y ∉ r) :
    ((ipPM P y).steps 0 n 8 (.m0, s)).1 = .over ∧ Pil P n ((ipPM P y).steps 0 n 8 (.m0, s)).2 (y :: r) := by
  obtain ⟨p1, p2⟩ := pil_place hn hy
  have hb := maskOf_bd r h.nd (fun z hz => by have := h.rg z hz; omega)
  obtain ⟨s1, a1, f1, b1⟩ := steps_ld (M := ipPM P y) (who := 0) (n := n) (k := 7) (t := .m0) (s := s) (i := 19) rfl (by omega)
  obtain ⟨s2, a2, f2, b2⟩ := steps_st (M := ipPM P y) (who := 0) (n := n) (k := 6) (t := .ms (s.f 19)) (s := s1) (i := 19) (v := mskIn (s.f 19) y) rfl (by omega)
  obtain ⟨s3, a3, f3, b3⟩ := steps_ld (M := ipPM P y) (who := 0) (n := n) (k := 5) (t := .h0) (s := s2) (i := 9) rfl (by omega)
  obtain ⟨s4, a4, f4, b4⟩ := steps_st (M := ipPM P y) (who := 0) (n := n) (k := 4) (t := .ln (s2.f 9)) (s := s3) (i := wd 20 P 264 y 7) (v := s2.f 9) rfl p2
  obtain ⟨s5, a5, f5, b5⟩ := steps_st (M := ipPM P y) (who := 0) (n := n) (k := 3) (t := .st) (s := s4) (i := 9) (v := ilw y) rfl (by omega)
  obtain ⟨s6, a6, f6, b6⟩ := steps_ad (M := ipPM P y) (who := 0) (n := n) (k := 2) (t := .ct) (s := s5) (i := 10) (v := 1) rfl (by omega)
  have e : (ipPM P y).steps 0 n 8 (.m0, s) = (.over, s6) := by
    rw [show (8 : Nat) = 7 + 1 from rfl, a1]
    show (ipPM P y).steps 0 n (6 + 1) (.ms (s.f 19), s1) = _
    rw [a2]
    show (ipPM P y).steps 0 n (5 + 1) (.h0, s2) = _
    rw [a3]
    show (ipPM P y).steps 0 n (4 + 1) (.ln (s2.f 9), s3) = _
    rw [a4]
    show (ipPM P y).steps 0 n (3 + 1) (.st, s4) = _
    rw [a5]
    show (ipPM P y).steps 0 n (2 + 1) (.ct, s5) = _
    rw [a6]
    exact steps_no (M := ipPM P y) (t := .over) rfl 2
  rw [e]
  refine ⟨rfl, ?_⟩
  show Pil P n s6 (y :: r)
  rw [p1, Int.toNat_natCast] at f4
  have g9 : s2.f 9 = s.f 9 := by rw [f2, f1]; exact upd_ne (by decide)
  have hf : ∀ j : Nat, s6.f j = if j = 10 then (s.f 10 + 1) % 4294967296 else if j = 9 then ilw y else if j = 27 + 264 * y.toNat then s.f 9 else if j = 19 then mskIn (s.f 19) y else s.f j := fun j => by
    have h5 : s5.f 10 = s.f 10 := by
      rw [f5, upd_ne (by decide), f4, upd_ne (by omega), f3, f2, upd_ne (by decide), f1]
    rw [f6, show (10 : Int).toNat = 10 from rfl, h5, f5, show (9 : Int).toNat = 9 from rfl, f4, f3, g9, f2, show (19 : Int).toNat = 19 from rfl, f1]
    rfl
  have hlen := nodup_room P.toNat r h.nd (fun x hx => by have := h.rg x hx; omega)
  have hLk : Lnk (fun y => s6.f (27 + 264 * y.toNat)) (s6.f (27 + 264 * y.toNat)) r := by
    rw [hf (27 + 264 * y.toNat), if_neg (by omega), if_neg (by omega), if_pos rfl]
    refine Lnk.congr (lk := fun y => s.f (27 + 264 * y.toNat)) (fun z hz => ?_) h.hd
    have := h.rg z hz
    have hne : z ≠ y := fun e => hin (e ▸ hz)
    show s6.f (27 + 264 * z.toNat) = s.f (27 + 264 * z.toNat)
    rw [hf (27 + 264 * z.toNat), if_neg (by omega), if_neg (by omega), if_neg (by omega), if_neg (by omega)]
  refine ⟨List.nodup_cons.2 ⟨hin, h.nd⟩, fun z hz => ?_, ⟨?_, hLk⟩, ?_, ?_, ?_⟩
  · rcases List.mem_cons.1 hz with rfl | hz
    · exact hy
    · exact h.rg z hz
  · rw [hf 9, if_neg (by decide), if_pos rfl]
    exact ilw_small y (by omega)
  · rw [hf 10, if_pos rfl, h.mn, List.length_cons]
    omega
  · rw [hf 19, if_neg (by decide), if_neg (by decide), if_neg (by omega), if_pos rfl, h.ms]
    exact mask_in r h.nd (fun z hz => by have := h.rg z hz; omega) y (by omega) hin
  · rw [b6, b5, b4, b3, b2, b1, h.bad]
theorem pil_none {P : Int} {n : Nat} {s : St} (h : Pil P n s []) (hn : (n : Int) = 22 + 267 * P) (hP : 1 ≤ P ∧ P ≤ 4) :
    ((igPM P).steps 0 n 8 (.ld, s)).1 = .none' ∧ Pil P n ((igPM P).steps 0 n 8 (.ld, s)).2 [] := by
  obtain ⟨s1, a1, f1, b1⟩ := steps_ld (M := igPM P) (who := 0) (n := n) (k := 7) (t := .ld) (s := s) (i := 9) rfl (by omega)
  have h0 : s.f 9 = 0 := h.hd
  have e : (igPM P).steps 0 n 8 (.ld, s) = (.none', s1) := by
    rw [show (8 : Nat) = 7 + 1 from rfl, a1, show (9 : Int).toNat = 9 from rfl, h0]
    exact steps_no (M := igPM P) (t := .none') rfl 7
  rw [e]
  refine ⟨rfl, h.nd, h.rg, ?_, ?_, ?_, ?_⟩
  · show s1.f 9 = 0
    rw [f1]; exact h0
  · show s1.f 10 = _
    rw [f1]; exact h.mn
  · show s1.f 19 = _
    rw [f1]; exact h.ms
  · show s1.bad = 0
    rw [b1]; exact h.bad
theorem pil_get {P : Int} {n : Nat} {s : St} {r : List Int} {y : Int} (h : Pil P n s (y :: r)) (hn : (n : Int) = 22 + 267 * P) (hP : 1 ≤ P ∧ P ≤ 4) :
    (∃ l, ((igPM P).steps 0 n 8 (.ld, s)).1 = .over y l) ∧ Pil P n ((igPM P).steps 0 n 8 (.ld, s)).2 r := by
  have hy := h.rg y (by simp)
  have hn1 := List.nodup_cons.1 h.nd
  obtain ⟨p1, p2⟩ := pil_place hn hy
  obtain ⟨h9, h2⟩ : s.f 9 = y + 1 ∧ Lnk (fun y => s.f (27 + 264 * y.toNat)) (s.f (27 + 264 * y.toNat)) r := h.hd
  have hg : gw (s.f 9) = y := by rw [h9]; exact gw_one y (by omega)
  obtain ⟨s1, a1, f1, b1⟩ := steps_ld (M := igPM P) (who := 0) (n := n) (k := 7) (t := .ld) (s := s) (i := 9) rfl (by omega)
  obtain ⟨s2, a2, f2, b2⟩ := steps_ld (M := igPM P) (who := 0) (n := n) (k := 6) (t := .lk y) (s := s1) (i := wd 20 P 264 y 7) rfl p2
  rw [p1, Int.toNat_natCast, f1] at a2
  obtain ⟨l, hl⟩ : ∃ l, s.f (27 + 264 * y.toNat) = l := ⟨_, rfl⟩
  rw [hl] at a2 h2
  obtain ⟨s3, a3, f3, b3⟩ := steps_ld (M := igPM P) (who := 0) (n := n) (k := 5) (t := .ms y l) (s := s2) (i := 19) rfl (by omega)
  obtain ⟨s4, a4, f4, b4⟩ := steps_st (M := igPM P) (who := 0) (n := n) (k := 4) (t := .um y l (s2.f 19)) (s := s3) (i := 19) (v := mskOut (s2.f 19) y) rfl (by omega)
  obtain ⟨s5, a5, f5, b5⟩ := steps_st (M := igPM P) (who := 0) (n := n) (k := 3) (t := .un y l) (s := s4) (i := 9) (v := l) rfl (by omega)
  obtain ⟨s6, a6, f6, b6⟩ := steps_ad (M := igPM P) (who := 0) (n := n) (k := 2) (t := .ct y l) (s := s5) (i := 10) (v := 4294967295) rfl (by omega)
  have e : (igPM P).steps 0 n 8 (.ld, s) = (.over y l, s6) := by
    rw [show (8 : Nat) = 7 + 1 from rfl, a1, show (9 : Int).toNat = 9 from rfl]
    have e1 : (igPM P).nx .ld (s.f 9) = .lk y := by
      show (if s.f 9 = 0 then IgT.none' else .lk (gw (s.f 9))) = _
      rw [if_neg (by omega), hg]
    rw [e1]
    show (igPM P).steps 0 n (6 + 1) (.lk y, s1) = _
    rw [a2]
    show (igPM P).steps 0 n (5 + 1) (.ms y l, s2) = _
    rw [a3]
    show (igPM P).steps 0 n (4 + 1) (.um y l (s2.f 19), s3) = _
    rw [a4]
    show (igPM P).steps 0 n (3 + 1) (.un y l, s4) = _
    rw [a5]
    show (igPM P).steps 0 n (2 + 1) (.ct y l, s5) = _
    rw [a6]
    exact steps_no (M := igPM P) (t := .over y l) rfl 2
  rw [e]
  refine ⟨⟨l, rfl⟩, ?_⟩
  show Pil P n s6 r
  have g19 : s2.f 19 = s.f 19 := by rw [f2, f1]
  have hf : ∀ j : Nat, s6.f j = if j = 10 then (s.f 10 + 4294967295) % 4294967296 else if j = 9 then l else if j = 19 then mskOut (s.f 19) y else s.f j := fun j => by
    have h5 : s5.f 10 = s.f 10 := by
      rw [f5, upd_ne (by decide), f4, upd_ne (by decide), f3, f2, f1]
    rw [f6, show (10 : Int).toNat = 10 from rfl, h5, f5, show (9 : Int).toNat = 9 from rfl, f4, show (19 : Int).toNat = 19 from rfl, g19, f3, f2, f1]
    rfl
  have hlen := nodup_room P.toNat (y :: r) h.nd (fun x hx => by have := h.rg x hx; omega)
  have hmn := h.mn
  rw [List.length_cons] at hmn hlen
  refine ⟨hn1.2, fun z hz => h.rg z (by simp [hz]), ?_, ?_, ?_, ?_⟩
  · rw [hf 9, if_neg (by decide), if_pos rfl]
    refine Lnk.congr (fun z hz => ?_) h2
    have := h.rg z (by simp [hz])
    show s6.f (27 + 264 * z.toNat) = s.f (27 + 264 * z.toNat)
    rw [hf, if_neg (by omega), if_neg (by omega), if_neg (by omega)]
  · rw [hf 10, if_pos rfl, hmn]
    omega
  · rw [hf 19, if_neg (by decide), if_neg (by decide), if_pos rfl, h.ms]
    exact mask_out y r h.nd (fun z hz => by have := h.rg z hz; omega)
  · rw [b6, b5, b4, b3, b2, b1, h.bad]
theorem pil_start {P : Int} {n : Nat} {f : Nat → Int} (h : ∀ i, f i = 0) : Pil P n (fresh f) [] := ⟨List.nodup_nil, fun y hy => (by cases hy), h 9, h 10, h 19, rfl⟩
end Go.Proofs.Ytggbohakpkplkaa
