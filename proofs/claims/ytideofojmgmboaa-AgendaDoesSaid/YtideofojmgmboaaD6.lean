/- Acts of an agenda: Pop, Drop. -/
import Derived.Test.YtideofojmgmboaaD5
namespace Go.Proofs.Ytideofojmgmboaa
open Go Go.RowKit
set_option linter.unusedVariables false
set_option linter.unusedSimpArgs false
set_option maxRecDepth 100000
variable {X : World} {a : Nat} {G : Nat → Prop} {L S : List It} {b n cp : Nat} {A : Option Addr}
set_option maxHeartbeats 8000000 in
theorem does_pop0 (h : Ag X a G L) (hI : Is L S) (hb : 0 < n → ¬ G b) (hS : Sees X b A S) (hn : S.length = n) (hl : n ≤ 1000) (hcp : n ≤ cp) (kd due key : Int) (hk : kd = 1) (hS0 : S = []) :
    Calls Try.prog 19 #[.pointer (some ⟨a, 0, none⟩), .slice A n cp, .agg #[.int .i64 kd, .int .i64 due, .int .i64 key]] X (DoGot G X a b n) := by
  have BA := (Below.refl X.heap.size X).alloc (Nat.le_refl _) (.cells #[.int .i64 kd, .int .i64 due, .int .i64 key] 49)
  have HO0 := Lib.hid ((Ow.start h).box (.cells #[.int .i64 kd, .int .i64 due, .int .i64 key] 49))
  have HN0 := Lib.hid (heap_alloc_new X (.cells #[.int .i64 kd, .int .i64 due, .int .i64 key] 49))
  have HS0 := Lib.hid (hS.below BA)
  have HK0 := Lib.hid (fun h0 => (hS.lt h0))
  have HAt := Lib.hid (refAt_any _ b A cp S key n hn HS0.out (by omega))
  have HI := Lib.hid hI
  have HL := Lib.hid (And.intro hn (And.intro hI.perm.length_eq hl))
  have HKN := Lib.hid h.kn
  have HCP := Lib.hid hcp
  have HGB := Lib.hid hb
  have k0 : (kd == 0) = false := by simp [hk]
  have k1 : (kd == 1) = true := by simp [hk]
  have k2 : (kd == 2) = false := by simp [hk]
  have k3 : (kd == 3) = false := by simp [hk]
  have k4 : (kd == 4) = false := by simp [hk]
  have HKD := Lib.hid hk
  clear hk
  generalize posI S key = pz at *
  have HSE := Lib.hid hS0
  have HLE : Hid (L = []) := by
    have h1 := hI.perm
    rw [hS0] at h1
    exact h1.eq_nil
  have HPop := Lib.hid (by have h1 := HO0.out.ag; rw [HLE.out] at h1; exact pop_none h1)
  unfold noIt at HPop
  obtain rfl : n = 0 := by rw [← hn, hS0]; rfl
  have c0 : (X.alloc (.cells #[.int .i64 kd, .int .i64 due, .int .i64 key] 49)).cell? ⟨X.heap.size, 0, none⟩ = some (.int .i64 kd) := by simp [cell_of HN0.out]
  have c1 : (X.alloc (.cells #[.int .i64 kd, .int .i64 due, .int .i64 key] 49)).cell? ⟨X.heap.size, 1, none⟩ = some (.int .i64 due) := by simp [cell_of HN0.out]
  have c2 : (X.alloc (.cells #[.int .i64 kd, .int .i64 due, .int .i64 key] 49)).cell? ⟨X.heap.size, 2, none⟩ = some (.int .i64 key) := by simp [cell_of HN0.out]
  have HB0 := Lib.hid BA
  clear h hI hb hS hn hl hcp BA
  go_enter Try.func19, Try.ntmps19
  go_wp2_with fail
  generalize X.alloc (.cells #[.int .i64 kd, .int .i64 due, .int .i64 key] 49) = W at *
  generalize hbx : X.heap.size = B at *
  go_at_call 20; refine HAt.out.mono ?_; rintro e w1 ⟨rfl, rfl⟩
  go_wp2_with fail
  go_at_call 6; refine HPop.out.mono ?_; rintro e w2 ⟨rfl, hb2⟩
  have HO2 := Lib.hid ((HO0.out.below hb2).box (.cells #[.int .i64 0, .int .i64 0] 23))
  have HN2 := Lib.hid (heap_alloc_new w2 (.cells #[.int .i64 0, .int .i64 0] 23))
  have HS2 := Lib.hid ((HS0.out.below hb2).below ((Below.refl w2.heap.size w2).alloc (Nat.le_refl _) (.cells #[.int .i64 0, .int .i64 0] 23)))
  clear hb2 c0 c1 c2
  go_wp2_with fail
  generalize w2.alloc (.cells #[.int .i64 0, .int .i64 0] 23) = W2 at *
  generalize w2.heap.size = yb at *
  have HD := Lib.hid (refDrop_any W2.drew b A cp S 0 0 HL.out.1 HS2.out (by omega))
  have hy : W2.drew.heap[yb]? = some (.cells #[.int .i64 0, .int .i64 0] 23 (0, 0)) := HN2.out
  have hH : W2.drew.cell? ⟨yb, 0, none⟩ = some (.int .i64 0) ∧ W2.drew.cell? ⟨yb, 1, none⟩ = some (.int .i64 0) := ⟨by simp [cell_of hy], by simp [cell_of hy]⟩
  have HO3 : Hid (Ow G (yb :: [B]) X W2.drew a L) := HO2.out.below (Below.refl _ _).drew
  have HY := Lib.hid hy
  clear hy
  go_region_held3 (fun w' : World => w'.cell? ⟨yb, 0, none⟩ = some (.int .i64 0) ∧ w'.cell? ⟨yb, 1, none⟩ = some (.int .i64 0)) (first | (with_reducible exact hH) | (with_reducible assumption))
    (first | (go_at_call 30; refine HD.out.mono ?_; rintro e w3 ⟨A', m, cp', rfl, hm, hg⟩; obtain ⟨l, g, ho3, hgl, hs3, hc3⟩ := Gr.mine HO3.out hg (Nat.le_refl _); have n3 := (hg.bel.block yb (block_lt HY.out)).trans HY.out; have hS3 : w3.cell? ⟨yb, 0, none⟩ = some (.int .i64 0) ∧ w3.cell? ⟨yb, 1, none⟩ = some (.int .i64 0) := ⟨by simp [cell_of n3], by simp [cell_of n3]⟩; have HC3 := Lib.hid hc3; clear hc3; have HO4 := Lib.hid ho3; have HGL := Lib.hid hgl; have HS3 := Lib.hid hs3; have HM := Lib.hid hm; have HN3 := Lib.hid n3; have HFi := Lib.hid (firstIs_no w3 A cp); clear hg ho3 hgl hs3 n3 hm) | (go_at_call 31; refine HFi.out.mono ?_; rintro e w4 ⟨rfl, hb4⟩; have HO5 := Lib.hid (HO4.out.below hb4); have n4 := (hb4.block yb (block_lt HN3.out)).trans HN3.out; have hS4 : w4.cell? ⟨yb, 0, none⟩ = some (.int .i64 0) ∧ w4.cell? ⟨yb, 1, none⟩ = some (.int .i64 0) := ⟨by simp [cell_of n4], by simp [cell_of n4]⟩; have HS4 := Lib.hid (HS3.out.below hb4); clear hb4 n4))
  go_wp2_with fail
  go_ret2
  have he : ddrop S (0 : Int) = [] := by rw [HSE.out]; rfl
  have hm0 := HM.out
  rw [he] at hm0
  refine ⟨_, A', cp', m, g, L, ddrop S (0 : Int), rfl, HM.out, by simp at hm0; omega, (by have := HC3.out; rw [HM.out] at this; exact this), HO5.out, fun h0 => by simp at hm0; omega, HS4.out, ?_⟩
  rw [he, HLE.out]
  exact Is.nil

set_option maxHeartbeats 8000000 in
theorem does_pop1 (h : Ag X a G L) (hI : Is L S) (hb : 0 < n → ¬ G b) (hS : Sees X b A S) (hn : S.length = n) (hl : n ≤ 1000) (hcp : n ≤ cp) (kd due key : Int) (hk : kd = 1) (s : It) (R : List It) (hS0 : S = s :: R) :
    Calls Try.prog 19 #[.pointer (some ⟨a, 0, none⟩), .slice A n cp, .agg #[.int .i64 kd, .int .i64 due, .int .i64 key]] X (DoGot G X a b n) := by
  have BA := (Below.refl X.heap.size X).alloc (Nat.le_refl _) (.cells #[.int .i64 kd, .int .i64 due, .int .i64 key] 49)
  have HO0 := Lib.hid ((Ow.start h).box (.cells #[.int .i64 kd, .int .i64 due, .int .i64 key] 49))
  have HN0 := Lib.hid (heap_alloc_new X (.cells #[.int .i64 kd, .int .i64 due, .int .i64 key] 49))
  have HS0 := Lib.hid (hS.below BA)
  have HK0 := Lib.hid (fun h0 => (hS.lt h0))
  have HAt := Lib.hid (refAt_any _ b A cp S key n hn HS0.out (by omega))
  have HI := Lib.hid hI
  have HL := Lib.hid (And.intro hn (And.intro hI.perm.length_eq hl))
  have HKN := Lib.hid h.kn
  have HCP := Lib.hid hcp
  have HGB := Lib.hid hb
  have k0 : (kd == 0) = false := by simp [hk]
  have k1 : (kd == 1) = true := by simp [hk]
  have k2 : (kd == 2) = false := by simp [hk]
  have k3 : (kd == 3) = false := by simp [hk]
  have k4 : (kd == 4) = false := by simp [hk]
  have HKD := Lib.hid hk
  clear hk
  generalize posI S key = pz at *
  have HSE := Lib.hid hS0
  have hI2 := hI
  rw [hS0] at hI2
  have hLn : ∃ n', L.length = n' + 1 := ⟨L.length - 1, by have := hI2.perm.length_eq; simp at this; omega⟩
  obtain ⟨n', hLn⟩ := hLn
  have HPop := Lib.hid (fun (Y : World) (F : Nat → Prop) (hY : Ag Y a F L) => pop_ok hY n' hLn (by have := hI.perm.length_eq; omega))
  rw [hI2.pop.1] at HPop
  have HI2 := Lib.hid hI2.pop.2
  have HS1 : Hid (at_ S 0 = s) := by rw [hS0]; rfl
  have hn0 : 0 < n := by rw [← hn, hS0]; simp
  obtain ⟨y0, y1⟩ := s
  unfold itV at HPop
  simp only at HPop
  clear hI2 hLn hS0
  have c0 : (X.alloc (.cells #[.int .i64 kd, .int .i64 due, .int .i64 key] 49)).cell? ⟨X.heap.size, 0, none⟩ = some (.int .i64 kd) := by simp [cell_of HN0.out]
  have c1 : (X.alloc (.cells #[.int .i64 kd, .int .i64 due, .int .i64 key] 49)).cell? ⟨X.heap.size, 1, none⟩ = some (.int .i64 due) := by simp [cell_of HN0.out]
  have c2 : (X.alloc (.cells #[.int .i64 kd, .int .i64 due, .int .i64 key] 49)).cell? ⟨X.heap.size, 2, none⟩ = some (.int .i64 key) := by simp [cell_of HN0.out]
  have HB0 := Lib.hid BA
  clear h hI hb hS hn hl hcp BA
  go_enter Try.func19, Try.ntmps19
  go_wp2_with fail
  generalize X.alloc (.cells #[.int .i64 kd, .int .i64 due, .int .i64 key] 49) = W at *
  generalize hbx : X.heap.size = B at *
  go_at_call 20; refine HAt.out.mono ?_; rintro e w1 ⟨rfl, rfl⟩
  go_wp2_with fail
  have HPop1 := Lib.hid (HPop.out _ _ HO0.out.ag)
  go_at_call 6; refine HPop1.out.mono ?_; rintro e w2 ⟨rfl, hk2, ha2⟩
  obtain ⟨ho2, hke2⟩ := HO0.out.step hk2 ha2
  have BA2 := (Below.refl w2.heap.size w2).alloc (Nat.le_refl _) (.cells #[.int .i64 y0, .int .i64 y1] 23)
  have hs2 : Sees w2 b A S := HS0.out.kpt hk2 (fun h0 hg => by
    have hbn := HK0.out h0
    have hgn := HGB.out (by have := HL.out; omega)
    rcases hg.1 with h | h
    · exact hgn h
    · omega)
  have HO2 := Lib.hid (ho2.box (.cells #[.int .i64 y0, .int .i64 y1] 23))
  have HN2 := Lib.hid (heap_alloc_new w2 (.cells #[.int .i64 y0, .int .i64 y1] 23))
  have HS2 := Lib.hid (hs2.below BA2)
  clear hk2 ha2 ho2 hke2 BA2 hs2 c0 c1 c2
  go_wp2_with fail
  generalize w2.alloc (.cells #[.int .i64 y0, .int .i64 y1] 23) = W2 at *
  generalize w2.heap.size = yb at *
  have HD := Lib.hid (refDrop_any W2.drew b A cp S 0 n HL.out.1 HS2.out (by have := HL.out; omega))
  have hy : W2.drew.heap[yb]? = some (.cells #[.int .i64 y0, .int .i64 y1] 23 (0, 0)) := HN2.out
  have hH : W2.drew.cell? ⟨yb, 0, none⟩ = some (.int .i64 y0) ∧ W2.drew.cell? ⟨yb, 1, none⟩ = some (.int .i64 y1) := ⟨by simp [cell_of hy], by simp [cell_of hy]⟩
  have HO3 : Hid (Ow G (yb :: [B]) X W2.drew a (hpop L).2) := HO2.out.below (Below.refl _ _).drew
  have HS2d : Hid (Sees W2.drew b A S) := HS2.out
  have HY := Lib.hid hy
  clear hy
  go_region_held3 (fun w' : World => w'.cell? ⟨yb, 0, none⟩ = some (.int .i64 y0) ∧ w'.cell? ⟨yb, 1, none⟩ = some (.int .i64 y1)) (first | (with_reducible exact hH) | (with_reducible assumption))
    (first | (go_at_call 30; refine HD.out.mono ?_; rintro e w3 ⟨A', m, cp', rfl, hm, hg⟩; obtain ⟨l, g, ho3, hgl, hs3, hc3⟩ := Gr.mine HO3.out hg (Nat.le_refl _); have n3 := (hg.bel.block yb (block_lt HY.out)).trans HY.out; have hS3 : w3.cell? ⟨yb, 0, none⟩ = some (.int .i64 y0) ∧ w3.cell? ⟨yb, 1, none⟩ = some (.int .i64 y1) := ⟨by simp [cell_of n3], by simp [cell_of n3]⟩; have HC3 := Lib.hid hc3; clear hc3; have HO4 := Lib.hid ho3; have HGL := Lib.hid hgl; have HS3 := Lib.hid hs3; have HM := Lib.hid hm; have HN3 := Lib.hid n3; have HFi := Lib.hid (firstIs_yes w3 b A cp S n HL.out.1 hn0 (HS2d.out.below hg.bel) y0 y1 HS1.out); clear hg ho3 hgl hs3 n3 hm) | (go_at_call 31; refine HFi.out.mono ?_; rintro e w4 ⟨rfl, hb4⟩; have HO5 := Lib.hid (HO4.out.below hb4); have n4 := (hb4.block yb (block_lt HN3.out)).trans HN3.out; have hS4 : w4.cell? ⟨yb, 0, none⟩ = some (.int .i64 y0) ∧ w4.cell? ⟨yb, 1, none⟩ = some (.int .i64 y1) := ⟨by simp [cell_of n4], by simp [cell_of n4]⟩; have HS4 := Lib.hid (HS3.out.below hb4); clear hb4 n4))
  go_wp2_with fail
  go_ret2
  have he : ddrop S (0 : Int) = R := by rw [ddrop_zero, HSE.out]; rfl
  have hm0 := HM.out
  rw [he] at hm0
  have hnR : n = R.length + 1 := by rw [← HL.out.1, HSE.out]; rfl
  refine ⟨_, A', cp', m, g, _, ddrop S (0 : Int), rfl, HM.out, by omega, (by have := HC3.out; rw [HM.out] at this; exact this), HO5.out, fun h0 => Or.inl (List.mem_append_left _ (HGL.out (by rw [HM.out]; exact h0))), HS4.out, ?_⟩
  rw [he]
  exact HI2.out

set_option maxHeartbeats 8000000 in
theorem does_drop1 (h : Ag X a G L) (hI : Is L S) (hb : 0 < n → ¬ G b) (hS : Sees X b A S) (hn : S.length = n) (hl : n ≤ 1000) (hcp : n ≤ cp) (kd due key : Int) (hk : kd = 2) (j : Nat) (hp : pos S key = some j) :
    Calls Try.prog 19 #[.pointer (some ⟨a, 0, none⟩), .slice A n cp, .agg #[.int .i64 kd, .int .i64 due, .int .i64 key]] X (DoGot G X a b n) := by
  have BA := (Below.refl X.heap.size X).alloc (Nat.le_refl _) (.cells #[.int .i64 kd, .int .i64 due, .int .i64 key] 49)
  have HO0 := Lib.hid ((Ow.start h).box (.cells #[.int .i64 kd, .int .i64 due, .int .i64 key] 49))
  have HN0 := Lib.hid (heap_alloc_new X (.cells #[.int .i64 kd, .int .i64 due, .int .i64 key] 49))
  have HS0 := Lib.hid (hS.below BA)
  have HK0 := Lib.hid (fun h0 => (hS.lt h0))
  have HAt := Lib.hid (refAt_any _ b A cp S key n hn HS0.out (by omega))
  have HI := Lib.hid hI
  have HL := Lib.hid (And.intro hn (And.intro hI.perm.length_eq hl))
  have HKN := Lib.hid h.kn
  have HCP := Lib.hid hcp
  have HGB := Lib.hid hb
  have k0 : (kd == 0) = false := by simp [hk]
  have k1 : (kd == 1) = false := by simp [hk]
  have k2 : (kd == 2) = true := by simp [hk]
  have k3 : (kd == 3) = false := by simp [hk]
  have k4 : (kd == 4) = false := by simp [hk]
  have HKD := Lib.hid hk
  clear hk
  have HPS := Lib.hid hp
  have hpi := posI_some hp
  rw [hpi] at HAt
  have hge : (0 : Int) ≤ (j : Int) := by omega
  clear hpi hp
  obtain ⟨hjS, hjk⟩ := pos_some HPS.out
  have hpl : ∃ i, pos L key = some i := by
    have h1 := pos_perm hI.perm key
    rw [HPS.out] at h1
    exact Option.isSome_iff_exists.1 h1
  obtain ⟨i, hpl⟩ := hpl
  obtain ⟨hiL, hik⟩ := pos_some hpl
  have HDr := Lib.hid (fun (Y : World) (F : Nat → Prop) (hY : Ag Y a F L) => drop_some hY key i hpl (by have := hI.perm.length_eq; omega))
  have HI2 := Lib.hid (hI.drop h.kn hiL hjS (by rw [hik, hjk]))
  have HJ := Lib.hid hjS
  have hge1 : decide ((0 : Int) ≤ (j : Int)) = true := by simp
  clear hpl hiL hik hjS hjk
  have c0 : (X.alloc (.cells #[.int .i64 kd, .int .i64 due, .int .i64 key] 49)).cell? ⟨X.heap.size, 0, none⟩ = some (.int .i64 kd) := by simp [cell_of HN0.out]
  have c1 : (X.alloc (.cells #[.int .i64 kd, .int .i64 due, .int .i64 key] 49)).cell? ⟨X.heap.size, 1, none⟩ = some (.int .i64 due) := by simp [cell_of HN0.out]
  have c2 : (X.alloc (.cells #[.int .i64 kd, .int .i64 due, .int .i64 key] 49)).cell? ⟨X.heap.size, 2, none⟩ = some (.int .i64 key) := by simp [cell_of HN0.out]
  have HB0 := Lib.hid BA
  clear h hI hb hS hn hl hcp BA
  go_enter Try.func19, Try.ntmps19
  go_wp2_with fail
  generalize X.alloc (.cells #[.int .i64 kd, .int .i64 due, .int .i64 key] 49) = W at *
  generalize hbx : X.heap.size = B at *
  go_at_call 20; refine HAt.out.mono ?_; rintro e w1 ⟨rfl, rfl⟩
  have HD := Lib.hid (refDrop_any w1.drew b A cp S (j : Int) n HL.out.1 HS0.out (by have := HL.out; omega))
  have hH : w1.drew.cell? ⟨B, 2, none⟩ = some (.int .i64 key) ∧ True := ⟨c2, trivial⟩
  have HO1 : Hid (Ow G [B] X w1.drew a L) := HO0.out.below (Below.refl _ _).drew
  have HN1 : Hid (w1.drew.heap[B]? = some (.cells #[.int .i64 kd, .int .i64 due, .int .i64 key] 49 (0, 0))) := HN0.out
  go_wp2_with fail
  clear c0 c1 c2
  go_region_held3 (fun w' : World => w'.cell? ⟨B, 2, none⟩ = some (.int .i64 key) ∧ True) (first | (with_reducible exact hH) | (with_reducible assumption))
    (first | (go_at_call 30; refine HD.out.mono ?_; rintro e w3 ⟨A', m, cp', rfl, hm, hg⟩; obtain ⟨l, g, ho3, hgl, hs3, hc3⟩ := Gr.mine HO1.out hg (Nat.le_refl _); have n3 := (hg.bel.block B (block_lt HN1.out)).trans HN1.out; have hS3 : w3.cell? ⟨B, 2, none⟩ = some (.int .i64 key) ∧ True := ⟨by simp [cell_of n3], trivial⟩; have HC3 := Lib.hid hc3; clear hc3; have HO3 := Lib.hid ho3; have HGL := Lib.hid hgl; have HS3 := Lib.hid hs3; have HM := Lib.hid hm; have HN3 := Lib.hid n3; have HP11 := Lib.hid (HDr.out w3 _ ho3.ag); clear hg ho3 hgl hs3 n3 hm) | (go_at_call 11; refine HP11.out.mono ?_; rintro e w4 ⟨rfl, hk4, ha4⟩; obtain ⟨ho4, hke⟩ := HO3.out.step hk4 ha4; have n4 := (hke B (by simp)).trans HN3.out; have hS4 : w4.cell? ⟨B, 2, none⟩ = some (.int .i64 key) ∧ True := ⟨by simp [cell_of n4], trivial⟩; have HO4 := Lib.hid ho4; have HKE := Lib.hid hke; clear ho4 hke n4 hk4 ha4))
  go_wp2_with fail
  go_ret2
  have hml : m ≤ n := by
    have h1 := (ddrop_sub HJ.out).length_le
    rw [HM.out, HL.out.1] at h1; exact h1
  refine ⟨_, A', cp', m, g, _, ddrop S (j : Int), rfl, HM.out, by omega, (by have := HC3.out; rw [HM.out] at this; exact this), HO4.out, fun h0 => Or.inl (List.mem_append_left _ (HGL.out (by rw [HM.out]; exact h0))), HS3.out.kept (fun h0 => HKE.out g (List.mem_append_left _ (HGL.out h0))), HI2.out⟩

set_option maxHeartbeats 8000000 in
theorem does_drop0 (h : Ag X a G L) (hI : Is L S) (hb : 0 < n → ¬ G b) (hS : Sees X b A S) (hn : S.length = n) (hl : n ≤ 1000) (hcp : n ≤ cp) (kd due key : Int) (hk : kd = 2) (hp : pos S key = none) :
    Calls Try.prog 19 #[.pointer (some ⟨a, 0, none⟩), .slice A n cp, .agg #[.int .i64 kd, .int .i64 due, .int .i64 key]] X (DoGot G X a b n) := by
  have BA := (Below.refl X.heap.size X).alloc (Nat.le_refl _) (.cells #[.int .i64 kd, .int .i64 due, .int .i64 key] 49)
  have HO0 := Lib.hid ((Ow.start h).box (.cells #[.int .i64 kd, .int .i64 due, .int .i64 key] 49))
  have HN0 := Lib.hid (heap_alloc_new X (.cells #[.int .i64 kd, .int .i64 due, .int .i64 key] 49))
  have HS0 := Lib.hid (hS.below BA)
  have HK0 := Lib.hid (fun h0 => (hS.lt h0))
  have HAt := Lib.hid (refAt_any _ b A cp S key n hn HS0.out (by omega))
  have HI := Lib.hid hI
  have HL := Lib.hid (And.intro hn (And.intro hI.perm.length_eq hl))
  have HKN := Lib.hid h.kn
  have HCP := Lib.hid hcp
  have HGB := Lib.hid hb
  have k0 : (kd == 0) = false := by simp [hk]
  have k1 : (kd == 1) = false := by simp [hk]
  have k2 : (kd == 2) = true := by simp [hk]
  have k3 : (kd == 3) = false := by simp [hk]
  have k4 : (kd == 4) = false := by simp [hk]
  have HKD := Lib.hid hk
  clear hk
  have HPS := Lib.hid hp
  have hpi := posI_none hp
  rw [hpi] at HAt
  clear hpi hp
  have hpl : pos L key = none := by
    have h1 := pos_perm hI.perm key
    rw [HPS.out] at h1
    simpa using h1
  have HDr := Lib.hid (fun (Y : World) (F : Nat → Prop) (hY : Ag Y a F L) => drop_no hY key hpl)
  have HE : Hid (ddrop S (-1) = S) := ddrop_all (fun t _ => by omega)
  clear hpl
  have c0 : (X.alloc (.cells #[.int .i64 kd, .int .i64 due, .int .i64 key] 49)).cell? ⟨X.heap.size, 0, none⟩ = some (.int .i64 kd) := by simp [cell_of HN0.out]
  have c1 : (X.alloc (.cells #[.int .i64 kd, .int .i64 due, .int .i64 key] 49)).cell? ⟨X.heap.size, 1, none⟩ = some (.int .i64 due) := by simp [cell_of HN0.out]
  have c2 : (X.alloc (.cells #[.int .i64 kd, .int .i64 due, .int .i64 key] 49)).cell? ⟨X.heap.size, 2, none⟩ = some (.int .i64 key) := by simp [cell_of HN0.out]
  have HB0 := Lib.hid BA
  clear h hI hb hS hn hl hcp BA
  go_enter Try.func19, Try.ntmps19
  go_wp2_with fail
  generalize X.alloc (.cells #[.int .i64 kd, .int .i64 due, .int .i64 key] 49) = W at *
  generalize hbx : X.heap.size = B at *
  go_at_call 20; refine HAt.out.mono ?_; rintro e w1 ⟨rfl, rfl⟩
  have HD := Lib.hid (refDrop_any w1.drew b A cp S (-1) n HL.out.1 HS0.out (by have := HL.out; omega))
  have hH : w1.drew.cell? ⟨B, 2, none⟩ = some (.int .i64 key) ∧ True := ⟨c2, trivial⟩
  have HO1 : Hid (Ow G [B] X w1.drew a L) := HO0.out.below (Below.refl _ _).drew
  have HN1 : Hid (w1.drew.heap[B]? = some (.cells #[.int .i64 kd, .int .i64 due, .int .i64 key] 49 (0, 0))) := HN0.out
  go_wp2_with fail
  clear c0 c1 c2
  go_region_held3 (fun w' : World => w'.cell? ⟨B, 2, none⟩ = some (.int .i64 key) ∧ True) (first | (with_reducible exact hH) | (with_reducible assumption))
    (first | (go_at_call 30; refine HD.out.mono ?_; rintro e w3 ⟨A', m, cp', rfl, hm, hg⟩; obtain ⟨l, g, ho3, hgl, hs3, hc3⟩ := Gr.mine HO1.out hg (Nat.le_refl _); have n3 := (hg.bel.block B (block_lt HN1.out)).trans HN1.out; have hS3 : w3.cell? ⟨B, 2, none⟩ = some (.int .i64 key) ∧ True := ⟨by simp [cell_of n3], trivial⟩; have HC3 := Lib.hid hc3; clear hc3; have HO3 := Lib.hid ho3; have HGL := Lib.hid hgl; have HS3 := Lib.hid hs3; have HM := Lib.hid hm; have HP11 := Lib.hid (HDr.out w3 _ ho3.ag); clear hg ho3 hgl hs3 n3 hm) | (go_at_call 11; refine HP11.out.mono ?_; rintro e w4 ⟨rfl, rfl⟩))
  go_wp2_with fail
  go_ret2
  have hml : m = n := by
    have h1 := HM.out
    rw [HE.out, HL.out.1] at h1; exact h1.symm
  refine ⟨_, A', cp', m, g, L, ddrop S (-1), rfl, HM.out, by omega, (by have := HC3.out; rw [HM.out] at this; exact this), HO3.out, fun h0 => Or.inl (List.mem_append_left _ (HGL.out (by rw [HM.out]; exact h0))), HS3.out, ?_⟩
  rw [HE.out]
  exact HI.out
end Go.Proofs.Ytideofojmgmboaa
