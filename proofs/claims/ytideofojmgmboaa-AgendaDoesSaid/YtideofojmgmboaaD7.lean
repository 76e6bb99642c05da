/- Acts of an agenda: Move, Due, First. -/
import Derived.Test.YtideofojmgmboaaD6
namespace Go.Proofs.Ytideofojmgmboaa
open Go Go.RowKit
set_option linter.unusedVariables false
set_option linter.unusedSimpArgs false
set_option maxRecDepth 100000
variable {X : World} {a : Nat} {G : Nat → Prop} {L S : List It} {b n cp : Nat} {A : Option Addr}

theorem slice_lo (A : Option Addr) (n cp j : Nat) (h : j ≤ n) (w : World) : (Instr.slice 40 (.slice A n cp) (some (.int .i64 (j : Int))) none none).run Try.prog w = .ok (.slice (if cp = j then A else A.map (·.add (j * 2))) (n - j) (cp - j)) w := by
  have hs : ∀ w, (sizeOf (Try.prog.elem 40)).run Try.prog w = .ok 2 w := fun w => by kernel_rfl
  rw [run_slice_l w 40 A n cp Try.underlying40 .i64 (j : Int) (by omega) (by omega), hs]
  simp [Result.andThen, sliced]
theorem slice_hi (A : Option Addr) (n cp j : Nat) (h : j ≤ cp) (w : World) : (Instr.slice 40 (.slice A n cp) none (some (.int .i64 (j : Int))) none).run Try.prog w = .ok (.slice (if cp = 0 then A else A.map (·.add 0)) j cp) w := by
  have hs : ∀ w, (sizeOf (Try.prog.elem 40)).run Try.prog w = .ok 2 w := fun w => by kernel_rfl
  rw [run_slice_h w 40 A n cp Try.underlying40 .i64 (j : Int) (by omega) (by omega), hs]
  simp [Result.andThen, sliced]
theorem sees_lo {w : World} {b : Nat} {A : Option Addr} {S : List It} (h : Sees w b A S) (cp j : Nat) (hc : S.length ≤ cp) : Sees w b (if cp = j then A else A.map (·.add (j * 2))) (S.drop j) := fun h0 => by
  rw [List.length_drop] at h0
  obtain ⟨off, rfl, hc2⟩ := h (by omega)
  rw [if_neg (by omega)]
  refine ⟨off + j * 2, by simp [add_plain], fun t ht => ?_⟩
  rw [List.length_drop] at ht
  have e : at_ (S.drop j) t = at_ S (j + t) := by unfold at_; rw [List.getD_eq_getElem?_getD, List.getD_eq_getElem?_getD, List.getElem?_drop]
  have := hc2 (j + t) (by omega)
  rw [e, show off + j * 2 + t * 2 = off + (j + t) * 2 by omega]
  exact this
theorem sees_hi {w : World} {b : Nat} {A : Option Addr} {S : List It} (h : Sees w b A S) (cp j : Nat) (hj : j ≤ S.length) (hc : S.length ≤ cp) : Sees w b (if cp = 0 then A else A.map (·.add 0)) (S.take j) := fun h0 => by
  rw [List.length_take] at h0
  obtain ⟨off, rfl, hc2⟩ := h (by omega)
  rw [if_neg (by omega)]
  refine ⟨off, by simp [add_plain], fun t ht => ?_⟩
  rw [List.length_take] at ht
  rw [at_take (by omega) (by omega)]
  exact hc2 t (by omega)
set_option maxHeartbeats 8000000 in
theorem does_move0 (h : Ag X a G L) (hI : Is L S) (hb : 0 < n → ¬ G b) (hS : Sees X b A S) (hn : S.length = n) (hl : n ≤ 1000) (hcp : n ≤ cp) (kd due key : Int) (hk : kd = 3) (hp : pos S key = none) :
    Calls Try.prog 19 #[.pointer (some ⟨a, 0, none⟩), .slice A n cp, .agg #[.int .i64 kd, .int .i64 due, .int .i64 key]] X (DoGot G X a b n) := by
  have BA := (Below.refl X.heap.size X).alloc (Nat.le_refl _) (.cells #[.int .i64 kd, .int .i64 due, .int .i64 key] 49)
  have HO0 := Lib.hid ((Ow.start h).box (.cells #[.int .i64 kd, .int .i64 due, .int .i64 key] 49))
  have HN0 := Lib.hid (heap_alloc_new X (.cells #[.int .i64 kd, .int .i64 due, .int .i64 key] 49))
  have HS0 := Lib.hid (hS.below BA)
  have HK0 := Lib.hid (fun h0 => (hS.lt h0))
  have HAt := Lib.hid (refAt_any _ b A cp S key n hn HS0.out (by omega))
  have HI := Lib.hid hI
  have HL := Lib.hid (And.intro hn (And.intro hI.perm.length_eq hl))
  have HKN := Lib.hid h.kn
  have HCP := Lib.hid hcp
  have HGB := Lib.hid hb
  have k0 : (kd == 0) = false := by simp [hk]
  have k1 : (kd == 1) = false := by simp [hk]
  have k2 : (kd == 2) = false := by simp [hk]
  have k3 : (kd == 3) = true := by simp [hk]
  have k4 : (kd == 4) = false := by simp [hk]
  have HKD := Lib.hid hk
  clear hk
  have HPS := Lib.hid hp
  have hpi := posI_none hp
  rw [hpi] at HAt
  clear hpi hp
  have hpl : pos L key = none := by
    have h1 := pos_perm hI.perm key
    rw [HPS.out] at h1
    simpa using h1
  have HMv := Lib.hid (fun (Y : World) (F : Nat → Prop) (hY : Ag Y a F L) => move_no hY key due hpl)
  clear hpl
  have c0 : (X.alloc (.cells #[.int .i64 kd, .int .i64 due, .int .i64 key] 49)).cell? ⟨X.heap.size, 0, none⟩ = some (.int .i64 kd) := by simp [cell_of HN0.out]
  have c1 : (X.alloc (.cells #[.int .i64 kd, .int .i64 due, .int .i64 key] 49)).cell? ⟨X.heap.size, 1, none⟩ = some (.int .i64 due) := by simp [cell_of HN0.out]
  have c2 : (X.alloc (.cells #[.int .i64 kd, .int .i64 due, .int .i64 key] 49)).cell? ⟨X.heap.size, 2, none⟩ = some (.int .i64 key) := by simp [cell_of HN0.out]
  have HB0 := Lib.hid BA
  clear h hI hb hS hn hl hcp BA
  go_enter Try.func19, Try.ntmps19
  go_wp2_with fail
  generalize X.alloc (.cells #[.int .i64 kd, .int .i64 due, .int .i64 key] 49) = W at *
  generalize hbx : X.heap.size = B at *
  go_at_call 20; refine HAt.out.mono ?_; rintro e w1 ⟨rfl, rfl⟩
  go_wp2_with fail
  go_at_call 12; refine (HMv.out _ _ HO0.out.ag).mono ?_; rintro e w2 ⟨rfl, rfl⟩
  go_wp2_with fail
  go_ret2
  exact ⟨_, A, cp, n, b, L, S, rfl, HL.out.1, by omega, HCP.out, HO0.out, fun h0 => Or.inr ⟨rfl, by omega⟩, HS0.out, HI.out⟩

set_option maxHeartbeats 8000000 in
theorem does_move1 (h : Ag X a G L) (hI : Is L S) (hb : 0 < n → ¬ G b) (hS : Sees X b A S) (hn : S.length = n) (hl : n ≤ 1000) (hcp : n ≤ cp) (kd due key : Int) (hk : kd = 3) (j : Nat) (hp : pos S key = some j) :
    Calls Try.prog 19 #[.pointer (some ⟨a, 0, none⟩), .slice A n cp, .agg #[.int .i64 kd, .int .i64 due, .int .i64 key]] X (DoGot G X a b n) := by
  have BA := (Below.refl X.heap.size X).alloc (Nat.le_refl _) (.cells #[.int .i64 kd, .int .i64 due, .int .i64 key] 49)
  have HO0 := Lib.hid ((Ow.start h).box (.cells #[.int .i64 kd, .int .i64 due, .int .i64 key] 49))
  have HN0 := Lib.hid (heap_alloc_new X (.cells #[.int .i64 kd, .int .i64 due, .int .i64 key] 49))
  have HS0 := Lib.hid (hS.below BA)
  have HK0 := Lib.hid (fun h0 => (hS.lt h0))
  have HAt := Lib.hid (refAt_any _ b A cp S key n hn HS0.out (by omega))
  have HI := Lib.hid hI
  have HL := Lib.hid (And.intro hn (And.intro hI.perm.length_eq hl))
  have HKN := Lib.hid h.kn
  have HCP := Lib.hid hcp
  have HGB := Lib.hid hb
  have k0 : (kd == 0) = false := by simp [hk]
  have k1 : (kd == 1) = false := by simp [hk]
  have k2 : (kd == 2) = false := by simp [hk]
  have k3 : (kd == 3) = true := by simp [hk]
  have k4 : (kd == 4) = false := by simp [hk]
  have HKD := Lib.hid hk
  clear hk
  have HPS := Lib.hid hp
  have hpi := posI_some hp
  rw [hpi] at HAt
  have hge : (0 : Int) ≤ (j : Int) := by omega
  clear hpi hp
  obtain ⟨hjS, hjk⟩ := pos_some HPS.out
  have hpl : ∃ i, pos L key = some i := by
    have h1 := pos_perm hI.perm key
    rw [HPS.out] at h1
    exact Option.isSome_iff_exists.1 h1
  obtain ⟨i, hpl⟩ := hpl
  obtain ⟨hiL, hik⟩ := pos_some hpl
  have HMv := Lib.hid (fun (Y : World) (F : Nat → Prop) (hY : Ag Y a F L) => move_some hY key due i hpl (by have := hI.perm.length_eq; omega))
  have hI2 := hI.move h.kn hiL hjS (by rw [hik, hjk]) due
  rw [hik] at hI2
  have HI2 := Lib.hid hI2
  have HJ := Lib.hid hjS
  have hlt1 : ¬ (j : Int) < 0 := by omega
  clear hpl hiL hik hjS hjk hI2
  have c0 : (X.alloc (.cells #[.int .i64 kd, .int .i64 due, .int .i64 key] 49)).cell? ⟨X.heap.size, 0, none⟩ = some (.int .i64 kd) := by simp [cell_of HN0.out]
  have c1 : (X.alloc (.cells #[.int .i64 kd, .int .i64 due, .int .i64 key] 49)).cell? ⟨X.heap.size, 1, none⟩ = some (.int .i64 due) := by simp [cell_of HN0.out]
  have c2 : (X.alloc (.cells #[.int .i64 kd, .int .i64 due, .int .i64 key] 49)).cell? ⟨X.heap.size, 2, none⟩ = some (.int .i64 key) := by simp [cell_of HN0.out]
  have HB0 := Lib.hid BA
  clear h hI hb hS hn hl hcp BA
  go_enter Try.func19, Try.ntmps19
  go_wp2_with fail
  generalize X.alloc (.cells #[.int .i64 kd, .int .i64 due, .int .i64 key] 49) = W at *
  generalize hbx : X.heap.size = B at *
  go_at_call 20; refine HAt.out.mono ?_; rintro e w1 ⟨rfl, rfl⟩
  have HMv1 := Lib.hid (HMv.out _ _ HO0.out.ag)
  go_wp2_with fail
  go_at_call 12; refine HMv1.out.mono ?_; rintro e w2 ⟨rfl, hk2, ha2⟩
  obtain ⟨ho2, hke2⟩ := HO0.out.step hk2 ha2
  have hs2 : Sees w2 b A S := HS0.out.kpt hk2 (fun h0 hg => by
    have hbn := HK0.out h0
    have hgn := HGB.out (by have := HL.out; omega)
    rcases hg.1 with h | h
    · exact hgn h
    · omega)
  have hn2 := (hke2 B (by rw [← hbx]; simp)).trans HN0.out
  have HO2 : Hid (Ow G [X.heap.size] X w2.drew a (hfixAt (L.set i (due, key)) i L.length)) := by rw [hbx]; exact ho2.below (Below.refl _ _).drew
  have HS2 : Hid (Sees w2.drew b A S) := hs2
  have HN2 : Hid (w2.drew.heap[B]? = some (.cells #[.int .i64 kd, .int .i64 due, .int .i64 key] 49 (0, 0))) := hn2
  have HD := Lib.hid (refDrop_any w2.drew b A cp S (j : Int) n HL.out.1 HS2.out (by have := HL.out; omega))
  have hH : w2.drew.cell? ⟨B, 1, none⟩ = some (.int .i64 due) ∧ w2.drew.cell? ⟨B, 2, none⟩ = some (.int .i64 key) := ⟨by simp [cell_of hn2], by simp [cell_of hn2]⟩
  clear hk2 ha2 ho2 hke2 hs2 hn2 c0 c1 c2
  go_wp2_with fail
  go_region_held3 (fun w' : World => w'.cell? ⟨B, 1, none⟩ = some (.int .i64 due) ∧ w'.cell? ⟨B, 2, none⟩ = some (.int .i64 key)) (first | (with_reducible exact hH) | (with_reducible assumption))
    (first | (go_at_call 30; refine HD.out.mono ?_; rintro e w3 ⟨A', m, cp', rfl, hm, hg⟩; obtain ⟨l, g, ho3, hgl, hs3, hc3⟩ := Gr.mine HO2.out hg (Nat.le_refl _); have n3 := (hg.bel.block B (block_lt HN2.out)).trans HN2.out; have hS3 : w3.cell? ⟨B, 1, none⟩ = some (.int .i64 due) ∧ w3.cell? ⟨B, 2, none⟩ = some (.int .i64 key) := ⟨by simp [cell_of n3], by simp [cell_of n3]⟩; have HO3 := Lib.hid ho3; have HM := Lib.hid hm; have HN3 := Lib.hid n3; have HP17 := Lib.hid (refPut_any w3 g A' cp' (ddrop S (j : Int)) (due, key) m hm hs3 (by have h1 := (ddrop_sub HJ.out).length_le; have := HL.out; omega)); clear hg ho3 hgl hs3 n3 hm hc3) | (go_at_call 17; refine HP17.out.mono ?_; rintro e w4 ⟨A2, cp2, rfl, hg⟩; obtain ⟨l2, g2, ho4, hgl, hs4, hc4⟩ := Gr.mine HO3.out hg (by omega); have n4 := (hg.bel.block B (block_lt HN3.out)).trans HN3.out; have hS4 : w4.cell? ⟨B, 1, none⟩ = some (.int .i64 due) ∧ w4.cell? ⟨B, 2, none⟩ = some (.int .i64 key) := ⟨by simp [cell_of n4], by simp [cell_of n4]⟩; have HO4 := Lib.hid ho4; have HGL := Lib.hid hgl; have HS4 := Lib.hid hs4; have HC4 := Lib.hid hc4; clear hg ho4 hgl hs4 n4 hc4))
  go_wp2_with fail
  go_ret2
  have hml : m ≤ n := by
    have h1 := (ddrop_sub HJ.out).length_le
    rw [HM.out, HL.out.1] at h1; exact h1
  refine ⟨_, A2, cp2, m + 1, g2, _, _, rfl, by rw [dput_len, HM.out], by omega, (by have := HC4.out; rw [dput_len, HM.out] at this; exact this), HO4.out, fun h0 => Or.inl (List.mem_append_left _ (HGL.out (by rw [dput_len]; omega))), HS4.out, HI2.out⟩

set_option maxHeartbeats 8000000 in
theorem does_first (h : Ag X a G L) (hI : Is L S) (hb : 0 < n → ¬ G b) (hS : Sees X b A S) (hn : S.length = n) (hl : n ≤ 1000) (hcp : n ≤ cp) (kd due key : Int) (hk : kd ≠ 0 ∧ kd ≠ 1 ∧ kd ≠ 2 ∧ kd ≠ 3 ∧ kd ≠ 4) :
    Calls Try.prog 19 #[.pointer (some ⟨a, 0, none⟩), .slice A n cp, .agg #[.int .i64 kd, .int .i64 due, .int .i64 key]] X (DoGot G X a b n) := by
  have BA := (Below.refl X.heap.size X).alloc (Nat.le_refl _) (.cells #[.int .i64 kd, .int .i64 due, .int .i64 key] 49)
  have HO0 := Lib.hid ((Ow.start h).box (.cells #[.int .i64 kd, .int .i64 due, .int .i64 key] 49))
  have HN0 := Lib.hid (heap_alloc_new X (.cells #[.int .i64 kd, .int .i64 due, .int .i64 key] 49))
  have HS0 := Lib.hid (hS.below BA)
  have HK0 := Lib.hid (fun h0 => (hS.lt h0))
  have HAt := Lib.hid (refAt_any _ b A cp S key n hn HS0.out (by omega))
  have HI := Lib.hid hI
  have HL := Lib.hid (And.intro hn (And.intro hI.perm.length_eq hl))
  have HKN := Lib.hid h.kn
  have HCP := Lib.hid hcp
  have HGB := Lib.hid hb
  have k0 : (kd == 0) = false := by simp; omega
  have k1 : (kd == 1) = false := by simp; omega
  have k2 : (kd == 2) = false := by simp; omega
  have k3 : (kd == 3) = false := by simp; omega
  have k4 : (kd == 4) = false := by simp; omega
  have HKD := Lib.hid hk
  clear hk
  generalize posI S key = pz at *
  have HFi := Lib.hid (fun (Y : World) (F : Nat → Prop) (hY : Ag Y a F L) => first_any hY (show Is L (S.drop 0) by rw [List.drop_zero]; exact hI) (Nat.zero_le _))
  have c0 : (X.alloc (.cells #[.int .i64 kd, .int .i64 due, .int .i64 key] 49)).cell? ⟨X.heap.size, 0, none⟩ = some (.int .i64 kd) := by simp [cell_of HN0.out]
  have c1 : (X.alloc (.cells #[.int .i64 kd, .int .i64 due, .int .i64 key] 49)).cell? ⟨X.heap.size, 1, none⟩ = some (.int .i64 due) := by simp [cell_of HN0.out]
  have c2 : (X.alloc (.cells #[.int .i64 kd, .int .i64 due, .int .i64 key] 49)).cell? ⟨X.heap.size, 2, none⟩ = some (.int .i64 key) := by simp [cell_of HN0.out]
  have HB0 := Lib.hid BA
  clear h hI hb hS hn hl hcp BA
  go_enter Try.func19, Try.ntmps19
  go_wp2_with fail
  generalize X.alloc (.cells #[.int .i64 kd, .int .i64 due, .int .i64 key] 49) = W at *
  generalize hbx : X.heap.size = B at *
  go_at_call 20; refine HAt.out.mono ?_; rintro e w1 ⟨rfl, rfl⟩
  obtain ⟨y0, y1, hy, bb, hbb, hf⟩ := HFi.out _ _ HO0.out.ag
  by_cases h0 : 0 < n
  · obtain rfl : bb = true := by rw [hbb, HL.out.1]; simpa using h0
    have HY := Lib.hid (hy (by have := HL.out; omega))
    have HN0' := Lib.hid h0
    clear hy hbb h0
    go_wp2_with fail
    go_at_call 7; refine hf.mono ?_; rintro e w2 ⟨rfl, hb2⟩
    have HO2 := Lib.hid ((HO0.out.below hb2).box (.cells #[.int .i64 y0, .int .i64 y1] 23))
    have hN2 := heap_alloc_new w2 (.cells #[.int .i64 y0, .int .i64 y1] 23)
    have HS2 := Lib.hid ((HS0.out.below hb2).below ((Below.refl w2.heap.size w2).alloc (Nat.le_refl _) (.cells #[.int .i64 y0, .int .i64 y1] 23)))
    have r0 : (w2.alloc (.cells #[.int .i64 y0, .int .i64 y1] 23)).cell? ⟨w2.heap.size, 0, none⟩ = some (.int .i64 y0) := by simp [cell_of hN2]
    have r1 : (w2.alloc (.cells #[.int .i64 y0, .int .i64 y1] 23)).cell? ⟨w2.heap.size, 1, none⟩ = some (.int .i64 y1) := by simp [cell_of hN2]
    clear hb2 hN2 c0 c1 c2
    go_wp2_with fail
    generalize w2.alloc (.cells #[.int .i64 y0, .int .i64 y1] 23) = W2 at *
    generalize w2.heap.size = yb at *
    have HF31 := Lib.hid (firstIs_yes W2 b A cp S n HL.out.1 HN0'.out HS2.out y0 y1 HY.out)
    go_at_call 31; refine HF31.out.mono ?_; rintro e w3 ⟨rfl, hb3⟩
    have HO3 := Lib.hid (HO2.out.below hb3)
    have HS3 := Lib.hid (HS2.out.below hb3)
    clear hb3
    go_wp2_with fail
    go_ret2
    exact ⟨_, A, cp, n, b, L, S, rfl, HL.out.1, by omega, HCP.out, HO3.out, fun h0 => Or.inr ⟨rfl, by omega⟩, HS3.out, HI.out⟩
  · obtain rfl : n = 0 := by omega
    have HSE : Hid (S = []) := List.eq_nil_of_length_eq_zero HL.out.1
    have HLE : Hid (L = []) := by have h1 := HI.out.perm; rw [HSE.out] at h1; exact h1.eq_nil
    clear hy hbb hf h0
    have hf := by have h1 := HO0.out.ag; rw [HLE.out] at h1; exact first_none h1
    unfold noIt at hf
    go_wp2_with fail
    go_at_call 7; refine hf.mono ?_; rintro e w2 ⟨rfl, hb2⟩
    have HO2 := Lib.hid ((HO0.out.below hb2).box (.cells #[.int .i64 0, .int .i64 0] 23))
    have hN2 := heap_alloc_new w2 (.cells #[.int .i64 0, .int .i64 0] 23)
    have HS2 := Lib.hid ((HS0.out.below hb2).below ((Below.refl w2.heap.size w2).alloc (Nat.le_refl _) (.cells #[.int .i64 0, .int .i64 0] 23)))
    have r0 : (w2.alloc (.cells #[.int .i64 0, .int .i64 0] 23)).cell? ⟨w2.heap.size, 0, none⟩ = some (.int .i64 0) := by simp [cell_of hN2]
    have r1 : (w2.alloc (.cells #[.int .i64 0, .int .i64 0] 23)).cell? ⟨w2.heap.size, 1, none⟩ = some (.int .i64 0) := by simp [cell_of hN2]
    clear hb2 hN2 c0 c1 c2
    go_wp2_with fail
    generalize w2.alloc (.cells #[.int .i64 0, .int .i64 0] 23) = W2 at *
    generalize w2.heap.size = yb at *
    have HF31 := Lib.hid (firstIs_no W2 A cp)
    go_at_call 31; refine HF31.out.mono ?_; rintro e w3 ⟨rfl, hb3⟩
    have HO3 := Lib.hid (HO2.out.below hb3)
    have HS3 := Lib.hid (HS2.out.below hb3)
    clear hb3
    go_wp2_with fail
    go_ret2
    exact ⟨_, A, cp, 0, b, L, S, rfl, HL.out.1, by omega, HCP.out, HO3.out, fun h0 => Or.inr ⟨rfl, by omega⟩, HS3.out, HI.out⟩

set_option maxHeartbeats 8000000 in
theorem does_due (h : Ag X a G L) (hI : Is L S) (hb : 0 < n → ¬ G b) (hS : Sees X b A S) (hn : S.length = n) (hl : n ≤ 1000) (hcp : n ≤ cp) (kd due key : Int) (hk : kd = 4) :
    Calls Try.prog 19 #[.pointer (some ⟨a, 0, none⟩), .slice A n cp, .agg #[.int .i64 kd, .int .i64 due, .int .i64 key]] X (DoGot G X a b n) := by
  have BA := (Below.refl X.heap.size X).alloc (Nat.le_refl _) (.cells #[.int .i64 kd, .int .i64 due, .int .i64 key] 49)
  have HO0 := Lib.hid ((Ow.start h).box (.cells #[.int .i64 kd, .int .i64 due, .int .i64 key] 49))
  have HN0 := Lib.hid (heap_alloc_new X (.cells #[.int .i64 kd, .int .i64 due, .int .i64 key] 49))
  have HS0 := Lib.hid (hS.below BA)
  have HK0 := Lib.hid (fun h0 => (hS.lt h0))
  have HAt := Lib.hid (refAt_any _ b A cp S key n hn HS0.out (by omega))
  have HI := Lib.hid hI
  have HL := Lib.hid (And.intro hn (And.intro hI.perm.length_eq hl))
  have HKN := Lib.hid h.kn
  have HCP := Lib.hid hcp
  have HGB := Lib.hid hb
  have k0 : (kd == 0) = false := by simp [hk]
  have k1 : (kd == 1) = false := by simp [hk]
  have k2 : (kd == 2) = false := by simp [hk]
  have k3 : (kd == 3) = false := by simp [hk]
  have k4 : (kd == 4) = true := by simp [hk]
  have HKD := Lib.hid hk
  clear hk
  generalize posI S key = pz at *
  have HDu := Lib.hid (fun (Y : World) (F : Nat → Prop) (hY : Ag Y a F L) => due_ag hY hI (by have := hI.perm.length_eq; omega) due)
  have c0 : (X.alloc (.cells #[.int .i64 kd, .int .i64 due, .int .i64 key] 49)).cell? ⟨X.heap.size, 0, none⟩ = some (.int .i64 kd) := by simp [cell_of HN0.out]
  have c1 : (X.alloc (.cells #[.int .i64 kd, .int .i64 due, .int .i64 key] 49)).cell? ⟨X.heap.size, 1, none⟩ = some (.int .i64 due) := by simp [cell_of HN0.out]
  have c2 : (X.alloc (.cells #[.int .i64 kd, .int .i64 due, .int .i64 key] 49)).cell? ⟨X.heap.size, 2, none⟩ = some (.int .i64 key) := by simp [cell_of HN0.out]
  have HB0 := Lib.hid BA
  clear h hI hb hS hn hl hcp BA
  go_enter Try.func19, Try.ntmps19
  go_wp2_with fail
  generalize X.alloc (.cells #[.int .i64 kd, .int .i64 due, .int .i64 key] 49) = W at *
  generalize hbx : X.heap.size = B at *
  go_at_call 20; refine HAt.out.mono ?_; rintro e w1 ⟨rfl, rfl⟩
  have hnn : (n : Int) ≤ 1000 := by have := HL.out; omega
  go_wp2_with fail
  clear c0 c2
  go_loopw [12] (fun v wr => ∃ (j q : Nat), v = .int .i64 j ∧ j ≤ n ∧ wr = w1.drewN q ∧ Hid (∀ t, t < j → (at_ S t).1 ≤ due)) (fun v _ => n - (intOf v).toNat)
  case atStart => exact ⟨0, 0, rfl, by omega, rfl, fun t ht => absurd ht (Nat.not_lt_zero t)⟩
  case round =>
    obtain ⟨j, q, rfl, hj, rfl, hd⟩ := hrel
    by_cases hjn : j < n
    · have hji : (j : Int) < (n : Int) := by omega
      have hcap : (j : Int) < 1000 := by omega
      have HKL : Hid (j < S.length) := by show j < S.length; rw [HL.out.1]; exact hjn
      obtain ⟨off, rfl, hcs⟩ := HS0.out (by have := HKL.out; omega)
      obtain ⟨hy0, hy1⟩ := hcs j HKL.out
      clear hcs
      have hye : ∃ y, at_ S j = y := ⟨_, rfl⟩
      obtain ⟨y, hy⟩ := hye
      rw [hy] at hy0 hy1
      have HY := Lib.hid hy
      obtain ⟨y0, y1⟩ := y
      clear hy
      simp only at hy0 hy1
      by_cases hle : y0 ≤ due
      · have hle1 : decide (y0 ≤ due) = true := by simpa using hle
        have HLE := Lib.hid hle
        go_wp2_with fail
        go_quiet (fail)
        go_wp2_with fail
        go_roundw
        case rel => exact ⟨j + 1, q + nq, by go_num, by omega, rfl, fun t ht => by
          rcases Nat.lt_succ_iff_lt_or_eq.1 ht with h | h
          · exact hd.out t h
          · subst h; rw [HY.out]; exact HLE.out⟩
        case measure => simp [intOf]; omega
      · have hle1 : decide (y0 ≤ due) = false := by simpa using hle
        have HLE := Lib.hid hle
        have HDN : Hid (DueN S due j) := ⟨by have := HL.out; omega, hd.out, fun _ => by rw [HY.out]; have := HLE.out; show ¬ y0 ≤ due; omega⟩
        go_wp2_with fail
        go_quiet (fail)
        clear hy0 hy1 hle hle1
        have HOV : Hid (Ow G [X.heap.size] X ((w1.drewN q).drewN nq).drew a L) := by rw [hbx]; exact HO0.out.below ⟨rfl, rfl, rfl, Nat.le_refl _, fun _ _ => rfl⟩
        have HSV : Hid (Sees ((w1.drewN q).drewN nq).drew b (some ⟨b, off, none⟩) S) := HS0.out
        have HNV : Hid (((w1.drewN q).drewN nq).drew.heap[B]? = some (.cells #[.int .i64 kd, .int .i64 due, .int .i64 key] 49 (0, 0))) := HN0.out
        have c1' : ((w1.drewN q).drewN nq).cell? ⟨B, 1, none⟩ = some (.int .i64 due) := c1
        clear c1
        generalize (w1.drewN q).drewN nq = V at *
        have hjc : j ≤ cp := by have := HCP.out; omega
        have hlo := slice_lo (some ⟨b, off, none⟩) n cp j hj
        have hhi := slice_hi (some ⟨b, off, none⟩) n cp j hjc
        obtain ⟨A1, hA1⟩ : ∃ A1, A1 = (if cp = j then (some ⟨b, off, none⟩) else Option.map (fun x : Addr => x.add (j * 2)) (some ⟨b, off, none⟩)) := ⟨_, rfl⟩
        obtain ⟨A2, hA2⟩ : ∃ A2, A2 = (if cp = 0 then (some ⟨b, off, none⟩) else Option.map (fun x : Addr => x.add 0) (some ⟨b, off, none⟩)) := ⟨_, rfl⟩
        rw [← hA1] at hlo
        rw [← hA2] at hhi
        have HA1 : Hid (∀ Y, Sees Y b (some ⟨b, off, none⟩) S → Sees Y b A1 (S.drop j)) := fun Y hY => by rw [hA1]; exact sees_lo hY cp j (by have := HL.out; have := HCP.out; omega)
        have HA2 : Hid (∀ Y, Sees Y b (some ⟨b, off, none⟩) S → Sees Y b A2 (S.take j)) := fun Y hY => by rw [hA2]; exact sees_hi hY cp j (by have := HL.out; omega) (by have := HL.out; have := HCP.out; omega)
        have HJL : Hid ((S.take j).length = j) := by show (S.take j).length = j; rw [List.length_take]; have := HL.out; omega
        clear hA1 hA2
        have HDV := Lib.hid (HDu.out _ _ HOV.out.ag)
        have hH : V.drew.cell? ⟨B, 1, none⟩ = some (.int .i64 due) ∧ True := ⟨c1', trivial⟩
        go_wp2_with fail
        go_region_held3 (fun w' : World => w'.cell? ⟨B, 1, none⟩ = some (.int .i64 due) ∧ True) (first | (with_reducible exact hH) | (with_reducible assumption))
          (first | (go_at_call 13; refine HDV.out.mono ?_; rintro e w3 ⟨m, A3, cp3, g3, K', rfl, hdn, hs3, hk3, ha3, hi3⟩; obtain rfl : j = m := HDN.out.eq hdn; obtain ⟨ho4, hke⟩ := HOV.out.step hk3 ha3; have n3 := (hke B (by rw [← hbx]; simp)).trans HNV.out; have hS3 : w3.cell? ⟨B, 1, none⟩ = some (.int .i64 due) ∧ True := ⟨by simp [cell_of n3], trivial⟩; have hsb : Sees w3 b (some ⟨b, off, none⟩) S := HSV.out.kpt hk3 (fun h0 hg => by have hbn := HK0.out h0; have hgn := HGB.out (by have := HL.out; omega); rcases hg.1 with h | h; exact hgn h; omega); have HSame := Lib.hid (same_any w3 g3 b A3 A2 cp3 cp (S.take j) j HJL.out (by omega) hs3 (HA2.out _ hsb)); have HO4 := Lib.hid ho4; have HI3 := Lib.hid hi3; have HSB := Lib.hid hsb; have HN3 := Lib.hid n3; clear hdn hs3 hk3 ha3 hi3 ho4 hke n3 hsb) | (go_at_call 18; refine HSame.out.mono ?_; rintro e w4 ⟨rfl, hb4⟩; have n4 := (hb4.block B (block_lt HN3.out)).trans HN3.out; have hS4 : w4.cell? ⟨B, 1, none⟩ = some (.int .i64 due) ∧ True := ⟨by simp [cell_of n4], trivial⟩; have HO5 := Lib.hid (HO4.out.below hb4); have HSB4 := Lib.hid (HSB.out.below hb4); clear hb4 n4))
        go_wp2_with fail
        go_ret2
        exact ⟨_, A1, cp - j, n - j, b, _, S.drop j, rfl, (by have := HL.out.1; rw [List.length_drop]; omega), by omega, (by have := HCP.out; omega), HO5.out, fun h0 => Or.inr ⟨rfl, by omega⟩, HA1.out _ HSB4.out, HI3.out⟩
    · obtain rfl : j = n := by omega
      have hji : ¬ (j : Int) < (j : Int) := by omega
      have HDN : Hid (DueN S due j) := ⟨by have := HL.out; omega, hd.out, fun h => by have := HL.out; omega⟩
      have hj : j ≤ j := Nat.le_refl _
      go_wp2_with fail
      go_quiet (fail)
      have HOV : Hid (Ow G [X.heap.size] X ((w1.drewN q).drewN nq).drew a L) := by rw [hbx]; exact HO0.out.below ⟨rfl, rfl, rfl, Nat.le_refl _, fun _ _ => rfl⟩
      have HSV : Hid (Sees ((w1.drewN q).drewN nq).drew b A S) := HS0.out
      have HNV : Hid (((w1.drewN q).drewN nq).drew.heap[B]? = some (.cells #[.int .i64 kd, .int .i64 due, .int .i64 key] 49 (0, 0))) := HN0.out
      have c1' : ((w1.drewN q).drewN nq).cell? ⟨B, 1, none⟩ = some (.int .i64 due) := c1
      clear c1
      generalize (w1.drewN q).drewN nq = V at *
      have hjc : j ≤ cp := by have := HCP.out; omega
      have hlo := slice_lo A j cp j hj
      have hhi := slice_hi A j cp j hjc
      obtain ⟨A1, hA1⟩ : ∃ A1, A1 = (if cp = j then A else Option.map (fun x : Addr => x.add (j * 2)) A) := ⟨_, rfl⟩
      obtain ⟨A2, hA2⟩ : ∃ A2, A2 = (if cp = 0 then A else Option.map (fun x : Addr => x.add 0) A) := ⟨_, rfl⟩
      rw [← hA1] at hlo
      rw [← hA2] at hhi
      have HA1 : Hid (∀ Y, Sees Y b A S → Sees Y b A1 (S.drop j)) := fun Y hY => by rw [hA1]; exact sees_lo hY cp j (by have := HL.out; have := HCP.out; omega)
      have HA2 : Hid (∀ Y, Sees Y b A S → Sees Y b A2 (S.take j)) := fun Y hY => by rw [hA2]; exact sees_hi hY cp j (by have := HL.out; omega) (by have := HL.out; have := HCP.out; omega)
      have HJL : Hid ((S.take j).length = j) := by show (S.take j).length = j; rw [List.length_take]; have := HL.out; omega
      clear hA1 hA2
      have HDV := Lib.hid (HDu.out _ _ HOV.out.ag)
      have hH : V.drew.cell? ⟨B, 1, none⟩ = some (.int .i64 due) ∧ True := ⟨c1', trivial⟩
      go_wp2_with fail
      go_region_held3 (fun w' : World => w'.cell? ⟨B, 1, none⟩ = some (.int .i64 due) ∧ True) (first | (with_reducible exact hH) | (with_reducible assumption))
        (first | (go_at_call 13; refine HDV.out.mono ?_; rintro e w3 ⟨m, A3, cp3, g3, K', rfl, hdn, hs3, hk3, ha3, hi3⟩; obtain rfl : j = m := HDN.out.eq hdn; obtain ⟨ho4, hke⟩ := HOV.out.step hk3 ha3; have n3 := (hke B (by rw [← hbx]; simp)).trans HNV.out; have hS3 : w3.cell? ⟨B, 1, none⟩ = some (.int .i64 due) ∧ True := ⟨by simp [cell_of n3], trivial⟩; have hsb : Sees w3 b A S := HSV.out.kpt hk3 (fun h0 hg => by have hbn := HK0.out h0; have hgn := HGB.out (by have := HL.out; omega); rcases hg.1 with h | h; exact hgn h; omega); have HSame := Lib.hid (same_any w3 g3 b A3 A2 cp3 cp (S.take j) j HJL.out (by omega) hs3 (HA2.out _ hsb)); have HO4 := Lib.hid ho4; have HI3 := Lib.hid hi3; have HSB := Lib.hid hsb; have HN3 := Lib.hid n3; clear hdn hs3 hk3 ha3 hi3 ho4 hke n3 hsb) | (go_at_call 18; refine HSame.out.mono ?_; rintro e w4 ⟨rfl, hb4⟩; have n4 := (hb4.block B (block_lt HN3.out)).trans HN3.out; have hS4 : w4.cell? ⟨B, 1, none⟩ = some (.int .i64 due) ∧ True := ⟨by simp [cell_of n4], trivial⟩; have HO5 := Lib.hid (HO4.out.below hb4); have HSB4 := Lib.hid (HSB.out.below hb4); clear hb4 n4))
      go_wp2_with fail
      go_ret2
      exact ⟨_, A1, cp - j, 0, b, _, S.drop j, rfl, (by have := HL.out.1; rw [List.length_drop]; omega), by omega, (by have := HCP.out; omega), HO5.out, fun h0 => Or.inr ⟨rfl, by omega⟩, HA1.out _ HSB4.out, HI3.out⟩
end Go.Proofs.Ytideofojmgmboaa
