/- An act of an agenda, beside the document's list. -/
import Derived.Test.YtideofojmgmboaaD4
namespace Go.Proofs.Ytideofojmgmboaa
open Go Go.RowKit
set_option linter.unusedVariables false
set_option linter.unusedSimpArgs false
set_option maxRecDepth 100000
variable {X : World} {a : Nat} {G : Nat → Prop} {L S : List It} {b n cp : Nat} {A : Option Addr}

/-- what an act answers: the list then, true; the agenda is that list -/
def DoGot (G : Nat → Prop) (X : World) (a b n : Nat) (e : Ending) (w' : World) : Prop :=
  ∃ (E : List Nat) (A' : Option Addr) (cp' m b' : Nat) (L' S' : List It), e = .returned (.tuple #[.slice A' m cp', .bool true]) ∧ S'.length = m ∧ m ≤ n + 1 ∧ m ≤ cp' ∧ Ow G E X w' a L' ∧ (0 < m → b' ∈ E ∨ (b' = b ∧ 0 < n)) ∧ Sees w' b' A' S' ∧ Is L' S'
theorem Gr.mine {Y Z : World} {T : TypeId} {B cp : Nat} {A : Option Addr} {O : List It} {E : List Nat} {K : List It} (hX : Ow G E X Y a K) (hG : Gr Y Z T B A cp O) (hB : Y.heap.size ≤ B) :
    ∃ l g, Ow G (l ++ E) X Z a K ∧ (0 < O.length → g ∈ l) ∧ Sees Z g A O ∧ O.length ≤ cp := by
  have hc : O.length ≤ cp := by
    rcases hG.own.2 with ⟨e, h⟩ | ⟨g, cap, cur, e, _, _, l1, _⟩
    · omega
    · cases e; exact l1
  obtain ⟨g, h1, h2⟩ := hG.sees
  by_cases h0 : 0 < O.length
  · have := h1 h0
    exact ⟨[g], g, hX.mine hG.bel [g] (by simp; omega), fun _ => by simp, h2, hc⟩
  · exact ⟨[], g, hX.mine hG.bel [] (by simp), fun h => absurd h h0, h2, hc⟩
theorem posI_some {S : List It} {k : Int} {j : Nat} (h : pos S k = some j) : posI S k = (j : Int) := by unfold posI; rw [h]
theorem posI_none {S : List It} {k : Int} (h : pos S k = none) : posI S k = -1 := by unfold posI; rw [h]
theorem Sees.kpt {w w' : World} {b : Nat} {A : Option Addr} {S : List It} (h : Sees w b A S) (hk : Kp G w w') (hb : 0 < S.length → ¬ G b) : Sees w' b A S := h.kept fun h0 => hk.block b (h.lt h0) (hb h0)
set_option maxHeartbeats 8000000 in
theorem does_twice (h : Ag X a G L) (hI : Is L S) (hb : 0 < n → ¬ G b) (hS : Sees X b A S) (hn : S.length = n) (hl : n ≤ 1000) (hcp : n ≤ cp) (kd due key : Int) (hk : kd = 0) (j : Nat) (hp : pos S key = some j) :
    Calls Try.prog 19 #[.pointer (some ⟨a, 0, none⟩), .slice A n cp, .agg #[.int .i64 kd, .int .i64 due, .int .i64 key]] X (DoGot G X a b n) := by
  have BA := (Below.refl X.heap.size X).alloc (Nat.le_refl _) (.cells #[.int .i64 kd, .int .i64 due, .int .i64 key] 49)
  have HO0 := Lib.hid ((Ow.start h).box (.cells #[.int .i64 kd, .int .i64 due, .int .i64 key] 49))
  have HN0 := Lib.hid (heap_alloc_new X (.cells #[.int .i64 kd, .int .i64 due, .int .i64 key] 49))
  have HS0 := Lib.hid (hS.below BA)
  have HK0 := Lib.hid (fun h0 => (hS.lt h0))
  have HAt := Lib.hid (refAt_any _ b A cp S key n hn HS0.out (by omega))
  have HI := Lib.hid hI
  have HL := Lib.hid (And.intro hn (And.intro hI.perm.length_eq hl))
  have HKN := Lib.hid h.kn
  have HCP := Lib.hid hcp
  have HGB := Lib.hid hb
  have k0 : (kd == 0) = true := by simp [hk]
  have k1 : (kd == 1) = false := by simp [hk]
  have k2 : (kd == 2) = false := by simp [hk]
  have k3 : (kd == 3) = false := by simp [hk]
  have k4 : (kd == 4) = false := by simp [hk]
  have HKD := Lib.hid hk
  clear hk
  have HPS := Lib.hid hp
  have hpi := posI_some hp
  rw [hpi] at HAt
  have hge : (0 : Int) ≤ (j : Int) := by omega
  clear hpi hp
  have HPut := Lib.hid (put_twice HO0.out.ag (due, key) (by rw [pos_perm HI.out.perm, HPS.out]; rfl))
  unfold itV at HPut
  have c0 : (X.alloc (.cells #[.int .i64 kd, .int .i64 due, .int .i64 key] 49)).cell? ⟨X.heap.size, 0, none⟩ = some (.int .i64 kd) := by simp [cell_of HN0.out]
  have c1 : (X.alloc (.cells #[.int .i64 kd, .int .i64 due, .int .i64 key] 49)).cell? ⟨X.heap.size, 1, none⟩ = some (.int .i64 due) := by simp [cell_of HN0.out]
  have c2 : (X.alloc (.cells #[.int .i64 kd, .int .i64 due, .int .i64 key] 49)).cell? ⟨X.heap.size, 2, none⟩ = some (.int .i64 key) := by simp [cell_of HN0.out]
  have HB0 := Lib.hid BA
  clear h hI hb hS hn hl hcp BA
  go_enter Try.func19, Try.ntmps19
  go_wp2_with fail
  generalize X.alloc (.cells #[.int .i64 kd, .int .i64 due, .int .i64 key] 49) = W at *
  generalize hbx : X.heap.size = B at *
  go_at_call 20; refine HAt.out.mono ?_; rintro e w1 ⟨rfl, rfl⟩
  go_wp2_with fail
  go_at_call 10; refine HPut.out.mono ?_; rintro e w2 ⟨rfl, hb2⟩
  have HO2 := Lib.hid (HO0.out.below hb2)
  have HS2 := Lib.hid (HS0.out.below hb2)
  clear hb2
  go_wp2_with fail
  go_ret2
  exact ⟨_, A, cp, n, b, L, S, rfl, HL.out.1, by omega, HCP.out, HO2.out, fun h0 => Or.inr ⟨rfl, by omega⟩, HS2.out, HI.out⟩

set_option maxHeartbeats 8000000 in
theorem does_put (h : Ag X a G L) (hI : Is L S) (hb : 0 < n → ¬ G b) (hS : Sees X b A S) (hn : S.length = n) (hl : n ≤ 1000) (hcp : n ≤ cp) (kd due key : Int) (hk : kd = 0) (hp : pos S key = none) :
    Calls Try.prog 19 #[.pointer (some ⟨a, 0, none⟩), .slice A n cp, .agg #[.int .i64 kd, .int .i64 due, .int .i64 key]] X (DoGot G X a b n) := by
  have BA := (Below.refl X.heap.size X).alloc (Nat.le_refl _) (.cells #[.int .i64 kd, .int .i64 due, .int .i64 key] 49)
  have HO0 := Lib.hid ((Ow.start h).box (.cells #[.int .i64 kd, .int .i64 due, .int .i64 key] 49))
  have HN0 := Lib.hid (heap_alloc_new X (.cells #[.int .i64 kd, .int .i64 due, .int .i64 key] 49))
  have HS0 := Lib.hid (hS.below BA)
  have HK0 := Lib.hid (fun h0 => (hS.lt h0))
  have HAt := Lib.hid (refAt_any _ b A cp S key n hn HS0.out (by omega))
  have HI := Lib.hid hI
  have HL := Lib.hid (And.intro hn (And.intro hI.perm.length_eq hl))
  have HKN := Lib.hid h.kn
  have HCP := Lib.hid hcp
  have HGB := Lib.hid hb
  have k0 : (kd == 0) = true := by simp [hk]
  have k1 : (kd == 1) = false := by simp [hk]
  have k2 : (kd == 2) = false := by simp [hk]
  have k3 : (kd == 3) = false := by simp [hk]
  have k4 : (kd == 4) = false := by simp [hk]
  have HKD := Lib.hid hk
  clear hk
  have HPS := Lib.hid hp
  have hpi := posI_none hp
  rw [hpi] at HAt
  clear hpi hp
  have c0 : (X.alloc (.cells #[.int .i64 kd, .int .i64 due, .int .i64 key] 49)).cell? ⟨X.heap.size, 0, none⟩ = some (.int .i64 kd) := by simp [cell_of HN0.out]
  have c1 : (X.alloc (.cells #[.int .i64 kd, .int .i64 due, .int .i64 key] 49)).cell? ⟨X.heap.size, 1, none⟩ = some (.int .i64 due) := by simp [cell_of HN0.out]
  have c2 : (X.alloc (.cells #[.int .i64 kd, .int .i64 due, .int .i64 key] 49)).cell? ⟨X.heap.size, 2, none⟩ = some (.int .i64 key) := by simp [cell_of HN0.out]
  have HB0 := Lib.hid BA
  clear h hI hb hS hn hl hcp BA
  go_enter Try.func19, Try.ntmps19
  go_wp2_with fail
  generalize X.alloc (.cells #[.int .i64 kd, .int .i64 due, .int .i64 key] 49) = W at *
  generalize hbx : X.heap.size = B at *
  go_at_call 20; refine HAt.out.mono ?_; rintro e w1 ⟨rfl, rfl⟩
  go_wp2_with fail
  have HPut := Lib.hid (refPut_any w1.drew b A cp S (due, key) n HL.out.1 HS0.out (by have := HL.out; omega))
  simp only at HPut
  have hH : w1.drew.cell? ⟨B, 1, none⟩ = some (.int .i64 due) ∧ w1.drew.cell? ⟨B, 2, none⟩ = some (.int .i64 key) := ⟨c1, c2⟩
  have HSZ : Hid (w1.drew.heap.size = w1.heap.size) := rfl
  have HLN : Hid (L.length < 65536) := by have := HL.out; show L.length < 65536; omega
  have HPL : Hid (pos L key = none) := by
    have h1 := pos_perm HI.out.perm key
    rw [HPS.out] at h1
    show pos L key = none
    simpa using h1
  have HBN := Lib.hid HN0.out
  clear c0 c1 c2
  have HO1 : Hid (Ow G [B] X w1.drew a L) := HO0.out.below (Below.refl _ _).drew
  have HN1 : Hid (w1.drew.heap[B]? = some (.cells #[.int .i64 kd, .int .i64 due, .int .i64 key] 49 (0, 0))) := HN0.out
  go_region_held3 (fun w' : World => w'.cell? ⟨B, 1, none⟩ = some (.int .i64 due) ∧ w'.cell? ⟨B, 2, none⟩ = some (.int .i64 key)) (first | (with_reducible exact hH) | (with_reducible assumption))
    (first | (go_at_call 17; refine HPut.out.mono ?_; rintro e w3 ⟨A', cp', rfl, hg⟩; obtain ⟨l, g, ho3, hgl, hs3, hc3⟩ := Gr.mine HO1.out hg (by omega); have HC3 := Lib.hid hc3; clear hc3; have n3 := (hg.bel.block B (block_lt HN1.out)).trans HN1.out; have hS3 : w3.cell? ⟨B, 1, none⟩ = some (.int .i64 due) ∧ w3.cell? ⟨B, 2, none⟩ = some (.int .i64 key) := ⟨by simp [cell_of n3], by simp [cell_of n3]⟩; have HO3 := Lib.hid ho3; have HGL := Lib.hid hgl; have HS3 := Lib.hid hs3; have HN3 := Lib.hid n3; have HP10 := Lib.hid (put_ok ho3.ag (due, key) HPL.out HLN.out); unfold itV at HP10; simp only at HP10; clear hg ho3 hgl hs3 n3) | (go_at_call 10; refine HP10.out.mono ?_; rintro e w4 ⟨rfl, hk4, ha4⟩; obtain ⟨ho4, hke⟩ := HO3.out.step hk4 ha4; have n4 := (hke B (by simp)).trans HN3.out; have hS4 : w4.cell? ⟨B, 1, none⟩ = some (.int .i64 due) ∧ w4.cell? ⟨B, 2, none⟩ = some (.int .i64 key) := ⟨by simp [cell_of n4], by simp [cell_of n4]⟩; have HO4 := Lib.hid ho4; have HKE := Lib.hid hke; clear ho4 hke n4 hk4 ha4))
  go_wp2_with fail
  go_ret2
  refine ⟨_, A', cp', n + 1, g, putL L (due, key), dput S (due, key), rfl, by rw [dput_len, HL.out.1], Nat.le_refl _, (by have := HC3.out; rw [dput_len, HL.out.1] at this; exact this), HO4.out, fun _ => Or.inl (List.mem_append_left _ (HGL.out (by rw [dput_len]; omega))), HS3.out.kept (fun h0 => HKE.out g (List.mem_append_left _ (HGL.out h0))), HI.out.put HPL.out⟩
end Go.Proofs.Ytideofojmgmboaa
