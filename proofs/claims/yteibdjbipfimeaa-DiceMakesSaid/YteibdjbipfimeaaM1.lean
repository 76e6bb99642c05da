/- Configs made up. -/
import Derived.Test.YteibdjbipfimeaaR7
namespace Go.Proofs.Yteibdjbipfimeaa
open Go Go.RowKit
set_option linter.unusedVariables false
set_option linter.unusedSimpArgs false
set_option maxRecDepth 100000

structure May (P T G : Int) : Prop where
  h : 1 ≤ P ∧ P ≤ 64 ∧ P ≤ T ∧ T ≤ 256 ∧ 1 ≤ G ∧ G ≤ 65536
instance (P T G : Int) : Decidable (May P T G) := if h : 1 ≤ P ∧ P ≤ 64 ∧ P ≤ T ∧ T ≤ 256 ∧ 1 ≤ G ∧ G ≤ 65536 then isTrue ⟨h⟩ else isFalse (fun a => h a.h)
theorem right_yes (P T G : Int) (h : May P T G) (w : World) : Calls Try.prog 21 #[.agg #[.int .i64 P, .int .i64 T, .int .i64 G]] w fun e w' => e = .returned (.bool true) ∧ Below w.heap.size w w' := by
  have hb : Below w.heap.size w (w.alloc (.cells #[.int .i64 P, .int .i64 T, .int .i64 G] 34)) := (Below.refl _ _).alloc (Nat.le_refl _) _
  obtain ⟨a1, a2, a3, a4, a5, a6⟩ := h.h
  go_enter Try.func21, Try.ntmps21
  go_wp2_with fail
  go_ret
  exact ⟨ret_bool (by simp [*]), hb⟩
theorem right_no (P T G : Int) (h : ¬ May P T G) (w : World) : Calls Try.prog 21 #[.agg #[.int .i64 P, .int .i64 T, .int .i64 G]] w fun e w' => e = .returned (.bool false) ∧ Below w.heap.size w w' := by
  have hb : Below w.heap.size w (w.alloc (.cells #[.int .i64 P, .int .i64 T, .int .i64 G] 34)) := (Below.refl _ _).alloc (Nat.le_refl _) _
  have hn : ¬ (1 ≤ P ∧ P ≤ 64 ∧ P ≤ T ∧ T ≤ 256 ∧ 1 ≤ G ∧ G ≤ 65536) := fun a => h ⟨a⟩
  go_enter Try.func21, Try.ntmps21
  go_wp2_with fail
  all_goals
    go_ret
    refine ⟨ret_bool ?_, hb⟩
    first | rfl | (simp; omega)
theorem refRight_yes (P T G : Int) (h : May P T G) (w : World) : Calls Try.prog 13 #[.agg #[.int .i64 P, .int .i64 T, .int .i64 G]] w fun e w' => e = .returned (.bool true) ∧ Below w.heap.size w w' := by
  have hb : Below w.heap.size w (w.alloc (.cells #[.int .i64 P, .int .i64 T, .int .i64 G] 34)) := (Below.refl _ _).alloc (Nat.le_refl _) _
  obtain ⟨a1, a2, a3, a4, a5, a6⟩ := h.h
  have n1 : ¬ P < 1 := by omega
  have n2 : ¬ 64 < P := by omega
  have n3 : ¬ T < 1 := by omega
  have n4 : ¬ 256 < T := by omega
  have n5 : ¬ G < 1 := by omega
  have n6 : ¬ 65536 < G := by omega
  go_enter Try.func13, Try.ntmps13
  go_wp2_with fail
  go_ret
  exact ⟨ret_bool (by simp [*]), hb⟩
theorem refRight_no (P T G : Int) (h : ¬ May P T G) (w : World) : Calls Try.prog 13 #[.agg #[.int .i64 P, .int .i64 T, .int .i64 G]] w fun e w' => e = .returned (.bool false) ∧ Below w.heap.size w w' := by
  have hb : Below w.heap.size w (w.alloc (.cells #[.int .i64 P, .int .i64 T, .int .i64 G] 34)) := (Below.refl _ _).alloc (Nat.le_refl _) _
  have hn : ¬ (1 ≤ P ∧ P ≤ 64 ∧ P ≤ T ∧ T ≤ 256 ∧ 1 ≤ G ∧ G ≤ 65536) := fun a => h ⟨a⟩
  go_enter Try.func13, Try.ntmps13
  go_wp2_with fail
  all_goals
    go_ret
    refine ⟨ret_bool ?_, hb⟩
    first | rfl | (simp; omega)
theorem box_after {w w1 : World} {o1 o2 : Obj} (h : Below ((w.alloc o1).alloc o2).heap.size ((w.alloc o1).alloc o2) w1) :
    w1.heap[w.heap.size]? = some o1 ∧ w1.heap[w.heap.size + 1]? = some o2 ∧ Below w.heap.size w w1 := by
  have e1 : (w.alloc o1).heap.size = w.heap.size + 1 := by simp
  have e2 : ((w.alloc o1).alloc o2).heap.size = w.heap.size + 2 := by simp
  refine ⟨(h.block _ (by omega)).trans ((heap_al _ (by omega) _).trans (heap_alloc_new _ _)), ?_, (((Below.refl _ _).alloc (Nat.le_refl _) o1).alloc (by omega) o2).trans (h.mono (by omega))⟩
  have := heap_alloc_new (w.alloc o1) o2
  rw [e1] at this
  exact (h.block _ (by omega)).trans this
theorem config_no (w : World) (p : Option Addr) (P T G : Int) (h : ¬ May P T G) : Calls Try.prog 12 #[.pointer p, .agg #[.int .i64 P, .int .i64 T, .int .i64 G]] w fun e w' => e = .returned (.tuple #[.agg #[.int .i64 0, .int .i64 0, .int .i64 0], .int .i64 1]) ∧ Below w.heap.size w w' := by
  cases p with
  | none => exact config_nil w P T G
  | some a =>
    have HB : Hid (Below w.heap.size w ((w.alloc (.cells #[.int .i64 P, .int .i64 T, .int .i64 G] 34)).alloc (.cells #[.int .i64 0, .int .i64 0, .int .i64 0] 34))) := (((Below.refl _ _).alloc (Nat.le_refl _) _).alloc (by simp) _)
    go_enter Try.func12, Try.ntmps12
    go_wp2_with fail
    go_at_call 21; refine (right_no P T G h _).mono ?_; rintro e w1 ⟨rfl, hb1⟩
    obtain ⟨k1, k2, k3⟩ := box_after hb1
    have K3 := Lib.hid k3
    have q0 : w1.cell? ⟨w.heap.size + 1, 0, none⟩ = some (.int .i64 0) := by simp [World.cell?, k2]
    have q1 : w1.cell? ⟨w.heap.size + 1, 1, none⟩ = some (.int .i64 0) := by simp [World.cell?, k2]
    have q2 : w1.cell? ⟨w.heap.size + 1, 2, none⟩ = some (.int .i64 0) := by simp [World.cell?, k2]
    have f0 : w1.frozen? ⟨w.heap.size + 1, 0, none⟩ = false := by simp [World.frozen?, k2]
    have f1 : w1.frozen? ⟨w.heap.size + 1, 1, none⟩ = false := by simp [World.frozen?, k2]
    have f2 : w1.frozen? ⟨w.heap.size + 1, 2, none⟩ = false := by simp [World.frozen?, k2]
    clear k1 k2 k3 hb1
    go_wp2_with fail
    refine bodyPost_ret (v := .tuple #[.agg #[.int .i64 0, .int .i64 0, .int .i64 0], .int .i64 1]) (by simp [results, Try.results12, go_sem, q0, q1, q2]) rfl ⟨rfl, ?_⟩
    have hle := K3.out.size
    exact ((K3.out.setCell (by simp) _).setCell (by simp) _).setCell (by simp) _

/-- The config that is made up, of dice that told N numbers. -/
def cfN (s N P T G : Nat) : Nat × Nat × Nat := (1 + rem (num s (N + 1)) P, 1 + rem (num s (N + 1)) P + rem (num s (N + 2)) (T - (1 + rem (num s (N + 1)) P) + 1), 1 + rem (num s (N + 3)) G)
theorem cfN_right (s N P T G : Nat) (h : May P T G) : May (cfN s N P T G).1 (cfN s N P T G).2.1 (cfN s N P T G).2.2 ∧ (cfN s N P T G).1 ≤ P ∧ (cfN s N P T G).2.1 ≤ T ∧ (cfN s N P T G).2.2 ≤ G := by
  obtain ⟨h1, h2, h3, h4, h5, h6⟩ := h.h
  have a := rem_lt (num s (N + 1)) P (by omega)
  have b := rem_lt (num s (N + 2)) (T - (1 + rem (num s (N + 1)) P) + 1) (by omega)
  have c := rem_lt (num s (N + 3)) G (by omega)
  unfold cfN
  dsimp only
  refine ⟨⟨?_⟩, ?_⟩ <;> omega

theorem refBelow_lit (w : World) (r s N : Nat) (m kv : Int) (k : Nat) (hm : m = (k : Int)) (hs : s < 18446744073709551616) (hN : N ≤ 100000) (h : Rd w r s N) (hk : 1 ≤ k) (hk2 : k ≤ 9223372036854775807) (hkv : ((rem (num s (N + 1)) k : Nat) : Int) = kv) :
    Calls Try.prog 8 #[.pointer (some ⟨r, 0, none⟩), .int .i64 m] w fun e w' => e = .returned (.int .i64 kv) ∧ Rd w' r s (N + 1) ∧ But [r] w w' := by
  subst hm; subst hkv; exact refBelow_any w r s N k hs hN h hk hk2

/-- The boxes of a config that came in, at block z, and of the answer, at the next one. -/
structure Bx (w wr : World) (z c : Nat) (P T G : Int) : Prop where
  arg : wr.heap[z]? = some (.cells #[.int .i64 P, .int .i64 T, .int .i64 G] 34 (0, 0))
  res : wr.heap[z + 1]? = some (.cells #[.int .i64 0, .int .i64 0, .int .i64 0] 34 (0, 0))
  but : But [c] w wr
  z : z = w.heap.size ∧ c < z
theorem bx_start (w : World) (c : Nat) (P T G : Int) (hc : c < w.heap.size) : Bx w ((w.alloc (.cells #[.int .i64 P, .int .i64 T, .int .i64 G] 34)).alloc (.cells #[.int .i64 0, .int .i64 0, .int .i64 0] 34)) w.heap.size c P T G := by
  obtain ⟨a, b, d⟩ := box_after (w := w) (o1 := .cells #[.int .i64 P, .int .i64 T, .int .i64 G] 34) (o2 := .cells #[.int .i64 0, .int .i64 0, .int .i64 0] 34) (Below.refl _ _)
  exact ⟨a, b, But.of_below d, rfl, hc⟩
theorem Bx.step {w wr w' : World} {z c : Nat} {P T G : Int} (h : Bx w wr z c P T G) (hb : But [c] wr w') : Bx w w' z c P T G := by
  have hz := h.z
  exact ⟨(hb.block z (block_lt h.arg) (by simp; omega)).trans h.arg, (hb.block (z + 1) (block_lt h.res) (by simp; omega)).trans h.res, h.but.trans hb, hz⟩
theorem Bx.a0 {w wr : World} {z c : Nat} {P T G : Int} (h : Bx w wr z c P T G) : wr.cell? ⟨z, 0, none⟩ = some (.int .i64 P) := by have := h.arg; simp [World.cell?, this]
theorem Bx.a1 {w wr : World} {z c : Nat} {P T G : Int} (h : Bx w wr z c P T G) : wr.cell? ⟨z, 1, none⟩ = some (.int .i64 T) := by have := h.arg; simp [World.cell?, this]
theorem Bx.a2 {w wr : World} {z c : Nat} {P T G : Int} (h : Bx w wr z c P T G) : wr.cell? ⟨z, 2, none⟩ = some (.int .i64 G) := by have := h.arg; simp [World.cell?, this]
theorem Bx.r {w wr : World} {z c : Nat} {P T G : Int} (h : Bx w wr z c P T G) : wr.cell? ⟨z + 1, 0, none⟩ = some (.int .i64 0) ∧ wr.cell? ⟨z + 1, 1, none⟩ = some (.int .i64 0) ∧ wr.cell? ⟨z + 1, 2, none⟩ = some (.int .i64 0) := by have := h.res; exact ⟨by simp [World.cell?, this], by simp [World.cell?, this], by simp [World.cell?, this]⟩
theorem Bx.f {w wr : World} {z c : Nat} {P T G : Int} (h : Bx w wr z c P T G) (i : Nat) : wr.frozen? ⟨z + 1, i, none⟩ = false := by have := h.res; simp [World.frozen?, this]

set_option maxHeartbeats 1000000 in
theorem refConfig_yes (w : World) (r s N P T G : Nat) (hs : s < 18446744073709551616) (hN : N ≤ 90000) (h : Rd w r s N) (hM : May P T G) :
    Calls Try.prog 15 #[.pointer (some ⟨r, 0, none⟩), .agg #[.int .i64 (P : Int), .int .i64 (T : Int), .int .i64 (G : Int)]] w fun e w' =>
      e = .returned (.agg #[.int .i64 ((cfN s N P T G).1 : Nat), .int .i64 ((cfN s N P T G).2.1 : Nat), .int .i64 ((cfN s N P T G).2.2 : Nat)]) ∧ Rd w' r s (N + 3) ∧ But [r] w w' := by
  obtain ⟨h1, h2, h3, h4, h5, h6⟩ := hM.h
  have hrlt := h.lt
  obtain ⟨r1, HR1, hr1⟩ : ∃ r1 : Nat, Hid (rem (num s (N + 1)) P = r1) ∧ r1 < P := ⟨_, rfl, rem_lt _ _ (by omega)⟩
  obtain ⟨r2, HR2, hr2⟩ : ∃ r2 : Nat, Hid (rem (num s (N + 2)) (T - (1 + r1) + 1) = r2) ∧ r2 < T - (1 + r1) + 1 := ⟨_, rfl, rem_lt _ _ (by omega)⟩
  obtain ⟨r3, HR3, hr3⟩ : ∃ r3 : Nat, Hid (rem (num s (N + 3)) G = r3) ∧ r3 < G := ⟨_, rfl, rem_lt _ _ (by omega)⟩
  have HCF : Hid (cfN s N P T G = (1 + r1, 1 + r1 + r2, 1 + r3)) := by show _ = _; unfold cfN; rw [HR1.out, HR2.out, HR3.out]
  have HS := Lib.hid hs
  have HX := Lib.hid (show Rd ((w.alloc (.cells #[.int .i64 (P : Int), .int .i64 (T : Int), .int .i64 (G : Int)] 34)).alloc (.cells #[.int .i64 0, .int .i64 0, .int .i64 0] 34)) r s N from (h.below (((Below.refl _ _).alloc (Nat.le_refl _) _).alloc (by simp) _) hrlt))
  have HB := Lib.hid (bx_start w r P T G hrlt)
  clear h hs hM
  go_enter Try.func15, Try.ntmps15
  go_wp2_with fail
  refine (refBelow_lit _ r s N P r1 P rfl HS.out (by omega) HX.out (by omega) (by omega) (by rw [HR1.out])).mono ?_; rintro e w1 ⟨rfl, hD, hB⟩
  have HB1 := Lib.hid (HB.out.step hB)
  have HD1 := Lib.hid hD
  have b1 := HB1.out.a1
  clear hD hB
  go_wp2_with fail
  refine (refBelow_lit _ r s (N + 1) ((T : Int) - (1 + (r1 : Int)) + 1) r2 (T - (1 + r1) + 1) (by omega) HS.out (by omega) HD1.out (by omega) (by omega) (by rw [HR2.out])).mono ?_; rintro e w2 ⟨rfl, hD, hB⟩
  have HB2 := Lib.hid (HB1.out.step hB)
  have HD2 := Lib.hid hD
  have b2 := HB2.out.a2
  clear hD hB b1
  go_wp2_with fail
  refine (refBelow_lit _ r s (N + 2) G r3 G rfl HS.out (by omega) HD2.out (by omega) (by omega) (by rw [HR3.out])).mono ?_; rintro e w3 ⟨rfl, hD, hB⟩
  have HB3 := Lib.hid (HB2.out.step hB)
  have HD3 := Lib.hid hD
  obtain ⟨q0, q1, q2⟩ := HB3.out.r
  have f0 := HB3.out.f 0
  have f1 := HB3.out.f 1
  have f2 := HB3.out.f 2
  clear hD hB b2
  go_wp2_with fail
  rw [HCF.out]
  refine bodyPost_ret (v := .agg #[.int .i64 (1 + (r1 : Int)), .int .i64 (1 + (r1 : Int) + (r2 : Int)), .int .i64 (1 + (r3 : Int))]) (by simp [results, Try.results15, go_sem, q0, q1, q2]) rfl ⟨by simp, ?_, ?_⟩
  · have hz := HB3.out.z
    exact (((heap_set_ne _ (by omega) _ _).trans (heap_set_ne _ (by omega) _ _)).trans (heap_set_ne _ (by omega) _ _)).trans HD3.out
  · have hs := HB3.out.but.size
    exact (((HB3.out.but.set (Or.inr (by omega)) _ _).set (Or.inr (by omega)) _ _).set (Or.inr (by omega)) _ _)

theorem bx_store {w w2 Y : World} {c d : Nat} {P T G : Int} (h : Bx w w2 w.heap.size c P T G) (hb : But [d] w2 Y) (hz : w.heap.size + 1 < d) :
    Bx w Y w.heap.size c P T G :=
  ⟨(hb.block _ (block_lt h.arg) (by simp; omega)).trans h.arg, (hb.block _ (block_lt h.res) (by simp; omega)).trans h.res,
    ⟨hb.os.trans h.but.os, hb.tape.trans h.but.tape, hb.output.trans h.but.output, Nat.le_trans h.but.size hb.size, fun k hk hc => (hb.block k (Nat.lt_of_lt_of_le hk h.but.size) (by simp; omega)).trans (h.but.block k hk hc)⟩, h.z⟩
theorem bx_mid {w Y w3 : World} {c d S2 : Nat} {P T G x : Int} (h : Bx w Y w.heap.size c P T G) (hY : Y.heap[d]? = some (.cells #[.int .i64 x, .int .i64 0, .int .i64 0] 34 (0, 0))) (hB : But [c] Y.drew w3) (hD : Dc w3 c S2) (hc : c < w.heap.size) (hz : w.heap.size + 1 < d) :
    (w3.cell? ⟨d, 0, none⟩ = some (.int .i64 x) ∧ w3.cell? ⟨w.heap.size, 1, none⟩ = some (.int .i64 T)) ∧ (w3.frozen? ⟨d, 1, none⟩ = false ∧ w3.cell? ⟨d, 1, none⟩ = some (.int .i64 0)) ∧ Hid (Bx w w3 w.heap.size c P T G) ∧ Hid (Dc w3 c S2) ∧ Hid (w3.heap[d]? = some (.cells #[.int .i64 x, .int .i64 0, .int .i64 0] 34 (0, 0))) := by
  have hb := hB.undrew
  have hk := (hb.block d (block_lt hY) (by simp; omega)).trans hY
  have hB3 := h.step hb
  exact ⟨⟨by simp [World.cell?, hk], hB3.a1⟩, ⟨by simp [World.frozen?, hk], by simp [World.cell?, hk]⟩, hB3, hD, hk⟩
theorem keep_store {d z : Nat} {x T : Int} (hz : z + 1 < d) (X : World) (v : Value) (h : X.cell? ⟨d, 0, none⟩ = some (.int .i64 x) ∧ X.cell? ⟨z, 1, none⟩ = some (.int .i64 T)) :
    (X.setCell ⟨d, 1, none⟩ v).cell? ⟨d, 0, none⟩ = some (.int .i64 x) ∧ (X.setCell ⟨d, 1, none⟩ v).cell? ⟨z, 1, none⟩ = some (.int .i64 T) :=
  ⟨(World.cell?_setCell_other _ _ _ _ (by simp)).trans h.1, (World.cell?_setCell_other _ _ _ _ (fun e => by cases e; omega)).trans h.2⟩
set_option maxHeartbeats 1000000 in
theorem config_yes (w : World) (c S P T G : Nat) (hs : S < 18446744073709551616) (h : Dc w c S) (hM : May P T G) :
    Calls Try.prog 12 #[.pointer (some ⟨c, 0, none⟩), .agg #[.int .i64 (P : Int), .int .i64 (T : Int), .int .i64 (G : Int)]] w fun e w' =>
      e = .returned (.tuple #[.agg #[.int .i64 ((cfN S 0 P T G).1 : Nat), .int .i64 ((cfN S 0 P T G).2.1 : Nat), .int .i64 ((cfN S 0 P T G).2.2 : Nat)], .int .i64 0]) ∧ Dc w' c (st S 3) ∧ But [c] w w' := by
  obtain ⟨h1, h2, h3, h4, h5, h6⟩ := hM.h
  have hrlt := h.lt
  obtain ⟨r1, HR1, hr1⟩ : ∃ r1 : Nat, Hid (rem (num S 1) P = r1) ∧ r1 < P := ⟨_, rfl, rem_lt _ _ (by omega)⟩
  obtain ⟨r2, HR2, hr2⟩ : ∃ r2 : Nat, Hid (rem (num S 2) (T - (1 + r1) + 1) = r2) ∧ r2 < T - (1 + r1) + 1 := ⟨_, rfl, rem_lt _ _ (by omega)⟩
  obtain ⟨r3, HR3, hr3⟩ : ∃ r3 : Nat, Hid (rem (num S 3) G = r3) ∧ r3 < G := ⟨_, rfl, rem_lt _ _ (by omega)⟩
  have HCF : Hid (cfN S 0 P T G = (1 + r1, 1 + r1 + r2, 1 + r3)) := by show _ = _; unfold cfN; rw [HR1.out, HR2.out, HR3.out]
  have HS := Lib.hid hs
  have HX := Lib.hid (show Dc ((w.alloc (.cells #[.int .i64 (P : Int), .int .i64 (T : Int), .int .i64 (G : Int)] 34)).alloc (.cells #[.int .i64 0, .int .i64 0, .int .i64 0] 34)) c S from (h.below (((Below.refl _ _).alloc (Nat.le_refl _) _).alloc (by simp) _) hrlt))
  have HB := Lib.hid (bx_start w c P T G hrlt)
  have HMM := Lib.hid hM
  clear h hs hM
  go_enter Try.func12, Try.ntmps12
  go_wp2_with fail
  go_at_call 21; refine (right_yes P T G HMM.out _).mono ?_; rintro e w1 ⟨rfl, hb1⟩
  have HB1 := Lib.hid (HB.out.step (But.of_below hb1))
  have HD1 := Lib.hid (HX.out.below hb1 HX.out.lt)
  have HBa := Lib.hid (HB1.out.step (But.of_below ((Below.refl _ _).alloc (Nat.le_refl _) (.cells #[.int .i64 0, .int .i64 0, .int .i64 0] 34))))
  have HDa := Lib.hid (HD1.out.below ((Below.refl _ _).alloc (Nat.le_refl _) (.cells #[.int .i64 0, .int .i64 0, .int .i64 0] 34)) HD1.out.lt)
  have HBd := Lib.hid (heap_alloc_new w1 (.cells #[.int .i64 0, .int .i64 0, .int .i64 0] 34))
  have b0 := HBa.out.a0
  have hz1 := Nat.lt_of_lt_of_le (block_lt HB1.out.res) (Nat.le_refl _)
  have hcz := HB1.out.z
  clear hb1
  go_wp2_with fail
  refine (below_lit _ c S P r1 P rfl HS.out HDa.out (by omega) (by omega) (by rw [HR1.out])).mono ?_; rintro e w2 ⟨rfl, hD, hB⟩
  generalize hd : w1.heap.size = d at HBd hz1 ⊢
  clear hd
  have HB2 := Lib.hid (HBa.out.step hB)
  have HD2 := Lib.hid hD
  have hBd2 := (hB.block d (block_lt HBd.out) (by simp; omega)).trans HBd.out
  have HBd2 := Lib.hid hBd2
  have d0 : w2.cell? ⟨d, 0, none⟩ = some (.int .i64 0) := by simp [World.cell?, hBd2]
  have e0 : w2.frozen? ⟨d, 0, none⟩ = false := by simp [World.frozen?, hBd2]
  clear hD hB hBd2 b0
  go_wp2_with fail
  generalize hY : w2.setCell ⟨d, 0, none⟩ (.int .i64 (1 + (r1 : Int))) = Y
  have hYd : Y.heap[d]? = some (.cells #[.int .i64 (1 + (r1 : Int)), .int .i64 0, .int .i64 0] 34 (0, 0)) := by rw [← hY]; exact heap_set HBd2.out 0 _
  have hYB : But [d] w2 Y := by rw [← hY]; exact (But.refl _ _).set (Or.inl (by simp)) 0 _
  have HYd := Lib.hid hYd
  have HBY := Lib.hid (bx_store HB2.out hYB hz1)
  have HDY := Lib.hid (HD2.out.but hYB (by simp; omega))
  have y0 : Y.cell? ⟨d, 0, none⟩ = some (.int .i64 (1 + (r1 : Int))) := by simp [World.cell?, hYd]
  have y1 : Y.cell? ⟨w.heap.size, 1, none⟩ = some (.int .i64 (T : Int)) := HBY.out.a1
  have hw1 : IntKind.i64.wrap ((T : Int) - (1 + (r1 : Int))) = (T : Int) - (1 + (r1 : Int)) := IntWalk.i64_in _ (by omega)
  have hw2 : IntKind.i64.wrap ((T : Int) - (1 + (r1 : Int)) + 1) = (T : Int) - (1 + (r1 : Int)) + 1 := IntWalk.i64_in _ (by omega)
  have hw3 : IntKind.i64.wrap (1 + (r1 : Int) + (r2 : Int)) = 1 + (r1 : Int) + (r2 : Int) := IntWalk.i64_in _ (by omega)
  have HW3 := Lib.hid hw3
  have HSS : Hid (st S 1 < 18446744073709551616) := st_lt _ _
  have HRR2 : Hid (((rem (num (st S 1) 1) (T - (1 + r1) + 1) : Nat) : Int) = (r2 : Int)) := by show _ = _; rw [num_st2, HR2.out]
  have HDYd : Hid (Dc Y.drew c (st S 1)) := HDY.out
  have hH : Y.drew.cell? ⟨d, 0, none⟩ = some (.int .i64 (1 + (r1 : Int))) ∧ Y.drew.cell? ⟨w.heap.size, 1, none⟩ = some (.int .i64 (T : Int)) := ⟨y0, y1⟩
  have hc1 : IntKind.i64.wrap (IntKind.i64.wrap ((T : Int) - (1 + (r1 : Int))) + 1) = (((T - (1 + r1) + 1 : Nat) : Int)) := by rw [hw1, hw2]; omega
  have HC1 := Lib.hid hc1
  have HK1 := Lib.hid (show 1 ≤ T - (1 + r1) + 1 ∧ T - (1 + r1) + 1 ≤ 9223372036854775807 from by omega)
  have HHH := Lib.hid (show ((1 : Int) ≤ P ∧ (P : Int) ≤ 64 ∧ (P : Int) ≤ T ∧ (T : Int) ≤ 256 ∧ (1 : Int) ≤ G ∧ (G : Int) ≤ 65536) ∧ r1 < P ∧ r2 < T - (1 + r1) + 1 ∧ r3 < G from ⟨⟨h1, h2, h3, h4, h5, h6⟩, hr1, hr2, hr3⟩)
  have HCZ := Lib.hid (show c < w.heap.size ∧ w.heap.size + 1 < d from ⟨hcz.2, hz1⟩)
  have KST : Hid (∀ (X : World) (v : Value), (X.cell? ⟨d, 0, none⟩ = some (.int .i64 (1 + (r1 : Int))) ∧ X.cell? ⟨w.heap.size, 1, none⟩ = some (.int .i64 (T : Int))) → (X.setCell ⟨d, 1, none⟩ v).cell? ⟨d, 0, none⟩ = some (.int .i64 (1 + (r1 : Int))) ∧ (X.setCell ⟨d, 1, none⟩ v).cell? ⟨w.heap.size, 1, none⟩ = some (.int .i64 (T : Int))) := keep_store hz1
  clear hw1 hw2 hw3 hc1 hY hYB hYd d0 e0 y0 y1 h1 h2 h3 h4 h5 h6 hr1 hr2 hr3 hcz
  go_region_held3 (fun w' => w'.cell? ⟨d, 0, none⟩ = some (.int .i64 (1 + (r1 : Int))) ∧ w'.cell? ⟨w.heap.size, 1, none⟩ = some (.int .i64 (T : Int))) (first | (with_reducible exact hH) | (with_reducible assumption) | exact KST.out _ _ ‹_›) (first | (go_at_call 9; (with_reducible refine (below_lit _ c (st S 1) (IntKind.i64.wrap (IntKind.i64.wrap ((T : Int) - (1 + (r1 : Int))) + 1)) r2 (T - (1 + r1) + 1) HC1.out HSS.out HDYd.out HK1.out.1 HK1.out.2 HRR2.out).mono ?_); rintro e w3 ⟨rfl, hD3, hB3⟩; obtain ⟨hk, ⟨g1, g2⟩, HB3, HD3, HBd3⟩ := bx_mid HBY.out HYd.out hB3 hD3 HCZ.out.1 HCZ.out.2; clear hB3 hD3))
  rename_i hHeld
  rw [HW3.out]
  generalize hZ : w3.setCell ⟨d, 1, none⟩ (.int .i64 (1 + (r1 : Int) + (r2 : Int))) = Z
  have hZd : Z.heap[d]? = some (.cells #[.int .i64 (1 + (r1 : Int)), .int .i64 (1 + (r1 : Int) + (r2 : Int)), .int .i64 0] 34 (0, 0)) := by rw [← hZ]; exact heap_set HBd3.out 1 _
  have hZB : But [d] w3 Z := by rw [← hZ]; exact (But.refl _ _).set (Or.inl (by simp)) 1 _
  have HZd := Lib.hid hZd
  have HBZ := Lib.hid (bx_store HB3.out hZB HCZ.out.2)
  have HDZ := Lib.hid (HD3.out.but hZB (by have := HCZ.out; simp; omega))
  have z2 := HBZ.out.a2
  have HGG := Lib.hid (show 1 ≤ G ∧ G ≤ 9223372036854775807 from by have := HHH.out; omega)
  have HS2 : Hid (st (st S 1) 1 < 18446744073709551616) := st_lt _ _
  have HRR3 : Hid (((rem (num (st (st S 1) 1) 1) G : Nat) : Int) = (r3 : Int)) := by show _ = _; rw [num_st2, num_st2, HR3.out]
  clear hZ hZB hZd hHeld hk g1 g2
  go_wp2_with fail
  refine (below_lit _ c (st (st S 1) 1) (G : Int) r3 G rfl HS2.out HDZ.out HGG.out.1 HGG.out.2 HRR3.out).mono ?_; rintro e w4 ⟨rfl, hD4, hB4⟩
  have HB4 := Lib.hid (HBZ.out.step hB4)
  have HD4 := Lib.hid hD4
  have hBd4 := (hB4.block d (block_lt HZd.out) (by have := HCZ.out; simp; omega)).trans HZd.out
  have HBd4 := Lib.hid hBd4
  have d0 : w4.cell? ⟨d, 0, none⟩ = some (.int .i64 (1 + (r1 : Int))) := by simp [World.cell?, hBd4]
  have d1 : w4.cell? ⟨d, 1, none⟩ = some (.int .i64 (1 + (r1 : Int) + (r2 : Int))) := by simp [World.cell?, hBd4]
  have d2 : w4.cell? ⟨d, 2, none⟩ = some (.int .i64 0) := by simp [World.cell?, hBd4]
  have e2 : w4.frozen? ⟨d, 2, none⟩ = false := by simp [World.frozen?, hBd4]
  obtain ⟨q0, q1, q2⟩ := HB4.out.r
  have f0 := HB4.out.f 0
  have f1 := HB4.out.f 1
  have f2 := HB4.out.f 2
  have hr3 : (r3 : Int) ≤ 65536 := by have := HHH.out; omega
  have hne : ¬ d = w.heap.size + 1 := by omega
  have hne2 : ¬ w.heap.size + 1 = d := by omega
  clear hD4 hB4 hBd4 z2
  go_wp2_with fail
  rw [HCF.out]
  have hcz := HCZ.out
  have hsz := HB4.out.but.size
  refine bodyPost_ret (v := .tuple #[.agg #[.int .i64 (1 + (r1 : Int)), .int .i64 (1 + (r1 : Int) + (r2 : Int)), .int .i64 (1 + (r3 : Int))], .int .i64 0]) (by simp [results, Try.results12, go_sem, q0, q1, q2]) rfl ⟨by simp, ?_, ?_⟩
  · have e := HD4.out
    rw [st_st2, st_st2] at e
    exact ((((heap_set_ne _ (by omega) _ _).trans (heap_set_ne _ (by omega) _ _)).trans (heap_set_ne _ (by omega) _ _)).trans (heap_set_ne _ (by omega) _ _)).trans e
  · exact (((HB4.out.but.set (Or.inr (by omega)) _ _).set (Or.inr (by omega)) _ _).set (Or.inr (by omega)) _ _).set (Or.inr (by omega)) _ _
end Go.Proofs.Yteibdjbipfimeaa
