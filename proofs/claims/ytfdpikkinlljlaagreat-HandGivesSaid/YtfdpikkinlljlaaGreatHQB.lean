/- HandGives: the walk. -/
import Derived.Test.YtfdpikkinlljlaaGreatHMAA
import Derived.Deep.RegionLaw
import Derived.Deep.AppendLies
import Derived.Deep.Cut
import Derived.Deep.CutRange
import Derived.Test.YtfdpikkinlljlaaGreatHQA
import Derived.Test.YtfdpikkinlljlaaGreatHMAS
import Derived.Test.YtfdpikkinlljlaaGreatHMAC
namespace Go.Proofs.YtfdpikkinlljlaaGreat
open Go Go.RowKit
set_option linter.unusedVariables false
set_option maxRecDepth 100000
set_option linter.unusedSimpArgs false

theorem info80 : (Tryz.prog.info? 80).map (fun i => (i.zero, i.size, i.bytes)) = some (some (.agg #[.int .i64 0, .int .u64 0]), 2, 16) := by kernel_rfl
theorem hgV_bd {P T p : Int} {x0 x1 x2 x3 x4 : Bool} (hP : 2 ≤ P ∧ P ≤ 4) (hT : P ≤ T ∧ T ≤ 8) (hp : 0 ≤ p ∧ p < P) (i : Nat) : 0 ≤ hgV (hgL P T p x0 x1 x2 x3 x4) i ∧ hgV (hgL P T p x0 x1 x2 x3 x4) i ≤ 18446744073709551615 := by
  have hq : 0 ≤ hgQ P p ∧ hgQ P p < 4 := ⟨Int.emod_nonneg _ (by omega), by have := Int.emod_lt_of_pos (p + 1) (show 0 < P by omega); unfold hgQ; omega⟩
  have h : ∀ a ∈ hgL P T p x0 x1 x2 x3 x4, 0 ≤ a.2 ∧ a.2 ≤ 18446744073709551615 := by
    unfold hgL
    generalize hgQ P p = q at *
    have hq2 : (0 : Int) ≤ 2 ^ q.toNat ∧ (2 : Int) ^ q.toNat ≤ 8 := by
      rcases (by omega : q = 0 ∨ q = 1 ∨ q = 2 ∨ q = 3) with rfl | rfl | rfl | rfl <;> decide
    intro a ha
    simp only [List.mem_append] at ha
    unfold hg0 hg1 hg2 hg3 hg4 at ha
    rcases ha with (((ha | ha) | ha) | ha) | ha
    · split at ha
      · simp only [List.mem_cons, List.not_mem_nil, or_false] at ha
        rcases ha with rfl | rfl <;> simp
      · cases ha
    · split at ha
      · simp only [List.mem_cons, List.not_mem_nil, or_false] at ha
        rcases ha with rfl | rfl | rfl <;> simp
      · cases ha
    · split at ha
      · simp only [List.mem_cons, List.not_mem_nil, or_false] at ha
        subst ha; simp
      · cases ha
    · split at ha
      · simp only [List.mem_cons, List.not_mem_nil, or_false] at ha
        rcases ha with rfl | rfl | rfl
        · exact ⟨by show 0 ≤ q + 1; omega, by show q + 1 ≤ 18446744073709551615; omega⟩
        · simp
        · exact ⟨hq2.1, by show (2 : Int) ^ q.toNat ≤ 18446744073709551615; omega⟩
      · cases ha
    · simp only [List.mem_cons, List.not_mem_nil, or_false] at ha
      subst ha
      show 0 ≤ (if x4 = true then T - 1 else T) ∧ (if x4 = true then T - 1 else T) ≤ 18446744073709551615
      split <;> omega
  unfold hgV
  by_cases hi : i < (hgL P T p x0 x1 x2 x3 x4).length
  · rw [List.getD_eq_getElem?_getD, List.getElem?_eq_getElem hi]
    exact h _ (List.getElem_mem hi)
  · rw [List.getD_eq_getElem?_getD, List.getElem?_eq_none (by omega)]
    exact ⟨by show (0 : Int) ≤ 0; omega, by show (0 : Int) ≤ 18446744073709551615; omega⟩
theorem hg_shift (q : Int) (h : 0 ≤ q ∧ q < 4) (W : World) : Sem.run Tryz.prog (Op.shift BinOp.shl IntKind.u64 1 IntKind.i64 q) W = Result.ok (.int .u64 ((2 : Int) ^ q.toNat)) W := by
  rcases (by omega : q = 0 ∨ q = 1 ∨ q = 2 ∨ q = 3) with rfl | rfl | rfl | rfl <;> rfl
set_option maxHeartbeats 16000000 in
theorem handGives_ok (P T G p : Int) (x0 x1 x2 x3 x4 : Bool) (w : World) (hP : 2 ≤ P ∧ P ≤ 4) (hT : P ≤ T ∧ T ≤ 8) (hp : 0 ≤ p ∧ p < P) :
    Calls Tryz.prog 6 #[.agg #[.int .i64 P, .int .i64 T, .int .i64 G], .int .i64 p, .agg #[.bool x0, .bool x1, .bool x2, .bool x3, .bool x4]] w fun e w' => e = .returned (.bool true) ∧ Below w.heap.size w w' := by
  obtain ⟨i0, hi, hz0, hz1, hz2⟩ := info_parts info80
  have HX : Hid ((2 ≤ P ∧ P ≤ 4) ∧ (P ≤ T ∧ T ≤ 8) ∧ (0 ≤ p ∧ p < P)) := ⟨hP, hT, hp⟩
  obtain ⟨q, hq⟩ : ∃ q, hgQ P p = q := ⟨_, rfl⟩
  have d1 : ¬ P < 2 := by omega
  have d2 : ¬ 4 < P := by omega
  have d3 : ¬ T < P := by omega
  have d4 : ¬ 8 < T := by omega
  have d5 : ¬ p < 0 := by omega
  have d6 : ¬ P ≤ p := by omega
  have e1 : Int.tmod (p + 1) P = q := by rw [Int.tmod_eq_emod_of_nonneg (by omega)]; exact hq
  have hq0 : 0 ≤ q ∧ q < P := ⟨by rw [← hq]; exact Int.emod_nonneg _ (by omega), by rw [← hq]; exact Int.emod_lt_of_pos _ (by omega)⟩
  have e2 : IntKind.i64.wrap q = q := by simp [IntKind.wrap, IntKind.bits, IntKind.signed]; omega
  have e3 : IntKind.i64.wrap (p + 1) = p + 1 := by simp [IntKind.wrap, IntKind.bits, IntKind.signed]; omega
  have hPne : (P == 0) = false := by simp; omega
  have hPn : P ≠ 0 := by omega
  have HQ : Hid (0 ≤ q ∧ q < P ∧ hgQ P p = q) := ⟨hq0.1, hq0.2, hq⟩
  have HPr : Hid (∀ f : Int, 0 ≤ f ∧ f < 8 → ∀ Y : World, Calls Tryz.prog 40 #[.int .i64 p, .int .i64 f] Y fun e w' => e = .returned (.int .i64 (20 + 264 * p + f)) ∧ Y = w') := fun f hf Y => rprc_any p f Y (by omega) hf
  have HRi : Hid (∀ Y : World, Calls Tryz.prog 41 #[.int .i64 p, .int .u64 0] Y fun e w' => e = .returned (.int .i64 (28 + 264 * p)) ∧ Y = w') := fun Y => by
    have h := rrng_any p 0 Y (by omega) (by omega)
    rw [show 28 + 264 * p + 0 % 256 = 28 + 264 * p by omega] at h
    exact h
  clear hP hT hp hq
  go_enter Tryz.func6, Tryz.ntmps6
  go_upto_if 72 with fail
  have HG0 : Hid (PuG w (((w.alloc (.cells #[.int .i64 P, .int .i64 T, .int .i64 3] 23)).alloc (.cells #[.bool x0, .bool x1, .bool x2, .bool x3, .bool x4] 77)).alloc (.cells #[.int .i64 P, .int .i64 T, .int .i64 3, .slice none 0 0] 26)) P T #[.bool x0, .bool x1, .bool x2, .bool x3, .bool x4] [] (.slice none 0 0)) := by
    have h0 := Blk.new w #[.int .i64 P, .int .i64 T, .int .i64 3] 23
    have h1 := Blk.new (w.alloc (.cells #[.int .i64 P, .int .i64 T, .int .i64 3] 23)) #[.bool x0, .bool x1, .bool x2, .bool x3, .bool x4] 77
    have h2 := Blk.new ((w.alloc (.cells #[.int .i64 P, .int .i64 T, .int .i64 3] 23)).alloc (.cells #[.bool x0, .bool x1, .bool x2, .bool x3, .bool x4] 77)) #[.int .i64 P, .int .i64 T, .int .i64 3, .slice none 0 0] 26
    simp only [World.size_alloc] at h1 h2
    exact ⟨(h0.al _).al _, h1.al _, h2, ⟨rfl, .inl ⟨rfl, rfl⟩⟩, ⟨by simp [Value.ownBlock], by simp [Value.ownBlock], by simp [Value.ownBlock]⟩, (((Below.refl _ _).alloc (Nat.le_refl _) _).alloc (by simp) _).alloc (by simp; omega) _⟩
  generalize (((w.alloc (.cells #[.int .i64 P, .int .i64 T, .int .i64 3] 23)).alloc (.cells #[.bool x0, .bool x1, .bool x2, .bool x3, .bool x4] 77)).alloc (.cells #[.int .i64 P, .int .i64 T, .int .i64 3, .slice none 0 0] 26)) = W0 at *
  clear d1 d2 d3 d4 d5 d6 e1 e2 e3 hPne hPn hq0
  go_cut [] from 28 to 83 (fun wx => ∃ v : Value, Hid (PuG w wx P T #[.bool x0, .bool x1, .bool x2, .bool x3, .bool x4] (hg0 p x0) v))
  case first =>
    cases x0
    · go_wp2_with fail
      go_meet
      case rel => exact ⟨_, HG0⟩
    · obtain ⟨v, hv⟩ : ∃ v, (Value.slice none 0 0) = v := ⟨_, rfl⟩
      rw [hv] at HG0
      clear hv
      have HG := HG0
      clear HG0
      obtain ⟨L, hL⟩ : ∃ L : List (Int × Int), [] = L := ⟨_, rfl⟩
      have HL : Hid (L.length ≤ 0 ∧ [] = L) := ⟨by rw [← hL]; simp, hL⟩
      rw [hL] at HG
      clear hL
      obtain ⟨n, hn⟩ : ∃ n, L.length = n := ⟨_, rfl⟩
      obtain ⟨E, cp, rfl⟩ : ∃ E cp, v = .slice E n cp := by rw [← hn]; exact HG.out.val
      have hb := HG.out.blk
      have hA : (W0.alloc (.cells #[.int .i64 (20 + 264 * p + 2), .int .u64 (1), .int .i64 (28 + 264 * p), .int .u64 (1)] 80)).drew.cell? ⟨w.heap.size + 1 + 1, 3, none⟩ = some (.slice E n cp) ∧ (W0.alloc (.cells #[.int .i64 (20 + 264 * p + 2), .int .u64 (1), .int .i64 (28 + 264 * p), .int .u64 (1)] 80)).drew.frozen? ⟨w.heap.size + 1 + 1, 3, none⟩ = false := ⟨((hb.al _).drew).cell 3 rfl, ((hb.al _).drew).fro 3⟩
      have g3 := hb.cell 3 (v := .slice E n cp) rfl
      have HA : Hid _ := hA
      obtain ⟨hA1, hA2⟩ := hA
      have HFR : Hid ((Value.slice E n cp).ownBlock ≠ some (w.heap.size + 1 + 1) ∧ w.heap.size + 1 + 1 < W0.heap.size ∧ w.heap.size ≤ W0.heap.size ∧ n ≤ 0) := ⟨HG.out.far.2.2, hb.lt, HG.out.below.size, by rw [← hn]; exact HL.out.1⟩
      have HOW : Hid (W0.ownsRow w.heap.size 80 2 (.slice E n cp) n (hgC L)) := by
        have h := HG.out.own
        rw [hn] at h
        exact h
      have HN : Hid (L.length = n) := hn
      clear hb hn
      go_wp2_with fail
      go_region_law (first | (go_simp; refine (HPr.out 2 (by omega) _).mono ?_; rintro e y ⟨rfl, rfl⟩; go_simp) | (go_simp; refine (HRi.out _).mono ?_; rintro e y ⟨rfl, rfl⟩; go_simp) | (refine step_append_lies _ (by rfl) _ _ _ (by rfl) w.heap.size 80 i0 _ 2 16 Tryz.underlying24 hi hz0 hz1 hz2 rfl (by omega) (.slice E n cp) n (hgC L) (by rfl) ((HOW.out.alloc _).drew) ⟨W0.heap.size, 0, none⟩ 2 2 [.int .i64 (20 + 264 * p + 2), .int .u64 (1), .int .i64 (28 + 264 * p), .int .u64 (1)] (by rfl) (by rfl) (World.news_of_block (cs := #[.int .i64 (20 + 264 * p + 2), .int .u64 (1), .int .i64 (28 + 264 * p), .int .u64 (1)]) (t := 80) (fr := (0, 0)) (heap_alloc_new W0 _)) (by simp [Value.oneCell']) (by omega) (by have := HFR.out.2.2.2; unfold maxLen; omega) (by have := HFR.out.2.2.2; omega) (by have := HFR.out.2.2.1; simp; omega) (W0.heap.size + 1) (by simp) ?_; intro gg cap1 w1 hown1 hgrow hat hlt1; have q0 : w1.cell? ⟨w.heap.size + 1 + 1, 3, none⟩ = some (.slice E n cp) := (hgrow.cell_far ⟨w.heap.size + 1 + 1, 3, none⟩ (by have := HFR.out.2.1; simp; omega) (Ne.symm HFR.out.1)).trans HA.out.1; have q1 : w1.frozen? ⟨w.heap.size + 1 + 1, 3, none⟩ = false := (hgrow.frozen_far ⟨w.heap.size + 1 + 1, 3, none⟩ (by have := HFR.out.2.1; simp; omega) (Ne.symm HFR.out.1)).trans HA.out.2))
      all_goals
        have hN : Hid _ := PuG.next (m := [(20 + 264 * p + 2, 1), (28 + 264 * p, 1)]) ((HG.out.al (.cells #[.int .i64 (20 + 264 * p + 2), .int .u64 (1), .int .i64 (28 + 264 * p), .int .u64 (1)] 80)).drew) (n := n + 2) (by have := HN.out; rw [List.length_append]; simp; omega) (by rw [hgC_app]; exact hown1) hgrow (by rcases hat with h9 | h9; exact .inl h9; exact .inr (by simpa using h9)) hlt1
        clear hown1 hgrow hat hlt1 hA1 hA2 HA g3 HG HOW
        go_wp2_with fail
        go_meet
        case rel => exact ⟨_, by have h := hN; rw [← HL.out.2] at h; exact h⟩
  obtain ⟨v, HG1⟩ := hcut
  have ak := HG1.out.arg.cell 1 (v := .bool x1) rfl
  go_upto_if 85 with fail
  clear ak
  go_cut [] from 84 to 93 (fun wx => ∃ v : Value, Hid (PuG w wx P T #[.bool x0, .bool x1, .bool x2, .bool x3, .bool x4] (hg0 p x0 ++ hg1 x1) v))
  case first =>
    cases x1
    · go_wp2_with fail
      go_meet
      case rel => exact ⟨_, by rw [show (hg0 p x0 ++ hg1 false) = (hg0 p x0) from List.append_nil _]; exact HG1⟩
    · have HG := HG1
      clear HG1
      obtain ⟨L, hL⟩ : ∃ L : List (Int × Int), (hg0 p x0) = L := ⟨_, rfl⟩
      have HL : Hid (L.length ≤ 2 ∧ (hg0 p x0) = L) := ⟨by rw [← hL]; unfold hg0; split <;> simp, hL⟩
      rw [hL] at HG
      clear hL
      obtain ⟨n, hn⟩ : ∃ n, L.length = n := ⟨_, rfl⟩
      obtain ⟨E, cp, rfl⟩ : ∃ E cp, v = .slice E n cp := by rw [← hn]; exact HG.out.val
      have hb := HG.out.blk
      have hA : (wc.alloc (.cells #[.int .i64 (6), .int .u64 (2), .int .i64 (7), .int .u64 (2), .int .i64 (8), .int .u64 (1)] 80)).cell? ⟨w.heap.size + 1 + 1, 3, none⟩ = some (.slice E n cp) ∧ (wc.alloc (.cells #[.int .i64 (6), .int .u64 (2), .int .i64 (7), .int .u64 (2), .int .i64 (8), .int .u64 (1)] 80)).frozen? ⟨w.heap.size + 1 + 1, 3, none⟩ = false := ⟨(hb.al _).cell 3 rfl, (hb.al _).fro 3⟩
      have g3 := hb.cell 3 (v := .slice E n cp) rfl
      have HA : Hid _ := hA
      obtain ⟨hA1, hA2⟩ := hA
      have HFR : Hid ((Value.slice E n cp).ownBlock ≠ some (w.heap.size + 1 + 1) ∧ w.heap.size + 1 + 1 < wc.heap.size ∧ w.heap.size ≤ wc.heap.size ∧ n ≤ 2) := ⟨HG.out.far.2.2, hb.lt, HG.out.below.size, by rw [← hn]; exact HL.out.1⟩
      have HOW : Hid (wc.ownsRow w.heap.size 80 2 (.slice E n cp) n (hgC L)) := by
        have h := HG.out.own
        rw [hn] at h
        exact h
      have HN : Hid (L.length = n) := hn
      clear hb hn
      go_wp2_with (at_builtin; refine wpList_append_lies _ rfl _ _ 24 rfl w.heap.size 80 i0 _ 2 16 Tryz.underlying24 hi hz0 hz1 hz2 rfl (by omega) (.slice E n cp) n (hgC L) rfl (HOW.out.alloc _) ⟨wc.heap.size, 0, none⟩ 3 3 [.int .i64 (6), .int .u64 (2), .int .i64 (7), .int .u64 (2), .int .i64 (8), .int .u64 (1)] rfl rfl (World.news_of_block (cs := #[.int .i64 (6), .int .u64 (2), .int .i64 (7), .int .u64 (2), .int .i64 (8), .int .u64 (1)]) (t := 80) (fr := (0, 0)) (heap_alloc_new wc _)) (by simp [Value.oneCell']) (by omega) (by have := HFR.out.2.2.2; unfold maxLen; omega) (by have := HFR.out.2.2.2; omega) (by have := HFR.out.2.2.1; simp; omega) (wc.heap.size + 1) (by simp) ?_; intro gg cap1 w1 hown1 hgrow hat hlt1; have q0 : w1.cell? ⟨w.heap.size + 1 + 1, 3, none⟩ = some (.slice E n cp) := (hgrow.cell_far ⟨w.heap.size + 1 + 1, 3, none⟩ (by have := HFR.out.2.1; simp; omega) (Ne.symm HFR.out.1)).trans HA.out.1; have q1 : w1.frozen? ⟨w.heap.size + 1 + 1, 3, none⟩ = false := (hgrow.frozen_far ⟨w.heap.size + 1 + 1, 3, none⟩ (by have := HFR.out.2.1; simp; omega) (Ne.symm HFR.out.1)).trans HA.out.2)
      all_goals
        have hN : Hid _ := PuG.next (m := [(6, 2), (7, 2), (8, 1)]) ((HG.out.al (.cells #[.int .i64 (6), .int .u64 (2), .int .i64 (7), .int .u64 (2), .int .i64 (8), .int .u64 (1)] 80))) (n := n + 3) (by have := HN.out; rw [List.length_append]; simp; omega) (by rw [hgC_app]; exact hown1) hgrow (by rcases hat with h9 | h9; exact .inl h9; exact .inr (by simpa using h9)) hlt1
        clear hown1 hgrow hat hlt1 hA1 hA2 HA g3 HG HOW
        go_wp2_with fail
        go_meet
        case rel => exact ⟨_, by have h := hN; rw [← HL.out.2] at h; exact h⟩
  obtain ⟨v, HG2⟩ := hcut
  have ak := HG2.out.arg.cell 2 (v := .bool x2) rfl
  go_upto_if 95 with fail
  clear ak
  go_cut [] from 94 to 101 (fun wx => ∃ v : Value, Hid (PuG w wx P T #[.bool x0, .bool x1, .bool x2, .bool x3, .bool x4] (hg0 p x0 ++ hg1 x1 ++ hg2 x2) v))
  case first =>
    cases x2
    · go_wp2_with fail
      go_meet
      case rel => exact ⟨_, by rw [show (hg0 p x0 ++ hg1 x1 ++ hg2 false) = (hg0 p x0 ++ hg1 x1) from List.append_nil _]; exact HG2⟩
    · have HG := HG2
      clear HG2
      obtain ⟨L, hL⟩ : ∃ L : List (Int × Int), (hg0 p x0 ++ hg1 x1) = L := ⟨_, rfl⟩
      have HL : Hid (L.length ≤ 5 ∧ (hg0 p x0 ++ hg1 x1) = L) := ⟨by rw [← hL]; unfold hg0 hg1; split <;> split <;> simp, hL⟩
      rw [hL] at HG
      clear hL
      obtain ⟨n, hn⟩ : ∃ n, L.length = n := ⟨_, rfl⟩
      obtain ⟨E, cp, rfl⟩ : ∃ E cp, v = .slice E n cp := by rw [← hn]; exact HG.out.val
      have hb := HG.out.blk
      have hA : (wc.alloc (.cells #[.int .i64 (13), .int .u64 (1)] 80)).cell? ⟨w.heap.size + 1 + 1, 3, none⟩ = some (.slice E n cp) ∧ (wc.alloc (.cells #[.int .i64 (13), .int .u64 (1)] 80)).frozen? ⟨w.heap.size + 1 + 1, 3, none⟩ = false := ⟨(hb.al _).cell 3 rfl, (hb.al _).fro 3⟩
      have g3 := hb.cell 3 (v := .slice E n cp) rfl
      have HA : Hid _ := hA
      obtain ⟨hA1, hA2⟩ := hA
      have HFR : Hid ((Value.slice E n cp).ownBlock ≠ some (w.heap.size + 1 + 1) ∧ w.heap.size + 1 + 1 < wc.heap.size ∧ w.heap.size ≤ wc.heap.size ∧ n ≤ 5) := ⟨HG.out.far.2.2, hb.lt, HG.out.below.size, by rw [← hn]; exact HL.out.1⟩
      have HOW : Hid (wc.ownsRow w.heap.size 80 2 (.slice E n cp) n (hgC L)) := by
        have h := HG.out.own
        rw [hn] at h
        exact h
      have HN : Hid (L.length = n) := hn
      clear hb hn
      go_wp2_with (at_builtin; refine wpList_append_lies _ rfl _ _ 24 rfl w.heap.size 80 i0 _ 2 16 Tryz.underlying24 hi hz0 hz1 hz2 rfl (by omega) (.slice E n cp) n (hgC L) rfl (HOW.out.alloc _) ⟨wc.heap.size, 0, none⟩ 1 1 [.int .i64 (13), .int .u64 (1)] rfl rfl (World.news_of_block (cs := #[.int .i64 (13), .int .u64 (1)]) (t := 80) (fr := (0, 0)) (heap_alloc_new wc _)) (by simp [Value.oneCell']) (by omega) (by have := HFR.out.2.2.2; unfold maxLen; omega) (by have := HFR.out.2.2.2; omega) (by have := HFR.out.2.2.1; simp; omega) (wc.heap.size + 1) (by simp) ?_; intro gg cap1 w1 hown1 hgrow hat hlt1; have q0 : w1.cell? ⟨w.heap.size + 1 + 1, 3, none⟩ = some (.slice E n cp) := (hgrow.cell_far ⟨w.heap.size + 1 + 1, 3, none⟩ (by have := HFR.out.2.1; simp; omega) (Ne.symm HFR.out.1)).trans HA.out.1; have q1 : w1.frozen? ⟨w.heap.size + 1 + 1, 3, none⟩ = false := (hgrow.frozen_far ⟨w.heap.size + 1 + 1, 3, none⟩ (by have := HFR.out.2.1; simp; omega) (Ne.symm HFR.out.1)).trans HA.out.2)
      all_goals
        have hN : Hid _ := PuG.next (m := [(13, 1)]) ((HG.out.al (.cells #[.int .i64 (13), .int .u64 (1)] 80))) (n := n + 1) (by have := HN.out; rw [List.length_append]; simp; omega) (by rw [hgC_app]; exact hown1) hgrow (by rcases hat with h9 | h9; exact .inl h9; exact .inr (by simpa using h9)) hlt1
        clear hown1 hgrow hat hlt1 hA1 hA2 HA g3 HG HOW
        go_wp2_with fail
        go_meet
        case rel => exact ⟨_, by have h := hN; rw [← HL.out.2] at h; exact h⟩
  obtain ⟨v, HG3⟩ := hcut
  have ak := HG3.out.arg.cell 3 (v := .bool x3) rfl
  go_upto_if 103 with fail
  clear ak
  go_cut [] from 102 to 116 (fun wx => ∃ v : Value, Hid (PuG w wx P T #[.bool x0, .bool x1, .bool x2, .bool x3, .bool x4] (hg0 p x0 ++ hg1 x1 ++ hg2 x2 ++ hg3 q x3) v))
  case first =>
    cases x3
    · go_wp2_with fail
      go_meet
      case rel => exact ⟨_, by rw [show (hg0 p x0 ++ hg1 x1 ++ hg2 x2 ++ hg3 q false) = (hg0 p x0 ++ hg1 x1 ++ hg2 x2) from List.append_nil _]; exact HG3⟩
    · have HG := HG3
      clear HG3
      obtain ⟨y, hy⟩ : ∃ y, (2 : Int) ^ q.toNat = y := ⟨_, rfl⟩
      have hsh := fun W => hg_shift q (by have := HQ.out; have := HX.out; omega) W
      rw [hy] at hsh
      have HY : Hid ((2 : Int) ^ q.toNat = y) := hy
      have u1 : IntKind.u64.wrap q = q := wrap_u64 (by have := HQ.out; have := HX.out; omega)
      have u2 : IntKind.u64.wrap (q + 1) = q + 1 := wrap_u64 (by have := HQ.out; have := HX.out; omega)
      clear hy
      obtain ⟨L, hL⟩ : ∃ L : List (Int × Int), (hg0 p x0 ++ hg1 x1 ++ hg2 x2) = L := ⟨_, rfl⟩
      have HL : Hid (L.length ≤ 6 ∧ (hg0 p x0 ++ hg1 x1 ++ hg2 x2) = L) := ⟨by rw [← hL]; unfold hg0 hg1 hg2; split <;> split <;> split <;> simp, hL⟩
      rw [hL] at HG
      clear hL
      obtain ⟨n, hn⟩ : ∃ n, L.length = n := ⟨_, rfl⟩
      obtain ⟨E, cp, rfl⟩ : ∃ E cp, v = .slice E n cp := by rw [← hn]; exact HG.out.val
      have hb := HG.out.blk
      have hA : (wc.alloc (.cells #[.int .i64 (9), .int .u64 (q + 1), .int .i64 (10), .int .u64 (1), .int .i64 (19), .int .u64 (y)] 80)).drew.cell? ⟨w.heap.size + 1 + 1, 3, none⟩ = some (.slice E n cp) ∧ (wc.alloc (.cells #[.int .i64 (9), .int .u64 (q + 1), .int .i64 (10), .int .u64 (1), .int .i64 (19), .int .u64 (y)] 80)).drew.frozen? ⟨w.heap.size + 1 + 1, 3, none⟩ = false := ⟨((hb.al _).drew).cell 3 rfl, ((hb.al _).drew).fro 3⟩
      have g3 := hb.cell 3 (v := .slice E n cp) rfl
      have HA : Hid _ := hA
      obtain ⟨hA1, hA2⟩ := hA
      have HFR : Hid ((Value.slice E n cp).ownBlock ≠ some (w.heap.size + 1 + 1) ∧ w.heap.size + 1 + 1 < wc.heap.size ∧ w.heap.size ≤ wc.heap.size ∧ n ≤ 6) := ⟨HG.out.far.2.2, hb.lt, HG.out.below.size, by rw [← hn]; exact HL.out.1⟩
      have HOW : Hid (wc.ownsRow w.heap.size 80 2 (.slice E n cp) n (hgC L)) := by
        have h := HG.out.own
        rw [hn] at h
        exact h
      have HN : Hid (L.length = n) := hn
      clear hb hn
      go_wp2_with fail
      go_region_law ((refine step_append_lies _ (by rfl) _ _ _ (by rfl) w.heap.size 80 i0 _ 2 16 Tryz.underlying24 hi hz0 hz1 hz2 rfl (by omega) (.slice E n cp) n (hgC L) (by rfl) ((HOW.out.alloc _).drew) ⟨wc.heap.size, 0, none⟩ 3 3 [.int .i64 (9), .int .u64 (q + 1), .int .i64 (10), .int .u64 (1), .int .i64 (19), .int .u64 (y)] (by rfl) (by rfl) (World.news_of_block (cs := #[.int .i64 (9), .int .u64 (q + 1), .int .i64 (10), .int .u64 (1), .int .i64 (19), .int .u64 (y)]) (t := 80) (fr := (0, 0)) (heap_alloc_new wc _)) (by simp [Value.oneCell']) (by omega) (by have := HFR.out.2.2.2; unfold maxLen; omega) (by have := HFR.out.2.2.2; omega) (by have := HFR.out.2.2.1; simp; omega) (wc.heap.size + 1) (by simp) ?_; intro gg cap1 w1 hown1 hgrow hat hlt1; have q0 : w1.cell? ⟨w.heap.size + 1 + 1, 3, none⟩ = some (.slice E n cp) := (hgrow.cell_far ⟨w.heap.size + 1 + 1, 3, none⟩ (by have := HFR.out.2.1; simp; omega) (Ne.symm HFR.out.1)).trans HA.out.1; have q1 : w1.frozen? ⟨w.heap.size + 1 + 1, 3, none⟩ = false := (hgrow.frozen_far ⟨w.heap.size + 1 + 1, 3, none⟩ (by have := HFR.out.2.1; simp; omega) (Ne.symm HFR.out.1)).trans HA.out.2))
      all_goals
        have hN : Hid _ := PuG.next (m := [(9, q + 1), (10, 1), (19, y)]) ((HG.out.al (.cells #[.int .i64 (9), .int .u64 (q + 1), .int .i64 (10), .int .u64 (1), .int .i64 (19), .int .u64 (y)] 80)).drew) (n := n + 3) (by have := HN.out; rw [List.length_append]; simp; omega) (by rw [hgC_app]; exact hown1) hgrow (by rcases hat with h9 | h9; exact .inl h9; exact .inr (by simpa using h9)) hlt1
        clear hown1 hgrow hat hlt1 hA1 hA2 HA g3 HG HOW
        go_wp2_with fail
        go_meet
        case rel => exact ⟨_, by have h := hN; rw [← HL.out.2, ← HY.out] at h; exact h⟩
  obtain ⟨v, HG4⟩ := hcut
  have ak := HG4.out.arg.cell 4 (v := .bool x4) rfl
  have bk := HG4.out.box.cell 1 (v := .int .i64 T) rfl
  go_upto_if 120 with fail
  clear ak
  go_cut [9] from 117 to 123 (fun t9 wx => t9 = .int .i64 (if x4 = true then T - 1 else T) ∧ wx = wc)
  case first =>
    have r1 : IntKind.i64.wrap (T - 1) = T - 1 := by have := HX.out; simp [IntKind.wrap, IntKind.bits, IntKind.signed]; omega
    have r2 : wrap64 (T - 1) = T - 1 := by have := HX.out; unfold wrap64; omega
    cases x4
    · go_wp2_with fail
      go_meet
      case rel => exact ⟨rfl, rfl⟩
    · go_wp2_with fail
      go_meet
      case rel => exact ⟨rfl, rfl⟩
  obtain ⟨rfl, hw⟩ := hcut
  subst hw
  clear bk
  obtain ⟨th, hth⟩ : ∃ th, (if x4 = true then T - 1 else T) = th := ⟨_, rfl⟩
  have HTH : Hid ((if x4 = true then T - 1 else T) = th ∧ 1 ≤ th ∧ th ≤ 8) := ⟨hth, by have := HX.out; rw [← hth]; split <;> omega, by have := HX.out; rw [← hth]; split <;> omega⟩
  rw [hth]
  clear hth
  have ut : IntKind.u64.wrap th = th := wrap_u64 (by have := HTH.out; omega)
  have HG := HG4
  clear HG4
  obtain ⟨L, hL⟩ : ∃ L : List (Int × Int), (hg0 p x0 ++ hg1 x1 ++ hg2 x2 ++ hg3 q x3) = L := ⟨_, rfl⟩
  have HL : Hid (L.length ≤ 9 ∧ (hg0 p x0 ++ hg1 x1 ++ hg2 x2 ++ hg3 q x3) = L) := ⟨by rw [← hL]; unfold hg0 hg1 hg2 hg3; split <;> split <;> split <;> split <;> simp, hL⟩
  rw [hL] at HG
  clear hL
  obtain ⟨n, hn⟩ : ∃ n, L.length = n := ⟨_, rfl⟩
  obtain ⟨E, cp, rfl⟩ : ∃ E cp, v = .slice E n cp := by rw [← hn]; exact HG.out.val
  have hb := HG.out.blk
  have hA : (wc.alloc (.cells #[.int .i64 (15), .int .u64 (th)] 80)).cell? ⟨w.heap.size + 1 + 1, 3, none⟩ = some (.slice E n cp) ∧ (wc.alloc (.cells #[.int .i64 (15), .int .u64 (th)] 80)).frozen? ⟨w.heap.size + 1 + 1, 3, none⟩ = false := ⟨(hb.al _).cell 3 rfl, (hb.al _).fro 3⟩
  have g3 := hb.cell 3 (v := .slice E n cp) rfl
  have HA : Hid _ := hA
  obtain ⟨hA1, hA2⟩ := hA
  have HFR : Hid ((Value.slice E n cp).ownBlock ≠ some (w.heap.size + 1 + 1) ∧ w.heap.size + 1 + 1 < wc.heap.size ∧ w.heap.size ≤ wc.heap.size ∧ n ≤ 9) := ⟨HG.out.far.2.2, hb.lt, HG.out.below.size, by rw [← hn]; exact HL.out.1⟩
  have HOW : Hid (wc.ownsRow w.heap.size 80 2 (.slice E n cp) n (hgC L)) := by
    have h := HG.out.own
    rw [hn] at h
    exact h
  have HN : Hid (L.length = n) := hn
  clear hb hn
  go_wp2_with (at_builtin; refine wpList_append_lies _ rfl _ _ 24 rfl w.heap.size 80 i0 _ 2 16 Tryz.underlying24 hi hz0 hz1 hz2 rfl (by omega) (.slice E n cp) n (hgC L) rfl (HOW.out.alloc _) ⟨wc.heap.size, 0, none⟩ 1 1 [.int .i64 (15), .int .u64 (th)] rfl rfl (World.news_of_block (cs := #[.int .i64 (15), .int .u64 (th)]) (t := 80) (fr := (0, 0)) (heap_alloc_new wc _)) (by simp [Value.oneCell']) (by omega) (by have := HFR.out.2.2.2; unfold maxLen; omega) (by have := HFR.out.2.2.2; omega) (by have := HFR.out.2.2.1; simp; omega) (wc.heap.size + 1) (by simp) ?_; intro gg cap1 w1 hown1 hgrow hat hlt1; have q0 : w1.cell? ⟨w.heap.size + 1 + 1, 3, none⟩ = some (.slice E n cp) := (hgrow.cell_far ⟨w.heap.size + 1 + 1, 3, none⟩ (by have := HFR.out.2.1; simp; omega) (Ne.symm HFR.out.1)).trans HA.out.1; have q1 : w1.frozen? ⟨w.heap.size + 1 + 1, 3, none⟩ = false := (hgrow.frozen_far ⟨w.heap.size + 1 + 1, 3, none⟩ (by have := HFR.out.2.1; simp; omega) (Ne.symm HFR.out.1)).trans HA.out.2; have b0 := (PuG.grow (HG.out.al (.cells #[.int .i64 15, .int .u64 th] 80)) hgrow).cell 0 (v := .int .i64 P) rfl; have b1 := (PuG.grow (HG.out.al (.cells #[.int .i64 15, .int .u64 th] 80)) hgrow).cell 1 (v := .int .i64 T) rfl; have b2 := (PuG.grow (HG.out.al (.cells #[.int .i64 15, .int .u64 th] 80)) hgrow).cell 2 (v := .int .i64 3) rfl)
  have hN : Hid _ := PuG.next (m := [(15, th)]) ((HG.out.al (.cells #[.int .i64 (15), .int .u64 (th)] 80))) (n := n + 1) (by have := HN.out; rw [List.length_append]; simp; omega) (by rw [hgC_app]; exact hown1) hgrow (by rcases hat with h9 | h9; exact .inl h9; exact .inr (by simpa using h9)) hlt1
  clear hown1 hgrow hat hlt1 hA1 hA2 HA g3 HG HOW
  obtain ⟨M, hM⟩ : ∃ M, L ++ [(15, th)] = M := ⟨_, rfl⟩
  have HMM : Hid (M = hgL P T p x0 x1 x2 x3 x4 ∧ M.length = n + 1) := ⟨by rw [← hM, ← HL.out.2, ← HTH.out.1, ← HQ.out.2.2]; rfl, by rw [← hM, List.length_append, HN.out]; rfl⟩
  rw [hM] at hN
  clear hM
  have HG := hN
  clear hN
  try go_wp2_with fail
  clear b0 b1 b2 q0 q1
  generalize hW6 : w1.setCell ⟨w.heap.size + 1 + 1, 3, none⟩ (.slice (some ⟨gg, 0, none⟩) (n + 1) cap1) = w6 at *
  clear hW6
  have HSE : Hid (SeesP w6 w6.heap.size (some ⟨gg, 0, none⟩) (n + 1) (hgA M) (hgV M)) := by
    have h := HG.out
    rw [← HMM.out.2] at h ⊢
    exact h.sees _ (Nat.le_refl _)
  have hL := lay_some P T 3 (some ⟨gg, 0, none⟩) (n + 1) cap1 (hgN P T) (hgA M) (hgV M) w6 (by have := HFR.out; omega) ⟨⟨by have := HX.out; omega⟩, by have := HX.out; omega, by have := HX.out; omega, by have := HX.out; omega⟩ (by have := HX.out; unfold hgN; omega) HSE.out (by rw [HMM.out.1]; exact fun i hi => hgV_bd HX.out.1 HX.out.2.1 HX.out.2.2 i)
  clear HFR HL HN HTH
  obtain ⟨f0, hf0⟩ : ∃ f0, putF (hgA M) (hgV M) (hgN P T) (n + 1) = f0 := ⟨_, rfl⟩
  have HF0 : Hid (f0 = putF (hgA (hgL P T p x0 x1 x2 x3 x4)) (hgV (hgL P T p x0 x1 x2 x3 x4)) (hgN P T) (hgL P T p x0 x1 x2 x3 x4).length) := by
    rw [← HMM.out.1, HMM.out.2]
    exact hf0.symm
  rw [hf0] at hL
  clear hf0 HSE HMM
  have hv := HG.out.below
  obtain ⟨N, hN⟩ : ∃ N, hgN P T = N := ⟨_, rfl⟩
  rw [hN] at hL
  have HN : Hid (hgN P T = N ∧ N ≤ 2000 ∧ 0 < N) := ⟨hN, by have := HX.out; rw [← hN]; unfold hgN; omega, by have := HX.out; rw [← hN]; unfold hgN; omega⟩
  clear hN
  have HBX : Hid (Below w.heap.size w w6) := HG.out.below
  have HBK : Hid (Blk w6 w.heap.size #[.int .i64 P, .int .i64 T, .int .i64 3] 23 ∧ Blk w6 (w.heap.size + 1) #[.bool x0, .bool x1, .bool x2, .bool x3, .bool x4] 77) := ⟨HG.out.box, HG.out.arg⟩
  clear HG hv
  go_at_call 9; refine hL.mono ?_; rintro e w1 ⟨cl, A, A', cap, cap', c, b, c', b', rfl, hLd⟩
  have hsz6 := HBX.out.size
  have hlt1 := HBK.out.1.lt
  have hlt2 := HBK.out.2.lt
  have HBA : Hid (Below w.heap.size w w1) := HBX.out.trans (hLd.below.mono hsz6)
  have HB1 : Hid (Below w6.heap.size w6 w1) := hLd.below
  have HK1 : Hid (Blk w1 w.heap.size #[.int .i64 P, .int .i64 T, .int .i64 3] 23 ∧ Blk w1 (w.heap.size + 1) #[.bool x0, .bool x1, .bool x2, .bool x3, .bool x4] 77) := ⟨HBK.out.1.keep (hLd.below.block _ hlt1), HBK.out.2.keep (hLd.below.block _ hlt2)⟩
  have HI1 : Hid (Is w1 141 A cap c b N (fresh f0)) := hLd.two.m
  have HY1 : Hid (Lay w1 cl P T 3) := hLd.lay
  have hne : Hid (cl ≠ c ∧ cl ≠ b) := lay_ne hLd.lay (by decide) hLd.two.m HN.out.2.2
  have hup : Hid (w.heap.size + 1 < c ∧ w.heap.size + 1 < b ∧ w.heap.size + 1 < cl) := ⟨by have := hLd.up.2.1; omega, by have := hLd.up.2.2.1; omega, by have := hLd.up.1; omega⟩
  have hLM : (hvCp T P T 3 p cl).Laws (hvPM P T T p) (Rd.lay cl P T 3) T := hv_laws (by have := HX.out; omega) (by have := HX.out; omega) (by have := HX.out; omega)
  have hGM : ((hvCp T P T 3 p cl).I).Good (hvPM P T T p) := Cp.good hLM
  have HST : Hid (Steps (hvPM P T T p) ((hvCp T P T 3 p cl).I) (Rd.lay cl P T 3) 39 T) := Cp.steps hLM stepby_over
  have HRF : Hid (c ∉ (Rd.lay cl P T 3).B ∧ b ∉ (Rd.lay cl P T 3).B) := ⟨fun h => hne.out.1 (List.mem_singleton.1 h).symm, fun h => hne.out.2 (List.mem_singleton.1 h).symm⟩
  have hN := hv_new w1 cl T p P T 3 hLd.lay (by have := HX.out; omega)
  have kb := HK1.out.1.cell 1 (v := .int .i64 T) rfl
  clear hL hLd hne hLM hsz6 hlt1 hlt2 HBX HBK
  go_wp2_with fail
  go_at_call 34; refine hN.mono ?_; rintro e w2 ⟨x, L2, rfl, ha1, ha2, ha3, -⟩
  have HSA : Hid (Solo ((hvCp T P T 3 p cl).I) (((Rd.lay cl P T 3).and (Rd.blk w.heap.size #[.int .i64 P, .int .i64 T, .int .i64 3] 23)).and (Rd.blk (w.heap.size + 1) #[.bool x0, .bool x1, .bool x2, .bool x3, .bool x4] 77)) w w2 A cap c b N ((hvPM P T T p).steps T N 0 (.lk .hd, fresh f0)).2 x ((hvPM P T T p).steps T N 0 (.lk .hd, fresh f0)).1 L2) := Solo.begin HI1.out ha2 HBA.out ⟨by have := hup.out; omega, by have := hup.out; omega⟩ ha1 ha3 ⟨⟨HY1.out, HK1.out.1⟩, HK1.out.2⟩ (fun k hk => by
    have h1 := HY1.out.lt
    have h2 := HK1.out.1.lt
    have h3 := HK1.out.2.lt
    rcases List.mem_append.1 hk with h | h
    · rcases List.mem_append.1 h with h | h
      · obtain rfl : k = cl := List.mem_singleton.1 h; exact h1
      · obtain rfl : k = w.heap.size := List.mem_singleton.1 h; exact h2
    · obtain rfl : k = w.heap.size + 1 := List.mem_singleton.1 h; exact h3)
    ⟨fun hk => by
      have h0 := hup.out
      rcases List.mem_append.1 hk with h | h
      · rcases List.mem_append.1 h with h | h
        · exact HRF.out.1 h
        · have h : c = w.heap.size := List.mem_singleton.1 h; omega
      · have h : c = w.heap.size + 1 := List.mem_singleton.1 h; omega, fun hk => by
      have h0 := hup.out
      rcases List.mem_append.1 hk with h | h
      · rcases List.mem_append.1 h with h | h
        · exact HRF.out.2 h
        · have h : b = w.heap.size := List.mem_singleton.1 h; omega
      · have h : b = w.heap.size + 1 := List.mem_singleton.1 h; omega⟩
  clear hN ha1 ha2 ha3 HI1 HY1 HB1 HBA HK1 kb hup HRF
  go_wp2_with fail
  have HLO : Hid (∀ q : Nat, q ≤ 40 → Low ((hvPM P T T p).steps T N q (.lk .hd, fresh f0)).2 1000000) := fun q hq => (PM.steps_low (hvPM P T T p) T N q (.lk .hd, fresh f0) (low_fresh _)).more (by omega)
  go_loopw [15] (fun k wi => ∃ (q : Nat) (L : List Nat), q ≤ 40 ∧ k = .int .i64 q ∧ Hid (Solo ((hvCp T P T 3 p cl).I) (((Rd.lay cl P T 3).and (Rd.blk w.heap.size #[.int .i64 P, .int .i64 T, .int .i64 3] 23)).and (Rd.blk (w.heap.size + 1) #[.bool x0, .bool x1, .bool x2, .bool x3, .bool x4] 77)) w wi A cap c b N ((hvPM P T T p).steps T N q (.lk .hd, fresh f0)).2 x ((hvPM P T T p).steps T N q (.lk .hd, fresh f0)).1 L)) (fun k _ => 40 - (intOf k).toNat)
  case atStart => exact ⟨0, _, by omega, rfl, HSA⟩
  case round =>
    clear HSA
    obtain ⟨q, L, hq, rfl, HS⟩ := hrel
    by_cases hq9 : q < 40
    · have hSt := HS.out.step hGM HST.out (fun Y h => by exact h.1.1) (fun k hk => List.mem_append_left _ (List.mem_append_left _ hk)) (by have := HN.out.2; omega) (HLO.out q hq)
      rw [show (hvPM P T T p).goS T N ((hvPM P T T p).steps T N q (.lk .hd, fresh f0)).1 ((hvPM P T T p).steps T N q (.lk .hd, fresh f0)).2 = ((hvPM P T T p).steps T N (q + 1) (.lk .hd, fresh f0)).2 by rw [PM.steps_succ], show (hvPM P T T p).goT N ((hvPM P T T p).steps T N q (.lk .hd, fresh f0)).1 ((hvPM P T T p).steps T N q (.lk .hd, fresh f0)).2 = ((hvPM P T T p).steps T N (q + 1) (.lk .hd, fresh f0)).1 by rw [PM.steps_succ]] at hSt
      have hq1 : (q : Int) < 40 := by omega
      have hq0 : (0 : Int) ≤ (q : Int) := by omega
      clear HS
      go_wp2_with fail
      go_at_call 39; refine hSt.mono ?_; rintro e w3 ⟨rfl, L', hS'⟩
      have HS' : Hid _ := hS'
      clear hSt hS'
      go_wp2_with fail
      go_roundw
      case rel => exact ⟨q + 1, L', by omega, by go_num, HS'⟩
      case measure => simp [intOf]; omega
    · obtain rfl : q = 40 := by omega
      clear HLO
      rw [show ((40 : Nat) : Int) = 40 from rfl]
      obtain ⟨r, hr⟩ : ∃ r, (hvPM P T T p).steps T N 40 (.lk .hd, fresh f0) = r := ⟨_, rfl⟩
      have HOK : Hid (hgOk P T p x0 x1 x2 x3 x4 r = true) := by
        have h := hg_ok P T p x0 x1 x2 x3 x4 HX.out.1 HX.out.2.1 HX.out.2.2
        unfold hgF at h
        rw [← hr, HF0.out, ← HN.out.1]
        exact hg_ok P T p x0 x1 x2 x3 x4 HX.out.1 HX.out.2.1 HX.out.2.2
      rw [hr] at HS
      clear hr HF0
      obtain ⟨kl, kax, kh, kb, gv, st, kg, ks, kgb, k5, k6, k7⟩ := hg_parts HOK.out HN.out.1
      have hIL := iplist_any wr A cap c b N cl r.2 P T 3 HS.out.mem (by have := HN.out.2; omega) HS.out.rd.1.1 (by have := HX.out; omega) (by have := HX.out; omega)
      rw [kl] at hIL
      dsimp only at hIL
      have HK : Hid (((hvPM P T T p).ax r.1).isNone = true ∧ r.1.holds p = -1 ∧ r.2.bad = 0 ∧ peekT N r.2 (wd (20 + P * 264) T 3 (T - 1) 1) = gv ∧ peekT N r.2 (20 + 264 * p + 0) = st ∧ (0 ≤ gv ∧ gv ≤ 18446744073709551615)) := ⟨kax, kh, kb, kg, by rw [← ks]; congr 1; have := HX.out; unfold wd; rw [if_pos (by omega)]; omega, kgb⟩
      have HB5 : Hid (decide (gv % 4294967296 - 1 = p) = (x4 && (x0 || x1 || (!x2 && !x3)))) := k5
      have HB6 : Hid ((x4 && (x0 || x1 || (!x2 && !x3))) = true → decide (4294967296 ≤ gv) = !(x0 || x1)) := k6
      have HB7 : Hid (decide (st = 2) = ((x0 || x1 || (!x2 && !x3)) && !(x4 && (x0 || x1 || (!x2 && !x3))))) := k7
      clear kl kax kh kb kg ks kgb k5 k6 k7 HOK
      go_wp2_with fail
      go_at_call 42; refine hIL.mono ?_; rintro e w4 ⟨vl, rfl, hi4, hb4⟩
      have HS4 : Hid _ := HS.out.still hGM hb4
      have HV4 : Hid (SeesL w4 vl (hgWant P p x0 x1 x2 x3)) := hi4.sees
      clear HS hIL hi4 hb4
      have hT1 := lthr_any (some ⟨cl, 0, none⟩) P T 3 (T - 1) 1 w4 (.some cl HS4.out.rd.1.1) (by have := HX.out; omega) (by have := HX.out; omega)
      obtain ⟨iw, hiw⟩ : ∃ iw, wd (20 + P * 264) T 3 (T - 1) 1 = iw := ⟨_, rfl⟩
      rw [hiw] at hT1
      have HIW : Hid (peekT N r.2 iw = gv) := by rw [← hiw]; exact HK.out.2.2.2.1
      clear hiw
      have kt := HS4.out.rd.1.2.cell 1 (v := .int .i64 T) rfl
      have r2 : wrap64 (T - 1) = T - 1 := by have := HX.out; unfold wrap64; omega
      go_wp2_with fail
      clear kt r2
      go_at_call 44; refine hT1.mono ?_; rintro e w5 ⟨rfl, hb5⟩
      have HS5 : Hid _ := HS4.out.still hGM hb5
      have HV5 : Hid (SeesL w5 vl (hgWant P p x0 x1 x2 x3)) := HV4.out.below hb5
      clear HS4 HV4 hT1 hb5
      have hP1 := peek_any w5 A cap c b N r.2 iw HS5.out.mem (by have := HN.out.2; omega)
      rw [HIW.out] at hP1
      go_wp2_with fail
      go_at_call 43; refine hP1.mono ?_; rintro e w6 ⟨rfl, rfl⟩
      clear hP1
      have hGv := wk_given w5 gv HK.out.2.2.2.2.2
      obtain ⟨u, hu⟩ : ∃ u, gv % 4294967296 - 1 = u := ⟨_, rfl⟩
      obtain ⟨sp, hsp⟩ : ∃ sp, decide (4294967296 ≤ gv) = sp := ⟨_, rfl⟩
      rw [hu, hsp] at hGv
      have HB5 : Hid (decide (u = p) = (x4 && (x0 || x1 || (!x2 && !x3)))) := by rw [← hu]; exact HB5.out
      have HB6 : Hid ((x4 && (x0 || x1 || (!x2 && !x3))) = true → sp = !(x0 || x1)) := by rw [← hsp]; exact HB6.out
      clear hu hsp
      go_wp2_with fail
      go_at_call 45; refine hGv.mono ?_; rintro e w6 ⟨rfl, rfl⟩
      clear hGv
      obtain ⟨wa, hwa⟩ : ∃ wa, wa = w5 := ⟨_, rfl⟩
      subst hwa
      go_upto_region 27 with fail
      have a0 := HS5.out.rd.2.cell 0 (v := .bool x0) rfl
      have a1 := HS5.out.rd.2.cell 1 (v := .bool x1) rfl
      go_cut [22] from 158 to 177 (fun a wx => a = .bool (x0 || x1) ∧ wx = wa)
      case first =>
        cases x0 <;> cases x1 <;> (go_wp2_with fail; go_meet; case rel => exact ⟨rfl, rfl⟩)
      obtain ⟨rfl, hw⟩ := hcut
      subst hw
      obtain ⟨wa, hwa⟩ : ∃ wa, wa = wc := ⟨_, rfl⟩
      subst hwa
      clear a0 a1
      have HWQ : Hid (hgWant P p x0 x1 x2 x3 = (if !((x0 || x1) || (!x2 && !x3)) then [p] else []) ++ (if x3 then [q] else [])) := by rw [← HQ.out.2.2]; rfl
      generalize (x0 || x1) = wk at *
      have a2 := HS5.out.rd.2.cell 2 (v := .bool x2) rfl
      have a3 := HS5.out.rd.2.cell 3 (v := .bool x3) rfl
      go_upto_region 28 with fail
      go_cut [23] from 178 to 188 (fun a wx => a = .bool (wk || (!x2 && !x3)) ∧ wx = wa)
      case first =>
        cases wk <;> cases x2 <;> cases x3 <;> (go_wp2_with fail; go_meet; case rel => exact ⟨rfl, rfl⟩)
      obtain ⟨rfl, hw⟩ := hcut
      subst hw
      obtain ⟨wa, hwa⟩ : ∃ wa, wa = wc := ⟨_, rfl⟩
      subst hwa
      clear a2 a3
      generalize (wk || (!x2 && !x3)) = ss at *
      have a4 := HS5.out.rd.2.cell 4 (v := .bool x4) rfl
      go_upto_region 29 with fail
      go_cut [24] from 189 to 193 (fun a wx => a = .bool (x4 && ss) ∧ wx = wa)
      case first =>
        cases x4 <;> cases ss <;> (go_wp2_with fail; go_meet; case rel => exact ⟨rfl, rfl⟩)
      obtain ⟨rfl, hw⟩ := hcut
      subst hw
      obtain ⟨wa, hwa⟩ : ∃ wa, wa = wc := ⟨_, rfl⟩
      subst hwa
      clear a4
      generalize (x4 && ss) = gg at *
      obtain ⟨iv, hiv⟩ : ∃ iv, 20 + 264 * p + 0 = iv := ⟨_, rfl⟩
      have hPr := HPr.out 0 (by omega) wa
      rw [hiv] at hPr
      have HIV : Hid (peekT N r.2 iv = st) := by rw [← hiv]; exact HK.out.2.2.2.2.1
      clear hiv
      go_wp2_with fail
      go_at_call 40; refine hPr.mono ?_; rintro e w6 ⟨rfl, rfl⟩
      clear hPr
      have hP1 := peek_any wa A cap c b N r.2 iv HS5.out.mem (by have := HN.out.2; omega)
      rw [HIV.out] at hP1
      go_wp2_with fail
      go_at_call 43; refine hP1.mono ?_; rintro e w6 ⟨rfl, rfl⟩
      clear hP1
      skip
      obtain ⟨i3, hi3, hz03, hz13, hz23⟩ := info_parts lists_info3
      go_upto_if 202 with fail
      go_cut [27] from 194 to 206 (fun a wx => ∃ v, v = a ∧ Hid (IntsOn wx wa.heap.size v (if !ss then [p] else []) ∧ Below wa.heap.size wa wx))
      case first =>
        cases ss
        · go_wp2_with (at_builtin; refine wpList_append_own _ rfl _ _ 49 rfl wa.heap.size 3 i3 (.int .i64 0) 1 8 Tryz.underlying49 hi3 hz03 hz13 hz23 rfl (by decide) (.slice none 0 0) 0 [] rfl ⟨rfl, .inl ⟨rfl, rfl⟩⟩ ⟨wa.heap.size, 0, none⟩ 1 1 [.int .i64 p] rfl rfl (cell_one_new _ _ _) (ints_oneCell .i64 [p]) (by unfold maxLen; omega) (by omega) (by simp) ?_; intro v' w7 hown' hgrow2 hnil2)
          have hbb : Below wa.heap.size wa w7 := ((Below.refl _ _).alloc (Nat.le_refl _) _).grown hgrow2 (by simp) (fun k hk => by cases hk)
          have HV7 : Hid (IntsOn w7 wa.heap.size v' [p] ∧ Below wa.heap.size wa w7) := ⟨⟨hown'⟩, hbb⟩
          clear hown' hgrow2 hnil2 hbb
          go_wp2_with fail
          go_meet
          case rel => exact ⟨_, rfl, HV7⟩
        · go_wp2_with fail
          go_meet
          case rel => exact ⟨_, rfl, ⟨⟨rfl, .inl ⟨rfl, rfl⟩⟩⟩, Below.refl _ _⟩
      obtain ⟨v7, rfl, HW1⟩ := hcut
      have HS6 : Hid _ := HS5.out.still hGM HW1.out.2
      have a3 := HS6.out.rd.2.cell 3 (v := .bool x3) rfl
      go_upto_if 208 with fail
      clear a3
      obtain ⟨wb, hwb⟩ : ∃ wb, wb = wc := ⟨_, rfl⟩
      subst hwb
      go_cut [27] from 207 to 212 (fun a wx => ∃ v, v = a ∧ Hid (IntsOn wx wa.heap.size v ((if !ss then [p] else []) ++ (if x3 then [q] else [])) ∧ Below wa.heap.size wa wx))
      case first =>
        cases x3
        · go_wp2_with fail
          go_meet
          case rel => exact ⟨_, rfl, by rw [show ∀ l : List Int, l ++ (if false = true then [q] else []) = l from fun l => List.append_nil l]; exact HW1⟩
        · obtain ⟨l1, hl1⟩ : ∃ l1, (if (!ss) = true then [p] else []) = l1 := ⟨_, rfl⟩
          rw [hl1] at HW1
          have HL1 : Hid (l1.length ≤ 1 ∧ (if (!ss) = true then [p] else []) = l1) := ⟨by rw [← hl1]; split <;> simp, hl1⟩
          clear hl1
          have hlow := HW1.out.2.size
          have hOO := HW1.out.1.own
          go_wp2_with (at_builtin; refine wpList_append_own _ rfl _ _ 49 rfl wa.heap.size 3 i3 (.int .i64 0) 1 8 Tryz.underlying49 hi3 hz03 hz13 hz23 rfl (by decide) _ _ _ rfl (hOO.alloc _) ⟨wb.heap.size, 0, none⟩ 1 1 [.int .i64 q] rfl rfl (cell_one_new _ _ _) (ints_oneCell .i64 [q]) (by have := HL1.out.1; unfold maxLen; omega) (by have := HL1.out.1; omega) (by simp; omega) ?_; intro v' w7 hown' hgrow2 hnil2)
          have hbb : Below wa.heap.size wa w7 := (HW1.out.2.alloc hlow _).grown hgrow2 (by simp; omega) (fun k hk => by
            rcases hOO.2 with ⟨e0, -⟩ | ⟨gb, cp, cur, e0, hb, -⟩
            · rw [e0] at hk; cases hk
            · rw [e0] at hk; injection hk with hk; rw [← hk]; exact hb)
          have HV7 : Hid (IntsOn w7 wa.heap.size v' ((if (!ss) = true then [p] else []) ++ [q]) ∧ Below wa.heap.size wa w7) := ⟨⟨by rw [HL1.out.2, List.map_append, List.length_append]; exact hown'⟩, hbb⟩
          clear hown' hgrow2 hnil2 hbb hlow hOO
          go_wp2_with fail
          go_meet
          case rel => exact ⟨_, rfl, HV7⟩
      obtain ⟨v8, rfl, HW2⟩ := hcut
      clear HW1 HS6
      have HS7 : Hid _ := HS5.out.still hGM HW2.out.2
      have hSm := lsame_any wc vl v8 (hgWant P p x0 x1 x2 x3) (by rw [HWQ.out]; split <;> split <;> simp) (HV5.out.below HW2.out.2) (by rw [HWQ.out]; exact HW2.out.1.sees)
      have hD : Calls Tryz.prog 36 #[.pointer (some ⟨x, 0, none⟩)] wc fun e w' => e = .returned (.bool true) ∧ wc = w' := by
        obtain ⟨nx, q1, q2⟩ := hGM.next HS7.out.mach
        rw [HK.out.1] at q2
        rw [← q2]
        exact done_over wc x nx q1
      have hH := hv_tells_P HS7.out.mach
      rw [HK.out.2.1] at hH
      have HBD : Hid (∀ Y, Below wc.heap.size wc Y → Calls Tryz.prog 46 #[.pointer (some ⟨c, 0, none⟩)] Y fun e w' => e = .returned (.int .i64 0) ∧ Y = w') := fun Y hY => by
        have h := bad_any Y A cap c b N r.2 (HS7.out.mem.below hY)
        rw [HK.out.2.2.1] at h
        exact h
      have HBF : Hid (Below w.heap.size w wc) := HS7.out.below
      clear HS5 HV5 HW2 HS7
      go_wp2_with fail
      go_at_call 36; refine hD.mono ?_; rintro e w6 ⟨rfl, rfl⟩
      clear hD
      go_wp2_with fail
      go_at_call 37; refine hH.mono ?_; rintro e w6 ⟨rfl, rfl⟩
      clear hH
      go_wp2_with fail
      go_at_call 16; refine hSm.mono ?_; rintro e w8 ⟨rfl, hb8⟩
      have hB8 := HBD.out w8 hb8
      have HB8 : Hid (Below w.heap.size w w8) := seq HBF.out hb8
      clear hSm hb8 HBD HBF
      go_wp2_with fail
      go_at_call 46; refine hB8.mono ?_; rintro e w6 ⟨rfl, rfl⟩
      clear hB8
      have hAw := hand_awake w8
      go_wp2_with fail
      go_at_call 33; refine hAw.mono ?_; rintro e w9 ⟨rfl, hb9⟩
      have HB9 : Hid (Below w.heap.size w w9) := seq HB8.out hb9
      clear hAw hb9 HB8
      have k5 := HB5.out
      have k6 := HB6.out
      have k7 := HB7.out
      cases gg
      · have hu : ¬ u = p := by simpa using k5
        have e1 : (u == p) = false := by simpa using hu
        have hst : decide (st = 2) = ss := by simpa using k7
        clear k5 k6 k7 HB5 HB6 HB7
        cases ss
        · have h2 : ¬ st = 2 := by simpa using hst
          have e2 : (st == 2) = false := by simpa using h2
          go_wp2_with fail
          go_ret
          first | exact ⟨rfl, HB9.out⟩ | exact ⟨by show Ending.returned (.bool (!(u == p))) = _; rw [e1]; rfl, HB9.out⟩ | exact ⟨by show Ending.returned (.bool (!(st == 2))) = _; rw [e2]; rfl, HB9.out⟩ | exact ⟨by show Ending.returned (.bool (!(u == p) && !(st == 2))) = _; rw [e1, e2]; rfl, HB9.out⟩
        · have h2 : st = 2 := by simpa using hst
          subst h2
          go_wp2_with fail
          go_ret
          first | exact ⟨rfl, HB9.out⟩ | exact ⟨by show Ending.returned (.bool (!(u == p))) = _; rw [e1]; rfl, HB9.out⟩ | exact ⟨by show Ending.returned (.bool (!(st == 2))) = _; rw [e2]; rfl, HB9.out⟩ | exact ⟨by show Ending.returned (.bool (!(u == p) && !(st == 2))) = _; rw [e1, e2]; rfl, HB9.out⟩
      · obtain rfl : u = p := by simpa using k5
        obtain rfl : sp = !wk := k6 rfl
        have h2 : ¬ st = 2 := by simpa using k7
        have e2 : (st == 2) = false := by simpa using h2
        clear k5 k6 k7 HB5 HB6 HB7
        cases wk <;> cases ss <;> (go_wp2_with fail; go_ret; first | exact ⟨rfl, HB9.out⟩ | exact ⟨by show Ending.returned (.bool (!(u == p))) = _; rw [e1]; rfl, HB9.out⟩ | exact ⟨by show Ending.returned (.bool (!(st == 2))) = _; rw [e2]; rfl, HB9.out⟩ | exact ⟨by show Ending.returned (.bool (!(u == p) && !(st == 2))) = _; rw [e1, e2]; rfl, HB9.out⟩)
end Go.Proofs.YtfdpikkinlljlaaGreat
