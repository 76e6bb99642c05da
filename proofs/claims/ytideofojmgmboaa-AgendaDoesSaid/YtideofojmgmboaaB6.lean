/- The agenda's methods: Put, take. -/
import Derived.Test.YtideofojmgmboaaB5
import Derived.Laws.ResultCell
namespace Go.Proofs.Ytideofojmgmboaa
open Go Go.RowKit
set_option linter.unusedVariables false
set_option linter.unusedSimpArgs false
set_option maxRecDepth 100000
variable {w : World} {a : Nat} {F : Nat → Prop} {L : List It}

theorem res_pair {fn : Func} {q u : Tmp} {ty : TypeId} (h : fn.results = #[.cell q ty, .tmp u]) (tmps : Array Value) (w : World) (g : Nat) (v z : Value)
    (hp : tmps.getD q undef = .pointer (some ⟨g, 0, none⟩)) (hv : tmps.getD u undef = v) (hl : (loadVar ty ⟨g, 0, none⟩).run Try.prog w = .ok z w) :
    (results fn tmps).run Try.prog w = .ok (.tuple #[z, v]) w := by
  rw [results_cell_tmp h, hp]
  have e1 : (asAddr (.pointer (some ⟨g, 0, none⟩))).run Try.prog w = .ok ⟨g, 0, none⟩ w := by simp [asAddr]
  rw [e1, Result.andThen_ok, hl, Result.andThen_ok, hv]
theorem Kp.below {w' : World} (h : Kp (fun k => w.heap.size ≤ k) w w') : Below w.heap.size w w' := ⟨h.os, h.tape, h.output, h.size, fun k hk => h.block k hk (by omega)⟩
theorem size23 : (Try.prog.info? 23).map (·.size) = some 2 := by kernel_rfl
def itV (x : It) : Value := .agg #[.int .i64 x.1, .int .i64 x.2]
theorem new_any (w : World) : Calls Try.prog 16 #[] w fun e w' => e = .returned (.pointer (some ⟨w.heap.size, 0, none⟩)) ∧ Below w.heap.size w w' ∧ w'.heap[w.heap.size]? = some (.cells #[.slice none 0 0, .map none] 56 (0, 0)) := by
  have HB := Lib.hid ((Below.refl w.heap.size w).alloc (Nat.le_refl _) (.cells #[.slice none 0 0, .map none] 56))
  have HN := Lib.hid (heap_alloc_new w (.cells #[.slice none 0 0, .map none] 56))
  go_enter Try.func16, Try.ntmps16
  go_wp2
  go_ret
  exact ⟨rfl, HB.out, HN.out⟩
theorem put_twice (h : Ag w a F L) (x : It) (hx : (pos L x.2).isSome = true) : Calls Try.prog 10 #[.pointer (some ⟨a, 0, none⟩), itV x] w fun e w' => e = .returned (.int .i64 7) ∧ Below w.heap.size w w' := by
  obtain ⟨d, k⟩ := x
  unfold itV
  have BA := (Below.refl w.heap.size w).alloc (Nat.le_refl _) (.cells #[.int .i64 d, .int .i64 k] 23)
  have HP := Lib.hid (place_ag (h.below BA) k)
  have HB := Lib.hid BA
  have b1 : (w.alloc (.cells #[.int .i64 d, .int .i64 k] 23)).cell? ⟨w.heap.size, 1, none⟩ = some (.int .i64 k) := by simp [cell_of (heap_alloc_new w (.cells #[.int .i64 d, .int .i64 k] 23))]
  rw [hx] at HP
  clear h BA
  generalize (((pos L k).getD 0 : Nat) : Int) = q at *
  go_enter Try.func10, Try.ntmps10
  go_wp2_with fail
  generalize hW : w.alloc (.cells #[.int .i64 d, .int .i64 k] 23) = W at *
  go_at_call 22; refine HP.out.mono ?_; rintro e w1 ⟨rfl, rfl⟩
  go_wp2_with fail
  go_ret
  exact ⟨rfl, HB.out⟩
set_option maxHeartbeats 2000000 in
theorem put_ok (h : Ag w a F L) (x : It) (hx : pos L x.2 = none) (hlen : L.length < 65536) : Calls Try.prog 10 #[.pointer (some ⟨a, 0, none⟩), itV x] w fun e w' => e = .returned (.int .i64 0) ∧ Kp F w w' ∧ Ag w' a (And0 F w.heap.size) (putL L x) := by
  obtain ⟨d, k⟩ := x
  unfold itV
  have BA := (Below.refl w.heap.size w).alloc (Nat.le_refl _) (.cells #[.int .i64 d, .int .i64 k] 23)
  have HP := Lib.hid (place_ag (h.below BA) k)
  have HA := Lib.hid (h.below BA)
  have HB := Lib.hid BA
  have hs := size_al w (.cells #[.int .i64 d, .int .i64 k] 23)
  have b0 : (w.alloc (.cells #[.int .i64 d, .int .i64 k] 23)).cell? ⟨w.heap.size, 0, none⟩ = some (.int .i64 d) := by simp [cell_of (heap_alloc_new w (.cells #[.int .i64 d, .int .i64 k] 23))]
  have b1 : (w.alloc (.cells #[.int .i64 d, .int .i64 k] 23)).cell? ⟨w.heap.size, 1, none⟩ = some (.int .i64 k) := by simp [cell_of (heap_alloc_new w (.cells #[.int .i64 d, .int .i64 k] 23))]
  have HX := Lib.hid hx
  simp only at hx
  rw [hx] at HP
  simp only [Option.isSome_none, Option.getD_none] at HP
  clear h BA hx
  go_enter Try.func10, Try.ntmps10
  go_wp2_with fail
  generalize hW : w.alloc (.cells #[.int .i64 d, .int .i64 k] 23) = W at *
  have HS := Lib.hid hs
  generalize hbw : w.heap.size = B at *
  clear hs hW
  have HL := Lib.hid (Len_ag HA.out)
  have hl1 : ¬ (65536 ≤ (L.length : Int)) := by omega
  have hl2 : decide (65536 ≤ (L.length : Int)) = false := by simpa using hl1
  have HPU := Lib.hid (fun (X : World) (hX : Ag X a F L) => push_ag swap_c hX (d, k) HX.out hlen)
  have HAD : Hid (Ag W.drew a F L) := HA.out.below (Below.refl _ _).drew
  have HBD : Hid (Below B w W.drew) := HB.out.drew
  go_at_call 22; refine HP.out.mono ?_; rintro e w1 ⟨rfl, rfl⟩
  go_wp2_with fail
  go_at_call 15; refine HL.out.mono ?_; rintro e w1 ⟨rfl, rfl⟩
  go_wp2_with fail
  have HSD : Hid (w1.drew.heap.size = B + 1) := HS.out
  have HP3 := Lib.hid (HPU.out _ HAD.out)
  clear HPU HP HL HA HB hlen
  go_region_with (go_at_call 23; refine HP3.out.mono ?_; rintro e w3 ⟨⟨v, rfl⟩, hk, ha⟩)
  go_wp2_with fail
  go_ret
  refine ⟨rfl, (Kp.of_below (by rw [hbw]; exact HBD.out)).trans hk (fun _ h => Or.inl h), ha.wide ?_⟩
  rw [HSD.out]
  rintro j (h | h)
  · exact Or.inl h
  · exact Or.inr (by omega)
def zeroIt : Array Value := #[.int .i64 0, .int .i64 0]
set_option maxHeartbeats 2000000 in
theorem take_ag (h : Ag w a F L) (n : Nat) (hL : L.length = n + 1) (hcap : L.length < 2305843009213693951) : Calls Try.prog 21 #[.pointer (some ⟨a, 0, none⟩)] w fun e w' => e = .returned (itV (hpop L).1) ∧ Kp F w w' ∧ Ag w' a (And0 F w.heap.size) (hpop L).2 := by
  have BA := (Below.refl w.heap.size w).alloc (Nat.le_refl _) (.cells #[.int .i64 0, .int .i64 0] 23)
  have HA := Lib.hid (h.below BA)
  have HB := Lib.hid BA
  have HS := Lib.hid (size_al w (.cells #[.int .i64 0, .int .i64 0] 23))
  have HN := Lib.hid (heap_alloc_new w (.cells #[.int .i64 0, .int .i64 0] 23))
  have HLT := Lib.hid h.lt
  have hc := h.2
  have hFl := h.1
  have HC : Hid (∃ lb mb cap clk, AgL w a lb mb cap clk L ∧ F lb ∧ F mb) := by
    rcases hc with ⟨_, rfl⟩ | hc
    · simp at hL
    · exact hc
  obtain ⟨lb, mb, cap, clk, hA0, hFb, hFm⟩ := HC.out
  have hA1 := hA0.below BA
  have HP := Lib.hid (heapPop_any swap_c L n hL hcap hA1)
  have HLL := Lib.hid hA0.lt
  have HF := Lib.hid (And.intro hFl (And.intro hFb hFm))
  clear h BA hc HC hA0 hA1 hL hcap hFl hFb hFm
  generalize hq : hpop L = q at *
  obtain ⟨⟨d, k⟩, K⟩ := q
  have hta := assert23 (.agg #[.int .i64 d, .int .i64 k])
  unfold itV
  go_enter Try.func21, Try.ntmps21
  go_wp2_with fail
  generalize hW : w.alloc (.cells #[.int .i64 0, .int .i64 0] 23) = W at *
  generalize hbw : w.heap.size = B at *
  clear hW hq
  go_at_call 32; refine HP.out.mono ?_; rintro e w1 ⟨rfl, hb1, ha1⟩
  have HN1 : Hid (w1.heap[B]? = some (.cells #[.int .i64 0, .int .i64 0] 23 (0, 0))) := by
    have h1 := HLL.out
    have h2 := HS.out
    exact (hb1.block B (by omega) (by simp; omega)).trans HN.out
  have HB1 := Lib.hid hb1
  have HA1 := Lib.hid ha1
  clear hb1 ha1
  have b0 : (w1.alloc (.cells #[.int .i64 d, .int .i64 k] 23)).cell? ⟨w1.heap.size, 0, none⟩ = some (.int .i64 d) := by simp [cell_of (heap_alloc_new w1 (.cells #[.int .i64 d, .int .i64 k] 23))]
  have b1 : (w1.alloc (.cells #[.int .i64 d, .int .i64 k] 23)).cell? ⟨w1.heap.size, 1, none⟩ = some (.int .i64 k) := by simp [cell_of (heap_alloc_new w1 (.cells #[.int .i64 d, .int .i64 k] 23))]
  have HN2 : Hid ((w1.alloc (.cells #[.int .i64 d, .int .i64 k] 23)).heap[B]? = some (.cells #[.int .i64 0, .int .i64 0] 23 (0, 0))) := (heap_al _ (block_lt HN1.out) _).trans HN1.out
  have r0 := cell_of HN2.out 0
  have r1 := cell_of HN2.out 1
  have g0 := frozen_of HN2.out 0
  have g1 := frozen_of HN2.out 1
  simp only [List.getElem?_toArray, List.getElem?_cons_succ, List.getElem?_cons_zero] at r0 r1
  go_wp2_with fail
  clear b0 b1 r0 r1 g0 g1
  obtain ⟨Z, hZ⟩ : ∃ Z, Z = ((w1.alloc (.cells #[.int .i64 d, .int .i64 k] 23)).setCell ⟨B, 0, none⟩ (.int .i64 d)).setCell ⟨B, 1, none⟩ (.int .i64 k) := ⟨_, rfl⟩
  rw [← hZ]
  have hl := HLL.out
  have hA := HA1.out
  have hAl := hA.lt
  have zb : Z.heap[B]? = some (.cells #[.int .i64 d, .int .i64 k] 23 (0, 0)) := by rw [hZ, heap_set (heap_set HN2.out 0 _) 1 _]; rfl
  have zk : ∀ j, j < B → j < w1.heap.size → Z.heap[j]? = w1.heap[j]? := fun j hj hj2 => by rw [hZ, heap_set_ne _ (by omega), heap_set_ne _ (by omega), heap_al _ hj2]
  have zB : But [a, lb, mb] w Z := by
    rw [hZ]
    have u1 : But [a, lb, mb] w W := But.of_below (by rw [hbw]; exact HB.out)
    exact (((u1.trans HB1.out).alloc _).set (Or.inr (by omega)) _ _).set (Or.inr (by omega)) _ _
  have zA : AgL Z a lb mb cap clk K := hA.kept (zk a hl.1 hAl.1) (zk lb hl.2.1 hAl.2.1) (zk mb hl.2.2 hAl.2.2)
  exact bodyPost_ret (v := .agg #[.int .i64 d, .int .i64 k]) (results_cell_row rfl _ _ B 23 #[.int .i64 d, .int .i64 k] (0, 0) _ rfl zb Try.underlying23 rfl size23) rfl ⟨rfl, ag_of HF.out.1 HF.out.2.1 HF.out.2.2 zB zA⟩
set_option maxHeartbeats 2000000 in
theorem pop_ok (h : Ag w a F L) (n : Nat) (hL : L.length = n + 1) (hcap : L.length < 2305843009213693951) : Calls Try.prog 6 #[.pointer (some ⟨a, 0, none⟩)] w fun e w' => e = .returned (.tuple #[itV (hpop L).1, .bool true]) ∧ Kp F w w' ∧ Ag w' a (And0 F w.heap.size) (hpop L).2 := by
  have BA := (Below.refl w.heap.size w).alloc (Nat.le_refl _) (.cells #[.int .i64 0, .int .i64 0] 23)
  have hs := size_al w (.cells #[.int .i64 0, .int .i64 0] 23)
  have hA0 := h.below BA
  have HL := Lib.hid (Len_ag hA0)
  have hA1 : Ag (w.alloc (.cells #[.int .i64 0, .int .i64 0] 23)) a (fun k => F k ∧ k < w.heap.size) L := by
    refine (Ag.below ?_ BA)
    obtain ⟨h1, h2⟩ := h
    refine ⟨⟨h1, Ag.lt ⟨h1, h2⟩⟩, ?_⟩
    rcases h2 with h2 | ⟨lb, mb, cap, clk, h2, h3, h4⟩
    · exact Or.inl h2
    · exact Or.inr ⟨lb, mb, cap, clk, h2, ⟨h3, h2.lt.2.1⟩, ⟨h4, h2.lt.2.2⟩⟩
  have HT := Lib.hid (take_ag hA1 n hL hcap)
  have HB := Lib.hid BA
  have HN := Lib.hid (heap_alloc_new w (.cells #[.int .i64 0, .int .i64 0] 23))
  have HS := Lib.hid hs
  have hn0 : ¬ ((L.length : Int) = 0) := by omega
  have hn1 : (((L.length : Nat) : Int) == 0) = false := by simpa using hn0
  clear h hA0 hA1 BA hs hL hcap
  rw [HS.out] at HT
  generalize hq : hpop L = q at *
  obtain ⟨⟨d, k⟩, K⟩ := q
  unfold itV at *
  clear hq
  generalize (L.length : Int) = ln at *
  go_enter Try.func6, Try.ntmps6
  go_wp2_with fail
  generalize hW : w.alloc (.cells #[.int .i64 0, .int .i64 0] 23) = W at *
  generalize hbw : w.heap.size = B at *
  clear hW
  go_at_call 15; refine HL.out.mono ?_; rintro e w1 ⟨rfl, rfl⟩
  go_wp2_with fail
  go_at_call 21; refine HT.out.mono ?_; rintro e w2 ⟨rfl, hk, ha⟩
  have HN2 : Hid (w2.heap[B]? = some (.cells #[.int .i64 0, .int .i64 0] 23 (0, 0))) := (hk.block B (by have := HS.out; omega) (by simp)).trans HN.out
  have HK := Lib.hid hk
  have HA := Lib.hid ha
  clear hk ha
  have r0 := cell_of HN2.out 0
  have r1 := cell_of HN2.out 1
  have g0 := frozen_of HN2.out 0
  have g1 := frozen_of HN2.out 1
  simp only [List.getElem?_toArray, List.getElem?_cons_succ, List.getElem?_cons_zero] at r0 r1
  go_wp2_with fail
  obtain ⟨Z, hZ⟩ : ∃ Z, Z = (w2.setCell ⟨B, 0, none⟩ (.int .i64 d)).setCell ⟨B, 1, none⟩ (.int .i64 k) := ⟨_, rfl⟩
  rw [← hZ]
  have zb : Z.heap[B]? = some (.cells #[.int .i64 d, .int .i64 k] 23 (0, 0)) := by rw [hZ, heap_set (heap_set HN2.out 0 _) 1 _]; rfl
  have zK : Kp (fun k => k = B) w2 Z := by
    rw [hZ]
    exact Kp.of_but (((But.refl [B] w2).set (Or.inl (by simp)) _ _).set (Or.inl (by simp)) _ _) (by simp)
  have zA := HA.out.kept zK (by rintro j (h | h) rfl; omega; omega)
  exact bodyPost_ret (v := .tuple #[.agg #[.int .i64 d, .int .i64 k], .bool true]) (res_pair rfl _ _ B _ _ rfl rfl (run_loadVar_row _ B 23 23 #[.int .i64 d, .int .i64 k] (0, 0) _ zb Try.underlying23 rfl size23)) rfl
    ⟨rfl, ((Kp.of_below (F := F) (by rw [hbw]; exact HB.out)).trans HK.out (fun j h => Or.inl h.1)).trans zK (fun j h => by subst h; exact Or.inr (by omega)), zA.wide (by
      rintro j (h | h)
      · exact Or.inl h.1
      · exact Or.inr (by omega))⟩
end Go.Proofs.Ytideofojmgmboaa
