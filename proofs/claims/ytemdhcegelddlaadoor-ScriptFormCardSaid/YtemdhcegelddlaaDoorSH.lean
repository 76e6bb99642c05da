/- script.Read's function: one more line. -/
import Derived.Test.YtemdhcegelddlaaDoorSF
import Derived.Test.YtemdhcegelddlaaDoorSG
namespace Go.Proofs.YtemdhcegelddlaaDoor
open Go Go.RowKit
set_option linter.unusedVariables false
set_option linter.unusedSimpArgs false

/-- one more run, if there is one and there is room -/
def more (l : List En) (s : List UInt8) : Option (List En) := match rdr s with
  | none => none
  | some (e, n) => if 65536 < l.length + n.toNat ∨ l.getLast? = some e then none else some (l ++ List.replicate n.toNat e)
theorem more_none {l : List En} {s : List UInt8} (h : rdr s = none) : more l s = none := by unfold more; rw [h]
theorem more_full {l : List En} {s : List UInt8} {e : En} {n : Nat} (h : rdr s = some (e, (n : Int))) (hl : 65536 < l.length + n) : more l s = none := by unfold more; rw [h]; simp only [Int.toNat_natCast]; exact if_pos (Or.inl hl)
theorem more_last {l : List En} {s : List UInt8} {e : En} {n : Nat} (h : rdr s = some (e, (n : Int))) (hl : l.getLast? = some e) : more l s = none := by unfold more; rw [h]; simp only [Int.toNat_natCast]; exact if_pos (Or.inr hl)
theorem more_some {l : List En} {s : List UInt8} {e : En} {n : Nat} (h : rdr s = some (e, (n : Int))) (h1 : ¬ 65536 < l.length + n) (h2 : l.getLast? ≠ some e) : more l s = some (l ++ List.replicate n e) := by unfold more; rw [h]; simp only [Int.toNat_natCast]; exact if_neg (by rintro (h | h); exact h1 h; exact h2 h)
theorem last_at {l : List En} (h : 0 < l.length) : l.getLast? = some (at_ l (l.length - 1)) := by
  rw [List.getLast?_eq_getElem?]
  unfold at_
  rw [List.getD_eq_getElem?_getD, List.getElem?_eq_getElem (by omega)]
  rfl

theorem step_append_run {P : Program} (w : World) {ops : Array Oper} {o : Oper} {a : Act} {K : Act → World → Prop} {Q : Exit → Act → World → Prop} {E : Prop} (hgd : o.guard = none) (s x : Operand) (t : TypeId)
    (ho : o.op = .call { callee := .builtin .append, args := #[s, x], argTypes := #[t, t] }) (v u : Value) (hs : a.eval s = v) (hx : a.eval x = u) {v' : Value} {w' : World}
    (hr : (Builtin.append_ #[t, t] o.type #[v, u]).run P w = .ok v' w') (h : K (a.put o.dst v') w') : if Region.wanted o (yielded ops a.tmps) = true then Oper.wp P o a w K Q else E := by
  have hw : Region.wanted o (yielded ops a.tmps) = true := by simp [Region.wanted, hgd]
  rw [if_pos hw]
  unfold Oper.wp execOp
  simp only [ho, resolve, invoke, builtin, Sem.run_bind, Sem.run_pure, Result.andThen_ok, List.map_toArray, List.map_cons, List.map_nil, hs, hx, hr]
  exact h
theorem own_last {x : World} {B cp q : Nat} {A : Option Addr} {l : List En} (h : x.ownsRow B 36 2 (.slice A l.length cp) l.length (flat l)) (hq : l.length = q + 1) :
    ∃ g, A = some ⟨g, 0, none⟩ ∧ ∀ y, Below x.heap.size x y → y.cell? ⟨g, q * 2, none⟩ = some (.int .i64 (at_ l q).k) ∧ y.cell? ⟨g, q * 2 + 1, none⟩ = some (.int .i64 (at_ l q).w) := by
  obtain ⟨g, -, hs⟩ := row_sees h
  obtain ⟨off, e, -⟩ := hs (by omega)
  have hA : A = some ⟨g, 0, none⟩ := by
    rcases h.2 with ⟨e', h0⟩ | ⟨g', cap, cur, e', r⟩
    · omega
    · cases e'; cases e; rfl
  refine ⟨g, hA, fun y hy => ?_⟩
  obtain ⟨off', e', hc⟩ := hs.below hy (by omega)
  rw [hA] at e'
  cases e'
  have := hc q (by omega)
  rw [Nat.zero_add] at this
  exact this
/-- what the function answers -/
def MayP (bl B : Nat) (l : List En) (s : List UInt8) (x : World) (r : Ending) (y : World) : Prop :=
  Kt (fun k => k = bl ∨ B ≤ k) x y ∧ ((∃ m, more l s = some m ∧ r = .returned (.bool true) ∧ Acc bl B 33 m y) ∨ (more l s = none ∧ r = .returned (.bool false)))

/-- behind slices.Repeat: the append, and the store -/
theorem may_tail {bl B : Nat} {l : List En} {x w3 : World} {A : Option Addr} {cp g2 n : Nat} {e : En} (hn : 1 ≤ n) (hl : l.length + n ≤ 65536)
    (hb : x.heap[bl]? = some (.cells #[.slice A l.length cp] 33 (0, 0))) (how : x.ownsRow B 36 2 (.slice A l.length cp) l.length (flat l)) (hB : B ≤ x.heap.size) (hbl : bl < B) (hx3 : Below x.heap.size x w3)
    (hg2 : w3.heap[g2]? = some (.cells (half e n n) 36 (0, 0))) :
    ∃ g cap w4, (Builtin.append_ #[33, 33] 33 #[.slice A l.length cp, .slice (some ⟨g2, 0, none⟩) n n]).run Tryd.prog w3 = .ok (.slice (some ⟨g, 0, none⟩) (l.length + n) cap) w4 ∧
      w4.cell? ⟨bl, 0, none⟩ = some (.slice A l.length cp) ∧ w4.frozen? ⟨bl, 0, none⟩ = false ∧
      Hid (Kt (fun k => k = bl ∨ B ≤ k) x (w4.setCell ⟨bl, 0, none⟩ (.slice (some ⟨g, 0, none⟩) (l.length + n) cap)) ∧ Acc bl B 33 (l ++ List.replicate n e) (w4.setCell ⟨bl, 0, none⟩ (.slice (some ⟨g, 0, none⟩) (l.length + n) cap))) := by
  obtain ⟨i0, hi, hz0, hz1, hz2⟩ := info_parts info36
  have s1 := hx3.size
  have ho3 := own_below how hx3
  obtain ⟨g, cap, w4, hrun, hO, hG, _, _⟩ := run_append_lies (P := Tryd.prog) w3 33 33 B 36 i0 _ 2 16 Tryd.underlying33 hi hz0 hz1 hz2 rfl (by decide) (.slice A l.length cp) l.length (flat l) ho3 ⟨g2, 0, none⟩ n n (flat (List.replicate n e)) (by rw [flat_len, List.length_replicate])
    (fun j u hj => World.news_of_block hg2 j u (by simp only [half, Nat.sub_self, List.replicate_zero, flat, List.append_nil]; exact hj)) (flat_one _) (by omega) (by unfold maxLen; omega) (by omega) (by omega) _ rfl
  have hlow := how.lt
  have s2 := hG.size
  have far : ∀ j, j < B → w4.heap[j]? = x.heap[j]? := fun j hj => (hG.block j (by omega) (fun e => by have := (hlow j e.symm).1; omega)).trans (hx3.block j (by omega))
  have hyb := (far bl hbl).trans hb
  refine ⟨g, cap, w4, hrun, cell_blk hyb 0, by simp [World.frozen?, hyb], ⟨hG.os.trans hx3.os, hG.tape.trans hx3.tape, hG.output.trans hx3.output, by rw [size_set]; omega, fun j hj hn => ?_⟩, some ⟨g, 0, none⟩, cap, ?_, ?_, hbl⟩
  · rw [heap_set_ne w4 (by omega)]
    exact far j (by omega)
  · rw [heap_set hyb]
    simp
  · rw [flat_app, List.length_append, List.length_replicate]
    refine ⟨hO.1, ?_⟩
    rcases hO.2 with ⟨e, h0⟩ | ⟨g', cap', cur, e, hB', hg, r⟩
    · omega
    · refine .inr ⟨g', cap', cur, e, hB', ?_, r⟩
      rw [heap_set_ne w4 (by omega)]; exact hg

set_option maxRecDepth 100000 in
set_option maxHeartbeats 8000000 in
theorem may_any (bl B : Nat) (l : List En) (hl : l.length ≤ 65536) (s : List UInt8) (hs : s.length ≤ 4194304) (x : World) (hT : Tab x) (hB : B ≤ x.heap.size) (hA : Acc bl B 33 l x) : Calls Tryd.prog 36 #[.string (bA s), .pointer (some ⟨bl, 0, none⟩)] x (MayP bl B l s x) := by
  obtain ⟨A, cp, hb, how, hbl⟩ := hA
  have HR := Lib.hid (readRun_any s hs x hT)
  have HL := Lib.hid hl
  clear hT hs hl
  cases hr : rdr s with
  | none =>
    rw [hr] at HR
    have HM := Lib.hid (more_none (l := l) hr)
    have hv : rrV none = .agg #[.int .i64 0, .int .i64 0, .int .i64 0] := rfl
    rw [hv] at HR
    go_enter Tryd.func36, Tryd.ntmps36
    go_wp2_with fail
    go_at_call 37
    refine HR.out.mono ?_
    rintro e w1 ⟨rfl, hb1⟩
    have HK := Lib.hid (Kt.of_below (T := fun k => k = bl ∨ B ≤ k) (hb1.alloc hb1.size (.cells #[.int .i64 0, .int .i64 0, .int .i64 0] 76)))
    clear hb how hb1
    go_wp2_with fail
    go_quiet (fail)
    go_wp2_with fail
    go_ret
    exact ⟨HK.out.drewN _, .inr ⟨HM.out, rfl⟩⟩
  | some p =>
    obtain ⟨⟨k, a⟩, n⟩ := p
    rw [hr] at HR
    obtain ⟨-, -, hn1, hn2⟩ := rdr_some hr
    obtain ⟨n, rfl⟩ := Int.eq_ofNat_of_zero_le (show 0 ≤ n by omega)
    have hv : rrV (some (⟨k, a⟩, (n : Int))) = .agg #[.int .i64 k, .int .i64 a, .int .i64 (n : Int)] := rfl
    rw [hv] at HR
    have HB := Lib.hid hB
    have HBX : Hid (∀ y, Below x.heap.size x y → Below x.heap.size x (y.alloc (.cells #[.int .i64 k, .int .i64 a, .int .i64 (n : Int)] 76)) ∧ (y.alloc (.cells #[.int .i64 k, .int .i64 a, .int .i64 (n : Int)] 76)).heap[bl]? = some (.cells #[.slice A l.length cp] 33 (0, 0)) ∧ (y.alloc (.cells #[.int .i64 k, .int .i64 a, .int .i64 (n : Int)] 76)).ownsRow B 36 2 (.slice A l.length cp) l.length (flat l)) := fun y hy => by
      have h1 : Below x.heap.size x (y.alloc (.cells #[.int .i64 k, .int .i64 a, .int .i64 (n : Int)] 76)) := hy.alloc hy.size _
      exact ⟨h1, (h1.block bl (by omega)).trans hb, own_below how h1⟩
    have HOW := Lib.hid how
    clear how hv
    by_cases hf : 65536 < l.length + n
    · have HM := Lib.hid (more_full hr hf)
      have hf1 : (65536 : Int) < (l.length : Int) + (n : Int) := by omega
      have hlb : (l.length : Int) ≤ 65536 := by have := HL.out; omega
      clear hr hb
      go_enter Tryd.func36, Tryd.ntmps36
      go_wp2_with fail
      go_at_call 37
      refine HR.out.mono ?_
      rintro e w1 ⟨rfl, hb1⟩
      obtain ⟨h1, h2, h3⟩ := HBX.out w1 hb1
      have c1 := cell_blk h2 0
      have HK := Lib.hid (Kt.of_below (T := fun k => k = bl ∨ B ≤ k) h1)
      clear h1 h2 h3 hb1
      go_wp2_with fail
      go_quiet (fail)
      go_wp2_with fail
      go_ret
      exact ⟨HK.out.drewN _, .inr ⟨HM.out, rfl⟩⟩
    · have hf1 : ¬ (65536 : Int) < (l.length : Int) + (n : Int) := by omega
      have hlb : (l.length : Int) ≤ 65536 := by have := HL.out; omega
      by_cases h0 : l.length = 0
      · have hlast : l.getLast? ≠ some ⟨k, a⟩ := by rw [List.eq_nil_of_length_eq_zero h0]; simp
        have HM := Lib.hid (more_some hr hf hlast)
        have HXB : Hid (x.heap[bl]? = some (.cells #[.slice A l.length cp] 33 (0, 0)) ∧ x.ownsRow B 36 2 (.slice A l.length cp) l.length (flat l)) := ⟨hb, HOW.out⟩
        have h0d : decide ((0 : Int) < (l.length : Int)) = false := by rw [decide_eq_false_iff_not]; omega
        have hfd : decide ((65536 : Int) < (l.length : Int) + (n : Int)) = false := by rw [decide_eq_false_iff_not]; omega
        have h0n : decide (0 < l.length) = false := by rw [decide_eq_false_iff_not]; omega
        have hwr : IntKind.i64.wrap ((l.length : Int) + (n : Int)) = (l.length : Int) + (n : Int) := IntWalk.i64_in _ (by omega)
        clear h0
        clear hr hb
        go_enter Tryd.func36, Tryd.ntmps36
        go_wp2_with fail
        go_at_call 37
        refine HR.out.mono ?_
        rintro e w1 ⟨rfl, hb1⟩
        obtain ⟨h1, h2, h3⟩ := HBX.out w1 hb1
        have c1 := cell_blk h2 0
        have t0 : (w1.alloc (.cells #[.int .i64 k, .int .i64 a, .int .i64 (n : Int)] 76)).cell? ⟨w1.heap.size, 0, none⟩ = some (.int .i64 k) := cell_blk (heap_alloc_new _ _) 0
        have t1 : (w1.alloc (.cells #[.int .i64 k, .int .i64 a, .int .i64 (n : Int)] 76)).cell? ⟨w1.heap.size, 1, none⟩ = some (.int .i64 a) := cell_blk (heap_alloc_new _ _) 1
        have t2 : (w1.alloc (.cells #[.int .i64 k, .int .i64 a, .int .i64 (n : Int)] 76)).cell? ⟨w1.heap.size, 2, none⟩ = some (.int .i64 (n : Int)) := cell_blk (heap_alloc_new _ _) 2
        have H1 := Lib.hid h1
        have H2 := Lib.hid h2
        have H3 := Lib.hid h3
        clear HR hb1
        go_wp2_with fail
        generalize w1.alloc (.cells #[.int .i64 k, .int .i64 a, .int .i64 (n : Int)] 76) = X1 at *
        generalize w1.heap.size = T at *
        have hTX : T < X1.heap.size := cell_lt t0
        have hbX : bl < X1.heap.size := cell_lt c1

        clear h1 h2 h3

        have HREP : Hid (∀ y : World, y.heap = (X1.alloc (.cells #[.int .i64 k, .int .i64 a] 36)).heap → y.os = X1.os → y.tape = X1.tape → y.output = X1.output → Calls Tryd.prog 38 #[.slice (some ⟨X1.heap.size, 0, none⟩) 1 1, .int .i64 (n : Int)] y fun r w3 => ∃ g2, r = .returned (.slice (some ⟨g2, 0, none⟩) n n) ∧ Hid (Below x.heap.size x w3 ∧ w3.heap[g2]? = some (.cells (half ⟨k, a⟩ n n) 36 (0, 0)))) := by
          intro y e1 e2 e3 e4
          have hy0 : y.heap[X1.heap.size]? = some (.cells #[.int .i64 k, .int .i64 a] 36 (0, 0)) := by rw [e1]; exact heap_alloc_new _ _
          have hz := H1.out.alloc H1.out.size (.cells #[.int .i64 k, .int .i64 a] 36)
          have hxy : Below x.heap.size x y := ⟨e2.trans H1.out.os, e3.trans H1.out.tape, e4.trans H1.out.output, by rw [e1]; exact hz.size, fun j hj => by rw [e1]; exact hz.block j hj⟩
          refine (repeat_any X1.heap.size ⟨k, a⟩ n ⟨by omega, by omega⟩ y (cell_blk hy0 0) (cell_blk hy0 1)).mono ?_
          rintro r w3 ⟨g2, rfl, hg2, _, hb3⟩
          exact ⟨g2, rfl, hxy.trans (hb3.mono hxy.size), hg2⟩
        have HTL := Lib.hid (fun (w3 : World) (g2 : Nat) h1 h2 => may_tail (bl := bl) (B := B) (l := l) (x := x) (w3 := w3) (A := A) (cp := cp) (g2 := g2) (n := n) (e := ⟨k, a⟩) (by omega) (by omega) HXB.out.1 HXB.out.2 HB.out hbl h1 h2)

        go_quiet (fail)
        go_wp2_with fail
        have HK := Lib.hid (Kt.of_below (T := fun k => k = bl ∨ B ≤ k) H1.out)

        clear HK
        have HCB : Hid (∀ w3 : World, Below x.heap.size x w3 → w3.cell? ⟨bl, 0, none⟩ = some (.slice A l.length cp)) := fun w3 h => cell_blk ((h.block bl (by have := HB.out; omega)).trans HXB.out.1) 0
        have a2 : ∀ q, ((X1.drewN q).alloc (.cells #[.int .i64 k, .int .i64 a] 36)).cell? ⟨T, 2, none⟩ = some (.int .i64 (n : Int)) := fun q => (World.cell?_of_block (heap_al (X1.drewN q) (k := T) hTX _)).trans t2
        have a1 : ∀ q, ((X1.drewN q).alloc (.cells #[.int .i64 k, .int .i64 a] 36)).cell? ⟨T, 1, none⟩ = some (.int .i64 a) := fun q => (World.cell?_of_block (heap_al (X1.drewN q) (k := T) hTX _)).trans t1
        have a0 : ∀ q, ((X1.drewN q).alloc (.cells #[.int .i64 k, .int .i64 a] 36)).cell? ⟨T, 0, none⟩ = some (.int .i64 k) := fun q => (World.cell?_of_block (heap_al (X1.drewN q) (k := T) hTX _)).trans t0
        have ab : ∀ q, ((X1.drewN q).alloc (.cells #[.int .i64 k, .int .i64 a] 36)).cell? ⟨bl, 0, none⟩ = some (.slice A l.length cp) := fun q => (World.cell?_of_block (heap_al (X1.drewN q) (k := bl) hbX _)).trans c1
        go_region_law (first | (refine step_append_run _ (by rfl) _ _ 33 (by rfl) _ _ (by rfl) (by rfl) hrun ?_) | (go_simp; go_at_call 38; refine (HREP.out ((X1.drewN (nq + 1)).alloc _) rfl rfl rfl rfl).mono ?_; rintro e w3 ⟨g2, rfl, HT3⟩; have hcb3 := HCB.out w3 HT3.out.1; obtain ⟨g, cap, w4, hrun, hc4, hf4, HF4⟩ := HTL.out w3 g2 HT3.out.1 HT3.out.2))
        all_goals (go_wp2_with fail; go_ret; exact ⟨HF4.out.1, .inl ⟨_, HM.out, rfl, HF4.out.2⟩⟩)
      · have hne : 0 < l.length := by omega
        have hla := last_at hne
        obtain ⟨q, hq⟩ : ∃ q, l.length = q + 1 := ⟨l.length - 1, by omega⟩
        have HQ := Lib.hid hq
        obtain ⟨gA, hA0, hAc⟩ := own_last HOW.out hq
        subst hA0
        have HXB : Hid (x.heap[bl]? = some (.cells #[.slice (some ⟨gA, 0, none⟩) l.length cp] 33 (0, 0)) ∧ x.ownsRow B 36 2 (.slice (some ⟨gA, 0, none⟩) l.length cp) l.length (flat l)) := ⟨hb, HOW.out⟩
        have HAC := Lib.hid hAc
        have h0d : decide ((0 : Int) < (l.length : Int)) = true := by rw [decide_eq_true_iff]; omega
        have hfd : decide ((65536 : Int) < (l.length : Int) + (n : Int)) = false := by rw [decide_eq_false_iff_not]; omega
        have h0n : decide (0 < l.length) = true := by rw [decide_eq_true_iff]; omega
        have hwr : IntKind.i64.wrap ((l.length : Int) + (n : Int)) = (l.length : Int) + (n : Int) := IntWalk.i64_in _ (by omega)
        have hws : IntKind.i64.wrap ((l.length : Int) - 1) = (l.length : Int) - 1 := IntWalk.i64_in _ (by omega)
        have hli : (l.length : Int) - 1 = (q : Int) := by omega
        have hlq : q < l.length := by omega
        have h65 : l.length ≤ 65536 := HL.out
        have h65d : ¬ 65536 < l.length + n := hf
        rw [show l.length - 1 = q by omega] at hla
        clear hq hAc
        by_cases he : (at_ l q) = (⟨k, a⟩ : En)
        · have hlast : l.getLast? = some ⟨k, a⟩ := by rw [hla, he]
          have HM := Lib.hid (more_last hr hlast)
          have ek : (at_ l q).k = k := by rw [he]
          have ea : (at_ l q).w = a := by rw [he]
          clear hr hb
          go_enter Tryd.func36, Tryd.ntmps36
          go_wp2_with fail
          go_at_call 37
          refine HR.out.mono ?_
          rintro e w1 ⟨rfl, hb1⟩
          obtain ⟨h1, h2, h3⟩ := HBX.out w1 hb1
          have c1 := cell_blk h2 0
          have t0 : (w1.alloc (.cells #[.int .i64 k, .int .i64 a, .int .i64 (n : Int)] 76)).cell? ⟨w1.heap.size, 0, none⟩ = some (.int .i64 k) := cell_blk (heap_alloc_new _ _) 0
          have t1 : (w1.alloc (.cells #[.int .i64 k, .int .i64 a, .int .i64 (n : Int)] 76)).cell? ⟨w1.heap.size, 1, none⟩ = some (.int .i64 a) := cell_blk (heap_alloc_new _ _) 1
          have t2 : (w1.alloc (.cells #[.int .i64 k, .int .i64 a, .int .i64 (n : Int)] 76)).cell? ⟨w1.heap.size, 2, none⟩ = some (.int .i64 (n : Int)) := cell_blk (heap_alloc_new _ _) 2
          have H1 := Lib.hid h1
          have H2 := Lib.hid h2
          have H3 := Lib.hid h3
          clear HR hb1
          go_wp2_with fail
          generalize w1.alloc (.cells #[.int .i64 k, .int .i64 a, .int .i64 (n : Int)] 76) = X1 at *
          generalize w1.heap.size = T at *
          have hTX : T < X1.heap.size := cell_lt t0
          have hbX : bl < X1.heap.size := cell_lt c1

          have z0 : X1.cell? ⟨gA, q * 2, none⟩ = some (.int .i64 (at_ l q).k) := (HAC.out X1 H1.out).1
          have z1 : X1.cell? ⟨gA, q * 2 + 1, none⟩ = some (.int .i64 (at_ l q).w) := (HAC.out X1 H1.out).2
          clear h1 h2 h3

          rw [ek] at z0
          rw [ea] at z1

          go_quiet (fail)
          go_wp2_with fail
          have HK := Lib.hid (Kt.of_below (T := fun k => k = bl ∨ B ≤ k) H1.out)

          go_ret
          exact ⟨HK.out.drewN _, .inr ⟨HM.out, rfl⟩⟩
        · have hlast : l.getLast? ≠ some ⟨k, a⟩ := by rw [hla]; intro h; exact he (Option.some.inj h)
          have HM := Lib.hid (more_some hr hf hlast)
          by_cases ek : (at_ l q).k = k
          · have ea : ¬ (at_ l q).w = a := fun h => he (by cases hh : at_ l q; rw [hh] at ek h; simp_all)
            have ead : decide ((at_ l q).w = a) = false := decide_eq_false ea
            clear hr hb
            go_enter Tryd.func36, Tryd.ntmps36
            go_wp2_with fail
            go_at_call 37
            refine HR.out.mono ?_
            rintro e w1 ⟨rfl, hb1⟩
            obtain ⟨h1, h2, h3⟩ := HBX.out w1 hb1
            have c1 := cell_blk h2 0
            have t0 : (w1.alloc (.cells #[.int .i64 k, .int .i64 a, .int .i64 (n : Int)] 76)).cell? ⟨w1.heap.size, 0, none⟩ = some (.int .i64 k) := cell_blk (heap_alloc_new _ _) 0
            have t1 : (w1.alloc (.cells #[.int .i64 k, .int .i64 a, .int .i64 (n : Int)] 76)).cell? ⟨w1.heap.size, 1, none⟩ = some (.int .i64 a) := cell_blk (heap_alloc_new _ _) 1
            have t2 : (w1.alloc (.cells #[.int .i64 k, .int .i64 a, .int .i64 (n : Int)] 76)).cell? ⟨w1.heap.size, 2, none⟩ = some (.int .i64 (n : Int)) := cell_blk (heap_alloc_new _ _) 2
            have H1 := Lib.hid h1
            have H2 := Lib.hid h2
            have H3 := Lib.hid h3
            clear HR hb1
            go_wp2_with fail
            generalize w1.alloc (.cells #[.int .i64 k, .int .i64 a, .int .i64 (n : Int)] 76) = X1 at *
            generalize w1.heap.size = T at *
            have hTX : T < X1.heap.size := cell_lt t0
            have hbX : bl < X1.heap.size := cell_lt c1

            have z0 : X1.cell? ⟨gA, q * 2, none⟩ = some (.int .i64 (at_ l q).k) := (HAC.out X1 H1.out).1
            have z1 : X1.cell? ⟨gA, q * 2 + 1, none⟩ = some (.int .i64 (at_ l q).w) := (HAC.out X1 H1.out).2
            clear h1 h2 h3

            rw [ek] at z0

            have HREP : Hid (∀ y : World, y.heap = (X1.alloc (.cells #[.int .i64 k, .int .i64 a] 36)).heap → y.os = X1.os → y.tape = X1.tape → y.output = X1.output → Calls Tryd.prog 38 #[.slice (some ⟨X1.heap.size, 0, none⟩) 1 1, .int .i64 (n : Int)] y fun r w3 => ∃ g2, r = .returned (.slice (some ⟨g2, 0, none⟩) n n) ∧ Hid (Below x.heap.size x w3 ∧ w3.heap[g2]? = some (.cells (half ⟨k, a⟩ n n) 36 (0, 0)))) := by
              intro y e1 e2 e3 e4
              have hy0 : y.heap[X1.heap.size]? = some (.cells #[.int .i64 k, .int .i64 a] 36 (0, 0)) := by rw [e1]; exact heap_alloc_new _ _
              have hz := H1.out.alloc H1.out.size (.cells #[.int .i64 k, .int .i64 a] 36)
              have hxy : Below x.heap.size x y := ⟨e2.trans H1.out.os, e3.trans H1.out.tape, e4.trans H1.out.output, by rw [e1]; exact hz.size, fun j hj => by rw [e1]; exact hz.block j hj⟩
              refine (repeat_any X1.heap.size ⟨k, a⟩ n ⟨by omega, by omega⟩ y (cell_blk hy0 0) (cell_blk hy0 1)).mono ?_
              rintro r w3 ⟨g2, rfl, hg2, _, hb3⟩
              exact ⟨g2, rfl, hxy.trans (hb3.mono hxy.size), hg2⟩
            have HTL := Lib.hid (fun (w3 : World) (g2 : Nat) h1 h2 => may_tail (bl := bl) (B := B) (l := l) (x := x) (w3 := w3) (A := some ⟨gA, 0, none⟩) (cp := cp) (g2 := g2) (n := n) (e := ⟨k, a⟩) (by omega) (by omega) HXB.out.1 HXB.out.2 HB.out hbl h1 h2)

            go_quiet (fail)
            go_wp2_with fail
            have HK := Lib.hid (Kt.of_below (T := fun k => k = bl ∨ B ≤ k) H1.out)

            clear HK
            have HCB : Hid (∀ w3 : World, Below x.heap.size x w3 → w3.cell? ⟨bl, 0, none⟩ = some (.slice (some ⟨gA, 0, none⟩) l.length cp)) := fun w3 h => cell_blk ((h.block bl (by have := HB.out; omega)).trans HXB.out.1) 0
            have a2 : ∀ q, ((X1.drewN q).alloc (.cells #[.int .i64 k, .int .i64 a] 36)).cell? ⟨T, 2, none⟩ = some (.int .i64 (n : Int)) := fun q => (World.cell?_of_block (heap_al (X1.drewN q) (k := T) hTX _)).trans t2
            have a1 : ∀ q, ((X1.drewN q).alloc (.cells #[.int .i64 k, .int .i64 a] 36)).cell? ⟨T, 1, none⟩ = some (.int .i64 a) := fun q => (World.cell?_of_block (heap_al (X1.drewN q) (k := T) hTX _)).trans t1
            have a0 : ∀ q, ((X1.drewN q).alloc (.cells #[.int .i64 k, .int .i64 a] 36)).cell? ⟨T, 0, none⟩ = some (.int .i64 k) := fun q => (World.cell?_of_block (heap_al (X1.drewN q) (k := T) hTX _)).trans t0
            have ab : ∀ q, ((X1.drewN q).alloc (.cells #[.int .i64 k, .int .i64 a] 36)).cell? ⟨bl, 0, none⟩ = some (.slice (some ⟨gA, 0, none⟩) l.length cp) := fun q => (World.cell?_of_block (heap_al (X1.drewN q) (k := bl) hbX _)).trans c1
            go_region_law (first | (refine step_append_run _ (by rfl) _ _ 33 (by rfl) _ _ (by rfl) (by rfl) hrun ?_) | (go_simp; go_at_call 38; refine (HREP.out ((X1.drewN (nq + 1)).alloc _) rfl rfl rfl rfl).mono ?_; rintro e w3 ⟨g2, rfl, HT3⟩; have hcb3 := HCB.out w3 HT3.out.1; obtain ⟨g, cap, w4, hrun, hc4, hf4, HF4⟩ := HTL.out w3 g2 HT3.out.1 HT3.out.2))
            all_goals (go_wp2_with fail; go_ret; exact ⟨HF4.out.1, .inl ⟨_, HM.out, rfl, HF4.out.2⟩⟩)
          · have ekd : decide ((at_ l q).k = k) = false := decide_eq_false ek
            clear hr hb
            go_enter Tryd.func36, Tryd.ntmps36
            go_wp2_with fail
            go_at_call 37
            refine HR.out.mono ?_
            rintro e w1 ⟨rfl, hb1⟩
            obtain ⟨h1, h2, h3⟩ := HBX.out w1 hb1
            have c1 := cell_blk h2 0
            have t0 : (w1.alloc (.cells #[.int .i64 k, .int .i64 a, .int .i64 (n : Int)] 76)).cell? ⟨w1.heap.size, 0, none⟩ = some (.int .i64 k) := cell_blk (heap_alloc_new _ _) 0
            have t1 : (w1.alloc (.cells #[.int .i64 k, .int .i64 a, .int .i64 (n : Int)] 76)).cell? ⟨w1.heap.size, 1, none⟩ = some (.int .i64 a) := cell_blk (heap_alloc_new _ _) 1
            have t2 : (w1.alloc (.cells #[.int .i64 k, .int .i64 a, .int .i64 (n : Int)] 76)).cell? ⟨w1.heap.size, 2, none⟩ = some (.int .i64 (n : Int)) := cell_blk (heap_alloc_new _ _) 2
            have H1 := Lib.hid h1
            have H2 := Lib.hid h2
            have H3 := Lib.hid h3
            clear HR hb1
            go_wp2_with fail
            generalize w1.alloc (.cells #[.int .i64 k, .int .i64 a, .int .i64 (n : Int)] 76) = X1 at *
            generalize w1.heap.size = T at *
            have hTX : T < X1.heap.size := cell_lt t0
            have hbX : bl < X1.heap.size := cell_lt c1

            have z0 : X1.cell? ⟨gA, q * 2, none⟩ = some (.int .i64 (at_ l q).k) := (HAC.out X1 H1.out).1
            have z1 : X1.cell? ⟨gA, q * 2 + 1, none⟩ = some (.int .i64 (at_ l q).w) := (HAC.out X1 H1.out).2
            clear h1 h2 h3

            have HREP : Hid (∀ y : World, y.heap = (X1.alloc (.cells #[.int .i64 k, .int .i64 a] 36)).heap → y.os = X1.os → y.tape = X1.tape → y.output = X1.output → Calls Tryd.prog 38 #[.slice (some ⟨X1.heap.size, 0, none⟩) 1 1, .int .i64 (n : Int)] y fun r w3 => ∃ g2, r = .returned (.slice (some ⟨g2, 0, none⟩) n n) ∧ Hid (Below x.heap.size x w3 ∧ w3.heap[g2]? = some (.cells (half ⟨k, a⟩ n n) 36 (0, 0)))) := by
              intro y e1 e2 e3 e4
              have hy0 : y.heap[X1.heap.size]? = some (.cells #[.int .i64 k, .int .i64 a] 36 (0, 0)) := by rw [e1]; exact heap_alloc_new _ _
              have hz := H1.out.alloc H1.out.size (.cells #[.int .i64 k, .int .i64 a] 36)
              have hxy : Below x.heap.size x y := ⟨e2.trans H1.out.os, e3.trans H1.out.tape, e4.trans H1.out.output, by rw [e1]; exact hz.size, fun j hj => by rw [e1]; exact hz.block j hj⟩
              refine (repeat_any X1.heap.size ⟨k, a⟩ n ⟨by omega, by omega⟩ y (cell_blk hy0 0) (cell_blk hy0 1)).mono ?_
              rintro r w3 ⟨g2, rfl, hg2, _, hb3⟩
              exact ⟨g2, rfl, hxy.trans (hb3.mono hxy.size), hg2⟩
            have HTL := Lib.hid (fun (w3 : World) (g2 : Nat) h1 h2 => may_tail (bl := bl) (B := B) (l := l) (x := x) (w3 := w3) (A := some ⟨gA, 0, none⟩) (cp := cp) (g2 := g2) (n := n) (e := ⟨k, a⟩) (by omega) (by omega) HXB.out.1 HXB.out.2 HB.out hbl h1 h2)

            go_quiet (fail)
            go_wp2_with fail
            have HK := Lib.hid (Kt.of_below (T := fun k => k = bl ∨ B ≤ k) H1.out)

            clear HK
            have HCB : Hid (∀ w3 : World, Below x.heap.size x w3 → w3.cell? ⟨bl, 0, none⟩ = some (.slice (some ⟨gA, 0, none⟩) l.length cp)) := fun w3 h => cell_blk ((h.block bl (by have := HB.out; omega)).trans HXB.out.1) 0
            have a2 : ∀ q, ((X1.drewN q).alloc (.cells #[.int .i64 k, .int .i64 a] 36)).cell? ⟨T, 2, none⟩ = some (.int .i64 (n : Int)) := fun q => (World.cell?_of_block (heap_al (X1.drewN q) (k := T) hTX _)).trans t2
            have a1 : ∀ q, ((X1.drewN q).alloc (.cells #[.int .i64 k, .int .i64 a] 36)).cell? ⟨T, 1, none⟩ = some (.int .i64 a) := fun q => (World.cell?_of_block (heap_al (X1.drewN q) (k := T) hTX _)).trans t1
            have a0 : ∀ q, ((X1.drewN q).alloc (.cells #[.int .i64 k, .int .i64 a] 36)).cell? ⟨T, 0, none⟩ = some (.int .i64 k) := fun q => (World.cell?_of_block (heap_al (X1.drewN q) (k := T) hTX _)).trans t0
            have ab : ∀ q, ((X1.drewN q).alloc (.cells #[.int .i64 k, .int .i64 a] 36)).cell? ⟨bl, 0, none⟩ = some (.slice (some ⟨gA, 0, none⟩) l.length cp) := fun q => (World.cell?_of_block (heap_al (X1.drewN q) (k := bl) hbX _)).trans c1
            go_region_law (first | (refine step_append_run _ (by rfl) _ _ 33 (by rfl) _ _ (by rfl) (by rfl) hrun ?_) | (go_simp; go_at_call 38; refine (HREP.out ((X1.drewN (nq + 1)).alloc _) rfl rfl rfl rfl).mono ?_; rintro e w3 ⟨g2, rfl, HT3⟩; have hcb3 := HCB.out w3 HT3.out.1; obtain ⟨g, cap, w4, hrun, hc4, hf4, HF4⟩ := HTL.out w3 g2 HT3.out.1 HT3.out.2))
            all_goals (go_wp2_with fail; go_ret; exact ⟨HF4.out.1, .inl ⟨_, HM.out, rfl, HF4.out.2⟩⟩)
end Go.Proofs.YtemdhcegelddlaaDoor
