/- report.Write of events. -/
import Derived.Test.YtalilnnjpemmlaaDoorE1
import Derived.Test.YtalilnnjpemmlaaDoorK4
import Derived.Test.YtalilnnjpemmlaaDoorBw
import Derived.Lib.UnsafeStr
namespace Go.Proofs.YtalilnnjpemmlaaDoor
open Go Go.RowKit
set_option linter.unusedVariables false
set_option linter.unusedSimpArgs false

theorem builder_below {B b : Nat} {p : Value} {bs : List Value} {w w' : World} (h : Lib.BuilderAt 55 5 B b p bs w) (hb : Below w.heap.size w w') : Lib.BuilderAt 55 5 B b p bs w' := by
  have hlt := h.lt
  obtain ⟨hB, v, hbk, hown, hne⟩ := h
  refine ⟨hB, v, (hb.block b hlt).trans hbk, ?_, hne⟩
  obtain ⟨h1, h2⟩ := hown
  refine ⟨h1, ?_⟩
  rcases h2 with h2 | ⟨g, cap, cur, e1, h3, h4, h5⟩
  · exact .inl h2
  · exact .inr ⟨g, cap, cur, e1, h3, (hb.block g (block_lt h4)).trans h4, h5⟩
theorem isBuilder_below {B b : Nat} {bs : List Value} {w w' : World} (h : Lib.IsBuilder 55 5 B b bs w) (hb : Below w.heap.size w w') : Lib.IsBuilder 55 5 B b bs w' := by
  rcases h with h | h
  · exact .inl (builder_below h hb)
  · exact .inr (builder_below h hb)
/-- may all of them be told? -/
def oks (l : List Ev) : Prop := ∀ e ∈ l, e.ok
theorem ln_len (e : Ev) (h : e.ok) : (ln e).length ≤ 100 := by
  obtain ⟨hk, hg, ho, ht, hp⟩ := h
  have h1 := kw_len e.k.toNat
  have h2 := pt_len 103 e.g.toNat (by omega)
  have h3 := pt_len 103 e.o.toNat (by omega)
  have h4 := pt_len 116 e.t.toNat (by omega)
  have h5 := pt_len 112 e.p.toNat (by omega)
  unfold ln
  split <;> split <;> simp only [List.length_append, List.length_nil] <;> omega
theorem wr_app (l m : List Ev) : wr (l ++ m) = wr l ++ wr m := by
  induction l with
  | nil => rfl
  | cons e l ih => simp [wr, ih]
theorem wr_one (e : Ev) : wr [e] = ln e ++ [10] := by simp [wr]
theorem wr_len (l : List Ev) (h : oks l) : (wr l).length ≤ 101 * l.length := by
  induction l with
  | nil => simp [wr]
  | cons e l ih =>
    have h1 := ln_len e (h e (by simp))
    have h2 := ih (fun x hx => h x (by simp [hx]))
    simp only [wr, List.length_append, List.length_cons]
    omega
theorem take_at {l : List Ev} {k : Nat} (hk : k < l.length) : l.take (k + 1) = l.take k ++ [at_ l k] := by
  rw [List.take_succ_eq_append_getElem hk]
  unfold at_
  rw [List.getD_eq_getElem?_getD, List.getElem?_eq_getElem hk]; rfl
theorem at_mem {l : List Ev} {k : Nat} (hk : k < l.length) : at_ l k ∈ l := by
  unfold at_
  rw [List.getD_eq_getElem?_getD, List.getElem?_eq_getElem hk]
  exact List.getElem_mem hk
theorem oks_take {l : List Ev} {k : Nat} (h : oks (l.take k)) (hk : k < l.length) (he : (at_ l k).ok) : oks (l.take (k + 1)) := by
  rw [take_at hk]
  intro x hx
  rcases List.mem_append.1 hx with hx | hx
  · exact h x hx
  · rw [List.mem_singleton] at hx; subst hx; exact he
/-- while the lines are written -/
structure Wb (w x : World) (l : List Ev) (k : Nat) : Prop where
  bd : Lib.IsBuilder 55 5 w.heap.size w.heap.size (Lib.byteCells (wr (l.take k))) x
  bel : Below w.heap.size w x
  ok : oks (l.take k)
  lt : w.heap.size < x.heap.size

theorem Wb.len {w x : World} {l : List Ev} {k : Nat} (h : Wb w x l k) (hl : l.length ≤ 65536) : (wr (l.take k)).length ≤ 6619136 := by
  have h1 := wr_len _ h.ok
  have h2 : (l.take k).length ≤ l.length := by rw [List.length_take]; omega
  omega
set_option maxRecDepth 100000 in
set_option maxHeartbeats 4000000 in
theorem write_any_ev (w : World) (hT : Tab w) (b : Nat) (A : Option Addr) (cp : Nat) (l : List Ev) (n : Nat) (hn : l.length = n) (hl : n ≤ 65536) (hs : Sees w b A l) : Calls Tryd.prog 17 #[.slice A n cp] w fun e w' =>
    ((oks l ∧ e = .returned (.tuple #[.string (bA (wr l)), .int .i64 0])) ∨ (¬ oks l ∧ e = .returned (.tuple #[.string ⟨#[]⟩, .int .i64 1]))) ∧ Below w.heap.size w w' := by
  have HN := Lib.hid hn
  have HL := Lib.hid hl
  have HS := Lib.hid (fun (X : World) (hb : Below w.heap.size w X) => hs.below hb)
  have HTT := Lib.hid (fun (X : World) (hb : Below w.heap.size w X) => hT.below hb hT.size)
  have h1i : ¬ (65536 : Int) < (n : Int) := by omega
  have HW0 : Hid (Wb w (w.alloc (.cells #[.pointer none, .slice none 0 0] 55)) l 0) := ⟨Or.inl ⟨Nat.le_refl _, .slice none 0 0, heap_alloc_new _ _, by simpa [wr, Lib.byteCells] using World.ownsRow_nil _ _ _ _, by simp [Value.ownBlock]⟩, (Below.refl _ w).alloc (Nat.le_refl _) _, by intro x hx; simp at hx, by rw [size_al]; omega⟩
  clear hs hn hT hl
  go_enter Tryd.func17, Tryd.ntmps17
  go_wp2_with fail
  generalize w.alloc (.cells #[.pointer none, .slice none 0 0] 55) = W at *
  go_loopw [14] (fun i wx => ∃ k : Nat, i = .int .i64 (k : Int) ∧ k ≤ n ∧ Hid (Wb w wx l k)) (fun i _ => n - (intOf i).toNat)
  case atStart => exact ⟨0, rfl, by omega, HW0⟩
  case round =>
    obtain ⟨k, rfl, hk, HB⟩ := hrel
    by_cases hlt : k < n
    · have hki : (k : Int) < (n : Int) := by omega
      have HKL : Hid (k < l.length) := by show k < _; rw [HN.out]; exact hlt
      obtain ⟨off, rfl, hcs⟩ := HS.out wr HB.out.bel (by have := HKL.out; omega)
      obtain ⟨⟨x0, x1, x2, x3, x4⟩, hx⟩ : ∃ x, at_ l k = x := ⟨_, rfl⟩
      have c0 := hcs k 0 HKL.out (by omega)
      have c1 := hcs k 1 HKL.out (by omega)
      have c2 := hcs k 2 HKL.out (by omega)
      have c3 := hcs k 3 HKL.out (by omega)
      have c4 := hcs k 4 HKL.out (by omega)
      rw [hx] at c0 c1 c2 c3 c4
      simp only [Ev.f, Nat.add_zero] at c0 c1 c2 c3 c4
      have HX := Lib.hid hx
      clear hx hcs
      have HBA := Lib.hid ((Below.refl wr.heap.size wr).alloc (Nat.le_refl _) (.cells #[.int .i64 x0, .int .i64 x1, .int .i64 x2, .int .i64 x3, .int .i64 x4] 25))
      have HBB := Lib.hid (HB.out.bel.trans (HBA.out.mono HB.out.bel.size))
      have HLn : Hid (∀ y, Tab y → Calls Tryd.prog 12 #[.agg #[.int .i64 x0, .int .i64 x1, .int .i64 x2, .int .i64 x3, .int .i64 x4]] y fun r w' => r = .returned (.tuple #[.string (bA (lnS ⟨x0, x1, x2, x3, x4⟩)), .bool (decide (Ev.ok ⟨x0, x1, x2, x3, x4⟩))]) ∧ Below y.heap.size y w') := fun y hy => line_any ⟨x0, x1, x2, x3, x4⟩ y hy
      by_cases hok : Ev.ok ⟨x0, x1, x2, x3, x4⟩
      · have hd : decide (Ev.ok ⟨x0, x1, x2, x3, x4⟩) = true := decide_eq_true hok
        have hls : lnS ⟨x0, x1, x2, x3, x4⟩ = ln ⟨x0, x1, x2, x3, x4⟩ ++ [10] := if_pos hok
        rw [hd, hls] at HLn
        have HOK := Lib.hid (oks_take HB.out.ok HKL.out (by rw [HX.out]; exact hok))
        have HWR : Hid (Go.Proofs.YtalilnnjpemmlaaDoor.wr (l.take (k + 1)) = Go.Proofs.YtalilnnjpemmlaaDoor.wr (l.take k) ++ (ln ⟨x0, x1, x2, x3, x4⟩ ++ [10])) := by show _ = _; rw [take_at HKL.out, wr_app, wr_one, HX.out]
        have HLL := Lib.hid (ln_len _ hok)
        clear hd hls hok
        go_wp2_with fail
        go_at_call 12
        refine (HLn.out _ (HTT.out _ HBB.out)).mono ?_
        rintro e w2 ⟨rfl, hb2⟩
        have HB2 := Lib.hid (isBuilder_below HB.out.bd (HBA.out.trans (hb2.mono HBA.out.size)))
        have HE2 : Hid (Below w.heap.size w w2 ∧ wr.heap.size ≤ w2.heap.size) := ⟨HBB.out.trans (hb2.mono HBB.out.size), Nat.le_trans HBA.out.size hb2.size⟩
        clear c0 c1 c2 c3 c4 hb2 HBA HBB HLn HX
        go_wp2_with fail
        go_at_call 25
        refine (write_any w.heap.size w.heap.size _ (bA (ln ⟨x0, x1, x2, x3, x4⟩ ++ [10])) w2 HB2.out (by have := HB.out.len (by rw [HN.out]; exact HL.out); have := HLL.out; rw [Lib.byteCells_length, bA_size]; simp; omega) HE2.out.1.size).mono ?_
        rintro e w3 ⟨rfl, hbd, hb3, -⟩
        have HW3 : Hid (Wb w w3 l (k + 1)) := by
          refine ⟨Or.inr ?_, HE2.out.1.trans hb3, HOK.out, by have h1 := HB.out.lt; have h2 := HE2.out.2; have h3 := hb3.size; omega⟩
          rw [HWR.out, Lib.byteCells_append]
          exact hbd
        clear hbd hb3 HB2 HE2 HOK HWR HLL
        go_wp2_with fail
        go_roundw
        case rel => exact ⟨k + 1, by go_num, by omega, HW3⟩
        case measure => simp [intOf]; omega
      · have hd : decide (Ev.ok ⟨x0, x1, x2, x3, x4⟩) = false := decide_eq_false hok
        rw [hd] at HLn
        have HNO : Hid (¬ oks l) := fun h => hok (by rw [← HX.out]; exact h _ (at_mem HKL.out))
        clear hd hok
        go_wp2_with fail
        go_at_call 12
        refine (HLn.out _ (HTT.out _ HBB.out)).mono ?_
        rintro e w2 ⟨rfl, hb2⟩
        have HE2 : Hid (Below w.heap.size w w2) := HBB.out.trans (hb2.mono HBB.out.size)
        clear c0 c1 c2 c3 c4 hb2 HBA HBB HLn HX
        go_wp2_with fail
        go_ret2
        exact ⟨.inr ⟨HNO.out, rfl⟩, HE2.out⟩
    · obtain rfl : k = n := by omega
      have hki : ¬ (k : Int) < (k : Int) := by omega
      have HF : Hid (l.take k = l) := by show _ = _; rw [← HN.out, List.take_length]
      have HB2 := Lib.hid HB.out.bd
      have HO := Lib.hid HB.out.ok
      rw [HF.out] at HB2 HO
      go_wp2_with fail
      go_at_call 26
      refine (Builder_String_any w.heap.size w.heap.size (Go.Proofs.YtalilnnjpemmlaaDoor.wr l) wr HB2.out HB.out.bel.size).mono ?_
      rintro e w2 ⟨rfl, hb2⟩
      have HE2 : Hid (Below w.heap.size w w2) := HB.out.bel.trans hb2
      clear hb2
      go_wp2_with fail
      go_ret2
      exact ⟨.inl ⟨HO.out, rfl⟩, HE2.out⟩
end Go.Proofs.YtalilnnjpemmlaaDoor
