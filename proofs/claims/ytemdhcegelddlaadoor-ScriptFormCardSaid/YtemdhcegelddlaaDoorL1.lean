/- strings.Lines: a function that hands out the lines of a text, one by one; its text lies in a box of its own. -/
import Derived.Test.YtemdhcegelddlaaDoorU1
import Derived.Shelf.Abstract
import Derived.Shelf.RegionOpen
import Derived.OwnWalkIn
import Derived.TacticsInMore
import Derived.LoopNIn
import Derived.LoopIn
namespace Go.Proofs.YtemdhcegelddlaaDoor
open Go Go.RowKit Go.Shelf
set_option linter.unusedVariables false
set_option linter.unusedSimpArgs false
attribute [local go_sem] Oper.semAt_some

/-- `pre` was told, `r` is left -/
def LinesAt (s : List UInt8) (pre : List (List UInt8)) (r : List UInt8) : Prop := ∃ f, r.length ≤ f ∧ lns s.length s = pre ++ lns f r ∧ r.length ≤ s.length
theorem LinesAt.start (s : List UInt8) : LinesAt s [] s := ⟨s.length, Nat.le_refl _, rfl, Nat.le_refl _⟩
theorem LinesAt.done {s : List UInt8} {pre : List (List UInt8)} (h : LinesAt s pre []) : pre = lns s.length s := by
  obtain ⟨f, _, h, _⟩ := h
  rw [h]
  cases f <;> simp [lns]
theorem LinesAt.last {s : List UInt8} {pre : List (List UInt8)} {r : List UInt8} (h : LinesAt s pre r) (hr : r ≠ []) (hi : Lib.indexByte r 10 = -1) : LinesAt s (pre ++ [r]) [] := by
  obtain ⟨f, h1, h2, h3⟩ := h
  cases f with
  | zero => exact absurd (List.eq_nil_of_length_eq_zero (by omega)) hr
  | succ f =>
    refine ⟨0, by simp, ?_, by simp⟩
    have e : lns (f + 1) r = [r] := by rw [lns, if_neg hr, if_pos hi]
    rw [h2, e]
    simp [lns]
theorem LinesAt.next {s : List UInt8} {pre : List (List UInt8)} {r : List UInt8} (h : LinesAt s pre r) {i : Nat} (hi : Lib.indexByte r 10 = (i : Int)) (hr : r ≠ []) : LinesAt s (pre ++ [r.take (i + 1)]) (r.drop (i + 1)) := by
  obtain ⟨f, h1, h2, h3⟩ := h
  cases f with
  | zero => exact absurd (List.eq_nil_of_length_eq_zero (by omega)) hr
  | succ f =>
    refine ⟨f, by simp; omega, ?_, by simp; omega⟩
    rw [h2, lns, if_neg hr, hi, if_neg (by omega)]
    simp
theorem LinesAt.pre {s : List UInt8} {pre : List (List UInt8)} {r : List UInt8} (h : LinesAt s pre r) : pre <+: lns s.length s := by
  obtain ⟨f, _, h, _⟩ := h
  rw [h]; exact List.prefix_append _ _
theorem ib_lt (r : List UInt8) (c : UInt8) : Lib.indexByte r c = -1 ∨ ∃ i : Nat, Lib.indexByte r c = (i : Int) ∧ i < r.length := by
  rcases ib_cases r c with ⟨_, h⟩ | ⟨a, b, rfl, _, h⟩
  · exact .inl h
  · exact .inr ⟨a.length, h, by simp⟩
theorem slice_to (r : List UInt8) (i : Nat) (h : i + 1 ≤ r.length) (w : World) : (Instr.slice 9 (.string (bA r)) none (some (.int .i64 ((i : Int) + 1))) none).run Tryd.prog w = .ok (.string (bA (r.take (i + 1)))) w := by
  rw [run_slice_string_to_if _ _ _ _ _ Tryd.underlying9, if_pos ⟨by omega, by rw [bA_size]; omega⟩, show ((i : Int) + 1).toNat = i + 1 by omega]
  rw [bA_of ((bA r).extract 0 (i + 1)) (r.take (i + 1)) (by rw [Lib.extract_data, bA_data]; simp)]
theorem slice_from (r : List UInt8) (i : Nat) (h : i + 1 ≤ r.length) (w : World) : (Instr.slice 9 (.string (bA r)) (some (.int .i64 ((i : Int) + 1))) none none).run Tryd.prog w = .ok (.string (bA (r.drop (i + 1)))) w := by
  rw [run_slice_string_from_if _ _ _ _ _ Tryd.underlying9, if_pos ⟨by omega, by rw [bA_size]; omega⟩, show ((i : Int) + 1).toNat = i + 1 by omega]
  rw [bA_of ((bA r).extract (i + 1) (bA r).size) (r.drop (i + 1)) (by rw [Lib.extract_to_end, bA_data])]

/-- how much is left in the box -/
def boxLen (b : Nat) (w : World) : Nat := match w.heap[b]? with
  | some (.cells cs _ _) => (match cs[0]? with | some (Value.string k) => k.size | _ => 0)
  | _ => 0
theorem boxLen_eq {b : Nat} {w : World} {r : List UInt8} (h : w.heap[b]? = some (.cells #[.string (bA r)] 9 (0, 0))) : boxLen b w = r.length := by
  unfold boxLen
  rw [h]
  simp [bA_size]
theorem ixb (r : List UInt8) (w : World) : Calls Tryd.prog 76 #[.string (bA r), .int .u8 10] w fun e w' => e = .returned (.int .i64 (Lib.indexByte r 10)) ∧ w' = w := by
  have h := strings_IndexByte (bA r) 10 w
  rw [bA_data] at h
  exact h

set_option maxRecDepth 100000 in
set_option maxHeartbeats 4000000 in
theorem lines_gives (N : Nat) (hN : 1 ≤ N) (b : Nat) (s : List UInt8) (hs : s.length ≤ 4194304) (w : World) (hb : w.heap[b]? = some (.cells #[.string (bA s)] 9 (0, 0))) :
    Gives Fence.wide N Tryd.prog 75 #[.pointer (some ⟨b, 0, none⟩)] (fun x : List UInt8 => #[.string (bA x)]) b (fun xs => xs = lns s.length s) (fun pre => pre <+: lns s.length s) w := by
  intro l J Jx W hW hlb hJ hJx hY h0
  have hbw : b < w.heap.size := (Array.getElem?_eq_some_iff.1 hb).1
  have hbW : W.heap[b]? = some (.cells #[.string (bA s)] 9 (0, 0)) := (hW.block b hbw).trans hb
  have HJ : Hid _ := hJ
  have HY : Hid _ := hY
  have H0 : Hid (J [] W) := h0
  clear hJ hJx hY h0 hW hbw hb
  show CallsIn Fence.wide N Tryd.prog 75 #[.func (.yield l) #[] #[], .pointer (some ⟨b, 0, none⟩)] W _
  refine callsIn_of_wp Tryd.func75 rfl trivial ?_ rfl
  simp only [Tryd.ntmps75, List.size_toArray, List.length_cons, List.length_nil, Nat.reduceAdd, Nat.reduceSub, Array.replicate_succ, Array.replicate_zero, List.push_toArray, List.append_toArray, List.nil_append, List.cons_append]
  gi_wp2
  gi_loopw [] (fun wr => ∃ (pre : List (List UInt8)) (r : List UInt8), LinesAt s pre r ∧ J pre wr ∧ wr.heap[b]? = some (.cells #[.string (bA r)] 9 (0, 0))) (fun wr => boxLen b wr)
  case atStart => exact ⟨[], s, LinesAt.start s, H0.out, hbW⟩
  case round =>
    obtain ⟨pre, r, hL, hj, hbr⟩ := hrel
    have HM : Hid (boxLen b wr = r.length) := boxLen_eq hbr
    have hc : wr.cell? ⟨b, 0, none⟩ = some (.string (bA r)) := cell_blk hbr 0
    have hsz := bA_size r
    have HS : Hid (∀ v : List UInt8, (wr.setCell ⟨b, 0, none⟩ (.string (bA v))).heap[b]? = some (.cells #[.string (bA v)] 9 (0, 0)) ∧ J pre (wr.setCell ⟨b, 0, none⟩ (.string (bA v)))) := fun v =>
      ⟨heap_set hbr 0 _, HJ.out _ _ _ hj (Kt.set (T := fun k => k = b) (Kt.refl _ _) (Or.inl rfl) _ _)⟩
    have HS2 : Hid (∀ v : List UInt8, (wr.setCell ⟨b, 0, none⟩ (.string (bA v))).drew.heap[b]? = some (.cells #[.string (bA v)] 9 (0, 0)) ∧ J pre (wr.setCell ⟨b, 0, none⟩ (.string (bA v))).drew) := fun v =>
      ⟨heap_set hbr 0 _, HJ.out _ _ _ hj (Kt.set (T := fun k => k = b) (Kt.refl _ _) (Or.inl rfl) _ _).drew⟩
    have hrs : r.length ≤ 4194304 := by obtain ⟨_, _, _, h⟩ := hL; omega
    by_cases hr : r = []
    · subst hr
      have hz : (bA []).size = 0 := rfl
      gi_wp2
      go_end0
      exact ⟨⟨_, rfl⟩, .inl ⟨_, hL.done, hj⟩⟩
    · have HI : Hid (∀ x, Calls Tryd.prog 76 #[.string (bA r), .int .u8 10] x fun e w' => e = .returned (.int .i64 (Lib.indexByte r 10)) ∧ w' = x) := ixb r
      have hpos : 0 < r.length := List.length_pos_iff.2 hr
      have HT : Hid (∀ x Y, (pre ++ [x] <+: lns s.length s) → J pre Y → YieldAt Fence.wide (N - 1) Tryd.prog l #[Value.string (bA x)] Y fun e W' =>
          (e = .returned (.bool true) ∧ J (pre ++ [x]) W' ∧ W'.heap[b]? = Y.heap[b]? ∧ Y.heap.size ≤ W'.heap.size) ∨ (e = .returned (.bool false) ∧ Jx (pre ++ [x]) W')) := fun x Y h1 h => HY.out pre x Y h1 h
      have hf : wr.frozen? ⟨b, 0, none⟩ = false := by simp [World.frozen?, hbr]
      rcases ib_lt r 10 with hi | ⟨i, hi, hil⟩
      · rw [hi] at HI
        have HL := Lib.hid (hL.last hr hi)
        obtain ⟨hb2, hj2⟩ := HS.out []
        rw [show bA [] = ⟨#[]⟩ from rfl] at hb2 hj2
        have HB2 : Hid ((wr.setCell ⟨b, 0, none⟩ (.string ⟨#[]⟩)).heap[b]? = some (.cells #[.string (bA [])] 9 (0, 0))) := hb2
        obtain ⟨fn, tmps, assign, body, hy, hR⟩ := HT.out r _ HL.out.pre hj2
        clear hb2 hj2 hj hbr HS HS2 HT hL
        gi_wp2_with (first | (gi_at_call 76; refine (callsIn_wide.2 (HI.out _)).mono ?_; rintro e w1 ⟨rfl, rfl⟩) | (refine ⟨trivial, ?_⟩; gi_at_call 76; refine (callsIn_wide.2 (HI.out _)).mono ?_; rintro e w1 ⟨rfl, rfl⟩))
        refine hR.mono ?_
        clear hR hy
        rintro e W3 (⟨rfl, hJ3, hk3, hs3⟩ | ⟨rfl, hJx3⟩)
        · have hb3 := hk3.trans HB2.out
          have HE : Hid (boxLen b W3 = 0) := boxLen_eq hb3
          gi_wp2
          go_roundw
          case rel => exact ⟨_, _, HL.out, hJ3, hb3⟩
          case measure => rw [HE.out, HM.out]; omega
        · have HP := Lib.hid HL.out.pre
          gi_wp2
          refine bodyPost_ret (results_none rfl _ _ _) rfl ?_
          exact ⟨⟨_, rfl⟩, .inr ⟨_, HP.out, hJx3⟩⟩
      · rw [hi] at HI
        have HL := Lib.hid (hL.next hi hr)
        obtain ⟨hb2, hj2⟩ := HS2.out (r.drop (i + 1))
        have HB2 := Lib.hid hb2
        obtain ⟨fn, tmps, assign, body, hy, hR⟩ := HT.out (r.take (i + 1)) _ HL.out.pre hj2
        have s1 := slice_to r i (by omega)
        have s2 := slice_from r i (by omega)
        have hw : wrap64 ((i : Int) + 1) = (i : Int) + 1 := by unfold wrap64; omega
        have HLT : Hid ((r.drop (i + 1)).length < r.length) := by show _ < _; simp; omega
        have hps : 0 < (bA r).size := by rw [hsz]; exact hpos
        clear hb2 hj2 hj hbr HS HS2 HT hL hsz
        generalize bA r = R at *
        generalize bA (r.take (i + 1)) = R1 at *
        obtain ⟨R2, hR2⟩ : ∃ R2, bA (r.drop (i + 1)) = R2 := ⟨_, rfl⟩
        rw [hR2] at hy hR s2 HB2
        gi_wp2_with (first | (gi_at_call 76; refine (callsIn_wide.2 (HI.out _)).mono ?_; rintro e w1 ⟨rfl, rfl⟩) | (refine ⟨trivial, ?_⟩; gi_at_call 76; refine (callsIn_wide.2 (HI.out _)).mono ?_; rintro e w1 ⟨rfl, rfl⟩))
        refine wpIn_wide.2 ?_
        go_region
        gi_wp2
        refine hR.mono ?_
        clear hR hy
        rintro e W3 (⟨rfl, hJ3, hk3, hs3⟩ | ⟨rfl, hJx3⟩)
        · have hb3 := hk3.trans HB2.out
          rw [← hR2] at hb3
          have HE : Hid (boxLen b W3 = (r.drop (i + 1)).length) := boxLen_eq hb3
          gi_wp2
          go_roundw
          case rel => exact ⟨_, _, HL.out, hJ3, hb3⟩
          case measure => rw [HE.out, HM.out]; exact HLT.out
        · have HP := Lib.hid HL.out.pre
          gi_wp2
          refine bodyPost_ret (results_none rfl _ _ _) rfl ?_
          exact ⟨⟨_, rfl⟩, .inr ⟨_, HP.out, hJx3⟩⟩
end Go.Proofs.YtemdhcegelddlaaDoor
