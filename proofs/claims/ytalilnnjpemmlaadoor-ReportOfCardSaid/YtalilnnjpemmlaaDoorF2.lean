/- report.Of: the events of a goroutine. -/
import Derived.Test.YtalilnnjpemmlaaDoorE4
import Derived.Test.YtalilnnjpemmlaaDoorF1
namespace Go.Proofs.YtalilnnjpemmlaaDoor
open Go Go.RowKit
set_option linter.unusedVariables false
set_option linter.unusedSimpArgs false

/-- a row of events that grows, of the call's own -/
structure Gr (w wr : World) (A : Option Addr) (cp : Nat) (O : List Ev) : Prop where
  own : wr.ownsRow w.heap.size 25 5 (.slice A O.length cp) O.length (flat O)
  bel : Below w.heap.size w wr
theorem Gr.nil {w wr : World} (h : Below w.heap.size w wr) : Gr w wr none 0 [] := ⟨World.ownsRow_nil _ _ _ _, h⟩
theorem Gr.more {w wr wy : World} {A : Option Addr} {cp : Nat} {O : List Ev} (h : Gr w wr A cp O) (hb : Below wr.heap.size wr wy) : Gr w wy A cp O := ⟨own_below h.own hb, h.bel.trans (hb.mono h.bel.size)⟩
theorem Gr.app {w wr Z y : World} {A : Option Addr} {cp g cap : Nat} {O : List Ev} {k gg o t p : Int} (h : Gr w wr A cp O) (hz : Below wr.heap.size wr Z)
    (hO : y.ownsRow w.heap.size 25 5 (.slice (some ⟨g, 0, none⟩) (O.length + 1) cap) (O.length + 1) (flat O ++ [.int .i64 k, .int .i64 gg, .int .i64 o, .int .i64 t, .int .i64 p])) (hG : Z.grownBy y (Value.slice A O.length cp).ownBlock) :
    Gr w y (some ⟨g, 0, none⟩) cap (O ++ [⟨k, gg, o, t, p⟩]) := by
  have hlow := h.own.lt
  have s1 := hz.size
  have s2 := hG.size
  have s3 := h.bel.size
  refine ⟨?_, hG.os.trans (hz.os.trans h.bel.os), hG.tape.trans (hz.tape.trans h.bel.tape), hG.output.trans (hz.output.trans h.bel.output), by omega, fun j hj => ?_⟩
  · rw [flat_app, List.length_append]
    exact hO
  · exact (hG.block j (by omega) (fun e => by have := (hlow j e.symm).1; omega)).trans ((hz.block j (by omega)).trans (h.bel.block j hj))
/-- is it a goroutine's? -/
def its (g : Int) (e : Ev) : Bool := decide (e.g = g ∨ e.o = g)
theorem take_its {l : List Ev} {k : Nat} (hk : k < l.length) (g : Int) : (l.take (k + 1)).filter (its g) = (l.take k).filter (its g) ++ (if its g (at_ l k) then [at_ l k] else []) := by
  rw [List.take_succ_eq_append_getElem hk, List.filter_append]
  congr 1
  unfold at_
  rw [List.getD_eq_getElem?_getD, List.getElem?_eq_getElem hk]
  cases h : its g l[k] <;> simp [List.filter, h]
theorem its_len (l : List Ev) (k : Nat) (g : Int) : ((l.take k).filter (its g)).length ≤ k := by
  refine Nat.le_trans (List.length_filter_le _ _) ?_
  simp; omega

set_option maxRecDepth 100000 in
set_option maxHeartbeats 4000000 in
theorem of_any (w : World) (b : Nat) (A : Option Addr) (cp : Nat) (l : List Ev) (n : Nat) (hn : l.length = n) (h1 : n ≤ 100000) (hs : Sees w b A l) (g : Int) :
    Calls Tryd.prog 10 #[.slice A n cp, .int .i64 g] w fun e w' => ∃ A' cp', e = .returned (.slice A' (l.filter (its g)).length cp') ∧ Gr w w' A' cp' (l.filter (its g)) := by
  obtain ⟨i0, hi, hz0, hz1, hz2⟩ := info_parts info25
  have HN := Lib.hid hn
  have HS := Lib.hid (fun (X : World) (hb : Below w.heap.size w X) => hs.below hb)
  clear hs hn
  go_enter Tryd.func10, Tryd.ntmps10
  go_wp2_with fail
  go_loopw [10, 5] (fun i r wr => ∃ (k c' : Nat) (A' : Option Addr) (O : List Ev), i = .int .i64 (k : Int) ∧ r = .slice A' O.length c' ∧ k ≤ n ∧ Hid (Gr w wr A' c' O ∧ O = (l.take k).filter (its g) ∧ O.length ≤ k)) (fun i _ _ => n - (intOf i).toNat)
  case atStart => exact ⟨0, 0, none, [], rfl, rfl, by omega, Gr.nil (Below.refl _ _), by simp, by simp⟩
  case round =>
    obtain ⟨k, c', A', O, rfl, rfl, hk, HG⟩ := hrel
    by_cases hlt : k < n
    · have hki : (k : Int) < (n : Int) := by omega
      have HKL : Hid (k < l.length) := by show k < _; rw [HN.out]; exact hlt
      obtain ⟨off, rfl, hcs⟩ := HS.out wr HG.out.1.bel (by have := HKL.out; omega)
      have HT := Lib.hid (take_its HKL.out g)
      obtain ⟨⟨x0, x1, x2, x3, x4⟩, hx⟩ : ∃ x, at_ l k = x := ⟨_, rfl⟩
      have c0 := hcs k 0 HKL.out (by omega)
      have c1 := hcs k 1 HKL.out (by omega)
      have c2 := hcs k 2 HKL.out (by omega)
      have c3 := hcs k 3 HKL.out (by omega)
      have c4 := hcs k 4 HKL.out (by omega)
      rw [hx] at c0 c1 c2 c3 c4 HT
      simp only [Ev.f, Nat.add_zero] at c0 c1 c2 c3 c4
      clear hx hcs
      have HZ := Lib.hid (((Below.refl wr.heap.size wr).alloc (Nat.le_refl _) (.cells #[.int .i64 x0, .int .i64 x1, .int .i64 x2, .int .i64 x3, .int .i64 x4] 25)).alloc (by rw [size_al]; omega) (.cells #[.int .i64 x0, .int .i64 x1, .int .i64 x2, .int .i64 x3, .int .i64 x4] 25))
      have HZ1 := Lib.hid ((Below.refl wr.heap.size wr).alloc (Nat.le_refl _) (.cells #[.int .i64 x0, .int .i64 x1, .int .i64 x2, .int .i64 x3, .int .i64 x4] 25))
      have HOW := Lib.hid (HG.out.1.more HZ.out).own
      have HOL : Hid (O.length ≤ 100000) := by have := HG.out.2.2; show O.length ≤ _; omega
      have HLO : Hid (w.heap.size ≤ wr.heap.size) := HG.out.1.bel.size
      by_cases q1 : x1 = g
      · have qi : its g ⟨x0, x1, x2, x3, x4⟩ = true := by simp [its, q1]
        rw [qi] at HT
        have e1 : (x1 == g) = true := by rw [beq_iff_eq]; exact q1
        clear qi q1
        go_wp2_with (first | (refine wpList_append_lies _ rfl (.tmp 24) (.tmp 26) 22 rfl w.heap.size 25 i0 _ 5 40 Tryd.underlying22 hi hz0 hz1 hz2 rfl (by decide) (.slice A' O.length c') O.length (flat O) rfl HOW.out ⟨_, 0, none⟩ 1 1 [.int .i64 x0, .int .i64 x1, .int .i64 x2, .int .i64 x3, .int .i64 x4] rfl rfl (news5' _ _ _ _ _ _ _ _ (size_al _ _)) (flat_one [⟨x0, x1, x2, x3, x4⟩]) (by omega) (by have := HOL.out; unfold maxLen; omega) (by have := HOL.out; omega) (by have := HLO.out; rw [size_al, size_al]; omega) _ rfl ?_; intro g1 cap1 w3 hO2 hG2 _ _; have HA := Lib.hid (HG.out.1.app HZ.out hO2 hG2); clear hO2 hG2))
        go_roundw
        case rel => exact ⟨k + 1, cap1, some ⟨g1, 0, none⟩, O ++ [⟨x0, x1, x2, x3, x4⟩], by go_num, by simp, by omega, HA.out, by rw [HT.out, ← HG.out.2.1]; rfl, by have := HG.out.2.2; simp; omega⟩
        case measure => simp [intOf]; omega
      · have e1 : (x1 == g) = false := by rw [beq_eq_false_iff_ne]; exact q1
        by_cases q2 : x2 = g
        · have qi : its g ⟨x0, x1, x2, x3, x4⟩ = true := by simp [its, q2]
          rw [qi] at HT
          have e2 : (x2 == g) = true := by rw [beq_iff_eq]; exact q2
          clear qi q2
          go_wp2_with (first | (refine wpList_append_lies _ rfl (.tmp 24) (.tmp 26) 22 rfl w.heap.size 25 i0 _ 5 40 Tryd.underlying22 hi hz0 hz1 hz2 rfl (by decide) (.slice A' O.length c') O.length (flat O) rfl HOW.out ⟨_, 0, none⟩ 1 1 [.int .i64 x0, .int .i64 x1, .int .i64 x2, .int .i64 x3, .int .i64 x4] rfl rfl (news5' _ _ _ _ _ _ _ _ (size_al _ _)) (flat_one [⟨x0, x1, x2, x3, x4⟩]) (by omega) (by have := HOL.out; unfold maxLen; omega) (by have := HOL.out; omega) (by have := HLO.out; rw [size_al, size_al]; omega) _ rfl ?_; intro g1 cap1 w3 hO2 hG2 _ _; have HA := Lib.hid (HG.out.1.app HZ.out hO2 hG2); clear hO2 hG2))
          go_roundw
          case rel => exact ⟨k + 1, cap1, some ⟨g1, 0, none⟩, O ++ [⟨x0, x1, x2, x3, x4⟩], by go_num, by simp, by omega, HA.out, by rw [HT.out, ← HG.out.2.1]; rfl, by have := HG.out.2.2; simp; omega⟩
          case measure => simp [intOf]; omega
        · have qi : its g ⟨x0, x1, x2, x3, x4⟩ = false := by simp [its, q1, q2]
          rw [qi] at HT
          have e2 : (x2 == g) = false := by rw [beq_eq_false_iff_ne]; exact q2
          have HA := Lib.hid (HG.out.1.more HZ1.out)
          clear qi
          go_wp2_with fail
          go_roundw
          case rel => exact ⟨k + 1, c', A', O, by go_num, rfl, by omega, HA.out, by rw [HT.out, ← HG.out.2.1]; simp, by have := HG.out.2.2; omega⟩
          case measure => simp [intOf]; omega
    · obtain rfl : k = n := by omega
      have hki : ¬ (k : Int) < (k : Int) := by omega
      have HF : Hid (Gr w wr A' c' O ∧ O = l.filter (its g)) := by
        refine ⟨HG.out.1, ?_⟩
        have h := HG.out.2.1
        rw [← HN.out, List.take_length] at h
        exact h
      clear HG
      go_wp2_with fail
      go_ret
      obtain ⟨h1, rfl⟩ := HF.out
      exact ⟨A', c', rfl, h1⟩
end Go.Proofs.YtalilnnjpemmlaaDoor
