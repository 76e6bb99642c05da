/- report.Read's function: one more line. -/
import Derived.Test.YtalilnnjpemmlaaDoorE1
import Derived.Test.YtalilnnjpemmlaaDoorK5
namespace Go.Proofs.YtalilnnjpemmlaaDoor
open Go Go.RowKit
set_option linter.unusedVariables false
set_option linter.unusedSimpArgs false

/-- one more event, if there is one and there is room -/
def more (l : List Ev) (s : List UInt8) : Option (List Ev) := match rdl s with
  | none => none
  | some e => if l.length = 65536 then none else some (l ++ [e])
theorem more_none {l : List Ev} {s : List UInt8} (h : rdl s = none) : more l s = none := by unfold more; rw [h]
theorem more_full {l : List Ev} {s : List UInt8} {e : Ev} (h : rdl s = some e) (hl : l.length = 65536) : more l s = none := by unfold more; rw [h]; exact if_pos hl
theorem more_some {l : List Ev} {s : List UInt8} {e : Ev} (h : rdl s = some e) (hl : ¬ l.length = 65536) : more l s = some (l ++ [e]) := by unfold more; rw [h]; exact if_neg hl

theorem own_below {B : Nat} {v : Value} {n : Nat} {xs : List Value} {x y : World} (h : x.ownsRow B 25 5 v n xs) (hb : Below x.heap.size x y) : y.ownsRow B 25 5 v n xs := by
  refine ⟨h.1, ?_⟩
  rcases h.2 with e | ⟨g, cap, cur, e, hB, hg, r⟩
  · exact .inl e
  · exact .inr ⟨g, cap, cur, e, hB, (hb.block g (block_lt hg)).trans hg, r⟩
/-- what follows an append and its store -/
theorem acc_app {bl B : Nat} {l : List Ev} {x Z y : World} {A : Option Addr} {cp g cap : Nat} {k gg o t p : Int}
    (hb : x.heap[bl]? = some (.cells #[.slice A l.length cp] 22 (0, 0))) (how : x.ownsRow B 25 5 (.slice A l.length cp) l.length (flat l)) (hB : B ≤ x.heap.size) (hbl : bl < B) (hxz : Below x.heap.size x Z)
    (hO : y.ownsRow B 25 5 (.slice (some ⟨g, 0, none⟩) (l.length + 1) cap) (l.length + 1) (flat l ++ [.int .i64 k, .int .i64 gg, .int .i64 o, .int .i64 t, .int .i64 p])) (hG : Z.grownBy y (Value.slice A l.length cp).ownBlock) :
    y.heap[bl]? = some (.cells #[.slice A l.length cp] 22 (0, 0)) ∧ Kt (fun k => k = bl ∨ B ≤ k) x (y.setCell ⟨bl, 0, none⟩ (.slice (some ⟨g, 0, none⟩) (l.length + 1) cap)) ∧ Acc bl B (l ++ [⟨k, gg, o, t, p⟩]) (y.setCell ⟨bl, 0, none⟩ (.slice (some ⟨g, 0, none⟩) (l.length + 1) cap)) := by
  have hlow := how.lt
  have s1 := hxz.size
  have s2 := hG.size
  have far : ∀ j, j < B → y.heap[j]? = x.heap[j]? := fun j hj => (hG.block j (by omega) (fun e => by have := (hlow j e.symm).1; omega)).trans (hxz.block j (by omega))
  have hyb := (far bl hbl).trans hb
  refine ⟨hyb, ⟨hG.os.trans hxz.os, hG.tape.trans hxz.tape, hG.output.trans hxz.output, by rw [size_set]; omega, fun j hj hn => ?_⟩, some ⟨g, 0, none⟩, cap, ?_, ?_, hbl⟩
  · rw [heap_set_ne y (by omega)]
    exact far j (by omega)
  · rw [heap_set hyb]
    simp
  · rw [flat_app, List.length_append]
    refine ⟨hO.1, ?_⟩
    rcases hO.2 with ⟨e, _⟩ | ⟨g', cap', cur, e, hB', hg, r⟩
    · cases e
    · refine .inr ⟨g', cap', cur, e, hB', ?_, r⟩
      rw [heap_set_ne y (by omega)]; exact hg
/-- what the function answers -/
def MayP (bl B : Nat) (l : List Ev) (s : List UInt8) (x : World) (r : Ending) (y : World) : Prop :=
  Kt (fun k => k = bl ∨ B ≤ k) x y ∧ ((∃ m, more l s = some m ∧ r = .returned (.bool true) ∧ Acc bl B m y) ∨ (more l s = none ∧ r = .returned (.bool false)))

set_option maxRecDepth 100000 in
set_option maxHeartbeats 4000000 in
theorem may_any (bl B : Nat) (l : List Ev) (hl : l.length ≤ 65536) (s : List UInt8) (hs : s.length ≤ 4194304) (x : World) (hT : Tab x) (hB : B ≤ x.heap.size) (hA : Acc bl B l x) : Calls Tryd.prog 21 #[.string (bA s), .pointer (some ⟨bl, 0, none⟩)] x (MayP bl B l s x) := by
  obtain ⟨i0, hi, hz0, hz1, hz2⟩ := info_parts info25
  obtain ⟨A, cp, hb, how, hbl⟩ := hA
  have HR := Lib.hid (readLine_any s hs x hT)
  clear hT
  cases hr : rdl s with
  | none =>
    rw [hr] at HR
    have HM := Lib.hid (more_none (l := l) hr)
    have hv : ((none : Option Ev).getD ev0).v = .agg #[.int .i64 0, .int .i64 0, .int .i64 0, .int .i64 0, .int .i64 0] := rfl
    rw [hv] at HR
    go_enter Tryd.func21, Tryd.ntmps21
    go_wp2_with fail
    go_at_call 22
    refine HR.out.mono ?_
    rintro e w1 ⟨rfl, hb1⟩
    go_wp2
    go_ret
    exact ⟨((Kt.of_below (hb1.alloc hb1.size _))), .inr ⟨HM.out, rfl⟩⟩
  | some e =>
    rw [hr] at HR
    obtain ⟨k, g, o, t, p⟩ := e
    have hv : ((some (⟨k, g, o, t, p⟩ : Ev)).getD ev0).v = .agg #[.int .i64 k, .int .i64 g, .int .i64 o, .int .i64 t, .int .i64 p] := rfl
    rw [hv] at HR
    have HBX : Hid (∀ y, Below x.heap.size x y → (y.alloc (.cells #[.int .i64 k, .int .i64 g, .int .i64 o, .int .i64 t, .int .i64 p] 25)).cell? ⟨bl, 0, none⟩ = some (.slice A l.length cp) ∧ (y.alloc (.cells #[.int .i64 k, .int .i64 g, .int .i64 o, .int .i64 t, .int .i64 p] 25)).frozen? ⟨bl, 0, none⟩ = false) := fun y hy => by
      have h1 : (y.alloc (.cells #[.int .i64 k, .int .i64 g, .int .i64 o, .int .i64 t, .int .i64 p] 25)).heap[bl]? = some (.cells #[.slice A l.length cp] 22 (0, 0)) := (heap_al _ (by have := hy.size; omega) _).trans ((hy.block bl (by omega)).trans hb)
      exact ⟨cell_blk h1 0, by simp [World.frozen?, h1]⟩
    by_cases hf : l.length = 65536
    · have HM := Lib.hid (more_full hr hf)
      have hfz : ((l.length : Nat) : Int) = 65536 := by omega
      go_enter Tryd.func21, Tryd.ntmps21
      go_wp2_with fail
      go_at_call 22
      refine HR.out.mono ?_
      rintro e w1 ⟨rfl, hb1⟩
      obtain ⟨c1, c2⟩ := HBX.out w1 hb1
      go_wp2
      go_ret
      exact ⟨((Kt.of_below (hb1.alloc hb1.size _))), .inr ⟨HM.out, rfl⟩⟩
    · have HM := Lib.hid (more_some hr hf)
      have hfz : ¬ ((l.length : Nat) : Int) = 65536 := by omega
      go_enter Tryd.func21, Tryd.ntmps21
      go_wp2_with fail
      go_at_call 22
      refine HR.out.mono ?_
      rintro e w1 ⟨rfl, hb1⟩
      obtain ⟨c1, c2⟩ := HBX.out w1 hb1
      have HZ := Lib.hid ((hb1.alloc hb1.size (.cells #[.int .i64 k, .int .i64 g, .int .i64 o, .int .i64 t, .int .i64 p] 25)).alloc (by have := hb1.size; rw [size_al]; omega) (.cells #[.int .i64 k, .int .i64 g, .int .i64 o, .int .i64 t, .int .i64 p] 25))
      have HOW := Lib.hid (own_below how HZ.out)
      have HG := Lib.hid (fun (y : World) (g1 cap1 : Nat) hO hG => acc_app (y := y) (g := g1) (cap := cap1) (k := k) (gg := g) (o := o) (t := t) (p := p) hb how hB hbl HZ.out hO hG)
      have HBZ : Hid (B ≤ x.heap.size ∧ x.heap.size ≤ w1.heap.size) := ⟨hB, hb1.size⟩
      have HL : Hid (l.length < 65536) := by show l.length < _; omega
      clear hb how hB hbl HBX HR hb1 hr
      go_wp2_with (first | (refine wpList_append_lies _ rfl (.tmp 18) (.tmp 20) 22 rfl B 25 i0 _ 5 40 Tryd.underlying22 hi hz0 hz1 hz2 rfl (by decide) (.slice A l.length cp) l.length (flat l) rfl HOW.out ⟨_, 0, none⟩ 1 1 [.int .i64 k, .int .i64 g, .int .i64 o, .int .i64 t, .int .i64 p] rfl rfl (news5' _ _ _ _ _ _ _ _ (size_al _ _)) (flat_one [⟨k, g, o, t, p⟩]) (by omega) (by have := HL.out; unfold maxLen; omega) (by have := HL.out; omega) (by have := HBZ.out; rw [size_al, size_al]; omega) _ rfl ?_; intro g1 cap1 w3 hO2 hG2 _ _; obtain ⟨hy, HK⟩ := HG.out w3 g1 cap1 hO2 hG2; have hyc := cell_blk hy 0; have hyf : w3.frozen? ⟨bl, 0, none⟩ = false := (by simp [World.frozen?, hy]); clear hO2 hG2 hy HG HOW HZ c1 c2; have HKK := Lib.hid HK; clear HK))
      go_ret
      exact ⟨HKK.out.1, .inl ⟨_, HM.out, rfl, HKK.out.2⟩⟩
end Go.Proofs.YtalilnnjpemmlaaDoor
