/- lines.Each over report.Read's function. -/
import Derived.Test.YtemdhcegelddlaaDoorSH
import Derived.Test.YtemdhcegelddlaaDoorL1
import Derived.Shelf.Abstract
import Derived.Shelf.RegionOpen
import Derived.OwnWalkIn
import Derived.TacticsInMore
import Derived.LoopNIn
import Derived.LoopIn
namespace Go.Proofs.YtemdhcegelddlaaDoor
open Go Go.RowKit Go.Shelf
set_option linter.unusedVariables false
set_option linter.unusedSimpArgs false
attribute [local go_sem] Oper.semAt_some

/-- strings.Lines: a function over a box of its text -/
theorem lines_call (N : Nat) (s : ByteArray) (w : World) : CallsIn Fence.wide N Tryd.prog 58 #[.string s] w fun e w' => e = .returned (.func (.func 75) #[] #[.pointer (some ⟨w.heap.size, 0, none⟩)]) ∧ w' = w.alloc (.cells #[.string s] 9) := by
  refine callsIn_of_wp Tryd.func58 rfl trivial ?_ rfl
  simp only [Tryd.ntmps58, List.size_toArray, List.length_cons, List.length_nil, Nat.reduceAdd, Nat.reduceSub, Array.replicate_succ, Array.replicate_zero, List.push_toArray, List.append_toArray, List.nil_append, List.cons_append]
  gi_wp2
  go_ret
  exact ⟨rfl, rfl⟩
theorem cut_nl (x : List UInt8) (hx : x.length ≤ 4194304) (w : World) : Calls Tryd.prog 59 #[.string (bA x), .string ⟨#[10]⟩] w fun e w' => e = .returned (.tuple #[.string (bA (Lib.trimSuffix x [10])), .bool (Lib.hasSuffix x [10])]) ∧ w' = w := by
  have h := strings_CutSuffix (bA x) (bA [10]) w (by rw [bA_size]; omega)
  rw [bA_data, bA_data] at h
  exact h

theorem lns_le (f : Nat) : ∀ (s : List UInt8), ∀ x ∈ lns f s, x.length ≤ s.length := by
  induction f with
  | zero => intro s x hx; simp [lns] at hx
  | succ f ih =>
    intro s x hx
    rw [lns] at hx
    split at hx
    · simp at hx
    · split at hx
      · rw [List.mem_singleton] at hx; subst hx; exact Nat.le_refl _
      · rcases List.mem_cons.1 hx with rfl | hx
        · simp; omega
        · have := ih _ x hx
          simp at this; omega
theorem goes_step {l acc : List En} {p : List (List UInt8)} {x : List UInt8} (h : goesS l p = some acc) (hs : Lib.hasSuffix x [10] = true) : goesS l (p ++ [x]) = more acc (Lib.trimSuffix x [10]) := by
  rw [goesS_one _ _ _ _ h]
  unfold takeS more
  rw [if_pos hs]
  cases rdr (Lib.trimSuffix x [10]) <;> rfl
theorem goes_stop {l acc : List En} {p : List (List UInt8)} {x : List UInt8} (h : goesS l p = some acc) (hs : Lib.hasSuffix x [10] = false) : goesS l (p ++ [x]) = none := by
  rw [goesS_one _ _ _ _ h]
  unfold takeS
  rw [if_neg (by rw [hs]; simp)]
theorem more_len {l m : List En} {s : List UInt8} (h : more l s = some m) (hl : l.length ≤ 65536) : m.length ≤ 65536 := by
  unfold more at h
  split at h
  · cases h
  · split at h
    · cases h
    · cases h; simp; omega
theorem trim_le (x : List UInt8) : (Lib.trimSuffix x [10]).length ≤ x.length := by
  unfold Lib.trimSuffix
  split
  · simp
  · exact Nat.le_refl _

theorem Kt.then {T T' : Nat → Prop} {x y z : World} (h : Kt T x y) (k : Kt T' y z) (hs : ∀ i, i < x.heap.size → T' i → T i) : Kt T x z :=
  ⟨k.os.trans h.os, k.tape.trans h.tape, k.output.trans h.output, Nat.le_trans h.size k.size, fun i hi hc => (k.block i (Nat.lt_of_lt_of_le hi h.size) (fun e => hc (hs i hi e))).trans (h.block i hi hc)⟩

theorem results_cell1 {fn : Func} {p : Tmp} {ty : TypeId} (h : fn.results = #[.cell p ty]) (tmps : Array Value) (P : Program) (w : World) :
    (results fn tmps).run P w = ((asAddr (tmps.getD p undef)).run P w).andThen fun a w₁ => (loadVar ty a).run P w₁ := by
  simp only [results, h]
  simp [Sem.run_bind, Result.andThen]

/-- what a walk over the lines keeps: w: the world at its start; bl: the box of the events; the boxes of the function, of the answer -/
structure Ea (w : World) (bl : Nat) (v : Bool) (X : World) : Prop where
  kt : Kt (fun k => k = bl) w X
  tab : Tab X
  box : X.heap[w.heap.size]? = some (.cells #[.func (.func 36) #[] #[.pointer (some ⟨bl, 0, none⟩)]] 45 (0, 0))
  out : X.heap[w.heap.size + 1]? = some (.cells #[.bool v] 4 (0, 0))

theorem Ea.reads {w X : World} {bl : Nat} {v : Bool} (h : Ea w bl v X) : X.cell? ⟨w.heap.size, 0, none⟩ = some (.func (.func 36) #[] #[.pointer (some ⟨bl, 0, none⟩)]) ∧ X.cell? ⟨w.heap.size + 1, 0, none⟩ = some (.bool v) ∧ X.frozen? ⟨w.heap.size + 1, 0, none⟩ = false :=
  ⟨cell_blk h.box 0, cell_blk h.out 0, by simp [World.frozen?, h.out]⟩
theorem Ea.store {w X : World} {bl : Nat} {v : Bool} (h : Ea w bl v X) (h4 : 6 < bl) (hbl : bl < w.heap.size) (u : Bool) : Ea w bl u (X.setCell ⟨w.heap.size + 1, 0, none⟩ (.bool u)) ∧ Kt (fun k => k = w.heap.size + 1) X (X.setCell ⟨w.heap.size + 1, 0, none⟩ (.bool u)) := by
  have hk : Kt (fun k => k = w.heap.size + 1) X (X.setCell ⟨w.heap.size + 1, 0, none⟩ (.bool u)) := Kt.set (T := fun k => k = w.heap.size + 1) (Kt.refl _ _) (Or.inl rfl) _ _
  have l1 := block_lt h.out
  refine ⟨⟨h.kt.then hk (fun i hi hh => by omega), h.tab.below (hk.below (B := 7) (by rintro k rfl; omega) (by omega)) (by omega), (hk.block _ (by omega) (by omega)).trans h.box, ?_⟩, hk⟩
  rw [heap_set h.out]; simp
theorem Ea.called {w X Y : World} {bl : Nat} {v : Bool} (h : Ea w bl v X) (h4 : 6 < bl) (hbl : bl < w.heap.size) {B : Nat} (hB : w.heap.size + 2 ≤ B) (hk : Kt (fun k => k = bl ∨ B ≤ k) X Y) : Ea w bl v Y := by
  have l1 := block_lt h.out
  exact ⟨h.kt.then hk (fun i hi hh => by omega), h.tab.below (hk.below (B := 7) (by rintro k (rfl | hk) <;> omega) (by omega)) (by omega), (hk.block _ (by omega) (by omega)).trans h.box, (hk.block _ (by omega) (by omega)).trans h.out⟩

set_option maxRecDepth 100000 in
set_option maxHeartbeats 4000000 in
theorem each_in (s : List UInt8) (hs : s.length ≤ 4194304) (w : World) (hT : Tab w) (bl : Nat) (hb : w.heap[bl]? = some (.cells #[.slice none 0 0] 33 (0, 0))) (h4 : 6 < bl) :
    CallsIn Fence.wide 5 Tryd.prog 39 #[.string (bA s), .func (.func 36) #[] #[.pointer (some ⟨bl, 0, none⟩)]] w fun e W' => Kt (fun k => k = bl) w W' ∧
      ((∃ m, rdS s = some m ∧ e = .returned (.bool true) ∧ Acc bl (w.heap.size + 5) 33 m W') ∨ (rdS s = none ∧ e = .returned (.bool false))) := by
  refine callsIn_of_wp_marks Tryd.func39 rfl trivial ?_ rfl
  simp only [Tryd.ntmps39, List.size_toArray, List.length_cons, List.length_nil, Nat.reduceAdd, Nat.reduceSub, Array.replicate_succ, Array.replicate_zero, List.push_toArray, List.append_toArray, List.nil_append, List.cons_append]
  gi_wp2_with (refine ⟨trivial, ?_⟩; gi_at_call 58; refine (lines_call _ (bA s) _).mono ?_; rintro e w' ⟨rfl, rfl⟩)
  have E0 : Ea w bl false (((w.alloc (.cells #[.func (.func 36) #[] #[.pointer (some ⟨bl, 0, none⟩)]] 45)).alloc (.cells #[.bool false] 4)).alloc (.cells #[.string (bA s)] 9)) ∧
      (((w.alloc (.cells #[.func (.func 36) #[] #[.pointer (some ⟨bl, 0, none⟩)]] 45)).alloc (.cells #[.bool false] 4)).alloc (.cells #[.string (bA s)] 9)).heap[w.heap.size + 1 + 1]? = some (.cells #[.string (bA s)] 9 (0, 0)) ∧
      (((w.alloc (.cells #[.func (.func 36) #[] #[.pointer (some ⟨bl, 0, none⟩)]] 45)).alloc (.cells #[.bool false] 4)).alloc (.cells #[.string (bA s)] 9)).heap.size = w.heap.size + 3 ∧
      (((w.alloc (.cells #[.func (.func 36) #[] #[.pointer (some ⟨bl, 0, none⟩)]] 45)).alloc (.cells #[.bool false] 4)).alloc (.cells #[.string (bA s)] 9)).heap[bl]? = w.heap[bl]? := by
    have hbl := block_lt hb
    have s1 := size_al w (.cells #[.func (.func 36) #[] #[.pointer (some ⟨bl, 0, none⟩)]] 45)
    have s2 := size_al (w.alloc (.cells #[.func (.func 36) #[] #[.pointer (some ⟨bl, 0, none⟩)]] 45)) (.cells #[.bool false] 4)
    have k : Below w.heap.size w (((w.alloc (.cells #[.func (.func 36) #[] #[.pointer (some ⟨bl, 0, none⟩)]] 45)).alloc (.cells #[.bool false] 4)).alloc (.cells #[.string (bA s)] 9)) := (((Below.refl _ w).alloc (Nat.le_refl _) _).alloc (by omega) _).alloc (by omega) _
    refine ⟨⟨Kt.of_below k, hT.below k hT.size, ?_, ?_⟩, ?_, ?_, k.block _ hbl⟩
    · rw [heap_al _ (by omega), heap_al _ (by omega)]; exact heap_alloc_new _ _
    · rw [heap_al _ (by omega), ← s1]; exact heap_alloc_new _ _
    · rw [show w.heap.size + 1 + 1 = ((w.alloc (.cells #[.func (.func 36) #[] #[.pointer (some ⟨bl, 0, none⟩)]] 45)).alloc (.cells #[.bool false] 4)).heap.size by omega]; exact heap_alloc_new _ _
    · rw [size_al]; omega
  obtain ⟨eE, eX, eS, eB⟩ := E0
  generalize (((w.alloc (.cells #[.func (.func 36) #[] #[.pointer (some ⟨bl, 0, none⟩)]] 45)).alloc (.cells #[.bool false] 4)).alloc (.cells #[.string (bA s)] 9)) = W0 at *
  have hbl := block_lt hb
  have stay : ∀ (v : Bool) X Y, Ea w bl v X → Kt (fun k => k = w.heap.size + 1 + 1 ∨ k = W0.heap.size + 1) X Y → Ea w bl v Y := by
    rintro v X Y ⟨h1, h2, h3, h4⟩ hk
    have l1 := block_lt h4
    exact ⟨h1.then hk (fun i hi hh => by omega), h2.below (hk.below (B := 7) (by rintro k (rfl | rfl) <;> omega) (by omega)) (by omega), (hk.block _ (by omega) (by omega)).trans h3, (hk.block _ l1 (by omega)).trans h4⟩
  refine range_box rfl (by omega) (gf := 75) (lb := #[.pointer (some ⟨w.heap.size + 1 + 1, 0, none⟩)]) rfl trivial (enters_of Tryd.func75 (by kernel_rfl) rfl)
    (lines_gives 4 (by omega) (w.heap.size + 1 + 1) s hs W0 eX) (by omega) (fun _ => rfl)
    (fun pre X => Ea w bl false X ∧ ∃ acc, goesS [] pre = some acc ∧ acc.length ≤ 65536 ∧ Acc bl (w.heap.size + 5) 33 acc X)
    (fun pre X => Ea w bl false X ∧ goesS [] pre = none)
    ?hI ?hIx ?h0
    (fun x => { tmps := #[.string (bA s), .func (.func 36) #[] #[.pointer (some ⟨bl, 0, none⟩)], undef, .pointer (some ⟨w.heap.size, 0, none⟩), .pointer (some ⟨w.heap.size + 1, 0, none⟩), .string (bA x), undef, undef, .string (bA s), .func (.func 75) #[] #[.pointer (some ⟨w.heap.size + 1 + 1, 0, none⟩)], .string (bA x), undef, undef, undef, undef, undef, undef, undef, undef, undef, undef, undef, undef, undef], defers := [] }) ?assign ?body ?done ?stop
  case hI =>
    rintro pre X Y ⟨h1, acc, h2, h3, h4⟩ hk
    exact ⟨stay _ _ _ h1 hk, acc, h2, h3, h4.kept (hk.wide (fun k _ hh => by rcases hh with rfl | rfl <;> omega))⟩
  case hIx =>
    rintro pre X Y ⟨h1, h2⟩ hk
    exact ⟨stay _ _ _ h1 hk, h2⟩
  case h0 =>
    exact ⟨eE, [], rfl, by simp, none, 0, eB.trans hb, World.ownsRow_nil _ _ _ _, by omega⟩
  case assign =>
    intro l x X K hK
    gi_wp2
    exact hK
  case body =>
    rintro pre x X hsp ⟨hE, acc, hg, hacc, hA⟩ hlt
    have hxm : x ∈ lns s.length s := hsp.subset (by simp)
    have hxl := lns_le s.length s x hxm
    have HC := Lib.hid (fun Y => cut_nl x (by omega) Y)
    obtain ⟨c3, c4, f4⟩ := hE.reads
    cases hsf : Lib.hasSuffix x [10] with
    | false =>
      rw [hsf] at HC
      have HG := Lib.hid (goes_stop hg hsf)
      have HE := Lib.hid (hE.store h4 hbl false)
      have HD : Hid ((X.setCell ⟨w.heap.size + 1, 0, none⟩ (.bool false)).heap[W0.heap.size]? = X.heap[W0.heap.size]? ∧ (X.setCell ⟨w.heap.size + 1, 0, none⟩ (.bool false)).heap[W0.heap.size + 1]? = X.heap[W0.heap.size + 1]?) := ⟨heap_set_ne X (by omega) _ _, heap_set_ne X (by omega) _ _⟩
      clear hE hA hg hsf
      gi_wp2_with (first | (gi_at_call 59; refine (CallsIn.inRound _ (callsIn_wide.2 (HC.out _))).mono ?_; rintro e w1 ⟨rfl, rfl⟩) | (refine ⟨trivial, ?_⟩; gi_at_call 59; refine (CallsIn.inRound _ (callsIn_wide.2 (HC.out _))).mono ?_; rintro e w1 ⟨rfl, rfl⟩))
      refine ⟨fun _ h => (by cases h), ?_⟩
      gi_wp2
      exact ⟨HD.out, HE.out.1, HG.out⟩
    | true =>
      rw [hsf] at HC
      have HM := Lib.hid (may_any bl (w.heap.size + 5) acc hacc (Lib.trimSuffix x [10]) (by have := trim_le x; omega) X hE.tab (by omega) hA)
      have HG := Lib.hid (goes_step hg hsf)
      have HE := Lib.hid hE
      clear hE hA hg hsf
      gi_wp2_with (first | (gi_at_call 59; refine (CallsIn.inRound _ (callsIn_wide.2 (HC.out _))).mono ?_; rintro e w1 ⟨rfl, rfl⟩) | (refine ⟨trivial, ?_⟩; gi_at_call 59; refine (CallsIn.inRound _ (callsIn_wide.2 (HC.out _))).mono ?_; rintro e w1 ⟨rfl, rfl⟩))
      refine ⟨trivial, ?_⟩
      gi_at_call 36
      refine (CallsIn.inRound _ (callsIn_wide.2 HM.out)).mono ?_
      clear c3 c4 f4 HM HC
      rintro e w2 ⟨hk, (⟨m, hm, rfl, hA⟩ | ⟨hm, rfl⟩)⟩
      · have HE2 := Lib.hid (HE.out.called h4 hbl (by omega) hk)
        have HKs : Hid ((w2.heap[W0.heap.size]? = w1.heap[W0.heap.size]? ∧ w2.heap[W0.heap.size + 1]? = w1.heap[W0.heap.size + 1]?) ∧ w2.heap[w.heap.size + 1 + 1]? = w1.heap[w.heap.size + 1 + 1]? ∧ w1.heap.size ≤ w2.heap.size) := ⟨⟨hk.block _ (by omega) (by omega), hk.block _ (by omega) (by omega)⟩, hk.block _ (by omega) (by omega), hk.size⟩
        have HAm := Lib.hid hA
        have HML := Lib.hid (more_len hm hacc)
        rw [hm] at HG
        clear hk hA hm
        gi_wp2
        exact ⟨HKs.out.1, HKs.out.2.1, HKs.out.2.2, HE2.out, m, HG.out, HML.out, HAm.out⟩
      · have hE2 := HE.out.called h4 hbl (by omega) hk
        obtain ⟨-, c4, f4⟩ := hE2.reads
        have HE3 := Lib.hid (hE2.store h4 hbl false)
        have HD : Hid ((w2.setCell ⟨w.heap.size + 1, 0, none⟩ (.bool false)).heap[W0.heap.size]? = w1.heap[W0.heap.size]? ∧ (w2.setCell ⟨w.heap.size + 1, 0, none⟩ (.bool false)).heap[W0.heap.size + 1]? = w1.heap[W0.heap.size + 1]?) := ⟨(heap_set_ne w2 (by omega) _ _).trans (hk.block _ (by omega) (by omega)), (heap_set_ne w2 (by omega) _ _).trans (hk.block _ (by omega) (by omega))⟩
        rw [hm] at HG
        clear hk hm hE2
        gi_wp2
        exact ⟨HD.out, HE3.out.1, HG.out⟩
  case done =>
    rintro xs X rfl ⟨hE, acc, hg, hacc, hA⟩ hD
    obtain ⟨-, c4, f4⟩ := hE.reads
    have HE := Lib.hid (hE.store h4 hbl true)
    have HA := Lib.hid hA
    have HD : Hid ((X.setCell ⟨w.heap.size + 1, 0, none⟩ (.bool true)).heap[W0.heap.size]? = some (.deferred (some []))) := (heap_set_ne X (by omega) _ _).trans hD
    clear hE hA hD
    gi_wp2
    clear c4 f4
    generalize X.setCell ⟨w.heap.size + 1, 0, none⟩ (.bool true) = Y at *
    refine ⟨by simp, .inl ⟨_, _, rfl, run_takeDeferred HD.out, ?_⟩⟩
    obtain ⟨hE1, hk1⟩ := HE.out
    have hk2 : Kt (fun k => k = bl ∨ W0.heap.size ≤ k) Y (Y.putObj W0.heap.size (.deferred none)) := Kt.put _ _ _ (Or.inr (Nat.le_refl _))
    have hk3 : Kt (fun k => k = W0.heap.size) Y (Y.putObj W0.heap.size (.deferred none)) := Kt.put _ _ _ rfl
    have hE2 := hE1.called h4 hbl (by omega) hk2
    have hA2 := HA.out.kept ((hk1.wide (T' := fun k => k < w.heap.size + 5 ∧ k ≠ bl) (fun k _ hh => by omega)).trans (hk3.wide (T' := fun k => k < w.heap.size + 5 ∧ k ≠ bl) (fun k _ hh => by omega)))
    obtain ⟨-, c5, -⟩ := hE2.reads
    have HP : Hid (Kt (fun k => k = bl) w (Y.putObj W0.heap.size (.deferred none)) ∧ Acc bl (w.heap.size + 5) 33 acc (Y.putObj W0.heap.size (.deferred none))) := ⟨hE2.kt, hA2⟩
    clear hE1 hk1 hk2 hk3 hE2 hA2 HE HA HD
    generalize Y.putObj W0.heap.size (.deferred none) = Z at *
    refine ⟨.bool true, ?_, HP.out.1, .inl ⟨acc, hg, rfl, HP.out.2⟩⟩
    rw [results_cell1 rfl]
    go_simp
  case stop =>
    rintro pre X hpre ⟨hE, hg⟩ hD
    have hR := goesS_cut hg hpre
    obtain ⟨-, c4, f4⟩ := hE.reads
    gi_wp2
    clear c4 f4
    refine ⟨by simp, .inl ⟨_, _, rfl, run_takeDeferred hD, ?_⟩⟩
    have hk2 : Kt (fun k => k = bl ∨ W0.heap.size ≤ k) X (X.putObj W0.heap.size (.deferred none)) := Kt.put _ _ _ (Or.inr (Nat.le_refl _))
    have hE2 := hE.called h4 hbl (by omega) hk2
    obtain ⟨-, c5, -⟩ := hE2.reads
    have HP := Lib.hid hE2.kt
    clear hE hk2 hE2 hD
    generalize X.putObj W0.heap.size (.deferred none) = Z at *
    refine ⟨.bool false, ?_, HP.out, .inr ⟨hR, rfl⟩⟩
    rw [results_cell1 rfl]
    go_simp
end Go.Proofs.YtemdhcegelddlaaDoor
