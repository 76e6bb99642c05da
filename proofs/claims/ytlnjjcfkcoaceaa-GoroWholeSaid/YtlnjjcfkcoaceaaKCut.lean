/- The contract of code.cut: parts of words. -/
import Derived.Test.YtlnjjcfkcoaceaaKSeg
namespace Go.Proofs.Ytlnjjcfkcoaceaa
open Go Go.RowKit
set_option linter.unusedVariables false
set_option maxRecDepth 100000
set_option linter.unusedSimpArgs false

theorem add_plain (b off k : Nat) : (⟨b, off, none⟩ : Addr).add k = ⟨b, off + k, none⟩ := by
  by_cases h : k = 0
  · subst h; simp [Addr.add]
  · simp [Addr.add, h]
theorem info34 : (Try.prog.info? 34).map (fun i => (i.zero, i.size, i.bytes)) = some (some (.int .u64 0), 1, 8) := by kernel_rfl
/-- A slice cut at its end. -/
theorem slice_high (w : World) (B : Nat) (A : Option Addr) (n cap i : Nat) (f : Nat → Int) (hs : SeesU w B A n f) (hi : i ≤ n) (hc : n ≤ cap) (hm : cap ≤ 9223372036854775807) :
    ∃ (A1 : Option Addr) (c1 : Nat), (∀ w, (Instr.slice 22 (.slice A n cap) none (some (.int .i64 i)) none).run Try.prog w = .ok (.slice A1 i c1) w) ∧ SeesU w B A1 i f ∧ i ≤ c1 ∧ c1 ≤ 9223372036854775807 := by
  refine ⟨if cap = 0 then A else A.map (·.add (0 * 1)), cap, fun w => ?_, ?_, by omega, hm⟩
  · obtain ⟨i0, hii, hz0, hz1, hz2⟩ := info_parts info34
    rw [run_slice_h w 22 A n cap (by rw [Try.underlying22]; rfl) .i64 i (by omega) (by omega)]
    simp [go_sem, sizeOf, typeInfo, Result.andThen, sliced, hii, hz1, add_plain]
  · intro h0
    rw [if_neg (by omega)]
    obtain ⟨b, off, rfl, hb, hx⟩ := hs (by omega)
    exact ⟨b, off, by simp [add_plain], hb, fun j hj => hx j (by omega)⟩
theorem slice_low (w : World) (B : Nat) (A : Option Addr) (n cap i : Nat) (f : Nat → Int) (hs : SeesU w B A n f) (hi : i < n) (hc : n ≤ cap) (hm : cap ≤ 9223372036854775807) :
    ∃ (A1 : Option Addr) (c1 : Nat), (∀ w, (Instr.slice 22 (.slice A n cap) (some (.int .i64 ((i : Int) + 1))) none none).run Try.prog w = .ok (.slice A1 (n - (i + 1)) c1) w) ∧ SeesU w B A1 (n - (i + 1)) (fun j => f (i + 1 + j)) ∧ n - (i + 1) ≤ c1 ∧ c1 ≤ 9223372036854775807 := by
  refine ⟨if cap = i + 1 then A else A.map (·.add ((i + 1) * 1)), cap - (i + 1), fun w => ?_, ?_, by omega, by omega⟩
  · obtain ⟨i0, hii, hz0, hz1, hz2⟩ := info_parts info34
    rw [run_slice_l w 22 A n cap (by rw [Try.underlying22]; rfl) .i64 ((i : Int) + 1) (by omega) (by omega)]
    have e : ((i : Int) + 1).toNat = i + 1 := by omega
    simp [go_sem, sizeOf, typeInfo, Result.andThen, sliced, e, hii, hz1, add_plain]
  · intro h0
    rw [if_neg (by omega)]
    obtain ⟨b, off, rfl, hb, hx⟩ := hs (by omega)
    exact ⟨b, off + (i + 1), by simp [add_plain], hb, fun j hj => by have := hx (i + 1 + j) (by omega); rwa [← Nat.add_assoc] at this⟩
theorem info22 : (Try.prog.info? 22).map (fun i => (i.zero, i.size, i.bytes)) = some (some (.slice none 0 0), 1, 24) := by kernel_rfl
theorem cells_of (w : World) (x : Value) (T : TypeId) : ∀ j u, ([x] : List Value)[j]? = some u → (w.alloc (.cells #[x] T)).cell? ((⟨w.heap.size, 0, none⟩ : Addr).add j) = some u := by
  intro j u hj
  have h := heap_alloc_new w (.cells #[x] T)
  match j, hj with
  | 0, hj =>
    have hc : (w.alloc (.cells #[x] T)).cell? ⟨w.heap.size, 0, none⟩ = some x := by simp only [World.cell?, h]; rfl
    have e : (⟨w.heap.size, 0, none⟩ : Addr).add 0 = ⟨w.heap.size, 0, none⟩ := rfl
    rw [e, hc]
    exact hj
  | j + 1, hj => simp at hj
def lenOf : Value → Nat
  | .slice _ n _ => n
  | _ => 0

/-- Cells that hold the parts. -/
structure Pieces (w : World) (B : Nat) (f : Nat → Int) (L : List (Nat × Nat)) (xs : List Value) : Prop where
  len : xs.length = L.length
  at' : ∀ (p : Nat) (x : Nat × Nat), L[p]? = some x → ∃ (A1 : Option Addr) (c1 : Nat), xs[p]? = some (Value.slice A1 x.2 c1) ∧ SeesU w B A1 x.2 (fun j => f (x.1 + j)) ∧ x.2 ≤ c1 ∧ c1 ≤ 9223372036854775807
theorem Pieces.nil (w : World) (B : Nat) (f : Nat → Int) : Pieces w B f [] [] := ⟨rfl, fun p x h => by simp at h⟩
theorem Pieces.snoc {w : World} {B : Nat} {f : Nat → Int} {L : List (Nat × Nat)} {xs : List Value} (h : Pieces w B f L xs) {s l c1 : Nat} {A1 : Option Addr} (hs : SeesU w B A1 l (fun j => f (s + j))) (h1 : l ≤ c1) (h2 : c1 ≤ 9223372036854775807) : Pieces w B f (L ++ [(s, l)]) (xs ++ [.slice A1 l c1]) := by
  refine ⟨by simp [h.len], fun p x hp => ?_⟩
  by_cases hlt : p < L.length
  · rw [List.getElem?_append_left hlt] at hp
    rw [List.getElem?_append_left (by rw [h.len]; exact hlt)]
    exact h.at' p x hp
  · have e : p = L.length := by
      have := (List.getElem?_eq_some_iff.1 hp).1
      simp at this
      omega
    subst e
    simp at hp
    subst hp
    exact ⟨A1, c1, by rw [← h.len]; simp, hs, h1, h2⟩

/-- A row of the call's own: how it grows. -/
structure Own (w wr : World) (e : TypeId) (size : Nat) (v : Value) (n : Nat) (xs : List Value) : Prop where
  own : wr.ownsRow w.heap.size e size v n xs
  below : Below w.heap.size w wr
theorem Own.nil (w : World) (e : TypeId) (size : Nat) : Own w w e size (.slice none 0 0) 0 [] := ⟨World.ownsRow_nil _ _ _ _, Below.refl _ _⟩
theorem Own.drewN {w wr : World} {e : TypeId} {size : Nat} {v : Value} {n : Nat} {xs : List Value} (h : Own w wr e size v n xs) (m : Nat) : Own w (wr.drewN m) e size v n xs := ⟨h.own, below_drewN2 h.below m⟩
theorem Own.spelt {w wr : World} {e : TypeId} {size : Nat} {v : Value} {n : Nat} {xs : List Value} (h : Own w wr e size v n xs) : ∃ A cap, v = .slice A n cap := by
  rcases h.own.2 with ⟨e, h0⟩ | ⟨g, cp, cur, e, _⟩
  · exact ⟨none, 0, by rw [e, h0]⟩
  · exact ⟨_, _, e⟩
theorem Own.next {w wr w1 : World} {e : TypeId} {size : Nat} {v v' : Value} {n m : Nat} {xs ys : List Value} {o : Obj} (h : Own w wr e size v n xs) (hown : w1.ownsRow w.heap.size e size v' m ys) (hgrow : (wr.alloc o).grownBy w1 v.ownBlock) : Own w w1 e size v' m ys := by
  refine ⟨hown, (h.below.alloc h.below.size o).grown hgrow (by have := h.below.size; simp; omega) fun j ej => ?_⟩
  rcases h.own.2 with ⟨e, -⟩ | ⟨g, cp, cur, e, hg, -⟩
  · rw [e] at ej; simp [Value.ownBlock] at ej
  · rw [e] at ej; simp [Value.ownBlock] at ej; omega

set_option maxHeartbeats 1000000 in
theorem cut_any (A : Option Addr) (n cap : Nat) (f : Nat → Int) (w : World) (hn : n ≤ 1000000) (hc : n ≤ cap) (hm : cap ≤ 9223372036854775807) (hs : SeesU w w.heap.size A n f) (hf : ∀ i, i < n → 0 ≤ f i ∧ f i ≤ 18446744073709551615) :
    Calls Try.prog 97 #[.slice A n cap, .func (.func 98) #[] #[]] w fun e w' => ∃ v xs, e = .returned v ∧ Own w w' 22 1 v (segs f n).length xs ∧ Pieces w w.heap.size f (segs f n) xs := by
  obtain ⟨i0, hi, hz0, hz1, hz2⟩ := info_parts info22
  have HS : Hid (SeesU w w.heap.size A n f) := hs
  have HF : Hid (∀ i, i < n → 0 ≤ f i ∧ f i ≤ 18446744073709551615) := hf
  clear hs hf
  go_enter Try.func97, Try.ntmps97
  go_wp2_with fail
  go_loopw [0, 5] (fun x y wr => ∃ (s : Nat) (A1 : Option Addr) (c1 : Nat) (v : Value) (xs : List Value), s ≤ n ∧ x = .slice A1 (n - s) c1 ∧ n - s ≤ c1 ∧ c1 ≤ 9223372036854775807 ∧ Hid (SeesU w w.heap.size A1 (n - s) (fun j => f (s + j))) ∧ (scan f s).2 = s ∧ y = v ∧ Hid (Own w wr 22 1 v (scan f s).1.length xs) ∧ Hid (Pieces w w.heap.size f (scan f s).1 xs)) (fun x _ _ => lenOf x)
  case atStart => exact ⟨0, A, cap, _, [], Nat.zero_le _, rfl, hc, hm, (show SeesU w w.heap.size A (n - 0) (fun j => f (0 + j)) by simpa using HS.out), rfl, rfl, Own.nil _ _ _, Pieces.nil _ _ _⟩
  case round =>
    obtain ⟨s, A1, c1, v, xs, hsn, rfl, hc1, hm1, HS1, hss, rfl, HO, HP⟩ := hrel
    have hI := index_any A1 (n - s) c1 (fun j => f (s + j)) wr (by omega) ((SeesU.below HS1.out HO.out.below (Nat.le_refl _)).more HO.out.below.size) (fun i hi => HF.out (s + i) (by omega))
    go_wp2_with fail
    go_at_call 137; refine hI.mono ?_; clear hI; rintro e w1 ⟨⟨k, rfl⟩, ⟨rfl, hno⟩ | ⟨i, hlt, rfl, hp, hno⟩⟩
    · have HO2 : Hid (Own w (wr.drewN k) 22 1 u5 (scan f s).1.length xs) := HO.out.drewN k
      have HN : Hid (segs f n = (scan f s).1 ++ [(s, n - s)]) := segs_run f s n hss hsn hno
      have hl := scan_len f s
      clear hno
      go_wp2_with (at_builtin; refine wpList_append_own _ rfl _ _ 152 rfl w.heap.size 22 i0 (.slice none 0 0) 1 24 Try.underlying152 hi hz0 hz1 hz2 rfl (by decide) _ (scan f s).1.length xs rfl (HO2.out.own.alloc _) ⟨(wr.drewN k).heap.size, 0, none⟩ 1 1 [.slice A1 (n - s) c1] rfl rfl (cells_of _ _ _) (by simp [Value.oneCell']) (by unfold maxLen; omega) (by omega) (by have := HO2.out.below.size; simp at this ⊢; omega) ?_; intro v' w3 hown3 hgrow3 _)
      have hF := HO2.out.next hown3 hgrow3
      have hPP := HP.out.snoc HS1.out hc1 hm1
      go_ret
      refine ⟨v', xs ++ [.slice A1 (n - s) c1], rfl, ?_, ?_⟩
      · rw [HN.out, List.length_append]; exact hF
      · rw [HN.out]; exact hPP
    · have HO2 : Hid (Own w (wr.drewN k) 22 1 u5 (scan f s).1.length xs) := HO.out.drewN k
      have HN : Hid (scan f (s + i + 1) = ((scan f s).1 ++ [(s, i)], s + i + 1)) := scan_part f s i hss hno hp
      obtain ⟨A2, c2, hsl, hS2, hi2, hm2⟩ := slice_high w w.heap.size A1 (n - s) c1 i (fun j => f (s + j)) HS1.out (by omega) hc1 hm1
      obtain ⟨A3, c3, hsl3, hS3, hi3, hm3⟩ := slice_low w w.heap.size A1 (n - s) c1 i (fun j => f (s + j)) HS1.out hlt hc1 hm1
      have HS2 : Hid (SeesU w w.heap.size A2 i (fun j => f (s + j))) := hS2
      have HS3 : Hid (SeesU w w.heap.size A3 (n - s - (i + 1)) (fun j => f (s + (i + 1 + j)))) := hS3
      have hl := scan_len f s
      clear hno hS2 hS3
      go_wp2_with (at_builtin; refine wpList_append_own _ rfl _ _ 152 rfl w.heap.size 22 i0 (.slice none 0 0) 1 24 Try.underlying152 hi hz0 hz1 hz2 rfl (by decide) _ (scan f s).1.length xs rfl (HO2.out.own.alloc _) ⟨(wr.drewN k).heap.size, 0, none⟩ 1 1 [.slice A2 i c2] rfl rfl (cells_of _ _ _) (by simp [Value.oneCell']) (by unfold maxLen; omega) (by omega) (by have := HO2.out.below.size; simp at this ⊢; omega) ?_; intro v' w3 hown3 hgrow3 _)
      have hF := HO2.out.next hown3 hgrow3
      have hPP := HP.out.snoc HS2.out hi2 hm2
      go_roundw
      case rel => exact ⟨s + i + 1, A3, c3, v', xs ++ [.slice A2 i c2], by omega, by rw [show n - s - (i + 1) = n - (s + i + 1) by omega], by omega, hm3, (by have h := HS3.out; rw [show n - s - (i + 1) = n - (s + i + 1) by omega] at h; show SeesU w w.heap.size A3 (n - (s + i + 1)) (fun j => f (s + i + 1 + j)); simpa [Nat.add_assoc] using h), by rw [HN.out], rfl, (by rw [HN.out, List.length_append]; exact hF), (by rw [HN.out]; exact hPP)⟩
      case measure => simp [lenOf]; omega
end Go.Proofs.Ytlnjjcfkcoaceaa
