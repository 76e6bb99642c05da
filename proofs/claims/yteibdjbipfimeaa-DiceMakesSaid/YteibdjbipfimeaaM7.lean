/- The script made up by the document. -/
import Derived.Test.YteibdjbipfimeaaM6
namespace Go.Proofs.Yteibdjbipfimeaa
open Go Go.RowKit
set_option linter.unusedVariables false
set_option linter.unusedSimpArgs false
set_option maxRecDepth 100000

/-- A row of entries that grows, beside the document's dice at block r, and the entry's box at block z. -/
structure EntOn (w wr : World) (r z s M : Nat) (A : Option Addr) (k cp : Nat) (L : List (Int × Int)) (x y : Int) : Prop where
  own : wr.ownsRow w.heap.size 48 2 (.slice A k cp) k (flat L)
  len : L.length = k
  rd : Rd wr r s M
  but : But [r] w wr
  lt : r < w.heap.size
  box : wr.heap[z]? = some (.cells #[.int .i64 x, .int .i64 y] 48 (0, 0))
  nz : (Value.slice A k cp).ownBlock ≠ some z
  lo : w.heap.size ≤ z
theorem EntOn.app {w wr w1 : World} {r z s M k cp g cap : Nat} {A : Option Addr} {L : List (Int × Int)} {x y : Int} (h : EntOn w wr r z s M A k cp L x y)
    (hO : w1.ownsRow w.heap.size 48 2 (.slice (some ⟨g, 0, none⟩) (k + 1) cap) (k + 1) (flat L ++ flat [(x, y)])) (hG : (wr.alloc (.cells #[.int .i64 x, .int .i64 y] 48)).grownBy w1 (Value.slice A k cp).ownBlock)
    (hw : (Value.slice A k cp).ownBlock = some g ∨ g = (wr.alloc (.cells #[.int .i64 x, .int .i64 y] 48)).heap.size) : EntOn w w1 r z s M (some ⟨g, 0, none⟩) (k + 1) cap (L ++ [(x, y)]) x y := by
  have hlow := h.own.lt
  have hb := (h.but.alloc (.cells #[.int .i64 x, .int .i64 y] 48))
  have hz := block_lt h.box
  have hs : (wr.alloc (.cells #[.int .i64 x, .int .i64 y] 48)).heap.size = wr.heap.size + 1 := by simp
  refine ⟨by rw [flat_app]; exact hO, by rw [List.length_append, h.len]; rfl, ?_, hb.thenGrown hG (fun j hj => by have := (hlow j hj).1; omega), h.lt, ?_, ?_, h.lo⟩
  · have e := h.rd.lt
    have := h.lt
    exact (hG.block r (by omega) (fun e => by have := (hlow r e.symm).1; omega)).trans ((heap_al _ e _).trans h.rd)
  · exact (hG.block z (by omega) (fun e => h.nz e.symm)).trans ((heap_al _ hz _).trans h.box)
  · intro e
    have eg : g = z := by simpa [Value.ownBlock] using e
    subst eg
    rcases hw with hw | hw
    · exact h.nz hw
    · omega
theorem ent_new {w w2 X : World} {r s M k cp : Nat} {A : Option Addr} {L : List (Int × Int)} {x y : Int} (hO : w2.ownsRow w.heap.size 48 2 (.slice A k cp) k (flat L)) (hl : L.length = k) (hR : Rd X r s M) (hB : But [r] w w2) (hr : r < w.heap.size)
    (hX : But [r] (w2.alloc (.cells #[.int .i64 x, .int .i64 y] 48)) X) : EntOn w X r w2.heap.size s M A k cp L x y := by
  have hlow := hO.lt
  have hs := hB.size
  have e : (w2.alloc (.cells #[.int .i64 x, .int .i64 y] 48)).heap.size = w2.heap.size + 1 := by simp
  refine ⟨(hO.alloc _).kept hX.grownBy (Or.inr (fun e => by have := (hlow r e).1; omega)), hl, hR, (hB.alloc _).trans hX, hr, (hX.block w2.heap.size (by omega) (by simp; omega)).trans (heap_alloc_new _ _), fun e => ?_, hs⟩
  have := (hlow _ e).2
  omega

/-- Where the loop of the document's Script stands. -/
structure RefOn (w wr : World) (r s N T n f k cp M : Nat) (A : Option Addr) (L : List (Int × Int)) : Prop where
  go : scrGo T n f L (st s M) = scr T n (st s N)
  fl : n ≤ f + L.length
  le : L.length = k ∧ k ≤ n
  own : wr.ownsRow w.heap.size 48 2 (.slice A k cp) k (flat L)
  rd : Rd wr r s M
  ub : M ≤ N + 3 * k
  but : But [r] w wr
  lt : r < w.heap.size
theorem refOn_step {w wr w3 : World} {r z s N T n f k cp M cp' u m j : Nat} {A A' : Option Addr} {L : List (Int × Int)} {x y : Int} (h : RefOn w wr r s N T n f k cp M A L) (hk : k < n)
    (hrun : runL (st s M) T = List.replicate m (x, y)) (hu : runN (st s M) = u) (hu3 : u ≤ 3) (hj : j = min m (n - k)) (hE : EntOn w w3 r z s (M + u) A' (k + j) cp' (L ++ List.replicate j (x, y)) x y) :
    ∃ f', RefOn w w3 r s N T n f' (k + j) cp' (M + u) A' (L ++ List.replicate j (x, y)) ∧ k < k + j := by
  have hr := runL_pos (st s M) T
  have hm : 1 ≤ m := by rw [hrun] at hr; simpa using hr.1
  have ht : (runL (st s M) T).take (n - L.length) = List.replicate j (x, y) := by
    rw [hrun, List.take_replicate, h.le.1]; congr 1; omega
  obtain ⟨f', _, e1, e2⟩ := scrGo_step T n f L (st s M) (by rw [h.le.1]; exact hk) h.fl
  rw [ht, hu, st_st2] at e1
  rw [ht] at e2
  exact ⟨f', ⟨e1.symm.trans h.go, e2, ⟨hE.len, by omega⟩, hE.own, hE.rd, by have := h.ub; omega, hE.but, h.lt⟩, by omega⟩
theorem news2 (X : World) (x y : Value) : ∀ j u, ([x, y] : List Value)[j]? = some u → (X.alloc (.cells #[x, y] 48)).cell? ((⟨X.heap.size, 0, none⟩ : Addr).add j) = some u := fun j u hu => World.news_of_block (cs := #[x, y]) (heap_alloc_new X (.cells #[x, y] 48)) j u hu
theorem ent_box {w wr : World} {r z s M k cp : Nat} {A : Option Addr} {L : List (Int × Int)} {x y : Int} (h : EntOn w wr r z s M A k cp L x y) : wr.cell? ⟨z, 0, none⟩ = some (.int .i64 x) ∧ wr.cell? ⟨z, 1, none⟩ = some (.int .i64 y) := by
  have := h.box; exact ⟨by simp [World.cell?, this], by simp [World.cell?, this]⟩

theorem ent_free {w wr : World} {r z s M k cp : Nat} {A : Option Addr} {L : List (Int × Int)} {x y : Int} (h : EntOn w wr r z s M A k cp L x y) (i : Nat) : wr.frozen? ⟨z, i, none⟩ = false := by
  have := h.box; simp [World.frozen?, this]
theorem ent_set {w wr : World} {r z s M k cp : Nat} {A : Option Addr} {L : List (Int × Int)} {x y : Int} (h : EntOn w wr r z s M A k cp L x y) (v : Int) : EntOn w (wr.setCell ⟨z, 1, none⟩ (.int .i64 v)) r z s M A k cp L x v := by
  have hb : But [z] wr (wr.setCell ⟨z, 1, none⟩ (.int .i64 v)) := (But.refl _ _).set (Or.inl (by simp)) 1 _
  have hlo := h.lo
  have hlt := h.lt
  exact ⟨h.own.kept hb.grownBy (Or.inr h.nz), h.len, h.rd.but hb (by simp; omega), h.but.set (Or.inr hlo) 1 _, hlt, heap_set h.box 1 _, h.nz, hlo⟩
theorem ent_call {w wr w1 : World} {r z s M M' k cp : Nat} {A : Option Addr} {L : List (Int × Int)} {x y : Int} (h : EntOn w wr r z s M A k cp L x y) (hR : Rd w1 r s M') (hB : But [r] wr w1) : EntOn w w1 r z s M' A k cp L x y := by
  have hlo := h.lo
  have hlt := h.lt
  exact ⟨h.own.kept hB.grownBy (Or.inr (fun e => by have := (h.own.lt r e).1; omega)), h.len, hR, h.but.trans hB, hlt, (hB.block z (block_lt h.box) (by simp; omega)).trans h.box, h.nz, hlo⟩

/-- What the document's script comes to. -/
def RefScr (w : World) (r s N T n : Nat) (e : Ending) (w' : World) : Prop :=
  ∃ (A : Option Addr) (cp M : Nat), e = .returned (.slice A n cp) ∧ w'.ownsRow w.heap.size 48 2 (.slice A n cp) n (flat (scr T n (st s N)).1) ∧ Rd w' r s M ∧ st s M = (scr T n (st s N)).2 ∧ M ≤ N + 3 * n ∧ But [r] w w'

set_option maxHeartbeats 8000000 in
theorem refScript_any (w : World) (r s N T n : Nat) (hs : s < 18446744073709551616) (hN : N ≤ 10000) (hT : 1 ≤ T) (hT2 : T ≤ 256) (hn : n ≤ 300) (h : Rd w r s N) :
    Calls Try.prog 19 #[.pointer (some ⟨r, 0, none⟩), .int .i64 (T : Int), .int .i64 (n : Int)] w (RefScr w r s N T n) := by
  obtain ⟨i0, hi, hz0, hz1, hz2⟩ := info_parts info48o
  have HS := Lib.hid hs
  have HST : Hid (RefOn w w r s N T n n 0 0 N none []) := ⟨rfl, by simp, ⟨rfl, by omega⟩, World.ownsRow_nil _ _ _ _, h, by omega, But.refl _ _, h.lt⟩
  clear h hs
  go_enter Try.func19, Try.ntmps19
  go_wp2_with fail
  go_loopw [7] (fun v wr => ∃ (f k cp M : Nat) (A : Option Addr) (L : List (Int × Int)), v = .slice A k cp ∧ RefOn w wr r s N T n f k cp M A L) (fun v _ => n - (match v with | .slice _ n _ => n | _ => 0))
  case atStart => exact ⟨n, 0, 0, N, none, [], rfl, HST.out⟩
  case round =>
    obtain ⟨f, k, cp, M, A, L, rfl, hR⟩ := hrel
    have hkn0' := hR.le.2
    have hub := hR.ub
    have HR := Lib.hid hR
    clear HST hR
    by_cases hkn0 : k < n
    · have hM : M ≤ 20000 := by omega
      have hkn1 : (k : Int) < (n : Int) := by omega
      clear hub
      have h8 := rem_lt (num (st s M) 1) 8 (by omega)
      go_wp2_with fail
      by_cases h0 : rem (num (st s M) 1) 8 = 0
      · go_at_call 8; refine (refBelow_lit _ r s M 8 0 8 rfl HS.out (by omega) HR.out.rd (by omega) (by omega) (by rw [← num_st2, h0]; rfl)).mono ?_; rintro e w2 ⟨rfl, hD, hB⟩
        have HD := Lib.hid hD
        have HB := Lib.hid hB
        have HB0 := Lib.hid (HR.out.but.trans hB)
        have HO := Lib.hid (HR.out.own.kept hB.grownBy (Or.inr (fun e => by have := (HR.out.own.lt r e).1; have := HR.out.lt; omega)))
        clear hD hB
        obtain ⟨q, HQ, hq⟩ : ∃ q : Nat, Hid (rem (num (st s M) 2) 16 = q) ∧ q < 16 := ⟨_, Lib.hid rfl, rem_lt _ _ (by omega)⟩
        have HRUN : Hid (runL (st s M) T = List.replicate (1 + q) (2, 0) ∧ runN (st s M) = 2) := by
          show _ ∧ _
          unfold runL runN; rw [HQ.out]; simp [h0]
        clear h0 h8
        have hzz : r < w2.heap.size := HD.out.lt
        go_wp2_with fail
        go_at_call 8; refine (refBelow_lit _ r s (M + 1) 16 q 16 rfl HS.out (by omega) (HD.out.below ((Below.refl _ _).alloc (Nat.le_refl _) _) hzz) (by omega) (by omega) (by rw [show M + 1 + 1 = M + 2 by omega, ← num_st2, HQ.out])).mono ?_; rintro e w3 ⟨rfl, hD3, hB3⟩
        have HE := Lib.hid (ent_new HO.out HR.out.le.1 hD3 HB0.out HR.out.lt hB3)
        clear hD3 hB3
        generalize w2.heap.size = z at HE ⊢
        go_wp2_with fail
        go_loopw [7, 11] (fun v i wr => ∃ (j kk cp : Nat) (A : Option Addr), v = .slice A kk cp ∧ i = .int .i64 j ∧ j ≤ (1 + q) ∧ kk = k + j ∧ kk ≤ n ∧ EntOn w wr r z s (M + 2) A kk cp (L ++ List.replicate j (2, 0)) 2 0) (fun _ i _ => (1 + q) - (intOf i).toNat)
        case atStart => exact ⟨0, k, cp, A, rfl, rfl, by omega, by omega, by omega, by rw [List.replicate_zero, List.append_nil]; exact HE.out⟩
        case round =>
          obtain ⟨j, kk, cp1, A1, rfl, rfl, hj, hkk, hkn, hE⟩ := hrel
          have HE1 := Lib.hid hE
          have HKK := Lib.hid hkk
          have hkk300 : kk ≤ 300 := by omega
          obtain ⟨bx0, bx1⟩ := ent_box hE
          clear HE hE
          by_cases hlt2 : j < (1 + q)
          · by_cases hlt3 : kk < n
            · have hkkb : (kk : Int) < (n : Int) := by omega
              clear hkk
              go_wp2_with (refine wpList_append_lies _ rfl (.tmp 50) (.tmp 52) 40 rfl w.heap.size 48 i0 _ 2 16 Try.underlying40 hi hz0 hz1 hz2 rfl (by omega) (.slice A1 kk cp1) kk (flat (L ++ List.replicate j (2, 0))) rfl (HE1.out.own.alloc _) ⟨_, 0, none⟩ 1 1 [.int .i64 (2), .int .i64 (0)] rfl rfl (news2 _ _ _) (flat_one [(2, 0)]) (by omega) (by unfold maxLen; omega) (by omega) (by have := HE1.out.but.size; simp; omega) _ rfl ?_; intro g3 cap3 w5 hO2 hG2 hw2 _; have HE2 := Lib.hid (HE1.out.app hO2 hG2 hw2); clear hO2 hG2 hw2)
              go_roundw
              case rel =>
                refine ⟨j + 1, kk + 1, cap3, _, rfl, by go_num, by omega, by have := HKK.out; omega, by omega, ?_⟩
                rw [List.replicate_succ', ← List.append_assoc]; exact HE2.out
              case measure => simp [intOf]; omega
            · have hkkb : ¬ (kk : Int) < (n : Int) := by omega
              have hjm : j = min (1 + q) (n - k) := by rw [Nat.min_eq_right (by omega)]; omega
              clear bx0 bx1 hkk
              obtain ⟨f', hR2, hkj⟩ := refOn_step (j := j) HR.out hkn0 HRUN.out.1 HRUN.out.2 (by omega) hjm (by have e := HE1.out; rw [HKK.out] at e; exact e)
              have HR2 := Lib.hid hR2
              clear hR2
              go_wp2_with fail
              go_roundw
              case rel => exact ⟨f', k + j, cp1, M + 2, A1, _, by rw [HKK.out], HR2.out⟩
              case measure => have := HKK.out; simp; omega
          · have hjm : j = min (1 + q) (n - k) := by rw [Nat.min_eq_left (by omega)]; omega
            have hjj : ¬ (j : Int) < (1 + q) := by omega
            clear bx0 bx1 hkk
            obtain ⟨f', hR2, hkj⟩ := refOn_step (j := j) HR.out hkn0 HRUN.out.1 HRUN.out.2 (by omega) hjm (by have e := HE1.out; rw [HKK.out] at e; exact e)
            have HR2 := Lib.hid hR2
            clear hR2
            go_wp2_with fail
            go_roundw
            case rel => exact ⟨f', k + j, cp1, M + 2, A1, _, by rw [HKK.out], HR2.out⟩
            case measure => have := HKK.out; simp; omega
      by_cases h1 : rem (num (st s M) 1) 8 = 1
      · go_at_call 8; refine (refBelow_lit _ r s M 8 1 8 rfl HS.out (by omega) HR.out.rd (by omega) (by omega) (by rw [← num_st2, h1]; rfl)).mono ?_; rintro e w2 ⟨rfl, hD, hB⟩
        have HD := Lib.hid hD
        have HB := Lib.hid hB
        have HB0 := Lib.hid (HR.out.but.trans hB)
        have HO := Lib.hid (HR.out.own.kept hB.grownBy (Or.inr (fun e => by have := (HR.out.own.lt r e).1; have := HR.out.lt; omega)))
        clear hD hB
        obtain ⟨q, HQ, hq⟩ : ∃ q : Nat, Hid (rem (num (st s M) 2) 16 = q) ∧ q < 16 := ⟨_, Lib.hid rfl, rem_lt _ _ (by omega)⟩
        have HRUN : Hid (runL (st s M) T = List.replicate (1 + q) (3, 0) ∧ runN (st s M) = 2) := by
          show _ ∧ _
          unfold runL runN; rw [HQ.out]; simp [h1]
        clear h0 h1 h8
        have hzz : r < w2.heap.size := HD.out.lt
        go_wp2_with fail
        go_at_call 8; refine (refBelow_lit _ r s (M + 1) 16 q 16 rfl HS.out (by omega) (HD.out.below ((Below.refl _ _).alloc (Nat.le_refl _) _) hzz) (by omega) (by omega) (by rw [show M + 1 + 1 = M + 2 by omega, ← num_st2, HQ.out])).mono ?_; rintro e w3 ⟨rfl, hD3, hB3⟩
        have HE := Lib.hid (ent_new HO.out HR.out.le.1 hD3 HB0.out HR.out.lt hB3)
        clear hD3 hB3
        generalize w2.heap.size = z at HE ⊢
        go_wp2_with fail
        go_loopw [7, 11] (fun v i wr => ∃ (j kk cp : Nat) (A : Option Addr), v = .slice A kk cp ∧ i = .int .i64 j ∧ j ≤ (1 + q) ∧ kk = k + j ∧ kk ≤ n ∧ EntOn w wr r z s (M + 2) A kk cp (L ++ List.replicate j (3, 0)) 3 0) (fun _ i _ => (1 + q) - (intOf i).toNat)
        case atStart => exact ⟨0, k, cp, A, rfl, rfl, by omega, by omega, by omega, by rw [List.replicate_zero, List.append_nil]; exact HE.out⟩
        case round =>
          obtain ⟨j, kk, cp1, A1, rfl, rfl, hj, hkk, hkn, hE⟩ := hrel
          have HE1 := Lib.hid hE
          have HKK := Lib.hid hkk
          have hkk300 : kk ≤ 300 := by omega
          obtain ⟨bx0, bx1⟩ := ent_box hE
          clear HE hE
          by_cases hlt2 : j < (1 + q)
          · by_cases hlt3 : kk < n
            · have hkkb : (kk : Int) < (n : Int) := by omega
              clear hkk
              go_wp2_with (refine wpList_append_lies _ rfl (.tmp 50) (.tmp 52) 40 rfl w.heap.size 48 i0 _ 2 16 Try.underlying40 hi hz0 hz1 hz2 rfl (by omega) (.slice A1 kk cp1) kk (flat (L ++ List.replicate j (3, 0))) rfl (HE1.out.own.alloc _) ⟨_, 0, none⟩ 1 1 [.int .i64 (3), .int .i64 (0)] rfl rfl (news2 _ _ _) (flat_one [(3, 0)]) (by omega) (by unfold maxLen; omega) (by omega) (by have := HE1.out.but.size; simp; omega) _ rfl ?_; intro g3 cap3 w5 hO2 hG2 hw2 _; have HE2 := Lib.hid (HE1.out.app hO2 hG2 hw2); clear hO2 hG2 hw2)
              go_roundw
              case rel =>
                refine ⟨j + 1, kk + 1, cap3, _, rfl, by go_num, by omega, by have := HKK.out; omega, by omega, ?_⟩
                rw [List.replicate_succ', ← List.append_assoc]; exact HE2.out
              case measure => simp [intOf]; omega
            · have hkkb : ¬ (kk : Int) < (n : Int) := by omega
              have hjm : j = min (1 + q) (n - k) := by rw [Nat.min_eq_right (by omega)]; omega
              clear bx0 bx1 hkk
              obtain ⟨f', hR2, hkj⟩ := refOn_step (j := j) HR.out hkn0 HRUN.out.1 HRUN.out.2 (by omega) hjm (by have e := HE1.out; rw [HKK.out] at e; exact e)
              have HR2 := Lib.hid hR2
              clear hR2
              go_wp2_with fail
              go_roundw
              case rel => exact ⟨f', k + j, cp1, M + 2, A1, _, by rw [HKK.out], HR2.out⟩
              case measure => have := HKK.out; simp; omega
          · have hjm : j = min (1 + q) (n - k) := by rw [Nat.min_eq_left (by omega)]; omega
            have hjj : ¬ (j : Int) < (1 + q) := by omega
            clear bx0 bx1 hkk
            obtain ⟨f', hR2, hkj⟩ := refOn_step (j := j) HR.out hkn0 HRUN.out.1 HRUN.out.2 (by omega) hjm (by have e := HE1.out; rw [HKK.out] at e; exact e)
            have HR2 := Lib.hid hR2
            clear hR2
            go_wp2_with fail
            go_roundw
            case rel => exact ⟨f', k + j, cp1, M + 2, A1, _, by rw [HKK.out], HR2.out⟩
            case measure => have := HKK.out; simp; omega
      by_cases h2 : rem (num (st s M) 1) 8 = 2
      · go_at_call 8; refine (refBelow_lit _ r s M 8 2 8 rfl HS.out (by omega) HR.out.rd (by omega) (by omega) (by rw [← num_st2, h2]; rfl)).mono ?_; rintro e w2 ⟨rfl, hD, hB⟩
        have HD := Lib.hid hD
        have HB := Lib.hid hB
        have HB0 := Lib.hid (HR.out.but.trans hB)
        have HO := Lib.hid (HR.out.own.kept hB.grownBy (Or.inr (fun e => by have := (HR.out.own.lt r e).1; have := HR.out.lt; omega)))
        clear hD hB
        obtain ⟨q, HQ, hq⟩ : ∃ q : Nat, Hid (rem (num (st s M) 2) T = q) ∧ q < T := ⟨_, Lib.hid rfl, rem_lt _ _ (by omega)⟩
        have HRUN : Hid (runL (st s M) T = List.replicate 1 (4, (q : Int)) ∧ runN (st s M) = 2) := by
          show _ ∧ _
          unfold runL runN; rw [HQ.out]; simp [h2]
        clear h0 h1 h2 h8
        have hzz : r < w2.heap.size := HD.out.lt
        go_wp2_with fail
        go_at_call 8; refine (refBelow_lit _ r s (M + 1) T q T rfl HS.out (by omega) (HD.out.below ((Below.refl _ _).alloc (Nat.le_refl _) _) hzz) (by omega) (by omega) (by rw [show M + 1 + 1 = M + 2 by omega, ← num_st2, HQ.out])).mono ?_; rintro e w3 ⟨rfl, hD3, hB3⟩
        have HE0 := Lib.hid (ent_new HO.out HR.out.le.1 hD3 HB0.out HR.out.lt hB3)
        clear hD3 hB3
        generalize w2.heap.size = z at HE0 ⊢
        obtain ⟨bx0, bx1⟩ := ent_box HE0.out
        have bf1 := ent_free HE0.out 1
        go_wp2_with fail
        have HE := Lib.hid (ent_set HE0.out (q : Int))
        clear bx0 bx1 bf1
        generalize w3.setCell ⟨z, 1, none⟩ (.int .i64 (q : Int)) = W3 at HE ⊢
        go_loopw [7, 11] (fun v i wr => ∃ (j kk cp : Nat) (A : Option Addr), v = .slice A kk cp ∧ i = .int .i64 j ∧ j ≤ 1 ∧ kk = k + j ∧ kk ≤ n ∧ EntOn w wr r z s (M + 2) A kk cp (L ++ List.replicate j (4, (q : Int))) 4 (q : Int)) (fun _ i _ => 1 - (intOf i).toNat)
        case atStart => exact ⟨0, k, cp, A, rfl, rfl, by omega, by omega, by omega, by rw [List.replicate_zero, List.append_nil]; exact HE.out⟩
        case round =>
          obtain ⟨j, kk, cp1, A1, rfl, rfl, hj, hkk, hkn, hE⟩ := hrel
          have HE1 := Lib.hid hE
          have HKK := Lib.hid hkk
          have hkk300 : kk ≤ 300 := by omega
          obtain ⟨bx0, bx1⟩ := ent_box hE
          clear HE hE
          by_cases hlt2 : j < 1
          · by_cases hlt3 : kk < n
            · have hkkb : (kk : Int) < (n : Int) := by omega
              clear hkk
              go_wp2_with (refine wpList_append_lies _ rfl (.tmp 50) (.tmp 52) 40 rfl w.heap.size 48 i0 _ 2 16 Try.underlying40 hi hz0 hz1 hz2 rfl (by omega) (.slice A1 kk cp1) kk (flat (L ++ List.replicate j (4, (q : Int)))) rfl (HE1.out.own.alloc _) ⟨_, 0, none⟩ 1 1 [.int .i64 (4), .int .i64 ((q : Int))] rfl rfl (news2 _ _ _) (flat_one [(4, (q : Int))]) (by omega) (by unfold maxLen; omega) (by omega) (by have := HE1.out.but.size; simp; omega) _ rfl ?_; intro g3 cap3 w5 hO2 hG2 hw2 _; have HE2 := Lib.hid (HE1.out.app hO2 hG2 hw2); clear hO2 hG2 hw2)
              go_roundw
              case rel =>
                refine ⟨j + 1, kk + 1, cap3, _, rfl, by go_num, by omega, by have := HKK.out; omega, by omega, ?_⟩
                rw [List.replicate_succ', ← List.append_assoc]; exact HE2.out
              case measure => simp [intOf]; omega
            · exact absurd (show kk < n by omega) hlt3
          · have hjm : j = min 1 (n - k) := by rw [Nat.min_eq_left (by omega)]; omega
            have hjj : ¬ (j : Int) < 1 := by omega
            clear bx0 bx1 hkk
            obtain ⟨f', hR2, hkj⟩ := refOn_step (j := j) HR.out hkn0 HRUN.out.1 HRUN.out.2 (by omega) hjm (by have e := HE1.out; rw [HKK.out] at e; exact e)
            have HR2 := Lib.hid hR2
            clear hR2
            go_wp2_with fail
            go_roundw
            case rel => exact ⟨f', k + j, cp1, M + 2, A1, _, by rw [HKK.out], HR2.out⟩
            case measure => have := HKK.out; simp; omega
      · have h3 : 3 ≤ rem (num (st s M) 1) 8 := by omega
        obtain ⟨kv, HKV⟩ : ∃ kv : Int, Hid (((rem (num (st s M) 1) 8 : Nat) : Int) = kv) := ⟨_, Lib.hid rfl⟩
        have m0 : (kv == 0) = false := by have := HKV.out; simp; omega
        have m1 : (kv == 1) = false := by have := HKV.out; simp; omega
        have m2 : (kv == 2) = false := by have := HKV.out; simp; omega
        have m3 : 1 < kv := by have := HKV.out; omega
        have m4 : (kv != 2) = true := by have := HKV.out; simp; omega
        go_at_call 8; refine (refBelow_lit _ r s M 8 kv 8 rfl HS.out (by omega) HR.out.rd (by omega) (by omega) (by rw [← num_st2]; exact HKV.out)).mono ?_; rintro e w2 ⟨rfl, hD, hB⟩
        have HD := Lib.hid hD
        have HB := Lib.hid hB
        have HB0 := Lib.hid (HR.out.but.trans hB)
        have HO := Lib.hid (HR.out.own.kept hB.grownBy (Or.inr (fun e => by have := (HR.out.own.lt r e).1; have := HR.out.lt; omega)))
        clear hD hB
        obtain ⟨q, HQ, hq⟩ : ∃ q : Nat, Hid (rem (num (st s M) 2) T = q) ∧ q < T := ⟨_, Lib.hid rfl, rem_lt _ _ (by omega)⟩
        obtain ⟨q3, HQ3, hq3⟩ : ∃ q : Nat, Hid (rem (num (st s M) 3) 16 = q) ∧ q < 16 := ⟨_, Lib.hid rfl, rem_lt _ _ (by omega)⟩
        have HRUN : Hid (runL (st s M) T = List.replicate (1 + q3) (1, (q : Int)) ∧ runN (st s M) = 3) := by
          show _ ∧ _
          unfold runL runN; rw [HQ.out, HQ3.out]; simp [h0, h1, h2]
        clear h0 h1 h2 h3 h8
        have hzz : r < w2.heap.size := HD.out.lt
        go_wp2_with fail
        go_at_call 8; refine (refBelow_lit _ r s (M + 1) T q T rfl HS.out (by omega) (HD.out.below ((Below.refl _ _).alloc (Nat.le_refl _) _) hzz) (by omega) (by omega) (by rw [show M + 1 + 1 = M + 2 by omega, ← num_st2, HQ.out])).mono ?_; rintro e w3 ⟨rfl, hD3, hB3⟩
        have HE0 := Lib.hid (ent_new HO.out HR.out.le.1 hD3 HB0.out HR.out.lt hB3)
        clear hD3 hB3
        generalize w2.heap.size = z at HE0 ⊢
        obtain ⟨bx0, bx1⟩ := ent_box HE0.out
        have bf1 := ent_free HE0.out 1
        have HE1 := Lib.hid (ent_set HE0.out (q : Int))
        go_wp2_with fail
        clear bx0 bx1 bf1
        generalize w3.setCell ⟨z, 1, none⟩ (.int .i64 (q : Int)) = W3 at HE1 ⊢
        go_at_call 8; refine (refBelow_lit _ r s (M + 1 + 1) 16 q3 16 rfl HS.out (by omega) HE1.out.rd (by omega) (by omega) (by rw [show M + 1 + 1 + 1 = M + 3 by omega, ← num_st2, HQ3.out])).mono ?_; rintro e w4 ⟨rfl, hD4, hB4⟩
        have HE := Lib.hid (ent_call HE1.out hD4 hB4)
        clear hD4 hB4
        go_wp2_with fail
        go_loopw [7, 11] (fun v i wr => ∃ (j kk cp : Nat) (A : Option Addr), v = .slice A kk cp ∧ i = .int .i64 j ∧ j ≤ (1 + q3) ∧ kk = k + j ∧ kk ≤ n ∧ EntOn w wr r z s (M + 3) A kk cp (L ++ List.replicate j (1, (q : Int))) 1 (q : Int)) (fun _ i _ => (1 + q3) - (intOf i).toNat)
        case atStart => exact ⟨0, k, cp, A, rfl, rfl, by omega, by omega, by omega, by rw [List.replicate_zero, List.append_nil]; exact HE.out⟩
        case round =>
          obtain ⟨j, kk, cp1, A1, rfl, rfl, hj, hkk, hkn, hE⟩ := hrel
          have HE1 := Lib.hid hE
          have HKK := Lib.hid hkk
          have hkk300 : kk ≤ 300 := by omega
          obtain ⟨bx0, bx1⟩ := ent_box hE
          clear HE hE
          by_cases hlt2 : j < (1 + q3)
          · by_cases hlt3 : kk < n
            · have hkkb : (kk : Int) < (n : Int) := by omega
              clear hkk
              go_wp2_with (refine wpList_append_lies _ rfl (.tmp 50) (.tmp 52) 40 rfl w.heap.size 48 i0 _ 2 16 Try.underlying40 hi hz0 hz1 hz2 rfl (by omega) (.slice A1 kk cp1) kk (flat (L ++ List.replicate j (1, (q : Int)))) rfl (HE1.out.own.alloc _) ⟨_, 0, none⟩ 1 1 [.int .i64 (1), .int .i64 ((q : Int))] rfl rfl (news2 _ _ _) (flat_one [(1, (q : Int))]) (by omega) (by unfold maxLen; omega) (by omega) (by have := HE1.out.but.size; simp; omega) _ rfl ?_; intro g3 cap3 w5 hO2 hG2 hw2 _; have HE2 := Lib.hid (HE1.out.app hO2 hG2 hw2); clear hO2 hG2 hw2)
              go_roundw
              case rel =>
                refine ⟨j + 1, kk + 1, cap3, _, rfl, by go_num, by omega, by have := HKK.out; omega, by omega, ?_⟩
                rw [List.replicate_succ', ← List.append_assoc]; exact HE2.out
              case measure => simp [intOf]; omega
            · have hkkb : ¬ (kk : Int) < (n : Int) := by omega
              have hjm : j = min (1 + q3) (n - k) := by rw [Nat.min_eq_right (by omega)]; omega
              clear bx0 bx1 hkk
              obtain ⟨f', hR2, hkj⟩ := refOn_step (j := j) HR.out hkn0 HRUN.out.1 HRUN.out.2 (by omega) hjm (by have e := HE1.out; rw [HKK.out] at e; exact e)
              have HR2 := Lib.hid hR2
              clear hR2
              go_wp2_with fail
              go_roundw
              case rel => exact ⟨f', k + j, cp1, M + 3, A1, _, by rw [HKK.out], HR2.out⟩
              case measure => have := HKK.out; simp; omega
          · have hjm : j = min (1 + q3) (n - k) := by rw [Nat.min_eq_left (by omega)]; omega
            have hjj : ¬ (j : Int) < (1 + q3) := by omega
            clear bx0 bx1 hkk
            obtain ⟨f', hR2, hkj⟩ := refOn_step (j := j) HR.out hkn0 HRUN.out.1 HRUN.out.2 (by omega) hjm (by have e := HE1.out; rw [HKK.out] at e; exact e)
            have HR2 := Lib.hid hR2
            clear hR2
            go_wp2_with fail
            go_roundw
            case rel => exact ⟨f', k + j, cp1, M + 3, A1, _, by rw [HKK.out], HR2.out⟩
            case measure => have := HKK.out; simp; omega
    · obtain rfl : k = n := by omega
      have e1 := scrGo_end T k f L (st s M) (by have := HR.out.le.1; omega)
      rw [HR.out.go] at e1
      have HE1 := Lib.hid e1
      clear e1
      go_wp2_with fail
      go_ret
      exact ⟨A, cp, M, rfl, by rw [HE1.out]; exact HR.out.own, HR.out.rd, by rw [HE1.out], hub, HR.out.but⟩
end Go.Proofs.Yteibdjbipfimeaa
