/- The walk of the law CodeReads. -/
import Derived.Test.YtmkmpphfieckoaaRef2
import Derived.Test.YtmkmpphfieckoaaRef3
import Derived.Test.YtmkmpphfieckoaaWake
namespace Go.Proofs.Ytmkmpphfieckoaa
open Go Go.RowKit
set_option linter.unusedVariables false
set_option linter.unusedSimpArgs false

theorem neq_instr (w : World) (a b : Int) : (binOp .neq 54 (.agg #[.int .i64 a, .int .i64 b]) (.agg #[.int .i64 a, .int .i64 b])).run Try.prog w = .ok (.bool false) w := by
  have h := eq_instr w a b a b
  rw [run_eql_struct] at h
  rw [run_neq_struct]
  generalize ((Op.equalIn 10000 54 (.agg #[.int .i64 a, .int .i64 b]) (.agg #[.int .i64 a, .int .i64 b])).run Try.prog w) = r at *
  cases r with
  | ok x w' =>
    simp [Result.andThen] at h ⊢
    obtain ⟨h1, h2⟩ := h
    exact ⟨by rw [h1], h2⟩
  | halt x w' => simp [Result.andThen] at h

theorem codeReads_many (A : Option Addr) (n cap : Nat) (x0 x1 : Int) (w : World) (hn : 300 < n) (hn2 : n ≤ 9223372036854775807) : Calls Try.prog 6 #[.slice A n cap, .agg #[.int .i64 x0, .int .i64 x1]] w fun e w' => e = .returned (.bool true) ∧ Below w.heap.size w w' := by
  have hb : Below w.heap.size w (w.alloc (.cells #[.int .i64 x0, .int .i64 x1] 40)) := (Below.refl _ _).alloc (Nat.le_refl _) _
  go_enter Try.func6, Try.ntmps6
  go_wp2_with fail
  go_at_call 34; refine (awakeC_any _).mono ?_; rintro e w1 ⟨rfl, h1⟩
  have hb1 := hb.trans (h1.mono hb.size)
  go_wp2_with fail
  go_ret
  exact ⟨rfl, hb1⟩

set_option maxHeartbeats 8000000 in
set_option maxRecDepth 100000 in
theorem codeReads_few (A : Option Addr) (n cap : Nat) (f : Nat → Int) (x0 x1 : Int) (w : World) (hn : n ≤ 300) (hc : n ≤ cap) (hm : cap ≤ 9223372036854775807) (hs : SeesU w w.heap.size A n f) (hf : ∀ i, i < n → 0 ≤ f i ∧ f i ≤ 18446744073709551615) : Calls Try.prog 6 #[.slice A n cap, .agg #[.int .i64 x0, .int .i64 x1]] w fun e w' => e = .returned (.bool true) ∧ Below w.heap.size w w' := by
  have heq := eq_instr
  have hneq := neq_instr
  have hb : Below w.heap.size w (w.alloc (.cells #[.int .i64 x0, .int .i64 x1] 40)) := (Below.refl _ _).alloc (Nat.le_refl _) _
  have hh := heap_alloc_new w (.cells #[.int .i64 x0, .int .i64 x1] 40)
  have HX : Hid (∀ X, Below (w.alloc (.cells #[.int .i64 x0, .int .i64 x1] 40)).heap.size (w.alloc (.cells #[.int .i64 x0, .int .i64 x1] 40)) X → X.cell? ⟨w.heap.size, 0, none⟩ = some (.int .i64 x0) ∧ X.cell? ⟨w.heap.size, 1, none⟩ = some (.int .i64 x1)) := fun X hX => by
    have hh' := (hX.block w.heap.size (by simp)).trans hh
    exact ⟨by simp [World.cell?, hh'], by simp [World.cell?, hh']⟩
  have HS : Hid (∀ X, Below (w.alloc (.cells #[.int .i64 x0, .int .i64 x1] 40)).heap.size (w.alloc (.cells #[.int .i64 x0, .int .i64 x1] 40)) X → SeesU X X.heap.size A n f) := fun X hX => by
    have h1 := hb.trans (hX.mono hb.size)
    exact (hs.below h1 (Nat.le_refl _)).more h1.size
  have HF : Hid (∀ i, i < n → 0 ≤ f i ∧ f i ≤ 18446744073709551615) := hf
  have HSG : Hid (∀ x, x ∈ segs f n → x.1 + x.2 ≤ n ∧ ∀ j, j < x.2 → pt (f (x.1 + j)) = false) := segs_mem f n
  obtain ⟨hK1, hK2⟩ := segs_len f n
  clear hh hs hf
  go_enter Try.func6, Try.ntmps6
  go_wp2_with fail
  generalize hW : w.alloc (.cells #[.int .i64 x0, .int .i64 x1] 40) = W0 at hb HX HS ⊢
  clear hW
  have hR := read_few A n cap f W0 (by omega) hc hm (HS.out _ (Below.refl _ _)) HF.out
  have hR2 := fun (X : World) (hX : Below W0.heap.size W0 X) => refRead_any A n cap f X (by omega) (HS.out _ hX) HF.out
  generalize segs f n = L at *
  have HR2 : Hid (∀ X, Below W0.heap.size W0 X → Calls Try.prog 36 #[.slice A n cap] X fun e w' => ∃ v xs, e = .returned v ∧ Own X w' 57 1 v L.length xs ∧ PiecesI w' f (L.length : Nat) L xs) := hR2
  clear hR2
  go_at_call 35; refine hR.mono ?_; clear hR; rintro e w1 ⟨c, g5, rfl, hC1, h1⟩
  have HC1 : Hid (∀ X, Below w1.heap.size w1 X → IsCode X c g5 f L) := fun X hX => hC1.below hX
  clear hC1
  go_wp2_with fail
  go_at_call 36; refine (HR2.out _ h1).mono ?_; clear HR2; rintro e W4 ⟨v, xs, rfl, hO, hP⟩
  obtain ⟨g6, c6r, rfl, hOut⟩ := outs_row hO hP hK1
  have HC : Hid (∀ X, Below W4.heap.size W4 X → IsCode X c g5 f L) := fun X hX => HC1.out _ (hO.below.trans (hX.mono hO.below.size))
  have HO : Hid (∀ X, Below W4.heap.size W4 X → Outs X g6 f (L.length : Nat) L) := fun X hX => hOut.below hX
  have h4 := h1.trans (hO.below.mono h1.size)
  have HX4 : Hid (∀ X, Below W4.heap.size W4 X → X.cell? ⟨w.heap.size, 0, none⟩ = some (.int .i64 x0) ∧ X.cell? ⟨w.heap.size, 1, none⟩ = some (.int .i64 x1)) := fun X hX => HX.out _ (h4.trans (hX.mono h4.size))
  clear hO hP hOut HC1 HX HS h1
  have hbW := hb.trans (h4.mono hb.size)
  clear h4 hb
  have hd0 : Below W4.heap.size W4 W4.drew := (Below.refl _ _).drew
  have hH : Hid (W4.drew.cell? ⟨w.heap.size, 0, none⟩ = some (.int .i64 x0) ∧ W4.drew.cell? ⟨w.heap.size, 1, none⟩ = some (.int .i64 x1) ∧ Below W4.heap.size W4 W4.drew) := ⟨(HX4.out _ hd0).1, (HX4.out _ hd0).2, hd0⟩
  have KEEP : Hid (∀ Y w' : World, (Y.cell? ⟨w.heap.size, 0, none⟩ = some (.int .i64 x0) ∧ Y.cell? ⟨w.heap.size, 1, none⟩ = some (.int .i64 x1) ∧ Below W4.heap.size W4 Y) → Below Y.heap.size Y w' → (w'.cell? ⟨w.heap.size, 0, none⟩ = some (.int .i64 x0) ∧ w'.cell? ⟨w.heap.size, 1, none⟩ = some (.int .i64 x1) ∧ Below W4.heap.size W4 w')) := by
    show ∀ _ _, _
    rintro Y w' ⟨e1, e2, hb⟩ hB
    have h' := hb.trans (hB.mono hb.size)
    exact ⟨(HX4.out _ h').1, (HX4.out _ h').2, h'⟩
  have HAt : Hid (∀ X, Below W4.heap.size W4 X → Calls Try.prog 38 #[.pointer (some ⟨c, 0, none⟩), .int .i64 x0, .int .i64 x1] X fun e w' => e = .returned (.agg #[.int .i64 (lookK f L x0 x1), .int .i64 (lookA f L (L.length : Nat) x0 x1)]) ∧ Below X.heap.size X w') := fun X hX => at_any c g5 f L x0 x1 X (HC.out _ hX)
  have HRt : Hid (∀ X, Below W4.heap.size W4 X → Calls Try.prog 39 #[.slice (some ⟨g6, 0, none⟩) L.length c6r, .int .i64 x0, .int .i64 x1] X fun e w' => e = .returned (.agg #[.int .i64 (lookK f L x0 x1), .int .i64 (lookA f L (L.length : Nat) x0 x1)]) ∧ Below X.heap.size X w') := fun X hX => refAt_any g6 c6r f (L.length : Nat) L x0 x1 X (HO.out _ hX)
  generalize lookK f L x0 x1 = lk at HAt HRt
  generalize lookA f L (L.length : Nat) x0 x1 = la at HAt HRt
  go_wp2_with fail
  go_region_held3 (fun w' => w'.cell? ⟨w.heap.size, 0, none⟩ = some (.int .i64 x0) ∧ w'.cell? ⟨w.heap.size, 1, none⟩ = some (.int .i64 x1) ∧ Below W4.heap.size W4 w') (first | exact hH | assumption | exact KEEP.out _ _ ‹_› ‹_›) (first | (go_at_call 37; refine (clen_some c g5 f L _ (HC.out _ (by simp only [*]))).mono ?_; rintro e z1 ⟨rfl, rfl⟩) | (go_at_call 38; refine (HAt.out _ (by simp only [*])).mono ?_; rintro e z2 ⟨rfl, hz2⟩) | (go_at_call 39; refine (HRt.out _ (by simp only [*])).mono ?_; rintro e z3 ⟨rfl, hz3⟩))
  rename_i hS
  have h5 := hS.2.2
  clear hS hz2 hz3 hH KEEP HAt HRt hd0
  generalize z3 = W5 at h5 ⊢
  clear z2
  go_wp2_with fail
  go_loopw [7] (fun y wr => ∃ p : Nat, p ≤ L.length ∧ y = .int .i64 p ∧ Hid (Below W4.heap.size W4 wr)) (fun y _ => L.length - (intOf y).toNat)
  case atStart => exact ⟨0, Nat.zero_le _, rfl, h5⟩
  case round =>
    obtain ⟨p, hp, rfl, hB⟩ := hrel
    by_cases hlt : p < L.length
    · have hx : L[p]? = some (L[p]'hlt) := List.getElem?_eq_getElem hlt
      have hmem : L[p]'hlt ∈ L := List.getElem_mem _
      generalize L[p]'hlt = x at hx hmem
      obtain ⟨s, l⟩ := x
      obtain ⟨hle, hno⟩ := HSG.out _ hmem
      simp only at hle
      clear hno hmem
      go_wp2_with fail
      go_at_call 40; refine (all_ok c g5 f L p (s, l) _ (by show l ≤ _; omega) (HC.out _ hB.out) hx).mono ?_; rintro e wr1 ⟨A2, c2, rfl, hS2, k1⟩
      have hB1 := hB.out.trans (k1.mono hB.out.size)
      obtain ⟨A6, c6, q6, hS6⟩ := (HO.out _ hB1).at' p (s, l) hx
      simp only at q6 hS2 hS6
      have HLg : Hid (∀ k, Calls Try.prog 41 #[.pointer (some ⟨c, 0, none⟩), .int .i64 p] (wr1.drewN k) fun e w' => e = .returned (.int .i64 (l : Nat)) ∧ w' = wr1.drewN k) := fun k => by
        refine (long_ok c g5 f L p (s, l) _ (HC.out _ (below_drewN2 hB1 k)) hx).mono ?_
        rintro e w' ⟨rfl, rfl⟩
        exact ⟨rfl, rfl⟩
      have HS2 : Hid (SeesI wr1 0 wr1.heap.size A2 l (fun j => f (s + j)) (L.length : Nat)) := hS2
      clear hS2 k1 hB
      go_wp2_with fail
      go_quiet ((go_at_call 41; exact Calls.quiet_of_same (HLg.out _)))
      have hB2 : Below W4.heap.size W4 (wr1.drewN nq) := below_drewN2 hB1 nq
      have HS2' : Hid (SeesI (wr1.drewN nq) 0 (wr1.drewN nq).heap.size A2 l (fun j => f (s + j)) (L.length : Nat)) := SeesI.below HS2.out (below_drewN2 (Below.refl _ _) nq) (Nat.le_refl _)
      clear HS2 hS6 HLg q6
      go_wp2_with fail
      generalize hWq : wr1.drewN nq = Wq at hB2 HS2' ⊢
      clear hWq hB1
      go_loopw [9] (fun y wr => ∃ i : Nat, i ≤ l ∧ y = .int .i64 i ∧ Hid (Below Wq.heap.size Wq wr)) (fun y _ => l - (intOf y).toNat)
      case atStart => exact ⟨0, Nat.zero_le _, rfl, Below.refl _ _⟩
      case round =>
        obtain ⟨i, hil, rfl, hBq⟩ := hrel
        have hBw : Below W4.heap.size W4 wr := hB2.trans (hBq.out.mono hB2.size)
        obtain ⟨A6, c6, q6, hS6⟩ := (HO.out _ hBw).at' p (s, l) hx
        have hg6 := (HO.out _ hBw).lt
        simp only at q6 hS6
        by_cases hil2 : i < l
        · obtain ⟨b2, off2, rfl, _, hb2, hc2⟩ := (SeesI.below HS2'.out hBq.out (Nat.le_refl _)) (by omega)
          obtain ⟨b6, off6, rfl, _, hb6, hc6⟩ := hS6 (by omega)
          obtain ⟨r1, r2⟩ := hc2 i hil2
          obtain ⟨r3, r4⟩ := hc6 i hil2
          have hb2' : b2 < wr.heap.size := Nat.lt_of_lt_of_le hb2 hBq.out.size
          have HAt2 : Hid (∀ X, Below wr.heap.size wr X → Calls Try.prog 38 #[.pointer (some ⟨c, 0, none⟩), .int .i64 p, .int .i64 i] X fun e w' => e = .returned (.agg #[.int .i64 (kd (f (s + i))), .int .i64 (ag (f (s + i)) (L.length : Nat))]) ∧ Below X.heap.size X w') := fun X hX => at_ok c g5 f L p i (s, l) X (HC.out _ (hBw.trans (hX.mono hBw.size))) hx hil2
          clear hc2 hc6 hS6
          have hd1 : Below wr.heap.size wr wr.drew := (Below.refl _ _).drew
          have hH : Hid (wr.drew.cell? ⟨b2, off2 + i * 2, none⟩ = some (.int .i64 (kd (f (s + i)))) ∧ wr.drew.cell? ⟨b2, off2 + i * 2 + 1, none⟩ = some (.int .i64 (ag (f (s + i)) (L.length : Nat))) ∧ wr.drew.cell? ⟨g6, p, none⟩ = some (Value.slice (some ⟨b6, off6, none⟩) l c6) ∧ wr.drew.cell? ⟨b6, off6 + i * 2, none⟩ = some (.int .i64 (kd (f (s + i)))) ∧ wr.drew.cell? ⟨b6, off6 + i * 2 + 1, none⟩ = some (.int .i64 (ag (f (s + i)) (L.length : Nat))) ∧ Below wr.heap.size wr wr.drew) := ⟨r1, r2, q6, r3, r4, hd1⟩
          have KEEP : Hid (∀ Y w' : World, (Y.cell? ⟨b2, off2 + i * 2, none⟩ = some (.int .i64 (kd (f (s + i)))) ∧ Y.cell? ⟨b2, off2 + i * 2 + 1, none⟩ = some (.int .i64 (ag (f (s + i)) (L.length : Nat))) ∧ Y.cell? ⟨g6, p, none⟩ = some (Value.slice (some ⟨b6, off6, none⟩) l c6) ∧ Y.cell? ⟨b6, off6 + i * 2, none⟩ = some (.int .i64 (kd (f (s + i)))) ∧ Y.cell? ⟨b6, off6 + i * 2 + 1, none⟩ = some (.int .i64 (ag (f (s + i)) (L.length : Nat))) ∧ Below wr.heap.size wr Y) → Below Y.heap.size Y w' → (w'.cell? ⟨b2, off2 + i * 2, none⟩ = some (.int .i64 (kd (f (s + i)))) ∧ w'.cell? ⟨b2, off2 + i * 2 + 1, none⟩ = some (.int .i64 (ag (f (s + i)) (L.length : Nat))) ∧ w'.cell? ⟨g6, p, none⟩ = some (Value.slice (some ⟨b6, off6, none⟩) l c6) ∧ w'.cell? ⟨b6, off6 + i * 2, none⟩ = some (.int .i64 (kd (f (s + i)))) ∧ w'.cell? ⟨b6, off6 + i * 2 + 1, none⟩ = some (.int .i64 (ag (f (s + i)) (L.length : Nat))) ∧ Below wr.heap.size wr w')) := by
            show ∀ _ _, _
            rintro Y w' ⟨e1, e2, e3, e4, e5, hb⟩ hB
            have hs := hb.size
            exact ⟨(hB.cell (p := ⟨b2, _, none⟩) (by show b2 < _; omega)).trans e1, (hB.cell (p := ⟨b2, _, none⟩) (by show b2 < _; omega)).trans e2, (hB.cell (p := ⟨g6, p, none⟩) (by show g6 < _; omega)).trans e3, (hB.cell (p := ⟨b6, _, none⟩) (by show b6 < _; omega)).trans e4, (hB.cell (p := ⟨b6, _, none⟩) (by show b6 < _; omega)).trans e5, hb.trans (hB.mono hs)⟩
          generalize kd (f (s + i)) = k' at *
          generalize ag (f (s + i)) (L.length : Nat) = a' at *
          go_wp2_with fail
          go_region_held3 (fun w' => w'.cell? ⟨b2, off2 + i * 2, none⟩ = some (.int .i64 k') ∧ w'.cell? ⟨b2, off2 + i * 2 + 1, none⟩ = some (.int .i64 a') ∧ w'.cell? ⟨g6, p, none⟩ = some (Value.slice (some ⟨b6, off6, none⟩) l c6) ∧ w'.cell? ⟨b6, off6 + i * 2, none⟩ = some (.int .i64 k') ∧ w'.cell? ⟨b6, off6 + i * 2 + 1, none⟩ = some (.int .i64 a') ∧ Below wr.heap.size wr w') (first | exact hH | assumption | exact KEEP.out _ _ ‹_› ‹_›) (first | (go_at_call 38; refine (HAt2.out _ (by simp only [*])).mono ?_; rintro e y1 ⟨rfl, hy1⟩))
          rename_i hS
          have h6 := hBq.out.trans (hS.2.2.2.2.2.mono hBq.out.size)
          clear hS hH KEEP hy1 HAt2
          go_wp2_with fail
          go_roundw
          case rel => exact ⟨i + 1, by omega, by go_num, h6⟩
          case measure => simp [intOf]; omega
        · obtain rfl : l = i := by omega
          go_wp2_with fail
          go_roundw
          case rel => exact ⟨p + 1, by omega, by go_num, hBw⟩
          case measure => simp [intOf]; omega
    · obtain rfl : L.length = p := by omega
      have hB0 := hB.out
      go_wp2_with fail
      go_at_call 34; refine (awakeC_any _).mono ?_; rintro e z1 ⟨rfl, k1⟩
      have k1 := hB0.trans (k1.mono hB0.size)
      go_wp2_with fail
      go_at_call 41; refine (long_no c g5 f L _ _ (HC.out _ k1) (by right; exact Int.le_refl _)).mono ?_; rintro e z2 ⟨rfl, rfl⟩
      go_wp2_with fail
      go_at_call 40; refine (all_no c g5 f L (-1) _ (HC.out _ k1) (by omega)).mono ?_; rintro e z3 ⟨rfl, rfl⟩
      go_wp2_with fail
      go_at_call 37; refine (clen_nil _).mono ?_; rintro e z4 ⟨rfl, rfl⟩
      obtain ⟨t0, t1⟩ := HX4.out _ k1
      go_wp2_with fail
      go_at_call 41; refine (long_nil x0 _).mono ?_; rintro e z5 ⟨rfl, rfl⟩
      go_wp2_with fail
      go_at_call 38; refine (at_nil x0 x1 _).mono ?_; rintro e z6 ⟨rfl, k6⟩
      have k6 := k1.trans (k6.mono k1.size)
      go_wp2_with fail
      go_ret
      exact ⟨ret_bool (by simp), hbW.trans (k6.mono hbW.size)⟩
theorem codeReads_walk (A : Option Addr) (n cap : Nat) (f : Nat → Int) (x0 x1 : Int) (w : World) (hn : n ≤ 9223372036854775807) (hc : n ≤ cap) (hm : cap ≤ 9223372036854775807) (hs : SeesU w w.heap.size A n f) (hf : ∀ i, i < n → 0 ≤ f i ∧ f i ≤ 18446744073709551615) : Calls Try.prog 6 #[.slice A n cap, .agg #[.int .i64 x0, .int .i64 x1]] w fun e w' => e = .returned (.bool true) ∧ Below w.heap.size w w' := by
  by_cases h : n ≤ 300
  · exact codeReads_few A n cap f x0 x1 w h hc hm hs hf
  · exact codeReads_many A n cap x0 x1 w (by omega) hn
end Go.Proofs.Ytmkmpphfieckoaa
