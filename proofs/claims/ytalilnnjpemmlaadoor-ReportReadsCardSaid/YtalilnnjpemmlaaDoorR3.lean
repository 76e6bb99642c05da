/- report.Line: the line of an event that may be told. -/
import Derived.Test.YtalilnnjpemmlaaDoorP1
namespace Go.Proofs.YtalilnnjpemmlaaDoor
open Go Go.RowKit
set_option linter.unusedVariables false
set_option linter.unusedSimpArgs false

theorem kw_len (i : Nat) : (kw i).length ≤ 7 := by
  unfold kw
  split <;> simp
/-- one more piece -/
theorem add_run (a b : List UInt8) (h : a.length + b.length ≤ 1000000000) (x : World) : (Op.stringOp .add (bA a) (bA b)).run Tryd.prog x = .ok (.string (bA (a ++ b))) x := by
  rw [run_string_add_sum x _ _ (by rw [bA_size, bA_size]; omega), bA_append]
theorem cell_new (w : World) (cs : Array Value) (t : TypeId) (i : Nat) : (w.alloc (.cells cs t)).cell? ⟨w.heap.size, i, none⟩ = cs[i]? := by
  unfold World.cell?
  show (match (w.alloc (.cells cs t)).heap[w.heap.size]? with | some (.cells cs _ _) => cs[i]? | _ => none) = _
  rw [heap_alloc_new]

theorem line_bad (e : Ev) (hn : ¬ e.ok) (w : World) : Calls Tryd.prog 12 #[e.v] w fun r w' => r = .returned (.tuple #[.string ⟨#[]⟩, .bool false]) ∧ Below w.heap.size w w' := by
  have HR : Hid (∀ w, Calls Tryd.prog 14 #[e.v] w fun r w' => r = .returned (.bool false) ∧ Below w.heap.size w w') := by
    show ∀ w, _
    have h := right_any e
    rw [decide_eq_false hn] at h
    exact h
  clear hn
  obtain ⟨k, g, o, t, p⟩ := e
  change Hid (∀ w, Calls Tryd.prog 14 #[.agg #[.int .i64 k, .int .i64 g, .int .i64 o, .int .i64 t, .int .i64 p]] w fun r w' => r = .returned (.bool false) ∧ Below w.heap.size w w') at HR
  show Calls Tryd.prog 12 #[.agg #[.int .i64 k, .int .i64 g, .int .i64 o, .int .i64 t, .int .i64 p]] w _
  go_enter Tryd.func12, Tryd.ntmps12
  go_wp2_with fail
  go_at_call 14
  refine (HR.out _).mono ?_
  rintro e w1 ⟨rfl, hb1⟩
  go_wp2
  go_ret2
  exact ⟨rfl, ((Below.refl _ w).alloc (Nat.le_refl _) _).trans (hb1.mono (by simp))⟩
/-- the event's cells, and the word's -/
def LnAt (b k : Nat) (K : ByteArray) (g o t p : Int) (X : World) (x : World) : Prop := Tab x ∧ x.cell? ⟨0, k, none⟩ = some (.string K) ∧ x.cell? ⟨b, 0, none⟩ = some (.int .i64 (k : Int)) ∧ x.cell? ⟨b, 1, none⟩ = some (.int .i64 g) ∧ x.cell? ⟨b, 2, none⟩ = some (.int .i64 o) ∧ x.cell? ⟨b, 3, none⟩ = some (.int .i64 t) ∧ x.cell? ⟨b, 4, none⟩ = some (.int .i64 p) ∧ Below X.heap.size X x
theorem LnAt.next {b k : Nat} {K : ByteArray} {g o t p : Int} {X x y : World} (h : LnAt b k K g o t p X x) (hX : 4 < X.heap.size) (hb : Below x.heap.size x y) : LnAt b k K g o t p X y := by
  obtain ⟨h0, h1, h2, h3, h4, h5, h6, h7⟩ := h
  have hz := h7.size
  have hlt : b < x.heap.size := Nat.lt_of_not_le fun hn => by simp [World.cell?, Array.getElem?_eq_none hn] at h2
  exact ⟨h0.below hb (by omega), (hb.cell (show 0 < _ by omega)).trans h1, (hb.cell hlt).trans h2, (hb.cell hlt).trans h3, (hb.cell hlt).trans h4, (hb.cell hlt).trans h5, (hb.cell hlt).trans h6, h7.trans (hb.mono hz)⟩

set_option maxHeartbeats 1000000 in
theorem line_00 (k g o t p : Nat) (hk : 1 ≤ k ∧ k ≤ 11) (hg : g ≤ 65535) (ho : o ≤ 65535) (ht : t ≤ 255) (hp : p ≤ 63) (w : World) (hT : Tab w) : Calls Tryd.prog 12 #[.agg #[.int .i64 (k : Int), .int .i64 (g : Int), .int .i64 (o : Int), .int .i64 (t : Int), .int .i64 (p : Int)]] w fun r w' => r = .returned (.tuple #[.string (bA (((((kw k ++ pt 103 g) ++ pt 103 o) ++ pt 116 t) ++ pt 112 p) ++ [10])), .bool true]) ∧ Below w.heap.size w w' := by
  have HR : Hid (∀ w, Calls Tryd.prog 14 #[.agg #[.int .i64 (k : Int), .int .i64 (g : Int), .int .i64 (o : Int), .int .i64 (t : Int), .int .i64 (p : Int)]] w fun r w' => r = .returned (.bool true) ∧ Below w.heap.size w w') := by
    show ∀ w, _
    have h := right_any ⟨(k : Int), (g : Int), (o : Int), (t : Int), (p : Int)⟩
    rw [decide_eq_true (by simp only [Ev.ok]; omega)] at h
    exact h
  have HG : Hid (∀ x, Tab x → Calls Tryd.prog 19 #[.string ⟨#[103]⟩, .int .i64 (g : Int)] x fun e w' => e = .returned (.string (bA (pt 103 g))) ∧ Below x.heap.size x w') := fun x hx => part_any 103 g hg x hx
  have HO : Hid (∀ x, Tab x → Calls Tryd.prog 19 #[.string ⟨#[103]⟩, .int .i64 (o : Int)] x fun e w' => e = .returned (.string (bA (pt 103 o))) ∧ Below x.heap.size x w') := fun x hx => part_any 103 o ho x hx
  have HTt : Hid (∀ x, Tab x → Calls Tryd.prog 19 #[.string ⟨#[116]⟩, .int .i64 (t : Int)] x fun e w' => e = .returned (.string (bA (pt 116 t))) ∧ Below x.heap.size x w') := fun x hx => part_any 116 t (by omega) x hx
  have HP : Hid (∀ x, Tab x → Calls Tryd.prog 19 #[.string ⟨#[112]⟩, .int .i64 (p : Int)] x fun e w' => e = .returned (.string (bA (pt 112 p))) ∧ Below x.heap.size x w') := fun x hx => part_any 112 p (by omega) x hx
  have hkl := kw_len k
  have hlg := pt_len 103 g hg
  have hlt := pt_len 116 t (by omega)
  have hlo := pt_len 103 o ho
  have hlp := pt_len 112 p (by omega)
  have f0 : ∀ x : World, (Op.stringOp .add (bA (kw k)) (bA (pt 103 g))).run Tryd.prog x = .ok (.string (bA (kw k ++ pt 103 g))) x := add_run _ _ (by omega)
  have f1 : ∀ x : World, (Op.stringOp .add (bA (kw k ++ pt 103 g)) (bA (pt 103 o))).run Tryd.prog x = .ok (.string (bA ((kw k ++ pt 103 g) ++ pt 103 o))) x := add_run _ _ (by simp only [List.length_append, List.length_cons, List.length_nil]; omega)
  have f2 : ∀ x : World, (Op.stringOp .add (bA ((kw k ++ pt 103 g) ++ pt 103 o)) (bA (pt 116 t))).run Tryd.prog x = .ok (.string (bA (((kw k ++ pt 103 g) ++ pt 103 o) ++ pt 116 t))) x := add_run _ _ (by simp only [List.length_append, List.length_cons, List.length_nil]; omega)
  have f3 : ∀ x : World, (Op.stringOp .add (bA (((kw k ++ pt 103 g) ++ pt 103 o) ++ pt 116 t)) (bA (pt 112 p))).run Tryd.prog x = .ok (.string (bA ((((kw k ++ pt 103 g) ++ pt 103 o) ++ pt 116 t) ++ pt 112 p))) x := add_run _ _ (by simp only [List.length_append, List.length_cons, List.length_nil]; omega)
  have f4 : ∀ x : World, (Op.stringOp .add (bA ((((kw k ++ pt 103 g) ++ pt 103 o) ++ pt 116 t) ++ pt 112 p)) (bA ([10]))).run Tryd.prog x = .ok (.string (bA (((((kw k ++ pt 103 g) ++ pt 103 o) ++ pt 116 t) ++ pt 112 p) ++ [10]))) x := add_run _ _ (by simp only [List.length_append, List.length_cons, List.length_nil]; omega)
  have go : ((o : Int) != (-1 : Int)) = true := by rw [bne_iff_ne]; omega
  have gp : ((p : Int) != (-1 : Int)) = true := by rw [bne_iff_ne]; omega
  have kwk := hT.word k (by omega)
  have hsz := hT.size
  have HT : Hid (Tab w) := hT
  rw [str_eq] at kwk
  change ∀ x : World, (Op.stringOp .add (bA ((((kw k ++ pt 103 g) ++ pt 103 o) ++ pt 116 t) ++ pt 112 p)) ⟨#[10]⟩).run Tryd.prog x = _ at f4
  generalize bA (((((kw k ++ pt 103 g) ++ pt 103 o) ++ pt 116 t) ++ pt 112 p) ++ [10]) = S4 at *
  generalize bA ((((kw k ++ pt 103 g) ++ pt 103 o) ++ pt 116 t) ++ pt 112 p) = S3 at *
  generalize bA (((kw k ++ pt 103 g) ++ pt 103 o) ++ pt 116 t) = S2 at *
  generalize bA ((kw k ++ pt 103 g) ++ pt 103 o) = S1 at *
  generalize bA (kw k ++ pt 103 g) = S0 at *
  generalize bA (kw k) = K at *
  generalize bA (pt 103 g) = PG at *
  generalize bA (pt 116 t) = PT at *
  generalize bA (pt 103 o) = PO at *
  generalize bA (pt 112 p) = PP at *
  clear hkl hlg hlt hT hlo hlp
  have c := cell_new w #[.int .i64 (k : Int), .int .i64 (g : Int), .int .i64 (o : Int), .int .i64 (t : Int), .int .i64 (p : Int)] 25
  have B0 : Below w.heap.size w (w.alloc (.cells #[.int .i64 (k : Int), .int .i64 (g : Int), .int .i64 (o : Int), .int .i64 (t : Int), .int .i64 (p : Int)] 25)) := (Below.refl _ w).alloc (Nat.le_refl _) _
  have hs0 : (w.alloc (.cells #[.int .i64 (k : Int), .int .i64 (g : Int), .int .i64 (o : Int), .int .i64 (t : Int), .int .i64 (p : Int)] 25)).heap.size = w.heap.size + 1 := by simp
  go_enter Tryd.func12, Tryd.ntmps12
  go_wp2_with fail
  go_at_call 14
  generalize w.alloc (.cells #[.int .i64 (k : Int), .int .i64 (g : Int), .int .i64 (o : Int), .int .i64 (t : Int), .int .i64 (p : Int)] 25) = W at *
  refine (HR.out _).mono ?_
  rintro e w1 ⟨rfl, hb1⟩
  have HB : Hid (Below w.heap.size w w1) := B0.trans (hb1.mono (by omega))
  have hw1 : 4 < w1.heap.size := by have := HB.out.size; omega
  have hk0 : (0 : Int) ≤ (k : Int) := by omega
  have hk12 : (k : Int) < 12 := by omega
  have hk11 : (k : Int) ≤ 11 := by omega
  have hH : LnAt w.heap.size k K (g : Int) (o : Int) (t : Int) (p : Int) w1 w1.drew := by
    have hl : w.heap.size < W.heap.size := by omega
    exact ⟨HT.out.below HB.out.drew hsz, (HB.out.cell (show 0 < _ by omega)).trans kwk, (hb1.cell hl).trans (c 0), (hb1.cell hl).trans (c 1), (hb1.cell hl).trans (c 2), (hb1.cell hl).trans (c 3), (hb1.cell hl).trans (c 4), (Below.refl _ _).drew⟩
  have KEEP : Hid (∀ x y, LnAt w.heap.size k K (g : Int) (o : Int) (t : Int) (p : Int) w1 x → Below x.heap.size x y → LnAt w.heap.size k K (g : Int) (o : Int) (t : Int) (p : Int) w1 y) := fun x y h hb => h.next hw1 hb
  clear c B0 hs0 hb1 kwk HT
  clear W
  go_wp2_with fail
  go_region_held3 (fun x => Tab x ∧ x.cell? ⟨0, k, none⟩ = some (.string K) ∧ x.cell? ⟨w.heap.size, 0, none⟩ = some (.int .i64 (k : Int)) ∧ x.cell? ⟨w.heap.size, 1, none⟩ = some (.int .i64 (g : Int)) ∧ x.cell? ⟨w.heap.size, 2, none⟩ = some (.int .i64 (o : Int)) ∧ x.cell? ⟨w.heap.size, 3, none⟩ = some (.int .i64 (t : Int)) ∧ x.cell? ⟨w.heap.size, 4, none⟩ = some (.int .i64 (p : Int)) ∧ Below w1.heap.size w1 x) (first | exact hH | assumption | exact KEEP.out _ _ ‹_› ‹_›) (first | (go_at_call 19; refine (HG.out _ (by simp only [*])).mono ?_; rintro e w2 ⟨rfl, hb2⟩))
  rename_i hSS
  have L2 : Hid (LnAt w.heap.size k K (g : Int) (o : Int) (t : Int) (p : Int) w1 w2) := hSS
  clear hSS hH hb2 HG
  obtain ⟨T2, -, q0, q1, q2, q3, q4, -⟩ := L2.out
  go_wp2_with fail
  go_at_call 19
  refine (HO.out _ T2).mono ?_
  clear T2 q0 q1 q2 q3 q4 HO
  rintro e w3 ⟨rfl, hb⟩
  have L3 : Hid (LnAt w.heap.size k K (g : Int) (o : Int) (t : Int) (p : Int) w1 w3) := KEEP.out _ _ L2.out hb
  clear hb L2
  obtain ⟨T3, -, q0, q1, q2, q3, q4, -⟩ := L3.out
  go_wp2_with fail
  go_at_call 19
  refine (HTt.out _ T3).mono ?_
  clear T3 q0 q1 q2 q3 q4 HTt
  rintro e w4 ⟨rfl, hb⟩
  have L4 : Hid (LnAt w.heap.size k K (g : Int) (o : Int) (t : Int) (p : Int) w1 w4) := KEEP.out _ _ L3.out hb
  clear hb L3
  obtain ⟨T4, -, q0, q1, q2, q3, q4, -⟩ := L4.out
  go_wp2_with fail
  go_at_call 19
  refine (HP.out _ T4).mono ?_
  clear T4 q0 q1 q2 q3 q4 HP
  rintro e w5 ⟨rfl, hb⟩
  have L5 : Hid (LnAt w.heap.size k K (g : Int) (o : Int) (t : Int) (p : Int) w1 w5) := KEEP.out _ _ L4.out hb
  clear hb L4
  obtain ⟨-, -, q0, q1, q2, q3, q4, hbz⟩ := L5.out
  go_wp2_with fail
  go_ret2
  exact ⟨rfl, HB.out.trans (hbz.mono HB.out.size)⟩

set_option maxHeartbeats 1000000 in
theorem line_01 (k g o t : Nat) (hk : 1 ≤ k ∧ k ≤ 11) (hg : g ≤ 65535) (ho : o ≤ 65535) (ht : t ≤ 255) (w : World) (hT : Tab w) : Calls Tryd.prog 12 #[.agg #[.int .i64 (k : Int), .int .i64 (g : Int), .int .i64 (o : Int), .int .i64 (t : Int), .int .i64 (-1)]] w fun r w' => r = .returned (.tuple #[.string (bA ((((kw k ++ pt 103 g) ++ pt 103 o) ++ pt 116 t) ++ [10])), .bool true]) ∧ Below w.heap.size w w' := by
  have HR : Hid (∀ w, Calls Tryd.prog 14 #[.agg #[.int .i64 (k : Int), .int .i64 (g : Int), .int .i64 (o : Int), .int .i64 (t : Int), .int .i64 (-1)]] w fun r w' => r = .returned (.bool true) ∧ Below w.heap.size w w') := by
    show ∀ w, _
    have h := right_any ⟨(k : Int), (g : Int), (o : Int), (t : Int), (-1)⟩
    rw [decide_eq_true (by simp only [Ev.ok]; omega)] at h
    exact h
  have HG : Hid (∀ x, Tab x → Calls Tryd.prog 19 #[.string ⟨#[103]⟩, .int .i64 (g : Int)] x fun e w' => e = .returned (.string (bA (pt 103 g))) ∧ Below x.heap.size x w') := fun x hx => part_any 103 g hg x hx
  have HO : Hid (∀ x, Tab x → Calls Tryd.prog 19 #[.string ⟨#[103]⟩, .int .i64 (o : Int)] x fun e w' => e = .returned (.string (bA (pt 103 o))) ∧ Below x.heap.size x w') := fun x hx => part_any 103 o ho x hx
  have HTt : Hid (∀ x, Tab x → Calls Tryd.prog 19 #[.string ⟨#[116]⟩, .int .i64 (t : Int)] x fun e w' => e = .returned (.string (bA (pt 116 t))) ∧ Below x.heap.size x w') := fun x hx => part_any 116 t (by omega) x hx
  have hkl := kw_len k
  have hlg := pt_len 103 g hg
  have hlt := pt_len 116 t (by omega)
  have hlo := pt_len 103 o ho
  have f0 : ∀ x : World, (Op.stringOp .add (bA (kw k)) (bA (pt 103 g))).run Tryd.prog x = .ok (.string (bA (kw k ++ pt 103 g))) x := add_run _ _ (by omega)
  have f1 : ∀ x : World, (Op.stringOp .add (bA (kw k ++ pt 103 g)) (bA (pt 103 o))).run Tryd.prog x = .ok (.string (bA ((kw k ++ pt 103 g) ++ pt 103 o))) x := add_run _ _ (by simp only [List.length_append, List.length_cons, List.length_nil]; omega)
  have f2 : ∀ x : World, (Op.stringOp .add (bA ((kw k ++ pt 103 g) ++ pt 103 o)) (bA (pt 116 t))).run Tryd.prog x = .ok (.string (bA (((kw k ++ pt 103 g) ++ pt 103 o) ++ pt 116 t))) x := add_run _ _ (by simp only [List.length_append, List.length_cons, List.length_nil]; omega)
  have f3 : ∀ x : World, (Op.stringOp .add (bA (((kw k ++ pt 103 g) ++ pt 103 o) ++ pt 116 t)) (bA ([10]))).run Tryd.prog x = .ok (.string (bA ((((kw k ++ pt 103 g) ++ pt 103 o) ++ pt 116 t) ++ [10]))) x := add_run _ _ (by simp only [List.length_append, List.length_cons, List.length_nil]; omega)
  have go : ((o : Int) != (-1 : Int)) = true := by rw [bne_iff_ne]; omega
  have gp : ((-1 : Int) != (-1 : Int)) = false := rfl
  have kwk := hT.word k (by omega)
  have hsz := hT.size
  have HT : Hid (Tab w) := hT
  rw [str_eq] at kwk
  change ∀ x : World, (Op.stringOp .add (bA (((kw k ++ pt 103 g) ++ pt 103 o) ++ pt 116 t)) ⟨#[10]⟩).run Tryd.prog x = _ at f3
  generalize bA ((((kw k ++ pt 103 g) ++ pt 103 o) ++ pt 116 t) ++ [10]) = S3 at *
  generalize bA (((kw k ++ pt 103 g) ++ pt 103 o) ++ pt 116 t) = S2 at *
  generalize bA ((kw k ++ pt 103 g) ++ pt 103 o) = S1 at *
  generalize bA (kw k ++ pt 103 g) = S0 at *
  generalize bA (kw k) = K at *
  generalize bA (pt 103 g) = PG at *
  generalize bA (pt 116 t) = PT at *
  generalize bA (pt 103 o) = PO at *
  clear hkl hlg hlt hT hlo
  have c := cell_new w #[.int .i64 (k : Int), .int .i64 (g : Int), .int .i64 (o : Int), .int .i64 (t : Int), .int .i64 (-1)] 25
  have B0 : Below w.heap.size w (w.alloc (.cells #[.int .i64 (k : Int), .int .i64 (g : Int), .int .i64 (o : Int), .int .i64 (t : Int), .int .i64 (-1)] 25)) := (Below.refl _ w).alloc (Nat.le_refl _) _
  have hs0 : (w.alloc (.cells #[.int .i64 (k : Int), .int .i64 (g : Int), .int .i64 (o : Int), .int .i64 (t : Int), .int .i64 (-1)] 25)).heap.size = w.heap.size + 1 := by simp
  go_enter Tryd.func12, Tryd.ntmps12
  go_wp2_with fail
  go_at_call 14
  generalize w.alloc (.cells #[.int .i64 (k : Int), .int .i64 (g : Int), .int .i64 (o : Int), .int .i64 (t : Int), .int .i64 (-1)] 25) = W at *
  refine (HR.out _).mono ?_
  rintro e w1 ⟨rfl, hb1⟩
  have HB : Hid (Below w.heap.size w w1) := B0.trans (hb1.mono (by omega))
  have hw1 : 4 < w1.heap.size := by have := HB.out.size; omega
  have hk0 : (0 : Int) ≤ (k : Int) := by omega
  have hk12 : (k : Int) < 12 := by omega
  have hk11 : (k : Int) ≤ 11 := by omega
  have hH : LnAt w.heap.size k K (g : Int) (o : Int) (t : Int) (-1) w1 w1.drew := by
    have hl : w.heap.size < W.heap.size := by omega
    exact ⟨HT.out.below HB.out.drew hsz, (HB.out.cell (show 0 < _ by omega)).trans kwk, (hb1.cell hl).trans (c 0), (hb1.cell hl).trans (c 1), (hb1.cell hl).trans (c 2), (hb1.cell hl).trans (c 3), (hb1.cell hl).trans (c 4), (Below.refl _ _).drew⟩
  have KEEP : Hid (∀ x y, LnAt w.heap.size k K (g : Int) (o : Int) (t : Int) (-1) w1 x → Below x.heap.size x y → LnAt w.heap.size k K (g : Int) (o : Int) (t : Int) (-1) w1 y) := fun x y h hb => h.next hw1 hb
  clear c B0 hs0 hb1 kwk HT
  clear W
  go_wp2_with fail
  go_region_held3 (fun x => Tab x ∧ x.cell? ⟨0, k, none⟩ = some (.string K) ∧ x.cell? ⟨w.heap.size, 0, none⟩ = some (.int .i64 (k : Int)) ∧ x.cell? ⟨w.heap.size, 1, none⟩ = some (.int .i64 (g : Int)) ∧ x.cell? ⟨w.heap.size, 2, none⟩ = some (.int .i64 (o : Int)) ∧ x.cell? ⟨w.heap.size, 3, none⟩ = some (.int .i64 (t : Int)) ∧ x.cell? ⟨w.heap.size, 4, none⟩ = some (.int .i64 (-1)) ∧ Below w1.heap.size w1 x) (first | exact hH | assumption | exact KEEP.out _ _ ‹_› ‹_›) (first | (go_at_call 19; refine (HG.out _ (by simp only [*])).mono ?_; rintro e w2 ⟨rfl, hb2⟩))
  rename_i hSS
  have L2 : Hid (LnAt w.heap.size k K (g : Int) (o : Int) (t : Int) (-1) w1 w2) := hSS
  clear hSS hH hb2 HG
  obtain ⟨T2, -, q0, q1, q2, q3, q4, -⟩ := L2.out
  go_wp2_with fail
  go_at_call 19
  refine (HO.out _ T2).mono ?_
  clear T2 q0 q1 q2 q3 q4 HO
  rintro e w3 ⟨rfl, hb⟩
  have L3 : Hid (LnAt w.heap.size k K (g : Int) (o : Int) (t : Int) (-1) w1 w3) := KEEP.out _ _ L2.out hb
  clear hb L2
  obtain ⟨T3, -, q0, q1, q2, q3, q4, -⟩ := L3.out
  go_wp2_with fail
  go_at_call 19
  refine (HTt.out _ T3).mono ?_
  clear T3 q0 q1 q2 q3 q4 HTt
  rintro e w4 ⟨rfl, hb⟩
  have L4 : Hid (LnAt w.heap.size k K (g : Int) (o : Int) (t : Int) (-1) w1 w4) := KEEP.out _ _ L3.out hb
  clear hb L3
  obtain ⟨-, -, q0, q1, q2, q3, q4, hbz⟩ := L4.out
  go_wp2_with fail
  go_ret2
  exact ⟨rfl, HB.out.trans (hbz.mono HB.out.size)⟩

set_option maxHeartbeats 1000000 in
theorem line_10 (k g t p : Nat) (hk : 1 ≤ k ∧ k ≤ 11) (hg : g ≤ 65535) (ht : t ≤ 255) (hp : p ≤ 63) (w : World) (hT : Tab w) : Calls Tryd.prog 12 #[.agg #[.int .i64 (k : Int), .int .i64 (g : Int), .int .i64 (-1), .int .i64 (t : Int), .int .i64 (p : Int)]] w fun r w' => r = .returned (.tuple #[.string (bA ((((kw k ++ pt 103 g) ++ pt 116 t) ++ pt 112 p) ++ [10])), .bool true]) ∧ Below w.heap.size w w' := by
  have HR : Hid (∀ w, Calls Tryd.prog 14 #[.agg #[.int .i64 (k : Int), .int .i64 (g : Int), .int .i64 (-1), .int .i64 (t : Int), .int .i64 (p : Int)]] w fun r w' => r = .returned (.bool true) ∧ Below w.heap.size w w') := by
    show ∀ w, _
    have h := right_any ⟨(k : Int), (g : Int), (-1), (t : Int), (p : Int)⟩
    rw [decide_eq_true (by simp only [Ev.ok]; omega)] at h
    exact h
  have HG : Hid (∀ x, Tab x → Calls Tryd.prog 19 #[.string ⟨#[103]⟩, .int .i64 (g : Int)] x fun e w' => e = .returned (.string (bA (pt 103 g))) ∧ Below x.heap.size x w') := fun x hx => part_any 103 g hg x hx
  have HTt : Hid (∀ x, Tab x → Calls Tryd.prog 19 #[.string ⟨#[116]⟩, .int .i64 (t : Int)] x fun e w' => e = .returned (.string (bA (pt 116 t))) ∧ Below x.heap.size x w') := fun x hx => part_any 116 t (by omega) x hx
  have HP : Hid (∀ x, Tab x → Calls Tryd.prog 19 #[.string ⟨#[112]⟩, .int .i64 (p : Int)] x fun e w' => e = .returned (.string (bA (pt 112 p))) ∧ Below x.heap.size x w') := fun x hx => part_any 112 p (by omega) x hx
  have hkl := kw_len k
  have hlg := pt_len 103 g hg
  have hlt := pt_len 116 t (by omega)
  have hlp := pt_len 112 p (by omega)
  have f0 : ∀ x : World, (Op.stringOp .add (bA (kw k)) (bA (pt 103 g))).run Tryd.prog x = .ok (.string (bA (kw k ++ pt 103 g))) x := add_run _ _ (by omega)
  have f1 : ∀ x : World, (Op.stringOp .add (bA (kw k ++ pt 103 g)) (bA (pt 116 t))).run Tryd.prog x = .ok (.string (bA ((kw k ++ pt 103 g) ++ pt 116 t))) x := add_run _ _ (by simp only [List.length_append, List.length_cons, List.length_nil]; omega)
  have f2 : ∀ x : World, (Op.stringOp .add (bA ((kw k ++ pt 103 g) ++ pt 116 t)) (bA (pt 112 p))).run Tryd.prog x = .ok (.string (bA (((kw k ++ pt 103 g) ++ pt 116 t) ++ pt 112 p))) x := add_run _ _ (by simp only [List.length_append, List.length_cons, List.length_nil]; omega)
  have f3 : ∀ x : World, (Op.stringOp .add (bA (((kw k ++ pt 103 g) ++ pt 116 t) ++ pt 112 p)) (bA ([10]))).run Tryd.prog x = .ok (.string (bA ((((kw k ++ pt 103 g) ++ pt 116 t) ++ pt 112 p) ++ [10]))) x := add_run _ _ (by simp only [List.length_append, List.length_cons, List.length_nil]; omega)
  have go : ((-1 : Int) != (-1 : Int)) = false := rfl
  have gp : ((p : Int) != (-1 : Int)) = true := by rw [bne_iff_ne]; omega
  have kwk := hT.word k (by omega)
  have hsz := hT.size
  have HT : Hid (Tab w) := hT
  rw [str_eq] at kwk
  change ∀ x : World, (Op.stringOp .add (bA (((kw k ++ pt 103 g) ++ pt 116 t) ++ pt 112 p)) ⟨#[10]⟩).run Tryd.prog x = _ at f3
  generalize bA ((((kw k ++ pt 103 g) ++ pt 116 t) ++ pt 112 p) ++ [10]) = S3 at *
  generalize bA (((kw k ++ pt 103 g) ++ pt 116 t) ++ pt 112 p) = S2 at *
  generalize bA ((kw k ++ pt 103 g) ++ pt 116 t) = S1 at *
  generalize bA (kw k ++ pt 103 g) = S0 at *
  generalize bA (kw k) = K at *
  generalize bA (pt 103 g) = PG at *
  generalize bA (pt 116 t) = PT at *
  generalize bA (pt 112 p) = PP at *
  clear hkl hlg hlt hT hlp
  have c := cell_new w #[.int .i64 (k : Int), .int .i64 (g : Int), .int .i64 (-1), .int .i64 (t : Int), .int .i64 (p : Int)] 25
  have B0 : Below w.heap.size w (w.alloc (.cells #[.int .i64 (k : Int), .int .i64 (g : Int), .int .i64 (-1), .int .i64 (t : Int), .int .i64 (p : Int)] 25)) := (Below.refl _ w).alloc (Nat.le_refl _) _
  have hs0 : (w.alloc (.cells #[.int .i64 (k : Int), .int .i64 (g : Int), .int .i64 (-1), .int .i64 (t : Int), .int .i64 (p : Int)] 25)).heap.size = w.heap.size + 1 := by simp
  go_enter Tryd.func12, Tryd.ntmps12
  go_wp2_with fail
  go_at_call 14
  generalize w.alloc (.cells #[.int .i64 (k : Int), .int .i64 (g : Int), .int .i64 (-1), .int .i64 (t : Int), .int .i64 (p : Int)] 25) = W at *
  refine (HR.out _).mono ?_
  rintro e w1 ⟨rfl, hb1⟩
  have HB : Hid (Below w.heap.size w w1) := B0.trans (hb1.mono (by omega))
  have hw1 : 4 < w1.heap.size := by have := HB.out.size; omega
  have hk0 : (0 : Int) ≤ (k : Int) := by omega
  have hk12 : (k : Int) < 12 := by omega
  have hk11 : (k : Int) ≤ 11 := by omega
  have hH : LnAt w.heap.size k K (g : Int) (-1) (t : Int) (p : Int) w1 w1.drew := by
    have hl : w.heap.size < W.heap.size := by omega
    exact ⟨HT.out.below HB.out.drew hsz, (HB.out.cell (show 0 < _ by omega)).trans kwk, (hb1.cell hl).trans (c 0), (hb1.cell hl).trans (c 1), (hb1.cell hl).trans (c 2), (hb1.cell hl).trans (c 3), (hb1.cell hl).trans (c 4), (Below.refl _ _).drew⟩
  have KEEP : Hid (∀ x y, LnAt w.heap.size k K (g : Int) (-1) (t : Int) (p : Int) w1 x → Below x.heap.size x y → LnAt w.heap.size k K (g : Int) (-1) (t : Int) (p : Int) w1 y) := fun x y h hb => h.next hw1 hb
  clear c B0 hs0 hb1 kwk HT
  clear W
  go_wp2_with fail
  go_region_held3 (fun x => Tab x ∧ x.cell? ⟨0, k, none⟩ = some (.string K) ∧ x.cell? ⟨w.heap.size, 0, none⟩ = some (.int .i64 (k : Int)) ∧ x.cell? ⟨w.heap.size, 1, none⟩ = some (.int .i64 (g : Int)) ∧ x.cell? ⟨w.heap.size, 2, none⟩ = some (.int .i64 (-1)) ∧ x.cell? ⟨w.heap.size, 3, none⟩ = some (.int .i64 (t : Int)) ∧ x.cell? ⟨w.heap.size, 4, none⟩ = some (.int .i64 (p : Int)) ∧ Below w1.heap.size w1 x) (first | exact hH | assumption | exact KEEP.out _ _ ‹_› ‹_›) (first | (go_at_call 19; refine (HG.out _ (by simp only [*])).mono ?_; rintro e w2 ⟨rfl, hb2⟩))
  rename_i hSS
  have L2 : Hid (LnAt w.heap.size k K (g : Int) (-1) (t : Int) (p : Int) w1 w2) := hSS
  clear hSS hH hb2 HG
  obtain ⟨T2, -, q0, q1, q2, q3, q4, -⟩ := L2.out
  go_wp2_with fail
  go_at_call 19
  refine (HTt.out _ T2).mono ?_
  clear T2 q0 q1 q2 q3 q4 HTt
  rintro e w3 ⟨rfl, hb⟩
  have L3 : Hid (LnAt w.heap.size k K (g : Int) (-1) (t : Int) (p : Int) w1 w3) := KEEP.out _ _ L2.out hb
  clear hb L2
  obtain ⟨T3, -, q0, q1, q2, q3, q4, -⟩ := L3.out
  go_wp2_with fail
  go_at_call 19
  refine (HP.out _ T3).mono ?_
  clear T3 q0 q1 q2 q3 q4 HP
  rintro e w4 ⟨rfl, hb⟩
  have L4 : Hid (LnAt w.heap.size k K (g : Int) (-1) (t : Int) (p : Int) w1 w4) := KEEP.out _ _ L3.out hb
  clear hb L3
  obtain ⟨-, -, q0, q1, q2, q3, q4, hbz⟩ := L4.out
  go_wp2_with fail
  go_ret2
  exact ⟨rfl, HB.out.trans (hbz.mono HB.out.size)⟩

set_option maxHeartbeats 1000000 in
theorem line_11 (k g t : Nat) (hk : 1 ≤ k ∧ k ≤ 11) (hg : g ≤ 65535) (ht : t ≤ 255) (w : World) (hT : Tab w) : Calls Tryd.prog 12 #[.agg #[.int .i64 (k : Int), .int .i64 (g : Int), .int .i64 (-1), .int .i64 (t : Int), .int .i64 (-1)]] w fun r w' => r = .returned (.tuple #[.string (bA (((kw k ++ pt 103 g) ++ pt 116 t) ++ [10])), .bool true]) ∧ Below w.heap.size w w' := by
  have HR : Hid (∀ w, Calls Tryd.prog 14 #[.agg #[.int .i64 (k : Int), .int .i64 (g : Int), .int .i64 (-1), .int .i64 (t : Int), .int .i64 (-1)]] w fun r w' => r = .returned (.bool true) ∧ Below w.heap.size w w') := by
    show ∀ w, _
    have h := right_any ⟨(k : Int), (g : Int), (-1), (t : Int), (-1)⟩
    rw [decide_eq_true (by simp only [Ev.ok]; omega)] at h
    exact h
  have HG : Hid (∀ x, Tab x → Calls Tryd.prog 19 #[.string ⟨#[103]⟩, .int .i64 (g : Int)] x fun e w' => e = .returned (.string (bA (pt 103 g))) ∧ Below x.heap.size x w') := fun x hx => part_any 103 g hg x hx
  have HTt : Hid (∀ x, Tab x → Calls Tryd.prog 19 #[.string ⟨#[116]⟩, .int .i64 (t : Int)] x fun e w' => e = .returned (.string (bA (pt 116 t))) ∧ Below x.heap.size x w') := fun x hx => part_any 116 t (by omega) x hx
  have hkl := kw_len k
  have hlg := pt_len 103 g hg
  have hlt := pt_len 116 t (by omega)
  have f0 : ∀ x : World, (Op.stringOp .add (bA (kw k)) (bA (pt 103 g))).run Tryd.prog x = .ok (.string (bA (kw k ++ pt 103 g))) x := add_run _ _ (by omega)
  have f1 : ∀ x : World, (Op.stringOp .add (bA (kw k ++ pt 103 g)) (bA (pt 116 t))).run Tryd.prog x = .ok (.string (bA ((kw k ++ pt 103 g) ++ pt 116 t))) x := add_run _ _ (by simp only [List.length_append, List.length_cons, List.length_nil]; omega)
  have f2 : ∀ x : World, (Op.stringOp .add (bA ((kw k ++ pt 103 g) ++ pt 116 t)) (bA ([10]))).run Tryd.prog x = .ok (.string (bA (((kw k ++ pt 103 g) ++ pt 116 t) ++ [10]))) x := add_run _ _ (by simp only [List.length_append, List.length_cons, List.length_nil]; omega)
  have go : ((-1 : Int) != (-1 : Int)) = false := rfl
  have gp : ((-1 : Int) != (-1 : Int)) = false := rfl
  have kwk := hT.word k (by omega)
  have hsz := hT.size
  have HT : Hid (Tab w) := hT
  rw [str_eq] at kwk
  change ∀ x : World, (Op.stringOp .add (bA ((kw k ++ pt 103 g) ++ pt 116 t)) ⟨#[10]⟩).run Tryd.prog x = _ at f2
  generalize bA (((kw k ++ pt 103 g) ++ pt 116 t) ++ [10]) = S2 at *
  generalize bA ((kw k ++ pt 103 g) ++ pt 116 t) = S1 at *
  generalize bA (kw k ++ pt 103 g) = S0 at *
  generalize bA (kw k) = K at *
  generalize bA (pt 103 g) = PG at *
  generalize bA (pt 116 t) = PT at *
  clear hkl hlg hlt hT
  have c := cell_new w #[.int .i64 (k : Int), .int .i64 (g : Int), .int .i64 (-1), .int .i64 (t : Int), .int .i64 (-1)] 25
  have B0 : Below w.heap.size w (w.alloc (.cells #[.int .i64 (k : Int), .int .i64 (g : Int), .int .i64 (-1), .int .i64 (t : Int), .int .i64 (-1)] 25)) := (Below.refl _ w).alloc (Nat.le_refl _) _
  have hs0 : (w.alloc (.cells #[.int .i64 (k : Int), .int .i64 (g : Int), .int .i64 (-1), .int .i64 (t : Int), .int .i64 (-1)] 25)).heap.size = w.heap.size + 1 := by simp
  go_enter Tryd.func12, Tryd.ntmps12
  go_wp2_with fail
  go_at_call 14
  generalize w.alloc (.cells #[.int .i64 (k : Int), .int .i64 (g : Int), .int .i64 (-1), .int .i64 (t : Int), .int .i64 (-1)] 25) = W at *
  refine (HR.out _).mono ?_
  rintro e w1 ⟨rfl, hb1⟩
  have HB : Hid (Below w.heap.size w w1) := B0.trans (hb1.mono (by omega))
  have hw1 : 4 < w1.heap.size := by have := HB.out.size; omega
  have hk0 : (0 : Int) ≤ (k : Int) := by omega
  have hk12 : (k : Int) < 12 := by omega
  have hk11 : (k : Int) ≤ 11 := by omega
  have hH : LnAt w.heap.size k K (g : Int) (-1) (t : Int) (-1) w1 w1.drew := by
    have hl : w.heap.size < W.heap.size := by omega
    exact ⟨HT.out.below HB.out.drew hsz, (HB.out.cell (show 0 < _ by omega)).trans kwk, (hb1.cell hl).trans (c 0), (hb1.cell hl).trans (c 1), (hb1.cell hl).trans (c 2), (hb1.cell hl).trans (c 3), (hb1.cell hl).trans (c 4), (Below.refl _ _).drew⟩
  have KEEP : Hid (∀ x y, LnAt w.heap.size k K (g : Int) (-1) (t : Int) (-1) w1 x → Below x.heap.size x y → LnAt w.heap.size k K (g : Int) (-1) (t : Int) (-1) w1 y) := fun x y h hb => h.next hw1 hb
  clear c B0 hs0 hb1 kwk HT
  clear W
  go_wp2_with fail
  go_region_held3 (fun x => Tab x ∧ x.cell? ⟨0, k, none⟩ = some (.string K) ∧ x.cell? ⟨w.heap.size, 0, none⟩ = some (.int .i64 (k : Int)) ∧ x.cell? ⟨w.heap.size, 1, none⟩ = some (.int .i64 (g : Int)) ∧ x.cell? ⟨w.heap.size, 2, none⟩ = some (.int .i64 (-1)) ∧ x.cell? ⟨w.heap.size, 3, none⟩ = some (.int .i64 (t : Int)) ∧ x.cell? ⟨w.heap.size, 4, none⟩ = some (.int .i64 (-1)) ∧ Below w1.heap.size w1 x) (first | exact hH | assumption | exact KEEP.out _ _ ‹_› ‹_›) (first | (go_at_call 19; refine (HG.out _ (by simp only [*])).mono ?_; rintro e w2 ⟨rfl, hb2⟩))
  rename_i hSS
  have L2 : Hid (LnAt w.heap.size k K (g : Int) (-1) (t : Int) (-1) w1 w2) := hSS
  clear hSS hH hb2 HG
  obtain ⟨T2, -, q0, q1, q2, q3, q4, -⟩ := L2.out
  go_wp2_with fail
  go_at_call 19
  refine (HTt.out _ T2).mono ?_
  clear T2 q0 q1 q2 q3 q4 HTt
  rintro e w3 ⟨rfl, hb⟩
  have L3 : Hid (LnAt w.heap.size k K (g : Int) (-1) (t : Int) (-1) w1 w3) := KEEP.out _ _ L2.out hb
  clear hb L2
  obtain ⟨-, -, q0, q1, q2, q3, q4, hbz⟩ := L3.out
  go_wp2_with fail
  go_ret2
  exact ⟨rfl, HB.out.trans (hbz.mono HB.out.size)⟩
end Go.Proofs.YtalilnnjpemmlaaDoor
