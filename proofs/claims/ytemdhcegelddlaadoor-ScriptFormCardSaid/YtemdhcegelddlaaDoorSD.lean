/- script.Write of any entries. -/
import Derived.Test.YtemdhcegelddlaaDoorSA
import Derived.Test.YtemdhcegelddlaaDoorSB
import Derived.Test.YtemdhcegelddlaaDoorSC
import Derived.Test.YtemdhcegelddlaaDoorBw
import Derived.Lib.UnsafeStr
namespace Go.Proofs.YtemdhcegelddlaaDoor
open Go Go.RowKit
set_option linter.unusedVariables false
set_option linter.unusedSimpArgs false

theorem builder_below {B b : Nat} {p : Value} {bs : List Value} {w w' : World} (h : Lib.BuilderAt 72 5 B b p bs w) (hb : Below w.heap.size w w') : Lib.BuilderAt 72 5 B b p bs w' := by
  have hlt := h.lt
  obtain ⟨hB, v, hbk, hown, hne⟩ := h
  refine ⟨hB, v, (hb.block b hlt).trans hbk, ?_, hne⟩
  obtain ⟨h1, h2⟩ := hown
  refine ⟨h1, ?_⟩
  rcases h2 with h2 | ⟨g, cap, cur, e1, h3, h4, h5⟩
  · exact .inl h2
  · exact .inr ⟨g, cap, cur, e1, h3, (hb.block g (block_lt h4)).trans h4, h5⟩
theorem isBuilder_below {B b : Nat} {bs : List Value} {w w' : World} (h : Lib.IsBuilder 72 5 B b bs w) (hb : Below w.heap.size w w') : Lib.IsBuilder 72 5 B b bs w' := by
  rcases h with h | h
  · exact .inl (builder_below h hb)
  · exact .inr (builder_below h hb)
theorem own_kept {B b : Nat} {v : Value} {n : Nat} {xs : List Value} {bs : List Value} {x y : World} (h : x.ownsRow B 76 3 v n xs) (hbd : Lib.IsBuilder 72 5 b b bs x) (hk : Kept b x y) : y.ownsRow B 76 3 v n xs := by
  refine ⟨h.1, ?_⟩
  rcases h.2 with e | ⟨g, cap, cur, e, hB, hg, r⟩
  · exact .inl e
  · refine .inr ⟨g, cap, cur, e, hB, hk g cur 76 (0, 0) ?_ hg (by decide), r⟩
    rintro rfl
    obtain ⟨p, hp⟩ : ∃ p, Lib.BuilderAt 72 5 g g p bs x := by rcases hbd with h | h <;> exact ⟨_, h⟩
    obtain ⟨_, v', hb', _⟩ := hp
    rw [hb'] at hg
    simp at hg
theorem mem_grp : ∀ (f : Nat) (l : List En), ∀ p ∈ grp f l, p.2 ≤ l.length
  | 0, _, p, h => by simp [grp] at h
  | f + 1, [], p, h => by simp [grp] at h
  | f + 1, e :: l, p, h => by
    have hs := same1_le e l
    rcases List.mem_cons.1 (show p ∈ (e, same1 e l + 1) :: grp f (l.drop (same1 e l)) from h) with rfl | h
    · simp; omega
    · have := mem_grp f (l.drop (same1 e l)) p h
      simp at this ⊢; omega
theorem lnR_len (e : En) (n : Int) (he : e.ok) (hn : n ≤ 65536) : (lnR e n).length ≤ 60 := by
  obtain ⟨h1, h2, h3⟩ := he
  have hk := kwS_len e.k.toNat
  unfold lnR ahead behind
  simp only [List.length_append]
  have ha : (if e.k = 1 ∨ e.k = 4 then 32 :: Lib.decDigits e.w.toNat else []).length ≤ 21 := by
    split
    · rename_i h
      have := dig_len e.w.toNat (by have := h2 h; omega)
      simp; omega
    · simp
  have hb : (if 1 < n then [32, 120, 32] ++ Lib.decDigits n.toNat else []).length ≤ 23 := by
    split
    · have := dig_len n.toNat (by omega)
      simp; omega
    · simp
  omega
theorem wrR_app (a b : List (En × Nat)) : wrR (a ++ b) = wrR a ++ wrR b := by
  induction a with
  | nil => rfl
  | cons p a ih => obtain ⟨e, n⟩ := p; simp [wrR, ih]
theorem wrR_len (r : List (En × Nat)) (h : ∀ p ∈ r, p.1.ok ∧ p.2 ≤ 65536) : (wrR r).length ≤ 61 * r.length := by
  induction r with
  | nil => simp [wrR]
  | cons p r ih =>
    obtain ⟨e, n⟩ := p
    have h1 := h (e, n) (by simp)
    have h2 := lnR_len e (n : Int) h1.1 (by have := h1.2; simp at this; omega)
    have h3 := ih (fun q hq => h q (by simp [hq]))
    simp only [wrR, List.length_append, List.length_cons]
    omega
theorem takeR_at {l : List (En × Nat)} {k : Nat} (hk : k < l.length) : l.take (k + 1) = l.take k ++ [atR l k] := by
  rw [List.take_succ_eq_append_getElem hk]
  unfold atR
  rw [List.getD_eq_getElem?_getD, List.getElem?_eq_getElem hk]; rfl
theorem atR_mem {l : List (En × Nat)} {k : Nat} (hk : k < l.length) : atR l k ∈ l := by
  unfold atR
  rw [List.getD_eq_getElem?_getD, List.getElem?_eq_getElem hk]
  exact List.getElem_mem hk
/-- while the lines are written -/
structure Wb (w x : World) (A' : Option Addr) (c' : Nat) (R : List (En × Nat)) (k : Nat) : Prop where
  bd : Lib.IsBuilder 72 5 w.heap.size w.heap.size (Lib.byteCells (wrR (R.take k))) x
  row : x.ownsRow w.heap.size 76 3 (.slice A' R.length c') R.length (flatR R)
  bel : Below w.heap.size w x
  lt : w.heap.size < x.heap.size

set_option maxRecDepth 100000 in
set_option maxHeartbeats 4000000 in
theorem write_en (w : World) (hT : Tab w) (b : Nat) (A : Option Addr) (cp : Nat) (l : List En) (n : Nat) (hn : l.length = n) (hl : n ≤ 65536) (hcp : n ≤ cp) (hs : Sees w b A l) : Calls Tryd.prog 14 #[.slice A n cp] w fun e w' =>
    ((oksS l ∧ e = .returned (.tuple #[.string (bA (wrS l)), .int .i64 0])) ∨ (¬ oksS l ∧ e = .returned (.tuple #[.string ⟨#[]⟩, .int .i64 1]))) ∧ Below w.heap.size w w' := by
  have HN := Lib.hid hn
  have HL := Lib.hid hl
  have HTT := Lib.hid (fun (X : World) (hb : Below w.heap.size w X) => hT.below hb hT.size)
  have HC := Lib.hid (contains_any w hT b A cp l n hn hl hs)
  have HRU := Lib.hid (fun (X : World) (hb : Below w.heap.size w X) => runs_any X b A cp l n hn hl hcp (hs.below hb))
  have h1i : ¬ (65536 : Int) < (n : Int) := by omega
  clear hs hn hT hl hcp
  by_cases hok : oksS l
  · rw [decide_eq_true hok] at HC
    have HR : Hid (∀ p ∈ grp l.length l, p.1.ok ∧ p.2 ≤ 65536) := fun p hp => ⟨okR_grp hok p hp, by have := mem_grp _ _ p hp; have h1 := HN.out; have h2 := HL.out; omega⟩
    have HOK := Lib.hid hok
    have HGL := Lib.hid (grp_len l.length l)
    have HWS : Hid (wrS l = wrR (grp l.length l)) := rfl
    clear hok
    go_enter Tryd.func14, Tryd.ntmps14
    go_wp2_with fail
    go_at_call 30
    refine HC.out.mono ?_
    rintro e w1 ⟨rfl, hb1⟩
    have HB1 := Lib.hid hb1
    have HBA := Lib.hid ((Below.refl w1.heap.size w1).alloc (Nat.le_refl _) (.cells #[.pointer none, .slice none 0 0] 72))
    have HRX := Lib.hid (HRU.out _ (hb1.trans (HBA.out.mono hb1.size)))
    clear hb1 HC HRU
    go_wp2_with fail
    go_at_call 32
    refine HRX.out.mono ?_
    rintro e w2 ⟨A', c', rfl, ho, hb2⟩
    have HW0 : Hid (Wb w1 w2 A' c' (grp l.length l) 0) := by
      have hs1 : (w1.alloc (.cells #[.pointer none, .slice none 0 0] 72)).heap.size = w1.heap.size + 1 := size_al _ _
      refine ⟨isBuilder_below (Or.inl ⟨Nat.le_refl _, .slice none 0 0, heap_alloc_new _ _, by simpa [wrR, Lib.byteCells] using World.ownsRow_nil _ _ _ _, by simp [Value.ownBlock]⟩) hb2, own_base ho (by omega), HBA.out.trans (hb2.mono (by omega)), by have := hb2.size; omega⟩
    clear ho hb2 HRX
    generalize grp l.length l = R at *
    go_wp2_with fail
    go_loopw [15] (fun i wx => ∃ k : Nat, i = .int .i64 (k : Int) ∧ k ≤ R.length ∧ Hid (Wb w1 wx A' c' R k)) (fun i _ => R.length - (intOf i).toNat)
    case atStart => exact ⟨0, rfl, by omega, HW0⟩
    case round =>
      obtain ⟨k, rfl, hk, HB⟩ := hrel
      have hRb : (R.length : Int) ≤ 65536 := by have h1 := HGL.out; have h2 := HN.out; have h3 := HL.out; omega
      by_cases hlt : k < R.length
      · have hki : (k : Int) < (R.length : Int) := by omega
        obtain ⟨g, hg1, hg2, rfl, hcs⟩ := row_runs HB.out.row (by omega)
        obtain ⟨⟨⟨x0, x1⟩, m⟩, hx⟩ : ∃ x, atR R k = x := ⟨_, rfl⟩
        obtain ⟨c0, c1, c2⟩ := hcs k hlt
        rw [hx] at c0 c1 c2
        simp only at c0 c1 c2
        have hpm := HR.out _ (atR_mem hlt)
        rw [hx] at hpm
        have HBA2 := Lib.hid ((Below.refl wr.heap.size wr).alloc (Nat.le_refl _) (.cells #[.int .i64 x0, .int .i64 x1, .int .i64 (m : Int)] 76))
        have HBB := Lib.hid (HB1.out.trans ((HB.out.bel.trans (HBA2.out.mono HB.out.bel.size)).mono HB1.out.size))
        have HLn : Hid (∀ y, Tab y → Calls Tryd.prog 34 #[.agg #[.int .i64 x0, .int .i64 x1, .int .i64 (m : Int)]] y fun r w' => r = .returned (.string (bA (lnR ⟨x0, x1⟩ (m : Int)))) ∧ Below y.heap.size y w') := fun y hy => line_any ⟨x0, x1⟩ (m : Int) hpm.1 (by have := hpm.2; simp at this; omega) y hy
        have HWR : Hid (wrR (R.take (k + 1)) = wrR (R.take k) ++ (lnR ⟨x0, x1⟩ (m : Int) ++ [10])) := by show _ = _; rw [takeR_at hlt, wrR_app, hx]; simp [wrR]
        have HLL := Lib.hid (lnR_len ⟨x0, x1⟩ (m : Int) hpm.1 (by have := hpm.2; simp at this; omega))
        have HWL : Hid ((wrR (R.take k)).length ≤ 61 * 65536) := by
          have h := wrR_len (R.take k) (fun p hp => HR.out p (List.mem_of_mem_take hp))
          have h2 : (R.take k).length ≤ 65536 := by rw [List.length_take]; omega
          show _ ≤ _
          omega
        have fa : ∀ y : World, (Op.stringOp .add (bA (lnR ⟨x0, x1⟩ (m : Int))) ⟨#[10]⟩).run Tryd.prog y = .ok (.string (bA (lnR ⟨x0, x1⟩ (m : Int) ++ [10]))) y := add_run _ [10] (by have := HLL.out; simp; omega)
        obtain ⟨L0, hL0⟩ : ∃ X, bA (lnR ⟨x0, x1⟩ (m : Int)) = X := ⟨_, rfl⟩
        obtain ⟨L1, hL1⟩ : ∃ X, bA (lnR ⟨x0, x1⟩ (m : Int) ++ [10]) = X := ⟨_, rfl⟩
        rw [hL0] at fa HLn
        rw [hL1] at fa
        have HL1 := Lib.hid hL1
        clear hL0 hL1 hx hcs hpm
        go_wp2_with fail
        go_at_call 34
        refine (HLn.out _ (HTT.out _ HBB.out)).mono ?_
        rintro e w3 ⟨rfl, hb3⟩
        have HB3 := Lib.hid (isBuilder_below HB.out.bd (HBA2.out.trans (hb3.mono HBA2.out.size)))
        have HO3 := Lib.hid (own_below HB.out.row (HBA2.out.trans (hb3.mono HBA2.out.size)))
        have HE3 : Hid (Below w1.heap.size w1 w3 ∧ wr.heap.size ≤ w3.heap.size) := ⟨HB.out.bel.trans ((HBA2.out.trans (hb3.mono HBA2.out.size)).mono HB.out.bel.size), Nat.le_trans HBA2.out.size hb3.size⟩
        clear c0 c1 c2 hb3 HBB HLn HBA2
        go_wp2_with fail
        go_at_call 33
        refine (write_any w1.heap.size w1.heap.size _ L1 w3 HB3.out (by have h1 := HWL.out; have h2 := HLL.out; rw [Lib.byteCells_length, ← HL1.out, bA_size]; simp; omega) HE3.out.1.size).mono ?_
        rintro e w4 ⟨rfl, hbd, hb4, hkp⟩
        have HW4 : Hid (Wb w1 w4 (some ⟨g, 0, none⟩) c' R (k + 1)) := by
          refine ⟨Or.inr ?_, own_kept HO3.out HB3.out hkp, HE3.out.1.trans hb4, by have h1 := HB.out.lt; have h2 := HE3.out.2; have h3 := hb4.size; omega⟩
          rw [HWR.out, Lib.byteCells_append]
          rw [← HL1.out] at hbd
          exact hbd
        clear hbd hb4 hkp HB3 HE3 HO3 HWR HLL HWL
        go_wp2_with fail
        go_roundw
        case rel => exact ⟨k + 1, by go_num, by omega, HW4⟩
        case measure => simp [intOf]; omega
      · obtain rfl : k = R.length := by omega
        have hki : ¬ (R.length : Int) < (R.length : Int) := by omega
        have HB2 := Lib.hid HB.out.bd
        rw [List.take_length] at HB2
        go_wp2_with fail
        go_at_call 35
        refine (Builder_String_any w1.heap.size w1.heap.size (wrR R) wr HB2.out HB.out.bel.size).mono ?_
        rintro e w3 ⟨rfl, hb3⟩
        have HE3 : Hid (Below w.heap.size w w3) := HB1.out.trans ((HB.out.bel.trans hb3).mono HB1.out.size)
        clear hb3
        go_wp2_with fail
        go_ret2
        rw [HWS.out]
        exact ⟨.inl ⟨HOK.out, rfl⟩, HE3.out⟩
  · rw [decide_eq_false hok] at HC
    have HOK := Lib.hid hok
    clear hok
    go_enter Tryd.func14, Tryd.ntmps14
    go_wp2_with fail
    go_at_call 30
    refine HC.out.mono ?_
    rintro e w1 ⟨rfl, hb1⟩
    have HB1 := Lib.hid hb1
    go_wp2_with fail
    go_ret2
    exact ⟨.inr ⟨HOK.out, rfl⟩, HB1.out⟩
end Go.Proofs.YtemdhcegelddlaaDoor
