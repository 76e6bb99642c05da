/- The walk of the law DiceSame: to the loop. -/
import Derived.Test.YteibdjbipfimeaaR6
import Derived.Lib.Hide
namespace Go.Proofs.Yteibdjbipfimeaa
open Go Go.RowKit
set_option linter.unusedVariables false
set_option linter.unusedSimpArgs false
set_option maxRecDepth 100000

theorem equal48 (w : World) (a b x y : Int) : (Op.equalIn 10000 48 (.agg #[.int .i64 a, .int .i64 b]) (.agg #[.int .i64 x, .int .i64 y])).run Try.prog w = .ok (a == x && b == y) w := by
  have e : ∃ p0 p1 p2 p3 p4 p5 p6 p7, Try.prog.fieldsOf 48 = #[⟨"Kind", 3, 0, p0, p1, p2, p3⟩, ⟨"Who", 3, 1, p4, p5, p6, p7⟩] := by unfold Program.fieldsOf; rw [Try.underlying48]; exact ⟨_, _, _, _, _, _, _, _, rfl⟩
  obtain ⟨p0, p1, p2, p3, p4, p5, p6, p7, e⟩ := e
  rw [show (10000 : Nat) = 9999 + 1 from rfl, run_equalIn_agg w 9999 48 _ _ (by unfold Program.fieldsOf; rw [Try.underlying48]) (by kernel_rfl), e]
  have h3 : ∀ (x y : Int) (w : World), (Op.equalIn 9999 3 (.int .i64 x) (.int .i64 y)).run Try.prog w = .ok (x == y) w := fun x y w => run_equalIn_int w 9998 3 .i64 .i64 x y Try.underlying3
  by_cases h1 : a = x
  · by_cases h2 : b = y <;> simp [Op.eqFields, go_sem, part, isAgg, sizeOf, typeInfo, Result.andThen, h3, h1, h2]
  · simp [Op.eqFields, go_sem, part, isAgg, sizeOf, typeInfo, Result.andThen, h3, h1]
theorem neq48 (w : World) (a b : Int) : (binOp .neq 48 (.agg #[.int .i64 a, .int .i64 b]) (.agg #[.int .i64 a, .int .i64 b])).run Try.prog w = .ok (.bool false) w := by
  rw [run_neq_struct, equal48]; simp

theorem own_pair {w : World} {B k cp : Nat} {A : Option Addr} {L : List (Int × Int)} (h : w.ownsRow B 48 2 (.slice A k cp) k (flat L)) (hl : L.length = k) (i : Nat) (hi : i < k) :
    ∃ (g : Nat) (x y : Int), A = some ⟨g, 0, none⟩ ∧ L[i]? = some (x, y) ∧ w.cell? ⟨g, i * 2, none⟩ = some (.int .i64 x) ∧ w.cell? ⟨g, i * 2 + 1, none⟩ = some (.int .i64 y) := by
  have hO := h
  rcases h.2 with ⟨h1, h2⟩ | ⟨g, cap, cur, h1, _⟩
  · omega
  · cases h1
    have hil : i < L.length := by omega
    refine ⟨g, (L[i]'hil).1, (L[i]'hil).2, rfl, by simp [hil], ?_, ?_⟩
    · have := hO.cells (g := g) rfl (2 * i) _ (flat_get0 L i hil)
      have hadd : (⟨g, 0, none⟩ : Addr).add (2 * i) = ⟨g, i * 2, none⟩ := by unfold Addr.add; split <;> simp_all [Nat.mul_comm]
      rw [hadd] at this; exact this
    · have := hO.cells (g := g) rfl (2 * i + 1) _ (flat_get1 L i hil)
      have hadd : (⟨g, 0, none⟩ : Addr).add (2 * i + 1) = ⟨g, i * 2 + 1, none⟩ := by unfold Addr.add; simp [Nat.mul_comm]
      rw [hadd] at this; exact this

theorem scrGo_len (T N : Nat) : ∀ (f : Nat) (L : List (Int × Int)) (S : Nat), L.length ≤ N → N ≤ f + L.length → (scrGo T N f L S).1.length = N
  | 0, L, S, h1, h2 => by show L.length = N; omega
  | f + 1, L, S, h1, h2 => by
    unfold scrGo
    split
    · rename_i h
      have hr := runL_pos S T
      exact scrGo_len T N f _ _ (by simp; omega) (by simp; omega)
    · show L.length = N; omega
theorem scr_len (T N S : Nat) : (scr T N S).1.length = N := scrGo_len T N N [] S (by simp) (by simp)
theorem scrGo_lt (T N : Nat) : ∀ (f : Nat) (L : List (Int × Int)) (S : Nat), S < 18446744073709551616 → (scrGo T N f L S).2 < 18446744073709551616
  | 0, L, S, h => h
  | f + 1, L, S, h => by
    unfold scrGo
    split
    · exact scrGo_lt T N f _ _ (st_lt _ _)
    · exact h
theorem scrAll_lt (S : Nat) (T n : Int) (h : S < 18446744073709551616) : (scrAll S T n).2 < 18446744073709551616 := by
  unfold scrAll; split
  · exact scrGo_lt _ _ _ _ _ h
  · exact h

/-- Both scripts are made. -/
structure TwoS (w wr : World) (a b d S : Nat) (L : List (Int × Int)) (k cp1 cp2 : Nat) (A1 A2 : Option Addr) (T : Int) : Prop where
  da : Dc wr a S
  db : Dc wr b S
  o1 : wr.ownsRow (d + 1) 48 2 (.slice A1 k cp1) k (flat L)
  o2 : wr.ownsRow (d + 1) 48 2 (.slice A2 k cp2) k (flat L)
  le : L.length = k
  lt : S < 18446744073709551616
  box : wr.heap[d]? = some (.cells #[.int .i64 1, .int .i64 T, .int .i64 1] 34 (0, 0))
  ab : w.heap.size ≤ a ∧ a < b ∧ b < d
  bel : Below w.heap.size w wr

theorem But.undrew {l : List Nat} {w w' : World} (h : But l w.drew w') : But l w w' := ⟨h.os, h.tape, h.output, h.size, h.block⟩
def ScrB (w : World) (c : Nat) (L : List (Int × Int)) (k S2 : Nat) (e : Ending) (w' : World) : Prop :=
  ∃ (A : Option Addr) (cp : Nat), e = .returned (.slice A k cp) ∧ w'.ownsRow w.heap.size 48 2 (.slice A k cp) k (flat L) ∧ Dc w' c S2 ∧ But [c] w w'
theorem script_b (S : Nat) (T n : Int) (hS : S < 18446744073709551616) (hn : n ≤ 300) (L : List (Int × Int)) (k S2 : Nat) (hL : scrAll S T n = (L, S2)) (hk : L.length = k) (w : World) (c : Nat) (h : Dc w c S) :
    Calls Try.prog 14 #[.pointer (some ⟨c, 0, none⟩), .agg #[.int .i64 1, .int .i64 T, .int .i64 1], .int .i64 n] w (ScrB w c L k S2) := by
  subst hk
  have := script_all w c S 1 T 1 n hS hn h
  rw [hL] at this
  exact this
theorem twoS_end {w X w3 w4 : World} {a b d S2 k cp1 cp2 : Nat} {L : List (Int × Int)} {A1 A2 : Option Addr} {T : Int} (ha : w.heap.size = a) (hab : a < b ∧ b < d) (hX3 : X.heap.size = d + 1)
    (hbox : X.heap[d]? = some (.cells #[.int .i64 1, .int .i64 T, .int .i64 1] 34 (0, 0))) (hbel : Below a w X)
    (hO1 : w3.ownsRow (d + 1) 48 2 (.slice A1 k cp1) k (flat L)) (hDa : Dc w3 a S2) (hB1 : But [a] X w3) (hO2 : w4.ownsRow w3.heap.size 48 2 (.slice A2 k cp2) k (flat L)) (hDb : Dc w4 b S2) (hB2 : But [b] w3 w4)
    (hl : L.length = k) (hS2 : S2 < 18446744073709551616) : TwoS w w4 a b d S2 L k cp1 cp2 A1 A2 T := by
  have hs := hB1.size
  subst ha
  refine ⟨hDa.but hB2 (by simp; omega), hDb, hO1.kept hB2.grownBy (Or.inr (fun e => by have := (hO1.lt b e).1; omega)), owns_less hO2 (by omega), hl, hS2, ?_, ⟨Nat.le_refl _, hab.1, hab.2⟩, ?_⟩
  · exact (hB2.block d (Nat.lt_of_lt_of_le (block_lt hbox) hs) (by simp; omega)).trans ((hB1.block d (block_lt hbox) (by simp; omega)).trans hbox)
  · exact (hbel.trans (hB1.below (by simp) hbel.size)).trans (hB2.below (by simp; omega) (Nat.le_trans hbel.size hs))

theorem twoS_mid {w X w3 : World} {a b d S S2 k cp1 : Nat} {L : List (Int × Int)} {A1 : Option Addr} {T : Int} (hab : a < b ∧ b < d) (hX3 : X.heap.size = d + 1)
    (HX : Dc X a S ∧ Dc X b S ∧ X.heap[d]? = some (.cells #[.int .i64 1, .int .i64 T, .int .i64 1] 34 (0, 0)) ∧ Below a w X)
    (hO1 : w3.ownsRow X.heap.size 48 2 (.slice A1 k cp1) k (flat L)) (hDa : Dc w3 a S2) (hB1 : But [a] X.drew w3) :
    Hid (w3.ownsRow (d + 1) 48 2 (.slice A1 k cp1) k (flat L)) ∧ Hid (Dc w3 a S2) ∧ Hid (But [a] X w3) ∧ Hid (Dc w3 b S) ∧ (w3.cell? ⟨d, 0, none⟩ = some (.int .i64 1) ∧ w3.cell? ⟨d, 1, none⟩ = some (.int .i64 T) ∧ w3.cell? ⟨d, 2, none⟩ = some (.int .i64 1)) := by
  have hb := hB1.undrew
  have hbx := (hb.block d (by omega) (by simp; omega)).trans HX.2.2.1
  exact ⟨owns_less hO1 (by omega), hDa, hb, HX.2.1.but hb (by simp; omega), ⟨by simp [World.cell?, hbx], by simp [World.cell?, hbx], by simp [World.cell?, hbx]⟩⟩
theorem twoS_box {w3 w4 : World} {a b d : Nat} {T : Int} (hab : a < b ∧ b < d) (y : w3.cell? ⟨d, 0, none⟩ = some (.int .i64 1) ∧ w3.cell? ⟨d, 1, none⟩ = some (.int .i64 T) ∧ w3.cell? ⟨d, 2, none⟩ = some (.int .i64 1)) (hB : But [b] w3 w4) :
    w4.cell? ⟨d, 0, none⟩ = some (.int .i64 1) ∧ w4.cell? ⟨d, 1, none⟩ = some (.int .i64 T) ∧ w4.cell? ⟨d, 2, none⟩ = some (.int .i64 1) := by
  have hk := hB.block d (cell_lt y.1) (by simp; omega)
  exact ⟨(World.cell?_of_block (a := ⟨d, 0, none⟩) hk).trans y.1, (World.cell?_of_block (a := ⟨d, 1, none⟩) hk).trans y.2.1, (World.cell?_of_block (a := ⟨d, 2, none⟩) hk).trans y.2.2⟩
theorem scrAll_len (S : Nat) (T n : Int) (hn : n ≤ 300) (L : List (Int × Int)) (k S2 : Nat) (hL : scrAll S T n = (L, S2)) (hk : L.length = k) : (1 ≤ T ∧ T ≤ 256 ∧ 0 ≤ n → (k : Int) = n) ∧ (¬ (1 ≤ T ∧ T ≤ 256 ∧ 0 ≤ n) → k = 0) := by
  refine ⟨fun h => ?_, fun h => ?_⟩
  · unfold scrAll at hL
    rw [if_pos h] at hL
    have := scr_len T.toNat n.toNat S
    rw [hL] at this
    simp only at this
    omega
  · unfold scrAll at hL
    rw [if_neg h] at hL
    cases hL
    simpa using hk.symm
theorem twoS_next {w w4 w5 w6 : World} {a b d S k cp1 cp2 : Nat} {L : List (Int × Int)} {A1 A2 : Option Addr} {T : Int} (h : TwoS w w4 a b d S L k cp1 cp2 A1 A2 T) (hD5 : Dc w5 a (st S 1)) (hB5 : But [a] w4 w5) (hD6 : Dc w6 b (st S 1)) (hB6 : But [b] w5 w6) :
    TwoS w w6 a b d (st S 1) L k cp1 cp2 A1 A2 T := by
  have hab := h.ab
  have hbt := hB5.grownBy
  have e1 : ∀ {A : Option Addr} {cp : Nat}, w4.ownsRow (d + 1) 48 2 (.slice A k cp) k (flat L) → w6.ownsRow (d + 1) 48 2 (.slice A k cp) k (flat L) := fun {A cp} o =>
    (o.kept hB5.grownBy (Or.inr (fun e => by have := (o.lt a e).1; omega))).kept hB6.grownBy (Or.inr (fun e => by have := (o.lt b e).1; omega))
  refine ⟨hD5.but hB6 (by simp; omega), hD6, e1 h.o1, e1 h.o2, h.le, st_lt _ _, ?_, hab, ?_⟩
  · exact (hB6.block d (Nat.lt_of_lt_of_le (block_lt h.box) hB5.size) (by simp; omega)).trans ((hB5.block d (block_lt h.box) (by simp; omega)).trans h.box)
  · exact (h.bel.trans (hB5.below (by simp; omega) h.bel.size)).trans (hB6.below (by simp; omega) (Nat.le_trans h.bel.size hB5.size))
theorem twoS_drewN {w wr : World} {a b d S k cp1 cp2 : Nat} {L : List (Int × Int)} {A1 A2 : Option Addr} {T : Int} (h : TwoS w wr a b d S L k cp1 cp2 A1 A2 T) (n : Nat) : TwoS w (wr.drewN n) a b d S L k cp1 cp2 A1 A2 T :=
  ⟨h.da, h.db, h.o1, h.o2, h.le, h.lt, h.box, h.ab, ⟨h.bel.os, h.bel.tape, h.bel.output, h.bel.size, h.bel.block⟩⟩
theorem tail_cases (T n : Int) (k : Nat) (h : (1 ≤ T ∧ T ≤ 256 ∧ 0 ≤ n → (k : Int) = n) ∧ (¬ (1 ≤ T ∧ T ≤ 256 ∧ 0 ≤ n) → k = 0)) :
    (1 ≤ T ∧ T ≤ 256 ∧ (k : Int) = n) ∨ (1 ≤ T ∧ T ≤ 256 ∧ n < 0 ∧ k = 0) ∨ (T < 1 ∧ n < 0 ∧ k = 0) ∨ (T < 1 ∧ n = 0 ∧ k = 0) ∨ (T < 1 ∧ 1 ≤ n ∧ ((0 : Int) == n) = false ∧ ¬ ((0 : Int) = n) ∧ k = 0) ∨ (1 ≤ T ∧ 256 < T ∧ n < 0 ∧ k = 0) ∨ (1 ≤ T ∧ 256 < T ∧ n = 0 ∧ k = 0) ∨ (1 ≤ T ∧ 256 < T ∧ 1 ≤ n ∧ ((0 : Int) == n) = false ∧ ¬ ((0 : Int) = n) ∧ k = 0) := by
  have ne : ∀ m : Int, 1 ≤ m → ((0 : Int) == m) = false ∧ ¬ ((0 : Int) = m) := fun m hm => ⟨by simp; omega, by omega⟩
  rcases (show T < 1 ∨ 1 ≤ T by omega) with a | a
  · have hk : k = 0 := h.2 (by omega)
    rcases (show n < 0 ∨ n = 0 ∨ 1 ≤ n by omega) with c | c | c
    · exact Or.inr (Or.inr (Or.inl ⟨a, c, hk⟩))
    · exact Or.inr (Or.inr (Or.inr (Or.inl ⟨a, c, hk⟩)))
    · exact Or.inr (Or.inr (Or.inr (Or.inr (Or.inl ⟨a, c, (ne n c).1, (ne n c).2, hk⟩))))
  · rcases (show 256 < T ∨ T ≤ 256 by omega) with b | b
    · have hk : k = 0 := h.2 (by omega)
      rcases (show n < 0 ∨ n = 0 ∨ 1 ≤ n by omega) with c | c | c
      · exact Or.inr (Or.inr (Or.inr (Or.inr (Or.inr (Or.inl ⟨a, b, c, hk⟩)))))
      · exact Or.inr (Or.inr (Or.inr (Or.inr (Or.inr (Or.inr (Or.inl ⟨a, b, c, hk⟩))))))
      · exact Or.inr (Or.inr (Or.inr (Or.inr (Or.inr (Or.inr (Or.inr (⟨a, b, c, (ne n c).1, (ne n c).2, hk⟩)))))))
    · rcases (show n < 0 ∨ 0 ≤ n by omega) with c | c
      · exact Or.inr (Or.inl ⟨a, b, c, h.2 (by omega)⟩)
      · exact Or.inl ⟨a, b, h.1 ⟨a, b, c⟩⟩
theorem tail_mem {w wr w7 w8 : World} {d : Nat} {T : Int} {o : Obj} (hbox : wr.heap[d]? = some (.cells #[.int .i64 1, .int .i64 T, .int .i64 1] 34 (0, 0))) (hbel : Below w.heap.size w wr) (h7 : Below wr.heap.size wr w7) (h8 : Below (w7.alloc o).heap.size (w7.alloc o) w8) :
    Below w.heap.size w w8 ∧ w8.cell? ⟨d, 0, none⟩ = some (.int .i64 1) ∧ w8.cell? ⟨d, 1, none⟩ = some (.int .i64 T) ∧ w8.cell? ⟨d, 2, none⟩ = some (.int .i64 1) := by
  have e : (w7.alloc o).heap.size = w7.heap.size + 1 := by simp
  have h78 : Below w7.heap.size w7 w8 := ((Below.refl _ _).alloc (Nat.le_refl _) o).trans (h8.mono (by omega))
  have h : Below wr.heap.size wr w8 := h7.trans (h78.mono h7.size)
  have hk := (h.block d (block_lt hbox)).trans hbox
  exact ⟨hbel.trans (h.mono hbel.size), by simp [World.cell?, hk], by simp [World.cell?, hk], by simp [World.cell?, hk]⟩
set_option maxHeartbeats 2000000 in
theorem same_few (S : Nat) (hS : S < 18446744073709551616) (T n : Int) (w : World) (hn : n ≤ 300) :
    Calls Try.prog 5 #[.int .u64 (S : Int), .int .i64 T, .int .i64 n] w fun e w' => e = .returned (.bool true) ∧ Below w.heap.size w w' := by
  have HS : Hid (S < 18446744073709551616) := hS
  have HN : Hid (n ≤ 300) := hn
  go_enter Try.func5, Try.ntmps5
  go_wp2_with fail
  go_at_call 7; refine (new_any _ S).mono ?_; rintro e w1 ⟨rfl, hD1, hb1, hz1⟩
  go_wp2_with fail
  go_at_call 7; refine (new_any _ S).mono ?_; rintro e w2 ⟨rfl, hD2, hb2, hz2⟩
  have HX : Hid (Dc (w2.alloc (.cells #[.int .i64 1, .int .i64 T, .int .i64 1] 34)) w.heap.size S ∧ Dc (w2.alloc (.cells #[.int .i64 1, .int .i64 T, .int .i64 1] 34)) w1.heap.size S ∧ (w2.alloc (.cells #[.int .i64 1, .int .i64 T, .int .i64 1] 34)).heap[w2.heap.size]? = some (.cells #[.int .i64 1, .int .i64 T, .int .i64 1] 34 (0, 0)) ∧ Below w.heap.size w (w2.alloc (.cells #[.int .i64 1, .int .i64 T, .int .i64 1] 34))) := by
    have hB := (Below.refl w2.heap.size w2).alloc (Nat.le_refl _) (.cells #[.int .i64 1, .int .i64 T, .int .i64 1] 34)
    exact ⟨(hD1.below hb2 (by omega)).below hB (by omega), hD2.below hB (by omega), heap_alloc_new _ _, (hb1.trans (hb2.mono (by omega))).trans (hB.mono (by omega))⟩
  have hX3 : (w2.alloc (.cells #[.int .i64 1, .int .i64 T, .int .i64 1] 34)).heap.size = w2.heap.size + 1 := by simp
  have hab : w.heap.size < w1.heap.size ∧ w1.heap.size < w2.heap.size := by omega
  clear hD1 hb1 hz1 hD2 hb2 hz2
  go_wp2_with fail
  generalize w2.alloc (.cells #[.int .i64 1, .int .i64 T, .int .i64 1] 34) = X at HX hX3 ⊢
  have x0 : X.cell? ⟨w2.heap.size, 0, none⟩ = some (.int .i64 1) := by have := HX.out.2.2.1; simp [World.cell?, this]
  have x1 : X.cell? ⟨w2.heap.size, 1, none⟩ = some (.int .i64 T) := by have := HX.out.2.2.1; simp [World.cell?, this]
  have x2 : X.cell? ⟨w2.heap.size, 2, none⟩ = some (.int .i64 1) := by have := HX.out.2.2.1; simp [World.cell?, this]
  generalize ha : w.heap.size = a at HX hab ⊢
  have HA : Hid (w.heap.size = a) := ha
  generalize hb : w1.heap.size = b at HX hab ⊢
  generalize hd : w2.heap.size = d at HX hab x0 x1 x2 hX3 ⊢
  clear ha hb hd
  obtain ⟨L, S2, k, HL, HK⟩ : ∃ L S2 k, Hid (scrAll S T n = (L, S2)) ∧ Hid (L.length = k) := ⟨(scrAll S T n).1, (scrAll S T n).2, _, rfl, rfl⟩
  have HC : Hid (∀ (w : World) (c : Nat), Dc w c S → Calls Try.prog 14 #[.pointer (some ⟨c, 0, none⟩), .agg #[.int .i64 1, .int .i64 T, .int .i64 1], .int .i64 n] w (ScrB w c L k S2)) := script_b S T n HS.out HN.out L k S2 HL.out HK.out
  have HS2 : Hid (S2 < 18446744073709551616) := by have := scrAll_lt S T n HS.out; rw [HL.out] at this; exact this
  have HDa0 : Hid (Dc X.drew a S) := HX.out.1
  have hH : X.drew.cell? ⟨d, 0, none⟩ = some (.int .i64 1) ∧ X.drew.cell? ⟨d, 1, none⟩ = some (.int .i64 T) ∧ X.drew.cell? ⟨d, 2, none⟩ = some (.int .i64 1) := ⟨x0, x1, x2⟩
  go_region_held3 (fun w' => w'.cell? ⟨d, 0, none⟩ = some (.int .i64 1) ∧ w'.cell? ⟨d, 1, none⟩ = some (.int .i64 T) ∧ w'.cell? ⟨d, 2, none⟩ = some (.int .i64 1)) (first | exact hH | assumption) (first | (go_at_call 14; (with_reducible refine (HC.out _ a HDa0.out).mono ?_); rintro e w3 ⟨A1, cp1, rfl, hO1, hDa, hB1⟩; obtain ⟨HO1, HDa, HB1, HDb, y0⟩ := twoS_mid hab hX3 HX.out hO1 hDa hB1; clear hO1 hDa hB1) | (go_at_call 14; (with_reducible refine (HC.out _ b HDb.out).mono ?_); rintro e w4 ⟨A2, cp2, rfl, hO2, hDb, hB2⟩; have HO2 := Lib.hid hO2; have HDb4 := Lib.hid hDb; have y4 : w4.cell? ⟨d, 0, none⟩ = some (.int .i64 1) ∧ w4.cell? ⟨d, 1, none⟩ = some (.int .i64 T) ∧ w4.cell? ⟨d, 2, none⟩ = some (.int .i64 1) := twoS_box hab y0 hB2; have HB2 := Lib.hid hB2; clear hO2 hDb hB2))
  rename_i hHeld
  have hTW : TwoS w w4 a b d S2 L k cp1 cp2 A1 A2 T := twoS_end HA.out hab hX3 HX.out.2.2.1 HX.out.2.2.2 HO1.out HDa.out HB1.out HO2.out HDb4.out HB2.out HK.out HS2.out
  have HTW := Lib.hid hTW
  have HKN : Hid ((1 ≤ T ∧ T ≤ 256 ∧ 0 ≤ n → (k : Int) = n) ∧ (¬ (1 ≤ T ∧ T ≤ 256 ∧ 0 ≤ n) → k = 0)) := scrAll_len S T n HN.out L k S2 HL.out HK.out
  clear hTW hHeld y4 HB2 HDb4 HO2 y0 HDb HB1 HDa HO1 hH HDa0 HC x0 x1 x2 HX hX3
  go_wp2_with fail
  go_at_call 10; refine (next_any _ a S2 HS2.out HTW.out.da).mono ?_; rintro e w5 ⟨rfl, hD5, hB5⟩
  go_wp2_with fail
  go_at_call 10; refine (next_any _ b S2 HS2.out (HTW.out.db.but hB5 (by simp; omega))).mono ?_; rintro e w6 ⟨rfl, hD6, hB6⟩
  have hTW := twoS_next HTW.out hD5 hB5 hD6 hB6
  clear hD5 hB5 hD6 hB6 HTW
  go_wp2_with fail
  go_loopw [12] (fun i wr => ∃ j : Nat, j ≤ k ∧ i = .int .i64 j ∧ TwoS w wr a b d (st S2 1) L k cp1 cp2 A1 A2 T) (fun i _ => k - (intOf i).toNat)
  case atStart => exact ⟨0, Nat.zero_le _, rfl, hTW⟩
  case round =>
    obtain ⟨j, hj, rfl, hR⟩ := hrel
    clear hTW
    by_cases hlt : j < k
    · obtain ⟨g1, x, y, rfl, hx, c0, c1⟩ := own_pair hR.o1 hR.le j hlt
      obtain ⟨g2, x', y', rfl, hx', c2, c3⟩ := own_pair hR.o2 hR.le j hlt
      rw [hx] at hx'
      simp only [Option.some.injEq, Prod.mk.injEq] at hx'
      obtain ⟨rfl, rfl⟩ := hx'
      have HR := Lib.hid hR
      have hne := neq48
      have hk63 : (k : Int) ≤ 9223372036854775807 := by have := HKN.out; have := HN.out; omega
      clear hR hx
      go_wp2_with fail
      go_quiet (fail)
      have hR2 : TwoS w (wr.drewN nq) a b d (st S2 1) L k cp1 cp2 (some ⟨g1, 0, none⟩) (some ⟨g2, 0, none⟩) T := twoS_drewN HR.out nq
      go_wp2_with fail
      go_roundw
      case rel => exact ⟨j + 1, by omega, by go_num, hR2⟩
      case measure => simp [intOf]; omega
    · obtain rfl : j = k := by omega
      have hab2 := hR.ab
      have HBX := Lib.hid hR.box
      have HBL := Lib.hid hR.bel
      have hn300 := HN.out
      have hc := tail_cases T n j HKN.out
      clear hR HKN HN HL HK HS2 HS hS hn hlt hj
      rcases hc with ⟨t1, t2, rfl⟩ | ⟨t1, t2, t3, rfl⟩ | ⟨t1, t3, rfl⟩ | ⟨t1, rfl, rfl⟩ | ⟨t1, t3, e1, e2, rfl⟩ | ⟨t1, t2, t3, rfl⟩ | ⟨t1, t2, rfl, rfl⟩ | ⟨t1, t2, t3, e1, e2, rfl⟩
      all_goals
        go_wp2_with fail
        go_at_call 12; refine (config_nil _ 1 1 1).mono ?_; rintro e w7 ⟨rfl, hb7⟩
        have HB7 := Lib.hid hb7
        have hs7 := hb7.size
        clear hb7
        go_wp2_with fail
        go_at_call 6; refine (awake_any _).mono ?_; rintro e w8 ⟨rfl, hb8⟩
        have HB8 := Lib.hid (tail_mem HBX.out HBL.out HB7.out hb8)
        have v0 := HB8.out.2.1
        have v1 := HB8.out.2.2.1
        have v2 := HB8.out.2.2.2
        clear hb8
        go_wp2_with fail
        go_at_call 10; refine (next_nil _).mono ?_; rintro e w9 ⟨rfl, rfl⟩
        go_wp2_with fail
        go_at_call 9; refine (below_nil _ _ (by omega)).mono ?_; rintro e w9 ⟨rfl, rfl⟩
        go_wp2_with fail
        go_at_call 17; refine (programs_nil _ _).mono ?_; rintro e w9 ⟨rfl, rfl⟩
        go_wp2_with fail
        go_at_call 14; refine (script_wrong _ none _ _ _ _ (Or.inl rfl)).mono ?_; rintro e w10 ⟨rfl, hb10⟩
        have HB10 := Lib.hid (HB8.out.1.trans (hb10.mono HB8.out.1.size))
        clear hb10
        go_wp2_with fail
        go_at_call 20; refine (draws_nil _ _).mono ?_; rintro e w11 ⟨rfl, rfl⟩
        go_wp2_with fail
        go_ret
        first | exact ⟨rfl, HB10.out⟩ | (refine ⟨ret_bool ?_, HB10.out⟩; simp; omega)
theorem same_many (S : Nat) (T n : Int) (w : World) (hn : 300 < n) :
    Calls Try.prog 5 #[.int .u64 (S : Int), .int .i64 T, .int .i64 n] w fun e w' => e = .returned (.bool true) ∧ Below w.heap.size w w' := by
  go_enter Try.func5, Try.ntmps5
  go_wp2_with fail
  go_at_call 6; refine (awake_any _).mono ?_; rintro e w1 ⟨rfl, hb1⟩
  go_wp2_with fail
  go_ret
  exact ⟨rfl, hb1⟩
theorem diceSame_walk (s T n : Int) (w : World) (hs : 0 ≤ s ∧ s ≤ 18446744073709551615) :
    Calls Try.prog 5 #[.int .u64 s, .int .i64 T, .int .i64 n] w fun e w' => e = .returned (.bool true) ∧ Below w.heap.size w w' := by
  obtain ⟨k, rfl⟩ : ∃ k : Nat, s = (k : Int) := ⟨s.toNat, by omega⟩
  by_cases h : 300 < n
  · exact same_many k T n w h
  · exact same_few k (by omega) T n w (by omega)
end Go.Proofs.Yteibdjbipfimeaa
