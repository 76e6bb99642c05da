/- Lists that go from word to word of a memory: links.List. -/
import Derived.Test.YtcjidigpdecdlaaGreatLaw
import Derived.Test.YtcjidigpdecdlaaGreatLock1
import Derived.Maps.OwnSet
import Derived.Maps.AppendAt
import Derived.OwnWalk
import Derived.ChangeShapes
namespace Go.Proofs.YtcjidigpdecdlaaGreat
open Go Go.RowKit Go.Maps
set_option linter.unusedVariables false
set_option maxRecDepth 100000
set_option linter.unusedSimpArgs false

/-- How a list goes on from a word: acc are the numbers so far, nx tells the word behind a number. -/
def lsGo (nx : Int → Int) (many : Int) : Nat → List Int → Int → List Int × Bool
  | 0, acc, _ => (acc, false)
  | f + 1, acc, w => if w = 0 then (acc, true) else if (w - 1) ∈ acc ∨ many < w then (acc, false) else lsGo nx many f (acc ++ [w - 1]) (nx (w - 1))
def lsOf (nx : Int → Int) (many w : Int) : List Int × Bool := lsGo nx many (many.toNat + 1) [] w

theorem nodup_room : ∀ (m : Nat) (l : List Int), l.Nodup → (∀ x ∈ l, 0 ≤ x ∧ x < m) → l.length ≤ m
  | 0, l, _, h => by
    cases l with
    | nil => simp
    | cons a r => have := h a (by simp); omega
  | m + 1, l, hn, h => by
    by_cases hm : (m : Int) ∈ l
    · have h1 := nodup_room m (l.erase m) (hn.erase _) (fun x hx => by
        have h2 := h x (List.mem_of_mem_erase hx)
        have h3 : x ≠ m := fun e => by
          rw [e] at hx
          exact (List.Nodup.mem_erase_iff hn).1 hx |>.1 rfl
        omega)
      have h4 := List.length_erase_of_mem hm
      omega
    · have := nodup_room m l hn (fun x hx => by
        have h2 := h x hx
        have h3 : x ≠ m := fun e => hm (e ▸ hx)
        omega)
      omega

theorem any_word (x : Int) : ∀ l : List Int, (l.map (fun n => Lit.int .u64 (n + 1))).any (fun y => y.sameKey (.int .u64 x)) = decide ((x - 1) ∈ l)
  | [] => rfl
  | a :: r => by
    rw [List.map_cons, List.any_cons, any_word x r]
    show (decide (IntKind.u64 = IntKind.u64 ∧ a + 1 = x) || _) = _
    by_cases e : a + 1 = x
    · have : x - 1 = a := by omega
      simp [e, this]
    · have : x - 1 ≠ a := by omega
      simp [e, this]
theorem has_words {H : Type} (l : List Int) (x : Int) : Maps.has (setOf (H := H) (.agg []) (l.map (fun n => Lit.int .u64 (n + 1)))) (.int .u64 x) = decide ((x - 1) ∈ l) := by
  rw [has_setOf _ _ _ (fun y hy => by obtain ⟨_, _, rfl⟩ := List.mem_map.1 hy; trivial)]
  exact any_word x l

/-- A list of ints that the call made. -/
structure IntsOn (w : World) (base : Nat) (v : Value) (l : List Int) : Prop where
  own : w.ownsRow base 3 1 v l.length (l.map (Value.int .i64))
theorem lists_keyed : Keyed Tryz.prog 41 := int_keyed Tryz.underlying41
theorem lists_zero (w : World) : (zeroValue 272).run Tryz.prog w = .ok (.agg #[]) w := by kernel_rfl
theorem lists_info3 : (Tryz.prog.info? 3).map (fun i => (i.zero, i.size, i.bytes)) = some (some (.int .i64 0), 1, 8) := by kernel_rfl
theorem lists_row_ne {w : World} {base : Nat} {e : TypeId} {size : Nat} {v : Value} {n : Nat} {xs : List Value} (h : w.ownsRow base e size v n xs) {b : Nat} (hb : b < base) : some b ≠ v.ownBlock := fun e1 => by
  have := (h.lt b e1.symm).1
  omega
theorem row_but {w w' : World} {base : Nat} {e : TypeId} {size : Nat} {v : Value} {n : Nat} {xs : List Value} {l : List Nat} (h : w.ownsRow base e size v n xs) (hB : But l w w') (hl : ∀ b ∈ l, b < base) : w'.ownsRow base e size v n xs := by
  refine ⟨h.1, ?_⟩
  rcases h.2 with h0 | ⟨gb, cp, cur, e0, hb, hh, rest⟩
  · exact .inl h0
  · exact .inr ⟨gb, cp, cur, e0, hb, (hB.block gb (block_lt hh) (fun hm => absurd (hl gb hm) (by omega))).trans hh, rest⟩
theorem row_below {w w' : World} {base : Nat} {e : TypeId} {size : Nat} {v : Value} {n : Nat} {xs : List Value} (h : w.ownsRow base e size v n xs) (hB : Below w.heap.size w w') : w'.ownsRow base e size v n xs := row_but h (But.of_below (l := []) hB) (fun b hb => by cases hb)
theorem map_below {H : Type} {P : Program} {w w' : World} {k : TypeId} {R : Value → Option (DataW H × List MemPlace)} {b n : Nat} {D : DataW H} (h : w.ownsMap P k R b n D) (hB : Below w.heap.size w w') : w'.ownsMap P k R b n D := by
  obtain ⟨es, clock, h1, rest⟩ := h
  exact ⟨es, clock, (hB.block b (block_lt h1)).trans h1, rest⟩
theorem lists_slice {w : World} {base : Nat} {e : TypeId} {size : Nat} {v : Value} {n : Nat} {xs : List Value} (h : w.ownsRow base e size v n xs) : ∃ A cap, v = .slice A n cap := by
  rcases h.2 with ⟨e0, h0⟩ | ⟨gb, cp, cur, e0, hb, hh, rest⟩
  · subst h0; exact ⟨none, 0, e0⟩
  · exact ⟨_, _, e0⟩
theorem lists_wf {x : Int} (h : 0 ≤ x ∧ x ≤ 18446744073709551615) : (Lit.int .u64 x).wf = true := by
  unfold Lit.wf
  simp [IntKind.min, IntKind.max, IntKind.bits, IntKind.signed]
  omega

set_option maxHeartbeats 4000000 in
theorem links_any (w : World) (A : Option Addr) (cap c b n : Nat) (s : St) (first many : Int) (K bx : Nat) (pl : Int → Int) (hI : Is w 168 A cap c b n s) (hn : n ≤ 1000000) (hm : 0 ≤ many ∧ many ≤ 65536)
    (hent : Ent K) (hlink : ∀ W, Below w.heap.size w W → ∀ g, Calls Tryz.prog K #[.int .i64 g, .pointer (some ⟨bx, 0, none⟩)] W fun e w' => e = .returned (.int .i64 (pl g)) ∧ Below W.heap.size W w') :
    Calls Tryz.prog 143 #[.pointer (some ⟨c, 0, none⟩), .int .i64 first, .int .i64 many, .func (.func K) #[] #[.pointer (some ⟨bx, 0, none⟩)]] w fun e w' => ∃ v, e = .returned (.tuple #[v, .bool (lsOf (fun g => peekT n s (pl g)) many (peekT n s first)).2]) ∧ IntsOn w' (w.heap.size + 1) v (lsOf (fun g => peekT n s (pl g)) many (peekT n s first)).1 ∧ Below w.heap.size w w' := by
  have hmm := @run_makeMap Tryz.prog
  obtain ⟨i0, hi, hz0, hz1, hz2⟩ := info_parts lists_info3
  have HI : Hid (∀ W, Below w.heap.size w W → Is W 168 A cap c b n s) := fun W h => hI.below h
  have HL : Hid (∀ W, Below w.heap.size w W → ∀ g, Calls Tryz.prog K #[.int .i64 g, .pointer (some ⟨bx, 0, none⟩)] W fun e w' => e = .returned (.int .i64 (pl g)) ∧ Below W.heap.size W w') := hlink
  have HPB : Hid (∀ i, 0 ≤ peekT n s i ∧ peekT n s i ≤ 18446744073709551615) := fun i => by
    unfold peekT
    split
    · exact hI.bd _ (by omega)
    · omega
  have hent' : ∀ (g : Int) (w : World), (callFunc K #[.int .i64 g, .pointer (some ⟨bx, 0, none⟩)]).run Tryz.prog w = .ok (.enter K #[.int .i64 g, .pointer (some ⟨bx, 0, none⟩)]) w := fun g w => hent _ w
  have HP1 : Hid (Calls Tryz.prog 39 #[.pointer (some ⟨c, 0, none⟩), .int .i64 first] (w.alloc (.map #[] 0)) fun e w' => e = .returned (.tuple #[.int .u64 (peekT n s first), .bool (decide (0 ≤ first ∧ first < n))]) ∧ w.alloc (.map #[] 0) = w') := peek_any _ A cap c b n s first (hI.below ((Below.refl _ _).alloc (Nat.le_refl _) _)) hn
  have HR : Hid (∃ r, lsOf (fun g => peekT n s (pl g)) many (peekT n s first) = r) := ⟨_, rfl⟩
  have w1 : IntKind.u64.wrap many = many := wrap_u64 (by omega)
  obtain ⟨r, hr⟩ := HR.out
  rw [hr]
  clear hI hlink hent HR
  go_enter Tryz.func143, Tryz.ntmps143
  go_wp2_with fail
  go_at_call 39; refine HP1.out.mono ?_; rintro e w2 ⟨rfl, rfl⟩
  have HW0 : Hid (0 ≤ peekT n s first ∧ peekT n s first ≤ 18446744073709551615) := HPB.out first
  have HR0 : Hid (lsGo (fun g => peekT n s (pl g)) many (many.toNat + 1) [] (peekT n s first) = r) := hr
  generalize peekT n s first = fw at *
  clear HP1 hr
  go_wp2_with fail
  go_loopw [10, 12] (fun v x wr => ∃ (acc : List Int) (wv : Int), x = .int .u64 wv ∧ Hid (0 ≤ wv ∧ wv ≤ 18446744073709551615) ∧ Hid (wr.ownsMap Tryz.prog 41 unitElem w.heap.size acc.length (setOf (H := Unit) (.agg []) (acc.map (fun n => Lit.int .u64 (n + 1))))) ∧ Hid (wr.ownsRow (w.heap.size + 1) 3 1 v acc.length (acc.map (Value.int .i64))) ∧
      Hid (Below w.heap.size w wr) ∧ w.heap.size + 1 ≤ wr.heap.size ∧ Hid (acc.Nodup ∧ ∀ y ∈ acc, 0 ≤ y ∧ y < many) ∧ acc.length ≤ many.toNat ∧ Hid (lsGo (fun g => peekT n s (pl g)) many (many.toNat + 1 - acc.length) acc wv = r))
    (fun v _ _ => match v with | .slice _ k _ => many.toNat + 1 - k | _ => 0)
  case atStart => exact ⟨[], fw, rfl, HW0, World.ownsMap_made _ _ _ _, World.ownsRow_nil _ _ _ _, (Below.refl _ _).alloc (Nat.le_refl _) _, by simp, ⟨List.nodup_nil, by simp⟩, by simp, HR0⟩
  case round =>
    clear HW0 HR0
    obtain ⟨acc, wv, rfl, HWB, HM, HO, HB, hsz, HN, hlen, HRR⟩ := hrel
    by_cases h0 : wv = 0
    · subst h0
      have HE : Hid (r = (acc, true)) := by
        have := HRR.out
        obtain ⟨f, hf⟩ : ∃ f, many.toNat + 1 - acc.length = f + 1 := ⟨many.toNat - acc.length, by omega⟩
        rw [hf] at this
        exact this.symm.trans (if_pos rfl)
      clear HRR
      go_wp2_with fail
      go_returns
      rw [HE.out]
      exact ⟨_, rfl, ⟨HO.out⟩, HB.out⟩
    · have hd0 : (wv == 0) = false := by simpa using h0
      have hkey : keyOf Tryz.prog 41 (.int .u64 wv) = some (.int .u64 wv) := keyOf_int_mk Tryz.underlying41 (lists_wf HWB.out)
      have hhas := has_words (H := Unit) acc wv
      by_cases hin : (wv - 1) ∈ acc
      · rw [decide_eq_true hin] at hhas
        have HE : Hid (r = (acc, false)) := by
          have := HRR.out
          obtain ⟨f, hf⟩ : ∃ f, many.toNat + 1 - acc.length = f + 1 := ⟨many.toNat - acc.length, by omega⟩
          rw [hf, lsGo, if_neg h0, if_pos (.inl hin)] at this
          exact this.symm
        have hMM := HM.out
        generalize setOf (H := Unit) (.agg []) (acc.map (fun n => Lit.int .u64 (n + 1))) = D at *
        clear HRR hin
        go_wp2_with (at_lookup; refine wpList_lookup_own_unit _ rfl _ _ 271 rfl 41 272 lists_keyed Tryz.underlying271 (lists_zero _) w.heap.size acc.length _ rfl hMM _ _ rfl hkey ?_; rw [hhas])
        go_returns
        rw [HE.out]
        exact ⟨_, rfl, ⟨HO.out.alloc _⟩, HB.out.alloc (by omega) _⟩
      · rw [decide_eq_false hin] at hhas
        by_cases hgt : many < wv
        · have HE : Hid (r = (acc, false)) := by
            have := HRR.out
            obtain ⟨f, hf⟩ : ∃ f, many.toNat + 1 - acc.length = f + 1 := ⟨many.toNat - acc.length, by omega⟩
            rw [hf, lsGo, if_neg h0, if_pos (.inr hgt)] at this
            exact this.symm
          have hMM := HM.out
          generalize setOf (H := Unit) (.agg []) (acc.map (fun n => Lit.int .u64 (n + 1))) = D at *
          clear HRR hin
          go_wp2_with (at_lookup; refine wpList_lookup_own_unit _ rfl _ _ 271 rfl 41 272 lists_keyed Tryz.underlying271 (lists_zero _) w.heap.size acc.length _ rfl hMM _ _ rfl hkey ?_; rw [hhas])
          go_returns
          rw [HE.out]
          exact ⟨_, rfl, ⟨HO.out.alloc _⟩, HB.out.alloc (by omega) _⟩
        · have hwb := HWB.out
          have hd1 : decide (many < wv) = false := decide_eq_false hgt
          have hN2 : (acc ++ [wv - 1]).Nodup ∧ ∀ y ∈ acc ++ [wv - 1], 0 ≤ y ∧ y < many := by
            refine ⟨List.nodup_append.2 ⟨HN.out.1, by simp, ?_⟩, fun y hy => ?_⟩
            · intro a ha b hb
              simp at hb
              rintro rfl
              exact hin (hb ▸ ha)
            · rcases List.mem_append.1 hy with hy | hy
              · exact HN.out.2 y hy
              · simp at hy; omega
          have hlen2 : acc.length + 1 ≤ many.toNat := by
            have := nodup_room many.toNat _ hN2.1 (fun x hx => by have := hN2.2 x hx; omega)
            simpa using this
          have HN2 : Hid _ := hN2
          have HE : Hid (lsGo (fun g => peekT n s (pl g)) many (many.toNat + 1 - (acc.length + 1)) (acc ++ [wv - 1]) (peekT n s (pl (wv - 1))) = r) := by
            have := HRR.out
            rw [show many.toNat + 1 - acc.length = (many.toNat + 1 - (acc.length + 1)) + 1 by omega, lsGo, if_neg h0, if_neg (fun h => by rcases h with h | h; exact hin h; exact hgt h)] at this
            exact this
          have e1 : IntKind.u64.wrap (wv - 1) = wv - 1 := wrap_u64 (by omega)
          have e2 : IntKind.i64.wrap (wv - 1) = wv - 1 := by simp [IntKind.wrap, IntKind.bits, IntKind.signed]; omega
          have hMM := HM.out
          have hOO := HO.out
          have hml : acc.length < maxLen := by unfold maxLen; omega
          have HSN : Hid (∀ D, setOf (H := Unit) (.agg []) (acc.map (fun n => Lit.int .u64 (n + 1))) = D → setOf (H := Unit) (.agg []) ((acc ++ [wv - 1]).map (fun n => Lit.int .u64 (n + 1))) = D.put (.int .u64 wv) (.agg [])) := by
            rintro D rfl
            rw [List.map_append, List.map_singleton, setOf_snoc, show wv - 1 + 1 = wv by omega]
          generalize hDD : setOf (H := Unit) (.agg []) (acc.map (fun n => Lit.int .u64 (n + 1))) = D at *
          have HDD : Hid _ := hDD
          have HGT : Hid (¬ many < wv) := hgt
          have HH0 : Hid (wv ≠ 0) := h0
          have HWB2 : Hid (0 ≤ wv ∧ wv ≤ 18446744073709551615) := hwb
          clear HRR hin hN2 hDD hgt hwb
          go_wp2_with (first | (at_lookup; refine wpList_lookup_own_unit _ rfl _ _ 271 rfl 41 272 lists_keyed Tryz.underlying271 (lists_zero _) w.heap.size acc.length _ rfl hMM _ _ rfl hkey ?_; rw [hhas]) | (at_mapUpdate; refine wpList_mapUpdate_own _ rfl _ _ _ 271 rfl 41 272 lists_keyed Tryz.underlying271 (unitElem (H := Unit)) w.heap.size acc.length _ rfl (hMM.alloc _) hml _ _ _ rfl rfl hkey _ [] unitElem_mk ?_; intro w3 hown1 hgrow1) | (at_builtin; refine wpList_append_own _ rfl _ _ 45 rfl (w.heap.size + 1) 3 i0 (.int .i64 0) 1 8 Tryz.underlying45 hi hz0 hz1 hz2 rfl (by decide) _ _ _ rfl (((hOO.alloc _).kept hgrow1 (Or.inr (lists_row_ne hOO (Nat.lt_succ_self _)).symm)).alloc _) ⟨w3.heap.size, 0, none⟩ 1 1 [.int .i64 (wv - 1)] rfl rfl (cell_one_new _ _ _) (ints_oneCell .i64 [wv - 1]) (by unfold maxLen; omega) (by omega) (by have := hgrow1.size; simp at this ⊢; omega) ?_; intro v' w4 hown' hgrow2 hnil2))
          have hr1 := (hOO.alloc (.cells #[] 272)).kept hgrow1 (Or.inr (lists_row_ne hOO (Nat.lt_succ_self _)).symm)
          have s1 := hgrow1.size
          have s2 := hgrow2.size
          simp at s1 s2
          have HM4 : Hid (w4.ownsMap Tryz.prog 41 unitElem w.heap.size (acc.length + 1) (D.put (.int .u64 wv) (.agg []))) := (hown1.alloc _).kept hgrow2 (lists_row_ne hr1 (Nat.lt_succ_self _))
          have HB4 : Hid (Below w.heap.size w w4) := (((HB.out.alloc HB.out.size _).grown hgrow1 (by simp; omega) (fun j hj => by cases hj; exact Nat.le_refl _)).alloc (by omega) _).grown hgrow2 (by simp; omega) (fun j hj => Nat.le_trans (Nat.le_succ _) (hr1.lt j hj).1)
          have HO4 : Hid (w4.ownsRow (w.heap.size + 1) 3 1 v' (acc.length + 1) (List.map (Value.int .i64) acc ++ [Value.int .i64 (wv - 1)])) := hown'
          have hs4 : w.heap.size + 1 ≤ w4.heap.size := by omega
          obtain ⟨Ao, co, hvo⟩ := lists_slice HO.out
          have HVO : Hid (_ = Value.slice Ao acc.length co) := hvo
          have hLk := HL.out w4 HB4.out (wv - 1)
          clear hown' hgrow1 hgrow2 hnil2 hr1 hown1 hMM hOO HM HO s1 s2 hvo hhas hkey
          refine hLk.mono ?_
          rintro e w5 ⟨rfl, h5⟩
          have HM5 : Hid (w5.ownsMap Tryz.prog 41 unitElem w.heap.size (acc.length + 1) (D.put (.int .u64 wv) (.agg []))) := map_below HM4.out h5
          have HO5 : Hid (w5.ownsRow (w.heap.size + 1) 3 1 v' (acc.length + 1) (List.map (Value.int .i64) acc ++ [Value.int .i64 (wv - 1)])) := row_below HO4.out h5
          have HB5 : Hid (Below w.heap.size w w5) := seq HB4.out h5
          have hP5 := peek_any w5 A cap c b n s (pl (wv - 1)) (HI.out _ HB5.out) hn
          have hs5 := h5.size
          clear hLk h5 HM4 HO4 HB4
          go_wp2_with fail
          go_at_call 39; refine hP5.mono ?_; rintro e w6 ⟨rfl, rfl⟩
          clear hP5
          go_wp2_with fail
          go_roundw
          case rel =>
            refine ⟨acc ++ [wv - 1], peekT n s (pl (wv - 1)), rfl, HPB.out _, ?_, ?_, HB5, by omega, HN2, by simpa using hlen2, ?_⟩
            · have := HM5.out
              rw [← HSN.out D rfl] at this
              rw [List.length_append]
              exact this
            · have := HO5.out
              rw [List.length_append, List.map_append]
              exact this
            · rw [List.length_append]
              exact HE.out
          case measure =>
            obtain ⟨A5, c5, e5⟩ := lists_slice HO5.out
            rw [e5, HVO.out]
            show many.toNat + 1 - (acc.length + 1) < many.toNat + 1 - acc.length
            omega
end Go.Proofs.YtcjidigpdecdlaaGreat
