/- The contracts of the reference's memory: Do and Peek. -/
import Derived.Test.YthjfbknmdligeaaGreatMake
namespace Go.Proofs.YthjfbknmdligeaaGreat
open Go Go.RowKit
set_option linter.unusedVariables false
set_option maxRecDepth 100000
set_option linter.unusedSimpArgs false

theorem Is.fld {w : World} {T : TypeId} {A : Option Addr} {cap c b n : Nat} {s : St} (h : Is w T A cap c b n s) (j : Nat) (u : Value) (s' : St) (e : (memCells A n cap s).setIfInBounds j u = memCells A n cap s') (ef : s'.f = s.f) : Is (w.setCell ⟨c, j, none⟩ u) T A cap c b n s' :=
  ⟨by rw [← e]; exact heap_set h.main j u, h.bcap, fun hn => by obtain ⟨e1, hne, cs, hh, hcs⟩ := h.wds hn; exact ⟨e1, hne, cs, (heap_set_ne _ hne _ _).trans hh, by rw [ef]; exact hcs⟩, by rw [ef]; exact h.bd, by rw [size_set]; exact h.bl⟩
theorem Is.wrd {w : World} {T : TypeId} {A : Option Addr} {cap c b n : Nat} {s : St} (h : Is w T A cap c b n s) (j : Nat) (hj : j < n) (v : Int) (hv : 0 ≤ v ∧ v ≤ 18446744073709551615) : Is (w.setCell ⟨b, j, none⟩ (.int .u64 v)) T A cap c b n { s with f := upd s.f j v } := by
  obtain ⟨e, hne, cs, hh, hcs⟩ := h.wds (by omega)
  refine ⟨?_, h.bcap, fun _ => ⟨e, hne, cs.setIfInBounds j (.int .u64 v), heap_set hh _ _, fun t ht => ?_⟩, fun t ht => ?_, by rw [size_set]; exact h.bl⟩
  · rw [heap_set_ne _ (Ne.symm hne)]; exact h.main
  · have hlt := (Array.getElem?_eq_some_iff.1 (hcs t ht)).1
    by_cases htj : t = j
    · subst htj; simp [upd, hlt]
    · simp only [upd, htj, if_false]
      rw [Array.getElem?_setIfInBounds_ne (Ne.symm htj)]
      exact hcs t ht
  · by_cases htj : t = j
    · simp only [upd, htj, if_true]; exact hv
    · simp only [upd, htj, if_false]; exact h.bd t ht
theorem Is.six {w : World} {T : TypeId} {A : Option Addr} {cap c b n : Nat} {s : St} (h : Is w T A cap c b n s) (k who i old new : Int) (done : Bool) : Is (w.setCells c 3 (accL k who i old new done).toArray.toList) T A cap c b n { s with kind := k, who := who, at' := i, old := old, new := new, done := done } := by
  simp only [accL, World.setCells]
  exact ((((((h.fld 3 _ { s with kind := k } rfl rfl).fld 4 _ { s with kind := k, who := who } rfl rfl).fld 5 _ { s with kind := k, who := who, at' := i } rfl rfl).fld 6 _ { s with kind := k, who := who, at' := i, old := old } rfl rfl).fld 7 _ { s with kind := k, who := who, at' := i, old := old, new := new } rfl rfl).fld 8 _ { s with kind := k, who := who, at' := i, old := old, new := new, done := done } rfl rfl)
theorem Is.room {w : World} {T : TypeId} {A : Option Addr} {cap c b n : Nat} {s : St} (h : Is w T A cap c b n s) (k who i old new : Int) (done : Bool) : w.there c 3 (accL k who i old new done).toArray.size := by
  intro j hj
  have hj' : j < 6 := hj
  have hm := h.main
  refine ⟨?_, by simp [World.frozen?, hm]⟩
  simp only [World.cell?, hm]
  have : 3 + j < (memCells A n cap s).size := by simp [memCells]; omega
  simp [this]

/-- Where the reference has laid down an access. -/
theorem rstart {w : World} {A : Option Addr} {cap c b n : Nat} {s : St} (h : Is w 64 A cap c b n s) (k who i new : Int) :
    (w.setCell ⟨c, 1, none⟩ (.int .i64 (s.clock + 1))).there c 3 (accL k who i 0 new false).toArray.size ∧
    Is ((w.setCell ⟨c, 1, none⟩ (.int .i64 (s.clock + 1))).setCells c 3 (accL k who i 0 new false).toArray.toList) 64 A cap c b n { s with clock := s.clock + 1, kind := k, who := who, at' := i, old := 0, new := new, done := false } ∧
    But [c, b] w ((w.setCell ⟨c, 1, none⟩ (.int .i64 (s.clock + 1))).setCells c 3 (accL k who i 0 new false).toArray.toList) :=
  have h1 := h.fld 1 (.int .i64 (s.clock + 1)) { s with clock := s.clock + 1 } rfl rfl
  ⟨h1.room _ _ _ _ _ _, h1.six _ _ _ _ _ _, But.sets (Or.inl (by simp)) _ _ ((But.refl _ _).set (Or.inl (by simp)) _ _)⟩

set_option maxHeartbeats 1000000 in
theorem rdo_bad1_lo (w : World) (A : Option Addr) (cap c b n : Nat) (s : St) (who i old : Int) (hi : i < 0) (hn : n ≤ 1000000) (hl : Low s 1000000) (h : Is w 64 A cap c b n s) :
    Calls Tryz.prog 41 #[.pointer (some ⟨c, 0, none⟩), .int .i64 1, .int .i64 who, .int .i64 i, .int .u64 old, .int .u64 0] w fun e w' => e = .returned (.int .u64 0) ∧ Is w' 64 A cap c b n { s with clock := s.clock + 1, bad := s.bad + 1, kind := 1, who := who, at' := i, old := 0, new := 0, done := false } ∧ But [c, b] w w' := by
  obtain ⟨⟨k1, k2⟩, k3, k4⟩ := hl
  have c1 := h.cells.2.1
  have f1 := h.fro 1
  have hl1 := h.lt
  obtain ⟨hT, hI, hB⟩ := rstart h 1 who i 0
  have HT : Hid _ := hT
  have HI : Hid _ := hI
  have HB : Hid _ := hB
  clear hT hI hB h
  generalize hY : (w.setCell ⟨c, 1, none⟩ (.int .i64 (s.clock + 1))).setCells c 3 (accL 1 who i 0 0 false).toArray.toList = Y at HI HB
  obtain ⟨d0, d1, d2, d3, d4, d5, d6, d7, d8⟩ := HI.out.cells
  have g2 := HI.out.fro 2
  have g6 := HI.out.fro 6
  have g7 := HI.out.fro 7
  have g8 := HI.out.fro 8
  go_enter Tryz.func41, Tryz.ntmps41
  go_wp2_with (refine wpList_store_mid rfl 48 _ _ rfl c 3 (accL 1 who i 0 0 false).toArray rfl rfl HT.out (by kernel_rfl) (accL_one _ _ _ _ _ _) ?_; rw [hY]; clear HT hY c1 f1)
  go_ret
  exact ⟨rfl, (HI.out.fld 7 _ { s with clock := s.clock + 1, kind := 1, who := who, at' := i, old := 0, new := 0, done := false } rfl rfl).fld 2 _ { s with clock := s.clock + 1, bad := s.bad + 1, kind := 1, who := who, at' := i, old := 0, new := 0, done := false } rfl rfl, (HB.out.set (Or.inl (by simp)) _ _).set (Or.inl (by simp)) _ _⟩

set_option maxHeartbeats 1000000 in
theorem rdo_bad2_lo (w : World) (A : Option Addr) (cap c b n : Nat) (s : St) (who i old new : Int) (hi : i < 0) (hn : n ≤ 1000000) (hl : Low s 1000000) (h : Is w 64 A cap c b n s) :
    Calls Tryz.prog 41 #[.pointer (some ⟨c, 0, none⟩), .int .i64 2, .int .i64 who, .int .i64 i, .int .u64 old, .int .u64 new] w fun e w' => e = .returned (.int .u64 0) ∧ Is w' 64 A cap c b n { s with clock := s.clock + 1, bad := s.bad + 1, kind := 2, who := who, at' := i, old := 0, new := new, done := false } ∧ But [c, b] w w' := by
  obtain ⟨⟨k1, k2⟩, k3, k4⟩ := hl
  have c1 := h.cells.2.1
  have f1 := h.fro 1
  have hl1 := h.lt
  obtain ⟨hT, hI, hB⟩ := rstart h 2 who i new
  have HT : Hid _ := hT
  have HI : Hid _ := hI
  have HB : Hid _ := hB
  clear hT hI hB h
  generalize hY : (w.setCell ⟨c, 1, none⟩ (.int .i64 (s.clock + 1))).setCells c 3 (accL 2 who i 0 new false).toArray.toList = Y at HI HB
  obtain ⟨d0, d1, d2, d3, d4, d5, d6, d7, d8⟩ := HI.out.cells
  have g2 := HI.out.fro 2
  have g6 := HI.out.fro 6
  have g7 := HI.out.fro 7
  have g8 := HI.out.fro 8
  go_enter Tryz.func41, Tryz.ntmps41
  go_wp2_with (refine wpList_store_mid rfl 48 _ _ rfl c 3 (accL 2 who i 0 new false).toArray rfl rfl HT.out (by kernel_rfl) (accL_one _ _ _ _ _ _) ?_; rw [hY]; clear HT hY c1 f1)
  go_ret
  exact ⟨rfl, HI.out.fld 2 _ { s with clock := s.clock + 1, bad := s.bad + 1, kind := 2, who := who, at' := i, old := 0, new := new, done := false } rfl rfl, HB.out.set (Or.inl (by simp)) _ _⟩

set_option maxHeartbeats 1000000 in
theorem rdo_bad3_lo (w : World) (A : Option Addr) (cap c b n : Nat) (s : St) (who i old new : Int) (hi : i < 0) (hn : n ≤ 1000000) (hl : Low s 1000000) (h : Is w 64 A cap c b n s) :
    Calls Tryz.prog 41 #[.pointer (some ⟨c, 0, none⟩), .int .i64 3, .int .i64 who, .int .i64 i, .int .u64 old, .int .u64 new] w fun e w' => e = .returned (.int .u64 0) ∧ Is w' 64 A cap c b n { s with clock := s.clock + 1, bad := s.bad + 1, kind := 3, who := who, at' := i, old := 0, new := new, done := false } ∧ But [c, b] w w' := by
  obtain ⟨⟨k1, k2⟩, k3, k4⟩ := hl
  have c1 := h.cells.2.1
  have f1 := h.fro 1
  have hl1 := h.lt
  obtain ⟨hT, hI, hB⟩ := rstart h 3 who i new
  have HT : Hid _ := hT
  have HI : Hid _ := hI
  have HB : Hid _ := hB
  clear hT hI hB h
  generalize hY : (w.setCell ⟨c, 1, none⟩ (.int .i64 (s.clock + 1))).setCells c 3 (accL 3 who i 0 new false).toArray.toList = Y at HI HB
  obtain ⟨d0, d1, d2, d3, d4, d5, d6, d7, d8⟩ := HI.out.cells
  have g2 := HI.out.fro 2
  have g6 := HI.out.fro 6
  have g7 := HI.out.fro 7
  have g8 := HI.out.fro 8
  go_enter Tryz.func41, Tryz.ntmps41
  go_wp2_with (refine wpList_store_mid rfl 48 _ _ rfl c 3 (accL 3 who i 0 new false).toArray rfl rfl HT.out (by kernel_rfl) (accL_one _ _ _ _ _ _) ?_; rw [hY]; clear HT hY c1 f1)
  go_ret
  exact ⟨rfl, HI.out.fld 2 _ { s with clock := s.clock + 1, bad := s.bad + 1, kind := 3, who := who, at' := i, old := 0, new := new, done := false } rfl rfl, HB.out.set (Or.inl (by simp)) _ _⟩

set_option maxHeartbeats 1000000 in
theorem rdo_bad4_lo (w : World) (A : Option Addr) (cap c b n : Nat) (s : St) (who i old new : Int) (hi : i < 0) (hn : n ≤ 1000000) (hl : Low s 1000000) (h : Is w 64 A cap c b n s) :
    Calls Tryz.prog 41 #[.pointer (some ⟨c, 0, none⟩), .int .i64 4, .int .i64 who, .int .i64 i, .int .u64 old, .int .u64 new] w fun e w' => e = .returned (.int .u64 0) ∧ Is w' 64 A cap c b n { s with clock := s.clock + 1, bad := s.bad + 1, kind := 4, who := who, at' := i, old := 0, new := new, done := false } ∧ But [c, b] w w' := by
  obtain ⟨⟨k1, k2⟩, k3, k4⟩ := hl
  have c1 := h.cells.2.1
  have f1 := h.fro 1
  have hl1 := h.lt
  obtain ⟨hT, hI, hB⟩ := rstart h 4 who i new
  have HT : Hid _ := hT
  have HI : Hid _ := hI
  have HB : Hid _ := hB
  clear hT hI hB h
  generalize hY : (w.setCell ⟨c, 1, none⟩ (.int .i64 (s.clock + 1))).setCells c 3 (accL 4 who i 0 new false).toArray.toList = Y at HI HB
  obtain ⟨d0, d1, d2, d3, d4, d5, d6, d7, d8⟩ := HI.out.cells
  have g2 := HI.out.fro 2
  have g6 := HI.out.fro 6
  have g7 := HI.out.fro 7
  have g8 := HI.out.fro 8
  go_enter Tryz.func41, Tryz.ntmps41
  go_wp2_with (refine wpList_store_mid rfl 48 _ _ rfl c 3 (accL 4 who i 0 new false).toArray rfl rfl HT.out (by kernel_rfl) (accL_one _ _ _ _ _ _) ?_; rw [hY]; clear HT hY c1 f1)
  go_ret
  exact ⟨rfl, HI.out.fld 2 _ { s with clock := s.clock + 1, bad := s.bad + 1, kind := 4, who := who, at' := i, old := 0, new := new, done := false } rfl rfl, HB.out.set (Or.inl (by simp)) _ _⟩

set_option maxHeartbeats 1000000 in
theorem rdo_bad1_hi (w : World) (A : Option Addr) (cap c b n : Nat) (s : St) (who i old : Int) (hi : (n : Int) ≤ i) (hn : n ≤ 1000000) (hl : Low s 1000000) (h : Is w 64 A cap c b n s) :
    Calls Tryz.prog 41 #[.pointer (some ⟨c, 0, none⟩), .int .i64 1, .int .i64 who, .int .i64 i, .int .u64 old, .int .u64 0] w fun e w' => e = .returned (.int .u64 0) ∧ Is w' 64 A cap c b n { s with clock := s.clock + 1, bad := s.bad + 1, kind := 1, who := who, at' := i, old := 0, new := 0, done := false } ∧ But [c, b] w w' := by
  obtain ⟨⟨k1, k2⟩, k3, k4⟩ := hl
  have hi0 : ¬ i < 0 := by omega
  have c1 := h.cells.2.1
  have f1 := h.fro 1
  have hl1 := h.lt
  obtain ⟨hT, hI, hB⟩ := rstart h 1 who i 0
  have HT : Hid _ := hT
  have HI : Hid _ := hI
  have HB : Hid _ := hB
  clear hT hI hB h
  generalize hY : (w.setCell ⟨c, 1, none⟩ (.int .i64 (s.clock + 1))).setCells c 3 (accL 1 who i 0 0 false).toArray.toList = Y at HI HB
  obtain ⟨d0, d1, d2, d3, d4, d5, d6, d7, d8⟩ := HI.out.cells
  have g2 := HI.out.fro 2
  have g6 := HI.out.fro 6
  have g7 := HI.out.fro 7
  have g8 := HI.out.fro 8
  go_enter Tryz.func41, Tryz.ntmps41
  go_wp2_with (refine wpList_store_mid rfl 48 _ _ rfl c 3 (accL 1 who i 0 0 false).toArray rfl rfl HT.out (by kernel_rfl) (accL_one _ _ _ _ _ _) ?_; rw [hY]; clear HT hY c1 f1)
  go_ret
  exact ⟨rfl, (HI.out.fld 7 _ { s with clock := s.clock + 1, kind := 1, who := who, at' := i, old := 0, new := 0, done := false } rfl rfl).fld 2 _ { s with clock := s.clock + 1, bad := s.bad + 1, kind := 1, who := who, at' := i, old := 0, new := 0, done := false } rfl rfl, (HB.out.set (Or.inl (by simp)) _ _).set (Or.inl (by simp)) _ _⟩

set_option maxHeartbeats 1000000 in
theorem rdo_bad2_hi (w : World) (A : Option Addr) (cap c b n : Nat) (s : St) (who i old new : Int) (hi : (n : Int) ≤ i) (hn : n ≤ 1000000) (hl : Low s 1000000) (h : Is w 64 A cap c b n s) :
    Calls Tryz.prog 41 #[.pointer (some ⟨c, 0, none⟩), .int .i64 2, .int .i64 who, .int .i64 i, .int .u64 old, .int .u64 new] w fun e w' => e = .returned (.int .u64 0) ∧ Is w' 64 A cap c b n { s with clock := s.clock + 1, bad := s.bad + 1, kind := 2, who := who, at' := i, old := 0, new := new, done := false } ∧ But [c, b] w w' := by
  obtain ⟨⟨k1, k2⟩, k3, k4⟩ := hl
  have hi0 : ¬ i < 0 := by omega
  have c1 := h.cells.2.1
  have f1 := h.fro 1
  have hl1 := h.lt
  obtain ⟨hT, hI, hB⟩ := rstart h 2 who i new
  have HT : Hid _ := hT
  have HI : Hid _ := hI
  have HB : Hid _ := hB
  clear hT hI hB h
  generalize hY : (w.setCell ⟨c, 1, none⟩ (.int .i64 (s.clock + 1))).setCells c 3 (accL 2 who i 0 new false).toArray.toList = Y at HI HB
  obtain ⟨d0, d1, d2, d3, d4, d5, d6, d7, d8⟩ := HI.out.cells
  have g2 := HI.out.fro 2
  have g6 := HI.out.fro 6
  have g7 := HI.out.fro 7
  have g8 := HI.out.fro 8
  go_enter Tryz.func41, Tryz.ntmps41
  go_wp2_with (refine wpList_store_mid rfl 48 _ _ rfl c 3 (accL 2 who i 0 new false).toArray rfl rfl HT.out (by kernel_rfl) (accL_one _ _ _ _ _ _) ?_; rw [hY]; clear HT hY c1 f1)
  go_ret
  exact ⟨rfl, HI.out.fld 2 _ { s with clock := s.clock + 1, bad := s.bad + 1, kind := 2, who := who, at' := i, old := 0, new := new, done := false } rfl rfl, HB.out.set (Or.inl (by simp)) _ _⟩

set_option maxHeartbeats 1000000 in
theorem rdo_bad3_hi (w : World) (A : Option Addr) (cap c b n : Nat) (s : St) (who i old new : Int) (hi : (n : Int) ≤ i) (hn : n ≤ 1000000) (hl : Low s 1000000) (h : Is w 64 A cap c b n s) :
    Calls Tryz.prog 41 #[.pointer (some ⟨c, 0, none⟩), .int .i64 3, .int .i64 who, .int .i64 i, .int .u64 old, .int .u64 new] w fun e w' => e = .returned (.int .u64 0) ∧ Is w' 64 A cap c b n { s with clock := s.clock + 1, bad := s.bad + 1, kind := 3, who := who, at' := i, old := 0, new := new, done := false } ∧ But [c, b] w w' := by
  obtain ⟨⟨k1, k2⟩, k3, k4⟩ := hl
  have hi0 : ¬ i < 0 := by omega
  have c1 := h.cells.2.1
  have f1 := h.fro 1
  have hl1 := h.lt
  obtain ⟨hT, hI, hB⟩ := rstart h 3 who i new
  have HT : Hid _ := hT
  have HI : Hid _ := hI
  have HB : Hid _ := hB
  clear hT hI hB h
  generalize hY : (w.setCell ⟨c, 1, none⟩ (.int .i64 (s.clock + 1))).setCells c 3 (accL 3 who i 0 new false).toArray.toList = Y at HI HB
  obtain ⟨d0, d1, d2, d3, d4, d5, d6, d7, d8⟩ := HI.out.cells
  have g2 := HI.out.fro 2
  have g6 := HI.out.fro 6
  have g7 := HI.out.fro 7
  have g8 := HI.out.fro 8
  go_enter Tryz.func41, Tryz.ntmps41
  go_wp2_with (refine wpList_store_mid rfl 48 _ _ rfl c 3 (accL 3 who i 0 new false).toArray rfl rfl HT.out (by kernel_rfl) (accL_one _ _ _ _ _ _) ?_; rw [hY]; clear HT hY c1 f1)
  go_ret
  exact ⟨rfl, HI.out.fld 2 _ { s with clock := s.clock + 1, bad := s.bad + 1, kind := 3, who := who, at' := i, old := 0, new := new, done := false } rfl rfl, HB.out.set (Or.inl (by simp)) _ _⟩

set_option maxHeartbeats 1000000 in
theorem rdo_bad4_hi (w : World) (A : Option Addr) (cap c b n : Nat) (s : St) (who i old new : Int) (hi : (n : Int) ≤ i) (hn : n ≤ 1000000) (hl : Low s 1000000) (h : Is w 64 A cap c b n s) :
    Calls Tryz.prog 41 #[.pointer (some ⟨c, 0, none⟩), .int .i64 4, .int .i64 who, .int .i64 i, .int .u64 old, .int .u64 new] w fun e w' => e = .returned (.int .u64 0) ∧ Is w' 64 A cap c b n { s with clock := s.clock + 1, bad := s.bad + 1, kind := 4, who := who, at' := i, old := 0, new := new, done := false } ∧ But [c, b] w w' := by
  obtain ⟨⟨k1, k2⟩, k3, k4⟩ := hl
  have hi0 : ¬ i < 0 := by omega
  have c1 := h.cells.2.1
  have f1 := h.fro 1
  have hl1 := h.lt
  obtain ⟨hT, hI, hB⟩ := rstart h 4 who i new
  have HT : Hid _ := hT
  have HI : Hid _ := hI
  have HB : Hid _ := hB
  clear hT hI hB h
  generalize hY : (w.setCell ⟨c, 1, none⟩ (.int .i64 (s.clock + 1))).setCells c 3 (accL 4 who i 0 new false).toArray.toList = Y at HI HB
  obtain ⟨d0, d1, d2, d3, d4, d5, d6, d7, d8⟩ := HI.out.cells
  have g2 := HI.out.fro 2
  have g6 := HI.out.fro 6
  have g7 := HI.out.fro 7
  have g8 := HI.out.fro 8
  go_enter Tryz.func41, Tryz.ntmps41
  go_wp2_with (refine wpList_store_mid rfl 48 _ _ rfl c 3 (accL 4 who i 0 new false).toArray rfl rfl HT.out (by kernel_rfl) (accL_one _ _ _ _ _ _) ?_; rw [hY]; clear HT hY c1 f1)
  go_ret
  exact ⟨rfl, HI.out.fld 2 _ { s with clock := s.clock + 1, bad := s.bad + 1, kind := 4, who := who, at' := i, old := 0, new := new, done := false } rfl rfl, HB.out.set (Or.inl (by simp)) _ _⟩

set_option maxHeartbeats 1000000 in
theorem rdo_load (w : World) (A : Option Addr) (cap c b n : Nat) (s : St) (who old : Int) (j : Nat) (hj : j < n) (hn : n ≤ 1000000) (hl : Low s 1000000) (h : Is w 64 A cap c b n s) :
    Calls Tryz.prog 41 #[.pointer (some ⟨c, 0, none⟩), .int .i64 1, .int .i64 who, .int .i64 j, .int .u64 old, .int .u64 0] w fun e w' => e = .returned (.int .u64 (s.f j)) ∧ Is w' 64 A cap c b n { s with f := s.f, clock := s.clock + 1, kind := 1, who := who, at' := (j : Int), old := s.f j, new := 0, done := true } ∧ But [c, b] w w' := by
  obtain ⟨⟨k1, k2⟩, k3, k4⟩ := hl
  have c1 := h.cells.2.1
  have f1 := h.fro 1
  have hl1 := h.lt
  obtain ⟨hT, hI, hB⟩ := rstart h 1 who j 0
  have HT : Hid _ := hT
  have HI : Hid _ := hI
  have HB : Hid _ := hB
  clear hT hI hB h
  generalize hY : (w.setCell ⟨c, 1, none⟩ (.int .i64 (s.clock + 1))).setCells c 3 (accL 1 who j 0 0 false).toArray.toList = Y at HI HB
  obtain ⟨d0, d1, d2, d3, d4, d5, d6, d7, d8⟩ := HI.out.cells
  have g2 := HI.out.fro 2
  have g6 := HI.out.fro 6
  have g7 := HI.out.fro 7
  have g8 := HI.out.fro 8
  have hw := HI.out.word hj
  have hwf := HI.out.wfro hj
  have hxb := HI.out.bd j hj
  obtain ⟨rfl, hbc, -⟩ := HI.out.wds (by omega)
  generalize hx : s.f j = x at *
  go_enter Tryz.func41, Tryz.ntmps41
  go_wp2_with (refine wpList_store_mid rfl 48 _ _ rfl c 3 (accL 1 who j 0 0 false).toArray rfl rfl HT.out (by kernel_rfl) (accL_one _ _ _ _ _ _) ?_; rw [hY]; clear HT hY c1 f1)
  go_ret
  exact ⟨rfl, ((HI.out.fld 7 (.int .u64 0) { s with clock := s.clock + 1, kind := 1, who := who, at' := (j : Int), old := 0, new := 0, done := false } rfl rfl).fld 6 (.int .u64 x) { s with clock := s.clock + 1, kind := 1, who := who, at' := (j : Int), old := x, new := 0, done := false } rfl rfl).fld 8 (.bool true) { s with clock := s.clock + 1, kind := 1, who := who, at' := (j : Int), old := x, new := 0, done := true } rfl rfl, (((HB.out.set (Or.inl (by simp)) _ _).set (Or.inl (by simp)) _ _).set (Or.inl (by simp)) _ _)⟩

set_option maxHeartbeats 1000000 in
theorem rdo_store (w : World) (A : Option Addr) (cap c b n : Nat) (s : St) (who old new : Int) (j : Nat) (hj : j < n) (hnb : 0 ≤ new ∧ new ≤ 18446744073709551615) (hn : n ≤ 1000000) (hl : Low s 1000000) (h : Is w 64 A cap c b n s) :
    Calls Tryz.prog 41 #[.pointer (some ⟨c, 0, none⟩), .int .i64 2, .int .i64 who, .int .i64 j, .int .u64 old, .int .u64 new] w fun e w' => e = .returned (.int .u64 0) ∧ Is w' 64 A cap c b n { s with f := upd s.f j new, clock := s.clock + 1, kind := 2, who := who, at' := (j : Int), old := s.f j, new := new, done := true } ∧ But [c, b] w w' := by
  obtain ⟨⟨k1, k2⟩, k3, k4⟩ := hl
  have c1 := h.cells.2.1
  have f1 := h.fro 1
  have hl1 := h.lt
  obtain ⟨hT, hI, hB⟩ := rstart h 2 who j new
  have HT : Hid _ := hT
  have HI : Hid _ := hI
  have HB : Hid _ := hB
  clear hT hI hB h
  generalize hY : (w.setCell ⟨c, 1, none⟩ (.int .i64 (s.clock + 1))).setCells c 3 (accL 2 who j 0 new false).toArray.toList = Y at HI HB
  obtain ⟨d0, d1, d2, d3, d4, d5, d6, d7, d8⟩ := HI.out.cells
  have g2 := HI.out.fro 2
  have g6 := HI.out.fro 6
  have g7 := HI.out.fro 7
  have g8 := HI.out.fro 8
  have hw := HI.out.word hj
  have hwf := HI.out.wfro hj
  have hxb := HI.out.bd j hj
  obtain ⟨rfl, hbc, -⟩ := HI.out.wds (by omega)
  generalize hx : s.f j = x at *
  go_enter Tryz.func41, Tryz.ntmps41
  go_wp2_with (refine wpList_store_mid rfl 48 _ _ rfl c 3 (accL 2 who j 0 new false).toArray rfl rfl HT.out (by kernel_rfl) (accL_one _ _ _ _ _ _) ?_; rw [hY]; clear HT hY c1 f1)
  go_ret
  exact ⟨rfl, ((HI.out.fld 6 (.int .u64 x) { s with clock := s.clock + 1, kind := 2, who := who, at' := (j : Int), old := x, new := new, done := false } rfl rfl).fld 8 (.bool true) { s with clock := s.clock + 1, kind := 2, who := who, at' := (j : Int), old := x, new := new, done := true } rfl rfl).wrd j hj new hnb, (((HB.out.set (Or.inl (by simp)) _ _).set (Or.inl (by simp)) _ _).set (Or.inl (by simp)) _ _)⟩

set_option maxHeartbeats 1000000 in
theorem rdo_swap_done (w : World) (A : Option Addr) (cap c b n : Nat) (s : St) (who old new : Int) (j : Nat) (hj : j < n) (hnb : 0 ≤ new ∧ new ≤ 18446744073709551615) (hx0 : s.f j = old) (hn : n ≤ 1000000) (hl : Low s 1000000) (h : Is w 64 A cap c b n s) :
    Calls Tryz.prog 41 #[.pointer (some ⟨c, 0, none⟩), .int .i64 3, .int .i64 who, .int .i64 j, .int .u64 old, .int .u64 new] w fun e w' => e = .returned (.int .u64 1) ∧ Is w' 64 A cap c b n { s with f := upd s.f j new, clock := s.clock + 1, kind := 3, who := who, at' := (j : Int), old := s.f j, new := new, done := true } ∧ But [c, b] w w' := by
  obtain ⟨⟨k1, k2⟩, k3, k4⟩ := hl
  have c1 := h.cells.2.1
  have f1 := h.fro 1
  have hl1 := h.lt
  obtain ⟨hT, hI, hB⟩ := rstart h 3 who j new
  have HT : Hid _ := hT
  have HI : Hid _ := hI
  have HB : Hid _ := hB
  clear hT hI hB h
  generalize hY : (w.setCell ⟨c, 1, none⟩ (.int .i64 (s.clock + 1))).setCells c 3 (accL 3 who j 0 new false).toArray.toList = Y at HI HB
  obtain ⟨d0, d1, d2, d3, d4, d5, d6, d7, d8⟩ := HI.out.cells
  have g2 := HI.out.fro 2
  have g6 := HI.out.fro 6
  have g7 := HI.out.fro 7
  have g8 := HI.out.fro 8
  have hw := HI.out.word hj
  have hwf := HI.out.wfro hj
  have hxb := HI.out.bd j hj
  obtain ⟨rfl, hbc, -⟩ := HI.out.wds (by omega)
  generalize hx : s.f j = x at *
  obtain rfl : x = old := hx0
  go_enter Tryz.func41, Tryz.ntmps41
  go_wp2_with (refine wpList_store_mid rfl 48 _ _ rfl c 3 (accL 3 who j 0 new false).toArray rfl rfl HT.out (by kernel_rfl) (accL_one _ _ _ _ _ _) ?_; rw [hY]; clear HT hY c1 f1)
  go_ret
  exact ⟨rfl, ((HI.out.fld 6 (.int .u64 x) { s with clock := s.clock + 1, kind := 3, who := who, at' := (j : Int), old := x, new := new, done := false } rfl rfl).fld 8 (.bool true) { s with clock := s.clock + 1, kind := 3, who := who, at' := (j : Int), old := x, new := new, done := true } rfl rfl).wrd j hj new hnb, (((HB.out.set (Or.inl (by simp)) _ _).set (Or.inl (by simp)) _ _).set (Or.inl (by simp)) _ _)⟩

set_option maxHeartbeats 1000000 in
theorem rdo_swap_not (w : World) (A : Option Addr) (cap c b n : Nat) (s : St) (who old new : Int) (j : Nat) (hj : j < n) (hnb : 0 ≤ new ∧ new ≤ 18446744073709551615) (hx0 : ¬ s.f j = old) (hn : n ≤ 1000000) (hl : Low s 1000000) (h : Is w 64 A cap c b n s) :
    Calls Tryz.prog 41 #[.pointer (some ⟨c, 0, none⟩), .int .i64 3, .int .i64 who, .int .i64 j, .int .u64 old, .int .u64 new] w fun e w' => e = .returned (.int .u64 0) ∧ Is w' 64 A cap c b n { s with f := s.f, clock := s.clock + 1, kind := 3, who := who, at' := (j : Int), old := s.f j, new := new, done := false } ∧ But [c, b] w w' := by
  obtain ⟨⟨k1, k2⟩, k3, k4⟩ := hl
  have c1 := h.cells.2.1
  have f1 := h.fro 1
  have hl1 := h.lt
  obtain ⟨hT, hI, hB⟩ := rstart h 3 who j new
  have HT : Hid _ := hT
  have HI : Hid _ := hI
  have HB : Hid _ := hB
  clear hT hI hB h
  generalize hY : (w.setCell ⟨c, 1, none⟩ (.int .i64 (s.clock + 1))).setCells c 3 (accL 3 who j 0 new false).toArray.toList = Y at HI HB
  obtain ⟨d0, d1, d2, d3, d4, d5, d6, d7, d8⟩ := HI.out.cells
  have g2 := HI.out.fro 2
  have g6 := HI.out.fro 6
  have g7 := HI.out.fro 7
  have g8 := HI.out.fro 8
  have hw := HI.out.word hj
  have hwf := HI.out.wfro hj
  have hxb := HI.out.bd j hj
  obtain ⟨rfl, hbc, -⟩ := HI.out.wds (by omega)
  generalize hx : s.f j = x at *
  have hdd : (x == old) = false := by simpa using hx0
  go_enter Tryz.func41, Tryz.ntmps41
  go_wp2_with (refine wpList_store_mid rfl 48 _ _ rfl c 3 (accL 3 who j 0 new false).toArray rfl rfl HT.out (by kernel_rfl) (accL_one _ _ _ _ _ _) ?_; rw [hY]; clear HT hY c1 f1)
  go_ret
  exact ⟨rfl, (HI.out.fld 6 (.int .u64 x) { s with clock := s.clock + 1, kind := 3, who := who, at' := (j : Int), old := x, new := new, done := false } rfl rfl).fld 8 (.bool false) { s with clock := s.clock + 1, kind := 3, who := who, at' := (j : Int), old := x, new := new, done := false } rfl rfl, ((HB.out.set (Or.inl (by simp)) _ _).set (Or.inl (by simp)) _ _)⟩

set_option maxHeartbeats 1000000 in
theorem rdo_add (w : World) (A : Option Addr) (cap c b n : Nat) (s : St) (who old new : Int) (j : Nat) (hj : j < n) (hnb : 0 ≤ new ∧ new ≤ 18446744073709551615) (hn : n ≤ 1000000) (hl : Low s 1000000) (h : Is w 64 A cap c b n s) :
    Calls Tryz.prog 41 #[.pointer (some ⟨c, 0, none⟩), .int .i64 4, .int .i64 who, .int .i64 j, .int .u64 old, .int .u64 new] w fun e w' => e = .returned (.int .u64 ((s.f j + new) % 4294967296)) ∧ Is w' 64 A cap c b n { s with f := upd s.f j ((s.f j + new) % 4294967296), clock := s.clock + 1, kind := 4, who := who, at' := (j : Int), old := s.f j, new := ((s.f j + new) % 4294967296), done := true } ∧ But [c, b] w w' := by
  obtain ⟨⟨k1, k2⟩, k3, k4⟩ := hl
  have c1 := h.cells.2.1
  have f1 := h.fro 1
  have hl1 := h.lt
  obtain ⟨hT, hI, hB⟩ := rstart h 4 who j new
  have HT : Hid _ := hT
  have HI : Hid _ := hI
  have HB : Hid _ := hB
  clear hT hI hB h
  generalize hY : (w.setCell ⟨c, 1, none⟩ (.int .i64 (s.clock + 1))).setCells c 3 (accL 4 who j 0 new false).toArray.toList = Y at HI HB
  obtain ⟨d0, d1, d2, d3, d4, d5, d6, d7, d8⟩ := HI.out.cells
  have g2 := HI.out.fro 2
  have g6 := HI.out.fro 6
  have g7 := HI.out.fro 7
  have g8 := HI.out.fro 8
  have hw := HI.out.word hj
  have hwf := HI.out.wfro hj
  have hxb := HI.out.bd j hj
  obtain ⟨rfl, hbc, -⟩ := HI.out.wds (by omega)
  generalize hx : s.f j = x at *
  go_enter Tryz.func41, Tryz.ntmps41
  go_wp2_with (refine wpList_store_mid rfl 48 _ _ rfl c 3 (accL 4 who j 0 new false).toArray rfl rfl HT.out (by kernel_rfl) (accL_one _ _ _ _ _ _) ?_; rw [hY]; clear HT hY c1 f1)
  go_ret
  have hz := add_val x new hxb hnb
  generalize (IntKind.u64.wrap (x + new)).tmod 4294967296 = z at hz ⊢
  rw [← hz]
  exact ⟨rfl, (((HI.out.fld 6 (.int .u64 x) { s with clock := s.clock + 1, kind := 4, who := who, at' := (j : Int), old := x, new := new, done := false } rfl rfl).fld 8 (.bool true) { s with clock := s.clock + 1, kind := 4, who := who, at' := (j : Int), old := x, new := new, done := true } rfl rfl).wrd j hj z (by omega)).fld 7 (.int .u64 z) { s with f := upd s.f j z, clock := s.clock + 1, kind := 4, who := who, at' := (j : Int), old := x, new := z, done := true } rfl rfl, ((((HB.out.set (Or.inl (by simp)) _ _).set (Or.inl (by simp)) _ _).set (Or.inl (by simp)) _ _).set (Or.inl (by simp)) _ _)⟩

end Go.Proofs.YthjfbknmdligeaaGreat
