/- The contracts of access, the one method that does every access, for each kind of access. -/
import Derived.Test.YthjfbknmdligeaaGreatAcc2
namespace Go.Proofs.YthjfbknmdligeaaGreat
open Go Go.RowKit
set_option linter.unusedVariables false
set_option maxRecDepth 100000
set_option linter.unusedSimpArgs false

set_option maxHeartbeats 1000000 in
theorem access_load (w : World) (A : Option Addr) (cap c b n : Nat) (s : St) (who : Int) (i : Nat) (h : Is w 114 A cap c b n s) (hi : i < n) (hn : n ≤ 1000000) (hc : 0 ≤ s.clock ∧ s.clock ≤ 1000000) :
    Calls Tryz.prog 56 #[.pointer (some ⟨c, 0, none⟩), .agg #[.int .i64 1, .int .i64 who, .int .i64 i, .int .u64 0, .int .u64 0, .bool false], .func (.func 66) #[] #[]] w fun e w' => e = .returned (.agg #[.int .i64 1, .int .i64 who, .int .i64 i, .int .u64 (s.f i), .int .u64 0, .bool true]) ∧ Is w' 114 A cap c b n { s with clock := s.clock + 1, kind := 1, who := who, at' := i, old := s.f i, new := 0, done := true } ∧ But [c, b] w w' := by
  have HS : Hid _ := start_any w A cap c b n s 1 who i 0 h
  have c1 := h.cells.2.1
  have f1 := h.fro 1
  have hlc := h.lt
  clear h
  go_enter Tryz.func56, Tryz.ntmps56
  go_wp2_with fail
  generalize hX : (((w.setCell ⟨c, 1, none⟩ (.int .i64 (s.clock + 1))).alloc (.cells #[.int .i64 1, .int .i64 who, .int .i64 i, .int .u64 0, .int .u64 0, .bool false] 48)).alloc (.cells #[.int .i64 0, .int .i64 0, .int .i64 0, .int .u64 0, .int .u64 0, .bool false] 48)) = X at HS ⊢
  clear hX c1 f1
  go_at_call 55; refine (has_any X A cap c b n _ i HS.out.is).mono ?_; rintro e w1 ⟨rfl, rfl⟩
  rw [show decide (0 ≤ (i : Int) ∧ (i : Int) < n) = true by simp; omega]
  have HI : Hid _ := HS.out.is
  have c0 := HI.out.cells.1
  obtain ⟨a0, a1, a2, a3, a4, a5⟩ := HS.out.acc.cells
  have hw := HI.out.word hi
  have hwf := HI.out.wfro hi
  have hxb := HI.out.bd i hi
  obtain ⟨rfl, hbc, -⟩ := HI.out.wds (by omega)
  have g3 := HS.out.acc.fro 3
  have g5 := HS.out.acc.fro 5
  have hlb := HI.out.blt (by omega)
  have hblt := HS.out.blt
  generalize hx : s.f i = x at *
  generalize hq : w.heap.size = q at *
  go_wp2_with fail
  go_quiet (fail)
  go_wp2_with fail
  go_at_call 66; refine (work_load _ _ _).mono ?_; rintro e w1 ⟨⟨v, rfl⟩, rfl⟩
  have HM : Hid _ := HS.out.old_done nq x
  clear HS HI c0 a0 a1 a2 a3 a4 a5 g3 g5 hw hwf
  rw [hq] at HM
  generalize hY : (((X.drewN nq).setCell ⟨q, 3, none⟩ (.int .u64 x)).setCell ⟨q, 5, none⟩ (.bool true)) = Y at HM ⊢
  clear hY
  have HM2 : Hid (Is ((Y.setCells c 3 (accL 1 who i x 0 true).toArray.toList).setCells (w.heap.size + 1) 0 (accL 1 who i x 0 true).toArray.toList) 114 _ cap c b n _ ∧ But [c, b] w ((Y.setCells c 3 (accL 1 who i x 0 true).toArray.toList).setCells (w.heap.size + 1) 0 (accL 1 who i x 0 true).toArray.toList)) := HM.out.end
  have HL1 : Hid (Y.rangeAt w.heap.size 0 (accL 1 who i x 0 true)) := HM.out.loadA
  have HT1 : Hid (Y.there c 3 (accL 1 who i x 0 true).toArray.size) := HM.out.roomC
  have HL2 : Hid ((Y.setCells c 3 (accL 1 who i x 0 true).toArray.toList).rangeAt w.heap.size 0 (accL 1 who i x 0 true)) := HM.out.loadB
  have HT2 : Hid ((Y.setCells c 3 (accL 1 who i x 0 true).toArray.toList).there (w.heap.size + 1) 0 (accL 1 who i x 0 true).toArray.size) := HM.out.roomR
  have HR : Hid (((Y.setCells c 3 (accL 1 who i x 0 true).toArray.toList).setCells (w.heap.size + 1) 0 (accL 1 who i x 0 true).toArray.toList).heap[w.heap.size + 1]? = some (.cells (accL 1 who i x 0 true).toArray 48 (0, 0))) := HM.out.loadR
  clear HM
  rw [hq] at HM2 HL1 HL2 HT2 HR
  generalize hY2 : Y.setCells c 3 (accL 1 who i x 0 true).toArray.toList = Y2 at HM2 HL2 HT2 HR
  generalize hY3 : Y2.setCells (q + 1) 0 (accL 1 who i x 0 true).toArray.toList = Y3 at HM2 HR
  go_wp2_with (first | (refine wpList_load_mid rfl 48 _ rfl q 0 rfl (accL 1 who i x 0 true) _ HL1.out Tryz.underlying48 rfl (by kernel_rfl) ?_; clear HL1) | (refine wpList_store_mid rfl 48 _ _ rfl c 3 (accL 1 who i x 0 true).toArray rfl rfl HT1.out (by kernel_rfl) (accL_one _ _ _ _ _ _) ?_; rw [hY2]; clear HT1 hY2) | (refine wpList_load_mid rfl 48 _ rfl q 0 rfl (accL 1 who i x 0 true) _ HL2.out Tryz.underlying48 rfl (by kernel_rfl) ?_; clear HL2) | (refine wpList_store_mid rfl 48 _ _ rfl (q + 1) 0 (accL 1 who i x 0 true).toArray rfl rfl HT2.out (by kernel_rfl) (accL_one _ _ _ _ _ _) ?_; rw [hY3]; clear HT2 hY3))
  refine bodyPost_ret (v := .agg (accL 1 who i x 0 true).toArray) (results_cell_row rfl _ _ (q + 1) 48 (accL 1 who i x 0 true).toArray (0, 0) _ rfl HR.out Tryz.underlying48 rfl (by kernel_rfl)) rfl ⟨by rw [hx]; rfl, by rw [hx]; exact HM2.1, HM2.2⟩

set_option maxHeartbeats 1000000 in
theorem access_store (w : World) (A : Option Addr) (cap c b n : Nat) (s : St) (who : Int) (i : Nat) (h : Is w 114 A cap c b n s) (hi : i < n) (hn : n ≤ 1000000) (hc : 0 ≤ s.clock ∧ s.clock ≤ 1000000) (new : Int) (hnb : 0 ≤ new ∧ new ≤ 18446744073709551615) :
    Calls Tryz.prog 56 #[.pointer (some ⟨c, 0, none⟩), .agg #[.int .i64 2, .int .i64 who, .int .i64 i, .int .u64 0, .int .u64 new, .bool false], .func (.func 64) #[] #[]] w fun e w' => e = .returned (.agg #[.int .i64 2, .int .i64 who, .int .i64 i, .int .u64 (s.f i), .int .u64 new, .bool true]) ∧ Is w' 114 A cap c b n { s with f := upd s.f i new, clock := s.clock + 1, kind := 2, who := who, at' := i, old := s.f i, new := new, done := true } ∧ But [c, b] w w' := by
  have HS : Hid _ := start_any w A cap c b n s 2 who i new h
  have c1 := h.cells.2.1
  have f1 := h.fro 1
  have hlc := h.lt
  clear h
  go_enter Tryz.func56, Tryz.ntmps56
  go_wp2_with fail
  generalize hX : (((w.setCell ⟨c, 1, none⟩ (.int .i64 (s.clock + 1))).alloc (.cells #[.int .i64 2, .int .i64 who, .int .i64 i, .int .u64 0, .int .u64 new, .bool false] 48)).alloc (.cells #[.int .i64 0, .int .i64 0, .int .i64 0, .int .u64 0, .int .u64 0, .bool false] 48)) = X at HS ⊢
  clear hX c1 f1
  go_at_call 55; refine (has_any X A cap c b n _ i HS.out.is).mono ?_; rintro e w1 ⟨rfl, rfl⟩
  rw [show decide (0 ≤ (i : Int) ∧ (i : Int) < n) = true by simp; omega]
  have HI : Hid _ := HS.out.is
  have c0 := HI.out.cells.1
  obtain ⟨a0, a1, a2, a3, a4, a5⟩ := HS.out.acc.cells
  have hw := HI.out.word hi
  have hwf := HI.out.wfro hi
  have hxb := HI.out.bd i hi
  obtain ⟨rfl, hbc, -⟩ := HI.out.wds (by omega)
  have g3 := HS.out.acc.fro 3
  have g5 := HS.out.acc.fro 5
  have hlb := HI.out.blt (by omega)
  have hblt := HS.out.blt
  generalize hx : s.f i = x at *
  generalize hq : w.heap.size = q at *
  go_wp2_with fail
  go_quiet (fail)
  go_wp2_with fail
  have HP : Hid _ := HS.out.old_done nq x
  have hA : AccAt (((X.drewN nq).setCell ⟨q, 3, none⟩ (.int .u64 x)).setCell ⟨q, 5, none⟩ (.bool true)) q 2 who i x new true := by have := HP.out.acc; rw [hq] at this; exact this
  have hW : (((X.drewN nq).setCell ⟨q, 3, none⟩ (.int .u64 x)).setCell ⟨q, 5, none⟩ (.bool true)).cell? ⟨b, i, none⟩ = some (.int .u64 x) := by have := HP.out.is.word hi; rw [hq] at this; exact this.trans (congrArg (fun z => some (Value.int .u64 z)) hx)
  have hF : (((X.drewN nq).setCell ⟨q, 3, none⟩ (.int .u64 x)).setCell ⟨q, 5, none⟩ (.bool true)).frozen? ⟨b, i, none⟩ = false := by have := HP.out.is.wfro hi; rw [hq] at this; exact this
  go_at_call 64; refine (work_store _ b i q _ _ _ _ _ _ hA hW hF).mono ?_; rintro e w1 ⟨⟨v, rfl⟩, rfl⟩; clear hA hW hF
  clear HS HI c0 a0 a1 a2 a3 a4 a5 g3 g5
  have HM : Hid _ := HP.out.word i hi new hnb
  clear HP
  rw [hq] at HM
  generalize hY : ((((X.drewN nq).setCell ⟨q, 3, none⟩ (.int .u64 x)).setCell ⟨q, 5, none⟩ (.bool true)).setCell ⟨b, i, none⟩ (.int .u64 new)) = Y at HM ⊢
  clear hY
  have HM2 : Hid (Is ((Y.setCells c 3 (accL 2 who i x new true).toArray.toList).setCells (w.heap.size + 1) 0 (accL 2 who i x new true).toArray.toList) 114 _ cap c b n _ ∧ But [c, b] w ((Y.setCells c 3 (accL 2 who i x new true).toArray.toList).setCells (w.heap.size + 1) 0 (accL 2 who i x new true).toArray.toList)) := HM.out.end
  have HL1 : Hid (Y.rangeAt w.heap.size 0 (accL 2 who i x new true)) := HM.out.loadA
  have HT1 : Hid (Y.there c 3 (accL 2 who i x new true).toArray.size) := HM.out.roomC
  have HL2 : Hid ((Y.setCells c 3 (accL 2 who i x new true).toArray.toList).rangeAt w.heap.size 0 (accL 2 who i x new true)) := HM.out.loadB
  have HT2 : Hid ((Y.setCells c 3 (accL 2 who i x new true).toArray.toList).there (w.heap.size + 1) 0 (accL 2 who i x new true).toArray.size) := HM.out.roomR
  have HR : Hid (((Y.setCells c 3 (accL 2 who i x new true).toArray.toList).setCells (w.heap.size + 1) 0 (accL 2 who i x new true).toArray.toList).heap[w.heap.size + 1]? = some (.cells (accL 2 who i x new true).toArray 48 (0, 0))) := HM.out.loadR
  clear HM
  rw [hq] at HM2 HL1 HL2 HT2 HR
  generalize hY2 : Y.setCells c 3 (accL 2 who i x new true).toArray.toList = Y2 at HM2 HL2 HT2 HR
  generalize hY3 : Y2.setCells (q + 1) 0 (accL 2 who i x new true).toArray.toList = Y3 at HM2 HR
  go_wp2_with (first | (refine wpList_load_mid rfl 48 _ rfl q 0 rfl (accL 2 who i x new true) _ HL1.out Tryz.underlying48 rfl (by kernel_rfl) ?_; clear HL1) | (refine wpList_store_mid rfl 48 _ _ rfl c 3 (accL 2 who i x new true).toArray rfl rfl HT1.out (by kernel_rfl) (accL_one _ _ _ _ _ _) ?_; rw [hY2]; clear HT1 hY2) | (refine wpList_load_mid rfl 48 _ rfl q 0 rfl (accL 2 who i x new true) _ HL2.out Tryz.underlying48 rfl (by kernel_rfl) ?_; clear HL2) | (refine wpList_store_mid rfl 48 _ _ rfl (q + 1) 0 (accL 2 who i x new true).toArray rfl rfl HT2.out (by kernel_rfl) (accL_one _ _ _ _ _ _) ?_; rw [hY3]; clear HT2 hY3))
  refine bodyPost_ret (v := .agg (accL 2 who i x new true).toArray) (results_cell_row rfl _ _ (q + 1) 48 (accL 2 who i x new true).toArray (0, 0) _ rfl HR.out Tryz.underlying48 rfl (by kernel_rfl)) rfl ⟨by rw [hx]; rfl, by rw [hx]; exact HM2.1, HM2.2⟩

set_option maxHeartbeats 1000000 in
theorem access_swap_done (w : World) (A : Option Addr) (cap c b n : Nat) (s : St) (who : Int) (i : Nat) (h : Is w 114 A cap c b n s) (hi : i < n) (hn : n ≤ 1000000) (hc : 0 ≤ s.clock ∧ s.clock ≤ 1000000) (new y : Int) (r : Nat) (hnb : 0 ≤ new ∧ new ≤ 18446744073709551615) (hr : w.cell? ⟨r, 0, none⟩ = some (.int .u64 y)) (hrc : r ≠ c ∧ r ≠ b) (hne : y = s.f i) :
    Calls Tryz.prog 56 #[.pointer (some ⟨c, 0, none⟩), .agg #[.int .i64 3, .int .i64 who, .int .i64 i, .int .u64 0, .int .u64 new, .bool false], .func (.func 65) #[] #[.pointer (some ⟨r, 0, none⟩)]] w fun e w' => e = .returned (.agg #[.int .i64 3, .int .i64 who, .int .i64 i, .int .u64 (s.f i), .int .u64 new, .bool true]) ∧ Is w' 114 A cap c b n { s with f := upd s.f i new, clock := s.clock + 1, kind := 3, who := who, at' := i, old := s.f i, new := new, done := true } ∧ But [c, b] w w' := by
  have HS : Hid _ := start_any w A cap c b n s 3 who i new h
  have c1 := h.cells.2.1
  have f1 := h.fro 1
  have hlc := h.lt
  clear h
  go_enter Tryz.func56, Tryz.ntmps56
  go_wp2_with fail
  generalize hX : (((w.setCell ⟨c, 1, none⟩ (.int .i64 (s.clock + 1))).alloc (.cells #[.int .i64 3, .int .i64 who, .int .i64 i, .int .u64 0, .int .u64 new, .bool false] 48)).alloc (.cells #[.int .i64 0, .int .i64 0, .int .i64 0, .int .u64 0, .int .u64 0, .bool false] 48)) = X at HS ⊢
  clear hX c1 f1
  go_at_call 55; refine (has_any X A cap c b n _ i HS.out.is).mono ?_; rintro e w1 ⟨rfl, rfl⟩
  rw [show decide (0 ≤ (i : Int) ∧ (i : Int) < n) = true by simp; omega]
  have HI : Hid _ := HS.out.is
  have c0 := HI.out.cells.1
  obtain ⟨a0, a1, a2, a3, a4, a5⟩ := HS.out.acc.cells
  have hw := HI.out.word hi
  have hwf := HI.out.wfro hi
  have hxb := HI.out.bd i hi
  obtain ⟨rfl, hbc, -⟩ := HI.out.wds (by omega)
  have g3 := HS.out.acc.fro 3
  have g5 := HS.out.acc.fro 5
  have hlb := HI.out.blt (by omega)
  have hblt := HS.out.blt
  generalize hx : s.f i = x at *
  generalize hq : w.heap.size = q at *
  go_wp2_with fail
  go_quiet (fail)
  go_wp2_with fail
  have HP : Hid _ := HS.out.old_done nq x
  have hA : AccAt (((X.drewN nq).setCell ⟨q, 3, none⟩ (.int .u64 x)).setCell ⟨q, 5, none⟩ (.bool true)) q 3 who i x new true := by have := HP.out.acc; rw [hq] at this; exact this
  have hW : (((X.drewN nq).setCell ⟨q, 3, none⟩ (.int .u64 x)).setCell ⟨q, 5, none⟩ (.bool true)).cell? ⟨b, i, none⟩ = some (.int .u64 x) := by have := HP.out.is.word hi; rw [hq] at this; exact this.trans (congrArg (fun z => some (Value.int .u64 z)) hx)
  have hF : (((X.drewN nq).setCell ⟨q, 3, none⟩ (.int .u64 x)).setCell ⟨q, 5, none⟩ (.bool true)).frozen? ⟨b, i, none⟩ = false := by have := HP.out.is.wfro hi; rw [hq] at this; exact this
  have hR : (((X.drewN nq).setCell ⟨q, 3, none⟩ (.int .u64 x)).setCell ⟨q, 5, none⟩ (.bool true)).cell? ⟨r, 0, none⟩ = some (.int .u64 y) := by
    have := HP.out.but.block r (cell_lt hr) (by simp; exact hrc)
    rw [hq] at this
    exact (World.cell?_of_block this).trans hr
  rw [show y = x from hne] at hR
  go_at_call 65; refine (work_swap_done _ b i q r _ _ _ _ _ _ hA hW hF hR).mono ?_; rintro e w1 ⟨⟨v, rfl⟩, m, rfl⟩; clear hA hW hF hR
  clear HS HI c0 a0 a1 a2 a3 a4 a5 g3 g5
  have HM : Hid _ := (HP.out.drewN m).word i hi new hnb
  clear HP
  rw [hq] at HM
  generalize hY : (((((X.drewN nq).setCell ⟨q, 3, none⟩ (.int .u64 x)).setCell ⟨q, 5, none⟩ (.bool true)).drewN m).setCell ⟨b, i, none⟩ (.int .u64 new)) = Y at HM ⊢
  clear hY
  have HM2 : Hid (Is ((Y.setCells c 3 (accL 3 who i x new true).toArray.toList).setCells (w.heap.size + 1) 0 (accL 3 who i x new true).toArray.toList) 114 _ cap c b n _ ∧ But [c, b] w ((Y.setCells c 3 (accL 3 who i x new true).toArray.toList).setCells (w.heap.size + 1) 0 (accL 3 who i x new true).toArray.toList)) := HM.out.end
  have HL1 : Hid (Y.rangeAt w.heap.size 0 (accL 3 who i x new true)) := HM.out.loadA
  have HT1 : Hid (Y.there c 3 (accL 3 who i x new true).toArray.size) := HM.out.roomC
  have HL2 : Hid ((Y.setCells c 3 (accL 3 who i x new true).toArray.toList).rangeAt w.heap.size 0 (accL 3 who i x new true)) := HM.out.loadB
  have HT2 : Hid ((Y.setCells c 3 (accL 3 who i x new true).toArray.toList).there (w.heap.size + 1) 0 (accL 3 who i x new true).toArray.size) := HM.out.roomR
  have HR : Hid (((Y.setCells c 3 (accL 3 who i x new true).toArray.toList).setCells (w.heap.size + 1) 0 (accL 3 who i x new true).toArray.toList).heap[w.heap.size + 1]? = some (.cells (accL 3 who i x new true).toArray 48 (0, 0))) := HM.out.loadR
  clear HM
  rw [hq] at HM2 HL1 HL2 HT2 HR
  generalize hY2 : Y.setCells c 3 (accL 3 who i x new true).toArray.toList = Y2 at HM2 HL2 HT2 HR
  generalize hY3 : Y2.setCells (q + 1) 0 (accL 3 who i x new true).toArray.toList = Y3 at HM2 HR
  go_wp2_with (first | (refine wpList_load_mid rfl 48 _ rfl q 0 rfl (accL 3 who i x new true) _ HL1.out Tryz.underlying48 rfl (by kernel_rfl) ?_; clear HL1) | (refine wpList_store_mid rfl 48 _ _ rfl c 3 (accL 3 who i x new true).toArray rfl rfl HT1.out (by kernel_rfl) (accL_one _ _ _ _ _ _) ?_; rw [hY2]; clear HT1 hY2) | (refine wpList_load_mid rfl 48 _ rfl q 0 rfl (accL 3 who i x new true) _ HL2.out Tryz.underlying48 rfl (by kernel_rfl) ?_; clear HL2) | (refine wpList_store_mid rfl 48 _ _ rfl (q + 1) 0 (accL 3 who i x new true).toArray rfl rfl HT2.out (by kernel_rfl) (accL_one _ _ _ _ _ _) ?_; rw [hY3]; clear HT2 hY3))
  refine bodyPost_ret (v := .agg (accL 3 who i x new true).toArray) (results_cell_row rfl _ _ (q + 1) 48 (accL 3 who i x new true).toArray (0, 0) _ rfl HR.out Tryz.underlying48 rfl (by kernel_rfl)) rfl ⟨by rw [hx]; rfl, by rw [hx]; exact HM2.1, HM2.2⟩

set_option maxHeartbeats 1000000 in
theorem access_swap_not (w : World) (A : Option Addr) (cap c b n : Nat) (s : St) (who : Int) (i : Nat) (h : Is w 114 A cap c b n s) (hi : i < n) (hn : n ≤ 1000000) (hc : 0 ≤ s.clock ∧ s.clock ≤ 1000000) (new y : Int) (r : Nat) (hnb : 0 ≤ new ∧ new ≤ 18446744073709551615) (hr : w.cell? ⟨r, 0, none⟩ = some (.int .u64 y)) (hrc : r ≠ c ∧ r ≠ b) (hne : s.f i ≠ y) :
    Calls Tryz.prog 56 #[.pointer (some ⟨c, 0, none⟩), .agg #[.int .i64 3, .int .i64 who, .int .i64 i, .int .u64 0, .int .u64 new, .bool false], .func (.func 65) #[] #[.pointer (some ⟨r, 0, none⟩)]] w fun e w' => e = .returned (.agg #[.int .i64 3, .int .i64 who, .int .i64 i, .int .u64 (s.f i), .int .u64 new, .bool false]) ∧ Is w' 114 A cap c b n { s with f := s.f, clock := s.clock + 1, kind := 3, who := who, at' := i, old := s.f i, new := new, done := false } ∧ But [c, b] w w' := by
  have HS : Hid _ := start_any w A cap c b n s 3 who i new h
  have c1 := h.cells.2.1
  have f1 := h.fro 1
  have hlc := h.lt
  clear h
  go_enter Tryz.func56, Tryz.ntmps56
  go_wp2_with fail
  generalize hX : (((w.setCell ⟨c, 1, none⟩ (.int .i64 (s.clock + 1))).alloc (.cells #[.int .i64 3, .int .i64 who, .int .i64 i, .int .u64 0, .int .u64 new, .bool false] 48)).alloc (.cells #[.int .i64 0, .int .i64 0, .int .i64 0, .int .u64 0, .int .u64 0, .bool false] 48)) = X at HS ⊢
  clear hX c1 f1
  go_at_call 55; refine (has_any X A cap c b n _ i HS.out.is).mono ?_; rintro e w1 ⟨rfl, rfl⟩
  rw [show decide (0 ≤ (i : Int) ∧ (i : Int) < n) = true by simp; omega]
  have HI : Hid _ := HS.out.is
  have c0 := HI.out.cells.1
  obtain ⟨a0, a1, a2, a3, a4, a5⟩ := HS.out.acc.cells
  have hw := HI.out.word hi
  have hwf := HI.out.wfro hi
  have hxb := HI.out.bd i hi
  obtain ⟨rfl, hbc, -⟩ := HI.out.wds (by omega)
  have g3 := HS.out.acc.fro 3
  have g5 := HS.out.acc.fro 5
  have hlb := HI.out.blt (by omega)
  have hblt := HS.out.blt
  generalize hx : s.f i = x at *
  generalize hq : w.heap.size = q at *
  go_wp2_with fail
  go_quiet (fail)
  go_wp2_with fail
  have HP : Hid _ := HS.out.old_done nq x
  have hA : AccAt (((X.drewN nq).setCell ⟨q, 3, none⟩ (.int .u64 x)).setCell ⟨q, 5, none⟩ (.bool true)) q 3 who i x new true := by have := HP.out.acc; rw [hq] at this; exact this
  have hW : (((X.drewN nq).setCell ⟨q, 3, none⟩ (.int .u64 x)).setCell ⟨q, 5, none⟩ (.bool true)).cell? ⟨b, i, none⟩ = some (.int .u64 x) := by have := HP.out.is.word hi; rw [hq] at this; exact this.trans (congrArg (fun z => some (Value.int .u64 z)) hx)
  have hF : (((X.drewN nq).setCell ⟨q, 3, none⟩ (.int .u64 x)).setCell ⟨q, 5, none⟩ (.bool true)).frozen? ⟨b, i, none⟩ = false := by have := HP.out.is.wfro hi; rw [hq] at this; exact this
  have hR : (((X.drewN nq).setCell ⟨q, 3, none⟩ (.int .u64 x)).setCell ⟨q, 5, none⟩ (.bool true)).cell? ⟨r, 0, none⟩ = some (.int .u64 y) := by
    have := HP.out.but.block r (cell_lt hr) (by simp; exact hrc)
    rw [hq] at this
    exact (World.cell?_of_block this).trans hr
  go_at_call 65; refine (work_swap_not _ b i q r _ _ _ _ _ _ _ hA hW hF hR hne).mono ?_; rintro e w1 ⟨⟨v, rfl⟩, m, rfl⟩; clear hA hW hF hR
  clear HS HI c0 a0 a1 a2 a3 a4 a5 g3 g5
  have HM : Hid _ := (HP.out.drewN m).acc3 5 (.bool false) rfl
  clear HP
  rw [hq] at HM
  generalize hY : (((((X.drewN nq).setCell ⟨q, 3, none⟩ (.int .u64 x)).setCell ⟨q, 5, none⟩ (.bool true)).drewN m).setCell ⟨q, 5, none⟩ (.bool false)) = Y at HM ⊢
  clear hY
  have HM2 : Hid (Is ((Y.setCells c 3 (accL 3 who i x new false).toArray.toList).setCells (w.heap.size + 1) 0 (accL 3 who i x new false).toArray.toList) 114 _ cap c b n _ ∧ But [c, b] w ((Y.setCells c 3 (accL 3 who i x new false).toArray.toList).setCells (w.heap.size + 1) 0 (accL 3 who i x new false).toArray.toList)) := HM.out.end
  have HL1 : Hid (Y.rangeAt w.heap.size 0 (accL 3 who i x new false)) := HM.out.loadA
  have HT1 : Hid (Y.there c 3 (accL 3 who i x new false).toArray.size) := HM.out.roomC
  have HL2 : Hid ((Y.setCells c 3 (accL 3 who i x new false).toArray.toList).rangeAt w.heap.size 0 (accL 3 who i x new false)) := HM.out.loadB
  have HT2 : Hid ((Y.setCells c 3 (accL 3 who i x new false).toArray.toList).there (w.heap.size + 1) 0 (accL 3 who i x new false).toArray.size) := HM.out.roomR
  have HR : Hid (((Y.setCells c 3 (accL 3 who i x new false).toArray.toList).setCells (w.heap.size + 1) 0 (accL 3 who i x new false).toArray.toList).heap[w.heap.size + 1]? = some (.cells (accL 3 who i x new false).toArray 48 (0, 0))) := HM.out.loadR
  clear HM
  rw [hq] at HM2 HL1 HL2 HT2 HR
  generalize hY2 : Y.setCells c 3 (accL 3 who i x new false).toArray.toList = Y2 at HM2 HL2 HT2 HR
  generalize hY3 : Y2.setCells (q + 1) 0 (accL 3 who i x new false).toArray.toList = Y3 at HM2 HR
  go_wp2_with (first | (refine wpList_load_mid rfl 48 _ rfl q 0 rfl (accL 3 who i x new false) _ HL1.out Tryz.underlying48 rfl (by kernel_rfl) ?_; clear HL1) | (refine wpList_store_mid rfl 48 _ _ rfl c 3 (accL 3 who i x new false).toArray rfl rfl HT1.out (by kernel_rfl) (accL_one _ _ _ _ _ _) ?_; rw [hY2]; clear HT1 hY2) | (refine wpList_load_mid rfl 48 _ rfl q 0 rfl (accL 3 who i x new false) _ HL2.out Tryz.underlying48 rfl (by kernel_rfl) ?_; clear HL2) | (refine wpList_store_mid rfl 48 _ _ rfl (q + 1) 0 (accL 3 who i x new false).toArray rfl rfl HT2.out (by kernel_rfl) (accL_one _ _ _ _ _ _) ?_; rw [hY3]; clear HT2 hY3))
  refine bodyPost_ret (v := .agg (accL 3 who i x new false).toArray) (results_cell_row rfl _ _ (q + 1) 48 (accL 3 who i x new false).toArray (0, 0) _ rfl HR.out Tryz.underlying48 rfl (by kernel_rfl)) rfl ⟨by rw [hx]; rfl, by rw [hx]; exact HM2.1, HM2.2⟩

theorem add_val (x new : Int) (hx : 0 ≤ x ∧ x ≤ 18446744073709551615) (hn : 0 ≤ new ∧ new ≤ 18446744073709551615) : (IntKind.u64.wrap (x + new)).tmod 4294967296 = (x + new) % 4294967296 := by
  have h1 : IntKind.u64.wrap (x + new) = (x + new) % 18446744073709551616 := by
    simp [IntKind.wrap, IntKind.bits, IntKind.signed]
  rw [h1, Int.tmod_eq_emod_of_nonneg (by omega)]
  omega

set_option maxHeartbeats 1000000 in
theorem access_add (w : World) (A : Option Addr) (cap c b n : Nat) (s : St) (who : Int) (i : Nat) (h : Is w 114 A cap c b n s) (hi : i < n) (hn : n ≤ 1000000) (hc : 0 ≤ s.clock ∧ s.clock ≤ 1000000) (new : Int) (hnb : 0 ≤ new ∧ new ≤ 18446744073709551615) :
    Calls Tryz.prog 56 #[.pointer (some ⟨c, 0, none⟩), .agg #[.int .i64 4, .int .i64 who, .int .i64 i, .int .u64 0, .int .u64 new, .bool false], .func (.func 57) #[] #[]] w fun e w' => e = .returned (.agg #[.int .i64 4, .int .i64 who, .int .i64 i, .int .u64 (s.f i), .int .u64 ((s.f i + new) % 4294967296), .bool true]) ∧ Is w' 114 A cap c b n { s with f := upd s.f i ((s.f i + new) % 4294967296), clock := s.clock + 1, kind := 4, who := who, at' := i, old := s.f i, new := ((s.f i + new) % 4294967296), done := true } ∧ But [c, b] w w' := by
  have HS : Hid _ := start_any w A cap c b n s 4 who i new h
  have c1 := h.cells.2.1
  have f1 := h.fro 1
  have hlc := h.lt
  clear h
  go_enter Tryz.func56, Tryz.ntmps56
  go_wp2_with fail
  generalize hX : (((w.setCell ⟨c, 1, none⟩ (.int .i64 (s.clock + 1))).alloc (.cells #[.int .i64 4, .int .i64 who, .int .i64 i, .int .u64 0, .int .u64 new, .bool false] 48)).alloc (.cells #[.int .i64 0, .int .i64 0, .int .i64 0, .int .u64 0, .int .u64 0, .bool false] 48)) = X at HS ⊢
  clear hX c1 f1
  go_at_call 55; refine (has_any X A cap c b n _ i HS.out.is).mono ?_; rintro e w1 ⟨rfl, rfl⟩
  rw [show decide (0 ≤ (i : Int) ∧ (i : Int) < n) = true by simp; omega]
  have HI : Hid _ := HS.out.is
  have c0 := HI.out.cells.1
  obtain ⟨a0, a1, a2, a3, a4, a5⟩ := HS.out.acc.cells
  have hw := HI.out.word hi
  have hwf := HI.out.wfro hi
  have hxb := HI.out.bd i hi
  obtain ⟨rfl, hbc, -⟩ := HI.out.wds (by omega)
  have g3 := HS.out.acc.fro 3
  have g5 := HS.out.acc.fro 5
  have hlb := HI.out.blt (by omega)
  have hblt := HS.out.blt
  generalize hx : s.f i = x at *
  generalize hq : w.heap.size = q at *
  go_wp2_with fail
  go_quiet (fail)
  go_wp2_with fail
  have HP : Hid _ := HS.out.old_done nq x
  have hA : AccAt (((X.drewN nq).setCell ⟨q, 3, none⟩ (.int .u64 x)).setCell ⟨q, 5, none⟩ (.bool true)) q 4 who i x new true := by have := HP.out.acc; rw [hq] at this; exact this
  have hW : (((X.drewN nq).setCell ⟨q, 3, none⟩ (.int .u64 x)).setCell ⟨q, 5, none⟩ (.bool true)).cell? ⟨b, i, none⟩ = some (.int .u64 x) := by have := HP.out.is.word hi; rw [hq] at this; exact this.trans (congrArg (fun z => some (Value.int .u64 z)) hx)
  have hF : (((X.drewN nq).setCell ⟨q, 3, none⟩ (.int .u64 x)).setCell ⟨q, 5, none⟩ (.bool true)).frozen? ⟨b, i, none⟩ = false := by have := HP.out.is.wfro hi; rw [hq] at this; exact this
  go_at_call 57; refine (work_add _ b i q _ _ _ _ _ _ hA (by omega) hxb hnb hW hF).mono ?_; rintro e w1 ⟨⟨v, rfl⟩, m, rfl⟩; clear hA hW hF
  clear HS HI c0 a0 a1 a2 a3 a4 a5 g3 g5
  have HM : Hid _ := (((HP.out.acc3 4 (.int .u64 ((IntKind.u64.wrap (x + new)).tmod 4294967296)) rfl).word i hi ((IntKind.u64.wrap (x + new)).tmod 4294967296) (by rw [add_val x new hxb hnb]; omega)).drewN m)
  clear HP
  rw [hq] at HM
  generalize hY : (((((X.drewN nq).setCell ⟨q, 3, none⟩ (.int .u64 x)).setCell ⟨q, 5, none⟩ (.bool true)).setCell ⟨q, 4, none⟩ (.int .u64 ((IntKind.u64.wrap (x + new)).tmod 4294967296))).setCell ⟨b, i, none⟩ (.int .u64 ((IntKind.u64.wrap (x + new)).tmod 4294967296))).drewN m = Y at HM ⊢
  clear hY
  generalize hz : (IntKind.u64.wrap (x + new)).tmod 4294967296 = z at HM ⊢
  rw [add_val x new hxb hnb] at hz
  have HM2 : Hid (Is ((Y.setCells c 3 (accL 4 who i x z true).toArray.toList).setCells (w.heap.size + 1) 0 (accL 4 who i x z true).toArray.toList) 114 _ cap c b n _ ∧ But [c, b] w ((Y.setCells c 3 (accL 4 who i x z true).toArray.toList).setCells (w.heap.size + 1) 0 (accL 4 who i x z true).toArray.toList)) := HM.out.end
  have HL1 : Hid (Y.rangeAt w.heap.size 0 (accL 4 who i x z true)) := HM.out.loadA
  have HT1 : Hid (Y.there c 3 (accL 4 who i x z true).toArray.size) := HM.out.roomC
  have HL2 : Hid ((Y.setCells c 3 (accL 4 who i x z true).toArray.toList).rangeAt w.heap.size 0 (accL 4 who i x z true)) := HM.out.loadB
  have HT2 : Hid ((Y.setCells c 3 (accL 4 who i x z true).toArray.toList).there (w.heap.size + 1) 0 (accL 4 who i x z true).toArray.size) := HM.out.roomR
  have HR : Hid (((Y.setCells c 3 (accL 4 who i x z true).toArray.toList).setCells (w.heap.size + 1) 0 (accL 4 who i x z true).toArray.toList).heap[w.heap.size + 1]? = some (.cells (accL 4 who i x z true).toArray 48 (0, 0))) := HM.out.loadR
  clear HM
  rw [hq] at HM2 HL1 HL2 HT2 HR
  generalize hY2 : Y.setCells c 3 (accL 4 who i x z true).toArray.toList = Y2 at HM2 HL2 HT2 HR
  generalize hY3 : Y2.setCells (q + 1) 0 (accL 4 who i x z true).toArray.toList = Y3 at HM2 HR
  go_wp2_with (first | (refine wpList_load_mid rfl 48 _ rfl q 0 rfl (accL 4 who i x z true) _ HL1.out Tryz.underlying48 rfl (by kernel_rfl) ?_; clear HL1) | (refine wpList_store_mid rfl 48 _ _ rfl c 3 (accL 4 who i x z true).toArray rfl rfl HT1.out (by kernel_rfl) (accL_one _ _ _ _ _ _) ?_; rw [hY2]; clear HT1 hY2) | (refine wpList_load_mid rfl 48 _ rfl q 0 rfl (accL 4 who i x z true) _ HL2.out Tryz.underlying48 rfl (by kernel_rfl) ?_; clear HL2) | (refine wpList_store_mid rfl 48 _ _ rfl (q + 1) 0 (accL 4 who i x z true).toArray rfl rfl HT2.out (by kernel_rfl) (accL_one _ _ _ _ _ _) ?_; rw [hY3]; clear HT2 hY3))
  refine bodyPost_ret (v := .agg (accL 4 who i x z true).toArray) (results_cell_row rfl _ _ (q + 1) 48 (accL 4 who i x z true).toArray (0, 0) _ rfl HR.out Tryz.underlying48 rfl (by kernel_rfl)) rfl ⟨by rw [hx, hz]; rfl, by rw [hx, hz]; exact HM2.1, HM2.2⟩

set_option maxHeartbeats 1000000 in
theorem access_bad (w : World) (A : Option Addr) (cap c b n : Nat) (s : St) (k who i new : Int) (fv : Value) (h : Is w 114 A cap c b n s) (hi : ¬ (0 ≤ i ∧ i < n)) (hn : n ≤ 1000000) (hc : 0 ≤ s.clock ∧ s.clock ≤ 1000000) (hbd : 0 ≤ s.bad ∧ s.bad ≤ 1000000) :
    Calls Tryz.prog 56 #[.pointer (some ⟨c, 0, none⟩), .agg #[.int .i64 k, .int .i64 who, .int .i64 i, .int .u64 0, .int .u64 new, .bool false], fv] w fun e w' => e = .returned (.agg #[.int .i64 k, .int .i64 who, .int .i64 i, .int .u64 0, .int .u64 new, .bool false]) ∧ Is w' 114 A cap c b n { s with clock := s.clock + 1, bad := s.bad + 1, kind := k, who := who, at' := i, old := 0, new := new, done := false } ∧ But [c, b] w w' := by
  have HS : Hid _ := start_any w A cap c b n s k who i new h
  have c1 := h.cells.2.1
  have f1 := h.fro 1
  have hlc := h.lt
  clear h
  go_enter Tryz.func56, Tryz.ntmps56
  go_wp2_with fail
  generalize hX : (((w.setCell ⟨c, 1, none⟩ (.int .i64 (s.clock + 1))).alloc (.cells #[.int .i64 k, .int .i64 who, .int .i64 i, .int .u64 0, .int .u64 new, .bool false] 48)).alloc (.cells #[.int .i64 0, .int .i64 0, .int .i64 0, .int .u64 0, .int .u64 0, .bool false] 48)) = X at HS ⊢
  clear hX c1 f1
  go_at_call 55; refine (has_any X A cap c b n _ i HS.out.is).mono ?_; rintro e w1 ⟨rfl, rfl⟩
  rw [show decide (0 ≤ (i : Int) ∧ (i : Int) < n) = false by simpa using hi]
  have HI : Hid _ := HS.out.is
  have c2 := HI.out.cells.2.2.1
  have f2 := HI.out.fro 2
  have HM : Hid (Mid w (X.setCell ⟨c, 2, none⟩ (.int .i64 (s.bad + 1))) A cap c b n { s with clock := s.clock + 1, bad := s.bad + 1 } k who i 0 new false) := HS.out.badc
  generalize hq : w.heap.size = q at *
  clear HS HI
  have HM2 : Hid (Is (((X.setCell ⟨c, 2, none⟩ (.int .i64 (s.bad + 1))).setCells c 3 (accL k who i 0 new false).toArray.toList).setCells (w.heap.size + 1) 0 (accL k who i 0 new false).toArray.toList) 114 _ cap c b n _ ∧ But [c, b] w (((X.setCell ⟨c, 2, none⟩ (.int .i64 (s.bad + 1))).setCells c 3 (accL k who i 0 new false).toArray.toList).setCells (w.heap.size + 1) 0 (accL k who i 0 new false).toArray.toList)) := HM.out.end
  have HL1 : Hid ((X.setCell ⟨c, 2, none⟩ (.int .i64 (s.bad + 1))).rangeAt w.heap.size 0 (accL k who i 0 new false)) := HM.out.loadA
  have HT1 : Hid ((X.setCell ⟨c, 2, none⟩ (.int .i64 (s.bad + 1))).there c 3 (accL k who i 0 new false).toArray.size) := HM.out.roomC
  have HL2 : Hid (((X.setCell ⟨c, 2, none⟩ (.int .i64 (s.bad + 1))).setCells c 3 (accL k who i 0 new false).toArray.toList).rangeAt w.heap.size 0 (accL k who i 0 new false)) := HM.out.loadB
  have HT2 : Hid (((X.setCell ⟨c, 2, none⟩ (.int .i64 (s.bad + 1))).setCells c 3 (accL k who i 0 new false).toArray.toList).there (w.heap.size + 1) 0 (accL k who i 0 new false).toArray.size) := HM.out.roomR
  have HR : Hid ((((X.setCell ⟨c, 2, none⟩ (.int .i64 (s.bad + 1))).setCells c 3 (accL k who i 0 new false).toArray.toList).setCells (w.heap.size + 1) 0 (accL k who i 0 new false).toArray.toList).heap[w.heap.size + 1]? = some (.cells (accL k who i 0 new false).toArray 48 (0, 0))) := HM.out.loadR
  clear HM
  rw [hq] at HM2 HL1 HL2 HT2 HR
  generalize hY2 : (X.setCell ⟨c, 2, none⟩ (.int .i64 (s.bad + 1))).setCells c 3 (accL k who i 0 new false).toArray.toList = Y2 at HM2 HL2 HT2 HR
  generalize hY3 : Y2.setCells (q + 1) 0 (accL k who i 0 new false).toArray.toList = Y3 at HM2 HR
  go_wp2_with (first | (refine wpList_load_mid rfl 48 _ rfl q 0 rfl (accL k who i 0 new false) _ HL1.out Tryz.underlying48 rfl (by kernel_rfl) ?_; clear HL1) | (refine wpList_store_mid rfl 48 _ _ rfl c 3 (accL k who i 0 new false).toArray rfl rfl HT1.out (by kernel_rfl) (accL_one _ _ _ _ _ _) ?_; rw [hY2]; clear HT1 hY2) | (refine wpList_load_mid rfl 48 _ rfl q 0 rfl (accL k who i 0 new false) _ HL2.out Tryz.underlying48 rfl (by kernel_rfl) ?_; clear HL2) | (refine wpList_store_mid rfl 48 _ _ rfl (q + 1) 0 (accL k who i 0 new false).toArray rfl rfl HT2.out (by kernel_rfl) (accL_one _ _ _ _ _ _) ?_; rw [hY3]; clear HT2 hY3))
  refine bodyPost_ret (v := .agg (accL k who i 0 new false).toArray) (results_cell_row rfl _ _ (q + 1) 48 (accL k who i 0 new false).toArray (0, 0) _ rfl HR.out Tryz.underlying48 rfl (by kernel_rfl)) rfl ⟨rfl, HM2.1, HM2.2⟩


end Go.Proofs.YthjfbknmdligeaaGreat
