/- The walk of the law LockAlone. -/
import Derived.Test.YtlnjjcfkcoaceaaLA3
import Derived.Test.YtlnjjcfkcoaceaaOpen2
namespace Go.Proofs.Ytlnjjcfkcoaceaa
open Go Go.RowKit
set_option linter.unusedVariables false
set_option maxRecDepth 100000
set_option linter.unusedSimpArgs false


theorem info75 : (Try.prog.info? 75).map (fun i => (i.zero, i.size, i.bytes)) = some (some (.pointer none), 1, 8) := by kernel_rfl
theorem info76 : (Try.prog.info? 76).map (fun i => (i.zero, i.size, i.bytes)) = some (some (.pointer none), 1, 8) := by kernel_rfl
def pz (n : Nat) : Array Value := madeCells #[Value.pointer none] n
theorem make_ins (n : Nat) (hn : n ≤ 1000000) (w : World) : (Instr.makeSlice 73 (.int .i64 n) (.int .i64 n)).run Try.prog w = .ok (.slice (some ⟨w.heap.size, 0, none⟩) n n) (w.alloc (.cells (pz n) 75)) := by
  obtain ⟨i0, hi, hz0, hz1, hz2⟩ := info_parts info75
  have := run_make (P := Try.prog) w 73 75 i0 (.pointer none) Try.underlying73 hi hz0 .i64 .i64 n n (by omega) (Int.le_refl _) (by rw [hz2]; omega) (by omega)
  rw [hz1] at this
  simpa [pz, Value.cells] using this
theorem make_outs (n : Nat) (hn : n ≤ 1000000) (w : World) : (Instr.makeSlice 74 (.int .i64 n) (.int .i64 n)).run Try.prog w = .ok (.slice (some ⟨w.heap.size, 0, none⟩) n n) (w.alloc (.cells (pz n) 76)) := by
  obtain ⟨i0, hi, hz0, hz1, hz2⟩ := info_parts info76
  have := run_make (P := Try.prog) w 74 76 i0 (.pointer none) Try.underlying74 hi hz0 .i64 .i64 n n (by omega) (Int.le_refl _) (by rw [hz2]; omega) (by omega)
  rw [hz1] at this
  simpa [pz, Value.cells] using this
theorem pz_size (n : Nat) : (pz n).size = n := size_madeCells _ _
theorem pz_at (n i : Nat) (h : i < n) : (pz n)[i]? = some (.pointer none) := by
  unfold pz madeCells
  rw [Array.getElem?_map, Array.getElem?_range, if_pos h]
  simp only [Option.map_some, Option.some.injEq]
  show (#[Value.pointer none])[i % 1]! = _
  rw [Nat.mod_one]
  rfl
theorem meas {m k : Nat} (h : k < m) : m - (intOf (.int .i64 ((k : Int) + 1))).toNat < m - (intOf (.int .i64 (k : Int))).toNat := by
  show m - ((k : Int) + 1).toNat < m - ((k : Int)).toNat
  omega
theorem tmod_nat (a b : Nat) : (a : Int).tmod (b : Int) = ((a % b : Nat) : Int) := by rw [Int.tmod_eq_emod_of_nonneg (by omega)]; simp

/-- Numbers below 256 of a slice. -/
def SeesB8 (w : World) (B : Nat) (A : Option Addr) (n : Nat) (f : Nat → Nat) : Prop :=
  0 < n → ∃ b off, A = some ⟨b, off, none⟩ ∧ b < B ∧ ∀ i, i < n → w.cell? ⟨b, off + i, none⟩ = some (.int .u8 (f i)) ∧ f i ≤ 255
open Go.ChangeShapes Go.WideShapes Go.ChangeAt Go.Deep in
theorem sees_bytes {H : Type} {enc : TypeId × Value → H} {P : Program} {W : World} {base b0 : Nat} {t e : TypeId} {v : Value} {d : DataW H} {p : List MemPlace} (ht : P.underlying t = some (.slice e)) (he : P.underlying e = some (.int .u8)) (hc : P.cellsOf e = 1)
    (hv : Value.okWide P W .any b0 t v) (h : DataW.Trod enc P W base (fun _ => true) true t v d p) :
    ∃ (A : Option Addr) (n cap : Nat) (f : Nat → Nat), v = .slice A n cap ∧ n ≤ maxLen ∧ SeesB8 W W.heap.size A n f := by
  obtain ⟨A, n, cap, rfl⟩ := okWide_slice ht hv
  obtain ⟨fuel, hf⟩ := h
  rcases open_ints ht he hc hf with ⟨hcs, _⟩ | ⟨x, l, c, zs, hcs, _, hl, hm, hz, _, hcell, hwz⟩
  · simp [Value.cells] at hcs
    obtain ⟨rfl, rfl, rfl⟩ := hcs
    exact ⟨none, 0, 0, fun _ => 0, rfl, Nat.zero_le _, fun h => absurd h (Nat.lt_irrefl 0)⟩
  · simp [Value.cells] at hcs
    obtain ⟨rfl, rfl, rfl⟩ := hcs
    have hz' : zs.length = cap := by simpa using hz
    refine ⟨some x, n, cap, fun i => (zs.getD i 0).toNat, rfl, Nat.le_trans hl hm, ?_⟩
    intro hn
    obtain ⟨b, off, spot⟩ := x
    have hs : spot = none := by
      have := hcell 0 (by omega)
      simpa [Addr.add] using World.cell?_spot this
    subst hs
    have hc0 := hcell 0 (by omega)
    simp [Addr.add] at hc0
    have hpos : ∀ i, i < n → 0 ≤ zs.getD i 0 ∧ zs.getD i 0 ≤ 255 := fun i hi => by
      have : zs.getD i 0 ∈ zs := by
        rw [List.getD_eq_getElem?_getD, List.getElem?_eq_getElem (by omega)]
        exact List.getElem_mem _
      exact bounds_u8 (hwz _ this)
    refine ⟨b, off, rfl, cell_lt hc0, fun i hi => ⟨?_, by have := hpos i hi; show (zs.getD i 0).toNat ≤ 255; omega⟩⟩
    have := hcell i (by omega)
    rw [show (((zs.getD i 0).toNat : Nat) : Int) = zs.getD i 0 from Int.toNat_of_nonneg (hpos i hi).1]
    by_cases h0 : i = 0
    · subst h0; simpa [Addr.add] using this
    · simpa [Addr.add, h0] using this

theorem lockAlone_bad (first : Int) (th : Int) (E : Option Addr) (mp cq : Nat) (w : World) (hmp : mp ≤ 9223372036854775807) (h : th < 1 ∨ 8 < th ∨ 400 < mp) :
    Calls Try.prog 5 #[.int .u32 first, .int .i64 th, .slice E mp cq] w fun e w' => e = .returned (.bool true) ∧ Below w.heap.size w w' := by
  by_cases h1 : th < 1
  · clear h
    go_enter Try.func5, Try.ntmps5
    go_wp2_with fail
    go_at_call 29; refine (lock_awake _).mono ?_; rintro e w2 ⟨rfl, h2⟩
    go_wp2_with fail
    go_ret
    exact ⟨rfl, h2⟩
  have d1 : decide (th < 1) = false := decide_eq_false h1
  by_cases h3 : 8 < th
  · clear h
    go_enter Try.func5, Try.ntmps5
    go_wp2_with fail
    go_at_call 29; refine (lock_awake _).mono ?_; rintro e w2 ⟨rfl, h2⟩
    go_wp2_with fail
    go_ret
    exact ⟨rfl, h2⟩
  have d2 : decide (8 < th) = false := decide_eq_false h3
  have h4 : 400 < mp := by omega
  clear h
  go_enter Try.func5, Try.ntmps5
  go_wp2_with fail
  go_at_call 29; refine (lock_awake _).mono ?_; rintro e w2 ⟨rfl, h2⟩
  go_wp2_with fail
  go_ret
  exact ⟨rfl, h2⟩

set_option maxHeartbeats 8000000 in
theorem lockAlone_ok (first : Int) (T : Nat) (E : Option Addr) (mp cq : Nat) (pk : Nat → Nat) (w : World) (hT : 1 ≤ T ∧ T ≤ 8) (hmp : mp ≤ 400) (hf : 0 ≤ first ∧ first ≤ 4294967295) (hP : SeesB8 w w.heap.size E mp pk) :
    Calls Try.prog 5 #[.int .u32 first, .int .i64 T, .slice E mp cq] w fun e w' => e = .returned (.bool true) ∧ Below w.heap.size w w' := by
  have d1 : decide ((T : Int) < 1) = false := decide_eq_false (by omega)
  have d2 : decide (8 < (T : Int)) = false := decide_eq_false (by omega)
  have d3 : decide ((400 : Int) < (mp : Int)) = false := decide_eq_false (by omega)
  have hw1 : IntKind.u64.wrap first = first := wrap_u64 (by omega)
  have hT0 : (0 : Int) < (T : Int) := by omega
  have hTn : (T : Int) ≠ 0 := by omega
  obtain ⟨n, hn⟩ : ∃ n : Nat, (n : Int) = 20 + 264 * 1 + 3 * (T : Int) + 2 * 1 := ⟨(20 + 264 * 1 + 3 * (T : Int) + 2 * 1).toNat, by omega⟩
  have hn3 : 3 ≤ n ∧ n ≤ 1000000 := by omega
  have hb0 : Below w.heap.size w (w.alloc (.cells #[.int .i64 0, .int .u64 first, .int .i64 1, .int .u64 first] 68)) := (Below.refl _ _).alloc (Nat.le_refl _) _
  have hX := Blk.new w #[.int .i64 0, .int .u64 first, .int .i64 1, .int .u64 first] 68
  have hL := lay_some 1 T 1 (some ⟨w.heap.size, 0, none⟩) 2 2 n (fun j => (j : Int)) (fun _ => first) (w.alloc (.cells #[.int .i64 0, .int .u64 first, .int .i64 1, .int .u64 first] 68)) (by omega) ⟨⟨by omega⟩, by omega, by omega, by omega⟩ hn (fun _ => ⟨w.heap.size, 0, rfl, hX.lt, fun j hj => by
    rcases (by omega : j = 0 ∨ j = 1) with rfl | rfl
    · exact ⟨hX.cell 0 rfl, hX.cell 1 rfl⟩
    · exact ⟨hX.cell 2 rfl, hX.cell 3 rfl⟩⟩) (fun i hi => by show 0 ≤ first ∧ first ≤ _; omega)
  have hput : Hid ((putF (fun j => (j : Int)) (fun _ => first) n 2) 0 = first ∧ (putF (fun j => (j : Int)) (fun _ => first) n 2) 1 = first) := by
    show _ ∧ _
    unfold putF
    unfold putF
    unfold putF
    rw [if_pos (by omega), if_pos (by omega)]
    constructor
    · simp [upd]
    · simp [upd]
  have HP : Hid (SeesB8 w w.heap.size E mp pk) := hP
  have hMi := make_ins T (by omega)
  have hMo := make_outs T (by omega)
  generalize putF (fun j => (j : Int)) (fun _ => first) n 2 = pf at *
  clear hP hX hn
  go_enter Try.func5, Try.ntmps5
  go_wp2_with fail
  generalize w.alloc (.cells #[.int .i64 0, .int .u64 first, .int .i64 1, .int .u64 first] 68) = W at *
  go_at_call 30; refine hL.mono ?_; rintro e w1 ⟨cl, A, A', cap, cap', c, b, c', b', rfl, hLd⟩
  obtain ⟨l1, l2, l3, l4, l5⟩ := laid_ground hLd
  have hup := hLd.up
  have hWs := hb0.size
  have hb1 : Below w.heap.size w w1 := hb0.trans (hLd.below.mono hWs)
  have hba : Below w1.heap.size w1 ((w1.alloc (.cells (pz T) 75)).alloc (.cells (pz T) 76)) := ((Below.refl _ _).alloc (Nat.le_refl _) _).alloc (by simp) _
  have bk1 : Blk ((w1.alloc (.cells (pz T) 75)).alloc (.cells (pz T) 76)) w1.heap.size (pz T) 75 := (Blk.new w1 (pz T) 75).al _
  have bk2 : Blk ((w1.alloc (.cells (pz T) 75)).alloc (.cells (pz T) 76)) (w1.heap.size + 1) (pz T) 76 := by
    have := Blk.new (w1.alloc (.cells (pz T) 75)) (pz T) 76
    rwa [World.size_alloc] at this
  have HS0 : Hid (Sys w ((w1.alloc (.cells (pz T) 75)).alloc (.cells (pz T) 76)) T first A cap c b n (fresh pf) w1.heap.size (w1.heap.size + 1) (fun _ => .idle none)) := by
    refine ⟨hLd.two.m.below hba, ⟨_, bk1, pz_size T, fun t ht => pz_at T t ht⟩, ⟨_, bk2, pz_size T, fun t ht => pz_at T t ht⟩, fun t ht => .idle none (fun x e => by cases e), fun t ht k hk => by simp [TS.fp, oL] at hk, fun t u ht hu htu k hk => by simp [TS.fp, oL] at hk, ⟨by omega, by omega, by omega, by omega, by omega⟩, ⟨by omega, by omega, by have := hb1.size; omega, by have := hb1.size; omega⟩, hb1.trans (hba.mono hb1.size)⟩
  have HA0 : Hid (Abs first T (fun _ => .idle none) (fresh pf) 0 0 0 0) := by
    refine ⟨?_, ?_, ⟨Nat.le_refl _, Nat.le_refl _⟩, fun t ht k hk => by simp [TS.num] at hk, fun t u ht hu k hk => by simp [TS.num] at hk, fun t ht hh => by simp [TS.hold] at hh, .inl ⟨rfl, fun t ht => rfl⟩⟩
    · show pf 0 = _; rw [hput.out.1]; omega
    · show pf 1 = _; rw [hput.out.2]; omega
  have hs1 : (w1.alloc (.cells (pz T) 75)).heap.size = w1.heap.size + 1 := World.size_alloc _ _
  clear hL hLd hb0 hb1 hba bk1 bk2 hput hWs hup l1 l2 l3 l4 l5
  go_wp2_with fail
  generalize (w1.alloc (.cells (pz T) 75)).alloc (.cells (pz T) 76) = w2 at *
  generalize w1.heap.size + 1 = bo at *
  generalize w1.heap.size = bi at *
  clear hMi hMo hs1
  go_loopw [13, 14] (fun sd i wr => ∃ (k served tk sv : Nat) (s : St) (S : Nat → TS), k ≤ mp ∧ i = .int .i64 k ∧ sd = .int .u64 served ∧ served ≤ k ∧ Hid (Sys w wr T first A cap c b n s bi bo S) ∧ Hid (Abs first T S s tk sv served k) ∧ Hid (Low s (k : Int)) ∧ Hid (∀ u, u < T → (S u).mid)) (fun _ i _ => mp - (intOf i).toNat)
  case atStart => exact ⟨0, 0, 0, 0, _, _, Nat.zero_le _, rfl, rfl, Nat.le_refl _, HS0, HA0, low_fresh _, fun u hu => trivial⟩
  case round =>
    clear HS0 HA0
    obtain ⟨k, served, tk, sv, s, S, hk, rfl, rfl, hsk, HS, HA, HL, HMid⟩ := hrel
    by_cases hlt : k < mp
    · obtain ⟨fb, foff, rfl, hfb, hcell⟩ := HP.out (by omega)
      have pz0 : wr.cell? ⟨fb, foff + k, none⟩ = some (.int .u8 (pk k)) := (HS.out.below.cell (p := ⟨fb, foff + k, none⟩) hfb).trans (hcell k hlt).1
      have hpb := (hcell k hlt).2
      have hw0 : wrap64 ((pk k : Nat) : Int) = ((pk k : Nat) : Int) := by unfold wrap64; omega
      have hk1 : (k : Int) < (mp : Int) := by omega
      have ht : pk k % T < T := Nat.mod_lt _ (by omega)
      have hmod := tmod_nat (pk k) T
      generalize pk k % T = t at *
      have ht1 : (t : Int) < (T : Int) := by omega
      have hw2 : IntKind.u64.wrap (t : Int) = t := wrap_u64 (by omega)
      have hw3 : IntKind.u64.wrap ((t : Int) + 1) = (t : Int) + 1 := wrap_u64 (by omega)
      have HSK : Hid (served ≤ k ∧ k ≤ 400) := ⟨hsk, by omega⟩
      have HKW : Hid (wrap64 ((k : Int) + 1) = (k : Int) + 1) := by show wrap64 ((k : Int) + 1) = (k : Int) + 1; unfold wrap64; omega
      have HKM : Hid ((k : Int) ≤ 1000000 ∧ k ≤ 1000) := ⟨by omega, by omega⟩
      clear hsk hk hmp hpb
      obtain ⟨ci, i1, i2, i3⟩ := HS.out.ins
      obtain ⟨co, o1, o2, o3⟩ := HS.out.outs
      have ti := i1.cell t (i3 t ht)
      have to := o1.cell t (o3 t ht)
      have fi := i1.fro t
      have hon := HS.out.on t ht
      clear hcell i1 i2 i3 o1 o2 o3
      cases hSt : S t with
      | idle o =>
        rw [hSt] at ti to hon
        simp only [TS.inP, TS.outP, ptr] at ti to
        have HNew : Hid (∀ Y, Below wr.heap.size wr Y → _) := fun Y hY => lock_new Y cl 0 t
        have hN := lock_new wr cl 0 t
        rw [show wd 0 2 3 0 0 = 0 by decide, show wd 0 2 3 0 1 = 1 by decide, show wd 0 2 3 0 2 = 2 by decide] at hN
        clear HNew
        cases o with
        | none =>
          simp only at to
          have hD := rel_done_nil wr
          clear hon
          go_wp2_with fail
          go_at_call 31; refine hD.mono ?_; rintro e y1 ⟨rfl, rfl⟩
          clear hD
          go_wp2_with fail
          go_at_call 32; refine hN.mono ?_; rintro e y2 ⟨x, q, rfl, r1, r2, hb2, hx2, hq2, hxq⟩
          have hAq : Acq y2 x t 0 1 2 q x 0 0 := .fresh q r1 r2 (by omega)
          have HS1 : Hid (Sys w (y2.setCell ⟨bi, t, none⟩ (.pointer (some ⟨x, 0, none⟩))) T first A cap c b n s bi bo (upS S t (.acq none x q x 0 0 0))) := HS.out.begin ht hSt hb2 hx2 hq2 hAq
          have HA1 : Hid (Abs first T (upS S t (.acq none x q x 0 0 0)) s tk sv served k) := HA.out.same ht _ rfl rfl (by rw [hSt]; rfl) (by rw [hSt]; rfl) (by rw [hSt]; rfl)
          have HMd : Hid (∀ u, u < T → (upS S t (.acq none x q x 0 0 0) u).mid) := mids HMid.out (by show (0 : Nat) ≤ 2; omega)
          obtain ⟨ci, i1, i2, i3⟩ := (HS.out.still hb2).ins
          have ti2 := i1.cell t (i3 t ht)
          have fi2 := i1.fro t
          rw [hSt] at ti2
          simp only [TS.inP, ptr] at ti2
          have hAS := acq_sys HS1.out HA1.out HL.out HKM.out.1 hn3 hT.2 HKM.out.2 hf ht (upS_at _ _ _) (by omega)
          have ti : (y2.setCell ⟨bi, t, none⟩ (.pointer (some ⟨x, 0, none⟩))).cell? ⟨bi, t, none⟩ = some (.pointer (some ⟨x, 0, none⟩)) := by
            obtain ⟨ci, j1, j2, j3⟩ := HS1.out.ins
            have := j1.cell t (j3 t ht)
            rw [upS_at] at this
            exact this
          clear hN r1 r2 hb2 hAq HS HA HL HMid i1 i2 i3 to
          go_wp2_with fail
          generalize y2.setCell ⟨bi, t, none⟩ (.pointer (some ⟨x, 0, none⟩)) = y7 at *
          go_at_call 34; refine hAS.mono ?_; rintro e y2 ⟨z, rfl, s', X, tk', hS', hA', hL', hz0, hz1⟩
          have HS' : Hid (Sys w y2 T first A cap c b n s' bi bo (upS (upS S t (.acq none x q x 0 0 0)) t X)) := hS'
          have HA' : Hid (Abs first T (upS (upS S t (.acq none x q x 0 0 0)) t X) s' tk' sv served (k + 1)) := hA'
          have HL' : Hid (Low s' ((k : Int) + 1)) := hL'
          have hlt2 := hS'.below.size
          clear hAS hS' hA' hL' ti
          cases z
          · have HM' : Hid (∀ u, u < T → (upS (upS S t (.acq none x q x 0 0 0)) t X u).mid) := mids HMd.out (hz0 rfl)
            clear hz0 hz1
            go_wp2_with fail
            go_roundw
            case rel => exact ⟨k + 1, served, tk', sv, s', upS (upS S t (.acq none x q x 0 0 0)) t X, by omega, by rw [HKW.out]; go_num, rfl, by have := HSK.out; omega, HS', HA', HL', HM'⟩
            case measure => first | exact meas hlt | (rw [HKW.out]; exact meas hlt) | (simp only [HKW.out]; exact meas hlt)
          · obtain ⟨u', rfl, hAq, hu', hf2⟩ := hz1 rfl
            obtain ⟨nx, hbx⟩ := hAq.cells
            have hTn := turn_any y2 x t 1 2 u' nx _ hbx
            rw [show decide (3 ≠ 0) = true from rfl] at hTn
            obtain ⟨ci, i1, i2, i3⟩ := HS'.out.ins
            have ti := i1.cell t (i3 t ht)
            rw [upS_at] at ti
            simp only [TS.inP, ptr] at ti
            have hsv := HA'.out.now ht (by rw [upS_at]; rfl) (by rw [upS_at]; rfl)
            have hal := HA'.out.alone ht (by rw [upS_at]; rfl)
            have hw4 : IntKind.u64.wrap (first + (served : Int)) = first + served := wrap_u64 (by have := HSK.out; omega)
            have hw5 : Int.tmod (first + (served : Int)) 4294967296 = u' := by rw [Int.tmod_eq_emod_of_nonneg (by omega), hu', hsv]
            have hw6 : IntKind.u64.wrap ((served : Int) + 1) = (served : Int) + 1 := wrap_u64 (by have := HSK.out; omega)
            have hub : 0 ≤ u' ∧ u' ≤ 4294967295 := by rw [hu']; omega
            have hw7 : IntKind.u64.wrap u' = u' := wrap_u64 (by omega)
            clear hz0 hz1 i1 i2 i3 hbx hAq hu' hsv hub
            go_wp2_with fail
            go_at_call 35; refine hTn.mono ?_; rintro e y3 ⟨rfl, zz, hzz⟩
            have hb3 : Below y2.heap.size y2 y3 := by rw [hzz]; exact Below.drewN' (Below.refl _ _) zz
            have HS3 : Hid (Sys w y3 T first A cap c b n s' bi bo (upS (upS S t (.acq none x q x 0 0 0)) t (.acq none x x x 3 sv u'))) := HS'.out.still hb3
            have hPk := peek_any y3 A cap c b n s' 2 HS3.out.mem hn3.2
            rw [show peekT n s' 2 = (t : Int) + 1 by unfold peekT; rw [if_pos ⟨by omega, by omega⟩]; exact hf2] at hPk
            have HOut : Hid (∀ v, v < T → v ≠ t → ∃ o', y3.cell? ⟨bo, v, none⟩ = some (ptr o') ∧ OutOk y3 o') := fun v hv hvt => by
              obtain ⟨co, o1, o2, o3⟩ := HS3.out.outs
              have h1 := o1.cell v (o3 v hv)
              have h2 := HS3.out.on v hv
              have h3 := hal v hv hvt
              generalize upS (upS S t (.acq none x q x 0 0 0)) t (.acq none x x x 3 sv u') v = Y at h1 h2 h3
              cases h2 with
              | idle o hO => exact ⟨o, h1, hO⟩
              | acq o x q g ph n u hO hA hu => exact ⟨o, h1, hO⟩
              | rel x q g ph n hR hp => simp [TS.hold] at h3
            clear hTn hzz HS' hf2 hal ti
            go_wp2_with fail
            go_at_call 36; refine hPk.mono ?_; rintro e y4 ⟨rfl, rfl⟩
            clear hPk
            go_wp2_with fail
            go_loopw [20] (fun iv wx => ∃ (j : Nat), j ≤ T ∧ iv = .int .i64 j ∧ wx = y3) (fun iv _ => T - (intOf iv).toNat)
            case atStart => exact ⟨0, Nat.zero_le _, rfl, rfl⟩
            case round =>
              obtain ⟨j, hj, rfl, rfl⟩ := hrel
              by_cases hjT : j < T
              · have hj1 : (j : Int) < (T : Int) := by omega
                have HJW : Hid (wrap64 ((j : Int) + 1) = (j : Int) + 1) := by show wrap64 ((j : Int) + 1) = (j : Int) + 1; unfold wrap64; omega
                by_cases hjt : j = t
                · subst hjt
                  go_wp2_with fail
                  go_roundw
                  case rel => exact ⟨j + 1, by omega, by go_num, trivial⟩
                  case measure => first | exact meas hjT | (rw [HJW.out]; exact meas hjT) | (simp only [HJW.out]; exact meas hjT)
                · have hdj : decide ((j : Int) = (t : Int)) = false := decide_eq_false (by omega)
                  have hdj2 : ((j : Int) != (t : Int)) = true := by simp; omega
                  obtain ⟨o', hc', hO'⟩ := HOut.out j hjT hjt
                  have hD : ∀ q, ptr o' = .pointer q → Calls Try.prog 31 #[.pointer q] wr fun e w' => e = .returned (.bool true) ∧ wr = w' := fun q hq => by
                    cases o' with
                    | none => cases hq; exact rel_done_nil wr
                    | some z => cases hq; exact rel_done wr z none (hO' z rfl)
                  obtain ⟨q', hq'⟩ : ∃ q', ptr o' = .pointer q' := by cases o' with | none => exact ⟨_, rfl⟩ | some z => exact ⟨_, rfl⟩
                  have hD2 := hD q' hq'
                  rw [hq'] at hc'
                  clear hD hq' hO'
                  go_wp2_with fail
                  go_at_call 31; refine hD2.mono ?_; rintro e y5 ⟨rfl, rfl⟩
                  go_wp2_with fail
                  go_roundw
                  case rel => exact ⟨j + 1, by omega, by go_num, trivial⟩
                  case measure => first | exact meas hjT | (rw [HJW.out]; exact meas hjT) | (simp only [HJW.out]; exact meas hjT)
              · obtain rfl : j = T := by omega
                have hgj : decide ((j : Int) < (j : Int)) = false := by simp
                obtain ⟨ci, i1, i2, i3⟩ := HS3.out.ins
                obtain ⟨co, o1, o2, o3⟩ := HS3.out.outs
                have ti := i1.cell t (i3 t ht)
                have fi := i1.fro t
                have hto := o1.cell t (o3 t ht)
                have hR := rel_new (wr.setCell ⟨bi, t, none⟩ (.pointer none)) cl 0 t
                rw [show wd 0 2 3 0 1 = 1 by decide, show wd 0 2 3 0 2 = 2 by decide] at hR
                have hne := HS3.out.apart.1
                have o5 := o1.setne (Ne.symm hne) t (.pointer none)
                have HO5 : Hid (Blk (wr.setCell ⟨bi, t, none⟩ (.pointer none)) bo co 76) := o5
                have hos := o3 t ht
                have hszs : (wr.setCell ⟨bi, t, none⟩ (.pointer none)).heap.size = wr.heap.size := size_set _ _ _
                clear i1 i2 i3 o1 o2 o3 o5 HOut hto
                go_wp2_with fail
                go_at_call 37; refine hR.mono ?_; rintro e y6 ⟨x', q', g', rfl, r1, r2, r3, hb6, hx6, hq6, hxq, hxg, hgq⟩
                have hRl : Rel y6 x' t 1 2 q' g' 0 := .fresh q' g' r1 r2 r3 (by omega) (by omega)
                have HS9 := HS3.out.enter ht (upS_at _ _ _) hb6 (by omega) (by omega) (by omega) hRl
                have HS9' : Hid (Sys w (y6.setCell ⟨bo, t, none⟩ (.pointer (some ⟨x', 0, none⟩))) _ first A cap c b n s' bi bo _) := HS9
                have HA9 := HA'.out.enter ht (.rel x' q' g' 0 sv) (by rw [upS_at]; rfl) (by rw [upS_at]; rfl) (by rw [upS_at]; rfl) rfl
                have HA9' : Hid _ := HA9
                have o6 := HO5.out.but (But.of_below (l := []) hb6) (by simp)
                have to6 := o6.cell t hos
                have fo6 := o6.fro t
                have HM9 : Hid (∀ u, u < j → (upS (upS (upS S t (.acq none x q x 0 0 0)) t (.acq none x x x 3 sv u')) t (.rel x' q' g' 0 sv) u).mid) := fun u hu => by
                  by_cases hut : u = t
                  · subst hut; rw [upS_at]; trivial
                  · rw [upS_ne _ _ hut, upS_ne _ _ hut]; exact HMd.out u hu
                clear hR r1 r2 r3 hb6 hRl HS9 HA9 o6 HO5 HS3 HA'
                go_wp2_with fail
                go_roundw
                case rel => exact ⟨k + 1, served + 1, tk', sv, s', _, by omega, by rw [HKW.out]; go_num, by go_num, by have := HSK.out; omega, HS9', HA9', HL', HM9⟩
                case measure => first | exact meas hlt | (rw [HKW.out]; exact meas hlt) | (simp only [HKW.out]; exact meas hlt)
        | some xo =>
          simp only at to
          have hok : wr.cell? ⟨xo, 1, none⟩ = some (.pointer none) := by cases hon with | idle o h => exact h xo rfl
          have hD := rel_done wr xo none hok
          clear hon hok
          go_wp2_with fail
          go_at_call 31; refine hD.mono ?_; rintro e y1 ⟨rfl, rfl⟩
          clear hD
          go_wp2_with fail
          go_at_call 32; refine hN.mono ?_; rintro e y2 ⟨x, q, rfl, r1, r2, hb2, hx2, hq2, hxq⟩
          have hAq : Acq y2 x t 0 1 2 q x 0 0 := .fresh q r1 r2 (by omega)
          have HS1 : Hid (Sys w (y2.setCell ⟨bi, t, none⟩ (.pointer (some ⟨x, 0, none⟩))) T first A cap c b n s bi bo (upS S t (.acq (some xo) x q x 0 0 0))) := HS.out.begin ht hSt hb2 hx2 hq2 hAq
          have HA1 : Hid (Abs first T (upS S t (.acq (some xo) x q x 0 0 0)) s tk sv served k) := HA.out.same ht _ rfl rfl (by rw [hSt]; rfl) (by rw [hSt]; rfl) (by rw [hSt]; rfl)
          have HMd : Hid (∀ u, u < T → (upS S t (.acq (some xo) x q x 0 0 0) u).mid) := mids HMid.out (by show (0 : Nat) ≤ 2; omega)
          obtain ⟨ci, i1, i2, i3⟩ := (HS.out.still hb2).ins
          have ti2 := i1.cell t (i3 t ht)
          have fi2 := i1.fro t
          rw [hSt] at ti2
          simp only [TS.inP, ptr] at ti2
          have hAS := acq_sys HS1.out HA1.out HL.out HKM.out.1 hn3 hT.2 HKM.out.2 hf ht (upS_at _ _ _) (by omega)
          have ti : (y2.setCell ⟨bi, t, none⟩ (.pointer (some ⟨x, 0, none⟩))).cell? ⟨bi, t, none⟩ = some (.pointer (some ⟨x, 0, none⟩)) := by
            obtain ⟨ci, j1, j2, j3⟩ := HS1.out.ins
            have := j1.cell t (j3 t ht)
            rw [upS_at] at this
            exact this
          clear hN r1 r2 hb2 hAq HS HA HL HMid i1 i2 i3 to
          go_wp2_with fail
          generalize y2.setCell ⟨bi, t, none⟩ (.pointer (some ⟨x, 0, none⟩)) = y7 at *
          go_at_call 34; refine hAS.mono ?_; rintro e y2 ⟨z, rfl, s', X, tk', hS', hA', hL', hz0, hz1⟩
          have HS' : Hid (Sys w y2 T first A cap c b n s' bi bo (upS (upS S t (.acq (some xo) x q x 0 0 0)) t X)) := hS'
          have HA' : Hid (Abs first T (upS (upS S t (.acq (some xo) x q x 0 0 0)) t X) s' tk' sv served (k + 1)) := hA'
          have HL' : Hid (Low s' ((k : Int) + 1)) := hL'
          have hlt2 := hS'.below.size
          clear hAS hS' hA' hL' ti
          cases z
          · have HM' : Hid (∀ u, u < T → (upS (upS S t (.acq (some xo) x q x 0 0 0)) t X u).mid) := mids HMd.out (hz0 rfl)
            clear hz0 hz1
            go_wp2_with fail
            go_roundw
            case rel => exact ⟨k + 1, served, tk', sv, s', upS (upS S t (.acq (some xo) x q x 0 0 0)) t X, by omega, by rw [HKW.out]; go_num, rfl, by have := HSK.out; omega, HS', HA', HL', HM'⟩
            case measure => first | exact meas hlt | (rw [HKW.out]; exact meas hlt) | (simp only [HKW.out]; exact meas hlt)
          · obtain ⟨u', rfl, hAq, hu', hf2⟩ := hz1 rfl
            obtain ⟨nx, hbx⟩ := hAq.cells
            have hTn := turn_any y2 x t 1 2 u' nx _ hbx
            rw [show decide (3 ≠ 0) = true from rfl] at hTn
            obtain ⟨ci, i1, i2, i3⟩ := HS'.out.ins
            have ti := i1.cell t (i3 t ht)
            rw [upS_at] at ti
            simp only [TS.inP, ptr] at ti
            have hsv := HA'.out.now ht (by rw [upS_at]; rfl) (by rw [upS_at]; rfl)
            have hal := HA'.out.alone ht (by rw [upS_at]; rfl)
            have hw4 : IntKind.u64.wrap (first + (served : Int)) = first + served := wrap_u64 (by have := HSK.out; omega)
            have hw5 : Int.tmod (first + (served : Int)) 4294967296 = u' := by rw [Int.tmod_eq_emod_of_nonneg (by omega), hu', hsv]
            have hw6 : IntKind.u64.wrap ((served : Int) + 1) = (served : Int) + 1 := wrap_u64 (by have := HSK.out; omega)
            have hub : 0 ≤ u' ∧ u' ≤ 4294967295 := by rw [hu']; omega
            have hw7 : IntKind.u64.wrap u' = u' := wrap_u64 (by omega)
            clear hz0 hz1 i1 i2 i3 hbx hAq hu' hsv hub
            go_wp2_with fail
            go_at_call 35; refine hTn.mono ?_; rintro e y3 ⟨rfl, zz, hzz⟩
            have hb3 : Below y2.heap.size y2 y3 := by rw [hzz]; exact Below.drewN' (Below.refl _ _) zz
            have HS3 : Hid (Sys w y3 T first A cap c b n s' bi bo (upS (upS S t (.acq (some xo) x q x 0 0 0)) t (.acq (some xo) x x x 3 sv u'))) := HS'.out.still hb3
            have hPk := peek_any y3 A cap c b n s' 2 HS3.out.mem hn3.2
            rw [show peekT n s' 2 = (t : Int) + 1 by unfold peekT; rw [if_pos ⟨by omega, by omega⟩]; exact hf2] at hPk
            have HOut : Hid (∀ v, v < T → v ≠ t → ∃ o', y3.cell? ⟨bo, v, none⟩ = some (ptr o') ∧ OutOk y3 o') := fun v hv hvt => by
              obtain ⟨co, o1, o2, o3⟩ := HS3.out.outs
              have h1 := o1.cell v (o3 v hv)
              have h2 := HS3.out.on v hv
              have h3 := hal v hv hvt
              generalize upS (upS S t (.acq (some xo) x q x 0 0 0)) t (.acq (some xo) x x x 3 sv u') v = Y at h1 h2 h3
              cases h2 with
              | idle o hO => exact ⟨o, h1, hO⟩
              | acq o x q g ph n u hO hA hu => exact ⟨o, h1, hO⟩
              | rel x q g ph n hR hp => simp [TS.hold] at h3
            clear hTn hzz HS' hf2 hal ti
            go_wp2_with fail
            go_at_call 36; refine hPk.mono ?_; rintro e y4 ⟨rfl, rfl⟩
            clear hPk
            go_wp2_with fail
            go_loopw [20] (fun iv wx => ∃ (j : Nat), j ≤ T ∧ iv = .int .i64 j ∧ wx = y3) (fun iv _ => T - (intOf iv).toNat)
            case atStart => exact ⟨0, Nat.zero_le _, rfl, rfl⟩
            case round =>
              obtain ⟨j, hj, rfl, rfl⟩ := hrel
              by_cases hjT : j < T
              · have hj1 : (j : Int) < (T : Int) := by omega
                have HJW : Hid (wrap64 ((j : Int) + 1) = (j : Int) + 1) := by show wrap64 ((j : Int) + 1) = (j : Int) + 1; unfold wrap64; omega
                by_cases hjt : j = t
                · subst hjt
                  go_wp2_with fail
                  go_roundw
                  case rel => exact ⟨j + 1, by omega, by go_num, trivial⟩
                  case measure => first | exact meas hjT | (rw [HJW.out]; exact meas hjT) | (simp only [HJW.out]; exact meas hjT)
                · have hdj : decide ((j : Int) = (t : Int)) = false := decide_eq_false (by omega)
                  have hdj2 : ((j : Int) != (t : Int)) = true := by simp; omega
                  obtain ⟨o', hc', hO'⟩ := HOut.out j hjT hjt
                  have hD : ∀ q, ptr o' = .pointer q → Calls Try.prog 31 #[.pointer q] wr fun e w' => e = .returned (.bool true) ∧ wr = w' := fun q hq => by
                    cases o' with
                    | none => cases hq; exact rel_done_nil wr
                    | some z => cases hq; exact rel_done wr z none (hO' z rfl)
                  obtain ⟨q', hq'⟩ : ∃ q', ptr o' = .pointer q' := by cases o' with | none => exact ⟨_, rfl⟩ | some z => exact ⟨_, rfl⟩
                  have hD2 := hD q' hq'
                  rw [hq'] at hc'
                  clear hD hq' hO'
                  go_wp2_with fail
                  go_at_call 31; refine hD2.mono ?_; rintro e y5 ⟨rfl, rfl⟩
                  go_wp2_with fail
                  go_roundw
                  case rel => exact ⟨j + 1, by omega, by go_num, trivial⟩
                  case measure => first | exact meas hjT | (rw [HJW.out]; exact meas hjT) | (simp only [HJW.out]; exact meas hjT)
              · obtain rfl : j = T := by omega
                have hgj : decide ((j : Int) < (j : Int)) = false := by simp
                obtain ⟨ci, i1, i2, i3⟩ := HS3.out.ins
                obtain ⟨co, o1, o2, o3⟩ := HS3.out.outs
                have ti := i1.cell t (i3 t ht)
                have fi := i1.fro t
                have hto := o1.cell t (o3 t ht)
                have hR := rel_new (wr.setCell ⟨bi, t, none⟩ (.pointer none)) cl 0 t
                rw [show wd 0 2 3 0 1 = 1 by decide, show wd 0 2 3 0 2 = 2 by decide] at hR
                have hne := HS3.out.apart.1
                have o5 := o1.setne (Ne.symm hne) t (.pointer none)
                have HO5 : Hid (Blk (wr.setCell ⟨bi, t, none⟩ (.pointer none)) bo co 76) := o5
                have hos := o3 t ht
                have hszs : (wr.setCell ⟨bi, t, none⟩ (.pointer none)).heap.size = wr.heap.size := size_set _ _ _
                clear i1 i2 i3 o1 o2 o3 o5 HOut hto
                go_wp2_with fail
                go_at_call 37; refine hR.mono ?_; rintro e y6 ⟨x', q', g', rfl, r1, r2, r3, hb6, hx6, hq6, hxq, hxg, hgq⟩
                have hRl : Rel y6 x' t 1 2 q' g' 0 := .fresh q' g' r1 r2 r3 (by omega) (by omega)
                have HS9 := HS3.out.enter ht (upS_at _ _ _) hb6 (by omega) (by omega) (by omega) hRl
                have HS9' : Hid (Sys w (y6.setCell ⟨bo, t, none⟩ (.pointer (some ⟨x', 0, none⟩))) _ first A cap c b n s' bi bo _) := HS9
                have HA9 := HA'.out.enter ht (.rel x' q' g' 0 sv) (by rw [upS_at]; rfl) (by rw [upS_at]; rfl) (by rw [upS_at]; rfl) rfl
                have HA9' : Hid _ := HA9
                have o6 := HO5.out.but (But.of_below (l := []) hb6) (by simp)
                have to6 := o6.cell t hos
                have fo6 := o6.fro t
                have HM9 : Hid (∀ u, u < j → (upS (upS (upS S t (.acq (some xo) x q x 0 0 0)) t (.acq (some xo) x x x 3 sv u')) t (.rel x' q' g' 0 sv) u).mid) := fun u hu => by
                  by_cases hut : u = t
                  · subst hut; rw [upS_at]; trivial
                  · rw [upS_ne _ _ hut, upS_ne _ _ hut]; exact HMd.out u hu
                clear hR r1 r2 r3 hb6 hRl HS9 HA9 o6 HO5 HS3 HA'
                go_wp2_with fail
                go_roundw
                case rel => exact ⟨k + 1, served + 1, tk', sv, s', _, by omega, by rw [HKW.out]; go_num, by go_num, by have := HSK.out; omega, HS9', HA9', HL', HM9⟩
                case measure => first | exact meas hlt | (rw [HKW.out]; exact meas hlt) | (simp only [HKW.out]; exact meas hlt)
      | acq o x q g ph kn u =>
        rw [hSt] at ti
        simp only [TS.inP, ptr] at ti
        have hph : ph ≤ 2 := by have := HMid.out t ht; rw [hSt] at this; exact this
        have hAS := acq_sys HS.out HA.out HL.out HKM.out.1 hn3 hT.2 HKM.out.2 hf ht hSt hph
        have HS2 : Hid (Sys w wr T first A cap c b n s bi bo S) := HS
        have HMd : Hid (∀ u, u < T → (S u).mid) := HMid
        clear hon to HS HA HL HMid
        go_wp2_with fail
        go_at_call 34; refine hAS.mono ?_; rintro e y2 ⟨z, rfl, s', X, tk', hS', hA', hL', hz0, hz1⟩
        have HS' : Hid (Sys w y2 T first A cap c b n s' bi bo (upS S t X)) := hS'
        have HA' : Hid (Abs first T (upS S t X) s' tk' sv served (k + 1)) := hA'
        have HL' : Hid (Low s' ((k : Int) + 1)) := hL'
        have hlt2 := hS'.below.size
        clear hAS hS' hA' hL' ti fi
        cases z
        · have HM' : Hid (∀ u, u < T → (upS S t X u).mid) := mids HMd.out (hz0 rfl)
          clear hz0 hz1
          go_wp2_with fail
          go_roundw
          case rel => exact ⟨k + 1, served, tk', sv, s', upS S t X, by omega, by rw [HKW.out]; go_num, rfl, by have := HSK.out; omega, HS', HA', HL', HM'⟩
          case measure => first | exact meas hlt | (rw [HKW.out]; exact meas hlt) | (simp only [HKW.out]; exact meas hlt)
        · obtain ⟨u', rfl, hAq, hu', hf2⟩ := hz1 rfl
          obtain ⟨nx, hbx⟩ := hAq.cells
          have hTn := turn_any y2 x t 1 2 u' nx _ hbx
          rw [show decide (3 ≠ 0) = true from rfl] at hTn
          obtain ⟨ci, i1, i2, i3⟩ := HS'.out.ins
          have ti := i1.cell t (i3 t ht)
          rw [upS_at] at ti
          simp only [TS.inP, ptr] at ti
          have hsv := HA'.out.now ht (by rw [upS_at]; rfl) (by rw [upS_at]; rfl)
          have hal := HA'.out.alone ht (by rw [upS_at]; rfl)
          have hw4 : IntKind.u64.wrap (first + (served : Int)) = first + served := wrap_u64 (by have := HSK.out; omega)
          have hw5 : Int.tmod (first + (served : Int)) 4294967296 = u' := by rw [Int.tmod_eq_emod_of_nonneg (by omega), hu', hsv]
          have hw6 : IntKind.u64.wrap ((served : Int) + 1) = (served : Int) + 1 := wrap_u64 (by have := HSK.out; omega)
          have hub : 0 ≤ u' ∧ u' ≤ 4294967295 := by rw [hu']; omega
          have hw7 : IntKind.u64.wrap u' = u' := wrap_u64 (by omega)
          clear hz0 hz1 i1 i2 i3 hbx hAq hu' hsv hub
          go_wp2_with fail
          go_at_call 35; refine hTn.mono ?_; rintro e y3 ⟨rfl, zz, hzz⟩
          have hb3 : Below y2.heap.size y2 y3 := by rw [hzz]; exact Below.drewN' (Below.refl _ _) zz
          have HS3 : Hid (Sys w y3 T first A cap c b n s' bi bo (upS S t (.acq o x x x 3 sv u'))) := HS'.out.still hb3
          have hPk := peek_any y3 A cap c b n s' 2 HS3.out.mem hn3.2
          rw [show peekT n s' 2 = (t : Int) + 1 by unfold peekT; rw [if_pos ⟨by omega, by omega⟩]; exact hf2] at hPk
          have HOut : Hid (∀ v, v < T → v ≠ t → ∃ o', y3.cell? ⟨bo, v, none⟩ = some (ptr o') ∧ OutOk y3 o') := fun v hv hvt => by
            obtain ⟨co, o1, o2, o3⟩ := HS3.out.outs
            have h1 := o1.cell v (o3 v hv)
            have h2 := HS3.out.on v hv
            have h3 := hal v hv hvt
            generalize upS S t (.acq o x x x 3 sv u') v = Y at h1 h2 h3
            cases h2 with
            | idle o hO => exact ⟨o, h1, hO⟩
            | acq o x q g ph n u hO hA hu => exact ⟨o, h1, hO⟩
            | rel x q g ph n hR hp => simp [TS.hold] at h3
          clear hTn hzz HS' hf2 hal ti
          go_wp2_with fail
          go_at_call 36; refine hPk.mono ?_; rintro e y4 ⟨rfl, rfl⟩
          clear hPk
          go_wp2_with fail
          go_loopw [20] (fun iv wx => ∃ (j : Nat), j ≤ T ∧ iv = .int .i64 j ∧ wx = y3) (fun iv _ => T - (intOf iv).toNat)
          case atStart => exact ⟨0, Nat.zero_le _, rfl, rfl⟩
          case round =>
            obtain ⟨j, hj, rfl, rfl⟩ := hrel
            by_cases hjT : j < T
            · have hj1 : (j : Int) < (T : Int) := by omega
              have HJW : Hid (wrap64 ((j : Int) + 1) = (j : Int) + 1) := by show wrap64 ((j : Int) + 1) = (j : Int) + 1; unfold wrap64; omega
              by_cases hjt : j = t
              · subst hjt
                go_wp2_with fail
                go_roundw
                case rel => exact ⟨j + 1, by omega, by go_num, trivial⟩
                case measure => first | exact meas hjT | (rw [HJW.out]; exact meas hjT) | (simp only [HJW.out]; exact meas hjT)
              · have hdj : decide ((j : Int) = (t : Int)) = false := decide_eq_false (by omega)
                have hdj2 : ((j : Int) != (t : Int)) = true := by simp; omega
                obtain ⟨o', hc', hO'⟩ := HOut.out j hjT hjt
                have hD : ∀ q, ptr o' = .pointer q → Calls Try.prog 31 #[.pointer q] wr fun e w' => e = .returned (.bool true) ∧ wr = w' := fun q hq => by
                  cases o' with
                  | none => cases hq; exact rel_done_nil wr
                  | some z => cases hq; exact rel_done wr z none (hO' z rfl)
                obtain ⟨q', hq'⟩ : ∃ q', ptr o' = .pointer q' := by cases o' with | none => exact ⟨_, rfl⟩ | some z => exact ⟨_, rfl⟩
                have hD2 := hD q' hq'
                rw [hq'] at hc'
                clear hD hq' hO'
                go_wp2_with fail
                go_at_call 31; refine hD2.mono ?_; rintro e y5 ⟨rfl, rfl⟩
                go_wp2_with fail
                go_roundw
                case rel => exact ⟨j + 1, by omega, by go_num, trivial⟩
                case measure => first | exact meas hjT | (rw [HJW.out]; exact meas hjT) | (simp only [HJW.out]; exact meas hjT)
            · obtain rfl : j = T := by omega
              have hgj : decide ((j : Int) < (j : Int)) = false := by simp
              obtain ⟨ci, i1, i2, i3⟩ := HS3.out.ins
              obtain ⟨co, o1, o2, o3⟩ := HS3.out.outs
              have ti := i1.cell t (i3 t ht)
              have fi := i1.fro t
              have hto := o1.cell t (o3 t ht)
              have hR := rel_new (wr.setCell ⟨bi, t, none⟩ (.pointer none)) cl 0 t
              rw [show wd 0 2 3 0 1 = 1 by decide, show wd 0 2 3 0 2 = 2 by decide] at hR
              have hne := HS3.out.apart.1
              have o5 := o1.setne (Ne.symm hne) t (.pointer none)
              have HO5 : Hid (Blk (wr.setCell ⟨bi, t, none⟩ (.pointer none)) bo co 76) := o5
              have hos := o3 t ht
              have hszs : (wr.setCell ⟨bi, t, none⟩ (.pointer none)).heap.size = wr.heap.size := size_set _ _ _
              clear i1 i2 i3 o1 o2 o3 o5 HOut hto
              go_wp2_with fail
              go_at_call 37; refine hR.mono ?_; rintro e y6 ⟨x', q', g', rfl, r1, r2, r3, hb6, hx6, hq6, hxq, hxg, hgq⟩
              have hRl : Rel y6 x' t 1 2 q' g' 0 := .fresh q' g' r1 r2 r3 (by omega) (by omega)
              have HS9 := HS3.out.enter ht (upS_at _ _ _) hb6 (by omega) (by omega) (by omega) hRl
              have HS9' : Hid (Sys w (y6.setCell ⟨bo, t, none⟩ (.pointer (some ⟨x', 0, none⟩))) _ first A cap c b n s' bi bo _) := HS9
              have HA9 := HA'.out.enter ht (.rel x' q' g' 0 sv) (by rw [upS_at]; rfl) (by rw [upS_at]; rfl) (by rw [upS_at]; rfl) rfl
              have HA9' : Hid _ := HA9
              have o6 := HO5.out.but (But.of_below (l := []) hb6) (by simp)
              have to6 := o6.cell t hos
              have fo6 := o6.fro t
              have HM9 : Hid (∀ u, u < j → (upS (upS S t (.acq o x x x 3 sv u')) t (.rel x' q' g' 0 sv) u).mid) := fun u hu => by
                by_cases hut : u = t
                · subst hut; rw [upS_at]; trivial
                · rw [upS_ne _ _ hut, upS_ne _ _ hut]; exact HMd.out u hu
              clear hR r1 r2 r3 hb6 hRl HS9 HA9 o6 HO5 HS3 HA'
              go_wp2_with fail
              go_roundw
              case rel => exact ⟨k + 1, served + 1, tk', sv, s', _, by omega, by rw [HKW.out]; go_num, by go_num, by have := HSK.out; omega, HS9', HA9', HL', HM9⟩
              case measure => first | exact meas hlt | (rw [HKW.out]; exact meas hlt) | (simp only [HKW.out]; exact meas hlt)
      | rel x q g ph kn =>
        rw [hSt] at ti to hon
        simp only [TS.inP, TS.outP, ptr] at ti to
        have hD : Calls Try.prog 31 #[.pointer (some ⟨x, 0, none⟩)] wr fun e w' => e = .returned (.bool false) ∧ wr = w' := by
          cases hon with
          | rel x q g ph kn hR hph =>
            obtain ⟨nx, h1, h2⟩ := hR.next
            have := rel_done wr x nx h1
            rw [h2, decide_eq_false (by omega)] at this
            exact this
        have hRS := rel_sys HS.out HA.out HL.out HKM.out.1 hn3 hf ht hSt
        have HMd : Hid (∀ u, u < T → (S u).mid) := HMid
        clear hon HS HA HL HMid
        go_wp2_with fail
        go_at_call 31; refine hD.mono ?_; rintro e y1 ⟨rfl, rfl⟩
        go_wp2_with fail
        go_at_call 33; refine hRS.mono ?_; rintro e y2 ⟨z, rfl, s', X, sv', hS', hA', hL', hXm⟩
        have HS' : Hid _ := hS'
        have HA' : Hid _ := hA'
        have HL' : Hid _ := hL'
        have HM' : Hid (∀ u, u < T → (upS S t X u).mid) := mids HMd.out hXm
        clear hD hRS hS' hA' hL' hXm
        go_wp2_with fail
        go_roundw
        case rel => exact ⟨k + 1, served, tk, sv', s', upS S t X, by omega, by rw [HKW.out]; go_num, rfl, by have := HSK.out; omega, HS', HA', HL', HM'⟩
        case measure => first | exact meas hlt | (rw [HKW.out]; exact meas hlt) | (simp only [HKW.out]; exact meas hlt)
    · obtain rfl : k = mp := by omega
      have hgd : decide ((k : Int) < (k : Int)) = false := by simp
      have hbb := HS.out.below
      clear HS HA HL HMid
      go_wp2_with fail
      go_at_call 29; refine (lock_awake _).mono ?_; rintro e y1 ⟨rfl, g1⟩
      have hb2 := seq hbb g1
      go_wp2_with fail
      go_ret
      exact ⟨rfl, hb2⟩

theorem lockAlone_walk (first th : Int) (E : Option Addr) (mp cq : Nat) (pk : Nat → Nat) (w : World) (hmp : mp ≤ 9223372036854775807) (hf : 0 ≤ first ∧ first ≤ 4294967295) (hP : SeesB8 w w.heap.size E mp pk) :
    Calls Try.prog 5 #[.int .u32 first, .int .i64 th, .slice E mp cq] w fun e w' => e = .returned (.bool true) ∧ Below w.heap.size w w' := by
  by_cases h : th < 1 ∨ 8 < th ∨ 400 < mp
  · exact lockAlone_bad first th E mp cq w hmp h
  · obtain ⟨T, rfl⟩ : ∃ T : Nat, th = T := ⟨th.toNat, by omega⟩
    exact lockAlone_ok first T E mp cq pk w (by omega) (by omega) hf hP

end Go.Proofs.Ytlnjjcfkcoaceaa
