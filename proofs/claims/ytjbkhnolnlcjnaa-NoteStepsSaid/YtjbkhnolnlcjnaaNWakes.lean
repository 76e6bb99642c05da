/- The walk of the law NoteWakes. -/
import Derived.Test.YtjbkhnolnlcjnaaRun3
import Derived.Test.YtjbkhnolnlcjnaaNKeeps
namespace Go.Proofs.Ytjbkhnolnlcjnaa
open Go Go.RowKit
set_option linter.unusedVariables false
set_option maxRecDepth 100000
set_option linter.unusedSimpArgs false

theorem sameB_any (w : World) (A B : Option Addr) (n cap cap' : Nat) (f : Nat → Int) (hn : n ≤ 1000000) (hA : SeesU w w.heap.size A n f) (hB : SeesU w w.heap.size B n f) :
    Calls Try.prog 25 #[.slice A n cap, .slice B n cap'] w fun e w' => e = .returned (.bool true) ∧ Below w.heap.size w w' :=
  (same_any w A B n cap cap' f hn hA hB).mono fun e w' ⟨he, m, hm⟩ => ⟨he, by rw [hm]; exact Below.drewN' (Below.refl _ _) m⟩
theorem wkdoneB (w : World) (x : Nat) (nx : Option Addr) (hc : w.cell? ⟨x, 1, none⟩ = some (.pointer nx)) :
    Calls Try.prog 52 #[.pointer (some ⟨x, 0, none⟩)] w fun e w' => e = .returned (.bool nx.isNone) ∧ Below w.heap.size w w' :=
  (wk_done w x nx hc).mono fun e w' ⟨he, hm⟩ => ⟨he, by rw [← hm]; exact Below.refl _ _⟩

def zRun : List Value := [.slice none 0 0, .int .i64 0, .bool false, .int .i64 0, .int .i64 0, .int .i64 0, .int .u64 0, .int .u64 0, .bool false, .bool false]

theorem noteWakes_bad (P T G t who : Int) (E : Option Addr) (m cp : Nat) (a v : Nat → Int) (w : World) (hm : m ≤ 9223372036854775807) (hs : SeesP w w.heap.size E m a v) (hv : ∀ i, i < m → 0 ≤ v i ∧ v i ≤ 18446744073709551615) (h : (¬ FewC P T G ∨ 400 < m) ∨ t < 0 ∨ T ≤ t) :
    Calls Try.prog 11 #[.agg #[.int .i64 P, .int .i64 T, .int .i64 G, .slice E m cp], .int .i64 t, .int .i64 who] w fun e w' => e = .returned (.bool true) ∧ Below w.heap.size w w' := by
  have hb : Below w.heap.size w (w.alloc (.cells #[.int .i64 P, .int .i64 T, .int .i64 G, .slice E m cp] 67)) := (Below.refl _ _).alloc (Nat.le_refl _) _
  have hX : Hid (Blk (w.alloc (.cells #[.int .i64 P, .int .i64 T, .int .i64 G, .slice E m cp] 67)) w.heap.size #[.int .i64 P, .int .i64 T, .int .i64 G, .slice E m cp] 67) := Blk.new _ _ _
  have hsz : (w.alloc (.cells #[.int .i64 P, .int .i64 T, .int .i64 G, .slice E m cp] 67)).heap.size = w.heap.size + 1 := World.size_alloc _ _
  have HB : Hid (Below w.heap.size w (w.alloc (.cells #[.int .i64 P, .int .i64 T, .int .i64 G, .slice E m cp] 67))) := hb
  by_cases hf : ¬ FewC P T G ∨ 400 < m
  · have hL := lay_none P T G E m cp (w.alloc (.cells #[.int .i64 P, .int .i64 T, .int .i64 G, .slice E m cp] 67)) hm hf
    clear h hf hs hv hb
    go_enter Try.func11, Try.ntmps11
    go_wp2_with fail
    generalize w.alloc (.cells #[.int .i64 P, .int .i64 T, .int .i64 G, .slice E m cp] 67) = W at *
    go_at_call 32; refine hL.mono ?_; rintro e w1 ⟨rfl, h1⟩
    have HB1 : Hid (Below w.heap.size w w1) := HB.out.trans (h1.mono (by omega))
    clear hL h1
    go_wp2_with fail
    go_at_call 48; refine (slp_done_nil w1).mono ?_; rintro e w2 ⟨rfl, rfl⟩
    go_wp2_with fail
    go_at_call 51; refine (slp_step_nil w1 _).mono ?_; rintro e w2 ⟨rfl, rfl⟩
    go_wp2_with fail
    go_at_call 49; refine (slp_asleep_nil w1 _).mono ?_; rintro e w2 ⟨rfl, rfl⟩
    go_wp2_with fail
    go_at_call 52; refine (wk_done_nil w1).mono ?_; rintro e w2 ⟨rfl, rfl⟩
    go_wp2_with fail
    go_at_call 53; refine (wk_step_nil w1 _).mono ?_; rintro e w2 ⟨rfl, rfl⟩
    go_wp2_with fail
    go_at_call 44; refine (note_awake w1).mono ?_; rintro e w2 ⟨rfl, h2⟩
    have h3 := seq HB1.out h2
    go_wp2_with fail
    go_ret
    exact ⟨rfl, h3⟩
  · have hF : FewC P T G := Decidable.byContradiction fun h => hf (.inl h)
    have hm4 : m ≤ 400 := by omega
    have hM := hF.h.1.h
    obtain ⟨n, hn⟩ : ∃ n : Nat, (n : Int) = 20 + 264 * P + 3 * T + 2 * G := ⟨(20 + 264 * P + 3 * T + 2 * G).toNat, by omega⟩
    have hL := lay_some P T G E m cp n a v (w.alloc (.cells #[.int .i64 P, .int .i64 T, .int .i64 G, .slice E m cp] 67)) hm4 hF hn (hs.below hb (Nat.le_refl _) |> fun h => (fun hp => by obtain ⟨b0, off, e, hlt, hc⟩ := h hp; exact ⟨b0, off, e, by omega, hc⟩)) hv
    have htt : t < 0 ∨ T ≤ t := by rcases h with h | h; exact absurd h hf; exact h
    clear h hf hs hv hb hn hF hM
    go_enter Try.func11, Try.ntmps11
    go_wp2_with fail
    generalize w.alloc (.cells #[.int .i64 P, .int .i64 T, .int .i64 G, .slice E m cp] 67) = W at *
    go_at_call 32; refine hL.mono ?_; rintro e w1 ⟨cl, A, A', cap, cap', c, b, c', b', rfl, hLd⟩
    have HB1 : Hid (Below w.heap.size w w1) := HB.out.trans (hLd.below.mono (by omega))
    have y1 := (hX.out.but (But.of_below (l := []) hLd.below) (by simp)).cell 1 (v := .int .i64 T) rfl
    clear hL hLd
    go_wp2_with fail
    go_at_call 48; refine (slp_done_nil w1).mono ?_; rintro e w2 ⟨rfl, rfl⟩
    go_wp2_with fail
    go_at_call 51; refine (slp_step_nil w1 _).mono ?_; rintro e w2 ⟨rfl, rfl⟩
    go_wp2_with fail
    go_at_call 49; refine (slp_asleep_nil w1 _).mono ?_; rintro e w2 ⟨rfl, rfl⟩
    go_wp2_with fail
    go_at_call 52; refine (wk_done_nil w1).mono ?_; rintro e w2 ⟨rfl, rfl⟩
    go_wp2_with fail
    go_at_call 53; refine (wk_step_nil w1 _).mono ?_; rintro e w2 ⟨rfl, rfl⟩
    by_cases h0 : t < 0
    · clear htt
      go_wp2_with fail
      go_at_call 44; refine (note_awake w1).mono ?_; rintro e w2 ⟨rfl, h2⟩
      have h3 := seq HB1.out h2
      go_wp2_with fail
      go_ret
      exact ⟨rfl, h3⟩
    · have d0 : decide (t < 0) = false := decide_eq_false h0
      have h1 : T ≤ t := by omega
      clear htt
      go_wp2_with fail
      go_at_call 44; refine (note_awake w1).mono ?_; rintro e w2 ⟨rfl, h2⟩
      have h3 := seq HB1.out h2
      go_wp2_with fail
      go_ret
      exact ⟨rfl, h3⟩

theorem SeesP.up {w : World} {E : Option Addr} {m : Nat} {a v : Nat → Int} (hs : SeesP w w.heap.size E m a v) (o : Obj) : SeesP (w.alloc o) (w.alloc o).heap.size E m a v := fun hp => by
  obtain ⟨b0, off, e, hlt, hc⟩ := hs hp
  have hB : Below w.heap.size w (w.alloc o) := (Below.refl _ _).alloc (Nat.le_refl _) _
  exact ⟨b0, off, e, by simp; omega, fun j hj => ⟨(hB.cell (p := ⟨b0, off + j * 2, none⟩) hlt).trans (hc j hj).1, (hB.cell (p := ⟨b0, off + j * 2 + 1, none⟩) hlt).trans (hc j hj).2⟩⟩

/-- A routine begins. -/
theorem run_begin (w : World) : RunOn (w.alloc (.cells zRun.toArray 43)) w.heap.size none 0 0 (fun _ => 0) rn0 :=
  ⟨Blk.new _ _ _, ⟨World.ownsRow_nil _ _ _ _⟩, (fun b e => by cases e), by omega, Nat.le_refl _⟩
/-- A routine's cells, as a list. -/
def runL (v : Value) (r : Rn) : List Value := [v, .int .i64 r.used, .bool r.stop, .int .i64 r.k, .int .i64 0, .int .i64 r.i, .int .u64 r.old, .int .u64 r.new, .bool false, .bool r.sleep]
theorem RunOn.range {w : World} {x : Nat} {A : Option Addr} {cap m : Nat} {g : Nat → Int} {r : Rn} (h : RunOn w x A cap m g r) : w.rangeAt x 0 (runL (.slice A m cap) r) := by
  intro j v e
  rw [Nat.zero_add]
  exact h.blk.cell j (by rw [show runCells (.slice A m cap) r = (runL (.slice A m cap) r).toArray from rfl]; simpa using e)

set_option maxHeartbeats 2000000 in
theorem noteWakes_ok (P T G t who : Int) (E : Option Addr) (m cp : Nat) (a v : Nat → Int) (w : World) (hm : m ≤ 400) (hF : FewC P T G) (hs : SeesP w w.heap.size E m a v) (hv : ∀ i, i < m → 0 ≤ v i ∧ v i ≤ 18446744073709551615) (ht : 0 ≤ t ∧ t < T) :
    Calls Try.prog 11 #[.agg #[.int .i64 P, .int .i64 T, .int .i64 G, .slice E m cp], .int .i64 t, .int .i64 who] w fun e w' => e = .returned (.bool true) ∧ Below w.heap.size w w' := by
  have hX : Hid (Blk (w.alloc (.cells #[.int .i64 P, .int .i64 T, .int .i64 G, .slice E m cp] 67)) w.heap.size #[.int .i64 P, .int .i64 T, .int .i64 G, .slice E m cp] 67) := Blk.new _ _ _
  have hsz : (w.alloc (.cells #[.int .i64 P, .int .i64 T, .int .i64 G, .slice E m cp] 67)).heap.size = w.heap.size + 1 := World.size_alloc _ _
  have HB : Hid (Below w.heap.size w (w.alloc (.cells #[.int .i64 P, .int .i64 T, .int .i64 G, .slice E m cp] 67))) := (Below.refl _ _).alloc (Nat.le_refl _) _
  have hM := hF.h.1.h
  obtain ⟨n, hn⟩ : ∃ n : Nat, (n : Int) = 20 + 264 * P + 3 * T + 2 * G := ⟨(20 + 264 * P + 3 * T + 2 * G).toNat, by omega⟩
  have hn0 : 0 < n := by omega
  have hn6 : n ≤ 1000000 := by have := hF.h; omega
  have HNT : Hid (0 ≤ noteAt P T t ∧ noteAt P T t < n) := note_in P (by omega) ht (by omega)
  have hL := lay_some P T G E m cp n a v _ hm hF hn (hs.up (.cells #[.int .i64 P, .int .i64 T, .int .i64 G, .slice E m cp] 67)) hv
  have HM : Hid (May P T G) := hF.h.1
  have d0 : decide (t < 0) = false := decide_eq_false (by omega)
  have d1 : decide (T ≤ t) = false := decide_eq_false (by omega)
  clear hs hv hn hF hM
  go_enter Try.func11, Try.ntmps11
  go_wp2_with fail
  generalize w.alloc (.cells #[.int .i64 P, .int .i64 T, .int .i64 G, .slice E m cp] 67) = W at *
  go_at_call 32; refine hL.mono ?_; rintro e w1 ⟨cl, A, A', cap, cap', c, b, c', b', rfl, hLd⟩
  have HL : Hid (Laid W w1 P T G n (putF a v n m) cl A A' cap cap' c b c' b') := hLd
  have hc12 := lay_ne hLd.lay (by decide) hLd.two.m (by omega)
  have hc34 := lay_ne hLd.lay (by decide) hLd.two.r (by omega)
  have HB1 : Hid (Below w.heap.size w w1) := HB.out.trans (hLd.below.mono (by omega))
  have HX1 := (hX.out.but (But.of_below (l := []) hLd.below) (by simp))
  have y1 := HX1.cell 1 (v := .int .i64 T) rfl
  have hWk := wake_new w1 cl P T G t who hLd.lay HM.out
  have hx1 : Hid (Blk w1 w.heap.size #[.int .i64 P, .int .i64 T, .int .i64 G, .slice E m cp] 67) := HX1
  have hxl := HX1.lt
  clear hL hLd HX1
  go_wp2_with fail
  go_at_call 48; refine (slp_done_nil w1).mono ?_; rintro e w2 ⟨rfl, rfl⟩
  go_wp2_with fail
  go_at_call 51; refine (slp_step_nil w1 _).mono ?_; rintro e w2 ⟨rfl, rfl⟩
  go_wp2_with fail
  go_at_call 49; refine (slp_asleep_nil w1 _).mono ?_; rintro e w2 ⟨rfl, rfl⟩
  go_wp2_with fail
  go_at_call 52; refine (wk_done_nil w1).mono ?_; rintro e w2 ⟨rfl, rfl⟩
  go_wp2_with fail
  go_at_call 53; refine (wk_step_nil w1 _).mono ?_; rintro e w2 ⟨rfl, rfl⟩
  go_wp2_with fail
  go_at_call 54; refine hWk.mono ?_; rintro e w2 ⟨y, qy, gy, rfl, hy1, hy2, hy3, hb2, hu1, hu2, hu3⟩
  obtain ⟨l1, l2, l3, l4, l5⟩ := laid_ground HL.out
  have HK : Hid (Wk w2 y qy gy who (noteAt P T t)) := ⟨hy1, hy2, hy3, hu2, hu3⟩
  have hx2 : Hid (Blk w2 w.heap.size #[.int .i64 P, .int .i64 T, .int .i64 G, .slice E m cp] 67) := hx1.out.but (But.of_below (l := []) hb2) (by simp)
  have HB2 : Hid (Below w.heap.size w w2) := seq HB1.out hb2
  have HT2 : Hid (Two w2 A A' cap cap' c b c' b' n (fresh (putF a v n m))) := HL.out.two.below hb2
  have HLy2 : Hid (Lay w2 cl P T G) := HL.out.lay.below hb2 HL.out.lay.lt
  have hup := HL.out.up
  have hk2 := hy1.lt
  have hk3 := hy2.lt
  have hk4 := hy3.lt
  clear hWk hy1 hy2 hy3 hb2 y1 hx1
  have z0 := hx2.out.cell 0 (v := .int .i64 P) rfl
  have z1 := hx2.out.cell 1 (v := .int .i64 T) rfl
  have z2 := hx2.out.cell 2 (v := .int .i64 G) rfl
  have hxl2 := hx2.out.lt
  have hrun := run_begin w2
  have hR : Hid (RunOn (w2.alloc (.cells zRun.toArray 43)) w2.heap.size none 0 0 (fun _ => 0) rn0) := hrun
  have hb3 : Hid (Below w2.heap.size w2 (w2.alloc (.cells zRun.toArray 43))) := (Below.refl _ _).alloc (Nat.le_refl _) _
  clear hrun
  go_wp2_with fail
  have hRw := rwake_on _ w2.heap.size none 0 0 (fun _ => 0) rn0 hR.out P T G t HM.out ht
  rw [show doS 0 rn0 2 (noteAt P T t) 0 1 = ⟨0, true, 2, noteAt P T t, 0, 1, false⟩ from rfl] at hRw
  go_at_call 55; refine hRw.mono ?_; rintro e w3 ⟨⟨v0, rfl⟩, hR3, hB3⟩
  have HB3 : Hid (Below w2.heap.size w2 w3) := hb3.out.trans (hB3.below (by simp) (by simp))
  have HT3 : Hid (Two w3 A A' cap cap' c b c' b' n (fresh (putF a v n m))) := HT2.out.below HB3.out
  have HRg : Hid (w3.rangeAt w2.heap.size 0 (runL (.slice none 0 0) ⟨0, true, 2, noteAt P T t, 0, 1, false⟩)) := hR3.range
  have HGo : Hid (GotOn w3 none 0 0 (fun _ => 0)) := hR3.got
  have hTu := turn_does w3 none 0 0 (fun _ => 0) ⟨0, true, 2, noteAt P T t, 0, 1, false⟩ A' cap' c' b' n (fresh (putF a v n m)) who rfl (fun h => by cases h) (show (1 : Int) ≤ 2 ∧ (2 : Int) ≤ 4 from by omega) (fun h => by cases h) (show (0 : Int) ≤ 1 ∧ (1 : Int) ≤ 18446744073709551615 from by omega) hn6 (by omega) ((low_fresh _).more (by omega)) HT3.out.r HGo.out (fun b e => by cases e)
  rw [show actS 2 who (noteAt P T t) 0 1 n (fresh (putF a v n m)) = stp 2 who (noteAt P T t) 0 1 n (fresh (putF a v n m)) by simp [actS]] at hTu
  clear hRw hR3 hB3 hR hb3 z0 z1 z2 HT2
  go_wp2_with (refine wpList_load_mid rfl 43 _ rfl w2.heap.size 0 rfl (runL (.slice none 0 0) ⟨0, true, 2, noteAt P T t, 0, 1, false⟩) _ HRg.out Try.underlying43 rfl (by kernel_rfl) ?_; clear HRg)
  go_at_call 22; refine hTu.mono ?_; rintro e w4 ⟨gb, cap2, rfl, hG4, hI4, hB4, hgb⟩
  obtain ⟨n1, n2, n3, n4⟩ := HT3.out.ne
  have hs3 := HB3.out.size
  have hy' := HK.out.h1
  have hy'' := HK.out.h2
  have HB4 : Hid (But [c', b'] w3 w4) := hB4.more (by intro k _ hk; simpa [gotL] using hk)
  have HM4 : Hid (Is w4 101 A cap c b n (fresh (putF a v n m))) := HT3.out.m.but HB4.out (by simp [n1, n2]) (by simp [n3, n4])
  have HI4 : Hid _ := hI4
  have HB24 : Hid (But [c', b'] w2 w4) := (But.of_below HB3.out).trans HB4.out
  have yc : y ≠ c' ∧ y ≠ b' := ⟨by omega, by omega⟩
  have qc : qy ≠ c' ∧ qy ≠ b' := ⟨by omega, by omega⟩
  have gc : gy ≠ c' ∧ gy ≠ b' := ⟨by omega, by omega⟩
  have hK4 : Hid (Wk w4 y qy gy who (noteAt P T t)) := ⟨HK.out.main.but HB24.out (by simp [yc]), HK.out.com.but HB24.out (by simp [qc]), HK.out.box.but HB24.out (by simp [gc]), hy', hy''⟩
  have hDn := wk_done w4 y _ (hK4.out.main.cell 1 rfl)
  have hFar : Far y qy gy c b := ⟨by omega, by omega, by omega, by omega, by omega, by omega⟩
  have hSt := wake_on w4 A cap c b n (fresh (putF a v n m)) y qy gy who (noteAt P T t) HM4.out hn6 ((low_fresh _).more (by omega)) hK4.out.main hK4.out.com hK4.out.box hy' hy'' hFar
  have hp2 : Hid (peekT n (stp 2 who (noteAt P T t) 0 1 n (fresh (putF a v n m))) (noteAt P T t) = 1) := peek_store _ _ _ _ _ HNT.out
  have HLy4 : Hid (Lay w4 cl P T G) := (HB24.out.block cl HLy2.out.lt (by simp [hc34])).trans HLy2.out
  have HB04 : Hid (Below w.heap.size w w4) := HB2.out.trans (HB24.out.below (by simp; omega) HB2.out.size)
  have hy5 : y ≠ cl := by omega
  generalize stp 2 who (noteAt P T t) 0 1 n (fresh (putF a v n m)) = S at *
  clear hTu hG4 hI4 hB4 HB4 HB3 HT3 HGo HB24 hFar HM4 hK4
  go_wp2_with fail
  go_at_call 52; refine hDn.mono ?_; rintro e w5 ⟨rfl, rfl⟩
  clear hDn
  go_wp2_with fail
  go_at_call 53; refine hSt.mono ?_; rintro e w5 ⟨rfl, hY, hI, hB⟩
  have HT5 : Hid (Two w5 A A' cap cap' c b c' b' n S) := ⟨hI, HI4.out.but hB (by simp [Ne.symm n1, Ne.symm n3, Ne.symm yc.1]) (by simp [Ne.symm n2, Ne.symm n4, Ne.symm yc.2]), ⟨n1, n2, n3, n4⟩⟩
  have HY5 : Hid (Blk w5 y (slpCells who none (noteAt P T t)) 137) := hY
  have HL5 : Hid (Lay w5 cl P T G) := (hB.block cl HLy4.out.lt (by simp [hc12, Ne.symm hy5])).trans HLy4.out
  have HB05 : Hid (Below w.heap.size w w5) := HB04.out.trans (hB.below (by simp; omega) HB04.out.size)
  clear hSt hY hI hB HI4 HLy4 HB04
  go_wp2_with fail
  have HTS : Hid (∀ Y, Below w5.heap.size w5 Y → Two Y A A' cap cap' c b c' b' n S) := fun Y hY => HT5.out.below hY
  have HLS : Hid (∀ Y, Below w5.heap.size w5 Y → Lay Y cl P T G) := fun Y hY => HL5.out.below hY HL5.out.lt
  have HYS : Hid (∀ Y, Below w5.heap.size w5 Y → Y.cell? ⟨y, 1, none⟩ = some (.pointer none)) := fun Y hY => (HY5.out.but (But.of_below (l := []) hY) (by simp)).cell 1 rfl
  have hH : Hid (w5.drew.cell? ⟨c', 0, none⟩ = some (.slice A' n cap') ∧ Below w5.heap.size w5 w5.drew) := ⟨HT5.out.r.cells.1, (Below.refl _ _).drew⟩
  have KEEP : Hid (∀ X w' : World, (X.cell? ⟨c', 0, none⟩ = some (.slice A' n cap') ∧ Below w5.heap.size w5 X) → Below X.heap.size X w' → (w'.cell? ⟨c', 0, none⟩ = some (.slice A' n cap') ∧ Below w5.heap.size w5 w')) := fun X w' h k => ⟨(HT5.out.below (h.2.trans (k.mono h.2.size))).r.cells.1, h.2.trans (k.mono h.2.size)⟩
  have hp3 : decide (peekT n S (noteAt P T t) ≠ 0) = true := by rw [hp2.out]; rfl
  have HA : Hid (∀ Y, Below w5.heap.size w5 Y → Calls Try.prog 50 #[.pointer (some ⟨cl, 0, none⟩), .pointer (some ⟨c, 0, none⟩), .int .i64 t] Y fun e w' => e = .returned (.bool true) ∧ Below Y.heap.size Y w') := fun Y hY => by
    have := awake_note Y cl P T G t A cap c b n S (HLS.out Y hY) HM.out (HTS.out Y hY).m hn6
    rwa [hp3] at this
  clear hp3
  go_region_held3 (fun w' => w'.cell? ⟨c', 0, none⟩ = some (.slice A' n cap') ∧ Below w5.heap.size w5 w') (first | exact hH.out | assumption | exact KEEP.out _ _ ‹_› ‹_›) (first | (go_at_call 44; refine (note_awake _).mono ?_; rintro e x1 ⟨rfl, g1⟩) | (go_at_call 52; refine (wkdoneB _ y _ (HYS.out _ (by simp only [*]))).mono ?_; rintro e x2 ⟨rfl, g2⟩) | (go_at_call 24; refine (alike_any _ A A' cap cap' c b c' b' n S hn6 (HTS.out _ (by simp only [*]))).mono ?_; rintro e x3 ⟨rfl, g3⟩) | (go_at_call 50; refine (HA.out _ (by simp only [*])).mono ?_; rintro e x4 ⟨rfl, g4⟩) | (go_at_call 27; refine (words_any _ A cap c b n S (HTS.out _ (by simp only [*])).m hn6).mono ?_; rintro e x5 ⟨A4, cap4, rfl, hs4, g5⟩) | (go_at_call 25; refine (sameB_any _ A4 A' n cap4 cap' S.f hn6 hs4 (HTS.out _ (by simp only [*])).r.sees).mono ?_; rintro e x6 ⟨rfl, g6⟩))
  all_goals
    rename_i hHeld
    have hbF := HB05.out.trans (hHeld.2.mono HB05.out.size)
    go_wp2_with fail
    go_ret
    exact ⟨rfl, hbF⟩

theorem noteWakes_walk (P T G t who : Int) (E : Option Addr) (m cp : Nat) (a v : Nat → Int) (w : World) (hm : m ≤ 9223372036854775807) (hs : SeesP w w.heap.size E m a v) (hv : ∀ i, i < m → 0 ≤ v i ∧ v i ≤ 18446744073709551615) :
    Calls Try.prog 11 #[.agg #[.int .i64 P, .int .i64 T, .int .i64 G, .slice E m cp], .int .i64 t, .int .i64 who] w fun e w' => e = .returned (.bool true) ∧ Below w.heap.size w w' := by
  by_cases h : (¬ FewC P T G ∨ 400 < m) ∨ t < 0 ∨ T ≤ t
  · exact noteWakes_bad P T G t who E m cp a v w hm hs hv h
  · exact noteWakes_ok P T G t who E m cp a v w (by omega) (Decidable.byContradiction fun hf => h (.inl (.inl hf))) hs hv (by omega)
end Go.Proofs.Ytjbkhnolnlcjnaa
