/- globq.New, and what a put holds. -/
import Derived.Test.YthjfbknmdligeaaGreatTQA
import Derived.Test.YthjfbknmdligeaaGreatRunD
import Derived.Stop.Asserts
import Derived.Test.YthjfbknmdligeaaGreatLock1
import Derived.Test.YthjfbknmdligeaaGreatLock2
import Derived.Test.YthjfbknmdligeaaGreatGnd2
import Derived.Test.YthjfbknmdligeaaGreatFl
import Derived.Test.YthjfbknmdligeaaGreatGwEq
namespace Go.Proofs.YthjfbknmdligeaaGreat
open Go Go.RowKit
set_option linter.unusedVariables false
set_option maxRecDepth 100000
set_option linter.unusedSimpArgs false

section
variable (w : World) (x cl th : Nat) (who p : Int) (sp lf has : Bool) (bk nx : Option Addr) (h : Blk w x (wsCells who nx cl p sp lf has th bk) 156)
include h
set_option maxHeartbeats 2000000 in
theorem ws_wake (v P T G : Int) (hG : ∀ Y, But [x] w Y → Calls Tryz.prog 183 #[.pointer (some ⟨th, 0, none⟩)] Y fun e w' => e = .returned (.int .i64 v) ∧ Y = w') (hl : Lay w cl P T G) (hp : 0 ≤ P ∧ P ≤ 64) (hTT : 0 ≤ T ∧ T ≤ 65536) (hxc : cl ≠ x) :
    Calls Tryz.prog 188 #[.pointer (some ⟨x, 0, none⟩)] w fun e w' => (∃ v, e = .returned v) ∧ RunNew (nwSub (wd (20 + P * 264) T 3 v 0) who) NwT.fresh w w' x (wsCells who nx cl p sp lf false th bk) 156 .nilFunc := by
  have c6 := h.cell 6 (v := .bool has) rfl
  have f6 := h.fro 6
  have h' : Blk (w.setCell ⟨x, 6, none⟩ (.bool false)) x (wsCells who nx cl p sp lf false th bk) 156 := h.set 6 (.bool false)
  have hB : But [x] w (w.setCell ⟨x, 6, none⟩ (.bool false)) := (But.refl _ w).set (g := x) (.inl (by simp)) 6 _
  have hl' : Lay (w.setCell ⟨x, 6, none⟩ (.bool false)) cl P T G := (hB.block cl hl.lt (by simpa using hxc)).trans hl
  generalize hV : (w.setCell ⟨x, 6, none⟩ (.bool false)) = V at h' hB hl'
  have hlt : x < V.heap.size := h'.lt
  have c2 := h'.cell 2 (v := .pointer (some ⟨cl, 0, none⟩)) rfl
  have hO := who_any V.drew x who (h'.drew.cell 0 rfl)
  have hT1 := ws_T V.drew x cl th who p sp lf false bk nx h'.drew v (hG V.drew hB.drew)
  have hR := nw_new V.drew cl who v P T G (hl'.below ((Below.refl _ _).drew) hl'.lt) hp hTT
  have HG : Hid ((nwSub (wd (20 + P * 264) T 3 v 0) who).I.Good (nwSub (wd (20 + P * 264) T 3 v 0) who).M) := Fl.good (nw_laws who _)
  have HH : Hid (Blk V x (wsCells who nx cl p sp lf false th bk) 156) := h'
  generalize wd (20 + P * 264) T 3 v 0 = nt at *
  clear h h' hl hl' hp hTT hxc hG
  go_enter Tryz.func188, Tryz.ntmps188
  go_wp2_with fail
  try rw [hV]
  clear hV c6 f6
  go_region_with (first | (go_at_call 119; refine hO.mono ?_; rintro e w3 ⟨rfl, rfl⟩) | (go_at_call 172; refine hT1.mono ?_; rintro e w3 ⟨rfl, rfl⟩) | (go_at_call 197; refine hR.mono ?_; rintro e w4 ⟨y, L, rfl, k1, k4, k5, k6, a, k7⟩; have hB4 : But [x] V w4 := ((But.refl [x] V).drew).trans (But.of_below k4); have hf := frun_nwk w4 x y _ 156 .nilFunc a (HH.out.but (But.of_below (l := []) (show Below V.heap.size V w4 from (Below.refl _ _).drew.trans k4)) (by simp)) (by simp [wsCells]) .none (by have : V.heap.size ≤ y := k5; omega) k7) | (go_at_call 120; refine hf.mono ?_; rintro e w5 ⟨⟨v, rfl⟩, q, g, hC⟩))
  all_goals
    have k6' : ∀ k ∈ L, V.heap.size ≤ k := k6
    have hR5 := (RunNew.mk (S := nwSub nt who) (W := V) HG.out k1 k6' hlt hB4 hC).before hB
    clear hO hT1 hR c2 hf k1 k4 k5 k6 k6' k7 hC hB4 HH HG
    go_wp2_with fail
    go_end0
    exact ⟨⟨_, rfl⟩, hR5⟩
set_option maxHeartbeats 2000000 in
theorem ws_putBack_new (P T G : Int) (hp : 0 ≤ P ∧ P ≤ 64) (hTT : 0 ≤ T ∧ T ≤ 65536) (hf : lf = false) :
    Calls Tryz.prog 186 #[.pointer (some ⟨x, 0, none⟩)] w fun e w' => (∃ v, e = .returned v) ∧ ∃ y q b L, CameBox w w' x (wsCells who nx cl p sp lf has th (some ⟨y, 0, none⟩)) 156 (fun v => comCells 0 0 0 0 0 false (.iface 141 (.pointer (some ⟨y, 0, none⟩))) v false false) (.func (.func 196) #[.pointer (some ⟨x, 0, none⟩)] #[]) q b ∧ (ipFl who p cl).I (ipPM P p) w' y .m0 L ∧ (∀ k ∈ L, w.heap.size ≤ k) ∧ q ∉ L ∧ b ∉ L := by
  have c5 := h.cell 5 (v := .bool lf) rfl
  have c2 := h.cell 2 (v := .pointer (some ⟨cl, 0, none⟩)) rfl
  have c3 := h.cell 3 (v := .int .i64 p) rfl
  have hlt := h.lt
  have hO := who_any w.drew x who (h.drew.cell 0 rfl)
  have hN := ip_new w.drew cl who p P
  have HG : Hid (((ipFl who p cl).I (ipPM P p)).Good (ipPM P p)) := Fl.good (ip_laws who P T G p cl hp hTT)
  have HH : Hid (Blk w x (wsCells who nx cl p sp lf has th bk) 156) := h
  subst hf
  clear h hp hTT
  go_enter Tryz.func186, Tryz.ntmps186
  go_wp2_with fail
  clear c5
  go_region_with (first | (go_at_call 119; refine hO.mono ?_; rintro e w3 ⟨rfl, rfl⟩) | (go_at_call 195; refine hN.mono ?_; rintro e w4 ⟨y, L, rfl, k1, k2, k3, k4⟩; have h4 : Blk w4 x (wsCells who nx cl p sp false has th bk) 156 := HH.out.but (But.of_below (l := []) (show Below w.heap.size w w4 from (Below.refl _ _).drew.trans k2)) (by simp); have c8 := h4.cell 8 (v := .pointer bk) rfl; have f8 := h4.fro 8))
  all_goals
    have k3' : ∀ k ∈ L, w.heap.size ≤ k := k3
    have k4' : w.heap.size ≤ y := k4
    have hB4 : But [x] w (w4.setCell ⟨x, 8, none⟩ (.pointer (some ⟨y, 0, none⟩))) := (((But.refl [x] w).drew).trans (But.of_below k2)).set (g := x) (.inl (by simp)) 8 _
    have h5 : Blk (w4.setCell ⟨x, 8, none⟩ (.pointer (some ⟨y, 0, none⟩))) x (wsCells who nx cl p sp false has th (some ⟨y, 0, none⟩)) 156 := h4.set 8 _
    have hI5 : (ipFl who p cl).I (ipPM P p) (w4.setCell ⟨x, 8, none⟩ (.pointer (some ⟨y, 0, none⟩))) y .m0 L := HG.out.keep k1 ((But.refl [x] w4).set (g := x) (.inl (by simp)) 8 _) (fun k hk => by have := k3' k hk; simp; omega)
    generalize (w4.setCell ⟨x, 8, none⟩ (.pointer (some ⟨y, 0, none⟩))) = V at *
    obtain ⟨a, ha⟩ : ∃ a, V.cell? ⟨y, 1, none⟩ = some (.pointer (some a)) := by
      obtain ⟨nx, q1, q2⟩ := HG.out.next hI5
      cases nx with
      | none => cases q2
      | some a => exact ⟨a, q1⟩
    have c8' := h5.cell 8 (v := .pointer (some ⟨y, 0, none⟩)) rfl
    have hf := frun_ipp V.drew x y _ 156 (.func (.func 196) #[.pointer (some ⟨x, 0, none⟩)] #[]) a h5.drew (by simp [wsCells]) (.some _ _ _) (by omega) (by simpa using ha)
    clear hO hN c2 c3 k1 k2 k3 k4 h4 c8 f8 HH
    go_wp2_with fail
    go_region_with (first | (go_at_call 120; refine hf.mono ?_; rintro e w5 ⟨⟨v, rfl⟩, q, g, hC⟩))
    all_goals
      have hlL := HG.out.lt hI5
      have f1 : V.heap.size ≤ q := hC.at'.fresh
      have f2 : V.heap.size ≤ g := hC.fresh
      have hI6 := HG.out.keep hI5 (((But.refl [x] V).drew).trans hC.at'.but) (fun k hk => by have := k3' k hk; simp; omega)
      have hC6 := hC.before ((But.refl [x] V).drew |> hB4.trans)
      have hq : q ∉ L ∧ g ∉ L := ⟨fun hm => by have := hlL q hm; omega, fun hm => by have := hlL g hm; omega⟩
      clear hf hC c8' hB4 h5 hI5 HG
      go_wp2_with fail
      go_end0
      exact ⟨⟨_, rfl⟩, y, q, g, L, hC6, hI6, k3', hq.1, hq.2⟩
end
end Go.Proofs.YthjfbknmdligeaaGreat

namespace Go.Proofs.YthjfbknmdligeaaGreat
open Go Go.RowKit
set_option linter.unusedVariables false
set_option maxRecDepth 100000
set_option linter.unusedSimpArgs false

def wsFresh (who : Int) (nx lo : Option Addr) (p : Int) (sp lf : Bool) : Array Value := #[.int .i64 who, .pointer nx, .pointer lo, .int .i64 p, .bool sp, .bool lf, .bool true, .pointer none, .pointer none]
set_option maxHeartbeats 2000000 in
theorem ws_new (w : World) (cl : Nat) (who p P T G : Int) (sp lf : Bool) (hp : 0 ≤ P ∧ P ≤ 64) (hTT : 0 ≤ T ∧ T ≤ 65536) :
    Calls Tryz.prog 161 #[.pointer (some ⟨cl, 0, none⟩), .int .i64 who, .int .i64 p, .bool sp, .bool lf] w fun e w' => ∃ x th q b L V, e = .returned (.pointer (some ⟨x, 0, none⟩)) ∧ CameBox V w' x (wsCells who none cl p sp lf true th none) 156 (fun v => comCells 0 0 0 0 0 false (.iface 154 (.pointer (some ⟨th, 0, none⟩))) v false false) (.func (.func 166) #[.pointer (some ⟨x, 0, none⟩)] #[]) q b ∧ (jgFl who T cl).I (jgPM P T) w' th .ld L ∧ (∀ k ∈ L, w.heap.size ≤ k ∧ k ≠ x) ∧ q ∉ L ∧ b ∉ L ∧ Below w.heap.size w w' ∧ w.heap.size ≤ x ∧ x < V.heap.size := by
  have hB := Blk.new w (wsFresh 0 none none p sp lf) 156
  have hb : Below w.heap.size w (w.alloc (.cells (wsFresh 0 none none p sp lf) 156)) := (Below.refl _ _).alloc (Nat.le_refl _) _
  have hO := wk_of _ w.heap.size cl who _ (wsFresh who none (some ⟨cl, 0, none⟩) p sp lf) 156 hB (by simp [wsFresh]) rfl
  have HH : Hid (Below w.heap.size w (w.alloc (.cells (wsFresh 0 none none p sp lf) 156))) := hb
  have hsz := World.size_alloc w (.cells (wsFresh 0 none none p sp lf) 156)
  have HG : Hid (((jgFl who T cl).I (jgPM P T)).Good (jgPM P T)) := Fl.good (jg_laws who P T G cl hp hTT)
  clear hB hb hp hTT
  unfold wsFresh at hO HH hsz
  go_enter Tryz.func161, Tryz.ntmps161
  go_wp2_with fail
  go_at_call 164; refine hO.mono ?_; rintro e w1 ⟨⟨v, rfl⟩, h1, h2, h3⟩
  have h1lt := h1.lt
  have hb1 : Hid (Below w.heap.size w w1) := HH.out.trans (h2.below (by simp) (by rw [hsz]; omega))
  have H1 : Hid (Blk w1 w.heap.size (wsFresh who none (some ⟨cl, 0, none⟩) p sp lf) 156) := h1
  have hN := jg_new w1 cl who P T
  clear hO h1 h2 h3 HH hsz
  go_wp2_with fail
  go_at_call 165; refine hN.mono ?_; rintro e w2 ⟨th, L, rfl, k1, k2, k3, k4⟩
  have h12 : Blk w2 w.heap.size (wsFresh who none (some ⟨cl, 0, none⟩) p sp lf) 156 := H1.out.but (But.of_below (l := []) k2) (by simp)
  have c7 := h12.cell 7 (v := .pointer none) rfl
  have f7 := h12.fro 7
  have h5 : Blk (w2.setCell ⟨w.heap.size, 7, none⟩ (.pointer (some ⟨th, 0, none⟩))) w.heap.size (wsCells who none cl p sp lf true th none) 156 := h12.set 7 _
  have k3' : ∀ k ∈ L, w.heap.size < k := fun k hk => Nat.lt_of_lt_of_le h1lt (k3 k hk)
  have hI5 : (jgFl who T cl).I (jgPM P T) (w2.setCell ⟨w.heap.size, 7, none⟩ (.pointer (some ⟨th, 0, none⟩))) th .ld L := HG.out.keep k1 ((But.refl [w.heap.size] w2).set (g := w.heap.size) (.inl (by simp)) 7 _) (fun k hk => by have := k3' k hk; simp; omega)
  have hb5 : Hid (Below w.heap.size w (w2.setCell ⟨w.heap.size, 7, none⟩ (.pointer (some ⟨th, 0, none⟩)))) := (seq hb1.out k2).setCell (p := ⟨w.heap.size, 7, none⟩) (Nat.le_refl _) _
  have HH5 : Hid (Blk _ w.heap.size (wsCells who none cl p sp lf true th none) 156 ∧ (jgFl who T cl).I (jgPM P T) _ th .ld L) := ⟨h5, hI5⟩
  have hthx : Hid (th ≠ w.heap.size) := by have : w1.heap.size ≤ th := k4; exact (by omega : th ≠ w.heap.size)
  have K3 : Hid (∀ k ∈ L, w.heap.size < k) := k3'
  clear hN h12 h5 hI5 k1 k2 k3 k3' k4 H1 hb1 h1lt
  go_wp2_with fail
  clear c7 f7
  generalize (w2.setCell ⟨w.heap.size, 7, none⟩ (.pointer (some ⟨th, 0, none⟩))) = V at *
  have hlt := HH5.out.1.lt
  obtain ⟨a, ha⟩ : ∃ a, V.cell? ⟨th, 1, none⟩ = some (.pointer (some a)) := by
    obtain ⟨nx, q1, q2⟩ := HG.out.next HH5.out.2
    cases nx with
    | none => cases q2
    | some a => exact ⟨a, q1⟩
  have c7 := HH5.out.1.cell 7 (v := .pointer (some ⟨th, 0, none⟩)) rfl
  have hf := frun_img V.drew w.heap.size th _ 156 (.func (.func 166) #[.pointer (some ⟨w.heap.size, 0, none⟩)] #[]) a HH5.out.1.drew (by simp [wsCells]) (.some _ _ _) hthx.out (by simpa using ha)
  clear ha
  go_region_with (first | (go_at_call 120; refine hf.mono ?_; rintro e w5 ⟨⟨v, rfl⟩, q, g, hC⟩))
  all_goals
    have hlL := HG.out.lt HH5.out.2
    have f1 : V.heap.size ≤ q := hC.at'.fresh
    have f2 : V.heap.size ≤ g := hC.fresh
    have hI6 := HG.out.keep HH5.out.2 (((But.refl [w.heap.size] V).drew).trans hC.at'.but) (fun k hk => by have := K3.out k hk; simp; omega)
    have hC6 := hC.before ((But.refl [w.heap.size] V).drew)
    have hF : Hid (CameBox V w5 w.heap.size (wsCells who none cl p sp lf true th none) 156 (fun v => comCells 0 0 0 0 0 false (.iface 154 (.pointer (some ⟨th, 0, none⟩))) v false false) (.func (.func 166) #[.pointer (some ⟨w.heap.size, 0, none⟩)] #[]) q g ∧ (jgFl who T cl).I (jgPM P T) w5 th .ld L ∧ (∀ k ∈ L, w.heap.size ≤ k ∧ k ≠ w.heap.size) ∧ q ∉ L ∧ g ∉ L ∧ Below w.heap.size w w5) := ⟨hC6, hI6, fun k hk => ⟨by have := K3.out k hk; omega, by have := K3.out k hk; omega⟩, fun hm => by have := hlL q hm; omega, fun hm => by have := hlL g hm; omega, hb5.out.trans (hC6.at'.but.below (by simp) hb5.out.size)⟩
    clear hf hC hC6 hI6 c7 HG hlL f1 f2 K3 hthx HH5 hb5
    go_wp2_with fail
    go_ret
    exact ⟨w.heap.size, th, q, g, L, V, rfl, hF.out.1, hF.out.2.1, hF.out.2.2.1, hF.out.2.2.2.1, hF.out.2.2.2.2.1, hF.out.2.2.2.2.2, Nat.le_refl _, hlt⟩
section
variable (w : World) (x cl th : Nat) (who p : Int) (sp lf has : Bool) (bk nx : Option Addr) (h : Blk w x (wsCells who nx cl p sp lf has th bk) 156)
include h
theorem ws_holds_no (hs : has = false) :
    Calls Tryz.prog 76 #[.pointer (some ⟨x, 0, none⟩)] w fun e w' => e = .returned (.int .i64 (-1)) ∧ w = w' := by
  subst hs
  have c6 := h.cell 6 (v := .bool false) rfl
  clear h
  go_enter Tryz.func76, Tryz.ntmps76
  go_wp2_with fail
  go_ret
  exact ⟨rfl, rfl⟩
theorem ws_holds_one (hs : has = true) (hb : bk = none) :
    Calls Tryz.prog 76 #[.pointer (some ⟨x, 0, none⟩)] w fun e w' => e = .returned (.int .i64 p) ∧ w = w' := by
  subst hs hb
  have c6 := h.cell 6 (v := .bool true) rfl
  have c8 := h.cell 8 (v := .pointer none) rfl
  have c3 := h.cell 3 (v := .int .i64 p) rfl
  clear h
  go_enter Tryz.func76, Tryz.ntmps76
  go_wp2_with fail
  go_ret
  exact ⟨rfl, rfl⟩
theorem ws_holds_back (y : Nat) (v : Int) (hs : has = true) (hb : bk = some ⟨y, 0, none⟩) (hY : Calls Tryz.prog 77 #[.pointer (some ⟨y, 0, none⟩)] w fun e w' => e = .returned (.int .i64 v) ∧ w = w') :
    Calls Tryz.prog 76 #[.pointer (some ⟨x, 0, none⟩)] w fun e w' => e = .returned (.int .i64 v) ∧ w = w' := by
  subst hs hb
  have c6 := h.cell 6 (v := .bool true) rfl
  have c8 := h.cell 8 (v := .pointer (some ⟨y, 0, none⟩)) rfl
  clear h
  go_enter Tryz.func76, Tryz.ntmps76
  go_wp2_with fail
  go_at_call 77; refine hY.mono ?_; rintro e w1 ⟨rfl, rfl⟩
  clear hY
  go_wp2_with fail
  go_ret
  exact ⟨rfl, rfl⟩
end
theorem ws_holds_nil (w : World) : Calls Tryz.prog 76 #[.pointer none] w fun e w' => e = .returned (.int .i64 (-1)) ∧ w = w' := by
  go_enter Tryz.func76, Tryz.ntmps76
  go_wp2_with fail
  go_ret
  exact ⟨rfl, rfl⟩
theorem ws_T_nil (w : World) : Calls Tryz.prog 172 #[.pointer none] w fun e w' => e = .returned (.int .i64 (-1)) ∧ w = w' := by
  go_enter Tryz.func172, Tryz.ntmps172
  go_wp2_with fail
  go_ret
  exact ⟨rfl, rfl⟩

/-- Starting a thread, as plain data: q is what the thread's machine is in, b the one that gives the processor back. -/
inductive WsT where
  | get (q : JgT)
  | rel1 (q : JgT) (r : RelT)
  | give (q : JgT)
  | note (q : JgT) (n : NwT)
  | need (q : JgT)
  | cnt (q : JgT)
  | lft (q : JgT)
  | back (q : JgT) (b : IpT)
  | rel2 (q : JgT) (b : Option IpT) (r : RelT)
def WsT.q : WsT → JgT
  | .get q => q
  | .rel1 q _ => q
  | .give q => q
  | .note q _ => q
  | .need q => q
  | .cnt q => q
  | .lft q => q
  | .back q _ => q
  | .rel2 q _ _ => q
def WsT.has : WsT → Bool
  | .note _ _ => false
  | .rel2 _ none _ => false
  | _ => true
def WsT.bk : WsT → Option IpT
  | .back _ b => some b
  | .rel2 _ b _ => b
  | _ => none
/-- The processor in its hand. -/
def WsT.holds (p : Int) (t : WsT) : Int := if t.has then (match t.bk with | some b => b.obs p | none => p) else -1
def wsPut (lf : Bool) (q : JgT) : WsT := if lf then .lft q else .back q .m0
def wsPM (P T p : Int) (sp lf : Bool) : PM WsT where
  ax := fun
    | .get q => (jgPM P T).ax q
    | .rel1 _ r => (relPM (wd 0 2 3 0 1) (wd 0 2 3 0 2)).ax r
    | .give q => some (axSt (wd (20 + P * 264) T 3 q.obs 1) (wkWord p sp))
    | .note q n => (nwPM (wd (20 + P * 264) T 3 q.obs 0)).ax n
    | .need _ => some (axSt 14 1)
    | .cnt _ => some (axAd 13 4294967295)
    | .lft _ => some (axSt (wd 20 P 264 p 0) 2)
    | .back _ b => (ipPM P p).ax b
    | .rel2 _ _ r => (relPM (wd 0 2 3 0 1) (wd 0 2 3 0 2)).ax r
  nx := fun
    | .get q, v => if ((jgPM P T).ax ((jgPM P T).nx q v)).isSome = true then .get ((jgPM P T).nx q v) else if ((jgPM P T).nx q v).obs = -1 then .need ((jgPM P T).nx q v) else .rel1 ((jgPM P T).nx q v) .fresh
    | .rel1 q r, v => if ((relPM (wd 0 2 3 0 1) (wd 0 2 3 0 2)).ax ((relPM (wd 0 2 3 0 1) (wd 0 2 3 0 2)).nx r v)).isSome = true then .rel1 q ((relPM (wd 0 2 3 0 1) (wd 0 2 3 0 2)).nx r v) else .give q
    | .give q, _ => .note q .fresh
    | .note q n, v => .note q ((nwPM (wd (20 + P * 264) T 3 q.obs 0)).nx n v)
    | .need q, _ => if sp then .cnt q else wsPut lf q
    | .cnt q, _ => wsPut lf q
    | .lft q, _ => .rel2 q none .fresh
    | .back q b, v => if ((ipPM P p).ax ((ipPM P p).nx b v)).isSome = true then .back q ((ipPM P p).nx b v) else .rel2 q (some ((ipPM P p).nx b v)) .fresh
    | .rel2 q b r, v => .rel2 q b ((relPM (wd 0 2 3 0 1) (wd 0 2 3 0 2)).nx r v)
end Go.Proofs.YthjfbknmdligeaaGreat

namespace Go.Proofs.YthjfbknmdligeaaGreat
open Go Go.RowKit
set_option linter.unusedVariables false
set_option maxRecDepth 100000
set_option linter.unusedSimpArgs false

def jgSub (who P T G : Int) (cl : Nat) : Sub := ⟨JgT, jgPM P T, (jgFl who T cl).I (jgPM P T), Rd.lay cl P T G, 154, 242⟩
def ipSub (who P T G p : Int) (cl : Nat) : Sub := ⟨IpT, ipPM P p, (ipFl who p cl).I (ipPM P p), Rd.lay cl P T G, 141, 240⟩
/-- What it has beside its own block: the thread's machine, and the one that gives the processor back. -/
def wsExt (who P T p : Int) (cl : Nat) (t : WsT) (es : List Nat) (w : World) (Le : List Nat) : Prop := match t with
  | .get _ => Le = []
  | .rel2 q (some b) _ => ∃ L1 L2, Le = L1 ++ L2 ∧ (jgFl who T cl).I (jgPM P T) w (es.getD 0 0) q L1 ∧ (ipFl who p cl).I (ipPM P p) w (es.getD 1 0) b L2
  | t => (jgFl who T cl).I (jgPM P T) w (es.getD 0 0) t.q Le
def wsAt (who p : Int) (sp lf : Bool) (cl : Nat) (t : WsT) (es : List Nat) (nx : Option Addr) : Array Value := wsCells who nx cl p sp lf t.has (es.getD 0 0) (if t.bk.isSome = true then some ⟨es.getD 1 0, 0, none⟩ else none)
def wsCp (who P T G p : Int) (sp lf : Bool) (cl : Nat) : Cp WsT where
  T := 156
  cells := wsAt who p sp lf cl
  kind := fun
    | .get q => .run (jgSub who P T G cl) q (.fn 166)
    | .rel1 _ r => .run (relSub (wd 0 2 3 0 1) (wd 0 2 3 0 2) who) r (.fn 176)
    | .give q => .acc (axSt (wd (20 + P * 264) T 3 q.obs 1) (wkWord p sp)) (.untold 188)
    | .note _ .over => .over
    | .note q n => .run (nwSub (wd (20 + P * 264) T 3 q.obs 0) who) n .nil
    | .need _ => .acc (axSt 14 1) (.untold 174)
    | .cnt _ => .acc (axAd 13 4294967295) (.told 185)
    | .lft _ => .acc (axSt (wd 20 P 264 p 0) 2) (.untold 194)
    | .back _ b => .run (ipSub who P T G p cl) b (.fn 196)
    | .rel2 _ _ .over => .over
    | .rel2 _ _ r => .run (relSub (wd 0 2 3 0 1) (wd 0 2 3 0 2) who) r .nil
  ok := fun
    | .get q => ((jgPM P T).ax q).isSome = true ∧ (jgFl who T cl).ok q
    | .rel1 q r => q.obs ≠ -1 ∧ ((relPM (wd 0 2 3 0 1) (wd 0 2 3 0 2)).ax r).isSome = true
    | .back _ b => ((ipPM P p).ax b).isSome = true ∧ (ipFl who p cl).ok b
    | _ => True
  ext := wsExt who P T p cl
  tie := fun t es y => match t with
    | .get _ => es.getD 0 0 = y
    | .back _ _ => es.getD 1 0 = y
    | _ => True
theorem ent_ws1 : Ent 166 := fun args w => by kernel_rfl
theorem ent_ws2 : Ent 176 := fun args w => by kernel_rfl
theorem ent_ws3 : Ent 188 := fun args w => by kernel_rfl
theorem ent_ws4 : Ent 174 := fun args w => by kernel_rfl
theorem ent_ws5 : Ent 185 := fun args w => by kernel_rfl
theorem ent_ws6 : Ent 194 := fun args w => by kernel_rfl
theorem ent_ws7 : Ent 196 := fun args w => by kernel_rfl
section
variable {who P T G p : Int} {sp lf : Bool} {cl : Nat} {W w' : World} {x : Nat} {t : WsT} {a : Ax} {f : Fol} {es Le Le' : List Nat}
theorem ws_s1 (nx' : Option Addr) : (wsAt who p sp lf cl t es none).setIfInBounds 1 (.pointer nx') = wsAt who p sp lf cl t es nx' := rfl
theorem ws_land_acc (h : Came W w' x (wsAt who p sp lf cl t es none) 156 a f) (hok : (wsCp who P T G p sp lf cl).ok t) (hk : (wsCp who P T G p sp lf cl).kind t = .acc a f) (hx : x < W.heap.size) (he : wsExt who P T p cl t es w' Le') (hxe : x ∉ Le') (hle : ∀ k ∈ Le', k ∈ Le ∧ k < W.heap.size) : (wsCp who P T G p sp lf cl).Land W w' x t Le := by
  obtain ⟨q, Lc, c1, c2, c3, c4⟩ := h
  refine ⟨c3, x :: (Lc ++ Le'), ⟨hok, es, Le', he, hxe, ?_⟩, fun k hm => by simp at hm; rcases hm with rfl | hm | hm; exact .inl rfl; exact .inr (.inr (c4 k hm)); exact .inr (.inl (hle k hm).1)⟩
  rw [hk]
  exact ⟨q, Lc, c1, c2, fun hm => absurd (c4 x hm) (by omega), (fun k hm h => by have := c4 k hm; have := (hle k h).2; omega), rfl⟩
theorem ws_land_over (h : Blk w' x (wsAt who p sp lf cl t es none) 156) (hb : But [x] W w') (hok : (wsCp who P T G p sp lf cl).ok t) (hk : (wsCp who P T G p sp lf cl).kind t = .over) (he : wsExt who P T p cl t es w' Le') (hxe : x ∉ Le') (hle : ∀ k ∈ Le', k ∈ Le) : (wsCp who P T G p sp lf cl).Land W w' x t Le := by
  refine ⟨hb, x :: Le', ⟨hok, es, Le', he, hxe, ?_⟩, fun k hm => by simp at hm; rcases hm with rfl | hm; exact .inl rfl; exact .inr (.inl (hle k hm))⟩
  rw [hk]
  exact ⟨h, rfl⟩
theorem ws_land_run0 {S : Sub} {af : After} {pt : S.τ} {y q b : Nat} {L : List Nat} (hC : CameBox W w' x (wsAt who p sp lf cl t es none) 156 (fun v => comCells 0 0 0 0 0 false (.iface S.D (.pointer (some ⟨y, 0, none⟩))) v false false) (af.fol.box x) q b) (hM : S.I w' y pt L) (hL : ∀ k ∈ L, W.heap.size ≤ k) (hq : q ∉ L) (hg : b ∉ L) (hok : (wsCp who P T G p sp lf cl).ok t) (hk : (wsCp who P T G p sp lf cl).kind t = .run S pt af) (htie : (wsCp who P T G p sp lf cl).tie t es y) (hx : x < W.heap.size) (he : wsExt who P T p cl t es w' Le') (hxe : x ∉ Le') (hle : ∀ k ∈ Le', k ∈ Le ∧ k < W.heap.size) : (wsCp who P T G p sp lf cl).Land W w' x t Le := by
  have hfq := hC.at'.fresh
  have hfb := hC.fresh
  refine ⟨hC.at'.but, x :: q :: b :: (L ++ Le'), ⟨hok, es, Le', he, hxe, ?_⟩, fun k hm => ?_⟩
  · rw [hk]
    refine ⟨q, y, b, L, RunAt.of hC (fun nx => rfl), hM, htie, ?_, hq, hg, fun k hm => ?_, rfl⟩
    · simp only [List.mem_cons, not_or]
      exact ⟨by omega, by omega, fun hm => by have := hL x hm; omega⟩
    · simp only [List.mem_cons] at hm
      intro hk'
      have h1 := (hle k hk').2
      rcases hm with rfl | rfl | hm
      · omega
      · omega
      · have := hL k hm; omega
  · simp only [List.mem_cons, List.mem_append] at hm
    rcases hm with rfl | rfl | rfl | hm | hm
    · exact .inl rfl
    · exact .inr (.inr hfq)
    · exact .inr (.inr hfb)
    · exact .inr (.inr (hL k hm))
    · exact .inr (.inl (hle k hm).1)
theorem ws_land_run {S : Sub} {af : After} {pt : S.τ} (hR : RunNew S pt W w' x (wsAt who p sp lf cl t es none) 156 (af.fol.box x)) (hok : (wsCp who P T G p sp lf cl).ok t) (hk : (wsCp who P T G p sp lf cl).kind t = .run S pt af) (htie : ∀ y, (wsCp who P T G p sp lf cl).tie t es y) (hx : x < W.heap.size) (he : wsExt who P T p cl t es w' Le') (hxe : x ∉ Le') (hle : ∀ k ∈ Le', k ∈ Le ∧ k < W.heap.size) : (wsCp who P T G p sp lf cl).Land W w' x t Le := by
  obtain ⟨y, q, b, L, hC, hM, hL, hq, hg⟩ := hR
  exact ws_land_run0 hC hM hL hq hg hok hk (htie y) hx he hxe hle
theorem ws_on {v : Int} {S : Sub} {q : S.τ} {af : After} (hp : 0 ≤ P ∧ P ≤ 64) (hT : 0 ≤ T ∧ T ≤ 65536) (hv : 0 ≤ v ∧ v ≤ 18446744073709551615) (hok : (wsCp who P T G p sp lf cl).ok t) (hk : (wsCp who P T G p sp lf cl).kind t = .run S q af) (hs : (S.M.ax (S.M.nx q v)).isSome = true) :
    (wsCp who P T G p sp lf cl).ok ((wsPM P T p sp lf).nx t v) ∧ (wsCp who P T G p sp lf cl).kind ((wsPM P T p sp lf).nx t v) = .run S (S.M.nx q v) af ∧ (∀ es, (wsCp who P T G p sp lf cl).cells ((wsPM P T p sp lf).nx t v) es = (wsCp who P T G p sp lf cl).cells t es) ∧ (∀ es w Le, (wsCp who P T G p sp lf cl).ext t es w Le → (wsCp who P T G p sp lf cl).ext ((wsPM P T p sp lf).nx t v) es w Le) ∧ (∀ es y, (wsCp who P T G p sp lf cl).tie t es y → (wsCp who P T G p sp lf cl).tie ((wsPM P T p sp lf).nx t v) es y) := by
  cases t with
  | get q =>
    cases hk
    have e : (wsPM P T p sp lf).nx (.get q) v = .get ((jgPM P T).nx q v) := if_pos hs
    rw [e]
    obtain ⟨h1, h2⟩ := hok
    obtain ⟨a, ha⟩ := Option.isSome_iff_exists.1 h1
    exact ⟨⟨hs, (jg_laws who P T G cl hp hT).ok q a v h2 ha hv⟩, rfl, fun _ => rfl, fun _ _ _ h => h, fun _ _ h => h⟩
  | rel1 q r =>
    cases hk
    have e : (wsPM P T p sp lf).nx (.rel1 q r) v = .rel1 q ((relPM (wd 0 2 3 0 1) (wd 0 2 3 0 2)).nx r v) := if_pos hs
    rw [e]
    exact ⟨⟨hok.1, hs⟩, rfl, fun _ => rfl, fun _ _ _ h => h, fun _ _ h => h⟩
  | note q n =>
    cases n with
    | over => cases hk
    | fresh => cases hk; cases hs
  | back q b =>
    cases hk
    have e : (wsPM P T p sp lf).nx (.back q b) v = .back q ((ipPM P p).nx b v) := if_pos hs
    rw [e]
    obtain ⟨h1, h2⟩ := hok
    obtain ⟨a, ha⟩ := Option.isSome_iff_exists.1 h1
    exact ⟨⟨hs, (ip_laws who P T G p cl hp hT).ok b a v h2 ha hv⟩, rfl, fun _ => rfl, fun _ _ _ h => h, fun _ _ h => h⟩
  | rel2 q b r =>
    cases r with
    | over => cases hk
    | fresh =>
      cases hk
      exact ⟨trivial, rfl, fun _ => by cases b <;> rfl, fun _ _ _ h => by cases b <;> exact h, fun _ _ h => h⟩
    | pass => cases hk; cases hs
  | _ => cases hk
end
end Go.Proofs.YthjfbknmdligeaaGreat

namespace Go.Proofs.YthjfbknmdligeaaGreat
open Go Go.RowKit
set_option linter.unusedVariables false
set_option maxRecDepth 100000
set_option linter.unusedSimpArgs false

section
variable {who P T G p : Int} {sp lf : Bool} {cl : Nat}
/-- Behind the count: the processor goes back. -/
theorem ws_back_land (hp : 0 ≤ P ∧ P ≤ 64) (hT : 0 ≤ T ∧ T ≤ 65536) {W : World} {x th : Nat} {q : JgT} {Le : List Nat} (hB : Blk W x (wsCells who none cl p sp lf true th none) 156) (hl : Lay W cl P T G) (he : (jgFl who T cl).I (jgPM P T) W th q Le) (hxe : x ∉ Le) :
    Calls Tryz.prog 186 #[.pointer (some ⟨x, 0, none⟩)] W fun e w' => (∃ u, e = .returned u) ∧ (wsCp who P T G p sp lf cl).Land W w' x (wsPut lf q) Le := by
  have hgd : ((jgFl who T cl).I (jgPM P T)).Good (jgPM P T) := Fl.good (jg_laws who P T G cl hp hT)
  have hlt := hB.lt
  cases hf : lf with
  | true =>
    subst hf
    refine (ws_putBack_left W x cl th who p sp true true none none hB P T G hl hp rfl).mono ?_
    rintro e w' ⟨hu, hC⟩
    have hbu : But [x] W w' := by obtain ⟨_, _, _, _, h, _⟩ := hC; exact h
    exact ⟨hu, ws_land_acc (t := .lft q) (es := [th]) (Le' := Le) hC trivial rfl hlt (hgd.keep he hbu (fun k hk => ws_notmem hxe hk)) hxe (fun k hk => ⟨hk, hgd.lt he k hk⟩)⟩
  | false =>
    subst hf
    refine (ws_putBack_new W x cl th who p sp false true none none hB P T G hp hT rfl).mono ?_
    rintro e w' ⟨hu, y, q1, b, L, hC, hI, hL, hq, hg⟩
    exact ⟨hu, ws_land_run0 (S := ipSub who P T G p cl) (af := .fn 196) (pt := IpT.m0) (t := .back q .m0) (es := [th, y]) (Le' := Le) hC hI hL hq hg ⟨rfl, trivial⟩ rfl rfl hlt (hgd.keep he hC.at'.but (fun k hk => ws_notmem hxe hk)) hxe (fun k hk => ⟨hk, hgd.lt he k hk⟩)⟩
set_option maxHeartbeats 4000000 in
theorem ws_laws (hw : 0 ≤ who ∧ who ≤ 1000000) (hp : 0 ≤ P ∧ P ≤ 64) (hT : 0 ≤ T ∧ T ≤ 65536) :
    (wsCp who P T G p sp lf cl).Laws (wsPM P T p sp lf) (Rd.lay cl P T G) who where
  c0 := fun t es nx => rfl
  c1 := fun t es nx => rfl
  set := fun t es nx nx' => rfl
  k0 := fun t hok hk => by
    cases t with
    | note q n => cases n <;> first | rfl | cases hk
    | rel2 q b r => cases r <;> first | rfl | cases hk
    | _ => cases hk
  k1 := fun t a f hok hk => by
    cases t with
    | give q => cases hk; exact ⟨rfl, axSt_ok _ _ (wkWord_bd _ _), ent_ws3⟩
    | need q => cases hk; exact ⟨rfl, axSt_ok _ _ (by omega), ent_ws4⟩
    | cnt q => cases hk; exact ⟨rfl, axAd_ok _ _ (by omega), ent_ws5⟩
    | lft q => cases hk; exact ⟨rfl, axSt_ok _ _ (by omega), ent_ws6⟩
    | note q n => cases n <;> cases hk
    | rel2 q b r => cases r <;> cases hk
    | get q => cases hk
    | rel1 q r => cases hk
    | back q b => cases hk
  k2 := fun t S q af hok hk => by
    cases t with
    | get q => cases hk; exact ⟨rfl, hok.1, ent_ws1, fun a ha => (jg_laws who P T G cl hp hT).axok _ a hok.2 ha⟩
    | rel1 q r => cases hk; exact ⟨rfl, hok.2, ent_ws2, fun a => (rel_laws _ _ who).axok _ a trivial⟩
    | back q b => cases hk; exact ⟨rfl, hok.1, ent_ws7, fun a ha => (ip_laws who P T G p cl hp hT).axok _ a hok.2 ha⟩
    | note q n => cases n <;> cases hk <;> exact ⟨rfl, rfl, trivial, fun a => (nw_laws who _).axok _ a trivial⟩
    | rel2 q b r => cases r <;> cases hk <;> exact ⟨rfl, rfl, trivial, fun a => (rel_laws _ _ who).axok _ a trivial⟩
    | _ => cases hk
  sub := fun t S q af hok hk => by
    cases t with
    | get q => cases hk; exact ⟨Fl.steps (jg_laws who P T G cl hp hT) stepby_img, Fl.good (jg_laws who P T G cl hp hT), act_img, fun w h => h, fun k h => h⟩
    | rel1 q r => cases hk; exact relSub_ok _ _ who _
    | back q b => cases hk; exact ⟨Fl.steps (ip_laws who P T G p cl hp hT) stepby_ipp, Fl.good (ip_laws who P T G p cl hp hT), act_ipp, fun w h => h, fun k h => h⟩
    | note q n => cases n <;> cases hk <;> exact nwSub_ok _ who _
    | rel2 q b r => cases r <;> cases hk <;> exact relSub_ok _ _ who _
    | _ => cases hk
  on := fun t S q af v hok hk hv hs => ws_on hp hT hv hok hk hs
  ekeep := fun t es w w' ll Le he hb hk => by
    have hgd : ((jgFl who T cl).I (jgPM P T)).Good (jgPM P T) := Fl.good (jg_laws who P T G cl hp hT)
    have hgi : ((ipFl who p cl).I (ipPM P p)).Good (ipPM P p) := Fl.good (ip_laws who P T G p cl hp hT)
    cases t with
    | get q => exact he
    | rel2 q b r =>
      cases b with
      | none => exact hgd.keep he hb hk
      | some b =>
        obtain ⟨L1, L2, rfl, h1, h2⟩ := he
        exact ⟨L1, L2, rfl, hgd.keep h1 hb (fun k h => hk k (List.mem_append_left _ h)), hgi.keep h2 hb (fun k h => hk k (List.mem_append_right _ h))⟩
    | _ => exact hgd.keep he hb hk
  elt := fun t es w Le he k hk => by
    have hgd : ((jgFl who T cl).I (jgPM P T)).Good (jgPM P T) := Fl.good (jg_laws who P T G cl hp hT)
    have hgi : ((ipFl who p cl).I (ipPM P p)).Good (ipPM P p) := Fl.good (ip_laws who P T G p cl hp hT)
    cases t with
    | get q => rw [show Le = [] from he] at hk; cases hk
    | rel2 q b r =>
      cases b with
      | none => exact hgd.lt he k hk
      | some b =>
        obtain ⟨L1, L2, rfl, h1, h2⟩ := he
        rcases List.mem_append.1 hk with h | h
        · exact hgd.lt h1 k h
        · exact hgi.lt h2 k h
    | _ => exact hgd.lt he k hk
  fol := fun W x t a f v es Le hok hk hv hB he hxe hR hxR => by
    have hgd : ((jgFl who T cl).I (jgPM P T)).Good (jgPM P T) := Fl.good (jg_laws who P T G cl hp hT)
    have hlt := hB.lt
    have hcx : cl ≠ x := fun e => hxR (by rw [e]; exact List.mem_singleton.2 rfl)
    have hnm : ∀ k ∈ Le, k ∉ [x] := fun k hk => ws_notmem hxe hk
    cases t with
    | get q => cases hk
    | rel1 q r => cases hk
    | back q b => cases hk
    | note q n => cases n <;> cases hk
    | rel2 q b r => cases r <;> cases hk
    | give q =>
      cases hk
      have he' : (jgFl who T cl).I (jgPM P T) W (es.getD 0 0) q Le := he
      refine (ws_wake W x cl (es.getD 0 0) who p sp lf true none none hB q.obs P T G (fun Y hY => jg_got (hgd.keep he' hY hnm)) hR hp hT hcx).mono ?_
      rintro e w' ⟨hu, hC⟩
      exact ⟨hu, ws_land_run (S := nwSub (wd (20 + P * 264) T 3 q.obs 0) who) (af := .nil) (pt := NwT.fresh) (t := .note q .fresh) (es := es) (Le' := Le) hC trivial rfl (fun _ => trivial) hlt (hgd.keep he' hC.but hnm) hxe (fun k hk => ⟨hk, hgd.lt he' k hk⟩)⟩
    | need q =>
      cases hk
      have he' : (jgFl who T cl).I (jgPM P T) W (es.getD 0 0) q Le := he
      cases hs : sp with
      | true =>
        subst hs
        refine (ws_countBack_yes W x cl (es.getD 0 0) who p true lf true none none hB rfl).mono ?_
        rintro e w' ⟨hu, hC⟩
        exact ⟨hu, ws_land_acc (t := .cnt q) (es := es) (Le' := Le) hC trivial rfl hlt (hgd.keep he' hC.but hnm) hxe (fun k hk => ⟨hk, hgd.lt he' k hk⟩)⟩
      | false =>
        subst hs
        exact ws_countBack_no W x cl (es.getD 0 0) who p false lf true none none hB _ rfl (ws_back_land hp hT hB hR he' hxe)
    | cnt q =>
      cases hk
      have he' : (jgFl who T cl).I (jgPM P T) W (es.getD 0 0) q Le := he
      exact ws_counted W x _ v (ws_back_land hp hT hB hR he' hxe)
    | lft q =>
      cases hk
      have he' : (jgFl who T cl).I (jgPM P T) W (es.getD 0 0) q Le := he
      refine (ws_leave W x cl (es.getD 0 0) who p sp lf true none none hB).mono ?_
      rintro e w' ⟨hu, hC⟩
      exact ⟨hu, ws_land_run (S := relSub (wd 0 2 3 0 1) (wd 0 2 3 0 2) who) (af := .nil) (pt := RelT.fresh) (t := .rel2 q none .fresh) (es := es) (Le' := Le) hC trivial rfl (fun _ => trivial) hlt (hgd.keep he' hC.but hnm) hxe (fun k hk => ⟨hk, hgd.lt he' k hk⟩)⟩
  aft := fun W x y t S q af v es Le Li hok hk hv hn hB hin hty he hxe hxi hd hR hxR => by
    have hgd : ((jgFl who T cl).I (jgPM P T)).Good (jgPM P T) := Fl.good (jg_laws who P T G cl hp hT)
    have hgi : ((ipFl who p cl).I (ipPM P p)).Good (ipPM P p) := Fl.good (ip_laws who P T G p cl hp hT)
    have hlt := hB.lt
    have hnm : ∀ k ∈ Le, k ∉ [x] := fun k hk => ws_notmem hxe hk
    have hni : ∀ k ∈ Li, k ∉ [x] := fun k hk => ws_notmem hxi hk
    cases t with
    | get q =>
      cases hk
      obtain rfl : Le = [] := he
      obtain rfl : es.getD 0 0 = y := hty
      have hin' : (jgFl who T cl).I (jgPM P T) W (es.getD 0 0) ((jgPM P T).nx q v) Li := hin
      have hT1 := ws_T W x cl (es.getD 0 0) who p sp lf true none none hB _ (jg_got hin')
      have hn' : ¬ ((jgPM P T).ax ((jgPM P T).nx q v)).isSome = true := by rw [show (jgPM P T).ax ((jgPM P T).nx q v) = none from hn]; simp
      by_cases h0 : ((jgPM P T).nx q v).obs = -1
      · have e : (wsPM P T p sp lf).nx (.get q) v = .need ((jgPM P T).nx q v) := (if_neg hn').trans (if_pos h0)
        rw [e]
        rw [h0] at hT1
        refine (ws_choose_none W x cl (es.getD 0 0) who p sp lf true none none hB hT1).mono ?_
        rintro e w' ⟨hu, hC⟩
        exact ⟨hu, ws_land_acc (t := .need ((jgPM P T).nx q v)) (es := es) (Le' := Li) hC trivial rfl hlt (hgd.keep hin' hC.but hni) hxi (fun k hk => ⟨List.mem_append_left _ hk, hgd.lt hin' k hk⟩)⟩
      · have e : (wsPM P T p sp lf).nx (.get q) v = .rel1 ((jgPM P T).nx q v) .fresh := (if_neg hn').trans (if_neg h0)
        rw [e]
        refine (ws_choose_some W x cl (es.getD 0 0) who p sp lf true none none hB _ h0 hT1).mono ?_
        rintro e w' ⟨hu, hC⟩
        exact ⟨hu, ws_land_run (S := relSub (wd 0 2 3 0 1) (wd 0 2 3 0 2) who) (af := .fn 176) (pt := RelT.fresh) (t := .rel1 ((jgPM P T).nx q v) .fresh) (es := es) (Le' := Li) hC ⟨h0, rfl⟩ rfl (fun _ => trivial) hlt (hgd.keep hin' hC.but hni) hxi (fun k hk => ⟨List.mem_append_left _ hk, hgd.lt hin' k hk⟩)⟩
    | rel1 q r =>
      cases hk
      have he' : (jgFl who T cl).I (jgPM P T) W (es.getD 0 0) q Le := he
      have e : (wsPM P T p sp lf).nx (.rel1 q r) v = .give q := if_neg (by rw [show (relPM (wd 0 2 3 0 1) (wd 0 2 3 0 2)).ax ((relPM (wd 0 2 3 0 1) (wd 0 2 3 0 2)).nx r v) = none from hn]; simp)
      rw [e]
      refine (ws_give W x cl (es.getD 0 0) who p sp lf true none none hB q.obs P T G (fun Y hY => ws_T Y x cl (es.getD 0 0) who p sp lf true none none (hB.but (But.of_below (l := []) hY) (by simp)) _ (jg_got (hgd.below he' hY))) hR hp hT).mono ?_
      rintro e w' ⟨hu, hC⟩
      exact ⟨hu, ws_land_acc (t := .give q) (es := es) (Le' := Le) hC trivial rfl hlt (hgd.keep he' hC.but hnm) hxe (fun k hk => ⟨List.mem_append_right _ hk, hgd.lt he' k hk⟩)⟩
    | note q n =>
      cases n with
      | over => cases hk
      | fresh =>
        cases hk
        exact ws_land_over (t := .note q .over) (es := es) (Le' := Le) hB (But.refl _ _) trivial rfl he hxe (fun k hk => List.mem_append_right _ hk)
    | back q b =>
      cases hk
      obtain rfl : es.getD 1 0 = y := hty
      have he' : (jgFl who T cl).I (jgPM P T) W (es.getD 0 0) q Le := he
      have hin' : (ipFl who p cl).I (ipPM P p) W (es.getD 1 0) ((ipPM P p).nx b v) Li := hin
      have e : (wsPM P T p sp lf).nx (.back q b) v = .rel2 q (some ((ipPM P p).nx b v)) .fresh := if_neg (by rw [show (ipPM P p).ax ((ipPM P p).nx b v) = none from hn]; simp)
      rw [e]
      refine (wk_end W x cl who _ 156 hB (by simp [wsCp, wsAt, wsCells]) rfl rfl).mono ?_
      rintro e w' ⟨hu, hC⟩
      exact ⟨hu, ws_land_run (S := relSub (wd 0 2 3 0 1) (wd 0 2 3 0 2) who) (af := .nil) (pt := RelT.fresh) (t := .rel2 q (some ((ipPM P p).nx b v)) .fresh) (es := es) (Le' := Le ++ Li) hC trivial rfl (fun _ => trivial) hlt ⟨Le, Li, rfl, hgd.keep he' hC.but hnm, hgi.keep hin' hC.but hni⟩ (fun hm => (List.mem_append.1 hm).elim hxe hxi) (fun k hk => (List.mem_append.1 hk).elim (fun h => ⟨List.mem_append_right _ h, hgd.lt he' k h⟩) (fun h => ⟨List.mem_append_left _ h, hgi.lt hin' k h⟩))⟩
    | rel2 q b r =>
      cases r with
      | over => cases hk
      | fresh => cases hk; cases hn
      | pass =>
        cases hk
        exact ws_land_over (t := .rel2 q b .over) (es := es) (Le' := Le) (by cases b <;> exact hB) (But.refl _ _) trivial rfl (by cases b <;> exact he) hxe (fun k hk => List.mem_append_right _ hk)
    | _ => cases hk
end
end Go.Proofs.YthjfbknmdligeaaGreat

namespace Go.Proofs.YthjfbknmdligeaaGreat
open Go Go.RowKit
set_option linter.unusedVariables false
set_option maxRecDepth 100000
set_option linter.unusedSimpArgs false

section
variable {who P T G p : Int} {sp lf : Bool} {cl : Nat} {w : World} {x : Nat} {t : WsT} {L : List Nat}
theorem ws_blk {es Le : List Nat} (h : (wsCp who P T G p sp lf cl).Here w x t es Le L ((wsCp who P T G p sp lf cl).kind t)) : ∃ nx, Blk w x (wsAt who p sp lf cl t es nx) 156 := by
  cases hk : (wsCp who P T G p sp lf cl).kind t with
  | over => rw [hk] at h; exact ⟨none, h.1⟩
  | acc a f => rw [hk] at h; obtain ⟨q, Lc, h1, -⟩ := h; exact ⟨_, h1⟩
  | run S q af => rw [hk] at h; obtain ⟨q1, y, g, Li, h1, -⟩ := h; exact ⟨_, h1.hx⟩
/-- Its block, the thread's machine, and the one that gives the processor back. -/
theorem ws_parts (h : (wsCp who P T G p sp lf cl).I w x t L) : ∃ es nx L1, Blk w x (wsAt who p sp lf cl t es nx) 156 ∧ (jgFl who T cl).I (jgPM P T) w (es.getD 0 0) t.q L1 ∧ (∀ b, t.bk = some b → ∃ L2, (ipFl who p cl).I (ipPM P p) w (es.getD 1 0) b L2) := by
  obtain ⟨-, es, Le, he, hxe, hH⟩ := h
  obtain ⟨nx, hB⟩ := ws_blk hH
  cases t with
  | get q =>
    obtain ⟨q1, y, g, Li, h1, h2, h3, -⟩ := hH
    obtain rfl : es.getD 0 0 = y := h3
    exact ⟨es, nx, Li, hB, h2, fun b h => by cases h⟩
  | back q b =>
    obtain ⟨q1, y, g, Li, h1, h2, h3, -⟩ := hH
    obtain rfl : es.getD 1 0 = y := h3
    exact ⟨es, nx, Le, hB, he, fun b' h => by cases h; exact ⟨Li, h2⟩⟩
  | rel2 q b r =>
    cases b with
    | none => exact ⟨es, nx, Le, hB, he, fun b' h => by cases h⟩
    | some b =>
      obtain ⟨L1, L2, rfl, h1, h2⟩ := he
      exact ⟨es, nx, L1, hB, h1, fun b' h => by cases h; exact ⟨L2, h2⟩⟩
  | rel1 q r => exact ⟨es, nx, Le, hB, he, fun b h => by cases h⟩
  | give q => exact ⟨es, nx, Le, hB, he, fun b h => by cases h⟩
  | note q n => exact ⟨es, nx, Le, hB, he, fun b h => by cases h⟩
  | need q => exact ⟨es, nx, Le, hB, he, fun b h => by cases h⟩
  | cnt q => exact ⟨es, nx, Le, hB, he, fun b h => by cases h⟩
  | lft q => exact ⟨es, nx, Le, hB, he, fun b h => by cases h⟩
/-- The thread. -/
theorem ws_tells_T (h : (wsCp who P T G p sp lf cl).I w x t L) :
    Calls Tryz.prog 172 #[.pointer (some ⟨x, 0, none⟩)] w fun e w' => e = .returned (.int .i64 t.q.obs) ∧ w = w' := by
  obtain ⟨es, nx, L1, hB, hI, -⟩ := ws_parts h
  exact ws_T w x cl (es.getD 0 0) who p sp lf t.has _ nx hB _ (jg_got hI)
/-- The processor in its hand. -/
theorem ws_tells_P (h : (wsCp who P T G p sp lf cl).I w x t L) :
    Calls Tryz.prog 76 #[.pointer (some ⟨x, 0, none⟩)] w fun e w' => e = .returned (.int .i64 (t.holds p)) ∧ w = w' := by
  obtain ⟨es, nx, L1, hB, -, hb⟩ := ws_parts h
  unfold WsT.holds
  unfold wsAt at hB
  cases hh : t.has with
  | false =>
    rw [hh] at hB
    exact ws_holds_no w x cl (es.getD 0 0) who p sp lf false _ nx hB rfl
  | true =>
    rw [hh] at hB
    cases hk : t.bk with
    | none =>
      rw [hk] at hB
      exact ws_holds_one w x cl (es.getD 0 0) who p sp lf true none nx hB rfl rfl
    | some b =>
      obtain ⟨L2, h2⟩ := hb b hk
      rw [hk] at hB
      exact ws_holds_back w x cl (es.getD 0 0) who p sp lf true _ nx hB (es.getD 1 0) _ rfl rfl (ip_holds h2)
end
theorem ws_new_at (w : World) (cl : Nat) (who p P T G : Int) (sp lf : Bool) (hp : 0 ≤ P ∧ P ≤ 64) (hTT : 0 ≤ T ∧ T ≤ 65536) :
    Calls Tryz.prog 161 #[.pointer (some ⟨cl, 0, none⟩), .int .i64 who, .int .i64 p, .bool sp, .bool lf] w fun e w' => ∃ x L, e = .returned (.pointer (some ⟨x, 0, none⟩)) ∧ (wsCp who P T G p sp lf cl).I w' x (.get .ld) L ∧ Below w.heap.size w w' ∧ (∀ k ∈ L, w.heap.size ≤ k) ∧ w.heap.size ≤ x := by
  refine (ws_new w cl who p P T G sp lf hp hTT).mono ?_
  rintro e w' ⟨x, th, q, b, L, V, rfl, hC, hI, hL, hq, hb, hB, hx, hxV⟩
  have hfq := hC.at'.fresh
  have hfb := hC.fresh
  refine ⟨x, x :: q :: b :: (L ++ []), rfl, ⟨⟨rfl, trivial⟩, [th], [], rfl, by simp, q, th, b, L, RunAt.of hC (fun nx => rfl), hI, rfl, ?_, hq, hb, (fun k _ h => by cases h), rfl⟩, hB, fun k hk => ?_, hx⟩
  · simp only [List.mem_cons, not_or]
    exact ⟨by omega, by omega, fun hm => (hL x hm).2 rfl⟩
  · simp at hk
    rcases hk with rfl | rfl | rfl | hk
    · exact hx
    · omega
    · omega
    · exact (hL k hk).1
end Go.Proofs.YthjfbknmdligeaaGreat

namespace Go.Proofs.YthjfbknmdligeaaGreat
open Go Go.RowKit
set_option linter.unusedVariables false
set_option maxRecDepth 100000
set_option linter.unusedSimpArgs false

def wwCells (who : Int) (nx : Option Addr) (cl : Nat) (ct : Bool) (pr st : Option Addr) : Array Value := #[.int .i64 who, .pointer nx, .pointer (some ⟨cl, 0, none⟩), .bool ct, .pointer pr, .pointer st]
end Go.Proofs.YthjfbknmdligeaaGreat

namespace Go.Proofs.YthjfbknmdligeaaGreat
open Go Go.RowKit
set_option linter.unusedVariables false
set_option maxRecDepth 100000
set_option linter.unusedSimpArgs false

end Go.Proofs.YthjfbknmdligeaaGreat

namespace Go.Proofs.YthjfbknmdligeaaGreat
open Go Go.RowKit
set_option linter.unusedVariables false
set_option maxRecDepth 100000
set_option linter.unusedSimpArgs false

theorem isD_wst (v : Value) (xT : TypeId) (w : World) : (Instr.typeAssert (.iface 140 v) xT 183 true).run Tryz.prog w = .ok (.tuple #[.iface 140 v, .bool true]) w := run_typeAssert_hasB Tryz.underlying183 (by kernel_rfl) v xT w
theorem eqIIn_wst (w : World) (fuel : Nat) (v : Value) : (Op.equalIn (fuel + 1) 146 (.iface 140 v) .nilIface).run Tryz.prog w = .ok false w := by
  simp only [Op.equalIn, Sem.run_bind, run_underlying Tryz.underlying146, Result.andThen_ok]
  rfl
theorem eqI_wst (v : Value) (w : World) : (binOp .eql 146 (.iface 140 v) .nilIface).run Tryz.prog w = .ok (.bool false) w := by
  have h := eqIIn_wst w 9999 v
  simp only [binOp]
  simp [Op.equal, Op.maxDepth, h]
theorem neqI_wst (v : Value) (w : World) : (binOp .neq 146 (.iface 140 v) .nilIface).run Tryz.prog w = .ok (.bool true) w := by
  have h := eqIIn_wst w 9999 v
  simp only [binOp]
  simp [Op.equal, Op.maxDepth, h]
theorem isdone_wst (w : World) (x : Nat) (nx : Option Addr) (hc : w.cell? ⟨x, 1, none⟩ = some (.pointer nx)) :
    Calls Tryz.prog 124 #[.iface 140 (.pointer (some ⟨x, 0, none⟩))] w fun e w' => e = .returned (.bool nx.isNone) ∧ w = w' := by
  have h1 := isD_wst
  have h2 := eqI_wst
  have hD := done_wst w x nx hc
  go_enter Tryz.func124, Tryz.ntmps124
  go_wp2_with fail
  go_at_call 237; refine hD.mono ?_; rintro e w1 ⟨rfl, rfl⟩
  go_wp2_with fail
  go_ret
  exact ⟨rfl, rfl⟩

theorem frun0_wst (w : World) (c x : Nat) (cs : Array Value) (T : TypeId) (fv : Value) (nx : Addr) (h : Blk w c cs T) (hs : 2 ≤ cs.size) (hf : Fv fv) (hxc : x ≠ c) (hx : w.cell? ⟨x, 1, none⟩ = some (.pointer (some nx))) :
    Calls Tryz.prog 120 #[.pointer (some ⟨c, 0, none⟩), .iface 140 (.pointer (some ⟨x, 0, none⟩)), fv] w fun e w' => (∃ v, e = .returned v) ∧ ∃ q g, CameBox w w' c cs T (fun v => comCells 0 0 0 0 0 false (.iface 140 (.pointer (some ⟨x, 0, none⟩))) v false false) fv q g := by
  have c1 := h.cell 1 (Array.getElem?_eq_getElem (by omega))
  have f1 := h.fro 1
  have hlt := h.lt
  have h1 := h.set 1 (.pointer none)
  have c2 := h1.cell 1 (v := .pointer none) (by rw [Array.getElem?_setIfInBounds, if_pos rfl, if_pos (by omega)])
  have f2 := h1.fro 1
  have hB1 : But [c] w (w.setCell ⟨c, 1, none⟩ (.pointer none)) := (But.refl _ w).set (g := c) (.inl (by simp)) 1 _
  have hsz : (w.setCell ⟨c, 1, none⟩ (.pointer none)).heap.size = w.heap.size := size_set _ _ _
  have hD := isdone_wst (w.setCell ⟨c, 1, none⟩ (.pointer none)) x (some nx) (by
    rw [show (w.setCell ⟨c, 1, none⟩ (.pointer none)).cell? ⟨x, 1, none⟩ = w.cell? ⟨x, 1, none⟩ by simp only [World.cell?]; rw [heap_set_ne w hxc 1 _]]
    exact hx)
  have hU := fun w => untold_any w fv hf
  have HH : Hid (Blk (w.setCell ⟨c, 1, none⟩ (.pointer none)) c (cs.setIfInBounds 1 (.pointer none)) T ∧ But [c] w (w.setCell ⟨c, 1, none⟩ (.pointer none))) := ⟨h1, hB1⟩
  clear h h1 hB1 hx
  go_enter Tryz.func120, Tryz.ntmps120
  go_wp2_with fail
  generalize w.setCell ⟨c, 1, none⟩ (.pointer none) = W at *
  go_at_call 124; refine hD.mono ?_; rintro e w1 ⟨rfl, rfl⟩
  go_wp2_with fail
  go_at_call 98; refine (hU _).mono ?_; rintro e w2 ⟨rfl, rfl⟩
  have hg := Blk.new W #[fv] 1
  have hW2 : Blk (W.alloc (.cells #[fv] 1)) c (cs.setIfInBounds 1 (.pointer none)) T := HH.out.1.al _
  have hsz2 : Hid ((W.alloc (.cells #[fv] 1)).heap.size = w.heap.size + 1) := (by rw [World.size_alloc, hsz] : (W.alloc (.cells #[fv] 1)).heap.size = w.heap.size + 1)
  have hB2 : But [c] w (W.alloc (.cells #[fv] 1)) := HH.out.2.alloc _
  rw [hsz] at hg ⊢
  have HG : Hid (Blk (W.alloc (.cells #[fv] 1)) w.heap.size #[fv] 1 ∧ Blk (W.alloc (.cells #[fv] 1)) c (cs.setIfInBounds 1 (.pointer none)) T ∧ But [c] w (W.alloc (.cells #[fv] 1))) := ⟨hg, hW2, hB2⟩
  have c3 := hW2.cell 1 (v := .pointer none) (by rw [Array.getElem?_setIfInBounds, if_pos rfl, if_pos (by omega)])
  have f3 := hW2.fro 1
  clear hD hU c1 f1 c2 f2 hg hW2 hB2
  generalize W.alloc (.cells #[fv] 1) = W2 at *
  have hlt2 : c < W2.heap.size := by have := hsz2.out; omega
  clear hsz HH
  go_wp2_with fail
  go_end0
  obtain ⟨g1, g2, g3⟩ := HG.out
  have hsz2 := hsz2.out
  refine ⟨⟨_, rfl⟩, W2.heap.size, w.heap.size, ⟨⟨by omega, ?_, ?_, ?_⟩, Nat.le_refl _, ?_, by omega⟩⟩
  · have := (g2.set 1 (.pointer (some ⟨W2.heap.size, 0, none⟩))).al (.cells (comCells 0 0 0 0 0 false (.iface 140 (.pointer (some ⟨x, 0, none⟩))) (.func (.func 110) #[] #[.pointer (some ⟨w.heap.size, 0, none⟩)]) false false) 148)
    rw [set_twice] at this
    exact this
  · have := Blk.new (W2.setCell ⟨c, 1, none⟩ (.pointer (some ⟨W2.heap.size, 0, none⟩))) (comCells 0 0 0 0 0 false (.iface 140 (.pointer (some ⟨x, 0, none⟩))) (.func (.func 110) #[] #[.pointer (some ⟨w.heap.size, 0, none⟩)]) false false) 148
    rw [size_set] at this
    exact this
  · exact (g3.set (g := c) (.inl (by simp)) 1 _).alloc _
  · exact (g1.setne (by omega) 1 _).al _

theorem act0_wst (w : World) (q cm x : Nat) (who : Int) (thn : Value) (z : Bool) (Mw : World → Prop) (hq : Blk w q (comCells 0 0 0 0 0 false (.iface 140 (.pointer (some ⟨x, 0, none⟩))) thn false false) 148)
    (hS : ∀ W, But [q] w W → Blk W q (comCells 0 0 0 0 0 false (.iface 140 (.pointer (some ⟨x, 0, none⟩))) thn false true) 148 → Calls Tryz.prog 238 #[.pointer (some ⟨x, 0, none⟩), .pointer (some ⟨cm, 0, none⟩)] W fun e w' => e = .returned (.bool z) ∧ Blk w' q (comCells 0 0 0 0 0 false (.iface 140 (.pointer (some ⟨x, 0, none⟩))) thn false true) 148 ∧ Mw w') :
    Calls Tryz.prog 79 #[.pointer (some ⟨q, 0, none⟩), .int .i64 who, .pointer (some ⟨cm, 0, none⟩)] w fun e w' => e = .returned (.tuple #[.int .u64 0, .bool z]) ∧ ∃ w1, Mw w1 ∧ Blk w1 q (comCells 0 0 0 0 0 false (.iface 140 (.pointer (some ⟨x, 0, none⟩))) thn false true) 148 ∧ w' = w1.setCell ⟨q, 9, none⟩ (.bool false) := by
  have hn := neqI_wst
  have hbm := Blk.new w #[.pointer (some ⟨cm, 0, none⟩)] 29
  have hq1 := hq.al (.cells #[.pointer (some ⟨cm, 0, none⟩)] 29)
  have hqlt := hq.lt
  have k6 := hq1.cell 6 (v := .iface 140 (.pointer (some ⟨x, 0, none⟩))) rfl
  have hask : Calls Tryz.prog 89 #[.pointer (some ⟨q, 0, none⟩), .func (.func 90) #[] #[.pointer (some ⟨w.heap.size, 0, none⟩)]] (w.alloc (.cells #[.pointer (some ⟨cm, 0, none⟩)] 29)) fun e w' => e = .returned (.bool z) ∧ ∃ w1, Mw w1 ∧ Blk w1 q (comCells 0 0 0 0 0 false (.iface 140 (.pointer (some ⟨x, 0, none⟩))) thn false true) 148 ∧ w' = w1.setCell ⟨q, 9, none⟩ (.bool false) := by
    have hne : w.heap.size ≠ q := by omega
    have k9 := hq1.cell 9 (v := .bool false) rfl
    have f9 := hq1.fro 9
    have hq2 := hq1.set 9 (.bool true)
    have l6 := hq2.cell 6 (v := .iface 140 (.pointer (some ⟨x, 0, none⟩))) rfl
    have hb2 := hbm.setne hne 9 (.bool true)
    have b0 := hb2.cell 0 (v := .pointer (some ⟨cm, 0, none⟩)) rfl
    have hst := hS ((w.alloc (.cells #[.pointer (some ⟨cm, 0, none⟩)] 29)).setCell ⟨q, 9, none⟩ (.bool true)) (((But.refl [q] w).alloc _).set (g := q) (.inl (by simp)) 9 _) hq2
    have hrun : Calls Tryz.prog 90 #[.iface 140 (.pointer (some ⟨x, 0, none⟩)), .pointer (some ⟨w.heap.size, 0, none⟩)] ((w.alloc (.cells #[.pointer (some ⟨cm, 0, none⟩)] 29)).setCell ⟨q, 9, none⟩ (.bool true)) fun e w' => e = .returned (.bool z) ∧ Blk w' q (comCells 0 0 0 0 0 false (.iface 140 (.pointer (some ⟨x, 0, none⟩))) thn false true) 148 ∧ Mw w' := by
      clear hS hq hbm hq1 k6 k9 f9 hq2 l6 hb2 hqlt hne
      generalize (w.alloc (.cells #[.pointer (some ⟨cm, 0, none⟩)] 29)).setCell ⟨q, 9, none⟩ (.bool true) = W at *
      go_enter Tryz.func90, Tryz.ntmps90
      go_wp2_with fail
      go_at_call 238; refine hst.mono ?_; rintro e w1 ⟨rfl, h1, h2⟩
      go_wp2_with fail
      go_ret
      exact ⟨rfl, h1, h2⟩
    clear hS hq hbm hq1 hq2 hb2 hst b0 hqlt
    go_enter Tryz.func89, Tryz.ntmps89
    go_wp2_with fail
    generalize (w.alloc (.cells #[.pointer (some ⟨cm, 0, none⟩)] 29)).setCell ⟨q, 9, none⟩ (.bool true) = W at *
    go_at_call 90; refine hrun.mono ?_; rintro e w1 ⟨rfl, h1, h2⟩
    have m9 := h1.cell 9 (v := .bool true) rfl
    have g9 := h1.fro 9
    clear hrun l6 k9 f9 k6
    go_wp2_with fail
    go_ret
    exact ⟨rfl, w1, h2, h1, rfl⟩
  clear hS hq hq1 hbm
  go_enter Tryz.func79, Tryz.ntmps79
  go_wp2_with fail
  generalize w.alloc (.cells #[.pointer (some ⟨cm, 0, none⟩)] 29) = W at *
  go_at_call 89; refine hask.mono ?_; rintro e w1 ⟨rfl, h1⟩
  clear hask k6
  go_wp2_with fail
  go_returns
  exact ⟨rfl, h1⟩

theorem frun_wst : RunCome 140 := fun w c y cs T fv nx h hs hf hyc hx => frun0_wst w c y cs T fv nx h hs hf hyc hx
theorem act_wst : ActRun 140 238 := fun w q cm y g who z Mw hq hS => act0_wst w q cm y who _ z Mw hq hS
end Go.Proofs.YthjfbknmdligeaaGreat

namespace Go.Proofs.YthjfbknmdligeaaGreat
open Go Go.RowKit
set_option linter.unusedVariables false
set_option maxRecDepth 100000
set_option linter.unusedSimpArgs false

end Go.Proofs.YthjfbknmdligeaaGreat

namespace Go.Proofs.YthjfbknmdligeaaGreat
open Go Go.RowKit
set_option linter.unusedVariables false
set_option maxRecDepth 100000
set_option linter.unusedSimpArgs false

/-- A machine that may run others does accesses that may be, at each state. -/
theorem Cp.okax {σ : Type} {C : Cp σ} {M : PM σ} {R : Rd} {who : Int} (hL : C.Laws M R who) {t : σ} (hok : C.ok t) : ∀ a, M.ax t = some a → a.Ok := by
  intro a ha
  cases hk : C.kind t with
  | over => rw [hL.k0 t hok hk] at ha; cases ha
  | acc a' f =>
    obtain ⟨h1, h2, _⟩ := hL.k1 t a' f hok hk
    rw [h1] at ha
    cases ha
    exact h2
  | run S p af =>
    obtain ⟨h1, _, _, h4⟩ := hL.k2 t S p af hok hk
    exact h4 a (h1.symm.trans ha)
theorem ws_ok_next {who P T G p : Int} {sp lf : Bool} {cl : Nat} (hp : 0 ≤ P ∧ P ≤ 64) (hT : 0 ≤ T ∧ T ≤ 65536) {t : WsT} {a : Ax} {v : Int} (hok : (wsCp who P T G p sp lf cl).ok t) (ha : (wsPM P T p sp lf).ax t = some a) (hv : 0 ≤ v ∧ v ≤ 18446744073709551615) : (wsCp who P T G p sp lf cl).ok ((wsPM P T p sp lf).nx t v) := by
  have hput : ∀ q, (wsCp who P T G p sp lf cl).ok (wsPut lf q) := fun q => by unfold wsPut; cases lf <;> first | exact trivial | exact ⟨rfl, trivial⟩
  cases t with
  | get q =>
    have h2 := (jg_laws who P T G cl hp hT).ok q a v hok.2 ha hv
    show (wsCp who P T G p sp lf cl).ok (if ((jgPM P T).ax ((jgPM P T).nx q v)).isSome = true then .get ((jgPM P T).nx q v) else if ((jgPM P T).nx q v).obs = -1 then .need ((jgPM P T).nx q v) else .rel1 ((jgPM P T).nx q v) .fresh)
    split
    · rename_i h1; exact ⟨h1, h2⟩
    · split
      · exact trivial
      · rename_i h1; exact ⟨h1, rfl⟩
  | rel1 q r =>
    show (wsCp who P T G p sp lf cl).ok (if ((relPM (wd 0 2 3 0 1) (wd 0 2 3 0 2)).ax ((relPM (wd 0 2 3 0 1) (wd 0 2 3 0 2)).nx r v)).isSome = true then .rel1 q ((relPM (wd 0 2 3 0 1) (wd 0 2 3 0 2)).nx r v) else .give q)
    split
    · rename_i h1; exact ⟨hok.1, h1⟩
    · exact trivial
  | give q => exact trivial
  | note q n => exact trivial
  | need q =>
    show (wsCp who P T G p sp lf cl).ok (if sp = true then .cnt q else wsPut lf q)
    split
    · exact trivial
    · exact hput q
  | cnt q => exact hput q
  | lft q => exact trivial
  | back q b =>
    have h2 := (ip_laws who P T G p cl hp hT).ok b a v hok.2 ha hv
    show (wsCp who P T G p sp lf cl).ok (if ((ipPM P p).ax ((ipPM P p).nx b v)).isSome = true then .back q ((ipPM P p).nx b v) else .rel2 q (some ((ipPM P p).nx b v)) .fresh)
    split
    · rename_i h1; exact ⟨h1, h2⟩
    · exact trivial
  | rel2 q b r => exact trivial

/-- Waking some thread, as plain data: q is what the processor's machine is in. -/
inductive WwT where
  | ld
  | sw
  | no
  | acq (a : AcqT)
  | get (q : IgT)
  | need (q : IgT)
  | cnt (q : IgT)
  | rel (q : IgT) (r : RelT)
  | run (q : IgT) (t : WsT)
def WwT.counts : WwT → Bool
  | .acq _ => true
  | .get _ => true
  | .need _ => true
  | .cnt _ => true
  | _ => false
/-- The processor in its hand. -/
def WwT.holds : WwT → Int
  | .get q => q.obs
  | .need q => q.obs
  | .cnt q => q.obs
  | .rel q _ => q.obs
  | .run q t => t.holds q.obs
  | _ => -1
def wwPM (P T who : Int) : PM WwT where
  ax := fun
    | .ld => some (axLd 13)
    | .sw => some (axSw 13 0 1)
    | .no => none
    | .acq a => (acqPM (wd 0 2 3 0 0) (wd 0 2 3 0 1) (wd 0 2 3 0 2) who).ax a
    | .get q => (igPM P).ax q
    | .need _ => some (axSt 14 1)
    | .cnt _ => some (axAd 13 4294967295)
    | .rel _ r => (relPM (wd 0 2 3 0 1) (wd 0 2 3 0 2)).ax r
    | .run q t => (wsPM P T q.obs true false).ax t
  nx := fun
    | .ld, v => if v = 0 then .sw else .no
    | .sw, v => if v = 0 then .no else .acq .fresh
    | .no, _ => .no
    | .acq a, v => if ((acqPM (wd 0 2 3 0 0) (wd 0 2 3 0 1) (wd 0 2 3 0 2) who).ax ((acqPM (wd 0 2 3 0 0) (wd 0 2 3 0 1) (wd 0 2 3 0 2) who).nx a v)).isSome = true then .acq ((acqPM (wd 0 2 3 0 0) (wd 0 2 3 0 1) (wd 0 2 3 0 2) who).nx a v) else .get .ld
    | .get q, v => if ((igPM P).ax ((igPM P).nx q v)).isSome = true then .get ((igPM P).nx q v) else if ((igPM P).nx q v).obs = -1 then .need ((igPM P).nx q v) else .run ((igPM P).nx q v) (.get .ld)
    | .need q, _ => .cnt q
    | .cnt q, _ => .rel q .fresh
    | .rel q r, v => .rel q ((relPM (wd 0 2 3 0 1) (wd 0 2 3 0 2)).nx r v)
    | .run q t, v => .run q ((wsPM P T q.obs true false).nx t v)
def wsSub (who P T G p : Int) (cl : Nat) : Sub := ⟨WsT, wsPM P T p true false, (wsCp who P T G p true false cl).I, Rd.lay cl P T G, 140, 238⟩
def WwT.hasP : WwT → Bool
  | .get _ => true
  | .need _ => true
  | .cnt _ => true
  | .rel _ _ => true
  | .run _ _ => true
  | _ => false
def WwT.hasS : WwT → Bool
  | .run _ _ => true
  | _ => false
def wwAt (who : Int) (cl : Nat) (t : WwT) (es : List Nat) (nx : Option Addr) : Array Value := wwCells who nx cl t.counts (if t.hasP = true then some ⟨es.getD 0 0, 0, none⟩ else none) (if t.hasS = true then some ⟨es.getD 1 0, 0, none⟩ else none)
end Go.Proofs.YthjfbknmdligeaaGreat

namespace Go.Proofs.YthjfbknmdligeaaGreat
open Go Go.RowKit
set_option linter.unusedVariables false
set_option maxRecDepth 100000
set_option linter.unusedSimpArgs false

end Go.Proofs.YthjfbknmdligeaaGreat

namespace Go.Proofs.YthjfbknmdligeaaGreat
open Go Go.RowKit
set_option linter.unusedVariables false
set_option maxRecDepth 100000
set_option linter.unusedSimpArgs false

/-- A machine that acquires a lock: what comes next lies at block q, what follows in block g. -/
inductive Acq (w : World) (x : Nat) (who tk sv ow : Int) : Nat → Nat → Nat → Int → Prop
  | fresh (q : Nat) : Blk w x (acqCells who (some ⟨q, 0, none⟩) sv ow 0 false) 188 → Blk w q (comCells 4 0 tk 0 1 false .nilIface (.func (.func 137) #[.pointer (some ⟨x, 0, none⟩)] #[]) false false) 148 → q ≠ x → Acq w x who tk sv ow q x 0 0
  | wait (q : Nat) (t : Int) : Blk w x (acqCells who (some ⟨q, 0, none⟩) sv ow t true) 188 → Blk w q (comCells 1 0 sv 0 0 false .nilIface (.func (.func 143) #[.pointer (some ⟨x, 0, none⟩)] #[]) false false) 148 → q ≠ x → Acq w x who tk sv ow q x 1 t
  | has (q g : Nat) (t : Int) : Blk w x (acqCells who (some ⟨q, 0, none⟩) sv ow t true) 188 → Blk w q (comCells 2 0 ow 0 (who + 1) false .nilIface (.func (.func 110) #[] #[.pointer (some ⟨g, 0, none⟩)]) false false) 148 → Blk w g #[.nilFunc] 1 → q ≠ x → g ≠ x → Acq w x who tk sv ow q g 2 t
  | over (t : Int) : Blk w x (acqCells who none sv ow t true) 188 → Acq w x who tk sv ow x x 3 t
theorem Acq.but {w w' : World} {x q g ph : Nat} {who tk sv ow t : Int} {l : List Nat} (h : Acq w x who tk sv ow q g ph t) (hb : But l w w') (hx : x ∉ l) (hq : q ∉ l) (hg : g ∉ l) : Acq w' x who tk sv ow q g ph t := by
  cases h with
  | fresh _ a b c => exact .fresh _ (a.but hb hx) (b.but hb hq) c
  | wait _ _ a b c => exact .wait _ _ (a.but hb hx) (b.but hb hq) c
  | has _ _ _ a b c d e => exact .has _ _ _ (a.but hb hx) (b.but hb hq) (c.but hb hg) d e
  | over _ a => exact .over _ (a.but hb hx)
theorem Acq.lt {w : World} {x q g ph : Nat} {who tk sv ow t : Int} (h : Acq w x who tk sv ow q g ph t) : x < w.heap.size ∧ q < w.heap.size ∧ g < w.heap.size := by
  cases h with
  | fresh _ a b c => exact ⟨a.lt, b.lt, a.lt⟩
  | wait _ _ a b c => exact ⟨a.lt, b.lt, a.lt⟩
  | has _ _ _ a b c d e => exact ⟨a.lt, b.lt, c.lt⟩
  | over _ a => exact ⟨a.lt, a.lt, a.lt⟩
/-- Which phase is the last one, and what comes next. -/
theorem Acq.next {w : World} {x q g ph : Nat} {who tk sv ow t : Int} (h : Acq w x who tk sv ow q g ph t) : ∃ nx, w.cell? ⟨x, 1, none⟩ = some (.pointer nx) ∧ nx.isNone = decide (ph = 3) := by
  cases h with
  | fresh _ a b c => exact ⟨_, a.cell 1 rfl, rfl⟩
  | wait _ _ a b c => exact ⟨_, a.cell 1 rfl, rfl⟩
  | has _ _ _ a b c d e => exact ⟨_, a.cell 1 rfl, rfl⟩
  | over _ a => exact ⟨_, a.cell 1 rfl, rfl⟩
theorem Acq.cells {w : World} {x q g ph : Nat} {who tk sv ow t : Int} (h : Acq w x who tk sv ow q g ph t) : ∃ nx, Blk w x (acqCells who nx sv ow t (decide (ph ≠ 0))) 188 := by
  cases h with
  | fresh _ a b c => exact ⟨_, a⟩
  | wait _ _ a b c => exact ⟨_, a⟩
  | has _ _ _ a b c d e => exact ⟨_, a⟩
  | over _ a => exact ⟨_, a⟩

/-- A machine that releases a lock. -/
inductive Rel (w : World) (x : Nat) (who sv ow : Int) : Nat → Nat → Nat → Prop
  | fresh (q g : Nat) : Blk w x (relCells who (some ⟨q, 0, none⟩) sv) 196 → Blk w q (comCells 2 0 ow 0 0 false .nilIface (.func (.func 110) #[] #[.pointer (some ⟨g, 0, none⟩)]) false false) 148 → Blk w g #[.func (.func 150) #[.pointer (some ⟨x, 0, none⟩)] #[]] 1 → q ≠ x → g ≠ x → Rel w x who sv ow q g 0
  | pass (q g : Nat) : Blk w x (relCells who (some ⟨q, 0, none⟩) sv) 196 → Blk w q (comCells 4 0 sv 0 1 false .nilIface (.func (.func 110) #[] #[.pointer (some ⟨g, 0, none⟩)]) false false) 148 → Blk w g #[.nilFunc] 1 → q ≠ x → g ≠ x → Rel w x who sv ow q g 1
  | over : Blk w x (relCells who none sv) 196 → Rel w x who sv ow x x 2
theorem Rel.but {w w' : World} {x q g ph : Nat} {who sv ow : Int} {l : List Nat} (h : Rel w x who sv ow q g ph) (hb : But l w w') (hx : x ∉ l) (hq : q ∉ l) (hg : g ∉ l) : Rel w' x who sv ow q g ph := by
  cases h with
  | fresh _ _ a b c d e => exact .fresh _ _ (a.but hb hx) (b.but hb hq) (c.but hb hg) d e
  | pass _ _ a b c d e => exact .pass _ _ (a.but hb hx) (b.but hb hq) (c.but hb hg) d e
  | over a => exact .over (a.but hb hx)
theorem Rel.lt {w : World} {x q g ph : Nat} {who sv ow : Int} (h : Rel w x who sv ow q g ph) : x < w.heap.size ∧ q < w.heap.size ∧ g < w.heap.size := by
  cases h with
  | fresh _ _ a b c d e => exact ⟨a.lt, b.lt, c.lt⟩
  | pass _ _ a b c d e => exact ⟨a.lt, b.lt, c.lt⟩
  | over a => exact ⟨a.lt, a.lt, a.lt⟩
theorem Rel.next {w : World} {x q g ph : Nat} {who sv ow : Int} (h : Rel w x who sv ow q g ph) : ∃ nx, w.cell? ⟨x, 1, none⟩ = some (.pointer nx) ∧ nx.isNone = decide (ph = 2) := by
  cases h with
  | fresh _ _ a b c d e => exact ⟨_, a.cell 1 rfl, rfl⟩
  | pass _ _ a b c d e => exact ⟨_, a.cell 1 rfl, rfl⟩
  | over a => exact ⟨_, a.cell 1 rfl, rfl⟩
def relS (who sv ow : Int) (n ph : Nat) (s : St) : St := if ph = 0 then stp 2 who ow 0 0 n s else if ph = 1 then stp 4 who sv 0 1 n s else s
def relP (ph : Nat) : Nat := if ph = 0 then 1 else 2

def acqS (who tk sv ow : Int) (n ph : Nat) (s : St) : St := if ph = 0 then stp 4 who tk 0 1 n s else if ph = 1 then stp 1 who sv 0 0 n s else if ph = 2 then stp 2 who ow 0 (who + 1) n s else s
def acqP (tk sv : Int) (n ph : Nat) (t : Int) (s : St) : Nat := if ph = 0 then 1 else if ph = 1 then (if ans 1 sv 0 0 n s = t then 2 else 1) else 3
def acqT (tk : Int) (n ph : Nat) (t : Int) (s : St) : Int := if ph = 0 then turnOf (ans 4 tk 0 1 n s) else t

theorem ans_add_bd (i new : Int) (n : Nat) (s : St) : 0 ≤ ans 4 i 0 new n s ∧ ans 4 i 0 new n s ≤ 4294967295 := by
  unfold ans
  split
  · simp only [show ((4 : Int) = 1) = False by simp, show ((4 : Int) = 3) = False by simp, if_true, if_false]; omega
  · omega

/-- How a step of a machine leaves memory and heap. -/
structure Went (w w' : World) (A : Option Addr) (cp cm b n : Nat) (s' : St) (x : Nat) : Prop where
  mem : Is w' 114 A cp cm b n s'
  but : But [cm, b, x] w w'
theorem Went.of {w W w' : World} {A : Option Addr} {cp cm b n : Nat} {s' : St} {x : Nat} {u : Value} (hI : Is W 114 A cp cm b n s') (hB : But [cm, b] w W) (hB2 : But [x] (W.setCell ⟨x, 1, none⟩ u) w') (h1 : x ≠ cm) (h2 : x ≠ b) : Went w w' A cp cm b n s' x := by
  have hk : Is (W.setCell ⟨x, 1, none⟩ u) 114 A cp cm b n s' := hI.keep (by rw [size_set]; exact Nat.le_refl _) (heap_set_ne _ (Ne.symm h1) _ _) (fun _ => heap_set_ne _ (Ne.symm h2) _ _)
  exact ⟨hk.but hB2 (by simpa using Ne.symm h1) (by simpa using Ne.symm h2), ((hB.more (l' := [cm, b, x]) (by intro k _ hk; simp at hk ⊢; omega)).set (g := x) (.inl (by simp)) _ _).trans (hB2.more (by intro k _ hk; simp at hk ⊢; omega))⟩
theorem Went.still {w W : World} {A : Option Addr} {cp cm b n : Nat} {s' : St} {x : Nat} {u : Value} (hI : Is W 114 A cp cm b n s') (hB : But [cm, b] w W) (h1 : x ≠ cm) (h2 : x ≠ b) : Went w (W.setCell ⟨x, 1, none⟩ u) A cp cm b n s' x :=
  Went.of hI hB (But.refl _ _) h1 h2

section
variable (w : World) (A : Option Addr) (cp cm b n : Nat) (s : St) (hI : Is w 114 A cp cm b n s) (hn : n ≤ 1000000) (hl : Low s 1000000)
include hI hn hl

/-- A step of a machine at which an access is to come, and a function is to follow. -/
theorem step_acc (x q K : Nat) (cs first cap : Array Value) (T : TypeId) (k who ao i old new : Int) (d asl asked : Bool) (Post : Option Addr → World → Prop) (hx : Blk w x cs T) (h0 : cs[0]? = some (.int .i64 who)) (h1 : cs[1]? = some (.pointer (some ⟨q, 0, none⟩)))
    (hq : Blk w q (comCells k ao i old new d .nilIface (.func (.func K) first cap) asl asked) 148) (hne : q ≠ x) (hk : 1 ≤ k ∧ k ≤ 4) (hnb : 0 ≤ new ∧ new ≤ 18446744073709551615) (hxc : x ≠ cm) (hxb : x ≠ b) (hqc : q ≠ cm) (hqb : q ≠ b)
    (hent : ∀ w, (callFunc K (first.push (.int .u64 (actA k i old new n s)) ++ cap)).run Tryz.prog w = .ok (.enter K (first.push (.int .u64 (actA k i old new n s)) ++ cap)) w)
    (hthen : ∀ W, Is W 114 A cp cm b n (actS k who i old new n s) → But [cm, b] w W → Blk W x cs T → Calls Tryz.prog K (first.push (.int .u64 (actA k i old new n s)) ++ cap) (W.setCell ⟨x, 1, none⟩ (.pointer none)) fun e w' => (∃ v, e = .returned v) ∧ ∃ nx, w'.cell? ⟨x, 1, none⟩ = some (.pointer nx) ∧ Post nx w') :
    Calls Tryz.prog 52 #[.pointer (some ⟨x, 0, none⟩), .pointer (some ⟨cm, 0, none⟩)] w fun e w' => ∃ z, e = .returned (.bool z) ∧ ∃ nx, z = nx.isNone ∧ Post nx w' := by
  have hA := act_any w A cp cm b n s q k who ao i old new d _ asl asked hk hI hn hl hnb hq
  refine (step_over w x q cm K cs first cap T who (actA k i old new n s) (comCells k ao i old new d .nilIface (.func (.func K) first cap) asl asked) (fun W => Is W 114 A cp cm b n (actS k who i old new n s) ∧ But [cm, b] w W) Post hx h0 h1 hne hA hent rfl ?_).mono ?_
  · rintro W ⟨hM, hB⟩
    have hx1 := hx.but hB (by simp [hxc, hxb])
    exact ⟨hx1, hq.but hB (by simp [hqc, hqb]), hthen W hM hB hx1⟩
  · rintro e w' ⟨nx, rfl, hP⟩
    exact ⟨_, rfl, nx, rfl, hP⟩

/-- A step of a machine at which an access is to come, and nothing is to follow. -/
theorem step_last (x q g : Nat) (cs : Array Value) (T : TypeId) (k who ao i old new : Int) (d asl asked : Bool) (hx : Blk w x cs T) (h0 : cs[0]? = some (.int .i64 who)) (h1 : cs[1]? = some (.pointer (some ⟨q, 0, none⟩)))
    (hq : Blk w q (comCells k ao i old new d .nilIface (.func (.func 110) #[] #[.pointer (some ⟨g, 0, none⟩)]) asl asked) 148) (hg : Blk w g #[.nilFunc] 1) (hne : q ≠ x) (hge : g ≠ x) (hk : 1 ≤ k ∧ k ≤ 4) (hnb : 0 ≤ new ∧ new ≤ 18446744073709551615) (hxc : x ≠ cm) (hxb : x ≠ b) (hqc : q ≠ cm) (hqb : q ≠ b) (hgc : g ≠ cm) (hgb : g ≠ b) :
    Calls Tryz.prog 52 #[.pointer (some ⟨x, 0, none⟩), .pointer (some ⟨cm, 0, none⟩)] w fun e w' => ∃ z, e = .returned (.bool z) ∧ z = true ∧ Blk w' x (cs.setIfInBounds 1 (.pointer none)) T ∧ Went w w' A cp cm b n (actS k who i old new n s) x := by
  have hs : 1 < cs.size := by
    rcases Nat.lt_or_ge 1 cs.size with h | h
    · exact h
    · rw [Array.getElem?_eq_none h] at h1; cases h1
  refine (step_acc w A cp cm b n s hI hn hl x q 110 cs #[] #[.pointer (some ⟨g, 0, none⟩)] T k who ao i old new d asl asked (fun nx w' => nx = none ∧ Blk w' x (cs.setIfInBounds 1 (.pointer none)) T ∧ Went w w' A cp cm b n (actS k who i old new n s) x) hx h0 h1 hq hne hk hnb hxc hxb hqc hqb (fun w => ent110 _ w) ?_).mono ?_
  · intro W hM hB hx1
    refine (run_untold_nil _ g _ ((hg.but hB (by simp [hgc, hgb])).setne hge 1 _)).mono ?_
    rintro e w' ⟨hv, rfl⟩
    have hx2 := hx1.set 1 (.pointer none)
    exact ⟨hv, none, hx2.cell 1 (by simp [hs]), rfl, hx2, Went.still hM hB hxc hxb⟩
  · rintro e w' ⟨z, rfl, nx, rfl, rfl, h3, h4⟩
    exact ⟨true, rfl, rfl, h3, h4⟩

theorem acq_goes (x q g ph : Nat) (who tk sv ow t : Int) (hw : 0 ≤ who ∧ who ≤ 1000000) (h : Acq w x who tk sv ow q g ph t) (hxc : x ≠ cm) (hxb : x ≠ b) (hqc : q ≠ cm) (hqb : q ≠ b) (hgc : g ≠ cm) (hgb : g ≠ b) :
    Calls Tryz.prog 244 #[.pointer (some ⟨x, 0, none⟩), .pointer (some ⟨cm, 0, none⟩)] w fun e w' => ∃ q' g', e = .returned (.bool (decide (acqP tk sv n ph t s = 3))) ∧ Acq w' x who tk sv ow q' g' (acqP tk sv n ph t s) (acqT tk n ph t s) ∧ Went w w' A cp cm b n (acqS who tk sv ow n ph s) x ∧ (q' = x ∨ w.heap.size ≤ q') ∧ (g' = x ∨ w.heap.size ≤ g') := by
  cases h with
  | fresh _ hx hq hne =>
    have hbd := ans_add_bd tk 1 n s
    refine (acq_step _ x _ _ (step_acc w A cp cm b n s hI hn hl x q 137 _ #[.pointer (some ⟨x, 0, none⟩)] #[] 188 4 who 0 tk 0 1 false false false (fun nx w' => ∃ q', nx = some ⟨q', 0, none⟩ ∧ Acq w' x who tk sv ow q' x 1 (turnOf (ans 4 tk 0 1 n s)) ∧ Went w w' A cp cm b n (stp 4 who tk 0 1 n s) x ∧ w.heap.size ≤ q') hx rfl rfl hq hne (by omega) (by omega) hxc hxb hqc hqb (fun w => ent137 _ w) ?_)).mono ?_
    · intro W hM hB hx1
      refine (draw_any _ x who sv ow 0 (ans 4 tk 0 1 n s) none false (hx1.set 1 (.pointer none)) ⟨hbd.1, by have := hbd.2; omega⟩).mono ?_
      rintro e w' ⟨hv, q', hC⟩
      have hf := hC.fresh
      rw [size_set] at hf
      have hlt := hx1.lt
      exact ⟨hv, _, hC.own.cell 1 rfl, q', rfl, .wait q' _ hC.own hC.com (by omega), Went.of hM hB hC.but hxc hxb, Nat.le_trans hB.size hf⟩
    · rintro e w' ⟨z, rfl, nx, rfl, q', rfl, h1, h2, h3⟩
      exact ⟨q', x, rfl, h1, h2, .inr h3, .inl rfl⟩
  | wait _ _ hx hq hne =>
    by_cases ht : ans 1 sv 0 0 n s = t
    · have eP : acqP tk sv n 1 t s = 2 := by simp [acqP, ht]
      rw [eP]
      refine (acq_step _ x _ _ (step_acc w A cp cm b n s hI hn hl x q 143 _ #[.pointer (some ⟨x, 0, none⟩)] #[] 188 1 who 0 sv 0 0 false false false (fun nx w' => ∃ q' g', nx = some ⟨q', 0, none⟩ ∧ Acq w' x who tk sv ow q' g' 2 t ∧ Went w w' A cp cm b n (stp 1 who sv 0 0 n s) x ∧ w.heap.size ≤ q' ∧ w.heap.size ≤ g') hx rfl rfl hq hne (by omega) (by omega) hxc hxb hqc hqb (fun w => ent143 _ w) ?_)).mono ?_
      · intro W hM hB hx1
        refine Calls.mono (show Calls Tryz.prog 143 #[.pointer (some ⟨x, 0, none⟩), .int .u64 (ans 1 sv 0 0 n s)] _ _ by rw [ht]; exact serve_has _ x who sv ow t none true (hx1.set 1 (.pointer none)) hw) ?_
        rintro e w' ⟨hv, q', g', hC⟩
        have hf := hC.at'.fresh
        have hg := hC.fresh
        rw [size_set] at hf hg
        have hlt := hx1.lt
        exact ⟨hv, _, hC.at'.own.cell 1 rfl, q', g', rfl, .has q' g' _ hC.at'.own hC.at'.com hC.box (by omega) (by omega), Went.of hM hB hC.at'.but hxc hxb, Nat.le_trans hB.size hf, Nat.le_trans hB.size hg⟩
      · rintro e w' ⟨z, rfl, nx, rfl, q', g', rfl, h1, h2, h3, h4⟩
        exact ⟨q', g', rfl, h1, h2, .inr h3, .inr h4⟩
    · have eP : acqP tk sv n 1 t s = 1 := by simp [acqP, ht]
      rw [eP]
      refine (acq_step _ x _ _ (step_acc w A cp cm b n s hI hn hl x q 143 _ #[.pointer (some ⟨x, 0, none⟩)] #[] 188 1 who 0 sv 0 0 false false false (fun nx w' => ∃ q', nx = some ⟨q', 0, none⟩ ∧ Acq w' x who tk sv ow q' x 1 t ∧ Went w w' A cp cm b n (stp 1 who sv 0 0 n s) x ∧ w.heap.size ≤ q') hx rfl rfl hq hne (by omega) (by omega) hxc hxb hqc hqb (fun w => ent143 _ w) ?_)).mono ?_
      · intro W hM hB hx1
        refine (serve_not _ x who sv ow t (ans 1 sv 0 0 n s) none true (hx1.set 1 (.pointer none)) ht).mono ?_
        rintro e w' ⟨hv, q', hC⟩
        have hf := hC.fresh
        rw [size_set] at hf
        have hlt := hx1.lt
        exact ⟨hv, _, hC.own.cell 1 rfl, q', rfl, .wait q' _ hC.own hC.com (by omega), Went.of hM hB hC.but hxc hxb, Nat.le_trans hB.size hf⟩
      · rintro e w' ⟨z, rfl, nx, rfl, q', rfl, h1, h2, h3⟩
        exact ⟨q', x, rfl, h1, h2, .inr h3, .inl rfl⟩
  | has _ _ _ hx hq hg hne hge =>
    refine (acq_step _ x _ _ (step_last w A cp cm b n s hI hn hl x q g _ 188 2 who 0 ow 0 (who + 1) false false false hx rfl rfl hq hg hne hge (by omega) (by omega) hxc hxb hqc hqb hgc hgb)).mono ?_
    rintro e w' ⟨z, rfl, rfl, h1, h2⟩
    exact ⟨x, x, rfl, .over _ h1, h2, .inl rfl, .inl rfl⟩
  | over _ hx =>
    refine (acq_step _ x _ (fun z w' => z = true ∧ w = w') ((step_none w x cm (hx.cell 1 rfl)).mono ?_)).mono ?_
    · rintro e w' ⟨rfl, rfl⟩; exact ⟨true, rfl, rfl, rfl⟩
    · rintro e w' ⟨z, rfl, rfl, rfl⟩
      exact ⟨x, x, rfl, .over _ hx, ⟨hI, But.refl _ _⟩, .inl rfl, .inl rfl⟩

theorem rel_goes (x q g ph : Nat) (who sv ow : Int) (h : Rel w x who sv ow q g ph) (hxc : x ≠ cm) (hxb : x ≠ b) (hqc : q ≠ cm) (hqb : q ≠ b) (hgc : g ≠ cm) (hgb : g ≠ b) :
    Calls Tryz.prog 246 #[.pointer (some ⟨x, 0, none⟩), .pointer (some ⟨cm, 0, none⟩)] w fun e w' => ∃ q' g', e = .returned (.bool (decide (relP ph = 2))) ∧ Rel w' x who sv ow q' g' (relP ph) ∧ Went w w' A cp cm b n (relS who sv ow n ph s) x ∧ (q' = x ∨ w.heap.size ≤ q') ∧ (g' = x ∨ w.heap.size ≤ g') := by
  cases h with
  | fresh _ _ hx hq hg hne hge =>
    refine (rel_step _ x _ _ (step_acc w A cp cm b n s hI hn hl x q 110 _ #[] #[.pointer (some ⟨g, 0, none⟩)] 196 2 who 0 ow 0 0 false false false (fun nx w' => ∃ q' g', nx = some ⟨q', 0, none⟩ ∧ Rel w' x who sv ow q' g' 1 ∧ Went w w' A cp cm b n (stp 2 who ow 0 0 n s) x ∧ w.heap.size ≤ q' ∧ w.heap.size ≤ g') hx rfl rfl hq hne (by omega) (by omega) hxc hxb hqc hqb (fun w => ent110 _ w) ?_)).mono ?_
    · intro W hM hB hx1
      refine (run_untold _ g 150 _ #[.pointer (some ⟨x, 0, none⟩)] #[] (fun w' => ∃ nx, w'.cell? ⟨x, 1, none⟩ = some (.pointer nx) ∧ ∃ q' g', nx = some ⟨q', 0, none⟩ ∧ Rel w' x who sv ow q' g' 1 ∧ Went w w' A cp cm b n (stp 2 who ow 0 0 n s) x ∧ w.heap.size ≤ q' ∧ w.heap.size ≤ g') ((hg.but hB (by simp [hgc, hgb])).setne hge 1 _) (fun w => ent150 _ w) ?_)
      refine (pass_any _ x who sv none (hx1.set 1 (.pointer none))).mono ?_
      rintro e w' ⟨hv, q', g', hC⟩
      have hf := hC.at'.fresh
      have hg := hC.fresh
      rw [size_set] at hf hg
      have hlt := hx1.lt
      exact ⟨hv, _, hC.at'.own.cell 1 rfl, q', g', rfl, .pass q' g' hC.at'.own hC.at'.com hC.box (by omega) (by omega), Went.of hM hB hC.at'.but hxc hxb, Nat.le_trans hB.size hf, Nat.le_trans hB.size hg⟩
    · rintro e w' ⟨z, rfl, nx, rfl, q', g', rfl, h1, h2, h3, h4⟩
      exact ⟨q', g', rfl, h1, h2, .inr h3, .inr h4⟩
  | pass _ _ hx hq hg hne hge =>
    refine (rel_step _ x _ _ (step_last w A cp cm b n s hI hn hl x q g _ 196 4 who 0 sv 0 1 false false false hx rfl rfl hq hg hne hge (by omega) (by omega) hxc hxb hqc hqb hgc hgb)).mono ?_
    rintro e w' ⟨z, rfl, rfl, h1, h2⟩
    exact ⟨x, x, rfl, .over h1, h2, .inl rfl, .inl rfl⟩
  | over hx =>
    refine (rel_step _ x _ (fun z w' => z = true ∧ w = w') ((step_none w x cm (hx.cell 1 rfl)).mono ?_)).mono ?_
    · rintro e w' ⟨rfl, rfl⟩; exact ⟨true, rfl, rfl, rfl⟩
    · rintro e w' ⟨z, rfl, rfl, rfl⟩
      exact ⟨x, x, rfl, .over hx, ⟨hI, But.refl _ _⟩, .inl rfl, .inl rfl⟩
end
end Go.Proofs.YthjfbknmdligeaaGreat

namespace Go.Proofs.YthjfbknmdligeaaGreat
open Go Go.RowKit
set_option linter.unusedVariables false
set_option maxRecDepth 100000
set_option linter.unusedSimpArgs false

theorem ans_peek (i : Int) (n : Nat) (s : St) : ans 1 i 0 0 n s = peekT n s i := by
  unfold ans peekT
  split <;> simp

section
variable (w : World) (A : Option Addr) (cp cm b n : Nat) (s : St) (hI : Is w 114 A cp cm b n s) (hn : n ≤ 1000000) (hl : Low s 1000000)
include hI hn

section
variable (x q K : Nat) (cs first cap : Array Value) (T : TypeId) (who ao i old new : Int) (d asl asked : Bool) (hx : Blk w x cs T) (h0 : cs[0]? = some (.int .i64 who)) (h1 : cs[1]? = some (.pointer (some ⟨q, 0, none⟩)))
    (hq : Blk w q (comCells 0 ao i old new d .nilIface (.func (.func K) first cap) asl asked) 148) (hne : q ≠ x) (hxc : x ≠ cm) (hxb : x ≠ b) (hqc : q ≠ cm) (hqb : q ≠ b)
include hx h0 h1 hq hne hxc hxb hqc hqb

/-- A step of a machine that sleeps at a word that is not 0: what follows follows. -/
theorem step_wake (hl : Low s 1000000) (hv : peekT n s i ≠ 0) (Post : Option Addr → World → Prop)
    (hent : ∀ w, (callFunc K (first.push (.int .u64 (peekT n s i)) ++ cap)).run Tryz.prog w = .ok (.enter K (first.push (.int .u64 (peekT n s i)) ++ cap)) w)
    (hthen : ∀ W, Is W 114 A cp cm b n (stp 1 who i 0 0 n s) → But [cm, b, q] w W → Blk W x cs T → Calls Tryz.prog K (first.push (.int .u64 (peekT n s i)) ++ cap) (W.setCell ⟨x, 1, none⟩ (.pointer none)) fun e w' => (∃ v, e = .returned v) ∧ ∃ nx, w'.cell? ⟨x, 1, none⟩ = some (.pointer nx) ∧ Post nx w') :
    Calls Tryz.prog 52 #[.pointer (some ⟨x, 0, none⟩), .pointer (some ⟨cm, 0, none⟩)] w fun e w' => ∃ z, e = .returned (.bool z) ∧ ∃ nx, z = nx.isNone ∧ Post nx w' := by
  have hA := act_sleep w A cp cm b n s q 0 who ao i old new d _ asl asked hI hn hq rfl hl hqc hqb (by simp [hv])
  rw [ans_peek, decide_eq_true hv, decide_eq_false hv] at hA
  refine (step_over w x q cm K cs first cap T who (peekT n s i) (comCells 0 ao i old new d .nilIface (.func (.func K) first cap) false asked) (fun W => Is W 114 A cp cm b n (stp 1 who i 0 0 n s) ∧ Blk W q (comCells 0 ao i old new d .nilIface (.func (.func K) first cap) false asked) 148 ∧ But [cm, b, q] w W) Post hx h0 h1 hne hA hent rfl ?_).mono ?_
  · rintro W ⟨hM, hQ, hB⟩
    have hx1 := hx.but hB (by simp [hxc, hxb, Ne.symm hne])
    exact ⟨hx1, hQ, hthen W hM hB hx1⟩
  · rintro e w' ⟨nx, rfl, hP⟩
    exact ⟨_, rfl, nx, rfl, hP⟩
/-- .. at a word that is 0, for the first time. -/
theorem step_doze (hl : Low s 1000000) (hv : peekT n s i = 0) (ha : asl = false) :
    Calls Tryz.prog 52 #[.pointer (some ⟨x, 0, none⟩), .pointer (some ⟨cm, 0, none⟩)] w fun e w' => e = .returned (.bool false) ∧ Is w' 114 A cp cm b n (stp 1 who i 0 0 n s) ∧ Blk w' q (comCells 0 ao i old new d .nilIface (.func (.func K) first cap) true asked) 148 ∧ But [cm, b, q] w w' := by
  have hA := act_sleep w A cp cm b n s q 0 who ao i old new d _ asl asked hI hn hq rfl hl hqc hqb (by simp [ha])
  rw [ans_peek, hv] at hA
  exact step_on w x q cm cs T who 0 (fun w' => Is w' 114 A cp cm b n (stp 1 who i 0 0 n s) ∧ Blk w' q (comCells 0 ao i old new d .nilIface (.func (.func K) first cap) true asked) 148 ∧ But [cm, b, q] w w') hx h0 h1 hA (fun W hM => hx.but hM.2.2 (by simp [hxc, hxb, Ne.symm hne]))
omit hne hxc hxb hqc hqb in
/-- .. that is 0 still. -/
theorem step_still (hv : peekT n s i = 0) (ha : asl = true) :
    Calls Tryz.prog 52 #[.pointer (some ⟨x, 0, none⟩), .pointer (some ⟨cm, 0, none⟩)] w fun e w' => e = .returned (.bool false) ∧ Below w.heap.size w w' :=
  step_on w x q cm cs T who 0 (fun w' => Below w.heap.size w w') hx h0 h1 (act_still w A cp cm b n s q 0 who ao i old new d _ asl asked hI hn hq rfl ha hv) (fun W hM => hx.but (But.of_below (l := []) hM) (by simp))
end
end
end Go.Proofs.YthjfbknmdligeaaGreat

namespace Go.Proofs.YthjfbknmdligeaaGreat
open Go Go.RowKit
set_option linter.unusedVariables false
set_option maxRecDepth 100000
set_option linter.unusedSimpArgs false


/-- The cells of a machine that looks at a ring. -/
def lookCells (who : Int) (nx : Option Addr) (cl : Nat) (p hd tl nt : Int) (em : Bool) : Array Value := #[.int .i64 who, .pointer nx, .pointer (some ⟨cl, 0, none⟩), .int .i64 p, .int .u64 hd, .int .u64 tl, .int .u64 nt, .bool em]

theorem layproc_any (o : Option Addr) (P T G n f : Int) (w : World) (h : LayO w P T G o) (hp : 0 ≤ P ∧ P ≤ 64) (hf : 0 ≤ f ∧ f < 8) : Calls Tryz.prog 111 #[.pointer o, .int .i64 n, .int .i64 f] w fun e w' => e = .returned (.int .i64 (wd 20 P 264 n f)) ∧ Below w.heap.size w w' := by
  have HL : Hid _ := h
  have d1 : decide (8 ≤ f) = false := decide_eq_false (by omega)
  clear h
  go_enter Tryz.func111, Tryz.ntmps111
  go_wp2_with fail
  go_at_call 81; refine (procs_any o P T G _ HL.out).mono ?_; rintro e w1 ⟨rfl, h1⟩
  go_wp2_with fail
  go_at_call 59; refine (word_any 20 P 264 n f _ (by omega) (by omega) (by omega)).mono ?_; rintro e w2 ⟨rfl, h2⟩
  have hb := seq h1 h2
  go_wp2_with fail
  go_ret
  exact ⟨rfl, hb⟩

theorem look_load (w : World) (x cl K : Nat) (P T G who p hd tl nt f : Int) (nx : Option Addr) (em : Bool) (first cap : Array Value) (h : Blk w x (lookCells who nx cl p hd tl nt em) 181) (hL : Lay w cl P T G) (hp : 0 ≤ P ∧ P ≤ 64) (hf : 0 ≤ f ∧ f < 8) :
    Calls Tryz.prog 122 #[.pointer (some ⟨x, 0, none⟩), .int .i64 f, .func (.func K) first cap] w fun e w' => (∃ v, e = .returned v) ∧ ∃ q, CameAt w w' x (lookCells who nx cl p hd tl nt em) 181 (comCells 1 0 (wd 20 P 264 p f) 0 0 false .nilIface (.func (.func K) first cap) false false) q := by
  have c2 := h.cell 2 (v := .pointer (some ⟨cl, 0, none⟩)) rfl
  have c3 := h.cell 3 (v := .int .i64 p) rfl
  have hLd : Lay w.drew cl P T G := hL
  have hP := layproc_any (some ⟨cl, 0, none⟩) P T G p f w.drew (.some cl hLd) hp hf
  have HX : Hid (Blk w x (lookCells who nx cl p hd tl nt em) 181) := h
  generalize wd 20 P 264 p f = i at *
  clear h hL
  go_enter Tryz.func122, Tryz.ntmps122
  go_wp2_with fail
  go_region_with (first | (go_at_call 111; refine hP.mono ?_; rintro e w4 ⟨rfl, h4⟩; have h5 : Blk w4 x (lookCells who nx cl p hd tl nt em) 181 := HX.out.drew.but (But.of_below (l := []) h4) (by simp)) | (go_at_call 83; refine (load_come w4 x _ 181 i h5 (by simp [lookCells]) K first cap).mono ?_; rintro e w5 ⟨⟨v2, rfl⟩, q, hC⟩))
  all_goals
    have hq := hC.fresh
    have hsz := h4.size
    have hB : But [x] w w5 := ((But.refl [x] w).drew.trans (But.of_below (l := [x]) h4)).trans hC.but
    have h1 := hC.own
    have h2 := hC.com
    clear hP h5 hC c2 c3 h4
    go_wp2_with fail
    go_end0
    exact ⟨⟨_, rfl⟩, q, Nat.le_trans hsz hq, h1, h2, hB⟩

end Go.Proofs.YthjfbknmdligeaaGreat

namespace Go.Proofs.YthjfbknmdligeaaGreat
open Go Go.RowKit
set_option linter.unusedVariables false
set_option maxRecDepth 100000
set_option linter.unusedSimpArgs false


theorem look_new (w : World) (cl : Nat) (P T G who p : Int) (hL : Lay w cl P T G) (hp : 0 ≤ P ∧ P ≤ 64) :
    Calls Tryz.prog 118 #[.pointer (some ⟨cl, 0, none⟩), .int .i64 who, .int .i64 p] w fun e w' => ∃ x q, e = .returned (.pointer (some ⟨x, 0, none⟩)) ∧ Blk w' x (lookCells who (some ⟨q, 0, none⟩) cl p 0 0 0 false) 181 ∧ Blk w' q (comCells 1 0 (wd 20 P 264 p 1) 0 0 false .nilIface (.func (.func 123) #[.pointer (some ⟨x, 0, none⟩)] #[]) false false) 148 ∧ Below w.heap.size w w' ∧ w.heap.size ≤ x ∧ x < q := by
  have hB := Blk.new w (lookCells 0 none cl p 0 0 0 false) 181
  have hF := fof_any _ w.heap.size _ 181 who hB (by simp [lookCells])
  have hb0 : Below w.heap.size w (w.alloc (.cells (lookCells 0 none cl p 0 0 0 false) 181)) := (Below.refl _ _).alloc (Nat.le_refl _) _
  have HL : Hid (Lay w cl P T G) := hL
  have hlt := hL.lt
  clear hL
  go_enter Tryz.func118, Tryz.ntmps118
  go_wp2_with fail
  go_at_call 38; refine hF.mono ?_; rintro e w3 ⟨⟨v, rfl⟩, hw3⟩
  have h3 : Blk w3 w.heap.size (lookCells who none cl p 0 0 0 false) 181 := by rw [hw3]; exact hB.set 0 _
  have hb3 : Below w.heap.size w w3 := by rw [hw3]; exact hb0.setCell (p := ⟨w.heap.size, 0, none⟩) (Nat.le_refl _) _
  have hL3 : Lay w3 cl P T G := HL.out.below hb3 hlt
  have hN := look_load w3 w.heap.size cl 123 P T G who p 0 0 0 1 none false #[.pointer (some ⟨w.heap.size, 0, none⟩)] #[] h3 hL3 hp (by omega)
  have hx3 := h3.lt
  clear hF hB hw3 hb0 HL hL3 h3
  go_wp2_with fail
  go_at_call 122; refine hN.mono ?_; rintro e w5 ⟨⟨v2, rfl⟩, q, hC⟩
  have h1 := hC.own
  have h2 := hC.com
  have hq := hC.fresh
  have hb5 : Below w.heap.size w w5 := hb3.trans (hC.but.below (by simp) hb3.size)
  clear hN hC
  go_wp2_with fail
  go_ret
  exact ⟨_, q, rfl, h1, h2, hb5, Nat.le_refl _, by omega⟩


theorem seeHead_any (w : World) (x cl : Nat) (P T G who p hd tl nt a : Int) (nx : Option Addr) (em : Bool) (h : Blk w x (lookCells who nx cl p hd tl nt em) 181) (hL : Lay w cl P T G) (hne : cl ≠ x) (hp : 0 ≤ P ∧ P ≤ 64) :
    Calls Tryz.prog 123 #[.pointer (some ⟨x, 0, none⟩), .int .u64 a] w fun e w' => (∃ v, e = .returned v) ∧ ∃ q, CameAt w w' x (lookCells who nx cl p a tl nt em) 181 (comCells 1 0 (wd 20 P 264 p 2) 0 0 false .nilIface (.func (.func 128) #[.pointer (some ⟨x, 0, none⟩)] #[]) false false) q := by
  have c := h.cell 4 (v := .int .u64 hd) rfl
  have f := h.fro 4
  have hs : Blk (w.setCell ⟨x, 4, none⟩ (.int .u64 a)) x (lookCells who nx cl p a tl nt em) 181 := h.set 4 (.int .u64 a)
  have hB : But [x] w (w.setCell ⟨x, 4, none⟩ (.int .u64 a)) := (But.refl _ w).set (g := x) (.inl (by simp)) 4 _
  have hL2 : Lay (w.setCell ⟨x, 4, none⟩ (.int .u64 a)) cl P T G := (heap_set_ne w hne _ _).trans hL
  have hN := look_load _ x cl 128 P T G who p a tl nt 2 nx em #[.pointer (some ⟨x, 0, none⟩)] #[] hs hL2 hp (by omega)
  have HB : Hid _ := hB
  clear h hL hs hL2 hB
  go_enter Tryz.func123, Tryz.ntmps123
  go_wp2_with fail
  go_at_call 122; refine hN.mono ?_; rintro e w5 ⟨⟨v2, rfl⟩, q, hC⟩
  have hC2 : CameAt w w5 x (lookCells who nx cl p a tl nt em) 181 (comCells 1 0 (wd 20 P 264 p 2) 0 0 false .nilIface (.func (.func 128) #[.pointer (some ⟨x, 0, none⟩)] #[]) false false) q := ⟨Nat.le_trans HB.out.size hC.fresh, hC.own, hC.com, HB.out.trans hC.but⟩
  clear hN hC c f HB
  go_wp2_with fail
  go_end0
  exact ⟨⟨_, rfl⟩, q, hC2⟩

theorem seeTail_any (w : World) (x cl : Nat) (P T G who p hd tl nt a : Int) (nx : Option Addr) (em : Bool) (h : Blk w x (lookCells who nx cl p hd tl nt em) 181) (hL : Lay w cl P T G) (hne : cl ≠ x) (hp : 0 ≤ P ∧ P ≤ 64) :
    Calls Tryz.prog 128 #[.pointer (some ⟨x, 0, none⟩), .int .u64 a] w fun e w' => (∃ v, e = .returned v) ∧ ∃ q, CameAt w w' x (lookCells who nx cl p hd a nt em) 181 (comCells 1 0 (wd 20 P 264 p 3) 0 0 false .nilIface (.func (.func 132) #[.pointer (some ⟨x, 0, none⟩)] #[]) false false) q := by
  have c := h.cell 5 (v := .int .u64 tl) rfl
  have f := h.fro 5
  have hs : Blk (w.setCell ⟨x, 5, none⟩ (.int .u64 a)) x (lookCells who nx cl p hd a nt em) 181 := h.set 5 (.int .u64 a)
  have hB : But [x] w (w.setCell ⟨x, 5, none⟩ (.int .u64 a)) := (But.refl _ w).set (g := x) (.inl (by simp)) 5 _
  have hL2 : Lay (w.setCell ⟨x, 5, none⟩ (.int .u64 a)) cl P T G := (heap_set_ne w hne _ _).trans hL
  have hN := look_load _ x cl 132 P T G who p hd a nt 3 nx em #[.pointer (some ⟨x, 0, none⟩)] #[] hs hL2 hp (by omega)
  have HB : Hid _ := hB
  clear h hL hs hL2 hB
  go_enter Tryz.func128, Tryz.ntmps128
  go_wp2_with fail
  go_at_call 122; refine hN.mono ?_; rintro e w5 ⟨⟨v2, rfl⟩, q, hC⟩
  have hC2 : CameAt w w5 x (lookCells who nx cl p hd a nt em) 181 (comCells 1 0 (wd 20 P 264 p 3) 0 0 false .nilIface (.func (.func 132) #[.pointer (some ⟨x, 0, none⟩)] #[]) false false) q := ⟨Nat.le_trans HB.out.size hC.fresh, hC.own, hC.com, HB.out.trans hC.but⟩
  clear hN hC c f HB
  go_wp2_with fail
  go_end0
  exact ⟨⟨_, rfl⟩, q, hC2⟩

theorem seeNext_any (w : World) (x cl : Nat) (P T G who p hd tl nt a : Int) (nx : Option Addr) (em : Bool) (h : Blk w x (lookCells who nx cl p hd tl nt em) 181) (hL : Lay w cl P T G) (hne : cl ≠ x) (hp : 0 ≤ P ∧ P ≤ 64) :
    Calls Tryz.prog 132 #[.pointer (some ⟨x, 0, none⟩), .int .u64 a] w fun e w' => (∃ v, e = .returned v) ∧ ∃ q, CameAt w w' x (lookCells who nx cl p hd tl a em) 181 (comCells 1 0 (wd 20 P 264 p 2) 0 0 false .nilIface (.func (.func 139) #[.pointer (some ⟨x, 0, none⟩)] #[]) false false) q := by
  have c := h.cell 6 (v := .int .u64 nt) rfl
  have f := h.fro 6
  have hs : Blk (w.setCell ⟨x, 6, none⟩ (.int .u64 a)) x (lookCells who nx cl p hd tl a em) 181 := h.set 6 (.int .u64 a)
  have hB : But [x] w (w.setCell ⟨x, 6, none⟩ (.int .u64 a)) := (But.refl _ w).set (g := x) (.inl (by simp)) 6 _
  have hL2 : Lay (w.setCell ⟨x, 6, none⟩ (.int .u64 a)) cl P T G := (heap_set_ne w hne _ _).trans hL
  have hN := look_load _ x cl 139 P T G who p hd tl a 2 nx em #[.pointer (some ⟨x, 0, none⟩)] #[] hs hL2 hp (by omega)
  have HB : Hid _ := hB
  clear h hL hs hL2 hB
  go_enter Tryz.func132, Tryz.ntmps132
  go_wp2_with fail
  go_at_call 122; refine hN.mono ?_; rintro e w5 ⟨⟨v2, rfl⟩, q, hC⟩
  have hC2 : CameAt w w5 x (lookCells who nx cl p hd tl a em) 181 (comCells 1 0 (wd 20 P 264 p 2) 0 0 false .nilIface (.func (.func 139) #[.pointer (some ⟨x, 0, none⟩)] #[]) false false) q := ⟨Nat.le_trans HB.out.size hC.fresh, hC.own, hC.com, HB.out.trans hC.but⟩
  clear hN hC c f HB
  go_wp2_with fail
  go_end0
  exact ⟨⟨_, rfl⟩, q, hC2⟩

theorem judge_any (w : World) (x cl : Nat) (who p hd tl nt a : Int) (nx : Option Addr) (em : Bool) (h : Blk w x (lookCells who nx cl p hd tl nt em) 181) :
    Calls Tryz.prog 139 #[.pointer (some ⟨x, 0, none⟩), .int .u64 a] w fun e w' => (∃ v, e = .returned v) ∧ Blk w' x (lookCells who nx cl p hd tl nt (decide (a = tl ∧ a = hd ∧ nt = 0))) 181 ∧ But [x] w w' := by
  have c4 := h.cell 4 (v := .int .u64 hd) rfl
  have c5 := h.cell 5 (v := .int .u64 tl) rfl
  have c6 := h.cell 6 (v := .int .u64 nt) rfl
  have c7 := h.cell 7 (v := .bool em) rfl
  have f7 := h.fro 7
  have H : ∀ z, Hid (Blk (w.setCell ⟨x, 7, none⟩ (.bool z)) x (lookCells who nx cl p hd tl nt z) 181 ∧ But [x] w (w.setCell ⟨x, 7, none⟩ (.bool z))) := fun z => ⟨h.set 7 (.bool z), (But.refl _ w).set (g := x) (.inl (by simp)) 7 _⟩
  have H2 : Hid (∀ z, z = decide (a = tl ∧ a = hd ∧ nt = 0) → Blk (w.setCell ⟨x, 7, none⟩ (.bool z)) x (lookCells who nx cl p hd tl nt (decide (a = tl ∧ a = hd ∧ nt = 0))) 181 ∧ But [x] w (w.setCell ⟨x, 7, none⟩ (.bool z))) := fun z e => by rw [← e]; exact (H z).out
  clear h H
  go_enter Tryz.func139, Tryz.ntmps139
  go_wp2_with fail
  all_goals
    go_end0
    exact ⟨⟨_, rfl⟩, H2.out _ (by rw [Bool.eq_iff_iff]; simp [*])⟩

end Go.Proofs.YthjfbknmdligeaaGreat

namespace Go.Proofs.YthjfbknmdligeaaGreat
open Go Go.RowKit
set_option linter.unusedVariables false
set_option maxRecDepth 100000
set_option linter.unusedSimpArgs false

theorem acqS_low {s : St} {m : Int} (h : Low s m) (who tk sv ow : Int) (n ph : Nat) : Low (acqS who tk sv ow n ph s) (m + 1) := by
  unfold acqS
  split
  · exact stp_low h _ _ _ _ _ _
  split
  · exact stp_low h _ _ _ _ _ _
  split
  · exact stp_low h _ _ _ _ _ _
  · exact h.more (by omega)
theorem relS_low {s : St} {m : Int} (h : Low s m) (who sv ow : Int) (n ph : Nat) : Low (relS who sv ow n ph s) (m + 1) := by
  unfold relS
  split
  · exact stp_low h _ _ _ _ _ _
  split
  · exact stp_low h _ _ _ _ _ _
  · exact h.more (by omega)

/-- A machine's blocks lie apart from the memory's. -/
structure Far (x q g cm b : Nat) : Prop where
  h : x ≠ cm ∧ x ≠ b ∧ q ≠ cm ∧ q ≠ b ∧ g ≠ cm ∧ g ≠ b
theorem Far.next {x q g cm b q' g' N : Nat} (h : Far x q g cm b) (hc : cm < N) (hb : b < N) (h1 : q' = x ∨ N ≤ q') (h2 : g' = x ∨ N ≤ g') : Far x q' g' cm b := by
  obtain ⟨a1, a2, a3, a4, a5, a6⟩ := h.h
  rcases h1 with rfl | h1 <;> rcases h2 with rfl | h2 <;> exact ⟨by omega, by omega, by omega, by omega, by omega, by omega⟩

theorem acq_on (w : World) (A : Option Addr) (cp cm b n : Nat) (s : St) (x q g ph : Nat) (who tk sv ow t : Int) (hI : Is w 114 A cp cm b n s) (hn : n ≤ 1000000) (hl : Low s 1000000) (hw : 0 ≤ who ∧ who ≤ 1000000) (h : Acq w x who tk sv ow q g ph t) (hf : Far x q g cm b) :
    Calls Tryz.prog 244 #[.pointer (some ⟨x, 0, none⟩), .pointer (some ⟨cm, 0, none⟩)] w fun e w' => ∃ q' g', e = .returned (.bool (decide (acqP tk sv n ph t s = 3))) ∧ Acq w' x who tk sv ow q' g' (acqP tk sv n ph t s) (acqT tk n ph t s) ∧ Is w' 114 A cp cm b n (acqS who tk sv ow n ph s) ∧ But [cm, b, x] w w' ∧ Far x q' g' cm b ∧ (q' = x ∨ w.heap.size ≤ q') ∧ (g' = x ∨ w.heap.size ≤ g') := by
  obtain ⟨a1, a2, a3, a4, a5, a6⟩ := hf.h
  refine (acq_goes w A cp cm b n s hI hn hl x q g ph who tk sv ow t hw h a1 a2 a3 a4 a5 a6).mono ?_
  rintro e w' ⟨q', g', rfl, h1, h2, h3, h4⟩
  exact ⟨q', g', rfl, h1, h2.mem, h2.but, hf.next hI.lt hI.bl h3 h4, h3, h4⟩
theorem rel_on (w : World) (A : Option Addr) (cp cm b n : Nat) (s : St) (x q g ph : Nat) (who sv ow : Int) (hI : Is w 114 A cp cm b n s) (hn : n ≤ 1000000) (hl : Low s 1000000) (h : Rel w x who sv ow q g ph) (hf : Far x q g cm b) :
    Calls Tryz.prog 246 #[.pointer (some ⟨x, 0, none⟩), .pointer (some ⟨cm, 0, none⟩)] w fun e w' => ∃ q' g', e = .returned (.bool (decide (relP ph = 2))) ∧ Rel w' x who sv ow q' g' (relP ph) ∧ Is w' 114 A cp cm b n (relS who sv ow n ph s) ∧ But [cm, b, x] w w' ∧ Far x q' g' cm b ∧ (q' = x ∨ w.heap.size ≤ q') ∧ (g' = x ∨ w.heap.size ≤ g') := by
  obtain ⟨a1, a2, a3, a4, a5, a6⟩ := hf.h
  refine (rel_goes w A cp cm b n s hI hn hl x q g ph who sv ow h a1 a2 a3 a4 a5 a6).mono ?_
  rintro e w' ⟨q', g', rfl, h1, h2, h3, h4⟩
  exact ⟨q', g', rfl, h1, h2.mem, h2.but, hf.next hI.lt hI.bl h3 h4, h3, h4⟩

theorem laid_ground {w w' : World} {P T G : Int} {n : Nat} {f : Nat → Int} {cl : Nat} {A A' : Option Addr} {cap cap' c b c' b' : Nat} (h : Laid w w' P T G n f cl A A' cap cap' c b c' b') : c < w'.heap.size ∧ b < w'.heap.size ∧ c' < w'.heap.size ∧ b' < w'.heap.size ∧ cl < w'.heap.size :=
  ⟨h.two.m.lt, h.two.m.bl, h.two.r.lt, h.two.r.bl, h.lay.lt⟩

/-- The page's example. -/
def ls0 : St := fresh (fun _ => 0)
def ls1 : St := acqS 1 3 4 5 292 0 ls0
def ls2 : St := acqS 1 3 4 5 292 1 ls1
def ls3 : St := acqS 1 3 4 5 292 2 ls2

end Go.Proofs.YthjfbknmdligeaaGreat

namespace Go.Proofs.YthjfbknmdligeaaGreat
open Go Go.RowKit
set_option linter.unusedVariables false
set_option maxRecDepth 100000
set_option linter.unusedSimpArgs false


theorem look_step (w : World) (x : Nat) (mv : Value) (M : Bool → World → Prop) (h : Calls Tryz.prog 52 #[.pointer (some ⟨x, 0, none⟩), mv] w fun e w' => ∃ z, e = .returned (.bool z) ∧ M z w') :
    Calls Tryz.prog 233 #[.pointer (some ⟨x, 0, none⟩), mv] w fun e w' => ∃ z, e = .returned (.bool z) ∧ M z w' := by
  go_enter Tryz.func233, Tryz.ntmps233
  go_wp2_with fail
  go_at_call 52; refine h.mono ?_; rintro e w1 ⟨z, rfl, h1⟩
  go_wp2_with fail
  go_ret
  exact ⟨z, rfl, h1⟩
theorem look_step_nil (w : World) (mv : Value) : Calls Tryz.prog 233 #[.pointer none, mv] w fun e w' => e = .returned (.bool true) ∧ w = w' := by
  go_enter Tryz.func233, Tryz.ntmps233
  go_wp2_with fail
  go_ret
  exact ⟨rfl, rfl⟩
theorem look_done (w : World) (x : Nat) (nx : Option Addr) (hc : w.cell? ⟨x, 1, none⟩ = some (.pointer nx)) :
    Calls Tryz.prog 232 #[.pointer (some ⟨x, 0, none⟩)] w fun e w' => e = .returned (.bool nx.isNone) ∧ w = w' := by
  have h := fdone_any w x nx hc
  go_enter Tryz.func232, Tryz.ntmps232
  go_wp2_with fail
  go_at_call 78; refine h.mono ?_; rintro e w1 ⟨rfl, rfl⟩
  go_wp2_with fail
  go_ret
  exact ⟨rfl, rfl⟩
theorem look_done_nil (w : World) : Calls Tryz.prog 232 #[.pointer none] w fun e w' => e = .returned (.bool true) ∧ w = w' := by
  go_enter Tryz.func232, Tryz.ntmps232
  go_wp2_with fail
  go_ret
  exact ⟨rfl, rfl⟩
theorem look_empty (w : World) (x : Nat) (em : Bool) (hc : w.cell? ⟨x, 7, none⟩ = some (.bool em)) :
    Calls Tryz.prog 125 #[.pointer (some ⟨x, 0, none⟩)] w fun e w' => e = .returned (.bool em) ∧ w = w' := by
  go_enter Tryz.func125, Tryz.ntmps125
  go_wp2_with fail
  go_ret
  exact ⟨rfl, rfl⟩
theorem look_empty_nil (w : World) : Calls Tryz.prog 125 #[.pointer none] w fun e w' => e = .returned (.bool false) ∧ w = w' := by
  go_enter Tryz.func125, Tryz.ntmps125
  go_wp2_with fail
  go_ret
  exact ⟨rfl, rfl⟩

theorem ent123 (args : Array Value) (w : World) : (callFunc 123 args).run Tryz.prog w = .ok (.enter 123 args) w := by kernel_rfl
theorem ent128 (args : Array Value) (w : World) : (callFunc 128 args).run Tryz.prog w = .ok (.enter 128 args) w := by kernel_rfl
theorem ent132 (args : Array Value) (w : World) : (callFunc 132 args).run Tryz.prog w = .ok (.enter 132 args) w := by kernel_rfl
theorem ent139 (args : Array Value) (w : World) : (callFunc 139 args).run Tryz.prog w = .ok (.enter 139 args) w := by kernel_rfl

/-- A machine that looks at a ring: what comes next lies at block q. -/
inductive Lk (w : World) (x cl : Nat) (P who p : Int) : Nat → Nat → Int → Int → Int → Bool → Prop
  | s0 (q : Nat) : Blk w x (lookCells who (some ⟨q, 0, none⟩) cl p 0 0 0 false) 181 → Blk w q (comCells 1 0 (wd 20 P 264 p 1) 0 0 false .nilIface (.func (.func 123) #[.pointer (some ⟨x, 0, none⟩)] #[]) false false) 148 → q ≠ x → Lk w x cl P who p q 0 0 0 0 false
  | s1 (q : Nat) (hd : Int) : Blk w x (lookCells who (some ⟨q, 0, none⟩) cl p hd 0 0 false) 181 → Blk w q (comCells 1 0 (wd 20 P 264 p 2) 0 0 false .nilIface (.func (.func 128) #[.pointer (some ⟨x, 0, none⟩)] #[]) false false) 148 → q ≠ x → Lk w x cl P who p q 1 hd 0 0 false
  | s2 (q : Nat) (hd tl : Int) : Blk w x (lookCells who (some ⟨q, 0, none⟩) cl p hd tl 0 false) 181 → Blk w q (comCells 1 0 (wd 20 P 264 p 3) 0 0 false .nilIface (.func (.func 132) #[.pointer (some ⟨x, 0, none⟩)] #[]) false false) 148 → q ≠ x → Lk w x cl P who p q 2 hd tl 0 false
  | s3 (q : Nat) (hd tl nt : Int) : Blk w x (lookCells who (some ⟨q, 0, none⟩) cl p hd tl nt false) 181 → Blk w q (comCells 1 0 (wd 20 P 264 p 2) 0 0 false .nilIface (.func (.func 139) #[.pointer (some ⟨x, 0, none⟩)] #[]) false false) 148 → q ≠ x → Lk w x cl P who p q 3 hd tl nt false
  | over (hd tl nt : Int) (em : Bool) : Blk w x (lookCells who none cl p hd tl nt em) 181 → Lk w x cl P who p x 4 hd tl nt em

section
variable {w w' : World} {x cl q ph : Nat} {P who p hd tl nt : Int} {em : Bool} {l : List Nat}
theorem Lk.but (h : Lk w x cl P who p q ph hd tl nt em) (hb : But l w w') (hx : x ∉ l) (hq : q ∉ l) : Lk w' x cl P who p q ph hd tl nt em := by
  cases h with
  | s0 _ a b c => exact .s0 _ (a.but hb hx) (b.but hb hq) c
  | s1 _ _ a b c => exact .s1 _ _ (a.but hb hx) (b.but hb hq) c
  | s2 _ _ _ a b c => exact .s2 _ _ _ (a.but hb hx) (b.but hb hq) c
  | s3 _ _ _ _ a b c => exact .s3 _ _ _ _ (a.but hb hx) (b.but hb hq) c
  | over _ _ _ _ a => exact .over _ _ _ _ (a.but hb hx)
theorem Lk.below (h : Lk w x cl P who p q ph hd tl nt em) (hb : Below w.heap.size w w') : Lk w' x cl P who p q ph hd tl nt em := h.but (But.of_below (l := []) hb) (by simp) (by simp)
theorem Lk.main (h : Lk w x cl P who p q ph hd tl nt em) : ∃ nx, Blk w x (lookCells who nx cl p hd tl nt em) 181 ∧ nx.isNone = decide (ph = 4) := by
  cases h with
  | s0 _ a b c => exact ⟨_, a, rfl⟩
  | s1 _ _ a b c => exact ⟨_, a, rfl⟩
  | s2 _ _ _ a b c => exact ⟨_, a, rfl⟩
  | s3 _ _ _ _ a b c => exact ⟨_, a, rfl⟩
  | over _ _ _ _ a => exact ⟨_, a, rfl⟩
theorem Lk.lt (h : Lk w x cl P who p q ph hd tl nt em) : x < w.heap.size ∧ q < w.heap.size := by
  cases h with
  | s0 _ a b c => exact ⟨a.lt, b.lt⟩
  | s1 _ _ a b c => exact ⟨a.lt, b.lt⟩
  | s2 _ _ _ a b c => exact ⟨a.lt, b.lt⟩
  | s3 _ _ _ _ a b c => exact ⟨a.lt, b.lt⟩
  | over _ _ _ _ a => exact ⟨a.lt, a.lt⟩
end
def lkF (ph : Nat) : Int := if ph = 0 then 1 else if ph = 2 then 3 else 2
def lkS (P who p : Int) (n ph : Nat) (s : St) : St := if ph < 4 then stp 1 who (wd 20 P 264 p (lkF ph)) 0 0 n s else s
def lkA (P p : Int) (n ph : Nat) (s : St) : Int := ans 1 (wd 20 P 264 p (lkF ph)) 0 0 n s
theorem lkS_low {s : St} {m : Int} (h : Low s m) (P who p : Int) (n ph : Nat) : Low (lkS P who p n ph s) (m + 1) := by
  unfold lkS
  split
  · exact stp_low h _ _ _ _ _ _
  · exact h.more (by omega)

section
variable (w : World) (A : Option Addr) (cp cm b n : Nat) (s : St) (hI : Is w 114 A cp cm b n s) (hn : n ≤ 1000000) (hl : Low s 1000000)
include hI hn hl

theorem lk_on (x cl q ph : Nat) (P T G who p hd tl nt : Int) (em : Bool) (h : Lk w x cl P who p q ph hd tl nt em) (hL : Lay w cl P T G) (hp : 0 ≤ P ∧ P ≤ 64) (hxc : x ≠ cm) (hxb : x ≠ b) (hqc : q ≠ cm) (hqb : q ≠ b) (hcx : cl ≠ x) (hcc : cl ≠ cm) (hcb : cl ≠ b) :
    Calls Tryz.prog 233 #[.pointer (some ⟨x, 0, none⟩), .pointer (some ⟨cm, 0, none⟩)] w fun e w' => (∃ z, e = .returned (.bool z)) ∧ ∃ q', Lk w' x cl P who p q' (if ph < 4 then ph + 1 else 4) (if ph = 0 then lkA P p n ph s else hd) (if ph = 1 then lkA P p n ph s else tl) (if ph = 2 then lkA P p n ph s else nt) (if ph = 3 then decide (lkA P p n ph s = tl ∧ lkA P p n ph s = hd ∧ nt = 0) else em) ∧ Is w' 114 A cp cm b n (lkS P who p n ph s) ∧ But [cm, b, x] w w' ∧ (q' = x ∨ w.heap.size ≤ q') := by
  have hLW : ∀ W u, But [cm, b] w W → Lay (W.setCell ⟨x, 1, none⟩ u) cl P T G := fun W u hB => (heap_set_ne W hcx 1 u).trans ((hB.block cl hL.lt (by simp [hcc, hcb])).trans hL)
  cases h with
  | s0 _ ha hb hne =>
    refine (look_step _ x _ _ (step_acc w A cp cm b n s hI hn hl x q 123 _ #[.pointer (some ⟨x, 0, none⟩)] #[] 181 1 who 0 (wd 20 P 264 p 1) 0 0 false false false (fun nx w' => ∃ q', nx = some ⟨q', 0, none⟩ ∧ Lk w' x cl P who p q' 1 (ans 1 (wd 20 P 264 p 1) 0 0 n s) 0 0 false ∧ Went w w' A cp cm b n (stp 1 who (wd 20 P 264 p 1) 0 0 n s) x ∧ w.heap.size ≤ q') ha rfl rfl hb hne (by omega) (by omega) hxc hxb hqc hqb (fun w => ent123 _ w) ?_)).mono ?_
    · intro W hM hB hx1
      refine (seeHead_any _ x cl P T G who p 0 0 0 (ans 1 (wd 20 P 264 p 1) 0 0 n s) none false (hx1.set 1 (.pointer none)) (hLW W _ hB) hcx hp).mono ?_
      rintro e w' ⟨hv, q', hC⟩
      have hf := hC.fresh
      rw [size_set] at hf
      have hlt := hx1.lt
      exact ⟨hv, _, hC.own.cell 1 rfl, q', rfl, .s1 q' _ hC.own hC.com (by omega), Went.of hM hB hC.but hxc hxb, Nat.le_trans hB.size hf⟩
    · rintro e w' ⟨z, rfl, nx, rfl, q', rfl, h1, h2, h3⟩
      exact ⟨⟨_, rfl⟩, q', h1, h2.mem, h2.but, .inr h3⟩
  | s1 _ _ ha hb hne =>
    refine (look_step _ x _ _ (step_acc w A cp cm b n s hI hn hl x q 128 _ #[.pointer (some ⟨x, 0, none⟩)] #[] 181 1 who 0 (wd 20 P 264 p 2) 0 0 false false false (fun nx w' => ∃ q', nx = some ⟨q', 0, none⟩ ∧ Lk w' x cl P who p q' 2 hd (ans 1 (wd 20 P 264 p 2) 0 0 n s) 0 false ∧ Went w w' A cp cm b n (stp 1 who (wd 20 P 264 p 2) 0 0 n s) x ∧ w.heap.size ≤ q') ha rfl rfl hb hne (by omega) (by omega) hxc hxb hqc hqb (fun w => ent128 _ w) ?_)).mono ?_
    · intro W hM hB hx1
      refine (seeTail_any _ x cl P T G who p hd 0 0 (ans 1 (wd 20 P 264 p 2) 0 0 n s) none false (hx1.set 1 (.pointer none)) (hLW W _ hB) hcx hp).mono ?_
      rintro e w' ⟨hv, q', hC⟩
      have hf := hC.fresh
      rw [size_set] at hf
      have hlt := hx1.lt
      exact ⟨hv, _, hC.own.cell 1 rfl, q', rfl, .s2 q' _ _ hC.own hC.com (by omega), Went.of hM hB hC.but hxc hxb, Nat.le_trans hB.size hf⟩
    · rintro e w' ⟨z, rfl, nx, rfl, q', rfl, h1, h2, h3⟩
      exact ⟨⟨_, rfl⟩, q', h1, h2.mem, h2.but, .inr h3⟩
  | s2 _ _ _ ha hb hne =>
    refine (look_step _ x _ _ (step_acc w A cp cm b n s hI hn hl x q 132 _ #[.pointer (some ⟨x, 0, none⟩)] #[] 181 1 who 0 (wd 20 P 264 p 3) 0 0 false false false (fun nx w' => ∃ q', nx = some ⟨q', 0, none⟩ ∧ Lk w' x cl P who p q' 3 hd tl (ans 1 (wd 20 P 264 p 3) 0 0 n s) false ∧ Went w w' A cp cm b n (stp 1 who (wd 20 P 264 p 3) 0 0 n s) x ∧ w.heap.size ≤ q') ha rfl rfl hb hne (by omega) (by omega) hxc hxb hqc hqb (fun w => ent132 _ w) ?_)).mono ?_
    · intro W hM hB hx1
      refine (seeNext_any _ x cl P T G who p hd tl 0 (ans 1 (wd 20 P 264 p 3) 0 0 n s) none false (hx1.set 1 (.pointer none)) (hLW W _ hB) hcx hp).mono ?_
      rintro e w' ⟨hv, q', hC⟩
      have hf := hC.fresh
      rw [size_set] at hf
      have hlt := hx1.lt
      exact ⟨hv, _, hC.own.cell 1 rfl, q', rfl, .s3 q' _ _ _ hC.own hC.com (by omega), Went.of hM hB hC.but hxc hxb, Nat.le_trans hB.size hf⟩
    · rintro e w' ⟨z, rfl, nx, rfl, q', rfl, h1, h2, h3⟩
      exact ⟨⟨_, rfl⟩, q', h1, h2.mem, h2.but, .inr h3⟩
  | s3 _ _ _ _ ha hb hne =>
    refine (look_step _ x _ _ (step_acc w A cp cm b n s hI hn hl x q 139 _ #[.pointer (some ⟨x, 0, none⟩)] #[] 181 1 who 0 (wd 20 P 264 p 2) 0 0 false false false (fun nx w' => nx = none ∧ Lk w' x cl P who p x 4 hd tl nt (decide (ans 1 (wd 20 P 264 p 2) 0 0 n s = tl ∧ ans 1 (wd 20 P 264 p 2) 0 0 n s = hd ∧ nt = 0)) ∧ Went w w' A cp cm b n (stp 1 who (wd 20 P 264 p 2) 0 0 n s) x) ha rfl rfl hb hne (by omega) (by omega) hxc hxb hqc hqb (fun w => ent139 _ w) ?_)).mono ?_
    · intro W hM hB hx1
      refine (judge_any _ x cl who p hd tl nt (ans 1 (wd 20 P 264 p 2) 0 0 n s) none false (hx1.set 1 (.pointer none))).mono ?_
      rintro e w' ⟨hv, h1, h2⟩
      exact ⟨hv, _, h1.cell 1 rfl, rfl, .over _ _ _ _ h1, Went.of hM hB h2 hxc hxb⟩
    · rintro e w' ⟨z, rfl, nx, rfl, rfl, h1, h2⟩
      exact ⟨⟨_, rfl⟩, x, h1, h2.mem, h2.but, .inl rfl⟩
  | over _ _ _ _ ha =>
    refine (look_step w x _ (fun z w' => z = true ∧ w = w') ((step_none w x cm (ha.cell 1 rfl)).mono ?_)).mono ?_
    · rintro e w' ⟨rfl, rfl⟩; exact ⟨true, rfl, rfl, rfl⟩
    · rintro e w' ⟨z, rfl, rfl, rfl⟩
      exact ⟨⟨_, rfl⟩, x, .over _ _ _ _ ha, hI, But.refl _ _, .inl rfl⟩
end

end Go.Proofs.YthjfbknmdligeaaGreat

namespace Go.Proofs.YthjfbknmdligeaaGreat
open Go Go.RowKit
set_option linter.unusedVariables false
set_option maxRecDepth 100000
set_option linter.unusedSimpArgs false

inductive LoT where
  | hd
  | tl (h : Int)
  | nx (h t : Int)
  | ag (h t n : Int)
  | over (h t n : Int) (e : Bool)
def LoT.h : LoT → Int
  | .hd => 0
  | .tl h => h
  | .nx h _ => h
  | .ag h _ _ => h
  | .over h _ _ _ => h
def LoT.t : LoT → Int
  | .nx _ t => t
  | .ag _ t _ => t
  | .over _ t _ _ => t
  | _ => 0
def LoT.n : LoT → Int
  | .ag _ _ n => n
  | .over _ _ n _ => n
  | _ => 0
/-- Whether it was empty. -/
def LoT.e : LoT → Bool
  | .over _ _ _ e => e
  | _ => false
def loPM (P p : Int) : PM LoT where
  ax := fun
    | .hd => some (axLd (wd 20 P 264 p 1))
    | .tl _ => some (axLd (wd 20 P 264 p 2))
    | .nx _ _ => some (axLd (wd 20 P 264 p 3))
    | .ag _ _ _ => some (axLd (wd 20 P 264 p 2))
    | .over _ _ _ _ => none
  nx := fun
    | .hd, v => .tl v
    | .tl h, v => .nx h v
    | .nx h t, v => .ag h t v
    | .ag h t n, v => .over h t n (decide (v = t ∧ v = h ∧ n = 0))
    | s, _ => s
def loFl (who p : Int) (cl : Nat) : Fl LoT where
  T := 181
  cells := fun s nx => lookCells who nx cl p s.h s.t s.n s.e
  fol := fun
    | .hd => .told 123
    | .tl _ => .told 128
    | .nx _ _ => .told 132
    | .ag _ _ _ => .told 139
    | .over _ _ _ _ => .nil
  ok := fun _ => True
theorem ent_lo1 : Ent 123 := fun args w => by kernel_rfl
theorem ent_lo2 : Ent 128 := fun args w => by kernel_rfl
theorem ent_lo3 : Ent 132 := fun args w => by kernel_rfl
theorem ent_lo4 : Ent 139 := fun args w => by kernel_rfl
theorem lo_laws (who P T G p : Int) (cl : Nat) (hp : 0 ≤ P ∧ P ≤ 64) : (loFl who p cl).Laws (loPM P p) (Rd.lay cl P T G) who where
  c0 := fun t nx => rfl
  c1 := fun t nx => rfl
  set := fun t nx nx' => rfl
  axok := fun t a _ h => by cases t <;> cases h <;> exact axLd_ok _
  ents := fun t a h => by
    cases t <;> cases h
    · exact ent_lo1
    · exact ent_lo2
    · exact ent_lo3
    · exact ent_lo4
  ok := fun _ _ _ _ _ _ => trivial
  fol := fun W x t a v _ h hv hB hR hxR => by
    have hcx : cl ≠ x := fun e => hxR (by rw [e]; exact List.mem_singleton.2 rfl)
    cases t <;> cases h
    · refine (seeHead_any W x cl P T G who p 0 0 0 v none false hB hR hcx hp).mono ?_
      rintro e w' ⟨hu, q, hC⟩
      exact ⟨hu, Came.of_at (a := axLd _) hC⟩
    · rename_i h _
      refine (seeTail_any W x cl P T G who p h 0 0 v none false hB hR hcx hp).mono ?_
      rintro e w' ⟨hu, q, hC⟩
      exact ⟨hu, Came.of_at (a := axLd _) hC⟩
    · rename_i h t _
      refine (seeNext_any W x cl P T G who p h t 0 v none false hB hR hcx hp).mono ?_
      rintro e w' ⟨hu, q, hC⟩
      exact ⟨hu, Came.of_at (a := axLd _) hC⟩
    · rename_i h t n _
      exact judge_any W x cl who p h t n v none false hB
theorem lo_new (w : World) (cl : Nat) (P T G who p : Int) (hL : Lay w cl P T G) (hp : 0 ≤ P ∧ P ≤ 64) :
    Calls Tryz.prog 118 #[.pointer (some ⟨cl, 0, none⟩), .int .i64 who, .int .i64 p] w fun e w' => ∃ x L, e = .returned (.pointer (some ⟨x, 0, none⟩)) ∧ (loFl who p cl).I (loPM P p) w' x .hd L ∧ Below w.heap.size w w' ∧ (∀ k ∈ L, w.heap.size ≤ k) ∧ w.heap.size ≤ x := by
  refine (look_new w cl P T G who p hL hp).mono ?_
  rintro e w' ⟨x, q, rfl, h1, h2, h3, h4, h5⟩
  have h6 : x < q := by omega
  exact ⟨x, [x, q], rfl, ⟨trivial, q, [q], h1, .told _ h2, by simp; omega, rfl⟩, h3, by intro k hk; simp at hk; omega, h4⟩
theorem lo_tells {who P p : Int} {cl : Nat} {w : World} {x : Nat} {t : LoT} {L : List Nat} (h : (loFl who p cl).I (loPM P p) w x t L) :
    Calls Tryz.prog 125 #[.pointer (some ⟨x, 0, none⟩)] w fun e w' => e = .returned (.bool t.e) ∧ w = w' := by
  obtain ⟨nx, h1, -⟩ := Fl.blk h
  have h1' : Blk w x (lookCells who nx cl p t.h t.t t.n t.e) 181 := h1
  exact look_empty w x t.e (h1'.cell 7 rfl)
end Go.Proofs.YthjfbknmdligeaaGreat

namespace Go.Proofs.YthjfbknmdligeaaGreat
open Go Go.RowKit
set_option linter.unusedVariables false
set_option maxRecDepth 100000
set_option linter.unusedSimpArgs false

theorem isD_look (v : Value) (xT : TypeId) (w : World) : (Instr.typeAssert (.iface 95 v) xT 183 true).run Tryz.prog w = .ok (.tuple #[.iface 95 v, .bool true]) w := run_typeAssert_hasB Tryz.underlying183 (by kernel_rfl) v xT w
theorem eqIIn_look (w : World) (fuel : Nat) (v : Value) : (Op.equalIn (fuel + 1) 146 (.iface 95 v) .nilIface).run Tryz.prog w = .ok false w := by
  simp only [Op.equalIn, Sem.run_bind, run_underlying Tryz.underlying146, Result.andThen_ok]
  rfl
theorem eqI_look (v : Value) (w : World) : (binOp .eql 146 (.iface 95 v) .nilIface).run Tryz.prog w = .ok (.bool false) w := by
  have h := eqIIn_look w 9999 v
  simp only [binOp]
  simp [Op.equal, Op.maxDepth, h]
theorem neqI_look (v : Value) (w : World) : (binOp .neq 146 (.iface 95 v) .nilIface).run Tryz.prog w = .ok (.bool true) w := by
  have h := eqIIn_look w 9999 v
  simp only [binOp]
  simp [Op.equal, Op.maxDepth, h]
theorem isdone_look (w : World) (x : Nat) (nx : Option Addr) (hc : w.cell? ⟨x, 1, none⟩ = some (.pointer nx)) :
    Calls Tryz.prog 124 #[.iface 95 (.pointer (some ⟨x, 0, none⟩))] w fun e w' => e = .returned (.bool nx.isNone) ∧ w = w' := by
  have h1 := isD_look
  have h2 := eqI_look
  have hD := done_look w x nx hc
  go_enter Tryz.func124, Tryz.ntmps124
  go_wp2_with fail
  go_at_call 232; refine hD.mono ?_; rintro e w1 ⟨rfl, rfl⟩
  go_wp2_with fail
  go_ret
  exact ⟨rfl, rfl⟩

theorem frun0_look (w : World) (c x : Nat) (cs : Array Value) (T : TypeId) (fv : Value) (nx : Addr) (h : Blk w c cs T) (hs : 2 ≤ cs.size) (hf : Fv fv) (hxc : x ≠ c) (hx : w.cell? ⟨x, 1, none⟩ = some (.pointer (some nx))) :
    Calls Tryz.prog 120 #[.pointer (some ⟨c, 0, none⟩), .iface 95 (.pointer (some ⟨x, 0, none⟩)), fv] w fun e w' => (∃ v, e = .returned v) ∧ ∃ q g, CameBox w w' c cs T (fun v => comCells 0 0 0 0 0 false (.iface 95 (.pointer (some ⟨x, 0, none⟩))) v false false) fv q g := by
  have c1 := h.cell 1 (Array.getElem?_eq_getElem (by omega))
  have f1 := h.fro 1
  have hlt := h.lt
  have h1 := h.set 1 (.pointer none)
  have c2 := h1.cell 1 (v := .pointer none) (by rw [Array.getElem?_setIfInBounds, if_pos rfl, if_pos (by omega)])
  have f2 := h1.fro 1
  have hB1 : But [c] w (w.setCell ⟨c, 1, none⟩ (.pointer none)) := (But.refl _ w).set (g := c) (.inl (by simp)) 1 _
  have hsz : (w.setCell ⟨c, 1, none⟩ (.pointer none)).heap.size = w.heap.size := size_set _ _ _
  have hD := isdone_look (w.setCell ⟨c, 1, none⟩ (.pointer none)) x (some nx) (by
    rw [show (w.setCell ⟨c, 1, none⟩ (.pointer none)).cell? ⟨x, 1, none⟩ = w.cell? ⟨x, 1, none⟩ by simp only [World.cell?]; rw [heap_set_ne w hxc 1 _]]
    exact hx)
  have hU := fun w => untold_any w fv hf
  have HH : Hid (Blk (w.setCell ⟨c, 1, none⟩ (.pointer none)) c (cs.setIfInBounds 1 (.pointer none)) T ∧ But [c] w (w.setCell ⟨c, 1, none⟩ (.pointer none))) := ⟨h1, hB1⟩
  clear h h1 hB1 hx
  go_enter Tryz.func120, Tryz.ntmps120
  go_wp2_with fail
  generalize w.setCell ⟨c, 1, none⟩ (.pointer none) = W at *
  go_at_call 124; refine hD.mono ?_; rintro e w1 ⟨rfl, rfl⟩
  go_wp2_with fail
  go_at_call 98; refine (hU _).mono ?_; rintro e w2 ⟨rfl, rfl⟩
  have hg := Blk.new W #[fv] 1
  have hW2 : Blk (W.alloc (.cells #[fv] 1)) c (cs.setIfInBounds 1 (.pointer none)) T := HH.out.1.al _
  have hsz2 : Hid ((W.alloc (.cells #[fv] 1)).heap.size = w.heap.size + 1) := (by rw [World.size_alloc, hsz] : (W.alloc (.cells #[fv] 1)).heap.size = w.heap.size + 1)
  have hB2 : But [c] w (W.alloc (.cells #[fv] 1)) := HH.out.2.alloc _
  rw [hsz] at hg ⊢
  have HG : Hid (Blk (W.alloc (.cells #[fv] 1)) w.heap.size #[fv] 1 ∧ Blk (W.alloc (.cells #[fv] 1)) c (cs.setIfInBounds 1 (.pointer none)) T ∧ But [c] w (W.alloc (.cells #[fv] 1))) := ⟨hg, hW2, hB2⟩
  have c3 := hW2.cell 1 (v := .pointer none) (by rw [Array.getElem?_setIfInBounds, if_pos rfl, if_pos (by omega)])
  have f3 := hW2.fro 1
  clear hD hU c1 f1 c2 f2 hg hW2 hB2
  generalize W.alloc (.cells #[fv] 1) = W2 at *
  have hlt2 : c < W2.heap.size := by have := hsz2.out; omega
  clear hsz HH
  go_wp2_with fail
  go_end0
  obtain ⟨g1, g2, g3⟩ := HG.out
  have hsz2 := hsz2.out
  refine ⟨⟨_, rfl⟩, W2.heap.size, w.heap.size, ⟨⟨by omega, ?_, ?_, ?_⟩, Nat.le_refl _, ?_, by omega⟩⟩
  · have := (g2.set 1 (.pointer (some ⟨W2.heap.size, 0, none⟩))).al (.cells (comCells 0 0 0 0 0 false (.iface 95 (.pointer (some ⟨x, 0, none⟩))) (.func (.func 110) #[] #[.pointer (some ⟨w.heap.size, 0, none⟩)]) false false) 148)
    rw [set_twice] at this
    exact this
  · have := Blk.new (W2.setCell ⟨c, 1, none⟩ (.pointer (some ⟨W2.heap.size, 0, none⟩))) (comCells 0 0 0 0 0 false (.iface 95 (.pointer (some ⟨x, 0, none⟩))) (.func (.func 110) #[] #[.pointer (some ⟨w.heap.size, 0, none⟩)]) false false) 148
    rw [size_set] at this
    exact this
  · exact (g3.set (g := c) (.inl (by simp)) 1 _).alloc _
  · exact (g1.setne (by omega) 1 _).al _

theorem act0_look (w : World) (q cm x : Nat) (who : Int) (thn : Value) (z : Bool) (Mw : World → Prop) (hq : Blk w q (comCells 0 0 0 0 0 false (.iface 95 (.pointer (some ⟨x, 0, none⟩))) thn false false) 148)
    (hS : ∀ W, But [q] w W → Blk W q (comCells 0 0 0 0 0 false (.iface 95 (.pointer (some ⟨x, 0, none⟩))) thn false true) 148 → Calls Tryz.prog 233 #[.pointer (some ⟨x, 0, none⟩), .pointer (some ⟨cm, 0, none⟩)] W fun e w' => e = .returned (.bool z) ∧ Blk w' q (comCells 0 0 0 0 0 false (.iface 95 (.pointer (some ⟨x, 0, none⟩))) thn false true) 148 ∧ Mw w') :
    Calls Tryz.prog 79 #[.pointer (some ⟨q, 0, none⟩), .int .i64 who, .pointer (some ⟨cm, 0, none⟩)] w fun e w' => e = .returned (.tuple #[.int .u64 0, .bool z]) ∧ ∃ w1, Mw w1 ∧ Blk w1 q (comCells 0 0 0 0 0 false (.iface 95 (.pointer (some ⟨x, 0, none⟩))) thn false true) 148 ∧ w' = w1.setCell ⟨q, 9, none⟩ (.bool false) := by
  have hn := neqI_look
  have hbm := Blk.new w #[.pointer (some ⟨cm, 0, none⟩)] 29
  have hq1 := hq.al (.cells #[.pointer (some ⟨cm, 0, none⟩)] 29)
  have hqlt := hq.lt
  have k6 := hq1.cell 6 (v := .iface 95 (.pointer (some ⟨x, 0, none⟩))) rfl
  have hask : Calls Tryz.prog 89 #[.pointer (some ⟨q, 0, none⟩), .func (.func 90) #[] #[.pointer (some ⟨w.heap.size, 0, none⟩)]] (w.alloc (.cells #[.pointer (some ⟨cm, 0, none⟩)] 29)) fun e w' => e = .returned (.bool z) ∧ ∃ w1, Mw w1 ∧ Blk w1 q (comCells 0 0 0 0 0 false (.iface 95 (.pointer (some ⟨x, 0, none⟩))) thn false true) 148 ∧ w' = w1.setCell ⟨q, 9, none⟩ (.bool false) := by
    have hne : w.heap.size ≠ q := by omega
    have k9 := hq1.cell 9 (v := .bool false) rfl
    have f9 := hq1.fro 9
    have hq2 := hq1.set 9 (.bool true)
    have l6 := hq2.cell 6 (v := .iface 95 (.pointer (some ⟨x, 0, none⟩))) rfl
    have hb2 := hbm.setne hne 9 (.bool true)
    have b0 := hb2.cell 0 (v := .pointer (some ⟨cm, 0, none⟩)) rfl
    have hst := hS ((w.alloc (.cells #[.pointer (some ⟨cm, 0, none⟩)] 29)).setCell ⟨q, 9, none⟩ (.bool true)) (((But.refl [q] w).alloc _).set (g := q) (.inl (by simp)) 9 _) hq2
    have hrun : Calls Tryz.prog 90 #[.iface 95 (.pointer (some ⟨x, 0, none⟩)), .pointer (some ⟨w.heap.size, 0, none⟩)] ((w.alloc (.cells #[.pointer (some ⟨cm, 0, none⟩)] 29)).setCell ⟨q, 9, none⟩ (.bool true)) fun e w' => e = .returned (.bool z) ∧ Blk w' q (comCells 0 0 0 0 0 false (.iface 95 (.pointer (some ⟨x, 0, none⟩))) thn false true) 148 ∧ Mw w' := by
      clear hS hq hbm hq1 k6 k9 f9 hq2 l6 hb2 hqlt hne
      generalize (w.alloc (.cells #[.pointer (some ⟨cm, 0, none⟩)] 29)).setCell ⟨q, 9, none⟩ (.bool true) = W at *
      go_enter Tryz.func90, Tryz.ntmps90
      go_wp2_with fail
      go_at_call 233; refine hst.mono ?_; rintro e w1 ⟨rfl, h1, h2⟩
      go_wp2_with fail
      go_ret
      exact ⟨rfl, h1, h2⟩
    clear hS hq hbm hq1 hq2 hb2 hst b0 hqlt
    go_enter Tryz.func89, Tryz.ntmps89
    go_wp2_with fail
    generalize (w.alloc (.cells #[.pointer (some ⟨cm, 0, none⟩)] 29)).setCell ⟨q, 9, none⟩ (.bool true) = W at *
    go_at_call 90; refine hrun.mono ?_; rintro e w1 ⟨rfl, h1, h2⟩
    have m9 := h1.cell 9 (v := .bool true) rfl
    have g9 := h1.fro 9
    clear hrun l6 k9 f9 k6
    go_wp2_with fail
    go_ret
    exact ⟨rfl, w1, h2, h1, rfl⟩
  clear hS hq hq1 hbm
  go_enter Tryz.func79, Tryz.ntmps79
  go_wp2_with fail
  generalize w.alloc (.cells #[.pointer (some ⟨cm, 0, none⟩)] 29) = W at *
  go_at_call 89; refine hask.mono ?_; rintro e w1 ⟨rfl, h1⟩
  clear hask k6
  go_wp2_with fail
  go_returns
  exact ⟨rfl, h1⟩

theorem frun_look : RunCome 95 := fun w c y cs T fv nx h hs hf hyc hx => frun0_look w c y cs T fv nx h hs hf hyc hx
theorem act_look : ActRun 95 233 := fun w q cm y g who z Mw hq hS => act0_look w q cm y who _ z Mw hq hS
end Go.Proofs.YthjfbknmdligeaaGreat

namespace Go.Proofs.YthjfbknmdligeaaGreat
open Go Go.RowKit
set_option linter.unusedVariables false
set_option maxRecDepth 100000
set_option linter.unusedSimpArgs false

def qwd (g : Int) : Int := IntKind.u64.wrap (IntKind.u64.wrap g + 1)
theorem qwd_bd (g : Int) : 0 ≤ qwd g ∧ qwd g ≤ 18446744073709551615 := by
  unfold qwd
  generalize IntKind.u64.wrap g + 1 = z
  simp [IntKind.wrap, IntKind.bits, IntKind.signed]
  omega
theorem qwd_small (g : Int) (h : 0 ≤ g ∧ g ≤ 1000000) : qwd g = g + 1 := by
  unfold qwd
  simp [IntKind.wrap, IntKind.bits, IntKind.signed]
  omega
end Go.Proofs.YthjfbknmdligeaaGreat

namespace Go.Proofs.YthjfbknmdligeaaGreat
open Go Go.RowKit
set_option linter.unusedVariables false
set_option maxRecDepth 100000
set_option linter.unusedSimpArgs false

theorem glob_word_6 (w : World) (c : Nat) : Calls Tryz.prog 84 #[.pointer (some ⟨c, 0, none⟩), .int .i64 6] w fun e w' => e = .returned (.int .i64 6) ∧ w = w' := by
  go_enter Tryz.func84, Tryz.ntmps84
  go_wp2_with fail
  go_ret
  exact ⟨rfl, rfl⟩
theorem glob_word_7 (w : World) (c : Nat) : Calls Tryz.prog 84 #[.pointer (some ⟨c, 0, none⟩), .int .i64 7] w fun e w' => e = .returned (.int .i64 7) ∧ w = w' := by
  go_enter Tryz.func84, Tryz.ntmps84
  go_wp2_with fail
  go_ret
  exact ⟨rfl, rfl⟩
theorem glob_word_8 (w : World) (c : Nat) : Calls Tryz.prog 84 #[.pointer (some ⟨c, 0, none⟩), .int .i64 8] w fun e w' => e = .returned (.int .i64 8) ∧ w = w' := by
  go_enter Tryz.func84, Tryz.ntmps84
  go_wp2_with fail
  go_ret
  exact ⟨rfl, rfl⟩
end Go.Proofs.YthjfbknmdligeaaGreat

namespace Go.Proofs.YthjfbknmdligeaaGreat
open Go Go.RowKit
set_option linter.unusedVariables false
set_option maxRecDepth 100000
set_option linter.unusedSimpArgs false

/-- A slice of ints, seen in memory. -/
def SeesL (w : World) (v : Value) (l : List Int) : Prop := ∃ A cap, v = .slice A l.length cap ∧ (A = none → l.length = 0 ∧ cap = 0) ∧ (0 < l.length → ∃ b off : Nat, A = some ⟨b, off, none⟩ ∧ b < w.heap.size ∧ ∀ j, j < l.length → w.cell? ⟨b, off + j, none⟩ = some (.int .i64 (l.getD j 0)))
theorem SeesL.below {w w' : World} {v : Value} {l : List Int} (h : SeesL w v l) (hb : Below w.heap.size w w') : SeesL w' v l := by
  obtain ⟨A, cap, e, h1, h2⟩ := h
  refine ⟨A, cap, e, h1, fun hn => ?_⟩
  obtain ⟨b, off, e1, h3, h4⟩ := h2 hn
  exact ⟨b, off, e1, Nat.lt_of_lt_of_le h3 hb.size, fun j hj => (hb.cell (p := ⟨b, off + j, none⟩) h3).trans (h4 j hj)⟩
theorem IntsOn.sees {w : World} {base : Nat} {v : Value} {l : List Int} (h : IntsOn w base v l) : SeesL w v l := by
  by_cases h0 : 0 < l.length
  · obtain ⟨gb, cap, e, -⟩ := h.cell h0
    refine ⟨_, cap, e, (fun h => by cases h), fun hn => ⟨gb, 0, rfl, ?_, fun j hj => ?_⟩⟩
    · obtain ⟨gb', cap', e', hc⟩ := h.cell hn
      rw [e] at e'; cases e'
      exact cell_lt hc
    · obtain ⟨gb', cap', e', hc⟩ := h.cell hj
      rw [e] at e'; cases e'
      rw [Nat.zero_add]; exact hc
  · rcases h.own.2 with ⟨e, h1⟩ | ⟨gb, cp, cur, e, -⟩
    · exact ⟨none, 0, by rw [e, h1], fun _ => ⟨h1, rfl⟩, fun h => absurd h h0⟩
    · exact ⟨_, cp, e, (fun h => by cases h), fun h => absurd h h0⟩

theorem lclone_cells (w : World) (a : Addr) (l : List Int) (hs : 0 < l.length → ∃ b off : Nat, some a = some (⟨b, off, none⟩ : Addr) ∧ b < w.heap.size ∧ ∀ j, j < l.length → w.cell? ⟨b, off + j, none⟩ = some (.int .i64 (l.getD j 0))) : ∀ j u, (l.map (Value.int .i64))[j]? = some u → (w.alloc (.cells #[] 3)).cell? (a.add j) = some u := by
  intro j u hj
  have hjn : j < l.length := by
    have := (List.getElem?_eq_some_iff.1 hj).1
    simpa using this
  rw [List.getElem?_map, List.getElem?_eq_getElem hjn] at hj
  obtain ⟨b, off, e, hb, hc⟩ := hs (by omega)
  cases e
  have h1 := hc j hjn
  rw [List.getD_eq_getElem?_getD, List.getElem?_eq_getElem hjn] at h1
  have h2 : (w.alloc (.cells #[] 3)).cell? ⟨b, off + j, none⟩ = w.cell? ⟨b, off + j, none⟩ := World.cell?_alloc_lt w _ _ hb
  have h3 : (⟨b, off, none⟩ : Addr).add j = ⟨b, off + j, none⟩ := by by_cases h0 : j = 0 <;> simp [Addr.add, h0]
  rw [h3, h2, h1]
  exact hj
end Go.Proofs.YthjfbknmdligeaaGreat

namespace Go.Proofs.YthjfbknmdligeaaGreat
open Go Go.RowKit
set_option linter.unusedVariables false
set_option maxRecDepth 100000
set_option linter.unusedSimpArgs false

end Go.Proofs.YthjfbknmdligeaaGreat

namespace Go.Proofs.YthjfbknmdligeaaGreat
open Go Go.RowKit
set_option linter.unusedVariables false
set_option maxRecDepth 100000
set_option linter.unusedSimpArgs false

def qpCells (who : Int) (nx : Option Addr) (cl : Nat) (sl : Value) (k : Int) (z : Bool) : Array Value := #[.int .i64 who, .pointer nx, .pointer (some ⟨cl, 0, none⟩), sl, .int .i64 k, .bool z]
/-- A row of ints at a block g of its own. -/
structure RowAt (w : World) (g cap : Nat) (l : List Int) : Prop where
  lt : g < w.heap.size
  cell : ∀ j, j < l.length → w.cell? ⟨g, j, none⟩ = some (.int .i64 (l.getD j 0))
theorem RowAt.but {w w' : World} {g cap : Nat} {l : List Int} {lb : List Nat} (h : RowAt w g cap l) (hB : But lb w w') (hg : g ∉ lb) : RowAt w' g cap l :=
  ⟨Nat.lt_of_lt_of_le h.lt hB.size, fun j hj => by
    have := h.cell j hj
    simp only [World.cell?] at this ⊢
    rw [hB.block g h.lt hg]; exact this⟩
theorem RowAt.below {w w' : World} {g cap : Nat} {l : List Int} (h : RowAt w g cap l) (hB : Below w.heap.size w w') : RowAt w' g cap l := h.but (But.of_below (l := []) hB) (by simp)
theorem IntsOn.row {w : World} {base : Nat} {v : Value} {l : List Int} (h : IntsOn w base v l) (h0 : 0 < l.length) : ∃ g cap, v = .slice (some ⟨g, 0, none⟩) l.length cap ∧ base ≤ g ∧ RowAt w g cap l := by
  rcases h.own.2 with ⟨e, h1⟩ | ⟨gb, cp, cur, e, hb, hh, hnc, hcm, hcs, htk⟩
  · omega
  · refine ⟨gb, cp, e, hb, block_lt hh, fun j hj => ?_⟩
    obtain ⟨gb', cap', e', hc⟩ := h.cell hj
    rw [e] at e'; cases e'
    exact hc

end Go.Proofs.YthjfbknmdligeaaGreat

namespace Go.Proofs.YthjfbknmdligeaaGreat
open Go Go.RowKit
set_option linter.unusedVariables false
set_option maxRecDepth 100000
set_option linter.unusedSimpArgs false

def Rd.row (g cap : Nat) (l : List Int) : Rd := ⟨[g], fun w => RowAt w g cap l, fun w w' lb h hb hk => h.but hb (hk g (by simp))⟩
inductive QpT where
  | ch (k : Nat)
  | ld
  | pt (t : Int)
  | tr
  | ct
  | over
  | done0
def qpPM (gl : Int → Int) (l : List Int) : PM QpT where
  ax := fun
    | .ch k => some (axSt (gl (l.getD k 0)) (if k + 1 < l.length then qwd (l.getD (k + 1) 0) else 0))
    | .ld => some (axLd 7)
    | .pt t => some (axSt (if t = 0 then 6 else gl (gw t)) (qwd (l.getD 0 0)))
    | .tr => some (axSt 7 (qwd (l.getD (l.length - 1) 0)))
    | .ct => some (axAd 8 l.length)
    | .over => none
    | .done0 => none
  nx := fun
    | .ch k, _ => if k + 1 < l.length then .ch (k + 1) else .ld
    | .ld, v => .pt v
    | .pt _, _ => .tr
    | .tr, _ => .ct
    | .ct, _ => .over
    | t, _ => t
def QpT.linked (n : Nat) : QpT → Nat
  | .ch k => k + 1
  | .done0 => 0
  | _ => n
def QpT.lies : QpT → Bool
  | .tr => true
  | .ct => true
  | .over => true
  | _ => false
theorem getD_bd {l : List Int} (hb : ∀ y ∈ l, 0 ≤ y ∧ y ≤ 1000000) (j : Nat) : 0 ≤ l.getD j 0 ∧ l.getD j 0 ≤ 1000000 := by
  rw [List.getD_eq_getElem?_getD]
  rcases Nat.lt_or_ge j l.length with h | h
  · rw [List.getElem?_eq_getElem h]; exact hb _ (List.getElem_mem _)
  · rw [List.getElem?_eq_none h]; exact ⟨Int.le_refl _, by decide⟩

end Go.Proofs.YthjfbknmdligeaaGreat

namespace Go.Proofs.YthjfbknmdligeaaGreat
open Go Go.RowKit
set_option linter.unusedVariables false
set_option maxRecDepth 100000
set_option linter.unusedSimpArgs false

theorem RowAt.sees {w : World} {g cap : Nat} {l : List Int} (h : RowAt w g cap l) : SeesL w (.slice (some ⟨g, 0, none⟩) l.length cap) l :=
  ⟨_, cap, rfl, (fun h => by cases h), fun _ => ⟨g, 0, rfl, h.lt, fun j hj => by rw [Nat.zero_add]; exact h.cell j hj⟩⟩
def qpStart (l : List Int) : QpT := if l = [] then .done0 else .ch 0
end Go.Proofs.YthjfbknmdligeaaGreat
