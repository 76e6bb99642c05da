/- The reference's routine that gets a processor keeps step with any machine that has it within it. -/
import Derived.Test.YthbgoakaijeemaaGreatIl0
import Derived.Test.YthbgoakaijeemaaGreatRunD
import Derived.Test.YthbgoakaijeemaaGreatR7
namespace Go.Proofs.YthbgoakaijeemaaGreat
open Go Go.RowKit
set_option linter.unusedVariables false
set_option maxRecDepth 100000
set_option linter.unusedSimpArgs false

section
variable (w : World) (x c : Nat) (cs : Array Value) (T : TypeId) (h : Blk w x cs T) (hs : 2 ≤ cs.size) (h2 : cs[2]? = some (.pointer (some ⟨c, 0, none⟩)))
include h hs h2
theorem ip_load (i : Int) (hi : 6 ≤ i ∧ i ≤ 19) (K : Nat) :
    Calls Tryz.prog 198 #[.pointer (some ⟨x, 0, none⟩), .int .i64 i, .func (.func K) #[.pointer (some ⟨x, 0, none⟩)] #[]] w fun e w' => (∃ v, e = .returned v) ∧ Came w w' x cs T (axLd i) (.told K) := by
  have H := came_load w.drew x cs T h.drew hs i K
  have c2 := h.cell 2 h2
  have hW := il_word w.drew c i hi
  clear h hs h2 hi
  go_enter Tryz.func198, Tryz.ntmps198
  go_wp2_with fail
  go_region_with (first | (go_at_call 92; refine hW.mono ?_; rintro e w3 ⟨rfl, rfl⟩) | (go_at_call 91; refine H.mono ?_; rintro e w1 ⟨⟨v, rfl⟩, hC⟩))
  all_goals
    have hC2 := hC.undrew
    clear hW H c2 hC
    go_wp2_with fail
    go_end0
    exact ⟨⟨_, rfl⟩, hC2⟩
theorem ip_store (i : Int) (hi : 6 ≤ i ∧ i ≤ 19) (u : Int) (K : Nat) :
    Calls Tryz.prog 210 #[.pointer (some ⟨x, 0, none⟩), .int .i64 i, .int .u64 u, .func (.func K) #[.pointer (some ⟨x, 0, none⟩)] #[]] w fun e w' => (∃ v, e = .returned v) ∧ Came w w' x cs T (axSt i u) (.untold K) := by
  have H := came_store w.drew x cs T h.drew hs i u K
  have c2 := h.cell 2 h2
  have hW := il_word w.drew c i hi
  clear h hs h2 hi
  go_enter Tryz.func210, Tryz.ntmps210
  go_wp2_with fail
  go_region_with (first | (go_at_call 92; refine hW.mono ?_; rintro e w3 ⟨rfl, rfl⟩) | (go_at_call 159; refine H.mono ?_; rintro e w1 ⟨⟨v, rfl⟩, hC⟩))
  all_goals
    have hC2 := hC.undrew
    clear hW H c2 hC
    go_wp2_with fail
    go_end0
    exact ⟨⟨_, rfl⟩, hC2⟩
theorem ip_count (u : Int) :
    Calls Tryz.prog 222 #[.pointer (some ⟨x, 0, none⟩), .int .u64 u] w fun e w' => (∃ v, e = .returned v) ∧ Came w w' x cs T (axAd 10 u) .nil := by
  have H := came_add_nil w.drew x cs T h.drew hs 10 u
  have c2 := h.cell 2 h2
  have hW := il_word w.drew c 10 (by omega)
  clear h hs h2
  go_enter Tryz.func222, Tryz.ntmps222
  go_wp2_with fail
  go_region_with (first | (go_at_call 92; refine hW.mono ?_; rintro e w3 ⟨rfl, rfl⟩) | (go_at_call 116; refine H.mono ?_; rintro e w1 ⟨⟨v, rfl⟩, hC⟩))
  all_goals
    have hC2 := hC.undrew
    clear hW H c2 hC
    go_wp2_with fail
    go_end0
    exact ⟨⟨_, rfl⟩, hC2⟩
omit hs in
theorem ip_behind (P T' G p : Int) (h3 : cs[3]? = some (.int .i64 p)) (hl : Lay w c P T' G) (hp : 0 ≤ P ∧ P ≤ 64) (hT : 0 ≤ T' ∧ T' ≤ 65536) :
    Calls Tryz.prog 207 #[.pointer (some ⟨x, 0, none⟩)] w fun e w' => e = .returned (.int .i64 (wd 20 P 264 p 7)) ∧ Below w.heap.size w w' := by
  have c2 := h.cell 2 h2
  have c3 := h.cell 3 h3
  have hW := lprc_any _ P T' G p 7 w.drew (.some c (hl.below ((Below.refl _ _).drew) hl.lt)) hp (by omega)
  clear h h2 h3 hl hp hT
  go_enter Tryz.func207, Tryz.ntmps207
  go_wp2_with fail
  go_region_with (first | (go_at_call 62; refine hW.mono ?_; rintro e w1 ⟨rfl, h1⟩))
  all_goals
    have h1' := (Below.refl _ w).drew.trans h1
    clear hW h1 c2 c3
    go_wp2_with fail
    go_ret
    exact ⟨rfl, h1'⟩
end
theorem ip_of (w : World) (x c : Nat) (who : Int) (cs cs' : Array Value) (T : TypeId) (h : Blk w x cs T) (hs : 3 ≤ cs.size) (hcs : (cs.setIfInBounds 2 (.pointer (some ⟨c, 0, none⟩))).setIfInBounds 0 (.int .i64 who) = cs') :
    Calls Tryz.prog 197 #[.pointer (some ⟨x, 0, none⟩), .pointer (some ⟨c, 0, none⟩), .int .i64 who] w fun e w' => (∃ v, e = .returned v) ∧ Blk w' x cs' T ∧ But [x] w w' ∧ w'.heap.size = w.heap.size := by
  have f2 := h.fro 2
  have hh2 := h.set 2 (.pointer (some ⟨c, 0, none⟩))
  have hF := fof_any _ x _ T who hh2 (by simp; omega)
  have hB0 : But [x] w (w.setCell ⟨x, 2, none⟩ (.pointer (some ⟨c, 0, none⟩))) := (But.refl _ w).set (g := x) (.inl (by simp)) 2 _
  obtain ⟨u, hu⟩ : ∃ u, w.cell? ⟨x, 2, none⟩ = some u := ⟨_, h.cell 2 (Array.getElem?_eq_getElem hs)⟩
  have HH : Hid (Blk _ x _ T ∧ But [x] w _ ∧ (w.setCell ⟨x, 2, none⟩ (.pointer (some ⟨c, 0, none⟩))).heap.size = w.heap.size) := ⟨hh2, hB0, size_set _ _ _⟩
  clear h hh2 hB0 hs
  go_enter Tryz.func197, Tryz.ntmps197
  go_wp2_with fail
  generalize w.setCell ⟨x, 2, none⟩ (.pointer (some ⟨c, 0, none⟩)) = W at *
  go_at_call 121; refine hF.mono ?_; rintro e w3 ⟨⟨v, rfl⟩, hw3⟩
  have h3 : Blk w3 x cs' T := by rw [hw3, ← hcs]; exact HH.out.1.set 0 _
  have hB3 : But [x] w w3 := by rw [hw3]; exact HH.out.2.1.set (g := x) (.inl (by simp)) 0 _
  have hs3 : w3.heap.size = w.heap.size := by rw [hw3, size_set]; exact HH.out.2.2
  clear hF hw3 HH hcs hu f2
  go_wp2_with fail
  go_end0
  exact ⟨⟨_, rfl⟩, h3, hB3, hs3⟩
theorem ip_bit (w : World) (p : Int) : Calls Tryz.prog 211 #[.int .i64 p] w fun e w' => e = .returned (.int .u64 (bitOf p)) ∧ w = w' := by
  by_cases h0 : p < 0
  · have e : bitOf p = 0 := by unfold bitOf; rw [if_neg (by omega)]
    rw [e]
    go_enter Tryz.func211, Tryz.ntmps211
    go_wp2_with fail
    go_ret
    exact ⟨rfl, rfl⟩
  · have d0 : decide (p < 0) = false := decide_eq_false h0
    by_cases h1 : 64 ≤ p
    · have e : bitOf p = 0 := by unfold bitOf; rw [if_neg (by omega)]
      rw [e]
      clear h0
      go_enter Tryz.func211, Tryz.ntmps211
      go_wp2_with fail
      go_ret
      exact ⟨rfl, rfl⟩
    · have d1 : decide (64 ≤ p) = false := decide_eq_false h1
      have hp0 : 0 ≤ p := by omega
      have e : IntKind.u64.wrap (1 * 2 ^ min p.toNat 64) = bitOf p := by
        have hm : min p.toNat 64 = p.toNat := by omega
        have hb := bitOf_bd p
        have hc : ((2 ^ p.toNat : Nat) : Int) = (2 : Int) ^ p.toNat := by simp
        rw [hm, Int.one_mul, ← hc]
        have : bitOf p = ((2 ^ p.toNat : Nat) : Int) := by unfold bitOf; rw [if_pos (by omega)]
        rw [← this]
        exact wrap_u64 (by omega)
      have HE : Hid (IntKind.u64.wrap (1 * 2 ^ min p.toNat 64) = bitOf p) := e
      clear h0 h1 e
      go_enter Tryz.func211, Tryz.ntmps211
      go_wp2_with fail
      go_ret
      have e := HE.out
      first
        | exact ⟨by rw [e], rfl⟩
        | (simp at e ⊢; exact e)
def ipCells (who : Int) (nx : Option Addr) (cl : Nat) (p : Int) (has : Bool) : Array Value := #[.int .i64 who, .pointer nx, .pointer (some ⟨cl, 0, none⟩), .int .i64 p, .bool has]
theorem ent_ip1 : Ent 202 := fun args w => by kernel_rfl
theorem ent_ip2 : Ent 212 := fun args w => by kernel_rfl
theorem ent_ip3 : Ent 216 := fun args w => by kernel_rfl
theorem ent_ip4 : Ent 219 := fun args w => by kernel_rfl
theorem ent_ip5 : Ent 221 := fun args w => by kernel_rfl
theorem iput_mask (w : World) (x cl : Nat) (who p : Int) (has : Bool) (nx : Option Addr) (v : Int) (hv : 0 ≤ v ∧ v ≤ 18446744073709551615) (h : Blk w x (ipCells who nx cl p has) 185) :
    Calls Tryz.prog 202 #[.pointer (some ⟨x, 0, none⟩), .int .u64 v] w fun e w' => (∃ v, e = .returned v) ∧ Came w w' x (ipCells who nx cl p has) 185 (axSt 19 (mskIn v p)) (.untold 212) := by
  have c3 := h.cell 3 (v := .int .i64 p) rfl
  have hb := (or_bit v p hv).1
  have HB := ip_bit w.drew p
  have H := ip_store w.drew x cl _ 185 h.drew (by simp [ipCells]) rfl 19 (by omega) (mskIn v p) 212
  generalize bitOf p = bp at *
  generalize mskIn v p = mv at *
  clear h hv
  go_enter Tryz.func202, Tryz.ntmps202
  go_wp2_with fail
  go_region_with (first | (go_at_call 211; refine HB.mono ?_; rintro e w4 ⟨rfl, rfl⟩) | (go_at_call 210; refine H.mono ?_; rintro e w5 ⟨⟨v, rfl⟩, hC⟩))
  all_goals
    have hC2 := hC.undrew
    clear HB H c3 hC hb
    go_wp2_with fail
    go_end0
    exact ⟨⟨_, rfl⟩, hC2⟩
theorem iput_look (w : World) (x cl : Nat) (who p : Int) (has : Bool) (nx : Option Addr) (h : Blk w x (ipCells who nx cl p has) 185) :
    Calls Tryz.prog 212 #[.pointer (some ⟨x, 0, none⟩)] w fun e w' => (∃ v, e = .returned v) ∧ Came w w' x (ipCells who nx cl p has) 185 (axLd 9) (.told 216) := by
  have H := ip_load w x cl _ 185 h (by simp [ipCells]) rfl 9 (by omega) 216
  clear h
  go_enter Tryz.func212, Tryz.ntmps212
  go_wp2_with fail
  go_at_call 198; refine H.mono ?_; rintro e w1 ⟨⟨u, rfl⟩, hC⟩
  clear H
  go_wp2_with fail
  go_end0
  exact ⟨⟨_, rfl⟩, hC⟩
theorem iput_link (w : World) (x cl : Nat) (who p : Int) (has : Bool) (nx : Option Addr) (P T G : Int) (v : Int) (hl : Lay w cl P T G) (hxc : cl ≠ x) (hp : 0 ≤ P ∧ P ≤ 64) (hT : 0 ≤ T ∧ T ≤ 65536) (h : Blk w x (ipCells who nx cl p has) 185) :
    Calls Tryz.prog 216 #[.pointer (some ⟨x, 0, none⟩), .int .u64 v] w fun e w' => (∃ v, e = .returned v) ∧ Came w w' x (ipCells who nx cl p has) 185 (axSt (wd 20 P 264 p 7) v) (.untold 219) := by
  have h' := h
  have hB : But [x] w w := But.refl _ _
  have hl' := hl
  have hV : True := trivial
  have hW := ip_behind w.drew x cl _ 185 h'.drew rfl P T G p rfl (hl'.below ((Below.refl _ _).drew) hl'.lt) hp hT
  have HS : Hid (∀ w4, Below w.drew.heap.size w.drew w4 → Calls Tryz.prog 159 #[.pointer (some ⟨x, 0, none⟩), .int .i64 (wd 20 P 264 p 7), .int .u64 v, .func (.func 219) #[.pointer (some ⟨x, 0, none⟩)] #[]] w4 fun e w' => (∃ v, e = .returned v) ∧ Came w w' x (ipCells who nx cl p has) 185 (axSt (wd 20 P 264 p 7) v) (.untold 219)) := by
    intro w4 k
    have hB4 : But [x] w w4 := hB.trans (((But.refl [x] w).drew).trans (But.of_below k))
    have h4 : Blk w4 x (ipCells who nx cl p has) 185 := h'.drew.but (But.of_below (l := []) k) (by simp)
    refine (came_store w4 x _ 185 h4 (by simp [ipCells]) _ v 219).mono ?_
    rintro e w5 ⟨hv, hC⟩
    exact ⟨hv, hC.before hB4⟩
  generalize wd 20 P 264 p 7 = at' at *
  clear h h' hB hl hl' hp hT hxc
  go_enter Tryz.func216, Tryz.ntmps216
  go_wp2_with fail
  clear hV
  go_region_with (first | (go_at_call 207; refine hW.mono ?_; rintro e w4 ⟨rfl, k⟩) | (go_at_call 159; refine (HS.out _ k).mono ?_; rintro e w5 ⟨⟨v, rfl⟩, hC⟩))
  all_goals
    clear hW k HS
    go_wp2_with fail
    go_end0
    exact ⟨⟨_, rfl⟩, hC⟩
theorem iput_lead (w : World) (x cl : Nat) (who p : Int) (has : Bool) (nx : Option Addr) (h : Blk w x (ipCells who nx cl p has) 185) :
    Calls Tryz.prog 219 #[.pointer (some ⟨x, 0, none⟩)] w fun e w' => (∃ v, e = .returned v) ∧ Came w w' x (ipCells who nx cl p has) 185 (axSt 9 (ilw p)) (.untold 221) := by
  have c3 := h.cell 3 (v := .int .i64 p) rfl
  have he : IntKind.u64.wrap (IntKind.u64.wrap p + 1) = ilw p := rfl
  have H := ip_store w.drew x cl _ 185 h.drew (by simp [ipCells]) rfl 9 (by omega) (ilw p) 221
  generalize ilw p = lp at *
  clear h
  go_enter Tryz.func219, Tryz.ntmps219
  go_wp2_with fail
  go_region_with (first | (go_at_call 210; refine H.mono ?_; rintro e w5 ⟨⟨v, rfl⟩, hC⟩))
  all_goals
    have hC2 := hC.undrew
    clear H c3 hC he
    go_wp2_with fail
    go_end0
    exact ⟨⟨_, rfl⟩, hC2⟩
theorem iput_leave (w : World) (x cl : Nat) (who p : Int) (has : Bool) (nx : Option Addr) (h : Blk w x (ipCells who nx cl p has) 185) :
    Calls Tryz.prog 221 #[.pointer (some ⟨x, 0, none⟩)] w fun e w' => (∃ v, e = .returned v) ∧ Came w w' x (ipCells who nx cl p false) 185 (axAd 10 1) .nil := by
  have c4 := h.cell 4 (v := .bool has) rfl
  have f4 := h.fro 4
  have hlt := h.lt
  have h' : Blk (w.setCell ⟨x, 4, none⟩ (.bool false)) x (ipCells who nx cl p false) 185 := h.set 4 (.bool false)
  have hB : But [x] w (w.setCell ⟨x, 4, none⟩ (.bool false)) := (But.refl _ w).set (g := x) (.inl (by simp)) 4 _
  have H := ip_count _ x cl _ 185 h' (by simp [ipCells]) rfl 1
  clear h h'
  go_enter Tryz.func221, Tryz.ntmps221
  go_wp2_with fail
  go_at_call 222; refine H.mono ?_; rintro e w1 ⟨⟨u, rfl⟩, hC⟩
  have hC2 := hC.before hB
  clear H hC hB c4 f4
  go_wp2_with fail
  go_end0
  exact ⟨⟨_, rfl⟩, hC2⟩
inductive IpT where
  | m0
  | ms (w : Int)
  | h0
  | ln (h : Int)
  | st
  | ct
  | over
def ipPM (P p : Int) : PM IpT where
  ax := fun
    | .m0 => some (axLd 19)
    | .ms w => some (axSt 19 (mskIn w p))
    | .h0 => some (axLd 9)
    | .ln h => some (axSt (wd 20 P 264 p 7) h)
    | .st => some (axSt 9 (ilw p))
    | .ct => some (axAd 10 1)
    | .over => none
  nx := fun
    | .m0, v => .ms v
    | .ms _, _ => .h0
    | .h0, v => .ln v
    | .ln _, _ => .st
    | .st, _ => .ct
    | .ct, _ => .over
    | t, _ => t
def IpT.has : IpT → Bool
  | .ct => false
  | .over => false
  | _ => true
/-- Which one is held. -/
def IpT.obs (p : Int) (t : IpT) : Int := if t.has then p else -1
def ipFl (who p : Int) (cl : Nat) : Fl IpT where
  T := 185
  cells := fun t nx => ipCells who nx cl p t.has
  fol := fun
    | .m0 => .told 202
    | .ms _ => .untold 212
    | .h0 => .told 216
    | .ln _ => .untold 219
    | .st => .untold 221
    | .ct => .nil
    | .over => .nil
  ok := fun
    | .ms w => 0 ≤ w ∧ w ≤ 18446744073709551615
    | .ln h => 0 ≤ h ∧ h ≤ 18446744073709551615
    | _ => True
theorem ip_laws (who P T G p : Int) (cl : Nat) (hp : 0 ≤ P ∧ P ≤ 64) (hT : 0 ≤ T ∧ T ≤ 65536) : (ipFl who p cl).Laws (ipPM P p) (Rd.lay cl P T G) who where
  c0 := fun t nx => rfl
  c1 := fun t nx => rfl
  set := fun t nx nx' => rfl
  axok := fun t a hok h => by
    cases t with
    | m0 => cases h; exact axLd_ok _
    | ms w => cases h; exact axSt_ok _ _ (or_bit w p hok).2
    | h0 => cases h; exact axLd_ok _
    | ln h' => cases h; exact axSt_ok _ _ hok
    | st => cases h; exact axSt_ok _ _ (ilw_bd p)
    | ct => cases h; exact axAd_ok _ _ (by omega)
    | over => cases h
  ents := fun t a h => by
    cases t with
    | m0 => exact ent_ip1
    | ms w => exact ent_ip2
    | h0 => exact ent_ip3
    | ln h' => exact ent_ip4
    | st => exact ent_ip5
    | ct => exact trivial
    | over => exact trivial
  ok := fun t a v hok h hv => by
    cases t with
    | m0 => exact hv
    | h0 => exact hv
    | _ => exact trivial
  fol := fun W x t a v hok h hv hB hR hxR => by
    have hcx : cl ≠ x := fun e => hxR (by rw [e]; exact List.mem_singleton.2 rfl)
    cases t with
    | m0 => cases h; exact iput_mask W x cl who p true none v hv hB
    | ms w => cases h; exact iput_look W x cl who p true none hB
    | h0 => cases h; exact iput_link W x cl who p true none P T G v hR hcx hp hT hB
    | ln h' => cases h; exact iput_lead W x cl who p true none hB
    | st => cases h; exact iput_leave W x cl who p true none hB
    | ct => cases h; exact ⟨hB, But.refl _ _⟩
    | over => cases h
theorem ip_new (w : World) (cl : Nat) (who p : Int) (P : Int) :
    Calls Tryz.prog 188 #[.pointer (some ⟨cl, 0, none⟩), .int .i64 who, .int .i64 p] w fun e w' => ∃ x L, e = .returned (.pointer (some ⟨x, 0, none⟩)) ∧ (ipFl who p cl).I (ipPM P p) w' x .m0 L ∧ Below w.heap.size w w' ∧ (∀ k ∈ L, w.heap.size ≤ k) ∧ w.heap.size ≤ x := by
  have hB := Blk.new w #[.int .i64 0, .pointer none, .pointer none, .int .i64 0, .bool true] 185
  have hb : Below w.heap.size w (w.alloc (.cells #[.int .i64 0, .pointer none, .pointer none, .int .i64 0, .bool true] 185)) := (Below.refl _ _).alloc (Nat.le_refl _) _
  have hO := ip_of _ w.heap.size cl who _ (ipCells who none cl 0 true) 185 hB (by simp) rfl
  have HH : Hid (Below w.heap.size w (w.alloc (.cells #[.int .i64 0, .pointer none, .pointer none, .int .i64 0, .bool true] 185))) := hb
  have hsz := World.size_alloc w (.cells #[.int .i64 0, .pointer none, .pointer none, .int .i64 0, .bool true] 185)
  clear hB hb
  go_enter Tryz.func188, Tryz.ntmps188
  go_wp2_with fail
  go_at_call 197; refine hO.mono ?_; rintro e w1 ⟨⟨v, rfl⟩, h1, h2, h3⟩
  have hlt := h1.lt
  have c3 := h1.cell 3 (v := .int .i64 0) rfl
  have f3 := h1.fro 3
  have h1' : Blk (w1.setCell ⟨w.heap.size, 3, none⟩ (.int .i64 p)) w.heap.size (ipCells who none cl p true) 185 := h1.set 3 (.int .i64 p)
  have h2' : But [w.heap.size] (w.alloc (.cells #[.int .i64 0, .pointer none, .pointer none, .int .i64 0, .bool true] 185)) (w1.setCell ⟨w.heap.size, 3, none⟩ (.int .i64 p)) := h2.set (g := w.heap.size) (.inl (by simp)) 3 _
  have h3' : (w1.setCell ⟨w.heap.size, 3, none⟩ (.int .i64 p)).heap.size = w.heap.size + 1 := by rw [size_set, h3, hsz]
  have hb1 : Hid (Below w.heap.size w (w1.setCell ⟨w.heap.size, 3, none⟩ (.int .i64 p))) := HH.out.trans (h2'.below (by simp) (by rw [hsz]; omega))
  have hL := ip_load (w1.setCell ⟨w.heap.size, 3, none⟩ (.int .i64 p)) w.heap.size cl _ 185 h1' (by simp [ipCells]) rfl 19 (by omega) 202
  clear hO h2 HH h1 h1' h2'
  go_wp2_with fail
  go_at_call 198; refine hL.mono ?_; rintro e w2 ⟨⟨v2, rfl⟩, hC⟩
  obtain ⟨q, Lc, c1, c2, c3, c4⟩ := hC
  have hF : Hid ((ipFl who p cl).I (ipPM P p) w2 w.heap.size .m0 (w.heap.size :: Lc) ∧ Below w.heap.size w w2 ∧ ∀ k ∈ w.heap.size :: Lc, w.heap.size ≤ k) := by
    refine ⟨⟨trivial, q, Lc, c1, c2, fun hm => by have := c4 _ hm; omega, rfl⟩, hb1.out.trans (c3.below (by simp) hb1.out.size), fun k hk => ?_⟩
    simp at hk
    rcases hk with rfl | hk
    · exact Nat.le_refl _
    · have := c4 k hk; omega
  clear hL c1 c2 c3 c4
  go_wp2_with fail
  go_ret
  exact ⟨w.heap.size, w.heap.size :: Lc, rfl, hF.out.1, hF.out.2.1, hF.out.2.2, Nat.le_refl _⟩
theorem iput_holds (w : World) (x cl : Nat) (who p : Int) (has : Bool) (nx : Option Addr) (h : Blk w x (ipCells who nx cl p has) 185) :
    Calls Tryz.prog 85 #[.pointer (some ⟨x, 0, none⟩)] w fun e w' => e = .returned (.int .i64 (if has then p else -1)) ∧ w = w' := by
  have c3 := h.cell 3 (v := .int .i64 p) rfl
  have c4 := h.cell 4 (v := .bool has) rfl
  clear h
  cases has with
  | false =>
    go_enter Tryz.func85, Tryz.ntmps85
    go_wp2_with fail
    go_ret
    exact ⟨rfl, rfl⟩
  | true =>
    go_enter Tryz.func85, Tryz.ntmps85
    go_wp2_with fail
    go_ret
    exact ⟨rfl, rfl⟩
theorem iput_holds_nil (w : World) : Calls Tryz.prog 85 #[.pointer none] w fun e w' => e = .returned (.int .i64 (-1)) ∧ w = w' := by
  go_enter Tryz.func85, Tryz.ntmps85
  go_wp2_with fail
  go_ret
  exact ⟨rfl, rfl⟩
theorem ip_holds {who P p : Int} {cl : Nat} {w : World} {x : Nat} {t : IpT} {L : List Nat} (h : (ipFl who p cl).I (ipPM P p) w x t L) :
    Calls Tryz.prog 85 #[.pointer (some ⟨x, 0, none⟩)] w fun e w' => e = .returned (.int .i64 (t.obs p)) ∧ w = w' := by
  obtain ⟨nx, h1, -⟩ := Fl.blk h
  exact iput_holds w x cl who p t.has nx h1
end Go.Proofs.YthbgoakaijeemaaGreat

namespace Go.Proofs.YthbgoakaijeemaaGreat
open Go Go.RowKit
set_option linter.unusedVariables false
set_option maxRecDepth 100000
set_option linter.unusedSimpArgs false

def igCells (who : Int) (nx : Option Addr) (cl : Nat) (p : Int) (n : Int) (z : Bool) : Array Value := #[.int .i64 who, .pointer nx, .pointer (some ⟨cl, 0, none⟩), .int .i64 p, .int .u64 n, .bool z]
theorem ent_ig1 : Ent 199 := fun args w => by kernel_rfl
theorem ent_ig2 : Ent 208 := fun args w => by kernel_rfl
theorem ent_ig3 : Ent 215 := fun args w => by kernel_rfl
theorem ent_ig4 : Ent 218 := fun args w => by kernel_rfl
theorem ent_ig5 : Ent 220 := fun args w => by kernel_rfl
theorem iget_choose_none (w : World) (x : Nat) :
    Calls Tryz.prog 199 #[.pointer (some ⟨x, 0, none⟩), .int .u64 0] w fun e w' => (∃ v, e = .returned v) ∧ w = w' := by
  go_enter Tryz.func199, Tryz.ntmps199
  go_wp2_with fail
  refine bodyPost_ret (results_none rfl _ _ _) rfl ?_
  exact ⟨⟨_, rfl⟩, rfl⟩
set_option maxHeartbeats 4000000 in
theorem iget_choose (w : World) (x cl : Nat) (who p n : Int) (z : Bool) (nx : Option Addr) (P T G : Int) (v : Int) (hv : v ≠ 0) (hl : Lay w cl P T G) (hxc : cl ≠ x) (hp : 0 ≤ P ∧ P ≤ 64) (hT : 0 ≤ T ∧ T ≤ 65536) (h : Blk w x (igCells who nx cl p n z) 191) :
    Calls Tryz.prog 199 #[.pointer (some ⟨x, 0, none⟩), .int .u64 v] w fun e w' => (∃ v, e = .returned v) ∧ Came w w' x (igCells who nx cl (gw v) n z) 191 (axLd (wd 20 P 264 (gw v) 7)) (.told 208) := by
  obtain ⟨zz, hz⟩ : ∃ zz, IntKind.u64.wrap (v - 1) = zz := ⟨_, rfl⟩
  obtain ⟨y, hy⟩ : ∃ y, IntKind.i64.wrap zz = y := ⟨_, rfl⟩
  have hgw : gw v = y := by unfold gw; rw [hz, hy]
  rw [hgw]
  have hd : (v == 0) = false := by simpa using hv
  have c3 := h.cell 3 (v := .int .i64 p) rfl
  have f3 := h.fro 3
  have hlt := h.lt
  have h' : Blk (w.setCell ⟨x, 3, none⟩ (.int .i64 y)) x (igCells who nx cl y n z) 191 := h.set 3 (.int .i64 y)
  have hB : But [x] w (w.setCell ⟨x, 3, none⟩ (.int .i64 y)) := (But.refl _ w).set (g := x) (.inl (by simp)) 3 _
  have hl' : Lay (w.setCell ⟨x, 3, none⟩ (.int .i64 y)) cl P T G := (hB.block cl hl.lt (by simpa using hxc)).trans hl
  generalize hV : (w.setCell ⟨x, 3, none⟩ (.int .i64 y)) = V at h' hB hl'
  have hW := ip_behind V.drew x cl _ 191 h'.drew rfl P T G y rfl (hl'.below ((Below.refl _ _).drew) hl'.lt) hp hT
  have HS : Hid (∀ w4, Below V.drew.heap.size V.drew w4 → Calls Tryz.prog 91 #[.pointer (some ⟨x, 0, none⟩), .int .i64 (wd 20 P 264 y 7), .func (.func 208) #[.pointer (some ⟨x, 0, none⟩)] #[]] w4 fun e w' => (∃ v, e = .returned v) ∧ Came w w' x (igCells who nx cl y n z) 191 (axLd (wd 20 P 264 y 7)) (.told 208)) := by
    intro w4 k
    have hB4 : But [x] w w4 := hB.trans (((But.refl [x] V).drew).trans (But.of_below k))
    have h4 : Blk w4 x (igCells who nx cl y n z) 191 := h'.drew.but (But.of_below (l := []) k) (by simp)
    refine (came_load w4 x _ 191 h4 (by simp [igCells]) _ 208).mono ?_
    rintro e w5 ⟨hv, hC⟩
    exact ⟨hv, hC.before hB4⟩
  generalize wd 20 P 264 y 7 = at' at *
  clear h h' hB hl hl' hp hT hxc hv hgw
  go_enter Tryz.func199, Tryz.ntmps199
  go_wp2_with fail
  try rw [hV]
  clear hV c3 f3
  go_region_with (first | (go_at_call 207; refine hW.mono ?_; rintro e w4 ⟨rfl, k⟩) | (go_at_call 91; refine (HS.out _ k).mono ?_; rintro e w5 ⟨⟨v, rfl⟩, hC⟩))
  all_goals
    clear hW k HS
    go_wp2_with fail
    go_end0
    exact ⟨⟨_, rfl⟩, hC⟩
theorem iget_lookMask (w : World) (x cl : Nat) (who p n : Int) (z : Bool) (nx : Option Addr) (v : Int) (h : Blk w x (igCells who nx cl p n z) 191) :
    Calls Tryz.prog 208 #[.pointer (some ⟨x, 0, none⟩), .int .u64 v] w fun e w' => (∃ v, e = .returned v) ∧ Came w w' x (igCells who nx cl p v z) 191 (axLd 19) (.told 215) := by
  have c4 := h.cell 4 (v := .int .u64 n) rfl
  have f4 := h.fro 4
  have hlt := h.lt
  have h' : Blk (w.setCell ⟨x, 4, none⟩ (.int .u64 v)) x (igCells who nx cl p v z) 191 := h.set 4 (.int .u64 v)
  have hB : But [x] w (w.setCell ⟨x, 4, none⟩ (.int .u64 v)) := (But.refl _ w).set (g := x) (.inl (by simp)) 4 _
  have H := ip_load _ x cl _ 191 h' (by simp [igCells]) rfl 19 (by omega) 215
  clear h h'
  go_enter Tryz.func208, Tryz.ntmps208
  go_wp2_with fail
  go_at_call 198; refine H.mono ?_; rintro e w1 ⟨⟨u, rfl⟩, hC⟩
  have hC2 := hC.before hB
  clear H hC hB c4 f4
  go_wp2_with fail
  go_end0
  exact ⟨⟨_, rfl⟩, hC2⟩
theorem iget_unmask (w : World) (x cl : Nat) (who p n : Int) (z : Bool) (nx : Option Addr) (v : Int) (hv : 0 ≤ v ∧ v ≤ 18446744073709551615) (h : Blk w x (igCells who nx cl p n z) 191) :
    Calls Tryz.prog 215 #[.pointer (some ⟨x, 0, none⟩), .int .u64 v] w fun e w' => (∃ v, e = .returned v) ∧ Came w w' x (igCells who nx cl p n z) 191 (axSt 19 (mskOut v p)) (.untold 218) := by
  have c3 := h.cell 3 (v := .int .i64 p) rfl
  have hb := (an_bit v p hv).1
  have HB := ip_bit w.drew p
  have H := ip_store w.drew x cl _ 191 h.drew (by simp [igCells]) rfl 19 (by omega) (mskOut v p) 218
  generalize bitOf p = bp at *
  generalize mskOut v p = mv at *
  clear h hv
  go_enter Tryz.func215, Tryz.ntmps215
  go_wp2_with fail
  go_region_with (first | (go_at_call 211; refine HB.mono ?_; rintro e w4 ⟨rfl, rfl⟩) | (go_at_call 210; refine H.mono ?_; rintro e w5 ⟨⟨v, rfl⟩, hC⟩))
  all_goals
    have hC2 := hC.undrew
    clear HB H c3 hC hb
    go_wp2_with fail
    go_end0
    exact ⟨⟨_, rfl⟩, hC2⟩
theorem iget_unlink (w : World) (x cl : Nat) (who p n : Int) (z : Bool) (nx : Option Addr) (h : Blk w x (igCells who nx cl p n z) 191) :
    Calls Tryz.prog 218 #[.pointer (some ⟨x, 0, none⟩)] w fun e w' => (∃ v, e = .returned v) ∧ Came w w' x (igCells who nx cl p n z) 191 (axSt 9 n) (.untold 220) := by
  have c4 := h.cell 4 (v := .int .u64 n) rfl
  have H := ip_store w.drew x cl _ 191 h.drew (by simp [igCells]) rfl 9 (by omega) n 220
  clear h
  go_enter Tryz.func218, Tryz.ntmps218
  go_wp2_with fail
  go_region_with (first | (go_at_call 210; refine H.mono ?_; rintro e w5 ⟨⟨v, rfl⟩, hC⟩))
  all_goals
    have hC2 := hC.undrew
    clear H c4 hC
    go_wp2_with fail
    go_end0
    exact ⟨⟨_, rfl⟩, hC2⟩
theorem iget_have (w : World) (x cl : Nat) (who p n : Int) (z : Bool) (nx : Option Addr) (h : Blk w x (igCells who nx cl p n z) 191) :
    Calls Tryz.prog 220 #[.pointer (some ⟨x, 0, none⟩)] w fun e w' => (∃ v, e = .returned v) ∧ Came w w' x (igCells who nx cl p n true) 191 (axAd 10 4294967295) .nil := by
  have c5 := h.cell 5 (v := .bool z) rfl
  have f5 := h.fro 5
  have hlt := h.lt
  have h' : Blk (w.setCell ⟨x, 5, none⟩ (.bool true)) x (igCells who nx cl p n true) 191 := h.set 5 (.bool true)
  have hB : But [x] w (w.setCell ⟨x, 5, none⟩ (.bool true)) := (But.refl _ w).set (g := x) (.inl (by simp)) 5 _
  have H := ip_count _ x cl _ 191 h' (by simp [igCells]) rfl 4294967295
  clear h h'
  go_enter Tryz.func220, Tryz.ntmps220
  go_wp2_with fail
  go_at_call 222; refine H.mono ?_; rintro e w1 ⟨⟨u, rfl⟩, hC⟩
  have hC2 := hC.before hB
  clear H hC hB c5 f5
  go_wp2_with fail
  go_end0
  exact ⟨⟨_, rfl⟩, hC2⟩
inductive IgT where
  | ld
  | lk (y : Int)
  | ms (y l : Int)
  | um (y l w : Int)
  | un (y l : Int)
  | ct (y l : Int)
  | none'
  | over (y l : Int)
def igPM (P : Int) : PM IgT where
  ax := fun
    | .ld => some (axLd 9)
    | .lk y => some (axLd (wd 20 P 264 y 7))
    | .ms _ _ => some (axLd 19)
    | .um y _ w => some (axSt 19 (mskOut w y))
    | .un _ l => some (axSt 9 l)
    | .ct _ _ => some (axAd 10 4294967295)
    | .none' => none
    | .over _ _ => none
  nx := fun
    | .ld, v => if v = 0 then .none' else .lk (gw v)
    | .lk y, v => .ms y v
    | .ms y l, v => .um y l v
    | .um y l _, _ => .un y l
    | .un y l, _ => .ct y l
    | .ct y l, _ => .over y l
    | t, _ => t
def IgT.p : IgT → Int
  | .lk y => y
  | .ms y _ => y
  | .um y _ _ => y
  | .un y _ => y
  | .ct y _ => y
  | .over y _ => y
  | _ => 0
def IgT.l : IgT → Int
  | .ms _ l => l
  | .um _ l _ => l
  | .un _ l => l
  | .ct _ l => l
  | .over _ l => l
  | _ => 0
def IgT.z : IgT → Bool
  | .ct _ _ => true
  | .over _ _ => true
  | _ => false
/-- Which one was got. -/
def IgT.obs (t : IgT) : Int := if t.z then t.p else -1
def igFl (who : Int) (cl : Nat) : Fl IgT where
  T := 191
  cells := fun t nx => igCells who nx cl t.p t.l t.z
  fol := fun
    | .ld => .told 199
    | .lk _ => .told 208
    | .ms _ _ => .told 215
    | .um _ _ _ => .untold 218
    | .un _ _ => .untold 220
    | _ => .nil
  ok := fun t => (0 ≤ t.l ∧ t.l ≤ 18446744073709551615) ∧ match t with
    | .um _ _ w => 0 ≤ w ∧ w ≤ 18446744073709551615
    | _ => True
theorem ig_laws (who P T G : Int) (cl : Nat) (hp : 0 ≤ P ∧ P ≤ 64) (hT : 0 ≤ T ∧ T ≤ 65536) : (igFl who cl).Laws (igPM P) (Rd.lay cl P T G) who where
  c0 := fun t nx => rfl
  c1 := fun t nx => rfl
  set := fun t nx nx' => rfl
  axok := fun t a hok h => by
    cases t with
    | ld => cases h; exact axLd_ok _
    | lk y => cases h; exact axLd_ok _
    | ms y l => cases h; exact axLd_ok _
    | um y l w => cases h; exact axSt_ok _ _ (an_bit w y hok.2).2
    | un y l => cases h; exact axSt_ok _ _ hok.1
    | ct y l => cases h; exact axAd_ok _ _ (by omega)
    | none' => cases h
    | over y l => cases h
  ents := fun t a h => by
    cases t with
    | ld => exact ent_ig1
    | lk y => exact ent_ig2
    | ms y l => exact ent_ig3
    | um y l w => exact ent_ig4
    | un y l => exact ent_ig5
    | _ => exact trivial
  ok := fun t a v hok h hv => by
    cases t with
    | ld => by_cases h0 : v = 0 <;> simp [igPM, igFl, h0, IgT.l]
    | lk y => exact ⟨hv, trivial⟩
    | ms y l => exact ⟨hok.1, hv⟩
    | um y l w => exact ⟨hok.1, trivial⟩
    | un y l => exact ⟨hok.1, trivial⟩
    | ct y l => exact ⟨hok.1, trivial⟩
    | none' => cases h
    | over y l => cases h
  fol := fun W x t a v hok h hv hB hR hxR => by
    have hcx : cl ≠ x := fun e => hxR (by rw [e]; exact List.mem_singleton.2 rfl)
    cases t with
    | ld =>
      cases h
      by_cases h0 : v = 0
      · subst h0
        refine (iget_choose_none W x).mono ?_
        rintro e w' ⟨hu, rfl⟩
        exact ⟨hu, hB, But.refl _ _⟩
      · have e : (igPM P).nx .ld v = .lk (gw v) := if_neg h0
        rw [e]
        exact iget_choose W x cl who 0 0 false none P T G v h0 hR hcx hp hT hB
    | lk y => cases h; exact iget_lookMask W x cl who y 0 false none v hB
    | ms y l => cases h; exact iget_unmask W x cl who y l false none v hv hB
    | um y l w => cases h; exact iget_unlink W x cl who y l false none hB
    | un y l => cases h; exact iget_have W x cl who y l false none hB
    | ct y l => cases h; exact ⟨hB, But.refl _ _⟩
    | none' => cases h
    | over y l => cases h
theorem ig_new (w : World) (cl : Nat) (who : Int) (P : Int) :
    Calls Tryz.prog 182 #[.pointer (some ⟨cl, 0, none⟩), .int .i64 who] w fun e w' => ∃ x L, e = .returned (.pointer (some ⟨x, 0, none⟩)) ∧ (igFl who cl).I (igPM P) w' x .ld L ∧ Below w.heap.size w w' ∧ (∀ k ∈ L, w.heap.size ≤ k) ∧ w.heap.size ≤ x := by
  have hB := Blk.new w #[.int .i64 0, .pointer none, .pointer none, .int .i64 0, .int .u64 0, .bool false] 191
  have hb : Below w.heap.size w (w.alloc (.cells #[.int .i64 0, .pointer none, .pointer none, .int .i64 0, .int .u64 0, .bool false] 191)) := (Below.refl _ _).alloc (Nat.le_refl _) _
  have hO := ip_of _ w.heap.size cl who _ (igCells who none cl 0 0 false) 191 hB (by simp) rfl
  have HH : Hid (Below w.heap.size w (w.alloc (.cells #[.int .i64 0, .pointer none, .pointer none, .int .i64 0, .int .u64 0, .bool false] 191))) := hb
  have hsz := World.size_alloc w (.cells #[.int .i64 0, .pointer none, .pointer none, .int .i64 0, .int .u64 0, .bool false] 191)
  clear hB hb
  go_enter Tryz.func182, Tryz.ntmps182
  go_wp2_with fail
  go_at_call 197; refine hO.mono ?_; rintro e w1 ⟨⟨v, rfl⟩, h1, h2, h3⟩
  have hlt := h1.lt
  have hb1 : Hid (Below w.heap.size w w1) := HH.out.trans (h2.below (by simp) (by rw [hsz]; omega))
  have hL := ip_load w1 w.heap.size cl _ 191 h1 (by simp [igCells]) rfl 9 (by omega) 199
  have h3' : w1.heap.size = w.heap.size + 1 := by rw [h3, hsz]
  clear hO h2 HH h1
  go_wp2_with fail
  go_at_call 198; refine hL.mono ?_; rintro e w2 ⟨⟨v2, rfl⟩, hC⟩
  obtain ⟨q, Lc, c1, c2, c3, c4⟩ := hC
  have hF : Hid ((igFl who cl).I (igPM P) w2 w.heap.size .ld (w.heap.size :: Lc) ∧ Below w.heap.size w w2 ∧ ∀ k ∈ w.heap.size :: Lc, w.heap.size ≤ k) := by
    refine ⟨⟨⟨by decide, trivial⟩, q, Lc, c1, c2, fun hm => by have := c4 _ hm; omega, rfl⟩, hb1.out.trans (c3.below (by simp) hb1.out.size), fun k hk => ?_⟩
    simp at hk
    rcases hk with rfl | hk
    · exact Nat.le_refl _
    · have := c4 k hk; omega
  clear hL c1 c2 c3 c4
  go_wp2_with fail
  go_ret
  exact ⟨w.heap.size, w.heap.size :: Lc, rfl, hF.out.1, hF.out.2.1, hF.out.2.2, Nat.le_refl _⟩
theorem iget_p (w : World) (x cl : Nat) (who p n : Int) (z : Bool) (nx : Option Addr) (h : Blk w x (igCells who nx cl p n z) 191) :
    Calls Tryz.prog 98 #[.pointer (some ⟨x, 0, none⟩)] w fun e w' => e = .returned (.int .i64 (if z then p else -1)) ∧ w = w' := by
  have c3 := h.cell 3 (v := .int .i64 p) rfl
  have cz := h.cell 5 (v := .bool z) rfl
  clear h
  cases z with
  | false =>
    go_enter Tryz.func98, Tryz.ntmps98
    go_wp2_with fail
    go_ret
    exact ⟨rfl, rfl⟩
  | true =>
    go_enter Tryz.func98, Tryz.ntmps98
    go_wp2_with fail
    go_ret
    exact ⟨rfl, rfl⟩
theorem iget_p_nil (w : World) : Calls Tryz.prog 98 #[.pointer none] w fun e w' => e = .returned (.int .i64 (-1)) ∧ w = w' := by
  go_enter Tryz.func98, Tryz.ntmps98
  go_wp2_with fail
  go_ret
  exact ⟨rfl, rfl⟩
theorem ig_got {who P : Int} {cl : Nat} {w : World} {x : Nat} {t : IgT} {L : List Nat} (h : (igFl who cl).I (igPM P) w x t L) :
    Calls Tryz.prog 98 #[.pointer (some ⟨x, 0, none⟩)] w fun e w' => e = .returned (.int .i64 t.obs) ∧ w = w' := by
  obtain ⟨nx, h1, -⟩ := Fl.blk h
  exact iget_p w x cl who t.p t.l t.z nx h1
end Go.Proofs.YthbgoakaijeemaaGreat

namespace Go.Proofs.YthbgoakaijeemaaGreat
open Go Go.RowKit
set_option linter.unusedVariables false
set_option maxRecDepth 100000
set_option linter.unusedSimpArgs false

structure IgIn {σ : Type} (M : PM σ) (P : Int) (emb : IgT → σ) : Prop where
  ld : M.ax (emb .ld) = some (axLd 9)
  lk : ∀ y, M.ax (emb (.lk y)) = some (axLd (wd 20 P 264 y 7))
  ms : ∀ y l, M.ax (emb (.ms y l)) = some (axLd 19)
  um : ∀ y l w, M.ax (emb (.um y l w)) = some (axSt 19 (mskOut w y))
  un : ∀ y l, M.ax (emb (.un y l)) = some (axSt 9 l)
  ct : ∀ y l, M.ax (emb (.ct y l)) = some (axAd 10 4294967295)
  n1 : ∀ v, M.nx (emb .ld) v = if v = 0 then emb .none' else emb (.lk (gw v))
  n2 : ∀ y v, M.nx (emb (.lk y)) v = emb (.ms y v)
  n3 : ∀ y l v, M.nx (emb (.ms y l)) v = emb (.um y l v)
  n4 : ∀ y l w v, M.nx (emb (.um y l w)) v = emb (.un y l)
  n5 : ∀ y l v, M.nx (emb (.un y l)) v = emb (.ct y l)
  n6 : ∀ y l v, M.nx (emb (.ct y l)) v = emb (.over y l)
def IgT.live : IgT → Bool
  | .none' => false
  | .over _ _ => false
  | _ => true
/-- Where a get stopped, and what it answered. -/
def IgQ {σ : Type} (Q : σ → Prop) (emb : IgT → σ) (r : Int) (q : σ) : Prop := (Q q ∧ r = -1) ∨ ∃ p', IgT.live p' = true ∧ q = emb p' ∧ r = p'.obs
theorem ig_in (P : Int) : IgIn (igPM P) P (fun t => t) := ⟨rfl, fun _ => rfl, fun _ _ => rfl, fun _ _ _ => rfl, fun _ _ => rfl, fun _ _ => rfl, fun _ => rfl, fun _ _ => rfl, fun _ _ _ => rfl, fun _ _ _ _ => rfl, fun _ _ _ => rfl, fun _ _ _ => rfl⟩

set_option maxHeartbeats 4000000 in
theorem syn_iget {σ : Type} {M : PM σ} {P T G : Int} {emb : IgT → σ} (hE : IgIn M P emb) (hp : 0 ≤ P ∧ P ≤ 64)
    {w : World} {x : Nat} {A : Option Addr} {cap m : Nat} {g : Nat → Int} {s0 : σ} {j : Nat} {Q : σ → Prop} (hR : RunOn w x A cap m g (M.rj s0 g m j)) (hS : Syn M s0 g m j (emb .ld) Q) (hb : ∀ j, j < m → 0 ≤ g j ∧ g j ≤ 18446744073709551615) :
    Calls Tryz.prog 97 #[.pointer (some ⟨x, 0, none⟩), .agg #[.int .i64 P, .int .i64 T, .int .i64 G]] w fun e w' => ∃ r j' p, e = .returned (.int .i64 r) ∧ RunOn w' x A cap m g (M.rj s0 g m j') ∧ Syn M s0 g m j' (emb p) (IgQ Q emb r) ∧ p.live = false ∧ (j' ≤ m → r = p.obs) ∧ But [x] w w' ∧ j ≤ j' := by
  have hb0 : Below w.heap.size w (w.alloc (.cells #[.int .i64 P, .int .i64 T, .int .i64 G] 23)) := (Below.refl _ _).alloc (Nat.le_refl _) _
  have HX : Hid (Blk (w.alloc (.cells #[.int .i64 P, .int .i64 T, .int .i64 G] 23)) w.heap.size #[.int .i64 P, .int .i64 T, .int .i64 G] 23) := Blk.new _ _ _
  have hxw := hR.blk.lt
  have HB0 : Hid (But [x] w (w.alloc (.cells #[.int .i64 P, .int .i64 T, .int .i64 G] 23))) := But.of_below hb0
  have HE : Hid (IgIn M P emb) := hE
  have HBD : Hid (∀ j, j < m → 0 ≤ g j ∧ g j ≤ 18446744073709551615) := hb
  have hPA := fun (y : Int) W => rprcAt_all P T G y 7 W hp.2 (by omega)
  have hL := syn_load (hR.below hb0) hS hb 9 (fun _ => hE.ld)
  clear hR hS hE hb hb0 hp
  go_enter Tryz.func97, Tryz.ntmps97
  go_wp2_with fail
  generalize w.alloc (.cells #[.int .i64 P, .int .i64 T, .int .i64 G] 23) = W at *
  go_at_call 94; refine hL.mono ?_; rintro e y2 ⟨v, rfl, hK⟩
  have HR2 : Hid (RunOn y2 x A cap m g (M.rj s0 g m (j + 1))) := hK.run
  have HV2 : Hid (0 ≤ v ∧ v ≤ 18446744073709551615) := hK.bd
  have HS2 : Hid (Syn M s0 g m (j + 1) ((if v = 0 then emb .none' else emb (.lk (gw v)))) (fun q => Q q ∨ ∃ p', p'.live = true ∧ q = emb p' ∧ p'.obs = -1)) := by
    have := hK.syn
    rw [HE.out.n1] at this
    exact this.weak (fun r hr => by rcases hr with rfl | hr; exact .inr ⟨.ld, rfl, rfl, rfl⟩; exact .inl hr)
  have HB2 : Hid (But [x] w y2) := HB0.out.trans hK.but
  have HX2 : Hid (Blk y2 w.heap.size #[.int .i64 P, .int .i64 T, .int .i64 G] 23) := HX.out.but hK.but (by simp; omega)
  clear hL hK HB0 HX
  by_cases h0 : v = 0
  · subst h0
    clear hPA
    go_wp2_with fail
    go_ret
    refine ⟨-1, j + 1, .none', rfl, HR2.out, (HS2.out.as (t' := emb .none') (fun _ => by simp)).weak ?_, rfl, fun _ => rfl, HB2.out, Nat.le_succ j⟩
    rintro q (hq | ⟨p', h1, h2, h3⟩)
    · exact .inl ⟨hq, rfl⟩
    · exact .inr ⟨p', h1, h2, h3.symm⟩
  · have hd0 : (v == 0) = false := by simpa using h0
    have e1 : wrap64 (IntKind.i64.wrap v - 1) = gw v := gw_eq v HV2.out
    have HS2' : Hid (Syn M s0 g m (j + 1) (emb (.lk (gw v))) (fun q => Q q ∨ ∃ p', p'.live = true ∧ q = emb p' ∧ p'.obs = -1)) := HS2.out.as (fun _ => if_neg h0)
    clear HS2
    have HS2 := HS2'
    clear HS2'
    generalize hyy : gw v = y at *
    generalize hvv : IntKind.i64.wrap v = v' at *
    have hPA2 := hPA y
    clear hPA hyy HV2
    have k0 := HX2.out.cell 0 (v := .int .i64 P) rfl
    have k1 := HX2.out.cell 1 (v := .int .i64 T) rfl
    have k2 := HX2.out.cell 2 (v := .int .i64 G) rfl
    have hPl := hPA2 y2
    have HAc : Hid (∀ Y, Below y2.heap.size y2 Y → _) := fun Y (hY : Below y2.heap.size y2 Y) => syn_load (HR2.out.below hY) HS2.out HBD.out (wd 20 P 264 y 7) (fun _ => HE.out.lk y)
    go_wp2_with fail
    go_at_call 79; refine hPl.mono ?_; rintro e y3 ⟨rfl, h5⟩
    have hA := HAc.out y3 h5
    have HB3 : Hid (But [x] w y3) := HB2.out.trans (But.of_below h5)
    have HX3 : Hid (Blk y3 w.heap.size #[.int .i64 P, .int .i64 T, .int .i64 G] 23) := HX2.out.but (But.of_below (l := []) h5) (by simp)
    clear hPl h5 k0 k1 k2 HX2 HB2 HAc HR2
    go_wp2_with fail
    clear hPA2
    go_at_call 94; refine hA.mono ?_; rintro e y4 ⟨l, rfl, hK⟩
    have HR4 : Hid (RunOn y4 x A cap m g (M.rj s0 g m (j + 1 + 1))) := hK.run
    have HV4 : Hid (0 ≤ l ∧ l ≤ 18446744073709551615) := hK.bd
    have HS4 : Hid (Syn M s0 g m (j + 1 + 1) (emb (.ms y l)) (fun q => Q q ∨ ∃ p', p'.live = true ∧ q = emb p' ∧ p'.obs = -1)) := by
      have := hK.syn
      rw [HE.out.n2] at this
      exact this.weak (fun r hr => by rcases hr with rfl | hr; exact .inr ⟨.lk y, rfl, rfl, rfl⟩; exact hr)
    have HB4 : Hid (But [x] w y4) := HB3.out.trans hK.but
    have HX4 : Hid (Blk y4 w.heap.size #[.int .i64 P, .int .i64 T, .int .i64 G] 23) := HX3.out.but hK.but (by simp; omega)
    clear hA hK HB3 HX3
    have hL4 := syn_load HR4.out HS4.out HBD.out 19 (fun _ => HE.out.ms y l)
    clear HX4 HR4
    go_wp2_with fail
    go_at_call 94; refine hL4.mono ?_; rintro e y5 ⟨v2, rfl, hK⟩
    have HR5 : Hid (RunOn y5 x A cap m g (M.rj s0 g m (j + 1 + 1 + 1))) := hK.run
    have HV5 : Hid (0 ≤ v2 ∧ v2 ≤ 18446744073709551615) := hK.bd
    have HS5 : Hid (Syn M s0 g m (j + 1 + 1 + 1) (emb (.um y l v2)) (fun q => Q q ∨ ∃ p', p'.live = true ∧ q = emb p' ∧ p'.obs = -1)) := by
      have := hK.syn
      rw [HE.out.n3] at this
      exact this.weak (fun r hr => by rcases hr with rfl | hr; exact .inr ⟨.ms y l, rfl, rfl, rfl⟩; exact hr)
    have HB5 : Hid (But [x] w y5) := HB4.out.trans hK.but
    clear hL4 hK HB4
    clear HS4
    have hMk := rmasked_any v2 y y5 HV5.out
    have hBt := rbit_any y y5
    have han := an_bit v2 y HV5.out
    have HSt := syn_store HR5.out HS5.out HBD.out 19 (mskOut v2 y) (fun _ => HE.out.um y l v2)
    clear HR5 HV5
    cases hmb : mskB v2 y
    · rw [hmb] at hMk
      have hmv : mskOut v2 y = v2 := by unfold mskOut; rw [hmb]; rfl
      rw [hmv] at HSt
      clear hmb han hmv hBt
      go_wp2_with fail
      go_at_call 136; refine hMk.mono ?_; rintro e w1 ⟨rfl, rfl⟩
      clear hMk
      go_wp2_with fail
      go_at_call 77; refine HSt.mono ?_; rintro e y6 ⟨⟨u6, rfl⟩, v6, hK⟩
      have HR6 : Hid (RunOn y6 x A cap m g (M.rj s0 g m (j + 1 + 1 + 1 + 1))) := hK.run
      have HS6 : Hid (Syn M s0 g m (j + 1 + 1 + 1 + 1) (emb (.un y l)) (fun q => Q q ∨ ∃ p', p'.live = true ∧ q = emb p' ∧ p'.obs = -1)) := by
        have := hK.syn
        rw [HE.out.n4] at this
        exact this.weak (fun r hr => by rcases hr with rfl | hr; exact .inr ⟨.um y l v2, rfl, rfl, rfl⟩; exact hr)
      have HB6 : Hid (But [x] w y6) := HB5.out.trans hK.but
      clear HSt hK HB5
      have hSt2 := syn_store HR6.out HS6.out HBD.out 9 l (fun _ => HE.out.un y l)
      clear HR6 HS5
      go_wp2_with fail
      go_at_call 77; refine hSt2.mono ?_; rintro e y7 ⟨⟨u7, rfl⟩, v7, hK⟩
      have HR7 : Hid (RunOn y7 x A cap m g (M.rj s0 g m (j + 1 + 1 + 1 + 1 + 1))) := hK.run
      have HS7 : Hid (Syn M s0 g m (j + 1 + 1 + 1 + 1 + 1) (emb (.ct y l)) (fun q => Q q ∨ ∃ p', p'.live = true ∧ q = emb p' ∧ p'.obs = -1)) := by
        have := hK.syn
        rw [HE.out.n5] at this
        exact this.weak (fun r hr => by rcases hr with rfl | hr; exact .inr ⟨.un y l, rfl, rfl, rfl⟩; exact hr)
      have HB7 : Hid (But [x] w y7) := HB6.out.trans hK.but
      clear hSt2 hK HB6
      clear HS6
      have sc := HR7.out.blk.cell 2 (v := .bool (M.rj s0 g m (j + 1 + 1 + 1 + 1 + 1)).stop) rfl
      rw [rj_stop HS7.out] at sc
      by_cases hst : m < j + 1 + 1 + 1 + 1 + 1
      · have HST : Hid (m < j + 1 + 1 + 1 + 1 + 1) := hst
        have HPAST : Hid (IgQ Q emb (-1) (M.run s0 g m)) := by
          rcases (HS7.out.past hst).1 with hq | ⟨p', h1, h2, h3⟩
          · exact .inl ⟨hq, rfl⟩
          · exact .inr ⟨p', h1, h2, h3.symm⟩
        rw [decide_eq_true hst] at sc
        have hA7 := syn_add HR7.out HS7.out HBD.out 10 4294967295 (fun _ => HE.out.ct y l)
        clear hst
        go_wp2_with fail
        go_at_call 78; refine hA7.mono ?_; rintro e y9 ⟨v9, rfl, hK⟩
        have HF : Hid (RunOn y9 x A cap m g (M.rj s0 g m (j + 1 + 1 + 1 + 1 + 1 + 1)) ∧ Syn M s0 g m (j + 1 + 1 + 1 + 1 + 1 + 1) (emb (.over y l)) (IgQ Q emb (-1)) ∧ But [x] w y9) := by
          exact ⟨hK.run, ⟨fun h => absurd h (by have := HST.out; omega), fun h => ⟨HPAST.out, (HS7.out.past HST.out).2⟩⟩, HB7.out.trans hK.but⟩
        clear hA7 hK sc
        go_wp2_with fail
        go_ret
        exact ⟨-1, j + 1 + 1 + 1 + 1 + 1 + 1, .over y l, rfl, HF.out.1, HF.out.2.1, rfl, fun h => absurd h (by have := HST.out; omega), HF.out.2.2, by omega⟩
      · have HST : Hid (j + 1 + 1 + 1 + 1 + 1 ≤ m) := (by omega : j + 1 + 1 + 1 + 1 + 1 ≤ m)
        rw [decide_eq_false hst] at sc
        have hA7 := syn_add HR7.out HS7.out HBD.out 10 4294967295 (fun _ => HE.out.ct y l)
        clear hst
        go_wp2_with fail
        go_at_call 78; refine hA7.mono ?_; rintro e y9 ⟨v9, rfl, hK⟩
        have HF : Hid (RunOn y9 x A cap m g (M.rj s0 g m (j + 1 + 1 + 1 + 1 + 1 + 1)) ∧ Syn M s0 g m (j + 1 + 1 + 1 + 1 + 1 + 1) (emb (.over y l)) (IgQ Q emb y) ∧ But [x] w y9) := by
          have := hK.syn
          rw [HE.out.n6] at this
          refine ⟨hK.run, ⟨this.at', fun h => ⟨?_, (this.past h).2⟩⟩, HB7.out.trans hK.but⟩
          have hm : m = j + 1 + 1 + 1 + 1 + 1 := by have := HST.out; omega
          have h2 := HS7.out.at' HST.out
          rw [← hm] at h2
          exact .inr ⟨.ct y l, rfl, h2, rfl⟩
        clear hA7 hK sc
        go_wp2_with fail
        go_ret
        exact ⟨y, j + 1 + 1 + 1 + 1 + 1 + 1, .over y l, rfl, HF.out.1, HF.out.2.1, rfl, fun _ => rfl, HF.out.2.2, by omega⟩
    · rw [hmb] at hMk
      have hmv : mskOut v2 y = v2 - bitOf y := by unfold mskOut; rw [hmb]; rfl
      have hwv : IntKind.u64.wrap (v2 - bitOf y) = mskOut v2 y := by rw [← hmv]; exact wrap_u64 (by omega)
      clear hmb han hmv
      generalize mskOut v2 y = mv at *
      generalize bitOf y = bp at *
      go_wp2_with fail
      go_at_call 136; refine hMk.mono ?_; rintro e w1 ⟨rfl, rfl⟩
      go_wp2_with fail
      go_at_call 137; refine hBt.mono ?_; rintro e w1 ⟨rfl, rfl⟩
      clear hMk hBt
      go_wp2_with fail
      go_at_call 77; refine HSt.mono ?_; rintro e y6 ⟨⟨u6, rfl⟩, v6, hK⟩
      have HR6 : Hid (RunOn y6 x A cap m g (M.rj s0 g m (j + 1 + 1 + 1 + 1))) := hK.run
      have HS6 : Hid (Syn M s0 g m (j + 1 + 1 + 1 + 1) (emb (.un y l)) (fun q => Q q ∨ ∃ p', p'.live = true ∧ q = emb p' ∧ p'.obs = -1)) := by
        have := hK.syn
        rw [HE.out.n4] at this
        exact this.weak (fun r hr => by rcases hr with rfl | hr; exact .inr ⟨.um y l v2, rfl, rfl, rfl⟩; exact hr)
      have HB6 : Hid (But [x] w y6) := HB5.out.trans hK.but
      clear HSt hK HB5
      have hSt2 := syn_store HR6.out HS6.out HBD.out 9 l (fun _ => HE.out.un y l)
      clear HR6 HS5
      go_wp2_with fail
      go_at_call 77; refine hSt2.mono ?_; rintro e y7 ⟨⟨u7, rfl⟩, v7, hK⟩
      have HR7 : Hid (RunOn y7 x A cap m g (M.rj s0 g m (j + 1 + 1 + 1 + 1 + 1))) := hK.run
      have HS7 : Hid (Syn M s0 g m (j + 1 + 1 + 1 + 1 + 1) (emb (.ct y l)) (fun q => Q q ∨ ∃ p', p'.live = true ∧ q = emb p' ∧ p'.obs = -1)) := by
        have := hK.syn
        rw [HE.out.n5] at this
        exact this.weak (fun r hr => by rcases hr with rfl | hr; exact .inr ⟨.un y l, rfl, rfl, rfl⟩; exact hr)
      have HB7 : Hid (But [x] w y7) := HB6.out.trans hK.but
      clear hSt2 hK HB6
      clear HS6
      have sc := HR7.out.blk.cell 2 (v := .bool (M.rj s0 g m (j + 1 + 1 + 1 + 1 + 1)).stop) rfl
      rw [rj_stop HS7.out] at sc
      by_cases hst : m < j + 1 + 1 + 1 + 1 + 1
      · have HST : Hid (m < j + 1 + 1 + 1 + 1 + 1) := hst
        have HPAST : Hid (IgQ Q emb (-1) (M.run s0 g m)) := by
          rcases (HS7.out.past hst).1 with hq | ⟨p', h1, h2, h3⟩
          · exact .inl ⟨hq, rfl⟩
          · exact .inr ⟨p', h1, h2, h3.symm⟩
        rw [decide_eq_true hst] at sc
        have hA7 := syn_add HR7.out HS7.out HBD.out 10 4294967295 (fun _ => HE.out.ct y l)
        clear hst
        go_wp2_with fail
        go_at_call 78; refine hA7.mono ?_; rintro e y9 ⟨v9, rfl, hK⟩
        have HF : Hid (RunOn y9 x A cap m g (M.rj s0 g m (j + 1 + 1 + 1 + 1 + 1 + 1)) ∧ Syn M s0 g m (j + 1 + 1 + 1 + 1 + 1 + 1) (emb (.over y l)) (IgQ Q emb (-1)) ∧ But [x] w y9) := by
          exact ⟨hK.run, ⟨fun h => absurd h (by have := HST.out; omega), fun h => ⟨HPAST.out, (HS7.out.past HST.out).2⟩⟩, HB7.out.trans hK.but⟩
        clear hA7 hK sc
        go_wp2_with fail
        go_ret
        exact ⟨-1, j + 1 + 1 + 1 + 1 + 1 + 1, .over y l, rfl, HF.out.1, HF.out.2.1, rfl, fun h => absurd h (by have := HST.out; omega), HF.out.2.2, by omega⟩
      · have HST : Hid (j + 1 + 1 + 1 + 1 + 1 ≤ m) := (by omega : j + 1 + 1 + 1 + 1 + 1 ≤ m)
        rw [decide_eq_false hst] at sc
        have hA7 := syn_add HR7.out HS7.out HBD.out 10 4294967295 (fun _ => HE.out.ct y l)
        clear hst
        go_wp2_with fail
        go_at_call 78; refine hA7.mono ?_; rintro e y9 ⟨v9, rfl, hK⟩
        have HF : Hid (RunOn y9 x A cap m g (M.rj s0 g m (j + 1 + 1 + 1 + 1 + 1 + 1)) ∧ Syn M s0 g m (j + 1 + 1 + 1 + 1 + 1 + 1) (emb (.over y l)) (IgQ Q emb y) ∧ But [x] w y9) := by
          have := hK.syn
          rw [HE.out.n6] at this
          refine ⟨hK.run, ⟨this.at', fun h => ⟨?_, (this.past h).2⟩⟩, HB7.out.trans hK.but⟩
          have hm : m = j + 1 + 1 + 1 + 1 + 1 := by have := HST.out; omega
          have h2 := HS7.out.at' HST.out
          rw [← hm] at h2
          exact .inr ⟨.ct y l, rfl, h2, rfl⟩
        clear hA7 hK sc
        go_wp2_with fail
        go_ret
        exact ⟨y, j + 1 + 1 + 1 + 1 + 1 + 1, .over y l, rfl, HF.out.1, HF.out.2.1, rfl, fun _ => rfl, HF.out.2.2, by omega⟩

theorem rgiget_on (w : World) (x : Nat) (A : Option Addr) (cap m : Nat) (gf : Nat → Int) (P T G : Int) (t : IgT) (h : RunOn w x A cap m gf rn0) (hh : Hist (igPM P) IgT.ld gf m t) (hp : 0 ≤ P ∧ P ≤ 64) :
    Calls Tryz.prog 97 #[.pointer (some ⟨x, 0, none⟩), .agg #[.int .i64 P, .int .i64 T, .int .i64 G]] w fun e w' => e = .returned (.int .i64 t.obs) ∧ RunOn w' x A cap m gf ((igPM P).rn t m) ∧ But [x] w w' := by
  rw [← rj_start (M := igPM P) (s0 := IgT.ld) (g := gf) (m := m)] at h
  refine (syn_iget (ig_in P) hp h (Syn.start _ _ _ _) hh.bd).mono ?_
  rintro e w' ⟨r, j', p, rfl, h1, h2, h3, h4, h5, -⟩
  have hn : (igPM P).ax p = none := by cases p <;> first | rfl | cases h3
  have hr : r = t.obs := by
    rcases h2.fin hh (fun _ => hn) with ⟨e1, e2⟩ | ⟨-, (⟨hf, -⟩ | ⟨p', -, e1, e2⟩)⟩
    · rw [e1]; exact h4 (by omega)
    · exact hf.elim
    · rw [e1]; exact e2
  rw [hr]
  refine ⟨rfl, ?_, h5⟩
  rw [← rj_end h2 hh (fun _ => hn)]
  exact h1
end Go.Proofs.YthbgoakaijeemaaGreat
