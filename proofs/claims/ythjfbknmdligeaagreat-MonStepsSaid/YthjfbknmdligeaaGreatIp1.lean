/- The list of idle processors: its machines. -/
import Derived.Test.YthjfbknmdligeaaGreatIl0
import Derived.Test.YthjfbknmdligeaaGreatRunD
namespace Go.Proofs.YthjfbknmdligeaaGreat
open Go Go.RowKit
set_option linter.unusedVariables false
set_option maxRecDepth 100000
set_option linter.unusedSimpArgs false

section
variable (w : World) (x c : Nat) (cs : Array Value) (T : TypeId) (h : Blk w x cs T) (hs : 2 ≤ cs.size) (h2 : cs[2]? = some (.pointer (some ⟨c, 0, none⟩)))
include h hs h2
theorem ip_load (i : Int) (hi : 6 ≤ i ∧ i ≤ 19) (K : Nat) :
    Calls Tryz.prog 202 #[.pointer (some ⟨x, 0, none⟩), .int .i64 i, .func (.func K) #[.pointer (some ⟨x, 0, none⟩)] #[]] w fun e w' => (∃ v, e = .returned v) ∧ Came w w' x cs T (axLd i) (.told K) := by
  have H := came_load w.drew x cs T h.drew hs i K
  have c2 := h.cell 2 h2
  have hW := il_word w.drew c i hi
  clear h hs h2 hi
  go_enter Tryz.func202, Tryz.ntmps202
  go_wp2_with fail
  go_region_with (first | (go_at_call 84; refine hW.mono ?_; rintro e w3 ⟨rfl, rfl⟩) | (go_at_call 83; refine H.mono ?_; rintro e w1 ⟨⟨v, rfl⟩, hC⟩))
  all_goals
    have hC2 := hC.undrew
    clear hW H c2 hC
    go_wp2_with fail
    go_end0
    exact ⟨⟨_, rfl⟩, hC2⟩
theorem ip_store (i : Int) (hi : 6 ≤ i ∧ i ≤ 19) (u : Int) (K : Nat) :
    Calls Tryz.prog 207 #[.pointer (some ⟨x, 0, none⟩), .int .i64 i, .int .u64 u, .func (.func K) #[.pointer (some ⟨x, 0, none⟩)] #[]] w fun e w' => (∃ v, e = .returned v) ∧ Came w w' x cs T (axSt i u) (.untold K) := by
  have H := came_store w.drew x cs T h.drew hs i u K
  have c2 := h.cell 2 h2
  have hW := il_word w.drew c i hi
  clear h hs h2 hi
  go_enter Tryz.func207, Tryz.ntmps207
  go_wp2_with fail
  go_region_with (first | (go_at_call 84; refine hW.mono ?_; rintro e w3 ⟨rfl, rfl⟩) | (go_at_call 114; refine H.mono ?_; rintro e w1 ⟨⟨v, rfl⟩, hC⟩))
  all_goals
    have hC2 := hC.undrew
    clear hW H c2 hC
    go_wp2_with fail
    go_end0
    exact ⟨⟨_, rfl⟩, hC2⟩
theorem ip_count (u : Int) :
    Calls Tryz.prog 214 #[.pointer (some ⟨x, 0, none⟩), .int .u64 u] w fun e w' => (∃ v, e = .returned v) ∧ Came w w' x cs T (axAd 10 u) .nil := by
  have H := came_add_nil w.drew x cs T h.drew hs 10 u
  have c2 := h.cell 2 h2
  have hW := il_word w.drew c 10 (by omega)
  clear h hs h2
  go_enter Tryz.func214, Tryz.ntmps214
  go_wp2_with fail
  go_region_with (first | (go_at_call 84; refine hW.mono ?_; rintro e w3 ⟨rfl, rfl⟩) | (go_at_call 135; refine H.mono ?_; rintro e w1 ⟨⟨v, rfl⟩, hC⟩))
  all_goals
    have hC2 := hC.undrew
    clear hW H c2 hC
    go_wp2_with fail
    go_end0
    exact ⟨⟨_, rfl⟩, hC2⟩
omit hs in
theorem ip_behind (P T' G p : Int) (h3 : cs[3]? = some (.int .i64 p)) (hl : Lay w c P T' G) (hp : 0 ≤ P ∧ P ≤ 64) (hT : 0 ≤ T' ∧ T' ≤ 65536) :
    Calls Tryz.prog 211 #[.pointer (some ⟨x, 0, none⟩)] w fun e w' => e = .returned (.int .i64 (wd 20 P 264 p 7)) ∧ Below w.heap.size w w' := by
  have c2 := h.cell 2 h2
  have c3 := h.cell 3 h3
  have hW := lprc_any _ P T' G p 7 w.drew (.some c (hl.below ((Below.refl _ _).drew) hl.lt)) hp (by omega)
  clear h h2 h3 hl hp hT
  go_enter Tryz.func211, Tryz.ntmps211
  go_wp2_with fail
  go_region_with (first | (go_at_call 111; refine hW.mono ?_; rintro e w1 ⟨rfl, h1⟩))
  all_goals
    have h1' := (Below.refl _ w).drew.trans h1
    clear hW h1 c2 c3
    go_wp2_with fail
    go_ret
    exact ⟨rfl, h1'⟩
end
theorem ip_of (w : World) (x c : Nat) (who : Int) (cs cs' : Array Value) (T : TypeId) (h : Blk w x cs T) (hs : 3 ≤ cs.size) (hcs : (cs.setIfInBounds 2 (.pointer (some ⟨c, 0, none⟩))).setIfInBounds 0 (.int .i64 who) = cs') :
    Calls Tryz.prog 201 #[.pointer (some ⟨x, 0, none⟩), .pointer (some ⟨c, 0, none⟩), .int .i64 who] w fun e w' => (∃ v, e = .returned v) ∧ Blk w' x cs' T ∧ But [x] w w' ∧ w'.heap.size = w.heap.size := by
  have f2 := h.fro 2
  have hh2 := h.set 2 (.pointer (some ⟨c, 0, none⟩))
  have hF := fof_any _ x _ T who hh2 (by simp; omega)
  have hB0 : But [x] w (w.setCell ⟨x, 2, none⟩ (.pointer (some ⟨c, 0, none⟩))) := (But.refl _ w).set (g := x) (.inl (by simp)) 2 _
  obtain ⟨u, hu⟩ : ∃ u, w.cell? ⟨x, 2, none⟩ = some u := ⟨_, h.cell 2 (Array.getElem?_eq_getElem hs)⟩
  have HH : Hid (Blk _ x _ T ∧ But [x] w _ ∧ (w.setCell ⟨x, 2, none⟩ (.pointer (some ⟨c, 0, none⟩))).heap.size = w.heap.size) := ⟨hh2, hB0, size_set _ _ _⟩
  clear h hh2 hB0 hs
  go_enter Tryz.func201, Tryz.ntmps201
  go_wp2_with fail
  generalize w.setCell ⟨x, 2, none⟩ (.pointer (some ⟨c, 0, none⟩)) = W at *
  go_at_call 38; refine hF.mono ?_; rintro e w3 ⟨⟨v, rfl⟩, hw3⟩
  have h3 : Blk w3 x cs' T := by rw [hw3, ← hcs]; exact HH.out.1.set 0 _
  have hB3 : But [x] w w3 := by rw [hw3]; exact HH.out.2.1.set (g := x) (.inl (by simp)) 0 _
  have hs3 : w3.heap.size = w.heap.size := by rw [hw3, size_set]; exact HH.out.2.2
  clear hF hw3 HH hcs hu f2
  go_wp2_with fail
  go_end0
  exact ⟨⟨_, rfl⟩, h3, hB3, hs3⟩
theorem ip_bit (w : World) (p : Int) : Calls Tryz.prog 208 #[.int .i64 p] w fun e w' => e = .returned (.int .u64 (bitOf p)) ∧ w = w' := by
  by_cases h0 : p < 0
  · have e : bitOf p = 0 := by unfold bitOf; rw [if_neg (by omega)]
    rw [e]
    go_enter Tryz.func208, Tryz.ntmps208
    go_wp2_with fail
    go_ret
    exact ⟨rfl, rfl⟩
  · have d0 : decide (p < 0) = false := decide_eq_false h0
    by_cases h1 : 64 ≤ p
    · have e : bitOf p = 0 := by unfold bitOf; rw [if_neg (by omega)]
      rw [e]
      clear h0
      go_enter Tryz.func208, Tryz.ntmps208
      go_wp2_with fail
      go_ret
      exact ⟨rfl, rfl⟩
    · have d1 : decide (64 ≤ p) = false := decide_eq_false h1
      have hp0 : 0 ≤ p := by omega
      have e : IntKind.u64.wrap (1 * 2 ^ min p.toNat 64) = bitOf p := by
        have hm : min p.toNat 64 = p.toNat := by omega
        have hb := bitOf_bd p
        have hc : ((2 ^ p.toNat : Nat) : Int) = (2 : Int) ^ p.toNat := by simp
        rw [hm, Int.one_mul, ← hc]
        have : bitOf p = ((2 ^ p.toNat : Nat) : Int) := by unfold bitOf; rw [if_pos (by omega)]
        rw [← this]
        exact wrap_u64 (by omega)
      have HE : Hid (IntKind.u64.wrap (1 * 2 ^ min p.toNat 64) = bitOf p) := e
      clear h0 h1 e
      go_enter Tryz.func208, Tryz.ntmps208
      go_wp2_with fail
      go_ret
      have e := HE.out
      first
        | exact ⟨by rw [e], rfl⟩
        | (simp at e ⊢; exact e)
def ipCells (who : Int) (nx : Option Addr) (cl : Nat) (p : Int) (has : Bool) : Array Value := #[.int .i64 who, .pointer nx, .pointer (some ⟨cl, 0, none⟩), .int .i64 p, .bool has]
theorem ent_ip1 : Ent 203 := fun args w => by kernel_rfl
theorem ent_ip2 : Ent 209 := fun args w => by kernel_rfl
theorem ent_ip3 : Ent 210 := fun args w => by kernel_rfl
theorem ent_ip4 : Ent 212 := fun args w => by kernel_rfl
theorem ent_ip5 : Ent 213 := fun args w => by kernel_rfl
theorem iput_mask (w : World) (x cl : Nat) (who p : Int) (has : Bool) (nx : Option Addr) (v : Int) (hv : 0 ≤ v ∧ v ≤ 18446744073709551615) (h : Blk w x (ipCells who nx cl p has) 160) :
    Calls Tryz.prog 203 #[.pointer (some ⟨x, 0, none⟩), .int .u64 v] w fun e w' => (∃ v, e = .returned v) ∧ Came w w' x (ipCells who nx cl p has) 160 (axSt 19 (mskIn v p)) (.untold 209) := by
  have c3 := h.cell 3 (v := .int .i64 p) rfl
  have hb := (or_bit v p hv).1
  have HB := ip_bit w.drew p
  have H := ip_store w.drew x cl _ 160 h.drew (by simp [ipCells]) rfl 19 (by omega) (mskIn v p) 209
  generalize bitOf p = bp at *
  generalize mskIn v p = mv at *
  clear h hv
  go_enter Tryz.func203, Tryz.ntmps203
  go_wp2_with fail
  go_region_with (first | (go_at_call 208; refine HB.mono ?_; rintro e w4 ⟨rfl, rfl⟩) | (go_at_call 207; refine H.mono ?_; rintro e w5 ⟨⟨v, rfl⟩, hC⟩))
  all_goals
    have hC2 := hC.undrew
    clear HB H c3 hC hb
    go_wp2_with fail
    go_end0
    exact ⟨⟨_, rfl⟩, hC2⟩
theorem iput_look (w : World) (x cl : Nat) (who p : Int) (has : Bool) (nx : Option Addr) (h : Blk w x (ipCells who nx cl p has) 160) :
    Calls Tryz.prog 209 #[.pointer (some ⟨x, 0, none⟩)] w fun e w' => (∃ v, e = .returned v) ∧ Came w w' x (ipCells who nx cl p has) 160 (axLd 9) (.told 210) := by
  have H := ip_load w x cl _ 160 h (by simp [ipCells]) rfl 9 (by omega) 210
  clear h
  go_enter Tryz.func209, Tryz.ntmps209
  go_wp2_with fail
  go_at_call 202; refine H.mono ?_; rintro e w1 ⟨⟨u, rfl⟩, hC⟩
  clear H
  go_wp2_with fail
  go_end0
  exact ⟨⟨_, rfl⟩, hC⟩
theorem iput_link (w : World) (x cl : Nat) (who p : Int) (has : Bool) (nx : Option Addr) (P T G : Int) (v : Int) (hl : Lay w cl P T G) (hxc : cl ≠ x) (hp : 0 ≤ P ∧ P ≤ 64) (hT : 0 ≤ T ∧ T ≤ 65536) (h : Blk w x (ipCells who nx cl p has) 160) :
    Calls Tryz.prog 210 #[.pointer (some ⟨x, 0, none⟩), .int .u64 v] w fun e w' => (∃ v, e = .returned v) ∧ Came w w' x (ipCells who nx cl p has) 160 (axSt (wd 20 P 264 p 7) v) (.untold 212) := by
  have h' := h
  have hB : But [x] w w := But.refl _ _
  have hl' := hl
  have hV : True := trivial
  have hW := ip_behind w.drew x cl _ 160 h'.drew rfl P T G p rfl (hl'.below ((Below.refl _ _).drew) hl'.lt) hp hT
  have HS : Hid (∀ w4, Below w.drew.heap.size w.drew w4 → Calls Tryz.prog 114 #[.pointer (some ⟨x, 0, none⟩), .int .i64 (wd 20 P 264 p 7), .int .u64 v, .func (.func 212) #[.pointer (some ⟨x, 0, none⟩)] #[]] w4 fun e w' => (∃ v, e = .returned v) ∧ Came w w' x (ipCells who nx cl p has) 160 (axSt (wd 20 P 264 p 7) v) (.untold 212)) := by
    intro w4 k
    have hB4 : But [x] w w4 := hB.trans (((But.refl [x] w).drew).trans (But.of_below k))
    have h4 : Blk w4 x (ipCells who nx cl p has) 160 := h'.drew.but (But.of_below (l := []) k) (by simp)
    refine (came_store w4 x _ 160 h4 (by simp [ipCells]) _ v 212).mono ?_
    rintro e w5 ⟨hv, hC⟩
    exact ⟨hv, hC.before hB4⟩
  generalize wd 20 P 264 p 7 = at' at *
  clear h h' hB hl hl' hp hT hxc
  go_enter Tryz.func210, Tryz.ntmps210
  go_wp2_with fail
  clear hV
  go_region_with (first | (go_at_call 211; refine hW.mono ?_; rintro e w4 ⟨rfl, k⟩) | (go_at_call 114; refine (HS.out _ k).mono ?_; rintro e w5 ⟨⟨v, rfl⟩, hC⟩))
  all_goals
    clear hW k HS
    go_wp2_with fail
    go_end0
    exact ⟨⟨_, rfl⟩, hC⟩
theorem iput_lead (w : World) (x cl : Nat) (who p : Int) (has : Bool) (nx : Option Addr) (h : Blk w x (ipCells who nx cl p has) 160) :
    Calls Tryz.prog 212 #[.pointer (some ⟨x, 0, none⟩)] w fun e w' => (∃ v, e = .returned v) ∧ Came w w' x (ipCells who nx cl p has) 160 (axSt 9 (ilw p)) (.untold 213) := by
  have c3 := h.cell 3 (v := .int .i64 p) rfl
  have he : IntKind.u64.wrap (IntKind.u64.wrap p + 1) = ilw p := rfl
  have H := ip_store w.drew x cl _ 160 h.drew (by simp [ipCells]) rfl 9 (by omega) (ilw p) 213
  generalize ilw p = lp at *
  clear h
  go_enter Tryz.func212, Tryz.ntmps212
  go_wp2_with fail
  go_region_with (first | (go_at_call 207; refine H.mono ?_; rintro e w5 ⟨⟨v, rfl⟩, hC⟩))
  all_goals
    have hC2 := hC.undrew
    clear H c3 hC he
    go_wp2_with fail
    go_end0
    exact ⟨⟨_, rfl⟩, hC2⟩
theorem iput_leave (w : World) (x cl : Nat) (who p : Int) (has : Bool) (nx : Option Addr) (h : Blk w x (ipCells who nx cl p has) 160) :
    Calls Tryz.prog 213 #[.pointer (some ⟨x, 0, none⟩)] w fun e w' => (∃ v, e = .returned v) ∧ Came w w' x (ipCells who nx cl p false) 160 (axAd 10 1) .nil := by
  have c4 := h.cell 4 (v := .bool has) rfl
  have f4 := h.fro 4
  have hlt := h.lt
  have h' : Blk (w.setCell ⟨x, 4, none⟩ (.bool false)) x (ipCells who nx cl p false) 160 := h.set 4 (.bool false)
  have hB : But [x] w (w.setCell ⟨x, 4, none⟩ (.bool false)) := (But.refl _ w).set (g := x) (.inl (by simp)) 4 _
  have H := ip_count _ x cl _ 160 h' (by simp [ipCells]) rfl 1
  clear h h'
  go_enter Tryz.func213, Tryz.ntmps213
  go_wp2_with fail
  go_at_call 214; refine H.mono ?_; rintro e w1 ⟨⟨u, rfl⟩, hC⟩
  have hC2 := hC.before hB
  clear H hC hB c4 f4
  go_wp2_with fail
  go_end0
  exact ⟨⟨_, rfl⟩, hC2⟩
inductive IpT where
  | m0
  | ms (w : Int)
  | h0
  | ln (h : Int)
  | st
  | ct
  | over
def ipPM (P p : Int) : PM IpT where
  ax := fun
    | .m0 => some (axLd 19)
    | .ms w => some (axSt 19 (mskIn w p))
    | .h0 => some (axLd 9)
    | .ln h => some (axSt (wd 20 P 264 p 7) h)
    | .st => some (axSt 9 (ilw p))
    | .ct => some (axAd 10 1)
    | .over => none
  nx := fun
    | .m0, v => .ms v
    | .ms _, _ => .h0
    | .h0, v => .ln v
    | .ln _, _ => .st
    | .st, _ => .ct
    | .ct, _ => .over
    | t, _ => t
def IpT.has : IpT → Bool
  | .ct => false
  | .over => false
  | _ => true
/-- Which one is held. -/
def IpT.obs (p : Int) (t : IpT) : Int := if t.has then p else -1
def ipFl (who p : Int) (cl : Nat) : Fl IpT where
  T := 160
  cells := fun t nx => ipCells who nx cl p t.has
  fol := fun
    | .m0 => .told 203
    | .ms _ => .untold 209
    | .h0 => .told 210
    | .ln _ => .untold 212
    | .st => .untold 213
    | .ct => .nil
    | .over => .nil
  ok := fun
    | .ms w => 0 ≤ w ∧ w ≤ 18446744073709551615
    | .ln h => 0 ≤ h ∧ h ≤ 18446744073709551615
    | _ => True
theorem ip_laws (who P T G p : Int) (cl : Nat) (hp : 0 ≤ P ∧ P ≤ 64) (hT : 0 ≤ T ∧ T ≤ 65536) : (ipFl who p cl).Laws (ipPM P p) (Rd.lay cl P T G) who where
  c0 := fun t nx => rfl
  c1 := fun t nx => rfl
  set := fun t nx nx' => rfl
  axok := fun t a hok h => by
    cases t with
    | m0 => cases h; exact axLd_ok _
    | ms w => cases h; exact axSt_ok _ _ (or_bit w p hok).2
    | h0 => cases h; exact axLd_ok _
    | ln h' => cases h; exact axSt_ok _ _ hok
    | st => cases h; exact axSt_ok _ _ (ilw_bd p)
    | ct => cases h; exact axAd_ok _ _ (by omega)
    | over => cases h
  ents := fun t a h => by
    cases t with
    | m0 => exact ent_ip1
    | ms w => exact ent_ip2
    | h0 => exact ent_ip3
    | ln h' => exact ent_ip4
    | st => exact ent_ip5
    | ct => exact trivial
    | over => exact trivial
  ok := fun t a v hok h hv => by
    cases t with
    | m0 => exact hv
    | h0 => exact hv
    | _ => exact trivial
  fol := fun W x t a v hok h hv hB hR hxR => by
    have hcx : cl ≠ x := fun e => hxR (by rw [e]; exact List.mem_singleton.2 rfl)
    cases t with
    | m0 => cases h; exact iput_mask W x cl who p true none v hv hB
    | ms w => cases h; exact iput_look W x cl who p true none hB
    | h0 => cases h; exact iput_link W x cl who p true none P T G v hR hcx hp hT hB
    | ln h' => cases h; exact iput_lead W x cl who p true none hB
    | st => cases h; exact iput_leave W x cl who p true none hB
    | ct => cases h; exact ⟨hB, But.refl _ _⟩
    | over => cases h
theorem ip_new (w : World) (cl : Nat) (who p : Int) (P : Int) :
    Calls Tryz.prog 195 #[.pointer (some ⟨cl, 0, none⟩), .int .i64 who, .int .i64 p] w fun e w' => ∃ x L, e = .returned (.pointer (some ⟨x, 0, none⟩)) ∧ (ipFl who p cl).I (ipPM P p) w' x .m0 L ∧ Below w.heap.size w w' ∧ (∀ k ∈ L, w.heap.size ≤ k) ∧ w.heap.size ≤ x := by
  have hB := Blk.new w #[.int .i64 0, .pointer none, .pointer none, .int .i64 0, .bool true] 160
  have hb : Below w.heap.size w (w.alloc (.cells #[.int .i64 0, .pointer none, .pointer none, .int .i64 0, .bool true] 160)) := (Below.refl _ _).alloc (Nat.le_refl _) _
  have hO := ip_of _ w.heap.size cl who _ (ipCells who none cl 0 true) 160 hB (by simp) rfl
  have HH : Hid (Below w.heap.size w (w.alloc (.cells #[.int .i64 0, .pointer none, .pointer none, .int .i64 0, .bool true] 160))) := hb
  have hsz := World.size_alloc w (.cells #[.int .i64 0, .pointer none, .pointer none, .int .i64 0, .bool true] 160)
  clear hB hb
  go_enter Tryz.func195, Tryz.ntmps195
  go_wp2_with fail
  go_at_call 201; refine hO.mono ?_; rintro e w1 ⟨⟨v, rfl⟩, h1, h2, h3⟩
  have hlt := h1.lt
  have c3 := h1.cell 3 (v := .int .i64 0) rfl
  have f3 := h1.fro 3
  have h1' : Blk (w1.setCell ⟨w.heap.size, 3, none⟩ (.int .i64 p)) w.heap.size (ipCells who none cl p true) 160 := h1.set 3 (.int .i64 p)
  have h2' : But [w.heap.size] (w.alloc (.cells #[.int .i64 0, .pointer none, .pointer none, .int .i64 0, .bool true] 160)) (w1.setCell ⟨w.heap.size, 3, none⟩ (.int .i64 p)) := h2.set (g := w.heap.size) (.inl (by simp)) 3 _
  have h3' : (w1.setCell ⟨w.heap.size, 3, none⟩ (.int .i64 p)).heap.size = w.heap.size + 1 := by rw [size_set, h3, hsz]
  have hb1 : Hid (Below w.heap.size w (w1.setCell ⟨w.heap.size, 3, none⟩ (.int .i64 p))) := HH.out.trans (h2'.below (by simp) (by rw [hsz]; omega))
  have hL := ip_load (w1.setCell ⟨w.heap.size, 3, none⟩ (.int .i64 p)) w.heap.size cl _ 160 h1' (by simp [ipCells]) rfl 19 (by omega) 203
  clear hO h2 HH h1 h1' h2'
  go_wp2_with fail
  go_at_call 202; refine hL.mono ?_; rintro e w2 ⟨⟨v2, rfl⟩, hC⟩
  obtain ⟨q, Lc, c1, c2, c3, c4⟩ := hC
  have hF : Hid ((ipFl who p cl).I (ipPM P p) w2 w.heap.size .m0 (w.heap.size :: Lc) ∧ Below w.heap.size w w2 ∧ ∀ k ∈ w.heap.size :: Lc, w.heap.size ≤ k) := by
    refine ⟨⟨trivial, q, Lc, c1, c2, fun hm => by have := c4 _ hm; omega, rfl⟩, hb1.out.trans (c3.below (by simp) hb1.out.size), fun k hk => ?_⟩
    simp at hk
    rcases hk with rfl | hk
    · exact Nat.le_refl _
    · have := c4 k hk; omega
  clear hL c1 c2 c3 c4
  go_wp2_with fail
  go_ret
  exact ⟨w.heap.size, w.heap.size :: Lc, rfl, hF.out.1, hF.out.2.1, hF.out.2.2, Nat.le_refl _⟩
theorem iput_holds (w : World) (x cl : Nat) (who p : Int) (has : Bool) (nx : Option Addr) (h : Blk w x (ipCells who nx cl p has) 160) :
    Calls Tryz.prog 77 #[.pointer (some ⟨x, 0, none⟩)] w fun e w' => e = .returned (.int .i64 (if has then p else -1)) ∧ w = w' := by
  have c3 := h.cell 3 (v := .int .i64 p) rfl
  have c4 := h.cell 4 (v := .bool has) rfl
  clear h
  cases has with
  | false =>
    go_enter Tryz.func77, Tryz.ntmps77
    go_wp2_with fail
    go_ret
    exact ⟨rfl, rfl⟩
  | true =>
    go_enter Tryz.func77, Tryz.ntmps77
    go_wp2_with fail
    go_ret
    exact ⟨rfl, rfl⟩
theorem iput_holds_nil (w : World) : Calls Tryz.prog 77 #[.pointer none] w fun e w' => e = .returned (.int .i64 (-1)) ∧ w = w' := by
  go_enter Tryz.func77, Tryz.ntmps77
  go_wp2_with fail
  go_ret
  exact ⟨rfl, rfl⟩
theorem ip_holds {who P p : Int} {cl : Nat} {w : World} {x : Nat} {t : IpT} {L : List Nat} (h : (ipFl who p cl).I (ipPM P p) w x t L) :
    Calls Tryz.prog 77 #[.pointer (some ⟨x, 0, none⟩)] w fun e w' => e = .returned (.int .i64 (t.obs p)) ∧ w = w' := by
  obtain ⟨nx, h1, -⟩ := Fl.blk h
  exact iput_holds w x cl who p t.has nx h1
end Go.Proofs.YthjfbknmdligeaaGreat
