/- A goroutine as a word, of any number; a program's own word for it. -/
import Derived.Test.YtcjidigpdecdlaaGreatSIB
import Derived.Test.YtcjidigpdecdlaaGreatRunD
import Derived.Stop.Asserts
namespace Go.Proofs.YtcjidigpdecdlaaGreat
open Go Go.RowKit
set_option linter.unusedVariables false
set_option maxRecDepth 100000
set_option linter.unusedSimpArgs false

section
variable (w : World) (x c : Nat) (cs : Array Value) (T : TypeId) (h : Blk w x cs T) (hs : 2 ≤ cs.size) (h2 : cs[2]? = some (.pointer (some ⟨c, 0, none⟩)))
include h hs h2
theorem ip_load (i : Int) (hi : 6 ≤ i ∧ i ≤ 19) (K : Nat) :
    Calls Tryz.prog 275 #[.pointer (some ⟨x, 0, none⟩), .int .i64 i, .func (.func K) #[.pointer (some ⟨x, 0, none⟩)] #[]] w fun e w' => (∃ v, e = .returned v) ∧ Came w w' x cs T (axLd i) (.told K) := by
  have H := came_load w.drew x cs T h.drew hs i K
  have c2 := h.cell 2 h2
  have hW := il_word w.drew c i hi
  clear h hs h2 hi
  go_enter Tryz.func275, Tryz.ntmps275
  go_wp2_with fail
  go_region_with (first | (go_at_call 120; refine hW.mono ?_; rintro e w3 ⟨rfl, rfl⟩) | (go_at_call 119; refine H.mono ?_; rintro e w1 ⟨⟨v, rfl⟩, hC⟩))
  all_goals
    have hC2 := hC.undrew
    clear hW H c2 hC
    go_wp2_with fail
    go_end0
    exact ⟨⟨_, rfl⟩, hC2⟩
theorem ip_store (i : Int) (hi : 6 ≤ i ∧ i ≤ 19) (u : Int) (K : Nat) :
    Calls Tryz.prog 295 #[.pointer (some ⟨x, 0, none⟩), .int .i64 i, .int .u64 u, .func (.func K) #[.pointer (some ⟨x, 0, none⟩)] #[]] w fun e w' => (∃ v, e = .returned v) ∧ Came w w' x cs T (axSt i u) (.untold K) := by
  have H := came_store w.drew x cs T h.drew hs i u K
  have c2 := h.cell 2 h2
  have hW := il_word w.drew c i hi
  clear h hs h2 hi
  go_enter Tryz.func295, Tryz.ntmps295
  go_wp2_with fail
  go_region_with (first | (go_at_call 120; refine hW.mono ?_; rintro e w3 ⟨rfl, rfl⟩) | (go_at_call 125; refine H.mono ?_; rintro e w1 ⟨⟨v, rfl⟩, hC⟩))
  all_goals
    have hC2 := hC.undrew
    clear hW H c2 hC
    go_wp2_with fail
    go_end0
    exact ⟨⟨_, rfl⟩, hC2⟩
theorem ip_count (u : Int) :
    Calls Tryz.prog 312 #[.pointer (some ⟨x, 0, none⟩), .int .u64 u] w fun e w' => (∃ v, e = .returned v) ∧ Came w w' x cs T (axAd 10 u) .nil := by
  have H := came_add_nil w.drew x cs T h.drew hs 10 u
  have c2 := h.cell 2 h2
  have hW := il_word w.drew c 10 (by omega)
  clear h hs h2
  go_enter Tryz.func312, Tryz.ntmps312
  go_wp2_with fail
  go_region_with (first | (go_at_call 120; refine hW.mono ?_; rintro e w3 ⟨rfl, rfl⟩) | (go_at_call 220; refine H.mono ?_; rintro e w1 ⟨⟨v, rfl⟩, hC⟩))
  all_goals
    have hC2 := hC.undrew
    clear hW H c2 hC
    go_wp2_with fail
    go_end0
    exact ⟨⟨_, rfl⟩, hC2⟩
omit hs in
theorem ip_behind (P T' G p : Int) (h3 : cs[3]? = some (.int .i64 p)) (hl : Lay w c P T' G) (hp : 0 ≤ P ∧ P ≤ 64) (hT : 0 ≤ T' ∧ T' ≤ 65536) :
    Calls Tryz.prog 284 #[.pointer (some ⟨x, 0, none⟩)] w fun e w' => e = .returned (.int .i64 (wd 20 P 264 p 7)) ∧ Below w.heap.size w w' := by
  have c2 := h.cell 2 h2
  have c3 := h.cell 3 h3
  have hW := lprc_any _ P T' G p 7 w.drew (.some c (hl.below ((Below.refl _ _).drew) hl.lt)) hp (by omega)
  clear h h2 h3 hl hp hT
  go_enter Tryz.func284, Tryz.ntmps284
  go_wp2_with fail
  go_region_with (first | (go_at_call 174; refine hW.mono ?_; rintro e w1 ⟨rfl, h1⟩))
  all_goals
    have h1' := (Below.refl _ w).drew.trans h1
    clear hW h1 c2 c3
    go_wp2_with fail
    go_ret
    exact ⟨rfl, h1'⟩
end
theorem ip_of (w : World) (x c : Nat) (who : Int) (cs cs' : Array Value) (T : TypeId) (h : Blk w x cs T) (hs : 3 ≤ cs.size) (hcs : (cs.setIfInBounds 2 (.pointer (some ⟨c, 0, none⟩))).setIfInBounds 0 (.int .i64 who) = cs') :
    Calls Tryz.prog 274 #[.pointer (some ⟨x, 0, none⟩), .pointer (some ⟨c, 0, none⟩), .int .i64 who] w fun e w' => (∃ v, e = .returned v) ∧ Blk w' x cs' T ∧ But [x] w w' ∧ w'.heap.size = w.heap.size := by
  have f2 := h.fro 2
  have hh2 := h.set 2 (.pointer (some ⟨c, 0, none⟩))
  have hF := fof_any _ x _ T who hh2 (by simp; omega)
  have hB0 : But [x] w (w.setCell ⟨x, 2, none⟩ (.pointer (some ⟨c, 0, none⟩))) := (But.refl _ w).set (g := x) (.inl (by simp)) 2 _
  obtain ⟨u, hu⟩ : ∃ u, w.cell? ⟨x, 2, none⟩ = some u := ⟨_, h.cell 2 (Array.getElem?_eq_getElem hs)⟩
  have HH : Hid (Blk _ x _ T ∧ But [x] w _ ∧ (w.setCell ⟨x, 2, none⟩ (.pointer (some ⟨c, 0, none⟩))).heap.size = w.heap.size) := ⟨hh2, hB0, size_set _ _ _⟩
  clear h hh2 hB0 hs
  go_enter Tryz.func274, Tryz.ntmps274
  go_wp2_with fail
  generalize w.setCell ⟨x, 2, none⟩ (.pointer (some ⟨c, 0, none⟩)) = W at *
  go_at_call 153; refine hF.mono ?_; rintro e w3 ⟨⟨v, rfl⟩, hw3⟩
  have h3 : Blk w3 x cs' T := by rw [hw3, ← hcs]; exact HH.out.1.set 0 _
  have hB3 : But [x] w w3 := by rw [hw3]; exact HH.out.2.1.set (g := x) (.inl (by simp)) 0 _
  have hs3 : w3.heap.size = w.heap.size := by rw [hw3, size_set]; exact HH.out.2.2
  clear hF hw3 HH hcs hu f2
  go_wp2_with fail
  go_end0
  exact ⟨⟨_, rfl⟩, h3, hB3, hs3⟩
theorem ip_bit (w : World) (p : Int) : Calls Tryz.prog 296 #[.int .i64 p] w fun e w' => e = .returned (.int .u64 (bitOf p)) ∧ w = w' := by
  by_cases h0 : p < 0
  · have e : bitOf p = 0 := by unfold bitOf; rw [if_neg (by omega)]
    rw [e]
    go_enter Tryz.func296, Tryz.ntmps296
    go_wp2_with fail
    go_ret
    exact ⟨rfl, rfl⟩
  · have d0 : decide (p < 0) = false := decide_eq_false h0
    by_cases h1 : 64 ≤ p
    · have e : bitOf p = 0 := by unfold bitOf; rw [if_neg (by omega)]
      rw [e]
      clear h0
      go_enter Tryz.func296, Tryz.ntmps296
      go_wp2_with fail
      go_ret
      exact ⟨rfl, rfl⟩
    · have d1 : decide (64 ≤ p) = false := decide_eq_false h1
      have hp0 : 0 ≤ p := by omega
      have e : IntKind.u64.wrap (1 * 2 ^ min p.toNat 64) = bitOf p := by
        have hm : min p.toNat 64 = p.toNat := by omega
        have hb := bitOf_bd p
        have hc : ((2 ^ p.toNat : Nat) : Int) = (2 : Int) ^ p.toNat := by simp
        rw [hm, Int.one_mul, ← hc]
        have : bitOf p = ((2 ^ p.toNat : Nat) : Int) := by unfold bitOf; rw [if_pos (by omega)]
        rw [← this]
        exact wrap_u64 (by omega)
      have HE : Hid (IntKind.u64.wrap (1 * 2 ^ min p.toNat 64) = bitOf p) := e
      clear h0 h1 e
      go_enter Tryz.func296, Tryz.ntmps296
      go_wp2_with fail
      go_ret
      have e := HE.out
      first
        | exact ⟨by rw [e], rfl⟩
        | (simp at e ⊢; exact e)
def ipCells (who : Int) (nx : Option Addr) (cl : Nat) (p : Int) (has : Bool) : Array Value := #[.int .i64 who, .pointer nx, .pointer (some ⟨cl, 0, none⟩), .int .i64 p, .bool has]
theorem ent_ip1 : Ent 329 := fun args w => by kernel_rfl
theorem ent_ip2 : Ent 332 := fun args w => by kernel_rfl
theorem ent_ip3 : Ent 333 := fun args w => by kernel_rfl
theorem ent_ip4 : Ent 334 := fun args w => by kernel_rfl
theorem ent_ip5 : Ent 335 := fun args w => by kernel_rfl
theorem iput_mask (w : World) (x cl : Nat) (who p : Int) (has : Bool) (nx : Option Addr) (v : Int) (hv : 0 ≤ v ∧ v ≤ 18446744073709551615) (h : Blk w x (ipCells who nx cl p has) 299) :
    Calls Tryz.prog 329 #[.pointer (some ⟨x, 0, none⟩), .int .u64 v] w fun e w' => (∃ v, e = .returned v) ∧ Came w w' x (ipCells who nx cl p has) 299 (axSt 19 (mskIn v p)) (.untold 332) := by
  have c3 := h.cell 3 (v := .int .i64 p) rfl
  have hb := (or_bit v p hv).1
  have HB := ip_bit w.drew p
  have H := ip_store w.drew x cl _ 299 h.drew (by simp [ipCells]) rfl 19 (by omega) (mskIn v p) 332
  generalize bitOf p = bp at *
  generalize mskIn v p = mv at *
  clear h hv
  go_enter Tryz.func329, Tryz.ntmps329
  go_wp2_with fail
  go_region_with (first | (go_at_call 296; refine HB.mono ?_; rintro e w4 ⟨rfl, rfl⟩) | (go_at_call 295; refine H.mono ?_; rintro e w5 ⟨⟨v, rfl⟩, hC⟩))
  all_goals
    have hC2 := hC.undrew
    clear HB H c3 hC hb
    go_wp2_with fail
    go_end0
    exact ⟨⟨_, rfl⟩, hC2⟩
theorem iput_look (w : World) (x cl : Nat) (who p : Int) (has : Bool) (nx : Option Addr) (h : Blk w x (ipCells who nx cl p has) 299) :
    Calls Tryz.prog 332 #[.pointer (some ⟨x, 0, none⟩)] w fun e w' => (∃ v, e = .returned v) ∧ Came w w' x (ipCells who nx cl p has) 299 (axLd 9) (.told 333) := by
  have H := ip_load w x cl _ 299 h (by simp [ipCells]) rfl 9 (by omega) 333
  clear h
  go_enter Tryz.func332, Tryz.ntmps332
  go_wp2_with fail
  go_at_call 275; refine H.mono ?_; rintro e w1 ⟨⟨u, rfl⟩, hC⟩
  clear H
  go_wp2_with fail
  go_end0
  exact ⟨⟨_, rfl⟩, hC⟩
theorem iput_link (w : World) (x cl : Nat) (who p : Int) (has : Bool) (nx : Option Addr) (P T G : Int) (v : Int) (hl : Lay w cl P T G) (hxc : cl ≠ x) (hp : 0 ≤ P ∧ P ≤ 64) (hT : 0 ≤ T ∧ T ≤ 65536) (h : Blk w x (ipCells who nx cl p has) 299) :
    Calls Tryz.prog 333 #[.pointer (some ⟨x, 0, none⟩), .int .u64 v] w fun e w' => (∃ v, e = .returned v) ∧ Came w w' x (ipCells who nx cl p has) 299 (axSt (wd 20 P 264 p 7) v) (.untold 334) := by
  have h' := h
  have hB : But [x] w w := But.refl _ _
  have hl' := hl
  have hV : True := trivial
  have hW := ip_behind w.drew x cl _ 299 h'.drew rfl P T G p rfl (hl'.below ((Below.refl _ _).drew) hl'.lt) hp hT
  have HS : Hid (∀ w4, Below w.drew.heap.size w.drew w4 → Calls Tryz.prog 125 #[.pointer (some ⟨x, 0, none⟩), .int .i64 (wd 20 P 264 p 7), .int .u64 v, .func (.func 334) #[.pointer (some ⟨x, 0, none⟩)] #[]] w4 fun e w' => (∃ v, e = .returned v) ∧ Came w w' x (ipCells who nx cl p has) 299 (axSt (wd 20 P 264 p 7) v) (.untold 334)) := by
    intro w4 k
    have hB4 : But [x] w w4 := hB.trans (((But.refl [x] w).drew).trans (But.of_below k))
    have h4 : Blk w4 x (ipCells who nx cl p has) 299 := h'.drew.but (But.of_below (l := []) k) (by simp)
    refine (came_store w4 x _ 299 h4 (by simp [ipCells]) _ v 334).mono ?_
    rintro e w5 ⟨hv, hC⟩
    exact ⟨hv, hC.before hB4⟩
  generalize wd 20 P 264 p 7 = at' at *
  clear h h' hB hl hl' hp hT hxc
  go_enter Tryz.func333, Tryz.ntmps333
  go_wp2_with fail
  clear hV
  go_region_with (first | (go_at_call 284; refine hW.mono ?_; rintro e w4 ⟨rfl, k⟩) | (go_at_call 125; refine (HS.out _ k).mono ?_; rintro e w5 ⟨⟨v, rfl⟩, hC⟩))
  all_goals
    clear hW k HS
    go_wp2_with fail
    go_end0
    exact ⟨⟨_, rfl⟩, hC⟩
theorem iput_lead (w : World) (x cl : Nat) (who p : Int) (has : Bool) (nx : Option Addr) (h : Blk w x (ipCells who nx cl p has) 299) :
    Calls Tryz.prog 334 #[.pointer (some ⟨x, 0, none⟩)] w fun e w' => (∃ v, e = .returned v) ∧ Came w w' x (ipCells who nx cl p has) 299 (axSt 9 (ilw p)) (.untold 335) := by
  have c3 := h.cell 3 (v := .int .i64 p) rfl
  have he : IntKind.u64.wrap (IntKind.u64.wrap p + 1) = ilw p := rfl
  have H := ip_store w.drew x cl _ 299 h.drew (by simp [ipCells]) rfl 9 (by omega) (ilw p) 335
  generalize ilw p = lp at *
  clear h
  go_enter Tryz.func334, Tryz.ntmps334
  go_wp2_with fail
  go_region_with (first | (go_at_call 295; refine H.mono ?_; rintro e w5 ⟨⟨v, rfl⟩, hC⟩))
  all_goals
    have hC2 := hC.undrew
    clear H c3 hC he
    go_wp2_with fail
    go_end0
    exact ⟨⟨_, rfl⟩, hC2⟩
theorem iput_leave (w : World) (x cl : Nat) (who p : Int) (has : Bool) (nx : Option Addr) (h : Blk w x (ipCells who nx cl p has) 299) :
    Calls Tryz.prog 335 #[.pointer (some ⟨x, 0, none⟩)] w fun e w' => (∃ v, e = .returned v) ∧ Came w w' x (ipCells who nx cl p false) 299 (axAd 10 1) .nil := by
  have c4 := h.cell 4 (v := .bool has) rfl
  have f4 := h.fro 4
  have hlt := h.lt
  have h' : Blk (w.setCell ⟨x, 4, none⟩ (.bool false)) x (ipCells who nx cl p false) 299 := h.set 4 (.bool false)
  have hB : But [x] w (w.setCell ⟨x, 4, none⟩ (.bool false)) := (But.refl _ w).set (g := x) (.inl (by simp)) 4 _
  have H := ip_count _ x cl _ 299 h' (by simp [ipCells]) rfl 1
  clear h h'
  go_enter Tryz.func335, Tryz.ntmps335
  go_wp2_with fail
  go_at_call 312; refine H.mono ?_; rintro e w1 ⟨⟨u, rfl⟩, hC⟩
  have hC2 := hC.before hB
  clear H hC hB c4 f4
  go_wp2_with fail
  go_end0
  exact ⟨⟨_, rfl⟩, hC2⟩
inductive IpT where
  | m0
  | ms (w : Int)
  | h0
  | ln (h : Int)
  | st
  | ct
  | over
def ipPM (P p : Int) : PM IpT where
  ax := fun
    | .m0 => some (axLd 19)
    | .ms w => some (axSt 19 (mskIn w p))
    | .h0 => some (axLd 9)
    | .ln h => some (axSt (wd 20 P 264 p 7) h)
    | .st => some (axSt 9 (ilw p))
    | .ct => some (axAd 10 1)
    | .over => none
  nx := fun
    | .m0, v => .ms v
    | .ms _, _ => .h0
    | .h0, v => .ln v
    | .ln _, _ => .st
    | .st, _ => .ct
    | .ct, _ => .over
    | t, _ => t
def IpT.has : IpT → Bool
  | .ct => false
  | .over => false
  | _ => true
/-- Which one is held. -/
def IpT.obs (p : Int) (t : IpT) : Int := if t.has then p else -1
def ipFl (who p : Int) (cl : Nat) : Fl IpT where
  T := 299
  cells := fun t nx => ipCells who nx cl p t.has
  fol := fun
    | .m0 => .told 329
    | .ms _ => .untold 332
    | .h0 => .told 333
    | .ln _ => .untold 334
    | .st => .untold 335
    | .ct => .nil
    | .over => .nil
  ok := fun
    | .ms w => 0 ≤ w ∧ w ≤ 18446744073709551615
    | .ln h => 0 ≤ h ∧ h ≤ 18446744073709551615
    | _ => True
theorem ip_laws (who P T G p : Int) (cl : Nat) (hp : 0 ≤ P ∧ P ≤ 64) (hT : 0 ≤ T ∧ T ≤ 65536) : (ipFl who p cl).Laws (ipPM P p) (Rd.lay cl P T G) who where
  c0 := fun t nx => rfl
  c1 := fun t nx => rfl
  set := fun t nx nx' => rfl
  axok := fun t a hok h => by
    cases t with
    | m0 => cases h; exact axLd_ok _
    | ms w => cases h; exact axSt_ok _ _ (or_bit w p hok).2
    | h0 => cases h; exact axLd_ok _
    | ln h' => cases h; exact axSt_ok _ _ hok
    | st => cases h; exact axSt_ok _ _ (ilw_bd p)
    | ct => cases h; exact axAd_ok _ _ (by omega)
    | over => cases h
  ents := fun t a h => by
    cases t with
    | m0 => exact ent_ip1
    | ms w => exact ent_ip2
    | h0 => exact ent_ip3
    | ln h' => exact ent_ip4
    | st => exact ent_ip5
    | ct => exact trivial
    | over => exact trivial
  ok := fun t a v hok h hv => by
    cases t with
    | m0 => exact hv
    | h0 => exact hv
    | _ => exact trivial
  fol := fun W x t a v hok h hv hB hR hxR => by
    have hcx : cl ≠ x := fun e => hxR (by rw [e]; exact List.mem_singleton.2 rfl)
    cases t with
    | m0 => cases h; exact iput_mask W x cl who p true none v hv hB
    | ms w => cases h; exact iput_look W x cl who p true none hB
    | h0 => cases h; exact iput_link W x cl who p true none P T G v hR hcx hp hT hB
    | ln h' => cases h; exact iput_lead W x cl who p true none hB
    | st => cases h; exact iput_leave W x cl who p true none hB
    | ct => cases h; exact ⟨hB, But.refl _ _⟩
    | over => cases h
theorem ip_new (w : World) (cl : Nat) (who p : Int) (P : Int) :
    Calls Tryz.prog 326 #[.pointer (some ⟨cl, 0, none⟩), .int .i64 who, .int .i64 p] w fun e w' => ∃ x L, e = .returned (.pointer (some ⟨x, 0, none⟩)) ∧ (ipFl who p cl).I (ipPM P p) w' x .m0 L ∧ Below w.heap.size w w' ∧ (∀ k ∈ L, w.heap.size ≤ k) ∧ w.heap.size ≤ x := by
  have hB := Blk.new w #[.int .i64 0, .pointer none, .pointer none, .int .i64 0, .bool true] 299
  have hb : Below w.heap.size w (w.alloc (.cells #[.int .i64 0, .pointer none, .pointer none, .int .i64 0, .bool true] 299)) := (Below.refl _ _).alloc (Nat.le_refl _) _
  have hO := ip_of _ w.heap.size cl who _ (ipCells who none cl 0 true) 299 hB (by simp) rfl
  have HH : Hid (Below w.heap.size w (w.alloc (.cells #[.int .i64 0, .pointer none, .pointer none, .int .i64 0, .bool true] 299))) := hb
  have hsz := World.size_alloc w (.cells #[.int .i64 0, .pointer none, .pointer none, .int .i64 0, .bool true] 299)
  clear hB hb
  go_enter Tryz.func326, Tryz.ntmps326
  go_wp2_with fail
  go_at_call 274; refine hO.mono ?_; rintro e w1 ⟨⟨v, rfl⟩, h1, h2, h3⟩
  have hlt := h1.lt
  have c3 := h1.cell 3 (v := .int .i64 0) rfl
  have f3 := h1.fro 3
  have h1' : Blk (w1.setCell ⟨w.heap.size, 3, none⟩ (.int .i64 p)) w.heap.size (ipCells who none cl p true) 299 := h1.set 3 (.int .i64 p)
  have h2' : But [w.heap.size] (w.alloc (.cells #[.int .i64 0, .pointer none, .pointer none, .int .i64 0, .bool true] 299)) (w1.setCell ⟨w.heap.size, 3, none⟩ (.int .i64 p)) := h2.set (g := w.heap.size) (.inl (by simp)) 3 _
  have h3' : (w1.setCell ⟨w.heap.size, 3, none⟩ (.int .i64 p)).heap.size = w.heap.size + 1 := by rw [size_set, h3, hsz]
  have hb1 : Hid (Below w.heap.size w (w1.setCell ⟨w.heap.size, 3, none⟩ (.int .i64 p))) := HH.out.trans (h2'.below (by simp) (by rw [hsz]; omega))
  have hL := ip_load (w1.setCell ⟨w.heap.size, 3, none⟩ (.int .i64 p)) w.heap.size cl _ 299 h1' (by simp [ipCells]) rfl 19 (by omega) 329
  clear hO h2 HH h1 h1' h2'
  go_wp2_with fail
  go_at_call 275; refine hL.mono ?_; rintro e w2 ⟨⟨v2, rfl⟩, hC⟩
  obtain ⟨q, Lc, c1, c2, c3, c4⟩ := hC
  have hF : Hid ((ipFl who p cl).I (ipPM P p) w2 w.heap.size .m0 (w.heap.size :: Lc) ∧ Below w.heap.size w w2 ∧ ∀ k ∈ w.heap.size :: Lc, w.heap.size ≤ k) := by
    refine ⟨⟨trivial, q, Lc, c1, c2, fun hm => by have := c4 _ hm; omega, rfl⟩, hb1.out.trans (c3.below (by simp) hb1.out.size), fun k hk => ?_⟩
    simp at hk
    rcases hk with rfl | hk
    · exact Nat.le_refl _
    · have := c4 k hk; omega
  clear hL c1 c2 c3 c4
  go_wp2_with fail
  go_ret
  exact ⟨w.heap.size, w.heap.size :: Lc, rfl, hF.out.1, hF.out.2.1, hF.out.2.2, Nat.le_refl _⟩
theorem iput_holds (w : World) (x cl : Nat) (who p : Int) (has : Bool) (nx : Option Addr) (h : Blk w x (ipCells who nx cl p has) 299) :
    Calls Tryz.prog 207 #[.pointer (some ⟨x, 0, none⟩)] w fun e w' => e = .returned (.int .i64 (if has then p else -1)) ∧ w = w' := by
  have c3 := h.cell 3 (v := .int .i64 p) rfl
  have c4 := h.cell 4 (v := .bool has) rfl
  clear h
  cases has with
  | false =>
    go_enter Tryz.func207, Tryz.ntmps207
    go_wp2_with fail
    go_ret
    exact ⟨rfl, rfl⟩
  | true =>
    go_enter Tryz.func207, Tryz.ntmps207
    go_wp2_with fail
    go_ret
    exact ⟨rfl, rfl⟩
theorem iput_holds_nil (w : World) : Calls Tryz.prog 207 #[.pointer none] w fun e w' => e = .returned (.int .i64 (-1)) ∧ w = w' := by
  go_enter Tryz.func207, Tryz.ntmps207
  go_wp2_with fail
  go_ret
  exact ⟨rfl, rfl⟩
theorem ip_holds {who P p : Int} {cl : Nat} {w : World} {x : Nat} {t : IpT} {L : List Nat} (h : (ipFl who p cl).I (ipPM P p) w x t L) :
    Calls Tryz.prog 207 #[.pointer (some ⟨x, 0, none⟩)] w fun e w' => e = .returned (.int .i64 (t.obs p)) ∧ w = w' := by
  obtain ⟨nx, h1, -⟩ := Fl.blk h
  exact iput_holds w x cl who p t.has nx h1
end Go.Proofs.YtcjidigpdecdlaaGreat

namespace Go.Proofs.YtcjidigpdecdlaaGreat
open Go Go.RowKit
set_option linter.unusedVariables false
set_option maxRecDepth 100000
set_option linter.unusedSimpArgs false

def igCells (who : Int) (nx : Option Addr) (cl : Nat) (p : Int) (n : Int) (z : Bool) : Array Value := #[.int .i64 who, .pointer nx, .pointer (some ⟨cl, 0, none⟩), .int .i64 p, .int .u64 n, .bool z]
theorem ent_ig1 : Ent 276 := fun args w => by kernel_rfl
theorem ent_ig2 : Ent 285 := fun args w => by kernel_rfl
theorem ent_ig3 : Ent 290 := fun args w => by kernel_rfl
theorem ent_ig4 : Ent 297 := fun args w => by kernel_rfl
theorem ent_ig5 : Ent 303 := fun args w => by kernel_rfl
theorem iget_choose_none (w : World) (x : Nat) :
    Calls Tryz.prog 276 #[.pointer (some ⟨x, 0, none⟩), .int .u64 0] w fun e w' => (∃ v, e = .returned v) ∧ w = w' := by
  go_enter Tryz.func276, Tryz.ntmps276
  go_wp2_with fail
  refine bodyPost_ret (results_none rfl _ _ _) rfl ?_
  exact ⟨⟨_, rfl⟩, rfl⟩
set_option maxHeartbeats 4000000 in
theorem iget_choose (w : World) (x cl : Nat) (who p n : Int) (z : Bool) (nx : Option Addr) (P T G : Int) (v : Int) (hv : v ≠ 0) (hl : Lay w cl P T G) (hxc : cl ≠ x) (hp : 0 ≤ P ∧ P ≤ 64) (hT : 0 ≤ T ∧ T ≤ 65536) (h : Blk w x (igCells who nx cl p n z) 264) :
    Calls Tryz.prog 276 #[.pointer (some ⟨x, 0, none⟩), .int .u64 v] w fun e w' => (∃ v, e = .returned v) ∧ Came w w' x (igCells who nx cl (gw v) n z) 264 (axLd (wd 20 P 264 (gw v) 7)) (.told 285) := by
  obtain ⟨zz, hz⟩ : ∃ zz, IntKind.u64.wrap (v - 1) = zz := ⟨_, rfl⟩
  obtain ⟨y, hy⟩ : ∃ y, IntKind.i64.wrap zz = y := ⟨_, rfl⟩
  have hgw : gw v = y := by unfold gw; rw [hz, hy]
  rw [hgw]
  have hd : (v == 0) = false := by simpa using hv
  have c3 := h.cell 3 (v := .int .i64 p) rfl
  have f3 := h.fro 3
  have hlt := h.lt
  have h' : Blk (w.setCell ⟨x, 3, none⟩ (.int .i64 y)) x (igCells who nx cl y n z) 264 := h.set 3 (.int .i64 y)
  have hB : But [x] w (w.setCell ⟨x, 3, none⟩ (.int .i64 y)) := (But.refl _ w).set (g := x) (.inl (by simp)) 3 _
  have hl' : Lay (w.setCell ⟨x, 3, none⟩ (.int .i64 y)) cl P T G := (hB.block cl hl.lt (by simpa using hxc)).trans hl
  generalize hV : (w.setCell ⟨x, 3, none⟩ (.int .i64 y)) = V at h' hB hl'
  have hW := ip_behind V.drew x cl _ 264 h'.drew rfl P T G y rfl (hl'.below ((Below.refl _ _).drew) hl'.lt) hp hT
  have HS : Hid (∀ w4, Below V.drew.heap.size V.drew w4 → Calls Tryz.prog 119 #[.pointer (some ⟨x, 0, none⟩), .int .i64 (wd 20 P 264 y 7), .func (.func 285) #[.pointer (some ⟨x, 0, none⟩)] #[]] w4 fun e w' => (∃ v, e = .returned v) ∧ Came w w' x (igCells who nx cl y n z) 264 (axLd (wd 20 P 264 y 7)) (.told 285)) := by
    intro w4 k
    have hB4 : But [x] w w4 := hB.trans (((But.refl [x] V).drew).trans (But.of_below k))
    have h4 : Blk w4 x (igCells who nx cl y n z) 264 := h'.drew.but (But.of_below (l := []) k) (by simp)
    refine (came_load w4 x _ 264 h4 (by simp [igCells]) _ 285).mono ?_
    rintro e w5 ⟨hv, hC⟩
    exact ⟨hv, hC.before hB4⟩
  generalize wd 20 P 264 y 7 = at' at *
  clear h h' hB hl hl' hp hT hxc hv hgw
  go_enter Tryz.func276, Tryz.ntmps276
  go_wp2_with fail
  try rw [hV]
  clear hV c3 f3
  go_region_with (first | (go_at_call 284; refine hW.mono ?_; rintro e w4 ⟨rfl, k⟩) | (go_at_call 119; refine (HS.out _ k).mono ?_; rintro e w5 ⟨⟨v, rfl⟩, hC⟩))
  all_goals
    clear hW k HS
    go_wp2_with fail
    go_end0
    exact ⟨⟨_, rfl⟩, hC⟩
theorem iget_lookMask (w : World) (x cl : Nat) (who p n : Int) (z : Bool) (nx : Option Addr) (v : Int) (h : Blk w x (igCells who nx cl p n z) 264) :
    Calls Tryz.prog 285 #[.pointer (some ⟨x, 0, none⟩), .int .u64 v] w fun e w' => (∃ v, e = .returned v) ∧ Came w w' x (igCells who nx cl p v z) 264 (axLd 19) (.told 290) := by
  have c4 := h.cell 4 (v := .int .u64 n) rfl
  have f4 := h.fro 4
  have hlt := h.lt
  have h' : Blk (w.setCell ⟨x, 4, none⟩ (.int .u64 v)) x (igCells who nx cl p v z) 264 := h.set 4 (.int .u64 v)
  have hB : But [x] w (w.setCell ⟨x, 4, none⟩ (.int .u64 v)) := (But.refl _ w).set (g := x) (.inl (by simp)) 4 _
  have H := ip_load _ x cl _ 264 h' (by simp [igCells]) rfl 19 (by omega) 290
  clear h h'
  go_enter Tryz.func285, Tryz.ntmps285
  go_wp2_with fail
  go_at_call 275; refine H.mono ?_; rintro e w1 ⟨⟨u, rfl⟩, hC⟩
  have hC2 := hC.before hB
  clear H hC hB c4 f4
  go_wp2_with fail
  go_end0
  exact ⟨⟨_, rfl⟩, hC2⟩
theorem iget_unmask (w : World) (x cl : Nat) (who p n : Int) (z : Bool) (nx : Option Addr) (v : Int) (hv : 0 ≤ v ∧ v ≤ 18446744073709551615) (h : Blk w x (igCells who nx cl p n z) 264) :
    Calls Tryz.prog 290 #[.pointer (some ⟨x, 0, none⟩), .int .u64 v] w fun e w' => (∃ v, e = .returned v) ∧ Came w w' x (igCells who nx cl p n z) 264 (axSt 19 (mskOut v p)) (.untold 297) := by
  have c3 := h.cell 3 (v := .int .i64 p) rfl
  have hb := (an_bit v p hv).1
  have HB := ip_bit w.drew p
  have H := ip_store w.drew x cl _ 264 h.drew (by simp [igCells]) rfl 19 (by omega) (mskOut v p) 297
  generalize bitOf p = bp at *
  generalize mskOut v p = mv at *
  clear h hv
  go_enter Tryz.func290, Tryz.ntmps290
  go_wp2_with fail
  go_region_with (first | (go_at_call 296; refine HB.mono ?_; rintro e w4 ⟨rfl, rfl⟩) | (go_at_call 295; refine H.mono ?_; rintro e w5 ⟨⟨v, rfl⟩, hC⟩))
  all_goals
    have hC2 := hC.undrew
    clear HB H c3 hC hb
    go_wp2_with fail
    go_end0
    exact ⟨⟨_, rfl⟩, hC2⟩
theorem iget_unlink (w : World) (x cl : Nat) (who p n : Int) (z : Bool) (nx : Option Addr) (h : Blk w x (igCells who nx cl p n z) 264) :
    Calls Tryz.prog 297 #[.pointer (some ⟨x, 0, none⟩)] w fun e w' => (∃ v, e = .returned v) ∧ Came w w' x (igCells who nx cl p n z) 264 (axSt 9 n) (.untold 303) := by
  have c4 := h.cell 4 (v := .int .u64 n) rfl
  have H := ip_store w.drew x cl _ 264 h.drew (by simp [igCells]) rfl 9 (by omega) n 303
  clear h
  go_enter Tryz.func297, Tryz.ntmps297
  go_wp2_with fail
  go_region_with (first | (go_at_call 295; refine H.mono ?_; rintro e w5 ⟨⟨v, rfl⟩, hC⟩))
  all_goals
    have hC2 := hC.undrew
    clear H c4 hC
    go_wp2_with fail
    go_end0
    exact ⟨⟨_, rfl⟩, hC2⟩
theorem iget_have (w : World) (x cl : Nat) (who p n : Int) (z : Bool) (nx : Option Addr) (h : Blk w x (igCells who nx cl p n z) 264) :
    Calls Tryz.prog 303 #[.pointer (some ⟨x, 0, none⟩)] w fun e w' => (∃ v, e = .returned v) ∧ Came w w' x (igCells who nx cl p n true) 264 (axAd 10 4294967295) .nil := by
  have c5 := h.cell 5 (v := .bool z) rfl
  have f5 := h.fro 5
  have hlt := h.lt
  have h' : Blk (w.setCell ⟨x, 5, none⟩ (.bool true)) x (igCells who nx cl p n true) 264 := h.set 5 (.bool true)
  have hB : But [x] w (w.setCell ⟨x, 5, none⟩ (.bool true)) := (But.refl _ w).set (g := x) (.inl (by simp)) 5 _
  have H := ip_count _ x cl _ 264 h' (by simp [igCells]) rfl 4294967295
  clear h h'
  go_enter Tryz.func303, Tryz.ntmps303
  go_wp2_with fail
  go_at_call 312; refine H.mono ?_; rintro e w1 ⟨⟨u, rfl⟩, hC⟩
  have hC2 := hC.before hB
  clear H hC hB c5 f5
  go_wp2_with fail
  go_end0
  exact ⟨⟨_, rfl⟩, hC2⟩
inductive IgT where
  | ld
  | lk (y : Int)
  | ms (y l : Int)
  | um (y l w : Int)
  | un (y l : Int)
  | ct (y l : Int)
  | none'
  | over (y l : Int)
def igPM (P : Int) : PM IgT where
  ax := fun
    | .ld => some (axLd 9)
    | .lk y => some (axLd (wd 20 P 264 y 7))
    | .ms _ _ => some (axLd 19)
    | .um y _ w => some (axSt 19 (mskOut w y))
    | .un _ l => some (axSt 9 l)
    | .ct _ _ => some (axAd 10 4294967295)
    | .none' => none
    | .over _ _ => none
  nx := fun
    | .ld, v => if v = 0 then .none' else .lk (gw v)
    | .lk y, v => .ms y v
    | .ms y l, v => .um y l v
    | .um y l _, _ => .un y l
    | .un y l, _ => .ct y l
    | .ct y l, _ => .over y l
    | t, _ => t
def IgT.p : IgT → Int
  | .lk y => y
  | .ms y _ => y
  | .um y _ _ => y
  | .un y _ => y
  | .ct y _ => y
  | .over y _ => y
  | _ => 0
def IgT.l : IgT → Int
  | .ms _ l => l
  | .um _ l _ => l
  | .un _ l => l
  | .ct _ l => l
  | .over _ l => l
  | _ => 0
def IgT.z : IgT → Bool
  | .ct _ _ => true
  | .over _ _ => true
  | _ => false
/-- Which one was got. -/
def IgT.obs (t : IgT) : Int := if t.z then t.p else -1
def igFl (who : Int) (cl : Nat) : Fl IgT where
  T := 264
  cells := fun t nx => igCells who nx cl t.p t.l t.z
  fol := fun
    | .ld => .told 276
    | .lk _ => .told 285
    | .ms _ _ => .told 290
    | .um _ _ _ => .untold 297
    | .un _ _ => .untold 303
    | _ => .nil
  ok := fun t => (0 ≤ t.l ∧ t.l ≤ 18446744073709551615) ∧ match t with
    | .um _ _ w => 0 ≤ w ∧ w ≤ 18446744073709551615
    | _ => True
theorem ig_laws (who P T G : Int) (cl : Nat) (hp : 0 ≤ P ∧ P ≤ 64) (hT : 0 ≤ T ∧ T ≤ 65536) : (igFl who cl).Laws (igPM P) (Rd.lay cl P T G) who where
  c0 := fun t nx => rfl
  c1 := fun t nx => rfl
  set := fun t nx nx' => rfl
  axok := fun t a hok h => by
    cases t with
    | ld => cases h; exact axLd_ok _
    | lk y => cases h; exact axLd_ok _
    | ms y l => cases h; exact axLd_ok _
    | um y l w => cases h; exact axSt_ok _ _ (an_bit w y hok.2).2
    | un y l => cases h; exact axSt_ok _ _ hok.1
    | ct y l => cases h; exact axAd_ok _ _ (by omega)
    | none' => cases h
    | over y l => cases h
  ents := fun t a h => by
    cases t with
    | ld => exact ent_ig1
    | lk y => exact ent_ig2
    | ms y l => exact ent_ig3
    | um y l w => exact ent_ig4
    | un y l => exact ent_ig5
    | _ => exact trivial
  ok := fun t a v hok h hv => by
    cases t with
    | ld => by_cases h0 : v = 0 <;> simp [igPM, igFl, h0, IgT.l]
    | lk y => exact ⟨hv, trivial⟩
    | ms y l => exact ⟨hok.1, hv⟩
    | um y l w => exact ⟨hok.1, trivial⟩
    | un y l => exact ⟨hok.1, trivial⟩
    | ct y l => exact ⟨hok.1, trivial⟩
    | none' => cases h
    | over y l => cases h
  fol := fun W x t a v hok h hv hB hR hxR => by
    have hcx : cl ≠ x := fun e => hxR (by rw [e]; exact List.mem_singleton.2 rfl)
    cases t with
    | ld =>
      cases h
      by_cases h0 : v = 0
      · subst h0
        refine (iget_choose_none W x).mono ?_
        rintro e w' ⟨hu, rfl⟩
        exact ⟨hu, hB, But.refl _ _⟩
      · have e : (igPM P).nx .ld v = .lk (gw v) := if_neg h0
        rw [e]
        exact iget_choose W x cl who 0 0 false none P T G v h0 hR hcx hp hT hB
    | lk y => cases h; exact iget_lookMask W x cl who y 0 false none v hB
    | ms y l => cases h; exact iget_unmask W x cl who y l false none v hv hB
    | um y l w => cases h; exact iget_unlink W x cl who y l false none hB
    | un y l => cases h; exact iget_have W x cl who y l false none hB
    | ct y l => cases h; exact ⟨hB, But.refl _ _⟩
    | none' => cases h
    | over y l => cases h
theorem ig_new (w : World) (cl : Nat) (who : Int) (P : Int) :
    Calls Tryz.prog 264 #[.pointer (some ⟨cl, 0, none⟩), .int .i64 who] w fun e w' => ∃ x L, e = .returned (.pointer (some ⟨x, 0, none⟩)) ∧ (igFl who cl).I (igPM P) w' x .ld L ∧ Below w.heap.size w w' ∧ (∀ k ∈ L, w.heap.size ≤ k) ∧ w.heap.size ≤ x := by
  have hB := Blk.new w #[.int .i64 0, .pointer none, .pointer none, .int .i64 0, .int .u64 0, .bool false] 264
  have hb : Below w.heap.size w (w.alloc (.cells #[.int .i64 0, .pointer none, .pointer none, .int .i64 0, .int .u64 0, .bool false] 264)) := (Below.refl _ _).alloc (Nat.le_refl _) _
  have hO := ip_of _ w.heap.size cl who _ (igCells who none cl 0 0 false) 264 hB (by simp) rfl
  have HH : Hid (Below w.heap.size w (w.alloc (.cells #[.int .i64 0, .pointer none, .pointer none, .int .i64 0, .int .u64 0, .bool false] 264))) := hb
  have hsz := World.size_alloc w (.cells #[.int .i64 0, .pointer none, .pointer none, .int .i64 0, .int .u64 0, .bool false] 264)
  clear hB hb
  go_enter Tryz.func264, Tryz.ntmps264
  go_wp2_with fail
  go_at_call 274; refine hO.mono ?_; rintro e w1 ⟨⟨v, rfl⟩, h1, h2, h3⟩
  have hlt := h1.lt
  have hb1 : Hid (Below w.heap.size w w1) := HH.out.trans (h2.below (by simp) (by rw [hsz]; omega))
  have hL := ip_load w1 w.heap.size cl _ 264 h1 (by simp [igCells]) rfl 9 (by omega) 276
  have h3' : w1.heap.size = w.heap.size + 1 := by rw [h3, hsz]
  clear hO h2 HH h1
  go_wp2_with fail
  go_at_call 275; refine hL.mono ?_; rintro e w2 ⟨⟨v2, rfl⟩, hC⟩
  obtain ⟨q, Lc, c1, c2, c3, c4⟩ := hC
  have hF : Hid ((igFl who cl).I (igPM P) w2 w.heap.size .ld (w.heap.size :: Lc) ∧ Below w.heap.size w w2 ∧ ∀ k ∈ w.heap.size :: Lc, w.heap.size ≤ k) := by
    refine ⟨⟨⟨by decide, trivial⟩, q, Lc, c1, c2, fun hm => by have := c4 _ hm; omega, rfl⟩, hb1.out.trans (c3.below (by simp) hb1.out.size), fun k hk => ?_⟩
    simp at hk
    rcases hk with rfl | hk
    · exact Nat.le_refl _
    · have := c4 k hk; omega
  clear hL c1 c2 c3 c4
  go_wp2_with fail
  go_ret
  exact ⟨w.heap.size, w.heap.size :: Lc, rfl, hF.out.1, hF.out.2.1, hF.out.2.2, Nat.le_refl _⟩
theorem iget_p (w : World) (x cl : Nat) (who p n : Int) (z : Bool) (nx : Option Addr) (h : Blk w x (igCells who nx cl p n z) 264) :
    Calls Tryz.prog 137 #[.pointer (some ⟨x, 0, none⟩)] w fun e w' => e = .returned (.int .i64 (if z then p else -1)) ∧ w = w' := by
  have c3 := h.cell 3 (v := .int .i64 p) rfl
  have cz := h.cell 5 (v := .bool z) rfl
  clear h
  cases z with
  | false =>
    go_enter Tryz.func137, Tryz.ntmps137
    go_wp2_with fail
    go_ret
    exact ⟨rfl, rfl⟩
  | true =>
    go_enter Tryz.func137, Tryz.ntmps137
    go_wp2_with fail
    go_ret
    exact ⟨rfl, rfl⟩
theorem iget_p_nil (w : World) : Calls Tryz.prog 137 #[.pointer none] w fun e w' => e = .returned (.int .i64 (-1)) ∧ w = w' := by
  go_enter Tryz.func137, Tryz.ntmps137
  go_wp2_with fail
  go_ret
  exact ⟨rfl, rfl⟩
theorem ig_got {who P : Int} {cl : Nat} {w : World} {x : Nat} {t : IgT} {L : List Nat} (h : (igFl who cl).I (igPM P) w x t L) :
    Calls Tryz.prog 137 #[.pointer (some ⟨x, 0, none⟩)] w fun e w' => e = .returned (.int .i64 t.obs) ∧ w = w' := by
  obtain ⟨nx, h1, -⟩ := Fl.blk h
  exact iget_p w x cl who t.p t.l t.z nx h1
end Go.Proofs.YtcjidigpdecdlaaGreat

namespace Go.Proofs.YtcjidigpdecdlaaGreat
open Go Go.RowKit
set_option linter.unusedVariables false
set_option maxRecDepth 100000
set_option linter.unusedSimpArgs false

theorem isD_ipg (v : Value) (xT : TypeId) (w : World) : (Instr.typeAssert (.iface 203 v) xT 280 true).run Tryz.prog w = .ok (.tuple #[.iface 203 v, .bool true]) w := run_typeAssert_hasB Tryz.underlying280 (by kernel_rfl) v xT w
theorem eqIIn_ipg (w : World) (fuel : Nat) (v : Value) : (Op.equalIn (fuel + 1) 227 (.iface 203 v) .nilIface).run Tryz.prog w = .ok false w := by
  simp only [Op.equalIn, Sem.run_bind, run_underlying Tryz.underlying227, Result.andThen_ok]
  rfl
theorem eqI_ipg (v : Value) (w : World) : (binOp .eql 227 (.iface 203 v) .nilIface).run Tryz.prog w = .ok (.bool false) w := by
  have h := eqIIn_ipg w 9999 v
  simp only [binOp]
  simp [Op.equal, Op.maxDepth, h]
theorem neqI_ipg (v : Value) (w : World) : (binOp .neq 227 (.iface 203 v) .nilIface).run Tryz.prog w = .ok (.bool true) w := by
  have h := eqIIn_ipg w 9999 v
  simp only [binOp]
  simp [Op.equal, Op.maxDepth, h]
theorem isdone_ipg (w : World) (x : Nat) (nx : Option Addr) (hc : w.cell? ⟨x, 1, none⟩ = some (.pointer nx)) :
    Calls Tryz.prog 154 #[.iface 203 (.pointer (some ⟨x, 0, none⟩))] w fun e w' => e = .returned (.bool nx.isNone) ∧ w = w' := by
  have h1 := isD_ipg
  have h2 := eqI_ipg
  have hD := done_ipg w x nx hc
  go_enter Tryz.func154, Tryz.ntmps154
  go_wp2_with fail
  go_at_call 369; refine hD.mono ?_; rintro e w1 ⟨rfl, rfl⟩
  go_wp2_with fail
  go_ret
  exact ⟨rfl, rfl⟩

theorem frun0_ipg (w : World) (c x : Nat) (cs : Array Value) (T : TypeId) (fv : Value) (nx : Addr) (h : Blk w c cs T) (hs : 2 ≤ cs.size) (hf : Fv fv) (hxc : x ≠ c) (hx : w.cell? ⟨x, 1, none⟩ = some (.pointer (some nx))) :
    Calls Tryz.prog 88 #[.pointer (some ⟨c, 0, none⟩), .iface 203 (.pointer (some ⟨x, 0, none⟩)), fv] w fun e w' => (∃ v, e = .returned v) ∧ ∃ q g, CameBox w w' c cs T (fun v => comCells 0 0 0 0 0 false (.iface 203 (.pointer (some ⟨x, 0, none⟩))) v false false) fv q g := by
  have c1 := h.cell 1 (Array.getElem?_eq_getElem (by omega))
  have f1 := h.fro 1
  have hlt := h.lt
  have h1 := h.set 1 (.pointer none)
  have c2 := h1.cell 1 (v := .pointer none) (by rw [Array.getElem?_setIfInBounds, if_pos rfl, if_pos (by omega)])
  have f2 := h1.fro 1
  have hB1 : But [c] w (w.setCell ⟨c, 1, none⟩ (.pointer none)) := (But.refl _ w).set (g := c) (.inl (by simp)) 1 _
  have hsz : (w.setCell ⟨c, 1, none⟩ (.pointer none)).heap.size = w.heap.size := size_set _ _ _
  have hD := isdone_ipg (w.setCell ⟨c, 1, none⟩ (.pointer none)) x (some nx) (by
    rw [show (w.setCell ⟨c, 1, none⟩ (.pointer none)).cell? ⟨x, 1, none⟩ = w.cell? ⟨x, 1, none⟩ by simp only [World.cell?]; rw [heap_set_ne w hxc 1 _]]
    exact hx)
  have hU := fun w => untold_any w fv hf
  have HH : Hid (Blk (w.setCell ⟨c, 1, none⟩ (.pointer none)) c (cs.setIfInBounds 1 (.pointer none)) T ∧ But [c] w (w.setCell ⟨c, 1, none⟩ (.pointer none))) := ⟨h1, hB1⟩
  clear h h1 hB1 hx
  go_enter Tryz.func88, Tryz.ntmps88
  go_wp2_with fail
  generalize w.setCell ⟨c, 1, none⟩ (.pointer none) = W at *
  go_at_call 154; refine hD.mono ?_; rintro e w1 ⟨rfl, rfl⟩
  go_wp2_with fail
  go_at_call 155; refine (hU _).mono ?_; rintro e w2 ⟨rfl, rfl⟩
  have hg := Blk.new W #[fv] 1
  have hW2 : Blk (W.alloc (.cells #[fv] 1)) c (cs.setIfInBounds 1 (.pointer none)) T := HH.out.1.al _
  have hsz2 : Hid ((W.alloc (.cells #[fv] 1)).heap.size = w.heap.size + 1) := (by rw [World.size_alloc, hsz] : (W.alloc (.cells #[fv] 1)).heap.size = w.heap.size + 1)
  have hB2 : But [c] w (W.alloc (.cells #[fv] 1)) := HH.out.2.alloc _
  rw [hsz] at hg ⊢
  have HG : Hid (Blk (W.alloc (.cells #[fv] 1)) w.heap.size #[fv] 1 ∧ Blk (W.alloc (.cells #[fv] 1)) c (cs.setIfInBounds 1 (.pointer none)) T ∧ But [c] w (W.alloc (.cells #[fv] 1))) := ⟨hg, hW2, hB2⟩
  have c3 := hW2.cell 1 (v := .pointer none) (by rw [Array.getElem?_setIfInBounds, if_pos rfl, if_pos (by omega)])
  have f3 := hW2.fro 1
  clear hD hU c1 f1 c2 f2 hg hW2 hB2
  generalize W.alloc (.cells #[fv] 1) = W2 at *
  have hlt2 : c < W2.heap.size := by have := hsz2.out; omega
  clear hsz HH
  go_wp2_with fail
  go_end0
  obtain ⟨g1, g2, g3⟩ := HG.out
  have hsz2 := hsz2.out
  refine ⟨⟨_, rfl⟩, W2.heap.size, w.heap.size, ⟨⟨by omega, ?_, ?_, ?_⟩, Nat.le_refl _, ?_, by omega⟩⟩
  · have := (g2.set 1 (.pointer (some ⟨W2.heap.size, 0, none⟩))).al (.cells (comCells 0 0 0 0 0 false (.iface 203 (.pointer (some ⟨x, 0, none⟩))) (.func (.func 197) #[] #[.pointer (some ⟨w.heap.size, 0, none⟩)]) false false) 231)
    rw [set_twice] at this
    exact this
  · have := Blk.new (W2.setCell ⟨c, 1, none⟩ (.pointer (some ⟨W2.heap.size, 0, none⟩))) (comCells 0 0 0 0 0 false (.iface 203 (.pointer (some ⟨x, 0, none⟩))) (.func (.func 197) #[] #[.pointer (some ⟨w.heap.size, 0, none⟩)]) false false) 231
    rw [size_set] at this
    exact this
  · exact (g3.set (g := c) (.inl (by simp)) 1 _).alloc _
  · exact (g1.setne (by omega) 1 _).al _

theorem act0_ipg (w : World) (q cm x : Nat) (who : Int) (thn : Value) (z : Bool) (Mw : World → Prop) (hq : Blk w q (comCells 0 0 0 0 0 false (.iface 203 (.pointer (some ⟨x, 0, none⟩))) thn false false) 231)
    (hS : ∀ W, But [q] w W → Blk W q (comCells 0 0 0 0 0 false (.iface 203 (.pointer (some ⟨x, 0, none⟩))) thn false true) 231 → Calls Tryz.prog 370 #[.pointer (some ⟨x, 0, none⟩), .pointer (some ⟨cm, 0, none⟩)] W fun e w' => e = .returned (.bool z) ∧ Blk w' q (comCells 0 0 0 0 0 false (.iface 203 (.pointer (some ⟨x, 0, none⟩))) thn false true) 231 ∧ Mw w') :
    Calls Tryz.prog 169 #[.pointer (some ⟨q, 0, none⟩), .int .i64 who, .pointer (some ⟨cm, 0, none⟩)] w fun e w' => e = .returned (.tuple #[.int .u64 0, .bool z]) ∧ ∃ w1, Mw w1 ∧ Blk w1 q (comCells 0 0 0 0 0 false (.iface 203 (.pointer (some ⟨x, 0, none⟩))) thn false true) 231 ∧ w' = w1.setCell ⟨q, 9, none⟩ (.bool false) := by
  have hn := neqI_ipg
  have hbm := Blk.new w #[.pointer (some ⟨cm, 0, none⟩)] 30
  have hq1 := hq.al (.cells #[.pointer (some ⟨cm, 0, none⟩)] 30)
  have hqlt := hq.lt
  have k6 := hq1.cell 6 (v := .iface 203 (.pointer (some ⟨x, 0, none⟩))) rfl
  have hask : Calls Tryz.prog 208 #[.pointer (some ⟨q, 0, none⟩), .func (.func 209) #[] #[.pointer (some ⟨w.heap.size, 0, none⟩)]] (w.alloc (.cells #[.pointer (some ⟨cm, 0, none⟩)] 30)) fun e w' => e = .returned (.bool z) ∧ ∃ w1, Mw w1 ∧ Blk w1 q (comCells 0 0 0 0 0 false (.iface 203 (.pointer (some ⟨x, 0, none⟩))) thn false true) 231 ∧ w' = w1.setCell ⟨q, 9, none⟩ (.bool false) := by
    have hne : w.heap.size ≠ q := by omega
    have k9 := hq1.cell 9 (v := .bool false) rfl
    have f9 := hq1.fro 9
    have hq2 := hq1.set 9 (.bool true)
    have l6 := hq2.cell 6 (v := .iface 203 (.pointer (some ⟨x, 0, none⟩))) rfl
    have hb2 := hbm.setne hne 9 (.bool true)
    have b0 := hb2.cell 0 (v := .pointer (some ⟨cm, 0, none⟩)) rfl
    have hst := hS ((w.alloc (.cells #[.pointer (some ⟨cm, 0, none⟩)] 30)).setCell ⟨q, 9, none⟩ (.bool true)) (((But.refl [q] w).alloc _).set (g := q) (.inl (by simp)) 9 _) hq2
    have hrun : Calls Tryz.prog 209 #[.iface 203 (.pointer (some ⟨x, 0, none⟩)), .pointer (some ⟨w.heap.size, 0, none⟩)] ((w.alloc (.cells #[.pointer (some ⟨cm, 0, none⟩)] 30)).setCell ⟨q, 9, none⟩ (.bool true)) fun e w' => e = .returned (.bool z) ∧ Blk w' q (comCells 0 0 0 0 0 false (.iface 203 (.pointer (some ⟨x, 0, none⟩))) thn false true) 231 ∧ Mw w' := by
      clear hS hq hbm hq1 k6 k9 f9 hq2 l6 hb2 hqlt hne
      generalize (w.alloc (.cells #[.pointer (some ⟨cm, 0, none⟩)] 30)).setCell ⟨q, 9, none⟩ (.bool true) = W at *
      go_enter Tryz.func209, Tryz.ntmps209
      go_wp2_with fail
      go_at_call 370; refine hst.mono ?_; rintro e w1 ⟨rfl, h1, h2⟩
      go_wp2_with fail
      go_ret
      exact ⟨rfl, h1, h2⟩
    clear hS hq hbm hq1 hq2 hb2 hst b0 hqlt
    go_enter Tryz.func208, Tryz.ntmps208
    go_wp2_with fail
    generalize (w.alloc (.cells #[.pointer (some ⟨cm, 0, none⟩)] 30)).setCell ⟨q, 9, none⟩ (.bool true) = W at *
    go_at_call 209; refine hrun.mono ?_; rintro e w1 ⟨rfl, h1, h2⟩
    have m9 := h1.cell 9 (v := .bool true) rfl
    have g9 := h1.fro 9
    clear hrun l6 k9 f9 k6
    go_wp2_with fail
    go_ret
    exact ⟨rfl, w1, h2, h1, rfl⟩
  clear hS hq hq1 hbm
  go_enter Tryz.func169, Tryz.ntmps169
  go_wp2_with fail
  generalize w.alloc (.cells #[.pointer (some ⟨cm, 0, none⟩)] 30) = W at *
  go_at_call 208; refine hask.mono ?_; rintro e w1 ⟨rfl, h1⟩
  clear hask k6
  go_wp2_with fail
  go_returns
  exact ⟨rfl, h1⟩

theorem frun_ipg : RunCome 203 := fun w c y cs T fv nx h hs hf hyc hx => frun0_ipg w c y cs T fv nx h hs hf hyc hx
theorem act_ipg : ActRun 203 370 := fun w q cm y g who z Mw hq hS => act0_ipg w q cm y who _ z Mw hq hS
end Go.Proofs.YtcjidigpdecdlaaGreat

namespace Go.Proofs.YtcjidigpdecdlaaGreat
open Go Go.RowKit
set_option linter.unusedVariables false
set_option maxRecDepth 100000
set_option linter.unusedSimpArgs false

def qwd (g : Int) : Int := IntKind.u64.wrap (IntKind.u64.wrap g + 1)
theorem qwd_bd (g : Int) : 0 ≤ qwd g ∧ qwd g ≤ 18446744073709551615 := by
  unfold qwd
  generalize IntKind.u64.wrap g + 1 = z
  simp [IntKind.wrap, IntKind.bits, IntKind.signed]
  omega
theorem q_word2 (w : World) (g : Int) : Calls Tryz.prog 240 #[.int .i64 g] w fun e w' => e = .returned (.int .u64 (qwd g)) ∧ w = w' := by
  go_enter Tryz.func240, Tryz.ntmps240
  go_wp2_with fail
  go_ret
  exact ⟨rfl, rfl⟩
theorem qwd_small (g : Int) (h : 0 ≤ g ∧ g ≤ 1000000) : qwd g = g + 1 := by
  unfold qwd
  simp [IntKind.wrap, IntKind.bits, IntKind.signed]
  omega
end Go.Proofs.YtcjidigpdecdlaaGreat
