/- The machine that gets from a ring, as plain data and in memory. -/
import Derived.Test.YtiagkeakohkfgaaRg1
namespace Go.Proofs.Ytiagkeakohkfgaa
open Go Go.RowKit
set_option linter.unusedVariables false
set_option maxRecDepth 100000
set_option linter.unusedSimpArgs false

inductive RgT where
  | nx (h w : Int)
  | sn (h w : Int)
  | hd (h w : Int)
  | tl (h w : Int)
  | rg (h w : Int)
  | sh (h w : Int)
  | over (h w : Int) (z i : Bool)
def rgPM (P p : Int) (fr : Bool) : PM RgT where
  ax := fun
    | .nx _ _ => some (axLd (wd 20 P 264 p 3))
    | .sn _ w => some (axSw (wd 20 P 264 p 3) w 0)
    | .hd _ _ => some (axLd (wd 20 P 264 p 1))
    | .tl _ _ => some (axLd (wd 20 P 264 p 2))
    | .rg h _ => some (axLd (wd 20 P 264 p (8 + h % 256)))
    | .sh h _ => some (axSw (wd 20 P 264 p 1) h ((h + 1) % 4294967296))
    | .over _ _ _ _ => none
  nx := fun
    | .nx h w, v => if v = 0 then (if fr then .over h w false false else .hd h w) else .sn h v
    | .sn h w, v => if v = 0 then (if fr then .over h w false false else .hd h w) else .over h w true (!fr)
    | .hd _ w, v => .tl v w
    | .tl h w, v => if 0 < (v - h) % 4294967296 then .rg h w else if fr then .nx h w else .over h w false false
    | .rg h _, v => .sh h v
    | .sh h w, v => if v = 0 then .hd h w else .over h w true false
    | t, _ => t
def RgT.h : RgT → Int
  | .nx h _ => h
  | .sn h _ => h
  | .hd h _ => h
  | .tl h _ => h
  | .rg h _ => h
  | .sh h _ => h
  | .over h _ _ _ => h
def RgT.w : RgT → Int
  | .nx _ w => w
  | .sn _ w => w
  | .hd _ w => w
  | .tl _ w => w
  | .rg _ w => w
  | .sh _ w => w
  | .over _ w _ _ => w
def RgT.z : RgT → Bool
  | .over _ _ z _ => z
  | _ => false
def RgT.ih : RgT → Bool
  | .over _ _ _ i => i
  | _ => false
/-- Which one was got. -/
def RgT.obs (t : RgT) : Int := if t.z then gw t.w else -1
def RgT.live : RgT → Bool
  | .over _ _ _ _ => false
  | _ => true
theorem RgT.live_obs {t : RgT} (h : t.live = true) : t.obs = -1 ∧ t.ih = false := by cases t <;> first | exact ⟨rfl, rfl⟩ | cases h
def U64 (v : Int) : Prop := 0 ≤ v ∧ v ≤ 18446744073709551615
def rgFl (who : Int) (cl : Nat) (p : Int) (fr : Bool) : Fl RgT where
  T := 148
  cells := fun t nx => rgCells who nx cl p fr t.h t.w t.z t.ih
  fol := fun
    | .nx _ _ => .told 130
    | .sn _ _ => .swap 166
    | .hd _ _ => .told 129
    | .tl _ _ => .told 163
    | .rg _ _ => .told 179
    | .sh _ _ => .swap 188
    | .over _ _ _ _ => .nil
  ok := fun t => U64 t.h ∧ U64 t.w
theorem ent_rg1 : Ent 130 := fun args w => by kernel_rfl
theorem ent_rg2 : Ent 166 := fun args w => by kernel_rfl
theorem ent_rg3 : Ent 129 := fun args w => by kernel_rfl
theorem ent_rg4 : Ent 163 := fun args w => by kernel_rfl
theorem ent_rg5 : Ent 179 := fun args w => by kernel_rfl
theorem ent_rg6 : Ent 188 := fun args w => by kernel_rfl

theorem rg_laws (who P T G p : Int) (fr : Bool) (cl : Nat) (hP : 0 ≤ P ∧ P ≤ 64) : (rgFl who cl p fr).Laws (rgPM P p fr) (Rd.lay cl P T G) who where
  c0 := fun t nx => rfl
  c1 := fun t nx => rfl
  set := fun t nx nx' => rfl
  axok := fun t a hok h => by
    obtain ⟨h1, h2⟩ := hok
    cases t with
    | nx a b => cases h; exact axLd_ok _
    | sn a b => cases h; exact axSw_ok _ _ _ (by omega)
    | hd a b => cases h; exact axLd_ok _
    | tl a b => cases h; exact axLd_ok _
    | rg a b => cases h; exact axLd_ok _
    | sh a b => cases h; exact axSw_ok _ _ _ (by omega)
    | over a b z i => cases h
  ents := fun t a h => by
    cases t with
    | nx a b => exact ent_rg1
    | sn a b => exact ent_rg2
    | hd a b => exact ent_rg3
    | tl a b => exact ent_rg4
    | rg a b => exact ent_rg5
    | sh a b => exact ent_rg6
    | over a b z i => exact trivial
  ok := fun t a v hok h hv => by
    obtain ⟨h1, h2⟩ := hok
    cases t with
    | nx a b => by_cases h0 : v = 0 <;> cases fr <;> simp only [rgPM, rgFl, h0, if_true, if_false] <;> first | exact ⟨h1, h2⟩ | exact ⟨h1, hv⟩
    | sn a b => by_cases h0 : v = 0 <;> cases fr <;> simp only [rgPM, rgFl, h0, if_true, if_false] <;> first | exact ⟨h1, h2⟩ | exact ⟨h1, hv⟩
    | hd a b => exact ⟨hv, h2⟩
    | tl a b => by_cases h0 : 0 < (v - a) % 4294967296 <;> cases fr <;> simp only [rgPM, rgFl, h0, if_true, if_false] <;> exact ⟨h1, h2⟩
    | rg a b => exact ⟨h1, hv⟩
    | sh a b => by_cases h0 : v = 0 <;> simp only [rgPM, rgFl, h0, if_true, if_false] <;> exact ⟨h1, h2⟩
    | over a b z i => cases h
  fol := fun W x t a v hok h hv hB hR hxR => by
    have hcx : cl ≠ x := fun e => hxR (by rw [e]; exact List.mem_singleton.2 rfl)
    obtain ⟨hh, hw⟩ := hok
    cases t with
    | nx hh' b =>
      cases h
      by_cases h0 : v = 0
      · subst h0
        cases fr with
        | true =>
          refine (rg_next_end W x cl who p hh' b true false false none hB rfl).mono ?_
          rintro e w' ⟨hu, rfl⟩
          exact ⟨hu, hB, But.refl _ _⟩
        | false => exact rg_next_on W x cl who p P T G hh' b false false false none hB hR hP rfl
      · have e : (rgPM P p fr).nx (.nx hh' b) v = .sn hh' v := if_neg h0
        rw [e]
        exact rg_next_some W x cl who p P T G hh' b fr false false none hB hR hP v h0 hcx
    | sn hh' b =>
      cases h
      by_cases h0 : v = 0
      · subst h0
        cases fr with
        | true =>
          refine (rg_hn_end W x cl who p hh' b true false false none hB rfl).mono ?_
          rintro e w' ⟨hu, rfl⟩
          exact ⟨hu, hB, But.refl _ _⟩
        | false => exact rg_hn_on W x cl who p P T G hh' b false false false none hB hR hP rfl
      · have e : (rgPM P p fr).nx (.sn hh' b) v = .over hh' b true (!fr) := if_neg h0
        have e2 : decide (v ≠ 0) = true := decide_eq_true h0
        rw [e]
        show Calls _ _ #[_, .bool (decide (v ≠ 0))] _ _
        rw [e2]
        exact rg_hn_yes W x cl who p hh' b fr false false none hB
    | hd hh' b => cases h; exact rg_lookTail W x cl who p P T G hh' b fr false false none hB hR hP v hcx
    | tl hh' b =>
      cases h
      by_cases h0 : 0 < (v - hh') % 4294967296
      · have e : (rgPM P p fr).nx (.tl hh' b) v = .rg hh' b := if_pos h0
        rw [e]
        exact rg_choose_some W x cl who p P T G hh' b fr false false none hB hR hP v hv hh h0
      · cases fr with
        | true =>
          have e : (rgPM P p true).nx (.tl hh' b) v = .nx hh' b := if_neg h0
          rw [e]
          exact rg_choose_on W x cl who p P T G hh' b true false false none hB hR hP v hv hh h0 rfl
        | false =>
          have e : (rgPM P p false).nx (.tl hh' b) v = .over hh' b false false := if_neg h0
          rw [e]
          refine (rg_choose_end W x cl who p hh' b false false false none hB v hv hh h0 rfl).mono ?_
          rintro e w' ⟨hu, rfl⟩
          exact ⟨hu, hB, But.refl _ _⟩
    | rg hh' b => cases h; exact rg_take W x cl who p P T G hh' b fr false false none hB hR hP v hcx hh
    | sh hh' b =>
      cases h
      by_cases h0 : v = 0
      · subst h0
        exact rg_have_no W x cl who p P T G hh' b fr false false none hB hR hP hcx
      · have e : (rgPM P p fr).nx (.sh hh' b) v = .over hh' b true false := if_neg h0
        have e2 : decide (v ≠ 0) = true := decide_eq_true h0
        rw [e]
        show Calls _ _ #[_, .bool (decide (v ≠ 0))] _ _
        rw [e2]
        exact rg_have_yes W x cl who p hh' b fr false false none hB
    | over a b z i => cases h

/-- How it begins. -/
def rgS (fr : Bool) : RgT := if fr then .hd 0 0 else .nx 0 0
theorem rg_new (w : World) (cl : Nat) (who p P T G : Int) (fr : Bool) (hl : Lay w cl P T G) (hP : 0 ≤ P ∧ P ≤ 64) :
    Calls Try.prog 41 #[.pointer (some ⟨cl, 0, none⟩), .int .i64 who, .int .i64 p, .bool fr] w fun e w' => ∃ x L, e = .returned (.pointer (some ⟨x, 0, none⟩)) ∧ (rgFl who cl p fr).I (rgPM P p fr) w' x (rgS fr) L ∧ Below w.heap.size w w' ∧ (∀ k ∈ L, w.heap.size ≤ k) := by
  have hB := Blk.new w #[.int .i64 0, .pointer none, .pointer (some ⟨cl, 0, none⟩), .int .i64 p, .bool fr, .int .u64 0, .int .u64 0, .bool false, .bool false] 148
  have hb : Below w.heap.size w (w.alloc (.cells #[.int .i64 0, .pointer none, .pointer (some ⟨cl, 0, none⟩), .int .i64 p, .bool fr, .int .u64 0, .int .u64 0, .bool false, .bool false] 148)) := (Below.refl _ _).alloc (Nat.le_refl _) _
  have hF := fof_any _ w.heap.size _ 148 who hB (by simp)
  have HH : Hid (Blk _ w.heap.size _ 148 ∧ Below w.heap.size w _) := ⟨hB, hb⟩
  have hsz := World.size_alloc w (.cells #[.int .i64 0, .pointer none, .pointer (some ⟨cl, 0, none⟩), .int .i64 p, .bool fr, .int .u64 0, .int .u64 0, .bool false, .bool false] 148)
  have HLY : Hid (Lay w cl P T G) := hl
  clear hB hb hl
  cases fr with
  | true =>
    go_enter Try.func41, Try.ntmps41
    go_wp2_with fail
    generalize w.alloc (.cells #[.int .i64 0, .pointer none, .pointer (some ⟨cl, 0, none⟩), .int .i64 p, .bool true, .int .u64 0, .int .u64 0, .bool false, .bool false] 148) = W at *
    go_at_call 58; refine hF.mono ?_; rintro e w3 ⟨⟨v, rfl⟩, hw3⟩
    have h3 : Blk w3 w.heap.size (rgCells who none cl p true 0 0 false false) 148 := by rw [hw3]; exact HH.out.1.set 0 _
    have hb3 : Hid (Below w.heap.size w w3) := by rw [hw3]; exact HH.out.2.trans (((But.refl [w.heap.size] W).set (g := w.heap.size) (.inl (by simp)) 0 _).below (by simp) (by rw [hsz]; omega))
    have hL := rg_lookHead w3 w.heap.size cl who p P T G 0 0 true false false none h3 (HLY.out.below hb3.out HLY.out.lt) hP
    have hlt := h3.lt
    clear hF hw3 HH h3 HLY
    go_wp2_with fail
    go_at_call 89; refine hL.mono ?_; rintro e w2 ⟨⟨v2, rfl⟩, hC⟩
    obtain ⟨q, Lc, c1, c2, c3, c4⟩ := hC
    have hF : Hid ((rgFl who cl p true).I (rgPM P p true) w2 w.heap.size (rgS true) (w.heap.size :: Lc) ∧ Below w.heap.size w w2 ∧ ∀ k ∈ w.heap.size :: Lc, w.heap.size ≤ k) := by
      refine ⟨⟨⟨⟨by decide, by decide⟩, by decide, by decide⟩, q, Lc, c1, c2, fun hm => by have := c4 _ hm; omega, rfl⟩, hb3.out.trans (c3.below (by simp) hb3.out.size), fun k hk => ?_⟩
      simp at hk
      rcases hk with rfl | hk
      · exact Nat.le_refl _
      · have := c4 k hk; omega
    clear hL c1 c2 c3 c4
    go_wp2_with fail
    go_ret
    exact ⟨w.heap.size, w.heap.size :: Lc, rfl, hF.out.1, hF.out.2.1, hF.out.2.2⟩
  | false =>
    go_enter Try.func41, Try.ntmps41
    go_wp2_with fail
    generalize w.alloc (.cells #[.int .i64 0, .pointer none, .pointer (some ⟨cl, 0, none⟩), .int .i64 p, .bool false, .int .u64 0, .int .u64 0, .bool false, .bool false] 148) = W at *
    go_at_call 58; refine hF.mono ?_; rintro e w3 ⟨⟨v, rfl⟩, hw3⟩
    have h3 : Blk w3 w.heap.size (rgCells who none cl p false 0 0 false false) 148 := by rw [hw3]; exact HH.out.1.set 0 _
    have hb3 : Hid (Below w.heap.size w w3) := by rw [hw3]; exact HH.out.2.trans (((But.refl [w.heap.size] W).set (g := w.heap.size) (.inl (by simp)) 0 _).below (by simp) (by rw [hsz]; omega))
    have hL := rg_lookNext w3 w.heap.size cl who p P T G 0 0 false false false none h3 (HLY.out.below hb3.out HLY.out.lt) hP
    have hlt := h3.lt
    clear hF hw3 HH h3 HLY
    go_wp2_with fail
    go_at_call 90; refine hL.mono ?_; rintro e w2 ⟨⟨v2, rfl⟩, hC⟩
    obtain ⟨q, Lc, c1, c2, c3, c4⟩ := hC
    have hF : Hid ((rgFl who cl p false).I (rgPM P p false) w2 w.heap.size (rgS false) (w.heap.size :: Lc) ∧ Below w.heap.size w w2 ∧ ∀ k ∈ w.heap.size :: Lc, w.heap.size ≤ k) := by
      refine ⟨⟨⟨⟨by decide, by decide⟩, by decide, by decide⟩, q, Lc, c1, c2, fun hm => by have := c4 _ hm; omega, rfl⟩, hb3.out.trans (c3.below (by simp) hb3.out.size), fun k hk => ?_⟩
      simp at hk
      rcases hk with rfl | hk
      · exact Nat.le_refl _
      · have := c4 k hk; omega
    clear hL c1 c2 c3 c4
    go_wp2_with fail
    go_ret
    exact ⟨w.heap.size, w.heap.size :: Lc, rfl, hF.out.1, hF.out.2.1, hF.out.2.2⟩

theorem rget_g (w : World) (x cl : Nat) (who p h wv : Int) (fr z ih : Bool) (nx : Option Addr) (hB : Blk w x (rgCells who nx cl p fr h wv z ih) 148) :
    Calls Try.prog 45 #[.pointer (some ⟨x, 0, none⟩)] w fun e w' => e = .returned (.int .i64 (if z then gw wv else -1)) ∧ w = w' := by
  have c6 := hB.cell 6 (v := .int .u64 wv) rfl
  have c7 := hB.cell 7 (v := .bool z) rfl
  clear hB
  cases z with
  | false =>
    go_enter Try.func45, Try.ntmps45
    go_wp2_with fail
    go_ret
    exact ⟨rfl, rfl⟩
  | true =>
    have e : IntKind.i64.wrap (IntKind.u64.wrap (wv - 1)) = gw wv := rfl
    go_enter Try.func45, Try.ntmps45
    go_wp2_with fail
    go_ret
    exact ⟨rfl, rfl⟩
theorem rget_g_nil (w : World) : Calls Try.prog 45 #[.pointer none] w fun e w' => e = .returned (.int .i64 (-1)) ∧ w = w' := by
  go_enter Try.func45, Try.ntmps45
  go_wp2_with fail
  go_ret
  exact ⟨rfl, rfl⟩
theorem rget_i (w : World) (x cl : Nat) (who p h wv : Int) (fr z ih : Bool) (nx : Option Addr) (hB : Blk w x (rgCells who nx cl p fr h wv z ih) 148) :
    Calls Try.prog 46 #[.pointer (some ⟨x, 0, none⟩)] w fun e w' => e = .returned (.bool ih) ∧ w = w' := by
  have c8 := hB.cell 8 (v := .bool ih) rfl
  clear hB
  go_enter Try.func46, Try.ntmps46
  go_wp2_with fail
  go_ret
  exact ⟨rfl, rfl⟩
theorem rget_i_nil (w : World) : Calls Try.prog 46 #[.pointer none] w fun e w' => e = .returned (.bool false) ∧ w = w' := by
  go_enter Try.func46, Try.ntmps46
  go_wp2_with fail
  go_ret
  exact ⟨rfl, rfl⟩
theorem rg_i {who : Int} {cl : Nat} {p P : Int} {fr : Bool} {w : World} {x : Nat} {t : RgT} {L : List Nat} (h : (rgFl who cl p fr).I (rgPM P p fr) w x t L) :
    Calls Try.prog 46 #[.pointer (some ⟨x, 0, none⟩)] w fun e w' => e = .returned (.bool t.ih) ∧ w = w' := by
  obtain ⟨nx, h1, -⟩ := Fl.blk h
  exact rget_i w x cl who p t.h t.w fr t.z t.ih nx h1
theorem rg_g {who : Int} {cl : Nat} {p P : Int} {fr : Bool} {w : World} {x : Nat} {t : RgT} {L : List Nat} (h : (rgFl who cl p fr).I (rgPM P p fr) w x t L) :
    Calls Try.prog 45 #[.pointer (some ⟨x, 0, none⟩)] w fun e w' => e = .returned (.int .i64 t.obs) ∧ w = w' := by
  obtain ⟨nx, h1, -⟩ := Fl.blk h
  exact rget_g w x cl who p t.h t.w fr t.z t.ih nx h1
end Go.Proofs.Ytiagkeakohkfgaa
