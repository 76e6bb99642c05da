/- The machine that steals, as plain data and in memory. -/
import Derived.Test.YtcjidigpdecdlaaSt4
namespace Go.Proofs.Ytcjidigpdecdlaa
open Go Go.RowKit
set_option linter.unusedVariables false
set_option maxRecDepth 100000
set_option linter.unusedSimpArgs false

def SU64 (v : Int) : Prop := 0 ≤ v ∧ v ≤ 18446744073709551615
inductive StT where
  | t0 (d : StD)
  | hd (d : StD)
  | tl (d : StD)
  | rg (d : StD) (k : Nat)
  | ly (d : StD) (k : Nat) (v : Int)
  | sh (d : StD)
  | nx (d : StD)
  | sn (d : StD) (v : Int)
  | ta (d : StD)
  | over (d : StD)
def StT.d : StT → StD
  | .t0 d => d
  | .hd d => d
  | .tl d => d
  | .rg d _ => d
  | .ly d _ _ => d
  | .sh d => d
  | .nx d => d
  | .sn d _ => d
  | .ta d => d
  | .over d => d
def stTry (d : StD) : StT := if d.tr = 3 then .over d else .hd { d with tr := d.tr + 1 }
def stHave (d : StD) : StT := if 1 < d.n then .ta { d with st := true } else .over { d with st := true }
def stPM (P p fr : Int) (la : Bool) : PM StT where
  ax := fun
    | .t0 _ => some (axLd (wd 20 P 264 p 2))
    | .hd _ => some (axLd (wd 20 P 264 fr 1))
    | .tl _ => some (axLd (wd 20 P 264 fr 2))
    | .rg d k => some (axLd (wd 20 P 264 fr (8 + IntKind.u64.wrap (d.he + k) % 256)))
    | .ly d k v => some (axSt (wd 20 P 264 p (8 + IntKind.u64.wrap (d.ta + k) % 256)) v)
    | .sh d => some (axSw (wd 20 P 264 fr 1) d.he ((d.he + d.n) % 4294967296))
    | .nx _ => some (axLd (wd 20 P 264 fr 3))
    | .sn _ v => some (axSw (wd 20 P 264 fr 3) v 0)
    | .ta d => some (axSt (wd 20 P 264 p 2) ((d.ta + (d.n - 1)) % 4294967296))
    | .over _ => none
  nx := fun
    | .t0 d, v => .hd { d with ta := v, tr := d.tr + 1 }
    | .hd d, v => .tl { d with he := v }
    | .tl d, v => if 128 < stMany d.he v then stTry d else if 0 < stMany d.he v then .rg { d with n := stMany d.he v, co := 0 } 0 else if la = true then .nx d else .over d
    | .rg d k, v => .ly { d with lo := d.lo.set k (gw v), co := ((k + 1 : Nat) : Int) } k v
    | .ly d k _, _ => if ((k + 1 : Nat) : Int) < d.n then .rg d (k + 1) else .sh d
    | .sh d, v => if v = 0 then stTry d else stHave d
    | .nx d, v => if v = 0 then .over d else .sn { d with lo := d.lo.set 0 (gw v), n := 1 } v
    | .sn d _, v => if v = 0 then stTry d else stHave d
    | .ta d, _ => .over { d with ld := d.n - 1 }
    | t, _ => t
structure StD.Ok (d : StD) : Prop where
  len : d.lo.length = 128
  ta : SU64 d.ta
  he : SU64 d.he
  tr : 0 ≤ d.tr ∧ d.tr ≤ 3
def StT.Ok : StT → Prop
  | .t0 d => d.Ok ∧ d.tr < 3
  | .rg d k => d.Ok ∧ d.co = k ∧ (k : Int) < d.n ∧ d.n ≤ 128
  | .ly d k v => d.Ok ∧ d.co = ((k + 1 : Nat) : Int) ∧ ((k + 1 : Nat) : Int) ≤ d.n ∧ d.n ≤ 128 ∧ SU64 v
  | .sh d => d.Ok ∧ d.co = d.n ∧ 0 < d.n ∧ d.n ≤ 128
  | .sn d v => d.Ok ∧ d.n = 1 ∧ SU64 v
  | .ta d => d.Ok ∧ 1 < d.n ∧ d.n ≤ 128
  | .hd d => d.Ok
  | .tl d => d.Ok
  | .nx d => d.Ok
  | .over d => d.Ok
theorem stTry_ok {d : StD} (h : d.Ok) : (stTry d).Ok := by
  unfold stTry
  split
  · exact h
  · exact ⟨h.len, h.ta, h.he, by have := h.tr; show 0 ≤ d.tr + 1 ∧ d.tr + 1 ≤ 3; omega⟩
theorem stHave_ok {d : StD} (h : d.Ok) (hn : d.n ≤ 128) : (stHave d).Ok := by
  unfold stHave
  split
  · rename_i h1
    exact ⟨⟨h.len, h.ta, h.he, h.tr⟩, h1, hn⟩
  · exact ⟨h.len, h.ta, h.he, h.tr⟩
def stFl (who : Int) (cl : Nat) (p fr : Int) (la : Bool) : Fl StT where
  T := 66
  cells := fun t nx => stC who nx cl p fr la t.d
  fol := fun
    | .t0 _ => .told 23
    | .hd _ => .told 42
    | .tl _ => .told 51
    | .rg _ _ => .told 62
    | .ly _ _ _ => .untold 58
    | .sh _ => .swap 64
    | .nx _ => .told 59
    | .sn _ _ => .swap 64
    | .ta _ => .untold 67
    | .over _ => .nil
  ok := StT.Ok
theorem ent_st1 : Ent 23 := fun args w => by kernel_rfl
theorem ent_st2 : Ent 42 := fun args w => by kernel_rfl
theorem ent_st3 : Ent 51 := fun args w => by kernel_rfl
theorem ent_st4 : Ent 62 := fun args w => by kernel_rfl
theorem ent_st5 : Ent 58 := fun args w => by kernel_rfl
theorem ent_st6 : Ent 64 := fun args w => by kernel_rfl
theorem ent_st7 : Ent 59 := fun args w => by kernel_rfl
theorem ent_st8 : Ent 67 := fun args w => by kernel_rfl
section
variable {who P T G p fr : Int} {la : Bool} {cl : Nat} (hP : 0 ≤ P ∧ P ≤ 64)
include hP
theorem st_fol_try {W : World} {x : Nat} {d : StD} (hd : d.Ok) (hB : Blk W x (stC who none cl p fr la d) 66) (hR : Lay W cl P T G) (hcx : cl ≠ x) : Calls Try.prog 64 #[.pointer (some ⟨x, 0, none⟩), .bool false] W fun e w' => (∃ v, e = .returned v) ∧ (stFl who cl p fr la).Landed (stPM P p fr la) W w' x (stTry d) := by
  by_cases ht : d.tr = 3
  · rw [show stTry d = .over d from if_pos ht]
    refine (st_have_no_end W x cl who p fr la d none hB ht).mono ?_
    rintro e w' ⟨hu, rfl⟩
    exact ⟨hu, hB, But.refl _ _⟩
  · rw [show stTry d = .hd { d with tr := d.tr + 1 } from if_neg ht]
    exact st_have_no_on W x cl who p fr P T G la d none hB hR hP ⟨hd.tr.1, by have := hd.tr; omega⟩ hcx
theorem st_fol_have {W : World} {x : Nat} {d : StD} (hd : d.Ok) (hn : d.n ≤ 128) (hB : Blk W x (stC who none cl p fr la d) 66) (hR : Lay W cl P T G) (hcx : cl ≠ x) : Calls Try.prog 64 #[.pointer (some ⟨x, 0, none⟩), .bool true] W fun e w' => (∃ v, e = .returned v) ∧ (stFl who cl p fr la).Landed (stPM P p fr la) W w' x (stHave d) := by
  by_cases h1 : 1 < d.n
  · rw [show stHave d = .ta { d with st := true } from if_pos h1]
    exact st_have_more W x cl who p fr P T G la d none hB hR hP ⟨h1, hn⟩ hd.len hd.ta hcx
  · rw [show stHave d = .over { d with st := true } from if_neg h1]
    exact st_have_one W x cl who p fr la d none hB (by omega) hd.len
theorem st_laws : (stFl who cl p fr la).Laws (stPM P p fr la) (Rd.lay cl P T G) who where
  c0 := fun t nx => st_c0
  c1 := fun t nx => st_c1
  set := fun t nx nx' => st_s1 nx'
  axok := fun t a hok h => by
    cases t with
    | t0 d => cases h; exact axLd_ok _
    | hd d => cases h; exact axLd_ok _
    | tl d => cases h; exact axLd_ok _
    | rg d k => cases h; exact axLd_ok _
    | ly d k v => cases h; exact axSt_ok _ _ hok.2.2.2.2
    | sh d => cases h; exact axSw_ok _ _ _ (by omega)
    | nx d => cases h; exact axLd_ok _
    | sn d v => cases h; exact axSw_ok _ _ _ (by omega)
    | ta d => cases h; exact axSt_ok _ _ (by omega)
    | over d => cases h
  ents := fun t a h => by
    cases t with
    | t0 d => exact ent_st1
    | hd d => exact ent_st2
    | tl d => exact ent_st3
    | rg d k => exact ent_st4
    | ly d k v => exact ent_st5
    | sh d => exact ent_st6
    | nx d => exact ent_st7
    | sn d v => exact ent_st6
    | ta d => exact ent_st8
    | over d => exact trivial
  ok := fun t a v hok h hv => by
    cases t with
    | t0 d => exact ⟨hok.1.len, hv, hok.1.he, by have := hok.1.tr; have := hok.2; show 0 ≤ d.tr + 1 ∧ d.tr + 1 ≤ 3; omega⟩
    | hd d => exact ⟨hok.len, hok.ta, hv, hok.tr⟩
    | tl d =>
      show ((stPM P p fr la).nx (.tl d) v).Ok
      by_cases h1 : 128 < stMany d.he v
      · rw [show (stPM P p fr la).nx (.tl d) v = stTry d from if_pos h1]; exact stTry_ok hok
      · by_cases h2 : 0 < stMany d.he v
        · rw [show (stPM P p fr la).nx (.tl d) v = .rg { d with n := stMany d.he v, co := 0 } 0 from (if_neg h1).trans (if_pos h2)]
          exact ⟨⟨hok.len, hok.ta, hok.he, hok.tr⟩, rfl, h2, by show stMany d.he v ≤ 128; omega⟩
        · cases la with
          | true => rw [show (stPM P p fr true).nx (.tl d) v = .nx d from (if_neg h1).trans (if_neg h2)]; exact hok
          | false => rw [show (stPM P p fr false).nx (.tl d) v = .over d from (if_neg h1).trans (if_neg h2)]; exact hok
    | rg d k => exact ⟨⟨by show (d.lo.set k (gw v)).length = 128; rw [List.length_set]; exact hok.1.len, hok.1.ta, hok.1.he, hok.1.tr⟩, rfl, by have := hok.2.2.1; show ((k + 1 : Nat) : Int) ≤ d.n; omega, hok.2.2.2, hv⟩
    | ly d k u =>
      show ((stPM P p fr la).nx (.ly d k u) v).Ok
      by_cases h1 : ((k + 1 : Nat) : Int) < d.n
      · rw [show (stPM P p fr la).nx (.ly d k u) v = .rg d (k + 1) from if_pos h1]; exact ⟨hok.1, hok.2.1, h1, hok.2.2.2.1⟩
      · rw [show (stPM P p fr la).nx (.ly d k u) v = .sh d from if_neg h1]; exact ⟨hok.1, by have := hok.2.1; have := hok.2.2.1; omega, by have := hok.2.2.1; omega, hok.2.2.2.1⟩
    | sh d =>
      show ((stPM P p fr la).nx (.sh d) v).Ok
      by_cases h1 : v = 0
      · rw [show (stPM P p fr la).nx (.sh d) v = stTry d from if_pos h1]; exact stTry_ok hok.1
      · rw [show (stPM P p fr la).nx (.sh d) v = stHave d from if_neg h1]; exact stHave_ok hok.1 hok.2.2.2
    | nx d =>
      show ((stPM P p fr la).nx (.nx d) v).Ok
      by_cases h1 : v = 0
      · rw [show (stPM P p fr la).nx (.nx d) v = .over d from if_pos h1]; exact hok
      · rw [show (stPM P p fr la).nx (.nx d) v = .sn { d with lo := d.lo.set 0 (gw v), n := 1 } v from if_neg h1]; exact ⟨⟨by show (d.lo.set 0 (gw v)).length = 128; rw [List.length_set]; exact hok.len, hok.ta, hok.he, hok.tr⟩, rfl, hv⟩
    | sn d u =>
      show ((stPM P p fr la).nx (.sn d u) v).Ok
      by_cases h1 : v = 0
      · rw [show (stPM P p fr la).nx (.sn d u) v = stTry d from if_pos h1]; exact stTry_ok hok.1
      · rw [show (stPM P p fr la).nx (.sn d u) v = stHave d from if_neg h1]; exact stHave_ok hok.1 (by have := hok.2.1; omega)
    | ta d => exact ⟨hok.1.len, hok.1.ta, hok.1.he, hok.1.tr⟩
    | over d => cases h
  fol := fun W x t a v hok h hv hB hR hxR => by
    have hcx : cl ≠ x := fun e => hxR (by rw [e]; exact List.mem_singleton.2 rfl)
    have hR : Lay W cl P T G := hR
    cases t with
    | t0 d => cases h; exact st_begin W x cl who p fr P T G la d none hB hR hP v ⟨hok.1.tr.1, hok.2⟩ hcx
    | hd d => cases h; exact st_lookTail W x cl who p fr P T G la d none hB hR hP v hcx
    | tl d =>
      cases h
      by_cases h1 : 128 < stMany d.he v
      · rw [show (stPM P p fr la).nx (.tl d) v = stTry d from if_pos h1]
        by_cases ht : d.tr = 3
        · rw [show stTry d = .over d from if_pos ht]
          refine (st_choose_more_end W x cl who p fr P T G la d none hB hR v hok.he hv h1 ht).mono ?_
          rintro e w' ⟨hu, rfl⟩
          exact ⟨hu, hB, But.refl _ _⟩
        · rw [show stTry d = .hd { d with tr := d.tr + 1 } from if_neg ht]
          exact st_choose_more_on W x cl who p fr P T G la d none hB hR hP v hok.he hv h1 ⟨hok.tr.1, by have := hok.tr; omega⟩ hcx
      · by_cases h2 : 0 < stMany d.he v
        · rw [show (stPM P p fr la).nx (.tl d) v = .rg { d with n := stMany d.he v, co := 0 } 0 from (if_neg h1).trans (if_pos h2)]
          exact st_choose_some W x cl who p fr P T G la d none hB hR hP v hok.he hv ⟨h2, by omega⟩ hok.len hcx
        · obtain ⟨-, -, -, -, -, -, -, h3⟩ := stMany_facts d.he v
          cases la with
          | true =>
            rw [show (stPM P p fr true).nx (.tl d) v = .nx d from (if_neg h1).trans (if_neg h2)]
            exact st_choose_next W x cl who p fr P T G true d none hB hR hP v hok.he hv (by omega) rfl
          | false =>
            rw [show (stPM P p fr false).nx (.tl d) v = .over d from (if_neg h1).trans (if_neg h2)]
            refine (st_choose_none W x cl who p fr false d none hB v hok.he hv (by omega) rfl).mono ?_
            rintro e w' ⟨hu, rfl⟩
            exact ⟨hu, hB, But.refl _ _⟩
    | rg d k => cases h; exact st_lay W x cl who p fr P T G la d none hB hR hP k v (by have := hok.2.2; omega) hok.2.1 hok.1.len hcx
    | ly d k u =>
      cases h
      by_cases h1 : ((k + 1 : Nat) : Int) < d.n
      · rw [show (stPM P p fr la).nx (.ly d k u) v = .rg d (k + 1) from if_pos h1]
        exact st_gather_load W x cl who p fr P T G la d none hB hR hP (k + 1) h1 (by have := hok.2.2.2.1; omega) hok.2.1 hok.1.len
      · rw [show (stPM P p fr la).nx (.ly d k u) v = .sh d from if_neg h1]
        exact st_gather_swap W x cl who p fr P T G la d none hB hR hP (by have := hok.2.1; have := hok.2.2.1; omega) ⟨by have := hok.2.2.1; omega, hok.2.2.2.1⟩ hok.1.len hok.1.he
    | sh d =>
      cases h
      by_cases h0 : v = 0
      · subst h0
        exact st_fol_try hP hok.1 hB hR hcx
      · rw [show (stPM P p fr la).nx (.sh d) v = stHave d from if_neg h0]
        show Calls _ _ #[_, .bool (decide (v ≠ 0))] _ _
        rw [decide_eq_true h0]
        exact st_fol_have hP hok.1 hok.2.2.2 hB hR hcx
    | nx d =>
      cases h
      by_cases h0 : v = 0
      · subst h0
        refine (st_next_none W x).mono ?_
        rintro e w' ⟨hu, rfl⟩
        exact ⟨hu, hB, But.refl _ _⟩
      · rw [show (stPM P p fr la).nx (.nx d) v = .sn { d with lo := d.lo.set 0 (gw v), n := 1 } v from if_neg h0]
        exact st_next_some W x cl who p fr P T G la d none hB hR hP v h0 hok.len hcx
    | sn d u =>
      cases h
      by_cases h0 : v = 0
      · subst h0
        exact st_fol_try hP hok.1 hB hR hcx
      · rw [show (stPM P p fr la).nx (.sn d u) v = stHave d from if_neg h0]
        show Calls _ _ #[_, .bool (decide (v ≠ 0))] _ _
        rw [decide_eq_true h0]
        exact st_fol_have hP hok.1 (by have := hok.2.1; omega) hB hR hcx
    | ta d => cases h; exact st_leave W x cl who p fr la d none hB hok.1.len ⟨by have := hok.2.1; omega, by have := hok.2.2; omega⟩
    | over d => cases h
end
end Go.Proofs.Ytcjidigpdecdlaa
