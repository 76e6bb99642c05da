/- What comes next keeps what is so: the machines that put into a ring, and that wake some thread. -/
import Derived.Test.YtfdpikkinlljlaaGreatHMAJ
import Derived.Test.YtfdpikkinlljlaaGreatHMAN
namespace Go.Proofs.YtfdpikkinlljlaaGreat
open Go Go.RowKit
set_option linter.unusedVariables false
set_option maxRecDepth 100000
set_option linter.unusedSimpArgs false
set_option linter.unusedSectionVars false

theorem rp_ok_next {who P T G p : Int} {gl : Int → Int} {cl : Nat} {t : RpT} {v : Int} (hok : (rpCp who gl P T G p cl).ok t) (hv : 0 ≤ v ∧ v ≤ 18446744073709551615) : (rpCp who gl P T G p cl).ok ((rpPM who P p gl).nx t v) := by
  cases t with
  | nx d => have h : d.Ok := hok; exact (⟨h.len, hv, h.hd, h.tl⟩ : RpD.Ok { d with nt := v })
  | sn d =>
    have h : d.Ok := hok
    show (rpCp who gl P T G p cl).ok (if v = 0 then .nx d else if d.nt = 0 then .over { d with has := false } else .hd { d with g := gw d.nt })
    split
    · exact h
    · split
      · exact (⟨h.len, h.nt, h.hd, h.tl⟩ : RpD.Ok { d with has := false })
      · exact (⟨h.len, h.nt, h.hd, h.tl⟩ : RpD.Ok { d with g := gw d.nt })
  | hd d => have h : d.Ok := hok; exact (⟨h.len, h.nt, hv, h.tl⟩ : RpD.Ok { d with hd := v })
  | tl d =>
    have h : d.Ok := hok
    show (rpCp who gl P T G p cl).ok (if (v - d.hd) % 4294967296 < 256 then .st { d with tl := v } else .gl { d with tl := v, ld := 0 } 0)
    split
    · exact (⟨h.len, h.nt, h.hd, hv⟩ : RpD.Ok { d with tl := v })
    · exact ⟨(⟨h.len, h.nt, h.hd, hv⟩ : RpD.Ok { d with tl := v, ld := 0 }), by omega, rfl⟩
  | st d => exact hok
  | ln d => have h : d.Ok := hok; exact (⟨h.len, h.nt, h.hd, h.tl⟩ : RpD.Ok { d with has := false })
  | gl d k =>
    obtain ⟨h, hk, hl⟩ := hok
    have h1 := RpD.take1_ok h k v
    show (rpCp who gl P T G p cl).ok (if k + 1 < 128 then .gl (d.take1 k v) (k + 1) else .sh (d.take1 k v))
    split
    · rename_i hk1; exact ⟨h1, hk1, rfl⟩
    · refine ⟨h1, ?_⟩
      show (((k + 1 : Nat)) : Int) = 128
      omega
  | sh d =>
    show (rpCp who gl P T G p cl).ok (if v = 0 then .hd d else .acq d .fresh)
    split
    · exact hok.1
    · exact ⟨hok.1, trivial⟩
  | acq d q =>
    show (rpCp who gl P T G p cl).ok (((acqPM (wd 0 2 3 0 0) (wd 0 2 3 0 1) (wd 0 2 3 0 2) who).nx q v).goes (.acq d) (.que d (.ch 0)))
    cases (acqPM (wd 0 2 3 0 0) (wd 0 2 3 0 1) (wd 0 2 3 0 2) who).nx q v with
    | over t => exact ⟨hok.1, rfl⟩
    | fresh => exact ⟨hok.1, trivial⟩
    | wait t => exact ⟨hok.1, trivial⟩
    | has t => exact ⟨hok.1, trivial⟩
  | que d q =>
    show (rpCp who gl P T G p cl).ok (if ((qpPM gl d.all).ax ((qpPM gl d.all).nx q v)).isSome = true then .que d ((qpPM gl d.all).nx q v) else .rel d ((qpPM gl d.all).nx q v) .fresh)
    split
    · rename_i h; exact ⟨hok.1, h⟩
    · exact hok.1
  | rel d q r => exact hok
  | over d => exact hok
theorem ww_ok_next {who P T G : Int} {cl : Nat} (hp : 0 ≤ P ∧ P ≤ 64) (hT : 0 ≤ T ∧ T ≤ 65536) {t : WwT} {a : Ax} {v : Int} (hok : (wwCp who P T G cl).ok t) (ha : (wwPM P T who).ax t = some a) (hv : 0 ≤ v ∧ v ≤ 18446744073709551615) : (wwCp who P T G cl).ok ((wwPM P T who).nx t v) := by
  cases t with
  | ld =>
    show (wwCp who P T G cl).ok (if v = 0 then .sw else .no)
    split <;> exact trivial
  | sw =>
    show (wwCp who P T G cl).ok (if v = 0 then .no else .acq .fresh)
    split
    · exact trivial
    · exact rfl
  | no => exact trivial
  | acq b =>
    show (wwCp who P T G cl).ok (if ((acqPM (wd 0 2 3 0 0) (wd 0 2 3 0 1) (wd 0 2 3 0 2) who).ax ((acqPM (wd 0 2 3 0 0) (wd 0 2 3 0 1) (wd 0 2 3 0 2) who).nx b v)).isSome = true then .acq ((acqPM (wd 0 2 3 0 0) (wd 0 2 3 0 1) (wd 0 2 3 0 2) who).nx b v) else .get .ld)
    split
    · rename_i h; exact h
    · exact ⟨rfl, by decide, trivial⟩
  | get q =>
    have h2 := (ig_laws who P T G cl hp hT).ok q a v hok.2 ha hv
    show (wwCp who P T G cl).ok (if ((igPM P).ax ((igPM P).nx q v)).isSome = true then .get ((igPM P).nx q v) else if ((igPM P).nx q v).obs = -1 then .need ((igPM P).nx q v) else .run ((igPM P).nx q v) (.get .ld))
    split
    · rename_i h1; exact ⟨h1, h2⟩
    · split
      · exact trivial
      · exact ⟨rfl, trivial⟩
  | need q => exact trivial
  | cnt q => exact trivial
  | rel q r => exact trivial
  | run q s => exact ws_ok_next (G := G) (cl := cl) hp hT (t := s) hok ha hv
end Go.Proofs.YtfdpikkinlljlaaGreat
