/- The contracts of the reference's memory: Do and Peek. -/
import Derived.Test.YtcjidigpdecdlaaMake
namespace Go.Proofs.Ytcjidigpdecdlaa
open Go Go.RowKit
set_option linter.unusedVariables false
set_option maxRecDepth 100000
set_option linter.unusedSimpArgs false

theorem Is.fld {w : World} {T : TypeId} {A : Option Addr} {cap c b n : Nat} {s : St} (h : Is w T A cap c b n s) (j : Nat) (u : Value) (s' : St) (e : (memCells A n cap s).setIfInBounds j u = memCells A n cap s') (ef : s'.f = s.f) : Is (w.setCell ⟨c, j, none⟩ u) T A cap c b n s' :=
  ⟨by rw [← e]; exact heap_set h.main j u, h.bcap, fun hn => by obtain ⟨e1, hne, cs, hh, hcs⟩ := h.wds hn; exact ⟨e1, hne, cs, (heap_set_ne _ hne _ _).trans hh, by rw [ef]; exact hcs⟩, by rw [ef]; exact h.bd, by rw [size_set]; exact h.bl⟩
theorem Is.wrd {w : World} {T : TypeId} {A : Option Addr} {cap c b n : Nat} {s : St} (h : Is w T A cap c b n s) (j : Nat) (hj : j < n) (v : Int) (hv : 0 ≤ v ∧ v ≤ 18446744073709551615) : Is (w.setCell ⟨b, j, none⟩ (.int .u64 v)) T A cap c b n { s with f := upd s.f j v } := by
  obtain ⟨e, hne, cs, hh, hcs⟩ := h.wds (by omega)
  refine ⟨?_, h.bcap, fun _ => ⟨e, hne, cs.setIfInBounds j (.int .u64 v), heap_set hh _ _, fun t ht => ?_⟩, fun t ht => ?_, by rw [size_set]; exact h.bl⟩
  · rw [heap_set_ne _ (Ne.symm hne)]; exact h.main
  · have hlt := (Array.getElem?_eq_some_iff.1 (hcs t ht)).1
    by_cases htj : t = j
    · subst htj; simp [upd, hlt]
    · simp only [upd, htj, if_false]
      rw [Array.getElem?_setIfInBounds_ne (Ne.symm htj)]
      exact hcs t ht
  · by_cases htj : t = j
    · simp only [upd, htj, if_true]; exact hv
    · simp only [upd, htj, if_false]; exact h.bd t ht
theorem Is.six {w : World} {T : TypeId} {A : Option Addr} {cap c b n : Nat} {s : St} (h : Is w T A cap c b n s) (k who i old new : Int) (done : Bool) : Is (w.setCells c 3 (accL k who i old new done).toArray.toList) T A cap c b n { s with kind := k, who := who, at' := i, old := old, new := new, done := done } := by
  simp only [accL, World.setCells]
  exact ((((((h.fld 3 _ { s with kind := k } rfl rfl).fld 4 _ { s with kind := k, who := who } rfl rfl).fld 5 _ { s with kind := k, who := who, at' := i } rfl rfl).fld 6 _ { s with kind := k, who := who, at' := i, old := old } rfl rfl).fld 7 _ { s with kind := k, who := who, at' := i, old := old, new := new } rfl rfl).fld 8 _ { s with kind := k, who := who, at' := i, old := old, new := new, done := done } rfl rfl)
theorem Is.room {w : World} {T : TypeId} {A : Option Addr} {cap c b n : Nat} {s : St} (h : Is w T A cap c b n s) (k who i old new : Int) (done : Bool) : w.there c 3 (accL k who i old new done).toArray.size := by
  intro j hj
  have hj' : j < 6 := hj
  have hm := h.main
  refine ⟨?_, by simp [World.frozen?, hm]⟩
  simp only [World.cell?, hm]
  have : 3 + j < (memCells A n cap s).size := by simp [memCells]; omega
  simp [this]

/-- Where the reference has laid down an access. -/
theorem rstart {w : World} {A : Option Addr} {cap c b n : Nat} {s : St} (h : Is w 83 A cap c b n s) (k who i new : Int) :
    (w.setCell ⟨c, 1, none⟩ (.int .i64 (s.clock + 1))).there c 3 (accL k who i 0 new false).toArray.size ∧
    Is ((w.setCell ⟨c, 1, none⟩ (.int .i64 (s.clock + 1))).setCells c 3 (accL k who i 0 new false).toArray.toList) 83 A cap c b n { s with clock := s.clock + 1, kind := k, who := who, at' := i, old := 0, new := new, done := false } ∧
    But [c, b] w ((w.setCell ⟨c, 1, none⟩ (.int .i64 (s.clock + 1))).setCells c 3 (accL k who i 0 new false).toArray.toList) :=
  have h1 := h.fld 1 (.int .i64 (s.clock + 1)) { s with clock := s.clock + 1 } rfl rfl
  ⟨h1.room _ _ _ _ _ _, h1.six _ _ _ _ _ _, But.sets (Or.inl (by simp)) _ _ ((But.refl _ _).set (Or.inl (by simp)) _ _)⟩

end Go.Proofs.Ytcjidigpdecdlaa
