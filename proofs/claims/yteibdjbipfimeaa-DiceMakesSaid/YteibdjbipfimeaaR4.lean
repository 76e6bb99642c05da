/- Entries gathered; the script. -/
import Derived.Test.YteibdjbipfimeaaR3
import Derived.OwnWalk
import Derived.Laws.Cover1
namespace Go.Proofs.Yteibdjbipfimeaa
open Go Go.RowKit
set_option linter.unusedVariables false
set_option linter.unusedSimpArgs false
set_option maxRecDepth 100000

theorem info48o : (Try.prog.info? 48).map (fun i => (i.zero, i.size, i.bytes)) = some (some (.agg #[.int .i64 0, .int .i64 0]), 2, 16) := by kernel_rfl

theorem news_of {w : World} {g : Nat} {M : List (Int × Int)} (h : w.heap[g]? = some (.cells (flat M).toArray 48 (0, 0))) (q : Nat) : ∀ j u, (flat (M.take q))[j]? = some u → w.cell? ((⟨g, 0, none⟩ : Addr).add j) = some u := by
  intro j u hj
  rw [← flat_take, List.getElem?_take] at hj
  split at hj
  · exact World.news_of_block h j u (by simpa using hj)
  · cases hj

/-- What is behind a gathering. -/
def Gat (w : World) (B n q cp : Nat) (A : Option Addr) (L : List (Int × Int)) (e : Ending) (w' : World) : Prop :=
  ∃ g cap : Nat, e = .returned (.slice (some ⟨g, 0, none⟩) (n + q) cap) ∧ w'.ownsRow B 48 2 (.slice (some ⟨g, 0, none⟩) (n + q) cap) (n + q) (flat L) ∧ w.grownBy w' (Value.slice A n cp).ownBlock

set_option maxHeartbeats 1000000 in
theorem gather_any (w : World) (B n cp : Nat) (A : Option Addr) (L M : List (Int × Int)) (g m most q : Nat) (hO : w.ownsRow B 48 2 (.slice A n cp) n (flat L)) (hB : B ≤ w.heap.size) (hM : w.heap[g]? = some (.cells (flat M).toArray 48 (0, 0))) (hm : M.length = m)
    (hn : n < most) (hmost : most ≤ 1000000) (h1 : 1 ≤ m) (hm2 : m ≤ 1000) (hq : q = min m (most - n)) :
    Calls Try.prog 22 #[.slice A n cp, .int .i64 (most : Int), .slice (some ⟨g, 0, none⟩) m m] w (Gat w B n q cp A (L ++ M.take q)) := by
  obtain ⟨i0, hi, hz0, hz1, hz2⟩ := info_parts info48o
  have HO : Hid (w.ownsRow B 48 2 (.slice A n cp) n (flat L)) := hO
  have hq1 : 1 ≤ q ∧ q ≤ m ∧ n + q ≤ most := by omega
  have HM : Hid (w.heap[g]? = some (.cells (flat M).toArray 48 (0, 0))) := hM
  have HL : Hid (flat (L ++ M.take q) = flat L ++ flat (M.take q)) := flat_app _ _
  have HN : Hid ((flat (M.take q)).length = q * 2) := by show _ = _; rw [flat_len, List.length_take]; omega
  clear hO hM
  rcases Nat.lt_or_ge (most - n) m with h | h
  · have hqq : q = most - n := by omega
    subst hqq
    clear hq
    go_enter Try.func22, Try.ntmps22
    go_wp2_with (refine wpList_append_lies _ rfl (.tmp 7) (.tmp 16) 40 rfl B 48 i0 _ 2 16 Try.underlying40 hi hz0 hz1 hz2 rfl (by omega) (.slice A n cp) n (flat L) rfl HO.out ⟨g, 0, none⟩ (most - n) m (flat (M.take (most - n))) rfl HN.out (news_of HM.out _) (flat_one _) (by omega) (by unfold maxLen; omega) (by omega) hB w.heap.size rfl ?_; intro g2 cap2 w2 hO2 hgr2 _ _; rw [← HL.out] at hO2)
    go_ret
    exact ⟨g2, cap2, rfl, hO2, hgr2⟩
  · have hqq : q = m := by omega
    subst hqq
    clear hq
    go_enter Try.func22, Try.ntmps22
    go_wp2_with (refine wpList_append_lies _ rfl (.tmp 7) (.tmp 16) 40 rfl B 48 i0 _ 2 16 Try.underlying40 hi hz0 hz1 hz2 rfl (by omega) (.slice A n cp) n (flat L) rfl HO.out ⟨g, 0, none⟩ q q (flat (M.take (q))) rfl HN.out (news_of HM.out _) (flat_one _) (by omega) (by unfold maxLen; omega) (by omega) hB w.heap.size rfl ?_; intro g2 cap2 w2 hO2 hgr2 _ _; rw [← HL.out] at hO2)
    go_ret
    exact ⟨g2, cap2, rfl, hO2, hgr2⟩
end Go.Proofs.Yteibdjbipfimeaa
