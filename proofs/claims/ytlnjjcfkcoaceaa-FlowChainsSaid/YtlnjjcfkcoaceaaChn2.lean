/- Chains: keep, which keeps what was answered and goes on. -/
import Derived.Test.YtlnjjcfkcoaceaaChn1
import Derived.Test.YtlnjjcfkcoaceaaPoke
namespace Go.Proofs.Ytlnjjcfkcoaceaa
open Go Go.RowKit
set_option linter.unusedVariables false
set_option maxRecDepth 100000
set_option linter.unusedSimpArgs false

theorem SeesB.but {w w' : World} {b r n : Nat} {L : Nat → Acc} {l : List Nat} (h : SeesB w b r n L) (hB : But l w w') (hb : b ∉ l) (hlt : b < w.heap.size) : SeesB w' b r n L := fun j hj i u hu =>
  (World.cell?_of_block (a := ⟨b, (r + j) * 6 + i, none⟩) (hB.block b hlt hb)).trans (h j hj i u hu)
theorem SeesB.tail {w : World} {b r n : Nat} {L : Nat → Acc} (h : SeesB w b r (n + 1) L) : SeesB w b (r + 1) n L := fun j hj i u hu => by
  have := h (j + 1) (by omega) i u (by rw [show r + (j + 1) = r + 1 + j by omega]; exact hu)
  rw [show r + (j + 1) = r + 1 + j by omega] at this
  exact this

/-- A chain of accesses that are done one by one: n of them are left, the first of which is the r-th; what comes next lies at block q. -/
structure Chn (w : World) (x : Nat) (who : Int) (nx : Option Addr) (ba r n : Nat) (L : Nat → Acc) (Ag : Option Addr) (capg m : Nat) (g : Nat → Int) : Prop where
  main : ∃ av B cb, AccS av ba r n ∧ Blk w x (chCells who nx av (.slice B 0 cb) (.slice Ag m capg)) 128
  sees : SeesB w ba r n L
  got : GotOn w Ag capg m g
  lt : ba < w.heap.size
  ne : ba ≠ x
  far : GotFar Ag [x, ba]

theorem app_end {w w3 : World} {A : Option Addr} {cap cap1 m gg : Nat} {g : Nat → Int} {a : Int} {o : Obj} (hG : GotOn w A cap m g)
    (hown : w3.ownsRow 0 34 1 (.slice (some ⟨gg, 0, none⟩) (m + 1) cap1) (m + 1) (wordCells g m ++ [.int .u64 a])) (hgrow : (w.alloc o).grownBy w3 (Value.slice A m cap).ownBlock) (hat : (Value.slice A m cap).ownBlock = some gg ∨ gg = w.heap.size + 1) :
    GotOn w3 (some ⟨gg, 0, none⟩) cap1 (m + 1) (gsnoc g m a) ∧ But (gotL A) w w3 ∧ (A = some ⟨gg, 0, none⟩ ∨ w.heap.size ≤ gg) := by
  have hown' := hown
  rw [wordCells_gsnoc] at hown'
  refine ⟨⟨hown'⟩, ⟨hgrow.os, hgrow.tape, hgrow.output, Nat.le_trans (by simp) hgrow.size, fun k hk hkg => ?_⟩, ?_⟩
  · rw [hgrow.block k (by simp; omega) ?_, heap_al _ hk]
    rcases hG.form with ⟨rfl, -, -⟩ | ⟨gb, rfl, hl⟩
    · simp [Value.ownBlock]
    · simpa [Value.ownBlock, gotL] using hkg
  · rcases hat with hat | hat
    · rcases hG.form with ⟨rfl, -, -⟩ | ⟨gb, rfl, hl⟩
      · simp [Value.ownBlock] at hat
      · simp [Value.ownBlock] at hat
        subst hat
        exact .inl rfl
    · exact .inr (by omega)
theorem gotL_not {A : Option Addr} {w : World} {cap m : Nat} {g : Nat → Int} (h : GotOn w A cap m g) {l : List Nat} (hf : GotFar A l) {k : Nat} (hk : k ∈ l) : k ∉ gotL A := fun hm => hf k (gotL_mem h hm).1 hk

/-- What keep leaves: nothing is to come, or the next access is. -/
inductive Kept (w w' : World) (x : Nat) (who : Int) (nx : Option Addr) (ba r n : Nat) (L : Nat → Acc) (Ag : Option Addr) (m : Nat) (g : Nat → Int) (a : Int) : Prop
  | last (gb cap2 : Nat) : n = 0 → Chn w' x who nx ba r 0 L (some ⟨gb, 0, none⟩) cap2 (m + 1) (gsnoc g m a) → But (x :: gotL Ag) w w' → (Ag = some ⟨gb, 0, none⟩ ∨ w.heap.size ≤ gb) → Kept w w' x who nx ba r n L Ag m g a
  | more (q gb cap2 n' : Nat) : n = n' + 1 → w.heap.size ≤ q → Blk w' q (comAcc (L r) x) 199 → q ≠ gb → Chn w' x who (some ⟨q, 0, none⟩) ba (r + 1) n' L (some ⟨gb, 0, none⟩) cap2 (m + 1) (gsnoc g m a) → But (x :: gotL Ag) w w' → (Ag = some ⟨gb, 0, none⟩ ∨ w.heap.size ≤ gb) → Kept w w' x who nx ba r n L Ag m g a

set_option maxHeartbeats 2000000 in
theorem keep_any (w : World) (x : Nat) (who : Int) (nx : Option Addr) (ba r n : Nat) (L : Nat → Acc) (Ag : Option Addr) (capg m : Nat) (g : Nat → Int) (a : Int) (h : Chn w x who nx ba r n L Ag capg m g) (hn : n ≤ 1000) (hm : m ≤ 1000) :
    Calls Try.prog 119 #[.pointer (some ⟨x, 0, none⟩), .int .u64 a] w fun e w' => (∃ v, e = .returned v) ∧ Kept w w' x who nx ba r n L Ag m g a := by
  obtain ⟨i0, hi, hz0, hz1, hz2⟩ := info_parts info34
  obtain ⟨av, B, cb, hAv, hM⟩ := h.main
  have c4 := hM.cell 4 (v := .slice Ag m capg) rfl
  have f4 := hM.fro 4
  have hlt := hM.lt
  have H : Hid (Chn w x who nx ba r n L Ag capg m g) := h
  have HM : Hid (Blk w x (chCells who nx av (.slice B 0 cb) (.slice Ag m capg)) 128) := hM
  have HA : Hid (AccS av ba r n) := hAv
  clear h hM hAv
  go_enter Try.func119, Try.ntmps119
  go_wp2_with (at_builtin; refine wpList_append_lies _ rfl _ _ 22 rfl 0 34 i0 (.int .u64 0) 1 8 Try.underlying22 hi hz0 hz1 hz2 rfl (by decide) (.slice Ag m capg) m (wordCells g m) rfl (H.out.got.own.alloc _) ⟨w.heap.size, 0, none⟩ 1 1 [.int .u64 a] rfl rfl (World.news_of_block (cs := #[.int .u64 a]) (t := 34) (fr := (0, 0)) (heap_alloc_new w _)) (by simp [Value.oneCell']) (by omega) (by unfold maxLen; omega) (by omega) (Nat.zero_le _) (w.heap.size + 1) (by simp) ?_; intro gg cap1 w3 hown hgrow hat hlt3; have hE := app_end H.out.got hown hgrow hat; have hM3 := HM.out.but hE.2.1 (gotL_not H.out.got H.out.far (by simp)); have c4' := hM3.cell 4 (v := .slice Ag m capg) rfl; have f4' := hM3.fro 4)
  have hlt' := hM3.lt
  have hW : Hid (Blk (w3.setCell ⟨x, 4, none⟩ (.slice (some ⟨gg, 0, none⟩) (m + 1) cap1)) x (chCells who nx av (.slice B 0 cb) (.slice (some ⟨gg, 0, none⟩) (m + 1) cap1)) 128) := hM3.set 4 _
  have hxg : x ≠ gg := by
    rcases hE.2.2 with e | e
    · have := H.out.far gg e; simp at this; exact fun h => this.1 h.symm
    · omega
  have hbg : ba ≠ gg := by
    have := H.out.lt
    rcases hE.2.2 with e | e
    · have := H.out.far gg e; simp at this; exact fun h => this.2 h.symm
    · omega
  have hG4 : Hid (GotOn (w3.setCell ⟨x, 4, none⟩ (.slice (some ⟨gg, 0, none⟩) (m + 1) cap1)) (some ⟨gg, 0, none⟩) cap1 (m + 1) (gsnoc g m a)) := hE.1.but ((But.refl [x] _).set (g := x) (.inl (by simp)) 4 _) (fun k e => by cases e; simp; exact fun h => hxg h.symm)
  have hB4 : Hid (But (x :: gotL Ag) w (w3.setCell ⟨x, 4, none⟩ (.slice (some ⟨gg, 0, none⟩) (m + 1) cap1))) := (hE.2.1.more (by intro k _ hk; simp [hk])).set (g := x) (.inl (by simp)) 4 _
  have hbn : ba ∉ x :: gotL Ag := by
    have := gotL_not H.out.got H.out.far (k := ba) (by simp)
    simp [H.out.ne, this]
  have hS4 : Hid (SeesB (w3.setCell ⟨x, 4, none⟩ (.slice (some ⟨gg, 0, none⟩) (m + 1) cap1)) ba r n L) := H.out.sees.but hB4.out hbn H.out.lt
  have hgl : Hid (Ag = some ⟨gg, 0, none⟩ ∨ w.heap.size ≤ gg) := hE.2.2
  have hlt4 : gg < (w3.setCell ⟨x, 4, none⟩ (.slice (some ⟨gg, 0, none⟩) (m + 1) cap1)).heap.size := by rw [size_set]; exact hlt3
  generalize w3.setCell ⟨x, 4, none⟩ (.slice (some ⟨gg, 0, none⟩) (m + 1) cap1) = w4 at *
  clear hE hM3 c4' f4' hown hgrow hat c4 f4
  have hba4 : ba < w4.heap.size := Nat.lt_of_lt_of_le H.out.lt hB4.out.size
  have hfar4 : GotFar (some ⟨gg, 0, none⟩) [x, ba] := fun k e => by cases e; simp; exact ⟨fun h => hxg h.symm, fun h => hbg h.symm⟩
  by_cases hn0 : n = 0
  · subst hn0
    obtain ⟨A, ca, rfl, hA, hca1, hca2⟩ := HA.out.h
    have hGo := goOn_none w4 x who nx A ca B cb _ hW.out
    go_at_call 71; refine hGo.mono ?_; rintro e w5 ⟨⟨v, rfl⟩, rfl⟩
    go_wp2_with fail
    go_end0
    exact ⟨⟨_, rfl⟩, .last gg cap1 rfl ⟨⟨_, B, cb, HA.out, hW.out⟩, hS4.out, hG4.out, hba4, H.out.ne, hfar4⟩ hB4.out hgl.out⟩
  · obtain ⟨n', rfl⟩ : ∃ n', n = n' + 1 := ⟨n - 1, by omega⟩
    have hGo := goOn_acc w4 x who nx ba r n' L av _ _ hW.out HA.out hS4.out hba4 H.out.ne (by omega)
    go_at_call 71; refine hGo.mono ?_; rintro e w5 ⟨⟨v, rfl⟩, q, av', hq, hAv', hM5, hQ5, hB5⟩
    clear hGo
    go_wp2_with fail
    go_end0
    exact ⟨⟨_, rfl⟩, .more q gg cap1 n' rfl (Nat.le_trans hB4.out.size hq) hQ5 (by omega) ⟨⟨av', B, cb, hAv', hM5⟩, hS4.out.tail.but hB5 (by simp [H.out.ne]) hba4, hG4.out.but hB5 (fun k e => by cases e; simp; exact fun h => hxg h.symm), Nat.lt_of_lt_of_le hba4 hB5.size, H.out.ne, hfar4⟩ (hB4.out.trans (hB5.more (by intro k _ hk; simp at hk; simp [hk]))) hgl.out⟩
end Go.Proofs.Ytlnjjcfkcoaceaa
