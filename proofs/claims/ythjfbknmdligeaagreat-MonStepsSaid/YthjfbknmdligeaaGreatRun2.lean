/- The reference's routines: their accesses, Release, Wake, and what is done at the access at which one stopped. -/
import Derived.Test.YthjfbknmdligeaaGreatRun1
import Derived.Test.YthjfbknmdligeaaGreatRNew
import Derived.Test.YthjfbknmdligeaaGreatTwo
import Derived.Test.YthjfbknmdligeaaGreatFlow3
namespace Go.Proofs.YthjfbknmdligeaaGreat
open Go Go.RowKit
set_option linter.unusedVariables false
set_option maxRecDepth 100000
set_option linter.unusedSimpArgs false

/-- A routine at block x, over what was answered. -/
structure RunOn (w : World) (x : Nat) (A : Option Addr) (cap m : Nat) (g : Nat → Int) (r : Rn) : Prop where
  blk : Blk w x (runCells (.slice A m cap) r) 50
  got : GotOn w A cap m g
  far : GotFar A [x]
  le : m ≤ 1000000
  used : r.used ≤ m
theorem GotFar.of {A : Option Addr} {l l' : List Nat} (h : GotFar A l) (hs : ∀ k ∈ l', k ∈ l) : GotFar A l' := fun b e hb => h b e (hs b hb)
theorem RunOn.but {w w' : World} {x : Nat} {A : Option Addr} {cap m : Nat} {g : Nat → Int} {r : Rn} {l : List Nat} (h : RunOn w x A cap m g r) (hB : But l w w') (hx : x ∉ l) (hf : GotFar A l) : RunOn w' x A cap m g r :=
  ⟨h.blk.but hB hx, h.got.but hB hf, h.far, h.le, h.used⟩
theorem RunOn.below {w w' : World} {x : Nat} {A : Option Addr} {cap m : Nat} {g : Nat → Int} {r : Rn} (h : RunOn w x A cap m g r) (hB : Below w.heap.size w w') : RunOn w' x A cap m g r :=
  h.but (But.of_below (l := []) hB) (by simp) (fun b e => by simp)
theorem doS_used {m : Nat} {r : Rn} {k i old new : Int} (h : r.used ≤ m) : (doS m r k i old new).used ≤ m := by
  unfold doS
  split
  · exact h
  split
  · show r.used + 1 ≤ m; omega
  · exact h

section
variable (w : World) (x : Nat) (A : Option Addr) (cap m : Nat) (g : Nat → Int) (r : Rn) (h : RunOn w x A cap m g r)
include h
theorem do_on (k i old new : Int) :
    Calls Tryz.prog 67 #[.pointer (some ⟨x, 0, none⟩), .agg #[.int .i64 k, .int .i64 0, .int .i64 i, .int .u64 old, .int .u64 new, .bool false]] w fun e w' => e = .returned (.int .u64 (doV m g r)) ∧ RunOn w' x A cap m g (doS m r k i old new) ∧ But [x] w w' :=
  (do_run w x A cap m g r k i old new h.blk h.got h.far h.le h.used).mono fun e w' ⟨he, hb, hB⟩ => ⟨he, ⟨hb, h.got.but hB h.far, h.far, h.le, doS_used h.used⟩, hB⟩
theorem rload_on (i : Int) :
    Calls Tryz.prog 44 #[.pointer (some ⟨x, 0, none⟩), .int .i64 i] w fun e w' => e = .returned (.int .u64 (doV m g r)) ∧ RunOn w' x A cap m g (doS m r 1 i 0 0) ∧ But [x] w w' := by
  have hD := do_on w x A cap m g r h 1 i 0 0
  clear h
  go_enter Tryz.func44, Tryz.ntmps44
  go_wp2_with fail
  go_at_call 67; refine hD.mono ?_; rintro e w1 ⟨rfl, h1, h2⟩
  go_wp2_with fail
  go_ret
  exact ⟨rfl, h1, h2⟩
theorem rstore_on (i new : Int) :
    Calls Tryz.prog 69 #[.pointer (some ⟨x, 0, none⟩), .int .i64 i, .int .u64 new] w fun e w' => (∃ v, e = .returned v) ∧ RunOn w' x A cap m g (doS m r 2 i 0 new) ∧ But [x] w w' := by
  have hD := do_on w x A cap m g r h 2 i 0 new
  clear h
  go_enter Tryz.func69, Tryz.ntmps69
  go_wp2_with fail
  go_at_call 67; refine hD.mono ?_; rintro e w1 ⟨rfl, h1, h2⟩
  go_wp2_with fail
  go_end0
  exact ⟨⟨_, rfl⟩, h1, h2⟩
theorem rswap_on (i old new : Int) :
    Calls Tryz.prog 73 #[.pointer (some ⟨x, 0, none⟩), .int .i64 i, .int .u64 old, .int .u64 new] w fun e w' => e = .returned (.bool (decide (doV m g r = 1))) ∧ RunOn w' x A cap m g (doS m r 3 i old new) ∧ But [x] w w' := by
  have hD := do_on w x A cap m g r h 3 i old new
  clear h
  go_enter Tryz.func73, Tryz.ntmps73
  go_wp2_with fail
  go_at_call 67; refine hD.mono ?_; rintro e w1 ⟨rfl, h1, h2⟩
  go_wp2_with fail
  go_ret
  exact ⟨ret_bool (by by_cases h : doV m g r = 1 <;> simp [h]), h1, h2⟩
theorem radd_on (i new : Int) :
    Calls Tryz.prog 74 #[.pointer (some ⟨x, 0, none⟩), .int .i64 i, .int .u64 new] w fun e w' => e = .returned (.int .u64 (doV m g r)) ∧ RunOn w' x A cap m g (doS m r 4 i 0 new) ∧ But [x] w w' := by
  have hD := do_on w x A cap m g r h 4 i 0 new
  clear h
  go_enter Tryz.func74, Tryz.ntmps74
  go_wp2_with fail
  go_at_call 67; refine hD.mono ?_; rintro e w1 ⟨rfl, h1, h2⟩
  go_wp2_with fail
  go_ret
  exact ⟨rfl, h1, h2⟩
end

theorem rdo_on (w : World) (A : Option Addr) (cap c b n : Nat) (s : St) (k who i old new : Int) (hk : 1 ≤ k ∧ k ≤ 4) (h1 : k = 1 → new = 0) (hnb : 0 ≤ new ∧ new ≤ 18446744073709551615) (hn : n ≤ 1000000) (hl : Low s 1000000) (h : Is w 64 A cap c b n s) :
    Calls Tryz.prog 41 #[.pointer (some ⟨c, 0, none⟩), .int .i64 k, .int .i64 who, .int .i64 i, .int .u64 old, .int .u64 new] w fun e w' => e = .returned (.int .u64 (actA k i old new n s)) ∧ Is w' 64 A cap c b n (actS k who i old new n s) ∧ But [c, b] w w' := by
  obtain rfl | rfl | rfl | rfl : k = 1 ∨ k = 2 ∨ k = 3 ∨ k = 4 := by omega
  · rw [h1 rfl]; exact rdo_load_any w A cap c b n s who i old hn hl h
  · exact rdo_store_any w A cap c b n s who i old new hnb hn hl h
  · exact rdo_swap_any w A cap c b n s who i old new hnb hn hl h
  · exact rdo_add_any w A cap c b n s who i old new hnb hn hl h

/-- What was answered, and one answer more. -/
def gsnoc (g : Nat → Int) (m : Nat) (a : Int) : Nat → Int := fun j => if j = m then a else g j
theorem wordCells_gsnoc (g : Nat → Int) (m : Nat) (a : Int) : wordCells g m ++ [.int .u64 a] = wordCells (gsnoc g m a) (m + 1) := by
  rw [← wordCells_snoc]
  congr 1
  · unfold wordCells
    apply List.map_congr_left
    intro j hj
    have : j ≠ m := by have := List.mem_range.1 hj; omega
    simp [gsnoc, this]
  · simp [gsnoc]

/-- The block of what was answered. -/
def gotL (A : Option Addr) : List Nat := match A with | none => [] | some a => [a.block]
theorem turn_end {w w2 w3 : World} {A A' : Option Addr} {cap cap' cap1 c b n m gg : Nat} {g : Nat → Int} {s' : St} {a : Int} {o : Obj} (hB : But [c, b] w w2) (hI : Is w2 64 A' cap' c b n s') (hf : GotFar A [c, b]) (hg : (A = none ∧ m = 0 ∧ cap = 0) ∨ ∃ gb, A = some ⟨gb, 0, none⟩ ∧ gb < w.heap.size)
    (hown : w3.ownsRow 0 41 1 (.slice (some ⟨gg, 0, none⟩) (m + 1) cap1) (m + 1) (wordCells g m ++ [.int .u64 a])) (hgrow : (w2.alloc o).grownBy w3 (Value.slice A m cap).ownBlock) (hat : (Value.slice A m cap).ownBlock = some gg ∨ gg = w2.heap.size + 1) :
    GotOn w3 (some ⟨gg, 0, none⟩) cap1 (m + 1) (gsnoc g m a) ∧ Is w3 64 A' cap' c b n s' ∧ But (c :: b :: gotL A) w w3 ∧ (A = some ⟨gg, 0, none⟩ ∨ w.heap.size ≤ gg) := by
  have hown' := hown
  rw [wordCells_gsnoc] at hown'
  have hsz := hB.size
  have hA : (A = some ⟨gg, 0, none⟩ ∧ gg < w.heap.size ∧ (Value.slice A m cap).ownBlock = some gg) ∨ (w2.heap.size + 1 = gg) := by
    rcases hat with hat | hat
    · rcases hg with ⟨rfl, -, -⟩ | ⟨gb, rfl, hl⟩
      · simp [Value.ownBlock] at hat
      · simp [Value.ownBlock] at hat
        subst hat
        exact .inl ⟨rfl, hl, rfl⟩
    · exact .inr hat.symm
  have hne : gg ≠ c ∧ gg ≠ b := by
    have h1 := hI.lt
    have h2 := hI.bl
    rcases hA with ⟨e, -, -⟩ | e
    · have := hf gg e
      simp at this
      exact this
    · constructor <;> omega
  have hkeep : ∀ k, k < w2.heap.size → k ∉ gotL A → w3.heap[k]? = w2.heap[k]? := by
    intro k hk hkg
    rw [hgrow.block k (by simp; omega) ?_, heap_al _ hk]
    rcases hg with ⟨rfl, -, -⟩ | ⟨gb, rfl, hl⟩
    · simp [Value.ownBlock]
    · simpa [Value.ownBlock, gotL] using hkg
  have hsub : ∀ k, k ∈ gotL A → k ≠ c ∧ k ≠ b := by
    intro k hk
    rcases hg with ⟨rfl, -, -⟩ | ⟨gb, rfl, hl⟩
    · simp [gotL] at hk
    · simp [gotL] at hk
      subst hk
      have := hf k rfl
      simp at this
      exact this
  have hs3 : w2.heap.size ≤ w3.heap.size := Nat.le_trans (by simp) hgrow.size
  refine ⟨⟨hown'⟩, ?_, ⟨?_, ?_, ?_, by omega, ?_⟩, ?_⟩
  · exact hI.keep hs3 (hkeep c hI.lt fun h => (hsub c h).1 rfl) (fun _ => hkeep b hI.bl fun h => (hsub b h).2 rfl)
  · exact hgrow.os.trans hB.os
  · exact hgrow.tape.trans hB.tape
  · exact hgrow.output.trans hB.output
  · intro k hk hkl
    simp at hkl
    rw [hkeep k (by omega) hkl.2.2, hB.block k hk (by simp; exact ⟨hkl.1, hkl.2.1⟩)]
  · rcases hA with ⟨e, -, -⟩ | e
    · exact .inl e
    · exact .inr (by omega)

section
variable (w : World) (A : Option Addr) (cap m : Nat) (g : Nat → Int) (r : Rn) (A' : Option Addr) (cap' c b n : Nat) (s : St) (who : Int)
theorem turn_go (hs : r.stop = false) :
    Calls Tryz.prog 18 #[.pointer (some ⟨c, 0, none⟩), .agg (runCells (.slice A m cap) r), .int .i64 who] w fun e w' => e = .returned (.slice A m cap) ∧ Below w.heap.size w w' := by
  obtain ⟨u, st, k, i, old, new, sl⟩ := r
  dsimp only at hs
  subst hs
  have hb : Below w.heap.size w (w.alloc (.cells (runCells (.slice A m cap) ⟨u, false, k, i, old, new, sl⟩) 50)) := (Below.refl _ _).alloc (Nat.le_refl _) _
  simp only [runCells] at hb ⊢
  go_enter Tryz.func18, Tryz.ntmps18
  go_wp2_with fail
  go_ret
  exact ⟨rfl, hb⟩
theorem turn_sleeps (hs : r.stop = true) (hsl : r.sleep = true) (h0 : peekT n s r.i = 0) (hn : n ≤ 1000000) (h : Is w 64 A' cap' c b n s) :
    Calls Tryz.prog 18 #[.pointer (some ⟨c, 0, none⟩), .agg (runCells (.slice A m cap) r), .int .i64 who] w fun e w' => e = .returned (.slice A m cap) ∧ Below w.heap.size w w' := by
  obtain ⟨u, st, k, i, old, new, sl⟩ := r
  dsimp only at hs hsl h0
  subst hs hsl
  have hb : Below w.heap.size w (w.alloc (.cells (runCells (.slice A m cap) ⟨u, true, k, i, old, new, true⟩) 50)) := (Below.refl _ _).alloc (Nat.le_refl _) _
  have hP := rpeek_any _ A' cap' c b n s i hn (h.below hb)
  rw [h0] at hP
  simp only [runCells] at hb hP ⊢
  clear h h0
  go_enter Tryz.func18, Tryz.ntmps18
  go_wp2_with fail
  go_at_call 51; refine hP.mono ?_; rintro e w1 ⟨rfl, rfl⟩
  go_wp2_with fail
  go_ret
  exact ⟨rfl, hb⟩

set_option maxHeartbeats 2000000 in
theorem turn_does (hs : r.stop = true) (hsl : r.sleep = true → peekT n s r.i ≠ 0) (hk : 1 ≤ r.k ∧ r.k ≤ 4) (h1 : r.k = 1 → r.new = 0) (hnb : 0 ≤ r.new ∧ r.new ≤ 18446744073709551615) (hn : n ≤ 1000000) (hm : m ≤ 1000) (hl : Low s 1000000) (h : Is w 64 A' cap' c b n s) (hG : GotOn w A cap m g) (hf : GotFar A [c, b]) :
    Calls Tryz.prog 18 #[.pointer (some ⟨c, 0, none⟩), .agg (runCells (.slice A m cap) r), .int .i64 who] w fun e w' => ∃ gb cap2, e = .returned (.slice (some ⟨gb, 0, none⟩) (m + 1) cap2) ∧ GotOn w' (some ⟨gb, 0, none⟩) cap2 (m + 1) (gsnoc g m (actA r.k r.i r.old r.new n s)) ∧ Is w' 64 A' cap' c b n (actS r.k who r.i r.old r.new n s) ∧ But (c :: b :: gotL A) w w' ∧ (A = some ⟨gb, 0, none⟩ ∨ w.heap.size ≤ gb) := by
  obtain ⟨u, st, k, i, old, new, sl⟩ := r
  dsimp only at hs hsl hk h1 hnb ⊢
  subst hs
  have hb : Below w.heap.size w (w.alloc (.cells (runCells (.slice A m cap) ⟨u, true, k, i, old, new, sl⟩) 50)) := (Below.refl _ _).alloc (Nat.le_refl _) _
  have hB1 : Hid (Blk (w.alloc (.cells (runCells (.slice A m cap) ⟨u, true, k, i, old, new, sl⟩) 50)) w.heap.size (runCells (.slice A m cap) ⟨u, true, k, i, old, new, sl⟩) 50) := Blk.new _ _ _
  have hI : Hid (Is (w.alloc (.cells (runCells (.slice A m cap) ⟨u, true, k, i, old, new, sl⟩) 50)) 64 A' cap' c b n s) := h.below hb
  have hGo : Hid (GotOn (w.alloc (.cells (runCells (.slice A m cap) ⟨u, true, k, i, old, new, sl⟩) 50)) A cap m g) := hG.but (But.of_below (l := []) hb) (fun b e => by simp)
  have hHB : Hid (Below w.heap.size w (w.alloc (.cells (runCells (.slice A m cap) ⟨u, true, k, i, old, new, sl⟩) 50))) := hb
  have hcl := h.lt
  have hbl := h.bl
  have HSL : Hid (sl = true → peekT n s i ≠ 0) := hsl
  have hsz : (w.alloc (.cells (runCells (.slice A m cap) ⟨u, true, k, i, old, new, sl⟩) 50)).heap.size = w.heap.size + 1 := World.size_alloc _ _
  have HF : Hid (GotFar A [c, b]) := hf
  have HGF : Hid ((A = none ∧ m = 0 ∧ cap = 0) ∨ ∃ gb, A = some ⟨gb, 0, none⟩ ∧ gb < w.heap.size) := hG.form
  clear h hb hsl hG hf
  go_enter Tryz.func18, Tryz.ntmps18
  simp only [runCells] at hB1 hI hGo hHB hsz ⊢
  obtain ⟨i0, hi, hz0, hz1, hz2⟩ := info_parts info41
  cases sl
  · go_wp2_with fail
    go_at_call 41; refine (rdo_on _ A' cap' c b n s k who i old new hk h1 hnb hn hl hI.out).mono ?_; rintro e w2 ⟨rfl, hI2, hB2⟩
    have HI2 : Hid _ := hI2
    have HB2 : Hid (But [c, b] w w2) := (But.of_below hHB.out).trans hB2
    have HG2 : Hid (GotOn w2 A cap m g) := hGo.out.but hB2 HF.out
    have hs2 := HB2.out.size
    clear hI2 hB2 hB1 hI hGo hHB
    generalize hav : actA k i old new n s = a at *
    have HAV : Hid (actA k i old new n s = a) := hav
    clear hav
    go_wp2_with (at_builtin; refine wpList_append_lies _ rfl _ _ 37 rfl 0 41 i0 (.int .u64 0) 1 8 Tryz.underlying37 hi hz0 hz1 hz2 rfl (by decide) (.slice A m cap) m (wordCells g m) rfl (HG2.out.own.alloc _) ⟨w2.heap.size, 0, none⟩ 1 1 [.int .u64 a] rfl rfl (World.news_of_block (cs := #[.int .u64 a]) (t := 41) (fr := (0, 0)) (heap_alloc_new w2 _)) (by simp [Value.oneCell']) (by omega) (by unfold maxLen; omega) (by omega) (Nat.zero_le _) (w2.heap.size + 1) (by simp) ?_; intro gg cap1 w3 hown hgrow hat hlt)
    have hF := turn_end HB2.out HI2.out HF.out HGF.out hown hgrow hat
    clear hown hgrow hat HG2 HI2 HB2
    go_ret
    exact ⟨gg, cap1, rfl, by rw [HAV.out]; exact hF⟩
  · have hP := rpeek_any _ A' cap' c b n s i hn hI.out
    have hv : peekT n s i ≠ 0 := HSL.out rfl
    generalize peekT n s i = pv at *
    go_wp2_with fail
    go_at_call 51; refine hP.mono ?_; rintro e w1 ⟨rfl, rfl⟩
    clear hP
    go_wp2_with fail
    go_at_call 41; refine (rdo_on _ A' cap' c b n s k who i old new hk h1 hnb hn hl hI.out).mono ?_; rintro e w2 ⟨rfl, hI2, hB2⟩
    have HI2 : Hid _ := hI2
    have HB2 : Hid (But [c, b] w w2) := (But.of_below hHB.out).trans hB2
    have HG2 : Hid (GotOn w2 A cap m g) := hGo.out.but hB2 HF.out
    have hs2 := HB2.out.size
    clear hI2 hB2 hB1 hI hGo hHB
    generalize hav : actA k i old new n s = a at *
    have HAV : Hid (actA k i old new n s = a) := hav
    clear hav
    go_wp2_with (at_builtin; refine wpList_append_lies _ rfl _ _ 37 rfl 0 41 i0 (.int .u64 0) 1 8 Tryz.underlying37 hi hz0 hz1 hz2 rfl (by decide) (.slice A m cap) m (wordCells g m) rfl (HG2.out.own.alloc _) ⟨w2.heap.size, 0, none⟩ 1 1 [.int .u64 a] rfl rfl (World.news_of_block (cs := #[.int .u64 a]) (t := 41) (fr := (0, 0)) (heap_alloc_new w2 _)) (by simp [Value.oneCell']) (by omega) (by unfold maxLen; omega) (by omega) (Nat.zero_le _) (w2.heap.size + 1) (by simp) ?_; intro gg cap1 w3 hown hgrow hat hlt)
    have hF := turn_end HB2.out HI2.out HF.out HGF.out hown hgrow hat
    clear hown hgrow hat HG2 HI2 HB2
    go_ret
    exact ⟨gg, cap1, rfl, by rw [HAV.out]; exact hF⟩
end
end Go.Proofs.YthjfbknmdligeaaGreat
