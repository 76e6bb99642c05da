/- The page's example. -/
import Derived.Test.YtideofojmgmboaaB7
namespace Go.Proofs.Ytideofojmgmboaa
open Go Go.RowKit
set_option linter.unusedVariables false
set_option linter.unusedSimpArgs false
set_option maxRecDepth 100000
variable {w : World} {a : Nat} {F : Nat → Prop} {L : List It}

theorem aw1 : putL [] (9, 5) = [(9, 5)] := by decide +kernel
theorem aw2 : putL [(9, 5)] (9, 3) = [(9, 3), (9, 5)] := by decide +kernel
theorem aw3 : putL [(9, 3), (9, 5)] (2, 8) = [(2, 8), (9, 5), (9, 3)] := by decide +kernel
theorem aw4 : hpop [(2, 8), (9, 5), (9, 3)] = ((2, 8), [(9, 3), (9, 5)]) := by decide +kernel
theorem aw5 : hpop [(9, 3), (9, 5)] = ((9, 3), [(9, 5)]) := by decide +kernel
theorem aw6 : hpop [(9, 5)] = ((9, 5), []) := by decide +kernel
/-- an agenda of the caller's own: whatever is new is its own, but the caller's blocks E -/
structure Own (E : List Nat) (w w' : World) (a : Nat) (L : List It) : Prop where
  bel : Below w.heap.size w w'
  lt : ∀ e ∈ E, e < w'.heap.size
  ag : Ag w' a (fun k => w.heap.size ≤ k ∧ k ∉ E) L
variable {E : List Nat}
theorem below_kp {X Y : World} {G : Nat → Prop} (hb : Below w.heap.size w X) (hg : ∀ k, G k → w.heap.size ≤ k) (hk : Kp G X Y) : Below w.heap.size w Y :=
  ⟨hk.os.trans hb.os, hk.tape.trans hb.tape, hk.output.trans hb.output, Nat.le_trans hb.size hk.size, fun i hi => (hk.block i (Nat.lt_of_lt_of_le hi hb.size) (fun e => by have := hg i e; omega)).trans (hb.block i hi)⟩
theorem Own.step {X Y : World} {K K' : List It} (hX : Own E w X a K) (hk : Kp (fun k => w.heap.size ≤ k ∧ k ∉ E) X Y) (ha : Ag Y a (And0 (fun k => w.heap.size ≤ k ∧ k ∉ E) X.heap.size) K') : Own E w Y a K' ∧ ∀ e ∈ E, Y.heap[e]? = X.heap[e]? :=
  ⟨⟨below_kp hX.bel (fun _ h => h.1) hk, fun e he => Nat.lt_of_lt_of_le (hX.lt e he) hk.size, ha.wide (fun k h => by rcases h with h | h; exact h; exact ⟨Nat.le_trans hX.bel.size h, fun hm => by have := hX.lt k hm; omega⟩)⟩, fun e he => hk.block e (hX.lt e he) (fun h => h.2 he)⟩
theorem Own.below {X Y : World} {K : List It} (hX : Own E w X a K) (hb : Below X.heap.size X Y) : Own E w Y a K :=
  ⟨hX.bel.trans (hb.mono hX.bel.size), fun e he => Nat.lt_of_lt_of_le (hX.lt e he) hb.size, hX.ag.below hb⟩
theorem Ag.tight (h : Ag w a F L) : Ag w a (fun k => F k ∧ k < w.heap.size) L := by
  obtain ⟨h1, h2⟩ := h
  refine ⟨⟨h1, Ag.lt ⟨h1, h2⟩⟩, ?_⟩
  rcases h2 with h2 | ⟨lb, mb, cap, clk, h2, h3, h4⟩
  · exact Or.inl h2
  · exact Or.inr ⟨lb, mb, cap, clk, h2, ⟨h3, h2.lt.2.1⟩, ⟨h4, h2.lt.2.2⟩⟩
/-- what is new may be the caller's -/
theorem Own.mine {X Y : World} {K : List It} (hX : Own E w X a K) (hb : Below X.heap.size X Y) (l : List Nat) (hl : ∀ e ∈ l, X.heap.size ≤ e ∧ e < Y.heap.size) : Own (l ++ E) w Y a K :=
  ⟨hX.bel.trans (hb.mono hX.bel.size), fun e he => by rcases List.mem_append.1 he with h | h; exact (hl e h).2; exact Nat.lt_of_lt_of_le (hX.lt e h) hb.size,
    (hX.ag.tight.below hb).wide (fun k h => ⟨h.1.1, fun hm => by rcases List.mem_append.1 hm with h' | h'; have := (hl k h').1; omega; exact h.1.2 h'⟩)⟩
theorem Own.box {X : World} {K : List It} (hX : Own E w X a K) (o : Obj) : Own (X.heap.size :: E) w (X.alloc o) a K :=
  hX.mine ((Below.refl _ _).alloc (Nat.le_refl _) _) [X.heap.size] (by simp)
theorem own_put (X : World) (K : List It) (x : It) (hX : Own E w X a K) (hx : pos K x.2 = none) (hl : K.length < 65536) : Calls Try.prog 10 #[.pointer (some ⟨a, 0, none⟩), itV x] X fun e w' => e = .returned (.int .i64 0) ∧ Own E w w' a (putL K x) ∧ ∀ e ∈ E, w'.heap[e]? = X.heap[e]? :=
  (put_ok hX.ag x hx hl).mono (fun e w' h => ⟨h.1, hX.step h.2.1 h.2.2⟩)
theorem own_pop (X : World) (K : List It) (n : Nat) (hX : Own E w X a K) (hl : K.length = n + 1) (hc : K.length < 2305843009213693951) : Calls Try.prog 6 #[.pointer (some ⟨a, 0, none⟩)] X fun e w' => e = .returned (.tuple #[itV (hpop K).1, .bool true]) ∧ Own E w w' a (hpop K).2 ∧ ∀ e ∈ E, w'.heap[e]? = X.heap[e]? :=
  (pop_ok hX.ag n hl hc).mono (fun e w' h => ⟨h.1, hX.step h.2.1 h.2.2⟩)
theorem own_new (w : World) : Calls Try.prog 16 #[] w fun e w' => e = .returned (.pointer (some ⟨w.heap.size, 0, none⟩)) ∧ Own [] w w' w.heap.size [] :=
  (new_any w).mono (fun e w' h => ⟨h.1, h.2.1, by simp, ⟨Nat.le_refl _, by simp⟩, Or.inl ⟨h.2.2, rfl⟩⟩)
theorem own_p1 (X : World) (hX : Own E w X a []) : Calls Try.prog 10 #[.pointer (some ⟨a, 0, none⟩), .agg #[.int .i64 9, .int .i64 5]] X fun e w' => e = .returned (.int .i64 0) ∧ Own E w w' a [(9, 5)] ∧ ∀ e ∈ E, w'.heap[e]? = X.heap[e]? := by
  have := own_put X [] (9, 5) hX rfl (by decide)
  rwa [aw1] at this
theorem own_p2 (X : World) (hX : Own E w X a [(9, 5)]) : Calls Try.prog 10 #[.pointer (some ⟨a, 0, none⟩), .agg #[.int .i64 9, .int .i64 3]] X fun e w' => e = .returned (.int .i64 0) ∧ Own E w w' a [(9, 3), (9, 5)] ∧ ∀ e ∈ E, w'.heap[e]? = X.heap[e]? := by
  have := own_put X _ (9, 3) hX (by decide +kernel) (by decide)
  rwa [aw2] at this
theorem own_p3 (X : World) (hX : Own E w X a [(9, 3), (9, 5)]) : Calls Try.prog 10 #[.pointer (some ⟨a, 0, none⟩), .agg #[.int .i64 2, .int .i64 8]] X fun e w' => e = .returned (.int .i64 0) ∧ Own E w w' a [(2, 8), (9, 5), (9, 3)] ∧ ∀ e ∈ E, w'.heap[e]? = X.heap[e]? := by
  have := own_put X _ (2, 8) hX (by decide +kernel) (by decide)
  rwa [aw3] at this
theorem own_p4 (X : World) (hX : Own E w X a [(2, 8), (9, 5), (9, 3)]) : Calls Try.prog 6 #[.pointer (some ⟨a, 0, none⟩)] X fun e w' => e = .returned (.tuple #[.agg #[.int .i64 2, .int .i64 8], .bool true]) ∧ Own E w w' a [(9, 3), (9, 5)] ∧ ∀ e ∈ E, w'.heap[e]? = X.heap[e]? := by
  have := own_pop X _ 2 hX rfl (by decide)
  rwa [aw4] at this
theorem own_p5 (X : World) (hX : Own E w X a [(9, 3), (9, 5)]) : Calls Try.prog 6 #[.pointer (some ⟨a, 0, none⟩)] X fun e w' => e = .returned (.tuple #[.agg #[.int .i64 9, .int .i64 3], .bool true]) ∧ Own E w w' a [(9, 5)] ∧ ∀ e ∈ E, w'.heap[e]? = X.heap[e]? := by
  have := own_pop X _ 1 hX rfl (by decide)
  rwa [aw5] at this
theorem own_p6 (X : World) (hX : Own E w X a [(9, 5)]) : Calls Try.prog 6 #[.pointer (some ⟨a, 0, none⟩)] X fun e w' => e = .returned (.tuple #[.agg #[.int .i64 9, .int .i64 5], .bool true]) ∧ Own E w w' a [] ∧ ∀ e ∈ E, w'.heap[e]? = X.heap[e]? := by
  have := own_pop X _ 0 hX rfl (by decide)
  rwa [aw6] at this
set_option maxHeartbeats 4000000 in
theorem awake_any (w : World) : Calls Try.prog 9 #[] w fun e w' => e = .returned (.bool true) ∧ Below w.heap.size w w' := by
  have HN := Lib.hid (own_new w)
  have H1 := Lib.hid (fun X E => own_p1 (w := w) (a := w.heap.size) (E := E) X)
  have H2 := Lib.hid (fun X E => own_p2 (w := w) (a := w.heap.size) (E := E) X)
  have H3 := Lib.hid (fun X E => own_p3 (w := w) (a := w.heap.size) (E := E) X)
  have H4 := Lib.hid (fun X E => own_p4 (w := w) (a := w.heap.size) (E := E) X)
  have H5 := Lib.hid (fun X E => own_p5 (w := w) (a := w.heap.size) (E := E) X)
  have H6 := Lib.hid (fun X E => own_p6 (w := w) (a := w.heap.size) (E := E) X)
  have HL := Lib.hid (fun (X : World) E (hX : Own E w X w.heap.size []) => Len_ag hX.ag)
  go_enter Try.func9, Try.ntmps9
  go_wp2_with fail
  go_at_call 16; refine HN.out.mono ?_; rintro e w1 ⟨rfl, h1⟩
  have A1 := Lib.hid h1
  clear h1
  go_wp2_with fail
  go_at_call 10; refine (H1.out _ _ A1.out).mono ?_; rintro e w2 ⟨rfl, h1, -⟩
  have A2 := Lib.hid h1
  clear h1
  go_wp2_with fail
  go_at_call 10; refine (H2.out _ _ A2.out).mono ?_; rintro e w3 ⟨rfl, h1, -⟩
  have A3 := Lib.hid h1
  clear h1
  go_wp2_with fail
  go_at_call 10; refine (H3.out _ _ A3.out).mono ?_; rintro e w4 ⟨rfl, h1, -⟩
  have A4 := Lib.hid h1
  clear h1
  go_wp2_with fail
  go_at_call 6; refine (H4.out _ _ A4.out).mono ?_; rintro e w5 ⟨rfl, h1, -⟩
  have A5 := Lib.hid (h1.box (.cells #[.int .i64 2, .int .i64 8] 23))
  have N5 := Lib.hid (heap_alloc_new w5 (.cells #[.int .i64 2, .int .i64 8] 23))
  clear h1
  go_wp2_with fail
  generalize w5.alloc (.cells #[.int .i64 2, .int .i64 8] 23) = v5 at *
  generalize w5.heap.size = b5 at *
  go_at_call 6; refine (H5.out _ _ A5.out).mono ?_; rintro e w6 ⟨rfl, h1, hk⟩
  have N6 : Hid (w6.heap[b5]? = some (.cells #[.int .i64 2, .int .i64 8] 23 (0, 0))) := (hk b5 (by simp)).trans N5.out
  have A6 := Lib.hid (h1.box (.cells #[.int .i64 9, .int .i64 3] 23))
  have M6 := Lib.hid (heap_alloc_new w6 (.cells #[.int .i64 9, .int .i64 3] 23))
  have N6' := Lib.hid ((heap_al _ (block_lt N6.out) (.cells #[.int .i64 9, .int .i64 3] 23)).trans N6.out)
  clear h1 hk N6
  go_wp2_with fail
  generalize w6.alloc (.cells #[.int .i64 9, .int .i64 3] 23) = v6 at *
  generalize w6.heap.size = b6 at *
  go_at_call 6; refine (H6.out _ _ A6.out).mono ?_; rintro e w7 ⟨rfl, h1, hk⟩
  have N7 := (hk b5 (by simp)).trans N6'.out
  have M7 := (hk b6 (by simp)).trans M6.out
  have A7 := Lib.hid (h1.box (.cells #[.int .i64 9, .int .i64 5] 23))
  have P7 := heap_alloc_new w7 (.cells #[.int .i64 9, .int .i64 5] 23)
  have N7' := (heap_al _ (block_lt N7) (.cells #[.int .i64 9, .int .i64 5] 23)).trans N7
  have M7' := (heap_al _ (block_lt M7) (.cells #[.int .i64 9, .int .i64 5] 23)).trans M7
  have c5 : (w7.alloc (.cells #[.int .i64 9, .int .i64 5] 23)).cell? ⟨b5, 1, none⟩ = some (.int .i64 8) := by simp [cell_of N7']
  have c6 : (w7.alloc (.cells #[.int .i64 9, .int .i64 5] 23)).cell? ⟨b6, 1, none⟩ = some (.int .i64 3) := by simp [cell_of M7']
  have c7 : (w7.alloc (.cells #[.int .i64 9, .int .i64 5] 23)).cell? ⟨w7.heap.size, 1, none⟩ = some (.int .i64 5) := by simp [cell_of P7]
  clear h1 hk N7 M7 P7 N7' M7'
  go_wp2_with fail
  generalize w7.alloc (.cells #[.int .i64 9, .int .i64 5] 23) = v7 at *
  generalize w7.heap.size = b7 at *
  have HL7 := Lib.hid (HL.out _ _ A7.out)
  go_at_call 15; refine HL7.out.mono ?_; rintro e w8 ⟨rfl, rfl⟩
  go_wp2_with fail
  go_ret
  exact ⟨rfl, A7.out.bel⟩
end Go.Proofs.Ytideofojmgmboaa
