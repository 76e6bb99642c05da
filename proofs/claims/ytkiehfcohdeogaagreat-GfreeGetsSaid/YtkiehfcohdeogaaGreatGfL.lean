/- The list of goroutines that lie back: gfree.List. -/
import Derived.Test.YtkiehfcohdeogaaGreatLinks
import Derived.Test.YtkiehfcohdeogaaGreatRM3
namespace Go.Proofs.YtkiehfcohdeogaaGreat
open Go Go.RowKit
set_option linter.unusedVariables false
set_option maxRecDepth 100000
set_option linter.unusedSimpArgs false

theorem row_mono {w : World} {base base' : Nat} {e : TypeId} {size : Nat} {v : Value} {n : Nat} {xs : List Value} (h : w.ownsRow base e size v n xs) (hb : base' ≤ base) : w.ownsRow base' e size v n xs := by
  refine ⟨h.1, ?_⟩
  rcases h.2 with h0 | ⟨gb, cp, cur, e0, hb0, rest⟩
  · exact .inl h0
  · exact .inr ⟨gb, cp, cur, e0, Nat.le_trans hb hb0, rest⟩
theorem glist_link (w : World) (bx cl : Nat) (P T G : Int) (hp : 0 ≤ P ∧ P ≤ 64) (hT : 0 ≤ T ∧ T ≤ 65536) (hG : G ≤ 65536) (hb : Blk w bx #[.pointer (some ⟨cl, 0, none⟩)] 28) (hl : Lay w cl P T G) (g : Int) :
    Calls Tryz.prog 82 #[.int .i64 g, .pointer (some ⟨bx, 0, none⟩)] w fun e w' => e = .returned (.int .i64 (wd (20 + P * 264 + T * 3) G 2 g 1)) ∧ Below w.heap.size w w' := by
  have c0 := hb.cell 0 (v := .pointer (some ⟨cl, 0, none⟩)) rfl
  have hW := g_word cl P T G g 1 w hl hp hT hG
  clear hb hl hp hT hG
  go_enter Tryz.func82, Tryz.ntmps82
  go_wp2_with fail
  go_at_call 83; refine hW.mono ?_; rintro e w1 ⟨rfl, h1⟩
  go_wp2_with fail
  go_ret
  exact ⟨rfl, h1⟩

set_option maxHeartbeats 4000000 in
theorem glist_any (w : World) (A : Option Addr) (cap c b n cl : Nat) (s : St) (P T G : Int) (hI : Is w 129 A cap c b n s) (hn : n ≤ 1000000) (hl : Lay w cl P T G) (hp : 0 ≤ P ∧ P ≤ 64) (hT : 0 ≤ T ∧ T ≤ 65536) (hG : 0 ≤ G ∧ G ≤ 65536) :
    Calls Tryz.prog 19 #[.pointer (some ⟨cl, 0, none⟩), .pointer (some ⟨c, 0, none⟩)] w fun e w' => ∃ v, e = .returned (.tuple #[v, .bool (lsOf (fun g => peekT n s (wd (20 + P * 264 + T * 3) G 2 g 1)) G (peekT n s 16)).2]) ∧ IntsOn w' w.heap.size v (lsOf (fun g => peekT n s (wd (20 + P * 264 + T * 3) G 2 g 1)) G (peekT n s 16)).1 ∧ Below w.heap.size w w' := by
  have hbx : Hid (Blk (w.alloc (.cells #[.pointer (some ⟨cl, 0, none⟩)] 28)) w.heap.size #[.pointer (some ⟨cl, 0, none⟩)] 28) := Blk.new _ _ _
  have HB : Hid (Below w.heap.size w (w.alloc (.cells #[.pointer (some ⟨cl, 0, none⟩)] 28))) := (Below.refl _ _).alloc (Nat.le_refl _) _
  have hfc := field_c2
  have hW : ∀ Y, Calls Tryz.prog 80 #[.pointer (some ⟨cl, 0, none⟩), .int .i64 16] Y fun e w' => e = .returned (.int .i64 16) ∧ Y = w' := fun Y => glob_word Y cl
  have HC : Hid (∀ Y, Below w.heap.size w Y → Calls Tryz.prog 81 #[.pointer (some ⟨cl, 0, none⟩)] Y fun e w' => e = .returned (.agg #[.int .i64 P, .int .i64 T, .int .i64 G]) ∧ Below Y.heap.size Y w') := fun Y hY => config_any _ P T G Y (.some cl (hl.below hY hl.lt))
  have hent : Ent 82 := fun args w => by kernel_rfl
  have HL : Hid (∀ Y, Below w.heap.size w Y → Blk Y w.heap.size #[.pointer (some ⟨cl, 0, none⟩)] 28 → Calls Tryz.prog 79 #[.pointer (some ⟨c, 0, none⟩), .int .i64 16, .int .i64 G, .func (.func 82) #[] #[.pointer (some ⟨w.heap.size, 0, none⟩)]] Y fun e w' => ∃ v, e = .returned (.tuple #[v, .bool (lsOf (fun g => peekT n s (wd (20 + P * 264 + T * 3) G 2 g 1)) G (peekT n s 16)).2]) ∧ IntsOn w' w.heap.size v (lsOf (fun g => peekT n s (wd (20 + P * 264 + T * 3) G 2 g 1)) G (peekT n s 16)).1 ∧ Below Y.heap.size Y w') := fun Y hY hB => by
    refine (links_any Y A cap c b n s 16 G 82 w.heap.size (fun g => wd (20 + P * 264 + T * 3) G 2 g 1) (hI.below hY) hn hG hent (fun W hW g => glist_link W w.heap.size cl P T G hp hT hG.2 (hB.but (But.of_below (l := []) hW) (by simp)) (hl.below (seq hY hW) hl.lt) g)).mono ?_
    rintro e w' ⟨v, rfl, h1, h2⟩
    exact ⟨v, rfl, ⟨row_mono h1.own (by have := hY.size; omega)⟩, h2⟩
  generalize lsOf (fun g => peekT n s (wd (20 + P * 264 + T * 3) G 2 g 1)) G (peekT n s 16) = r at *
  clear hI hl hn hp hT hG hent
  go_enter Tryz.func19, Tryz.ntmps19
  go_wp2_with fail
  have hsz : (w.alloc (.cells #[.pointer (some ⟨cl, 0, none⟩)] 28)).heap.size = w.heap.size + 1 := World.size_alloc _ _
  generalize hY0 : w.alloc (.cells #[.pointer (some ⟨cl, 0, none⟩)] 28) = Y at *
  have k0 := hbx.out.cell 0 (v := .pointer (some ⟨cl, 0, none⟩)) rfl
  have hC := HC.out Y.drew HB.out.drew
  have HS : Hid (∀ w4, Below Y.drew.heap.size Y.drew w4 → w4.cell? ⟨w.heap.size, 0, none⟩ = some (.pointer (some ⟨cl, 0, none⟩)) ∧ Calls Tryz.prog 79 #[.pointer (some ⟨c, 0, none⟩), .int .i64 16, .int .i64 G, .func (.func 82) #[] #[.pointer (some ⟨w.heap.size, 0, none⟩)]] w4 fun e w' => ∃ v, e = .returned (.tuple #[v, .bool r.2]) ∧ IntsOn w' w.heap.size v r.1 ∧ Below w.heap.size w w') := fun w4 k => by
    have h1 : Below w.heap.size w w4 := HB.out.trans ((show Below Y.heap.size Y w4 from (Below.refl _ Y).drew.trans k).mono (by omega))
    have h2 : Blk w4 w.heap.size #[.pointer (some ⟨cl, 0, none⟩)] 28 := hbx.out.drew.but (But.of_below (l := []) k) (by simp)
    refine ⟨h2.cell 0 rfl, (HL.out w4 h1 h2).mono ?_⟩
    rintro e w' ⟨v, rfl, h3, h4⟩
    exact ⟨v, rfl, h3, seq h1 h4⟩
  clear HC HL hbx HB hY0
  go_region_with (first | (go_at_call 80; refine (hW _).mono ?_; rintro e w3 ⟨rfl, rfl⟩) | (go_at_call 81; refine hC.mono ?_; rintro e w4 ⟨rfl, k⟩; obtain ⟨k4, hS⟩ := HS.out _ k) | (go_at_call 79; refine hS.mono ?_; rintro e w5 ⟨v, rfl, h3, h4⟩))
  all_goals
    clear hW hC HS hS k0
    go_wp2_with fail
    go_returns
    exact ⟨v, rfl, h3, h4⟩
end Go.Proofs.YtkiehfcohdeogaaGreat
