/- The program's list of idle ones: idlep.List. -/
import Derived.Test.YtggbohakpkplkaaLinks
import Derived.Test.YtggbohakpkplkaaIl0
import Derived.Deep.RegionHeld3
namespace Go.Proofs.Ytggbohakpkplkaa
open Go Go.RowKit
set_option linter.unusedVariables false
set_option maxRecDepth 100000
set_option linter.unusedSimpArgs false

theorem iplistrow_mono {w : World} {base base' : Nat} {e : TypeId} {size : Nat} {v : Value} {n : Nat} {xs : List Value} (h : w.ownsRow base e size v n xs) (hb : base' ≤ base) : w.ownsRow base' e size v n xs := by
  refine ⟨h.1, ?_⟩
  rcases h.2 with h0 | ⟨gb, cp, cur, e0, hb0, rest⟩
  · exact .inl h0
  · exact .inr ⟨gb, cp, cur, e0, Nat.le_trans hb hb0, rest⟩
theorem iplist_link (w : World) (bx cl : Nat) (P T G : Int) (hp : 0 ≤ P ∧ P ≤ 64) (hT : 0 ≤ T ∧ T ≤ 65536) (hb : Blk w bx #[.pointer (some ⟨cl, 0, none⟩)] 29) (hl : Lay w cl P T G) (g : Int) :
    Calls Try.prog 76 #[.int .i64 g, .pointer (some ⟨bx, 0, none⟩)] w fun e w' => e = .returned (.int .i64 (wd 20 P 264 g 7)) ∧ Below w.heap.size w w' := by
  have c0 := hb.cell 0 (v := .pointer (some ⟨cl, 0, none⟩)) rfl
  have hW := lprc_any _ P T G g 7 w (.some cl hl) hp (by omega)
  clear hb hl hp hT
  go_enter Try.func76, Try.ntmps76
  go_wp2_with fail
  go_at_call 77; refine hW.mono ?_; rintro e w1 ⟨rfl, h1⟩
  go_wp2_with fail
  go_ret
  exact ⟨rfl, h1⟩

set_option maxHeartbeats 4000000 in
theorem iplist_any (w : World) (A : Option Addr) (cap c b n cl : Nat) (s : St) (P T G : Int) (hI : Is w 111 A cap c b n s) (hn : n ≤ 1000000) (hl : Lay w cl P T G) (hp : 0 ≤ P ∧ P ≤ 64) (hT : 0 ≤ T ∧ T ≤ 65536) :
    Calls Try.prog 27 #[.pointer (some ⟨cl, 0, none⟩), .pointer (some ⟨c, 0, none⟩)] w fun e w' => ∃ v, e = .returned (.tuple #[v, .bool (lsOf (fun g => peekT n s (wd 20 P 264 g 7)) P (peekT n s 9)).2]) ∧ IntsOn w' w.heap.size v (lsOf (fun g => peekT n s (wd 20 P 264 g 7)) P (peekT n s 9)).1 ∧ Below w.heap.size w w' := by
  have hbx : Hid (Blk (w.alloc (.cells #[.pointer (some ⟨cl, 0, none⟩)] 29)) w.heap.size #[.pointer (some ⟨cl, 0, none⟩)] 29) := Blk.new _ _ _
  have HB : Hid (Below w.heap.size w (w.alloc (.cells #[.pointer (some ⟨cl, 0, none⟩)] 29))) := (Below.refl _ _).alloc (Nat.le_refl _) _
  have hfc := field_c0
  have hW : ∀ Y, Calls Try.prog 74 #[.pointer (some ⟨cl, 0, none⟩), .int .i64 9] Y fun e w' => e = .returned (.int .i64 9) ∧ Y = w' := fun Y => il_word Y cl 9 (by omega)
  have hent : Ent 76 := fun args w => by kernel_rfl
  obtain ⟨r, hr⟩ : ∃ r, lsOf (fun g => peekT n s (wd 20 P 264 g 7)) P (peekT n s 9) = r := ⟨_, rfl⟩
  rw [hr]
  have hsz : (w.alloc (.cells #[.pointer (some ⟨cl, 0, none⟩)] 29)).heap.size = w.heap.size + 1 := World.size_alloc _ _
  have HC : Hid (∀ Y, Below w.heap.size w Y → Calls Try.prog 75 #[.pointer (some ⟨cl, 0, none⟩)] Y fun e w' => e = .returned (.agg #[.int .i64 P, .int .i64 T, .int .i64 G]) ∧ Below Y.heap.size Y w') := fun Y hY => config_any _ P T G Y (.some cl (hl.below hY hl.lt))
  have HL : Hid (∀ Y, Below w.heap.size w Y → Blk Y w.heap.size #[.pointer (some ⟨cl, 0, none⟩)] 29 → Calls Try.prog 73 #[.pointer (some ⟨c, 0, none⟩), .int .i64 9, .int .i64 P, .func (.func 76) #[] #[.pointer (some ⟨w.heap.size, 0, none⟩)]] Y fun e w' => ∃ v, e = .returned (.tuple #[v, .bool r.2]) ∧ IntsOn w' w.heap.size v r.1 ∧ Below Y.heap.size Y w') := fun Y hY hB => by
    refine (links_any Y A cap c b n s 9 P 76 w.heap.size (fun g => wd 20 P 264 g 7) (hI.below hY) hn (by omega) hent (fun W hW g => iplist_link W w.heap.size cl P T G hp hT (hB.but (But.of_below (l := []) hW) (by simp)) (hl.below (seq hY hW) hl.lt) g)).mono ?_
    rintro e w' ⟨v, rfl, h1, h2⟩
    rw [hr] at h1 ⊢
    exact ⟨v, rfl, ⟨iplistrow_mono h1.own (by have := hY.size; omega)⟩, h2⟩
  clear hI hl hn hp hT hent hr
  go_enter Try.func27, Try.ntmps27
  go_wp2_with fail
  generalize hY0 : w.alloc (.cells #[.pointer (some ⟨cl, 0, none⟩)] 29) = Y at *
  have k0 := hbx.out.cell 0 (v := .pointer (some ⟨cl, 0, none⟩)) rfl
  have HBX : Hid (∀ X, Below Y.heap.size Y X → Blk X w.heap.size #[.pointer (some ⟨cl, 0, none⟩)] 29) := fun X hX => hbx.out.but (But.of_below (l := []) hX) (by simp)
  have HBW : Hid (∀ X, Below Y.heap.size Y X → Below w.heap.size w X) := fun X hX => HB.out.trans (hX.mono (by omega))
  have HC2 : Hid (∀ X, Below Y.heap.size Y X → Calls Try.prog 75 #[.pointer (some ⟨cl, 0, none⟩)] X fun e w' => e = .returned (.agg #[.int .i64 P, .int .i64 T, .int .i64 G]) ∧ Below X.heap.size X w') := fun X hX => HC.out X (HBW.out X hX)
  have HL2 : Hid (∀ X, Below Y.heap.size Y X → Calls Try.prog 73 #[.pointer (some ⟨c, 0, none⟩), .int .i64 9, .int .i64 P, .func (.func 76) #[] #[.pointer (some ⟨w.heap.size, 0, none⟩)]] X fun e w' => ∃ v, e = .returned (.tuple #[v, .bool r.2]) ∧ IntsOn w' w.heap.size v r.1 ∧ Below X.heap.size X w') := fun X hX => HL.out X (HBW.out X hX) (HBX.out X hX)
  have hH : Hid (Y.drew.cell? ⟨w.heap.size, 0, none⟩ = some (.pointer (some ⟨cl, 0, none⟩)) ∧ Below Y.heap.size Y Y.drew) := ⟨hbx.out.drew.cell 0 rfl, (Below.refl _ _).drew⟩
  have KEEP : Hid (∀ X w' : World, (X.cell? ⟨w.heap.size, 0, none⟩ = some (.pointer (some ⟨cl, 0, none⟩)) ∧ Below Y.heap.size Y X) → Below X.heap.size X w' → (w'.cell? ⟨w.heap.size, 0, none⟩ = some (.pointer (some ⟨cl, 0, none⟩)) ∧ Below Y.heap.size Y w')) := fun X w' h k => ⟨(HBX.out w' (h.2.trans (k.mono h.2.size))).cell 0 rfl, h.2.trans (k.mono h.2.size)⟩
  have HFIN : Hid (∀ X, Below Y.heap.size Y X → Below w.heap.size w X) := HBW
  clear HC HL hbx HB hY0 k0 HBX HBW hsz
  go_region_held3 (fun w' => w'.cell? ⟨w.heap.size, 0, none⟩ = some (.pointer (some ⟨cl, 0, none⟩)) ∧ Below Y.heap.size Y w') (first | exact hH.out | assumption | exact KEEP.out _ _ ‹_› ‹_›) (first | (go_at_call 74; refine (hW _).mono ?_; rintro e x1 ⟨rfl, rfl⟩) | (go_at_call 75; refine (HC2.out _ (by simp only [*])).mono ?_; rintro e x2 ⟨rfl, g2⟩) | (go_at_call 73; refine (HL2.out _ (by simp only [*])).mono ?_; rintro e x3 ⟨v, rfl, hv3, g3⟩))
  all_goals
    rename_i hHeld
    have hF := HFIN.out _ hHeld.2
    clear hW HC2 HL2 hH KEEP HFIN hHeld
    go_wp2_with fail
    go_returns
    exact ⟨v, rfl, hv3, hF⟩
end Go.Proofs.Ytggbohakpkplkaa
