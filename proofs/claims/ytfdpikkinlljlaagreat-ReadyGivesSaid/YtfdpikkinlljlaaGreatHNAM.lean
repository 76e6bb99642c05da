/- The document's put into a ring, within any machine. -/
import Derived.Test.YtfdpikkinlljlaaGreatHNAK
import Derived.Test.YtfdpikkinlljlaaGreatHMAA
namespace Go.Proofs.YtfdpikkinlljlaaGreat
open Go Go.RowKit
set_option linter.unusedVariables false
set_option maxRecDepth 100000
set_option linter.unusedSimpArgs false

section
variable {σ : Type} {M : PM σ} {who P p : Int} {gl : Int → Int} {emb : RpT → σ}
theorem rpg_acqIn (hE : PmIn M (rpPM who P p gl) emb) (d : RpD) : AcqIn M 0 who (fun a => emb (rpAcq d a)) where
  f := hE.ax (.acq d .fresh) _ rfl
  w := fun t => hE.ax (.acq d (.wait t)) _ rfl
  h := fun t => hE.ax (.acq d (.has t)) _ rfl
  nf := fun v => hE.nx (.acq d .fresh) _ v rfl
  nw := fun t v => by
    refine (hE.nx (.acq d (.wait t)) _ v rfl).trans ?_
    show emb ((if v = t then AcqT.has t else AcqT.wait t).goes (RpT.acq d) (.que d (.ch 0))) = _
    split <;> rfl
  nh := fun t v => hE.nx (.acq d (.has t)) _ v rfl
theorem rpg_relIn (hE : PmIn M (rpPM who P p gl) emb) (d : RpD) (q : QpT) : RelIn M 0 (fun r => emb (RpT.rel d q r)) where
  f := hE.ax (.rel d q .fresh) _ rfl
  p := hE.ax (.rel d q .pass) _ rfl
  nf := fun v => hE.nx (.rel d q .fresh) _ v rfl
  np := fun v => hE.nx (.rel d q .pass) _ v rfl
theorem rpg_qpIn (hE : PmIn M (rpPM who P p gl) emb) (d : RpD) : QpIn M gl d.all (fun u => emb (rpQue d u)) where
  ch := fun k => hE.ax (.que d (.ch k)) _ rfl
  ld := hE.ax (.que d .ld) _ rfl
  pt := fun u => hE.ax (.que d (.pt u)) _ rfl
  tr := hE.ax (.que d .tr) _ rfl
  ct := hE.ax (.que d .ct) _ rfl
  n1 := fun k v => by
    refine (hE.nx (.que d (.ch k)) _ v rfl).trans ?_
    show emb (if ((qpPM gl d.all).ax (if k + 1 < d.all.length then QpT.ch (k + 1) else .ld)).isSome = true then RpT.que d (if k + 1 < d.all.length then QpT.ch (k + 1) else .ld) else .rel d (if k + 1 < d.all.length then QpT.ch (k + 1) else .ld) .fresh) = _
    split <;> (split <;> first | rfl | (rename_i h _; exact absurd rfl h) | (rename_i h; exact absurd rfl h))
  n2 := fun v => hE.nx (.que d .ld) _ v rfl
  n3 := fun u v => hE.nx (.que d (.pt u)) _ v rfl
  n4 := fun v => hE.nx (.que d .tr) _ v rfl
  n5 := fun v => hE.nx (.que d .ct) _ v rfl
end
/-- A state of it in which something comes. -/
def RpIs {σ : Type} (N : PM RpT) (emb : RpT → σ) (X : RpT → Prop) (r : σ) : Prop := ∃ r' a, N.ax r' = some a ∧ r = emb r' ∧ X r'
theorem RpIs.mk' {σ : Type} {N : PM RpT} {emb : RpT → σ} {X : RpT → Prop} {r' : RpT} {a : Ax} (ha : N.ax r' = some a) (h : X r') : RpIs N emb X (emb r') := ⟨r', a, ha, rfl, h⟩
/-- Where a slow put stopped, and what it holds there. -/
def RpQG {σ : Type} (Q : σ → Prop) (N : PM RpT) (emb : RpT → σ) (d : RpD) (held : List Int) (r : σ) : Prop := (Q r ∧ held = d.all) ∨ RpIs N emb (fun r' => r'.d = d ∧ r'.full = true ∧ (d.has = true → held = r'.holds)) r
def RpGotG {σ : Type} (B : Option Addr) (N : PM RpT) (M : PM σ) (emb : RpT → σ) (d : RpD) (w : World) (x : Nat) (A : Option Addr) (cap m : Nat) (g : Nat → Int) (s0 : σ) (Q : σ → Prop) (j : Nat) (e : Ending) (w' : World) : Prop := ∃ (v : Value) (held : List Int) (j' : Nat) (q : QpT), e = .returned (.agg #[v, .int .i64 129]) ∧ SeesL w' v held ∧ RunOn w' x A cap m g (M.rj s0 g m j') ∧ Syn M s0 g m j' (emb (.rel d q .over)) (RpQG Q N emb d held) ∧ (j' ≤ m → held = if q.lies = true then [] else d.all) ∧ But [x] w w' ∧ j ≤ j' ∧ ∀ A1 (n1 c1 : Nat), v = .slice A1 n1 c1 → 0 < n1 → A1 = B
section
variable {σ : Type} {M : PM σ} {who P T G p : Int} {emb : RpT → σ} {Q : σ → Prop} {d : RpD} {held : List Int}
theorem rpqg_acq (a : AcqT) (ha : ∃ x, (rpPM who P p (fun y => wd (20 + P * 264 + T * 3) G 2 y 1)).ax (.acq d a) = some x) : RpQG Q (rpPM who P p (fun y => wd (20 + P * 264 + T * 3) G 2 y 1)) emb d d.all (emb (.acq d a)) := by
  obtain ⟨x, hx⟩ := ha
  exact .inr ⟨.acq d a, x, hx, rfl, rfl, rfl, fun h => by show _ = if d.has = true then _ else _; rw [if_pos h]⟩
theorem rpqg_que (q : QpT) (hl : q.live = true) (h : held = if q.lies = true then [] else d.all) : RpQG Q (rpPM who P p (fun y => wd (20 + P * 264 + T * 3) G 2 y 1)) emb d held (emb (.que d q)) := by
  obtain ⟨x, hx⟩ : ∃ x, (rpPM who P p (fun y => wd (20 + P * 264 + T * 3) G 2 y 1)).ax (.que d q) = some x := by cases q <;> first | exact ⟨_, rfl⟩ | cases hl
  exact .inr ⟨.que d q, x, hx, rfl, rfl, rfl, fun h2 => by show _ = if d.has = true then _ else _; rw [if_pos h2]; exact h⟩
theorem rpqg_rel (q : QpT) (r : RelT) (hr : ∃ x, (rpPM who P p (fun y => wd (20 + P * 264 + T * 3) G 2 y 1)).ax (.rel d q r) = some x) (h : held = if q.lies = true then [] else d.all) : RpQG Q (rpPM who P p (fun y => wd (20 + P * 264 + T * 3) G 2 y 1)) emb d held (emb (.rel d q r)) := by
  obtain ⟨x, hx⟩ := hr
  exact .inr ⟨.rel d q r, x, hx, rfl, rfl, rfl, fun h2 => by show _ = if d.has = true then _ else _; rw [if_pos h2]; exact h⟩
theorem rpqg_qp {r : σ} (h : QpQ (RpQG Q (rpPM who P p (fun y => wd (20 + P * 264 + T * 3) G 2 y 1)) emb d d.all) (fun u => emb (rpQue d u)) d.all held r) : RpQG Q (rpPM who P p (fun y => wd (20 + P * 264 + T * 3) G 2 y 1)) emb d held r := by
  rcases h with ⟨h1, h2⟩ | ⟨p', h1, h2, h3⟩
  · rw [h2]; exact h1
  · rw [h2]; show RpQG Q _ emb d held (emb (rpQue d p')); rw [rpQue_live h1]; exact rpqg_que p' h1 h3
theorem qpqg_held {r : σ} (h : QpQ (RpQG Q (rpPM who P p (fun y => wd (20 + P * 264 + T * 3) G 2 y 1)) emb d d.all) (fun u => emb (rpQue d u)) d.all held r) : held = d.all ∨ held = [] := by
  rcases h with ⟨-, h2⟩ | ⟨p', -, -, h3⟩
  · exact .inl h2
  · rw [h3]; split <;> simp
end

theorem rpqg_held {σ : Type} {N : PM RpT} {emb : RpT → σ} {d : RpD} {held : List Int} {r : σ} (h : RpQG (fun _ => False) N emb d held r) (hd : d.has = true) : held = d.all ∨ held = [] := by
  rcases h with ⟨hf, -⟩ | ⟨r', a, -, -, h1, h2, h3⟩
  · exact hf.elim
  · exact rpQ_held (r := r') (.inr ⟨h1, h2, h3⟩) hd
structure RpEqG {σ : Type} (M : PM σ) (emb : RpT → σ) (P p : Int) : Prop where
  a1 : ∀ d, M.ax (emb (.nx d)) = some (axLd (wd 20 P 264 p 3))
  a2 : ∀ d, M.ax (emb (.sn d)) = some (axSw (wd 20 P 264 p 3) d.nt (rpw d.g))
  a3 : ∀ d, M.ax (emb (.hd d)) = some (axLd (wd 20 P 264 p 1))
  a4 : ∀ d, M.ax (emb (.tl d)) = some (axLd (wd 20 P 264 p 2))
  a5 : ∀ d, M.ax (emb (.st d)) = some (axSt (wd 20 P 264 p (8 + d.tl % 256)) (rpw d.g))
  a6 : ∀ d, M.ax (emb (.ln d)) = some (axSt (wd 20 P 264 p 2) ((d.tl + 1) % 4294967296))
  a7 : ∀ d k, M.ax (emb (.gl d k)) = some (axLd (wd 20 P 264 p (8 + IntKind.u64.wrap (d.hd + k) % 256)))
  a8 : ∀ d, M.ax (emb (.sh d)) = some (axSw (wd 20 P 264 p 1) d.hd ((d.hd + 128) % 4294967296))
  n1 : ∀ d v, M.nx (emb (.nx d)) v = emb (.sn { d with nt := v })
  n2 : ∀ d v, M.nx (emb (.sn d)) v = if v = 0 then emb (.nx d) else if d.nt = 0 then emb (.over { d with has := false }) else emb (.hd { d with g := gw d.nt })
  n3 : ∀ d v, M.nx (emb (.hd d)) v = emb (.tl { d with hd := v })
  n4 : ∀ d v, M.nx (emb (.tl d)) v = if (v - d.hd) % 4294967296 < 256 then emb (.st { d with tl := v }) else emb (.gl { d with tl := v, ld := 0 } 0)
  n5 : ∀ d v, M.nx (emb (.st d)) v = emb (.ln d)
  n6 : ∀ d v, M.nx (emb (.ln d)) v = emb (.over { d with has := false })
  n7 : ∀ d k v, M.nx (emb (.gl d k)) v = if k + 1 < 128 then emb (.gl (d.take1 k v) (k + 1)) else emb (.sh (d.take1 k v))
  n8 : ∀ d v, M.nx (emb (.sh d)) v = if v = 0 then emb (.hd d) else emb (.acq d .fresh)
theorem rp_eqg {σ : Type} {M : PM σ} {who P p : Int} {gl : Int → Int} {emb : RpT → σ} (hE : PmIn M (rpPM who P p gl) emb) : RpEqG M emb P p where
  a1 := fun d => hE.ax (.nx d) _ rfl
  a2 := fun d => hE.ax (.sn d) _ rfl
  a3 := fun d => hE.ax (.hd d) _ rfl
  a4 := fun d => hE.ax (.tl d) _ rfl
  a5 := fun d => hE.ax (.st d) _ rfl
  a6 := fun d => hE.ax (.ln d) _ rfl
  a7 := fun d k => hE.ax (.gl d k) _ rfl
  a8 := fun d => hE.ax (.sh d) _ rfl
  n1 := fun d v => hE.nx (.nx d) _ v rfl
  n2 := fun d v => by
    refine (hE.nx (.sn d) _ v rfl).trans ?_
    show emb (if v = 0 then _ else if d.nt = 0 then _ else _) = _
    split
    · rfl
    · split <;> rfl
  n3 := fun d v => hE.nx (.hd d) _ v rfl
  n4 := fun d v => by
    refine (hE.nx (.tl d) _ v rfl).trans ?_
    show emb (if (v - d.hd) % 4294967296 < 256 then _ else _) = _
    split <;> rfl
  n5 := fun d v => hE.nx (.st d) _ v rfl
  n6 := fun d v => hE.nx (.ln d) _ v rfl
  n7 := fun d k v => by
    refine (hE.nx (.gl d k) _ v rfl).trans ?_
    show emb (if k + 1 < 128 then _ else _) = _
    split <;> rfl
  n8 := fun d v => by
    refine (hE.nx (.sh d) _ v rfl).trans ?_
    show emb (if v = 0 then _ else _) = _
    split <;> rfl
/-- What the routine leaves. -/
def RpDidG {σ : Type} (N : PM RpT) (M : PM σ) (emb : RpT → σ) (s0 : σ) (j0 : Nat) (w : World) (x : Nat) (A : Option Addr) (cap m : Nat) (gf : Nat → Int) (e : Ending) (w' : World) : Prop := ∃ (v : Value) (l : List Int) (k : Int) (j' : Nat) (t' : RpT), e = .returned (.agg #[v, .int .i64 k]) ∧ SeesL w' v l ∧ RunOn w' x A cap m gf (M.rj s0 gf m j') ∧ Syn M s0 gf m j' (emb t') (RpIs N emb (fun r => r.holds = l ∧ r.moved = k)) ∧ N.ax t' = none ∧ (j' ≤ m → t'.holds = l ∧ t'.moved = k) ∧ But [x] w w' ∧ j0 ≤ j' ∧ ∀ (A1 : Option Addr) (n1 c1 : Nat) (b off : Nat), v = .slice A1 n1 c1 → 0 < n1 → A1 = some ⟨b, off, none⟩ → w.heap.size ≤ b
set_option maxHeartbeats 4000000 in
theorem rpslow_in {σ : Type} {M : PM σ} {emb : RpT → σ} {who P T G p : Int} {d : RpD} (hE : PmIn M (rpPM who P p (fun y => wd (20 + P * 264 + T * 3) G 2 y 1)) emb) (hd : d.gv.length = 128) (hp : 0 ≤ P ∧ P ≤ 64) (hT : 0 ≤ T ∧ T ≤ 65536) (hG : 0 ≤ G ∧ G ≤ 65536) (hw : 0 ≤ who ∧ who ≤ 300)
    {w : World} {x : Nat} {A B : Option Addr} {cap cp m : Nat} {g : Nat → Int} {s0 : σ} {j : Nat} {Q : σ → Prop} (hs : SeesL w (.slice B d.all.length cp) d.all) (hsx : ∀ b off : Nat, B = some ⟨b, off, none⟩ → b ≠ x) (hR : RunOn w x A cap m g (M.rj s0 g m j)) (hS : Syn M s0 g m j (emb (.acq d .fresh)) Q) (hb : ∀ j, j < m → 0 ≤ g j ∧ g j ≤ 18446744073709551615) :
    Calls Tryz.prog 134 #[.pointer (some ⟨x, 0, none⟩), .agg #[.int .i64 P, .int .i64 T, .int .i64 G], .int .i64 who, .slice B d.all.length cp] w fun e w' => RpGotG B (rpPM who P p (fun y => wd (20 + P * 264 + T * 3) G 2 y 1)) M emb d w x A cap m g s0 Q j e w' := by
  have hall := RpD.all_len' hd
  have hb2 : Below w.heap.size w ((w.alloc (.cells #[.int .i64 P, .int .i64 T, .int .i64 G] 23)).alloc (.cells #[.slice none 0 0, .int .i64 0] 135)) := ((Below.refl _ _).alloc (Nat.le_refl _) _).alloc (by rw [World.size_alloc]; omega) _
  have hB1 := Blk.new w #[.int .i64 P, .int .i64 T, .int .i64 G] 23
  have HX : Hid (Blk ((w.alloc (.cells #[.int .i64 P, .int .i64 T, .int .i64 G] 23)).alloc (.cells #[.slice none 0 0, .int .i64 0] 135)) w.heap.size #[.int .i64 P, .int .i64 T, .int .i64 G] 23) := hB1.but (l := []) (But.of_below ((Below.refl _ _).alloc (Nat.le_refl _) _)) (by simp)
  have HY : Hid (Blk ((w.alloc (.cells #[.int .i64 P, .int .i64 T, .int .i64 G] 23)).alloc (.cells #[.slice none 0 0, .int .i64 0] 135)) (w.heap.size + 1) #[.slice none 0 0, .int .i64 0] 135) := by
    have := Blk.new (w.alloc (.cells #[.int .i64 P, .int .i64 T, .int .i64 G] 23)) #[.slice none 0 0, .int .i64 0] 135
    rw [World.size_alloc] at this
    exact this
  have hxw := hR.blk.lt
  have HB0 : Hid (But [x] w ((w.alloc (.cells #[.int .i64 P, .int .i64 T, .int .i64 G] 23)).alloc (.cells #[.slice none 0 0, .int .i64 0] 135))) := But.of_below hb2
  have hA := syn_acquire (rpg_acqIn hE d) (by omega) hw (hR.below hb2) hS hb
  have HQI : Hid (QpIn M (fun y => wd (20 + P * 264 + T * 3) G 2 y 1) d.all (fun u => emb (rpQue d u))) := rpg_qpIn hE d
  have HRI : Hid (∀ q, RelIn M 0 (fun r => emb (RpT.rel d q r))) := fun q => rpg_relIn hE d q
  have HSQ : Hid (∀ {w : World} {j : Nat} {Q : σ → Prop}, QpIn M (fun y => wd (20 + P * 264 + T * 3) G 2 y 1) d.all (fun u => emb (rpQue d u)) → SeesL w (.slice B d.all.length cp) d.all → RunOn w x A cap m g (M.rj s0 g m j) → Syn M s0 g m j (emb (rpQue d (qpStart d.all))) Q → Calls Tryz.prog 94 #[.pointer (some ⟨x, 0, none⟩), .agg #[.int .i64 P, .int .i64 T, .int .i64 G], .slice B d.all.length cp] w fun e w' => QpGotB B M (fun u => emb (rpQue d u)) d.all w x A cap m g s0 Q j e w') := fun hE hs hR hS => syn_qputB hE hp hT hG (by omega) hs (fun _ => hsx) hR hS hb
  have HBD : Hid (∀ j, j < m → 0 ≤ g j ∧ g j ≤ 18446744073709551615) := hb
  have HSE : Hid (SeesL ((w.alloc (.cells #[.int .i64 P, .int .i64 T, .int .i64 G] 23)).alloc (.cells #[.slice none 0 0, .int .i64 0] 135)) (.slice B d.all.length cp) d.all ∧ ∀ b off : Nat, B = some ⟨b, off, none⟩ → b ≠ x) := ⟨hs.below hb2, hsx⟩
  have HST0 : qpStart d.all = .ch 0 := if_neg (fun h => by rw [h] at hall; cases hall)
  have HNQ : Hid ((∀ a, (∃ x, (rpPM who P p (fun y => wd (20 + P * 264 + T * 3) G 2 y 1)).ax (.acq d a) = some x) → RpQG Q (rpPM who P p (fun y => wd (20 + P * 264 + T * 3) G 2 y 1)) emb d d.all (emb (.acq d a))) ∧ (∀ (q : QpT) (r : RelT) held, (∃ x, (rpPM who P p (fun y => wd (20 + P * 264 + T * 3) G 2 y 1)).ax (.rel d q r) = some x) → (held = if q.lies = true then [] else d.all) → RpQG Q (rpPM who P p (fun y => wd (20 + P * 264 + T * 3) G 2 y 1)) emb d held (emb (.rel d q r))) ∧ (∀ held r, QpQ (RpQG Q (rpPM who P p (fun y => wd (20 + P * 264 + T * 3) G 2 y 1)) emb d d.all) (fun u => emb (rpQue d u)) d.all held r → RpQG Q (rpPM who P p (fun y => wd (20 + P * 264 + T * 3) G 2 y 1)) emb d held r) ∧ ∀ held r, QpQ (RpQG Q (rpPM who P p (fun y => wd (20 + P * 264 + T * 3) G 2 y 1)) emb d d.all) (fun u => emb (rpQue d u)) d.all held r → held = d.all ∨ held = []) := ⟨fun a h => rpqg_acq a h, fun q r held h1 h2 => rpqg_rel q r h1 h2, fun held r h => rpqg_qp h, fun held r h => qpqg_held h⟩
  generalize hNN : rpPM who P p (fun y => wd (20 + P * 264 + T * 3) G 2 y 1) = N at *
  have HNN : Hid (rpPM who P p (fun y => wd (20 + P * 264 + T * 3) G 2 y 1) = N) := hNN
  clear hNN
  generalize d.all.length = n at *
  subst hall
  have HGF : Hid (GotFar A [w.heap.size + 1]) := (fun b e hm => by
    simp at hm
    rcases hR.got.form with ⟨e0, _⟩ | ⟨gb, e0, hl⟩
    · rw [e0] at e; cases e
    · rw [e0] at e; cases e; omega)
  have HSF : Hid (∀ b off : Nat, B = some ⟨b, off, none⟩ → b ≠ w.heap.size + 1) := (fun b off e hm => by
    obtain ⟨A', cap', e', -, h2⟩ := hs
    injection e' with ea eb ec
    subst ea
    obtain ⟨b', off', e3, h3, -⟩ := h2 (by omega)
    rw [e3] at e; cases e; omega)
  clear hR hS hb hs hsx hp hT hG hb2 hB1
  go_enter Tryz.func134, Tryz.ntmps134
  go_wp2_with fail
  generalize (w.alloc (.cells #[.int .i64 P, .int .i64 T, .int .i64 G] 23)).alloc (.cells #[.slice none 0 0, .int .i64 0] 135) = W at *
  go_at_call 93; refine hA.mono ?_; rintro e y1 ⟨⟨u, rfl⟩, j1, tt, hR, hS, hB, hj1⟩
  have hX1 : Blk y1 w.heap.size #[.int .i64 P, .int .i64 T, .int .i64 G] 23 := HX.out.but hB (by simp; omega)
  have HY1 : Hid (Blk y1 (w.heap.size + 1) #[.slice none 0 0, .int .i64 0] 135) := HY.out.but hB (by simp; omega)
  have HB1 : Hid (But [x] w y1) := HB0.out.trans hB
  have HS1 : Hid (Syn M s0 g m j1 (emb (.que d (.ch 0))) (RpQG Q N emb d d.all)) := Syn.weak hS (fun r hr => by
    rcases hr with hr | ⟨p', hp', rfl⟩
    · exact .inl ⟨hr, rfl⟩
    · cases p' with
      | over t => exact absurd rfl (hp' t)
      | fresh => exact HNQ.out.1 .fresh (by rw [← HNN.out]; exact ⟨_, rfl⟩)
      | wait t => exact HNQ.out.1 (.wait t) (by rw [← HNN.out]; exact ⟨_, rfl⟩)
      | has t => exact HNQ.out.1 (.has t) (by rw [← HNN.out]; exact ⟨_, rfl⟩))
  have HR1 : Hid (RunOn y1 x A cap m g (M.rj s0 g m j1)) := hR
  have HSE1 : Hid (SeesL y1 (.slice B 129 cp) d.all) := HSE.out.1.but hB HSE.out.2
  have sc := hR.blk.cell 2 (v := .bool (M.rj s0 g m j1).stop) rfl
  rw [rj_stop hS] at sc
  clear hA hR hS hB HX HY HB0
  have k0 := hX1.cell 0 (v := .int .i64 P) rfl
  have k1 := hX1.cell 1 (v := .int .i64 T) rfl
  have k2 := hX1.cell 2 (v := .int .i64 G) rfl
  clear hX1
  by_cases hst : m < j1
  · rw [decide_eq_true hst] at sc
    have HST : Hid (m < j1) := hst
    have hRl := syn_release (HRI.out .over) (by omega) HR1.out (HS1.out.as (t' := emb (.rel d .over .fresh)) (fun h => absurd hst (by omega))) HBD.out
    clear hst k0 k1 k2
    go_wp2_with fail
    go_at_call 95; refine hRl.mono ?_; rintro e y9 ⟨⟨u9, rfl⟩, j9, hR9, hS9, hB9, hj9⟩
    have hY9 := HY1.out.but hB9 (by simp; omega)
    have HF : Hid (SeesL y9 (.slice B 129 cp) d.all ∧ RunOn y9 x A cap m g (M.rj s0 g m j9) ∧ Syn M s0 g m j9 (emb (.rel d .over .over)) (RpQG Q N emb d d.all) ∧ But [x] w y9 ∧ j ≤ j9 ∧ m < j9) := ⟨HSE1.out.but hB9 HSE.out.2, hR9, ⟨hS9.at', fun _ => HS1.out.past HST.out⟩, HB1.out.trans hB9, Nat.le_trans hj1 hj9, Nat.lt_of_lt_of_le HST.out hj9⟩
    have d0 := hY9.cell 0 (v := .slice none 0 0) rfl
    have d1 := hY9.cell 1 (v := .int .i64 0) rfl
    have e0 := hY9.fro 0
    have e1 := hY9.fro 1
    clear hRl hR9 hS9 hB9
    go_wp2_with fail
    have hU : But [w.heap.size + 1] y9 ((y9.setCell ⟨w.heap.size + 1, 0, none⟩ (.slice B 129 cp)).setCell ⟨w.heap.size + 1, 1, none⟩ (.int .i64 129)) := ((But.refl _ y9).set (g := w.heap.size + 1) (.inl (by simp)) 0 _).set (g := w.heap.size + 1) (.inl (by simp)) 1 _
    have hZ := (hY9.set 0 (.slice B 129 cp)).set 1 (.int .i64 129)
    have g0 := hZ.cell 0 (v := .slice B 129 cp) rfl
    have g1 := hZ.cell 1 (v := .int .i64 129) rfl
    have HU : Hid (But [w.heap.size + 1] y9 ((y9.setCell ⟨w.heap.size + 1, 0, none⟩ (.slice B 129 cp)).setCell ⟨w.heap.size + 1, 1, none⟩ (.int .i64 129))) := hU
    generalize (y9.setCell ⟨w.heap.size + 1, 0, none⟩ (.slice B 129 cp)).setCell ⟨w.heap.size + 1, 1, none⟩ (.int .i64 129) = z at *
    have hfr : z.heap[w.heap.size + 1]? = some (.cells #[.slice B 129 cp, .int .i64 129] 135 (0, 0)) := hZ.heap
    clear hU d0 d1 e0 e1 hY9
    refine bodyPost_ret (v := .agg #[.slice B 129 cp, .int .i64 129]) (results_cell_row rfl _ _ (w.heap.size + 1) 135 #[.slice B 129 cp, .int .i64 129] _ _ rfl hfr Tryz.underlying135 rfl (by kernel_rfl)) rfl ?_
    obtain ⟨f1, f2, f3, f4, f5, f6⟩ := HF.out
    exact ⟨.slice B 129 cp, d.all, j9, .over, rfl, f1.but1 HU.out HSF.out, f2.but HU.out (by simp; omega) HGF.out, f3, fun h => absurd h (by omega), But.low f4 HU.out (by omega), f5, (fun _ _ _ e _ => by cases e; rfl)⟩
  · rw [decide_eq_false hst] at sc
    have HST : Hid (j1 ≤ m) := (by omega : j1 ≤ m)
    have hQ := HSQ.out HQI.out HSE1.out HR1.out (by rw [HST0]; exact HS1.out)
    clear hst
    go_wp2_with fail
    go_at_call 94; refine hQ.mono ?_; rintro e y5 ⟨v, held, j5, p5, rfl, q1, q2, q3, q4, q5, q6, q7, q8⟩
    have HQ8 : Hid _ := q8
    clear q8
    have hY5 := HY1.out.but q6 (by simp; omega)
    have hheld : held = d.all ∨ held = [] := by
      by_cases h5 : m < j5
      · exact HNQ.out.2.2.2 _ _ (q3.past h5).1
      · rw [q5 (by omega)]; split <;> simp
    obtain ⟨B5, cp5, hv5⟩ : ∃ B5 cp5, v = .slice B5 held.length cp5 := by obtain ⟨A', c', e', -, -⟩ := q1; exact ⟨A', c', e'⟩
    subst hv5
    have HQ9 : Hid (∀ A1 (n1 c1 : Nat), Value.slice B5 held.length cp5 = .slice A1 n1 c1 → 0 < n1 → A1 = B) := HQ8.out
    clear HQ8
    have hl129 : 0 < held.length → held.length = 129 := fun h0 => by
      rcases hheld with h | h
      · rw [h]; exact RpD.all_len' hd
      · rw [h] at h0; cases h0
    have HV5 : Hid ((0 < held.length → ∀ b off : Nat, B5 = some ⟨b, off, none⟩ → b ≠ w.heap.size + 1) ∧ (0 < held.length → ∀ b off : Nat, B5 = some ⟨b, off, none⟩ → b ≠ x)) := ⟨sees_far q1 hl129 hY5 (by simp), sees_far q1 hl129 q2.blk (by simp [runCells])⟩
    have hQQ : ∀ hm : m < j5, RpQG Q N emb d held (M.run s0 g m) := fun hm => HNQ.out.2.2.1 _ _ (q3.past hm).1
    have hRl := syn_release (HRI.out p5) (by omega) q2 (q3.as (t' := emb (.rel d p5 .fresh)) (fun _ => congrArg emb (rpQue_over q4))) HBD.out
    have HH5 : Hid (SeesL y5 (.slice B5 held.length cp5) held ∧ (∀ hm : m < j5, RpQG Q N emb d held (M.run s0 g m)) ∧ (j5 ≤ m → held = if p5.lies = true then [] else d.all) ∧ But [x] w y5 ∧ j1 ≤ j5) := ⟨q1, hQQ, q5, HB1.out.trans q6, q7⟩
    clear hQ k0 k1 k2 sc q1 q2 q3 q5 q6 q7 hheld hQQ
    go_wp2_with fail
    go_at_call 95; refine hRl.mono ?_; rintro e y9 ⟨⟨u9, rfl⟩, j9, hR9, hS9, hB9, hj9⟩
    have hY9 := hY5.but hB9 (by simp; omega)
    have HF : Hid (SeesL y9 (.slice B5 held.length cp5) held ∧ RunOn y9 x A cap m g (M.rj s0 g m j9) ∧ Syn M s0 g m j9 (emb (.rel d p5 .over)) (RpQG Q N emb d held) ∧ (j9 ≤ m → held = if p5.lies = true then [] else d.all) ∧ But [x] w y9 ∧ j ≤ j9) := by
      obtain ⟨q1, hQQ, q5, q6, q7⟩ := HH5.out
      refine ⟨q1.but2 hB9 HV5.out.2, hR9, ⟨hS9.at', fun hm => ⟨?_, (hS9.past hm).2⟩⟩, fun h => q5 (by omega), q6.trans hB9, by omega⟩
      by_cases h5 : m < j5
      · exact hQQ h5
      · have hh := q5 (by omega)
        rcases (hS9.past hm).1 with h | h | h
        · exact HNQ.out.2.2.1 _ _ h
        · rw [h]; exact HNQ.out.2.1 p5 .fresh _ (by rw [← HNN.out]; exact ⟨_, rfl⟩) hh
        · rw [h]; exact HNQ.out.2.1 p5 .pass _ (by rw [← HNN.out]; exact ⟨_, rfl⟩) hh
    have d0 := hY9.cell 0 (v := .slice none 0 0) rfl
    have d1 := hY9.cell 1 (v := .int .i64 0) rfl
    have e0 := hY9.fro 0
    have e1 := hY9.fro 1
    generalize hnn : held.length = hn at *
    clear hRl hR9 hS9 hB9 HH5
    go_wp2_with fail
    have hU : But [w.heap.size + 1] y9 ((y9.setCell ⟨w.heap.size + 1, 0, none⟩ (.slice B5 hn cp5)).setCell ⟨w.heap.size + 1, 1, none⟩ (.int .i64 129)) := ((But.refl _ y9).set (g := w.heap.size + 1) (.inl (by simp)) 0 _).set (g := w.heap.size + 1) (.inl (by simp)) 1 _
    have hZ := (hY9.set 0 (.slice B5 hn cp5)).set 1 (.int .i64 129)
    have HU : Hid (But [w.heap.size + 1] y9 ((y9.setCell ⟨w.heap.size + 1, 0, none⟩ (.slice B5 hn cp5)).setCell ⟨w.heap.size + 1, 1, none⟩ (.int .i64 129))) := hU
    generalize (y9.setCell ⟨w.heap.size + 1, 0, none⟩ (.slice B5 hn cp5)).setCell ⟨w.heap.size + 1, 1, none⟩ (.int .i64 129) = z at *
    have hfr : z.heap[w.heap.size + 1]? = some (.cells #[.slice B5 hn cp5, .int .i64 129] 135 (0, 0)) := hZ.heap
    clear hU d0 d1 e0 e1 hY9
    refine bodyPost_ret (v := .agg #[.slice B5 hn cp5, .int .i64 129]) (results_cell_row rfl _ _ (w.heap.size + 1) 135 #[.slice B5 hn cp5, .int .i64 129] _ _ rfl hfr Tryz.underlying135 rfl (by kernel_rfl)) rfl ?_
    obtain ⟨f1, f2, f3, f4, f5, f6⟩ := HF.out
    exact ⟨.slice B5 hn cp5, held, j9, p5, rfl, f1.but2 HU.out (fun h0 => HV5.out.1 (by omega)), f2.but HU.out (by simp; omega) HGF.out, f3, f4, But.low f5 HU.out (by omega), f6, HQ9.out⟩
set_option maxHeartbeats 16000000 in
theorem syn_rput {σ : Type} {M : PM σ} {emb : RpT → σ} {who P T G p g : Int} {nxt : Bool} (hE : PmIn M (rpPM who P p (fun y => wd (20 + P * 264 + T * 3) G 2 y 1)) emb) (hp : 0 ≤ p ∧ p < P) (hP : P ≤ 64) (hT : 0 ≤ T ∧ T ≤ 65536) (hG : 0 ≤ G ∧ G ≤ 65536) (hw : 0 ≤ who ∧ who ≤ 300) (hg : 0 ≤ g ∧ g ≤ 9223372036854775807)
    {w : World} {x : Nat} {A : Option Addr} {cap m : Nat} {gf : Nat → Int} {s0 : σ} {j0 : Nat} {Q0 : σ → Prop} (h : RunOn w x A cap m gf (M.rj s0 gf m j0)) (hS0 : Syn M s0 gf m j0 (emb (rpStart g nxt)) Q0) (hj0 : j0 ≤ m) (hb : ∀ j, j < m → 0 ≤ gf j ∧ gf j ≤ 18446744073709551615) (hsw : RpSw M s0 gf m) :
    Calls Tryz.prog 78 #[.pointer (some ⟨x, 0, none⟩), .agg #[.int .i64 P, .int .i64 T, .int .i64 G], .int .i64 who, .int .i64 p, .int .i64 g, .bool nxt] w fun e w' => RpDidG (rpPM who P p (fun y => wd (20 + P * 264 + T * 3) G 2 y 1)) M emb s0 j0 w x A cap m gf e w' := by
  obtain ⟨i3, hi3, hz03, hz13, hz23⟩ := info_parts lists_info3
  have hb0 : Below w.heap.size w ((w.alloc (.cells #[.int .i64 P, .int .i64 T, .int .i64 G] 23)).alloc (.cells #[.slice none 0 0, .int .i64 0] 135)) := ((Below.refl _ _).alloc (Nat.le_refl _) _).alloc (by simp) _
  have HX0 : Hid (Blk ((w.alloc (.cells #[.int .i64 P, .int .i64 T, .int .i64 G] 23)).alloc (.cells #[.slice none 0 0, .int .i64 0] 135)) w.heap.size #[.int .i64 P, .int .i64 T, .int .i64 G] 23) := (Blk.new _ _ _).al _
  have HY0 : Hid (Blk ((w.alloc (.cells #[.int .i64 P, .int .i64 T, .int .i64 G] 23)).alloc (.cells #[.slice none 0 0, .int .i64 0] 135)) (w.heap.size + 1) #[.slice none 0 0, .int .i64 0] 135) := by
    have := Blk.new (w.alloc (.cells #[.int .i64 P, .int .i64 T, .int .i64 G] 23)) #[.slice none 0 0, .int .i64 0] 135
    rw [World.size_alloc] at this
    exact this
  have HXW : Hid (x < w.heap.size) := h.blk.lt
  have HB0 : Hid (But [x] w ((w.alloc (.cells #[.int .i64 P, .int .i64 T, .int .i64 G] 23)).alloc (.cells #[.slice none 0 0, .int .i64 0] 135))) := But.of_below hb0
  have HGA : Hid (A = none ∨ ∃ gb, A = some ⟨gb, 0, none⟩ ∧ gb < w.heap.size) := (by
    rcases h.got.form with ⟨e0, _⟩ | ⟨gb, e0, hl⟩
    · exact .inl e0
    · exact .inr ⟨gb, e0, hl⟩ : A = none ∨ ∃ gb, A = some ⟨gb, 0, none⟩ ∧ gb < w.heap.size)
  have HGF : Hid (GotFar A [w.heap.size + 1]) := (fun b e hm => by
    simp at hm
    rcases HGA.out with e0 | ⟨gb, e0, hl⟩
    · rw [e0] at e; cases e
    · rw [e0] at e; cases e; omega)
  have HR0 : Hid (RunOn ((w.alloc (.cells #[.int .i64 P, .int .i64 T, .int .i64 G] 23)).alloc (.cells #[.slice none 0 0, .int .i64 0] 135)) x A cap m gf (M.rj s0 gf m j0)) := h.below hb0
  have HE : Hid (RpEqG M emb P p) := rp_eqg hE
  have HN : Hid (RpEq (rpPM who P p (fun y => wd (20 + P * 264 + T * 3) G 2 y 1)) P p) := rp_eq _ _ _ _
  have HJ0 : Hid (j0 ≤ m) := hj0
  have HBD : Hid (∀ j, j < m → 0 ≤ gf j ∧ gf j ≤ 18446744073709551615) := hb
  have HSW : Hid (RpSw M s0 gf m) := hsw
  have HSL : Hid (∀ (d : RpD) (Y : World) (B : Option Addr) (cp j : Nat), d.gv.length = 128 → SeesL Y (.slice B d.all.length cp) d.all → (∀ b off : Nat, B = some ⟨b, off, none⟩ → b ≠ x) → RunOn Y x A cap m gf (M.rj s0 gf m j) → Syn M s0 gf m j (emb (.acq d .fresh)) (fun _ => False) → Calls Tryz.prog 134 #[.pointer (some ⟨x, 0, none⟩), .agg #[.int .i64 P, .int .i64 T, .int .i64 G], .int .i64 who, .slice B d.all.length cp] Y fun e w' => RpGotG B (rpPM who P p (fun y => wd (20 + P * 264 + T * 3) G 2 y 1)) M emb d Y x A cap m gf s0 (fun _ => False) j e w') := fun d Y B cp j h1 h2 h3 h4 h5 => rpslow_in hE h1 (by omega) hT hG hw h2 h3 h4 h5 hb
  have HPA : Hid (∀ (f : Int) W, 0 ≤ f ∧ f < 8 → Calls Tryz.prog 131 #[.agg #[.int .i64 P, .int .i64 T, .int .i64 G], .int .i64 p, .int .i64 f] W fun e w' => e = .returned (.int .i64 (wd 20 P 264 p f)) ∧ Below W.heap.size W w') := fun f W hf => rprcAt_any P T G p f W hp hP hf
  have HRA : Hid (∀ (i : Int) W, 0 ≤ i ∧ i ≤ 18446744073709551615 → Calls Tryz.prog 133 #[.agg #[.int .i64 P, .int .i64 T, .int .i64 G], .int .i64 p, .int .u64 i] W fun e w' => e = .returned (.int .i64 (wd 20 P 264 p (8 + i % 256))) ∧ Below W.heap.size W w') := fun i W hi => rrngAt_any P T G p i W hp hP hi
  have HS0 : Hid (Syn M s0 gf m j0 (emb (RpHead nxt (rpD0 g))) (fun _ => False)) := Syn.reset hS0 hj0 _
  have HD0 : Hid (RpHas (rpD0 g) g) := ⟨rfl, rfl, (rpD0_ok g).len⟩
  have HWV0 : Hid (rpw g = rpw g ∧ gw (rpw g) = g ∧ 0 ≤ rpw g ∧ rpw g ≤ 18446744073709551615) := ⟨rfl, by
    have e : rpw g = g + 1 := by
      unfold rpw
      simp [IntKind.wrap, IntKind.bits, IntKind.signed]
      omega
    rw [e]
    (unfold gw; rw [show g + 1 - 1 = g from by omega]; simp [IntKind.wrap, IntKind.bits, IntKind.signed]; omega), rpw_bd g⟩
  have ewg : IntKind.u64.wrap (IntKind.u64.wrap g + 1) = rpw g := rfl
  generalize hw0 : rpw g = wg at *
  have HWG : Hid (rpw g = wg) := hw0
  generalize rpD0 g = dz at *
  have HNH : Hid (∀ (held : List Int) (r : σ) {d : RpD}, RpQG (fun _ => False) (rpPM who P p (fun y => wd (20 + P * 264 + T * 3) G 2 y 1)) emb d held r → d.has = true → held = d.all ∨ held = []) := fun held r d h hd => rpqg_held h hd
  generalize rpPM who P p (fun y => wd (20 + P * 264 + T * 3) G 2 y 1) = N at *
  have HP3 := HPA.out 3
  clear h hS0 hj0 hb hsw hE hp hP hT hG hw hg hb0 hw0
  go_enter Tryz.func78, Tryz.ntmps78
  go_wp2_with fail
  generalize (w.alloc (.cells #[.int .i64 P, .int .i64 T, .int .i64 G] 23)).alloc (.cells #[.slice none 0 0, .int .i64 0] 135) = z0 at *
  have k0 := HX0.out.cell 0 (v := .int .i64 P) rfl
  have k1 := HX0.out.cell 1 (v := .int .i64 T) rfl
  have k2 := HX0.out.cell 2 (v := .int .i64 G) rfl
  have hPl := HP3 z0 (by omega)
  go_wp2_with fail
  go_at_call 131; refine hPl.mono ?_; rintro e z1 ⟨rfl, h5⟩
  have HRz1 : Hid (RunOn z1 x A cap m gf _) := HR0.out.below h5
  have HBz1 : Hid (But [x] w z1) := HB0.out.trans (But.of_below h5)
  have HXz1 : Hid (Blk z1 w.heap.size #[.int .i64 P, .int .i64 T, .int .i64 G] 23) := HX0.out.but (But.of_below (l := []) h5) (by simp)
  have HYz1 : Hid (Blk z1 (w.heap.size + 1) #[.slice none 0 0, .int .i64 0] 135) := HY0.out.but (But.of_below (l := []) h5) (by simp)
  clear HB0 HX0 HY0
  clear hPl h5 k0 k1 k2 HR0
  clear HP3
  go_wp2_with fail
  go_loopw [5, 13] (fun nbv wvv wr => ∃ (nb : Bool) (wv gg : Int) (j : Nat) (d : RpD), nbv = .bool nb ∧ wvv = .int .u64 wv ∧ Hid (j ≤ m) ∧ Hid (RpHas d gg) ∧ Hid (rpw gg = wv ∧ gw wv = gg ∧ 0 ≤ wv ∧ wv ≤ 18446744073709551615) ∧ Hid (Syn M s0 gf m j (emb (RpHead nb d)) (fun _ => False)) ∧ Hid (RunOn wr x A cap m gf (M.rj s0 gf m j)) ∧ Hid (But [x] w wr) ∧ Hid (Blk wr w.heap.size #[.int .i64 P, .int .i64 T, .int .i64 G] 23) ∧ Hid (Blk wr (w.heap.size + 1) #[.slice none 0 0, .int .i64 0] 135) ∧ Hid (j0 ≤ j)) (fun _ _ wr => left' m x wr)
  case atStart => exact ⟨nxt, wg, g, j0, dz, rfl, rfl, HJ0, HD0, ⟨HWG.out, HWV0.out.2⟩, HS0, HRz1, HBz1, HXz1, HYz1, Nat.le_refl j0⟩
  case round =>
    clear HRz1 HBz1 HXz1 HYz1 HS0 HD0 HWV0 HWG ewg
    obtain ⟨nb, wv, gg, j, d, rfl, rfl, HJ, HD, HWV, HS, HRa, HBa, HXa, HYa, HJL⟩ := hrel
    have sc := HRa.out.blk.cell 2 (v := .bool (M.rj s0 gf m j).stop) rfl
    rw [rj_stop HS.out, decide_eq_false (by have := HJ.out; omega)] at sc
    cases nb with
    | true =>
      have HSa : Hid (Syn M s0 gf m j (emb (.nx d)) (RpIs N emb (RpOne gg))) := HS.out.reset HJ.out _
      have HLF : Hid (left' m x wr = m + 1 - j) := rj_left HRa.out HSa.out
      clear HS
      obtain ⟨at3, hat3⟩ : ∃ at3, wd 20 P 264 p 3 = at3 := ⟨_, rfl⟩
      have HA1 : Hid (M.ax (emb (.nx d)) = some (axLd at3)) := by rw [← hat3]; exact HE.out.a1 d
      have HA2 : Hid (∀ d', M.ax (emb (.sn d')) = some (axSw at3 d'.nt (rpw d'.g))) := fun d' => by rw [← hat3]; exact HE.out.a2 d'
      generalize wd 20 P 264 p 3 = atx at *
      subst hat3
      have hA := syn_load HRa.out HSa.out HBD.out atx (fun _ => HA1.out)
      go_wp2_with fail
      go_at_call 75; refine hA.mono ?_; rintro e b1 ⟨was, rfl, hK⟩
      have HVb1 : Hid (0 ≤ was ∧ was ≤ 18446744073709551615) := hK.bd
      have HRb1 : Hid (RunOn b1 x A cap m gf (M.rj s0 gf m (j + 1))) := hK.run
      have HSb : Hid (Syn M s0 gf m (j + 1) (emb (.sn { d with nt := was })) (RpIs N emb (RpOne gg))) := by
        have := hK.syn
        rw [HE.out.n1] at this
        exact this.weak (fun r hr => by rcases hr with rfl | hr; exact RpIs.mk' (HN.out.a1 _) (rpone_nx HD.out); exact hr)
      have HBb1 : Hid (But [x] w b1) := HBa.out.trans hK.but
      have HXb1 : Hid (Blk b1 w.heap.size #[.int .i64 P, .int .i64 T, .int .i64 G] 23) := HXa.out.but hK.but (by have := HXW.out; simp; omega)
      have HYb1 : Hid (Blk b1 (w.heap.size + 1) #[.slice none 0 0, .int .i64 0] 135) := HYa.out.but hK.but (by have := HXW.out; simp; omega)
      clear HBa HXa HYa
      clear hA hK HRa
      have HD1 : Hid (RpHas { d with nt := was } gg) := HD.out
      have hax1 : M.ax (emb (.sn { d with nt := was })) = some (axSw atx was wv) := by
        rw [HA2.out]
        show some (axSw atx was (rpw d.g)) = _
        rw [HD.out.1, HWV.out.1]
      have HAX1 : Hid (M.ax (emb (.sn { d with nt := was })) = some (axSw atx was wv)) := hax1
      clear hax1
      have hA := syn_swap HRb1.out HSb.out HBD.out atx was wv (fun _ => HAX1.out)
      go_wp2_with fail
      go_at_call 77; refine hA.mono ?_; rintro e b2 ⟨sv, rfl, hK⟩
      have hsv := HSW.out.one HSb.out (HAX1.out) rfl hK.val hK.zero hK.bd.1
      have HZ0 : Hid (m ≤ j + 1 → sv = 0) := hK.zero
      have HRb2 : Hid (RunOn b2 x A cap m gf (M.rj s0 gf m (j + 1 + 1))) := hK.run
      have HSw : Hid (Syn M s0 gf m (j + 1 + 1) (M.nx _ sv) (RpIs N emb (RpOne gg))) := hK.syn.weak (fun r hr => by rcases hr with rfl | hr; exact RpIs.mk' (HN.out.a2 _) (rpone_sn HD1.out); exact hr)
      have HBb2 : Hid (But [x] w b2) := HBb1.out.trans hK.but
      have HXb2 : Hid (Blk b2 w.heap.size #[.int .i64 P, .int .i64 T, .int .i64 G] 23) := HXb1.out.but hK.but (by have := HXW.out; simp; omega)
      have HYb2 : Hid (Blk b2 (w.heap.size + 1) #[.slice none 0 0, .int .i64 0] 135) := HYb1.out.but hK.but (by have := HXW.out; simp; omega)
      clear HBb1 HXb1 HYb1
      clear hA hK HRb1
      clear HSa
      have sc := HRb2.out.blk.cell 2 (v := .bool (M.rj s0 gf m (j + 1 + 1)).stop) rfl
      rw [rj_stop HSw.out] at sc
      by_cases hst : m < j + 1 + 1
      · rw [decide_eq_true hst] at sc
        have HST : Hid (m < j + 1 + 1) := hst
        clear hst hsv
        have HR := HRb2
        have HB := HBb2
        have HX := HXb2
        have HY := HYb2
        clear HRb2 HBb2 HXb2 HYb2
        have hlt1 : Hid (w.heap.size + 1 < b2.heap.size) := HY.out.lt
        have hne1 : w.heap.size + 1 ≠ b2.heap.size := by have := hlt1.out; omega
        have hYal := HY.out.al (.cells #[.int .i64 gg] 3)
        have HP := hand_put (HY.out.al (.cells #[.int .i64 gg] 3)) (HR.out.below ((Below.refl _ _).alloc (Nat.le_refl _) _)) (HB.out.alloc (.cells #[.int .i64 gg] 3)) (by have := HXW.out; omega) (by omega) HGF.out (.slice (some ⟨b2.heap.size, 0, none⟩) 1 1) (.int .i64 0)
        have HRB : Hid (Blk _ _ _ _) := HP.1
        have HF : Hid (RpDidG N M emb s0 j0 w x A cap m gf (.returned (.agg #[.slice (some ⟨b2.heap.size, 0, none⟩) 1 1, .int .i64 0])) _) := ⟨.slice (some ⟨b2.heap.size, 0, none⟩) 1 1, [gg], 0, j + 1 + 1, .over d, rfl, one_sees HP.2.2.2 hlt1.out, HP.2.1, ⟨fun h => absurd h (by have := HST.out; omega), HSw.out.past⟩, HN.out.a9 _, fun h => absurd h (by have := HST.out; omega), HP.2.2.1, Nat.le_trans HJL.out (by omega), (fun _ _ _ b off e _ e2 => by cases e; cases e2; have := hlt1.out; omega)⟩
        have r0 := hYal.cell 0 (v := .slice none 0 0) rfl
        have r1 := hYal.cell 1 (v := .int .i64 0) rfl
        have f0 := hYal.fro 0
        have f1 := hYal.fro 1
        have ew : wrap64 (IntKind.i64.wrap wv - 1) = gg := by rw [gw_eq wv HWV.out.2.2]; exact HWV.out.2.1
        generalize hvv : IntKind.i64.wrap wv = v' at *
        clear HP hYal
        clear HSw HSb
        go_wp2_with fail
        exact bodyPost_ret (v := .agg #[.slice (some ⟨b2.heap.size, 0, none⟩) 1 1, .int .i64 0]) (results_cell_row rfl _ _ (w.heap.size + 1) 135 #[.slice (some ⟨b2.heap.size, 0, none⟩) 1 1, .int .i64 0] (0, 0) _ rfl HRB.out.heap Tryz.underlying135 rfl (by kernel_rfl)) rfl HF.out
      · rw [decide_eq_false hst] at sc
        have HJ2 : Hid (j + 1 + 1 ≤ m) := (by omega : j + 1 + 1 ≤ m)
        clear hst
        rcases hsv with rfl | rfl
        · have hz : decide ((0 : Int) = 1) = false := by decide
          have HS9 : Hid (Syn M s0 gf m (j + 1 + 1) (emb (RpHead true { d with nt := was })) (fun _ => False)) := by
            have := HSw.out
            rw [HE.out.n2, if_pos rfl] at this
            exact this.reset HJ2.out _
          clear HSw HSb HZ0
          go_wp2_with fail
          go_roundw
          case rel => exact ⟨true, wv, gg, j + 1 + 1, { d with nt := was }, rfl, rfl, HJ2, HD1, HWV, HS9, HRb2, HBb2, HXb2, HYb2, (Nat.le_trans HJL.out (by omega : j ≤ j + 1 + 1))⟩
          case measure => rw [rj_left HRb2.out HS9.out, HLF.out]; have := HJ2.out; omega
        · have hz : decide ((1 : Int) = 1) = true := by decide
          by_cases hw0 : was = 0
          · subst hw0
            have HS9 : Hid (Syn M s0 gf m (j + 1 + 1) (emb (.over { d with nt := 0, has := false })) (fun _ => False)) := by
              have := HSw.out
              rw [HE.out.n2, if_neg (by decide), if_pos rfl] at this
              exact this.reset HJ2.out _
            obtain ⟨d9, hd9⟩ : ∃ d9 : RpD, d9 = { d with nt := 0 } := ⟨_, rfl⟩
            have HS8 : Hid (Syn M s0 gf m (j + 1 + 1) (emb (.over { d9 with has := false })) (fun _ => False)) := by rw [hd9]; exact HS9.out
            clear HSw HSb HZ0 HS9 hd9
            have HR := HRb2
            have HB := HBb2
            have HX := HXb2
            have HY := HYb2
            clear HRb2 HBb2 HXb2 HYb2
            have hlt1 : w.heap.size + 1 < b2.heap.size := HY.out.lt
            have HP := hand_put HY.out HR.out HB.out (by have := HXW.out; omega) (by omega) HGF.out (.slice none 0 0) (.int .i64 0)
            have HRB : Hid (Blk _ _ _ _) := HP.1
            have HF : Hid (RpDidG N M emb s0 j0 w x A cap m gf (.returned (.agg #[.slice none 0 0, .int .i64 0])) _) := ⟨.slice none 0 0, [], 0, j + 1 + 1, .over { d9 with has := false }, rfl, ⟨none, 0, rfl, fun _ => ⟨rfl, rfl⟩, fun h => absurd h (by show ¬ 0 < 0; omega)⟩, HP.2.1, HS8.out.reset HJ2.out _, HN.out.a9 _, fun _ => ⟨rfl, rfl⟩, HP.2.2.1, Nat.le_trans HJL.out (by omega), (fun _ _ _ b off e h _ => by cases e; exact absurd h (by omega))⟩
            have r0 := HY.out.cell 0 (v := .slice none 0 0) rfl
            have r1 := HY.out.cell 1 (v := .int .i64 0) rfl
            have f0 := HY.out.fro 0
            have f1 := HY.out.fro 1
            clear HP
            clear HS8
            go_wp2_with fail
            exact bodyPost_ret (v := .agg #[.slice none 0 0, .int .i64 0]) (results_cell_row rfl _ _ (w.heap.size + 1) 135 #[.slice none 0 0, .int .i64 0] (0, 0) _ rfl HRB.out.heap Tryz.underlying135 rfl (by kernel_rfl)) rfl HF.out
          · have hwd : (was == 0) = false := by simpa using hw0
            obtain ⟨g9, hg9⟩ : ∃ g9, gw was = g9 := ⟨_, rfl⟩
            have HS9 : Hid (Syn M s0 gf m (j + 1 + 1) (emb (RpHead false { d with nt := was, g := g9 })) (fun _ => False)) := by
              have := HSw.out
              rw [HE.out.n2, if_neg (by decide), if_neg hw0] at this
              rw [← hg9]
              exact this.reset HJ2.out _
            have HD9 : Hid (RpHas { d with nt := was, g := g9 } g9) := ⟨rfl, HD.out.2.1, HD.out.2.2⟩
            have HW9 : Hid (rpw g9 = was ∧ gw was = g9 ∧ 0 ≤ was ∧ was ≤ 18446744073709551615) := ⟨by rw [← hg9]; exact rpw_gw was HVb1.out, hg9, HVb1.out⟩
            clear hg9
            clear HSw HSb HZ0
            go_wp2_with fail
            go_roundw
            case rel => exact ⟨false, was, g9, j + 1 + 1, _, rfl, rfl, HJ2, HD9, HW9, HS9, HRb2, HBb2, HXb2, HYb2, (Nat.le_trans HJL.out (by omega : j ≤ j + 1 + 1))⟩
            case measure => rw [rj_left HRb2.out HS9.out, HLF.out]; have := HJ2.out; omega
    | false =>
      have HS2 : Hid (Syn M s0 gf m j (emb (.hd d)) (RpIs N emb (RpOne gg))) := HS.out.reset HJ.out _
      clear HS sc
      go_wp2_with fail
      go_loopw [17] (fun _ wr => ∃ (j : Nat) (d : RpD), Hid (RpHas d gg) ∧ Hid (Syn M s0 gf m j (emb (.hd d)) (RpIs N emb (RpOne gg))) ∧ Hid (RunOn wr x A cap m gf (M.rj s0 gf m j)) ∧ Hid (But [x] w wr) ∧ Hid (Blk wr w.heap.size #[.int .i64 P, .int .i64 T, .int .i64 G] 23) ∧ Hid (Blk wr (w.heap.size + 1) #[.slice none 0 0, .int .i64 0] 135) ∧ Hid (j0 ≤ j)) (fun _ wr => left' m x wr)
      case atStart => exact ⟨j, d, HD, HS2, HRa, HBa, HXa, HYa, HJL⟩
      case round =>
        clear HS2 HRa HBa HXa HYa HD HJ HJL
        obtain ⟨j, d, HD, HSa, HRa, HBa, HXa, HYa, HJL⟩ := hrel
        have sc := HRa.out.blk.cell 2 (v := .bool (M.rj s0 gf m (j)).stop) rfl
        rw [rj_stop HSa.out] at sc
        by_cases hst : m < j
        · rw [decide_eq_true hst] at sc
          have HST : Hid (m < j) := hst
          clear hst
          have HR := HRa
          have HB := HBa
          have HX := HXa
          have HY := HYa
          clear HRa HBa HXa HYa
          have hlt1 : Hid (w.heap.size + 1 < wr.heap.size) := HY.out.lt
          have hne1 : w.heap.size + 1 ≠ wr.heap.size := by have := hlt1.out; omega
          have hYal := HY.out.al (.cells #[.int .i64 gg] 3)
          have HP := hand_put (HY.out.al (.cells #[.int .i64 gg] 3)) (HR.out.below ((Below.refl _ _).alloc (Nat.le_refl _) _)) (HB.out.alloc (.cells #[.int .i64 gg] 3)) (by have := HXW.out; omega) (by omega) HGF.out (.slice (some ⟨wr.heap.size, 0, none⟩) 1 1) (.int .i64 0)
          have HRB : Hid (Blk _ _ _ _) := HP.1
          have HF : Hid (RpDidG N M emb s0 j0 w x A cap m gf (.returned (.agg #[.slice (some ⟨wr.heap.size, 0, none⟩) 1 1, .int .i64 0])) _) := ⟨.slice (some ⟨wr.heap.size, 0, none⟩) 1 1, [gg], 0, j, .over d, rfl, one_sees HP.2.2.2 hlt1.out, HP.2.1, ⟨fun h => absurd h (by have := HST.out; omega), HSa.out.past⟩, HN.out.a9 _, fun h => absurd h (by have := HST.out; omega), HP.2.2.1, Nat.le_trans HJL.out (by omega), (fun _ _ _ b off e _ e2 => by cases e; cases e2; have := hlt1.out; omega)⟩
          have r0 := hYal.cell 0 (v := .slice none 0 0) rfl
          have r1 := hYal.cell 1 (v := .int .i64 0) rfl
          have f0 := hYal.fro 0
          have f1 := hYal.fro 1
          have ew : wrap64 (IntKind.i64.wrap wv - 1) = gg := by rw [gw_eq wv HWV.out.2.2]; exact HWV.out.2.1
          generalize hvv : IntKind.i64.wrap wv = v' at *
          clear HP hYal
          clear HSa
          go_wp2_with fail
          exact bodyPost_ret (v := .agg #[.slice (some ⟨wr.heap.size, 0, none⟩) 1 1, .int .i64 0]) (results_cell_row rfl _ _ (w.heap.size + 1) 135 #[.slice (some ⟨wr.heap.size, 0, none⟩) 1 1, .int .i64 0] (0, 0) _ rfl HRB.out.heap Tryz.underlying135 rfl (by kernel_rfl)) rfl HF.out
        · rw [decide_eq_false hst] at sc
          have HJ : Hid (j ≤ m) := (by omega : j ≤ m)
          clear hst
          have HLF : Hid (left' m x wr = m + 1 - j) := rj_left HRa.out HSa.out
          obtain ⟨at1, hat1⟩ : ∃ at1, wd 20 P 264 p 1 = at1 := ⟨_, rfl⟩
          obtain ⟨at2, hat2⟩ : ∃ at2, wd 20 P 264 p 2 = at2 := ⟨_, rfl⟩
          have HPX : Hid (∀ W, Calls Tryz.prog 131 #[.agg #[.int .i64 P, .int .i64 T, .int .i64 G], .int .i64 p, .int .i64 1] W fun e w' => e = .returned (.int .i64 at1) ∧ Below W.heap.size W w') := fun W => by rw [← hat1]; exact HPA.out 1 W (by omega)
          have HPY : Hid (∀ W, Calls Tryz.prog 131 #[.agg #[.int .i64 P, .int .i64 T, .int .i64 G], .int .i64 p, .int .i64 2] W fun e w' => e = .returned (.int .i64 at2) ∧ Below W.heap.size W w') := fun W => by rw [← hat2]; exact HPA.out 2 W (by omega)
          have HA3 : Hid (∀ d, M.ax (emb (.hd d)) = some (axLd at1)) := fun d => by rw [← hat1]; exact HE.out.a3 d
          have HA4 : Hid (∀ d, M.ax (emb (.tl d)) = some (axLd at2)) := fun d => by rw [← hat2]; exact HE.out.a4 d
          have HA6 : Hid (∀ d, M.ax (emb (.ln d)) = some (axSt at2 ((d.tl + 1) % 4294967296))) := fun d => by rw [← hat2]; exact HE.out.a6 d
          have HA8 : Hid (∀ d, M.ax (emb (.sh d)) = some (axSw at1 d.hd ((d.hd + 128) % 4294967296))) := fun d => by rw [← hat1]; exact HE.out.a8 d
          clear hat1 hat2
          have k0 := HXa.out.cell 0 (v := .int .i64 P) rfl
          have k1 := HXa.out.cell 1 (v := .int .i64 T) rfl
          have k2 := HXa.out.cell 2 (v := .int .i64 G) rfl
          have hPl := HPX.out wr
          go_wp2_with fail
          go_at_call 131; refine hPl.mono ?_; rintro e wr1 ⟨rfl, h5⟩
          have HRwr1 : Hid (RunOn wr1 x A cap m gf _) := HRa.out.below h5
          have HBwr1 : Hid (But [x] w wr1) := HBa.out.trans (But.of_below h5)
          have HXwr1 : Hid (Blk wr1 w.heap.size #[.int .i64 P, .int .i64 T, .int .i64 G] 23) := HXa.out.but (But.of_below (l := []) h5) (by simp)
          have HYwr1 : Hid (Blk wr1 (w.heap.size + 1) #[.slice none 0 0, .int .i64 0] 135) := HYa.out.but (But.of_below (l := []) h5) (by simp)
          clear HBa HXa HYa
          clear hPl h5 k0 k1 k2 HRa
          have hA := syn_load HRwr1.out HSa.out HBD.out at1 (fun _ => HA3.out d)
          go_wp2_with fail
          go_at_call 75; refine hA.mono ?_; rintro e b1 ⟨hv, rfl, hK⟩
          have HVb1 : Hid (0 ≤ hv ∧ hv ≤ 18446744073709551615) := hK.bd
          have HRb1 : Hid (RunOn b1 x A cap m gf (M.rj s0 gf m (j + 1))) := hK.run
          have HSb : Hid (Syn M s0 gf m (j + 1) (emb (.tl { d with hd := hv })) (RpIs N emb (RpOne gg))) := by
            have := hK.syn
            rw [HE.out.n3] at this
            exact this.weak (fun r hr => by rcases hr with rfl | hr; exact RpIs.mk' (HN.out.a3 _) (rpone_hd HD.out); exact hr)
          have HBb1 : Hid (But [x] w b1) := HBwr1.out.trans hK.but
          have HXb1 : Hid (Blk b1 w.heap.size #[.int .i64 P, .int .i64 T, .int .i64 G] 23) := HXwr1.out.but hK.but (by have := HXW.out; simp; omega)
          have HYb1 : Hid (Blk b1 (w.heap.size + 1) #[.slice none 0 0, .int .i64 0] 135) := HYwr1.out.but hK.but (by have := HXW.out; simp; omega)
          clear HBwr1 HXwr1 HYwr1
          clear hA hK HRwr1
          have HD1 : Hid (RpHas { d with hd := hv } gg) := HD.out
          clear HSa
          have k0 := HXb1.out.cell 0 (v := .int .i64 P) rfl
          have k1 := HXb1.out.cell 1 (v := .int .i64 T) rfl
          have k2 := HXb1.out.cell 2 (v := .int .i64 G) rfl
          have hPl := HPY.out b1
          go_wp2_with fail
          go_at_call 131; refine hPl.mono ?_; rintro e wr2 ⟨rfl, h5⟩
          have HRwr2 : Hid (RunOn wr2 x A cap m gf _) := HRb1.out.below h5
          have HBwr2 : Hid (But [x] w wr2) := HBb1.out.trans (But.of_below h5)
          have HXwr2 : Hid (Blk wr2 w.heap.size #[.int .i64 P, .int .i64 T, .int .i64 G] 23) := HXb1.out.but (But.of_below (l := []) h5) (by simp)
          have HYwr2 : Hid (Blk wr2 (w.heap.size + 1) #[.slice none 0 0, .int .i64 0] 135) := HYb1.out.but (But.of_below (l := []) h5) (by simp)
          clear HBb1 HXb1 HYb1
          clear hPl h5 k0 k1 k2 HRb1
          have hA := syn_load HRwr2.out HSb.out HBD.out at2 (fun _ => HA4.out _)
          go_wp2_with fail
          go_at_call 75; refine hA.mono ?_; rintro e b2 ⟨tv, rfl, hK⟩
          have HVb2 : Hid (0 ≤ tv ∧ tv ≤ 18446744073709551615) := hK.bd
          have HRb2 : Hid (RunOn b2 x A cap m gf (M.rj s0 gf m (j + 1 + 1))) := hK.run
          have HSc : Hid (Syn M s0 gf m (j + 1 + 1) (if (tv - hv) % 4294967296 < 256 then emb (.st { d with hd := hv, tl := tv }) else emb (.gl { d with hd := hv, tl := tv, ld := 0 } 0)) (RpIs N emb (RpOne gg))) := by
            have := hK.syn
            rw [HE.out.n4] at this
            exact this.weak (fun r hr => by rcases hr with rfl | hr; exact RpIs.mk' (HN.out.a4 _) (rpone_tl HD1.out); exact hr)
          have HBb2 : Hid (But [x] w b2) := HBwr2.out.trans hK.but
          have HXb2 : Hid (Blk b2 w.heap.size #[.int .i64 P, .int .i64 T, .int .i64 G] 23) := HXwr2.out.but hK.but (by have := HXW.out; simp; omega)
          have HYb2 : Hid (Blk b2 (w.heap.size + 1) #[.slice none 0 0, .int .i64 0] 135) := HYwr2.out.but hK.but (by have := HXW.out; simp; omega)
          clear HBwr2 HXwr2 HYwr2
          clear hA hK HRwr2
          clear HSb HD1
          have sc := HRb2.out.blk.cell 2 (v := .bool (M.rj s0 gf m (j + 1 + 1)).stop) rfl
          rw [rj_stop HSc.out] at sc
          by_cases hst : m < j + 1 + 1
          · rw [decide_eq_true hst] at sc
            have HST : Hid (m < j + 1 + 1) := hst
            clear hst
            have HR := HRb2
            have HB := HBb2
            have HX := HXb2
            have HY := HYb2
            clear HRb2 HBb2 HXb2 HYb2
            have hlt1 : Hid (w.heap.size + 1 < b2.heap.size) := HY.out.lt
            have hne1 : w.heap.size + 1 ≠ b2.heap.size := by have := hlt1.out; omega
            have hYal := HY.out.al (.cells #[.int .i64 gg] 3)
            have HP := hand_put (HY.out.al (.cells #[.int .i64 gg] 3)) (HR.out.below ((Below.refl _ _).alloc (Nat.le_refl _) _)) (HB.out.alloc (.cells #[.int .i64 gg] 3)) (by have := HXW.out; omega) (by omega) HGF.out (.slice (some ⟨b2.heap.size, 0, none⟩) 1 1) (.int .i64 0)
            have HRB : Hid (Blk _ _ _ _) := HP.1
            have HF : Hid (RpDidG N M emb s0 j0 w x A cap m gf (.returned (.agg #[.slice (some ⟨b2.heap.size, 0, none⟩) 1 1, .int .i64 0])) _) := ⟨.slice (some ⟨b2.heap.size, 0, none⟩) 1 1, [gg], 0, j + 1 + 1, .over d, rfl, one_sees HP.2.2.2 hlt1.out, HP.2.1, ⟨fun h => absurd h (by have := HST.out; omega), HSc.out.past⟩, HN.out.a9 _, fun h => absurd h (by have := HST.out; omega), HP.2.2.1, Nat.le_trans HJL.out (by omega), (fun _ _ _ b off e _ e2 => by cases e; cases e2; have := hlt1.out; omega)⟩
            have r0 := hYal.cell 0 (v := .slice none 0 0) rfl
            have r1 := hYal.cell 1 (v := .int .i64 0) rfl
            have f0 := hYal.fro 0
            have f1 := hYal.fro 1
            have ew : wrap64 (IntKind.i64.wrap wv - 1) = gg := by rw [gw_eq wv HWV.out.2.2]; exact HWV.out.2.1
            generalize hvv : IntKind.i64.wrap wv = v' at *
            clear HP hYal
            clear HSc
            go_wp2_with fail
            exact bodyPost_ret (v := .agg #[.slice (some ⟨b2.heap.size, 0, none⟩) 1 1, .int .i64 0]) (results_cell_row rfl _ _ (w.heap.size + 1) 135 #[.slice (some ⟨b2.heap.size, 0, none⟩) 1 1, .int .i64 0] (0, 0) _ rfl HRB.out.heap Tryz.underlying135 rfl (by kernel_rfl)) rfl HF.out
          · rw [decide_eq_false hst] at sc
            have HJ2 : Hid (j + 1 + 1 ≤ m) := (by omega : j + 1 + 1 ≤ m)
            have hMn := rmny_any hv tv b2 HVb1.out HVb2.out
            clear hst
            go_wp2_with fail
            go_at_call 132; refine hMn.mono ?_; rintro e b3 ⟨rfl, hb3⟩
            subst hb3
            clear hMn
            by_cases hroom : (tv - hv) % 4294967296 < 256
            · have HS3 : Hid (Syn M s0 gf m (j + 1 + 1) (emb (.st { d with hd := hv, tl := tv })) (RpIs N emb (RpOne gg))) := HSc.out.as (fun _ => if_pos hroom)
              have HD2 : Hid (RpHas { d with hd := hv, tl := tv } gg) := HD.out
              obtain ⟨atr, hatr⟩ : ∃ atr, wd 20 P 264 p (8 + tv % 256) = atr := ⟨_, rfl⟩
              have HPR : Hid (∀ W, Calls Tryz.prog 133 #[.agg #[.int .i64 P, .int .i64 T, .int .i64 G], .int .i64 p, .int .u64 tv] W fun e w' => e = .returned (.int .i64 atr) ∧ Below W.heap.size W w') := fun W => by rw [← hatr]; exact HRA.out tv W HVb2.out
              have HA5 : Hid (M.ax (emb (.st { d with hd := hv, tl := tv })) = some (axSt atr wv)) := by
                show M.ax _ = _
                rw [HE.out.a5, ← hatr]
                show some (axSt _ (rpw d.g)) = _
                rw [HD.out.1, HWV.out.1]
              obtain ⟨q1, hq1⟩ : ∃ q1, IntKind.u64.wrap (tv + 1) = q1 := ⟨_, rfl⟩
              obtain ⟨q2, hq2⟩ : ∃ q2, (tv + 1) % 4294967296 = q2 := ⟨_, rfl⟩
              have hq0 : 0 ≤ q1 ∧ q1 ≤ 18446744073709551615 ∧ q1 % 4294967296 = q2 := by
                have := HVb2.out
                rw [← hq1, ← hq2]
                simp [IntKind.wrap, IntKind.bits, IntKind.signed]
                omega
              have e1 : q1.tmod 4294967296 = q2 := by rw [Int.tmod_eq_emod_of_nonneg hq0.1]; exact hq0.2.2
              have e2 : IntKind.u64.wrap q2 = q2 := wrap_u64 (by omega)
              have HA6' : Hid (M.ax (emb (.ln { d with hd := hv, tl := tv })) = some (axSt at2 q2)) := by rw [← hq2]; exact HA6.out _
              clear hatr hq2 hq0 HSc
              have hroom' : decide ((tv - hv) % 4294967296 < 256) = true := decide_eq_true hroom
              generalize (tv - hv) % 4294967296 = mn at *
              clear hroom
              have k0 := HXb2.out.cell 0 (v := .int .i64 P) rfl
              have k1 := HXb2.out.cell 1 (v := .int .i64 T) rfl
              have k2 := HXb2.out.cell 2 (v := .int .i64 G) rfl
              have hPl := HPR.out b2
              go_wp2_with fail
              go_at_call 133; refine hPl.mono ?_; rintro e wr3 ⟨rfl, h5⟩
              have HRwr3 : Hid (RunOn wr3 x A cap m gf _) := HRb2.out.below h5
              have HBwr3 : Hid (But [x] w wr3) := HBb2.out.trans (But.of_below h5)
              have HXwr3 : Hid (Blk wr3 w.heap.size #[.int .i64 P, .int .i64 T, .int .i64 G] 23) := HXb2.out.but (But.of_below (l := []) h5) (by simp)
              have HYwr3 : Hid (Blk wr3 (w.heap.size + 1) #[.slice none 0 0, .int .i64 0] 135) := HYb2.out.but (But.of_below (l := []) h5) (by simp)
              clear HBb2 HXb2 HYb2
              clear hPl h5 k0 k1 k2 HRb2
              have hA := syn_store HRwr3.out HS3.out HBD.out atr wv (fun _ => HA5.out)
              go_wp2_with fail
              go_at_call 92; refine hA.mono ?_; rintro e b4 ⟨⟨uu, rfl⟩, vv, hK⟩
              have HRb4 : Hid (RunOn b4 x A cap m gf (M.rj s0 gf m (j + 1 + 1 + 1))) := hK.run
              have HS4 : Hid (Syn M s0 gf m (j + 1 + 1 + 1) (emb (.ln { d with hd := hv, tl := tv })) (RpIs N emb (RpOne gg))) := by
                have := hK.syn
                rw [HE.out.n5] at this
                exact this.weak (fun r hr => by rcases hr with rfl | hr; exact RpIs.mk' (HN.out.a5 _) (rpone_st HD2.out); exact hr)
              have HBb4 : Hid (But [x] w b4) := HBwr3.out.trans hK.but
              have HXb4 : Hid (Blk b4 w.heap.size #[.int .i64 P, .int .i64 T, .int .i64 G] 23) := HXwr3.out.but hK.but (by have := HXW.out; simp; omega)
              have HYb4 : Hid (Blk b4 (w.heap.size + 1) #[.slice none 0 0, .int .i64 0] 135) := HYwr3.out.but hK.but (by have := HXW.out; simp; omega)
              clear HBwr3 HXwr3 HYwr3
              clear hA hK HRwr3
              clear HS3
              have k0 := HXb4.out.cell 0 (v := .int .i64 P) rfl
              have k1 := HXb4.out.cell 1 (v := .int .i64 T) rfl
              have k2 := HXb4.out.cell 2 (v := .int .i64 G) rfl
              have hPl := HPY.out b4
              go_wp2_with fail
              go_at_call 131; refine hPl.mono ?_; rintro e wr4 ⟨rfl, h5⟩
              have HRwr4 : Hid (RunOn wr4 x A cap m gf _) := HRb4.out.below h5
              have HBwr4 : Hid (But [x] w wr4) := HBb4.out.trans (But.of_below h5)
              have HXwr4 : Hid (Blk wr4 w.heap.size #[.int .i64 P, .int .i64 T, .int .i64 G] 23) := HXb4.out.but (But.of_below (l := []) h5) (by simp)
              have HYwr4 : Hid (Blk wr4 (w.heap.size + 1) #[.slice none 0 0, .int .i64 0] 135) := HYb4.out.but (But.of_below (l := []) h5) (by simp)
              clear HBb4 HXb4 HYb4
              clear hPl h5 k0 k1 k2 HRb4
              have hA := syn_store HRwr4.out HS4.out HBD.out at2 q2 (fun _ => HA6'.out)
              go_wp2_with fail
              go_at_call 92; refine hA.mono ?_; rintro e b5 ⟨⟨uu, rfl⟩, vv, hK⟩
              have HRb5 : Hid (RunOn b5 x A cap m gf (M.rj s0 gf m (j + 1 + 1 + 1 + 1))) := hK.run
              have HS5 : Hid (Syn M s0 gf m (j + 1 + 1 + 1 + 1) (emb (.over { d with hd := hv, tl := tv, has := false })) (RpIs N emb (RpOne gg))) := by
                have := hK.syn
                rw [HE.out.n6] at this
                exact this.weak (fun r hr => by rcases hr with rfl | hr; exact RpIs.mk' (HN.out.a6 _) (rpone_ln HD2.out); exact hr)
              have HBb5 : Hid (But [x] w b5) := HBwr4.out.trans hK.but
              have HXb5 : Hid (Blk b5 w.heap.size #[.int .i64 P, .int .i64 T, .int .i64 G] 23) := HXwr4.out.but hK.but (by have := HXW.out; simp; omega)
              have HYb5 : Hid (Blk b5 (w.heap.size + 1) #[.slice none 0 0, .int .i64 0] 135) := HYwr4.out.but hK.but (by have := HXW.out; simp; omega)
              clear HBwr4 HXwr4 HYwr4
              clear hA hK HRwr4
              clear HS4
              have sc := HRb5.out.blk.cell 2 (v := .bool (M.rj s0 gf m (j + 1 + 1 + 1 + 1)).stop) rfl
              rw [rj_stop HS5.out] at sc
              by_cases hst : m < j + 1 + 1 + 1 + 1
              · rw [decide_eq_true hst] at sc
                have HST : Hid (m < j + 1 + 1 + 1 + 1) := hst
                clear hst
                have HR := HRb5
                have HB := HBb5
                have HX := HXb5
                have HY := HYb5
                clear HRb5 HBb5 HXb5 HYb5
                have hlt1 : Hid (w.heap.size + 1 < b5.heap.size) := HY.out.lt
                have hne1 : w.heap.size + 1 ≠ b5.heap.size := by have := hlt1.out; omega
                have hYal := HY.out.al (.cells #[.int .i64 gg] 3)
                have HP := hand_put (HY.out.al (.cells #[.int .i64 gg] 3)) (HR.out.below ((Below.refl _ _).alloc (Nat.le_refl _) _)) (HB.out.alloc (.cells #[.int .i64 gg] 3)) (by have := HXW.out; omega) (by omega) HGF.out (.slice (some ⟨b5.heap.size, 0, none⟩) 1 1) (.int .i64 0)
                have HRB : Hid (Blk _ _ _ _) := HP.1
                have HF : Hid (RpDidG N M emb s0 j0 w x A cap m gf (.returned (.agg #[.slice (some ⟨b5.heap.size, 0, none⟩) 1 1, .int .i64 0])) _) := ⟨.slice (some ⟨b5.heap.size, 0, none⟩) 1 1, [gg], 0, j + 1 + 1 + 1 + 1, .over d, rfl, one_sees HP.2.2.2 hlt1.out, HP.2.1, ⟨fun h => absurd h (by have := HST.out; omega), HS5.out.past⟩, HN.out.a9 _, fun h => absurd h (by have := HST.out; omega), HP.2.2.1, Nat.le_trans HJL.out (by omega), (fun _ _ _ b off e _ e2 => by cases e; cases e2; have := hlt1.out; omega)⟩
                have r0 := hYal.cell 0 (v := .slice none 0 0) rfl
                have r1 := hYal.cell 1 (v := .int .i64 0) rfl
                have f0 := hYal.fro 0
                have f1 := hYal.fro 1
                have ew : wrap64 (IntKind.i64.wrap wv - 1) = gg := by rw [gw_eq wv HWV.out.2.2]; exact HWV.out.2.1
                generalize hvv : IntKind.i64.wrap wv = v' at *
                clear HP hYal
                clear HS5
                go_wp2_with fail
                exact bodyPost_ret (v := .agg #[.slice (some ⟨b5.heap.size, 0, none⟩) 1 1, .int .i64 0]) (results_cell_row rfl _ _ (w.heap.size + 1) 135 #[.slice (some ⟨b5.heap.size, 0, none⟩) 1 1, .int .i64 0] (0, 0) _ rfl HRB.out.heap Tryz.underlying135 rfl (by kernel_rfl)) rfl HF.out
              · rw [decide_eq_false hst] at sc
                have HJ4 : Hid (j + 1 + 1 + 1 + 1 ≤ m) := (by omega : j + 1 + 1 + 1 + 1 ≤ m)
                clear hst
                obtain ⟨d9, hd9⟩ : ∃ d9 : RpD, d9 = { d with hd := hv, tl := tv } := ⟨_, rfl⟩
                have HS8 : Hid (Syn M s0 gf m (j + 1 + 1 + 1 + 1) (emb (.over { d9 with has := false })) (RpIs N emb (RpOne gg))) := by rw [hd9]; exact HS5.out
                clear HS5 hd9
                have HR := HRb5
                have HB := HBb5
                have HX := HXb5
                have HY := HYb5
                clear HRb5 HBb5 HXb5 HYb5
                have hlt1 : w.heap.size + 1 < b5.heap.size := HY.out.lt
                have HP := hand_put HY.out HR.out HB.out (by have := HXW.out; omega) (by omega) HGF.out (.slice none 0 0) (.int .i64 0)
                have HRB : Hid (Blk _ _ _ _) := HP.1
                have HF : Hid (RpDidG N M emb s0 j0 w x A cap m gf (.returned (.agg #[.slice none 0 0, .int .i64 0])) _) := ⟨.slice none 0 0, [], 0, j + 1 + 1 + 1 + 1, .over { d9 with has := false }, rfl, ⟨none, 0, rfl, fun _ => ⟨rfl, rfl⟩, fun h => absurd h (by show ¬ 0 < 0; omega)⟩, HP.2.1, HS8.out.reset HJ4.out _, HN.out.a9 _, fun _ => ⟨rfl, rfl⟩, HP.2.2.1, Nat.le_trans HJL.out (by omega), (fun _ _ _ b off e h _ => by cases e; exact absurd h (by omega))⟩
                have r0 := HY.out.cell 0 (v := .slice none 0 0) rfl
                have r1 := HY.out.cell 1 (v := .int .i64 0) rfl
                have f0 := HY.out.fro 0
                have f1 := HY.out.fro 1
                clear HP
                clear HS8
                go_wp2_with fail
                exact bodyPost_ret (v := .agg #[.slice none 0 0, .int .i64 0]) (results_cell_row rfl _ _ (w.heap.size + 1) 135 #[.slice none 0 0, .int .i64 0] (0, 0) _ rfl HRB.out.heap Tryz.underlying135 rfl (by kernel_rfl)) rfl HF.out
            · have HS3 : Hid (Syn M s0 gf m (j + 1 + 1 + 0) (emb (rpGl { d with hd := hv, tl := tv, ld := 0 } 0)) (RpIs N emb (RpOne gg))) := HSc.out.as (fun _ => if_neg hroom)
              have HD2 : Hid (RpHas { d with hd := hv, tl := tv, ld := 0 } gg ∧ ({ d with hd := hv, tl := tv, ld := 0 } : RpD).hd = hv) := ⟨HD.out, rfl⟩
              have hroom' : decide ((tv - hv) % 4294967296 < 256) = false := decide_eq_false hroom
              have HRW0 : Hid (b2.ownsRow (w.heap.size + 2) 3 1 (.slice none 0 0) 0 ((({ d with hd := hv, tl := tv, ld := 0 } : RpD).gv.take 0).map (Value.int .i64))) := World.ownsRow_nil _ _ _ _
              have HBZ : Hid (w.heap.size + 2 ≤ b2.heap.size) := HYb2.out.lt
              generalize ({ d with hd := hv, tl := tv, ld := 0 } : RpD) = d2 at *
              generalize (tv - hv) % 4294967296 = mn at *
              clear hroom HSc sc
              go_wp2_with fail
              go_loopw [19, 20] (fun gvv iv wr => ∃ (k : Nat) (v : Value) (dk : RpD), v = gvv ∧ iv = .int .u64 (k : Int) ∧ k ≤ 128 ∧ Hid (RpHas dk gg ∧ dk.hd = hv) ∧ Hid (wr.ownsRow (w.heap.size + 2) 3 1 v k ((dk.gv.take k).map (Value.int .i64))) ∧ Hid (w.heap.size + 2 ≤ wr.heap.size) ∧ Hid (Syn M s0 gf m (j + 1 + 1 + k) (emb (rpGl dk k)) (RpIs N emb (RpOne gg))) ∧ Hid (RunOn wr x A cap m gf (M.rj s0 gf m (j + 1 + 1 + k))) ∧ Hid (But [x] w wr) ∧ Hid (Blk wr w.heap.size #[.int .i64 P, .int .i64 T, .int .i64 G] 23) ∧ Hid (Blk wr (w.heap.size + 1) #[.slice none 0 0, .int .i64 0] 135)) (fun _ iv _ => 128 - (intOf iv).toNat)
              case atStart => exact ⟨0, _, d2, rfl, rfl, by omega, HD2, HRW0, HBZ, HS3, HRb2, HBb2, HXb2, HYb2⟩
              case round =>
                clear HS3 HRb2 HBb2 HXb2 HYb2 HRW0 HBZ HD2
                obtain ⟨k, v, dk, rfl, rfl, hk, HDK, HRW, HBZ, HSa, HRa, HBa, HXa, HYa⟩ := hrel
                by_cases hk1 : k < 128
                · have HS3 : Hid (Syn M s0 gf m (j + 1 + 1 + k) (emb (.gl dk k)) (RpIs N emb (RpOne gg))) := HSa.out.as (fun _ => congrArg emb (if_pos hk1))
                  obtain ⟨q1, hq1⟩ : ∃ q1, IntKind.u64.wrap (hv + (k : Int)) = q1 := ⟨_, rfl⟩
                  have hq0 : 0 ≤ q1 ∧ q1 ≤ 18446744073709551615 := by
                    rw [← hq1]
                    simp [IntKind.wrap, IntKind.bits, IntKind.signed]
                    omega
                  obtain ⟨atr, hatr⟩ : ∃ atr, wd 20 P 264 p (8 + q1 % 256) = atr := ⟨_, rfl⟩
                  have HPR : Hid (∀ W, Calls Tryz.prog 133 #[.agg #[.int .i64 P, .int .i64 T, .int .i64 G], .int .i64 p, .int .u64 q1] W fun e w' => e = .returned (.int .i64 atr) ∧ Below W.heap.size W w') := fun W => by rw [← hatr]; exact HRA.out q1 W hq0
                  have HA7 : Hid (M.ax (emb (.gl dk k)) = some (axLd atr)) := by
                    show M.ax _ = _
                    rw [HE.out.a7, HDK.out.2, hq1, hatr]
                  have hik : (k : Int) < 128 := by omega
                  have hwk : IntKind.u64.wrap ((k : Int) + 1) = ((k + 1 : Nat) : Int) := by rw [wrap_u64 (by omega)]; omega
                  have HRWl := HRW.out.lt
                  clear hq0 hatr HSa
                  have k0 := HXa.out.cell 0 (v := .int .i64 P) rfl
                  have k1 := HXa.out.cell 1 (v := .int .i64 T) rfl
                  have k2 := HXa.out.cell 2 (v := .int .i64 G) rfl
                  have hPl := HPR.out wr
                  go_wp2_with fail
                  go_at_call 133; refine hPl.mono ?_; rintro e wr5 ⟨rfl, h5⟩
                  have HRwr5 : Hid (RunOn wr5 x A cap m gf _) := HRa.out.below h5
                  have HBwr5 : Hid (But [x] w wr5) := HBa.out.trans (But.of_below h5)
                  have HXwr5 : Hid (Blk wr5 w.heap.size #[.int .i64 P, .int .i64 T, .int .i64 G] 23) := HXa.out.but (But.of_below (l := []) h5) (by simp)
                  have HYwr5 : Hid (Blk wr5 (w.heap.size + 1) #[.slice none 0 0, .int .i64 0] 135) := HYa.out.but (But.of_below (l := []) h5) (by simp)
                  clear HBa HXa HYa
                  have HRW5 : Hid (wr5.ownsRow (w.heap.size + 2) 3 1 v k ((dk.gv.take k).map (Value.int .i64))) := row_below HRW.out h5
                  have HBZ5 : Hid (w.heap.size + 2 ≤ wr5.heap.size) := Nat.le_trans HBZ.out h5.size
                  clear HRW HBZ
                  clear hPl h5 k0 k1 k2 HRa
                  have hA := syn_load HRwr5.out HS3.out HBD.out atr (fun _ => HA7.out)
                  go_wp2_with fail
                  go_at_call 75; refine hA.mono ?_; rintro e b6 ⟨lv, rfl, hK⟩
                  have HVl : Hid (0 ≤ lv ∧ lv ≤ 18446744073709551615) := hK.bd
                  have HRb6 : Hid (RunOn b6 x A cap m gf (M.rj s0 gf m (j + 1 + 1 + k + 1))) := hK.run
                  have HS6 : Hid (Syn M s0 gf m (j + 1 + 1 + (k + 1)) (emb (rpGl (dk.take1 k lv) (k + 1))) (RpIs N emb (RpOne gg))) := by
                    have := hK.syn
                    rw [HE.out.n7] at this
                    rw [show emb (rpGl (dk.take1 k lv) (k + 1)) = (if k + 1 < 128 then emb (.gl (dk.take1 k lv) (k + 1)) else emb (.sh (dk.take1 k lv))) from by unfold rpGl; split <;> rfl]
                    exact this.weak (fun r hr => by rcases hr with rfl | hr; exact RpIs.mk' (HN.out.a7 _ k) (rpone_gl HDK.out.1 k); exact hr)
                  have HRW6 : Hid (b6.ownsRow (w.heap.size + 2) 3 1 v k ((dk.gv.take k).map (Value.int .i64))) := row_but HRW5.out hK.but (fun b hb => by simp at hb; have := HXW.out; omega)
                  have HBZ6 : Hid (w.heap.size + 2 ≤ b6.heap.size) := Nat.le_trans HBZ5.out hK.but.size
                  have HBb6 : Hid (But [x] w b6) := HBwr5.out.trans hK.but
                  have HXb6 : Hid (Blk b6 w.heap.size #[.int .i64 P, .int .i64 T, .int .i64 G] 23) := HXwr5.out.but hK.but (by have := HXW.out; simp; omega)
                  have HYb6 : Hid (Blk b6 (w.heap.size + 1) #[.slice none 0 0, .int .i64 0] 135) := HYwr5.out.but hK.but (by have := HXW.out; simp; omega)
                  clear HBwr5 HXwr5 HYwr5
                  clear hA hK HRwr5 HRW5 HBZ5 HS3
                  have el : wrap64 (IntKind.i64.wrap lv - 1) = gw lv := gw_eq lv HVl.out
                  obtain ⟨gq, hgq⟩ : ∃ gq, gw lv = gq := ⟨_, rfl⟩
                  have HGQ : Hid (gw lv = gq) := hgq
                  rw [hgq] at el
                  generalize hvl : IntKind.i64.wrap lv = vl' at el
                  have HTK : Hid ((dk.take1 k lv).gv.take (k + 1) = dk.gv.take k ++ [gq] ∧ RpHas (dk.take1 k lv) gg ∧ (dk.take1 k lv).hd = hv) := by
                    have hlen := HDK.out.1.2.2
                    refine ⟨?_, ⟨HDK.out.1.1, HDK.out.1.2.1, by show (dk.gv.set k _).length = 128; rw [List.length_set]; exact hlen⟩, HDK.out.2⟩
                    show (dk.gv.set k (gw lv)).take (k + 1) = _
                    rw [HGQ.out, List.take_add_one, List.take_set_of_le (Nat.le_refl k), List.getElem?_set_self (by omega)]
                    rfl
                  have hOO := HRW6.out
                  have hBZ := HBZ6.out
                  obtain ⟨Ag, cg, hvg⟩ := lists_slice HRW6.out
                  subst hvg
                  clear hgq
                  go_wp2_with (at_builtin; refine wpList_append_own _ rfl _ _ 49 rfl (w.heap.size + 2) 3 i3 (.int .i64 0) 1 8 Tryz.underlying49 hi3 hz03 hz13 hz23 rfl (by decide) _ _ _ rfl (hOO.alloc _) ⟨b6.heap.size, 0, none⟩ 1 1 [.int .i64 gq] rfl rfl (cell_one_new _ _ _) (ints_oneCell .i64 [gq]) (by unfold maxLen; omega) (by omega) (by simp; omega) ?_; intro v' w7 hown' hgrow2 hnil2)
                  have hUP := hOO.lt
                  have hBu : But (rowB (.slice Ag k cg)) b6 w7 := ((But.refl _ _).alloc _).grown hgrow2 (fun kk hk => .inl (rowB_mem hk))
                  have hrb : ∀ kk ∈ rowB (.slice Ag k cg), w.heap.size + 2 ≤ kk := fun kk hk => (hUP kk (mem_rowB hk)).1
                  have HR7 : Hid (RunOn w7 x A cap m gf (M.rj s0 gf m (j + 1 + 1 + (k + 1)))) := HRb6.out.but hBu (fun hm => by have := hrb _ hm; have := HXW.out; omega) (fun b e hm => by
                    have h1 := hrb _ hm
                    rcases HGA.out with e0 | ⟨gb, e0, hl⟩
                    · rw [e0] at e; cases e
                    · rw [e0] at e; cases e; omega)
                  have HB7 : Hid (But [x] w w7) := ⟨hBu.os.trans HBb6.out.os, hBu.tape.trans HBb6.out.tape, hBu.output.trans HBb6.out.output, Nat.le_trans HBb6.out.size hBu.size, fun i hi hc => (hBu.block i (Nat.lt_of_lt_of_le hi HBb6.out.size) (fun hm => by have := hrb _ hm; omega)).trans (HBb6.out.block i hi hc)⟩
                  have HX7 : Hid (Blk w7 w.heap.size #[.int .i64 P, .int .i64 T, .int .i64 G] 23) := HXb6.out.but hBu (fun hm => by have := hrb _ hm; omega)
                  have HY7 : Hid (Blk w7 (w.heap.size + 1) #[.slice none 0 0, .int .i64 0] 135) := HYb6.out.but hBu (fun hm => by have := hrb _ hm; omega)
                  have HBZ7 : Hid (w.heap.size + 2 ≤ w7.heap.size) := Nat.le_trans HBZ6.out hBu.size
                  have HRW7 : Hid (w7.ownsRow (w.heap.size + 2) 3 1 v' (k + 1) (((dk.take1 k lv).gv.take (k + 1)).map (Value.int .i64))) := by
                    rw [HTK.out.1, List.map_append]
                    exact hown'
                  have HDK7 : Hid (RpHas (dk.take1 k lv) gg ∧ (dk.take1 k lv).hd = hv) := HTK.out.2
                  clear hown' hgrow2 hnil2 hBu hrb hUP hOO HRb6 HBb6 HXb6 HYb6 HRW6 HBZ6 HDK HTK hBZ
                  generalize dk.take1 k lv = dk7 at *
                  go_wp2_with fail
                  go_roundw
                  case rel => exact ⟨k + 1, v', dk7, rfl, by first | rfl | (rw [← hwk]; rfl) | simp [hwk], by omega, HDK7, HRW7, HBZ7, HS6, HR7, HB7, HX7, HY7⟩
                  case measure => simp [intOf, hwk]; omega
                · obtain rfl : k = 128 := by omega
                  rw [show ((128 : Nat) : Int) = 128 from rfl]
                  have HS3 : Hid (Syn M s0 gf m (j + 1 + 1 + 128) (emb (.sh dk)) (RpIs N emb (RpOne gg))) := HSa.out.as (fun _ => congrArg emb (if_neg hk1))
                  have HAX8 : Hid (M.ax (emb (.sh dk)) = some (axSw at1 hv ((hv + 128) % 4294967296))) := by
                    have := HA8.out dk
                    rw [HDK.out.2] at this
                    exact this
                  obtain ⟨q1, hq1⟩ : ∃ q1, IntKind.u64.wrap (hv + 128) = q1 := ⟨_, rfl⟩
                  obtain ⟨q2, hq2⟩ : ∃ q2, (hv + 128) % 4294967296 = q2 := ⟨_, rfl⟩
                  have hq0 : 0 ≤ q1 ∧ q1 ≤ 18446744073709551615 ∧ q1 % 4294967296 = q2 := by
                    have := HVb1.out
                    rw [← hq1, ← hq2]
                    simp [IntKind.wrap, IntKind.bits, IntKind.signed]
                    omega
                  have e1 : q1.tmod 4294967296 = q2 := by rw [Int.tmod_eq_emod_of_nonneg hq0.1]; exact hq0.2.2
                  have e2 : IntKind.u64.wrap q2 = q2 := wrap_u64 (by omega)
                  rw [hq2] at HAX8
                  obtain ⟨jj, hjj⟩ : ∃ jj, j + 1 + 1 + 128 = jj := ⟨_, rfl⟩
                  have HJJ : Hid (j + 1 + 1 + 128 = jj) := hjj
                  rw [hjj] at HS3 HRa
                  clear hq2 hq0 HSa hjj hk hk1
                  have k0 := HXa.out.cell 0 (v := .int .i64 P) rfl
                  have k1 := HXa.out.cell 1 (v := .int .i64 T) rfl
                  have k2 := HXa.out.cell 2 (v := .int .i64 G) rfl
                  have hPl := HPX.out wr
                  go_wp2_with fail
                  go_at_call 131; refine hPl.mono ?_; rintro e wr6 ⟨rfl, h5⟩
                  have HRwr6 : Hid (RunOn wr6 x A cap m gf _) := HRa.out.below h5
                  have HBwr6 : Hid (But [x] w wr6) := HBa.out.trans (But.of_below h5)
                  have HXwr6 : Hid (Blk wr6 w.heap.size #[.int .i64 P, .int .i64 T, .int .i64 G] 23) := HXa.out.but (But.of_below (l := []) h5) (by simp)
                  have HYwr6 : Hid (Blk wr6 (w.heap.size + 1) #[.slice none 0 0, .int .i64 0] 135) := HYa.out.but (But.of_below (l := []) h5) (by simp)
                  clear HBa HXa HYa
                  have HRW6 : Hid (wr6.ownsRow (w.heap.size + 2) 3 1 v 128 ((dk.gv.take 128).map (Value.int .i64))) := row_below HRW.out h5
                  have HBZ6 : Hid (w.heap.size + 2 ≤ wr6.heap.size) := Nat.le_trans HBZ.out h5.size
                  clear HRW HBZ
                  clear hPl h5 k0 k1 k2 HRa
                  have hA := syn_swap HRwr6.out HS3.out HBD.out at1 hv q2 (fun _ => HAX8.out)
                  go_wp2_with fail
                  go_at_call 77; refine hA.mono ?_; rintro e b7 ⟨sv, rfl, hK⟩
                  have hsv := HSW.out.one HS3.out (HAX8.out) rfl hK.val hK.zero hK.bd.1
                  have HZ0 : Hid (m ≤ jj → sv = 0) := hK.zero
                  have HRb7 : Hid (RunOn b7 x A cap m gf (M.rj s0 gf m (jj + 1))) := hK.run
                  have HSw : Hid (Syn M s0 gf m (jj + 1) (M.nx _ sv) (RpIs N emb (RpOne gg))) := hK.syn.weak (fun r hr => by rcases hr with rfl | hr; exact RpIs.mk' (HN.out.a8 _) (rpone_sh HDK.out.1); exact hr)
                  have HBb7 : Hid (But [x] w b7) := HBwr6.out.trans hK.but
                  have HXb7 : Hid (Blk b7 w.heap.size #[.int .i64 P, .int .i64 T, .int .i64 G] 23) := HXwr6.out.but hK.but (by have := HXW.out; simp; omega)
                  have HYb7 : Hid (Blk b7 (w.heap.size + 1) #[.slice none 0 0, .int .i64 0] 135) := HYwr6.out.but hK.but (by have := HXW.out; simp; omega)
                  clear HBwr6 HXwr6 HYwr6
                  have HRW7 : Hid (b7.ownsRow (w.heap.size + 2) 3 1 v 128 ((dk.gv.take 128).map (Value.int .i64))) := row_but HRW6.out hK.but (fun b hb => by simp at hb; have := HXW.out; omega)
                  have HBZ7 : Hid (w.heap.size + 2 ≤ b7.heap.size) := Nat.le_trans HBZ6.out hK.but.size
                  clear HRW6 HBZ6
                  clear hA hK HRwr6
                  rcases hsv with rfl | rfl
                  · have hz : decide ((0 : Int) = 1) = false := by decide
                    have HS9 : Hid (Syn M s0 gf m (jj + 1) (emb (.hd dk)) (RpIs N emb (RpOne gg))) := by
                      have := HSw.out
                      rw [HE.out.n8, if_pos rfl] at this
                      exact this
                    have HD9 : Hid (RpHas dk gg) := HDK.out.1
                    clear HSw HZ0 HS3
                    go_wp2_with fail
                    go_roundw
                    case rel => exact ⟨jj + 1, dk, HD9, HS9, HRb7, HBb7, HXb7, HYb7, (Nat.le_trans HJL.out (by have := HJJ.out; omega : j ≤ jj + 1) : j0 ≤ jj + 1)⟩
                    case measure => rw [rj_left HRb7.out HS9.out, HLF.out]; have := HJJ.out; have := HJ.out; omega
                  · have hz : decide ((1 : Int) = 1) = true := by decide
                    have hj9 : jj + 1 ≤ m := by
                      apply Decidable.byContradiction
                      intro hc
                      have := HZ0.out (by omega)
                      cases this
                    have HJ9 : Hid (jj + 1 ≤ m) := hj9
                    clear hj9
                    have HS9 : Hid (Syn M s0 gf m (jj + 1) (emb (.acq dk .fresh)) (fun _ => False)) := by
                      have := HSw.out
                      rw [HE.out.n8, if_neg (by decide)] at this
                      exact this.reset HJ9.out _
                    have ew : wrap64 (IntKind.i64.wrap wv - 1) = gg := by rw [gw_eq wv HWV.out.2.2]; exact HWV.out.2.1
                    generalize hvv : IntKind.i64.wrap wv = v9 at *
                    have hOO := HRW7.out
                    have hBZ := HBZ7.out
                    obtain ⟨Ag, cg, hvg⟩ := lists_slice HRW7.out
                    subst hvg
                    have HAP : Hid (∀ (o : Obj) (v' : Value) (w8 : World), w8.ownsRow (w.heap.size + 2) 3 1 v' (128 + 1) ((dk.gv.take 128).map (Value.int .i64) ++ [.int .i64 gg]) → (b7.alloc o).grownBy w8 (Value.slice Ag 128 cg).ownBlock → w8.cell? ⟨w.heap.size, 0, none⟩ = some (.int .i64 P) ∧ w8.cell? ⟨w.heap.size, 1, none⟩ = some (.int .i64 T) ∧ w8.cell? ⟨w.heap.size, 2, none⟩ = some (.int .i64 G) ∧ RunOn w8 x A cap m gf (M.rj s0 gf m (jj + 1)) ∧ But [x] w w8 ∧ Blk w8 (w.heap.size + 1) #[.slice none 0 0, .int .i64 0] 135 ∧ (∃ B cp, v' = .slice B 129 cp ∧ SeesL w8 (.slice B 129 cp) dk.all ∧ ∀ b off : Nat, B = some ⟨b, off, none⟩ → b ≠ x ∧ w.heap.size ≤ b)) := fun o v' w8 hown' hgrow2 => by
                      have hUP := hOO.lt
                      have hBu : But (rowB (.slice Ag 128 cg)) b7 w8 := ((But.refl _ _).alloc _).grown hgrow2 (fun kk hk => .inl (rowB_mem hk))
                      have hrb : ∀ kk ∈ rowB (.slice Ag 128 cg), w.heap.size + 2 ≤ kk := fun kk hk => (hUP kk (mem_rowB hk)).1
                      have hX8 : Blk w8 w.heap.size #[.int .i64 P, .int .i64 T, .int .i64 G] 23 := HXb7.out.but hBu (fun hm => by have := hrb _ hm; omega)
                      refine ⟨hX8.cell 0 rfl, hX8.cell 1 rfl, hX8.cell 2 rfl, HRb7.out.but hBu (fun hm => by have := hrb _ hm; have := HXW.out; omega) (fun b e hm => by
                        have h1 := hrb _ hm
                        rcases HGA.out with e0 | ⟨gb, e0, hl⟩
                        · rw [e0] at e; cases e
                        · rw [e0] at e; cases e; omega), ⟨hBu.os.trans HBb7.out.os, hBu.tape.trans HBb7.out.tape, hBu.output.trans HBb7.out.output, Nat.le_trans HBb7.out.size hBu.size, fun i hi hc => (hBu.block i (Nat.lt_of_lt_of_le hi HBb7.out.size) (fun hm => by have := hrb _ hm; omega)).trans (HBb7.out.block i hi hc)⟩, HYb7.out.but hBu (fun hm => by have := hrb _ hm; omega), ?_⟩
                      obtain ⟨B, cp, hv⟩ := lists_slice hown'
                      subst hv
                      have hall : dk.all = dk.gv.take 128 ++ [gg] := by
                        unfold RpD.all
                        rw [HDK.out.1.1, List.take_of_length_le (by rw [HDK.out.1.2.2]; exact Nat.le_refl _)]
                      refine ⟨B, cp, rfl, ?_, fun b off e => ?_⟩
                      · have hio : IntsOn w8 (w.heap.size + 2) (.slice B (128 + 1) cp) dk.all := ⟨by
                          rw [hall, List.map_append, List.length_append, List.length_take, HDK.out.1.2.2]
                          exact hown'⟩
                        exact hio.sees
                      · subst e
                        rcases hown'.2 with ⟨e0, -⟩ | ⟨gb, cp', cur, e0, hb, -⟩
                        · cases e0
                        · injection e0 with e1
                          injection e1 with e1
                          injection e1 with e1
                          have := HXW.out
                          constructor <;> omega
                    clear HSw HZ0 HS3
                    go_wp2_with (at_builtin; refine wpList_append_own _ rfl _ _ 49 rfl (w.heap.size + 2) 3 i3 (.int .i64 0) 1 8 Tryz.underlying49 hi3 hz03 hz13 hz23 rfl (by decide) _ _ _ rfl (hOO.alloc _) ⟨b7.heap.size, 0, none⟩ 1 1 [.int .i64 gg] rfl rfl (cell_one_new _ _ _) (ints_oneCell .i64 [gg]) (by unfold maxLen; omega) (by omega) (by simp; omega) ?_; intro v' w8 hown' hgrow2 hnil2; obtain ⟨y0, y1, y2, h8⟩ := HAP.out _ v' w8 hown' hgrow2; have H8 : Hid _ := h8; clear h8)
                    obtain ⟨g1, g2, g3, B, cp, hvB, g4, g5⟩ := H8.out
                    subst hvB
                    have hlen : dk.all.length = 129 := RpD.all_len' HDK.out.1.2.2
                    have hSl := HSL.out dk w8 B cp (jj + 1) HDK.out.1.2.2 (by rw [hlen]; exact g4) (fun b off e => (g5 b off e).1) g1 HS9.out
                    have HLO : Hid (∀ b off : Nat, B = some ⟨b, off, none⟩ → w.heap.size ≤ b) := fun b off e => (g5 b off e).2
                    rw [hlen] at hSl
                    have HY8 : Hid (Blk w8 (w.heap.size + 1) #[.slice none 0 0, .int .i64 0] 135) := g3
                    have HB8 : Hid (But [x] w w8) := g2
                    clear H8 g1 g2 g3 g4 g5 hown' hgrow2 hnil2 y0 y1 y2 HAP hOO hBZ hlen HRb7 HBb7 HXb7 HYb7 HRW7 HBZ7 HS9
                    refine hSl.mono ?_
                    rintro e y9 ⟨vv, held, j9, qq, rfl, q1, q2, q3, q4, q5, q6, q7⟩
                    have hY9 := HY8.out.but q5 (by have := HXW.out; simp; omega)
                    have hheld : held = dk.all ∨ held = [] := by
                      by_cases h5 : m < j9
                      · exact HNH.out _ _ (q3.past h5).1 HDK.out.1.2.1
                      · rw [q4 (by omega)]; split <;> simp
                    obtain ⟨B5, cp5, hv5⟩ : ∃ B5 cp5, vv = .slice B5 held.length cp5 := by obtain ⟨A', c', e', -, -⟩ := q1; exact ⟨A', c', e'⟩
                    subst hv5
                    have hl129 : 0 < held.length → held.length = 129 := fun h0 => by
                      rcases hheld with h | h
                      · rw [h]; exact RpD.all_len' HDK.out.1.2.2
                      · rw [h] at h0; cases h0
                    have HP := hand_put hY9 q2 (HB8.out.trans q5) (by have := HXW.out; omega) (by omega) HGF.out (.slice B5 held.length cp5) (.int .i64 129)
                    have HRB : Hid (Blk _ _ _ _) := HP.1
                    have HF : Hid (RpDidG N M emb s0 j0 w x A cap m gf (.returned (.agg #[.slice B5 held.length cp5, .int .i64 129])) _) := ⟨.slice B5 held.length cp5, held, 129, j9, .rel dk qq .over, rfl, q1.but2 HP.2.2.2 (sees_far q1 hl129 hY9 (by simp)), HP.2.1, q3.weak (fun r hr => by
                      rcases hr with ⟨hf, -⟩ | ⟨r', a, h1, h2, h3, h4, h5⟩
                      · exact hf.elim
                      · exact ⟨r', a, h1, h2, (h5 HDK.out.1.2.1).symm, by unfold RpT.moved; rw [if_pos h4]⟩), HN.out.rl _ _, fun h => ⟨by rw [q4 h]; show (if dk.has = true then _ else _) = _; rw [if_pos HDK.out.1.2.1], rfl⟩, HP.2.2.1, Nat.le_trans (Nat.le_trans HJL.out (by have := HJJ.out; omega)) q6, (fun A1 n1 c1 b off e h e2 => HLO.out b off ((q7 A1 n1 c1 e h).symm.trans e2))⟩
                    have r0 := hY9.cell 0 (v := .slice none 0 0) rfl
                    have r1 := hY9.cell 1 (v := .int .i64 0) rfl
                    have f0 := hY9.fro 0
                    have f1 := hY9.fro 1
                    generalize held.length = hn at *
                    clear hSl HP hY9 q1 q2 q3 q4 q5 q6 q7 hheld hl129 HY8 HB8
                    go_wp2_with fail
                    exact bodyPost_ret (v := .agg #[.slice B5 hn cp5, .int .i64 129]) (results_cell_row rfl _ _ (w.heap.size + 1) 135 #[.slice B5 hn cp5, .int .i64 129] (0, 0) _ rfl HRB.out.heap Tryz.underlying135 rfl (by kernel_rfl)) rfl HF.out
end Go.Proofs.YtfdpikkinlljlaaGreat
