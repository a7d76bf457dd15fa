/-
  The contract of impl's reader: order. Mine, by program (wip/hearo.py), by template (wip/gen.py).
-/
import Derived.Test.YtbcfmehcghkpiaaDoorHearK
import Derived.Test.YtbcfmehcghkpiaaDoorSCopyZ
import Derived.Deep.RegionHeld3
namespace Go.Proofs.YtbcfmehcghkpiaaDoor
open Go.RowKit

/-- An event's box at R, its sections in a row of its own from lo on. -/
structure EX (w : World) (lo R : Nat) (E : Ev) (ad : Option Addr) (c : Nat) : Prop where
  box : w.heap[R]? = some (.cells #[.int .i64 E.op, .int .i64 E.of_, .string E.holder, .int .i64 E.kind, .slice ad E.secs.length c, .string E.text] 24 (0, 0))
  own : w.ownsRow lo 3 1 (.slice ad E.secs.length c) E.secs.length (E.secs.map (Value.int .i64))
  ne : ∀ g, (Value.slice ad E.secs.length c).ownBlock = some g → g ≠ R

theorem EX.lt {w : World} {lo R : Nat} {E : Ev} {ad : Option Addr} {c : Nat} (h : EX w lo R E ad c) : R < w.heap.size := (Array.getElem?_eq_some_iff.1 h.box).1
theorem EX.fr {S : Nat → Prop} {w w' : World} {lo R : Nat} {E : Ev} {ad : Option Addr} {c : Nat} (h : EX w lo R E ad c) (hf : Fr S w w') (hR : ¬ S R) (hg : ∀ g, lo ≤ g → ¬ S g) : EX w' lo R E ad c :=
  ⟨(hf.block R h.lt hR).trans h.box, owns_of_block h.own (fun g e => hf.block g (owns_lt h.own e).2 (hg g (owns_lt h.own e).1)), h.ne⟩
theorem EX.below {w w' : World} {lo R : Nat} {E : Ev} {ad : Option Addr} {c : Nat} (h : EX w lo R E ad c) (hb : Below w.heap.size w w') : EX w' lo R E ad c := h.fr (Fr.of_below (S := fun _ => False) hb) (fun e => e) (fun _ _ e => e)
theorem EX.facts {w : World} {lo R : Nat} {E : Ev} {ad : Option Addr} {c : Nat} (h : EX w lo R E ad c) : (w.cell? ⟨R, 0, none⟩ = some (.int .i64 E.op) ∧ w.cell? ⟨R, 1, none⟩ = some (.int .i64 E.of_) ∧ w.cell? ⟨R, 2, none⟩ = some (.string E.holder) ∧ w.cell? ⟨R, 3, none⟩ = some (.int .i64 E.kind) ∧ w.cell? ⟨R, 4, none⟩ = some (.slice ad E.secs.length c) ∧ w.cell? ⟨R, 5, none⟩ = some (.string E.text)) ∧ w.frozen? ⟨R, 0, none⟩ = false ∧ w.frozen? ⟨R, 1, none⟩ = false ∧ w.frozen? ⟨R, 2, none⟩ = false ∧ w.frozen? ⟨R, 3, none⟩ = false ∧ w.frozen? ⟨R, 4, none⟩ = false ∧ w.frozen? ⟨R, 5, none⟩ = false :=
  ⟨ev_cells h.box, frozen_of_box h.box, frozen_of_box h.box, frozen_of_box h.box, frozen_of_box h.box, frozen_of_box h.box, frozen_of_box h.box⟩
/-- The sections' field laid anew: a longer row. -/
theorem EX.push {w w' : World} {lo R : Nat} {E : Ev} {ad : Option Addr} {c : Nat} (h : EX w lo R E ad c) (L : List Int) (aU : Option Addr) (cU : Nat) (hgr : w.grownBy w' (Value.slice ad E.secs.length c).ownBlock) (hown : w'.ownsRow lo 3 1 (.slice aU L.length cU) L.length (L.map (Value.int .i64))) (hb : (Value.slice aU L.length cU).ownBlock = (Value.slice ad E.secs.length c).ownBlock ∨ (Value.slice aU L.length cU).ownBlock = some w.heap.size) :
    EX (w'.setCell ⟨R, 4, none⟩ (.slice aU L.length cU)) lo R ⟨E.op, E.of_, E.holder, E.kind, L, E.text⟩ aU cU := by
  have hR := h.lt
  have ne : ∀ g, (Value.slice aU L.length cU).ownBlock = some g → g ≠ R := fun g hg e => by
    rcases hb with q | q
    · rw [q] at hg; exact h.ne g hg e
    · rw [q] at hg; have := Option.some.inj hg; omega
  have x : w'.heap[R]? = some (.cells #[.int .i64 E.op, .int .i64 E.of_, .string E.holder, .int .i64 E.kind, .slice ad E.secs.length c, .string E.text] 24 (0, 0)) := (hgr.block R hR (fun e => h.ne R e.symm rfl)).trans h.box
  exact ⟨(box_set x _).trans rfl, owns_of_block hown (fun g hg => Deep.blk_setCell_other _ _ _ _ (ne g hg)), ne⟩

/-- How far a reader has still to go, as memory has it. -/
def rbLen (w : World) (q : Nat) : Nat := match w.cell? ⟨q, 0, none⟩ with
  | some (.string s) => s.size
  | _ => 0
theorem rbLen_of {w : World} {q : Nat} {s : ByteArray} (h : RB w q s) : rbLen w q = s.size := by
  unfold rbLen
  rw [(rb_cell h).1]

/-- While sections are read: w the world ahead, the answer's box at w.heap.size, the event's box behind it. -/
structure OS (w wr : World) (q : Nat) (s : ByteArray) (E : Ev) (ad : Option Addr) (c : Nat) : Prop where
  rb : RB wr q s
  ex : EX wr (w.heap.size + 2) (w.heap.size + 1) E ad c
  gl : Gl wr
  fr : Fr (fun x => x = q ∨ w.heap.size ≤ x) w wr
  ans : wr.heap[w.heap.size]? = some (.cells #[.int .i64 0, .int .i64 0, .string ⟨#[]⟩, .int .i64 0, .slice none 0 0, .string ⟨#[]⟩] 24 (0, 0))

theorem OS.sz {w wr : World} {q : Nat} {s : ByteArray} {E : Ev} {ad : Option Addr} {c : Nat} (h : OS w wr q s E ad c) : w.heap.size + 1 < wr.heap.size := h.ex.lt
theorem OS.below {w wr w' : World} {q : Nat} {s : ByteArray} {E : Ev} {ad : Option Addr} {c : Nat} (h : OS w wr q s E ad c) (hb : Below wr.heap.size wr w') : OS w w' q s E ad c :=
  ⟨h.rb.fr (Fr.of_below (S := fun _ => False) hb) (fun e => e), h.ex.below hb, h.gl.fr (Fr.of_below (S := fun _ => False) hb) (fun _ e => e.elim), h.fr.trans (Fr.of_below hb), (hb.block _ (by have := h.sz; omega)).trans h.ans⟩
theorem OS.call {w wr w' : World} {q : Nat} {s s' : ByteArray} {E : Ev} {ad : Option Addr} {c : Nat} (h : OS w wr q s E ad c) (hq : 7 ≤ q) (hl : q < w.heap.size) (hf : Fr (fun x => x = q) wr w') (hr : RB w' q s') : OS w w' q s' E ad c :=
  ⟨hr, h.ex.fr hf (by omega) (fun g hg e => by omega), h.gl.fr hf (fun x e => by omega), h.fr.trans (hf.mono (fun _ e => Or.inl e)), (hf.block _ (by have := h.sz; omega) (by omega)).trans h.ans⟩
theorem OS.push {w wr w' : World} {q : Nat} {s : ByteArray} {E : Ev} {ad : Option Addr} {c : Nat} (h : OS w wr q s E ad c) (hq : q < w.heap.size) (hG : 7 ≤ w.heap.size) (L : List Int) (aU : Option Addr) (cU : Nat) (hgr : wr.grownBy w' (Value.slice ad E.secs.length c).ownBlock) (hown : w'.ownsRow (w.heap.size + 2) 3 1 (.slice aU L.length cU) L.length (L.map (Value.int .i64))) (hb : (Value.slice aU L.length cU).ownBlock = (Value.slice ad E.secs.length c).ownBlock ∨ (Value.slice aU L.length cU).ownBlock = some wr.heap.size) :
    OS w (w'.setCell ⟨w.heap.size + 1, 4, none⟩ (.slice aU L.length cU)) q s ⟨E.op, E.of_, E.holder, E.kind, L, E.text⟩ aU cU := by
  have f1 : Fr (fun x => (Value.slice ad E.secs.length c).ownBlock = some x) wr w' := ⟨hgr.os, hgr.tape, hgr.output, hgr.size, fun j hj hn => hgr.block j hj (fun e => hn e.symm)⟩
  have hlo : ∀ x, (Value.slice ad E.secs.length c).ownBlock = some x → w.heap.size + 2 ≤ x := fun x hx => (owns_lt h.ex.own hx).1
  have f2 : Fr (fun x => w.heap.size + 1 ≤ x) wr (w'.setCell ⟨w.heap.size + 1, 4, none⟩ (.slice aU L.length cU)) := Fr.setCell (S := fun x => w.heap.size + 1 ≤ x) (f1.mono (fun x e => by have := hlo x e; show w.heap.size + 1 ≤ x; omega)) (p := ⟨w.heap.size + 1, 4, none⟩) (Nat.le_refl _) _
  exact ⟨h.rb.fr f2 (by omega), h.ex.push L aU cU hgr hown hb, h.gl.fr f2 (fun x e => by omega), h.fr.trans (f2.mono (fun x e => Or.inr (by omega))), (f2.block _ (by have := h.sz; omega) (by omega)).trans h.ans⟩

theorem OS.holder {w wr : World} {q : Nat} {s : ByteArray} {E : Ev} {ad : Option Addr} {c : Nat} (h : OS w wr q s E ad c) (hq : 7 ≤ q) (hl : q < w.heap.size) (t : ByteArray) : OS w (wr.setCell ⟨w.heap.size + 1, 2, none⟩ (.string t)) q s ⟨E.op, E.of_, t, E.kind, E.secs, E.text⟩ ad c := by
  have f : Fr (fun x => x = w.heap.size + 1) wr (wr.setCell ⟨w.heap.size + 1, 2, none⟩ (.string t)) := fr2 (Fr.refl _ _)
  exact ⟨h.rb.fr f (by omega), ⟨(box_set h.ex.box _).trans rfl, owns_of_block h.ex.own (fun g hg => f.block g (owns_lt h.ex.own hg).2 (by have := (owns_lt h.ex.own hg).1; omega)), h.ex.ne⟩, h.gl.fr f (fun x e => by omega), h.fr.trans (f.mono (fun x e => Or.inr (by omega))), (f.block _ (by have := h.sz; omega) (by omega)).trans h.ans⟩
theorem OS.kind {w wr : World} {q : Nat} {s : ByteArray} {E : Ev} {ad : Option Addr} {c : Nat} (h : OS w wr q s E ad c) (hq : 7 ≤ q) (hl : q < w.heap.size) (k : Int) : OS w (wr.setCell ⟨w.heap.size + 1, 3, none⟩ (.int .i64 k)) q s ⟨E.op, E.of_, E.holder, k, E.secs, E.text⟩ ad c := by
  have f : Fr (fun x => x = w.heap.size + 1) wr (wr.setCell ⟨w.heap.size + 1, 3, none⟩ (.int .i64 k)) := fr2 (Fr.refl _ _)
  exact ⟨h.rb.fr f (by omega), ⟨(box_set h.ex.box _).trans rfl, owns_of_block h.ex.own (fun g hg => f.block g (owns_lt h.ex.own hg).2 (by have := (owns_lt h.ex.own hg).1; omega)), h.ex.ne⟩, h.gl.fr f (fun x e => by omega), h.fr.trans (f.mono (fun x e => Or.inr (by omega))), (f.block _ (by have := h.sz; omega) (by omega)).trans h.ans⟩
theorem owns_lower {w : World} {lo lo' : Nat} {v : Value} {m : Nat} {xs : List Value} (h : w.ownsRow lo 3 1 v m xs) (hl : lo' ≤ lo) : w.ownsRow lo' 3 1 v m xs := by
  obtain ⟨h1, h2⟩ := h
  refine ⟨h1, ?_⟩
  rcases h2 with h2 | ⟨g, cap, cur, hv, hg, r⟩
  · exact Or.inl h2
  · exact Or.inr ⟨g, cap, cur, hv, Nat.le_trans hl hg, r⟩

theorem mapApp {x : Option (List Int)} {v : Int} {L : List Int} : (x.map (v :: ·)).map (L ++ ·) = x.map ((L ++ [v]) ++ ·) := by cases x <;> simp

/-- What is read behind write. -/
def orderI (l : List UInt8) : Option Ev :=
  if kindOfL (wordI (wordI l).2).1 = 0 then none
  else (secsI (wordI (wordI l).2).2).map fun s => ⟨0, 0, mkB (wordI l).1, kindOfL (wordI (wordI l).2).1, s, ⟨#[]⟩⟩

/-- A number read in a row of them. -/
theorem secs_go {r : List UInt8} {l l' : List UInt8} {L : List Int} {v : Int} (h : secsI r = (secsI l).map (L ++ ·)) (hne : l ≠ []) (hn : numI l = some (v, l')) : secsI r = (secsI l').map ((L ++ [v]) ++ ·) := by
  rw [h, secsI_some hne hn, mapApp]

set_option maxRecDepth 20000 in
set_option maxHeartbeats 8000000 in
theorem order_any (q : Nat) (s : ByteArray) (w : World) (hs : s.size ≤ 1048576) (hg : Gl w) (hq : 7 ≤ q) (h : RB w q s) :
    Calls Tryd.prog 42 #[.pointer (some ⟨q, 0, none⟩)] w fun e w' => RetV e w' w.heap.size (orderI (bl s)) ∧ Fr (fun x => x = q) w w' := by
  have hql := h.lt
  have HG : Hid (Gl w ∧ RB w q s) := ⟨hg, h⟩
  obtain ⟨i0, hi, hz0, hz1, hz2⟩ := info_parts Tryd.infoInt
  have B2 := below2 w (.cells #[.int .i64 0, .int .i64 0, .string ⟨#[]⟩, .int .i64 0, .slice none 0 0, .string ⟨#[]⟩] 24) (.cells #[.int .i64 0, .int .i64 0, .string ⟨#[]⟩, .int .i64 0, .slice none 0 0, .string ⟨#[]⟩] 24)
  have s2 : ((w.alloc (.cells #[.int .i64 0, .int .i64 0, .string ⟨#[]⟩, .int .i64 0, .slice none 0 0, .string ⟨#[]⟩] 24)).alloc (.cells #[.int .i64 0, .int .i64 0, .string ⟨#[]⟩, .int .i64 0, .slice none 0 0, .string ⟨#[]⟩] 24)).heap.size = w.heap.size + 2 := by simp
  have x0 : ((w.alloc (.cells #[.int .i64 0, .int .i64 0, .string ⟨#[]⟩, .int .i64 0, .slice none 0 0, .string ⟨#[]⟩] 24)).alloc (.cells #[.int .i64 0, .int .i64 0, .string ⟨#[]⟩, .int .i64 0, .slice none 0 0, .string ⟨#[]⟩] 24)).heap[w.heap.size]? = some (.cells #[.int .i64 0, .int .i64 0, .string ⟨#[]⟩, .int .i64 0, .slice none 0 0, .string ⟨#[]⟩] 24 (0, 0)) := (Deep.blk_alloc_lt _ _ _ (by simp)).trans (Deep.blk_alloc_new _ _)
  have x1 : ((w.alloc (.cells #[.int .i64 0, .int .i64 0, .string ⟨#[]⟩, .int .i64 0, .slice none 0 0, .string ⟨#[]⟩] 24)).alloc (.cells #[.int .i64 0, .int .i64 0, .string ⟨#[]⟩, .int .i64 0, .slice none 0 0, .string ⟨#[]⟩] 24)).heap[w.heap.size + 1]? = some (.cells #[.int .i64 0, .int .i64 0, .string ⟨#[]⟩, .int .i64 0, .slice none 0 0, .string ⟨#[]⟩] 24 (0, 0)) := by
    have := Deep.blk_alloc_new (w.alloc (.cells #[.int .i64 0, .int .i64 0, .string ⟨#[]⟩, .int .i64 0, .slice none 0 0, .string ⟨#[]⟩] 24)) (.cells #[.int .i64 0, .int .i64 0, .string ⟨#[]⟩, .int .i64 0, .slice none 0 0, .string ⟨#[]⟩] 24)
    simpa using this
  have O0 : OS w ((w.alloc (.cells #[.int .i64 0, .int .i64 0, .string ⟨#[]⟩, .int .i64 0, .slice none 0 0, .string ⟨#[]⟩] 24)).alloc (.cells #[.int .i64 0, .int .i64 0, .string ⟨#[]⟩, .int .i64 0, .slice none 0 0, .string ⟨#[]⟩] 24)) q s ⟨0, 0, ⟨#[]⟩, 0, [], ⟨#[]⟩⟩ none 0 := ⟨h.fr (Fr.of_below (S := fun _ => False) B2) (fun e => e), ⟨x1, World.ownsRow_nil _ _ _ _, fun g e => by cases e⟩, hg.fr (Fr.of_below (S := fun _ => False) B2) (fun _ e => e.elim), Fr.of_below B2, x0⟩
  have HW : Hid (Calls Tryd.prog 34 #[.pointer (some ⟨q, 0, none⟩)] ((w.alloc (.cells #[.int .i64 0, .int .i64 0, .string ⟨#[]⟩, .int .i64 0, .slice none 0 0, .string ⟨#[]⟩] 24)).alloc (.cells #[.int .i64 0, .int .i64 0, .string ⟨#[]⟩, .int .i64 0, .slice none 0 0, .string ⟨#[]⟩] 24)) fun e w' => e = .returned (.string (mkB (wordI (bl s)).1)) ∧ RB w' q (mkB (wordI (bl s)).2) ∧ Fr (fun x => x = q) ((w.alloc (.cells #[.int .i64 0, .int .i64 0, .string ⟨#[]⟩, .int .i64 0, .slice none 0 0, .string ⟨#[]⟩] 24)).alloc (.cells #[.int .i64 0, .int .i64 0, .string ⟨#[]⟩, .int .i64 0, .slice none 0 0, .string ⟨#[]⟩] 24)) w') := rword_any q s _ (by omega) O0.gl O0.rb
  have m1 : (wordI (bl s)).2.length ≤ s.size := by have := cut_snd_len (bl s) [32]; rw [bl_size] at this; exact this
  have HO : Hid (OS w ((w.alloc (.cells #[.int .i64 0, .int .i64 0, .string ⟨#[]⟩, .int .i64 0, .slice none 0 0, .string ⟨#[]⟩] 24)).alloc (.cells #[.int .i64 0, .int .i64 0, .string ⟨#[]⟩, .int .i64 0, .slice none 0 0, .string ⟨#[]⟩] 24)) q s ⟨0, 0, ⟨#[]⟩, 0, [], ⟨#[]⟩⟩ none 0) := O0
  have eo : orderI (bl s) = if kindOfL (wordI (wordI (bl s)).2).1 = 0 then none else (secsI (wordI (wordI (bl s)).2).2).map fun s' => ⟨0, 0, mkB (wordI (bl s)).1, kindOfL (wordI (wordI (bl s)).2).1, s', ⟨#[]⟩⟩ := rfl
  obtain ⟨l1, hl1⟩ : ∃ l, (wordI (bl s)).1 = l := ⟨_, rfl⟩
  obtain ⟨r1, hr1⟩ : ∃ l, (wordI (bl s)).2 = l := ⟨_, rfl⟩
  rw [hl1, hr1] at HW eo
  rw [hr1] at m1
  have m2 : (wordI r1).2.length ≤ s.size := by have := cut_snd_len r1 [32]; exact Nat.le_trans this m1
  have HE : Hid (orderI (bl s) = if kindOfL (wordI r1).1 = 0 then none else (secsI (wordI r1).2).map fun s' => ⟨0, 0, mkB l1, kindOfL (wordI r1).1, s', ⟨#[]⟩⟩) := eo
  have hr1s : (mkB r1).size < 4294967281 := by rw [mkB_size]; omega
  clear B2 s2 x0 x1 O0 h hg eo hl1 hr1
  obtain ⟨⟨c0, c1, c2, c3, c4, c5⟩, f0, f1, f2, f3, f4, f5⟩ := HO.out.ex.facts
  go_enter Tryd.func42, Tryd.ntmps42
  go_wp2_with fail
  refine HW.out.mono ?_
  rintro e w1 ⟨rfl, hb1, hf1⟩
  have O1 : Hid (OS w w1 q (mkB r1) ⟨0, 0, ⟨#[]⟩, 0, [], ⟨#[]⟩⟩ none 0) := HO.out.call hq hql hf1 hb1
  clear hb1 hf1 HW HO c0 c1 c2 c3 c4 c5 f0 f1 f2 f3 f4 f5
  obtain ⟨⟨c0, c1, c2, c3, c4, c5⟩, f0, f1, f2, f3, f4, f5⟩ := O1.out.ex.facts
  have z1 := O1.out.sz
  -- the holder is stored
  have O2 : Hid (OS w (w1.setCell ⟨w.heap.size + 1, 2, none⟩ (.string (mkB l1))) q (mkB r1) ⟨0, 0, mkB l1, 0, [], ⟨#[]⟩⟩ none 0) := O1.out.holder hq hql (mkB l1)
  obtain ⟨Y, hY⟩ : ∃ Y, Y = w1.setCell ⟨w.heap.size + 1, 2, none⟩ (.string (mkB l1)) := ⟨_, rfl⟩
  have HK : Hid (Calls Tryd.prog 49 #[.pointer (some ⟨q, 0, none⟩)] Y fun e w' => ((kindOfL (wordI r1).1 = 0 ∧ e = NoLine) ∨ (¬ kindOfL (wordI r1).1 = 0 ∧ e = .returned (.int .i64 (kindOfL (wordI r1).1)))) ∧ RB w' q (mkB (wordI r1).2) ∧ Fr (fun x => x = q) Y w') := by
    have := rkind_any q (mkB r1) Y hr1s (hY ▸ O2.out.gl) (hY ▸ O2.out.rb)
    rw [bl_mkB] at this
    exact this
  go_wp2_with fail
  rw [← hY] at O2 ⊢
  clear hY c0 c1 c2 c3 c4 c5 f0 f1 f2 f3 f4 f5 z1 O1
  obtain ⟨k, hk⟩ : ∃ k, kindOfL (wordI r1).1 = k := ⟨_, rfl⟩
  obtain ⟨r2, hr2⟩ : ∃ l, (wordI r1).2 = l := ⟨_, rfl⟩
  rw [hk, hr2] at HK HE
  rw [hr2] at m2
  clear hk hr2
  refine HK.out.mono ?_
  rintro e w2 ⟨⟨hk0, rfl⟩ | ⟨hk0, rfl⟩, hb2, hf2⟩
  · have HE2 : Hid (orderI (bl s) = none) := HE.out.trans (if_pos hk0)
    have O3 : Hid (OS w w2 q (mkB r2) ⟨0, 0, mkB l1, 0, [], ⟨#[]⟩⟩ none 0) := O2.out.call hq hql hf2 hb2
    clear hb2 hf2 hk0 HE
    go_wp2
    exact ⟨rfl, Or.inr ⟨HE2.out, rfl⟩, fr_cut2 O3.out.fr⟩
  have HE2 : Hid (orderI (bl s) = (secsI r2).map fun s' => ⟨0, 0, mkB l1, k, s', ⟨#[]⟩⟩) := HE.out.trans (if_neg hk0)
  have O3 : Hid (OS w w2 q (mkB r2) ⟨0, 0, mkB l1, 0, [], ⟨#[]⟩⟩ none 0) := O2.out.call hq hql hf2 hb2
  clear hb2 hf2 hk0 HE O2 HK
  obtain ⟨⟨c0, c1, c2, c3, c4, c5⟩, f0, f1, f2, f3, f4, f5⟩ := O3.out.ex.facts
  have z1 := O3.out.sz
  have O4 : Hid (OS w (w2.setCell ⟨w.heap.size + 1, 3, none⟩ (.int .i64 k)) q (mkB r2) ⟨0, 0, mkB l1, k, [], ⟨#[]⟩⟩ none 0) := O3.out.kind hq hql k
  obtain ⟨Y3, hY3⟩ : ∃ Y, Y = w2.setCell ⟨w.heap.size + 1, 3, none⟩ (.int .i64 k) := ⟨_, rfl⟩
  go_wp2
  rw [← hY3] at O4 ⊢
  clear hY3 c0 c1 c2 c3 c4 c5 f0 f1 f2 f3 f4 f5 z1 O3
  go_loopw [] (fun wr => ∃ (s' : ByteArray) (L : List Int) (ad : Option Addr) (c : Nat), L.length + s'.size ≤ s.size ∧ secsI r2 = (secsI (bl s')).map (L ++ ·) ∧ OS w wr q s' ⟨0, 0, mkB l1, k, L, ⟨#[]⟩⟩ ad c) (fun wr => rbLen wr q)
  case atStart => exact ⟨mkB r2, [], none, 0, by rw [mkB_size]; simpa using m2, by rw [bl_mkB]; simp, O4.out⟩
  case round =>
    obtain ⟨s', L, ad, c, hl, hsec, hos⟩ := hrel
    have OK : Hid (OS w wr q s' ⟨0, 0, mkB l1, k, L, ⟨#[]⟩⟩ ad c) := hos
    have HS : Hid (secsI r2 = (secsI (bl s')).map (L ++ ·)) := hsec
    clear hos hsec O4
    obtain ⟨q0, qf⟩ := rb_cell OK.out.rb
    obtain ⟨⟨c0, c1, c2, c3, c4, c5⟩, f0, f1, f2, f3, f4, f5⟩ := OK.out.ex.facts
    have z1 := OK.out.sz
    by_cases he : s'.size = 0
    · have te : s'.toList.isEmpty = true := by rw [ByteArray.toList_eq, nil_of he]; rfl
      have HL : Hid (orderI (bl s) = some ⟨0, 0, mkB l1, k, L, ⟨#[]⟩⟩) := by
        show _ = _
        rw [HE2.out, HS.out, nil_of he, show bl ⟨#[]⟩ = [] from rfl, secsI_nil]
        simp
      obtain ⟨a0, a1, a2, a3, a4, a5⟩ := ev_cells OK.out.ans
      have b0 : wr.frozen? ⟨w.heap.size, 0, none⟩ = false := frozen_of_box OK.out.ans
      have b1 : wr.frozen? ⟨w.heap.size, 1, none⟩ = false := frozen_of_box OK.out.ans
      have b2 : wr.frozen? ⟨w.heap.size, 2, none⟩ = false := frozen_of_box OK.out.ans
      have b3 : wr.frozen? ⟨w.heap.size, 3, none⟩ = false := frozen_of_box OK.out.ans
      have b4 : wr.frozen? ⟨w.heap.size, 4, none⟩ = false := frozen_of_box OK.out.ans
      have b5 : wr.frozen? ⟨w.heap.size, 5, none⟩ = false := frozen_of_box OK.out.ans
      go_wp2
      refine bodyPost_ret (v := .agg #[.int .i64 0, .int .i64 0, .string (mkB l1), .int .i64 k, .slice ad L.length c, .string ⟨#[]⟩]) (by simp [results, Tryd.results42, go_sem, a0, a1, a2, a3, a4, a5]) rfl ?_
      have P : Fr (fun x => x = w.heap.size) wr _ := fr2 (i := 5) (u := .string ⟨#[]⟩) (fr2 (i := 4) (u := .slice ad L.length c) (fr2 (i := 3) (u := .int .i64 k) (fr2 (i := 2) (u := .string (mkB l1)) (fr2 (i := 1) (u := .int .i64 0) (fr2 (i := 0) (u := .int .i64 0) (Fr.refl _ _))))))
      refine ⟨Or.inl ⟨_, _, HL.out, rfl, _, rfl, owns_lower (owns_of_block OK.out.ex.own (fun g hg => P.block g (owns_lt OK.out.ex.own hg).2 (by have := (owns_lt OK.out.ex.own hg).1; omega))) (by omega)⟩, ?_⟩
      exact fr_cut2 (OK.out.fr.trans (P.mono (fun x e => Or.inr (by omega))))
    · have te : s'.toList.isEmpty = false := by
        rw [ByteArray.toList_eq]
        cases hx : s'.data.toList with
        | nil => exact absurd (by rw [← bl_size]; show s'.data.toList.length = 0; rw [hx]; rfl) he
        | cons a b => rfl
      have hne : bl s' ≠ [] := fun e => he (by rw [← bl_size, e]; rfl)
      cases hn : numI (bl s') with
      | none =>
        have HL : Hid (orderI (bl s) = none) := by
          show _ = _
          rw [HE2.out, HS.out, secsI_none hne hn]
          rfl
        have HN : ∀ W, OS w W q s' ⟨0, 0, mkB l1, k, L, ⟨#[]⟩⟩ ad c → Calls Tryd.prog 50 #[.pointer (some ⟨q, 0, none⟩)] W fun e w' => e = NoLine ∧ Fr (fun x => x = q) W w' := fun W hW => (number_any q s' W (by omega) hW.gl hq hW.rb).mono (fun e w' hr => by
          rcases hr with ⟨⟨v, r, h1, -⟩ | ⟨-, h2⟩, h3⟩
          · rw [hn] at h1; cases h1
          · exact ⟨h2, h3⟩)
        have HNH : Hid (∀ W, OS w W q s' ⟨0, 0, mkB l1, k, L, ⟨#[]⟩⟩ ad c → Calls Tryd.prog 50 #[.pointer (some ⟨q, 0, none⟩)] W fun e w' => e = NoLine ∧ Fr (fun x => x = q) W w') := HN
        clear HN hn hne
        go_wp2
        refine wp_region_held_drew (S := fun _ => True) (by kernel_rfl) trivial (fun hS0 => ?_)
        refine wpAnyH_take (i := 0) (v := ?_) rfl (by kernel_rfl) (by kernel_rfl) (by kernel_rfl) (fun _ _ _ h => h) (Or.inl ⟨by kernel_rfl, ?_⟩) (by assumption) ?_
        rotate_left 1
        · (intro w hSw; (try dsimp only at hSw); go_simp; try (with_reducible rfl))
        refine wpAnyH_take (i := 2) (v := ?_) rfl (by kernel_rfl) (by kernel_rfl) (by kernel_rfl) (fun _ _ _ h => h) (Or.inl ⟨by kernel_rfl, ?_⟩) (by assumption) ?_
        rotate_left 1
        · (intro w hSw; (try dsimp only at hSw); go_simp; try (with_reducible rfl))
        have OD : Hid (OS w wr.drew q s' ⟨0, 0, mkB l1, k, L, ⟨#[]⟩⟩ ad c) := OK.out.below (Below.refl _ _).drew
        clear c0 c1 c2 c3 c4 c5 f0 f1 f2 f3 f4 f5 z1 q0 qf
        obtain ⟨⟨c0, c1, c2, c3, c4, c5⟩, f0, f1, f2, f3, f4, f5⟩ := OD.out.ex.facts
        have z1 := OD.out.sz
        refine wpAnyH_ready (rs := [1, 3]) (by kernel_rfl) (by simp) ?_
        refine AllReadyH.cons rfl (fun Kx hK => ?_) (AllReadyH.cons rfl (fun Kx hK => ?_) (AllReadyH.nil))
        · skip
          go_simp
          refine hK.out _ _ trivial (fun hS1 => ?_)
          clear hK Kx hS1
          refine wpAnyH_ready (rs := [3]) (by kernel_rfl) (by simp) ?_
          refine AllReadyH.cons rfl (fun Kx hK => ?_) (AllReadyH.nil)
          go_simp
          refine (HNH.out _ OD.out).mono ?_
          rintro e w5 ⟨rfl, hf5⟩
          have HF : Hid (Fr (fun x => x = q) w w5) := fr_cut2 (OD.out.fr.trans (hf5.mono (fun _ e => Or.inl e)))
          clear hf5
          go_simp
          exact ⟨rfl, Or.inr ⟨HL.out, rfl⟩, HF.out⟩
        · skip
          go_simp
          refine (HNH.out _ OD.out).mono ?_
          rintro e w5 ⟨rfl, hf5⟩
          have HF : Hid (Fr (fun x => x = q) w w5) := fr_cut2 (OD.out.fr.trans (hf5.mono (fun _ e => Or.inl e)))
          clear hf5
          go_simp
          exact ⟨rfl, Or.inr ⟨HL.out, rfl⟩, HF.out⟩
      | some x =>
        obtain ⟨v, r⟩ := x
        have hlen : r.length < s'.size := by have := numI_len hne hn; rw [bl_size] at this; exact this
        have HL : Hid (secsI r2 = (secsI (bl (mkB r))).map ((L ++ [v]) ++ ·)) := by
          show _ = _
          rw [bl_mkB]
          exact secs_go HS.out hne hn
        have HNH : Hid (∀ W, OS w W q s' ⟨0, 0, mkB l1, k, L, ⟨#[]⟩⟩ ad c → Calls Tryd.prog 50 #[.pointer (some ⟨q, 0, none⟩)] W fun e w' => e = .returned (.int .i64 v) ∧ OS w w' q (mkB r) ⟨0, 0, mkB l1, k, L, ⟨#[]⟩⟩ ad c) := fun W hW => (number_any q s' W (by omega) hW.gl hq hW.rb).mono (fun e w' hr => by
          rcases hr with ⟨⟨v', r', h1, h2, h3, -⟩ | ⟨h1, -⟩, h4⟩
          · rw [hn] at h1
            simp only [Option.some.injEq, Prod.mk.injEq] at h1
            obtain ⟨rfl, rfl⟩ := h1
            exact ⟨h2, hW.call hq hql h4 h3⟩
          · rw [hn] at h1; cases h1)
        clear hn hne HS
        go_wp2
        refine wp_region_held_drew (S := fun _ => True) (by kernel_rfl) trivial (fun hS0 => ?_)
        refine wpAnyH_take (i := 0) (v := ?_) rfl (by kernel_rfl) (by kernel_rfl) (by kernel_rfl) (fun _ _ _ h => h) (Or.inl ⟨by kernel_rfl, ?_⟩) (by assumption) ?_
        rotate_left 1
        · (intro w hSw; (try dsimp only at hSw); go_simp; try (with_reducible rfl))
        refine wpAnyH_take (i := 2) (v := ?_) rfl (by kernel_rfl) (by kernel_rfl) (by kernel_rfl) (fun _ _ _ h => h) (Or.inl ⟨by kernel_rfl, ?_⟩) (by assumption) ?_
        rotate_left 1
        · (intro w hSw; (try dsimp only at hSw); go_simp; try (with_reducible rfl))
        have OD : Hid (OS w wr.drew q s' ⟨0, 0, mkB l1, k, L, ⟨#[]⟩⟩ ad c) := OK.out.below (Below.refl _ _).drew
        clear c0 c1 c2 c3 c4 c5 f0 f1 f2 f3 f4 f5 z1 q0 qf
        obtain ⟨⟨c0, c1, c2, c3, c4, c5⟩, f0, f1, f2, f3, f4, f5⟩ := OD.out.ex.facts
        have z1 := OD.out.sz
        refine wpAnyH_ready (rs := [1, 3]) (by kernel_rfl) (by simp) ?_
        refine AllReadyH.cons rfl (fun Kx hK => ?_) (AllReadyH.cons rfl (fun Kx hK => ?_) (AllReadyH.nil))
        · skip
          go_simp
          refine hK.out _ _ trivial (fun hS1 => ?_)
          clear hK Kx hS1
          refine wpAnyH_ready (rs := [3]) (by kernel_rfl) (by simp) ?_
          refine AllReadyH.cons rfl (fun Kx hK => ?_) (AllReadyH.nil)
          go_simp
          refine (HNH.out _ OD.out).mono ?_
          rintro e w5 ⟨rfl, ho5⟩
          have O5 : Hid (OS w w5 q (mkB r) ⟨0, 0, mkB l1, k, L, ⟨#[]⟩⟩ ad c) := ho5
          clear ho5 OD
          clear c0 c1 c2 c3 c4 c5 f0 f1 f2 f3 f4 f5 z1
          refine hK.out _ _ trivial (fun hS1 => ?_)
          clear hK Kx hS1
          refine wpAnyH_ready (rs := [4]) (by kernel_rfl) (by simp) ?_
          refine AllReadyH.cons rfl (fun Kx hK => ?_) (AllReadyH.nil)
          go_simp
          have OA : Hid (OS w (w5.alloc (.cells #[.int .i64 v] 3)) q (mkB r) ⟨0, 0, mkB l1, k, L, ⟨#[]⟩⟩ ad c) := O5.out.below (below1 _ _)
          have xa : (w5.alloc (.cells #[.int .i64 v] 3)).heap[w5.heap.size]? = some (.cells #[.int .i64 v] 3 (0, 0)) := Deep.blk_alloc_new _ _
          obtain ⟨WA, hWA⟩ : ∃ x, x = (w5.alloc (.cells #[.int .i64 v] 3)) := ⟨_, rfl⟩
          rw [← hWA] at OA xa ⊢
          clear hWA O5
          refine hK.out _ _ trivial (fun hS1 => ?_)
          clear hK Kx hS1
          have n4 : ∀ j u', [Value.int .i64 v][j]? = some u' → WA.cell? ((⟨w5.heap.size, 0, none⟩ : Addr).add j) = some u' := by
            intro j u' hu
            rw [add0]
            refine cell_of_box xa ?_
            rw [← Array.getElem?_toList]
            exact hu
          have zA := OA.out.sz
          refine wpAnyH_ready (rs := [5]) (by kernel_rfl) (by simp) ?_
          refine AllReadyH.cons rfl (fun Kx hK => ?_) (AllReadyH.nil)
          refine wp_append_row _ _ 22 rfl (w.heap.size + 2) 3 i0 _ 1 8 Tryd.underlying22 hi hz0 hz1 hz2 rfl (by decide) (.slice ad L.length c) L.length (L.map (Value.int .i64)) rfl OA.out.ex.own ⟨w5.heap.size, 0, none⟩ 1 1 [.int .i64 v] rfl rfl n4 ?_ (by unfold maxLen; omega) (by omega) (by omega) ?_
          · intro x hx
            simp only [List.mem_singleton] at hx
            subst hx
            rfl
          intro vU wU hownU hgU _ hbU
          have hownL : wU.ownsRow (w.heap.size + 2) 3 1 vU (L ++ [v]).length ((L ++ [v]).map (Value.int .i64)) := by simpa using hownU
          obtain ⟨gU, aU, cU, rfl, -⟩ := ownL_of hownL
          have OU : Hid (OS w (wU.setCell ⟨w.heap.size + 1, 4, none⟩ (.slice aU (L ++ [v]).length cU)) q (mkB r) ⟨0, 0, mkB l1, k, L ++ [v], ⟨#[]⟩⟩ aU cU) := OA.out.push hql (by omega) (L ++ [v]) aU cU hgU hownL hbU
          have xU : wU.heap[w.heap.size + 1]? = some _ := (hgU.block _ (by omega) (fun e => OA.out.ex.ne _ e.symm rfl)).trans OA.out.ex.box
          obtain ⟨-, -, -, -, o4, -⟩ := ev_cells xU
          have u4 : wU.frozen? ⟨w.heap.size + 1, 4, none⟩ = false := frozen_of_box xU
          have zU : w.heap.size + 1 < wU.heap.size := (Array.getElem?_eq_some_iff.1 xU).1
          clear hownU hgU hbU hownL xU n4 OA xa zA
          refine hK.out _ _ trivial (fun hS1 => ?_)
          clear hK Kx hS1
          refine wpAnyH_take (i := 6) (v := ?_) rfl (by kernel_rfl) (by kernel_rfl) (by kernel_rfl) (fun _ _ _ h => h) (Or.inl ⟨by kernel_rfl, ?_⟩) (by assumption) ?_
          rotate_left 1
          · (intro w hSw; (try dsimp only at hSw); go_simp; try (with_reducible rfl))
          refine wpAnyH_ready (rs := [7]) (by kernel_rfl) (by simp) ?_
          refine AllReadyH.cons rfl (fun Kx hK => ?_) (AllReadyH.nil)
          go_simp
          refine hK.out _ _ trivial (fun hS1 => ?_)
          clear hK Kx hS1
          refine wpAnyH_done (by kernel_rfl) ?_ _
          go_simp
          obtain ⟨Y, hY⟩ : ∃ Y, Y = (wU.setCell ⟨w.heap.size + 1, 4, none⟩ (.slice aU (L ++ [v]).length cU)) := ⟨_, rfl⟩
          have hle : (L ++ [v]).length = L.length + 1 := by simp
          have OY : Hid (OS w Y q (mkB r) ⟨0, 0, mkB l1, k, L ++ [v], ⟨#[]⟩⟩ aU cU) := hY ▸ OU.out
          have hY' : Y = (wU.setCell ⟨w.heap.size + 1, 4, none⟩ (.slice aU (L.length + 1) cU)) := by rw [hY, hle]
          clear OU hY
          try rw [← hY']
          clear hY' o4 u4 zU
          go_wp2
          go_roundw
          case rel => exact ⟨mkB r, L ++ [v], aU, cU, by rw [mkB_size, hle]; omega, HL.out, OY.out⟩
          case measure =>
            rw [rbLen_of OY.out.rb, rbLen_of OK.out.rb, mkB_size]
            exact hlen
        · skip
          go_simp
          refine (HNH.out _ OD.out).mono ?_
          rintro e w5 ⟨rfl, ho5⟩
          have O5 : Hid (OS w w5 q (mkB r) ⟨0, 0, mkB l1, k, L, ⟨#[]⟩⟩ ad c) := ho5
          clear ho5 OD
          clear c0 c1 c2 c3 c4 c5 f0 f1 f2 f3 f4 f5 z1
          refine hK.out _ _ trivial (fun hS1 => ?_)
          clear hK Kx hS1
          obtain ⟨⟨c0, c1, c2, c3, c4, c5⟩, f0, f1, f2, f3, f4, f5⟩ := O5.out.ex.facts
          have z1 := O5.out.sz
          refine wpAnyH_ready (rs := [1, 4]) (by kernel_rfl) (by simp) ?_
          refine AllReadyH.cons rfl (fun Kx hK => ?_) (AllReadyH.cons rfl (fun Kx hK => ?_) (AllReadyH.nil))
          · skip
            go_simp
            refine hK.out _ _ trivial (fun hS1 => ?_)
            clear hK Kx hS1
            refine wpAnyH_ready (rs := [4]) (by kernel_rfl) (by simp) ?_
            refine AllReadyH.cons rfl (fun Kx hK => ?_) (AllReadyH.nil)
            go_simp
            have OA : Hid (OS w (w5.alloc (.cells #[.int .i64 v] 3)) q (mkB r) ⟨0, 0, mkB l1, k, L, ⟨#[]⟩⟩ ad c) := O5.out.below (below1 _ _)
            have xa : (w5.alloc (.cells #[.int .i64 v] 3)).heap[w5.heap.size]? = some (.cells #[.int .i64 v] 3 (0, 0)) := Deep.blk_alloc_new _ _
            obtain ⟨WA, hWA⟩ : ∃ x, x = (w5.alloc (.cells #[.int .i64 v] 3)) := ⟨_, rfl⟩
            rw [← hWA] at OA xa ⊢
            clear hWA O5
            clear c0 c1 c2 c3 c4 c5 f0 f1 f2 f3 f4 f5 z1
            refine hK.out _ _ trivial (fun hS1 => ?_)
            clear hK Kx hS1
            have n4 : ∀ j u', [Value.int .i64 v][j]? = some u' → WA.cell? ((⟨w5.heap.size, 0, none⟩ : Addr).add j) = some u' := by
              intro j u' hu
              rw [add0]
              refine cell_of_box xa ?_
              rw [← Array.getElem?_toList]
              exact hu
            have zA := OA.out.sz
            refine wpAnyH_ready (rs := [5]) (by kernel_rfl) (by simp) ?_
            refine AllReadyH.cons rfl (fun Kx hK => ?_) (AllReadyH.nil)
            refine wp_append_row _ _ 22 rfl (w.heap.size + 2) 3 i0 _ 1 8 Tryd.underlying22 hi hz0 hz1 hz2 rfl (by decide) (.slice ad L.length c) L.length (L.map (Value.int .i64)) rfl OA.out.ex.own ⟨w5.heap.size, 0, none⟩ 1 1 [.int .i64 v] rfl rfl n4 ?_ (by unfold maxLen; omega) (by omega) (by omega) ?_
            · intro x hx
              simp only [List.mem_singleton] at hx
              subst hx
              rfl
            intro vU wU hownU hgU _ hbU
            have hownL : wU.ownsRow (w.heap.size + 2) 3 1 vU (L ++ [v]).length ((L ++ [v]).map (Value.int .i64)) := by simpa using hownU
            obtain ⟨gU, aU, cU, rfl, -⟩ := ownL_of hownL
            have OU : Hid (OS w (wU.setCell ⟨w.heap.size + 1, 4, none⟩ (.slice aU (L ++ [v]).length cU)) q (mkB r) ⟨0, 0, mkB l1, k, L ++ [v], ⟨#[]⟩⟩ aU cU) := OA.out.push hql (by omega) (L ++ [v]) aU cU hgU hownL hbU
            have xU : wU.heap[w.heap.size + 1]? = some _ := (hgU.block _ (by omega) (fun e => OA.out.ex.ne _ e.symm rfl)).trans OA.out.ex.box
            obtain ⟨-, -, -, -, o4, -⟩ := ev_cells xU
            have u4 : wU.frozen? ⟨w.heap.size + 1, 4, none⟩ = false := frozen_of_box xU
            have zU : w.heap.size + 1 < wU.heap.size := (Array.getElem?_eq_some_iff.1 xU).1
            clear hownU hgU hbU hownL xU n4 OA xa zA
            refine hK.out _ _ trivial (fun hS1 => ?_)
            clear hK Kx hS1
            refine wpAnyH_take (i := 6) (v := ?_) rfl (by kernel_rfl) (by kernel_rfl) (by kernel_rfl) (fun _ _ _ h => h) (Or.inl ⟨by kernel_rfl, ?_⟩) (by assumption) ?_
            rotate_left 1
            · (intro w hSw; (try dsimp only at hSw); go_simp; try (with_reducible rfl))
            refine wpAnyH_ready (rs := [7]) (by kernel_rfl) (by simp) ?_
            refine AllReadyH.cons rfl (fun Kx hK => ?_) (AllReadyH.nil)
            go_simp
            refine hK.out _ _ trivial (fun hS1 => ?_)
            clear hK Kx hS1
            refine wpAnyH_done (by kernel_rfl) ?_ _
            go_simp
            obtain ⟨Y, hY⟩ : ∃ Y, Y = (wU.setCell ⟨w.heap.size + 1, 4, none⟩ (.slice aU (L ++ [v]).length cU)) := ⟨_, rfl⟩
            have hle : (L ++ [v]).length = L.length + 1 := by simp
            have OY : Hid (OS w Y q (mkB r) ⟨0, 0, mkB l1, k, L ++ [v], ⟨#[]⟩⟩ aU cU) := hY ▸ OU.out
            have hY' : Y = (wU.setCell ⟨w.heap.size + 1, 4, none⟩ (.slice aU (L.length + 1) cU)) := by rw [hY, hle]
            clear OU hY
            try rw [← hY']
            clear hY' o4 u4 zU
            go_wp2
            go_roundw
            case rel => exact ⟨mkB r, L ++ [v], aU, cU, by rw [mkB_size, hle]; omega, HL.out, OY.out⟩
            case measure =>
              rw [rbLen_of OY.out.rb, rbLen_of OK.out.rb, mkB_size]
              exact hlen
          · skip
            go_simp
            have OA : Hid (OS w (w5.alloc (.cells #[.int .i64 v] 3)) q (mkB r) ⟨0, 0, mkB l1, k, L, ⟨#[]⟩⟩ ad c) := O5.out.below (below1 _ _)
            have xa : (w5.alloc (.cells #[.int .i64 v] 3)).heap[w5.heap.size]? = some (.cells #[.int .i64 v] 3 (0, 0)) := Deep.blk_alloc_new _ _
            obtain ⟨WA, hWA⟩ : ∃ x, x = (w5.alloc (.cells #[.int .i64 v] 3)) := ⟨_, rfl⟩
            rw [← hWA] at OA xa ⊢
            clear hWA O5
            clear c0 c1 c2 c3 c4 c5 f0 f1 f2 f3 f4 f5 z1
            refine hK.out _ _ trivial (fun hS1 => ?_)
            clear hK Kx hS1
            obtain ⟨⟨c0, c1, c2, c3, c4, c5⟩, f0, f1, f2, f3, f4, f5⟩ := OA.out.ex.facts
            have z1 := OA.out.sz
            refine wpAnyH_ready (rs := [1]) (by kernel_rfl) (by simp) ?_
            refine AllReadyH.cons rfl (fun Kx hK => ?_) (AllReadyH.nil)
            go_simp
            clear c0 c1 c2 c3 c4 c5 f0 f1 f2 f3 f4 f5 z1
            refine hK.out _ _ trivial (fun hS1 => ?_)
            clear hK Kx hS1
            have n4 : ∀ j u', [Value.int .i64 v][j]? = some u' → WA.cell? ((⟨w5.heap.size, 0, none⟩ : Addr).add j) = some u' := by
              intro j u' hu
              rw [add0]
              refine cell_of_box xa ?_
              rw [← Array.getElem?_toList]
              exact hu
            have zA := OA.out.sz
            refine wpAnyH_ready (rs := [5]) (by kernel_rfl) (by simp) ?_
            refine AllReadyH.cons rfl (fun Kx hK => ?_) (AllReadyH.nil)
            refine wp_append_row _ _ 22 rfl (w.heap.size + 2) 3 i0 _ 1 8 Tryd.underlying22 hi hz0 hz1 hz2 rfl (by decide) (.slice ad L.length c) L.length (L.map (Value.int .i64)) rfl OA.out.ex.own ⟨w5.heap.size, 0, none⟩ 1 1 [.int .i64 v] rfl rfl n4 ?_ (by unfold maxLen; omega) (by omega) (by omega) ?_
            · intro x hx
              simp only [List.mem_singleton] at hx
              subst hx
              rfl
            intro vU wU hownU hgU _ hbU
            have hownL : wU.ownsRow (w.heap.size + 2) 3 1 vU (L ++ [v]).length ((L ++ [v]).map (Value.int .i64)) := by simpa using hownU
            obtain ⟨gU, aU, cU, rfl, -⟩ := ownL_of hownL
            have OU : Hid (OS w (wU.setCell ⟨w.heap.size + 1, 4, none⟩ (.slice aU (L ++ [v]).length cU)) q (mkB r) ⟨0, 0, mkB l1, k, L ++ [v], ⟨#[]⟩⟩ aU cU) := OA.out.push hql (by omega) (L ++ [v]) aU cU hgU hownL hbU
            have xU : wU.heap[w.heap.size + 1]? = some _ := (hgU.block _ (by omega) (fun e => OA.out.ex.ne _ e.symm rfl)).trans OA.out.ex.box
            obtain ⟨-, -, -, -, o4, -⟩ := ev_cells xU
            have u4 : wU.frozen? ⟨w.heap.size + 1, 4, none⟩ = false := frozen_of_box xU
            have zU : w.heap.size + 1 < wU.heap.size := (Array.getElem?_eq_some_iff.1 xU).1
            clear hownU hgU hbU hownL xU n4 OA xa zA
            refine hK.out _ _ trivial (fun hS1 => ?_)
            clear hK Kx hS1
            refine wpAnyH_take (i := 6) (v := ?_) rfl (by kernel_rfl) (by kernel_rfl) (by kernel_rfl) (fun _ _ _ h => h) (Or.inl ⟨by kernel_rfl, ?_⟩) (by assumption) ?_
            rotate_left 1
            · (intro w hSw; (try dsimp only at hSw); go_simp; try (with_reducible rfl))
            refine wpAnyH_ready (rs := [7]) (by kernel_rfl) (by simp) ?_
            refine AllReadyH.cons rfl (fun Kx hK => ?_) (AllReadyH.nil)
            go_simp
            refine hK.out _ _ trivial (fun hS1 => ?_)
            clear hK Kx hS1
            refine wpAnyH_done (by kernel_rfl) ?_ _
            go_simp
            obtain ⟨Y, hY⟩ : ∃ Y, Y = (wU.setCell ⟨w.heap.size + 1, 4, none⟩ (.slice aU (L ++ [v]).length cU)) := ⟨_, rfl⟩
            have hle : (L ++ [v]).length = L.length + 1 := by simp
            have OY : Hid (OS w Y q (mkB r) ⟨0, 0, mkB l1, k, L ++ [v], ⟨#[]⟩⟩ aU cU) := hY ▸ OU.out
            have hY' : Y = (wU.setCell ⟨w.heap.size + 1, 4, none⟩ (.slice aU (L.length + 1) cU)) := by rw [hY, hle]
            clear OU hY
            try rw [← hY']
            clear hY' o4 u4 zU
            go_wp2
            go_roundw
            case rel => exact ⟨mkB r, L ++ [v], aU, cU, by rw [mkB_size, hle]; omega, HL.out, OY.out⟩
            case measure =>
              rw [rbLen_of OY.out.rb, rbLen_of OK.out.rb, mkB_size]
              exact hlen

end Go.Proofs.YtbcfmehcghkpiaaDoor
