import Derived.Test.YtdlaekjofgbjcaaGreatDoorBaseZ
import Derived.Test.YtdlaekjofgbjcaaGreatDoorHearKZ
import Derived.Test.YtdlaekjofgbjcaaGreatDoorOpenL
import Derived.Test.YtdlaekjofgbjcaaGreatDoorICopy
import Derived.Deep.RegionHeld3
import Derived.Test.YtdlaekjofgbjcaaGreatDoorHearR
import Derived.Defers
import Derived.Recover
import Derived.Laws.EntriesVeiled
/-
 The contract of impl's reader: order. Mine, by program (wip/hearo.py), by template (wip/gen.py).
-/
namespace Go.Proofs.YtdlaekjofgbjcaaGreatDoor
open Go.RowKit
structure EX (w : World) (lo R : Nat) (E : Ev) (ad : Option Addr) (c : Nat) : Prop where
 box : w.heap[R]? = some (.cells #[.int .i64 E.op, .int .i64 E.of_, .string E.holder, .int .i64 E.kind, .slice ad E.secs.length c, .string E.text] 32 (0, 0))
 own : w.ownsRow lo 3 1 (.slice ad E.secs.length c) E.secs.length (E.secs.map (Value.int .i64))
 ne : ∀ g, (Value.slice ad E.secs.length c).ownBlock = some g → g ≠ R
theorem EX.lt {w : World} {lo R : Nat} {E : Ev} {ad : Option Addr} {c : Nat} (h : EX w lo R E ad c) : R < w.heap.size := (Array.getElem?_eq_some_iff.1 h.box).1
theorem EX.fr {S : Nat → Prop} {w w' : World} {lo R : Nat} {E : Ev} {ad : Option Addr} {c : Nat} (h : EX w lo R E ad c) (hf : Fr S w w') (hR : ¬ S R) (hg : ∀ g, lo ≤ g → ¬ S g) : EX w' lo R E ad c :=
 ⟨(hf.block R h.lt hR).trans h.box, owns_of_block h.own (fun g e => hf.block g (owns_lt h.own e).2 (hg g (owns_lt h.own e).1)), h.ne⟩
theorem EX.below {w w' : World} {lo R : Nat} {E : Ev} {ad : Option Addr} {c : Nat} (h : EX w lo R E ad c) (hb : Below w.heap.size w w') : EX w' lo R E ad c := h.fr (Fr.of_below (S := fun _ => False) hb) (fun e => e) (fun _ _ e => e)
theorem EX.facts {w : World} {lo R : Nat} {E : Ev} {ad : Option Addr} {c : Nat} (h : EX w lo R E ad c) : (w.cell? ⟨R, 0, none⟩ = some (.int .i64 E.op) ∧ w.cell? ⟨R, 1, none⟩ = some (.int .i64 E.of_) ∧ w.cell? ⟨R, 2, none⟩ = some (.string E.holder) ∧ w.cell? ⟨R, 3, none⟩ = some (.int .i64 E.kind) ∧ w.cell? ⟨R, 4, none⟩ = some (.slice ad E.secs.length c) ∧ w.cell? ⟨R, 5, none⟩ = some (.string E.text)) ∧ w.frozen? ⟨R, 0, none⟩ = false ∧ w.frozen? ⟨R, 1, none⟩ = false ∧ w.frozen? ⟨R, 2, none⟩ = false ∧ w.frozen? ⟨R, 3, none⟩ = false ∧ w.frozen? ⟨R, 4, none⟩ = false ∧ w.frozen? ⟨R, 5, none⟩ = false :=
 ⟨ev_cells h.box, frozen_of_box h.box, frozen_of_box h.box, frozen_of_box h.box, frozen_of_box h.box, frozen_of_box h.box, frozen_of_box h.box⟩
theorem EX.push {w w' : World} {lo R : Nat} {E : Ev} {ad : Option Addr} {c : Nat} (h : EX w lo R E ad c) (L : List Int) (aU : Option Addr) (cU : Nat) (hgr : w.grownBy w' (Value.slice ad E.secs.length c).ownBlock) (hown : w'.ownsRow lo 3 1 (.slice aU L.length cU) L.length (L.map (Value.int .i64))) (hb : (Value.slice aU L.length cU).ownBlock = (Value.slice ad E.secs.length c).ownBlock ∨ (Value.slice aU L.length cU).ownBlock = some w.heap.size) :
  EX (w'.setCell ⟨R, 4, none⟩ (.slice aU L.length cU)) lo R ⟨E.op, E.of_, E.holder, E.kind, L, E.text⟩ aU cU := by
 have hR := h.lt
 have ne : ∀ g, (Value.slice aU L.length cU).ownBlock = some g → g ≠ R := fun g hg e => by
  rcases hb with q | q
  · rw [q] at hg; exact h.ne g hg e
  · rw [q] at hg; have := Option.some.inj hg; omega
 have x : w'.heap[R]? = some (.cells #[.int .i64 E.op, .int .i64 E.of_, .string E.holder, .int .i64 E.kind, .slice ad E.secs.length c, .string E.text] 32 (0, 0)) := (hgr.block R hR (fun e => h.ne R e.symm rfl)).trans h.box; exact ⟨(box_set x _).trans rfl, owns_of_block hown (fun g hg => Deep.blk_setCell_other _ _ _ _ (ne g hg)), ne⟩
def rbLen (w : World) (q : Nat) : Nat := match w.cell? ⟨q, 0, none⟩ with
 | some (.string s) => s.size
 | _ => 0
theorem rbLen_of {w : World} {q : Nat} {s : ByteArray} (h : RB w q s) : rbLen w q = s.size := by
 unfold rbLen; rw [(rb_cell h).1]
structure OS (w wr : World) (q : Nat) (s : ByteArray) (E : Ev) (ad : Option Addr) (c : Nat) : Prop where
 rb : RB wr q s
 ex : EX wr (w.heap.size + 2) (w.heap.size + 1) E ad c
 gl : Gl wr
 fr : Fr (fun x => x = q ∨ w.heap.size ≤ x) w wr
 ans : wr.heap[w.heap.size]? = some (.cells #[.int .i64 0, .int .i64 0, .string ⟨#[]⟩, .int .i64 0, .slice none 0 0, .string ⟨#[]⟩] 32 (0, 0))
theorem OS.sz {w wr : World} {q : Nat} {s : ByteArray} {E : Ev} {ad : Option Addr} {c : Nat} (h : OS w wr q s E ad c) : w.heap.size + 1 < wr.heap.size := h.ex.lt
theorem OS.below {w wr w' : World} {q : Nat} {s : ByteArray} {E : Ev} {ad : Option Addr} {c : Nat} (h : OS w wr q s E ad c) (hb : Below wr.heap.size wr w') : OS w w' q s E ad c :=
 ⟨h.rb.fr (Fr.of_below (S := fun _ => False) hb) (fun e => e), h.ex.below hb, h.gl.fr (Fr.of_below (S := fun _ => False) hb) (fun _ e => e.elim), h.fr.trans (Fr.of_below hb), (hb.block _ (by have := h.sz; omega)).trans h.ans⟩
theorem OS.call {w wr w' : World} {q : Nat} {s s' : ByteArray} {E : Ev} {ad : Option Addr} {c : Nat} (h : OS w wr q s E ad c) (hq : 15 ≤ q) (hl : q < w.heap.size) (hf : Fr (fun x => x = q) wr w') (hr : RB w' q s') : OS w w' q s' E ad c :=
 ⟨hr, h.ex.fr hf (by omega) (fun g hg e => by omega), h.gl.fr hf (fun x e => by omega), h.fr.trans (hf.mono (fun _ e => Or.inl e)), (hf.block _ (by have := h.sz; omega) (by omega)).trans h.ans⟩
theorem OS.push {w wr w' : World} {q : Nat} {s : ByteArray} {E : Ev} {ad : Option Addr} {c : Nat} (h : OS w wr q s E ad c) (hq : q < w.heap.size) (hG : 15 ≤ w.heap.size) (L : List Int) (aU : Option Addr) (cU : Nat) (hgr : wr.grownBy w' (Value.slice ad E.secs.length c).ownBlock) (hown : w'.ownsRow (w.heap.size + 2) 3 1 (.slice aU L.length cU) L.length (L.map (Value.int .i64))) (hb : (Value.slice aU L.length cU).ownBlock = (Value.slice ad E.secs.length c).ownBlock ∨ (Value.slice aU L.length cU).ownBlock = some wr.heap.size) :
  OS w (w'.setCell ⟨w.heap.size + 1, 4, none⟩ (.slice aU L.length cU)) q s ⟨E.op, E.of_, E.holder, E.kind, L, E.text⟩ aU cU := by
 have f1 : Fr (fun x => (Value.slice ad E.secs.length c).ownBlock = some x) wr w' := ⟨hgr.os, hgr.tape, hgr.output, hgr.size, fun j hj hn => hgr.block j hj (fun e => hn e.symm)⟩; have hlo : ∀ x, (Value.slice ad E.secs.length c).ownBlock = some x → w.heap.size + 2 ≤ x := fun x hx => (owns_lt h.ex.own hx).1; have f2 : Fr (fun x => w.heap.size + 1 ≤ x) wr (w'.setCell ⟨w.heap.size + 1, 4, none⟩ (.slice aU L.length cU)) := Fr.setCell (S := fun x => w.heap.size + 1 ≤ x) (f1.mono (fun x e => by have := hlo x e; show w.heap.size + 1 ≤ x; omega)) (p := ⟨w.heap.size + 1, 4, none⟩) (Nat.le_refl _) _; exact ⟨h.rb.fr f2 (by omega), h.ex.push L aU cU hgr hown hb, h.gl.fr f2 (fun x e => by omega), h.fr.trans (f2.mono (fun x e => Or.inr (by omega))), (f2.block _ (by have := h.sz; omega) (by omega)).trans h.ans⟩
theorem OS.holder {w wr : World} {q : Nat} {s : ByteArray} {E : Ev} {ad : Option Addr} {c : Nat} (h : OS w wr q s E ad c) (hq : 15 ≤ q) (hl : q < w.heap.size) (t : ByteArray) : OS w (wr.setCell ⟨w.heap.size + 1, 2, none⟩ (.string t)) q s ⟨E.op, E.of_, t, E.kind, E.secs, E.text⟩ ad c := by
 have f : Fr (fun x => x = w.heap.size + 1) wr (wr.setCell ⟨w.heap.size + 1, 2, none⟩ (.string t)) := fr2 (Fr.refl _ _); exact ⟨h.rb.fr f (by omega), ⟨(box_set h.ex.box _).trans rfl, owns_of_block h.ex.own (fun g hg => f.block g (owns_lt h.ex.own hg).2 (by have := (owns_lt h.ex.own hg).1; omega)), h.ex.ne⟩, h.gl.fr f (fun x e => by omega), h.fr.trans (f.mono (fun x e => Or.inr (by omega))), (f.block _ (by have := h.sz; omega) (by omega)).trans h.ans⟩
theorem OS.kind {w wr : World} {q : Nat} {s : ByteArray} {E : Ev} {ad : Option Addr} {c : Nat} (h : OS w wr q s E ad c) (hq : 15 ≤ q) (hl : q < w.heap.size) (k : Int) : OS w (wr.setCell ⟨w.heap.size + 1, 3, none⟩ (.int .i64 k)) q s ⟨E.op, E.of_, E.holder, k, E.secs, E.text⟩ ad c := by
 have f : Fr (fun x => x = w.heap.size + 1) wr (wr.setCell ⟨w.heap.size + 1, 3, none⟩ (.int .i64 k)) := fr2 (Fr.refl _ _); exact ⟨h.rb.fr f (by omega), ⟨(box_set h.ex.box _).trans rfl, owns_of_block h.ex.own (fun g hg => f.block g (owns_lt h.ex.own hg).2 (by have := (owns_lt h.ex.own hg).1; omega)), h.ex.ne⟩, h.gl.fr f (fun x e => by omega), h.fr.trans (f.mono (fun x e => Or.inr (by omega))), (f.block _ (by have := h.sz; omega) (by omega)).trans h.ans⟩
theorem owns_lower {w : World} {lo lo' : Nat} {v : Value} {m : Nat} {xs : List Value} (h : w.ownsRow lo 3 1 v m xs) (hl : lo' ≤ lo) : w.ownsRow lo' 3 1 v m xs := by
 obtain ⟨h1, h2⟩ := h; refine ⟨h1, ?_⟩; rcases h2 with h2 | ⟨g, cap, cur, hv, hg, r⟩
 · exact Or.inl h2
 · exact Or.inr ⟨g, cap, cur, hv, Nat.le_trans hl hg, r⟩
theorem mapApp {x : Option (List Int)} {v : Int} {L : List Int} : (x.map (v :: ·)).map (L ++ ·) = x.map ((L ++ [v]) ++ ·) := by cases x <;> simp
def orderI (l : List UInt8) : Option Ev :=
 if kindOfL (wordI (wordI l).2).1 = 0 then none
 else (secsI (wordI (wordI l).2).2).map fun s => ⟨0, 0, mkB (wordI l).1, kindOfL (wordI (wordI l).2).1, s, ⟨#[]⟩⟩
theorem secs_go {r : List UInt8} {l l' : List UInt8} {L : List Int} {v : Int} (h : secsI r = (secsI l).map (L ++ ·)) (hne : l ≠ []) (hn : numI l = some (v, l')) : secsI r = (secsI l').map ((L ++ [v]) ++ ·) := by
 rw [h, secsI_some hne hn, mapApp]
set_option maxRecDepth 20000 in
set_option maxHeartbeats 8000000 in
theorem order_any (q : Nat) (s : ByteArray) (w : World) (hs : s.size ≤ 1048576) (hg : Gl w) (hq : 15 ≤ q) (h : RB w q s) :
  Calls Tryz.prog 107 #[.pointer (some ⟨q, 0, none⟩)] w fun e w' => RetV e w' w.heap.size (orderI (bl s)) ∧ Fr (fun x => x = q) w w' := by
 have hql := h.lt; have HG : Hid (Gl w ∧ RB w q s) := ⟨hg, h⟩; obtain ⟨i0, hi, hz0, hz1, hz2⟩ := info_parts Tryz.infoInt; have B2 := below2 w (.cells #[.int .i64 0, .int .i64 0, .string ⟨#[]⟩, .int .i64 0, .slice none 0 0, .string ⟨#[]⟩] 32) (.cells #[.int .i64 0, .int .i64 0, .string ⟨#[]⟩, .int .i64 0, .slice none 0 0, .string ⟨#[]⟩] 32); have s2 : ((w.alloc (.cells #[.int .i64 0, .int .i64 0, .string ⟨#[]⟩, .int .i64 0, .slice none 0 0, .string ⟨#[]⟩] 32)).alloc (.cells #[.int .i64 0, .int .i64 0, .string ⟨#[]⟩, .int .i64 0, .slice none 0 0, .string ⟨#[]⟩] 32)).heap.size = w.heap.size + 2 := by simp
 have x0 : ((w.alloc (.cells #[.int .i64 0, .int .i64 0, .string ⟨#[]⟩, .int .i64 0, .slice none 0 0, .string ⟨#[]⟩] 32)).alloc (.cells #[.int .i64 0, .int .i64 0, .string ⟨#[]⟩, .int .i64 0, .slice none 0 0, .string ⟨#[]⟩] 32)).heap[w.heap.size]? = some (.cells #[.int .i64 0, .int .i64 0, .string ⟨#[]⟩, .int .i64 0, .slice none 0 0, .string ⟨#[]⟩] 32 (0, 0)) := (Deep.blk_alloc_lt _ _ _ (by simp)).trans (Deep.blk_alloc_new _ _)
 have x1 : ((w.alloc (.cells #[.int .i64 0, .int .i64 0, .string ⟨#[]⟩, .int .i64 0, .slice none 0 0, .string ⟨#[]⟩] 32)).alloc (.cells #[.int .i64 0, .int .i64 0, .string ⟨#[]⟩, .int .i64 0, .slice none 0 0, .string ⟨#[]⟩] 32)).heap[w.heap.size + 1]? = some (.cells #[.int .i64 0, .int .i64 0, .string ⟨#[]⟩, .int .i64 0, .slice none 0 0, .string ⟨#[]⟩] 32 (0, 0)) := by
  have := Deep.blk_alloc_new (w.alloc (.cells #[.int .i64 0, .int .i64 0, .string ⟨#[]⟩, .int .i64 0, .slice none 0 0, .string ⟨#[]⟩] 32)) (.cells #[.int .i64 0, .int .i64 0, .string ⟨#[]⟩, .int .i64 0, .slice none 0 0, .string ⟨#[]⟩] 32)
  simpa using this
 have O0 : OS w ((w.alloc (.cells #[.int .i64 0, .int .i64 0, .string ⟨#[]⟩, .int .i64 0, .slice none 0 0, .string ⟨#[]⟩] 32)).alloc (.cells #[.int .i64 0, .int .i64 0, .string ⟨#[]⟩, .int .i64 0, .slice none 0 0, .string ⟨#[]⟩] 32)) q s ⟨0, 0, ⟨#[]⟩, 0, [], ⟨#[]⟩⟩ none 0 := ⟨h.fr (Fr.of_below (S := fun _ => False) B2) (fun e => e), ⟨x1, World.ownsRow_nil _ _ _ _, fun g e => by cases e⟩, hg.fr (Fr.of_below (S := fun _ => False) B2) (fun _ e => e.elim), Fr.of_below B2, x0⟩; have HW : Hid (Calls Tryz.prog 97 #[.pointer (some ⟨q, 0, none⟩)] ((w.alloc (.cells #[.int .i64 0, .int .i64 0, .string ⟨#[]⟩, .int .i64 0, .slice none 0 0, .string ⟨#[]⟩] 32)).alloc (.cells #[.int .i64 0, .int .i64 0, .string ⟨#[]⟩, .int .i64 0, .slice none 0 0, .string ⟨#[]⟩] 32)) fun e w' => e = .returned (.string (mkB (wordI (bl s)).1)) ∧ RB w' q (mkB (wordI (bl s)).2) ∧ Fr (fun x => x = q) ((w.alloc (.cells #[.int .i64 0, .int .i64 0, .string ⟨#[]⟩, .int .i64 0, .slice none 0 0, .string ⟨#[]⟩] 32)).alloc (.cells #[.int .i64 0, .int .i64 0, .string ⟨#[]⟩, .int .i64 0, .slice none 0 0, .string ⟨#[]⟩] 32)) w') := rword_any q s _ (by omega) O0.gl O0.rb; have m1 : (wordI (bl s)).2.length ≤ s.size := by have := cut_snd_len (bl s) [32]; rw [bl_size] at this; exact this
 have HO : Hid (OS w ((w.alloc (.cells #[.int .i64 0, .int .i64 0, .string ⟨#[]⟩, .int .i64 0, .slice none 0 0, .string ⟨#[]⟩] 32)).alloc (.cells #[.int .i64 0, .int .i64 0, .string ⟨#[]⟩, .int .i64 0, .slice none 0 0, .string ⟨#[]⟩] 32)) q s ⟨0, 0, ⟨#[]⟩, 0, [], ⟨#[]⟩⟩ none 0) := O0; have eo : orderI (bl s) = if kindOfL (wordI (wordI (bl s)).2).1 = 0 then none else (secsI (wordI (wordI (bl s)).2).2).map fun s' => ⟨0, 0, mkB (wordI (bl s)).1, kindOfL (wordI (wordI (bl s)).2).1, s', ⟨#[]⟩⟩ := rfl
 obtain ⟨l1, hl1⟩ : ∃ l, (wordI (bl s)).1 = l := ⟨_, rfl⟩; obtain ⟨r1, hr1⟩ : ∃ l, (wordI (bl s)).2 = l := ⟨_, rfl⟩; rw [hl1, hr1] at HW eo; rw [hr1] at m1; have m2 : (wordI r1).2.length ≤ s.size := by have := cut_snd_len r1 [32]; exact Nat.le_trans this m1
 have HE : Hid (orderI (bl s) = if kindOfL (wordI r1).1 = 0 then none else (secsI (wordI r1).2).map fun s' => ⟨0, 0, mkB l1, kindOfL (wordI r1).1, s', ⟨#[]⟩⟩) := eo; have hr1s : (mkB r1).size < 4294967281 := by rw [mkB_size]; omega
 clear B2 s2 x0 x1 O0 h hg eo hl1 hr1; obtain ⟨⟨c0, c1, c2, c3, c4, c5⟩, f0, f1, f2, f3, f4, f5⟩ := HO.out.ex.facts
 go_enter Tryz.func107, Tryz.ntmps107
 go_wp2_with fail
 refine HW.out.mono ?_; rintro e w1 ⟨rfl, hb1, hf1⟩; have O1 : Hid (OS w w1 q (mkB r1) ⟨0, 0, ⟨#[]⟩, 0, [], ⟨#[]⟩⟩ none 0) := HO.out.call hq hql hf1 hb1; clear hb1 hf1 HW HO c0 c1 c2 c3 c4 c5 f0 f1 f2 f3 f4 f5; obtain ⟨⟨c0, c1, c2, c3, c4, c5⟩, f0, f1, f2, f3, f4, f5⟩ := O1.out.ex.facts; have z1 := O1.out.sz
 -- the holder is stored
 have O2 : Hid (OS w (w1.setCell ⟨w.heap.size + 1, 2, none⟩ (.string (mkB l1))) q (mkB r1) ⟨0, 0, mkB l1, 0, [], ⟨#[]⟩⟩ none 0) := O1.out.holder hq hql (mkB l1); obtain ⟨Y, hY⟩ : ∃ Y, Y = w1.setCell ⟨w.heap.size + 1, 2, none⟩ (.string (mkB l1)) := ⟨_, rfl⟩
 have HK : Hid (Calls Tryz.prog 120 #[.pointer (some ⟨q, 0, none⟩)] Y fun e w' => ((kindOfL (wordI r1).1 = 0 ∧ e = NoLine) ∨ (¬ kindOfL (wordI r1).1 = 0 ∧ e = .returned (.int .i64 (kindOfL (wordI r1).1)))) ∧ RB w' q (mkB (wordI r1).2) ∧ Fr (fun x => x = q) Y w') := by
  have := rkind_any q (mkB r1) Y hr1s (hY ▸ O2.out.gl) (hY ▸ O2.out.rb); rw [bl_mkB] at this; exact this
 go_wp2_with fail
 rw [← hY] at O2 ⊢; clear hY c0 c1 c2 c3 c4 c5 f0 f1 f2 f3 f4 f5 z1 O1; obtain ⟨k, hk⟩ : ∃ k, kindOfL (wordI r1).1 = k := ⟨_, rfl⟩; obtain ⟨r2, hr2⟩ : ∃ l, (wordI r1).2 = l := ⟨_, rfl⟩; rw [hk, hr2] at HK HE; rw [hr2] at m2; clear hk hr2; refine HK.out.mono ?_; rintro e w2 ⟨⟨hk0, rfl⟩ | ⟨hk0, rfl⟩, hb2, hf2⟩
 ·
  have HE2 : Hid (orderI (bl s) = none) := HE.out.trans (if_pos hk0); have O3 : Hid (OS w w2 q (mkB r2) ⟨0, 0, mkB l1, 0, [], ⟨#[]⟩⟩ none 0) := O2.out.call hq hql hf2 hb2; clear hb2 hf2 hk0 HE; go_wp2; exact ⟨rfl, Or.inr ⟨HE2.out, rfl⟩, fr_cut2 O3.out.fr⟩
 have HE2 : Hid (orderI (bl s) = (secsI r2).map fun s' => ⟨0, 0, mkB l1, k, s', ⟨#[]⟩⟩) := HE.out.trans (if_neg hk0); have O3 : Hid (OS w w2 q (mkB r2) ⟨0, 0, mkB l1, 0, [], ⟨#[]⟩⟩ none 0) := O2.out.call hq hql hf2 hb2; clear hb2 hf2 hk0 HE O2 HK; obtain ⟨⟨c0, c1, c2, c3, c4, c5⟩, f0, f1, f2, f3, f4, f5⟩ := O3.out.ex.facts; have z1 := O3.out.sz; have O4 : Hid (OS w (w2.setCell ⟨w.heap.size + 1, 3, none⟩ (.int .i64 k)) q (mkB r2) ⟨0, 0, mkB l1, k, [], ⟨#[]⟩⟩ none 0) := O3.out.kind hq hql k; obtain ⟨Y3, hY3⟩ : ∃ Y, Y = w2.setCell ⟨w.heap.size + 1, 3, none⟩ (.int .i64 k) := ⟨_, rfl⟩; go_wp2; rw [← hY3] at O4 ⊢; clear hY3 c0 c1 c2 c3 c4 c5 f0 f1 f2 f3 f4 f5 z1 O3
 go_loopw [] (fun wr => ∃ (s' : ByteArray) (L : List Int) (ad : Option Addr) (c : Nat), L.length + s'.size ≤ s.size ∧ secsI r2 = (secsI (bl s')).map (L ++ ·) ∧ OS w wr q s' ⟨0, 0, mkB l1, k, L, ⟨#[]⟩⟩ ad c) (fun wr => rbLen wr q)
 case atStart => exact ⟨mkB r2, [], none, 0, by rw [mkB_size]; simpa using m2, by rw [bl_mkB]; simp, O4.out⟩
 case round =>
  obtain ⟨s', L, ad, c, hl, hsec, hos⟩ := hrel; have OK : Hid (OS w wr q s' ⟨0, 0, mkB l1, k, L, ⟨#[]⟩⟩ ad c) := hos; have HS : Hid (secsI r2 = (secsI (bl s')).map (L ++ ·)) := hsec; clear hos hsec O4; obtain ⟨q0, qf⟩ := rb_cell OK.out.rb; obtain ⟨⟨c0, c1, c2, c3, c4, c5⟩, f0, f1, f2, f3, f4, f5⟩ := OK.out.ex.facts; have z1 := OK.out.sz
  by_cases he : s'.size = 0
  ·
   have te : s'.toList.isEmpty = true := by rw [ByteArray.toList_eq, nil_of he]; rfl
   have HL : Hid (orderI (bl s) = some ⟨0, 0, mkB l1, k, L, ⟨#[]⟩⟩) := by
    show _ = _
    rw [HE2.out, HS.out, nil_of he, show bl ⟨#[]⟩ = [] from rfl, secsI_nil]; simp
   obtain ⟨a0, a1, a2, a3, a4, a5⟩ := ev_cells OK.out.ans; have b0 : wr.frozen? ⟨w.heap.size, 0, none⟩ = false := frozen_of_box OK.out.ans; have b1 : wr.frozen? ⟨w.heap.size, 1, none⟩ = false := frozen_of_box OK.out.ans; have b2 : wr.frozen? ⟨w.heap.size, 2, none⟩ = false := frozen_of_box OK.out.ans; have b3 : wr.frozen? ⟨w.heap.size, 3, none⟩ = false := frozen_of_box OK.out.ans; have b4 : wr.frozen? ⟨w.heap.size, 4, none⟩ = false := frozen_of_box OK.out.ans; have b5 : wr.frozen? ⟨w.heap.size, 5, none⟩ = false := frozen_of_box OK.out.ans; go_wp2; refine bodyPost_ret (v := .agg #[.int .i64 0, .int .i64 0, .string (mkB l1), .int .i64 k, .slice ad L.length c, .string ⟨#[]⟩]) (by simp [results, Tryz.results107, go_sem, a0, a1, a2, a3, a4, a5]) rfl ?_; have P : Fr (fun x => x = w.heap.size) wr _ := fr2 (i := 5) (u := .string ⟨#[]⟩) (fr2 (i := 4) (u := .slice ad L.length c) (fr2 (i := 3) (u := .int .i64 k) (fr2 (i := 2) (u := .string (mkB l1)) (fr2 (i := 1) (u := .int .i64 0) (fr2 (i := 0) (u := .int .i64 0) (Fr.refl _ _)))))); refine ⟨Or.inl ⟨_, _, HL.out, rfl, _, rfl, owns_lower (owns_of_block OK.out.ex.own (fun g hg => P.block g (owns_lt OK.out.ex.own hg).2 (by have := (owns_lt OK.out.ex.own hg).1; omega))) (by omega)⟩, ?_⟩; exact fr_cut2 (OK.out.fr.trans (P.mono (fun x e => Or.inr (by omega))))
  ·
   have te : s'.toList.isEmpty = false := by
    rw [ByteArray.toList_eq]; cases hx : s'.data.toList with
    | nil => exact absurd (by rw [← bl_size]; show s'.data.toList.length = 0; rw [hx]; rfl) he
    | cons a b => rfl
   have hne : bl s' ≠ [] := fun e => he (by rw [← bl_size, e]; rfl); cases hn : numI (bl s') with
   | none =>
    have HL : Hid (orderI (bl s) = none) := by
     show _ = _
     rw [HE2.out, HS.out, secsI_none hne hn]; rfl
    have HN : ∀ W, OS w W q s' ⟨0, 0, mkB l1, k, L, ⟨#[]⟩⟩ ad c → Calls Tryz.prog 121 #[.pointer (some ⟨q, 0, none⟩)] W fun e w' => e = NoLine ∧ Fr (fun x => x = q) W w' := fun W hW => (number_any q s' W (by omega) hW.gl hq hW.rb).mono (fun e w' hr => by
     rcases hr with ⟨⟨v, r, h1, -⟩ | ⟨-, h2⟩, h3⟩
     · rw [hn] at h1; cases h1
     · exact ⟨h2, h3⟩)
    have HNH : Hid (∀ W, OS w W q s' ⟨0, 0, mkB l1, k, L, ⟨#[]⟩⟩ ad c → Calls Tryz.prog 121 #[.pointer (some ⟨q, 0, none⟩)] W fun e w' => e = NoLine ∧ Fr (fun x => x = q) W w') := HN; clear HN hn hne; go_wp2; refine wp_region_held_drew (S := fun _ => True) (by kernel_rfl) trivial (fun hS0 => ?_); refine tk 0 rfl ?_; refine tk 2 rfl ?_; have OD : Hid (OS w wr.drew q s' ⟨0, 0, mkB l1, k, L, ⟨#[]⟩⟩ ad c) := OK.out.below (Below.refl _ _).drew; clear c0 c1 c2 c3 c4 c5 f0 f1 f2 f3 f4 f5 z1 q0 qf; obtain ⟨⟨c0, c1, c2, c3, c4, c5⟩, f0, f1, f2, f3, f4, f5⟩ := OD.out.ex.facts; have z1 := OD.out.sz; refine wpAnyH_ready (rs := [1, 3]) (by kernel_rfl) (by simp) ?_; refine AllReadyH.cons rfl (fun Kx hK => ?_) (AllReadyH.cons rfl (fun Kx hK => ?_) (AllReadyH.nil))
    ·
     go_simp; refine hK.out _ _ trivial (fun hS1 => ?_); clear hK Kx hS1; refine rdy1 3 rfl (fun Kx hK => ?_); go_simp; refine (HNH.out _ OD.out).mono ?_; rintro e w5 ⟨rfl, hf5⟩; have HF : Hid (Fr (fun x => x = q) w w5) := fr_cut2 (OD.out.fr.trans (hf5.mono (fun _ e => Or.inl e))); clear hf5; go_simp; exact ⟨rfl, Or.inr ⟨HL.out, rfl⟩, HF.out⟩
    ·
     go_simp; refine (HNH.out _ OD.out).mono ?_; rintro e w5 ⟨rfl, hf5⟩; have HF : Hid (Fr (fun x => x = q) w w5) := fr_cut2 (OD.out.fr.trans (hf5.mono (fun _ e => Or.inl e))); clear hf5; go_simp; exact ⟨rfl, Or.inr ⟨HL.out, rfl⟩, HF.out⟩
   | some x =>
    obtain ⟨v, r⟩ := x; have hlen : r.length < s'.size := by have := numI_len hne hn; rw [bl_size] at this; exact this
    have HL : Hid (secsI r2 = (secsI (bl (mkB r))).map ((L ++ [v]) ++ ·)) := by
     show _ = _
     rw [bl_mkB]; exact secs_go HS.out hne hn
    have HNH : Hid (∀ W, OS w W q s' ⟨0, 0, mkB l1, k, L, ⟨#[]⟩⟩ ad c → Calls Tryz.prog 121 #[.pointer (some ⟨q, 0, none⟩)] W fun e w' => e = .returned (.int .i64 v) ∧ OS w w' q (mkB r) ⟨0, 0, mkB l1, k, L, ⟨#[]⟩⟩ ad c) := fun W hW => (number_any q s' W (by omega) hW.gl hq hW.rb).mono (fun e w' hr => by
     rcases hr with ⟨⟨v', r', h1, h2, h3, -⟩ | ⟨h1, -⟩, h4⟩
     ·
      rw [hn] at h1; simp only [Option.some.injEq, Prod.mk.injEq] at h1; obtain ⟨rfl, rfl⟩ := h1; exact ⟨h2, hW.call hq hql h4 h3⟩
     · rw [hn] at h1; cases h1)
    clear hn hne HS; go_wp2; refine wp_region_held_drew (S := fun _ => True) (by kernel_rfl) trivial (fun hS0 => ?_); refine tk 0 rfl ?_; refine tk 2 rfl ?_; have OD : Hid (OS w wr.drew q s' ⟨0, 0, mkB l1, k, L, ⟨#[]⟩⟩ ad c) := OK.out.below (Below.refl _ _).drew; clear c0 c1 c2 c3 c4 c5 f0 f1 f2 f3 f4 f5 z1 q0 qf; obtain ⟨⟨c0, c1, c2, c3, c4, c5⟩, f0, f1, f2, f3, f4, f5⟩ := OD.out.ex.facts; have z1 := OD.out.sz; refine wpAnyH_ready (rs := [1, 3]) (by kernel_rfl) (by simp) ?_; refine AllReadyH.cons rfl (fun Kx hK => ?_) (AllReadyH.cons rfl (fun Kx hK => ?_) (AllReadyH.nil))
    ·
     go_simp; refine hK.out _ _ trivial (fun hS1 => ?_); clear hK Kx hS1; refine rdy1 3 rfl (fun Kx hK => ?_); go_simp; refine (HNH.out _ OD.out).mono ?_; rintro e w5 ⟨rfl, ho5⟩; have O5 : Hid (OS w w5 q (mkB r) ⟨0, 0, mkB l1, k, L, ⟨#[]⟩⟩ ad c) := ho5; clear ho5 OD; clear c0 c1 c2 c3 c4 c5 f0 f1 f2 f3 f4 f5 z1; refine hK.out _ _ trivial (fun hS1 => ?_); clear hK Kx hS1; refine rdy1 4 rfl (fun Kx hK => ?_); go_simp; have OA : Hid (OS w (w5.alloc (.cells #[.int .i64 v] 3)) q (mkB r) ⟨0, 0, mkB l1, k, L, ⟨#[]⟩⟩ ad c) := O5.out.below (below1 _ _); have xa : (w5.alloc (.cells #[.int .i64 v] 3)).heap[w5.heap.size]? = some (.cells #[.int .i64 v] 3 (0, 0)) := Deep.blk_alloc_new _ _; obtain ⟨WA, hWA⟩ : ∃ x, x = (w5.alloc (.cells #[.int .i64 v] 3)) := ⟨_, rfl⟩; rw [← hWA] at OA xa ⊢; clear hWA O5; refine hK.out _ _ trivial (fun hS1 => ?_); clear hK Kx hS1
     have n4 : ∀ j u', [Value.int .i64 v][j]? = some u' → WA.cell? ((⟨w5.heap.size, 0, none⟩ : Addr).add j) = some u' := by
      intro j u' hu; rw [add0]; refine cell_of_box xa ?_; rw [← Array.getElem?_toList]; exact hu
     have zA := OA.out.sz; refine rdy1 5 rfl (fun Kx hK => ?_); refine wp_append_row _ _ 30 rfl (w.heap.size + 2) 3 i0 _ 1 8 Tryz.underlying30 hi hz0 hz1 hz2 rfl (by decide) (.slice ad L.length c) L.length (L.map (Value.int .i64)) rfl OA.out.ex.own ⟨w5.heap.size, 0, none⟩ 1 1 [.int .i64 v] rfl rfl n4 ?_ (by unfold maxLen; omega) (by omega) (by omega) ?_
     ·
      intro x hx; simp only [List.mem_singleton] at hx; subst hx; rfl
     intro vU wU hownU hgU _ hbU; have hownL : wU.ownsRow (w.heap.size + 2) 3 1 vU (L ++ [v]).length ((L ++ [v]).map (Value.int .i64)) := by simpa using hownU
     obtain ⟨gU, aU, cU, rfl, -⟩ := ownL_of hownL; have OU : Hid (OS w (wU.setCell ⟨w.heap.size + 1, 4, none⟩ (.slice aU (L ++ [v]).length cU)) q (mkB r) ⟨0, 0, mkB l1, k, L ++ [v], ⟨#[]⟩⟩ aU cU) := OA.out.push hql (by omega) (L ++ [v]) aU cU hgU hownL hbU; have xU : wU.heap[w.heap.size + 1]? = some _ := (hgU.block _ (by omega) (fun e => OA.out.ex.ne _ e.symm rfl)).trans OA.out.ex.box; obtain ⟨-, -, -, -, o4, -⟩ := ev_cells xU; have u4 : wU.frozen? ⟨w.heap.size + 1, 4, none⟩ = false := frozen_of_box xU; have zU : w.heap.size + 1 < wU.heap.size := (Array.getElem?_eq_some_iff.1 xU).1; clear hownU hgU hbU hownL xU n4 OA xa zA; refine hK.out _ _ trivial (fun hS1 => ?_); clear hK Kx hS1; refine tk 6 rfl ?_; refine rdy1 7 rfl (fun Kx hK => ?_); go_simp; refine hK.out _ _ trivial (fun hS1 => ?_); clear hK Kx hS1; refine wpAnyH_done (by kernel_rfl) ?_ _; go_simp; obtain ⟨Y, hY⟩ : ∃ Y, Y = (wU.setCell ⟨w.heap.size + 1, 4, none⟩ (.slice aU (L ++ [v]).length cU)) := ⟨_, rfl⟩; have hle : (L ++ [v]).length = L.length + 1 := by simp
     have OY : Hid (OS w Y q (mkB r) ⟨0, 0, mkB l1, k, L ++ [v], ⟨#[]⟩⟩ aU cU) := hY ▸ OU.out; have hY' : Y = (wU.setCell ⟨w.heap.size + 1, 4, none⟩ (.slice aU (L.length + 1) cU)) := by rw [hY, hle]
     clear OU hY
     try rw [← hY']
     clear hY' o4 u4 zU; go_wp2; go_roundw
     case rel => exact ⟨mkB r, L ++ [v], aU, cU, by rw [mkB_size, hle]; omega, HL.out, OY.out⟩
     case measure =>
      rw [rbLen_of OY.out.rb, rbLen_of OK.out.rb, mkB_size]; exact hlen
    ·
     go_simp; refine (HNH.out _ OD.out).mono ?_; rintro e w5 ⟨rfl, ho5⟩; have O5 : Hid (OS w w5 q (mkB r) ⟨0, 0, mkB l1, k, L, ⟨#[]⟩⟩ ad c) := ho5; clear ho5 OD; clear c0 c1 c2 c3 c4 c5 f0 f1 f2 f3 f4 f5 z1; refine hK.out _ _ trivial (fun hS1 => ?_); clear hK Kx hS1; obtain ⟨⟨c0, c1, c2, c3, c4, c5⟩, f0, f1, f2, f3, f4, f5⟩ := O5.out.ex.facts; have z1 := O5.out.sz; refine wpAnyH_ready (rs := [1, 4]) (by kernel_rfl) (by simp) ?_; refine AllReadyH.cons rfl (fun Kx hK => ?_) (AllReadyH.cons rfl (fun Kx hK => ?_) (AllReadyH.nil))
     ·
      go_simp; refine hK.out _ _ trivial (fun hS1 => ?_); clear hK Kx hS1; refine rdy1 4 rfl (fun Kx hK => ?_); go_simp; have OA : Hid (OS w (w5.alloc (.cells #[.int .i64 v] 3)) q (mkB r) ⟨0, 0, mkB l1, k, L, ⟨#[]⟩⟩ ad c) := O5.out.below (below1 _ _); have xa : (w5.alloc (.cells #[.int .i64 v] 3)).heap[w5.heap.size]? = some (.cells #[.int .i64 v] 3 (0, 0)) := Deep.blk_alloc_new _ _; obtain ⟨WA, hWA⟩ : ∃ x, x = (w5.alloc (.cells #[.int .i64 v] 3)) := ⟨_, rfl⟩; rw [← hWA] at OA xa ⊢; clear hWA O5; clear c0 c1 c2 c3 c4 c5 f0 f1 f2 f3 f4 f5 z1; refine hK.out _ _ trivial (fun hS1 => ?_); clear hK Kx hS1
      have n4 : ∀ j u', [Value.int .i64 v][j]? = some u' → WA.cell? ((⟨w5.heap.size, 0, none⟩ : Addr).add j) = some u' := by
       intro j u' hu; rw [add0]; refine cell_of_box xa ?_; rw [← Array.getElem?_toList]; exact hu
      have zA := OA.out.sz; refine rdy1 5 rfl (fun Kx hK => ?_); refine wp_append_row _ _ 30 rfl (w.heap.size + 2) 3 i0 _ 1 8 Tryz.underlying30 hi hz0 hz1 hz2 rfl (by decide) (.slice ad L.length c) L.length (L.map (Value.int .i64)) rfl OA.out.ex.own ⟨w5.heap.size, 0, none⟩ 1 1 [.int .i64 v] rfl rfl n4 ?_ (by unfold maxLen; omega) (by omega) (by omega) ?_
      ·
       intro x hx; simp only [List.mem_singleton] at hx; subst hx; rfl
      intro vU wU hownU hgU _ hbU; have hownL : wU.ownsRow (w.heap.size + 2) 3 1 vU (L ++ [v]).length ((L ++ [v]).map (Value.int .i64)) := by simpa using hownU
      obtain ⟨gU, aU, cU, rfl, -⟩ := ownL_of hownL; have OU : Hid (OS w (wU.setCell ⟨w.heap.size + 1, 4, none⟩ (.slice aU (L ++ [v]).length cU)) q (mkB r) ⟨0, 0, mkB l1, k, L ++ [v], ⟨#[]⟩⟩ aU cU) := OA.out.push hql (by omega) (L ++ [v]) aU cU hgU hownL hbU; have xU : wU.heap[w.heap.size + 1]? = some _ := (hgU.block _ (by omega) (fun e => OA.out.ex.ne _ e.symm rfl)).trans OA.out.ex.box; obtain ⟨-, -, -, -, o4, -⟩ := ev_cells xU; have u4 : wU.frozen? ⟨w.heap.size + 1, 4, none⟩ = false := frozen_of_box xU; have zU : w.heap.size + 1 < wU.heap.size := (Array.getElem?_eq_some_iff.1 xU).1; clear hownU hgU hbU hownL xU n4 OA xa zA; refine hK.out _ _ trivial (fun hS1 => ?_); clear hK Kx hS1; refine tk 6 rfl ?_; refine rdy1 7 rfl (fun Kx hK => ?_); go_simp; refine hK.out _ _ trivial (fun hS1 => ?_); clear hK Kx hS1; refine wpAnyH_done (by kernel_rfl) ?_ _; go_simp; obtain ⟨Y, hY⟩ : ∃ Y, Y = (wU.setCell ⟨w.heap.size + 1, 4, none⟩ (.slice aU (L ++ [v]).length cU)) := ⟨_, rfl⟩; have hle : (L ++ [v]).length = L.length + 1 := by simp
      have OY : Hid (OS w Y q (mkB r) ⟨0, 0, mkB l1, k, L ++ [v], ⟨#[]⟩⟩ aU cU) := hY ▸ OU.out; have hY' : Y = (wU.setCell ⟨w.heap.size + 1, 4, none⟩ (.slice aU (L.length + 1) cU)) := by rw [hY, hle]
      clear OU hY
      try rw [← hY']
      clear hY' o4 u4 zU; go_wp2; go_roundw
      case rel => exact ⟨mkB r, L ++ [v], aU, cU, by rw [mkB_size, hle]; omega, HL.out, OY.out⟩
      case measure =>
       rw [rbLen_of OY.out.rb, rbLen_of OK.out.rb, mkB_size]; exact hlen
     ·
      go_simp; have OA : Hid (OS w (w5.alloc (.cells #[.int .i64 v] 3)) q (mkB r) ⟨0, 0, mkB l1, k, L, ⟨#[]⟩⟩ ad c) := O5.out.below (below1 _ _); have xa : (w5.alloc (.cells #[.int .i64 v] 3)).heap[w5.heap.size]? = some (.cells #[.int .i64 v] 3 (0, 0)) := Deep.blk_alloc_new _ _; obtain ⟨WA, hWA⟩ : ∃ x, x = (w5.alloc (.cells #[.int .i64 v] 3)) := ⟨_, rfl⟩; rw [← hWA] at OA xa ⊢; clear hWA O5; clear c0 c1 c2 c3 c4 c5 f0 f1 f2 f3 f4 f5 z1; refine hK.out _ _ trivial (fun hS1 => ?_); clear hK Kx hS1; obtain ⟨⟨c0, c1, c2, c3, c4, c5⟩, f0, f1, f2, f3, f4, f5⟩ := OA.out.ex.facts; have z1 := OA.out.sz; refine rdy1 1 rfl (fun Kx hK => ?_); go_simp; clear c0 c1 c2 c3 c4 c5 f0 f1 f2 f3 f4 f5 z1; refine hK.out _ _ trivial (fun hS1 => ?_); clear hK Kx hS1
      have n4 : ∀ j u', [Value.int .i64 v][j]? = some u' → WA.cell? ((⟨w5.heap.size, 0, none⟩ : Addr).add j) = some u' := by
       intro j u' hu; rw [add0]; refine cell_of_box xa ?_; rw [← Array.getElem?_toList]; exact hu
      have zA := OA.out.sz; refine rdy1 5 rfl (fun Kx hK => ?_); refine wp_append_row _ _ 30 rfl (w.heap.size + 2) 3 i0 _ 1 8 Tryz.underlying30 hi hz0 hz1 hz2 rfl (by decide) (.slice ad L.length c) L.length (L.map (Value.int .i64)) rfl OA.out.ex.own ⟨w5.heap.size, 0, none⟩ 1 1 [.int .i64 v] rfl rfl n4 ?_ (by unfold maxLen; omega) (by omega) (by omega) ?_
      ·
       intro x hx; simp only [List.mem_singleton] at hx; subst hx; rfl
      intro vU wU hownU hgU _ hbU; have hownL : wU.ownsRow (w.heap.size + 2) 3 1 vU (L ++ [v]).length ((L ++ [v]).map (Value.int .i64)) := by simpa using hownU
      obtain ⟨gU, aU, cU, rfl, -⟩ := ownL_of hownL; have OU : Hid (OS w (wU.setCell ⟨w.heap.size + 1, 4, none⟩ (.slice aU (L ++ [v]).length cU)) q (mkB r) ⟨0, 0, mkB l1, k, L ++ [v], ⟨#[]⟩⟩ aU cU) := OA.out.push hql (by omega) (L ++ [v]) aU cU hgU hownL hbU; have xU : wU.heap[w.heap.size + 1]? = some _ := (hgU.block _ (by omega) (fun e => OA.out.ex.ne _ e.symm rfl)).trans OA.out.ex.box; obtain ⟨-, -, -, -, o4, -⟩ := ev_cells xU; have u4 : wU.frozen? ⟨w.heap.size + 1, 4, none⟩ = false := frozen_of_box xU; have zU : w.heap.size + 1 < wU.heap.size := (Array.getElem?_eq_some_iff.1 xU).1; clear hownU hgU hbU hownL xU n4 OA xa zA; refine hK.out _ _ trivial (fun hS1 => ?_); clear hK Kx hS1; refine tk 6 rfl ?_; refine rdy1 7 rfl (fun Kx hK => ?_); go_simp; refine hK.out _ _ trivial (fun hS1 => ?_); clear hK Kx hS1; refine wpAnyH_done (by kernel_rfl) ?_ _; go_simp; obtain ⟨Y, hY⟩ : ∃ Y, Y = (wU.setCell ⟨w.heap.size + 1, 4, none⟩ (.slice aU (L ++ [v]).length cU)) := ⟨_, rfl⟩; have hle : (L ++ [v]).length = L.length + 1 := by simp
      have OY : Hid (OS w Y q (mkB r) ⟨0, 0, mkB l1, k, L ++ [v], ⟨#[]⟩⟩ aU cU) := hY ▸ OU.out; have hY' : Y = (wU.setCell ⟨w.heap.size + 1, 4, none⟩ (.slice aU (L.length + 1) cU)) := by rw [hY, hle]
      clear OU hY
      try rw [← hY']
      clear hY' o4 u4 zU; go_wp2; go_roundw
      case rel => exact ⟨mkB r, L ++ [v], aU, cU, by rw [mkB_size, hle]; omega, HL.out, OY.out⟩
      case measure =>
       rw [rbLen_of OY.out.rb, rbLen_of OK.out.rb, mkB_size]; exact hlen
end Go.Proofs.YtdlaekjofgbjcaaGreatDoor
/-
 The contracts of impl's reader: event; readEvent with what it defers. Mine, by template (wip/gen.py).
-/
namespace Go.Proofs.YtdlaekjofgbjcaaGreatDoor
open Go.RowKit
def tailI (j : Nat) (l : List UInt8) : Option Ev := if j = 1 then orderI l else if j = 3 then repI l else if j = 4 then backI l else ofI l
def setOp (j : Int) (E : Ev) : Ev := ⟨j, E.of_, E.holder, E.kind, E.secs, E.text⟩
theorem readI_tail (l : List UInt8) : readI l = if opOf (wordI l).1 = 0 then none else (tailI (opOf (wordI l).1).toNat (wordI l).2).map (setOp (opOf (wordI l).1)) := by
 unfold readI
 by_cases h0 : opOf (wordI l).1 = 0
 · rw [if_pos h0, if_pos h0]
 rw [if_neg h0, if_neg h0]; unfold tailI
 by_cases h1 : opOf (wordI l).1 = 1
 ·
  rw [if_pos h1, h1, show (if (1 : Int).toNat = 1 then orderI (wordI l).2 else if (1 : Int).toNat = 3 then repI (wordI l).2 else if (1 : Int).toNat = 4 then backI (wordI l).2 else ofI (wordI l).2) = orderI (wordI l).2 from if_pos rfl]; unfold orderI
  by_cases hk : kindOfL (wordI (wordI (wordI l).2).2).1 = 0
  ·
   rw [if_pos hk, if_pos hk]; rfl
  ·
   rw [if_neg hk, if_neg hk]
   cases secsI (wordI (wordI (wordI l).2).2).2 <;> rfl
 have hn : ∀ k : Nat, 0 < k → ¬ opOf (wordI l).1 = (k : Int) → ¬ (opOf (wordI l).1).toNat = k := fun k hk h e => h (by omega); rw [if_neg h1, if_neg (hn 1 (by omega) (by simpa using h1))]
 by_cases h3 : opOf (wordI l).1 = 3
 ·
  rw [h3, if_pos (by decide)]; unfold repI
  cases numI (wordI l).2 <;> rfl
 rw [if_neg (hn 3 (by omega) (by simpa using h3))]
 by_cases h4 : opOf (wordI l).1 = 4
 ·
  rw [h4, if_pos (by decide)]; unfold backI
  cases numI (wordI l).2 <;> rfl
 rw [if_neg (hn 4 (by omega) (by simpa using h4))]; unfold ofI; cases numI (wordI l).2 with
 | none => rfl
 | some x =>
  simp only [if_neg h3, if_neg h4]; rfl
theorem rdF_enters (j : Nat) (args : Array Value) (w : World) : (callFunc (rdF j) args).run Tryz.prog w = .ok (.enter (rdF j) args) w := by
 unfold rdF; split
 · exact enters_of Tryz.func107 (by kernel_rfl) rfl args w
 split
 · exact enters_of Tryz.func109 (by kernel_rfl) rfl args w
 split
 · exact enters_of Tryz.func110 (by kernel_rfl) rfl args w
 · exact enters_of Tryz.func108 (by kernel_rfl) rfl args w
theorem tail_any (j q : Nat) (s : ByteArray) (w : World) (hs : s.size ≤ 1048576) (hg : Gl w) (hq : 15 ≤ q) (h : RB w q s) :
  Calls Tryz.prog (rdF j) #[.pointer (some ⟨q, 0, none⟩)] w fun e w' => RetV e w' w.heap.size (tailI j (bl s)) ∧ Fr (fun x => x = q) w w' := by
 unfold rdF tailI
 by_cases h1 : j = 1
 ·
  rw [if_pos h1, if_pos h1]; exact order_any q s w hs hg hq h
 rw [if_neg h1, if_neg h1]
 by_cases h3 : j = 3
 ·
  rw [if_pos h3, if_pos h3]; exact repeated_any q s w (by omega) hg hq h
 rw [if_neg h3, if_neg h3]
 by_cases h4 : j = 4
 ·
  rw [if_pos h4, if_pos h4]; exact givenBack_any q s w (by omega) hg hq h
 rw [if_neg h4, if_neg h4]; refine (numbered_any q s w (by omega) hg hq h).mono (fun e w' hr => ⟨?_, hr.2⟩); unfold ofI; rcases hr.1 with ⟨v, r, h1, h2, -⟩ | ⟨h1, h2⟩
 · exact Or.inl ⟨_, ⟨0, v, ⟨#[]⟩, 0, [], ⟨#[]⟩⟩, by rw [h1], h2, evW_nil _ _ _ _ _ _ _⟩
 · exact Or.inr ⟨by rw [h1], h2⟩
def put6 (W : World) (R : Nat) (a b c d e f : Value) : World := (((((W.setCell ⟨R, 0, none⟩ a).setCell ⟨R, 1, none⟩ b).setCell ⟨R, 2, none⟩ c).setCell ⟨R, 3, none⟩ d).setCell ⟨R, 4, none⟩ e).setCell ⟨R, 5, none⟩ f
theorem put6_fr (W : World) (R : Nat) (a b c d e f : Value) : Fr (fun x => x = R) W (put6 W R a b c d e f) := fr2 (fr2 (fr2 (fr2 (fr2 (fr2 (Fr.refl _ _))))))
theorem put6_box {W : World} {R : Nat} {a' b' c' d' e' f' : Value} {t : TypeId} (h : W.heap[R]? = some (.cells #[a', b', c', d', e', f'] t (0, 0))) (a b c d e f : Value) : (put6 W R a b c d e f).heap[R]? = some (.cells #[a, b, c, d, e, f] t (0, 0)) :=
 (box_set (box_set (box_set (box_set (box_set (box_set h _) _) _) _) _) _).trans rfl
theorem put6_size (W : World) (R : Nat) (a b c d e f : Value) : (put6 W R a b c d e f).heap.size = W.heap.size := by simp [put6]
theorem FWords.fr {S : Nat → Prop} {w w' : World} (h : FWords w) (hf : Fr S w w') (hS : ∀ x, S x → 15 ≤ x) : FWords w' := fun k hk => cell_fr (h k hk) hf (fun e => by
 have := hS _ e; have h2 : (1 : Nat) < 15 := by decide
 have h3 : (⟨1, k.toNat, none⟩ : Addr).block = 1 := rfl; rw [h3] at this
 omega)
set_option maxRecDepth 20000 in
set_option maxHeartbeats 8000000 in
theorem revent_any (q : Nat) (s : ByteArray) (w : World) (hs : s.size ≤ 1048576) (hg : Gl w) (hw : FWords w) (hq : 15 ≤ q) (h : RB w q s) :
  Calls Tryz.prog 74 #[.pointer (some ⟨q, 0, none⟩)] w fun e w' => RetV e w' w.heap.size (readI (bl s)) ∧ Fr (fun x => x = q) w w' := by
 have hql := h.lt; rw [readI_tail]; obtain ⟨j, hj⟩ : ∃ j, opOf (wordI (bl s)).1 = j := ⟨_, rfl⟩; obtain ⟨r, hr⟩ : ∃ r, (wordI (bl s)).2 = r := ⟨_, rfl⟩; have B1 := below1 w (.cells #[.int .i64 0, .int .i64 0, .string ⟨#[]⟩, .int .i64 0, .slice none 0 0, .string ⟨#[]⟩] 32); have F1 : Fr (fun _ => False) w (w.alloc (.cells #[.int .i64 0, .int .i64 0, .string ⟨#[]⟩, .int .i64 0, .slice none 0 0, .string ⟨#[]⟩] 32)) := Fr.of_below B1; have HB1 : Hid (Gl (w.alloc (.cells #[.int .i64 0, .int .i64 0, .string ⟨#[]⟩, .int .i64 0, .slice none 0 0, .string ⟨#[]⟩] 32)) ∧ FWords (w.alloc (.cells #[.int .i64 0, .int .i64 0, .string ⟨#[]⟩, .int .i64 0, .slice none 0 0, .string ⟨#[]⟩] 32)) ∧ RB (w.alloc (.cells #[.int .i64 0, .int .i64 0, .string ⟨#[]⟩, .int .i64 0, .slice none 0 0, .string ⟨#[]⟩] 32)) q s ∧ (w.alloc (.cells #[.int .i64 0, .int .i64 0, .string ⟨#[]⟩, .int .i64 0, .slice none 0 0, .string ⟨#[]⟩] 32)).heap[w.heap.size]? = some (.cells #[.int .i64 0, .int .i64 0, .string ⟨#[]⟩, .int .i64 0, .slice none 0 0, .string ⟨#[]⟩] 32 (0, 0)) ∧ Fr (fun x => x = q) w (w.alloc (.cells #[.int .i64 0, .int .i64 0, .string ⟨#[]⟩, .int .i64 0, .slice none 0 0, .string ⟨#[]⟩] 32)) ∧ (w.alloc (.cells #[.int .i64 0, .int .i64 0, .string ⟨#[]⟩, .int .i64 0, .slice none 0 0, .string ⟨#[]⟩] 32)).heap.size = w.heap.size + 1) := ⟨hg.fr F1 (fun _ e => e.elim), hw.fr F1 (fun _ e => e.elim), h.fr F1 (fun e => e), Deep.blk_alloc_new _ _, Fr.of_below B1, by simp⟩; have hrl : r.length ≤ s.size := by have := cut_snd_len (bl s) [32]; rw [bl_size] at this; rw [← hr]; exact this
 obtain ⟨l, hl⟩ : ∃ l, (wordI (bl s)).1 = l := ⟨_, rfl⟩; rw [hj, hr]; obtain ⟨X, hX⟩ : ∃ X, X = (if j = 0 then none else (tailI j.toNat r).map (setOp j)) := ⟨_, rfl⟩; rw [← hX]; have HX : Hid (X = (if j = 0 then none else (tailI j.toNat r).map (setOp j))) := hX; rw [hl] at hj; have HL : Hid ((wordI (bl s)).1 = l ∧ (wordI (bl s)).2 = r) := ⟨hl, hr⟩; have HJ : Hid (opOf l = j) := hj; clear hg hw h B1 F1 hl hr hj hX
 go_enter Tryz.func74, Tryz.ntmps74
 go_wp2_with fail
 refine (readings_any q _ HB1.out.2.1 (by rw [HB1.out.2.2.2.2.2]; omega)).mono ?_; rintro e w2 ⟨b, rfl, hm, hb2⟩; have F2 : Fr (fun _ => False) (w.alloc (.cells #[.int .i64 0, .int .i64 0, .string ⟨#[]⟩, .int .i64 0, .slice none 0 0, .string ⟨#[]⟩] 32)) w2 := Fr.of_below hb2; have HB2 : Hid (Gl w2 ∧ RB w2 q s ∧ w2.heap[w.heap.size]? = some (.cells #[.int .i64 0, .int .i64 0, .string ⟨#[]⟩, .int .i64 0, .slice none 0 0, .string ⟨#[]⟩] 32 (0, 0)) ∧ Fr (fun x => x = q) w w2 ∧ MI w2 q b (fun _ => true) ∧ w.heap.size + 1 ≤ w2.heap.size) := ⟨HB1.out.1.fr F2 (fun _ e => e.elim), HB1.out.2.2.1.fr F2 (fun e => e), (hb2.block _ (by simp)).trans HB1.out.2.2.2.1, HB1.out.2.2.2.2.1.trans (Fr.of_below hb2), hm, by have := hb2.size; simp at this; omega⟩; clear hm hb2 F2 HB1
 go_wp2_with fail
 refine (rword_any q s w2 (by omega) HB2.out.1 HB2.out.2.1).mono ?_; rintro e w3 ⟨rfl, hb3, hf3⟩; rw [HL.out.1]; rw [HL.out.2] at hb3
 have hbne : ¬ b = q := by
  intro e; subst e; obtain ⟨es, ck, h1, -⟩ := HB2.out.2.2.2.2.1; have := HB2.out.2.1; unfold RB at this; rw [h1] at this; cases this
 have hM3 : MI w3 q b (fun _ => true) := by
  obtain ⟨es, ck, h1, h2⟩ := HB2.out.2.2.2.2.1; exact ⟨es, ck, (hf3.block b (Array.getElem?_eq_some_iff.1 h1).1 hbne).trans h1, h2⟩
 have hlook := hM3.look (mkB l); rw [bl_mkB, HJ.out] at hlook; have HB3 : Hid (Gl w3 ∧ RB w3 q (mkB r) ∧ w3.heap[w.heap.size]? = some (.cells #[.int .i64 0, .int .i64 0, .string ⟨#[]⟩, .int .i64 0, .slice none 0 0, .string ⟨#[]⟩] 32 (0, 0)) ∧ Fr (fun x => x = q) w w3 ∧ w.heap.size + 1 ≤ w3.heap.size) := ⟨HB2.out.1.fr hf3 (fun x e => by omega), hb3, (hf3.block _ (by have := HB2.out.2.2.2.2.2; omega) (by omega)).trans HB2.out.2.2.1, HB2.out.2.2.2.1.trans hf3, Nat.le_trans HB2.out.2.2.2.2.2 hf3.size⟩; clear hM3 hb3 hf3 HB2 HL
 by_cases h0 : j = 0
 ·
  rw [if_pos h0] at hlook; have HX0 : Hid (X = none) := HX.out.trans (if_pos h0); clear h0 HJ HX; go_wp2; exact ⟨rfl, Or.inr ⟨HX0.out, rfl⟩, HB3.out.2.2.2.1.alloc _⟩
 rw [if_neg h0] at hlook
 have hj9 : ∃ jn : Nat, j = (jn : Int) ∧ j.toNat = jn := by
  rcases opOf_cases l with e | ⟨jn, j1, j9, e⟩
  · exact absurd (HJ.out.symm.trans e) h0
  ·
   refine ⟨jn, ?_, ?_⟩
   · rw [← HJ.out, e]; exact opOf_word ⟨by omega, by omega⟩
   · rw [← HJ.out, e, opOf_word ⟨by omega, by omega⟩]; rfl
 obtain ⟨jn, rfl, hjn⟩ := hj9; rw [hjn] at hlook
 have HX1 : Hid (X = (tailI jn r).map (setOp (jn : Int))) := by
  have := HX.out.trans (if_neg h0); rw [hjn] at this; exact this
 have hlook2 : (Instr.lookup 173 (.map (some b)) (.string (mkB l)) true).run Tryz.prog w3 = .ok (.tuple #[.agg #[.int .i64 (jn : Int), .func (.func (rdF jn)) #[.pointer (some ⟨q, 0, none⟩)] #[]], .bool true]) w3 := hlook; have hen := rdF_enters jn; have hz3 := HB3.out.2.2.2.2; clear hlook h0 hjn HJ HX
 go_wp2_with fail
 have F4 : Fr (fun _ => False) w3 (w3.alloc (.cells #[.int .i64 (jn : Int), .func (.func (rdF jn)) #[.pointer (some ⟨q, 0, none⟩)] #[]] 171)) := Fr.of_below (below1 _ _); have hql3 : q < w3.heap.size := HB3.out.2.1.lt; refine (tail_any jn q (mkB r) _ (by rw [mkB_size]; omega) (HB3.out.1.fr F4 (fun _ e => e.elim)) hq (HB3.out.2.1.fr F4 (fun e => e))).mono ?_; rintro e w5 ⟨hr5, hf5⟩; rw [bl_mkB] at hr5; have s4 : (w3.alloc (.cells #[.int .i64 (jn : Int), .func (.func (rdF jn)) #[.pointer (some ⟨q, 0, none⟩)] #[]] 171)).heap.size = w3.heap.size + 1 := by simp
 have x5 := (hf5.block w.heap.size (by rw [s4]; omega) (by omega)).trans ((Deep.blk_alloc_lt _ _ _ (by omega)).trans HB3.out.2.2.1); have y5 := (hf5.block w3.heap.size (by rw [s4]; omega) (by omega)).trans (Deep.blk_alloc_new _ _); have z5 : w3.heap.size + 1 ≤ w5.heap.size := by have := hf5.size; rw [s4] at this; exact this
 have HF5 : Hid (Fr (fun x => x = q) w w5) := HB3.out.2.2.2.1.trans ((Fr.of_below (below1 _ _)).trans hf5); clear hf5 F4; rcases hr5 with ⟨v, E, hE, rfl, sv, rfl, hown⟩ | ⟨hE, rfl⟩
 ·
  rw [s4] at hown; obtain ⟨g, ad, c, rfl, -⟩ := ownL_of hown; have HO : Hid (w5.ownsRow (w3.heap.size + 1) 3 1 (.slice ad E.secs.length c) E.secs.length (E.secs.map (Value.int .i64))) := hown
  have HX2 : Hid (X = some (setOp (jn : Int) E)) := by
   show X = _
   rw [HX1.out, hE]; rfl
  obtain ⟨e0, e1, e2, e3, e4, e5⟩ := ev_cells x5; have d0 : w5.cell? ⟨w3.heap.size, 0, none⟩ = some (.int .i64 (jn : Int)) := cell_of_box y5 rfl; have g0 : w5.frozen? ⟨w.heap.size, 0, none⟩ = false := frozen_of_box x5; have g1 : w5.frozen? ⟨w.heap.size, 1, none⟩ = false := frozen_of_box x5; have g2 : w5.frozen? ⟨w.heap.size, 2, none⟩ = false := frozen_of_box x5; have g3 : w5.frozen? ⟨w.heap.size, 3, none⟩ = false := frozen_of_box x5; have g4 : w5.frozen? ⟨w.heap.size, 4, none⟩ = false := frozen_of_box x5; have g5 : w5.frozen? ⟨w.heap.size, 5, none⟩ = false := frozen_of_box x5; have za : w.heap.size < w5.heap.size := by omega
  have zb : w3.heap.size < w5.heap.size := by omega
  have zc : ¬ w5.heap.size = w.heap.size := by omega
  obtain ⟨Z, hZ⟩ : ∃ Z, Z = (put6 w5 w.heap.size (.int .i64 (jn : Int)) (.int .i64 E.of_) (.string E.holder) (.int .i64 E.kind) (.slice ad E.secs.length c) (.string E.text)).alloc (.cells #[.int .i64 (jn : Int), .int .i64 E.of_, .string E.holder, .int .i64 E.kind, .slice ad E.secs.length c, .string E.text] 32) := ⟨_, rfl⟩; have hZ' : (((((((w5.setCell ⟨w.heap.size, 0, none⟩ (.int .i64 (jn : Int))).setCell ⟨w.heap.size, 1, none⟩ (.int .i64 E.of_)).setCell ⟨w.heap.size, 2, none⟩ (.string E.holder)).setCell ⟨w.heap.size, 3, none⟩ (.int .i64 E.kind)).setCell ⟨w.heap.size, 4, none⟩ (.slice ad E.secs.length c)).setCell ⟨w.heap.size, 5, none⟩ (.string E.text)).alloc (.cells #[.int .i64 (jn : Int), .int .i64 E.of_, .string E.holder, .int .i64 E.kind, .slice ad E.secs.length c, .string E.text] 32)) = Z := hZ.symm
  have zx : Z.heap[w.heap.size]? = some (.cells #[.int .i64 (jn : Int), .int .i64 E.of_, .string E.holder, .int .i64 E.kind, .slice ad E.secs.length c, .string E.text] 32 (0, 0)) := by
   rw [hZ]; exact (Deep.blk_alloc_lt _ _ _ (by rw [put6_size]; exact za)).trans (put6_box x5 _ _ _ _ _ _)
  have PZ : Fr (fun x => x = w.heap.size) w5 Z := by
   rw [hZ]; exact (put6_fr _ _ _ _ _ _ _ _).alloc _
  clear hown hE x5 y5 HX1 hlook2 hen s4 hZ; go_wp2
  try rw [hZ']
  clear hZ' e0 e1 e2 e3 e4 e5 g0 g1 g2 g3 g4 g5 d0; obtain ⟨e0, e1, e2, e3, e4, e5⟩ := ev_cells zx; refine bodyPost_ret (v := .agg #[.int .i64 (jn : Int), .int .i64 E.of_, .string E.holder, .int .i64 E.kind, .slice ad E.secs.length c, .string E.text]) (by simp [results, Tryz.results74, go_sem, e0, e1, e2, e3, e4, e5]) rfl ?_; refine ⟨Or.inl ⟨_, setOp (jn : Int) E, HX2.out, rfl, _, rfl, owns_lower (owns_of_block HO.out (fun g hg => PZ.block g (owns_lt HO.out hg).2 (by have := owns_lt HO.out hg; omega))) (by omega)⟩, ?_⟩; exact fr_cut2 ((HF5.out.mono (fun _ e => Or.inl e)).trans (PZ.mono (fun x e => Or.inr (by omega))))
 ·
  have HX2 : Hid (X = none) := by
   show X = _
   rw [HX1.out, hE]; rfl
  clear hE HX1 hlook2 hen x5 y5; go_wp2; exact ⟨rfl, Or.inr ⟨HX2.out, rfl⟩, HF5.out⟩
end Go.Proofs.YtdlaekjofgbjcaaGreatDoor
/-
 The contracts of impl's readEvent, with what it defers, and Hear. Mine, by template (wip/gen.py).
-/
namespace Go.Proofs.YtdlaekjofgbjcaaGreatDoor
open Go.RowKit
theorem ta_noLine (w : World) : (Instr.typeAssert (.iface 124 (.agg #[])) 20 124 true).run Tryz.prog w = .ok (.tuple #[.agg #[], .bool true]) w := by kernel_rfl
theorem catch_idle (p q : Addr) (w : World) :
  CallsD Tryz.prog 73 #[.pointer (some p), .pointer (some q)] .returning w fun e u' w' => e = .returned (.tuple #[]) ∧ u' = .returning ∧ w' = w := by
 refine callsD_of_wpS Tryz.func73 rfl fun c₀ cs hu => ?_; apply wpS_seq; apply wpS_region; simp [wpOpsS, go_sem, recoverD, hu, Tryz.ntmps73, Exit.thenS]; refine wpS_of_wp ?_; go_wp2; cases c₀
 simp_all [bodyPostS, results, Tryz.results73]
theorem catch_noLine (p q : Nat) (v0 v1 v2 v3 v4 v5 b : Value) (w : World) (hp : w.heap[p]? = some (.cells #[v0, v1, v2, v3, v4, v5] 32 (0, 0))) (hq : w.heap[q]? = some (.cells #[b] 4 (0, 0))) (hne : ¬ p = q) :
  CallsD Tryz.prog 73 #[.pointer (some ⟨p, 0, none⟩), .pointer (some ⟨q, 0, none⟩)] (.panicking [{ v := .iface 124 (.agg #[]), recovered := false }]) w fun e u' w' =>
   e = .returned (.tuple #[]) ∧ u' = .panicking [{ v := .iface 124 (.agg #[]), recovered := true }] ∧ w'.heap[p]? = some (.cells #[.int .i64 0, .int .i64 0, .string ⟨#[]⟩, .int .i64 0, .slice none 0 0, .string ⟨#[]⟩] 32 (0, 0)) ∧ w'.heap[q]? = some (.cells #[.bool false] 4 (0, 0)) ∧ Fr (fun x => x = p ∨ x = q) w w' := by
 have hta := ta_noLine; obtain ⟨e0, e1, e2, e3, e4, e5⟩ := ev_cells hp; have g0 : w.frozen? ⟨p, 0, none⟩ = false := frozen_of_box hp; have g1 : w.frozen? ⟨p, 1, none⟩ = false := frozen_of_box hp; have g2 : w.frozen? ⟨p, 2, none⟩ = false := frozen_of_box hp; have g3 : w.frozen? ⟨p, 3, none⟩ = false := frozen_of_box hp; have g4 : w.frozen? ⟨p, 4, none⟩ = false := frozen_of_box hp; have g5 : w.frozen? ⟨p, 5, none⟩ = false := frozen_of_box hp; have b0 : w.cell? ⟨q, 0, none⟩ = some b := cell_of_box hq rfl; have k0 : w.frozen? ⟨q, 0, none⟩ = false := frozen_of_box hq; have zp : p < w.heap.size := (Array.getElem?_eq_some_iff.1 hp).1; have zq : q < w.heap.size := (Array.getElem?_eq_some_iff.1 hq).1; have HP : Hid (w.heap[p]? = some (.cells #[v0, v1, v2, v3, v4, v5] 32 (0, 0)) ∧ w.heap[q]? = some (.cells #[b] 4 (0, 0))) := ⟨hp, hq⟩; clear hp hq; obtain ⟨Z, hZ⟩ : ∃ Z, Z = ((put6 w p (.int .i64 0) (.int .i64 0) (.string ⟨#[]⟩) (.int .i64 0) (.slice none 0 0) (.string ⟨#[]⟩)).setCell ⟨q, 0, none⟩ (.bool false)).alloc (.cells #[] 124) := ⟨_, rfl⟩; have hZ' : ((((((((w.setCell ⟨p, 0, none⟩ (.int .i64 0)).setCell ⟨p, 1, none⟩ (.int .i64 0)).setCell ⟨p, 2, none⟩ (.string ⟨#[]⟩)).setCell ⟨p, 3, none⟩ (.int .i64 0)).setCell ⟨p, 4, none⟩ (.slice none 0 0)).setCell ⟨p, 5, none⟩ (.string ⟨#[]⟩)).setCell ⟨q, 0, none⟩ (.bool false)).alloc (.cells #[] 124)) = Z := hZ.symm; have s6 := put6_size w p (.int .i64 0) (.int .i64 0) (.string ⟨#[]⟩) (.int .i64 0) (.slice none 0 0) (.string ⟨#[]⟩); have p6 := put6_box HP.out.1 (.int .i64 0) (.int .i64 0) (.string ⟨#[]⟩) (.int .i64 0) (.slice none 0 0) (.string ⟨#[]⟩); have f6 := put6_fr w p (.int .i64 0) (.int .i64 0) (.string ⟨#[]⟩) (.int .i64 0) (.slice none 0 0) (.string ⟨#[]⟩); have q6 := (f6.block q zq (fun e => hne e.symm)).trans HP.out.2
 have HZ : Hid (Z.heap[p]? = some (.cells #[.int .i64 0, .int .i64 0, .string ⟨#[]⟩, .int .i64 0, .slice none 0 0, .string ⟨#[]⟩] 32 (0, 0)) ∧ Z.heap[q]? = some (.cells #[.bool false] 4 (0, 0)) ∧ Fr (fun x => x = p ∨ x = q) w Z) := by
  rw [hZ]; generalize put6 w p (.int .i64 0) (.int .i64 0) (.string ⟨#[]⟩) (.int .i64 0) (.slice none 0 0) (.string ⟨#[]⟩) = Y at s6 p6 f6 q6; refine ⟨(Deep.blk_alloc_lt _ _ _ (by simp; omega)).trans ((Deep.blk_setCell_other _ _ _ _ hne).trans p6), (Deep.blk_alloc_lt _ _ _ (by simp; omega)).trans ((box_set q6 _).trans rfl), ?_⟩; exact (Fr.setCell (S := fun x => x = p ∨ x = q) (f6.mono (fun x e => Or.inl e)) (p := ⟨q, 0, none⟩) (Or.inr rfl) _).alloc _
 clear hZ s6 p6 f6 q6; refine callsD_of_wpS Tryz.func73 rfl fun c₀ cs hu => ?_; apply wpS_seq; apply wpS_region; simp [wpOpsS, go_sem, recoverD, hu, Tryz.ntmps73, Exit.thenS]; refine wpS_of_wp ?_; go_wp2
 try rw [hZ']
 clear hZ' e0 e1 e2 e3 e4 e5 g0 g1 g2 g3 g4 g5 b0 k0; simp [bodyPostS, results, Tryz.results73]; exact HZ.out
def RetRE (e : Ending) (w' : World) (lo : Nat) (x : Option Ev) : Prop := (∃ v E, x = some E ∧ e = .returned (.tuple #[v, .bool true]) ∧ EvW w' lo v E) ∨ (x = none ∧ e = .returned (.tuple #[.agg #[.int .i64 0, .int .i64 0, .string ⟨#[]⟩, .int .i64 0, .slice none 0 0, .string ⟨#[]⟩], .bool false]))
set_option maxRecDepth 20000 in
set_option maxHeartbeats 8000000 in
theorem readEvent_any (s : ByteArray) (w : World) (hs : s.size ≤ 1048576) (hg : Gl w) (hw : FWords w) (hG : 15 ≤ w.heap.size) :
  Calls Tryz.prog 42 #[.string s] w fun e w' => RetRE e w' w.heap.size (readI (bl s)) ∧ Below w.heap.size w w' := by
 have hmf : ∀ (fn : Fn) (first cap : Array Value) (w : World), (Instr.makeFunc fn first cap).run Tryz.prog w = .ok (.func fn first cap) w := fun _ _ _ _ => rfl; obtain ⟨X, hX⟩ : ∃ X, readI (bl s) = X := ⟨_, rfl⟩; rw [hX]; obtain ⟨W, hW⟩ : ∃ W, W = ((w.alloc (.cells #[.int .i64 0, .int .i64 0, .string ⟨#[]⟩, .int .i64 0, .slice none 0 0, .string ⟨#[]⟩] 32)).alloc (.cells #[.bool false] 4)).alloc (.cells #[.string s] 127) := ⟨_, rfl⟩
 have HB : Hid (W.heap[w.heap.size]? = some (.cells #[.int .i64 0, .int .i64 0, .string ⟨#[]⟩, .int .i64 0, .slice none 0 0, .string ⟨#[]⟩] 32 (0, 0)) ∧ W.heap[w.heap.size + 1]? = some (.cells #[.bool false] 4 (0, 0)) ∧ RB W (w.heap.size + 2) s ∧ Below w.heap.size w W ∧ W.heap.size = w.heap.size + 3) := by
  rw [hW]; refine ⟨?_, ?_, ?_, ((below2 w _ _).trans ((Below.refl _ _).alloc (by simp; omega) _)), by simp⟩
  · exact (Deep.blk_alloc_lt _ _ _ (by simp; omega)).trans ((Deep.blk_alloc_lt _ _ _ (by simp)).trans (Deep.blk_alloc_new _ _))
  ·
   refine (Deep.blk_alloc_lt _ _ _ (by simp)).trans ?_; have := Deep.blk_alloc_new (w.alloc (.cells #[.int .i64 0, .int .i64 0, .string ⟨#[]⟩, .int .i64 0, .slice none 0 0, .string ⟨#[]⟩] 32)) (.cells #[.bool false] 4)
   simpa using this
  ·
   have h2 : ((w.alloc (.cells #[.int .i64 0, .int .i64 0, .string ⟨#[]⟩, .int .i64 0, .slice none 0 0, .string ⟨#[]⟩] 32)).alloc (.cells #[.bool false] 4)).heap.size = w.heap.size + 2 := by simp
   have := Deep.blk_alloc_new ((w.alloc (.cells #[.int .i64 0, .int .i64 0, .string ⟨#[]⟩, .int .i64 0, .slice none 0 0, .string ⟨#[]⟩] 32)).alloc (.cells #[.bool false] 4)) (.cells #[.string s] 127); rw [h2] at this; exact this
 have FB : Fr (fun _ => False) w W := Fr.of_below HB.out.2.2.2.1
 have HV : Hid (Calls Tryz.prog 74 #[.pointer (some ⟨w.heap.size + 2, 0, none⟩)] W fun e w' => RetV e w' W.heap.size X ∧ Fr (fun x => x = w.heap.size + 2) W w') := by
  have := revent_any (w.heap.size + 2) s W hs (hg.fr FB (fun _ e => e.elim)) (hw.fr FB (fun _ e => e.elim)) (by omega) HB.out.2.2.1; rw [hX] at this; exact this
 have hW' : (((w.alloc (.cells #[.int .i64 0, .int .i64 0, .string ⟨#[]⟩, .int .i64 0, .slice none 0 0, .string ⟨#[]⟩] 32)).alloc (.cells #[.bool false] 4)).alloc (.cells #[.string s] 127)) = W := hW.symm; clear hX hW FB hg hw
 go_enter_defers Tryz.func42, Tryz.ntmps42
 go_wp2_with fail
 try rw [hW']
 clear hW'; refine HV.out.mono ?_; rintro e w5 ⟨hr5, hf5⟩; have x5 := (hf5.block w.heap.size (by have := HB.out.2.2.2.2; omega) (by omega)).trans HB.out.1; have y5 := (hf5.block (w.heap.size + 1) (by have := HB.out.2.2.2.2; omega) (by omega)).trans HB.out.2.1; have z5 : w.heap.size + 3 ≤ w5.heap.size := by have := hf5.size; have := HB.out.2.2.2.2; omega
 have HF : Hid (Below w.heap.size w w5) := HB.out.2.2.2.1.trans (hf5.below (B := w.heap.size) (by have := HB.out.2.2.2.2; omega) (fun i e => by omega)); have hlo : w.heap.size + 3 = W.heap.size := HB.out.2.2.2.2.symm; clear hf5 HV; rcases hr5 with ⟨v, E, hE, rfl, sv, rfl, hown⟩ | ⟨hE, rfl⟩
 ·
  rw [← hlo] at hown; obtain ⟨g, ad, c, rfl, -⟩ := ownL_of hown; have HO : Hid (w5.ownsRow (w.heap.size + 3) 3 1 (.slice ad E.secs.length c) E.secs.length (E.secs.map (Value.int .i64))) := hown; have HX : Hid (X = some E) := hE; obtain ⟨e0, e1, e2, e3, e4, e5⟩ := ev_cells x5; have g0 : w5.frozen? ⟨w.heap.size, 0, none⟩ = false := frozen_of_box x5; have g1 : w5.frozen? ⟨w.heap.size, 1, none⟩ = false := frozen_of_box x5; have g2 : w5.frozen? ⟨w.heap.size, 2, none⟩ = false := frozen_of_box x5; have g3 : w5.frozen? ⟨w.heap.size, 3, none⟩ = false := frozen_of_box x5; have g4 : w5.frozen? ⟨w.heap.size, 4, none⟩ = false := frozen_of_box x5; have g5 : w5.frozen? ⟨w.heap.size, 5, none⟩ = false := frozen_of_box x5; have b0 : w5.cell? ⟨w.heap.size + 1, 0, none⟩ = some (.bool false) := cell_of_box y5 rfl; have k0 : w5.frozen? ⟨w.heap.size + 1, 0, none⟩ = false := frozen_of_box y5; obtain ⟨Z, hZ⟩ : ∃ Z, Z = (put6 w5 w.heap.size (.int .i64 E.op) (.int .i64 E.of_) (.string E.holder) (.int .i64 E.kind) (.slice ad E.secs.length c) (.string E.text)).setCell ⟨w.heap.size + 1, 0, none⟩ (.bool true) := ⟨_, rfl⟩; have hZ' : (((((((w5.setCell ⟨w.heap.size, 0, none⟩ (.int .i64 E.op)).setCell ⟨w.heap.size, 1, none⟩ (.int .i64 E.of_)).setCell ⟨w.heap.size, 2, none⟩ (.string E.holder)).setCell ⟨w.heap.size, 3, none⟩ (.int .i64 E.kind)).setCell ⟨w.heap.size, 4, none⟩ (.slice ad E.secs.length c)).setCell ⟨w.heap.size, 5, none⟩ (.string E.text)).setCell ⟨w.heap.size + 1, 0, none⟩ (.bool true)) = Z := hZ.symm; have p6 := put6_box x5 (.int .i64 E.op) (.int .i64 E.of_) (.string E.holder) (.int .i64 E.kind) (.slice ad E.secs.length c) (.string E.text); have f6 := put6_fr w5 w.heap.size (.int .i64 E.op) (.int .i64 E.of_) (.string E.holder) (.int .i64 E.kind) (.slice ad E.secs.length c) (.string E.text); have q6 := (f6.block (w.heap.size + 1) (by omega) (by show ¬ w.heap.size + 1 = w.heap.size; omega)).trans y5
  have HZ : Hid (Z.heap[w.heap.size]? = some (.cells #[.int .i64 E.op, .int .i64 E.of_, .string E.holder, .int .i64 E.kind, .slice ad E.secs.length c, .string E.text] 32 (0, 0)) ∧ Z.heap[w.heap.size + 1]? = some (.cells #[.bool true] 4 (0, 0)) ∧ Fr (fun x => x = w.heap.size ∨ x = w.heap.size + 1) w5 Z) := by
   rw [hZ]; generalize put6 w5 w.heap.size (.int .i64 E.op) (.int .i64 E.of_) (.string E.holder) (.int .i64 E.kind) (.slice ad E.secs.length c) (.string E.text) = Y at p6 f6 q6; exact ⟨(Deep.blk_setCell_other _ _ _ _ (by show ¬ w.heap.size = w.heap.size + 1; omega)).trans p6, (box_set q6 _).trans rfl, Fr.setCell (S := fun x => x = w.heap.size ∨ x = w.heap.size + 1) (f6.mono (fun x e => Or.inl e)) (p := ⟨w.heap.size + 1, 0, none⟩) (Or.inr rfl) _⟩
  clear hown hE x5 y5 hZ p6 f6 q6; go_wp2
  try rw [hZ']
  clear hZ' e0 e1 e2 e3 e4 e5 g0 g1 g2 g3 g4 g5 b0 k0; refine leaves_cons (f := 73) (args := #[.pointer (some ⟨w.heap.size, 0, none⟩), .pointer (some ⟨w.heap.size + 1, 0, none⟩)]) (by simp) (by simp [go_sem]) ?_; refine (catch_idle ⟨w.heap.size, 0, none⟩ ⟨w.heap.size + 1, 0, none⟩ _).mono ?_; rintro e u' w'' ⟨rfl, rfl, rfl⟩; obtain ⟨e0, e1, e2, e3, e4, e5⟩ := ev_cells HZ.out.1; have b0 : w''.cell? ⟨w.heap.size + 1, 0, none⟩ = some (.bool true) := cell_of_box HZ.out.2.1 rfl; simp [Leaves, settle, results, Tryz.results42, go_sem, e0, e1, e2, e3, e4, e5, b0]; exact ⟨Or.inl ⟨_, E, HX.out, rfl, _, rfl, owns_lower (owns_of_block HO.out (fun g hg => HZ.out.2.2.block g (owns_lt HO.out hg).2 (by have := owns_lt HO.out hg; omega))) (by omega)⟩, HF.out.trans (HZ.out.2.2.below (B := w.heap.size) (by omega) (fun i e => by omega))⟩
 ·
  have HX : Hid (X = none) := hE; have HXY : Hid (w5.heap[w.heap.size]? = some (.cells #[.int .i64 0, .int .i64 0, .string ⟨#[]⟩, .int .i64 0, .slice none 0 0, .string ⟨#[]⟩] 32 (0, 0)) ∧ w5.heap[w.heap.size + 1]? = some (.cells #[.bool false] 4 (0, 0))) := ⟨x5, y5⟩; clear hE x5 y5; go_wp2; refine leaves_cons (f := 73) (args := #[.pointer (some ⟨w.heap.size, 0, none⟩), .pointer (some ⟨w.heap.size + 1, 0, none⟩)]) (by simp) (by simp [go_sem]) ?_; refine (catch_noLine w.heap.size (w.heap.size + 1) _ _ _ _ _ _ _ w5 HXY.out.1 HXY.out.2 (by omega)).mono ?_; rintro e u' w'' ⟨rfl, rfl, h1, h2, h3⟩; obtain ⟨e0, e1, e2, e3, e4, e5⟩ := ev_cells h1; have b0 : w''.cell? ⟨w.heap.size + 1, 0, none⟩ = some (.bool false) := cell_of_box h2 rfl; simp [Leaves, settle, results, Tryz.results42, go_sem, e0, e1, e2, e3, e4, e5, b0]; exact ⟨Or.inr ⟨HX.out, rfl⟩, HF.out.trans (h3.below (B := w.heap.size) (by omega) (fun i e => by omega))⟩
end Go.Proofs.YtdlaekjofgbjcaaGreatDoor
/-
 The contract of impl.Hear. Mine, by template (wip/gen.py).
-/
namespace Go.Proofs.YtdlaekjofgbjcaaGreatDoor
open Go.RowKit
theorem evW_at {w : World} {lo : Nat} {v : Value} {E : Ev} (h : EvW w lo v E) : EvAt w v E := by
 obtain ⟨sv, rfl, hown⟩ := h; obtain ⟨g, ad, c, rfl, hp⟩ := ownL_of hown; exact ⟨ad, c, rfl, g, 0, fun p => (hp p).1, fun i hi => by rw [Nat.zero_add]; exact (hp (by omega)).2.2.cell hi⟩
theorem EvW.below {w w' : World} {lo : Nat} {v : Value} {E : Ev} (h : EvW w lo v E) (hb : Below w.heap.size w w') : EvW w' lo v E := by
 obtain ⟨sv, rfl, hown⟩ := h; exact ⟨sv, rfl, ownsRow_below hown hb⟩
def RetH (e : Ending) (w' : World) (lo : Nat) (l : List UInt8) : Prop :=
 (∃ E ad c, LineOk E ∧ lineT E = l ∧ e = .returned (.agg #[.bool true, .int .i64 E.op, .int .i64 E.of_, .string E.holder, .int .i64 E.kind, .slice ad E.secs.length c, .string E.text]) ∧ w'.ownsRow lo 3 1 (.slice ad E.secs.length c) E.secs.length (E.secs.map (Value.int .i64))) ∨
 ((∀ E, LineOk E → lineT E ≠ l) ∧ e = .returned (.agg #[.bool false, .int .i64 0, .int .i64 0, .string ⟨#[]⟩, .int .i64 0, .slice none 0 0, .string ⟨#[]⟩]))
theorem secsI_len (n : Nat) : ∀ (l : List UInt8) (L : List Int), l.length ≤ n → secsI l = some L → L.length ≤ l.length := by
 induction n with
 | zero =>
  intro l L h e; obtain rfl : l = [] := List.length_eq_zero_iff.1 (by omega); rw [secsI_nil] at e; cases e; simp
 | succ n ih =>
  intro l L h e
  by_cases hne : l = []
  ·
   subst hne; rw [secsI_nil] at e; cases e; simp
  cases hn : numI l with
  | none => rw [secsI_none hne hn] at e; cases e
  | some x =>
   obtain ⟨v, r⟩ := x; have hl := numI_len hne hn; rw [secsI_some hne hn] at e; cases hs : secsI r with
   | none => rw [hs] at e; cases e
   | some L' =>
    rw [hs] at e; have := ih r L' (by omega) hs; simp only [Option.map_some, Option.some.injEq] at e; rw [← e]; simp only [List.length_cons]; omega
theorem numI_le {l r : List UInt8} {v : Int} (h : numI l = some (v, r)) : r.length ≤ l.length := by
 unfold numI at h; split at h
 ·
  simp only [Option.some.injEq, Prod.mk.injEq] at h; rw [← h.2]; exact cut_snd_len l [32]
 · cases h
theorem readI_bound {l : List UInt8} {E : Ev} (h : readI l = some E) : E.holder.size ≤ l.length ∧ E.text.size ≤ l.length ∧ E.secs.length ≤ l.length := by
 have a1 : (wordI l).2.length ≤ l.length := cut_snd_len l [32]; have ez : (⟨#[]⟩ : ByteArray).size = 0 := rfl; unfold readI at h; split at h
 · cases h
 split at h
 ·
  split at h
  · cases h
  have a2 : (wordI (wordI l).2).1.length ≤ (wordI l).2.length := cut_fst_len _ [32]; have a3 : (wordI (wordI l).2).2.length ≤ (wordI l).2.length := cut_snd_len _ [32]; have a4 : (wordI (wordI (wordI l).2).2).2.length ≤ (wordI (wordI l).2).2.length := cut_snd_len _ [32]; cases hs : secsI (wordI (wordI (wordI l).2).2).2 with
  | none => rw [hs] at h; cases h
  | some L =>
   rw [hs] at h; have := secsI_len _ _ L (Nat.le_refl _) hs; simp only [Option.map_some, Option.some.injEq] at h; rw [← h]; have e1 : (⟨(wordI (wordI l).2).1.toArray⟩ : ByteArray).size = (wordI (wordI l).2).1.length := mkB_size _; refine ⟨?_, ?_, ?_⟩
   · show (⟨(wordI (wordI l).2).1.toArray⟩ : ByteArray).size ≤ _; rw [e1]; omega
   · show (⟨#[]⟩ : ByteArray).size ≤ _; omega
   · show L.length ≤ _; omega
 ·
  cases hn : numI (wordI l).2 with
  | none => rw [hn] at h; cases h
  | some x =>
   obtain ⟨v, r⟩ := x; rw [hn] at h; have hr := numI_le hn; have a2 : (wordI r).1.length ≤ r.length := cut_fst_len _ [32]; have a3 := cut_fst_len r [58, 32]; have a4 := cut_snd_len r [58, 32]; have e1 : (⟨(wordI r).1.toArray⟩ : ByteArray).size = (wordI r).1.length := mkB_size _; have e2 : (⟨(Lib.cut r [58, 32]).1.toArray⟩ : ByteArray).size = (Lib.cut r [58, 32]).1.length := mkB_size _; have e3 : (⟨(Lib.cut r [58, 32]).2.1.toArray⟩ : ByteArray).size = (Lib.cut r [58, 32]).2.1.length := mkB_size _; simp only at h; split at h
   ·
    simp only [Option.some.injEq] at h; rw [← h]; exact ⟨by show (⟨(Lib.cut r [58, 32]).1.toArray⟩ : ByteArray).size ≤ _; rw [e2]; omega, by show (⟨(Lib.cut r [58, 32]).2.1.toArray⟩ : ByteArray).size ≤ _; rw [e3]; omega, Nat.zero_le _⟩
   split at h
   ·
    simp only [Option.some.injEq] at h; rw [← h]; exact ⟨by show (⟨(wordI r).1.toArray⟩ : ByteArray).size ≤ _; rw [e1]; omega, Nat.zero_le _, Nat.zero_le _⟩
   ·
    simp only [Option.some.injEq] at h; rw [← h]; exact ⟨Nat.zero_le _, Nat.zero_le _, Nat.zero_le _⟩
theorem readI_nil : readI [] = none := by decide
set_option maxHeartbeats 2000000 in
theorem clone_any (s : ByteArray) (w : World) (hs : s.size ≤ 1048576) : Calls Tryz.prog 43 #[.string s] w fun e w' => e = .returned (.string s) ∧ Below w.heap.size w w' := by
 go_enter Tryz.func43, Tryz.ntmps43
 go_wp2_with fail
 refine (Tryz.stringslite_Clone s _ (by omega)).mono ?_; rintro e w1 ⟨rfl, hb⟩; have HB : Hid (Below w.heap.size w w1) := hb; clear hb; go_wp2; go_ret; exact ⟨rfl, HB.out⟩
def put7 (W : World) (R : Nat) (z a b c d e f : Value) : World := ((((((W.setCell ⟨R, 0, none⟩ z).setCell ⟨R, 1, none⟩ a).setCell ⟨R, 2, none⟩ b).setCell ⟨R, 3, none⟩ c).setCell ⟨R, 4, none⟩ d).setCell ⟨R, 5, none⟩ e).setCell ⟨R, 6, none⟩ f
theorem put7_fr (W : World) (R : Nat) (z a b c d e f : Value) : Fr (fun x => x = R) W (put7 W R z a b c d e f) := fr2 (fr2 (fr2 (fr2 (fr2 (fr2 (fr2 (Fr.refl _ _)))))))
theorem put7_box {W : World} {R : Nat} {z' a' b' c' d' e' f' : Value} {t : TypeId} (h : W.heap[R]? = some (.cells #[z', a', b', c', d', e', f'] t (0, 0))) (z a b c d e f : Value) : (put7 W R z a b c d e f).heap[R]? = some (.cells #[z, a, b, c, d, e, f] t (0, 0)) := by
 have h1 : (W.setCell ⟨R, 0, none⟩ z).heap[R]? = some (.cells #[z, a', b', c', d', e', f'] t (0, 0)) := (box_set h _).trans rfl; have h2 : ((W.setCell ⟨R, 0, none⟩ z).setCell ⟨R, 1, none⟩ a).heap[R]? = some (.cells #[z, a, b', c', d', e', f'] t (0, 0)) := (box_set h1 _).trans rfl; have h3 := (box_set (i := 2) h2 b).trans (show _ = some (Obj.cells #[z, a, b, c', d', e', f'] t (0, 0)) from rfl); have h4 := (box_set (i := 3) h3 c).trans (show _ = some (Obj.cells #[z, a, b, c, d', e', f'] t (0, 0)) from rfl); have h5 := (box_set (i := 4) h4 d).trans (show _ = some (Obj.cells #[z, a, b, c, d, e', f'] t (0, 0)) from rfl); have h6 := (box_set (i := 5) h5 e).trans (show _ = some (Obj.cells #[z, a, b, c, d, e, f'] t (0, 0)) from rfl); exact (box_set (i := 6) h6 f).trans (show _ = some (Obj.cells #[z, a, b, c, d, e, f] t (0, 0)) from rfl)
set_option maxRecDepth 20000 in
set_option maxHeartbeats 8000000 in
theorem implHear_any (s : ByteArray) (w : World) (hs : s.size ≤ 1048576) (hg : Gl w) (hw : FWords w) (hT : Lib.TabIs Tryz.prog w "internal/strconv.uint64pow10" .u64 Lib.pow10Tab) (hG : 15 ≤ w.heap.size) :
  Calls Tryz.prog 15 #[.string s] w fun e w' => RetH e w' w.heap.size (bl s) ∧ Below w.heap.size w w' := by
 have HG : Hid (Gl w ∧ FWords w ∧ Lib.TabIs Tryz.prog w "internal/strconv.uint64pow10" .u64 Lib.pow10Tab) := ⟨hg, hw, hT⟩; clear hg hw hT; have B1 := below1 w (.cells #[.bool false, .int .i64 0, .int .i64 0, .string ⟨#[]⟩, .int .i64 0, .slice none 0 0, .string ⟨#[]⟩] 46); have x1 : (w.alloc (.cells #[.bool false, .int .i64 0, .int .i64 0, .string ⟨#[]⟩, .int .i64 0, .slice none 0 0, .string ⟨#[]⟩] 46)).heap[w.heap.size]? = some (.cells #[.bool false, .int .i64 0, .int .i64 0, .string ⟨#[]⟩, .int .i64 0, .slice none 0 0, .string ⟨#[]⟩] 46 (0, 0)) := Deep.blk_alloc_new _ _; have s1 : (w.alloc (.cells #[.bool false, .int .i64 0, .int .i64 0, .string ⟨#[]⟩, .int .i64 0, .slice none 0 0, .string ⟨#[]⟩] 46)).heap.size = w.heap.size + 1 := by simp
 have HB1 : Hid (Below w.heap.size w (w.alloc (.cells #[.bool false, .int .i64 0, .int .i64 0, .string ⟨#[]⟩, .int .i64 0, .slice none 0 0, .string ⟨#[]⟩] 46)) ∧ (w.alloc (.cells #[.bool false, .int .i64 0, .int .i64 0, .string ⟨#[]⟩, .int .i64 0, .slice none 0 0, .string ⟨#[]⟩] 46)).heap[w.heap.size]? = some (.cells #[.bool false, .int .i64 0, .int .i64 0, .string ⟨#[]⟩, .int .i64 0, .slice none 0 0, .string ⟨#[]⟩] 46 (0, 0)) ∧ (w.alloc (.cells #[.bool false, .int .i64 0, .int .i64 0, .string ⟨#[]⟩, .int .i64 0, .slice none 0 0, .string ⟨#[]⟩] 46)).heap.size = w.heap.size + 1) := ⟨B1, x1, s1⟩; clear B1 x1 s1
 go_enter Tryz.func15, Tryz.ntmps15
 go_wp2_with fail
 refine (clone_any s _ hs).mono ?_; rintro e w2 ⟨rfl, hb2⟩; have HB2 : Hid (Below w.heap.size w w2 ∧ w2.heap[w.heap.size]? = some (.cells #[.bool false, .int .i64 0, .int .i64 0, .string ⟨#[]⟩, .int .i64 0, .slice none 0 0, .string ⟨#[]⟩] 46 (0, 0)) ∧ w.heap.size + 1 ≤ w2.heap.size) := ⟨HB1.out.1.trans (hb2.mono (by have := HB1.out.2.2; omega)), (hb2.block _ (by have := HB1.out.2.2; omega)).trans HB1.out.2.1, by have := hb2.size; have := HB1.out.2.2; omega⟩; have FB : Fr (fun _ => False) w w2 := Fr.of_below HB2.out.1; have HR : Hid (Calls Tryz.prog 42 #[.string s] w2 fun e w' => RetRE e w' w2.heap.size (readI (bl s)) ∧ Below w2.heap.size w2 w') := readEvent_any s w2 hs (HG.out.1.fr FB (fun _ e => e.elim)) (HG.out.2.1.fr FB (fun _ e => e.elim)) (by have := HB2.out.2.2; omega); clear hb2 FB HB1
 go_wp2_with fail
 refine HR.out.mono ?_; rintro e w3 ⟨hr, hb3⟩; have z3 : w.heap.size < w3.heap.size := by have := HB2.out.2.2; have := hb3.size; omega
 have HB3 : Hid (Below w.heap.size w w3 ∧ w3.heap[w.heap.size]? = some (.cells #[.bool false, .int .i64 0, .int .i64 0, .string ⟨#[]⟩, .int .i64 0, .slice none 0 0, .string ⟨#[]⟩] 46 (0, 0))) := ⟨HB2.out.1.trans (hb3.mono (by have := HB2.out.2.2; omega)), (hb3.block _ (by have := HB2.out.2.2; omega)).trans HB2.out.2.1⟩; have z2 := HB2.out.2.2; clear hb3 HB2 HR; rcases hr with ⟨v, E, hE, rfl, sv, rfl, hown⟩ | ⟨hE, rfl⟩
 ·
  obtain ⟨g, ad, c, rfl, -⟩ := ownL_of hown; have HE : Hid (readI (bl s) = some E ∧ w3.ownsRow w2.heap.size 3 1 (.slice ad E.secs.length c) E.secs.length (E.secs.map (Value.int .i64))) := ⟨hE, hown⟩; clear hE hown; obtain ⟨b1, b2, b3⟩ := readI_bound HE.out.1; rw [bl_size] at b1 b2 b3; have B4 := below1 w3 (.cells #[.int .i64 E.op, .int .i64 E.of_, .string E.holder, .int .i64 E.kind, .slice ad E.secs.length c, .string E.text] 32); have EA : EvAt (w3.alloc (.cells #[.int .i64 E.op, .int .i64 E.of_, .string E.holder, .int .i64 E.kind, .slice ad E.secs.length c, .string E.text] 32)) (.agg #[.int .i64 E.op, .int .i64 E.of_, .string E.holder, .int .i64 E.kind, .slice ad E.secs.length c, .string E.text]) E := (evW_at ⟨_, rfl, HE.out.2⟩).below B4; have B5 : Below w.heap.size w (w3.alloc (.cells #[.int .i64 E.op, .int .i64 E.of_, .string E.holder, .int .i64 E.kind, .slice ad E.secs.length c, .string E.text] 32)) := HB3.out.1.trans (B4.mono (by omega)); have HL : Hid (Calls Tryz.prog 13 #[.agg #[.int .i64 E.op, .int .i64 E.of_, .string E.holder, .int .i64 E.kind, .slice ad E.secs.length c, .string E.text]] (w3.alloc (.cells #[.int .i64 E.op, .int .i64 E.of_, .string E.holder, .int .i64 E.kind, .slice ad E.secs.length c, .string E.text] 32)) fun e w' => RetLn e E ∧ Below (w3.alloc (.cells #[.int .i64 E.op, .int .i64 E.of_, .string E.holder, .int .i64 E.kind, .slice ad E.secs.length c, .string E.text] 32)).heap.size (w3.alloc (.cells #[.int .i64 E.op, .int .i64 E.of_, .string E.holder, .int .i64 E.kind, .slice ad E.secs.length c, .string E.text] 32)) w') := implLine_any _ E _ (by omega) (by omega) (by omega) (tab_below HG.out.2.2 B5) (HG.out.2.1.below B5) EA; clear B4 EA B5 b1 b2 b3
  go_wp2_with fail
  refine HL.out.mono ?_; rintro e w5 ⟨⟨t, rfl, ht⟩, hb5⟩; have s4 : (w3.alloc (.cells #[.int .i64 E.op, .int .i64 E.of_, .string E.holder, .int .i64 E.kind, .slice ad E.secs.length c, .string E.text] 32)).heap.size = w3.heap.size + 1 := by simp
  have x5 := (hb5.block w.heap.size (by omega)).trans ((Deep.blk_alloc_lt _ _ _ z3).trans HB3.out.2); have y5 := (hb5.block w3.heap.size (by omega)).trans (Deep.blk_alloc_new _ _); have o5 := ownsRow_below (ownsRow_below HE.out.2 (below1 w3 (.cells #[.int .i64 E.op, .int .i64 E.of_, .string E.holder, .int .i64 E.kind, .slice ad E.secs.length c, .string E.text] 32))) hb5; have HB5 : Hid (Below w.heap.size w w5 ∧ w5.ownsRow w2.heap.size 3 1 (.slice ad E.secs.length c) E.secs.length (E.secs.map (Value.int .i64))) := ⟨HB3.out.1.trans (((below1 w3 _).trans (hb5.mono (by omega))).mono (by omega)), o5⟩; have z5 : w3.heap.size + 1 ≤ w5.heap.size := by have := hb5.size; omega
  have HX5 : Hid (w5.heap[w.heap.size]? = some (.cells #[.bool false, .int .i64 0, .int .i64 0, .string ⟨#[]⟩, .int .i64 0, .slice none 0 0, .string ⟨#[]⟩] 46 (0, 0))) := x5; obtain ⟨d0, d1, d2, d3, d4, d5⟩ := ev_cells y5; have hc : ∀ i u, (#[Value.bool false, Value.int .i64 0, Value.int .i64 0, Value.string ⟨#[]⟩, Value.int .i64 0, Value.slice none 0 0, Value.string ⟨#[]⟩] : Array Value)[i]? = some u → w5.cell? ⟨w.heap.size, i, none⟩ = some u := fun i u h => cell_of_box x5 h; have e0 := hc 0 _ rfl; have e1 := hc 1 _ rfl; have e2 := hc 2 _ rfl; have e3 := hc 3 _ rfl; have e4 := hc 4 _ rfl; have e5 := hc 5 _ rfl; have e6 := hc 6 _ rfl; have g0 : w5.frozen? ⟨w.heap.size, 0, none⟩ = false := frozen_of_box x5; have g1 : w5.frozen? ⟨w.heap.size, 1, none⟩ = false := frozen_of_box x5; have g2 : w5.frozen? ⟨w.heap.size, 2, none⟩ = false := frozen_of_box x5; have g3 : w5.frozen? ⟨w.heap.size, 3, none⟩ = false := frozen_of_box x5; have g4 : w5.frozen? ⟨w.heap.size, 4, none⟩ = false := frozen_of_box x5; have g5 : w5.frozen? ⟨w.heap.size, 5, none⟩ = false := frozen_of_box x5; have g6 : w5.frozen? ⟨w.heap.size, 6, none⟩ = false := frozen_of_box x5; clear hc hb5 x5 y5 o5 HL
  by_cases hts : t = s
  ·
   have te : (t.toList == s.toList) = true := by rw [hts]; exact beq_self_eq_true _
   have HOK : Hid (LineOk E ∧ lineT E = bl s) := by
    rcases ht with ⟨h1, h2⟩ | ⟨h1, h2⟩
    · exact ⟨h1, by rw [← h2, hts]⟩
    ·
     have := HE.out.1; rw [← hts, h2, readI_nil] at this; cases this
   obtain ⟨Z, hZ⟩ : ∃ Z, Z = put7 w5 w.heap.size (.bool true) (.int .i64 E.op) (.int .i64 E.of_) (.string E.holder) (.int .i64 E.kind) (.slice ad E.secs.length c) (.string E.text) := ⟨_, rfl⟩; have hZ' : (((((((w5.setCell ⟨w.heap.size, 0, none⟩ (.bool true)).setCell ⟨w.heap.size, 1, none⟩ (.int .i64 E.op)).setCell ⟨w.heap.size, 2, none⟩ (.int .i64 E.of_)).setCell ⟨w.heap.size, 3, none⟩ (.string E.holder)).setCell ⟨w.heap.size, 4, none⟩ (.int .i64 E.kind)).setCell ⟨w.heap.size, 5, none⟩ (.slice ad E.secs.length c)).setCell ⟨w.heap.size, 6, none⟩ (.string E.text)) = Z := hZ.symm
   have HZ : Hid (Z.heap[w.heap.size]? = some (.cells #[.bool true, .int .i64 E.op, .int .i64 E.of_, .string E.holder, .int .i64 E.kind, .slice ad E.secs.length c, .string E.text] 46 (0, 0)) ∧ Fr (fun x => x = w.heap.size) w5 Z) := by
    rw [hZ]; exact ⟨put7_box HX5.out _ _ _ _ _ _ _, put7_fr _ _ _ _ _ _ _ _ _⟩
   clear hZ ht hts; go_wp2
   try rw [hZ']
   clear hZ' e0 e1 e2 e3 e4 e5 e6 g0 g1 g2 g3 g4 g5 g6 d0 d1 d2 d3 d4 d5; have hc : ∀ i u, (#[Value.bool true, .int .i64 E.op, .int .i64 E.of_, .string E.holder, .int .i64 E.kind, .slice ad E.secs.length c, .string E.text] : Array Value)[i]? = some u → Z.cell? ⟨w.heap.size, i, none⟩ = some u := fun i u h => cell_of_box HZ.out.1 h; have e0 := hc 0 _ rfl; have e1 := hc 1 _ rfl; have e2 := hc 2 _ rfl; have e3 := hc 3 _ rfl; have e4 := hc 4 _ rfl; have e5 := hc 5 _ rfl; have e6 := hc 6 _ rfl; refine bodyPost_ret (v := .agg #[.bool true, .int .i64 E.op, .int .i64 E.of_, .string E.holder, .int .i64 E.kind, .slice ad E.secs.length c, .string E.text]) (by simp [results, Tryz.results15, go_sem, e0, e1, e2, e3, e4, e5, e6]) rfl ?_; refine ⟨Or.inl ⟨E, ad, c, HOK.out.1, HOK.out.2, rfl, owns_lower (owns_of_block HB5.out.2 (fun g hg => HZ.out.2.block g (owns_lt HB5.out.2 hg).2 (by have := owns_lt HB5.out.2 hg; omega))) (by omega)⟩, HB5.out.1.trans (HZ.out.2.below (B := w.heap.size) (by omega) (fun i e => by omega))⟩
  ·
   have te : (t.toList == s.toList) = false := by
    rw [ByteArray.toList_eq, ByteArray.toList_eq]; exact beq_eq_false_iff_ne.2 (fun e => hts (bl_inj e))
   have HNO : Hid (∀ E, LineOk E → lineT E ≠ bl s) := fun E' h' e' => by
    have h1 := readI_line h'; rw [e', HE.out.1] at h1; cases h1; rcases ht with ⟨h2, h3⟩ | ⟨h2, h3⟩
    · exact hts (bl_inj (h3.trans e'))
    · exact h2 h'
   clear ht hts; obtain ⟨Z, hZ⟩ : ∃ Z, Z = put7 w5 w.heap.size (.bool false) (.int .i64 0) (.int .i64 0) (.string ⟨#[]⟩) (.int .i64 0) (.slice none 0 0) (.string ⟨#[]⟩) := ⟨_, rfl⟩; have hZ' : (((((((w5.setCell ⟨w.heap.size, 0, none⟩ (.bool false)).setCell ⟨w.heap.size, 1, none⟩ (.int .i64 0)).setCell ⟨w.heap.size, 2, none⟩ (.int .i64 0)).setCell ⟨w.heap.size, 3, none⟩ (.string ⟨#[]⟩)).setCell ⟨w.heap.size, 4, none⟩ (.int .i64 0)).setCell ⟨w.heap.size, 5, none⟩ (.slice none 0 0)).setCell ⟨w.heap.size, 6, none⟩ (.string ⟨#[]⟩)) = Z := hZ.symm
   have HZ : Hid (Z.heap[w.heap.size]? = some (.cells #[.bool false, .int .i64 0, .int .i64 0, .string ⟨#[]⟩, .int .i64 0, .slice none 0 0, .string ⟨#[]⟩] 46 (0, 0)) ∧ Fr (fun x => x = w.heap.size) w5 Z) := by
    rw [hZ]; exact ⟨put7_box HX5.out _ _ _ _ _ _ _, put7_fr _ _ _ _ _ _ _ _ _⟩
   clear hZ; go_wp2
   try rw [hZ']
   clear hZ' e0 e1 e2 e3 e4 e5 e6 g0 g1 g2 g3 g4 g5 g6; have hc : ∀ i u, (#[Value.bool false, Value.int .i64 0, Value.int .i64 0, Value.string ⟨#[]⟩, Value.int .i64 0, Value.slice none 0 0, Value.string ⟨#[]⟩] : Array Value)[i]? = some u → Z.cell? ⟨w.heap.size, i, none⟩ = some u := fun i u h => cell_of_box HZ.out.1 h; have e0 := hc 0 _ rfl; have e1 := hc 1 _ rfl; have e2 := hc 2 _ rfl; have e3 := hc 3 _ rfl; have e4 := hc 4 _ rfl; have e5 := hc 5 _ rfl; have e6 := hc 6 _ rfl; refine bodyPost_ret (v := .agg #[.bool false, .int .i64 0, .int .i64 0, .string ⟨#[]⟩, .int .i64 0, .slice none 0 0, .string ⟨#[]⟩]) (by simp [results, Tryz.results15, go_sem, e0, e1, e2, e3, e4, e5, e6]) rfl ?_; exact ⟨Or.inr ⟨HNO.out, rfl⟩, HB5.out.1.trans (HZ.out.2.below (B := w.heap.size) (by omega) (fun i e => by omega))⟩
 ·
  have HNO : Hid (∀ E, LineOk E → lineT E ≠ bl s) := fun E' h' e' => by
   have h1 := readI_line h'; rw [e', hE] at h1; cases h1
  have x3 := HB3.out.2; have hc : ∀ i u, (#[Value.bool false, Value.int .i64 0, Value.int .i64 0, Value.string ⟨#[]⟩, Value.int .i64 0, Value.slice none 0 0, Value.string ⟨#[]⟩] : Array Value)[i]? = some u → w3.cell? ⟨w.heap.size, i, none⟩ = some u := fun i u h => cell_of_box x3 h; have e0 := hc 0 _ rfl; have e1 := hc 1 _ rfl; have e2 := hc 2 _ rfl; have e3 := hc 3 _ rfl; have e4 := hc 4 _ rfl; have e5 := hc 5 _ rfl; have e6 := hc 6 _ rfl; have g0 : w3.frozen? ⟨w.heap.size, 0, none⟩ = false := frozen_of_box x3; have g1 : w3.frozen? ⟨w.heap.size, 1, none⟩ = false := frozen_of_box x3; have g2 : w3.frozen? ⟨w.heap.size, 2, none⟩ = false := frozen_of_box x3; have g3 : w3.frozen? ⟨w.heap.size, 3, none⟩ = false := frozen_of_box x3; have g4 : w3.frozen? ⟨w.heap.size, 4, none⟩ = false := frozen_of_box x3; have g5 : w3.frozen? ⟨w.heap.size, 5, none⟩ = false := frozen_of_box x3; have g6 : w3.frozen? ⟨w.heap.size, 6, none⟩ = false := frozen_of_box x3; obtain ⟨Z, hZ⟩ : ∃ Z, Z = (put7 w3 w.heap.size (.bool false) (.int .i64 0) (.int .i64 0) (.string ⟨#[]⟩) (.int .i64 0) (.slice none 0 0) (.string ⟨#[]⟩)).alloc (.cells #[.int .i64 0, .int .i64 0, .string ⟨#[]⟩, .int .i64 0, .slice none 0 0, .string ⟨#[]⟩] 32) := ⟨_, rfl⟩; have hZ' : (((((((w3.setCell ⟨w.heap.size, 0, none⟩ (.bool false)).setCell ⟨w.heap.size, 1, none⟩ (.int .i64 0)).setCell ⟨w.heap.size, 2, none⟩ (.int .i64 0)).setCell ⟨w.heap.size, 3, none⟩ (.string ⟨#[]⟩)).setCell ⟨w.heap.size, 4, none⟩ (.int .i64 0)).setCell ⟨w.heap.size, 5, none⟩ (.slice none 0 0)).setCell ⟨w.heap.size, 6, none⟩ (.string ⟨#[]⟩)).alloc (.cells #[.int .i64 0, .int .i64 0, .string ⟨#[]⟩, .int .i64 0, .slice none 0 0, .string ⟨#[]⟩] 32) = Z := hZ.symm; have f7 := put7_fr w3 w.heap.size (.bool false) (.int .i64 0) (.int .i64 0) (.string ⟨#[]⟩) (.int .i64 0) (.slice none 0 0) (.string ⟨#[]⟩); have b7 := put7_box x3 (.bool false) (.int .i64 0) (.int .i64 0) (.string ⟨#[]⟩) (.int .i64 0) (.slice none 0 0) (.string ⟨#[]⟩)
  have HZ : Hid (Z.heap[w.heap.size]? = some (.cells #[.bool false, .int .i64 0, .int .i64 0, .string ⟨#[]⟩, .int .i64 0, .slice none 0 0, .string ⟨#[]⟩] 46 (0, 0)) ∧ Fr (fun x => x = w.heap.size) w3 Z) := by
   rw [hZ]; exact ⟨(Deep.blk_alloc_lt _ _ _ (Array.getElem?_eq_some_iff.1 b7).1).trans b7, f7.alloc _⟩
  clear hZ f7 b7 hE hc x3; go_wp2
  try rw [hZ']
  clear hZ' e0 e1 e2 e3 e4 e5 e6 g0 g1 g2 g3 g4 g5 g6; have hc : ∀ i u, (#[Value.bool false, Value.int .i64 0, Value.int .i64 0, Value.string ⟨#[]⟩, Value.int .i64 0, Value.slice none 0 0, Value.string ⟨#[]⟩] : Array Value)[i]? = some u → Z.cell? ⟨w.heap.size, i, none⟩ = some u := fun i u h => cell_of_box HZ.out.1 h; have e0 := hc 0 _ rfl; have e1 := hc 1 _ rfl; have e2 := hc 2 _ rfl; have e3 := hc 3 _ rfl; have e4 := hc 4 _ rfl; have e5 := hc 5 _ rfl; have e6 := hc 6 _ rfl; refine bodyPost_ret (v := .agg #[.bool false, .int .i64 0, .int .i64 0, .string ⟨#[]⟩, .int .i64 0, .slice none 0 0, .string ⟨#[]⟩]) (by simp [results, Tryz.results15, go_sem, e0, e1, e2, e3, e4, e5, e6]) rfl ?_; exact ⟨Or.inr ⟨HNO.out, rfl⟩, HB3.out.1.trans (HZ.out.2.below (B := w.heap.size) (by omega) (fun i e => by omega))⟩
end Go.Proofs.YtdlaekjofgbjcaaGreatDoor
